/- What is in a heap, in order: what is put in finds its place, the first one is what is taken. No walk, no program. -/
import Derived.Test.YtlicnijhmncoeaaHeapMath
namespace Go.Proofs.Ytlicnijhmncoeaa
set_option linter.unusedVariables false
set_option linter.unusedSimpArgs false

/-- the items that the things become, from the came-th on -/
def itemsP {α : Type} (came : Nat) : List α → List (KeyP α)
  | [] => []
  | x :: l => ⟨x, came⟩ :: itemsP (came + 1) l
theorem itemsP_snoc {α : Type} (l : List α) (x : α) : ∀ c, itemsP c (l ++ [x]) = itemsP c l ++ [⟨x, c + l.length⟩] := by
  induction l with
  | nil => intro c; rfl
  | cons y l ih =>
    intro c
    simp only [List.cons_append, itemsP, ih, List.length_cons]
    rw [show c + 1 + l.length = c + (l.length + 1) by omega]
theorem itemsP_len {α : Type} (l : List α) : ∀ c, (itemsP c l).length = l.length := by
  induction l with
  | nil => intro c; rfl
  | cons y l ih => intro c; simp only [itemsP, List.length_cons, ih]
theorem itemsP_it {α : Type} (l : List α) : ∀ c, (itemsP c l).map KeyP.it = l := by
  induction l with
  | nil => intro c; rfl
  | cons y l ih => intro c; simp only [itemsP, List.map_cons, ih]
theorem itemsP_at {α : Type} (l : List α) : ∀ c, ∀ x ∈ itemsP c l, c ≤ x.at_ ∧ x.at_ < c + l.length ∧ l[x.at_ - c]? = some x.it := by
  induction l with
  | nil => intro c x hx; exact absurd hx List.not_mem_nil
  | cons y l ih =>
    intro c x hx
    simp only [itemsP, List.mem_cons] at hx
    rcases hx with rfl | hx
    · refine ⟨Nat.le_refl _, by simp only [List.length_cons]; omega, ?_⟩
      rw [Nat.sub_self]
      rfl
    · obtain ⟨h1, h2, h3⟩ := ih (c + 1) x hx
      refine ⟨by omega, by simp only [List.length_cons]; omega, ?_⟩
      rw [show x.at_ - c = (x.at_ - (c + 1)) + 1 by omega, List.getElem?_cons_succ]
      exact h3
section
variable {α : Type} (K : α → Int)
def insP (x : KeyP α) : List (KeyP α) → List (KeyP α)
  | [] => [x]
  | y :: l => if ahdP K x y = true then x :: y :: l else y :: insP x l
def putP (came : Nat) : List α → List (KeyP α) → List (KeyP α)
  | [], M => M
  | x :: l, M => putP (came + 1) l (insP K ⟨x, came⟩ M)
def SortP (M : List (KeyP α)) : Prop := M.Pairwise fun x y => ahdP K x y = true
theorem ahd_trans {x y z : KeyP α} (h1 : ahdP K x y = true) (h2 : ahdP K y z = true) : ahdP K x z = true := by
  rw [ahd_iff] at *
  omega
theorem insP_perm (x : KeyP α) (M : List (KeyP α)) : (insP K x M).Perm (x :: M) := by
  induction M with
  | nil => exact List.Perm.refl _
  | cons y l ih =>
    unfold insP
    by_cases h : ahdP K x y = true
    · rw [if_pos h]
    · rw [if_neg h]
      exact (ih.cons y).trans (List.Perm.swap x y l)
theorem insP_len (x : KeyP α) (M : List (KeyP α)) : (insP K x M).length = M.length + 1 := (insP_perm K x M).length_eq
theorem insP_sort (x : KeyP α) (M : List (KeyP α)) (hs : SortP K M) (ho : ∀ y ∈ M, y.at_ < x.at_) : SortP K (insP K x M) := by
  induction M with
  | nil => exact List.pairwise_singleton _ _
  | cons y l ih =>
    have hs' := List.pairwise_cons.1 hs
    unfold insP
    by_cases h : ahdP K x y = true
    · rw [if_pos h]
      refine List.pairwise_cons.2 ⟨fun z hz => ?_, hs⟩
      rcases List.mem_cons.1 hz with rfl | hz
      · exact h
      · exact ahd_trans K h (hs'.1 z hz)
    · rw [if_neg h]
      have hy : ahdP K y x = true := by
        have h1 : ahdP K x y = false := by simpa using h
        have h2 := ho y List.mem_cons_self
        rw [ahd_not] at h1
        rw [ahd_iff]
        omega
      refine List.pairwise_cons.2 ⟨fun z hz => ?_, ih hs'.2 (fun z hz => ho z (List.mem_cons_of_mem _ hz))⟩
      rcases List.mem_cons.1 ((insP_perm K x l).mem_iff.1 hz) with rfl | hz
      · exact hy
      · exact hs'.1 z hz
theorem putP_perm (l : List α) : ∀ (c : Nat) (M : List (KeyP α)), (putP K c l M).Perm (M ++ itemsP c l) := by
  induction l with
  | nil => intro c M; simp [putP, itemsP]
  | cons x l ih =>
    intro c M
    refine (ih (c + 1) _).trans ?_
    show (insP K ⟨x, c⟩ M ++ itemsP (c + 1) l).Perm (M ++ (⟨x, c⟩ :: itemsP (c + 1) l))
    refine ((insP_perm K ⟨x, c⟩ M).append_right _).trans ?_
    exact List.perm_middle.symm
theorem putP_len (l : List α) (c : Nat) (M : List (KeyP α)) : (putP K c l M).length = M.length + l.length := by
  rw [(putP_perm K l c M).length_eq, List.length_append, itemsP_len]
theorem putP_sort (l : List α) : ∀ (c : Nat) (M : List (KeyP α)), SortP K M → (∀ y ∈ M, y.at_ < c) → SortP K (putP K c l M) := by
  induction l with
  | nil => intro c M h _; exact h
  | cons x l ih =>
    intro c M h ho
    refine ih (c + 1) _ (insP_sort K _ M h ho) (fun y hy => ?_)
    rcases List.mem_cons.1 ((insP_perm K _ M).mem_iff.1 hy) with rfl | hy
    · exact Nat.lt_succ_self _
    · exact Nat.lt_succ_of_lt (ho y hy)
theorem putP_old (l : List α) (c : Nat) (M : List (KeyP α)) (ho : ∀ y ∈ M, y.at_ < c) : ∀ y ∈ putP K c l M, y.at_ < c + l.length := by
  intro y hy
  rcases List.mem_append.1 ((putP_perm K l c M).mem_iff.1 hy) with hy | hy
  · have := ho y hy
    omega
  · exact (itemsP_at l c y hy).2.1
theorem putP_app (l m : List α) : ∀ (c : Nat) (M : List (KeyP α)), putP K c (l ++ m) M = putP K (c + l.length) m (putP K c l M) := by
  induction l with
  | nil => intro c M; rfl
  | cons x l ih =>
    intro c M
    show putP K (c + 1) (l ++ m) _ = putP K (c + (l.length + 1)) m (putP K (c + 1) l _)
    rw [ih, show c + 1 + l.length = c + (l.length + 1) by omega]
/-- heaps of the same things are alike -/
theorem sort_same {L M : List (KeyP α)} (hl : SortP K L) (hm : SortP K M) (hp : L.Perm M) : L = M := by
  induction L generalizing M with
  | nil => exact (List.nil_perm.1 hp).symm
  | cons x L ih =>
    cases M with
    | nil => exact absurd hp.length_eq (by simp)
    | cons y M =>
      have hxy : x = y := by
        rcases List.mem_cons.1 (hp.mem_iff.1 List.mem_cons_self) with h | h
        · exact h
        · rcases List.mem_cons.1 (hp.mem_iff.2 List.mem_cons_self) with h2 | h2
          · exact h2.symm
          · have a1 := (List.pairwise_cons.1 hm).1 _ h
            have a2 := (List.pairwise_cons.1 hl).1 _ h2
            rw [ahd_iff] at a1 a2
            omega
      subst hxy
      rw [ih (List.pairwise_cons.1 hl).2 (List.pairwise_cons.1 hm).2 (List.Perm.cons_inv hp)]
variable [Inhabited α]
theorem sort_first {L M : List (KeyP α)} {m : KeyP α} (hh : IsHeapP K L) (hp : L.Perm (m :: M)) (hs : SortP K (m :: M)) : getP L 0 = m := by
  have h0 : 0 < L.length := by rw [hp.length_eq]; simp
  have hm : getP L 0 ∈ m :: M := hp.mem_iff.1 (by rw [getP_at h0]; exact List.getElem_mem _)
  rcases List.mem_cons.1 hm with h | h
  · exact h
  · have h1 := (List.pairwise_cons.1 hs).1 _ h
    have h2 := heap_min K hh m (hp.mem_iff.2 List.mem_cons_self)
    rw [h1] at h2
    cases h2
theorem sort_rest {L L' M : List (KeyP α)} {m : KeyP α} (hh : IsHeapP K L) (hp : L.Perm (m :: M)) (hs : SortP K (m :: M)) (h : (getP L 0 :: L').Perm L) : L'.Perm M := by
  have h1 := h.trans hp
  rw [sort_first K hh hp hs] at h1
  exact List.Perm.cons_inv h1
end
end Go.Proofs.Ytlicnijhmncoeaa
