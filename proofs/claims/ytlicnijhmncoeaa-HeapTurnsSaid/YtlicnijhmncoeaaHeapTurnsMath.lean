/- What is popped and pushed again comes back behind those alike: lists alone. No walk, no program. -/
import Derived.Test.YtlicnijhmncoeaaHeapOrd
namespace Go.Proofs.Ytlicnijhmncoeaa
set_option linter.unusedVariables false
set_option linter.unusedSimpArgs false

section
variable {α : Type} (K : α → Int)
def insK (x : α) : List α → List α
  | [] => [x]
  | y :: l => if K x < K y then x :: y :: l else y :: insK x l
def putK : List α → List α → List α
  | [], M => M
  | x :: l, M => putK l (insK K x M)
theorem insP_map (x : KeyP α) (M : List (KeyP α)) (ho : ∀ y ∈ M, y.at_ < x.at_) : (insP K x M).map KeyP.it = insK K x.it (M.map KeyP.it) := by
  induction M with
  | nil => rfl
  | cons y l ih =>
    have h1 := ho y List.mem_cons_self
    have h2 : ahdP K x y = true ↔ K x.it < K y.it := by
      rw [ahd_iff]
      omega
    simp only [insP, List.map_cons, insK]
    by_cases h : K x.it < K y.it
    · rw [if_pos (h2.2 h), if_pos h]
      rfl
    · rw [if_neg (fun e => h (h2.1 e)), if_neg h, List.map_cons, ih (fun z hz => ho z (List.mem_cons_of_mem _ hz))]
theorem putP_map (l : List α) : ∀ (c : Nat) (M : List (KeyP α)), (∀ y ∈ M, y.at_ < c) → (putP K c l M).map KeyP.it = putK K l (M.map KeyP.it) := by
  induction l with
  | nil => intro c M _; rfl
  | cons x l ih =>
    intro c M ho
    show (putP K (c + 1) l (insP K ⟨x, c⟩ M)).map KeyP.it = putK K l (insK K x (M.map KeyP.it))
    rw [ih (c + 1) _ (fun y hy => ?_), insP_map K ⟨x, c⟩ M ho]
    rcases List.mem_cons.1 ((insP_perm K _ M).mem_iff.1 hy) with rfl | hy
    · exact Nat.lt_succ_self _
    · exact Nat.lt_succ_of_lt (ho y hy)
theorem insK_mem (x y : α) (M : List α) : y ∈ insK K x M ↔ y = x ∨ y ∈ M := by
  induction M with
  | nil => simp [insK]
  | cons z l ih =>
    unfold insK
    by_cases h : K x < K z
    · rw [if_pos h, List.mem_cons]
    · rw [if_neg h, List.mem_cons, ih, List.mem_cons]
      constructor
      · rintro (h | h | h)
        · exact .inr (.inl h)
        · exact .inl h
        · exact .inr (.inr h)
      · rintro (h | h | h)
        · exact .inr (.inl h)
        · exact .inl h
        · exact .inr (.inr h)
theorem insK_more (x : α) (F G : List α) (hF : ∀ y ∈ F, K y ≤ K x) : insK K x (F ++ G) = F ++ insK K x G := by
  induction F with
  | nil => rfl
  | cons y F ih =>
    have h := hF y List.mem_cons_self
    have ih' := ih (fun z hz => hF z (List.mem_cons_of_mem _ hz))
    have e : insK K x (y :: (F ++ G)) = if K x < K y then x :: y :: (F ++ G) else y :: insK K x (F ++ G) := rfl
    rw [List.cons_append, e, if_neg (by omega), ih']
    rfl
theorem insK_less (x : α) (G : List α) (hG : ∀ y ∈ G, K x < K y) : insK K x G = x :: G := by
  cases G with
  | nil => rfl
  | cons y G => exact if_pos (hG y List.mem_cons_self)
theorem insK_same (x : α) (F G : List α) (hF : ∀ y ∈ F, K y ≤ K x) (hG : ∀ y ∈ G, K x < K y) : insK K x (F ++ G) = F ++ x :: G := by
  rw [insK_more K x F G hF, insK_less K x G hG]
theorem putK_split (a : Int) (l : List α) : ∀ F G : List α, (∀ x ∈ l, a ≤ K x) → (∀ y ∈ F, K y = a) → (∀ y ∈ G, a < K y) → ∃ G' : List α, (∀ y ∈ G', a < K y) ∧ putK K l (F ++ G) = (F ++ l.filter fun x => decide (K x = a)) ++ G' := by
  induction l with
  | nil =>
    intro F G _ hF hG
    exact ⟨G, hG, by simp [putK]⟩
  | cons x l ih =>
    intro F G hl hF hG
    have hx := hl x List.mem_cons_self
    have hl' : ∀ y ∈ l, a ≤ K y := fun y hy => hl y (List.mem_cons_of_mem _ hy)
    by_cases h : K x = a
    · obtain ⟨G', h1, h2⟩ := ih (F ++ [x]) G hl' (fun y hy => by
        rcases List.mem_append.1 hy with hy | hy
        · exact hF y hy
        · rw [List.mem_singleton.1 hy]; exact h) hG
      refine ⟨G', h1, ?_⟩
      show putK K l (insK K x (F ++ G)) = _
      rw [insK_same K x F G (fun y hy => by rw [hF y hy]; omega) (fun y hy => by rw [h]; exact hG y hy), List.filter_cons, if_pos (by simpa using h), show F ++ x :: G = (F ++ [x]) ++ G by simp, h2]
      simp
    · obtain ⟨G', h1, h2⟩ := ih F (insK K x G) hl' hF (fun y hy => by
        rcases (insK_mem K x y G).1 hy with rfl | hy
        · omega
        · exact hG y hy)
      refine ⟨G', h1, ?_⟩
      show putK K l (insK K x (F ++ G)) = _
      rw [insK_more K x F G (fun y hy => by rw [hF y hy]; exact hx), List.filter_cons, if_neg (by simpa using h), h2]
def rotF (F : List α) (j : Nat) : List α := F.drop j ++ F.take j
theorem rot_zero (F : List α) : rotF F 0 = F := by simp [rotF]
theorem rot_head (F : List α) (j : Nat) (hj : j < F.length) : rotF F j = F[j] :: (F.drop (j + 1) ++ F.take j) := by
  unfold rotF
  rw [List.drop_eq_getElem_cons hj]
  rfl
theorem rot_next (F : List α) (j : Nat) (hj : j < F.length) : F.drop (j + 1) ++ F.take j ++ [F[j]] = rotF F ((j + 1) % F.length) := by
  rw [List.append_assoc, ← List.take_succ_eq_append_getElem hj]
  rcases Nat.lt_or_ge (j + 1) F.length with h | h
  · rw [Nat.mod_eq_of_lt h]
    rfl
  · have e : j + 1 = F.length := by omega
    rw [e, Nat.mod_self, rot_zero, List.drop_length, List.take_length]
    rfl
theorem rot_mem (F : List α) (j : Nat) (y : α) (hy : y ∈ F.drop (j + 1) ++ F.take j) : y ∈ F := by
  rcases List.mem_append.1 hy with h | h
  · exact List.mem_of_mem_drop h
  · exact List.mem_of_mem_take h
/-- one round: the first one goes behind those alike -/
theorem rot_round (a : Int) (F G : List α) (j : Nat) (hj : j < F.length) (hF : ∀ y ∈ F, K y = a) (hG : ∀ y ∈ G, a < K y) : insK K F[j] ((F.drop (j + 1) ++ F.take j) ++ G) = rotF F ((j + 1) % F.length) ++ G := by
  have hx := hF F[j] (List.getElem_mem hj)
  rw [insK_same K _ _ _ (fun y hy => by rw [hF y (rot_mem F j y hy)]; omega) (fun y hy => by rw [hx]; exact hG y hy), ← rot_next F j hj]
  simp only [List.append_assoc, List.singleton_append]
/-- the least key that there is -/
def leastL (l : List α) : Int := l.foldl (fun a x => if a ≤ K x then a else K x) 255
theorem leastL_snoc (l : List α) (x : α) : leastL K (l ++ [x]) = if leastL K l ≤ K x then leastL K l else K x := by
  unfold leastL
  rw [List.foldl_append]
  rfl
theorem least_fold (l : List α) : ∀ a : Int, (l.foldl (fun a x => if a ≤ K x then a else K x) a ≤ a) ∧ (∀ x ∈ l, l.foldl (fun a x => if a ≤ K x then a else K x) a ≤ K x) ∧ (l.foldl (fun a x => if a ≤ K x then a else K x) a = a ∨ ∃ x ∈ l, K x = l.foldl (fun a x => if a ≤ K x then a else K x) a) := by
  induction l with
  | nil => intro a; exact ⟨Int.le_refl _, fun x hx => absurd hx List.not_mem_nil, .inl rfl⟩
  | cons y l ih =>
    intro a
    obtain ⟨h1, h2, h3⟩ := ih (if a ≤ K y then a else K y)
    simp only [List.foldl_cons]
    obtain ⟨r, hr⟩ : ∃ r, l.foldl (fun a x => if a ≤ K x then a else K x) (if a ≤ K y then a else K y) = r := ⟨_, rfl⟩
    rw [hr] at h1 h2 h3 ⊢
    by_cases h : a ≤ K y
    · rw [if_pos h] at h1 h3
      refine ⟨h1, fun x hx => ?_, ?_⟩
      · rcases List.mem_cons.1 hx with rfl | hx
        · omega
        · exact h2 x hx
      · rcases h3 with h3 | ⟨x, hx, h3⟩
        · exact .inl h3
        · exact .inr ⟨x, List.mem_cons_of_mem _ hx, h3⟩
    · rw [if_neg h] at h1 h3
      refine ⟨by omega, fun x hx => ?_, ?_⟩
      · rcases List.mem_cons.1 hx with rfl | hx
        · exact h1
        · exact h2 x hx
      · rcases h3 with h3 | ⟨x, hx, h3⟩
        · exact .inr ⟨y, List.mem_cons_self, h3.symm⟩
        · exact .inr ⟨x, List.mem_cons_of_mem _ hx, h3⟩
theorem least_le (l : List α) : ∀ x ∈ l, leastL K l ≤ K x := (least_fold K l 255).2.1
theorem least_is (l : List α) (h0 : 0 < l.length) (hK : ∀ x ∈ l, K x < 255) : 0 < (l.filter fun x => decide (K x = leastL K l)).length := by
  rcases (least_fold K l 255).2.2 with h | ⟨x, hx, h⟩
  · have h1 : l[0] ∈ l := List.getElem_mem h0
    have h2 := least_le K l _ h1
    have h3 := hK _ h1
    unfold leastL at h2
    omega
  · exact List.length_pos_of_mem (List.mem_filter.2 ⟨hx, decide_eq_true h⟩)
end
end Go.Proofs.Ytlicnijhmncoeaa
