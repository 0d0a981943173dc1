/- What is in a heap in order, and the document's list in the order in which things came. -/
import Derived.Test.YtlicnijhmncoeaaHeapFirst
namespace Go.Proofs.Ytlicnijhmncoeaa
open Go.RowKit
set_option linter.unusedVariables false
set_option linter.unusedSimpArgs false

theorem itemsP_pair (l : List Int) : ∀ c, (itemsP c l).Pairwise fun x y => x.at_ < y.at_ := by
  induction l with
  | nil => intro c; exact List.Pairwise.nil
  | cons x l ih =>
    intro c
    refine List.pairwise_cons.2 ⟨fun y hy => ?_, ih (c + 1)⟩
    have := (itemsP_at l (c + 1) y hy).1
    show c < y.at_
    omega
def RelP (M : List (KeyP Int)) (X : List Int) (came : Nat) : Prop := ∃ I : List (KeyP Int), I.map KeyP.it = X ∧ (I.Pairwise fun x y => x.at_ < y.at_) ∧ (∀ y ∈ I, y.at_ < came) ∧ M.Perm I ∧ SortP tenK M
theorem RelP.nil (came : Nat) : RelP [] [] came := ⟨[], rfl, List.Pairwise.nil, fun y hy => absurd hy List.not_mem_nil, List.Perm.refl _, List.Pairwise.nil⟩
theorem RelP.len {M : List (KeyP Int)} {X : List Int} {came : Nat} (h : RelP M X came) : M.length = X.length := by
  obtain ⟨I, h1, _, _, h4, _⟩ := h
  rw [h4.length_eq, ← h1, List.length_map]
theorem RelP.push {M : List (KeyP Int)} {X : List Int} {came : Nat} (h : RelP M X came) (xs : List Int) : RelP (putP tenK came xs M) (X ++ xs) (came + xs.length) := by
  obtain ⟨I, h1, h2, h3, h4, h5⟩ := h
  refine ⟨I ++ itemsP came xs, by rw [List.map_append, h1, itemsP_it], List.pairwise_append.2 ⟨h2, itemsP_pair xs came, fun x hx y hy => ?_⟩, fun y hy => ?_, (putP_perm tenK xs came M).trans (h4.append_right _), putP_sort tenK xs came M h5 (fun y hy => h3 y (h4.mem_iff.1 hy))⟩
  · have a1 := h3 x hx
    have a2 := (itemsP_at xs came y hy).1
    omega
  · rcases List.mem_append.1 hy with hy | hy
    · have := h3 y hy
      omega
    · exact (itemsP_at xs came y hy).2.1
theorem RelP.pop {m : KeyP Int} {M : List (KeyP Int)} {X : List Int} {came q : Nat} (h : RelP (m :: M) X came) (hf : FirstK X X.length (q : Int)) (hq : q < X.length) : X.getD q 0 = m.it ∧ RelP M (X.take q ++ X.drop (q + 1)) came := by
  obtain ⟨I, rfl, h2, h3, h4, h5⟩ := h
  rw [List.length_map] at hq hf
  have hK : ∀ j (hj : j < I.length), (I.map KeyP.it).getD j 0 = I[j].it := fun j hj => by
    rw [List.getD_eq_getElem?_getD, List.getElem?_map, List.getElem?_eq_getElem hj]
    rfl
  rcases hf with ⟨h0, _⟩ | ⟨q', he, hq', hmin, hfst⟩
  · omega
  obtain rfl : q' = q := by omega
  have hIq : I[q'] = m := by
    obtain ⟨j, hj, hjm⟩ := List.mem_iff_getElem.1 (h4.mem_iff.1 (List.mem_cons_self (a := m) (l := M)))
    rcases List.mem_cons.1 (h4.mem_iff.2 (List.getElem_mem hq)) with h | h
    · exact h
    · have a1 := (List.pairwise_cons.1 h5).1 _ h
      have a2 := hmin j hj
      rw [hK j hj, hK q' hq, hjm] at a2
      rw [ahd_iff] at a1
      rcases Nat.lt_trichotomy j q' with hlt | heq | hgt
      · have a3 := hfst j hlt
        rw [hK j hj, hK q' hq, hjm] at a3
        omega
      · subst heq
        exact hjm
      · have a4 := (List.pairwise_iff_getElem.1 h2) q' j hq hj hgt
        rw [hjm] at a4
        omega
  have hsp : I.take q' ++ m :: I.drop (q' + 1) = I := by
    rw [← hIq, ← List.drop_eq_getElem_cons hq, List.take_append_drop]
  have hsub : (I.take q' ++ I.drop (q' + 1)).Sublist I := by
    have : (I.take q' ++ I.drop (q' + 1)).Sublist (I.take q' ++ m :: I.drop (q' + 1)) := (List.Sublist.refl _).append (List.sublist_cons_self _ _)
    rwa [hsp] at this
  refine ⟨by rw [hK q' hq, hIq], I.take q' ++ I.drop (q' + 1), by rw [List.map_append, List.map_take, List.map_drop], h2.sublist hsub, fun y hy => h3 y (hsub.subset hy), ?_, (List.pairwise_cons.1 h5).2⟩
  have hp : (m :: M).Perm (m :: (I.take q' ++ I.drop (q' + 1))) := h4.trans (by
    have h7 : (I.take q' ++ m :: I.drop (q' + 1)).Perm (m :: (I.take q' ++ I.drop (q' + 1))) := List.perm_middle
    rwa [hsp] at h7)
  exact List.Perm.cons_inv hp
end Go.Proofs.Ytlicnijhmncoeaa
