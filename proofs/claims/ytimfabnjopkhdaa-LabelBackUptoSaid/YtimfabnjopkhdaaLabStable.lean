/- The order by name leaves labels of one name as they stood. No program. -/
import Derived.Test.YtimfabnjopkhdaaLabOf
namespace Go.Proofs.Ytimfabnjopkhdaa
open Go.RowKit Go.Sort
set_option linter.unusedVariables false

theorem swp_parts (pre post : List PairB) (x y : PairB) : (swp (pre ++ x :: y :: post).toArray (pre.length + 1) pre.length).toList = pre ++ y :: x :: post := by
  unfold swp
  have hx : (pre ++ x :: y :: post).toArray[pre.length]! = x := by simp
  have hy : (pre ++ x :: y :: post).toArray[pre.length + 1]! = y := by simp
  rw [hx, hy]
  simp [List.set_append]
theorem list_split (l : List PairB) (j : Nat) (h : j + 1 < l.length) : ∃ pre x y post, l = pre ++ x :: y :: post ∧ pre.length = j :=
  ⟨l.take j, l[j], l[j + 1], l.drop (j + 2), by
    rw [← List.drop_eq_getElem_cons (by omega), ← List.drop_eq_getElem_cons (by omega), List.take_append_drop], by rw [List.length_take]; omega⟩
theorem filt_swp (q : PairB → Bool) (d : Array PairB) (j : Nat) (hsz : j + 1 < d.size) (hne : (q d[j + 1]! && q d[j]!) = false) : (swp d (j + 1) j).toList.filter q = d.toList.filter q := by
  obtain ⟨l⟩ := d
  obtain ⟨pre, x, y, post, rfl, rfl⟩ := list_split l j (by simpa using hsz)
  rw [swp_parts]
  have hx : (pre ++ x :: y :: post).toArray[pre.length]! = x := by simp
  have hy : (pre ++ x :: y :: post).toArray[pre.length + 1]! = y := by simp
  have hne2 : (q y && q x) = false := by
    have h := hne
    rw [show (Array.mk (pre ++ x :: y :: post)) = (pre ++ x :: y :: post).toArray from rfl, hx, hy] at h
    exact h
  rw [List.filter_append, List.filter_append]
  congr 1
  cases hqy : q y <;> cases hqx : q x <;> simp [hqy, hqx] at hne2 ⊢
theorem insInner_size (a : Nat) : ∀ (j : Nat) (d : Array PairB), (insInner nameLt a j d).size = d.size
  | 0, d => rfl
  | j + 1, d => by
    rw [insInner]
    split
    · rw [insInner_size a j, swp_size]
    · rfl
theorem insInner_filt (q : PairB → Bool) (H : ∀ x y, nameLt x y = true → (q x && q y) = false) (a : Nat) : ∀ (j : Nat) (d : Array PairB), j < d.size → (insInner nameLt a j d).toList.filter q = d.toList.filter q
  | 0, d, _ => rfl
  | j + 1, d, h => by
    rw [insInner]
    split
    · rename_i hc
      have hlt : nameLt d[j + 1]! d[j]! = true := by
        simp only [Bool.and_eq_true] at hc
        exact hc.2
      rw [insInner_filt q H a j _ (by rw [swp_size]; omega), filt_swp q d j h (H _ _ hlt)]
    · rfl
theorem insOuter_filt (q : PairB → Bool) (H : ∀ x y, nameLt x y = true → (q x && q y) = false) (a b : Nat) : ∀ (n i : Nat) (d : Array PairB), n = b - i → b ≤ d.size → (insOuter nameLt a b i d).toList.filter q = d.toList.filter q := by
  intro n
  induction n with
  | zero =>
    intro i d h1 h2
    rw [insOuter, if_neg (by omega)]
  | succ n ih =>
    intro i d h1 h2
    rw [insOuter, if_pos (by omega), ih _ _ (by omega) (by rw [insInner_size]; exact h2), insInner_filt q H a i d (by omega)]
theorem nameLt_ne (nm : ByteArray) (x y : PairB) (h : nameLt x y = true) : (decide (x.1 = nm) && decide (y.1 = nm)) = false := by
  have h1 : txtC x.1 y.1 < 0 := of_decide_eq_true h
  by_cases hx : x.1 = nm
  · by_cases hy : y.1 = nm
    · rw [hx, hy, txtC_ord.refl] at h1
      exact absurd h1 (by decide)
    · rw [decide_eq_false hy, Bool.and_false]
  · rw [decide_eq_false hx, Bool.false_and]
/-- of one name: as they stood -/
theorem sortL_stable (ps : List PairB) (nm : ByteArray) : (sortL ps).filter (fun p => decide (p.1 = nm)) = ps.filter (fun p => decide (p.1 = nm)) := by
  unfold sortL insertionSort
  rw [insOuter_filt (fun p => decide (p.1 = nm)) (nameLt_ne nm) 0 ps.length _ _ _ rfl (by simp)]
end Go.Proofs.Ytimfabnjopkhdaa
