/- Plain facts on pieces and a time: which pieces may hold it, which one does. Nothing here speaks of the program. -/
import Derived.Test.YtmdpdffifpbbeaaHeads
namespace Go.Proofs.Ytmdpdffifpbbeaa
open Go.RowKit

structure Cut (xs : List (Int × Int)) (asc : Bool) (ts : Int) (d : Nat) : Prop where
  lt : d < xs.length
  may_at : ∀ i, i < xs.length → may asc ts (xs.getD i (0, 0)) = decide (d ≤ i)
  inn : ∀ i, i < xs.length → ((xs.getD i (0, 0)).1 ≤ ts ∧ ts < (xs.getD i (0, 0)).2 ↔ i = d)

theorem filter_cut (p : Int × Int → Bool) (xs : List (Int × Int)) (d : Nat) (h : ∀ i, i < xs.length → p (xs.getD i (0, 0)) = decide (d ≤ i)) : xs.filter p = xs.drop d := by
  induction xs generalizing d with
  | nil => simp
  | cons x l ih =>
    have h0 := h 0 (by simp)
    have hs : ∀ i, i < l.length → p (l.getD i (0, 0)) = decide (d - 1 ≤ i) := fun i hi => by
      have := h (i + 1) (by simpa using hi)
      simp only [List.getD_cons_succ] at this
      rw [this]
      congr 1
      exact propext ⟨fun _ => by omega, fun _ => by omega⟩
    have e := ih (d - 1) hs
    match d with
    | 0 => simp at h0; simp [h0, e]
    | d + 1 => simp at h0; simp [h0, e]

theorem told_len (f t w : Int) (n : Nat) (asc : Bool) : (told f t w n asc).length = n := by
  unfold told; split <;> simp [pieces_len]
theorem pieces_get (f t w : Int) (n i : Nat) (h : i < n) : (pieces f t w n n).getD i (0, 0) = piece f t w n i := by
  simp [pieces, List.getD_eq_getElem?_getD, h]
theorem told_asc (f t w : Int) (n i : Nat) (h : i < n) : (told f t w n true).getD i (0, 0) = piece f t w n i := pieces_get f t w n i h
theorem told_desc (f t w : Int) (n i : Nat) (h : i < n) : (told f t w n false).getD i (0, 0) = piece f t w n (n - 1 - i) := by
  rw [← pieces_get f t w n (n - 1 - i) (by omega)]
  simp only [told, List.getD_eq_getElem?_getD]
  have h2 : n - 1 - i < (pieces f t w n n).length := by rw [pieces_len]; omega
  simp [pieces_len, h, List.getElem?_eq_getElem h2]
theorem mul_le (a b : Nat) (w : Int) (hw : 1 ≤ w) (h : a ≤ b) : (a : Int) * w ≤ b * w := Int.mul_le_mul_of_nonneg_right (by omega) (by omega)
theorem mul_lt (a b : Nat) (w : Int) (hw : 1 ≤ w) (h : a < b) : (a : Int) * w + w ≤ b * w := by
  have := mul_le (a + 1) b w hw h
  rw [← succ_mul']
  simpa using this

/-- pieces of one width: the place of ts among them -/
theorem piece_even (f w : Int) (n k : Nat) (h : k < n) : piece f (f + n * w) w n k = (f + k * w, f + (k * w + w)) := by
  unfold piece
  by_cases hk : k + 1 < n
  · rw [if_pos hk, succ_mul']
  · rw [if_neg hk]
    have : n = k + 1 := by omega
    subst this
    rw [Int.natCast_add, Int.natCast_one, succ_mul']
theorem cut_of (f w ts : Int) (n j : Nat) (asc : Bool) (hw : 1 ≤ w) (hj : j < n) (h1 : f + j * w ≤ ts) (h2 : ts < f + (j * w + w)) :
    Cut (told f (f + n * w) w n asc) asc ts (if asc then j else n - 1 - j) := by
  cases asc
  · refine ⟨by rw [told_len]; simp; omega, fun i hi => ?_, fun i hi => ?_⟩
    · rw [told_len] at hi
      rw [told_desc _ _ _ _ _ hi, piece_even _ _ _ _ (by omega)]
      simp only [may, Bool.false_eq_true, if_false]
      congr 1
      refine propext ⟨fun h => ?_, fun h => ?_⟩
      · rcases Nat.lt_or_ge j (n - 1 - i) with hlt | hge
        · have := mul_lt j (n - 1 - i) w hw hlt
          omega
        · omega
      · have := mul_le (n - 1 - i) j w hw (by omega)
        omega
    · rw [told_len] at hi
      rw [told_desc _ _ _ _ _ hi, piece_even _ _ _ _ (by omega)]
      simp only [Bool.false_eq_true, if_false]
      refine ⟨fun ⟨a, b⟩ => ?_, fun h => ?_⟩
      · rcases Nat.lt_or_ge j (n - 1 - i) with hlt | hge
        · have := mul_lt j (n - 1 - i) w hw hlt; omega
        · rcases Nat.lt_or_ge (n - 1 - i) j with hlt | hge'
          · have := mul_lt (n - 1 - i) j w hw hlt; omega
          · omega
      · have : n - 1 - i = j := by omega
        rw [this]
        exact ⟨h1, h2⟩
  · refine ⟨by rw [told_len]; simpa using hj, fun i hi => ?_, fun i hi => ?_⟩
    · rw [told_len] at hi
      rw [told_asc _ _ _ _ _ hi, piece_even _ _ _ _ hi]
      simp only [may, if_true]
      congr 1
      refine propext ⟨fun h => ?_, fun h => ?_⟩
      · rcases Nat.lt_or_ge i j with hlt | hge
        · have := mul_lt i j w hw hlt
          omega
        · omega
      · have := mul_le j i w hw h
        omega
    · rw [told_len] at hi
      rw [told_asc _ _ _ _ _ hi, piece_even _ _ _ _ hi]
      simp only [if_true]
      refine ⟨fun ⟨a, b⟩ => ?_, fun h => ?_⟩
      · rcases Nat.lt_or_ge i j with hlt | hge
        · have := mul_lt i j w hw hlt; omega
        · rcases Nat.lt_or_ge j i with hlt | hge'
          · have := mul_lt j i w hw hlt; omega
          · omega
      · subst h
        exact ⟨h1, h2⟩
end Go.Proofs.Ytmdpdffifpbbeaa
