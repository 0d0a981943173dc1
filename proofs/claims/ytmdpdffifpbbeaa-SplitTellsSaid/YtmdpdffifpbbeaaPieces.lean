import Derived.Test.YtmdpdffifpbbeaaMany
import Derived.Test.YtmdpdffifpbbeaaMem
namespace Go.Proofs.Ytmdpdffifpbbeaa
open Go.RowKit

def spanCells (l : List (Int × Int)) : List Value := l.flatMap fun p => [.int .i64 p.1, .int .i64 p.2]
def zeros (k : Nat) : List Value := List.replicate k (.int .i64 0)
/-- the k-th of n pieces -/
def piece (f t w : Int) (n k : Nat) : Int × Int := (f + k * w, if k + 1 < n then f + (k + 1) * w else t)
def pieces (f t w : Int) (n k : Nat) : List (Int × Int) := (List.range k).map (piece f t w n)
def startAt (f w : Int) (n k : Nat) : Int := if k < n then f + k * w else f + (n - 1) * w

theorem spanCells_len (l : List (Int × Int)) : (spanCells l).length = l.length * 2 := by
  induction l with
  | nil => rfl
  | cons p l ih => simp only [spanCells, List.flatMap_cons, List.length_append, List.length_cons, List.length_nil] at *; omega
theorem spanCells_app (l m : List (Int × Int)) : spanCells (l ++ m) = spanCells l ++ spanCells m := by simp [spanCells, List.flatMap_append]
theorem pieces_len (f t w : Int) (n k : Nat) : (pieces f t w n k).length = k := by simp [pieces]
theorem pieces_succ (f t w : Int) (n k : Nat) : pieces f t w n (k + 1) = pieces f t w n k ++ [piece f t w n k] := by simp [pieces, List.range_succ]
theorem set2 (A B : List Value) (x y a b : Value) (i : Nat) (h : A.length = i) : ((A ++ x :: y :: B).toArray.setIfInBounds i a).setIfInBounds (i + 1) b = (A ++ ([a, b] ++ B)).toArray := by
  subst h
  simp [List.setIfInBounds_toArray]
theorem round_cells (f t w : Int) (n k : Nat) (h : k < n) (a b : Int) (hp : piece f t w n k = (a, b)) :
    ((spanCells (pieces f t w n k) ++ zeros (2 * (n - k))).toArray.setIfInBounds (k * 2) (.int .i64 a)).setIfInBounds (k * 2 + 1) (.int .i64 b) = (spanCells (pieces f t w n (k + 1)) ++ zeros (2 * (n - (k + 1)))).toArray := by
  have e : zeros (2 * (n - k)) = .int .i64 0 :: .int .i64 0 :: zeros (2 * (n - (k + 1))) := by
    have : 2 * (n - k) = 2 * (n - (k + 1)) + 1 + 1 := by omega
    rw [this]; rfl
  rw [e, set2 _ _ _ _ _ _ _ (by rw [spanCells_len, pieces_len]), pieces_succ, spanCells_app, hp]
  simp [spanCells]
theorem cells_some (f t w : Int) (n k j : Nat) (h : k < n) (hj : j < 2) : ∃ v, (spanCells (pieces f t w n k) ++ zeros (2 * (n - k))).toArray[k * 2 + j]? = some v := by
  refine ⟨_, Array.getElem?_eq_getElem ?_⟩
  simp [spanCells_len, pieces_len, zeros]
  omega

/-- what is known of how many pieces there are -/
structure Fits (f t w : Int) (n : Nat) : Prop where
  lt : f < t
  wide : 1 ≤ w
  pos : 1 ≤ n
  below : f + (n - 1) * w < t
  above : t ≤ f + n * w
theorem fits_of (f t w : Int) (n : Nat) (hlt : f < t) (hw : 1 ≤ w) (hn : (n : Int) = (t - f - 1) / w + 1) : Fits f t w n := by
  have h1 := Int.mul_ediv_add_emod (t - f - 1) w
  have h2 := Int.emod_nonneg (t - f - 1) (b := w) (by omega)
  have h3 := Int.emod_lt_of_pos (t - f - 1) (b := w) (by omega)
  have h4 := Int.ediv_nonneg (a := t - f - 1) (b := w) (by omega) (by omega)
  have e : (t - f - 1) / w = (n : Int) - 1 := by omega
  rw [e] at h1 h4
  have e2 : w * ((n : Int) - 1) = ((n : Int) - 1) * w := Int.mul_comm _ _
  have e3 : (n : Int) * w = ((n : Int) - 1) * w + w := by rw [Int.sub_mul]; omega
  exact ⟨hlt, hw, by omega, by omega, by omega⟩
theorem Fits.start_le {f t w : Int} {n : Nat} (h : Fits f t w n) (k : Nat) (hk : k < n) : f ≤ f + k * w ∧ f + k * w < t := by
  have h0 : (0 : Int) ≤ k * w := Int.mul_nonneg (by omega) (by have := h.wide; omega)
  have h1 : (k : Int) * w ≤ (n - 1) * w := Int.mul_le_mul_of_nonneg_right (by omega) (by have := h.wide; omega)
  have := h.below
  omega
theorem succ_mul' (k : Nat) (w : Int) : ((k : Int) + 1) * w = k * w + w := by rw [Int.add_mul]; omega

theorem info35 : (Try.prog.info? 35).map (fun i => (i.zero, i.size, i.bytes)) = some (some (.agg #[.int .i64 0, .int .i64 0]), 2, 16) := by kernel_rfl
theorem made_zeros (f t w : Int) (n : Nat) : madeCells #[.int .i64 0, .int .i64 0] (n * 2) = (spanCells (pieces f t w n 0) ++ zeros (2 * (n - 0))).toArray := by
  apply Array.ext
  · simp [madeCells, spanCells, pieces, zeros]; omega
  · intro i h1 h2
    simp [madeCells, spanCells, pieces, zeros]
    rcases (by omega : i % 2 = 0 ∨ i % 2 = 1) with h | h <;> simp [h]

end Go.Proofs.Ytmdpdffifpbbeaa
