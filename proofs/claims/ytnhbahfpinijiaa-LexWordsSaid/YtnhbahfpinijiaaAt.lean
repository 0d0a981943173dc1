/- What stands from a place on in a text. No program. -/
import Derived.Test.YtnhbahfpinijiaaScanQuo
import Derived.Test.YtnhbahfpinijiaaSame
namespace Go.Proofs.Ytnhbahfpinijiaa
open Go.RowKit
set_option linter.unusedVariables false

/-- what stands from k on -/
def atL (t : ByteArray) (k : Nat) : List UInt8 := t.data.toList.drop k
theorem mid_list (p : ByteArray) (i j : Nat) : (p.extract i j).data.toList = (p.data.toList.take j).drop i := by
  rw [ByteArray.data_extract, Array.toList_extract]
  simp [List.extract, List.drop_take]
theorem rest_list (t : ByteArray) (k : Nat) : (t.extract k t.size).data.toList = atL t k := by
  rw [mid_list, List.take_of_length_le (by rw [size_toList]; exact Nat.le_refl _)]
  rfl
theorem at_add (t : ByteArray) (k : Nat) (a b : List UInt8) (h : atL t k = a ++ b) : atL t (k + a.length) = b := by
  unfold atL at *
  rw [← List.drop_drop, h]
  simp
theorem prefB_byte (s : ByteArray) (c : UInt8) : prefB s ⟨#[c]⟩ = decide (s.data.toList.head? = some c) := by
  rw [Bool.eq_iff_iff]
  unfold prefB
  simp only [Bool.and_eq_true, decide_eq_true_iff]
  constructor
  · rintro ⟨_, h2⟩
    have h3 := congrArg (fun x : ByteArray => x.data.toList) h2
    dsimp only at h3
    rw [mid_list, List.drop_zero] at h3
    cases hl : s.data.toList with
    | nil => rw [hl] at h3; cases h3
    | cons a r =>
      rw [hl] at h3
      have h4 : [a] = [c] := h3
      injection h4 with h4
      rw [h4]; rfl
  · intro h
    cases hl : s.data.toList with
    | nil => rw [hl] at h; cases h
    | cons a r =>
      rw [hl] at h
      injection h with h
      have hz := size_toList s
      rw [hl, List.length_cons] at hz
      refine ⟨by show 1 ≤ s.size; omega, text_ext1 ?_⟩
      rw [mid_list, List.drop_zero, hl, h]
      rfl
theorem takeR_byte (t : ByteArray) (k : Nat) (c : UInt8) : takeR t k [⟨#[c]⟩] = if (atL t k).head? = some c then some ⟨#[c]⟩ else none := by
  unfold takeR
  rw [List.find?_cons, prefB_byte, rest_list]
  by_cases h : (atL t k).head? = some c
  · rw [if_pos h, decide_eq_true h]
  · rw [if_neg h, decide_eq_false h]; rfl
theorem quo_at (t : ByteArray) (k : Nat) : quoR t k = getR (atL t k) := by unfold quoR; rw [rest_list]
theorem prefB_list (s p : ByteArray) : prefB s p = p.data.toList.isPrefixOf s.data.toList := by
  rw [Bool.eq_iff_iff, List.isPrefixOf_iff_prefix]
  unfold prefB
  rw [Bool.and_eq_true, decide_eq_true_iff, decide_eq_true_iff]
  constructor
  · rintro ⟨h1, h2⟩
    have h3 : (s.extract 0 p.size).data.toList = p.data.toList := by rw [h2]
    rw [mid_list, List.drop_zero] at h3
    rw [← h3]
    exact List.take_prefix _ _
  · intro h
    have hl := h.length_le
    rw [size_toList, size_toList] at hl
    refine ⟨hl, text_ext1 ?_⟩
    rw [mid_list, List.drop_zero, ← size_toList]
    exact (List.prefix_iff_eq_take.1 h).symm
theorem takeR_at (t : ByteArray) (k : Nat) (ss : List ByteArray) : takeR t k ss = ss.find? (fun s => s.data.toList.isPrefixOf (atL t k)) := by
  unfold takeR
  congr 1
  funext s
  rw [prefB_list, rest_list]
/-- a text of bytes -/
def tx (l : List UInt8) : ByteArray := ⟨l.toArray⟩
theorem tx_list (l : List UInt8) : (tx l).data.toList = l := by unfold tx; simp
theorem tx_size (l : List UInt8) : (tx l).size = l.length := by rw [← size_toList, tx_list]
theorem tx_back (t : ByteArray) : tx t.data.toList = t := rfl
theorem run_at (p : UInt8 → Bool) (t : ByteArray) (k : Nat) : runTo p t k = k + ((atL t k).takeWhile p).length := rfl
theorem run_tx (p : UInt8 → Bool) (t : ByteArray) (k : Nat) : t.extract k (runTo p t k) = tx ((atL t k).takeWhile p) := by
  refine text_ext1 ?_
  rw [tx_list, mid_list, run_at, List.drop_take, show k + ((atL t k).takeWhile p).length - k = ((atL t k).takeWhile p).length by omega]
  exact (List.prefix_iff_eq_take.1 (List.takeWhile_prefix p)).symm
theorem at_drop_add (t : ByteArray) (k n : Nat) : atL t (k + n) = (atL t k).drop n := by
  unfold atL
  rw [List.drop_drop]
theorem at_len (t : ByteArray) (k : Nat) : (atL t k).length = t.size - k := by
  unfold atL
  rw [List.length_drop, size_toList]
theorem at_cons (t : ByteArray) (k : Nat) (hk : k < t.size) : atL t k = t[k] :: atL t (k + 1) := by
  unfold atL
  have hl : k < t.data.toList.length := by rw [size_toList]; exact hk
  rw [List.drop_eq_getElem_cons hl]
  rfl
theorem at_end (t : ByteArray) (k : Nat) (hk : t.size ≤ k) : atL t k = [] := List.drop_eq_nil_of_le (by rw [size_toList]; exact hk)
theorem at_nil (t : ByteArray) (k : Nat) (h : atL t k = []) : t.size ≤ k := by
  have := at_len t k
  rw [h] at this
  simp only [List.length_nil] at this
  omega
/-- does a byte of some kinds stand next? -/
def headK (ks : List Int) (l : List UInt8) : Bool := match l with | [] => false | c :: _ => goodK ks c
end Go.Proofs.Ytnhbahfpinijiaa
