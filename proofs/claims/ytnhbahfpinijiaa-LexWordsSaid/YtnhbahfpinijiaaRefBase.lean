/- Pieces of texts, and where one stands in another one. No program. -/
import Derived.Test.YtnhbahfpinijiaaPut2
import Derived.Lib.Index
import Derived.Lib.Bytealg
namespace Go.Proofs.Ytnhbahfpinijiaa
open Go.RowKit
set_option linter.unusedVariables false

theorem text_app (p x : ByteArray) : (p ++ x).data.toList = p.data.toList ++ x.data.toList := by simp [ByteArray.data_append]
theorem put_size (l : List UInt8) : (⟨l.toArray⟩ : ByteArray).size = l.length := by simp [ByteArray.size]
theorem text_part (p : ByteArray) (i j : Nat) : (p.extract i j).data.toList = (p.data.toList.take j).drop i := by
  rw [ByteArray.data_extract, Array.toList_extract]
  simp [List.extract, List.drop_take]
theorem text_ext {a b : ByteArray} (h : a.data.toList = b.data.toList) : a = b := ByteArray.ext (Array.toList_inj.1 h)
theorem text_empty {a : ByteArray} (h : a.size = 0) : a = .empty := text_ext (by rw [show a.data.toList = [] from List.eq_nil_of_length_eq_zero (by rw [size_toList]; exact h)]; rfl)
theorem empty_iff (a : ByteArray) : a.toList.isEmpty = decide (a.size = 0) := by
  rw [Lib.toList_data, ← size_toList]
  cases a.data.toList <;> simp
def occ (s x : ByteArray) (i : Nat) : Bool := Lib.occAt s.data.toList x.data.toList i
theorem occ_piece (s x : ByteArray) (i : Nat) (h : i + x.size ≤ s.size) : ((s.extract i (i + x.size)).toList == x.toList) = occ s x i := by
  rw [Lib.toList_data, Lib.toList_data, text_part, occ, Lib.occAt_iff_take _ _ _ (by rw [size_toList, size_toList]; exact h), size_toList, List.drop_take, Nat.add_sub_cancel_left]
theorem occ_room (s x : ByteArray) (i : Nat) (h : s.size < i + x.size) (h0 : x.size ≠ 0) : occ s x i = false := by
  cases e : occ s x i with
  | false => rfl
  | true =>
    rcases Lib.occAt_room e with h1 | h1
    · rw [size_toList, size_toList] at h1; omega
    · exact absurd (by rw [← size_toList, h1]; rfl) h0
end Go.Proofs.Ytnhbahfpinijiaa
