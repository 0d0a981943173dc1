/- When two texts are the same. No program. -/
import Derived.Lib.Join
import Derived.Test.YtnhbahfpinijiaaMem
namespace Go.Proofs.Ytnhbahfpinijiaa
open Go.RowKit
theorem text_eq (a b : ByteArray) : (a.toList == b.toList) = decide (a = b) := by
  rw [Bool.eq_iff_iff, beq_iff_eq, decide_eq_true_eq, Lib.toList_data, Lib.toList_data]
  exact ⟨fun h => ByteArray.ext (Array.toList_inj.1 h), fun h => by rw [h]⟩
theorem text_same {a b : ByteArray} (h : a = b) : (a.toList == b.toList) = true := by rw [text_eq, decide_eq_true h]
theorem text_other {a b : ByteArray} (h : a ≠ b) : (a.toList == b.toList) = false := by rw [text_eq, decide_eq_false h]
theorem text_joined (p x : ByteArray) : (p ++ x).data.toList = p.data.toList ++ x.data.toList := by simp [ByteArray.data_append]
theorem text_ext1 {a b : ByteArray} (h : a.data.toList = b.data.toList) : a = b := ByteArray.ext (Array.toList_inj.1 h)
end Go.Proofs.Ytnhbahfpinijiaa
