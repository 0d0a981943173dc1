-- shaken
import Derived.Test.YtbkpoimaienhpaaGreatDoorDigits
import Derived.Laws.OwnMore
import Derived.Test.YtbkpoimaienhpaaGreatDoorBase
namespace Go.Proofs.YtbkpoimaienhpaaGreatDoor
open Go.RowKit
set_option linter.unusedVariables false
set_option linter.unusedSimpArgs false
theorem wrap_u64 (x : Int) : IntKind.u64.wrap x = x % 18446744073709551616 := by
  simp [IntKind.wrap, IntKind.signed, IntKind.bits]
theorem ret_str {a b : ByteArray} (h : a = b) : Ending.returned (.string a) = .returned (.string b) := by rw [h]
def skip (neg : Bool) (l : List UInt8) : List UInt8 := if neg then l.drop 1 else l
end Go.Proofs.YtbkpoimaienhpaaGreatDoor
