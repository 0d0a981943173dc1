/- A number that is read.
   A byte that is read: the walk of Next. -/
import Derived.Test.YtilcanblgdmecaaScan
import Derived.Test.YtilcanblgdmecaaNumText
import Derived.Test.YtilcanblgdmecaaNumExam
import Derived.Deep.RegionHeld3
namespace Go.Proofs.Ytilcanblgdmecaa
open Go.RowKit
set_option linter.unusedVariables false
set_option linter.unusedSimpArgs false

def minus : ByteArray := ⟨#[45]⟩
/-- where a number that begins at k ends -/
def numEnd (t : ByteArray) (k : Nat) : Nat := runTo (goodK [0]) t (takeTo t k [minus])
/-- where it is read to -/
def numTo (t : ByteArray) (k : Nat) : Nat := if (parseZ (t.extract k (numEnd t k))).isSome then numEnd t k else k
def numR (t : ByteArray) (k : Nat) : Option Int := parseZ (t.extract k (numEnd t k))

end Go.Proofs.Ytilcanblgdmecaa
namespace Go.Proofs.Ytilcanblgdmecaa
open Go.RowKit
set_option linter.unusedVariables false
set_option linter.unusedSimpArgs false

end Go.Proofs.Ytilcanblgdmecaa
