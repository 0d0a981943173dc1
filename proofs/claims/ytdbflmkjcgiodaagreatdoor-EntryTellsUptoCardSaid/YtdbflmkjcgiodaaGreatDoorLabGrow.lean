/- The library's contract of a slice of labels that is made room in, at this dump. -/
import Derived.Shelf.Spec.SlicesGrow
import Derived.Test.YtdbflmkjcgiodaaGreatDoorProg
namespace Go.Proofs
set_option linter.unusedVariables false
set_option linter.unusedSimpArgs false
open Go.Shelf
end Go.Proofs
