-- shaken
import Derived.Test.YtgcojilaeflfbaaGreatDoorShelf
import Derived.Lib.IndexBytes
import Derived.WalkLawsBesides
import Derived.Test.YtgcojilaeflfbaaGreatDoorMem
namespace Go.Proofs.YtgcojilaeflfbaaGreatDoor
open Go.RowKit
set_option linter.unusedVariables false
set_option linter.unusedSimpArgs false
end Go.Proofs.YtgcojilaeflfbaaGreatDoor
namespace Go.Proofs.YtgcojilaeflfbaaGreatDoor
open Go.RowKit
set_option linter.unusedVariables false
set_option linter.unusedSimpArgs false
end Go.Proofs.YtgcojilaeflfbaaGreatDoor
namespace Go.Proofs.YtgcojilaeflfbaaGreatDoor
open Go.RowKit
set_option linter.unusedVariables false
set_option linter.unusedSimpArgs false
theorem OwnB.drewN {w : World} {B e : Nat} {v : Value} {l : List UInt8} (h : OwnB w B e v l) (q : Nat) : OwnB (w.drewN q) B e v l := h
end Go.Proofs.YtgcojilaeflfbaaGreatDoor
