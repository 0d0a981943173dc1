-- shaken
import Derived.Test.YtkkpmhdhoppojaaGreatDoorPut
import Derived.Test.YtkkpmhdhoppojaaGreatDoorShelf
import Derived.Lib.IndexBytes
import Derived.WalkLawsBesides
import Derived.Lib.Join
import Derived.Lib.Index
import Derived.Shelf.Vars
namespace Go.Proofs.YtkkpmhdhoppojaaGreatDoor
open Go.RowKit
set_option linter.unusedVariables false
set_option linter.unusedSimpArgs false
theorem OwnB.drewN {w : World} {B e : Nat} {v : Value} {l : List UInt8} (h : OwnB w B e v l) (q : Nat) : OwnB (w.drewN q) B e v l := h
def joinB (sep : ByteArray) (ss : List ByteArray) : List UInt8 := Lib.join (ss.map (·.data.toList)) sep.data.toList
end Go.Proofs.YtkkpmhdhoppojaaGreatDoor
