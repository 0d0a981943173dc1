-- shaken
import Derived.Test.YtdaainifkldcpaaGreatDoorShelf
import Derived.Lib.IndexBytes
import Derived.WalkLawsBesides
import Derived.Lib.Join
import Derived.Lib.Index
import Derived.Shelf.Vars
import Derived.Test.YtdaainifkldcpaaGreatDoorMem
namespace Go.Proofs.YtdaainifkldcpaaGreatDoor
open Go.RowKit
set_option linter.unusedVariables false
set_option linter.unusedSimpArgs false
theorem OwnB.drewN {w : World} {B e : Nat} {v : Value} {l : List UInt8} (h : OwnB w B e v l) (q : Nat) : OwnB (w.drewN q) B e v l := h
def joinB (sep : ByteArray) (ss : List ByteArray) : List UInt8 := Lib.join (ss.map (·.data.toList)) sep.data.toList
end Go.Proofs.YtdaainifkldcpaaGreatDoor
