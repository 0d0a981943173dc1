-- shaken
import Derived.Test.YtdaainifkldcpaaGreatDoorBase
import Derived.Test.YtdaainifkldcpaaGreatDoorLabOf
import Derived.Deep.RegionHeld3
import Derived.Deep.RegionLaw
import Derived.Deep.AppendLies
import Derived.Test.YtdaainifkldcpaaGreatDoorGet
namespace Go.Proofs.YtdaainifkldcpaaGreatDoor
open Go.RowKit Go.Sort
set_option linter.unusedVariables false
set_option linter.unusedSimpArgs false
structure RowT (w : World) (g n j : Nat) (ss : List ByteArray) (cs : Array Value) : Prop where
  blk : Blk w g 9 cs
  size : cs.size = n
  at_ : ∀ i, i < j → cs[i]? = some (.string (ss.getD i .empty))
  all_ : ∀ i, i < n → ∃ s, cs[i]? = some (.string s)
theorem RowT.below {w w' : World} {g n j : Nat} {ss : List ByteArray} {cs : Array Value} (h : RowT w g n j ss cs) (hb : Below w.heap.size w w') : RowT w' g n j ss cs := ⟨h.blk.below hb h.blk.lt, h.size, h.at_, h.all_⟩
theorem RowT.drew {w : World} {g n j : Nat} {ss : List ByteArray} {cs : Array Value} (h : RowT w g n j ss cs) : RowT w.drew g n j ss cs := ⟨h.blk, h.size, h.at_, h.all_⟩
def putS (s : ByteArray) : ByteArray := ⟨(putB s.data.toList).toArray⟩
def partT (p : PairB) : ByteArray := p.1 ++ (⟨#[61]⟩ : ByteArray) ++ putS p.2
end Go.Proofs.YtdaainifkldcpaaGreatDoor
