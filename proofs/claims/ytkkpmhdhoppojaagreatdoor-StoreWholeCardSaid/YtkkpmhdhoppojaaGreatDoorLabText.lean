-- shaken
import Derived.Test.YtkkpmhdhoppojaaGreatDoorLabOf
import Derived.Test.YtkkpmhdhoppojaaGreatDoorRowT
import Derived.Deep.RegionHeld3
import Derived.Deep.RegionLaw
import Derived.Deep.AppendLies
import Derived.Test.YtkkpmhdhoppojaaGreatDoorGet
namespace Go.Proofs.YtkkpmhdhoppojaaGreatDoor
open Go.RowKit Go.Sort
set_option linter.unusedVariables false
set_option linter.unusedSimpArgs false
def putS (s : ByteArray) : ByteArray := ⟨(putB s.data.toList).toArray⟩
def partT (p : PairB) : ByteArray := p.1 ++ (⟨#[61]⟩ : ByteArray) ++ putS p.2
end Go.Proofs.YtkkpmhdhoppojaaGreatDoor
