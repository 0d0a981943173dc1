-- shaken
import Derived.Test.YtkkpmhdhoppojaaGreatDoorLabParse
import Derived.Test.YtkkpmhdhoppojaaGreatDoorLabWith
import Derived.Test.YtkkpmhdhoppojaaGreatDoorLabText
import Derived.Test.YtkkpmhdhoppojaaGreatDoorBase
import Derived.Test.YtkkpmhdhoppojaaGreatDoorPut
import Derived.Laws.OwnMore
namespace Go.Proofs.YtkkpmhdhoppojaaGreatDoor
open Go.RowKit Go.Sort
set_option linter.unusedVariables false
set_option linter.unusedSimpArgs false
def s2 : List PairB := [(⟨#[97]⟩, ⟨#[49]⟩), (⟨#[98]⟩, ⟨#[51]⟩)]
end Go.Proofs.YtkkpmhdhoppojaaGreatDoor
