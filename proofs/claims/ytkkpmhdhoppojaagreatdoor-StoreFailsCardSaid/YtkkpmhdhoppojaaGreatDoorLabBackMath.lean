-- shaken
import Derived.Test.YtkkpmhdhoppojaaGreatDoorLabParse
import Derived.Test.YtkkpmhdhoppojaaGreatDoorLabText
import Derived.Test.YtkkpmhdhoppojaaGreatDoorGet
import Derived.Test.YtkkpmhdhoppojaaGreatDoorPut
import Derived.Test.YtkkpmhdhoppojaaGreatDoorLabOf
import Derived.Test.YtkkpmhdhoppojaaGreatDoorScanQuo
namespace Go.Proofs.YtkkpmhdhoppojaaGreatDoor
open Go.RowKit
set_option linter.unusedVariables false
set_option linter.unusedSimpArgs false
def textT (ps : List PairB) : ByteArray := (⟨#[123]⟩ : ByteArray) ++ (⟨(joinB ⟨#[44]⟩ (ps.map partT)).toArray⟩ : ByteArray) ++ (⟨#[125]⟩ : ByteArray)
end Go.Proofs.YtkkpmhdhoppojaaGreatDoor
