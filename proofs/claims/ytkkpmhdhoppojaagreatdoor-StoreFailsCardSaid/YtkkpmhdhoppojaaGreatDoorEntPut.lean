-- shaken
import Derived.Test.YtkkpmhdhoppojaaGreatDoorEntRow
import Derived.Test.YtkkpmhdhoppojaaGreatDoorLabBackMath
import Derived.Test.YtkkpmhdhoppojaaGreatDoorScan
import Derived.Test.YtkkpmhdhoppojaaGreatDoorNumText
import Derived.Test.YtkkpmhdhoppojaaGreatDoorNumExam
import Derived.Deep.RegionHeld3
namespace Go.Proofs.YtkkpmhdhoppojaaGreatDoor
open Go.RowKit Go.Lib
set_option linter.unusedVariables false
set_option linter.unusedSimpArgs false
def entT (e : EntB) : ByteArray := itoaS e.ts ++ textT e.ls ++ putS e.ln
end Go.Proofs.YtkkpmhdhoppojaaGreatDoor
