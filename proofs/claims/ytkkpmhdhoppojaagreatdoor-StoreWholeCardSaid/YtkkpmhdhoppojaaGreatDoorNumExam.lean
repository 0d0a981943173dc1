-- shaken
import Derived.Test.YtkkpmhdhoppojaaGreatDoorNumText
import Derived.Test.YtkkpmhdhoppojaaGreatDoorRows
import Derived.Test.YtkkpmhdhoppojaaGreatDoorMem
import Derived.Test.YtkkpmhdhoppojaaGreatDoorBase
import Derived.RowKit
import Derived.WalkLawsBesides
namespace Go.Proofs.YtkkpmhdhoppojaaGreatDoor
open Go.RowKit
set_option linter.unusedVariables false
set_option linter.unusedSimpArgs false
theorem LibIs.alloc {w : World} (h : LibIs w) (o : Obj) : LibIs (w.alloc o) := h.below ((Below.refl _ _).alloc (Nat.le_refl _) o)
theorem LibIs.drewN {w : World} (h : LibIs w) (q : Nat) : LibIs (w.drewN q) := h.below (below_drewN (Below.refl _ _) q)
theorem LibIs.drew {w : World} (h : LibIs w) : LibIs w.drew := h.below (below_drewN (Below.refl _ _) 1)
section
variable (W : World) (g : Nat)
variable (hl : LibIs W)
include hl
end
end Go.Proofs.YtkkpmhdhoppojaaGreatDoor
