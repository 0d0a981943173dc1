-- shaken
import Derived.Test.YtgcojilaeflfbaaGreatDoorRows
import Derived.Test.YtgcojilaeflfbaaGreatDoorMem
import Derived.Test.YtgcojilaeflfbaaGreatDoorBase
import Derived.RowKit
import Derived.WalkLawsBesides
namespace Go.Proofs.YtgcojilaeflfbaaGreatDoor
open Go.RowKit
set_option linter.unusedVariables false
set_option linter.unusedSimpArgs false
end Go.Proofs.YtgcojilaeflfbaaGreatDoor
namespace Go.Proofs.YtgcojilaeflfbaaGreatDoor
open Go.RowKit
set_option linter.unusedVariables false
set_option linter.unusedSimpArgs false
theorem ret_num {o : Option Int} {x : Int} {b : Bool} (h : o.getD 0 = x) (h2 : o.isSome = b) : Ending.returned (.tuple #[.int .i64 x, .bool b]) = .returned (.tuple #[.int .i64 (o.getD 0), .bool o.isSome]) := by rw [h, h2]
end Go.Proofs.YtgcojilaeflfbaaGreatDoor
namespace Go.Proofs.YtgcojilaeflfbaaGreatDoor
open Go.RowKit
set_option linter.unusedVariables false
set_option linter.unusedSimpArgs false
end Go.Proofs.YtgcojilaeflfbaaGreatDoor
