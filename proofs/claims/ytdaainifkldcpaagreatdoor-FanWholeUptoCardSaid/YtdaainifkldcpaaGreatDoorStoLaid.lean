-- shaken
import Derived.Test.YtdaainifkldcpaaGreatDoorCards
import Derived.Test.YtdaainifkldcpaaGreatDoorTie
import Derived.Stop.LaidErr
import Derived.LaidMore
import Derived.MakeChecks
import Derived.Deep.DeepHandedRow
import Derived.Deep.DeepWitnessRowRef
namespace Go.Proofs.YtdaainifkldcpaaGreatDoor
open Go.RowKit
set_option linter.unusedVariables false
theorem laid_true {W : World} (h : laidMetH Tryz.prog Rows.fanTellsRow.laid W) : True := trivial
theorem door_met (os : Os) (args : Array Value) : laidMetH Tryz.prog Rows.fanTellsRow.laid ((World.doorLaid Tryz.prog 400 os).forCall (fun _ _ => 0) ⟨#[], args, []⟩).memory :=
  (MakeChecks.laidMetH_plain _ _ _ (by kernel_rfl)).mpr (laidMet_of_run' 8 (by kernel_rfl) (by kernel_rfl))
end Go.Proofs.YtdaainifkldcpaaGreatDoor
