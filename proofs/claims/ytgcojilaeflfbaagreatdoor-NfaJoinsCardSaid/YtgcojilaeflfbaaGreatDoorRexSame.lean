-- shaken
import Derived.Test.YtgcojilaeflfbaaGreatDoorRexSize
import Derived.Test.YtgcojilaeflfbaaGreatDoorRexClass
namespace Go.Proofs.YtgcojilaeflfbaaGreatDoor
open Go.RowKit
set_option linter.unusedVariables false
set_option linter.unusedSimpArgs false
theorem set_words {S T : Nat} (hS : S < 2 ^ 256) (hT : T < 2 ^ 256) : ((word S 0 : Int) == (word T 0 : Int) && (word S 1 : Int) == (word T 1 : Int) && (word S 2 : Int) == (word T 2 : Int) && (word S 3 : Int) == (word T 3 : Int)) = decide (S = T) := by
  rw [Bool.eq_iff_iff, decide_eq_true_iff]
  constructor
  · intro e
    simp only [Bool.and_eq_true, beq_iff_eq] at e
    obtain ⟨⟨⟨e0, e1⟩, e2⟩, e3⟩ := e
    refine set_ext hS hT (fun i hi => ?_)
    match i, hi with
    | 0, _ => omega
    | 1, _ => omega
    | 2, _ => omega
    | 3, _ => omega
  · rintro rfl
    simp
theorem eq_words24 {S T : Nat} (hS : S < 2 ^ 256) (hT : T < 2 ^ 256) (w : World) : (Op.equalIn 10000 40 (.agg #[.int .u64 (word S 0 : Nat), .int .u64 (word S 1 : Nat), .int .u64 (word S 2 : Nat), .int .u64 (word S 3 : Nat)]) (.agg #[.int .u64 (word T 0 : Nat), .int .u64 (word T 1 : Nat), .int .u64 (word T 2 : Nat), .int .u64 (word T 3 : Nat)])).run Tryz.prog w = .ok (decide (S = T)) w := by
  rw [eq_sets24, set_words hS hT]
end Go.Proofs.YtgcojilaeflfbaaGreatDoor
