/- The document's own sums and differences of two. -/
import Derived.Test.YtehhmejpfglimaaDoorNum2
namespace Go.Proofs.YtehhmejpfglimaaDoor
open Go.RowKit
set_option linter.unusedVariables false

set_option maxHeartbeats 400000 in
theorem refSum_any (a b : Int) (a0 : -9223372036854775808 ≤ a) (a1 : a ≤ 9223372036854775807) (b0 : -9223372036854775808 ≤ b) (b1 : b ≤ 9223372036854775807) (W : World) :
    Calls Tryd.prog 28 #[.int .i64 a, .int .i64 b] W fun e w' => e = .returned (.tuple #[.int .i64 ((stepR (· + ·) (some a) b).getD 0), .bool (stepR (· + ·) (some a) b).isSome]) ∧ W = w' := by
  by_cases hr : -9223372036854775808 ≤ a + b ∧ a + b ≤ 9223372036854775807
  · have e : stepR (· + ·) (some a) b = some (a + b) := by simp [stepR, hr]
    have E := Lib.hid e
    obtain ⟨r0, r1⟩ := hr
    rcases (by omega : (0 < b ∧ a ≤ 9223372036854775807 - b) ∨ (b < 0 ∧ -9223372036854775808 - b ≤ a) ∨ b = 0) with ⟨p1, p2⟩ | ⟨p1, p2⟩ | rfl
    all_goals
      clear e
      go_enter Tryd.func28, Tryd.ntmps28
      go_wp2
      go_ret2
      exact ⟨ret_num (by rw [E.out]; first | rfl | simp) (by rw [E.out]; rfl), rfl⟩
  · have e : stepR (· + ·) (some a) b = none := by simp [stepR]; omega
    have E := Lib.hid e
    rcases (by omega : (0 < b ∧ 9223372036854775807 - b < a) ∨ (b < 0 ∧ a < -9223372036854775808 - b)) with ⟨p1, p2⟩ | ⟨p1, p2⟩
    all_goals
      clear e hr
      go_enter Tryd.func28, Tryd.ntmps28
      go_wp2
      go_ret2
      exact ⟨ret_num (by rw [E.out]; rfl) (by rw [E.out]; rfl), rfl⟩
end Go.Proofs.YtehhmejpfglimaaDoor
