import Derived.Test.YtmdpdffifpbbeaaRows
import Derived.WalkKit
import Derived.WalkSpells
namespace Go.Proofs.Ytmdpdffifpbbeaa
open Go.RowKit

theorem between_eq (f t : Int) (hf : -9223372036854775808 ≤ f) (ht : t ≤ 9223372036854775807) (hlt : f < t) :
    IntKind.u64.wrap (IntKind.u64.wrap t - IntKind.u64.wrap f) = t - f := by
  simp only [IntKind.wrap, IntKind.signed, IntKind.bits]
  simp
  omega
theorem div_le (a w : Int) (ha : 0 ≤ a) (hw : 1 ≤ w) : 0 ≤ a / w ∧ a / w ≤ a := by
  constructor
  · exact Int.ediv_nonneg ha (by omega)
  · exact Int.ediv_le_self w ha

set_option maxHeartbeats 400000 in
theorem many_ok (f t w : Int) (hf : -9223372036854775808 ≤ f) (ht : t ≤ 9223372036854775807) (hlt : f < t) (hw : 1 ≤ w) (hw2 : w ≤ 9223372036854775807) (hn : (t - f - 1) / w + 1 ≤ 64) (W : World) :
    Calls Try.prog 9 #[.int .i64 f, .int .i64 t, .int .i64 w] W fun e w' => e = .returned (.tuple #[.int .i64 ((t - f - 1) / w + 1), .int .i64 0]) ∧ W = w' := by
  have h1 := between_eq f t hf ht hlt
  obtain ⟨q0, q1⟩ := div_le (t - f - 1) w (by omega) hw
  go_enter Try.func9, Try.ntmps9
  go_wp2
  go_ret2
  exact ⟨rfl, rfl⟩

set_option maxHeartbeats 400000 in
theorem many_much (f t w : Int) (hf : -9223372036854775808 ≤ f) (ht : t ≤ 9223372036854775807) (hlt : f < t) (hw : 1 ≤ w) (hw2 : w ≤ 9223372036854775807) (hn : 64 < (t - f - 1) / w + 1) (W : World) :
    Calls Try.prog 9 #[.int .i64 f, .int .i64 t, .int .i64 w] W fun e w' => e = .returned (.tuple #[.int .i64 0, .int .i64 3]) ∧ W = w' := by
  have h1 := between_eq f t hf ht hlt
  obtain ⟨q0, q1⟩ := div_le (t - f - 1) w (by omega) hw
  go_enter Try.func9, Try.ntmps9
  go_wp2
  go_ret2
  exact ⟨rfl, rfl⟩

set_option maxHeartbeats 400000 in
theorem many_none (f t w : Int) (h : t ≤ f ∨ w < 1) (W : World) :
    Calls Try.prog 9 #[.int .i64 f, .int .i64 t, .int .i64 w] W fun e w' => e = .returned (.tuple #[.int .i64 0, .int .i64 3]) ∧ W = w' := by
  by_cases h1 : t ≤ f
  · clear h
    go_enter Try.func9, Try.ntmps9
    go_wp2
    go_ret2
    exact ⟨rfl, rfl⟩
  · have h2 : w < 1 := by omega
    clear h
    go_enter Try.func9, Try.ntmps9
    go_wp2
    go_ret2
    exact ⟨rfl, rfl⟩
end Go.Proofs.Ytmdpdffifpbbeaa
