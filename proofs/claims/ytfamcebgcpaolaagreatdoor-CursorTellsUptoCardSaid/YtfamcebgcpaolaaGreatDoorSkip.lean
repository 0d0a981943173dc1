/- A reader that skips bytes. -/
import Derived.Test.YtfamcebgcpaolaaGreatDoorPut
import Derived.Test.YtfamcebgcpaolaaGreatDoorScan
namespace Go.Proofs.YtfamcebgcpaolaaGreatDoor
open Go.RowKit
set_option linter.unusedVariables false
set_option linter.unusedSimpArgs false

set_option maxRecDepth 100000 in
set_option maxHeartbeats 3200000 in
theorem skip_most (b : Nat) (ty : TypeId) (cs : Array Value) (t : ByteArray) (k n d : Nat) (hd : k + d = t.size) (hnd : d < n) (W : World) (hR : Rd W b ty cs t k) :
    Calls Tryz.prog 77 #[.pointer (some ⟨b, 0, none⟩), .int .i64 (n : Int)] W fun e w' => e = .returned (.tuple #[]) ∧ Rd w' b ty (cs.setIfInBounds 1 (.int .i64 (k + d : Nat))) t (k + d) ∧ W.grownBy w' (some b) := by
  have c0 := hR.text
  have c1 := hR.pos
  have f1 := hR.blk.frozen 1
  have hsz := hR.sz
  have HR := Lib.hid hR
  have e1 : max (n : Int) 0 = (n : Int) := by omega
  have e2 : IntKind.i64.wrap ((t.size : Int) - (k : Int)) = (d : Int) := by rw [IntKind.wrap_i64]; omega
  have e3 : min (n : Int) (d : Int) = (d : Int) := by omega
  have e5 : ¬ (n : Int) ≤ (d : Int) := by omega
  have e4 : IntKind.i64.wrap ((k : Int) + (d : Int)) = (k : Int) + (d : Int) := by rw [IntKind.wrap_i64]; omega
  have hmle : k + d ≤ t.size := by omega
  clear hR hd hnd
  go_enter Tryz.func77, Tryz.ntmps77
  go_wp2
  go_region_law (fail)
  all_goals
    go_wp2
    (try simp only [Exit.inBlock, Exit.then])
    refine bodyPost_end (results_none rfl _ _ _) rfl ?_
    exact ⟨rfl, (HR.out.drewN _).toI (j := k + d) (z := (k : Int) + (d : Int)) (by omega) hmle, grown_pos W _ b _⟩
set_option maxRecDepth 100000 in
set_option maxHeartbeats 3200000 in
theorem skip_less (b : Nat) (ty : TypeId) (cs : Array Value) (t : ByteArray) (k n d : Nat) (hd : k + d = t.size) (hnd : n ≤ d) (W : World) (hR : Rd W b ty cs t k) :
    Calls Tryz.prog 77 #[.pointer (some ⟨b, 0, none⟩), .int .i64 (n : Int)] W fun e w' => e = .returned (.tuple #[]) ∧ Rd w' b ty (cs.setIfInBounds 1 (.int .i64 (k + n : Nat))) t (k + n) ∧ W.grownBy w' (some b) := by
  have c0 := hR.text
  have c1 := hR.pos
  have f1 := hR.blk.frozen 1
  have hsz := hR.sz
  have HR := Lib.hid hR
  have e1 : max (n : Int) 0 = (n : Int) := by omega
  have e2 : IntKind.i64.wrap ((t.size : Int) - (k : Int)) = (d : Int) := by rw [IntKind.wrap_i64]; omega
  have e3 : min (n : Int) (d : Int) = (n : Int) := by omega
  have e5 : (n : Int) ≤ (d : Int) := by omega
  have e4 : IntKind.i64.wrap ((k : Int) + (n : Int)) = (k : Int) + (n : Int) := by rw [IntKind.wrap_i64]; omega
  have hmle : k + n ≤ t.size := by omega
  clear hR hd hnd
  go_enter Tryz.func77, Tryz.ntmps77
  go_wp2
  go_region_law (fail)
  all_goals
    go_wp2
    (try simp only [Exit.inBlock, Exit.then])
    refine bodyPost_end (results_none rfl _ _ _) rfl ?_
    exact ⟨rfl, (HR.out.drewN _).toI (j := k + n) (z := (k : Int) + (n : Int)) (by omega) hmle, grown_pos W _ b _⟩
theorem skip_any (b : Nat) (ty : TypeId) (cs : Array Value) (t : ByteArray) (k n : Nat) (W : World) (hR : Rd W b ty cs t k) :
    Calls Tryz.prog 77 #[.pointer (some ⟨b, 0, none⟩), .int .i64 (n : Int)] W fun e w' => e = .returned (.tuple #[]) ∧ Rd w' b ty (cs.setIfInBounds 1 (.int .i64 (k + min n (t.size - k) : Nat))) t (k + min n (t.size - k)) ∧ W.grownBy w' (some b) := by
  have hle := hR.le
  rcases Nat.lt_or_ge (t.size - k) n with h | h
  · rw [Nat.min_eq_right (by omega)]
    exact skip_most b ty cs t k n _ (by omega) h W hR
  · rw [Nat.min_eq_left h]
    exact skip_less b ty cs t k n _ (by omega) h W hR
end Go.Proofs.YtfamcebgcpaolaaGreatDoor
