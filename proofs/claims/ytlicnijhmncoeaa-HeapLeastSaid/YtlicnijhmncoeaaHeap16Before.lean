/- What a heap's less tells, behind a call that catches panics: the walk of before. -/
import Derived.Test.YtlicnijhmncoeaaProg
import Derived.WalkKit
import Derived.Test.YtlicnijhmncoeaaHeapMath
import Derived.Defers
import Derived.Recover
import Derived.Laws.Pointers
namespace Go.Proofs.Ytlicnijhmncoeaa.I16
open Go.RowKit
set_option linter.unusedVariables false
set_option linter.unusedSimpArgs false

def tenK (a : Int) : Int := a
theorem bdi16 {x : Int} (h : (Lit.int .i16 x).wf = true) : -32768 ≤ x ∧ x ≤ 32767 := by
  simpa [Lit.wf, IntKind.min, IntKind.max, IntKind.signed, IntKind.bits] using h
theorem tens_any (a b : Int) (a0 : -32768 ≤ a) (a1 : a ≤ 32767) (b0 : -32768 ≤ b) (b1 : b ≤ 32767) (W : World) :
    Calls Try.prog 30 #[.int .i16 a, .int .i16 b] W fun e w' => e = .returned (.bool (decide (tenK a < tenK b))) ∧ w' = W := by
  unfold tenK
  go_enter Try.func30, Try.ntmps30
  go_wp2
  go_ret
  exact ⟨by first | rfl | (simp; done), by first | rfl | trivial⟩
def lessV : Value := .func (.func 30) #[] #[]
theorem catch_idle (p : Addr) (w : World) :
    CallsD Try.prog 75 #[.pointer (some p)] .returning w fun e u' w' => e = .returned (.tuple #[]) ∧ u' = .returning ∧ w' = w := by
  refine callsD_of_wpS Try.func75 rfl fun c₀ cs hu => ?_
  apply wpS_seq
  apply wpS_region
  simp [wpOpsS, go_sem, recoverD, hu, Try.ntmps75, Exit.thenS]
  refine wpS_cond (t := false) (by simp [Act.eval, Array.replicate]) ?_
  simp only [Bool.false_eq_true, if_false]
  refine wpS_of_wp (wp_skip ?_)
  cases c₀
  simp_all [bodyPostS, results, Try.results75]

set_option maxRecDepth 100000 in
set_option maxHeartbeats 800000 in
theorem before_any (b : Nat) (x y : Int) (x0 : -32768 ≤ x) (x1 : x ≤ 32767) (y0 : -32768 ≤ y) (y1 : y ≤ 32767) (w : World) (hf : w.cell? ⟨b, 2, none⟩ = some (.func (.func 30) #[] #[])) :
    Calls Try.prog 71 #[.pointer (some ⟨b, 0, none⟩), .int .i16 x, .int .i16 y] w fun e w' => e = .returned (.bool (decide (tenK x < tenK y))) ∧ Below w.heap.size w w' := by
  have hmf : ∀ (fn : Fn) (first cap : Array Value) (w : World), (Instr.makeFunc fn first cap).run Try.prog w = .ok (.func fn first cap) w := fun _ _ _ _ => rfl
  have TN := Lib.hid (fun w => tens_any x y x0 x1 y0 y1 w)
  obtain ⟨z, hz⟩ : ∃ z, decide (tenK x < tenK y) = z := ⟨_, rfl⟩
  replace TN := TN.out
  simp only [hz] at TN
  rw [hz]
  replace TN := Lib.hid TN
  have hlt := block_lt_of_cell hf
  obtain ⟨g, hg⟩ : ∃ g, w.heap.size = g := ⟨_, rfl⟩
  obtain ⟨w1, hw1⟩ : ∃ z, w.alloc (.cells #[.bool false] 4) = z := ⟨_, rfl⟩
  have B1 : Blk w1 g 4 #[.bool false] := by rw [← hw1, ← hg]; exact Blk.new _ _ _
  have hb1 : Below w.heap.size w w1 := by rw [← hw1]; exact (Below.refl _ _).alloc (Nat.le_refl _) _
  have f1 : w1.cell? ⟨b, 2, none⟩ = some (.func (.func 30) #[] #[]) := (hb1.cell (p := ⟨b, 2, none⟩) hlt).trans hf
  have k0 : w1.cell? ⟨g, 0, none⟩ = some (.bool false) := (B1.cell 0).trans rfl
  have z0 := B1.frozen 0
  have hgw : w.heap.size ≤ g := by omega
  have HG := Lib.hid hgw
  have HB1 := Lib.hid hb1
  have HBB := Lib.hid B1
  clear hz hf hlt hb1 B1 hgw
  go_enter_defers Try.func71, Try.ntmps71
  go_wp2_with fail
  clear hg hw1
  refine (TN.out _).mono ?_
  rintro e w2 ⟨rfl, rfl⟩
  go_wp2
  refine leaves_cons (f := 75) (args := #[.pointer (some ⟨g, 0, none⟩)]) (by simp) (by simp [go_sem]) ?_
  refine (catch_idle ⟨g, 0, none⟩ _).mono ?_
  rintro e u' w'' ⟨rfl, rfl, rfl⟩
  have h2 : (w2.setCell ⟨g, 0, none⟩ (.bool z)).cell? ⟨g, 0, none⟩ = some (.bool z) := World.cell?_setCell_same _ _ _ k0
  have HB2 := Lib.hid (HB1.out.setCell (p := ⟨g, 0, none⟩) HG.out (.bool z))
  clear k0 f1 z0 HB1 HBB
  simp [Leaves, settle, results, Try.results71, go_sem, h2]
  exact HB2.out
end Go.Proofs.Ytlicnijhmncoeaa.I16
