/- What a heap's less tells, behind a call that catches panics: the walk of before. -/
import Derived.Test.YtlicnijhmncoeaaProg
import Derived.WalkKit
import Derived.Test.YtlicnijhmncoeaaHeapMath
import Derived.Defers
import Derived.Recover
import Derived.Laws.Pointers
namespace Go.Proofs.Ytlicnijhmncoeaa
open Go.RowKit
set_option linter.unusedVariables false
set_option linter.unusedSimpArgs false

def tenK (a : Int) : Int := a.tdiv 10
theorem ten_any (a : Int) (h0 : -9223372036854775808 ≤ a) (h1 : a ≤ 9223372036854775807) (W : World) :
    Calls Try.prog 36 #[.int .i64 a] W fun e w' => e = .returned (.int .i64 (tenK a)) ∧ w' = W := by
  have hw : IntKind.i64.wrap (a.tdiv 10) = a.tdiv 10 := by
    have h : -9223372036854775808 ≤ a.tdiv 10 ∧ a.tdiv 10 ≤ 9223372036854775807 := by
      rcases Int.le_total 0 a with g | g
      · rw [Int.tdiv_eq_ediv_of_nonneg g]; omega
      · have e : a.tdiv 10 = -((-a) / 10) := by
          rw [← Int.tdiv_eq_ediv_of_nonneg (by omega), Int.neg_tdiv, Int.neg_neg]
        rw [e]; omega
    rw [IntKind.wrap_i64]; omega
  obtain ⟨z, hz⟩ : ∃ z, a.tdiv 10 = z := ⟨_, rfl⟩
  have E := Lib.hid (show tenK a = z from hz)
  rw [hz] at hw
  go_enter Try.func36, Try.ntmps36
  go_wp2
  go_ret
  exact ⟨by rw [E.out]; first | rfl | (simp; done), by first | rfl | trivial⟩
theorem tens_any (a b : Int) (a0 : -9223372036854775808 ≤ a) (a1 : a ≤ 9223372036854775807) (b0 : -9223372036854775808 ≤ b) (b1 : b ≤ 9223372036854775807) (W : World) :
    Calls Try.prog 9 #[.int .i64 a, .int .i64 b] W fun e w' => e = .returned (.bool (decide (tenK a < tenK b))) ∧ w' = W := by
  have C1 := fun w => ten_any a a0 a1 w
  have C2 := fun w => ten_any b b0 b1 w
  obtain ⟨x, hx⟩ : ∃ z, tenK a = z := ⟨_, rfl⟩
  obtain ⟨y, hy⟩ : ∃ z, tenK b = z := ⟨_, rfl⟩
  simp only [hx] at C1
  simp only [hy] at C2
  rw [hx, hy]
  replace C1 := Lib.hid C1
  replace C2 := Lib.hid C2
  clear hx hy
  go_enter Try.func9, Try.ntmps9
  go_wp2_with fail
  refine (C1.out _).mono ?_
  rintro e w1 ⟨rfl, rfl⟩
  go_wp2_with fail
  refine (C2.out _).mono ?_
  rintro e w2 ⟨rfl, rfl⟩
  go_wp2
  go_ret
  exact ⟨by first | rfl | (simp; done), by first | rfl | trivial⟩
def lessV : Value := .func (.func 9) #[] #[]
theorem catch_idle (p : Addr) (w : World) :
    CallsD Try.prog 72 #[.pointer (some p)] .returning w fun e u' w' => e = .returned (.tuple #[]) ∧ u' = .returning ∧ w' = w := by
  refine callsD_of_wpS Try.func72 rfl fun c₀ cs hu => ?_
  apply wpS_seq
  apply wpS_region
  simp [wpOpsS, go_sem, recoverD, hu, Try.ntmps72, Exit.thenS]
  refine wpS_cond (t := false) (by simp [Act.eval, Array.replicate]) ?_
  simp only [Bool.false_eq_true, if_false]
  refine wpS_of_wp (wp_skip ?_)
  cases c₀
  simp_all [bodyPostS, results, Try.results72]

set_option maxRecDepth 100000 in
set_option maxHeartbeats 800000 in
theorem before_any (b : Nat) (x y : Int) (x0 : -9223372036854775808 ≤ x) (x1 : x ≤ 9223372036854775807) (y0 : -9223372036854775808 ≤ y) (y1 : y ≤ 9223372036854775807) (w : World) (hf : w.cell? ⟨b, 2, none⟩ = some (.func (.func 9) #[] #[])) :
    Calls Try.prog 68 #[.pointer (some ⟨b, 0, none⟩), .int .i64 x, .int .i64 y] w fun e w' => e = .returned (.bool (decide (tenK x < tenK y))) ∧ Below w.heap.size w w' := by
  have hmf : ∀ (fn : Fn) (first cap : Array Value) (w : World), (Instr.makeFunc fn first cap).run Try.prog w = .ok (.func fn first cap) w := fun _ _ _ _ => rfl
  have TN := Lib.hid (fun w => tens_any x y x0 x1 y0 y1 w)
  obtain ⟨z, hz⟩ : ∃ z, decide (tenK x < tenK y) = z := ⟨_, rfl⟩
  replace TN := TN.out
  simp only [hz] at TN
  rw [hz]
  replace TN := Lib.hid TN
  have hlt := block_lt_of_cell hf
  obtain ⟨g, hg⟩ : ∃ g, w.heap.size = g := ⟨_, rfl⟩
  obtain ⟨w1, hw1⟩ : ∃ z, w.alloc (.cells #[.bool false] 4) = z := ⟨_, rfl⟩
  have B1 : Blk w1 g 4 #[.bool false] := by rw [← hw1, ← hg]; exact Blk.new _ _ _
  have hb1 : Below w.heap.size w w1 := by rw [← hw1]; exact (Below.refl _ _).alloc (Nat.le_refl _) _
  have f1 : w1.cell? ⟨b, 2, none⟩ = some (.func (.func 9) #[] #[]) := (hb1.cell (p := ⟨b, 2, none⟩) hlt).trans hf
  have k0 : w1.cell? ⟨g, 0, none⟩ = some (.bool false) := (B1.cell 0).trans rfl
  have z0 := B1.frozen 0
  have hgw : w.heap.size ≤ g := by omega
  have HG := Lib.hid hgw
  have HB1 := Lib.hid hb1
  have HBB := Lib.hid B1
  clear hz hf hlt hb1 B1 hgw
  go_enter_defers Try.func68, Try.ntmps68
  go_wp2_with fail
  clear hg hw1
  refine (TN.out _).mono ?_
  rintro e w2 ⟨rfl, rfl⟩
  go_wp2
  refine leaves_cons (f := 72) (args := #[.pointer (some ⟨g, 0, none⟩)]) (by simp) (by simp [go_sem]) ?_
  refine (catch_idle ⟨g, 0, none⟩ _).mono ?_
  rintro e u' w'' ⟨rfl, rfl, rfl⟩
  have h2 : (w2.setCell ⟨g, 0, none⟩ (.bool z)).cell? ⟨g, 0, none⟩ = some (.bool z) := World.cell?_setCell_same _ _ _ k0
  have HB2 := Lib.hid (HB1.out.setCell (p := ⟨g, 0, none⟩) HG.out (.bool z))
  clear k0 f1 z0 HB1 HBB
  simp [Leaves, settle, results, Try.results68, go_sem, h2]
  exact HB2.out
end Go.Proofs.Ytlicnijhmncoeaa
