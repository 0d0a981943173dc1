/- What a heap's less tells, behind a call that catches panics: the walk of before. -/
import Derived.Test.YtlicnijhmncoeaaProg
import Derived.WalkKit
import Derived.Test.YtlicnijhmncoeaaHeapMath
import Derived.Defers
import Derived.Recover
import Derived.Laws.Pointers
namespace Go.Proofs.Ytlicnijhmncoeaa.U8
open Go.RowKit
set_option linter.unusedVariables false
set_option linter.unusedSimpArgs false

def tenK (a : Int) : Int := a.tdiv 64
theorem tens_any (a b : Int) (a0 : 0 ≤ a) (a1 : a ≤ 255) (b0 : 0 ≤ b) (b1 : b ≤ 255) (W : World) :
    Calls Try.prog 25 #[.int .u8 a, .int .u8 b] W fun e w' => e = .returned (.bool (decide (tenK a < tenK b))) ∧ w' = W := by
  have h64 : ∀ z : Int, 0 ≤ z → z ≤ 255 → IntKind.u8.wrap (z.tdiv 64) = tenK z := fun z z0 z1 => by
    unfold tenK
    rw [Int.tdiv_eq_ediv_of_nonneg z0, IntKind.wrap_u8]
    omega
  have ha := h64 a a0 a1
  have hb := h64 b b0 b1
  obtain ⟨x, hx⟩ : ∃ x, tenK a = x := ⟨_, rfl⟩
  obtain ⟨y, hy⟩ : ∃ y, tenK b = y := ⟨_, rfl⟩
  rw [hx] at ha ⊢
  rw [hy] at hb ⊢
  clear h64 hx hy
  go_enter Try.func25, Try.ntmps25
  go_wp2
  go_ret
  exact ⟨by first | rfl | (simp; done), by first | rfl | trivial⟩
def lessV : Value := .func (.func 25) #[] #[]
theorem catch_idle (p : Addr) (w : World) :
    CallsD Try.prog 74 #[.pointer (some p)] .returning w fun e u' w' => e = .returned (.tuple #[]) ∧ u' = .returning ∧ w' = w := by
  refine callsD_of_wpS Try.func74 rfl fun c₀ cs hu => ?_
  apply wpS_seq
  apply wpS_region
  simp [wpOpsS, go_sem, recoverD, hu, Try.ntmps74, Exit.thenS]
  refine wpS_cond (t := false) (by simp [Act.eval, Array.replicate]) ?_
  simp only [Bool.false_eq_true, if_false]
  refine wpS_of_wp (wp_skip ?_)
  cases c₀
  simp_all [bodyPostS, results, Try.results74]

set_option maxRecDepth 100000 in
set_option maxHeartbeats 800000 in
theorem before_any (b : Nat) (x y : Int) (x0 : 0 ≤ x) (x1 : x ≤ 255) (y0 : 0 ≤ y) (y1 : y ≤ 255) (w : World) (hf : w.cell? ⟨b, 2, none⟩ = some (.func (.func 25) #[] #[])) :
    Calls Try.prog 70 #[.pointer (some ⟨b, 0, none⟩), .int .u8 x, .int .u8 y] w fun e w' => e = .returned (.bool (decide (tenK x < tenK y))) ∧ Below w.heap.size w w' := by
  have hmf : ∀ (fn : Fn) (first cap : Array Value) (w : World), (Instr.makeFunc fn first cap).run Try.prog w = .ok (.func fn first cap) w := fun _ _ _ _ => rfl
  have TN := Lib.hid (fun w => tens_any x y x0 x1 y0 y1 w)
  obtain ⟨z, hz⟩ : ∃ z, decide (tenK x < tenK y) = z := ⟨_, rfl⟩
  replace TN := TN.out
  simp only [hz] at TN
  rw [hz]
  replace TN := Lib.hid TN
  have hlt := block_lt_of_cell hf
  obtain ⟨g, hg⟩ : ∃ g, w.heap.size = g := ⟨_, rfl⟩
  obtain ⟨w1, hw1⟩ : ∃ z, w.alloc (.cells #[.bool false] 4) = z := ⟨_, rfl⟩
  have B1 : Blk w1 g 4 #[.bool false] := by rw [← hw1, ← hg]; exact Blk.new _ _ _
  have hb1 : Below w.heap.size w w1 := by rw [← hw1]; exact (Below.refl _ _).alloc (Nat.le_refl _) _
  have f1 : w1.cell? ⟨b, 2, none⟩ = some (.func (.func 25) #[] #[]) := (hb1.cell (p := ⟨b, 2, none⟩) hlt).trans hf
  have k0 : w1.cell? ⟨g, 0, none⟩ = some (.bool false) := (B1.cell 0).trans rfl
  have z0 := B1.frozen 0
  have hgw : w.heap.size ≤ g := by omega
  have HG := Lib.hid hgw
  have HB1 := Lib.hid hb1
  have HBB := Lib.hid B1
  clear hz hf hlt hb1 B1 hgw
  go_enter_defers Try.func70, Try.ntmps70
  go_wp2_with fail
  clear hg hw1
  refine (TN.out _).mono ?_
  rintro e w2 ⟨rfl, rfl⟩
  go_wp2
  refine leaves_cons (f := 74) (args := #[.pointer (some ⟨g, 0, none⟩)]) (by simp) (by simp [go_sem]) ?_
  refine (catch_idle ⟨g, 0, none⟩ _).mono ?_
  rintro e u' w'' ⟨rfl, rfl, rfl⟩
  have h2 : (w2.setCell ⟨g, 0, none⟩ (.bool z)).cell? ⟨g, 0, none⟩ = some (.bool z) := World.cell?_setCell_same _ _ _ k0
  have HB2 := Lib.hid (HB1.out.setCell (p := ⟨g, 0, none⟩) HG.out (.bool z))
  clear k0 f1 z0 HB1 HBB
  simp [Leaves, settle, results, Try.results70, go_sem, h2]
  exact HB2.out
end Go.Proofs.Ytlicnijhmncoeaa.U8
