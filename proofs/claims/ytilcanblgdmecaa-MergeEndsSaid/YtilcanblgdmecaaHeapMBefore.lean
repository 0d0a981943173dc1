/- What a merge's heap is ordered by, behind a call that catches panics: the walks of its closure and of before. -/
import Derived.Test.YtilcanblgdmecaaProg
import Derived.WalkKit
import Derived.Test.YtilcanblgdmecaaHeapMKey
import Derived.Deep.RegionHeld3
import Derived.Defers
import Derived.Recover
import Derived.Laws.Pointers
namespace Go.Proofs.Ytilcanblgdmecaa
open Go.RowKit
set_option linter.unusedVariables false
set_option linter.unusedSimpArgs false
variable {P : MP}

set_option maxRecDepth 100000 in
set_option maxHeartbeats 800000 in
theorem less_any (x y : LsX) (hx : GoodL P x) (hy : GoodL P y) (W : World) (hb : Below P.W0.heap.size P.W0 W) :
    Calls Try.prog 27 #[.slice x.A x.n x.c, .slice y.A y.n y.c, .pointer (some ⟨P.ac, 0, none⟩)] W fun e w' => e = .returned (.bool (decide (keyM P x < keyM P y))) ∧ Below W.heap.size W w' := by
  obtain ⟨T, hT⟩ : ∃ T, decide (keyM P x < keyM P y) = T := ⟨_, rfl⟩
  have hK := key_lt (P := P) (y := y) hx
  rw [hT] at hK ⊢
  have hca : W.cell? ⟨P.ac, 0, none⟩ = some (.bool P.asc) := (hb.cell (p := ⟨P.ac, 0, none⟩) (block_lt_of_cell P.hc)).trans P.hc
  obtain ⟨b1, o1, hA1, hlt1, hc1⟩ := (hx.ents.below hb).at_ hx.some
  obtain ⟨b2, o2, hA2, hlt2, hc2⟩ := (hy.ents.below hb).at_ hy.some
  obtain ⟨c1, c2, c3, g1⟩ := hc1 0 hx.some
  obtain ⟨d1, d2, d3, g2⟩ := hc2 0 hy.some
  have hxn := hx.some
  have hyn := hy.some
  have hxI : (0 : Int) < (x.n : Int) := by omega
  have hyI : (0 : Int) < (y.n : Int) := by omega
  obtain ⟨xA, xn, xc, xl⟩ := x
  obtain ⟨yA, yn, yc, yl⟩ := y
  dsimp only [headE] at *
  subst hA1
  subst hA2
  obtain ⟨u, hu⟩ : ∃ u, xl.getD 0 xnil = u := ⟨_, rfl⟩
  obtain ⟨v, hv⟩ : ∃ u, yl.getD 0 xnil = u := ⟨_, rfl⟩
  rw [hu] at c1 c2 c3 g1 hK
  rw [hv] at d1 d2 d3 g2 hK
  obtain ⟨xt, uA, un, uc, ul, us⟩ := u
  obtain ⟨yt, vA, vn, vc, vl, vs⟩ := v
  dsimp only [EntX.b] at c1 c2 c3 d1 d2 d3 hK
  rw [Nat.zero_mul, Nat.add_zero] at c1 c2 c3 d1 d2 d3
  obtain ⟨asc, hasc⟩ : ∃ z, P.asc = z := ⟨_, rfl⟩
  rw [hasc] at hca hK
  have AH := fun w h => entAhead_any xt yt uA vA un vn uc vc ul vl us vs asc g1.len g2.len w (g1.set.1.below h) (g2.set.1.below h)
  simp only [hK] at AH
  replace AH := Lib.hid AH
  obtain ⟨ac, hac⟩ : ∃ z, P.ac = z := ⟨_, rfl⟩
  rw [hac] at hca ⊢
  have hlca := block_lt_of_cell hca
  have hbb := Below.refl W.heap.size W
  have hh0 : W.heap.size ≤ W.heap.size := Nat.le_refl _
  clear hx hy hb hK hT hc1 hc2 g1 g2 hu hv hasc hac
  have S0 : Below W.heap.size W W.drew := (Below.refl _ _).drew
  go_enter Try.func27, Try.ntmps27
  go_wp2
  go_region_held3 (fun w' => Below W.heap.size W w' ∧ w'.cell? ⟨b1, o1, none⟩ = some (.int .i64 xt) ∧ w'.cell? ⟨b1, o1 + 1, none⟩ = some (.slice uA un uc) ∧ w'.cell? ⟨b1, o1 + 2, none⟩ = some (.string us) ∧ w'.cell? ⟨b2, o2, none⟩ = some (.int .i64 yt) ∧ w'.cell? ⟨b2, o2 + 1, none⟩ = some (.slice vA vn vc) ∧ w'.cell? ⟨b2, o2 + 2, none⟩ = some (.string vs) ∧ w'.cell? ⟨ac, 0, none⟩ = some (.bool asc))
    (first | assumption | exact ⟨by assumption, by assumption, by assumption, by assumption, by assumption, by assumption, by assumption, by assumption⟩ | exact ⟨by assumption, (hb3.cell (p := ⟨_, _, none⟩) hlt1).trans c1, (hb3.cell (p := ⟨_, _, none⟩) hlt1).trans c2, (hb3.cell (p := ⟨_, _, none⟩) hlt1).trans c3, (hb3.cell (p := ⟨_, _, none⟩) hlt2).trans d1, (hb3.cell (p := ⟨_, _, none⟩) hlt2).trans d2, (hb3.cell (p := ⟨_, _, none⟩) hlt2).trans d3, (hb3.cell (p := ⟨_, _, none⟩) hlca).trans hca⟩)
    (first | (go_at_call 23; refine (AH.out _ S0).mono ?_; rintro e w3 ⟨rfl, hb3⟩; replace hb3 : Below W.heap.size W w3 := ⟨hb3.os, hb3.tape, hb3.output, hb3.size, hb3.block⟩))
  all_goals
    go_wp2
    go_ret
    exact ⟨by first | rfl | (simp; done), by assumption⟩
theorem catch_idle (p : Addr) (w : World) :
    CallsD Try.prog 67 #[.pointer (some p)] .returning w fun e u' w' => e = .returned (.tuple #[]) ∧ u' = .returning ∧ w' = w := by
  refine callsD_of_wpS Try.func67 rfl fun c₀ cs hu => ?_
  apply wpS_seq
  apply wpS_region
  simp [wpOpsS, go_sem, recoverD, hu, Try.ntmps67, Exit.thenS]
  refine wpS_cond (t := false) (by simp [Act.eval, Array.replicate]) ?_
  simp only [Bool.false_eq_true, if_false]
  refine wpS_of_wp (wp_skip ?_)
  cases c₀
  simp_all [bodyPostS, results, Try.results67]

set_option maxRecDepth 100000 in
set_option maxHeartbeats 800000 in
theorem before_any (b : Nat) (x y : LsX) (hx : GoodL P x) (hy : GoodL P y) (w : World) (hf : w.cell? ⟨b, 2, none⟩ = some (.func (.func 27) #[] #[.pointer (some ⟨P.ac, 0, none⟩)])) (hbase : Below P.W0.heap.size P.W0 w) :
    Calls Try.prog 63 #[.pointer (some ⟨b, 0, none⟩), .slice x.A x.n x.c, .slice y.A y.n y.c] w fun e w' => e = .returned (.bool (decide (keyM P x < keyM P y))) ∧ Below w.heap.size w w' := by
  have hmf : ∀ (fn : Fn) (first cap : Array Value) (w : World), (Instr.makeFunc fn first cap).run Try.prog w = .ok (.func fn first cap) w := fun _ _ _ _ => rfl
  have hlt := block_lt_of_cell hf
  obtain ⟨g, hg⟩ : ∃ g, w.heap.size = g := ⟨_, rfl⟩
  obtain ⟨w1, hw1⟩ : ∃ z, w.alloc (.cells #[.bool false] 4) = z := ⟨_, rfl⟩
  have B1 : Blk w1 g 4 #[.bool false] := by rw [← hw1, ← hg]; exact Blk.new _ _ _
  have hb1 : Below w.heap.size w w1 := by rw [← hw1]; exact (Below.refl _ _).alloc (Nat.le_refl _) _
  have TN := Lib.hid (less_any x y hx hy w1 (hop hbase (Nat.le_refl _) hb1))
  obtain ⟨z, hz⟩ : ∃ z, decide (keyM P x < keyM P y) = z := ⟨_, rfl⟩
  replace TN := TN.out
  rw [hz] at TN ⊢
  replace TN := Lib.hid TN
  have f1 : w1.cell? ⟨b, 2, none⟩ = some (.func (.func 27) #[] #[.pointer (some ⟨P.ac, 0, none⟩)]) := (hb1.cell (p := ⟨b, 2, none⟩) hlt).trans hf
  have hgw : w.heap.size ≤ g := by omega
  have HG := Lib.hid hgw
  have HB1 := Lib.hid hb1
  have HBB := Lib.hid B1
  obtain ⟨ac, hac⟩ : ∃ z, P.ac = z := ⟨_, rfl⟩
  rw [hac] at f1 TN
  clear hz hf hlt hb1 B1 hgw hbase hx hy hac
  go_enter_defers Try.func63, Try.ntmps63
  go_wp2_with fail
  clear hg hw1
  refine (TN.out).mono ?_
  rintro e w2 ⟨rfl, hx⟩
  have B2 := HBB.out.below hx HBB.out.lt
  have k0 : w2.cell? ⟨g, 0, none⟩ = some (.bool false) := (B2.cell 0).trans rfl
  have z0 := B2.frozen 0
  have HB2 := Lib.hid (hop HB1.out (Nat.le_refl _) hx)
  clear f1 HB1 HBB hx B2
  go_wp2
  refine leaves_cons (f := 67) (args := #[.pointer (some ⟨g, 0, none⟩)]) (by simp) (by simp [go_sem]) ?_
  refine (catch_idle ⟨g, 0, none⟩ _).mono ?_
  rintro e u' w'' ⟨rfl, rfl, rfl⟩
  have h2 : (w2.setCell ⟨g, 0, none⟩ (.bool z)).cell? ⟨g, 0, none⟩ = some (.bool z) := World.cell?_setCell_same _ _ _ k0
  have HB3 := Lib.hid (HB2.out.setCell (p := ⟨g, 0, none⟩) HG.out (.bool z))
  clear k0 z0 HB2
  simp [Leaves, settle, results, Try.results63, go_sem, h2]
  exact HB3.out
end Go.Proofs.Ytilcanblgdmecaa
