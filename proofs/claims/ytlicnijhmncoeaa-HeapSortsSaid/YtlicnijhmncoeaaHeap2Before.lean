/- What a heap's less tells, behind a call that catches panics: the walk of before. -/
import Derived.Test.YtlicnijhmncoeaaProg
import Derived.WalkKit
import Derived.Test.YtlicnijhmncoeaaHeapMath
import Derived.Defers
import Derived.Recover
import Derived.Laws.Pointers
import Derived.BigRegion
import Derived.Deep.RegionLaw
import Derived.Deep.RegionHeld3
namespace Go.Proofs.Ytlicnijhmncoeaa.T2
open Go.RowKit
set_option linter.unusedVariables false
set_option linter.unusedSimpArgs false

structure TwoX where
  s : ByteArray
  n : Int
instance : Inhabited TwoX := ⟨⟨.empty, 0⟩⟩
def tenK (a : TwoX) : Int := (a.s.size : Int)
def twoV (a : TwoX) : Value := .agg #[.string a.s, .int .i64 a.n]
def GoodT (a : TwoX) : Prop := a.s.size ≤ 9223372036854775807 ∧ -9223372036854775808 ≤ a.n ∧ a.n ≤ 9223372036854775807
theorem tens_any (a b : TwoX) (ha : GoodT a) (hb : GoodT b) (W : World) :
    Calls Try.prog 19 #[.agg #[.string a.s, .int .i64 a.n], .agg #[.string b.s, .int .i64 b.n]] W fun e w' => e = .returned (.bool (decide (tenK a < tenK b))) ∧ Below W.heap.size W w' := by
  obtain ⟨h1, _⟩ := ha
  obtain ⟨h2, _⟩ := hb
  unfold tenK
  have HB := Lib.hid (((Below.refl W.heap.size W).alloc (Nat.le_refl _) (.cells #[.string a.s, .int .i64 a.n] 43)).alloc (((Below.refl W.heap.size W).alloc (Nat.le_refl _) (.cells #[.string a.s, .int .i64 a.n] 43)).size) (.cells #[.string b.s, .int .i64 b.n] 43))
  go_enter Try.func19, Try.ntmps19
  go_wp2
  go_ret
  exact ⟨by first | rfl | (simp; done), HB.out⟩
def lessV : Value := .func (.func 19) #[] #[]
theorem catch_idle (p : Addr) (w : World) :
    CallsD Try.prog 73 #[.pointer (some p)] .returning w fun e u' w' => e = .returned (.tuple #[]) ∧ u' = .returning ∧ w' = w := by
  refine callsD_of_wpS Try.func73 rfl fun c₀ cs hu => ?_
  apply wpS_seq
  apply wpS_region
  simp [wpOpsS, go_sem, recoverD, hu, Try.ntmps73, Exit.thenS]
  refine wpS_cond (t := false) (by simp [Act.eval, Array.replicate]) ?_
  simp only [Bool.false_eq_true, if_false]
  refine wpS_of_wp (wp_skip ?_)
  cases c₀
  simp_all [bodyPostS, results, Try.results73]

set_option maxRecDepth 100000 in
set_option maxHeartbeats 1600000 in
theorem before_any (b : Nat) (x y : TwoX) (hx : GoodT x) (hy : GoodT y) (w : World) (hf : w.cell? ⟨b, 2, none⟩ = some (.func (.func 19) #[] #[])) :
    Calls Try.prog 69 #[.pointer (some ⟨b, 0, none⟩), .agg #[.string x.s, .int .i64 x.n], .agg #[.string y.s, .int .i64 y.n]] w fun e w' => e = .returned (.bool (decide (tenK x < tenK y))) ∧ Below w.heap.size w w' := by
  have hmf : ∀ (fn : Fn) (first cap : Array Value) (w : World), (Instr.makeFunc fn first cap).run Try.prog w = .ok (.func fn first cap) w := fun _ _ _ _ => rfl
  have TN := fun w => tens_any x y hx hy w
  obtain ⟨z, hz⟩ : ∃ z, decide (tenK x < tenK y) = z := ⟨_, rfl⟩
  simp only [hz] at TN
  rw [hz]
  replace TN := Lib.hid TN
  obtain ⟨xs, xn⟩ := x
  obtain ⟨ys, yn⟩ := y
  dsimp only at TN ⊢
  have hlt := block_lt_of_cell hf
  obtain ⟨gx, hgx⟩ : ∃ g, w.heap.size = g := ⟨_, rfl⟩
  obtain ⟨w1, hw1⟩ : ∃ z, w.alloc (.cells #[.string xs, .int .i64 xn] 43) = z := ⟨_, rfl⟩
  have X1 : Blk w1 gx 43 #[.string xs, .int .i64 xn] := by rw [← hw1, ← hgx]; exact Blk.new _ _ _
  have hb1 : Below w.heap.size w w1 := by rw [← hw1]; exact (Below.refl _ _).alloc (Nat.le_refl _) _
  obtain ⟨gy, hgy⟩ : ∃ g, w1.heap.size = g := ⟨_, rfl⟩
  obtain ⟨w2, hw2⟩ : ∃ z, w1.alloc (.cells #[.string ys, .int .i64 yn] 43) = z := ⟨_, rfl⟩
  have Y2 : Blk w2 gy 43 #[.string ys, .int .i64 yn] := by rw [← hw2, ← hgy]; exact Blk.new _ _ _
  have hb12 : Below w1.heap.size w1 w2 := by rw [← hw2]; exact (Below.refl _ _).alloc (Nat.le_refl _) _
  have X2 := X1.below hb12 X1.lt
  have hb2 := hop hb1 (Nat.le_refl _) hb12
  obtain ⟨g, hg⟩ : ∃ g, w2.heap.size = g := ⟨_, rfl⟩
  obtain ⟨w3, hw3⟩ : ∃ z, w2.alloc (.cells #[.bool false] 4) = z := ⟨_, rfl⟩
  have B3 : Blk w3 g 4 #[.bool false] := by rw [← hw3, ← hg]; exact Blk.new _ _ _
  have hb23 : Below w2.heap.size w2 w3 := by rw [← hw3]; exact (Below.refl _ _).alloc (Nat.le_refl _) _
  have X3 := X2.below hb23 X2.lt
  have Y3 := Y2.below hb23 Y2.lt
  have hb3 := hop hb2 (Nat.le_refl _) hb23
  have hwg : w.heap.size ≤ g := by rw [← hg]; exact hb2.size
  have f3 : w3.cell? ⟨b, 2, none⟩ = some (.func (.func 19) #[] #[]) := (hb3.cell (p := ⟨b, 2, none⟩) hlt).trans hf
  have hngx : gx ≠ g := by have := X2.lt; omega
  have hngy : gy ≠ g := by have := Y2.lt; omega
  have hnb : b ≠ g := by have : b < w.heap.size := hlt; omega
  have x0 : w3.cell? ⟨gx, 0, none⟩ = some (.string xs) := (X3.cell 0).trans rfl
  have x1 : w3.cell? ⟨gx, 1, none⟩ = some (.int .i64 xn) := (X3.cell 1).trans rfl
  have y0 : w3.cell? ⟨gy, 0, none⟩ = some (.string ys) := (Y3.cell 0).trans rfl
  have y1 : w3.cell? ⟨gy, 1, none⟩ = some (.int .i64 yn) := (Y3.cell 1).trans rfl
  have k0 : w3.cell? ⟨g, 0, none⟩ = some (.bool false) := (B3.cell 0).trans rfl
  have HS := Lib.hid (fun (wa wb : World) (hS : Below w.heap.size w wa ∧ wa.cell? ⟨b, 2, none⟩ = some (.func (.func 19) #[] #[]) ∧ wa.cell? ⟨gx, 0, none⟩ = some (.string xs) ∧ wa.cell? ⟨gx, 1, none⟩ = some (.int .i64 xn) ∧ wa.cell? ⟨gy, 0, none⟩ = some (.string ys) ∧ wa.cell? ⟨gy, 1, none⟩ = some (.int .i64 yn)) (h : Below wa.heap.size wa wb) => show Below w.heap.size w wb ∧ wb.cell? ⟨b, 2, none⟩ = some (.func (.func 19) #[] #[]) ∧ wb.cell? ⟨gx, 0, none⟩ = some (.string xs) ∧ wb.cell? ⟨gx, 1, none⟩ = some (.int .i64 xn) ∧ wb.cell? ⟨gy, 0, none⟩ = some (.string ys) ∧ wb.cell? ⟨gy, 1, none⟩ = some (.int .i64 yn) from by
    obtain ⟨s0, s1, s2, s3, s4, s5⟩ := hS
    exact ⟨hop s0 (Nat.le_refl _) h, (h.cell (p := ⟨b, 2, none⟩) (block_lt_of_cell s1)).trans s1, (h.cell (p := ⟨gx, 0, none⟩) (block_lt_of_cell s2)).trans s2, (h.cell (p := ⟨gx, 1, none⟩) (block_lt_of_cell s3)).trans s3, (h.cell (p := ⟨gy, 0, none⟩) (block_lt_of_cell s4)).trans s4, (h.cell (p := ⟨gy, 1, none⟩) (block_lt_of_cell s5)).trans s5⟩)
  have HST := Lib.hid (fun (wa : World) (u : Value) (hS : Below w.heap.size w wa ∧ wa.cell? ⟨b, 2, none⟩ = some (.func (.func 19) #[] #[]) ∧ wa.cell? ⟨gx, 0, none⟩ = some (.string xs) ∧ wa.cell? ⟨gx, 1, none⟩ = some (.int .i64 xn) ∧ wa.cell? ⟨gy, 0, none⟩ = some (.string ys) ∧ wa.cell? ⟨gy, 1, none⟩ = some (.int .i64 yn)) => show Below w.heap.size w (wa.setCell ⟨g, 0, none⟩ u) ∧ (wa.setCell ⟨g, 0, none⟩ u).cell? ⟨b, 2, none⟩ = some (.func (.func 19) #[] #[]) ∧ (wa.setCell ⟨g, 0, none⟩ u).cell? ⟨gx, 0, none⟩ = some (.string xs) ∧ (wa.setCell ⟨g, 0, none⟩ u).cell? ⟨gx, 1, none⟩ = some (.int .i64 xn) ∧ (wa.setCell ⟨g, 0, none⟩ u).cell? ⟨gy, 0, none⟩ = some (.string ys) ∧ (wa.setCell ⟨g, 0, none⟩ u).cell? ⟨gy, 1, none⟩ = some (.int .i64 yn) from by
    obtain ⟨s0, s1, s2, s3, s4, s5⟩ := hS
    have far : ∀ (m j : Nat) (y : Value), m ≠ g → wa.cell? ⟨m, j, none⟩ = some y → (wa.setCell ⟨g, 0, none⟩ u).cell? ⟨m, j, none⟩ = some y := fun m j y hm hy => (World.cell?_of_block (Below.heap_setCell wa ⟨g, 0, none⟩ u m hm)).trans hy
    exact ⟨s0.setCell (p := ⟨g, 0, none⟩) hwg u, far _ _ _ hnb s1, far _ _ _ hngx s2, far _ _ _ hngx s3, far _ _ _ hngy s4, far _ _ _ hngy s5⟩)
  have S0 := HS.out w3 w3.drew ⟨hb3, f3, x0, x1, y0, y1⟩ (below_drewN (Below.refl _ _) 1)
  have hB := Lib.hid (B3.drewN 1)
  clear hz hf hlt X1 hb1 Y2 hb12 X2 hb2 B3 hb23 X3 Y3 hb3 hwg f3 x0 x1 y0 y1 k0 hx hy
  go_enter_defers Try.func69, Try.ntmps69
  go_wp2_with fail
  clear hgx hw1 hgy hw2 hg hw3
  refine wp_region_noPanic ?_
  refine wp_region_held_drew (S := fun w' => Below w.heap.size w w' ∧ w'.cell? ⟨b, 2, none⟩ = some (.func (.func 19) #[] #[]) ∧ w'.cell? ⟨gx, 0, none⟩ = some (.string xs) ∧ w'.cell? ⟨gx, 1, none⟩ = some (.int .i64 xn) ∧ w'.cell? ⟨gy, 0, none⟩ = some (.string ys) ∧ w'.cell? ⟨gy, 1, none⟩ = some (.int .i64 yn)) (by kernel_rfl) S0 (fun hHeld => ?_)
  refine wpAnyH_take (i := 0) (oi := { dst := some 8, op := Go.Op.move (Go.Operand.tmp 0), type := 44, pos := "heap.go:90", after := #[], guard := none }) (v := ?_) rfl (by kernel_rfl) (by kernel_rfl) (by kernel_rfl) (fun _ _ _ h => h) (Or.inl ⟨by kernel_rfl, ?_⟩) (by assumption) ?_
  rotate_left
  · intro w _
    first | (go_simp; done) | (go_simp; with_reducible rfl)
  try simp only [Act.put, List.setIfInBounds_toArray, List.set_cons_zero, List.set_cons_succ]
  refine wpAnyH_take (i := 1) (oi := { dst := some 9, op := Go.Op.nilCheck (Go.Operand.tmp 8), type := 0, pos := "heap.go:90", after := #[{ on := 0, ground := Go.Ground.data }], guard := none }) (v := ?_) rfl (by kernel_rfl) (by kernel_rfl) (by kernel_rfl) (fun _ _ _ h => h) (Or.inl ⟨by kernel_rfl, ?_⟩) (by assumption) ?_
  rotate_left
  · intro w _
    first | (go_simp; done) | (go_simp; with_reducible rfl)
  try simp only [Act.put, List.setIfInBounds_toArray, List.set_cons_zero, List.set_cons_succ]
  refine wpAnyH_take (i := 2) (oi := { dst := some 10, op := Go.Op.fieldAddr 84 (Go.Operand.tmp 9) 1, type := 0, pos := "heap.go:90", after := #[{ on := 1, ground := Go.Ground.data }], guard := none }) (v := ?_) rfl (by kernel_rfl) (by kernel_rfl) (by kernel_rfl) (fun _ _ _ h => h) (Or.inl ⟨by kernel_rfl, ?_⟩) (by assumption) ?_
  rotate_left
  · intro w _
    first | (go_simp; done) | (go_simp; with_reducible rfl)
  try simp only [Act.put, List.setIfInBounds_toArray, List.set_cons_zero, List.set_cons_succ]
  refine wpAnyH_take (i := 3) (oi := { dst := some 11, op := Go.Op.load 46 (Go.Operand.tmp 10), type := 46, pos := "heap.go:90", after := #[{ on := 2, ground := Go.Ground.data }], guard := none }) (v := ?_) rfl (by kernel_rfl) (by kernel_rfl) (by kernel_rfl) (fun _ _ _ h => h) (Or.inl ⟨by kernel_rfl, ?_⟩) (by assumption) ?_
  rotate_left
  · intro w hSw
    (try dsimp only at hSw)
    go_split_ands
    first | (go_simp; done) | (go_simp; with_reducible rfl)
  try simp only [Act.put, List.setIfInBounds_toArray, List.set_cons_zero, List.set_cons_succ]
  refine wpAnyH_take (i := 4) (oi := { dst := some 12, op := Go.Op.load 43 (Go.Operand.tmp 4), type := 43, pos := "heap.go:90", after := #[], guard := none }) (v := ?_) rfl (by kernel_rfl) (by kernel_rfl) (by kernel_rfl) (fun _ _ _ h => h) (Or.inl ⟨by kernel_rfl, ?_⟩) (by assumption) ?_
  rotate_left
  · intro w hSw
    (try dsimp only at hSw)
    go_split_ands
    first | (go_simp; done) | (go_simp; with_reducible rfl)
  try simp only [Act.put, List.setIfInBounds_toArray, List.set_cons_zero, List.set_cons_succ]
  refine wpAnyH_take (i := 5) (oi := { dst := some 13, op := Go.Op.load 43 (Go.Operand.tmp 5), type := 43, pos := "heap.go:90", after := #[], guard := none }) (v := ?_) rfl (by kernel_rfl) (by kernel_rfl) (by kernel_rfl) (fun _ _ _ h => h) (Or.inl ⟨by kernel_rfl, ?_⟩) (by assumption) ?_
  rotate_left
  · intro w hSw
    (try dsimp only at hSw)
    go_split_ands
    first | (go_simp; done) | (go_simp; with_reducible rfl)
  try simp only [Act.put, List.setIfInBounds_toArray, List.set_cons_zero, List.set_cons_succ]
  refine wpAnyH_ready (rs := [6]) (by kernel_rfl) (by simp) ?_
  refine AllReadyH.cons (o := { dst := some 14, op := Go.Op.call { callee := Go.Callee.value (Go.Operand.tmp 11), args := #[Go.Operand.tmp 12, Go.Operand.tmp 13], argTypes := #[43, 43] }, type := 4, pos := "heap.go:90", after := #[{ on := 3, ground := Go.Ground.data }, { on := 4, ground := Go.Ground.data }, { on := 5, ground := Go.Ground.data }], guard := none }) rfl (fun K hK => ?_) AllReadyH.nil
  go_simp
  go_at_call 19
  refine (TN.out _).mono ?_
  rintro e w5 ⟨rfl, hb5⟩
  have S5 := HS.out _ _ (by assumption) hb5
  have hB5 : Hid (Blk w5 g 4 #[.bool false]) := Lib.hid (Blk.below hB.out hb5 (Blk.lt hB.out))
  clear hb5
  refine hK.out _ _ S5 (fun _ => ?_)
  clear hK K
  try simp only [Act.put, List.setIfInBounds_toArray, List.set_cons_zero, List.set_cons_succ]
  refine wpAnyH_ready (rs := [7]) (by kernel_rfl) (by simp) ?_
  refine AllReadyH.cons (o := { dst := none, op := Go.Op.store 4 (Go.Operand.tmp 6) (Go.Operand.tmp 14), type := 0, pos := "heap.go:90", after := #[{ on := 6, ground := Go.Ground.data }, { on := 6, ground := Go.Ground.chain }, { on := 0, ground := Go.Ground.phase }, { on := 1, ground := Go.Ground.phase }, { on := 2, ground := Go.Ground.phase }, { on := 3, ground := Go.Ground.phase }, { on := 4, ground := Go.Ground.phase }, { on := 5, ground := Go.Ground.phase }, { on := 6, ground := Go.Ground.phase }], guard := none }) rfl (fun K hK => ?_) AllReadyH.nil
  have k0 : w5.cell? ⟨g, 0, none⟩ = some (.bool false) := (hB5.out.cell 0).trans rfl
  have z0 := hB5.out.frozen 0
  go_simp
  refine hK.out _ _ (HST.out w5 _ S5) (fun _ => ?_)
  clear hK K
  try simp only [Act.put, List.setIfInBounds_toArray, List.set_cons_zero, List.set_cons_succ]
  refine wpAnyH_done (by kernel_rfl) ?_ _
  refine NoPanic.normal ?_
  have HB2 := Lib.hid ((HST.out w5 (.bool z) S5).1)
  have h2 : (w5.setCell ⟨g, 0, none⟩ (.bool z)).cell? ⟨g, 0, none⟩ = some (.bool z) := World.cell?_setCell_same _ _ _ k0
  clear S5 hB5 hB k0 z0
  go_wp2
  refine leaves_cons (f := 73) (args := #[.pointer (some ⟨g, 0, none⟩)]) (by simp) (by simp [go_sem]) ?_
  refine (catch_idle ⟨g, 0, none⟩ _).mono ?_
  rintro e u' w'' ⟨rfl, rfl, rfl⟩
  simp [Leaves, settle, results, Try.results69, go_sem, h2]
  exact HB2.out
end Go.Proofs.Ytlicnijhmncoeaa.T2
