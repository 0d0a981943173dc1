/- A cursor by its parts, as the law takes it: the walk of spot.
   A cursor by its parts, opened out of what comes in. -/
import Derived.Test.YtfamcebgcpaolaaGreatDoorCurGet
import Derived.Test.YtfamcebgcpaolaaGreatDoorEntBackMath
namespace Go.Proofs.YtfamcebgcpaolaaGreatDoor
open Go.RowKit
set_option linter.unusedVariables false
set_option linter.unusedSimpArgs false

structure SpotX where
  c : CurX
  own : Bool
  e : ItemX
def SpotX.V (x : SpotX) : List Value := [.int .u64 (x.c.dg : Int), .int .i64 x.c.ln, .int .i64 x.c.by_, .int .i64 x.c.e.ts, .slice x.c.e.A x.c.e.n x.c.e.c, .string x.c.e.ln, .bool x.own, .int .i64 x.e.e.ts, .slice x.e.e.A x.e.e.n x.e.e.c, .string x.e.e.ln, .bool x.e.own, .int .i8 x.e.t, .slice x.e.LA x.e.Ln x.e.Lc, .int .u8 (x.e.k : Int)]
def SpotX.val (x : SpotX) : Value := .agg #[.int .u64 (x.c.dg : Int), .int .i64 x.c.ln, .int .i64 x.c.by_, .int .i64 x.c.e.ts, .slice x.c.e.A x.c.e.n x.c.e.c, .string x.c.e.ln, .bool x.own, .int .i64 x.e.e.ts, .slice x.e.e.A x.e.e.n x.e.e.c, .string x.e.e.ln, .bool x.e.own, .int .i8 x.e.t, .slice x.e.LA x.e.Ln x.e.Lc, .int .u8 (x.e.k : Int)]
structure GoodS (B : Nat) (w : World) (x : SpotX) : Prop where
  cur : Good B w x.c.e
  item : GoodI B w x.e
  dg : x.c.dg < 18446744073709551616
  l0 : -9223372036854775808 ≤ x.c.ln
  l1 : x.c.ln ≤ 9223372036854775807
  b0 : -9223372036854775808 ≤ x.c.by_
  b1 : x.c.by_ ≤ 9223372036854775807
theorem GoodS.below {B : Nat} {w w' : World} {x : SpotX} (h : GoodS B w x) (hb : Below w.heap.size w w') : GoodS B w' x := ⟨h.cur.below hb, h.item.below hb, h.dg, h.l0, h.l1, h.b0, h.b1⟩
/-- what is left over of a number without its sign -/
def leftN (z m : Int) : Int := IntKind.u64.wrap z % m
def spotB (x : SpotX) : CurB := ⟨x.c.dg, if x.own = true then leftN x.c.ln 100 else x.c.ln, if x.own = true then leftN x.c.by_ 1000 else x.c.by_, itemB x.e⟩
theorem leftN_in (z m : Int) (hm : 0 < m) : 0 ≤ leftN z m ∧ leftN z m < m := ⟨Int.emod_nonneg _ (by omega), Int.emod_lt_of_pos _ hm⟩
structure CurTwo (W0 w : World) (g : Nat) (cs : Array Value) (g' : Nat) (cs' : Array Value) (x : EntX) : Prop where
  b1 : Blk w g 29 cs
  b2 : Blk w g' 29 cs'
  good : Good W0.heap.size w x
  below : Below W0.heap.size W0 w
  f1 : W0.heap.size ≤ g
  f2 : W0.heap.size ≤ g'
  ne : g ≠ g'
theorem CurTwo.set {W0 w : World} {g : Nat} {cs : Array Value} {g' : Nat} {cs' : Array Value} {x : EntX} (h : CurTwo W0 w g cs g' cs' x) (i : Nat) (u : Value) : CurTwo W0 (w.setCell ⟨g, i, none⟩ u) g (cs.setIfInBounds i u) g' cs' x :=
  ⟨h.b1.set_ i u, h.b2.far (p := ⟨g, i, none⟩) h.ne.symm u, ⟨set_by h.good.set h.b1 cur_not_pair h.f1 u, h.good.len, h.good.lo, h.good.hi⟩, h.below.setCell (p := ⟨g, i, none⟩) h.f1 _, h.f1, h.f2, h.ne⟩
theorem CurTwo.set' {W0 w : World} {g : Nat} {cs : Array Value} {g' : Nat} {cs' : Array Value} {x : EntX} (h : CurTwo W0 w g cs g' cs' x) (i : Nat) (u : Value) : CurTwo W0 (w.setCell ⟨g', i, none⟩ u) g cs g' (cs'.setIfInBounds i u) x :=
  ⟨h.b1.far (p := ⟨g', i, none⟩) h.ne u, h.b2.set_ i u, ⟨set_by h.good.set h.b2 cur_not_pair h.f2 u, h.good.len, h.good.lo, h.good.hi⟩, h.below.setCell (p := ⟨g', i, none⟩) h.f2 _, h.f1, h.f2, h.ne⟩

set_option maxRecDepth 100000 in
set_option maxHeartbeats 3200000 in
theorem spot_any (x : SpotX) (W : World) (h : GoodS W.heap.size W x) :
    Calls Tryz.prog 7 #[x.val] W fun e w' => ∃ c : CurX, e = .returned c.val ∧ c.b = spotB x ∧ Good W.heap.size w' c.e ∧ Below W.heap.size W w' := by
  have h0 : W.heap.size ≤ W.heap.size := Nat.le_refl _
  have IT := Lib.hid (fun w h => item_any W.heap.size x.e w h)
  obtain ⟨hcur, hitem, hdg, hl0, hl1, hb0, hb1⟩ := h
  obtain ⟨⟨dg, ln, by_, ⟨ts, A, n, c, ls, l1⟩⟩, own, ⟨⟨ts2, A2, n2, c2, ls2, l2⟩, own2, t, LA, Ln, Lc, lt, k⟩⟩ := x
  have HE := Lib.hid (show spotB ⟨⟨dg, ln, by_, ⟨ts, A, n, c, ls, l1⟩⟩, own, ⟨⟨ts2, A2, n2, c2, ls2, l2⟩, own2, t, LA, Ln, Lc, lt, k⟩⟩ = (⟨dg, if own = true then leftN ln 100 else ln, if own = true then leftN by_ 1000 else by_, itemB ⟨⟨ts2, A2, n2, c2, ls2, l2⟩, own2, t, LA, Ln, Lc, lt, k⟩⟩ : CurB) from rfl)
  obtain ⟨Z, hZ⟩ : ∃ Z, spotB ⟨⟨dg, ln, by_, ⟨ts, A, n, c, ls, l1⟩⟩, own, ⟨⟨ts2, A2, n2, c2, ls2, l2⟩, own2, t, LA, Ln, Lc, lt, k⟩⟩ = Z := ⟨_, rfl⟩
  rw [hZ] at HE ⊢
  dsimp only [SpotX.val] at hdg hl0 hl1 hb0 hb1 ⊢
  replace IT := IT.out
  dsimp only [ItemX.val] at IT
  replace IT := Lib.hid IT
  have HI := Lib.hid hitem
  have hdgI : (dg : Int) < 18446744073709551616 := by omega
  obtain ⟨M, hM⟩ : ∃ M, IntKind.u64.wrap ln = M := ⟨_, rfl⟩
  obtain ⟨N, hN⟩ : ∃ M, IntKind.u64.wrap by_ = M := ⟨_, rfl⟩
  have hM0 : 0 ≤ M := by rw [← hM, IntKind.wrap_u64]; omega
  have hN0 : 0 ≤ N := by rw [← hN, IntKind.wrap_u64]; omega
  have hr : leftN ln 100 = M % 100 := by unfold leftN; rw [hM]
  have hs : leftN by_ 1000 = N % 1000 := by unfold leftN; rw [hN]
  obtain ⟨r, hr2⟩ : ∃ r, M % 100 = r := ⟨_, rfl⟩
  obtain ⟨s, hs2⟩ : ∃ r, N % 1000 = r := ⟨_, rfl⟩
  have r0 : 0 ≤ r := by omega
  have r1 : r < 100 := by omega
  have s0 : 0 ≤ s := by omega
  have s1 : s < 1000 := by omega
  have hr3 : M.tmod 100 = r := by rw [Int.tmod_eq_emod_of_nonneg hM0]; exact hr2
  have hs3 : N.tmod 1000 = s := by rw [Int.tmod_eq_emod_of_nonneg hN0]; exact hs2
  have wr : IntKind.i64.wrap r = r := by rw [IntKind.wrap_i64]; omega
  have ws : IntKind.i64.wrap s = s := by rw [IntKind.wrap_i64]; omega
  rw [hr2] at hr
  rw [hs2] at hs
  have HR := Lib.hid hr
  have HS := Lib.hid hs
  clear hZ hcur hitem hr hs
  go_enter Tryz.func7, Tryz.ntmps7
  obtain ⟨g1, hg1⟩ : ∃ g, W.heap.size = g := ⟨_, rfl⟩
  obtain ⟨g2, hg2⟩ : ∃ g, g1 + 1 = g := ⟨_, rfl⟩
  obtain ⟨g3, hg3⟩ : ∃ g, g2 + 1 = g := ⟨_, rfl⟩
  obtain ⟨wA, hA⟩ : ∃ w, W.alloc (.cells #[.int .u64 (dg : Int), .int .i64 ln, .int .i64 by_, .int .i64 ts, .slice A n c, .string l1, .bool own, .int .i64 ts2, .slice A2 n2 c2, .string l2, .bool own2, .int .i8 t, .slice LA Ln Lc, .int .u8 (k : Int)] 35) = w := ⟨_, rfl⟩
  have BA : Blk wA g1 35 #[.int .u64 (dg : Int), .int .i64 ln, .int .i64 by_, .int .i64 ts, .slice A n c, .string l1, .bool own, .int .i64 ts2, .slice A2 n2 c2, .string l2, .bool own2, .int .i8 t, .slice LA Ln Lc, .int .u8 (k : Int)] := by rw [← hA, ← hg1]; exact Blk.new W _ _
  have hbA : Below W.heap.size W wA := by rw [← hA]; exact (Below.refl _ _).alloc h0 _
  have hzA : wA.heap.size = g2 := by rw [← hA, ← hg2, ← hg1]; simp
  obtain ⟨wB, hB⟩ : ∃ w, wA.alloc (.cells #[.int .u64 0, .int .i64 0, .int .i64 0, .int .i64 0, .slice none 0 0, .string ⟨#[]⟩] 29) = w := ⟨_, rfl⟩
  have BB : Blk wB g2 29 #[.int .u64 0, .int .i64 0, .int .i64 0, .int .i64 0, .slice none 0 0, .string ⟨#[]⟩] := by rw [← hB, ← hzA]; exact Blk.new _ _ _
  have BA2 : Blk wB g1 35 #[.int .u64 (dg : Int), .int .i64 ln, .int .i64 by_, .int .i64 ts, .slice A n c, .string l1, .bool own, .int .i64 ts2, .slice A2 n2 c2, .string l2, .bool own2, .int .i8 t, .slice LA Ln Lc, .int .u8 (k : Int)] := by rw [← hB]; exact BA.alloc _
  have hbB : Below W.heap.size W wB := by rw [← hB]; exact hbA.alloc hbA.size _
  have hzB : wB.heap.size = g3 := by rw [← hB, ← hg3, ← hzA]; simp
  obtain ⟨wC, hC⟩ : ∃ w, wB.alloc (.cells #[.int .u64 (dg : Int), .int .i64 ln, .int .i64 by_, .int .i64 ts, .slice A n c, .string l1] 29) = w := ⟨_, rfl⟩
  have BC : Blk wC g3 29 #[.int .u64 (dg : Int), .int .i64 ln, .int .i64 by_, .int .i64 ts, .slice A n c, .string l1] := by rw [← hC, ← hzB]; exact Blk.new _ _ _
  have BB3 : Blk wC g2 29 #[.int .u64 0, .int .i64 0, .int .i64 0, .int .i64 0, .slice none 0 0, .string ⟨#[]⟩] := by rw [← hC]; exact BB.alloc _
  have BA3 : Blk wC g1 35 #[.int .u64 (dg : Int), .int .i64 ln, .int .i64 by_, .int .i64 ts, .slice A n c, .string l1, .bool own, .int .i64 ts2, .slice A2 n2 c2, .string l2, .bool own2, .int .i8 t, .slice LA Ln Lc, .int .u8 (k : Int)] := by rw [← hC]; exact BA2.alloc _
  have hbC : Below W.heap.size W wC := by rw [← hC]; exact hbB.alloc hbB.size _
  have a0 : wB.cell? ⟨g1, 0, none⟩ = some (.int .u64 (dg : Int)) := (BA2.cell 0).trans rfl
  have a1 : wB.cell? ⟨g1, 1, none⟩ = some (.int .i64 ln) := (BA2.cell 1).trans rfl
  have a2 : wB.cell? ⟨g1, 2, none⟩ = some (.int .i64 by_) := (BA2.cell 2).trans rfl
  have a3 : wB.cell? ⟨g1, 3, none⟩ = some (.int .i64 ts) := (BA2.cell 3).trans rfl
  have a4 : wB.cell? ⟨g1, 4, none⟩ = some (.slice A n c) := (BA2.cell 4).trans rfl
  have a5 : wB.cell? ⟨g1, 5, none⟩ = some (.string l1) := (BA2.cell 5).trans rfl
  have c7 : wC.cell? ⟨g1, 7, none⟩ = some (.int .i64 ts2) := (BA3.cell 7).trans rfl
  have c8 : wC.cell? ⟨g1, 8, none⟩ = some (.slice A2 n2 c2) := (BA3.cell 8).trans rfl
  have c9 : wC.cell? ⟨g1, 9, none⟩ = some (.string l2) := (BA3.cell 9).trans rfl
  have c10 : wC.cell? ⟨g1, 10, none⟩ = some (.bool own2) := (BA3.cell 10).trans rfl
  have c11 : wC.cell? ⟨g1, 11, none⟩ = some (.int .i8 t) := (BA3.cell 11).trans rfl
  have c12 : wC.cell? ⟨g1, 12, none⟩ = some (.slice LA Ln Lc) := (BA3.cell 12).trans rfl
  have c13 : wC.cell? ⟨g1, 13, none⟩ = some (.int .u8 (k : Int)) := (BA3.cell 13).trans rfl
  have HBA := Lib.hid BA3
  have HBB := Lib.hid BB3
  have HBC := Lib.hid BC
  have Hbc := Lib.hid hbC
  have HIC := Lib.hid (HI.out.below hbC)
  have HN := Lib.hid (show W.heap.size ≤ g2 ∧ W.heap.size ≤ g3 ∧ g2 ≠ g3 ∧ g3 ≠ g1 by omega)
  clear BA BB BA2 BB3 BA3 BC hbA hbB hbC
  go_wp2_with fail
  clear hA hB hC hzA hzB a0 a1 a2 a3 a4 a5 c7 c8 c9 c10 c11 c12 c13 hg1 hg2 hg3
  refine (IT.out _ HIC.out).mono ?_
  rintro e w4 ⟨a, rfl, ha, ga, hx⟩
  have BA := HBA.out.below hx HBA.out.lt
  have HH := Lib.hid (CurTwo.mk (HBB.out.below hx HBB.out.lt) (HBC.out.below hx HBC.out.lt) ga (hop Hbc.out h0 hx) HN.out.1 HN.out.2.1 HN.out.2.2.1)
  have B2 := HH.out.b1
  have B3 := HH.out.b2
  obtain ⟨_, _, _, hne⟩ := HN.out
  have o6 : w4.cell? ⟨g1, 6, none⟩ = some (.bool own) := (BA.cell 6).trans rfl
  have q0 : w4.cell? ⟨g2, 0, none⟩ = some (.int .u64 0) := (B2.cell 0).trans rfl
  have q1 : w4.cell? ⟨g2, 1, none⟩ = some (.int .i64 0) := (B2.cell 1).trans rfl
  have q2 : w4.cell? ⟨g2, 2, none⟩ = some (.int .i64 0) := (B2.cell 2).trans rfl
  have q3 : w4.cell? ⟨g2, 3, none⟩ = some (.int .i64 0) := (B2.cell 3).trans rfl
  have q4 : w4.cell? ⟨g2, 4, none⟩ = some (.slice none 0 0) := (B2.cell 4).trans rfl
  have q5 : w4.cell? ⟨g2, 5, none⟩ = some (.string ⟨#[]⟩) := (B2.cell 5).trans rfl
  have p0 : w4.cell? ⟨g3, 0, none⟩ = some (.int .u64 (dg : Int)) := (B3.cell 0).trans rfl
  have p1 : w4.cell? ⟨g3, 1, none⟩ = some (.int .i64 ln) := (B3.cell 1).trans rfl
  have p2 : w4.cell? ⟨g3, 2, none⟩ = some (.int .i64 by_) := (B3.cell 2).trans rfl
  have p3 : w4.cell? ⟨g3, 3, none⟩ = some (.int .i64 ts) := (B3.cell 3).trans rfl
  have p4 : w4.cell? ⟨g3, 4, none⟩ = some (.slice A n c) := (B3.cell 4).trans rfl
  have p5 : w4.cell? ⟨g3, 5, none⟩ = some (.string l1) := (B3.cell 5).trans rfl
  have f0 := B2.frozen 0
  have f1 := B2.frozen 1
  have f2 := B2.frozen 2
  have f3 := B2.frozen 3
  have f4 := B2.frozen 4
  have f5 := B2.frozen 5
  have e1 := B3.frozen 1
  have e2 := B3.frozen 2
  have e3 := B3.frozen 3
  have e4 := B3.frozen 4
  have e5 := B3.frozen 5
  have hne1 : ¬ g3 = g1 := hne
  have hne2 : ¬ g2 = g3 := HH.out.ne
  have hne3 : ¬ g3 = g2 := fun h => HH.out.ne h.symm
  obtain ⟨ats, aA, an, ac, als, aln⟩ := a
  have HA := Lib.hid ha
  dsimp only [EntX.val]
  clear hx BA B2 B3 HBA HBB HBC Hbc HIC HI IT ga ha HN hne
  cases own with
  | false =>
    go_wp2
    have H := ((((((((HH.out.set' 3 (.int .i64 ats)).set' 4 (.slice aA an ac)).set' 5 (.string aln)).set 0 (.int .u64 (dg : Int))).set 1 (.int .i64 ln)).set 2 (.int .i64 by_)).set 3 (.int .i64 ats)).set 4 (.slice aA an ac)).set 5 (.string aln)
    simp only [List.setIfInBounds_toArray, List.set_cons_zero, List.set_cons_succ] at H
    refine bodyPost_ret (results_cell_row rfl _ _ g2 29 _ (0, 0) _ rfl H.b1 Tryz.underlying29 rfl (by kernel_rfl)) rfl ?_
    exact ⟨⟨dg, ln, by_, ⟨ats, aA, an, ac, als, aln⟩⟩, rfl, by rw [HE.out, ← HA.out]; rfl, H.good, H.below⟩
  | true =>
    go_wp2
    have H := ((((((((((HH.out.set' 3 (.int .i64 ats)).set' 4 (.slice aA an ac)).set' 5 (.string aln)).set' 1 (.int .i64 r)).set' 2 (.int .i64 s)).set 0 (.int .u64 (dg : Int))).set 1 (.int .i64 r)).set 2 (.int .i64 s)).set 3 (.int .i64 ats)).set 4 (.slice aA an ac)).set 5 (.string aln)
    simp only [List.setIfInBounds_toArray, List.set_cons_zero, List.set_cons_succ] at H
    refine bodyPost_ret (results_cell_row rfl _ _ g2 29 _ (0, 0) _ rfl H.b1 Tryz.underlying29 rfl (by kernel_rfl)) rfl ?_
    exact ⟨⟨dg, r, s, ⟨ats, aA, an, ac, als, aln⟩⟩, rfl, by rw [HE.out]; simp only [↓reduceIte, if_true]; rw [HR.out, HS.out, ← HA.out]; rfl, H.good, H.below⟩
end Go.Proofs.YtfamcebgcpaolaaGreatDoor
namespace Go.Proofs.YtfamcebgcpaolaaGreatDoor
open Go.RowKit Go.ChangeShapes Go.WideShapes Go.Deep
set_option linter.unusedVariables false
set_option linter.unusedSimpArgs false

theorem cells_cur : Tryz.prog.cellsOf 29 = 6 := by kernel_rfl
theorem cells_spot : Tryz.prog.cellsOf 35 = 14 := by kernel_rfl
theorem cells_u64 : Tryz.prog.cellsOf 22 = 1 := by kernel_rfl
theorem cells_int : Tryz.prog.cellsOf 3 = 1 := by kernel_rfl
theorem bdu64' {x : Int} (h : (Lit.int .u64 x).wf = true) : 0 ≤ x ∧ x ≤ 18446744073709551615 := by
  simpa [Lit.wf, IntKind.min, IntKind.max, IntKind.signed, IntKind.bits] using h
theorem six_of {α : Type} {l : List α} (h : l.length = 6) : ∃ a b c d e f, l = [a, b, c, d, e, f] := by
  match l, h with
  | [a, b, c, d, e, f], _ => exact ⟨a, b, c, d, e, f, rfl⟩
theorem fourteen_of {α : Type} {l : List α} (h : l.length = 14) : ∃ a b c d e f g i j k m n o p, l = [a, b, c, d, e, f, g, i, j, k, m, n, o, p] := by
  match l, h with
  | [a, b, c, d, e, f, g, i, j, k, m, n, o, p], _ => exact ⟨a, b, c, d, e, f, g, i, j, k, m, n, o, p, rfl⟩
def CurX.V (x : CurX) : List Value := [.int .u64 (x.dg : Int), .int .i64 x.ln, .int .i64 x.by_, .int .i64 x.e.ts, .slice x.e.A x.e.n x.e.c, .string x.e.ln]
def spotK (x : SpotX) : Nat := entK x.c.e + itemK x.e
section
variable {H : Type} {enc : TypeId × Value → H} {w : World} {base : Nat} {spare : Nat → Bool} {held : Bool}
theorem one_cur {n : Nat} {cs : List Value} {y : DataW H × List MemPlace} (h : DataW.trod enc Tryz.prog w base spare held n 29 cs = some y) : ∃ x : CurX, (Good w.heap.size w x.e ∧ x.dg < 18446744073709551616 ∧ -9223372036854775808 ≤ x.ln ∧ x.ln ≤ 9223372036854775807 ∧ -9223372036854775808 ≤ x.by_ ∧ x.by_ ≤ 9223372036854775807) ∧ cs = x.V ∧ entK x.e + 1 ≤ Rows.uptoBulk y.1 := by
  obtain ⟨xs, m, _, hy, hl, hlen, hf⟩ := DataW.trod_struct Tryz.underlying29 h
  rw [cells_cur] at hl
  obtain ⟨c0, c1, c2, c3, c4, c5, rfl⟩ : ∃ a b c d e f, cs = [a, b, c, d, e, f] := six_of hl
  obtain ⟨y0, y1, y2, y3, rfl⟩ : ∃ a b c d, xs = [a, b, c, d] := four_of hlen
  have f0 : DataW.trod enc Tryz.prog w base spare held m 22 [c0] = some y0 := by
    have h : DataW.trod enc Tryz.prog w base spare held m 22 (List.take (Tryz.prog.cellsOf 22) (List.drop 0 [c0, c1, c2, c3, c4, c5])) = some y0 := hf 0 _ rfl
    rw [cells_u64] at h
    exact h
  have f1 : DataW.trod enc Tryz.prog w base spare held m 3 [c1] = some y1 := by
    have h : DataW.trod enc Tryz.prog w base spare held m 3 (List.take (Tryz.prog.cellsOf 3) (List.drop 1 [c0, c1, c2, c3, c4, c5])) = some y1 := hf 1 _ rfl
    rw [cells_int] at h
    exact h
  have f2 : DataW.trod enc Tryz.prog w base spare held m 2 [c2] = some y2 := by
    have h : DataW.trod enc Tryz.prog w base spare held m 2 (List.take (Tryz.prog.cellsOf 2) (List.drop 2 [c0, c1, c2, c3, c4, c5])) = some y2 := hf 2 _ rfl
    rw [cells_i64] at h
    exact h
  have f3 : DataW.trod enc Tryz.prog w base spare held m 27 [c3, c4, c5] = some y3 := by
    have h : DataW.trod enc Tryz.prog w base spare held m 27 (List.take (Tryz.prog.cellsOf 27) (List.drop 3 [c0, c1, c2, c3, c4, c5])) = some y3 := hf 3 _ rfl
    rw [cells_ent] at h
    exact h
  obtain ⟨dg, e0, d0, w0⟩ := DataW.trod_int Tryz.underlying22 f0
  obtain ⟨ln, e1, d1, w1⟩ := DataW.trod_int Tryz.underlying3 f1
  obtain ⟨by_, e2, d2, w2⟩ := DataW.trod_int Tryz.underlying2 f2
  obtain ⟨e, he, e3, hk⟩ := one_ent f3
  obtain ⟨g0, g1⟩ := bdu64' w0
  obtain ⟨l0, l1⟩ := bdi64 (show (Lit.int .i64 ln).wf = true from w1)
  obtain ⟨b0, b1⟩ := bdi64 (show (Lit.int .i64 by_).wf = true from w2)
  obtain ⟨ets, eA, en, ec, els, eln⟩ := e
  simp only [EntX.V, List.cons.injEq, and_true] at e3
  obtain ⟨q0, q1, q2⟩ := e3
  injection e0 with e0
  injection e1 with e1
  injection e2 with e2
  subst q0 q1 q2 e0 e1 e2 hy
  refine ⟨⟨dg.toNat, ln, by_, ⟨ets, eA, en, ec, els, eln⟩⟩, ⟨he, by show dg.toNat < _; omega, l0, l1, b0, b1⟩, ?_, ?_⟩
  · show _ = [Value.int .u64 (dg.toNat : Int), .int .i64 ln, .int .i64 by_, .int .i64 ets, .slice eA en ec, .string eln]
    rw [show (dg.toNat : Int) = dg by omega]
  · simp only [List.map_cons, List.map_nil, Rows.uptoBulk, Rows.uptoBulkAll]
    omega
theorem one_spot {n : Nat} {cs : List Value} {y : DataW H × List MemPlace} (h : DataW.trod enc Tryz.prog w base spare held n 35 cs = some y) : ∃ x : SpotX, GoodS w.heap.size w x ∧ cs = x.V ∧ spotK x + 1 ≤ Rows.uptoBulk y.1 := by
  obtain ⟨xs, m, _, hy, hl, hlen, hf⟩ := DataW.trod_struct Tryz.underlying35 h
  rw [cells_spot] at hl
  obtain ⟨c0, c1, c2, c3, c4, c5, c6, c7, c8, c9, c10, c11, c12, c13, rfl⟩ : ∃ a b c d e f g i j k m n o p, cs = [a, b, c, d, e, f, g, i, j, k, m, n, o, p] := fourteen_of hl
  obtain ⟨y0, y1, y2, rfl⟩ : ∃ a b c, xs = [a, b, c] := three_of hlen
  have f0 : DataW.trod enc Tryz.prog w base spare held m 29 [c0, c1, c2, c3, c4, c5] = some y0 := by
    have h : DataW.trod enc Tryz.prog w base spare held m 29 (List.take (Tryz.prog.cellsOf 29) (List.drop 0 [c0, c1, c2, c3, c4, c5, c6, c7, c8, c9, c10, c11, c12, c13])) = some y0 := hf 0 _ rfl
    rw [cells_cur] at h
    exact h
  have f1 : DataW.trod enc Tryz.prog w base spare held m 4 [c6] = some y1 := by
    have h : DataW.trod enc Tryz.prog w base spare held m 4 (List.take (Tryz.prog.cellsOf 4) (List.drop 6 [c0, c1, c2, c3, c4, c5, c6, c7, c8, c9, c10, c11, c12, c13])) = some y1 := hf 1 _ rfl
    rw [cells_bool] at h
    exact h
  have f2 : DataW.trod enc Tryz.prog w base spare held m 33 [c7, c8, c9, c10, c11, c12, c13] = some y2 := by
    have h : DataW.trod enc Tryz.prog w base spare held m 33 (List.take (Tryz.prog.cellsOf 33) (List.drop 7 [c0, c1, c2, c3, c4, c5, c6, c7, c8, c9, c10, c11, c12, c13])) = some y2 := hf 2 _ rfl
    rw [cells_item] at h
    exact h
  obtain ⟨c, ⟨hc, h1, h2, h3, h4, h5⟩, e0, hk0⟩ := one_cur f0
  obtain ⟨ow, e1, d1⟩ := DataW.trod_bool Tryz.underlying4 f1
  obtain ⟨i, hi, e2, hk2⟩ := one_item f2
  simp only [CurX.V, List.cons.injEq, and_true] at e0
  simp only [ItemX.V, List.cons.injEq, and_true] at e2
  obtain ⟨p0, p1, p2, p3, p4, p5⟩ := e0
  obtain ⟨q0, q1, q2, q3, q4, q5, q6⟩ := e2
  injection e1 with e1
  subst p0 p1 p2 p3 p4 p5 q0 q1 q2 q3 q4 q5 q6 e1 hy
  refine ⟨⟨c, ow, i⟩, ⟨hc, hi, h1, h2, h3, h4, h5⟩, rfl, ?_⟩
  simp only [spotK, List.map_cons, List.map_nil, Rows.uptoBulk, Rows.uptoBulkAll]
  omega
end
end Go.Proofs.YtfamcebgcpaolaaGreatDoor
