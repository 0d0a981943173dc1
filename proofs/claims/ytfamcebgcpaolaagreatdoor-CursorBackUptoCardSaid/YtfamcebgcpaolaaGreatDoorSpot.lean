/- A cursor by its parts, as the law takes it: the walk of spot. -/
import Derived.Test.YtfamcebgcpaolaaGreatDoorCurGet
import Derived.Test.YtfamcebgcpaolaaGreatDoorEntBackMath
namespace Go.Proofs.YtfamcebgcpaolaaGreatDoor
open Go.RowKit
set_option linter.unusedVariables false
set_option linter.unusedSimpArgs false

structure SpotX where
  c : CurX
  own : Bool
  e : ItemX
def SpotX.V (x : SpotX) : List Value := [.int .u64 (x.c.dg : Int), .int .i64 x.c.ln, .int .i64 x.c.by_, .int .i64 x.c.e.ts, .slice x.c.e.A x.c.e.n x.c.e.c, .string x.c.e.ln, .bool x.own, .int .i64 x.e.e.ts, .slice x.e.e.A x.e.e.n x.e.e.c, .string x.e.e.ln, .bool x.e.own, .int .i8 x.e.t, .slice x.e.LA x.e.Ln x.e.Lc, .int .u8 (x.e.k : Int)]
def SpotX.val (x : SpotX) : Value := .agg #[.int .u64 (x.c.dg : Int), .int .i64 x.c.ln, .int .i64 x.c.by_, .int .i64 x.c.e.ts, .slice x.c.e.A x.c.e.n x.c.e.c, .string x.c.e.ln, .bool x.own, .int .i64 x.e.e.ts, .slice x.e.e.A x.e.e.n x.e.e.c, .string x.e.e.ln, .bool x.e.own, .int .i8 x.e.t, .slice x.e.LA x.e.Ln x.e.Lc, .int .u8 (x.e.k : Int)]
structure GoodS (B : Nat) (w : World) (x : SpotX) : Prop where
  cur : Good B w x.c.e
  item : GoodI B w x.e
  dg : x.c.dg < 18446744073709551616
  l0 : -9223372036854775808 ≤ x.c.ln
  l1 : x.c.ln ≤ 9223372036854775807
  b0 : -9223372036854775808 ≤ x.c.by_
  b1 : x.c.by_ ≤ 9223372036854775807
theorem GoodS.below {B : Nat} {w w' : World} {x : SpotX} (h : GoodS B w x) (hb : Below w.heap.size w w') : GoodS B w' x := ⟨h.cur.below hb, h.item.below hb, h.dg, h.l0, h.l1, h.b0, h.b1⟩
/-- what is left over of a number without its sign -/
def leftN (z m : Int) : Int := IntKind.u64.wrap z % m
def spotB (x : SpotX) : CurB := ⟨x.c.dg, if x.own = true then leftN x.c.ln 100 else x.c.ln, if x.own = true then leftN x.c.by_ 1000 else x.c.by_, itemB x.e⟩
theorem leftN_in (z m : Int) (hm : 0 < m) : 0 ≤ leftN z m ∧ leftN z m < m := ⟨Int.emod_nonneg _ (by omega), Int.emod_lt_of_pos _ hm⟩
structure CurTwo (W0 w : World) (g : Nat) (cs : Array Value) (g' : Nat) (cs' : Array Value) (x : EntX) : Prop where
  b1 : Blk w g 29 cs
  b2 : Blk w g' 29 cs'
  good : Good W0.heap.size w x
  below : Below W0.heap.size W0 w
  f1 : W0.heap.size ≤ g
  f2 : W0.heap.size ≤ g'
  ne : g ≠ g'
theorem CurTwo.set {W0 w : World} {g : Nat} {cs : Array Value} {g' : Nat} {cs' : Array Value} {x : EntX} (h : CurTwo W0 w g cs g' cs' x) (i : Nat) (u : Value) : CurTwo W0 (w.setCell ⟨g, i, none⟩ u) g (cs.setIfInBounds i u) g' cs' x :=
  ⟨h.b1.set_ i u, h.b2.far (p := ⟨g, i, none⟩) h.ne.symm u, ⟨set_by h.good.set h.b1 cur_not_pair h.f1 u, h.good.len, h.good.lo, h.good.hi⟩, h.below.setCell (p := ⟨g, i, none⟩) h.f1 _, h.f1, h.f2, h.ne⟩
theorem CurTwo.set' {W0 w : World} {g : Nat} {cs : Array Value} {g' : Nat} {cs' : Array Value} {x : EntX} (h : CurTwo W0 w g cs g' cs' x) (i : Nat) (u : Value) : CurTwo W0 (w.setCell ⟨g', i, none⟩ u) g cs g' (cs'.setIfInBounds i u) x :=
  ⟨h.b1.far (p := ⟨g', i, none⟩) h.ne u, h.b2.set_ i u, ⟨set_by h.good.set h.b2 cur_not_pair h.f2 u, h.good.len, h.good.lo, h.good.hi⟩, h.below.setCell (p := ⟨g', i, none⟩) h.f2 _, h.f1, h.f2, h.ne⟩

set_option maxRecDepth 100000 in
set_option maxHeartbeats 3200000 in
theorem spot_any (x : SpotX) (W : World) (h : GoodS W.heap.size W x) :
    Calls Tryz.prog 7 #[x.val] W fun e w' => ∃ c : CurX, e = .returned c.val ∧ c.b = spotB x ∧ Good W.heap.size w' c.e ∧ Below W.heap.size W w' := by
  have h0 : W.heap.size ≤ W.heap.size := Nat.le_refl _
  have IT := Lib.hid (fun w h => item_any W.heap.size x.e w h)
  obtain ⟨hcur, hitem, hdg, hl0, hl1, hb0, hb1⟩ := h
  obtain ⟨⟨dg, ln, by_, ⟨ts, A, n, c, ls, l1⟩⟩, own, ⟨⟨ts2, A2, n2, c2, ls2, l2⟩, own2, t, LA, Ln, Lc, lt, k⟩⟩ := x
  have HE := Lib.hid (show spotB ⟨⟨dg, ln, by_, ⟨ts, A, n, c, ls, l1⟩⟩, own, ⟨⟨ts2, A2, n2, c2, ls2, l2⟩, own2, t, LA, Ln, Lc, lt, k⟩⟩ = (⟨dg, if own = true then leftN ln 100 else ln, if own = true then leftN by_ 1000 else by_, itemB ⟨⟨ts2, A2, n2, c2, ls2, l2⟩, own2, t, LA, Ln, Lc, lt, k⟩⟩ : CurB) from rfl)
  obtain ⟨Z, hZ⟩ : ∃ Z, spotB ⟨⟨dg, ln, by_, ⟨ts, A, n, c, ls, l1⟩⟩, own, ⟨⟨ts2, A2, n2, c2, ls2, l2⟩, own2, t, LA, Ln, Lc, lt, k⟩⟩ = Z := ⟨_, rfl⟩
  rw [hZ] at HE ⊢
  dsimp only [SpotX.val] at hdg hl0 hl1 hb0 hb1 ⊢
  replace IT := IT.out
  dsimp only [ItemX.val] at IT
  replace IT := Lib.hid IT
  have HI := Lib.hid hitem
  have hdgI : (dg : Int) < 18446744073709551616 := by omega
  obtain ⟨M, hM⟩ : ∃ M, IntKind.u64.wrap ln = M := ⟨_, rfl⟩
  obtain ⟨N, hN⟩ : ∃ M, IntKind.u64.wrap by_ = M := ⟨_, rfl⟩
  have hM0 : 0 ≤ M := by rw [← hM, IntKind.wrap_u64]; omega
  have hN0 : 0 ≤ N := by rw [← hN, IntKind.wrap_u64]; omega
  have hr : leftN ln 100 = M % 100 := by unfold leftN; rw [hM]
  have hs : leftN by_ 1000 = N % 1000 := by unfold leftN; rw [hN]
  obtain ⟨r, hr2⟩ : ∃ r, M % 100 = r := ⟨_, rfl⟩
  obtain ⟨s, hs2⟩ : ∃ r, N % 1000 = r := ⟨_, rfl⟩
  have r0 : 0 ≤ r := by omega
  have r1 : r < 100 := by omega
  have s0 : 0 ≤ s := by omega
  have s1 : s < 1000 := by omega
  have hr3 : M.tmod 100 = r := by rw [Int.tmod_eq_emod_of_nonneg hM0]; exact hr2
  have hs3 : N.tmod 1000 = s := by rw [Int.tmod_eq_emod_of_nonneg hN0]; exact hs2
  have wr : IntKind.i64.wrap r = r := by rw [IntKind.wrap_i64]; omega
  have ws : IntKind.i64.wrap s = s := by rw [IntKind.wrap_i64]; omega
  rw [hr2] at hr
  rw [hs2] at hs
  have HR := Lib.hid hr
  have HS := Lib.hid hs
  clear hZ hcur hitem hr hs
  go_enter Tryz.func7, Tryz.ntmps7
  obtain ⟨g1, hg1⟩ : ∃ g, W.heap.size = g := ⟨_, rfl⟩
  obtain ⟨g2, hg2⟩ : ∃ g, g1 + 1 = g := ⟨_, rfl⟩
  obtain ⟨g3, hg3⟩ : ∃ g, g2 + 1 = g := ⟨_, rfl⟩
  obtain ⟨wA, hA⟩ : ∃ w, W.alloc (.cells #[.int .u64 (dg : Int), .int .i64 ln, .int .i64 by_, .int .i64 ts, .slice A n c, .string l1, .bool own, .int .i64 ts2, .slice A2 n2 c2, .string l2, .bool own2, .int .i8 t, .slice LA Ln Lc, .int .u8 (k : Int)] 35) = w := ⟨_, rfl⟩
  have BA : Blk wA g1 35 #[.int .u64 (dg : Int), .int .i64 ln, .int .i64 by_, .int .i64 ts, .slice A n c, .string l1, .bool own, .int .i64 ts2, .slice A2 n2 c2, .string l2, .bool own2, .int .i8 t, .slice LA Ln Lc, .int .u8 (k : Int)] := by rw [← hA, ← hg1]; exact Blk.new W _ _
  have hbA : Below W.heap.size W wA := by rw [← hA]; exact (Below.refl _ _).alloc h0 _
  have hzA : wA.heap.size = g2 := by rw [← hA, ← hg2, ← hg1]; simp
  obtain ⟨wB, hB⟩ : ∃ w, wA.alloc (.cells #[.int .u64 0, .int .i64 0, .int .i64 0, .int .i64 0, .slice none 0 0, .string ⟨#[]⟩] 29) = w := ⟨_, rfl⟩
  have BB : Blk wB g2 29 #[.int .u64 0, .int .i64 0, .int .i64 0, .int .i64 0, .slice none 0 0, .string ⟨#[]⟩] := by rw [← hB, ← hzA]; exact Blk.new _ _ _
  have BA2 : Blk wB g1 35 #[.int .u64 (dg : Int), .int .i64 ln, .int .i64 by_, .int .i64 ts, .slice A n c, .string l1, .bool own, .int .i64 ts2, .slice A2 n2 c2, .string l2, .bool own2, .int .i8 t, .slice LA Ln Lc, .int .u8 (k : Int)] := by rw [← hB]; exact BA.alloc _
  have hbB : Below W.heap.size W wB := by rw [← hB]; exact hbA.alloc hbA.size _
  have hzB : wB.heap.size = g3 := by rw [← hB, ← hg3, ← hzA]; simp
  obtain ⟨wC, hC⟩ : ∃ w, wB.alloc (.cells #[.int .u64 (dg : Int), .int .i64 ln, .int .i64 by_, .int .i64 ts, .slice A n c, .string l1] 29) = w := ⟨_, rfl⟩
  have BC : Blk wC g3 29 #[.int .u64 (dg : Int), .int .i64 ln, .int .i64 by_, .int .i64 ts, .slice A n c, .string l1] := by rw [← hC, ← hzB]; exact Blk.new _ _ _
  have BB3 : Blk wC g2 29 #[.int .u64 0, .int .i64 0, .int .i64 0, .int .i64 0, .slice none 0 0, .string ⟨#[]⟩] := by rw [← hC]; exact BB.alloc _
  have BA3 : Blk wC g1 35 #[.int .u64 (dg : Int), .int .i64 ln, .int .i64 by_, .int .i64 ts, .slice A n c, .string l1, .bool own, .int .i64 ts2, .slice A2 n2 c2, .string l2, .bool own2, .int .i8 t, .slice LA Ln Lc, .int .u8 (k : Int)] := by rw [← hC]; exact BA2.alloc _
  have hbC : Below W.heap.size W wC := by rw [← hC]; exact hbB.alloc hbB.size _
  have a0 : wB.cell? ⟨g1, 0, none⟩ = some (.int .u64 (dg : Int)) := (BA2.cell 0).trans rfl
  have a1 : wB.cell? ⟨g1, 1, none⟩ = some (.int .i64 ln) := (BA2.cell 1).trans rfl
  have a2 : wB.cell? ⟨g1, 2, none⟩ = some (.int .i64 by_) := (BA2.cell 2).trans rfl
  have a3 : wB.cell? ⟨g1, 3, none⟩ = some (.int .i64 ts) := (BA2.cell 3).trans rfl
  have a4 : wB.cell? ⟨g1, 4, none⟩ = some (.slice A n c) := (BA2.cell 4).trans rfl
  have a5 : wB.cell? ⟨g1, 5, none⟩ = some (.string l1) := (BA2.cell 5).trans rfl
  have c7 : wC.cell? ⟨g1, 7, none⟩ = some (.int .i64 ts2) := (BA3.cell 7).trans rfl
  have c8 : wC.cell? ⟨g1, 8, none⟩ = some (.slice A2 n2 c2) := (BA3.cell 8).trans rfl
  have c9 : wC.cell? ⟨g1, 9, none⟩ = some (.string l2) := (BA3.cell 9).trans rfl
  have c10 : wC.cell? ⟨g1, 10, none⟩ = some (.bool own2) := (BA3.cell 10).trans rfl
  have c11 : wC.cell? ⟨g1, 11, none⟩ = some (.int .i8 t) := (BA3.cell 11).trans rfl
  have c12 : wC.cell? ⟨g1, 12, none⟩ = some (.slice LA Ln Lc) := (BA3.cell 12).trans rfl
  have c13 : wC.cell? ⟨g1, 13, none⟩ = some (.int .u8 (k : Int)) := (BA3.cell 13).trans rfl
  have HBA := Lib.hid BA3
  have HBB := Lib.hid BB3
  have HBC := Lib.hid BC
  have Hbc := Lib.hid hbC
  have HIC := Lib.hid (HI.out.below hbC)
  have HN := Lib.hid (show W.heap.size ≤ g2 ∧ W.heap.size ≤ g3 ∧ g2 ≠ g3 ∧ g3 ≠ g1 by omega)
  clear BA BB BA2 BB3 BA3 BC hbA hbB hbC
  go_wp2_with fail
  clear hA hB hC hzA hzB a0 a1 a2 a3 a4 a5 c7 c8 c9 c10 c11 c12 c13 hg1 hg2 hg3
  refine (IT.out _ HIC.out).mono ?_
  rintro e w4 ⟨a, rfl, ha, ga, hx⟩
  have BA := HBA.out.below hx HBA.out.lt
  have HH := Lib.hid (CurTwo.mk (HBB.out.below hx HBB.out.lt) (HBC.out.below hx HBC.out.lt) ga (hop Hbc.out h0 hx) HN.out.1 HN.out.2.1 HN.out.2.2.1)
  have B2 := HH.out.b1
  have B3 := HH.out.b2
  obtain ⟨_, _, _, hne⟩ := HN.out
  have o6 : w4.cell? ⟨g1, 6, none⟩ = some (.bool own) := (BA.cell 6).trans rfl
  have q0 : w4.cell? ⟨g2, 0, none⟩ = some (.int .u64 0) := (B2.cell 0).trans rfl
  have q1 : w4.cell? ⟨g2, 1, none⟩ = some (.int .i64 0) := (B2.cell 1).trans rfl
  have q2 : w4.cell? ⟨g2, 2, none⟩ = some (.int .i64 0) := (B2.cell 2).trans rfl
  have q3 : w4.cell? ⟨g2, 3, none⟩ = some (.int .i64 0) := (B2.cell 3).trans rfl
  have q4 : w4.cell? ⟨g2, 4, none⟩ = some (.slice none 0 0) := (B2.cell 4).trans rfl
  have q5 : w4.cell? ⟨g2, 5, none⟩ = some (.string ⟨#[]⟩) := (B2.cell 5).trans rfl
  have p0 : w4.cell? ⟨g3, 0, none⟩ = some (.int .u64 (dg : Int)) := (B3.cell 0).trans rfl
  have p1 : w4.cell? ⟨g3, 1, none⟩ = some (.int .i64 ln) := (B3.cell 1).trans rfl
  have p2 : w4.cell? ⟨g3, 2, none⟩ = some (.int .i64 by_) := (B3.cell 2).trans rfl
  have p3 : w4.cell? ⟨g3, 3, none⟩ = some (.int .i64 ts) := (B3.cell 3).trans rfl
  have p4 : w4.cell? ⟨g3, 4, none⟩ = some (.slice A n c) := (B3.cell 4).trans rfl
  have p5 : w4.cell? ⟨g3, 5, none⟩ = some (.string l1) := (B3.cell 5).trans rfl
  have f0 := B2.frozen 0
  have f1 := B2.frozen 1
  have f2 := B2.frozen 2
  have f3 := B2.frozen 3
  have f4 := B2.frozen 4
  have f5 := B2.frozen 5
  have e1 := B3.frozen 1
  have e2 := B3.frozen 2
  have e3 := B3.frozen 3
  have e4 := B3.frozen 4
  have e5 := B3.frozen 5
  have hne1 : ¬ g3 = g1 := hne
  have hne2 : ¬ g2 = g3 := HH.out.ne
  have hne3 : ¬ g3 = g2 := fun h => HH.out.ne h.symm
  obtain ⟨ats, aA, an, ac, als, aln⟩ := a
  have HA := Lib.hid ha
  dsimp only [EntX.val]
  clear hx BA B2 B3 HBA HBB HBC Hbc HIC HI IT ga ha HN hne
  cases own with
  | false =>
    go_wp2
    have H := ((((((((HH.out.set' 3 (.int .i64 ats)).set' 4 (.slice aA an ac)).set' 5 (.string aln)).set 0 (.int .u64 (dg : Int))).set 1 (.int .i64 ln)).set 2 (.int .i64 by_)).set 3 (.int .i64 ats)).set 4 (.slice aA an ac)).set 5 (.string aln)
    simp only [List.setIfInBounds_toArray, List.set_cons_zero, List.set_cons_succ] at H
    refine bodyPost_ret (results_cell_row rfl _ _ g2 29 _ (0, 0) _ rfl H.b1 Tryz.underlying29 rfl (by kernel_rfl)) rfl ?_
    exact ⟨⟨dg, ln, by_, ⟨ats, aA, an, ac, als, aln⟩⟩, rfl, by rw [HE.out, ← HA.out]; rfl, H.good, H.below⟩
  | true =>
    go_wp2
    have H := ((((((((((HH.out.set' 3 (.int .i64 ats)).set' 4 (.slice aA an ac)).set' 5 (.string aln)).set' 1 (.int .i64 r)).set' 2 (.int .i64 s)).set 0 (.int .u64 (dg : Int))).set 1 (.int .i64 r)).set 2 (.int .i64 s)).set 3 (.int .i64 ats)).set 4 (.slice aA an ac)).set 5 (.string aln)
    simp only [List.setIfInBounds_toArray, List.set_cons_zero, List.set_cons_succ] at H
    refine bodyPost_ret (results_cell_row rfl _ _ g2 29 _ (0, 0) _ rfl H.b1 Tryz.underlying29 rfl (by kernel_rfl)) rfl ?_
    exact ⟨⟨dg, r, s, ⟨ats, aA, an, ac, als, aln⟩⟩, rfl, by rw [HE.out]; simp only [↓reduceIte, if_true]; rw [HR.out, HS.out, ← HA.out]; rfl, H.good, H.below⟩
end Go.Proofs.YtfamcebgcpaolaaGreatDoor
