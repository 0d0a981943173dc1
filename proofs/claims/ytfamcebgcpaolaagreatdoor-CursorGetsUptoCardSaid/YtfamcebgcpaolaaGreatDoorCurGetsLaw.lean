/- The walk of the law CursorGets: any text is the cursor, or none, that the document says. -/
import Derived.Test.YtfamcebgcpaolaaGreatDoorCurBackLaw
import Derived.Test.YtfamcebgcpaolaaGreatDoorRefGet
namespace Go.Proofs.YtfamcebgcpaolaaGreatDoor
open Go.RowKit
set_option linter.unusedVariables false
set_option linter.unusedSimpArgs false

theorem put_curQ (c : CurX) (q : EntX) (w : World) (hq : q.b = c.e.b) (gq : GoodQ w q) (hf : PutC c.b) (hn : q.n ≤ 1048576) :
    Calls Tryz.prog 9 #[.agg #[.int .u64 (c.dg : Int), .int .i64 c.ln, .int .i64 c.by_, .int .i64 q.ts, .slice q.A q.n q.c, .string q.ln]] w fun e w' => e = .returned (.tuple #[.string (if c.b.right = true then c.b.put else .empty), .bool c.b.right]) ∧ Below w.heap.size w w' := by
  have hp : PutE q.b := by rw [hq]; exact hf.e
  have h := refPutC_any c.dg c.ln c.by_ q.ts q.A q.n q.c q.ls q.ln hf.dg hf.l0 hf.l1 hf.b0 hf.b1 hp hn w gq.set
  have e : c.b = ⟨c.dg, c.ln, c.by_, q.b⟩ := by rw [hq]; rfl
  rw [e]
  exact h

set_option maxRecDepth 100000 in
set_option maxHeartbeats 6400000 in
theorem cursorGets_walk {W : World} (x : SpotX) (s : ByteArray) (how at_ by_ : Int) (hx : GoodS W.heap.size W x) (ux : spotK x ≤ 1048576) (us : s.size ≤ 1048576) (whow : (Lit.int .u8 how).wf = true) (wat : (Lit.int .i64 at_).wf = true) (wby : (Lit.int .u8 by_).wf = true) (hl : LibIs W) :
    Calls Tryz.prog 4 #[x.val, .string s, .int .u8 how, .int .i64 at_, .int .u8 by_] W fun e w' => e = .returned (.bool true) ∧ Below W.heap.size W w' := by
  have h0 : W.heap.size ≤ W.heap.size := Nat.le_refl _
  obtain ⟨t0, t1⟩ := bdi64 wat
  obtain ⟨b0, b1⟩ := bdu8 wby
  obtain ⟨o0, o1⟩ := bdu8 whow
  have HX := Lib.hid (fun w h => curExamples_any w (hl.below h))
  have SP := Lib.hid (fun w h => spot_any ⟨x.c, true, x.e⟩ w h)
  have HGS := Lib.hid (fun w (h : Below W.heap.size W w) => (hx.own.below h).mono h.size)
  have PC := spot_put hx.own (show spotK ⟨x.c, true, x.e⟩ ≤ 1048576 from ux)
  obtain ⟨cb, hcb⟩ : ∃ c, spotB ⟨x.c, true, x.e⟩ = c := ⟨_, rfl⟩
  rw [hcb] at PC
  replace SP := SP.out
  simp only [hcb] at SP
  dsimp only [SpotX.val] at SP ⊢
  replace SP := Lib.hid SP
  obtain ⟨p1, p2⟩ := put_size_le cb PC
  have p3 : 17 ≤ cb.put.size := by
    have h4 : cb.put.size = (bodyL cb).length + 16 := by rw [← size_toList, put_list, List.length_append, hx_len]
    unfold bodyL at h4
    simp only [List.length_append, List.length_cons, hx_len] at h4
    omega
  have RC := Lib.hid (fun (c : CurX) (w : World) (B1 : Nat) (h1 : c.b = cb) (h2 : Good B1 w c.e) => show Calls Tryz.prog 10 #[.agg #[.int .u64 (c.dg : Int), .int .i64 c.ln, .int .i64 c.by_, .int .i64 c.e.ts, .slice c.e.A c.e.n c.e.c, .string c.e.ln]] w fun e w' => ∃ q : EntX, e = .returned (.agg #[.int .u64 (c.dg : Int), .int .i64 c.ln, .int .i64 c.by_, .int .i64 q.ts, .slice q.A q.n q.c, .string q.ln]) ∧ q.b = c.e.b ∧ q.n ≤ 1048576 ∧ GoodQ w' q ∧ Below w.heap.size w w' from by
    have hn : c.e.n ≤ 1048576 := by
      have k1 : c.e.ls.length = c.e.n := h2.set.1.1
      have k2 : c.b.e.ls.length ≤ 1048576 := by rw [h1]; exact PC.e.len
      have k3 : c.e.ls.length ≤ 1048576 := k2
      omega
    have hd : c.dg < 18446744073709551616 := by have := PC.dg; rw [← h1] at this; exact this
    refine (refCursor_any c.dg c.ln c.by_ c.e hd hn w h2.set.1).mono ?_
    rintro e w' ⟨q, rfl, h3, h4, h5, h6⟩
    exact ⟨q, rfl, h3, by rw [h4]; exact hn, h5, h6⟩)
  obtain ⟨R, hR⟩ : ∃ r, cb.right = r := ⟨_, rfl⟩
  obtain ⟨X, hX⟩ : ∃ r, (if cb.right = true then cb.put else ByteArray.empty) = r := ⟨_, rfl⟩
  have PT := Lib.hid (fun (c : CurX) (q : EntX) (w : World) (h1 : c.b = cb) (hq : q.b = c.e.b) (gq : GoodQ w q) (hn : q.n ≤ 1048576) => show Calls Tryz.prog 9 #[.agg #[.int .u64 (c.dg : Int), .int .i64 c.ln, .int .i64 c.by_, .int .i64 q.ts, .slice q.A q.n q.c, .string q.ln]] w fun e w' => e = .returned (.tuple #[.string X, .bool R]) ∧ Below w.heap.size w w' from by
    have h := put_curQ c q w hq gq (by rw [h1]; exact PC) hn
    rwa [h1, hX, hR] at h)
  have x1 : X.size ≤ 9000300 := by
    rw [← hX]
    split
    · exact p1
    · exact Nat.zero_le _
  have x2 : R = true → 17 ≤ X.size := fun h => by
    rw [hR, if_pos h] at hX
    rw [← hX]
    exact p3
  have BD := Lib.hid (fun (u : ByteArray) (hu : u.size ≤ 16000000) w => bend_any u hu at_ by_ t0 t1 b0 b1 w)
  have GT := Lib.hid (fun (u : ByteArray) (hu : u.size ≤ 16000000) (w : World) (h : LibIs w) => show Calls Tryz.prog 20 #[.string u] w fun e w' => ∃ d : CurX, e = .returned (.tuple #[.agg #[.int .u64 (d.dg : Int), .int .i64 d.ln, .int .i64 d.by_, .int .i64 d.e.ts, .slice d.e.A d.e.n d.e.c, .string d.e.ln], .int .i64 (getE u)]) ∧ d.b = (getC u).getD cnil.b ∧ Good 0 w' d.e ∧ Below w.heap.size w w' from curGet_any u hu w h)
  have GQ := Lib.hid (fun (u : ByteArray) (hu : u.size ≤ 16000000) (w : World) => show Calls Tryz.prog 21 #[.string u] w fun e w' => ∃ d : CurX, e = .returned (.tuple #[.agg #[.int .u64 (d.dg : Int), .int .i64 d.ln, .int .i64 d.by_, .int .i64 d.e.ts, .slice d.e.A d.e.n d.e.c, .string d.e.ln], .int .i64 (getE u)]) ∧ d.b = (getC u).getD cnil.b ∧ GoodQ w' d.e ∧ Below w.heap.size w w' from refGetC_any u hu w)
  have SM := Lib.hid (fun (a b : EntX) (B1 : Nat) (w : World) (h : a.b = b.b) (ha : Good B1 w a) (hb : GoodQ w b) => show Calls Tryz.prog 22 #[.agg #[.int .i64 a.ts, .slice a.A a.n a.c, .string a.ln], .agg #[.int .i64 b.ts, .slice b.A b.n b.c, .string b.ln]] w fun e w' => e = .returned (.bool true) ∧ Below w.heap.size w w' from by
    have h2 := sameEntry_any a b ha.len w ha.set.1 hb.set
    rwa [h, sameE_iff.2 rfl] at h2)
  have SQ := Lib.hid (fun (u : ByteArray) (hu : u.size ≤ 16000000) w => refFnv_any u (by omega) w)
  have HQ := Lib.hid (fun (u : ByteArray) w => refHex_any (sumS u) (fnv_lt _ _ fnv0_lt) w)
  have HSZ := Lib.hid (fun (u : ByteArray) => hexS_size (sumS u))
  have HL := Lib.hid hl
  obtain ⟨m, hm⟩ : ∃ m : Int, how % 4 = m := ⟨_, rfl⟩
  have hm2 : how.tmod 4 = m := by rw [Int.tmod_eq_emod_of_nonneg o0]; exact hm
  have hmw : IntKind.u8.wrap m = m := by rw [IntKind.wrap_u8]; omega
  have hways : (m = 0) ∨ (m = 1) ∨ (m = 2 ∧ R = false) ∨ (m = 2 ∧ R = true) ∨ (m = 3) := by
    cases R with
    | false =>
      have : m = 0 ∨ m = 1 ∨ m = 2 ∨ m = 3 := by omega
      rcases this with h | h | h | h
      · exact .inl h
      · exact .inr (.inl h)
      · exact .inr (.inr (.inl ⟨h, rfl⟩))
      · exact .inr (.inr (.inr (.inr h)))
    | true =>
      have : m = 0 ∨ m = 1 ∨ m = 2 ∨ m = 3 := by omega
      rcases this with h | h | h | h
      · exact .inl h
      · exact .inr (.inl h)
      · exact .inr (.inr (.inr (.inl ⟨h, rfl⟩)))
      · exact .inr (.inr (.inr (.inr h)))
  have X2 := Lib.hid x2
  clear hl wat wby whow hx ux hcb PC hR hX p1 p2 p3 b0 b1 o0 o1 x2
  rcases hways with rfl | rfl | ⟨rfl, rfl⟩ | ⟨rfl, rfl⟩ | rfl
  · go_enter Tryz.func4, Tryz.ntmps4
    go_wp2_with fail
    obtain ⟨g1, hg1⟩ : ∃ g, W.heap.size = g := ⟨_, rfl⟩
    obtain ⟨w0, hw0⟩ : ∃ w, W.alloc (.cells #[.int .u64 (x.c.dg : Int), .int .i64 x.c.ln, .int .i64 x.c.by_, .int .i64 x.c.e.ts, .slice x.c.e.A x.c.e.n x.c.e.c, .string x.c.e.ln, .bool x.own, .int .i64 x.e.e.ts, .slice x.e.e.A x.e.e.n x.e.e.c, .string x.e.e.ln, .bool x.e.own, .int .i8 x.e.t, .slice x.e.LA x.e.Ln x.e.Lc, .int .u8 (x.e.k : Int)] 35) = w := ⟨_, rfl⟩
    have B0 : Blk w0 g1 35 #[.int .u64 (x.c.dg : Int), .int .i64 x.c.ln, .int .i64 x.c.by_, .int .i64 x.c.e.ts, .slice x.c.e.A x.c.e.n x.c.e.c, .string x.c.e.ln, .bool x.own, .int .i64 x.e.e.ts, .slice x.e.e.A x.e.e.n x.e.e.c, .string x.e.e.ln, .bool x.e.own, .int .i8 x.e.t, .slice x.e.LA x.e.Ln x.e.Lc, .int .u8 (x.e.k : Int)] := by rw [← hw0, ← hg1]; exact Blk.new W _ _
    have hb0 : Below W.heap.size W w0 := by rw [← hw0]; exact (Below.refl _ _).alloc h0 _
    have hgW : W.heap.size ≤ g1 := by omega
    rw [hw0]
    rw [hg1]
    have HGW := Lib.hid hgW
    clear hw0 hg1 hgW
    refine (HX.out _ hb0).mono ?_
    rintro e w1 ⟨rfl, hx⟩
    have B1 := B0.below hx B0.lt
    have hb1 := hop hb0 h0 hx
    have fz := B1.frozen 6
    have o6 : w1.cell? ⟨g1, 6, none⟩ = some (.bool x.own) := (B1.cell 6).trans rfl
    have B2 := B1.set_ 6 (.bool true)
    simp only [List.setIfInBounds_toArray, List.set_cons_zero, List.set_cons_succ] at B2
    have hb2 := hb1.setCell (p := ⟨g1, 6, none⟩) HGW.out (.bool true)
    obtain ⟨w2, hw2⟩ : ∃ w, w1.setCell ⟨g1, 6, none⟩ (.bool true) = w := ⟨_, rfl⟩
    rw [hw2] at B2 hb2
    have p0 : w2.cell? ⟨g1, 0, none⟩ = some (.int .u64 (x.c.dg : Int)) := (B2.cell 0).trans rfl
    have p1 : w2.cell? ⟨g1, 1, none⟩ = some (.int .i64 x.c.ln) := (B2.cell 1).trans rfl
    have p2 : w2.cell? ⟨g1, 2, none⟩ = some (.int .i64 x.c.by_) := (B2.cell 2).trans rfl
    have p3 : w2.cell? ⟨g1, 3, none⟩ = some (.int .i64 x.c.e.ts) := (B2.cell 3).trans rfl
    have p4 : w2.cell? ⟨g1, 4, none⟩ = some (.slice x.c.e.A x.c.e.n x.c.e.c) := (B2.cell 4).trans rfl
    have p5 : w2.cell? ⟨g1, 5, none⟩ = some (.string x.c.e.ln) := (B2.cell 5).trans rfl
    have p6 : w2.cell? ⟨g1, 6, none⟩ = some (.bool true) := (B2.cell 6).trans rfl
    have p7 : w2.cell? ⟨g1, 7, none⟩ = some (.int .i64 x.e.e.ts) := (B2.cell 7).trans rfl
    have p8 : w2.cell? ⟨g1, 8, none⟩ = some (.slice x.e.e.A x.e.e.n x.e.e.c) := (B2.cell 8).trans rfl
    have p9 : w2.cell? ⟨g1, 9, none⟩ = some (.string x.e.e.ln) := (B2.cell 9).trans rfl
    have p10 : w2.cell? ⟨g1, 10, none⟩ = some (.bool x.e.own) := (B2.cell 10).trans rfl
    have p11 : w2.cell? ⟨g1, 11, none⟩ = some (.int .i8 x.e.t) := (B2.cell 11).trans rfl
    have p12 : w2.cell? ⟨g1, 12, none⟩ = some (.slice x.e.LA x.e.Ln x.e.Lc) := (B2.cell 12).trans rfl
    have p13 : w2.cell? ⟨g1, 13, none⟩ = some (.int .u8 (x.e.k : Int)) := (B2.cell 13).trans rfl
    have HGS2 := Lib.hid (HGS.out _ hb2)
    clear hx hb0 B0 hb1 B1 HX HGS B2
    go_wp2_with fail
    clear hw2 o6 fz p0 p1 p2 p3 p4 p5 p6 p7 p8 p9 p10 p11 p12 p13
    refine (SP.out _ HGS2.out).mono ?_
    rintro e w3 ⟨c, rfl, hcb, gc, hx⟩
    have hb3 := hop hb2 h0 hx
    dsimp only [CurX.val]
    have HCB := Lib.hid hcb
    clear hx hb2 SP HGS2 hcb
    go_wp2_with fail
    refine (RC.out c _ _ HCB.out gc).mono ?_
    rintro e w4 ⟨q, rfl, hq, hqn, gq, hx⟩
    have hb4 := hop hb3 h0 hx
    have HQ1 := Lib.hid hq
    have HQ2 := Lib.hid hqn
    clear hx hb3 gc RC hq hqn
    go_wp2_with fail
    refine (PT.out c q _ HCB.out HQ1.out gq HQ2.out).mono ?_
    rintro e w5 ⟨rfl, hx⟩
    have hb5 := hop hb4 h0 hx
    clear hx hb4 gq PT HQ1 HQ2 HCB
    go_wp2_with fail
    refine (GT.out _ (by omega) _ (HL.out.below hb5)).mono ?_
    rintro e w7 ⟨d, rfl, hdb, gd, hx⟩
    have hb7 := hop hb5 h0 hx
    obtain ⟨g4, hg4⟩ : ∃ g, w7.heap.size = g := ⟨_, rfl⟩
    obtain ⟨w8, hw8⟩ : ∃ w, w7.alloc (.cells #[.int .u64 (d.dg : Int), .int .i64 d.ln, .int .i64 d.by_, .int .i64 d.e.ts, .slice d.e.A d.e.n d.e.c, .string d.e.ln] 29) = w := ⟨_, rfl⟩
    have D8 : Blk w8 g4 29 #[.int .u64 (d.dg : Int), .int .i64 d.ln, .int .i64 d.by_, .int .i64 d.e.ts, .slice d.e.A d.e.n d.e.c, .string d.e.ln] := by rw [← hw8, ← hg4]; exact Blk.new _ _ _
    have gd8 : Good 0 w8 d.e := by rw [← hw8]; exact gd.below ((Below.refl _ _).alloc (Nat.le_refl _) _)
    have hb8 : Below W.heap.size W w8 := by rw [← hw8]; exact hb7.alloc hb7.size _
    have HDB := Lib.hid hdb
    clear hx hb7 gd hdb
    go_wp2_with fail
    clear hw8 hg4
    refine (GQ.out _ (by omega) _).mono ?_
    rintro e w9 ⟨d2, rfl, hdb, gq, hx⟩
    have hb9 := hop hb8 h0 hx
    have D9 := D8.below hx D8.lt
    have gd9 := gd8.below hx
    obtain ⟨g5, hg5⟩ : ∃ g, w9.heap.size = g := ⟨_, rfl⟩
    obtain ⟨w10, hw10⟩ : ∃ w, w9.alloc (.cells #[.int .u64 (d2.dg : Int), .int .i64 d2.ln, .int .i64 d2.by_, .int .i64 d2.e.ts, .slice d2.e.A d2.e.n d2.e.c, .string d2.e.ln] 45) = w := ⟨_, rfl⟩
    have E10 : Blk w10 g5 45 #[.int .u64 (d2.dg : Int), .int .i64 d2.ln, .int .i64 d2.by_, .int .i64 d2.e.ts, .slice d2.e.A d2.e.n d2.e.c, .string d2.e.ln] := by rw [← hw10, ← hg5]; exact Blk.new _ _ _
    have D10 : Blk w10 g4 29 #[.int .u64 (d.dg : Int), .int .i64 d.ln, .int .i64 d.by_, .int .i64 d.e.ts, .slice d.e.A d.e.n d.e.c, .string d.e.ln] := by rw [← hw10]; exact D9.alloc _
    have gq10 : GoodQ w10 d2.e := by rw [← hw10]; exact gq.below ((Below.refl _ _).alloc (Nat.le_refl _) _)
    have gd10 : Good 0 w10 d.e := by rw [← hw10]; exact gd9.below ((Below.refl _ _).alloc (Nat.le_refl _) _)
    have hb10 : Below W.heap.size W w10 := by rw [← hw10]; exact hb9.alloc hb9.size _
    have hdd : d2.b = d.b := by rw [hdb, HDB.out]
    obtain ⟨dg, ln, bn, ⟨ts, A, mm, mc, ls, l1⟩⟩ := d
    obtain ⟨dg', ln', bn', ⟨ts', A', m', mc', ls', l1'⟩⟩ := d2
    have e1 : dg' = dg := congrArg CurB.dg hdd
    have e2 : ln' = ln := congrArg CurB.ln hdd
    have e3 : bn' = bn := congrArg CurB.by_ hdd
    have SS := Lib.hid (SM.out ⟨ts, A, mm, mc, ls, l1⟩ ⟨ts', A', m', mc', ls', l1'⟩ _ w10 (congrArg CurB.e hdd).symm gd10 gq10)
    subst e1 e2 e3
    dsimp only at D10 E10
    have q0 : w10.cell? ⟨g4, 0, none⟩ = some (.int .u64 (dg' : Int)) := (D10.cell 0).trans rfl
    have q1 : w10.cell? ⟨g4, 1, none⟩ = some (.int .i64 ln') := (D10.cell 1).trans rfl
    have q2 : w10.cell? ⟨g4, 2, none⟩ = some (.int .i64 bn') := (D10.cell 2).trans rfl
    have q3 : w10.cell? ⟨g4, 3, none⟩ = some (.int .i64 ts) := (D10.cell 3).trans rfl
    have q4 : w10.cell? ⟨g4, 4, none⟩ = some (.slice A mm mc) := (D10.cell 4).trans rfl
    have q5 : w10.cell? ⟨g4, 5, none⟩ = some (.string l1) := (D10.cell 5).trans rfl
    have r0 : w10.cell? ⟨g5, 0, none⟩ = some (.int .u64 (dg' : Int)) := (E10.cell 0).trans rfl
    have r1 : w10.cell? ⟨g5, 1, none⟩ = some (.int .i64 ln') := (E10.cell 1).trans rfl
    have r2 : w10.cell? ⟨g5, 2, none⟩ = some (.int .i64 bn') := (E10.cell 2).trans rfl
    have r3 : w10.cell? ⟨g5, 3, none⟩ = some (.int .i64 ts') := (E10.cell 3).trans rfl
    have r4 : w10.cell? ⟨g5, 4, none⟩ = some (.slice A' m' mc') := (E10.cell 4).trans rfl
    have r5 : w10.cell? ⟨g5, 5, none⟩ = some (.string l1') := (E10.cell 5).trans rfl
    obtain ⟨ge, hge⟩ : ∃ z, getE X = z := ⟨_, rfl⟩
    rw [hge]
    clear hx hb8 hb9 D8 gd8 D9 gd9 gq gq10 gd10 hdb HDB hdd hge SM
    have D11 := D10
    have E13 := E10
    clear D10 E10
    go_wp2_with fail
    clear hw10 hg5 q0 q1 q2 q3 q4 q5 r0 r1 r2 r3 r4 r5
    refine SS.out.mono ?_
    rintro e w11 ⟨rfl, hx⟩
    have hb11 := hop hb10 h0 hx
    have E11 := hb11
    have D12 := D11.below hx D11.lt
    have F12 := E13.below hx E13.lt
    have q0 : w11.cell? ⟨g4, 0, none⟩ = some (.int .u64 (dg' : Int)) := (D12.cell 0).trans rfl
    have q1 : w11.cell? ⟨g4, 1, none⟩ = some (.int .i64 ln') := (D12.cell 1).trans rfl
    have q2 : w11.cell? ⟨g4, 2, none⟩ = some (.int .i64 bn') := (D12.cell 2).trans rfl
    have r0 : w11.cell? ⟨g5, 0, none⟩ = some (.int .u64 (dg' : Int)) := (F12.cell 0).trans rfl
    have r1 : w11.cell? ⟨g5, 1, none⟩ = some (.int .i64 ln') := (F12.cell 1).trans rfl
    have r2 : w11.cell? ⟨g5, 2, none⟩ = some (.int .i64 bn') := (F12.cell 2).trans rfl
    clear hx D11 E13 D12 F12 E11
    go_wp2
    go_ret
    exact ⟨by first | rfl | (simp; done), hb11⟩
  · go_enter Tryz.func4, Tryz.ntmps4
    go_wp2_with fail
    obtain ⟨g1, hg1⟩ : ∃ g, W.heap.size = g := ⟨_, rfl⟩
    obtain ⟨w0, hw0⟩ : ∃ w, W.alloc (.cells #[.int .u64 (x.c.dg : Int), .int .i64 x.c.ln, .int .i64 x.c.by_, .int .i64 x.c.e.ts, .slice x.c.e.A x.c.e.n x.c.e.c, .string x.c.e.ln, .bool x.own, .int .i64 x.e.e.ts, .slice x.e.e.A x.e.e.n x.e.e.c, .string x.e.e.ln, .bool x.e.own, .int .i8 x.e.t, .slice x.e.LA x.e.Ln x.e.Lc, .int .u8 (x.e.k : Int)] 35) = w := ⟨_, rfl⟩
    have B0 : Blk w0 g1 35 #[.int .u64 (x.c.dg : Int), .int .i64 x.c.ln, .int .i64 x.c.by_, .int .i64 x.c.e.ts, .slice x.c.e.A x.c.e.n x.c.e.c, .string x.c.e.ln, .bool x.own, .int .i64 x.e.e.ts, .slice x.e.e.A x.e.e.n x.e.e.c, .string x.e.e.ln, .bool x.e.own, .int .i8 x.e.t, .slice x.e.LA x.e.Ln x.e.Lc, .int .u8 (x.e.k : Int)] := by rw [← hw0, ← hg1]; exact Blk.new W _ _
    have hb0 : Below W.heap.size W w0 := by rw [← hw0]; exact (Below.refl _ _).alloc h0 _
    have hgW : W.heap.size ≤ g1 := by omega
    rw [hw0]
    rw [hg1]
    have HGW := Lib.hid hgW
    clear hw0 hg1 hgW
    refine (HX.out _ hb0).mono ?_
    rintro e w1 ⟨rfl, hx⟩
    have B1 := B0.below hx B0.lt
    have hb1 := hop hb0 h0 hx
    have fz := B1.frozen 6
    have o6 : w1.cell? ⟨g1, 6, none⟩ = some (.bool x.own) := (B1.cell 6).trans rfl
    have B2 := B1.set_ 6 (.bool true)
    simp only [List.setIfInBounds_toArray, List.set_cons_zero, List.set_cons_succ] at B2
    have hb2 := hb1.setCell (p := ⟨g1, 6, none⟩) HGW.out (.bool true)
    obtain ⟨w2, hw2⟩ : ∃ w, w1.setCell ⟨g1, 6, none⟩ (.bool true) = w := ⟨_, rfl⟩
    rw [hw2] at B2 hb2
    have p0 : w2.cell? ⟨g1, 0, none⟩ = some (.int .u64 (x.c.dg : Int)) := (B2.cell 0).trans rfl
    have p1 : w2.cell? ⟨g1, 1, none⟩ = some (.int .i64 x.c.ln) := (B2.cell 1).trans rfl
    have p2 : w2.cell? ⟨g1, 2, none⟩ = some (.int .i64 x.c.by_) := (B2.cell 2).trans rfl
    have p3 : w2.cell? ⟨g1, 3, none⟩ = some (.int .i64 x.c.e.ts) := (B2.cell 3).trans rfl
    have p4 : w2.cell? ⟨g1, 4, none⟩ = some (.slice x.c.e.A x.c.e.n x.c.e.c) := (B2.cell 4).trans rfl
    have p5 : w2.cell? ⟨g1, 5, none⟩ = some (.string x.c.e.ln) := (B2.cell 5).trans rfl
    have p6 : w2.cell? ⟨g1, 6, none⟩ = some (.bool true) := (B2.cell 6).trans rfl
    have p7 : w2.cell? ⟨g1, 7, none⟩ = some (.int .i64 x.e.e.ts) := (B2.cell 7).trans rfl
    have p8 : w2.cell? ⟨g1, 8, none⟩ = some (.slice x.e.e.A x.e.e.n x.e.e.c) := (B2.cell 8).trans rfl
    have p9 : w2.cell? ⟨g1, 9, none⟩ = some (.string x.e.e.ln) := (B2.cell 9).trans rfl
    have p10 : w2.cell? ⟨g1, 10, none⟩ = some (.bool x.e.own) := (B2.cell 10).trans rfl
    have p11 : w2.cell? ⟨g1, 11, none⟩ = some (.int .i8 x.e.t) := (B2.cell 11).trans rfl
    have p12 : w2.cell? ⟨g1, 12, none⟩ = some (.slice x.e.LA x.e.Ln x.e.Lc) := (B2.cell 12).trans rfl
    have p13 : w2.cell? ⟨g1, 13, none⟩ = some (.int .u8 (x.e.k : Int)) := (B2.cell 13).trans rfl
    have HGS2 := Lib.hid (HGS.out _ hb2)
    clear hx hb0 B0 hb1 B1 HX HGS B2
    go_wp2_with fail
    clear hw2 o6 fz p0 p1 p2 p3 p4 p5 p6 p7 p8 p9 p10 p11 p12 p13
    refine (SP.out _ HGS2.out).mono ?_
    rintro e w3 ⟨c, rfl, hcb, gc, hx⟩
    have hb3 := hop hb2 h0 hx
    dsimp only [CurX.val]
    have HCB := Lib.hid hcb
    clear hx hb2 SP HGS2 hcb
    go_wp2_with fail
    refine (RC.out c _ _ HCB.out gc).mono ?_
    rintro e w4 ⟨q, rfl, hq, hqn, gq, hx⟩
    have hb4 := hop hb3 h0 hx
    have HQ1 := Lib.hid hq
    have HQ2 := Lib.hid hqn
    clear hx hb3 gc RC hq hqn
    go_wp2_with fail
    refine (PT.out c q _ HCB.out HQ1.out gq HQ2.out).mono ?_
    rintro e w5 ⟨rfl, hx⟩
    have hb5 := hop hb4 h0 hx
    clear hx hb4 gq PT HQ1 HQ2 HCB
    go_wp2_with fail
    refine (BD.out X (by omega) _).mono ?_
    rintro e w6 ⟨u, hus, rfl, hx⟩
    have hb6 := hop hb5 h0 hx
    clear hx hb5
    go_wp2_with fail
    refine (GT.out _ (by omega) _ (HL.out.below hb6)).mono ?_
    rintro e w7 ⟨d, rfl, hdb, gd, hx⟩
    have hb7 := hop hb6 h0 hx
    obtain ⟨g4, hg4⟩ : ∃ g, w7.heap.size = g := ⟨_, rfl⟩
    obtain ⟨w8, hw8⟩ : ∃ w, w7.alloc (.cells #[.int .u64 (d.dg : Int), .int .i64 d.ln, .int .i64 d.by_, .int .i64 d.e.ts, .slice d.e.A d.e.n d.e.c, .string d.e.ln] 29) = w := ⟨_, rfl⟩
    have D8 : Blk w8 g4 29 #[.int .u64 (d.dg : Int), .int .i64 d.ln, .int .i64 d.by_, .int .i64 d.e.ts, .slice d.e.A d.e.n d.e.c, .string d.e.ln] := by rw [← hw8, ← hg4]; exact Blk.new _ _ _
    have gd8 : Good 0 w8 d.e := by rw [← hw8]; exact gd.below ((Below.refl _ _).alloc (Nat.le_refl _) _)
    have hb8 : Below W.heap.size W w8 := by rw [← hw8]; exact hb7.alloc hb7.size _
    have HDB := Lib.hid hdb
    clear hx hb7 gd hdb
    go_wp2_with fail
    clear hw8 hg4
    refine (GQ.out _ (by omega) _).mono ?_
    rintro e w9 ⟨d2, rfl, hdb, gq, hx⟩
    have hb9 := hop hb8 h0 hx
    have D9 := D8.below hx D8.lt
    have gd9 := gd8.below hx
    obtain ⟨g5, hg5⟩ : ∃ g, w9.heap.size = g := ⟨_, rfl⟩
    obtain ⟨w10, hw10⟩ : ∃ w, w9.alloc (.cells #[.int .u64 (d2.dg : Int), .int .i64 d2.ln, .int .i64 d2.by_, .int .i64 d2.e.ts, .slice d2.e.A d2.e.n d2.e.c, .string d2.e.ln] 45) = w := ⟨_, rfl⟩
    have E10 : Blk w10 g5 45 #[.int .u64 (d2.dg : Int), .int .i64 d2.ln, .int .i64 d2.by_, .int .i64 d2.e.ts, .slice d2.e.A d2.e.n d2.e.c, .string d2.e.ln] := by rw [← hw10, ← hg5]; exact Blk.new _ _ _
    have D10 : Blk w10 g4 29 #[.int .u64 (d.dg : Int), .int .i64 d.ln, .int .i64 d.by_, .int .i64 d.e.ts, .slice d.e.A d.e.n d.e.c, .string d.e.ln] := by rw [← hw10]; exact D9.alloc _
    have gq10 : GoodQ w10 d2.e := by rw [← hw10]; exact gq.below ((Below.refl _ _).alloc (Nat.le_refl _) _)
    have gd10 : Good 0 w10 d.e := by rw [← hw10]; exact gd9.below ((Below.refl _ _).alloc (Nat.le_refl _) _)
    have hb10 : Below W.heap.size W w10 := by rw [← hw10]; exact hb9.alloc hb9.size _
    have hdd : d2.b = d.b := by rw [hdb, HDB.out]
    obtain ⟨dg, ln, bn, ⟨ts, A, mm, mc, ls, l1⟩⟩ := d
    obtain ⟨dg', ln', bn', ⟨ts', A', m', mc', ls', l1'⟩⟩ := d2
    have e1 : dg' = dg := congrArg CurB.dg hdd
    have e2 : ln' = ln := congrArg CurB.ln hdd
    have e3 : bn' = bn := congrArg CurB.by_ hdd
    have SS := Lib.hid (SM.out ⟨ts, A, mm, mc, ls, l1⟩ ⟨ts', A', m', mc', ls', l1'⟩ _ w10 (congrArg CurB.e hdd).symm gd10 gq10)
    subst e1 e2 e3
    dsimp only at D10 E10
    have q0 : w10.cell? ⟨g4, 0, none⟩ = some (.int .u64 (dg' : Int)) := (D10.cell 0).trans rfl
    have q1 : w10.cell? ⟨g4, 1, none⟩ = some (.int .i64 ln') := (D10.cell 1).trans rfl
    have q2 : w10.cell? ⟨g4, 2, none⟩ = some (.int .i64 bn') := (D10.cell 2).trans rfl
    have q3 : w10.cell? ⟨g4, 3, none⟩ = some (.int .i64 ts) := (D10.cell 3).trans rfl
    have q4 : w10.cell? ⟨g4, 4, none⟩ = some (.slice A mm mc) := (D10.cell 4).trans rfl
    have q5 : w10.cell? ⟨g4, 5, none⟩ = some (.string l1) := (D10.cell 5).trans rfl
    have r0 : w10.cell? ⟨g5, 0, none⟩ = some (.int .u64 (dg' : Int)) := (E10.cell 0).trans rfl
    have r1 : w10.cell? ⟨g5, 1, none⟩ = some (.int .i64 ln') := (E10.cell 1).trans rfl
    have r2 : w10.cell? ⟨g5, 2, none⟩ = some (.int .i64 bn') := (E10.cell 2).trans rfl
    have r3 : w10.cell? ⟨g5, 3, none⟩ = some (.int .i64 ts') := (E10.cell 3).trans rfl
    have r4 : w10.cell? ⟨g5, 4, none⟩ = some (.slice A' m' mc') := (E10.cell 4).trans rfl
    have r5 : w10.cell? ⟨g5, 5, none⟩ = some (.string l1') := (E10.cell 5).trans rfl
    obtain ⟨ge, hge⟩ : ∃ z, getE u = z := ⟨_, rfl⟩
    rw [hge]
    clear hx hb8 hb9 D8 gd8 D9 gd9 gq gq10 gd10 hdb HDB hdd hge SM
    have D11 := D10
    have E13 := E10
    clear D10 E10
    go_wp2_with fail
    clear hw10 hg5 q0 q1 q2 q3 q4 q5 r0 r1 r2 r3 r4 r5
    refine SS.out.mono ?_
    rintro e w11 ⟨rfl, hx⟩
    have hb11 := hop hb10 h0 hx
    have E11 := hb11
    have D12 := D11.below hx D11.lt
    have F12 := E13.below hx E13.lt
    have q0 : w11.cell? ⟨g4, 0, none⟩ = some (.int .u64 (dg' : Int)) := (D12.cell 0).trans rfl
    have q1 : w11.cell? ⟨g4, 1, none⟩ = some (.int .i64 ln') := (D12.cell 1).trans rfl
    have q2 : w11.cell? ⟨g4, 2, none⟩ = some (.int .i64 bn') := (D12.cell 2).trans rfl
    have r0 : w11.cell? ⟨g5, 0, none⟩ = some (.int .u64 (dg' : Int)) := (F12.cell 0).trans rfl
    have r1 : w11.cell? ⟨g5, 1, none⟩ = some (.int .i64 ln') := (F12.cell 1).trans rfl
    have r2 : w11.cell? ⟨g5, 2, none⟩ = some (.int .i64 bn') := (F12.cell 2).trans rfl
    clear hx D11 E13 D12 F12 E11
    go_wp2
    go_ret
    exact ⟨by first | rfl | (simp; done), hb11⟩
  · go_enter Tryz.func4, Tryz.ntmps4
    go_wp2_with fail
    obtain ⟨g1, hg1⟩ : ∃ g, W.heap.size = g := ⟨_, rfl⟩
    obtain ⟨w0, hw0⟩ : ∃ w, W.alloc (.cells #[.int .u64 (x.c.dg : Int), .int .i64 x.c.ln, .int .i64 x.c.by_, .int .i64 x.c.e.ts, .slice x.c.e.A x.c.e.n x.c.e.c, .string x.c.e.ln, .bool x.own, .int .i64 x.e.e.ts, .slice x.e.e.A x.e.e.n x.e.e.c, .string x.e.e.ln, .bool x.e.own, .int .i8 x.e.t, .slice x.e.LA x.e.Ln x.e.Lc, .int .u8 (x.e.k : Int)] 35) = w := ⟨_, rfl⟩
    have B0 : Blk w0 g1 35 #[.int .u64 (x.c.dg : Int), .int .i64 x.c.ln, .int .i64 x.c.by_, .int .i64 x.c.e.ts, .slice x.c.e.A x.c.e.n x.c.e.c, .string x.c.e.ln, .bool x.own, .int .i64 x.e.e.ts, .slice x.e.e.A x.e.e.n x.e.e.c, .string x.e.e.ln, .bool x.e.own, .int .i8 x.e.t, .slice x.e.LA x.e.Ln x.e.Lc, .int .u8 (x.e.k : Int)] := by rw [← hw0, ← hg1]; exact Blk.new W _ _
    have hb0 : Below W.heap.size W w0 := by rw [← hw0]; exact (Below.refl _ _).alloc h0 _
    have hgW : W.heap.size ≤ g1 := by omega
    rw [hw0]
    rw [hg1]
    have HGW := Lib.hid hgW
    clear hw0 hg1 hgW
    refine (HX.out _ hb0).mono ?_
    rintro e w1 ⟨rfl, hx⟩
    have B1 := B0.below hx B0.lt
    have hb1 := hop hb0 h0 hx
    have fz := B1.frozen 6
    have o6 : w1.cell? ⟨g1, 6, none⟩ = some (.bool x.own) := (B1.cell 6).trans rfl
    have B2 := B1.set_ 6 (.bool true)
    simp only [List.setIfInBounds_toArray, List.set_cons_zero, List.set_cons_succ] at B2
    have hb2 := hb1.setCell (p := ⟨g1, 6, none⟩) HGW.out (.bool true)
    obtain ⟨w2, hw2⟩ : ∃ w, w1.setCell ⟨g1, 6, none⟩ (.bool true) = w := ⟨_, rfl⟩
    rw [hw2] at B2 hb2
    have p0 : w2.cell? ⟨g1, 0, none⟩ = some (.int .u64 (x.c.dg : Int)) := (B2.cell 0).trans rfl
    have p1 : w2.cell? ⟨g1, 1, none⟩ = some (.int .i64 x.c.ln) := (B2.cell 1).trans rfl
    have p2 : w2.cell? ⟨g1, 2, none⟩ = some (.int .i64 x.c.by_) := (B2.cell 2).trans rfl
    have p3 : w2.cell? ⟨g1, 3, none⟩ = some (.int .i64 x.c.e.ts) := (B2.cell 3).trans rfl
    have p4 : w2.cell? ⟨g1, 4, none⟩ = some (.slice x.c.e.A x.c.e.n x.c.e.c) := (B2.cell 4).trans rfl
    have p5 : w2.cell? ⟨g1, 5, none⟩ = some (.string x.c.e.ln) := (B2.cell 5).trans rfl
    have p6 : w2.cell? ⟨g1, 6, none⟩ = some (.bool true) := (B2.cell 6).trans rfl
    have p7 : w2.cell? ⟨g1, 7, none⟩ = some (.int .i64 x.e.e.ts) := (B2.cell 7).trans rfl
    have p8 : w2.cell? ⟨g1, 8, none⟩ = some (.slice x.e.e.A x.e.e.n x.e.e.c) := (B2.cell 8).trans rfl
    have p9 : w2.cell? ⟨g1, 9, none⟩ = some (.string x.e.e.ln) := (B2.cell 9).trans rfl
    have p10 : w2.cell? ⟨g1, 10, none⟩ = some (.bool x.e.own) := (B2.cell 10).trans rfl
    have p11 : w2.cell? ⟨g1, 11, none⟩ = some (.int .i8 x.e.t) := (B2.cell 11).trans rfl
    have p12 : w2.cell? ⟨g1, 12, none⟩ = some (.slice x.e.LA x.e.Ln x.e.Lc) := (B2.cell 12).trans rfl
    have p13 : w2.cell? ⟨g1, 13, none⟩ = some (.int .u8 (x.e.k : Int)) := (B2.cell 13).trans rfl
    have HGS2 := Lib.hid (HGS.out _ hb2)
    clear hx hb0 B0 hb1 B1 HX HGS B2
    go_wp2_with fail
    clear hw2 o6 fz p0 p1 p2 p3 p4 p5 p6 p7 p8 p9 p10 p11 p12 p13
    refine (SP.out _ HGS2.out).mono ?_
    rintro e w3 ⟨c, rfl, hcb, gc, hx⟩
    have hb3 := hop hb2 h0 hx
    dsimp only [CurX.val]
    have HCB := Lib.hid hcb
    clear hx hb2 SP HGS2 hcb
    go_wp2_with fail
    refine (RC.out c _ _ HCB.out gc).mono ?_
    rintro e w4 ⟨q, rfl, hq, hqn, gq, hx⟩
    have hb4 := hop hb3 h0 hx
    have HQ1 := Lib.hid hq
    have HQ2 := Lib.hid hqn
    clear hx hb3 gc RC hq hqn
    go_wp2_with fail
    refine (PT.out c q _ HCB.out HQ1.out gq HQ2.out).mono ?_
    rintro e w5 ⟨rfl, hx⟩
    have hb5 := hop hb4 h0 hx
    clear hx hb4 gq PT HQ1 HQ2 HCB
    go_wp2_with fail
    refine (GT.out _ (by omega) _ (HL.out.below hb5)).mono ?_
    rintro e w7 ⟨d, rfl, hdb, gd, hx⟩
    have hb7 := hop hb5 h0 hx
    obtain ⟨g4, hg4⟩ : ∃ g, w7.heap.size = g := ⟨_, rfl⟩
    obtain ⟨w8, hw8⟩ : ∃ w, w7.alloc (.cells #[.int .u64 (d.dg : Int), .int .i64 d.ln, .int .i64 d.by_, .int .i64 d.e.ts, .slice d.e.A d.e.n d.e.c, .string d.e.ln] 29) = w := ⟨_, rfl⟩
    have D8 : Blk w8 g4 29 #[.int .u64 (d.dg : Int), .int .i64 d.ln, .int .i64 d.by_, .int .i64 d.e.ts, .slice d.e.A d.e.n d.e.c, .string d.e.ln] := by rw [← hw8, ← hg4]; exact Blk.new _ _ _
    have gd8 : Good 0 w8 d.e := by rw [← hw8]; exact gd.below ((Below.refl _ _).alloc (Nat.le_refl _) _)
    have hb8 : Below W.heap.size W w8 := by rw [← hw8]; exact hb7.alloc hb7.size _
    have HDB := Lib.hid hdb
    clear hx hb7 gd hdb
    go_wp2_with fail
    clear hw8 hg4
    refine (GQ.out _ (by omega) _).mono ?_
    rintro e w9 ⟨d2, rfl, hdb, gq, hx⟩
    have hb9 := hop hb8 h0 hx
    have D9 := D8.below hx D8.lt
    have gd9 := gd8.below hx
    obtain ⟨g5, hg5⟩ : ∃ g, w9.heap.size = g := ⟨_, rfl⟩
    obtain ⟨w10, hw10⟩ : ∃ w, w9.alloc (.cells #[.int .u64 (d2.dg : Int), .int .i64 d2.ln, .int .i64 d2.by_, .int .i64 d2.e.ts, .slice d2.e.A d2.e.n d2.e.c, .string d2.e.ln] 45) = w := ⟨_, rfl⟩
    have E10 : Blk w10 g5 45 #[.int .u64 (d2.dg : Int), .int .i64 d2.ln, .int .i64 d2.by_, .int .i64 d2.e.ts, .slice d2.e.A d2.e.n d2.e.c, .string d2.e.ln] := by rw [← hw10, ← hg5]; exact Blk.new _ _ _
    have D10 : Blk w10 g4 29 #[.int .u64 (d.dg : Int), .int .i64 d.ln, .int .i64 d.by_, .int .i64 d.e.ts, .slice d.e.A d.e.n d.e.c, .string d.e.ln] := by rw [← hw10]; exact D9.alloc _
    have gq10 : GoodQ w10 d2.e := by rw [← hw10]; exact gq.below ((Below.refl _ _).alloc (Nat.le_refl _) _)
    have gd10 : Good 0 w10 d.e := by rw [← hw10]; exact gd9.below ((Below.refl _ _).alloc (Nat.le_refl _) _)
    have hb10 : Below W.heap.size W w10 := by rw [← hw10]; exact hb9.alloc hb9.size _
    have hdd : d2.b = d.b := by rw [hdb, HDB.out]
    obtain ⟨dg, ln, bn, ⟨ts, A, mm, mc, ls, l1⟩⟩ := d
    obtain ⟨dg', ln', bn', ⟨ts', A', m', mc', ls', l1'⟩⟩ := d2
    have e1 : dg' = dg := congrArg CurB.dg hdd
    have e2 : ln' = ln := congrArg CurB.ln hdd
    have e3 : bn' = bn := congrArg CurB.by_ hdd
    have SS := Lib.hid (SM.out ⟨ts, A, mm, mc, ls, l1⟩ ⟨ts', A', m', mc', ls', l1'⟩ _ w10 (congrArg CurB.e hdd).symm gd10 gq10)
    subst e1 e2 e3
    dsimp only at D10 E10
    have q0 : w10.cell? ⟨g4, 0, none⟩ = some (.int .u64 (dg' : Int)) := (D10.cell 0).trans rfl
    have q1 : w10.cell? ⟨g4, 1, none⟩ = some (.int .i64 ln') := (D10.cell 1).trans rfl
    have q2 : w10.cell? ⟨g4, 2, none⟩ = some (.int .i64 bn') := (D10.cell 2).trans rfl
    have q3 : w10.cell? ⟨g4, 3, none⟩ = some (.int .i64 ts) := (D10.cell 3).trans rfl
    have q4 : w10.cell? ⟨g4, 4, none⟩ = some (.slice A mm mc) := (D10.cell 4).trans rfl
    have q5 : w10.cell? ⟨g4, 5, none⟩ = some (.string l1) := (D10.cell 5).trans rfl
    have r0 : w10.cell? ⟨g5, 0, none⟩ = some (.int .u64 (dg' : Int)) := (E10.cell 0).trans rfl
    have r1 : w10.cell? ⟨g5, 1, none⟩ = some (.int .i64 ln') := (E10.cell 1).trans rfl
    have r2 : w10.cell? ⟨g5, 2, none⟩ = some (.int .i64 bn') := (E10.cell 2).trans rfl
    have r3 : w10.cell? ⟨g5, 3, none⟩ = some (.int .i64 ts') := (E10.cell 3).trans rfl
    have r4 : w10.cell? ⟨g5, 4, none⟩ = some (.slice A' m' mc') := (E10.cell 4).trans rfl
    have r5 : w10.cell? ⟨g5, 5, none⟩ = some (.string l1') := (E10.cell 5).trans rfl
    obtain ⟨ge, hge⟩ : ∃ z, getE s = z := ⟨_, rfl⟩
    rw [hge]
    clear hx hb8 hb9 D8 gd8 D9 gd9 gq gq10 gd10 hdb HDB hdd hge SM
    have D11 := D10
    have E13 := E10
    clear D10 E10
    go_wp2_with fail
    clear hw10 hg5 q0 q1 q2 q3 q4 q5 r0 r1 r2 r3 r4 r5
    refine SS.out.mono ?_
    rintro e w11 ⟨rfl, hx⟩
    have hb11 := hop hb10 h0 hx
    have E11 := hb11
    have D12 := D11.below hx D11.lt
    have F12 := E13.below hx E13.lt
    have q0 : w11.cell? ⟨g4, 0, none⟩ = some (.int .u64 (dg' : Int)) := (D12.cell 0).trans rfl
    have q1 : w11.cell? ⟨g4, 1, none⟩ = some (.int .i64 ln') := (D12.cell 1).trans rfl
    have q2 : w11.cell? ⟨g4, 2, none⟩ = some (.int .i64 bn') := (D12.cell 2).trans rfl
    have r0 : w11.cell? ⟨g5, 0, none⟩ = some (.int .u64 (dg' : Int)) := (F12.cell 0).trans rfl
    have r1 : w11.cell? ⟨g5, 1, none⟩ = some (.int .i64 ln') := (F12.cell 1).trans rfl
    have r2 : w11.cell? ⟨g5, 2, none⟩ = some (.int .i64 bn') := (F12.cell 2).trans rfl
    clear hx D11 E13 D12 F12 E11
    go_wp2
    go_ret
    exact ⟨by first | rfl | (simp; done), hb11⟩
  · go_enter Tryz.func4, Tryz.ntmps4
    go_wp2_with fail
    obtain ⟨g1, hg1⟩ : ∃ g, W.heap.size = g := ⟨_, rfl⟩
    obtain ⟨w0, hw0⟩ : ∃ w, W.alloc (.cells #[.int .u64 (x.c.dg : Int), .int .i64 x.c.ln, .int .i64 x.c.by_, .int .i64 x.c.e.ts, .slice x.c.e.A x.c.e.n x.c.e.c, .string x.c.e.ln, .bool x.own, .int .i64 x.e.e.ts, .slice x.e.e.A x.e.e.n x.e.e.c, .string x.e.e.ln, .bool x.e.own, .int .i8 x.e.t, .slice x.e.LA x.e.Ln x.e.Lc, .int .u8 (x.e.k : Int)] 35) = w := ⟨_, rfl⟩
    have B0 : Blk w0 g1 35 #[.int .u64 (x.c.dg : Int), .int .i64 x.c.ln, .int .i64 x.c.by_, .int .i64 x.c.e.ts, .slice x.c.e.A x.c.e.n x.c.e.c, .string x.c.e.ln, .bool x.own, .int .i64 x.e.e.ts, .slice x.e.e.A x.e.e.n x.e.e.c, .string x.e.e.ln, .bool x.e.own, .int .i8 x.e.t, .slice x.e.LA x.e.Ln x.e.Lc, .int .u8 (x.e.k : Int)] := by rw [← hw0, ← hg1]; exact Blk.new W _ _
    have hb0 : Below W.heap.size W w0 := by rw [← hw0]; exact (Below.refl _ _).alloc h0 _
    have hgW : W.heap.size ≤ g1 := by omega
    rw [hw0]
    rw [hg1]
    have HGW := Lib.hid hgW
    clear hw0 hg1 hgW
    refine (HX.out _ hb0).mono ?_
    rintro e w1 ⟨rfl, hx⟩
    have B1 := B0.below hx B0.lt
    have hb1 := hop hb0 h0 hx
    have fz := B1.frozen 6
    have o6 : w1.cell? ⟨g1, 6, none⟩ = some (.bool x.own) := (B1.cell 6).trans rfl
    have B2 := B1.set_ 6 (.bool true)
    simp only [List.setIfInBounds_toArray, List.set_cons_zero, List.set_cons_succ] at B2
    have hb2 := hb1.setCell (p := ⟨g1, 6, none⟩) HGW.out (.bool true)
    obtain ⟨w2, hw2⟩ : ∃ w, w1.setCell ⟨g1, 6, none⟩ (.bool true) = w := ⟨_, rfl⟩
    rw [hw2] at B2 hb2
    have p0 : w2.cell? ⟨g1, 0, none⟩ = some (.int .u64 (x.c.dg : Int)) := (B2.cell 0).trans rfl
    have p1 : w2.cell? ⟨g1, 1, none⟩ = some (.int .i64 x.c.ln) := (B2.cell 1).trans rfl
    have p2 : w2.cell? ⟨g1, 2, none⟩ = some (.int .i64 x.c.by_) := (B2.cell 2).trans rfl
    have p3 : w2.cell? ⟨g1, 3, none⟩ = some (.int .i64 x.c.e.ts) := (B2.cell 3).trans rfl
    have p4 : w2.cell? ⟨g1, 4, none⟩ = some (.slice x.c.e.A x.c.e.n x.c.e.c) := (B2.cell 4).trans rfl
    have p5 : w2.cell? ⟨g1, 5, none⟩ = some (.string x.c.e.ln) := (B2.cell 5).trans rfl
    have p6 : w2.cell? ⟨g1, 6, none⟩ = some (.bool true) := (B2.cell 6).trans rfl
    have p7 : w2.cell? ⟨g1, 7, none⟩ = some (.int .i64 x.e.e.ts) := (B2.cell 7).trans rfl
    have p8 : w2.cell? ⟨g1, 8, none⟩ = some (.slice x.e.e.A x.e.e.n x.e.e.c) := (B2.cell 8).trans rfl
    have p9 : w2.cell? ⟨g1, 9, none⟩ = some (.string x.e.e.ln) := (B2.cell 9).trans rfl
    have p10 : w2.cell? ⟨g1, 10, none⟩ = some (.bool x.e.own) := (B2.cell 10).trans rfl
    have p11 : w2.cell? ⟨g1, 11, none⟩ = some (.int .i8 x.e.t) := (B2.cell 11).trans rfl
    have p12 : w2.cell? ⟨g1, 12, none⟩ = some (.slice x.e.LA x.e.Ln x.e.Lc) := (B2.cell 12).trans rfl
    have p13 : w2.cell? ⟨g1, 13, none⟩ = some (.int .u8 (x.e.k : Int)) := (B2.cell 13).trans rfl
    have HGS2 := Lib.hid (HGS.out _ hb2)
    clear hx hb0 B0 hb1 B1 HX HGS B2
    go_wp2_with fail
    clear hw2 o6 fz p0 p1 p2 p3 p4 p5 p6 p7 p8 p9 p10 p11 p12 p13
    refine (SP.out _ HGS2.out).mono ?_
    rintro e w3 ⟨c, rfl, hcb, gc, hx⟩
    have hb3 := hop hb2 h0 hx
    dsimp only [CurX.val]
    have HCB := Lib.hid hcb
    clear hx hb2 SP HGS2 hcb
    go_wp2_with fail
    refine (RC.out c _ _ HCB.out gc).mono ?_
    rintro e w4 ⟨q, rfl, hq, hqn, gq, hx⟩
    have hb4 := hop hb3 h0 hx
    have HQ1 := Lib.hid hq
    have HQ2 := Lib.hid hqn
    clear hx hb3 gc RC hq hqn
    go_wp2_with fail
    refine (PT.out c q _ HCB.out HQ1.out gq HQ2.out).mono ?_
    rintro e w5 ⟨rfl, hx⟩
    have hb5 := hop hb4 h0 hx
    clear hx hb4 gq PT HQ1 HQ2 HCB
    have hx17 := X2.out (by first | rfl | trivial)
    have c1 : (16 : Int) < (X.size : Int) := by omega
    have c2 : (X.size : Int) - 16 = ((X.size - 16 : Nat) : Int) := by omega
    have c3 : IntKind.i64.wrap ((X.size : Int) - 16) = ((X.size - 16 : Nat) : Int) := by rw [IntKind.wrap_i64]; omega
    have c4 : ((X.size - 16 : Nat) : Int) ≤ (X.size : Int) := by omega
    have BD2 := BD.out (X.extract 0 (X.size - 16)) (by rw [ByteArray.size_extract]; omega)
    have hys : (X.extract 0 (X.size - 16)).size ≤ 9000300 := by rw [ByteArray.size_extract]; omega
    obtain ⟨y, hy⟩ : ∃ y, X.size - 16 = y := ⟨_, rfl⟩
    rw [hy] at c2 c3 c4 BD2 hys
    replace BD2 := Lib.hid BD2
    clear hy
    go_wp2_with fail
    refine (BD2.out _).mono ?_
    rintro e w6 ⟨u, hus, rfl, hx⟩
    have hb6 := hop hb5 h0 hx
    clear hx hb5
    have hus2 : u.size ≤ 9000300 := by omega
    have SU := Lib.hid (fun w => SQ.out u (by omega) w)
    have HU := Lib.hid (fun w => HQ.out u w)
    have hsz := HSZ.out u
    obtain ⟨hh, hhe⟩ : ∃ h, hexS (sumS u) = h := ⟨_, rfl⟩
    replace HU := HU.out
    simp only [hhe] at HU
    replace HU := Lib.hid HU
    rw [hhe] at hsz
    have k1 : ¬ 9223372036854775807 < u.size + hh.size := by omega
    have k2 : (u ++ hh).size ≤ 16000000 := by rw [ByteArray.size_append]; omega
    clear hhe
    go_wp2_with fail
    refine (SU.out _).mono ?_
    rintro e w6b ⟨rfl, rfl⟩
    go_wp2_with fail
    refine (HU.out _).mono ?_
    rintro e w6c ⟨rfl, rfl⟩
    obtain ⟨v, hv⟩ : ∃ v, u ++ hh = v := ⟨_, rfl⟩
    rw [hv] at k2
    go_wp2_with fail
    refine (GT.out _ k2 _ (HL.out.below hb6)).mono ?_
    rintro e w7 ⟨d, rfl, hdb, gd, hx⟩
    have hb7 := hop hb6 h0 hx
    obtain ⟨g4, hg4⟩ : ∃ g, w7.heap.size = g := ⟨_, rfl⟩
    obtain ⟨w8, hw8⟩ : ∃ w, w7.alloc (.cells #[.int .u64 (d.dg : Int), .int .i64 d.ln, .int .i64 d.by_, .int .i64 d.e.ts, .slice d.e.A d.e.n d.e.c, .string d.e.ln] 29) = w := ⟨_, rfl⟩
    have D8 : Blk w8 g4 29 #[.int .u64 (d.dg : Int), .int .i64 d.ln, .int .i64 d.by_, .int .i64 d.e.ts, .slice d.e.A d.e.n d.e.c, .string d.e.ln] := by rw [← hw8, ← hg4]; exact Blk.new _ _ _
    have gd8 : Good 0 w8 d.e := by rw [← hw8]; exact gd.below ((Below.refl _ _).alloc (Nat.le_refl _) _)
    have hb8 : Below W.heap.size W w8 := by rw [← hw8]; exact hb7.alloc hb7.size _
    have HDB := Lib.hid hdb
    clear hx hb7 gd hdb
    go_wp2_with fail
    clear hw8 hg4
    refine (GQ.out _ k2 _).mono ?_
    rintro e w9 ⟨d2, rfl, hdb, gq, hx⟩
    have hb9 := hop hb8 h0 hx
    have D9 := D8.below hx D8.lt
    have gd9 := gd8.below hx
    obtain ⟨g5, hg5⟩ : ∃ g, w9.heap.size = g := ⟨_, rfl⟩
    obtain ⟨w10, hw10⟩ : ∃ w, w9.alloc (.cells #[.int .u64 (d2.dg : Int), .int .i64 d2.ln, .int .i64 d2.by_, .int .i64 d2.e.ts, .slice d2.e.A d2.e.n d2.e.c, .string d2.e.ln] 45) = w := ⟨_, rfl⟩
    have E10 : Blk w10 g5 45 #[.int .u64 (d2.dg : Int), .int .i64 d2.ln, .int .i64 d2.by_, .int .i64 d2.e.ts, .slice d2.e.A d2.e.n d2.e.c, .string d2.e.ln] := by rw [← hw10, ← hg5]; exact Blk.new _ _ _
    have D10 : Blk w10 g4 29 #[.int .u64 (d.dg : Int), .int .i64 d.ln, .int .i64 d.by_, .int .i64 d.e.ts, .slice d.e.A d.e.n d.e.c, .string d.e.ln] := by rw [← hw10]; exact D9.alloc _
    have gq10 : GoodQ w10 d2.e := by rw [← hw10]; exact gq.below ((Below.refl _ _).alloc (Nat.le_refl _) _)
    have gd10 : Good 0 w10 d.e := by rw [← hw10]; exact gd9.below ((Below.refl _ _).alloc (Nat.le_refl _) _)
    have hb10 : Below W.heap.size W w10 := by rw [← hw10]; exact hb9.alloc hb9.size _
    have hdd : d2.b = d.b := by rw [hdb, HDB.out]
    obtain ⟨dg, ln, bn, ⟨ts, A, mm, mc, ls, l1⟩⟩ := d
    obtain ⟨dg', ln', bn', ⟨ts', A', m', mc', ls', l1'⟩⟩ := d2
    have e1 : dg' = dg := congrArg CurB.dg hdd
    have e2 : ln' = ln := congrArg CurB.ln hdd
    have e3 : bn' = bn := congrArg CurB.by_ hdd
    have SS := Lib.hid (SM.out ⟨ts, A, mm, mc, ls, l1⟩ ⟨ts', A', m', mc', ls', l1'⟩ _ w10 (congrArg CurB.e hdd).symm gd10 gq10)
    subst e1 e2 e3
    dsimp only at D10 E10
    have q0 : w10.cell? ⟨g4, 0, none⟩ = some (.int .u64 (dg' : Int)) := (D10.cell 0).trans rfl
    have q1 : w10.cell? ⟨g4, 1, none⟩ = some (.int .i64 ln') := (D10.cell 1).trans rfl
    have q2 : w10.cell? ⟨g4, 2, none⟩ = some (.int .i64 bn') := (D10.cell 2).trans rfl
    have q3 : w10.cell? ⟨g4, 3, none⟩ = some (.int .i64 ts) := (D10.cell 3).trans rfl
    have q4 : w10.cell? ⟨g4, 4, none⟩ = some (.slice A mm mc) := (D10.cell 4).trans rfl
    have q5 : w10.cell? ⟨g4, 5, none⟩ = some (.string l1) := (D10.cell 5).trans rfl
    have r0 : w10.cell? ⟨g5, 0, none⟩ = some (.int .u64 (dg' : Int)) := (E10.cell 0).trans rfl
    have r1 : w10.cell? ⟨g5, 1, none⟩ = some (.int .i64 ln') := (E10.cell 1).trans rfl
    have r2 : w10.cell? ⟨g5, 2, none⟩ = some (.int .i64 bn') := (E10.cell 2).trans rfl
    have r3 : w10.cell? ⟨g5, 3, none⟩ = some (.int .i64 ts') := (E10.cell 3).trans rfl
    have r4 : w10.cell? ⟨g5, 4, none⟩ = some (.slice A' m' mc') := (E10.cell 4).trans rfl
    have r5 : w10.cell? ⟨g5, 5, none⟩ = some (.string l1') := (E10.cell 5).trans rfl
    obtain ⟨ge, hge⟩ : ∃ z, getE v = z := ⟨_, rfl⟩
    rw [hge]
    clear hx hb8 hb9 D8 gd8 D9 gd9 gq gq10 gd10 hdb HDB hdd hge SM
    have D11 := D10
    have E13 := E10
    clear D10 E10
    go_wp2_with fail
    clear hw10 hg5 q0 q1 q2 q3 q4 q5 r0 r1 r2 r3 r4 r5
    refine SS.out.mono ?_
    rintro e w11 ⟨rfl, hx⟩
    have hb11 := hop hb10 h0 hx
    have E11 := hb11
    have D12 := D11.below hx D11.lt
    have F12 := E13.below hx E13.lt
    have q0 : w11.cell? ⟨g4, 0, none⟩ = some (.int .u64 (dg' : Int)) := (D12.cell 0).trans rfl
    have q1 : w11.cell? ⟨g4, 1, none⟩ = some (.int .i64 ln') := (D12.cell 1).trans rfl
    have q2 : w11.cell? ⟨g4, 2, none⟩ = some (.int .i64 bn') := (D12.cell 2).trans rfl
    have r0 : w11.cell? ⟨g5, 0, none⟩ = some (.int .u64 (dg' : Int)) := (F12.cell 0).trans rfl
    have r1 : w11.cell? ⟨g5, 1, none⟩ = some (.int .i64 ln') := (F12.cell 1).trans rfl
    have r2 : w11.cell? ⟨g5, 2, none⟩ = some (.int .i64 bn') := (F12.cell 2).trans rfl
    clear hx D11 E13 D12 F12 E11
    go_wp2
    go_ret
    exact ⟨by first | rfl | (simp; done), hb11⟩
  · go_enter Tryz.func4, Tryz.ntmps4
    go_wp2_with fail
    obtain ⟨g1, hg1⟩ : ∃ g, W.heap.size = g := ⟨_, rfl⟩
    obtain ⟨w0, hw0⟩ : ∃ w, W.alloc (.cells #[.int .u64 (x.c.dg : Int), .int .i64 x.c.ln, .int .i64 x.c.by_, .int .i64 x.c.e.ts, .slice x.c.e.A x.c.e.n x.c.e.c, .string x.c.e.ln, .bool x.own, .int .i64 x.e.e.ts, .slice x.e.e.A x.e.e.n x.e.e.c, .string x.e.e.ln, .bool x.e.own, .int .i8 x.e.t, .slice x.e.LA x.e.Ln x.e.Lc, .int .u8 (x.e.k : Int)] 35) = w := ⟨_, rfl⟩
    have B0 : Blk w0 g1 35 #[.int .u64 (x.c.dg : Int), .int .i64 x.c.ln, .int .i64 x.c.by_, .int .i64 x.c.e.ts, .slice x.c.e.A x.c.e.n x.c.e.c, .string x.c.e.ln, .bool x.own, .int .i64 x.e.e.ts, .slice x.e.e.A x.e.e.n x.e.e.c, .string x.e.e.ln, .bool x.e.own, .int .i8 x.e.t, .slice x.e.LA x.e.Ln x.e.Lc, .int .u8 (x.e.k : Int)] := by rw [← hw0, ← hg1]; exact Blk.new W _ _
    have hb0 : Below W.heap.size W w0 := by rw [← hw0]; exact (Below.refl _ _).alloc h0 _
    have hgW : W.heap.size ≤ g1 := by omega
    rw [hw0]
    rw [hg1]
    have HGW := Lib.hid hgW
    clear hw0 hg1 hgW
    refine (HX.out _ hb0).mono ?_
    rintro e w1 ⟨rfl, hx⟩
    have B1 := B0.below hx B0.lt
    have hb1 := hop hb0 h0 hx
    have fz := B1.frozen 6
    have o6 : w1.cell? ⟨g1, 6, none⟩ = some (.bool x.own) := (B1.cell 6).trans rfl
    have B2 := B1.set_ 6 (.bool true)
    simp only [List.setIfInBounds_toArray, List.set_cons_zero, List.set_cons_succ] at B2
    have hb2 := hb1.setCell (p := ⟨g1, 6, none⟩) HGW.out (.bool true)
    obtain ⟨w2, hw2⟩ : ∃ w, w1.setCell ⟨g1, 6, none⟩ (.bool true) = w := ⟨_, rfl⟩
    rw [hw2] at B2 hb2
    have p0 : w2.cell? ⟨g1, 0, none⟩ = some (.int .u64 (x.c.dg : Int)) := (B2.cell 0).trans rfl
    have p1 : w2.cell? ⟨g1, 1, none⟩ = some (.int .i64 x.c.ln) := (B2.cell 1).trans rfl
    have p2 : w2.cell? ⟨g1, 2, none⟩ = some (.int .i64 x.c.by_) := (B2.cell 2).trans rfl
    have p3 : w2.cell? ⟨g1, 3, none⟩ = some (.int .i64 x.c.e.ts) := (B2.cell 3).trans rfl
    have p4 : w2.cell? ⟨g1, 4, none⟩ = some (.slice x.c.e.A x.c.e.n x.c.e.c) := (B2.cell 4).trans rfl
    have p5 : w2.cell? ⟨g1, 5, none⟩ = some (.string x.c.e.ln) := (B2.cell 5).trans rfl
    have p6 : w2.cell? ⟨g1, 6, none⟩ = some (.bool true) := (B2.cell 6).trans rfl
    have p7 : w2.cell? ⟨g1, 7, none⟩ = some (.int .i64 x.e.e.ts) := (B2.cell 7).trans rfl
    have p8 : w2.cell? ⟨g1, 8, none⟩ = some (.slice x.e.e.A x.e.e.n x.e.e.c) := (B2.cell 8).trans rfl
    have p9 : w2.cell? ⟨g1, 9, none⟩ = some (.string x.e.e.ln) := (B2.cell 9).trans rfl
    have p10 : w2.cell? ⟨g1, 10, none⟩ = some (.bool x.e.own) := (B2.cell 10).trans rfl
    have p11 : w2.cell? ⟨g1, 11, none⟩ = some (.int .i8 x.e.t) := (B2.cell 11).trans rfl
    have p12 : w2.cell? ⟨g1, 12, none⟩ = some (.slice x.e.LA x.e.Ln x.e.Lc) := (B2.cell 12).trans rfl
    have p13 : w2.cell? ⟨g1, 13, none⟩ = some (.int .u8 (x.e.k : Int)) := (B2.cell 13).trans rfl
    have HGS2 := Lib.hid (HGS.out _ hb2)
    clear hx hb0 B0 hb1 B1 HX HGS B2
    go_wp2_with fail
    clear hw2 o6 fz p0 p1 p2 p3 p4 p5 p6 p7 p8 p9 p10 p11 p12 p13
    refine (SP.out _ HGS2.out).mono ?_
    rintro e w3 ⟨c, rfl, hcb, gc, hx⟩
    have hb3 := hop hb2 h0 hx
    dsimp only [CurX.val]
    have HCB := Lib.hid hcb
    clear hx hb2 SP HGS2 hcb
    go_wp2_with fail
    refine (RC.out c _ _ HCB.out gc).mono ?_
    rintro e w4 ⟨q, rfl, hq, hqn, gq, hx⟩
    have hb4 := hop hb3 h0 hx
    have HQ1 := Lib.hid hq
    have HQ2 := Lib.hid hqn
    clear hx hb3 gc RC hq hqn
    go_wp2_with fail
    refine (PT.out c q _ HCB.out HQ1.out gq HQ2.out).mono ?_
    rintro e w5 ⟨rfl, hx⟩
    have hb5 := hop hb4 h0 hx
    clear hx hb4 gq PT HQ1 HQ2 HCB
    go_wp2_with fail
    refine (GT.out _ (by omega) _ (HL.out.below hb5)).mono ?_
    rintro e w7 ⟨d, rfl, hdb, gd, hx⟩
    have hb7 := hop hb5 h0 hx
    obtain ⟨g4, hg4⟩ : ∃ g, w7.heap.size = g := ⟨_, rfl⟩
    obtain ⟨w8, hw8⟩ : ∃ w, w7.alloc (.cells #[.int .u64 (d.dg : Int), .int .i64 d.ln, .int .i64 d.by_, .int .i64 d.e.ts, .slice d.e.A d.e.n d.e.c, .string d.e.ln] 29) = w := ⟨_, rfl⟩
    have D8 : Blk w8 g4 29 #[.int .u64 (d.dg : Int), .int .i64 d.ln, .int .i64 d.by_, .int .i64 d.e.ts, .slice d.e.A d.e.n d.e.c, .string d.e.ln] := by rw [← hw8, ← hg4]; exact Blk.new _ _ _
    have gd8 : Good 0 w8 d.e := by rw [← hw8]; exact gd.below ((Below.refl _ _).alloc (Nat.le_refl _) _)
    have hb8 : Below W.heap.size W w8 := by rw [← hw8]; exact hb7.alloc hb7.size _
    have HDB := Lib.hid hdb
    clear hx hb7 gd hdb
    go_wp2_with fail
    clear hw8 hg4
    refine (GQ.out _ (by omega) _).mono ?_
    rintro e w9 ⟨d2, rfl, hdb, gq, hx⟩
    have hb9 := hop hb8 h0 hx
    have D9 := D8.below hx D8.lt
    have gd9 := gd8.below hx
    obtain ⟨g5, hg5⟩ : ∃ g, w9.heap.size = g := ⟨_, rfl⟩
    obtain ⟨w10, hw10⟩ : ∃ w, w9.alloc (.cells #[.int .u64 (d2.dg : Int), .int .i64 d2.ln, .int .i64 d2.by_, .int .i64 d2.e.ts, .slice d2.e.A d2.e.n d2.e.c, .string d2.e.ln] 45) = w := ⟨_, rfl⟩
    have E10 : Blk w10 g5 45 #[.int .u64 (d2.dg : Int), .int .i64 d2.ln, .int .i64 d2.by_, .int .i64 d2.e.ts, .slice d2.e.A d2.e.n d2.e.c, .string d2.e.ln] := by rw [← hw10, ← hg5]; exact Blk.new _ _ _
    have D10 : Blk w10 g4 29 #[.int .u64 (d.dg : Int), .int .i64 d.ln, .int .i64 d.by_, .int .i64 d.e.ts, .slice d.e.A d.e.n d.e.c, .string d.e.ln] := by rw [← hw10]; exact D9.alloc _
    have gq10 : GoodQ w10 d2.e := by rw [← hw10]; exact gq.below ((Below.refl _ _).alloc (Nat.le_refl _) _)
    have gd10 : Good 0 w10 d.e := by rw [← hw10]; exact gd9.below ((Below.refl _ _).alloc (Nat.le_refl _) _)
    have hb10 : Below W.heap.size W w10 := by rw [← hw10]; exact hb9.alloc hb9.size _
    have hdd : d2.b = d.b := by rw [hdb, HDB.out]
    obtain ⟨dg, ln, bn, ⟨ts, A, mm, mc, ls, l1⟩⟩ := d
    obtain ⟨dg', ln', bn', ⟨ts', A', m', mc', ls', l1'⟩⟩ := d2
    have e1 : dg' = dg := congrArg CurB.dg hdd
    have e2 : ln' = ln := congrArg CurB.ln hdd
    have e3 : bn' = bn := congrArg CurB.by_ hdd
    have SS := Lib.hid (SM.out ⟨ts, A, mm, mc, ls, l1⟩ ⟨ts', A', m', mc', ls', l1'⟩ _ w10 (congrArg CurB.e hdd).symm gd10 gq10)
    subst e1 e2 e3
    dsimp only at D10 E10
    have q0 : w10.cell? ⟨g4, 0, none⟩ = some (.int .u64 (dg' : Int)) := (D10.cell 0).trans rfl
    have q1 : w10.cell? ⟨g4, 1, none⟩ = some (.int .i64 ln') := (D10.cell 1).trans rfl
    have q2 : w10.cell? ⟨g4, 2, none⟩ = some (.int .i64 bn') := (D10.cell 2).trans rfl
    have q3 : w10.cell? ⟨g4, 3, none⟩ = some (.int .i64 ts) := (D10.cell 3).trans rfl
    have q4 : w10.cell? ⟨g4, 4, none⟩ = some (.slice A mm mc) := (D10.cell 4).trans rfl
    have q5 : w10.cell? ⟨g4, 5, none⟩ = some (.string l1) := (D10.cell 5).trans rfl
    have r0 : w10.cell? ⟨g5, 0, none⟩ = some (.int .u64 (dg' : Int)) := (E10.cell 0).trans rfl
    have r1 : w10.cell? ⟨g5, 1, none⟩ = some (.int .i64 ln') := (E10.cell 1).trans rfl
    have r2 : w10.cell? ⟨g5, 2, none⟩ = some (.int .i64 bn') := (E10.cell 2).trans rfl
    have r3 : w10.cell? ⟨g5, 3, none⟩ = some (.int .i64 ts') := (E10.cell 3).trans rfl
    have r4 : w10.cell? ⟨g5, 4, none⟩ = some (.slice A' m' mc') := (E10.cell 4).trans rfl
    have r5 : w10.cell? ⟨g5, 5, none⟩ = some (.string l1') := (E10.cell 5).trans rfl
    obtain ⟨ge, hge⟩ : ∃ z, getE s = z := ⟨_, rfl⟩
    rw [hge]
    clear hx hb8 hb9 D8 gd8 D9 gd9 gq gq10 gd10 hdb HDB hdd hge SM
    have D11 := D10
    have E13 := E10
    clear D10 E10
    go_wp2_with fail
    clear hw10 hg5 q0 q1 q2 q3 q4 q5 r0 r1 r2 r3 r4 r5
    refine SS.out.mono ?_
    rintro e w11 ⟨rfl, hx⟩
    have hb11 := hop hb10 h0 hx
    have E11 := hb11
    have D12 := D11.below hx D11.lt
    have F12 := E13.below hx E13.lt
    have q0 : w11.cell? ⟨g4, 0, none⟩ = some (.int .u64 (dg' : Int)) := (D12.cell 0).trans rfl
    have q1 : w11.cell? ⟨g4, 1, none⟩ = some (.int .i64 ln') := (D12.cell 1).trans rfl
    have q2 : w11.cell? ⟨g4, 2, none⟩ = some (.int .i64 bn') := (D12.cell 2).trans rfl
    have r0 : w11.cell? ⟨g5, 0, none⟩ = some (.int .u64 (dg' : Int)) := (F12.cell 0).trans rfl
    have r1 : w11.cell? ⟨g5, 1, none⟩ = some (.int .i64 ln') := (F12.cell 1).trans rfl
    have r2 : w11.cell? ⟨g5, 2, none⟩ = some (.int .i64 bn') := (F12.cell 2).trans rfl
    clear hx D11 E13 D12 F12 E11
    go_wp2
    go_ret
    exact ⟨by first | rfl | (simp; done), hb11⟩
end Go.Proofs.YtfamcebgcpaolaaGreatDoor
