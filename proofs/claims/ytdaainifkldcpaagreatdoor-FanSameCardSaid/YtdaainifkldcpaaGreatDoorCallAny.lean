-- shaken
import Derived.Test.YtdaainifkldcpaaGreatDoorCallOpen
import Derived.Test.YtdaainifkldcpaaGreatDoorStoNone
namespace Go.Proofs.YtdaainifkldcpaaGreatDoor
open Go.RowKit
set_option linter.unusedVariables false
set_option linter.unusedSimpArgs false
def callA (c : CallX) (y : EntX) : AskX := if c.own then ⟨c.fr.tmod 14, c.fr.tmod 14 + 1 + c.lg.tmod 30, c.a.asc, 1 + c.lm.tmod 8, c.a.has, y⟩ else ⟨c.a.lo, c.a.hi, c.a.asc, c.a.lim, c.a.has, y⟩
set_option maxRecDepth 100000 in
set_option maxHeartbeats 1600000 in
theorem callA_any (B : Nat) (c : CallX) (W : World) (hB : B ≤ W.heap.size) (h : GoodC B W c) :
    Calls Tryz.prog 14 #[.agg c.V.toArray] W fun e w' => ∃ y : EntX, e = .returned (.agg (callA c y).V.toArray) ∧ y.b = itemB c.e ∧ Good B w' y ∧ Below W.heap.size W w' := by
  obtain ⟨⟨lo, hi, asc, lim, has, ⟨ats, aA, an, ac, als, aln⟩⟩, own, fr, lg, lm, ⟨⟨ets, eA, en, ec, els, eln⟩, eo, et, LA, Ln, Lc, lt, ek⟩⟩ := c
  have bf := h.fr
  have bl := h.lg
  have bm := h.lm
  dsimp only at bf bl bm
  have HE := Lib.hid (fun w (hw : Below W.heap.size W w) => h.e.below hw)
  have HBW := Lib.hid hB
  clear h hB
  cases own with
  | true =>
    have bf2 : -13 ≤ fr.tmod 14 ∧ fr.tmod 14 ≤ 13 := by
      rcases Int.le_total 0 fr with g | g
      · rw [Int.tmod_eq_emod_of_nonneg g]; omega
      · have e : fr.tmod 14 = -((-fr) % 14) := by
          rw [← Int.tmod_eq_emod_of_nonneg (by omega), Int.neg_tmod, Int.neg_neg]
        rw [e]; omega
    have bl2 : 0 ≤ lg.tmod 30 ∧ lg.tmod 30 ≤ 29 := by rw [Int.tmod_eq_emod_of_nonneg bl.1]; omega
    have bm2 : 0 ≤ lm.tmod 8 ∧ lm.tmod 8 ≤ 7 := by rw [Int.tmod_eq_emod_of_nonneg bm.1]; omega
    show Calls _ _ _ W fun e w' => ∃ y : EntX, e = .returned (.agg (AskX.V ⟨fr.tmod 14, fr.tmod 14 + 1 + lg.tmod 30, asc, 1 + lm.tmod 8, has, y⟩).toArray) ∧ y.b = itemB _ ∧ Good B w' y ∧ Below W.heap.size W w'
    obtain ⟨f14, hf14⟩ : ∃ z, fr.tmod 14 = z := ⟨_, rfl⟩
    obtain ⟨l30, hl30⟩ : ∃ z, lg.tmod 30 = z := ⟨_, rfl⟩
    obtain ⟨m8, hm8⟩ : ∃ z, lm.tmod 8 = z := ⟨_, rfl⟩
    rw [hf14, hl30, hm8]
    rw [hf14] at bf2
    rw [hl30] at bl2
    rw [hm8] at bm2
    have e1 : IntKind.i8.wrap f14 = f14 := by rw [wrap_i8']; omega
    have e2 : IntKind.i64.wrap f14 = f14 := by rw [IntKind.wrap_i64]; omega
    have e3 : IntKind.u8.wrap l30 = l30 := by rw [IntKind.wrap_u8]; omega
    have e4 : IntKind.i64.wrap l30 = l30 := by rw [IntKind.wrap_i64]; omega
    have e5 : IntKind.u8.wrap m8 = m8 := by rw [IntKind.wrap_u8]; omega
    have e6 : IntKind.i64.wrap m8 = m8 := by rw [IntKind.wrap_i64]; omega
    have e7 : IntKind.i64.wrap (f14 + 1) = f14 + 1 := by rw [IntKind.wrap_i64]; omega
    have e8 : IntKind.i64.wrap (f14 + 1 + l30) = f14 + 1 + l30 := by rw [IntKind.wrap_i64]; omega
    have e9 : IntKind.i64.wrap (1 + m8) = 1 + m8 := by rw [IntKind.wrap_i64]; omega
    show Calls Tryz.prog 14 #[.agg #[.int .i64 lo, .int .i64 hi, .bool asc, .int .i64 lim, .bool has, .int .i64 ats, .slice aA an ac, .string aln, .bool true, .int .i8 fr, .int .u8 lg, .int .u8 lm, .int .i64 ets, .slice eA en ec, .string eln, .bool eo, .int .i8 et, .slice LA Ln Lc, .int .u8 (ek : Int)]] W _
    go_enter Tryz.func14, Tryz.ntmps14
    have HB := Lib.hid (Below.refl W.heap.size W)
    have hb_ : Below W.heap.size W (W.alloc (.cells #[.int .i64 lo, .int .i64 hi, .bool asc, .int .i64 lim, .bool has, .int .i64 ats, .slice aA an ac, .string aln, .bool true, .int .i8 fr, .int .u8 lg, .int .u8 lm, .int .i64 ets, .slice eA en ec, .string eln, .bool eo, .int .i8 et, .slice LA Ln Lc, .int .u8 (ek : Int)] 55)) := (Below.refl _ _).alloc (Nat.le_refl _) _
    obtain ⟨gc, hgc⟩ : ∃ g, W.heap.size = g := ⟨_, rfl⟩
    have KC := Lib.hid (show Blk (W.alloc (.cells #[.int .i64 lo, .int .i64 hi, .bool asc, .int .i64 lim, .bool has, .int .i64 ats, .slice aA an ac, .string aln, .bool true, .int .i8 fr, .int .u8 lg, .int .u8 lm, .int .i64 ets, .slice eA en ec, .string eln, .bool eo, .int .i8 et, .slice LA Ln Lc, .int .u8 (ek : Int)] 55)) gc 55 #[.int .i64 lo, .int .i64 hi, .bool asc, .int .i64 lim, .bool has, .int .i64 ats, .slice aA an ac, .string aln, .bool true, .int .i8 fr, .int .u8 lg, .int .u8 lm, .int .i64 ets, .slice eA en ec, .string eln, .bool eo, .int .i8 et, .slice LA Ln Lc, .int .u8 (ek : Int)] from by rw [← hgc]; exact Blk.new _ _ _)
    obtain ⟨m1, hm1⟩ : ∃ z, W.alloc (.cells #[.int .i64 lo, .int .i64 hi, .bool asc, .int .i64 lim, .bool has, .int .i64 ats, .slice aA an ac, .string aln, .bool true, .int .i8 fr, .int .u8 lg, .int .u8 lm, .int .i64 ets, .slice eA en ec, .string eln, .bool eo, .int .i8 et, .slice LA Ln Lc, .int .u8 (ek : Int)] 55) = z := ⟨_, rfl⟩
    rw [hm1] at hb_ KC
    replace HB := Lib.hid (hop HB.out (Nat.le_refl _) hb_)
    clear hb_
    have hb_ : Below m1.heap.size m1 (m1.alloc (.cells #[.int .i64 0, .int .i64 0, .bool false, .int .i64 0, .bool false, .int .i64 0, .slice none 0 0, .string ⟨#[]⟩] 49)) := (Below.refl _ _).alloc (Nat.le_refl _) _
    obtain ⟨gr, hgr⟩ : ∃ g, m1.heap.size = g := ⟨_, rfl⟩
    have KR := Lib.hid (show Blk (m1.alloc (.cells #[.int .i64 0, .int .i64 0, .bool false, .int .i64 0, .bool false, .int .i64 0, .slice none 0 0, .string ⟨#[]⟩] 49)) gr 49 #[.int .i64 0, .int .i64 0, .bool false, .int .i64 0, .bool false, .int .i64 0, .slice none 0 0, .string ⟨#[]⟩] from by rw [← hgr]; exact Blk.new _ _ _)
    obtain ⟨m2, hm2⟩ : ∃ z, m1.alloc (.cells #[.int .i64 0, .int .i64 0, .bool false, .int .i64 0, .bool false, .int .i64 0, .slice none 0 0, .string ⟨#[]⟩] 49) = z := ⟨_, rfl⟩
    rw [hm2] at hb_ KR
    replace HB := Lib.hid (hop HB.out (Nat.le_refl _) hb_)
    replace KC := Lib.hid (KC.out.below hb_ KC.out.lt)
    clear hb_
    have a0_ : m2.cell? ⟨gc, 0, none⟩ = some (.int .i64 lo) := (KC.out.cell 0).trans rfl
    have a1_ : m2.cell? ⟨gc, 1, none⟩ = some (.int .i64 hi) := (KC.out.cell 1).trans rfl
    have a2_ : m2.cell? ⟨gc, 2, none⟩ = some (.bool asc) := (KC.out.cell 2).trans rfl
    have a3_ : m2.cell? ⟨gc, 3, none⟩ = some (.int .i64 lim) := (KC.out.cell 3).trans rfl
    have a4_ : m2.cell? ⟨gc, 4, none⟩ = some (.bool has) := (KC.out.cell 4).trans rfl
    have a5_ : m2.cell? ⟨gc, 5, none⟩ = some (.int .i64 ats) := (KC.out.cell 5).trans rfl
    have a6_ : m2.cell? ⟨gc, 6, none⟩ = some (.slice aA an ac) := (KC.out.cell 6).trans rfl
    have a7_ : m2.cell? ⟨gc, 7, none⟩ = some (.string aln) := (KC.out.cell 7).trans rfl
    have hb_ : Below m2.heap.size m2 (m2.alloc (.cells #[.int .i64 lo, .int .i64 hi, .bool asc, .int .i64 lim, .bool has, .int .i64 ats, .slice aA an ac, .string aln] 49)) := (Below.refl _ _).alloc (Nat.le_refl _) _
    obtain ⟨ga, hga⟩ : ∃ g, m2.heap.size = g := ⟨_, rfl⟩
    have KA := Lib.hid (show Blk (m2.alloc (.cells #[.int .i64 lo, .int .i64 hi, .bool asc, .int .i64 lim, .bool has, .int .i64 ats, .slice aA an ac, .string aln] 49)) ga 49 #[.int .i64 lo, .int .i64 hi, .bool asc, .int .i64 lim, .bool has, .int .i64 ats, .slice aA an ac, .string aln] from by rw [← hga]; exact Blk.new _ _ _)
    obtain ⟨m3, hm3⟩ : ∃ z, m2.alloc (.cells #[.int .i64 lo, .int .i64 hi, .bool asc, .int .i64 lim, .bool has, .int .i64 ats, .slice aA an ac, .string aln] 49) = z := ⟨_, rfl⟩
    rw [hm3] at hb_ KA
    replace HB := Lib.hid (hop HB.out (Nat.le_refl _) hb_)
    replace KC := Lib.hid (KC.out.below hb_ KC.out.lt)
    replace KR := Lib.hid (KR.out.below hb_ KR.out.lt)
    clear hb_
    have b12_ : m3.cell? ⟨gc, 12, none⟩ = some (.int .i64 ets) := (KC.out.cell 12).trans rfl
    have b13_ : m3.cell? ⟨gc, 13, none⟩ = some (.slice eA en ec) := (KC.out.cell 13).trans rfl
    have b14_ : m3.cell? ⟨gc, 14, none⟩ = some (.string eln) := (KC.out.cell 14).trans rfl
    have b15_ : m3.cell? ⟨gc, 15, none⟩ = some (.bool eo) := (KC.out.cell 15).trans rfl
    have b16_ : m3.cell? ⟨gc, 16, none⟩ = some (.int .i8 et) := (KC.out.cell 16).trans rfl
    have b17_ : m3.cell? ⟨gc, 17, none⟩ = some (.slice LA Ln Lc) := (KC.out.cell 17).trans rfl
    have b18_ : m3.cell? ⟨gc, 18, none⟩ = some (.int .u8 (ek : Int)) := (KC.out.cell 18).trans rfl
    have IT := Lib.hid (item_any B ⟨⟨ets, eA, en, ec, els, eln⟩, eo, et, LA, Ln, Lc, lt, ek⟩ m3 (HE.out _ HB.out))
    have hgc : W.heap.size = gc := hgc
    have s1 := HB.out.size
    have ngr : gr = gc + 1 := by rw [← hgr, ← hm1, ← hgc]; simp
    have nga : ga = gc + 2 := by rw [← hga, ← hm2, ← hm1, ← hgc]; simp
    have NR := Lib.hid ngr
    have NA := Lib.hid nga
    have HGC := Lib.hid hgc
    clear s1 ngr nga
    go_wp2_with fail
    refine IT.out.mono ?_
    rintro e wy ⟨y, he, hyb, hyg, hb⟩
    obtain ⟨yts, yA, yn, yc, yls, yln⟩ := y
    replace he : e = .returned (.agg #[.int .i64 yts, .slice yA yn yc, .string yln]) := he
    subst he
    have YB := Lib.hid hyb
    have YG := Lib.hid hyg
    clear hyb hyg IT a0_ a1_ a2_ a3_ a4_ a5_ a6_ a7_ b12_ b13_ b14_ b15_ b16_ b17_ b18_
    replace HB := Lib.hid (hop HB.out (Nat.le_refl _) hb)
    replace KC := Lib.hid (KC.out.below hb KC.out.lt)
    replace KR := Lib.hid (KR.out.below hb KR.out.lt)
    replace KA := Lib.hid (KA.out.below hb KA.out.lt)
    clear hb
    clear hgc hm1 hgr hm2 hga hm3
    have e5_ : wy.cell? ⟨ga, 5, none⟩ = some (.int .i64 ats) := (KA.out.cell 5).trans rfl
    have e6_ : wy.cell? ⟨ga, 6, none⟩ = some (.slice aA an ac) := (KA.out.cell 6).trans rfl
    have e7_ : wy.cell? ⟨ga, 7, none⟩ = some (.string aln) := (KA.out.cell 7).trans rfl
    have f5_ := KA.out.frozen 5
    have f6_ := KA.out.frozen 6
    have f7_ := KA.out.frozen 7
    obtain ⟨w5, hw5⟩ : ∃ z, ((wy.setCell ⟨ga, 5, none⟩ (.int .i64 yts)).setCell ⟨ga, 6, none⟩ (.slice yA yn yc)).setCell ⟨ga, 7, none⟩ (.string yln) = z := ⟨_, rfl⟩
    have F5 : Se.FG ga wy w5 := by rw [← hw5]; exact ((Se.FG.set_ 5 _).trans (Se.FG.set_ 6 _)).trans (Se.FG.set_ 7 _)
    have KA5 := Lib.hid (show Blk w5 ga 49 #[.int .i64 lo, .int .i64 hi, .bool asc, .int .i64 lim, .bool has, .int .i64 yts, .slice yA yn yc, .string yln] from by rw [← hw5]; exact ((KA.out.set_ 5 (.int .i64 yts)).set_ 6 (.slice yA yn yc)).set_ 7 (.string yln))
    have KC5 := Lib.hid (KC.out.fg F5 (by have h1 := NA.out; omega))
    have KR5 := Lib.hid (KR.out.fg F5 (by have h1 := NA.out; have h2 := NR.out; omega))
    have FZ := Lib.hid F5
    clear F5
    have o8_ : w5.cell? ⟨gc, 8, none⟩ = some (.bool true) := (KC5.out.cell 8).trans rfl
    have o9_ : w5.cell? ⟨gc, 9, none⟩ = some (.int .i8 fr) := (KC5.out.cell 9).trans rfl
    have g0_ := KA5.out.frozen 0
    have h0_ : w5.cell? ⟨ga, 0, none⟩ = some (.int .i64 lo) := (KA5.out.cell 0).trans rfl
    obtain ⟨w6, hw6⟩ : ∃ z, w5.setCell ⟨ga, 0, none⟩ (.int .i64 (f14)) = z := ⟨_, rfl⟩
    have Fw6 : Se.FG ga w5 w6 := by rw [← hw6]; exact Se.FG.set_ 0 _
    have KA5x := Lib.hid (show Blk w6 ga 49 #[.int .i64 (f14), .int .i64 hi, .bool asc, .int .i64 lim, .bool has, .int .i64 yts, .slice yA yn yc, .string yln] from by rw [← hw6]; exact KA5.out.set_ 0 (.int .i64 (f14)))
    have KCx0 := Lib.hid (KC5.out.fg Fw6 (by have h1 := NA.out; omega))
    have KR5x := Lib.hid (KR5.out.fg Fw6 (by have h1 := NA.out; have h2 := NR.out; omega))
    have FZ0 := Lib.hid (FZ.out.trans Fw6)
    clear Fw6
    have p0_ : w6.cell? ⟨ga, 0, none⟩ = some (.int .i64 (f14)) := (KA5x.out.cell 0).trans rfl
    have o10_ : w6.cell? ⟨gc, 10, none⟩ = some (.int .u8 lg) := (KCx0.out.cell 10).trans rfl
    have g1_ := KA5x.out.frozen 1
    have h1_ : w6.cell? ⟨ga, 1, none⟩ = some (.int .i64 hi) := (KA5x.out.cell 1).trans rfl
    obtain ⟨w7, hw7⟩ : ∃ z, w6.setCell ⟨ga, 1, none⟩ (.int .i64 (f14 + 1 + l30)) = z := ⟨_, rfl⟩
    have Fw7 : Se.FG ga w6 w7 := by rw [← hw7]; exact Se.FG.set_ 1 _
    have KA5xx := Lib.hid (show Blk w7 ga 49 #[.int .i64 (f14), .int .i64 (f14 + 1 + l30), .bool asc, .int .i64 lim, .bool has, .int .i64 yts, .slice yA yn yc, .string yln] from by rw [← hw7]; exact KA5x.out.set_ 1 (.int .i64 (f14 + 1 + l30)))
    have KCx1 := Lib.hid (KCx0.out.fg Fw7 (by have h1 := NA.out; omega))
    have KR5xx := Lib.hid (KR5x.out.fg Fw7 (by have h1 := NA.out; have h2 := NR.out; omega))
    have FZ1 := Lib.hid (FZ0.out.trans Fw7)
    clear Fw7
    have o11_ : w7.cell? ⟨gc, 11, none⟩ = some (.int .u8 lm) := (KCx1.out.cell 11).trans rfl
    have g2_ := KA5xx.out.frozen 3
    have h2_ : w7.cell? ⟨ga, 3, none⟩ = some (.int .i64 lim) := (KA5xx.out.cell 3).trans rfl
    obtain ⟨w8, hw8⟩ : ∃ z, w7.setCell ⟨ga, 3, none⟩ (.int .i64 (1 + m8)) = z := ⟨_, rfl⟩
    have Fw8 : Se.FG ga w7 w8 := by rw [← hw8]; exact Se.FG.set_ 3 _
    have KA5xxx := Lib.hid (show Blk w8 ga 49 #[.int .i64 (f14), .int .i64 (f14 + 1 + l30), .bool asc, .int .i64 (1 + m8), .bool has, .int .i64 yts, .slice yA yn yc, .string yln] from by rw [← hw8]; exact KA5xx.out.set_ 3 (.int .i64 (1 + m8)))
    have KCx2 := Lib.hid (KCx1.out.fg Fw8 (by have h1 := NA.out; omega))
    have KR5xxx := Lib.hid (KR5xx.out.fg Fw8 (by have h1 := NA.out; have h2 := NR.out; omega))
    have FZ2 := Lib.hid (FZ1.out.trans Fw8)
    clear Fw8
    have q0_ : w8.cell? ⟨ga, 0, none⟩ = some (.int .i64 (f14)) := (KA5xxx.out.cell 0).trans rfl
    have q1_ : w8.cell? ⟨ga, 1, none⟩ = some (.int .i64 (f14 + 1 + l30)) := (KA5xxx.out.cell 1).trans rfl
    have q2_ : w8.cell? ⟨ga, 2, none⟩ = some (.bool asc) := (KA5xxx.out.cell 2).trans rfl
    have q3_ : w8.cell? ⟨ga, 3, none⟩ = some (.int .i64 (1 + m8)) := (KA5xxx.out.cell 3).trans rfl
    have q4_ : w8.cell? ⟨ga, 4, none⟩ = some (.bool has) := (KA5xxx.out.cell 4).trans rfl
    have q5_ : w8.cell? ⟨ga, 5, none⟩ = some (.int .i64 yts) := (KA5xxx.out.cell 5).trans rfl
    have q6_ : w8.cell? ⟨ga, 6, none⟩ = some (.slice yA yn yc) := (KA5xxx.out.cell 6).trans rfl
    have q7_ : w8.cell? ⟨ga, 7, none⟩ = some (.string yln) := (KA5xxx.out.cell 7).trans rfl
    have r0_ := KR5xxx.out.frozen 0
    have z0_ : w8.cell? ⟨gr, 0, none⟩ = some (.int .i64 0) := (KR5xxx.out.cell 0).trans rfl
    have r1_ := KR5xxx.out.frozen 1
    have z1_ : w8.cell? ⟨gr, 1, none⟩ = some (.int .i64 0) := (KR5xxx.out.cell 1).trans rfl
    have r2_ := KR5xxx.out.frozen 2
    have z2_ : w8.cell? ⟨gr, 2, none⟩ = some (.bool false) := (KR5xxx.out.cell 2).trans rfl
    have r3_ := KR5xxx.out.frozen 3
    have z3_ : w8.cell? ⟨gr, 3, none⟩ = some (.int .i64 0) := (KR5xxx.out.cell 3).trans rfl
    have r4_ := KR5xxx.out.frozen 4
    have z4_ : w8.cell? ⟨gr, 4, none⟩ = some (.bool false) := (KR5xxx.out.cell 4).trans rfl
    have r5_ := KR5xxx.out.frozen 5
    have z5_ : w8.cell? ⟨gr, 5, none⟩ = some (.int .i64 0) := (KR5xxx.out.cell 5).trans rfl
    have r6_ := KR5xxx.out.frozen 6
    have z6_ : w8.cell? ⟨gr, 6, none⟩ = some (.slice none 0 0) := (KR5xxx.out.cell 6).trans rfl
    have r7_ := KR5xxx.out.frozen 7
    have z7_ : w8.cell? ⟨gr, 7, none⟩ = some (.string ⟨#[]⟩) := (KR5xxx.out.cell 7).trans rfl
    obtain ⟨w9, hw9⟩ : ∃ z, ((((((((w8.setCell ⟨gr, 0, none⟩ (.int .i64 (f14))).setCell ⟨gr, 1, none⟩ (.int .i64 (f14 + 1 + l30))).setCell ⟨gr, 2, none⟩ (.bool asc)).setCell ⟨gr, 3, none⟩ (.int .i64 (1 + m8))).setCell ⟨gr, 4, none⟩ (.bool has)).setCell ⟨gr, 5, none⟩ (.int .i64 yts)).setCell ⟨gr, 6, none⟩ (.slice yA yn yc)).setCell ⟨gr, 7, none⟩ (.string yln)) = z := ⟨_, rfl⟩
    have F9 : Se.FG gr w8 w9 := by rw [← hw9]; exact ((((((((Se.FG.set_ (b := gr) (w := w8) 0 (.int .i64 (f14))).trans (Se.FG.set_ 1 (.int .i64 (f14 + 1 + l30)))).trans (Se.FG.set_ 2 (.bool asc))).trans (Se.FG.set_ 3 (.int .i64 (1 + m8)))).trans (Se.FG.set_ 4 (.bool has))).trans (Se.FG.set_ 5 (.int .i64 yts))).trans (Se.FG.set_ 6 (.slice yA yn yc))).trans (Se.FG.set_ 7 (.string yln)))
    have K9 := Lib.hid (show Blk w9 gr 49 #[.int .i64 (f14), .int .i64 (f14 + 1 + l30), .bool asc, .int .i64 (1 + m8), .bool has, .int .i64 yts, .slice yA yn yc, .string yln] from by rw [← hw9]; exact ((((((((KR5xxx.out.set_ 0 (.int .i64 (f14))).set_ 1 (.int .i64 (f14 + 1 + l30))).set_ 2 (.bool asc)).set_ 3 (.int .i64 (1 + m8))).set_ 4 (.bool has)).set_ 5 (.int .i64 yts)).set_ 6 (.slice yA yn yc)).set_ 7 (.string yln)))
    have hga0 : W.heap.size ≤ ga := by have h1 := NA.out; have h2 := HGC.out; omega
    have hgr0 : W.heap.size ≤ gr := by have h1 := NR.out; have h2 := HGC.out; omega
    have HB9 := Lib.hid (F9.below (FZ2.out.below HB.out hga0 HB.out.size) hgr0 (Nat.le_trans HB.out.size FZ2.out.size))
    have YG9 := Lib.hid ((YG.out.fgT FZ2.out (Nat.le_trans HBW.out hga0) KA.out (by decide)).fgT F9 (Nat.le_trans HBW.out hgr0) KR5xxx.out (by decide))
    clear F9 hga0 hgr0
    go_wp2_with fail
    refine bodyPost_ret (results_cell_row rfl _ _ gr 49 #[.int .i64 (f14), .int .i64 (f14 + 1 + l30), .bool asc, .int .i64 (1 + m8), .bool has, .int .i64 yts, .slice yA yn yc, .string yln] (0, 0) _ rfl K9.out Tryz.underlying49 rfl (by kernel_rfl)) rfl ?_
    exact ⟨⟨yts, yA, yn, yc, yls, yln⟩, rfl, YB.out, YG9.out, HB9.out⟩
  | false =>
    show Calls Tryz.prog 14 #[.agg #[.int .i64 lo, .int .i64 hi, .bool asc, .int .i64 lim, .bool has, .int .i64 ats, .slice aA an ac, .string aln, .bool false, .int .i8 fr, .int .u8 lg, .int .u8 lm, .int .i64 ets, .slice eA en ec, .string eln, .bool eo, .int .i8 et, .slice LA Ln Lc, .int .u8 (ek : Int)]] W fun e w' => ∃ y : EntX, e = .returned (.agg (AskX.V ⟨lo, hi, asc, lim, has, y⟩).toArray) ∧ y.b = itemB _ ∧ Good B w' y ∧ Below W.heap.size W w'
    go_enter Tryz.func14, Tryz.ntmps14
    have HB := Lib.hid (Below.refl W.heap.size W)
    have hb_ : Below W.heap.size W (W.alloc (.cells #[.int .i64 lo, .int .i64 hi, .bool asc, .int .i64 lim, .bool has, .int .i64 ats, .slice aA an ac, .string aln, .bool false, .int .i8 fr, .int .u8 lg, .int .u8 lm, .int .i64 ets, .slice eA en ec, .string eln, .bool eo, .int .i8 et, .slice LA Ln Lc, .int .u8 (ek : Int)] 55)) := (Below.refl _ _).alloc (Nat.le_refl _) _
    obtain ⟨gc, hgc⟩ : ∃ g, W.heap.size = g := ⟨_, rfl⟩
    have KC := Lib.hid (show Blk (W.alloc (.cells #[.int .i64 lo, .int .i64 hi, .bool asc, .int .i64 lim, .bool has, .int .i64 ats, .slice aA an ac, .string aln, .bool false, .int .i8 fr, .int .u8 lg, .int .u8 lm, .int .i64 ets, .slice eA en ec, .string eln, .bool eo, .int .i8 et, .slice LA Ln Lc, .int .u8 (ek : Int)] 55)) gc 55 #[.int .i64 lo, .int .i64 hi, .bool asc, .int .i64 lim, .bool has, .int .i64 ats, .slice aA an ac, .string aln, .bool false, .int .i8 fr, .int .u8 lg, .int .u8 lm, .int .i64 ets, .slice eA en ec, .string eln, .bool eo, .int .i8 et, .slice LA Ln Lc, .int .u8 (ek : Int)] from by rw [← hgc]; exact Blk.new _ _ _)
    obtain ⟨m1, hm1⟩ : ∃ z, W.alloc (.cells #[.int .i64 lo, .int .i64 hi, .bool asc, .int .i64 lim, .bool has, .int .i64 ats, .slice aA an ac, .string aln, .bool false, .int .i8 fr, .int .u8 lg, .int .u8 lm, .int .i64 ets, .slice eA en ec, .string eln, .bool eo, .int .i8 et, .slice LA Ln Lc, .int .u8 (ek : Int)] 55) = z := ⟨_, rfl⟩
    rw [hm1] at hb_ KC
    replace HB := Lib.hid (hop HB.out (Nat.le_refl _) hb_)
    clear hb_
    have hb_ : Below m1.heap.size m1 (m1.alloc (.cells #[.int .i64 0, .int .i64 0, .bool false, .int .i64 0, .bool false, .int .i64 0, .slice none 0 0, .string ⟨#[]⟩] 49)) := (Below.refl _ _).alloc (Nat.le_refl _) _
    obtain ⟨gr, hgr⟩ : ∃ g, m1.heap.size = g := ⟨_, rfl⟩
    have KR := Lib.hid (show Blk (m1.alloc (.cells #[.int .i64 0, .int .i64 0, .bool false, .int .i64 0, .bool false, .int .i64 0, .slice none 0 0, .string ⟨#[]⟩] 49)) gr 49 #[.int .i64 0, .int .i64 0, .bool false, .int .i64 0, .bool false, .int .i64 0, .slice none 0 0, .string ⟨#[]⟩] from by rw [← hgr]; exact Blk.new _ _ _)
    obtain ⟨m2, hm2⟩ : ∃ z, m1.alloc (.cells #[.int .i64 0, .int .i64 0, .bool false, .int .i64 0, .bool false, .int .i64 0, .slice none 0 0, .string ⟨#[]⟩] 49) = z := ⟨_, rfl⟩
    rw [hm2] at hb_ KR
    replace HB := Lib.hid (hop HB.out (Nat.le_refl _) hb_)
    replace KC := Lib.hid (KC.out.below hb_ KC.out.lt)
    clear hb_
    have a0_ : m2.cell? ⟨gc, 0, none⟩ = some (.int .i64 lo) := (KC.out.cell 0).trans rfl
    have a1_ : m2.cell? ⟨gc, 1, none⟩ = some (.int .i64 hi) := (KC.out.cell 1).trans rfl
    have a2_ : m2.cell? ⟨gc, 2, none⟩ = some (.bool asc) := (KC.out.cell 2).trans rfl
    have a3_ : m2.cell? ⟨gc, 3, none⟩ = some (.int .i64 lim) := (KC.out.cell 3).trans rfl
    have a4_ : m2.cell? ⟨gc, 4, none⟩ = some (.bool has) := (KC.out.cell 4).trans rfl
    have a5_ : m2.cell? ⟨gc, 5, none⟩ = some (.int .i64 ats) := (KC.out.cell 5).trans rfl
    have a6_ : m2.cell? ⟨gc, 6, none⟩ = some (.slice aA an ac) := (KC.out.cell 6).trans rfl
    have a7_ : m2.cell? ⟨gc, 7, none⟩ = some (.string aln) := (KC.out.cell 7).trans rfl
    have hb_ : Below m2.heap.size m2 (m2.alloc (.cells #[.int .i64 lo, .int .i64 hi, .bool asc, .int .i64 lim, .bool has, .int .i64 ats, .slice aA an ac, .string aln] 49)) := (Below.refl _ _).alloc (Nat.le_refl _) _
    obtain ⟨ga, hga⟩ : ∃ g, m2.heap.size = g := ⟨_, rfl⟩
    have KA := Lib.hid (show Blk (m2.alloc (.cells #[.int .i64 lo, .int .i64 hi, .bool asc, .int .i64 lim, .bool has, .int .i64 ats, .slice aA an ac, .string aln] 49)) ga 49 #[.int .i64 lo, .int .i64 hi, .bool asc, .int .i64 lim, .bool has, .int .i64 ats, .slice aA an ac, .string aln] from by rw [← hga]; exact Blk.new _ _ _)
    obtain ⟨m3, hm3⟩ : ∃ z, m2.alloc (.cells #[.int .i64 lo, .int .i64 hi, .bool asc, .int .i64 lim, .bool has, .int .i64 ats, .slice aA an ac, .string aln] 49) = z := ⟨_, rfl⟩
    rw [hm3] at hb_ KA
    replace HB := Lib.hid (hop HB.out (Nat.le_refl _) hb_)
    replace KC := Lib.hid (KC.out.below hb_ KC.out.lt)
    replace KR := Lib.hid (KR.out.below hb_ KR.out.lt)
    clear hb_
    have b12_ : m3.cell? ⟨gc, 12, none⟩ = some (.int .i64 ets) := (KC.out.cell 12).trans rfl
    have b13_ : m3.cell? ⟨gc, 13, none⟩ = some (.slice eA en ec) := (KC.out.cell 13).trans rfl
    have b14_ : m3.cell? ⟨gc, 14, none⟩ = some (.string eln) := (KC.out.cell 14).trans rfl
    have b15_ : m3.cell? ⟨gc, 15, none⟩ = some (.bool eo) := (KC.out.cell 15).trans rfl
    have b16_ : m3.cell? ⟨gc, 16, none⟩ = some (.int .i8 et) := (KC.out.cell 16).trans rfl
    have b17_ : m3.cell? ⟨gc, 17, none⟩ = some (.slice LA Ln Lc) := (KC.out.cell 17).trans rfl
    have b18_ : m3.cell? ⟨gc, 18, none⟩ = some (.int .u8 (ek : Int)) := (KC.out.cell 18).trans rfl
    have IT := Lib.hid (item_any B ⟨⟨ets, eA, en, ec, els, eln⟩, eo, et, LA, Ln, Lc, lt, ek⟩ m3 (HE.out _ HB.out))
    have hgc : W.heap.size = gc := hgc
    have s1 := HB.out.size
    have ngr : gr = gc + 1 := by rw [← hgr, ← hm1, ← hgc]; simp
    have nga : ga = gc + 2 := by rw [← hga, ← hm2, ← hm1, ← hgc]; simp
    have NR := Lib.hid ngr
    have NA := Lib.hid nga
    have HGC := Lib.hid hgc
    clear s1 ngr nga
    go_wp2_with fail
    refine IT.out.mono ?_
    rintro e wy ⟨y, he, hyb, hyg, hb⟩
    obtain ⟨yts, yA, yn, yc, yls, yln⟩ := y
    replace he : e = .returned (.agg #[.int .i64 yts, .slice yA yn yc, .string yln]) := he
    subst he
    have YB := Lib.hid hyb
    have YG := Lib.hid hyg
    clear hyb hyg IT a0_ a1_ a2_ a3_ a4_ a5_ a6_ a7_ b12_ b13_ b14_ b15_ b16_ b17_ b18_
    replace HB := Lib.hid (hop HB.out (Nat.le_refl _) hb)
    replace KC := Lib.hid (KC.out.below hb KC.out.lt)
    replace KR := Lib.hid (KR.out.below hb KR.out.lt)
    replace KA := Lib.hid (KA.out.below hb KA.out.lt)
    clear hb
    clear hgc hm1 hgr hm2 hga hm3
    have e5_ : wy.cell? ⟨ga, 5, none⟩ = some (.int .i64 ats) := (KA.out.cell 5).trans rfl
    have e6_ : wy.cell? ⟨ga, 6, none⟩ = some (.slice aA an ac) := (KA.out.cell 6).trans rfl
    have e7_ : wy.cell? ⟨ga, 7, none⟩ = some (.string aln) := (KA.out.cell 7).trans rfl
    have f5_ := KA.out.frozen 5
    have f6_ := KA.out.frozen 6
    have f7_ := KA.out.frozen 7
    obtain ⟨w5, hw5⟩ : ∃ z, ((wy.setCell ⟨ga, 5, none⟩ (.int .i64 yts)).setCell ⟨ga, 6, none⟩ (.slice yA yn yc)).setCell ⟨ga, 7, none⟩ (.string yln) = z := ⟨_, rfl⟩
    have F5 : Se.FG ga wy w5 := by rw [← hw5]; exact ((Se.FG.set_ 5 _).trans (Se.FG.set_ 6 _)).trans (Se.FG.set_ 7 _)
    have KA5 := Lib.hid (show Blk w5 ga 49 #[.int .i64 lo, .int .i64 hi, .bool asc, .int .i64 lim, .bool has, .int .i64 yts, .slice yA yn yc, .string yln] from by rw [← hw5]; exact ((KA.out.set_ 5 (.int .i64 yts)).set_ 6 (.slice yA yn yc)).set_ 7 (.string yln))
    have KC5 := Lib.hid (KC.out.fg F5 (by have h1 := NA.out; omega))
    have KR5 := Lib.hid (KR.out.fg F5 (by have h1 := NA.out; have h2 := NR.out; omega))
    have FZ := Lib.hid F5
    clear F5
    have o8_ : w5.cell? ⟨gc, 8, none⟩ = some (.bool false) := (KC5.out.cell 8).trans rfl
    have q0_ : w5.cell? ⟨ga, 0, none⟩ = some (.int .i64 lo) := (KA5.out.cell 0).trans rfl
    have q1_ : w5.cell? ⟨ga, 1, none⟩ = some (.int .i64 hi) := (KA5.out.cell 1).trans rfl
    have q2_ : w5.cell? ⟨ga, 2, none⟩ = some (.bool asc) := (KA5.out.cell 2).trans rfl
    have q3_ : w5.cell? ⟨ga, 3, none⟩ = some (.int .i64 lim) := (KA5.out.cell 3).trans rfl
    have q4_ : w5.cell? ⟨ga, 4, none⟩ = some (.bool has) := (KA5.out.cell 4).trans rfl
    have q5_ : w5.cell? ⟨ga, 5, none⟩ = some (.int .i64 yts) := (KA5.out.cell 5).trans rfl
    have q6_ : w5.cell? ⟨ga, 6, none⟩ = some (.slice yA yn yc) := (KA5.out.cell 6).trans rfl
    have q7_ : w5.cell? ⟨ga, 7, none⟩ = some (.string yln) := (KA5.out.cell 7).trans rfl
    have r0_ := KR5.out.frozen 0
    have z0_ : w5.cell? ⟨gr, 0, none⟩ = some (.int .i64 0) := (KR5.out.cell 0).trans rfl
    have r1_ := KR5.out.frozen 1
    have z1_ : w5.cell? ⟨gr, 1, none⟩ = some (.int .i64 0) := (KR5.out.cell 1).trans rfl
    have r2_ := KR5.out.frozen 2
    have z2_ : w5.cell? ⟨gr, 2, none⟩ = some (.bool false) := (KR5.out.cell 2).trans rfl
    have r3_ := KR5.out.frozen 3
    have z3_ : w5.cell? ⟨gr, 3, none⟩ = some (.int .i64 0) := (KR5.out.cell 3).trans rfl
    have r4_ := KR5.out.frozen 4
    have z4_ : w5.cell? ⟨gr, 4, none⟩ = some (.bool false) := (KR5.out.cell 4).trans rfl
    have r5_ := KR5.out.frozen 5
    have z5_ : w5.cell? ⟨gr, 5, none⟩ = some (.int .i64 0) := (KR5.out.cell 5).trans rfl
    have r6_ := KR5.out.frozen 6
    have z6_ : w5.cell? ⟨gr, 6, none⟩ = some (.slice none 0 0) := (KR5.out.cell 6).trans rfl
    have r7_ := KR5.out.frozen 7
    have z7_ : w5.cell? ⟨gr, 7, none⟩ = some (.string ⟨#[]⟩) := (KR5.out.cell 7).trans rfl
    obtain ⟨w9, hw9⟩ : ∃ z, ((((((((w5.setCell ⟨gr, 0, none⟩ (.int .i64 lo)).setCell ⟨gr, 1, none⟩ (.int .i64 hi)).setCell ⟨gr, 2, none⟩ (.bool asc)).setCell ⟨gr, 3, none⟩ (.int .i64 lim)).setCell ⟨gr, 4, none⟩ (.bool has)).setCell ⟨gr, 5, none⟩ (.int .i64 yts)).setCell ⟨gr, 6, none⟩ (.slice yA yn yc)).setCell ⟨gr, 7, none⟩ (.string yln)) = z := ⟨_, rfl⟩
    have F9 : Se.FG gr w5 w9 := by rw [← hw9]; exact ((((((((Se.FG.set_ (b := gr) (w := w5) 0 (.int .i64 lo)).trans (Se.FG.set_ 1 (.int .i64 hi))).trans (Se.FG.set_ 2 (.bool asc))).trans (Se.FG.set_ 3 (.int .i64 lim))).trans (Se.FG.set_ 4 (.bool has))).trans (Se.FG.set_ 5 (.int .i64 yts))).trans (Se.FG.set_ 6 (.slice yA yn yc))).trans (Se.FG.set_ 7 (.string yln)))
    have K9 := Lib.hid (show Blk w9 gr 49 #[.int .i64 lo, .int .i64 hi, .bool asc, .int .i64 lim, .bool has, .int .i64 yts, .slice yA yn yc, .string yln] from by rw [← hw9]; exact ((((((((KR5.out.set_ 0 (.int .i64 lo)).set_ 1 (.int .i64 hi)).set_ 2 (.bool asc)).set_ 3 (.int .i64 lim)).set_ 4 (.bool has)).set_ 5 (.int .i64 yts)).set_ 6 (.slice yA yn yc)).set_ 7 (.string yln)))
    have hga0 : W.heap.size ≤ ga := by have h1 := NA.out; have h2 := HGC.out; omega
    have hgr0 : W.heap.size ≤ gr := by have h1 := NR.out; have h2 := HGC.out; omega
    have HB9 := Lib.hid (F9.below (FZ.out.below HB.out hga0 HB.out.size) hgr0 (Nat.le_trans HB.out.size FZ.out.size))
    have YG9 := Lib.hid ((YG.out.fgT FZ.out (Nat.le_trans HBW.out hga0) KA.out (by decide)).fgT F9 (Nat.le_trans HBW.out hgr0) KR5.out (by decide))
    clear F9 hga0 hgr0
    go_wp2_with fail
    refine bodyPost_ret (results_cell_row rfl _ _ gr 49 #[.int .i64 lo, .int .i64 hi, .bool asc, .int .i64 lim, .bool has, .int .i64 yts, .slice yA yn yc, .string yln] (0, 0) _ rfl K9.out Tryz.underlying49 rfl (by kernel_rfl)) rfl ?_
    exact ⟨⟨yts, yA, yn, yc, yls, yln⟩, rfl, YB.out, YG9.out, HB9.out⟩
end Go.Proofs.YtdaainifkldcpaaGreatDoor
