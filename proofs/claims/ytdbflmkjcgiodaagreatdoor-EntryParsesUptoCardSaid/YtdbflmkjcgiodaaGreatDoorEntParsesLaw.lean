/- The walk of the law EntryParses: what entry a text begins with, by the program and by the document. -/
import Derived.Test.YtdbflmkjcgiodaaGreatDoorRefEntW
import Derived.Test.YtdbflmkjcgiodaaGreatDoorItemOpen
namespace Go.Proofs.YtdbflmkjcgiodaaGreatDoor
open Go.RowKit
set_option linter.unusedVariables false
set_option linter.unusedSimpArgs false

theorem tmE (n d k : Nat) (h : n % d = k) : (n : Int).tmod (d : Int) = (k : Int) ∧ (n : Int) % (d : Int) = (k : Int) ∧ n % d = k := by
  have e : (n : Int) % (d : Int) = (k : Int) := by omega
  exact ⟨by rw [Int.tmod_eq_emod_of_nonneg (by omega)]; exact e, e, h⟩
def boxQ (x : ItemX) : Array Value := #[.int .i64 x.e.ts, .slice x.e.A x.e.n x.e.c, .string x.e.ln, .bool x.own, .int .i8 x.t, .slice x.LA x.Ln x.Lc, .int .u8 (x.k : Int)]
theorem boxQ_cells {w : World} {g : Nat} {x : ItemX} {t : TypeId} (h : Blk w g t (boxQ x)) : w.cell? ⟨g, 0, none⟩ = some (.int .i64 x.e.ts) ∧ w.cell? ⟨g, 1, none⟩ = some (.slice x.e.A x.e.n x.e.c) ∧ w.cell? ⟨g, 2, none⟩ = some (.string x.e.ln) ∧ w.cell? ⟨g, 3, none⟩ = some (.bool x.own) ∧ w.cell? ⟨g, 4, none⟩ = some (.int .i8 x.t) ∧ w.cell? ⟨g, 5, none⟩ = some (.slice x.LA x.Ln x.Lc) ∧ w.cell? ⟨g, 6, none⟩ = some (.int .u8 (x.k : Int)) :=
  ⟨(h.cell 0).trans rfl, (h.cell 1).trans rfl, (h.cell 2).trans rfl, (h.cell 3).trans rfl, (h.cell 4).trans rfl, (h.cell 5).trans rfl, (h.cell 6).trans rfl⟩
theorem refParse_as (t : ByteArray) (o : Option (EntB × Nat)) (n : Nat) (ok : Bool) (ht : t.size ≤ 16000000) (h1 : entP t = o) (h2 : (o.map (·.2)).getD 0 = n) (h3 : o.isSome = ok) (w : World) :
    Calls Tryz.prog 28 #[.string t] w fun e w' => ∃ x : EntX, e = .returned (.tuple #[.agg #[.int .i64 x.ts, .slice x.A x.n x.c, .string x.ln], .int .i64 (n : Int), .bool ok]) ∧ x.b = entOf o ∧ GoodQ w' x ∧ Below w.heap.size w w' := by
  refine (refEntParse_any t ht w).mono ?_
  rintro e w' ⟨x, rfl, hx, gx, hb⟩
  subst h1 h2 h3
  exact ⟨x, rfl, hx, gx, hb⟩

set_option maxRecDepth 100000 in
set_option maxHeartbeats 6400000 in
theorem entryParses_walk {W : World} (x : ItemX) (s : ByteArray) (how at_ by_ : Int) (hx : GoodI W.heap.size W x) (ux : itemK x ≤ 1048576) (us : s.size ≤ 1048576) (hhow : (Lit.int .u8 how).wf = true) (hat : (Lit.int .i64 at_).wf = true) (hby : (Lit.int .u8 by_).wf = true) (hl : LibIs W) :
    Calls Tryz.prog 4 #[x.val, .string s, .int .u8 how, .int .i64 at_, .int .u8 by_] W fun e w' => e = .returned (.bool true) ∧ Below W.heap.size W w' := by
  have h0 : W.heap.size ≤ W.heap.size := Nat.le_refl _
  obtain ⟨hh0, hh1⟩ := bdu8 hhow
  obtain ⟨ha0, ha1⟩ := bdi64 hat
  obtain ⟨hb0, hb1⟩ := bdu8 hby
  have HL := Lib.hid hl
  have HX := Lib.hid (fun w h => entExamples_any w (hl.below h))
  have BE := Lib.hid (fun (t : ByteArray) (ht : t.size ≤ 16000000) w => bend_any t ht at_ by_ ha0 ha1 hb0 hb1 w)
  have IX := fun w h => item_any W.heap.size x w (hx.below h)
  have PX := item_put hx ux
  obtain ⟨ex, hex⟩ : ∃ e, itemB x = e := ⟨_, rfl⟩
  simp only [hex] at IX
  rw [hex] at PX
  have hTs := PX.size
  obtain ⟨T, hT⟩ : ∃ T, entT ex = T := ⟨_, rfl⟩
  rw [hT] at hTs
  have RE := Lib.hid (fun (a : EntX) (w : World) (h1 : a.b = ex) (h2 : Good W.heap.size w a) => show Calls Tryz.prog 11 #[.agg #[.int .i64 a.ts, .slice a.A a.n a.c, .string a.ln]] w fun e w' => ∃ q : EntX, e = .returned (.agg #[.int .i64 q.ts, .slice q.A q.n q.c, .string q.ln]) ∧ q.b = ex ∧ q.n ≤ 1048576 ∧ GoodQ w' q ∧ Below w.heap.size w w' from by
    have k1 : a.ls.length = a.n := h2.set.1.1
    have k2 : a.b.ls.length ≤ 1048576 := by rw [h1]; exact PX.len
    have k3 : a.n ≤ 1048576 := by rw [← k1]; exact k2
    refine (refEntry_any a k3 w h2.set.1).mono ?_
    rintro e w' ⟨q, rfl, hq, hqn, gq, hb⟩
    exact ⟨q, rfl, hq.trans h1, by omega, gq, hb⟩)
  have RT := Lib.hid (fun (q : EntX) (w : World) (h1 : q.b = ex) (h2 : q.n ≤ 1048576) (h3 : GoodQ w q) => show Calls Tryz.prog 22 #[.agg #[.int .i64 q.ts, .slice q.A q.n q.c, .string q.ln]] w fun e w' => e = .returned (.string T) ∧ Below w.heap.size w w' from by
    have e : (⟨q.ts, q.ls, q.ln⟩ : EntB) = ex := h1
    have h := refEntPut_any q.ts q.A q.n q.c q.ls q.ln (by rw [e]; exact PX) h2 w h3.set
    rw [e, hT] at h
    exact h)
  obtain ⟨hw, rfl⟩ : ∃ k : Nat, how = (k : Int) := ⟨how.toNat, by omega⟩
  dsimp only [ItemX.val] at IX ⊢
  replace IX := Lib.hid IX
  clear hx hl ux hhow hat hby ha0 ha1 hb0 hb1 hh0 hex PX hT
  go_enter Tryz.func4, Tryz.ntmps4
  go_wp2_with fail
  obtain ⟨w0, hw0⟩ : ∃ w, W.alloc (.cells (boxQ x) 29) = w := ⟨_, rfl⟩
  have BX : Blk w0 W.heap.size 29 (boxQ x) := by rw [← hw0]; exact Blk.new W _ _
  have hb : Below W.heap.size W w0 := by rw [← hw0]; exact (Below.refl _ _).alloc h0 _
  change Calls Tryz.prog _ _ (W.alloc (.cells (boxQ x) 29)) _
  rw [hw0]
  clear hw0
  refine (HX.out _ hb).mono ?_
  rintro e w1 ⟨rfl, hx⟩
  replace hb := hop hb h0 hx
  replace BX := BX.below hx BX.lt
  obtain ⟨x0, x1, x2, x3, x4, x5, x6⟩ := boxQ_cells BX
  have Hb := Lib.hid hb
  clear hx BX HX hb
  go_wp2_with fail
  refine (IX.out _ Hb.out).mono ?_
  rintro e w2 ⟨a, rfl, ha, ga, hx⟩
  replace Hb := Lib.hid (hop Hb.out h0 hx)
  have RE2 := Lib.hid (RE.out a w2 ha ga)
  clear hx IX x0 x1 x2 x3 x4 x5 x6 ha ga RE
  dsimp only [EntX.val]
  go_wp2_with fail
  refine RE2.out.mono ?_
  rintro e w3 ⟨q, rfl, hq, qn, gq, hx⟩
  replace Hb := Lib.hid (hop Hb.out h0 hx)
  have RT2 := Lib.hid (RT.out q w3 hq qn gq)
  clear hx RE2 hq qn gq RT
  go_wp2_with fail
  refine RT2.out.mono ?_
  rintro e w4 ⟨rfl, hx⟩
  replace Hb := Lib.hid (hop Hb.out h0 hx)
  clear hx RT2
  rcases (by omega : hw % 4 = 0 ∨ hw % 4 = 1 ∨ hw % 4 = 2 ∨ hw % 4 = 3) with g | g | g | g
  · obtain ⟨g1, g2, g3⟩ := tmE hw 4 0 g
    have hcs : ¬ 9223372036854775807 < T.size + s.size := by omega
    obtain ⟨S, hS⟩ : ∃ S, T ++ s = S := ⟨_, rfl⟩
    have hSz : S.size ≤ 16000000 := by rw [← hS, ByteArray.size_append]; omega
    obtain ⟨o, n1, b1, p1, p2, p3⟩ : ∃ o n ok, entP S = o ∧ (o.map (·.2)).getD 0 = n ∧ o.isSome = ok := ⟨_, _, _, rfl, rfl, rfl⟩
    have PA := Lib.hid (fun w h => parse_as S o n1 b1 hSz p1 p2 p3 w h)
    have PR := Lib.hid (fun w => refParse_as S o n1 b1 hSz p1 p2 p3 w)
    clear p1 p2 p3
    go_wp2_with fail
    refine (PA.out _ (HL.out.below Hb.out)).mono ?_
    rintro e w11 ⟨a, rfl, ha, ga, hx⟩
    replace Hb := Lib.hid (hop Hb.out h0 hx)
    have Hga := Lib.hid (ga.below ((Below.refl _ _).alloc (Nat.le_refl _) (.cells #[.int .i64 a.ts, .slice a.A a.n a.c, .string a.ln] 25)))
    have Hha := Lib.hid ha
    clear hx PA ga ha
    go_wp2_with fail
    have B1 := Blk.new w11 25 #[.int .i64 a.ts, .slice a.A a.n a.c, .string a.ln]
    have hs1 := Hb.out.size
    have hb := Hb.out.alloc hs1 (.cells #[.int .i64 a.ts, .slice a.A a.n a.c, .string a.ln] 25)
    replace Hga := Hga.out
    obtain ⟨w12, hw12⟩ : ∃ w', w11.alloc (.cells #[.int .i64 a.ts, .slice a.A a.n a.c, .string a.ln] 25) = w' := ⟨_, rfl⟩
    obtain ⟨gA, hgA⟩ : ∃ g, w11.heap.size = g := ⟨_, rfl⟩
    rw [hw12] at B1 hb Hga
    rw [hgA] at B1
    rw [hw12, hgA]
    clear hw12 hgA hs1 Hb
    refine (PR.out _).mono ?_
    rintro e w13 ⟨q, rfl, hq, gq, hx⟩
    replace hb := hop hb h0 hx
    have A1 := (Below.refl w13.heap.size w13).alloc (Nat.le_refl _) (.cells #[.int .i64 q.ts, .slice q.A q.n q.c, .string q.ln] 35)
    have B2 := (B1.below hx B1.lt).alloc (.cells #[.int .i64 q.ts, .slice q.A q.n q.c, .string q.ln] 35)
    have B3 := Blk.new w13 35 #[.int .i64 q.ts, .slice q.A q.n q.c, .string q.ln]
    have ga2 := (Hga.below hx).below A1
    have gq2 := gq.below A1
    have hb2 := hb.alloc hb.size (.cells #[.int .i64 q.ts, .slice q.A q.n q.c, .string q.ln] 35)
    have a0 := (B2.cell 0).trans rfl
    have a1 := (B2.cell 1).trans rfl
    have a2 := (B2.cell 2).trans rfl
    have b0 := (B3.cell 0).trans rfl
    have b1_ := (B3.cell 1).trans rfl
    have b2 := (B3.cell 2).trans rfl
    have SM := sameEntry_any a q ga2.len _ ga2.set.1 gq2.set
    rw [sameE_iff.2 (Hha.out.trans hq.symm)] at SM
    have HSM := Lib.hid SM
    have Hb := Lib.hid hb2
    clear hx hb hb2 SM gq gq2 Hga ga2 A1 B1 B2 B3 PR
    go_wp2_with fail
    refine HSM.out.mono ?_
    rintro e w14 ⟨rfl, hx⟩
    have hbz := hop Hb.out h0 hx
    clear hx HSM Hb a0 a1 a2 b0 b1_ b2
    go_wp2
    go_ret
    exact ⟨by first | rfl | (simp; done), hbz⟩
  · obtain ⟨g1, g2, g3⟩ := tmE hw 4 1 g
    go_wp2_with fail
    refine (BE.out T (by omega) _).mono ?_
    rintro e w10 ⟨S, hS, rfl, hx⟩
    replace Hb := Lib.hid (hop Hb.out h0 hx)
    clear hx
    have hSz : S.size ≤ 16000000 := by omega
    obtain ⟨o, n1, b1, p1, p2, p3⟩ : ∃ o n ok, entP S = o ∧ (o.map (·.2)).getD 0 = n ∧ o.isSome = ok := ⟨_, _, _, rfl, rfl, rfl⟩
    have PA := Lib.hid (fun w h => parse_as S o n1 b1 hSz p1 p2 p3 w h)
    have PR := Lib.hid (fun w => refParse_as S o n1 b1 hSz p1 p2 p3 w)
    clear p1 p2 p3
    go_wp2_with fail
    refine (PA.out _ (HL.out.below Hb.out)).mono ?_
    rintro e w11 ⟨a, rfl, ha, ga, hx⟩
    replace Hb := Lib.hid (hop Hb.out h0 hx)
    have Hga := Lib.hid (ga.below ((Below.refl _ _).alloc (Nat.le_refl _) (.cells #[.int .i64 a.ts, .slice a.A a.n a.c, .string a.ln] 25)))
    have Hha := Lib.hid ha
    clear hx PA ga ha
    go_wp2_with fail
    have B1 := Blk.new w11 25 #[.int .i64 a.ts, .slice a.A a.n a.c, .string a.ln]
    have hs1 := Hb.out.size
    have hb := Hb.out.alloc hs1 (.cells #[.int .i64 a.ts, .slice a.A a.n a.c, .string a.ln] 25)
    replace Hga := Hga.out
    obtain ⟨w12, hw12⟩ : ∃ w', w11.alloc (.cells #[.int .i64 a.ts, .slice a.A a.n a.c, .string a.ln] 25) = w' := ⟨_, rfl⟩
    obtain ⟨gA, hgA⟩ : ∃ g, w11.heap.size = g := ⟨_, rfl⟩
    rw [hw12] at B1 hb Hga
    rw [hgA] at B1
    rw [hw12, hgA]
    clear hw12 hgA hs1 Hb
    refine (PR.out _).mono ?_
    rintro e w13 ⟨q, rfl, hq, gq, hx⟩
    replace hb := hop hb h0 hx
    have A1 := (Below.refl w13.heap.size w13).alloc (Nat.le_refl _) (.cells #[.int .i64 q.ts, .slice q.A q.n q.c, .string q.ln] 35)
    have B2 := (B1.below hx B1.lt).alloc (.cells #[.int .i64 q.ts, .slice q.A q.n q.c, .string q.ln] 35)
    have B3 := Blk.new w13 35 #[.int .i64 q.ts, .slice q.A q.n q.c, .string q.ln]
    have ga2 := (Hga.below hx).below A1
    have gq2 := gq.below A1
    have hb2 := hb.alloc hb.size (.cells #[.int .i64 q.ts, .slice q.A q.n q.c, .string q.ln] 35)
    have a0 := (B2.cell 0).trans rfl
    have a1 := (B2.cell 1).trans rfl
    have a2 := (B2.cell 2).trans rfl
    have b0 := (B3.cell 0).trans rfl
    have b1_ := (B3.cell 1).trans rfl
    have b2 := (B3.cell 2).trans rfl
    have SM := sameEntry_any a q ga2.len _ ga2.set.1 gq2.set
    rw [sameE_iff.2 (Hha.out.trans hq.symm)] at SM
    have HSM := Lib.hid SM
    have Hb := Lib.hid hb2
    clear hx hb hb2 SM gq gq2 Hga ga2 A1 B1 B2 B3 PR
    go_wp2_with fail
    refine HSM.out.mono ?_
    rintro e w14 ⟨rfl, hx⟩
    have hbz := hop Hb.out h0 hx
    clear hx HSM Hb a0 a1 a2 b0 b1_ b2
    go_wp2
    go_ret
    exact ⟨by first | rfl | (simp; done), hbz⟩
  · obtain ⟨g1, g2, g3⟩ := tmE hw 4 2 g
    go_wp2_with fail
    refine (BE.out T (by omega) _).mono ?_
    rintro e w10 ⟨S, hS, rfl, hx⟩
    replace Hb := Lib.hid (hop Hb.out h0 hx)
    clear hx
    have hSz : S.size ≤ 16000000 := by omega
    obtain ⟨o, n1, b1, p1, p2, p3⟩ : ∃ o n ok, entP S = o ∧ (o.map (·.2)).getD 0 = n ∧ o.isSome = ok := ⟨_, _, _, rfl, rfl, rfl⟩
    have PA := Lib.hid (fun w h => parse_as S o n1 b1 hSz p1 p2 p3 w h)
    have PR := Lib.hid (fun w => refParse_as S o n1 b1 hSz p1 p2 p3 w)
    clear p1 p2 p3
    go_wp2_with fail
    refine (PA.out _ (HL.out.below Hb.out)).mono ?_
    rintro e w11 ⟨a, rfl, ha, ga, hx⟩
    replace Hb := Lib.hid (hop Hb.out h0 hx)
    have Hga := Lib.hid (ga.below ((Below.refl _ _).alloc (Nat.le_refl _) (.cells #[.int .i64 a.ts, .slice a.A a.n a.c, .string a.ln] 25)))
    have Hha := Lib.hid ha
    clear hx PA ga ha
    go_wp2_with fail
    have B1 := Blk.new w11 25 #[.int .i64 a.ts, .slice a.A a.n a.c, .string a.ln]
    have hs1 := Hb.out.size
    have hb := Hb.out.alloc hs1 (.cells #[.int .i64 a.ts, .slice a.A a.n a.c, .string a.ln] 25)
    replace Hga := Hga.out
    obtain ⟨w12, hw12⟩ : ∃ w', w11.alloc (.cells #[.int .i64 a.ts, .slice a.A a.n a.c, .string a.ln] 25) = w' := ⟨_, rfl⟩
    obtain ⟨gA, hgA⟩ : ∃ g, w11.heap.size = g := ⟨_, rfl⟩
    rw [hw12] at B1 hb Hga
    rw [hgA] at B1
    rw [hw12, hgA]
    clear hw12 hgA hs1 Hb
    refine (PR.out _).mono ?_
    rintro e w13 ⟨q, rfl, hq, gq, hx⟩
    replace hb := hop hb h0 hx
    have A1 := (Below.refl w13.heap.size w13).alloc (Nat.le_refl _) (.cells #[.int .i64 q.ts, .slice q.A q.n q.c, .string q.ln] 35)
    have B2 := (B1.below hx B1.lt).alloc (.cells #[.int .i64 q.ts, .slice q.A q.n q.c, .string q.ln] 35)
    have B3 := Blk.new w13 35 #[.int .i64 q.ts, .slice q.A q.n q.c, .string q.ln]
    have ga2 := (Hga.below hx).below A1
    have gq2 := gq.below A1
    have hb2 := hb.alloc hb.size (.cells #[.int .i64 q.ts, .slice q.A q.n q.c, .string q.ln] 35)
    have a0 := (B2.cell 0).trans rfl
    have a1 := (B2.cell 1).trans rfl
    have a2 := (B2.cell 2).trans rfl
    have b0 := (B3.cell 0).trans rfl
    have b1_ := (B3.cell 1).trans rfl
    have b2 := (B3.cell 2).trans rfl
    have SM := sameEntry_any a q ga2.len _ ga2.set.1 gq2.set
    rw [sameE_iff.2 (Hha.out.trans hq.symm)] at SM
    have HSM := Lib.hid SM
    have Hb := Lib.hid hb2
    clear hx hb hb2 SM gq gq2 Hga ga2 A1 B1 B2 B3 PR
    go_wp2_with fail
    refine HSM.out.mono ?_
    rintro e w14 ⟨rfl, hx⟩
    have hbz := hop Hb.out h0 hx
    clear hx HSM Hb a0 a1 a2 b0 b1_ b2
    go_wp2
    go_ret
    exact ⟨by first | rfl | (simp; done), hbz⟩
  · obtain ⟨g1, g2, g3⟩ := tmE hw 4 3 g
    obtain ⟨S, hS⟩ : ∃ S, s = S := ⟨_, rfl⟩
    have hSz : S.size ≤ 16000000 := by rw [← hS]; omega
    subst hS
    obtain ⟨o, n1, b1, p1, p2, p3⟩ : ∃ o n ok, entP s = o ∧ (o.map (·.2)).getD 0 = n ∧ o.isSome = ok := ⟨_, _, _, rfl, rfl, rfl⟩
    have PA := Lib.hid (fun w h => parse_as s o n1 b1 hSz p1 p2 p3 w h)
    have PR := Lib.hid (fun w => refParse_as s o n1 b1 hSz p1 p2 p3 w)
    clear p1 p2 p3
    go_wp2_with fail
    refine (PA.out _ (HL.out.below Hb.out)).mono ?_
    rintro e w11 ⟨a, rfl, ha, ga, hx⟩
    replace Hb := Lib.hid (hop Hb.out h0 hx)
    have Hga := Lib.hid (ga.below ((Below.refl _ _).alloc (Nat.le_refl _) (.cells #[.int .i64 a.ts, .slice a.A a.n a.c, .string a.ln] 25)))
    have Hha := Lib.hid ha
    clear hx PA ga ha
    go_wp2_with fail
    have B1 := Blk.new w11 25 #[.int .i64 a.ts, .slice a.A a.n a.c, .string a.ln]
    have hs1 := Hb.out.size
    have hb := Hb.out.alloc hs1 (.cells #[.int .i64 a.ts, .slice a.A a.n a.c, .string a.ln] 25)
    replace Hga := Hga.out
    obtain ⟨w12, hw12⟩ : ∃ w', w11.alloc (.cells #[.int .i64 a.ts, .slice a.A a.n a.c, .string a.ln] 25) = w' := ⟨_, rfl⟩
    obtain ⟨gA, hgA⟩ : ∃ g, w11.heap.size = g := ⟨_, rfl⟩
    rw [hw12] at B1 hb Hga
    rw [hgA] at B1
    rw [hw12, hgA]
    clear hw12 hgA hs1 Hb
    refine (PR.out _).mono ?_
    rintro e w13 ⟨q, rfl, hq, gq, hx⟩
    replace hb := hop hb h0 hx
    have A1 := (Below.refl w13.heap.size w13).alloc (Nat.le_refl _) (.cells #[.int .i64 q.ts, .slice q.A q.n q.c, .string q.ln] 35)
    have B2 := (B1.below hx B1.lt).alloc (.cells #[.int .i64 q.ts, .slice q.A q.n q.c, .string q.ln] 35)
    have B3 := Blk.new w13 35 #[.int .i64 q.ts, .slice q.A q.n q.c, .string q.ln]
    have ga2 := (Hga.below hx).below A1
    have gq2 := gq.below A1
    have hb2 := hb.alloc hb.size (.cells #[.int .i64 q.ts, .slice q.A q.n q.c, .string q.ln] 35)
    have a0 := (B2.cell 0).trans rfl
    have a1 := (B2.cell 1).trans rfl
    have a2 := (B2.cell 2).trans rfl
    have b0 := (B3.cell 0).trans rfl
    have b1_ := (B3.cell 1).trans rfl
    have b2 := (B3.cell 2).trans rfl
    have SM := sameEntry_any a q ga2.len _ ga2.set.1 gq2.set
    rw [sameE_iff.2 (Hha.out.trans hq.symm)] at SM
    have HSM := Lib.hid SM
    have Hb := Lib.hid hb2
    clear hx hb hb2 SM gq gq2 Hga ga2 A1 B1 B2 B3 PR
    go_wp2_with fail
    refine HSM.out.mono ?_
    rintro e w14 ⟨rfl, hx⟩
    have hbz := hop Hb.out h0 hx
    clear hx HSM Hb a0 a1 a2 b0 b1_ b2
    go_wp2
    go_ret
    exact ⟨by first | rfl | (simp; done), hbz⟩
end Go.Proofs.YtdbflmkjcgiodaaGreatDoor
