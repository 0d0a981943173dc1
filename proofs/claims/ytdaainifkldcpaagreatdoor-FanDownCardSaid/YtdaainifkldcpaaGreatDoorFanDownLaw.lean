-- shaken
import Derived.Test.YtdaainifkldcpaaGreatDoorFanLawBase
namespace Go.Proofs.YtdaainifkldcpaaGreatDoor
open Go.RowKit
set_option linter.unusedVariables false
set_option linter.unusedSimpArgs false
set_option maxRecDepth 100000 in
set_option maxHeartbeats 6400000 in
theorem fanDown_walk {W : World} (A : Option Addr) (n c : Nat) (l : List ItemX) (many fails : Int) (h1 : ItemsP W.heap.size W A n l) (hnc : n ≤ c) (hcm : c ≤ maxLen) (wm : (Lit.int .u8 many).wf = true) (wf_ : (Lit.int .u8 fails).wf = true) (hl : True) :
    Calls Tryz.prog 6 #[.slice A n c, .int .u8 many, .int .u8 fails] W fun e w' => e = .returned (.bool true) ∧ Below W.heap.size W w' := by
  unfold maxLen at hcm
  have hn : n ≤ 9223372036854775807 := by omega
  have bm := bdu8 wm
  have bf := bdu8 wf_
  obtain ⟨z4, hz4⟩ : ∃ z, many.tmod 4 = z := ⟨_, rfl⟩
  have bz4 : 0 ≤ z4 ∧ z4 ≤ 3 := by rw [← hz4, Int.tmod_eq_emod_of_nonneg bm.1]; omega
  have hz4a : IntKind.u8.wrap z4 = z4 := by rw [IntKind.wrap_u8]; omega
  have hz4b : IntKind.i64.wrap z4 = z4 := by rw [IntKind.wrap_i64]; omega
  obtain ⟨N, hN⟩ : ∃ N : Nat, 1 + z4 = (N : Int) := ⟨(1 + z4).toNat, by omega⟩
  have bN : 1 ≤ N ∧ N ≤ 4 := by omega
  have hNw : IntKind.i64.wrap (N : Int) = (N : Int) := by rw [IntKind.wrap_i64]; omega
  have H1 := Lib.hid h1
  have LN := Lib.hid (ownL_len l)
  have NX := Lib.hid (ownL_next l)
  obtain ⟨i0, hinf, hi0, hi1, hi2⟩ := info_parts infoEntS
  obtain ⟨i1, hinp, hp0, hp1, hp2⟩ := info_parts infoPtrD
  have ALLR := Lib.hid (show ∀ j, ∀ e ∈ ownL l j, okE e from fun j e he => by
    obtain ⟨x, hx, rfl⟩ := List.mem_map.1 he
    exact own_okE (h1.2 x (List.mem_of_mem_take hx)))
  clear h1 wm wf_ hl hnc hcm bm
  go_enter Tryz.func6, Tryz.ntmps6
  go_wp2_with fail
  refine (examples20_any W).mono ?_
  rintro e w1 ⟨rfl, hb⟩
  have HB := Lib.hid hb
  clear hb
  go_upto_block 0 with fail
  go_cut [8] (fun av wx => ∃ L : List EntX, L.length ≤ 8 ∧ Hid (∀ e ∈ L.map EntX.b, okE e) ∧ Hid (OwnE W.heap.size wx W.heap.size av L) ∧ Hid (Below W.heap.size W wx))
  case first =>
    have OE0 := Lib.hid (OwnE.nil W.heap.size w1 W.heap.size)
    have EQ0 := Lib.hid (show ([] : List EntX).map EntX.b = ownL l 0 from rfl)
    go_wp2_with fail
    go_loopw [8, 9] (fun av iv wr => ∃ (j : Nat) (L : List EntX), j ≤ n ∧ j ≤ 8 ∧ iv = .int .i64 (j : Nat) ∧ Hid (L.map EntX.b = ownL l j) ∧ Hid (OwnE W.heap.size wr W.heap.size av L) ∧ Hid (Below W.heap.size W wr)) (fun _ iv _ => 8 - (intOf iv).toNat)
    case atStart => exact ⟨0, [], Nat.zero_le _, Nat.zero_le _, rfl, EQ0, OE0, HB⟩
    case round =>
      clear OE0 EQ0 HB
      obtain ⟨j, L, hjn, hj8, rfl, EQ, OE, HB⟩ := hrel
      have hLl : L.length ≤ 8 := by
        have h3 := congrArg List.length EQ.out
        rw [List.length_map] at h3
        have := LN.out j
        omega
      by_cases hj : j < n ∧ j < 8
      · obtain ⟨g1, g2⟩ := hj
        have h2 := H1.out.below HB.out
        obtain ⟨b1, o1, hA, hlt1, hc1⟩ := h2.at_ (by omega)
        obtain ⟨⟨c1, c2, c3, c4, c5, c6, c7⟩, gI⟩ := hc1 j g1
        subst hA
        have hjl : j < l.length := by rw [h2.1.1]; exact g1
        have hks := NX.out j hjl
        obtain ⟨x, hx⟩ : ∃ p, l.getD j inil = p := ⟨_, rfl⟩
        rw [hx] at c1 c2 c3 c4 c5 c6 c7 hks gI
        have gI0 : GoodI W.heap.size W x := by
          refine H1.out.2 x ?_
          rw [← hx, List.getD_eq_getElem?_getD, List.getElem?_eq_getElem hjl]
          exact List.getElem_mem _
        have IT := Lib.hid (fun w (h : Below W.heap.size W w) => item_any W.heap.size (ownI x) w (ownI_good (gI0.below h)))
        have hjI : (j : Int) < (n : Int) := by omega
        have hjM : (j : Int) < 8 := by omega
        obtain ⟨bx, hbx⟩ : ∃ b, itemB (ownI x) = b := ⟨_, rfl⟩
        rw [hbx] at hks
        replace IT := IT.out
        simp only [hbx] at IT
        obtain ⟨⟨xt, xA, xn, xc, xs, xl⟩, ow, it, iA, inn, ic, lt, ik⟩ := x
        replace IT : Hid (∀ w, Below W.heap.size W w → Calls Tryz.prog 27 #[.agg #[.int .i64 xt, .slice xA xn xc, .string xl, .bool true, .int .i8 it, .slice iA inn ic, .int .u8 (ik : Int)]] w fun e w' => ∃ y : EntX, e = .returned y.val ∧ y.b = bx ∧ Good W.heap.size w' y ∧ Below w.heap.size w w') := Lib.hid IT
        dsimp only at c1 c2 c3 c4 c5 c6 c7
        have HKS := Lib.hid hks
        have OEA := Lib.hid (OE.out.alloc (.cells #[.int .i64 xt, .slice xA xn xc, .string xl, .bool true, .int .i8 it, .slice iA inn ic, .int .u8 (ik : Int)] 53))
        have HBA := Lib.hid (HB.out.alloc HB.out.size (.cells #[.int .i64 xt, .slice xA xn xc, .string xl, .bool true, .int .i8 it, .slice iA inn ic, .int .u8 (ik : Int)] 53))
        clear hks hx hc1 h2 hjl gI gI0 hbx OE
        go_wp2_with fail
        refine (IT.out _ HBA.out).mono ?_
        rintro e w3 ⟨y, rfl, hy, gy, hb⟩
        dsimp only [EntX.val]
        replace OEA := Lib.hid (OEA.out.below hb)
        replace HBA := Lib.hid (hop HBA.out (Nat.le_refl _) hb)
        have HY := Lib.hid hy
        have HGY := Lib.hid gy
        clear hb hy gy IT c1 c2 c3 c4 c5 c6 c7 HB
        go_wp2_with (at_builtin; refine wpList_append_lies _ rfl (.tmp 44) (.tmp 47) 64 rfl W.heap.size 47 i0 (.agg #[.int .i64 0, .slice none 0 0, .string ⟨#[]⟩]) 3 48 Tryz.underlying64 hinf hi0 hi1 hi2 rfl (by decide) _ _ _ rfl (OwnR.alloc OEA.out.1 (.cells #[.int .i64 y.ts, .slice y.A y.n y.c, .string y.ln] 47)) ⟨w3.heap.size, 0, none⟩ 1 1 (EntX.V y) rfl rfl (World.news_of_block (Blk.new _ _ _)) (entV_one y) (by decide) (by unfold maxLen; omega) (by omega) (by have := HBA.out.size; simp; omega) _ rfl ?_)
        intro g2' cap2 w4 hown hgrow hg' hlt2
        have OE4 := Lib.hid (OwnE.snoc (OEA.out.alloc (.cells #[.int .i64 y.ts, .slice y.A y.n y.c, .string y.ln] 47)) (HGY.out.below ((Below.refl _ _).alloc (Nat.le_refl _) (.cells #[.int .i64 y.ts, .slice y.A y.n y.c, .string y.ln] 47))) (Nat.le_refl _) hgrow hown)
        have HB4 := Lib.hid ((HBA.out.alloc HBA.out.size (.cells #[.int .i64 y.ts, .slice y.A y.n y.c, .string y.ln] 47)).grown hgrow (by have := HBA.out.size; simp; omega) (fun r hr => (World.ownsRow.lt OEA.out.1 r hr).1))
        have EQ4 := Lib.hid (show (L ++ [y]).map EntX.b = ownL l (j + 1) by rw [List.map_append, EQ.out, HKS.out, ← HY.out]; rfl)
        clear hown hgrow hg' hlt2 OEA HBA HGY HY EQ
        go_wp2
        go_round
        case rel => exact ⟨j + 1, _, by omega, by omega, by go_num, EQ4, OE4, HB4⟩
        case measure => first | (simp [intOf]; done) | (simp [intOf]; omega)
      · have hends : (¬ (j : Int) < (n : Int)) ∨ ((j : Int) < (n : Int) ∧ ¬ (j : Int) < 8) := by omega
        have AR := Lib.hid (show ∀ e ∈ L.map EntX.b, okE e by rw [EQ.out]; exact ALLR.out j)
        rcases hends with e1 | ⟨e1, e2⟩
        all_goals
          go_wp2_with fail
          go_meet
          case rel => exact ⟨L, hLl, AR, OE, HB⟩
  case rest =>
    obtain ⟨L, hL8, AR, OE, HB⟩ := hcut
    clear H1 NX LN ALLR
    obtain ⟨EA, ec, hve⟩ := OwnR.shape OE.out.1
    subst hve
    obtain ⟨ne, hne⟩ : ∃ k, L.length = k := ⟨_, rfl⟩
    have HNE := Lib.hid hne
    rw [hne] at hL8 OE ⊢
    clear hne
    go_wp2
    go_loopw [12, 13, 14] (fun ov uv iv wr => ∃ (j : Nat) (Rs : List ReplX), j ≤ N ∧ iv = .int .i64 (j : Nat) ∧ uv = .int .i64 ((upN Rs : Nat) : Int) ∧ Rs.length = j ∧ Hid (OwnR ptrV 1 wr W.heap.size 86 ov (Rs.map ReplX.b)) ∧ Hid (RepsP 0 wr Rs) ∧ Hid (∀ x ∈ Rs, DownX W.heap.size (L.map EntX.b) x) ∧ Hid (OwnE W.heap.size wr W.heap.size (.slice EA ne ec) L) ∧ Hid (Below W.heap.size W wr)) (fun _ _ iv _ => N - (intOf iv).toNat)
    case atStart => exact ⟨0, [], Nat.zero_le _, rfl, rfl, rfl, Lib.hid (OwnR.nil _ _ _), Lib.hid ⟨(fun x hx => by cases hx), List.Pairwise.nil⟩, Lib.hid (fun x hx => by cases hx), OE, HB⟩
    case round =>
      clear OE HB
      obtain ⟨j, Rs, hjN, rfl, rfl, hln, OR, RS, DF, OE, HB⟩ := hrel
      have HLN := Lib.hid hln
      have hup : upN Rs ≤ j := by rw [← hln]; exact List.length_filter_le _ _
      clear hln
      by_cases hj : j < N
      · have jI : (j : Int) < (N : Int) := by omega
        obtain ⟨us, hus⟩ : ∃ k, upN Rs = k := ⟨_, rfl⟩
        have HUP := Lib.hid hus
        rw [hus] at hup ⊢
        clear hus
        have huw : IntKind.i64.wrap ((us : Int) + 1) = (us : Int) + 1 := by rw [IntKind.wrap_i64]; omega
        obtain ⟨q, hq⟩ : ∃ q, fails / 2 ^ j = q := ⟨_, rfl⟩
        have hq2 : fails / 2 ^ ((j : Int).toNat) = q := by rw [Int.toNat_natCast]; exact hq
        have bq : 0 ≤ q := by rw [← hq]; exact Int.ediv_nonneg bf.1 (Int.pow_nonneg (by decide))
        obtain ⟨z2, hz2⟩ : ∃ z, q.tmod 2 = z := ⟨_, rfl⟩
        have bz2 : z2 = 0 ∨ z2 = 1 := by rw [← hz2, Int.tmod_eq_emod_of_nonneg bq]; omega
        have hz2w : IntKind.u8.wrap z2 = z2 := by rw [IntKind.wrap_u8]; omega
        obtain ⟨ovA, ovc, hov⟩ := OwnR.shape OR.out
        rw [List.length_map, HLN.out] at hov
        subst hov
        rcases bz2 with rfl | rfl
        ·
          obtain ⟨gr, hgr⟩ : ∃ g, wr.heap.size = g := ⟨_, rfl⟩
          have hbr : Below wr.heap.size wr (wr.alloc (.cells #[.bool false, .int .i64 0] 85)) := (Below.refl _ _).alloc (Nat.le_refl _) _
          have RE := Lib.hid (show RowR RepB.V 2 (wr.alloc (.cells #[.bool false, .int .i64 0] 85)) (some ⟨gr, 0, none⟩) 1 [⟨false, 0⟩] from reps_litS wr [⟨false, 0⟩] 85 gr hgr)
          obtain ⟨w2, hw2⟩ : ∃ z, wr.alloc (.cells #[.bool false, .int .i64 0] 85) = z := ⟨_, rfl⟩
          rw [hw2] at hbr RE
          replace OR := Lib.hid (OwnR.below OR.out hbr)
          replace RS := Lib.hid (RS.out.below hbr)
          replace OE := Lib.hid (OE.out.below hbr)
          replace HB := Lib.hid (hop HB.out (Nat.le_refl _) hbr)
          have NW := Lib.hid (new_any W.heap.size EA ne ec L (some ⟨gr, 0, none⟩) 1 1 [⟨false, 0⟩] (by omega) (by show 1 ≤ 100000; decide) w2 (ents_of OE.out).2.1 RE.out)
          clear hbr RE
          go_wp2_with fail
          refine NW.out.mono ?_
          rintro e w3 ⟨b, R, rv, lv, rfl, hr, hbl, hp, hsd, hb⟩
          have hs_ := HB.out.size
          have DX := Lib.hid (show DownX W.heap.size (L.map EntX.b) ⟨b, [⟨false, 0⟩], 0, R, rv, lv⟩ from ⟨rfl, (by show 1 ≤ 1; decide), hp, List.pairwise_map.2 hsd, by show W.heap.size ≤ b; omega, by constructor <;> rfl⟩)
          have RP := Lib.hid (hr.mono (Nat.zero_le _))
          have BIG := Lib.hid (show ∀ x ∈ Rs, x.b < b from fun x hx => Nat.lt_of_lt_of_le (RS.out.all x hx).blk.lt hbl)
          replace OR := Lib.hid (OwnR.below OR.out hb)
          replace RS := Lib.hid (RS.out.below hb)
          replace OE := Lib.hid (OE.out.below hb)
          replace HB := Lib.hid (hop HB.out (Nat.le_refl _) hb)
          clear hr hbl hp hsd hb NW hs_ hw2 hgr
          have hbp : Below w3.heap.size w3 (w3.alloc (.cells #[.pointer (some ⟨b, 0, none⟩)] 86)) := (Below.refl _ _).alloc (Nat.le_refl _) _
          have ORA := Lib.hid (OwnR.below OR.out hbp)
          have RSA := Lib.hid (RS.out.below hbp)
          have RPA := Lib.hid (RP.out.below hbp)
          have OEA := Lib.hid (OE.out.below hbp)
          have HBA := Lib.hid (hop HB.out (Nat.le_refl _) hbp)
          have hsz := HBA.out.size
          have hlm : (Rs.map ReplX.b).length = j := by rw [List.length_map]; exact HLN.out
          have ORL := Lib.hid (show (w3.alloc (.cells #[.pointer (some ⟨b, 0, none⟩)] 86)).ownsRow W.heap.size 86 1 (.slice ovA j ovc) j (rowV ptrV (Rs.map ReplX.b)) from by have h := ORA.out; unfold OwnR at h; rw [hlm] at h; exact h)
          have HLM := Lib.hid hlm
          clear hlm OR RS RP OE HB
          go_wp2_with (at_builtin; refine wpList_append_lies _ rfl (.tmp 67) (.tmp 73) 77 rfl W.heap.size 86 i1 (.pointer none) 1 8 Tryz.underlying77 hinp hp0 hp1 hp2 rfl (by decide) _ _ _ rfl ORL.out ⟨w3.heap.size, 0, none⟩ 1 1 (ptrV b) rfl rfl (World.news_of_block (Blk.new _ _ _)) (fun u hu => by rw [List.mem_singleton.1 hu]; rfl) (by decide) (by unfold maxLen; omega) (by omega) hsz _ rfl ?_)
          intro g2 cap2 w4 hown hgrow hg' hlt2
          have hol := own_row_type ORL.out
          have OR4 := Lib.hid (show OwnR ptrV 1 w4 W.heap.size 86 (.slice (some ⟨g2, 0, none⟩) (j + 1) cap2) ((Rs ++ [(⟨b, [⟨false, 0⟩], 0, R, rv, lv⟩ : ReplX)]).map ReplX.b) from by
            rw [List.map_append]
            refine OwnR.snoc ?_
            rw [HLM.out]
            exact hown)
          have RS4 := Lib.hid (show RepsP 0 w4 (Rs ++ [(⟨b, [⟨false, 0⟩], 0, R, rv, lv⟩ : ReplX)]) from by
            refine ⟨fun x hx => ?_, ?_⟩
            · rcases List.mem_append.1 hx with hx | hx
              · exact RepP.grewP (RSA.out.all x hx) hgrow (fun g e => (hol g e).2)
              · rw [List.mem_singleton.1 hx]
                exact RepP.grewP RPA.out hgrow (fun g e => (hol g e).2)
            · rw [List.map_append]
              refine List.pairwise_append.2 ⟨RSA.out.apart, List.pairwise_singleton _ _, fun x hx y hy => ?_⟩
              obtain ⟨z, hz, rfl⟩ := List.mem_map.1 hx
              rw [List.mem_singleton.1 hy]
              exact Nat.ne_of_lt (BIG.out z hz))
          have OE4 := Lib.hid (show OwnE W.heap.size w4 W.heap.size (.slice EA ne ec) L from ⟨OwnR.grew2 OEA.out.1 hgrow (fun g e1 e2 => by
            obtain ⟨_, cur, h2⟩ := hol g e2
            obtain ⟨_, cur2, h4⟩ := own_row_type OEA.out.1 g e1
            exact cells_ne h2 h4 (by decide)), fun x hx => (OEA.out.2 x hx).grown hgrow (fun g e => ⟨(hol g e).1, by obtain ⟨_, cur, h2⟩ := hol g e; exact ⟨cur, _, (by decide), h2⟩⟩)⟩)
          have HB4 := Lib.hid (HBA.out.grown hgrow hsz (fun r hr => (hol r hr).1))
          have DF4 := Lib.hid (show ∀ x ∈ Rs ++ [(⟨b, [⟨false, 0⟩], 0, R, rv, lv⟩ : ReplX)], DownX W.heap.size (L.map EntX.b) x from fun x hx => by
            rcases List.mem_append.1 hx with hx | hx
            · exact DF.out x hx
            · rw [List.mem_singleton.1 hx]; exact DX.out)
          have UP4 := Lib.hid (show upN (Rs ++ [(⟨b, [⟨false, 0⟩], 0, R, rv, lv⟩ : ReplX)]) = upN Rs + 1 from by unfold upN; rw [List.filter_append, List.length_append]; rfl)
          have LN4 := Lib.hid (show (Rs ++ [(⟨b, [⟨false, 0⟩], 0, R, rv, lv⟩ : ReplX)]).length = j + 1 from by rw [List.length_append, HLN.out]; rfl)
          clear hown hgrow hg' hlt2 hol ORL ORA RSA RPA OEA HBA hsz hbp DX BIG HLM
          go_wp2
          go_round
          case rel => exact ⟨j + 1, Rs ++ [(⟨b, [⟨false, 0⟩], 0, R, rv, lv⟩ : ReplX)], by omega, by go_num, by rw [UP4.out, HUP.out] <;> go_num, LN4.out, OR4, RS4, DF4, OE4, HB4⟩
          case measure => first | (simp [intOf]; done) | (simp [intOf]; omega)
        ·
          obtain ⟨gr, hgr⟩ : ∃ g, wr.heap.size = g := ⟨_, rfl⟩
          have hbr : Below wr.heap.size wr (wr.alloc (.cells #[.bool true, .int .i64 0] 85)) := (Below.refl _ _).alloc (Nat.le_refl _) _
          have RE := Lib.hid (show RowR RepB.V 2 (wr.alloc (.cells #[.bool true, .int .i64 0] 85)) (some ⟨gr, 0, none⟩) 1 [⟨true, 0⟩] from reps_litS wr [⟨true, 0⟩] 85 gr hgr)
          obtain ⟨w2, hw2⟩ : ∃ z, wr.alloc (.cells #[.bool true, .int .i64 0] 85) = z := ⟨_, rfl⟩
          rw [hw2] at hbr RE
          replace OR := Lib.hid (OwnR.below OR.out hbr)
          replace RS := Lib.hid (RS.out.below hbr)
          replace OE := Lib.hid (OE.out.below hbr)
          replace HB := Lib.hid (hop HB.out (Nat.le_refl _) hbr)
          have NW := Lib.hid (new_any W.heap.size EA ne ec L (some ⟨gr, 0, none⟩) 1 1 [⟨true, 0⟩] (by omega) (by show 1 ≤ 100000; decide) w2 (ents_of OE.out).2.1 RE.out)
          clear hbr RE
          go_wp2_with fail
          refine NW.out.mono ?_
          rintro e w3 ⟨b, R, rv, lv, rfl, hr, hbl, hp, hsd, hb⟩
          have hs_ := HB.out.size
          have DX := Lib.hid (show DownX W.heap.size (L.map EntX.b) ⟨b, [⟨true, 0⟩], 0, R, rv, lv⟩ from ⟨rfl, (by show 1 ≤ 1; decide), hp, List.pairwise_map.2 hsd, by show W.heap.size ≤ b; omega, by constructor <;> rfl⟩)
          have RP := Lib.hid (hr.mono (Nat.zero_le _))
          have BIG := Lib.hid (show ∀ x ∈ Rs, x.b < b from fun x hx => Nat.lt_of_lt_of_le (RS.out.all x hx).blk.lt hbl)
          replace OR := Lib.hid (OwnR.below OR.out hb)
          replace RS := Lib.hid (RS.out.below hb)
          replace OE := Lib.hid (OE.out.below hb)
          replace HB := Lib.hid (hop HB.out (Nat.le_refl _) hb)
          clear hr hbl hp hsd hb NW hs_ hw2 hgr
          have hbp : Below w3.heap.size w3 (w3.alloc (.cells #[.pointer (some ⟨b, 0, none⟩)] 86)) := (Below.refl _ _).alloc (Nat.le_refl _) _
          have ORA := Lib.hid (OwnR.below OR.out hbp)
          have RSA := Lib.hid (RS.out.below hbp)
          have RPA := Lib.hid (RP.out.below hbp)
          have OEA := Lib.hid (OE.out.below hbp)
          have HBA := Lib.hid (hop HB.out (Nat.le_refl _) hbp)
          have hsz := HBA.out.size
          have hlm : (Rs.map ReplX.b).length = j := by rw [List.length_map]; exact HLN.out
          have ORL := Lib.hid (show (w3.alloc (.cells #[.pointer (some ⟨b, 0, none⟩)] 86)).ownsRow W.heap.size 86 1 (.slice ovA j ovc) j (rowV ptrV (Rs.map ReplX.b)) from by have h := ORA.out; unfold OwnR at h; rw [hlm] at h; exact h)
          have HLM := Lib.hid hlm
          clear hlm OR RS RP OE HB
          go_wp2_with (at_builtin; refine wpList_append_lies _ rfl (.tmp 67) (.tmp 73) 77 rfl W.heap.size 86 i1 (.pointer none) 1 8 Tryz.underlying77 hinp hp0 hp1 hp2 rfl (by decide) _ _ _ rfl ORL.out ⟨w3.heap.size, 0, none⟩ 1 1 (ptrV b) rfl rfl (World.news_of_block (Blk.new _ _ _)) (fun u hu => by rw [List.mem_singleton.1 hu]; rfl) (by decide) (by unfold maxLen; omega) (by omega) hsz _ rfl ?_)
          intro g2 cap2 w4 hown hgrow hg' hlt2
          have hol := own_row_type ORL.out
          have OR4 := Lib.hid (show OwnR ptrV 1 w4 W.heap.size 86 (.slice (some ⟨g2, 0, none⟩) (j + 1) cap2) ((Rs ++ [(⟨b, [⟨true, 0⟩], 0, R, rv, lv⟩ : ReplX)]).map ReplX.b) from by
            rw [List.map_append]
            refine OwnR.snoc ?_
            rw [HLM.out]
            exact hown)
          have RS4 := Lib.hid (show RepsP 0 w4 (Rs ++ [(⟨b, [⟨true, 0⟩], 0, R, rv, lv⟩ : ReplX)]) from by
            refine ⟨fun x hx => ?_, ?_⟩
            · rcases List.mem_append.1 hx with hx | hx
              · exact RepP.grewP (RSA.out.all x hx) hgrow (fun g e => (hol g e).2)
              · rw [List.mem_singleton.1 hx]
                exact RepP.grewP RPA.out hgrow (fun g e => (hol g e).2)
            · rw [List.map_append]
              refine List.pairwise_append.2 ⟨RSA.out.apart, List.pairwise_singleton _ _, fun x hx y hy => ?_⟩
              obtain ⟨z, hz, rfl⟩ := List.mem_map.1 hx
              rw [List.mem_singleton.1 hy]
              exact Nat.ne_of_lt (BIG.out z hz))
          have OE4 := Lib.hid (show OwnE W.heap.size w4 W.heap.size (.slice EA ne ec) L from ⟨OwnR.grew2 OEA.out.1 hgrow (fun g e1 e2 => by
            obtain ⟨_, cur, h2⟩ := hol g e2
            obtain ⟨_, cur2, h4⟩ := own_row_type OEA.out.1 g e1
            exact cells_ne h2 h4 (by decide)), fun x hx => (OEA.out.2 x hx).grown hgrow (fun g e => ⟨(hol g e).1, by obtain ⟨_, cur, h2⟩ := hol g e; exact ⟨cur, _, (by decide), h2⟩⟩)⟩)
          have HB4 := Lib.hid (HBA.out.grown hgrow hsz (fun r hr => (hol r hr).1))
          have DF4 := Lib.hid (show ∀ x ∈ Rs ++ [(⟨b, [⟨true, 0⟩], 0, R, rv, lv⟩ : ReplX)], DownX W.heap.size (L.map EntX.b) x from fun x hx => by
            rcases List.mem_append.1 hx with hx | hx
            · exact DF.out x hx
            · rw [List.mem_singleton.1 hx]; exact DX.out)
          have UP4 := Lib.hid (show upN (Rs ++ [(⟨b, [⟨true, 0⟩], 0, R, rv, lv⟩ : ReplX)]) = upN Rs from by unfold upN; rw [List.filter_append, List.length_append]; rfl)
          have LN4 := Lib.hid (show (Rs ++ [(⟨b, [⟨true, 0⟩], 0, R, rv, lv⟩ : ReplX)]).length = j + 1 from by rw [List.length_append, HLN.out]; rfl)
          clear hown hgrow hg' hlt2 hol ORL ORA RSA RPA OEA HBA hsz hbp DX BIG HLM
          go_wp2
          go_round
          case rel => exact ⟨j + 1, Rs ++ [(⟨b, [⟨true, 0⟩], 0, R, rv, lv⟩ : ReplX)], by omega, by go_num, by rw [UP4.out, HUP.out] <;> go_num, LN4.out, OR4, RS4, DF4, OE4, HB4⟩
          case measure => first | (simp [intOf]; done) | (simp [intOf]; omega)
      ·
        have jI : ¬ (j : Int) < (N : Int) := by omega
        have jN : j = N := by omega
        subst jN
        obtain ⟨oA, oc, hoe, _, _, hrow⟩ := OwnR.open ptrV_len OR.out
        rw [List.length_map, HLN.out] at hoe hrow
        subst hoe
        have NF := Lib.hid (fanNew_any 0 oA j oc Rs (by omega) (by omega) wr (Nat.zero_le _) hrow RS.out)
        clear OR RS hrow
        go_wp2_with fail
        refine NF.out.mono ?_
        rintro e w7 ⟨f, rv, ov2, rfl, hfp, hfl, hb⟩
        have FP := Lib.hid hfp
        replace OE := Lib.hid (OE.out.below hb)
        replace HB := Lib.hid (hop HB.out (Nat.le_refl _) hb)
        clear hfp hfl hb NF
        go_wp2_with fail
        refine (everyNone_any w7).mono ?_
        rintro e w8 ⟨rfl, hao, hb⟩
        obtain ⟨ma, hma⟩ : ∃ g, w7.heap.size = g := ⟨_, rfl⟩
        rw [hma] at hao ⊢
        have AO := Lib.hid hao
        replace FP := Lib.hid (FP.out.below hb)
        replace OE := Lib.hid (OE.out.below hb)
        replace HB := Lib.hid (hop HB.out (Nat.le_refl _) hb)
        clear hao hma hb
        have ALQ := Lib.hid (show newE (L.map EntX.b) = L.map EntX.b from List.filter_eq_self.2 (fun e he => (AR.out e he).1))
        have OKX := Lib.hid (show ∀ x ∈ Rs, OkX 0 (.pointer (some ⟨ma, 0, none⟩)) (fun _ => true) (fun w => Blk w ma 108 #[.slice none 0 0]) x from fun x hx => by
          have d := DF.out x hx
          have hp := d.perm
          rw [ALQ.out] at hp
          refine ⟨(by rw [d.k]; decide), Nat.le_trans d.s (by decide), ?_, (fun y hy => (AR.out _ (hp.mem_iff.1 (List.mem_map_of_mem hy))).1), (by rw [d.most.2]; decide), Nat.zero_le _, none_test x.b ma⟩
          have h1 := hp.length_eq
          rw [List.length_map, List.length_map, HNE.out] at h1
          omega)
        have SRT := Lib.hid (fun x (hx : x ∈ Rs) => (DF.out x hx).sort)
        have BSL := Lib.hid (show ∀ b ∈ Rs.map ReplX.b, W.heap.size ≤ b from fun b hb => by
          obtain ⟨x, hx, rfl⟩ := List.mem_map.1 hb
          exact (DF.out x hx).low)
        have DW := Lib.hid (down_fetch (Rs := Rs) (Xs := orderX Rs (List.range j)) (all := L.map EntX.b) (order_mem (fun i hi => by rw [HLN.out]; exact List.mem_range.1 hi) (fun i hi => by rw [HLN.out] at hi; exact List.mem_range.2 hi)) (fun x hx => by have h := (DF.out x hx).perm; rwa [ALQ.out] at h) (fun e he => (AR.out e he).2) (by rw [List.length_map, HNE.out]; omega) (fun x hx => (DF.out x hx).most.1))
        have HDF := DF
        clear DF
        rcases Nat.eq_zero_or_pos (upN Rs) with u0 | u0
        · -- all fail
          have UF := Lib.hid (show ∀ x ∈ Rs, upX x = false from fun x hx => by
            have h1 := List.eq_nil_of_length_eq_zero u0
            cases hu : upX x with
            | false => rfl
            | true => exact absurd (List.mem_filter.2 ⟨hx, hu⟩) (by rw [h1]; simp))
          have TE := Lib.hid (DW.out.2.1.2 UF.out)
          rw [u0]
          clear u0
          have FE := Lib.hid (fetch_lit 0 0 f (Rs.map ReplX.b) Rs (List.range j) rv ov2 ⟨ma, 0, none⟩ (fun _ => true) (fun w => Blk w ma 108 #[.slice none 0 0]) ⟨-100, 100, true, 50, false, ⟨0, none, 0, 0, [], ⟨#[]⟩⟩⟩ (by rw [HLN.out]; omega) ⟨List.nodup_range, fun i hi => by rw [HLN.out]; exact List.mem_range.1 hi⟩ OKX.out SRT.out (fun x hx => List.mem_map_of_mem hx) (fun w w' h hb => h.below hb h.lt) (by decide +kernel) (by decide) w8 FP.out AO.out (good_nilS _ _ _ (by decide) (by decide)) false 7 [] _ (by show (!(endsX _ askD _).isEmpty) = false; rw [DW.out.1]; rfl) (by show (if (tellsX _ askD _).isEmpty = true then (7 : Int) else 0) = 7; rw [TE.out]; rfl) (by show fetchL true (tellsX _ askD _) (endsX _ askD _) = []; rw [DW.out.1, TE.out]; rfl) rfl)
          go_wp2_with fail
          refine (show Calls Tryz.prog 17 #[.pointer (some ⟨f, 0, none⟩), .agg #[.int .i64 (-100), .int .i64 100, .bool true, .int .i64 50, .bool false, .int .i64 0, .slice none 0 0, .string ⟨#[]⟩], .pointer (some ⟨ma, 0, none⟩)] w8 _ from FE.out).mono ?_
          rintro e w9 ⟨vp, Lp, rfl, ho, hm, _, hh⟩
          replace HB := Lib.hid (hh.under HB.out BSL.out HB.out.size)
          replace OE := Lib.hid (OE.out.hops hh BSL.out (by decide) (by decide))
          obtain ⟨pA, pc, hvp⟩ := OwnR.shape ho.1
          subst hvp
          have hpn : Lp.length = 0 := by have h1 := congrArg List.length hm; rwa [List.length_map] at h1
          rw [hpn]
          clear ho hm hh hpn FE
          go_wp2
          go_ret
          exact ⟨rfl, HB.out⟩
        · obtain ⟨us, hus⟩ : ∃ k, upN Rs = k := ⟨_, rfl⟩
          have UE := Lib.hid (show ∃ x ∈ Rs, upX x = true from by
            obtain ⟨x, hx⟩ := List.exists_mem_of_length_pos u0
            exact ⟨x, (List.mem_filter.1 hx).1, (List.mem_filter.1 hx).2⟩)
          have TE := Lib.hid (show (tellsX (fun _ => true) askD (orderX Rs (List.range j))).isEmpty = false from by
            cases h : tellsX (fun _ => true) askD (orderX Rs (List.range j)) with
            | nil =>
              obtain ⟨x, hx, hu⟩ := UE.out
              rw [DW.out.2.1.1 h x hx] at hu
              cases hu
            | cons => rfl)
          obtain ⟨P, hP⟩ : ∃ P, fetchL true (tellsX (fun _ => true) askD (orderX Rs (List.range j))) [] = P := ⟨_, rfl⟩
          have PIN := Lib.hid (show ∀ e, e ∈ P ↔ e ∈ L.map EntX.b from fun e => by
            rw [← hP, DW.out.2.2.1 e]
            exact ⟨fun h => h.2, fun h => ⟨UE.out, h⟩⟩)
          have PLN := Lib.hid (show P.length ≤ ne from by
            have h := DW.out.2.2.2
            rwa [hP, List.length_map, HNE.out] at h)
          have HP := Lib.hid hP
          rw [hus] at u0 ⊢
          have usI : ¬ (us : Int) = 0 := by omega
          have usB : ((us : Int) == 0) = false := beq_eq_false_iff_ne.2 usI
          clear hus hP
          have FE := Lib.hid (fetch_lit 0 0 f (Rs.map ReplX.b) Rs (List.range j) rv ov2 ⟨ma, 0, none⟩ (fun _ => true) (fun w => Blk w ma 108 #[.slice none 0 0]) ⟨-100, 100, true, 50, false, ⟨0, none, 0, 0, [], ⟨#[]⟩⟩⟩ (by rw [HLN.out]; omega) ⟨List.nodup_range, fun i hi => by rw [HLN.out]; exact List.mem_range.1 hi⟩ OKX.out SRT.out (fun x hx => List.mem_map_of_mem hx) (fun w w' h hb => h.below hb h.lt) (by decide +kernel) (by decide) w8 FP.out AO.out (good_nilS _ _ _ (by decide) (by decide)) false 0 P _ (by show (!(endsX _ askD _).isEmpty) = false; rw [DW.out.1]; rfl) (by show (if (tellsX _ askD _).isEmpty = true then (7 : Int) else 0) = 0; rw [TE.out]; rfl) (by show fetchL true (tellsX _ askD _) (endsX _ askD _) = P; rw [DW.out.1]; exact HP.out) rfl)
          go_wp2_with fail
          refine (show Calls Tryz.prog 17 #[.pointer (some ⟨f, 0, none⟩), .agg #[.int .i64 (-100), .int .i64 100, .bool true, .int .i64 50, .bool false, .int .i64 0, .slice none 0 0, .string ⟨#[]⟩], .pointer (some ⟨ma, 0, none⟩)] w8 _ from FE.out).mono ?_
          rintro e w9 ⟨vp, Lp, rfl, ho, hm, _, hh⟩
          replace HB := Lib.hid (hh.under HB.out BSL.out HB.out.size)
          replace OE := Lib.hid (OE.out.hops hh BSL.out (by decide) (by decide))
          obtain ⟨pA, pc, hvp⟩ := OwnR.shape ho.1
          subst hvp
          obtain ⟨pn, hpn⟩ : ∃ k, Lp.length = k := ⟨_, rfl⟩
          have PO := Lib.hid ho
          have PM := Lib.hid hm
          have HPN := Lib.hid hpn
          rw [hpn] at PO ⊢
          have hpne : pn ≤ ne := by
            have h1 := congrArg List.length PM.out
            rw [List.length_map, HPN.out] at h1
            have := PLN.out
            omega
          clear ho hm hh hpn FE OKX SRT BSL DW TE AO FP u0
          obtain ⟨v1, hv1⟩ : ∃ v, v = w9 := ⟨_, rfl⟩
          subst hv1
          have HBv := Lib.hid (Below.refl v1.heap.size v1)
          go_wp2
          go_loopw [23] (fun iv wr => ∃ jx : Nat, jx ≤ ne ∧ iv = .int .i64 (jx : Nat) ∧ Hid (Below v1.heap.size v1 wr)) (fun iv _ => ne - (intOf iv).toNat)
          case atStart => exact ⟨0, Nat.zero_le _, rfl, HBv⟩
          case round =>
            clear HBv
            obtain ⟨jx, hjq, rfl, HBv⟩ := hrel
            by_cases hj : jx < ne
            · have jI : (jx : Int) < (ne : Int) := by omega
              have jW : IntKind.i64.wrap ((jx : Int) + 1) = (jx : Int) + 1 := by rw [IntKind.wrap_i64]; omega
              obtain ⟨x, hx⟩ : ∃ x, L[jx]? = some x := ⟨_, List.getElem?_eq_getElem (by rw [HNE.out]; exact hj)⟩
              obtain ⟨gx, hqA, xat⟩ := ownE_at (OE.out.below HBv.out) hx
              subst hqA
              have XX := Lib.hid xat
              have AN := Lib.hid (show thereB Lp x.b pn = true from by
                rw [there_all Lp x.b pn (by rw [HPN.out]; exact Nat.le_refl _), PM.out, PIN.out]
                exact List.mem_map_of_mem (List.mem_of_getElem? hx))
              replace PO := Lib.hid (PO.out.below HBv.out)
              clear hx xat hj
              obtain ⟨v0, hv0⟩ : ∃ v, v = wr := ⟨_, rfl⟩
              subst hv0
              have HB0 := Lib.hid (Below.refl v0.heap.size v0)
              go_wp2
              go_loopw [24, 25] (fun tv kv wx => ∃ (k : Nat) (bo : Bool), k ≤ pn ∧ tv = .bool bo ∧ kv = .int .i64 (k : Nat) ∧ Hid (thereB Lp x.b k = bo) ∧ Hid (Below v0.heap.size v0 wx)) (fun _ kv _ => pn - (intOf kv).toNat)
              case atStart => exact ⟨0, false, Nat.zero_le _, rfl, rfl, Lib.hid rfl, HB0⟩
              case round =>
                clear HB0
                obtain ⟨k, bo, hkm, rfl, rfl, HK, HBk⟩ := hrel
                by_cases hk : k < pn
                · have kI : (k : Int) < (pn : Int) := by omega
                  obtain ⟨y, hy⟩ : ∃ y, Lp[k]? = some y := ⟨_, List.getElem?_eq_getElem (by rw [HPN.out]; exact hk)⟩
                  have NXT := Lib.hid (there_next Lp x.b k y hy)
                  cases bo with
                  | true =>
                    have HK2 := Lib.hid (show thereB Lp x.b (k + 1) = true from by rw [NXT.out, HK.out]; rfl)
                    clear HK NXT hy
                    go_wp2
                    go_quiet (fail)
                    generalize hw4 : World.drewN _ _ = w4
                    have hb4 := Lib.hid (show Below v0.heap.size v0 w4 from by rw [← hw4]; exact below_drewN HBk.out _)
                    clear hw4
                    go_wp2
                    go_round
                    case rel => exact ⟨k + 1, true, by omega, rfl, by go_num, HK2, hb4⟩
                    case measure => first | (simp [intOf]; done) | (simp [intOf]; omega)
                  | false =>
                    have HY := Lib.hid hy
                    have XW := Lib.hid (XX.out.below HBk.out)
                    obtain ⟨gp, hpA, yat⟩ := ownE_at (PO.out.below HBk.out) hy
                    subst hpA
                    have YY := Lib.hid yat
                    have HK2 := Lib.hid (show thereB Lp x.b (k + 1) = sameE y.b x.b from by rw [NXT.out, HK.out]; rfl)
                    obtain ⟨q, hq⟩ : ∃ q, sameE x.b y.b = q := ⟨_, rfl⟩
                    rw [sameE_comm, hq] at HK2
                    have SM := Lib.hid (fun wd (h1 : Good W.heap.size wd x) (h2 : Good 0 wd y) => sameG x y wd h1 h2)
                    simp only [hq] at SM
                    clear hy yat HK NXT hq
                    go_wp2
                    obtain ⟨wd, hwd⟩ : ∃ z, wr.drew = z := ⟨_, rfl⟩
                    have hbd : Below wr.heap.size wr wd := by rw [← hwd]; exact (Below.refl _ _).drew
                    have X1 := Lib.hid (XW.out.below hbd)
                    have X2 := Lib.hid (YY.out.below hbd)
                    have HBd := Lib.hid hbd
                    have S0 : (fun w' : World => w'.cell? ⟨gx, jx * 3, none⟩ = some (.int .i64 x.ts) ∧ w'.cell? ⟨gx, jx * 3 + 1, none⟩ = some (.slice x.A x.n x.c) ∧ w'.cell? ⟨gx, jx * 3 + 2, none⟩ = some (.string x.ln) ∧ w'.cell? ⟨gp, k * 3, none⟩ = some (.int .i64 y.ts) ∧ w'.cell? ⟨gp, k * 3 + 1, none⟩ = some (.slice y.A y.n y.c) ∧ w'.cell? ⟨gp, k * 3 + 2, none⟩ = some (.string y.ln) ∧ True) wr.drew := by rw [hwd]; exact ⟨X1.out.c0, X1.out.c1, X1.out.c2, X2.out.c0, X2.out.c1, X2.out.c2, trivial⟩
                    clear hbd
                    refine wp_region_held_drew (S := (fun w' : World => w'.cell? ⟨gx, jx * 3, none⟩ = some (.int .i64 x.ts) ∧ w'.cell? ⟨gx, jx * 3 + 1, none⟩ = some (.slice x.A x.n x.c) ∧ w'.cell? ⟨gx, jx * 3 + 2, none⟩ = some (.string x.ln) ∧ w'.cell? ⟨gp, k * 3, none⟩ = some (.int .i64 y.ts) ∧ w'.cell? ⟨gp, k * 3 + 1, none⟩ = some (.slice y.A y.n y.c) ∧ w'.cell? ⟨gp, k * 3 + 2, none⟩ = some (.string y.ln) ∧ True)) (by kernel_rfl) S0 (fun hS => ?_)
                    rw [hwd] at hS ⊢
                    clear S0 hwd
                    refine tV 0 ?_; refine tV 1 ?_; refine tV 2 ?_; refine tV 3 ?_; refine tV 4 ?_; refine tH 5 ?_; refine tV 6 ?_; refine tV 7 ?_; refine tV 8 ?_; refine tH 9 ?_
                    refine rdy [10] ?_
                    refine rdC (fun K hK => ?_) AllReadyH.nil
                    go_simp
                    go_at_call 26
                    refine (SM.out wd X1.out.good X2.out.good).mono ?_
                    rintro e wz ⟨rfl, hbz⟩
                    have hSz : (fun w' : World => w'.cell? ⟨gx, jx * 3, none⟩ = some (.int .i64 x.ts) ∧ w'.cell? ⟨gx, jx * 3 + 1, none⟩ = some (.slice x.A x.n x.c) ∧ w'.cell? ⟨gx, jx * 3 + 2, none⟩ = some (.string x.ln) ∧ w'.cell? ⟨gp, k * 3, none⟩ = some (.int .i64 y.ts) ∧ w'.cell? ⟨gp, k * 3 + 1, none⟩ = some (.slice y.A y.n y.c) ∧ w'.cell? ⟨gp, k * 3 + 2, none⟩ = some (.string y.ln) ∧ True) wz := ⟨(X1.out.below hbz).c0, (X1.out.below hbz).c1, (X1.out.below hbz).c2, (X2.out.below hbz).c0, (X2.out.below hbz).c1, (X2.out.below hbz).c2, trivial⟩
                    have HBZ := Lib.hid (hop HBd.out (Nat.le_refl _) hbz)
                    refine hK.out _ _ hSz (fun _ => ?_)
                    clear hK K hS hSz hbz X1 X2 HBd
                    try simp only [Act.put, pz1, pz2, pz3]
                    refine tV 11 ?_; refine tV 12 ?_
                    refine wpAnyH_done (by kernel_rfl) ?_ _
                    have hbz2 := Lib.hid (hop HBk.out (Nat.le_refl _) HBZ.out)
                    clear HBZ SM
                    go_wp2
                    go_round
                    case rel => exact ⟨k + 1, q, by omega, rfl, by go_num, HK2, hbz2⟩
                    case measure => first | (simp [intOf]; done) | (simp [intOf]; omega)
                · have kI : ¬ (k : Int) < (pn : Int) := by omega
                  obtain rfl : pn = k := by omega
                  obtain rfl : bo = true := HK.out.symm.trans AN.out
                  have HBO := Lib.hid (hop HBv.out (Nat.le_refl _) HBk.out)
                  clear HK AN HBk
                  go_wp2
                  go_round
                  case rel => exact ⟨jx + 1, by omega, by go_num, HBO⟩
                  case measure => first | (simp [intOf]; done) | (simp [intOf]; omega)
            · have jI : ¬ (jx : Int) < (ne : Int) := by omega
              have HEND := Lib.hid (hop HB.out (Nat.le_refl _) HBv.out)
              have pq : (pn : Int) ≤ (ne : Int) := by omega
              clear PM PIN PLN HP
              go_wp2
              go_ret
              exact ⟨rfl, HEND.out⟩
end Go.Proofs.YtdaainifkldcpaaGreatDoor
