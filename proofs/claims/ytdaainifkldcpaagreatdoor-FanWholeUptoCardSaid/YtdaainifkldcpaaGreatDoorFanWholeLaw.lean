-- shaken
import Derived.Test.YtdaainifkldcpaaGreatDoorFanWholeBase
import Derived.Deep.LoopGhost
import Derived.Deep.DeepCutAuto
import Derived.Deep.CutBlock
import Derived.Outline
namespace Go.Proofs.YtdaainifkldcpaaGreatDoor
open Go.RowKit
set_option linter.unusedVariables false
set_option linter.unusedSimpArgs false
set_option maxRecDepth 100000 in
set_option maxHeartbeats 6400000 in
theorem fanWhole_walk {W : World} (A : Option Addr) (n c : Nat) (l : List BackX) (lm : Int) (asc : Bool) (fr : Int) (lo_ : Int) (h1 : RowR BackX.V 2 W A n l ∧ ∀ x ∈ l, GoodB W.heap.size W x) (hk : ∀ x ∈ l, backK x ≤ 1048576) (hnc : n ≤ c) (hcm : c ≤ maxLen) (wlm : (Lit.int .u8 lm).wf = true) (wfr : (Lit.int .i8 fr).wf = true) (wlo : (Lit.int .u8 lo_).wf = true) (hl : True) :
    Calls Tryz.prog 4 #[.slice A n c, .int .u8 lm, .bool asc, .int .i8 fr, .int .u8 lo_] W fun e w' => e = .returned (.bool true) ∧ Below W.heap.size W w' := by
  unfold maxLen at hcm
  have hn : n ≤ 9223372036854775807 := by omega
  have bl := bdu8 wlm
  have bo := bdu8 wlo
  have hfr : -128 ≤ fr ∧ fr ≤ 127 := by simpa [Lit.wf, IntKind.min, IntKind.max, IntKind.signed, IntKind.bits] using wfr
  obtain ⟨l5, hl5⟩ : ∃ z, lm.tmod 5 = z := ⟨_, rfl⟩
  have bl5 : 0 ≤ l5 ∧ l5 ≤ 4 := by rw [← hl5, Int.tmod_eq_emod_of_nonneg bl.1]; omega
  have hl5a : IntKind.u8.wrap l5 = l5 := by rw [IntKind.wrap_u8]; omega
  have hl5b : IntKind.i64.wrap l5 = l5 := by rw [IntKind.wrap_i64]; omega
  obtain ⟨o30, ho30⟩ : ∃ z, lo_.tmod 30 = z := ⟨_, rfl⟩
  have bo30 : 0 ≤ o30 ∧ o30 ≤ 29 := by rw [← ho30, Int.tmod_eq_emod_of_nonneg bo.1]; omega
  have ho30a : IntKind.u8.wrap o30 = o30 := by rw [IntKind.wrap_u8]; omega
  have ho30b : IntKind.i64.wrap o30 = o30 := by rw [IntKind.wrap_i64]; omega
  obtain ⟨z, hz⟩ : ∃ z, fr.tmod 14 = z := ⟨_, rfl⟩
  have hzb : -13 ≤ z ∧ z ≤ 13 := by
    rw [← hz]
    rcases Int.le_total 0 fr with h | h
    · rw [Int.tmod_eq_emod_of_nonneg h]; omega
    · have e : fr.tmod 14 = -((-fr) % 14) := by
        rw [← Int.tmod_eq_emod_of_nonneg (by omega), Int.neg_tmod, Int.neg_neg]
      rw [e]; omega
  have hz1 : IntKind.i8.wrap z = z := by rw [wrap_i8']; omega
  have hz2 : IntKind.i64.wrap z = z := by rw [IntKind.wrap_i64]; omega
  obtain ⟨lim, hlim⟩ : ∃ m, 1 + l5 = m := ⟨_, rfl⟩
  have blim : 1 ≤ lim ∧ lim ≤ 5 := by omega
  have hlimw : IntKind.i64.wrap lim = lim := by rw [IntKind.wrap_i64]; omega
  have hzp : IntKind.i64.wrap (z + 1) = z + 1 := by rw [IntKind.wrap_i64]; omega
  obtain ⟨hi, hhi⟩ : ∃ m, z + 1 + o30 = m := ⟨_, rfl⟩
  have bhi : z < hi ∧ hi ≤ 100 := by omega
  have hhiw : IntKind.i64.wrap hi = hi := by rw [IntKind.wrap_i64]; omega
  have H1 := Lib.hid h1.1
  have HG := Lib.hid h1.2
  have HK := Lib.hid hk
  have LN := Lib.hid h1.1.1
  obtain ⟨i0, hinf, hi0, hi1, hi2⟩ := info_parts infoEntS
  obtain ⟨i1, hinp, hp0, hp1, hp2⟩ := info_parts infoPtrD
  obtain ⟨iI, hinI, hI0, hI1, hI2⟩ := info_parts infoItemW
  clear h1 hk wlm wlo wfr hl hnc hcm bl bo hfr
  go_enter Tryz.func4, Tryz.ntmps4
  go_wp2_with fail
  refine (examples20_any W).mono ?_
  rintro e w1 ⟨rfl, hb⟩
  have HB := Lib.hid hb
  clear hb
  go_upto_block 0 with fail
  go_cut [12, 13] (fun av ov wx => ∃ (Rs : List ReplX) (LA : List EntX), Rs.length ≤ 4 ∧ LA.length ≤ 32 ∧ Hid (OwnR ptrV 1 wx W.heap.size 86 ov (Rs.map ReplX.b)) ∧ Hid (RepsP 0 wx Rs) ∧ Hid (∀ x ∈ Rs, WholeX W.heap.size x) ∧ Hid (OwnE W.heap.size wx W.heap.size av LA) ∧ Hid (∀ e, e ∈ LA.map EntX.b ↔ ∃ x ∈ Rs, e ∈ x.L.map EntX.b) ∧ Hid (∀ x ∈ Rs, ∀ g, av.ownBlock = some g → x.lv.ownBlock ≠ some g) ∧ Hid (Below W.heap.size W wx))
  case first =>
    have OR0 := Lib.hid (OwnR.nil (V := ptrV) (s := 1) w1 W.heap.size 86)
    have RS0 := Lib.hid (show RepsP 0 w1 [] from ⟨(fun x hx => by cases hx), List.Pairwise.nil⟩)
    have DF0 := Lib.hid (show ∀ x ∈ ([] : List ReplX), WholeX W.heap.size x from fun x hx => by cases hx)
    have OE0 := Lib.hid (OwnE.nil W.heap.size w1 W.heap.size)
    have MM0 := Lib.hid (show ∀ e, e ∈ ([] : List EntX).map EntX.b ↔ ∃ x ∈ ([] : List ReplX), e ∈ x.L.map EntX.b from fun e => ⟨(fun h => by cases h), fun ⟨x, hx, _⟩ => by cases hx⟩)
    have AP0 := Lib.hid (show ∀ x ∈ ([] : List ReplX), ∀ g, (Value.slice none 0 0).ownBlock = some g → x.lv.ownBlock ≠ some g from fun x hx => by cases hx)
    go_wp2_with fail
    go_loopw [12, 13, 14] (fun av ov iv wr => ∃ (j : Nat) (Rs : List ReplX) (LA : List EntX), j ≤ n ∧ j ≤ 4 ∧ iv = .int .i64 (j : Nat) ∧ Rs.length = j ∧ LA.length ≤ 8 * j ∧ Hid (OwnR ptrV 1 wr W.heap.size 86 ov (Rs.map ReplX.b)) ∧ Hid (RepsP 0 wr Rs) ∧ Hid (∀ x ∈ Rs, WholeX W.heap.size x) ∧ Hid (OwnE W.heap.size wr W.heap.size av LA) ∧ Hid (∀ e, e ∈ LA.map EntX.b ↔ ∃ x ∈ Rs, e ∈ x.L.map EntX.b) ∧ Hid (∀ x ∈ Rs, ∀ g, av.ownBlock = some g → x.lv.ownBlock ≠ some g) ∧ Hid (Below W.heap.size W wr)) (fun _ _ iv _ => 4 - (intOf iv).toNat)
    case atStart => exact ⟨0, [], [], Nat.zero_le _, Nat.zero_le _, rfl, rfl, Nat.le_refl _, OR0, RS0, DF0, OE0, MM0, AP0, HB⟩
    case round =>
      clear OR0 RS0 DF0 OE0 MM0 AP0 HB
      obtain ⟨j, Rs, LA, hjn, hj4, rfl, hln, hla, OR, RSS, DF, OE, MEM, AP, HB⟩ := hrel
      have HLN := Lib.hid hln
      obtain ⟨aA, ac_, hav⟩ := OwnR.shape OE.out.1
      obtain ⟨nl, hnl⟩ : ∃ q, LA.length = q := ⟨_, rfl⟩
      rw [hnl] at hav
      subst hav
      have HNL := Lib.hid hnl
      clear hnl
      by_cases hj : j < n ∧ j < 4
      · as_aux_lemma =>
        obtain ⟨q1, q2⟩ := hj
        have jI : (j : Int) < (n : Int) := by omega
        have jT : (j : Int) < 4 := by omega
        clear hln
        obtain ⟨v, hv⟩ : ∃ v, v = wr := ⟨_, rfl⟩
        subst hv
        have hvs := HB.out.size
        have HWV := Lib.hid hvs
        obtain ⟨bx, hbx⟩ : ∃ x, l[j]? = some x := ⟨_, List.getElem?_eq_getElem (by rw [LN.out]; exact q1)⟩
        have G0 := HG.out bx (List.mem_of_getElem? hbx)
        have K0 := HK.out bx (List.mem_of_getElem? hbx)
        have hbl := back_len bx
        obtain ⟨b1, o1, hA, hlt, hcc⟩ := (H1.out.below HB.out).2 (by omega)
        subst hA
        have r0_ : v.cell? ⟨b1, o1 + j * 2, none⟩ = some (.slice bx.A bx.n bx.c) := (hcc j 0 _ hbx (by decide)).trans rfl
        have r1_ : v.cell? ⟨b1, o1 + j * 2 + 1, none⟩ = some (.slice bx.B bx.m bx.d) := (hcc j 1 _ hbx (by decide)).trans rfl
        obtain ⟨A1, n1, c1, l1, B1, m1, d1, S1⟩ := bx
        obtain ⟨g1_, g2_, g3_, g4_, g5_, g6_, g7_⟩ := G0
        dsimp only at r0_ r1_ g1_ g2_ g3_ g4_ g5_ g6_ g7_ hbl
        have hl1 : l1.length = n1 := g1_.1.1
        have hn1 : n1 ≤ 1048576 := by omega
        have hx0 : Below v.heap.size v (v.alloc (.cells #[.slice A1 n1 c1, .slice B1 m1 d1] 81)) := (Below.refl _ _).alloc (Nat.le_refl _) _
        obtain ⟨gb, hgb⟩ : ∃ g, v.heap.size = g := ⟨_, rfl⟩
        obtain ⟨w2, hw2⟩ : ∃ z, v.alloc (.cells #[.slice A1 n1 c1, .slice B1 m1 d1] 81) = z := ⟨_, rfl⟩
        have KB := Lib.hid (show Blk w2 gb 81 #[.slice A1 n1 c1, .slice B1 m1 d1] from by rw [← hw2, ← hgb]; exact Blk.new _ _ _)
        rw [hw2] at hx0
        have HX := Lib.hid hx0
        have HGB := Lib.hid hgb
        have I1 := Lib.hid g1_
        have R1 := Lib.hid g4_
        have N1 := Lib.hid g5_
        have HL1 := Lib.hid hl1
        have HI2 := Lib.hid ((g1_.below HB.out).below hx0).1
        have b0_ : w2.cell? ⟨gb, 0, none⟩ = some (.slice A1 n1 c1) := (KB.out.cell 0).trans rfl
        have hgw := hx0.size
        have G6 := Lib.hid g6_
        have G7 := Lib.hid g7_
        clear hcc hbx hx0 g1_ g2_ g3_ g4_ g5_ g6_ g7_ K0 hbl hl1
        go_wp2_with (at_builtin; refine wpList_append_rowR rfl (.const (.slice none 0 0)) (.tmp 53) 78 rfl v.heap.size 53 iI (.agg #[.int .i64 0, .slice none 0 0, .string ⟨#[]⟩, .bool false, .int .i8 0, .slice none 0 0, .int .u8 0]) 7 88 Tryz.underlying78 hinI hI0 hI1 hI2 rfl (by decide) itemV_len A1 n1 c1 l1 rfl rfl HI2.out (itemV_many _) (by unfold maxLen; omega) (by omega) hgw ?_)
        intro t1 w3 hown hgrow
        have b0f := KB.out.frozen 0
        have hb3 : Below w2.heap.size w2 w3 := (Below.refl _ _).grown hgrow (Nat.le_refl _) (fun r hr => by cases hr)
        replace KB := Lib.hid (KB.out.below hb3 KB.out.lt)
        replace HX := Lib.hid (hop HX.out (Nat.le_refl _) hb3)
        obtain ⟨iA, ic, hte⟩ := OwnR.shape hown
        rw [HL1.out] at hte
        subst hte
        obtain ⟨w4, hw4⟩ : ∃ z, w3.setCell ⟨gb, 0, none⟩ (.slice iA n1 ic) = z := ⟨_, rfl⟩
        have F4 : Se.FG gb w3 w4 := by rw [← hw4]; exact Se.FG.set_ 0 _
        have hgv : v.heap.size ≤ gb := Nat.le_of_eq HGB.out
        have KB4 := Lib.hid (show Blk w4 gb 81 #[.slice iA n1 ic, .slice B1 m1 d1] from by rw [← hw4]; exact KB.out.set_ 0 _)
        have IO4 := Lib.hid (show OwnR ItemX.V 7 w4 v.heap.size 53 (.slice iA n1 ic) (ownTo l1 0) from by
          have h0 : ownTo l1 0 = l1 := rfl
          rw [h0, HGB.out]
          exact OwnR.fgT hown F4 KB.out (by decide))
        have HX4 := Lib.hid (F4.below HX.out hgv HX.out.size)
        have b0c : w3.cell? ⟨gb, 0, none⟩ = some (.slice A1 n1 c1) := (KB.out.cell 0).trans rfl
        have b0g := KB.out.frozen 0
        clear hown hgrow hb3 F4 b0_ b0f HX KB HI2
        go_wp2
        clear hw4 hw2 hgb b0c b0g
        go_loopw [16] (fun kv wx => ∃ k : Nat, k ≤ n1 ∧ kv = .int .i64 (k : Nat) ∧ Hid (OwnR ItemX.V 7 wx v.heap.size 53 (.slice iA n1 ic) (ownTo l1 k)) ∧ Hid (Blk wx gb 81 #[.slice iA n1 ic, .slice B1 m1 d1]) ∧ Hid (Below v.heap.size v wx)) (fun kv _ => n1 - (intOf kv).toNat)
        case atStart => exact ⟨0, Nat.zero_le _, rfl, IO4, KB4, HX4⟩
        case round =>
          clear IO4 KB4 HX4
          obtain ⟨k, hkn, rfl, IO, KB, HX⟩ := hrel
          have b0_ : wr.cell? ⟨gb, 0, none⟩ = some (.slice iA n1 ic) := (KB.out.cell 0).trans rfl
          by_cases hk : k < n1
          · have kI : (k : Int) < (n1 : Int) := by omega
            obtain ⟨x, hx⟩ : ∃ x, l1[k]? = some x := ⟨_, List.getElem?_eq_getElem (by rw [HL1.out]; exact hk)⟩
            have hat := ownTo_at l1 k x hx
            have hnx := ownTo_next l1 k x hx
            obtain ⟨gi, ci, hsv, hvgi, hlti, _, hcc⟩ := OwnR.at_ itemV_len IO.out (by rw [ownTo_len, HL1.out]; omega)
            injection hsv with e1 e2 e3
            subst e1 e3
            obtain ⟨_, cur, hcur⟩ := own_row_type IO.out gi rfl
            have BK : Blk wr gi 53 cur := hcur
            have m0_ : wr.cell? ⟨gi, k * 7 + 3, none⟩ = some (.bool x.own) := (hcc k 3 x hat (by decide)).trans rfl
            have f0_ := BK.frozen (k * 7 + 3)
            obtain ⟨w5, hw5⟩ : ∃ z, wr.setCell ⟨gi, k * 7 + 3, none⟩ (.bool true) = z := ⟨_, rfl⟩
            have F5 : Se.FG gi wr w5 := by rw [← hw5]; exact Se.FG.set_ _ _
            have IO5 := Lib.hid (show OwnR ItemX.V 7 w5 v.heap.size 53 (.slice (some ⟨gi, 0, none⟩) n1 ic) (ownTo l1 (k + 1)) from by
              rw [← hnx, ← hw5]
              exact own_setV itemV_len IO.out k 3 x (ownI x) (.bool true) hat (by decide) rfl)
            have KB5 := Lib.hid (KB.out.fg F5 (blk_apart KB.out BK (by decide)))
            have HX5 := Lib.hid (F5.below HX.out hvgi HX.out.size)
            clear hx hat hnx hcc hcur BK IO KB HX e2 hlti F5
            go_wp2
            go_round
            case rel => exact ⟨k + 1, by omega, by go_num, IO5, KB5, HX5⟩
            case measure => first | (simp [intOf]; done) | (simp [intOf]; omega)
          · have kI : ¬ (k : Int) < (n1 : Int) := by omega
            have kn : k = n1 := by omega
            have b1_ : wr.cell? ⟨gb, 1, none⟩ = some (.slice B1 m1 d1) := (KB.out.cell 1).trans rfl
            have hrow := IO.out
            rw [kn, ← HL1.out, ownTo_all, HL1.out] at hrow
            obtain ⟨A2, c2, e, _, _, hrw⟩ := OwnR.open itemV_len hrow
            rw [List.length_map, HL1.out] at e hrw
            injection e with e _ e3
            subst e e3
            have hbw : Below W.heap.size W wr := HB.out.trans (HX.out.mono HWV.out)
            have BK2 := Lib.hid (backend_any W.heap.size ⟨iA, n1, ic, l1.map ownI, B1, m1, d1, S1⟩ wr hbw.size ⟨⟨hrw, fun y hy => by
              obtain ⟨z, hz, rfl⟩ := List.mem_map.1 hy
              exact ownI_good ((I1.out.2 z hz).below hbw)⟩, (OwnR.cap hrow).1, (OwnR.cap hrow).2, R1.out.below hbw, N1.out, G6.out, G7.out⟩)
            replace BK2 := Lib.hid (show Calls Tryz.prog 22 #[.agg #[.slice iA n1 ic, .slice B1 m1 d1]] wr fun e w' => ∃ v L rv, e = .returned (.tuple #[v, rv]) ∧ OwnE W.heap.size w' wr.heap.size v L ∧ L.map EntX.b = itemsB (l1.map ownI) 8 ∧ OwnR RepB.V 2 w' wr.heap.size 85 rv (repsF S1 10) ∧ Below wr.heap.size wr w' from BK2.out)
            clear hrow hrw hbw IO hk
            go_wp2_with fail
            refine BK2.out.mono ?_
            rintro e w6 ⟨v_, L, rv_, rfl, ho, hlb, hso, hb⟩
            obtain ⟨EA, ec, hve⟩ := OwnR.shape ho.1
            subst hve
            have hL8 : L.length ≤ 8 := by
              have h1 := congrArg List.length hlb
              rw [List.length_map] at h1
              rw [h1]
              exact itemsB_len _ _
            have AR := Lib.hid (show ∀ e ∈ L.map EntX.b, rightE e = true from fun e he => by
              rw [hlb] at he
              obtain ⟨y, hy, rfl⟩ := List.mem_map.1 he
              obtain ⟨z, hz, rfl⟩ := List.mem_map.1 (List.mem_of_mem_take hy)
              exact own_right (I1.out.2 z hz))
            obtain ⟨ne, he⟩ : ∃ q, L.length = q := ⟨_, rfl⟩
            have hvw := HX.out.size
            have OEL := Lib.hid (OwnE.mono ho (Nat.le_refl _) hvw)
            have SO0 := Lib.hid (show OwnR RepB.V 2 w6 v.heap.size 85 rv_ (clearL (repsF S1 10) 0) from by
              have e0 : clearL (repsF S1 10) 0 = repsF S1 10 := rfl
              rw [e0]
              exact OwnR.mono hso hvw)
            obtain ⟨SA, sc, hsv⟩ := OwnR.shape hso
            obtain ⟨k0, hk0⟩ : ∃ Q, repsF S1 10 = Q := ⟨_, rfl⟩
            have RS := Lib.hid (show ∀ r ∈ k0, r.most ≤ 9223372036854775807 from fun r hr => by
              rw [← hk0] at hr
              obtain ⟨r0, hr0, rfl⟩ := List.mem_map.1 hr
              have := tmod5b r0.most (N1.out r0 (List.mem_of_mem_take hr0))
              show r0.most.tmod 5 ≤ _
              omega)
            have hns10 : k0.length ≤ 10 := by rw [← hk0]; exact repsF_len S1 10
            rw [hk0] at SO0 hsv
            obtain ⟨ns, hns⟩ : ∃ q, k0.length = q := ⟨_, rfl⟩
            rw [hns] at hsv hns10
            subst hsv
            have HNS := Lib.hid hns
            have HNE := Lib.hid he
            rw [he] at OEL hL8 ⊢
            replace HX := Lib.hid (hop HX.out (Nat.le_refl _) hb)
            clear ho hlb hso hb hk0 hns he hvw BK2 KB b0_ b1_ I1 R1 N1 HL1
            go_wp2
            go_loopw [19] (fun iv wx => ∃ k : Nat, k ≤ ns ∧ iv = .int .i64 (k : Nat) ∧ Hid (OwnR RepB.V 2 wx v.heap.size 85 (.slice SA ns sc) (clearL k0 k)) ∧ Hid (OwnE W.heap.size wx v.heap.size (.slice EA ne ec) L) ∧ Hid (Below v.heap.size v wx)) (fun iv _ => ns - (intOf iv).toNat)
            case atStart => exact ⟨0, Nat.zero_le _, rfl, SO0, OEL, HX⟩
            case round =>
              clear SO0 OEL HX
              obtain ⟨k, hkn, rfl, SO, OEL, HX⟩ := hrel
              by_cases hk : k < ns
              · have kI : (k : Int) < (ns : Int) := by omega
                obtain ⟨r, hr⟩ : ∃ r, k0[k]? = some r := ⟨_, List.getElem?_eq_getElem (by rw [HNS.out]; exact hk)⟩
                have hat := clearL_at k0 k r hr
                have hnx := clearL_next k0 k r hr
                obtain ⟨gs, cs, hsv, hvgs, hlt, _, hcc⟩ := OwnR.at_ repV_len SO.out (by rw [clearL_len k0 k (by rw [HNS.out]; omega), HNS.out]; omega)
                injection hsv with e1 e2 e3
                subst e1 e3
                obtain ⟨_, cur, hcur⟩ := own_row_type SO.out gs rfl
                have BK : Blk wr gs 85 cur := hcur
                have m0_ : wr.cell? ⟨gs, k * 2, none⟩ = some (.bool r.fail) := (hcc k 0 r hat (by decide)).trans rfl
                have f0_ := BK.frozen (k * 2)
                have SO2 := Lib.hid (show OwnR RepB.V 2 (wr.setCell ⟨gs, k * 2, none⟩ (.bool false)) v.heap.size 85 (.slice (some ⟨gs, 0, none⟩) ns sc) (clearL k0 (k + 1)) from by
                  rw [← hnx]
                  exact own_setV repV_len SO.out k 0 r ⟨false, r.most⟩ (.bool false) hat (by decide) rfl)
                have OE2 := Lib.hid (OEL.out.fgT (Se.FG.set_ (b := gs) (k * 2) (.bool false)) (Nat.le_trans HWV.out hvgs) BK (by decide) (by decide))
                have HX2 := Lib.hid ((Se.FG.set_ (b := gs) (w := wr) (k * 2) (.bool false)).below HX.out hvgs HX.out.size)
                clear hr hat hnx hcc hcur BK SO OEL HX e2 hlt
                go_wp2
                go_round
                case rel => exact ⟨k + 1, by omega, by go_num, SO2, OE2, HX2⟩
                case measure => first | (simp [intOf]; done) | (simp [intOf]; omega)
              · have kI : ¬ (k : Int) < (ns : Int) := by omega
                have kn : k = ns := by omega
                subst kn
                have hRR : clearL k0 k = k0.map (fun r => (⟨false, r.most⟩ : RepB)) := by rw [← HNS.out]; exact clearL_all k0
                obtain ⟨k5, hk5⟩ : ∃ Q, k0.map (fun r => (⟨false, r.most⟩ : RepB)) = Q := ⟨_, rfl⟩
                have CR := Lib.hid (fun i => clear_reply k0 i RS.out)
                rw [hk5] at hRR CR
                have LRR : k5.length = k := by rw [← hk5, List.length_map]; exact HNS.out
                rw [hRR] at SO
                obtain ⟨A2, c2, e, _, _, hrow⟩ := OwnR.open repV_len SO.out
                rw [LRR] at e hrow
                injection e with e _ e3
                subst e e3
                have NW := Lib.hid (new_any W.heap.size EA ne ec L SA k sc k5 (by omega) (by omega) wr (ents_of OEL.out).2.1 hrow)
                have hvw := HX.out.size
                clear hrow hRR hk5 SO RS HNS hk
                go_wp2_with fail
                refine NW.out.mono ?_
                rintro e w3 ⟨b, R, rv, lv, rfl, hr, hbl, hp, hsd, hb⟩
                have hnew : newE (L.map EntX.b) = L.map EntX.b := List.filter_eq_self.2 AR.out
                rw [hnew] at hp
                have LRI := Lib.hid (show ∀ x ∈ R, rightE x.b = true from fun x hx => AR.out _ (hp.mem_iff.1 (List.mem_map_of_mem hx)))
                have hr8 : R.length ≤ 8 := by
                  have h1 := hp.length_eq
                  rw [List.length_map, List.length_map, HNE.out] at h1
                  omega
                have DX := Lib.hid (show WholeX W.heap.size ⟨b, k5, 0, R, rv, lv⟩ from ⟨rfl, CR.out, (by show k5.length ≤ 10; omega), hr8, LRI.out, List.pairwise_map.2 hsd, by show W.heap.size ≤ b; have h1 := HWV.out; omega⟩)
                have RP := Lib.hid (hr.mono (Nat.zero_le _))
                have PMM := Lib.hid hp
                have LVN := Lib.hid (show ∀ g, lv.ownBlock = some g → wr.heap.size ≤ g from fun g hg => (World.ownsRow.lt hr.ent.1 g hg).1)
                have hvb : v.heap.size ≤ b := by omega
                replace OEL := Lib.hid (OEL.out.below hb)
                replace HX := Lib.hid (hop HX.out (Nat.le_refl _) hb)
                clear hr hbl hp hsd hb NW hnew AR CR LRI
                have OR3 := Lib.hid (OwnR.below OR.out HX.out)
                have RS3 := Lib.hid (RSS.out.below HX.out)
                have OE3 := Lib.hid (OE.out.below HX.out)
                have HB3 := Lib.hid (hop HB.out (Nat.le_refl _) HX.out)
                have BIG := Lib.hid (show ∀ x ∈ Rs, x.b < b from fun x hx => Nat.lt_of_lt_of_le (RSS.out.all x hx).blk.lt hvb)
                have AVB := Lib.hid (show ∀ g, (Value.slice aA nl ac_).ownBlock = some g → g < v.heap.size from fun g hg => (World.ownsRow.lt OE.out.1 g hg).2)
                have LVB := Lib.hid (show ∀ x ∈ Rs, ∀ g, x.lv.ownBlock = some g → g < v.heap.size from fun x hx g hg => (World.ownsRow.lt (RSS.out.all x hx).ent.1 g hg).2)
                clear OR RSS OE HB HX
                have hbp : Below w3.heap.size w3 (w3.alloc (.cells #[.pointer (some ⟨b, 0, none⟩)] 86)) := (Below.refl _ _).alloc (Nat.le_refl _) _
                have ORA := Lib.hid (OwnR.below OR3.out hbp)
                have RSA := Lib.hid (RS3.out.below hbp)
                have RPA := Lib.hid (RP.out.below hbp)
                have OEA := Lib.hid (OE3.out.below hbp)
                have OLA := Lib.hid (OEL.out.below hbp)
                have HBA := Lib.hid (hop HB3.out (Nat.le_refl _) hbp)
                have hsz := HBA.out.size
                have hlm : (Rs.map ReplX.b).length = j := by rw [List.length_map]; exact HLN.out
                obtain ⟨ovA, ovc, hov⟩ := OwnR.shape OR3.out
                rw [hlm] at hov
                subst hov
                have ORL := Lib.hid (show (w3.alloc (.cells #[.pointer (some ⟨b, 0, none⟩)] 86)).ownsRow W.heap.size 86 1 (.slice ovA j ovc) j (rowV ptrV (Rs.map ReplX.b)) from by have h := ORA.out; unfold OwnR at h; rw [hlm] at h; exact h)
                have HLM := Lib.hid hlm
                clear hlm OR3 RS3 RP OE3 HB3 OEL
                go_wp2_with (at_builtin; refine wpList_append_lies _ rfl (.tmp 83) (.tmp 87) 77 rfl W.heap.size 86 i1 (.pointer none) 1 8 Tryz.underlying77 hinp hp0 hp1 hp2 rfl (by decide) _ _ _ rfl ORL.out ⟨w3.heap.size, 0, none⟩ 1 1 (ptrV b) rfl rfl (World.news_of_block (Blk.new _ _ _)) (fun u hu => by rw [List.mem_singleton.1 hu]; rfl) (by decide) (by unfold maxLen; omega) (by omega) hsz _ rfl ?_)
                intro g2 cap2 w4 hown hgrow hg' hlt2
                have hol := own_row_type ORL.out
                have OR4 := Lib.hid (show OwnR ptrV 1 w4 W.heap.size 86 (.slice (some ⟨g2, 0, none⟩) (j + 1) cap2) ((Rs ++ [(⟨b, k5, 0, R, rv, lv⟩ : ReplX)]).map ReplX.b) from by
                  rw [List.map_append]
                  refine OwnR.snoc ?_
                  rw [HLM.out]
                  exact hown)
                have RS4 := Lib.hid (show RepsP 0 w4 (Rs ++ [(⟨b, k5, 0, R, rv, lv⟩ : ReplX)]) from by
                  refine ⟨fun x hx => ?_, ?_⟩
                  · rcases List.mem_append.1 hx with hx | hx
                    · exact RepP.grewP (RSA.out.all x hx) hgrow (fun g e => (hol g e).2)
                    · rw [List.mem_singleton.1 hx]
                      exact RepP.grewP RPA.out hgrow (fun g e => (hol g e).2)
                  · rw [List.map_append]
                    refine List.pairwise_append.2 ⟨RSA.out.apart, List.pairwise_singleton _ _, fun x hx y hy => ?_⟩
                    obtain ⟨z, hz, rfl⟩ := List.mem_map.1 hx
                    rw [List.mem_singleton.1 hy]
                    exact Nat.ne_of_lt (BIG.out z hz))
                have KE := Lib.hid (show ∀ (u : Value) (M : List EntX) (B : Nat), OwnE W.heap.size (w3.alloc (.cells #[.pointer (some ⟨b, 0, none⟩)] 86)) B u M → OwnE W.heap.size w4 B u M from fun u M B h => ⟨OwnR.grew2 h.1 hgrow (fun g e1 e2 => by
                  obtain ⟨_, cur, h2⟩ := hol g e2
                  obtain ⟨_, cur2, h4⟩ := own_row_type h.1 g e1
                  exact cells_ne h2 h4 (by decide)), fun x hx => (h.2 x hx).grown hgrow (fun g e => ⟨(hol g e).1, by obtain ⟨_, cur, h2⟩ := hol g e; exact ⟨cur, _, (by decide), h2⟩⟩)⟩)
                have OE4 := Lib.hid (KE.out _ _ _ OEA.out)
                have OL4 := Lib.hid (KE.out _ _ _ OLA.out)
                have HB4 := Lib.hid (HBA.out.grown hgrow hsz (fun r hr => (hol r hr).1))
                have DF4 := Lib.hid (show ∀ x ∈ Rs ++ [(⟨b, k5, 0, R, rv, lv⟩ : ReplX)], WholeX W.heap.size x from fun x hx => by
                  rcases List.mem_append.1 hx with hx | hx
                  · exact DF.out x hx
                  · rw [List.mem_singleton.1 hx]; exact DX.out)
                have LN4 := Lib.hid (show (Rs ++ [(⟨b, k5, 0, R, rv, lv⟩ : ReplX)]).length = j + 1 from by rw [List.length_append, HLN.out]; rfl)
                have LV4 := Lib.hid (show ∀ x ∈ Rs ++ [(⟨b, k5, 0, R, rv, lv⟩ : ReplX)], ∀ g, (Value.slice aA nl ac_).ownBlock = some g → x.lv.ownBlock ≠ some g from fun x hx g hg e => by
                  rcases List.mem_append.1 hx with hx | hx
                  · exact AP.out x hx g hg e
                  · rw [List.mem_singleton.1 hx] at e
                    have h1 := LVN.out g e
                    have h2 := AVB.out g hg
                    omega)
                clear hown hgrow hg' hlt2 hol ORL ORA RSA RPA OEA OLA HBA hsz hbp DX BIG HLM KE LVN AVB LVB AP DF
                have hs4 := HB4.out.size
                go_wp2_with (at_builtin; refine wpList_append_rows rfl (.tmp 89) (.tmp 90) 64 rfl W.heap.size 47 i0 (.agg #[.int .i64 0, .slice none 0 0, .string ⟨#[]⟩]) 3 48 Tryz.underlying64 hinf hi0 hi1 hi2 rfl (by decide) _ _ _ rfl OE4.out.1 _ _ _ _ rfl OL4.out.1 (entV_many _) (by have := HNE.out; unfold maxLen; omega) (by have := HNE.out; omega) hs4 ?_)
                intro t7 w7 hown hgrow hvb7
                have hol := own_row_type OE4.out.1
                have OE7 := Lib.hid (show OwnE W.heap.size w7 W.heap.size t7 (LA ++ L) from ⟨OwnR.snocs (by first | exact hown | (rw [HNE.out]; exact hown)), fun y hy => by
                  rcases List.mem_append.1 hy with hy | hy
                  · exact (OE4.out.2 y hy).kept OE4.out.1 (Nat.le_refl _) hgrow
                  · exact (OL4.out.2 y hy).kept OE4.out.1 (Nat.le_refl _) hgrow⟩)
                have OR7 := Lib.hid (OwnR.grew2 OR4.out hgrow (fun g e1 e2 => by
                  obtain ⟨_, cur, h2⟩ := hol g e2
                  obtain ⟨_, cur2, h4⟩ := own_row_type OR4.out g e1
                  exact cells_ne h2 h4 (by decide)))
                have RS7 := Lib.hid (show RepsP 0 w7 (Rs ++ [(⟨b, k5, 0, R, rv, lv⟩ : ReplX)]) from ⟨fun x hx => RepP.grewE (RS4.out.all x hx) hgrow (fun g e => ⟨LV4.out x hx g e, (hol g e).2⟩), RS4.out.apart⟩)
                have HB7 := Lib.hid (HB4.out.grown hgrow hs4 (fun r hr => (hol r hr).1))
                have AP7 := Lib.hid (show ∀ x ∈ Rs ++ [(⟨b, k5, 0, R, rv, lv⟩ : ReplX)], ∀ g, t7.ownBlock = some g → x.lv.ownBlock ≠ some g from fun x hx g hg e => by
                  rcases hvb7 with h1 | h1
                  · rw [h1] at hg
                    exact LV4.out x hx g hg e
                  · rw [h1] at hg
                    obtain rfl := Option.some.inj hg
                    have := (World.ownsRow.lt (RS4.out.all x hx).ent.1 _ e).2
                    omega)
                have MM7 := Lib.hid (show ∀ e, e ∈ (LA ++ L).map EntX.b ↔ ∃ x ∈ Rs ++ [(⟨b, k5, 0, R, rv, lv⟩ : ReplX)], e ∈ x.L.map EntX.b from fun e => by
                  rw [List.map_append, List.mem_append, MEM.out]
                  constructor
                  · rintro (⟨x, hx, h⟩ | h)
                    · exact ⟨x, List.mem_append_left _ hx, h⟩
                    · exact ⟨_, List.mem_append_right _ (List.mem_singleton.2 rfl), PMM.out.mem_iff.2 h⟩
                  · rintro ⟨x, hx, h⟩
                    rcases List.mem_append.1 hx with hx | hx
                    · exact .inl ⟨x, hx, h⟩
                    · rw [List.mem_singleton.1 hx] at h
                      exact .inr (PMM.out.mem_iff.1 h))
                have LL7 : (LA ++ L).length ≤ 8 * (j + 1) := by rw [List.length_append, HNE.out]; omega
                clear hown hgrow hvb7 hol OE4 OL4 OR4 RS4 HB4 LV4 PMM MEM hs4
                go_wp2
                go_round
                case rel => exact ⟨j + 1, Rs ++ [(⟨b, k5, 0, R, rv, lv⟩ : ReplX)], LA ++ L, by omega, by omega, by go_num, LN4.out, LL7, OR7, RS7, DF4, OE7, MM7, AP7, HB7⟩
                case measure => first | (simp [intOf]; done) | (simp [intOf]; omega)
      · have hends : (¬ (j : Int) < (n : Int)) ∨ ((j : Int) < (n : Int) ∧ ¬ (j : Int) < 4) := by omega
        rcases hends with e1 | ⟨e1, e2⟩
        all_goals
          go_wp2_with fail
          go_meet
          case rel => exact ⟨Rs, LA, by omega, by omega, OR, RSS, DF, OE, MEM, AP, HB⟩
  case rest =>
    obtain ⟨Rs, LA, hR4, hL32, OR, RSS, DF, OE, MEM, AP, HB⟩ := hcut
    clear H1 HG HK LN
    obtain ⟨EA, ec, hve⟩ := OwnR.shape OE.out.1
    subst hve
    obtain ⟨ne, hne⟩ : ∃ k, LA.length = k := ⟨_, rfl⟩
    have HNE := Lib.hid hne
    rw [hne] at hL32 OE AP ⊢
    clear hne
    obtain ⟨oA0, oc0, hov⟩ := OwnR.shape OR.out
    rw [List.length_map] at hov
    subst hov
    obtain ⟨N0, hN0⟩ : ∃ k, Rs.length = k := ⟨_, rfl⟩
    have HLN0 := Lib.hid hN0
    rw [hN0] at hR4 OR ⊢
    clear hN0
    go_upto_if 94 with fail
    go_cut [13] (fun ov wx => ∃ (Rs : List ReplX) (N : Nat), (1 ≤ N ∧ N ≤ 4) ∧ Hid (Rs.length = N) ∧ Hid (OwnR ptrV 1 wx W.heap.size 86 ov (Rs.map ReplX.b)) ∧ Hid (RepsP 0 wx Rs) ∧ Hid (∀ x ∈ Rs, WholeX W.heap.size x) ∧ Hid (OwnE W.heap.size wx W.heap.size (.slice EA ne ec) LA) ∧ Hid (∀ e, e ∈ LA.map EntX.b ↔ ∃ x ∈ Rs, e ∈ x.L.map EntX.b) ∧ Hid (∀ x ∈ Rs, ∀ g, (Value.slice EA ne ec).ownBlock = some g → x.lv.ownBlock ≠ some g) ∧ Hid (Below W.heap.size W wx))
    case first =>
      rcases Nat.eq_zero_or_pos N0 with n0 | n0
      · -- none was given: one that has nothing
        subst n0
        have hRs : Rs = [] := List.eq_nil_of_length_eq_zero HLN0.out
        have hs0 := HB.out.size
        have NW := Lib.hid (new_any 0 none 0 0 [] none 0 0 [] (by decide) (by decide) wc (by exact ⟨RowR.none _, fun x hx => by cases hx⟩) (RowR.none _))
        go_wp2_with fail
        refine NW.out.mono ?_
        rintro e w3 ⟨b, R, rv, lv, rfl, hr, hbl, hp, hsd, hb⟩
        have hR0 : R = [] := by
          have h1 := hp.length_eq
          rw [List.length_map] at h1
          exact List.eq_nil_of_length_eq_zero h1
        subst hR0
        have hbp : Below w3.heap.size w3 (w3.alloc (.cells #[.pointer (some ⟨b, 0, none⟩)] 86)) := (Below.refl _ _).alloc (Nat.le_refl _) _
        have OE3 := Lib.hid ((OE.out.below hb).below hbp)
        have HB3 := Lib.hid (hop (hop HB.out (Nat.le_refl _) hb) (Nat.le_refl _) hbp)
        have RP := Lib.hid ((hr.mono (Nat.zero_le _)).below hbp)
        have LVN := Lib.hid (show ∀ g, lv.ownBlock = some g → wc.heap.size ≤ g from fun g hg => (World.ownsRow.lt hr.ent.1 g hg).1)
        have AVB := Lib.hid (show ∀ g, (Value.slice EA ne ec).ownBlock = some g → g < wc.heap.size from fun g hg => (World.ownsRow.lt OE.out.1 g hg).2)
        have DX := Lib.hid (show WholeX W.heap.size ⟨b, [], 0, [], rv, lv⟩ from ⟨rfl, (fun j => ⟨rfl, by show (0 : Int) ≤ 9223372036854775807; decide⟩), Nat.zero_le _, Nat.zero_le _, (fun y hy => by cases hy), List.Pairwise.nil, by show W.heap.size ≤ b; omega⟩)
        have OP := Lib.hid (show OwnR ptrV 1 (w3.alloc (.cells #[.pointer (some ⟨b, 0, none⟩)] 86)) W.heap.size 86 (.slice (some ⟨w3.heap.size, 0, none⟩) 1 1) [b] from ⟨rfl, .inr ⟨w3.heap.size, 1, _, rfl, by have := hb.size; omega, Blk.new _ _ _, Nat.le_refl _, (by decide), rfl, rfl⟩⟩)
        clear hr hbl hp hsd hb hbp NW
        go_wp2
        go_meet
        case rel => exact ⟨[⟨b, [], 0, [], rv, lv⟩], 1, by decide, Lib.hid rfl, OP, Lib.hid ⟨(fun x hx => by rw [List.mem_singleton.1 hx]; exact RP.out), List.pairwise_singleton _ _⟩, Lib.hid (fun x hx => by rw [List.mem_singleton.1 hx]; exact DX.out), OE3, Lib.hid (fun e => by
          rw [MEM.out, hRs]
          exact ⟨(fun ⟨x, hx, _⟩ => by cases hx), (fun ⟨x, hx, h⟩ => by rw [List.mem_singleton.1 hx] at h; cases h)⟩), Lib.hid (fun x hx g hg e => by
          rw [List.mem_singleton.1 hx] at e
          have h1 := LVN.out g e
          have h2 := AVB.out g hg
          omega), HB3⟩
      · have nI : ¬ (N0 : Int) = 0 := by omega
        have nIb : ((N0 : Int) == 0) = false := beq_eq_false_iff_ne.2 nI
        go_wp2
        go_meet
        case rel => exact ⟨Rs, N0, ⟨n0, hR4⟩, HLN0, OR, RSS, DF, OE, MEM, AP, HB⟩
    case rest =>
      clear OR RSS DF OE MEM AP HB HLN0 hR4
      obtain ⟨Rs, N, bN, HLN, OR, RSS, DF, OE, MEM, AP, HB⟩ := hcut
      obtain ⟨oA, oc, hoe, _, _, hrow⟩ := OwnR.open ptrV_len OR.out
      rw [List.length_map, HLN.out] at hoe hrow
      subst hoe
      have NF := Lib.hid (fanNew_any 0 oA N oc Rs bN.1 bN.2 wc (Nat.zero_le _) hrow RSS.out)
      have LVW := Lib.hid (show ∀ x ∈ Rs, ∀ g, x.lv.ownBlock = some g → g < wc.heap.size from fun x hx g hg => (World.ownsRow.lt (RSS.out.all x hx).ent.1 g hg).2)
      clear OR RSS hrow AP
      go_wp2_with fail
      refine NF.out.mono ?_
      rintro e w7 ⟨f, rv, ov2, rfl, hfp, hfl, hb⟩
      have hwx7 := hb.size
      have FP := Lib.hid hfp
      replace OE := Lib.hid (OE.out.below hb)
      replace HB := Lib.hid (hop HB.out (Nat.le_refl _) hb)
      clear hfp hfl hb NF
      go_wp2_with fail
      refine (everyNone_any w7).mono ?_
      rintro e w8 ⟨rfl, hao, hb⟩
      have hw78 := hb.size
      obtain ⟨ma, hma⟩ : ∃ g, w7.heap.size = g := ⟨_, rfl⟩
      rw [hma] at hao ⊢
      have AO := Lib.hid hao
      have mal : ma < w8.heap.size := hao.lt
      replace FP := Lib.hid (FP.out.below hb)
      replace OE := Lib.hid (OE.out.below hb)
      replace HB := Lib.hid (hop HB.out (Nat.le_refl _) hb)
      clear hao hma hb
      have hW8 := HB.out.size
      obtain ⟨g6, hg6⟩ : ∃ g, w8.heap.size = g := ⟨_, rfl⟩
      have hb : Below w8.heap.size w8 (w8.alloc (.cells #[.int .i64 z, .int .i64 hi, .bool asc, .int .i64 lim, .bool false, .int .i64 0, .slice none 0 0, .string ⟨#[]⟩] 49)) := (Below.refl _ _).alloc (Nat.le_refl _) _
      have K6 := Lib.hid (show Blk (w8.alloc (.cells #[.int .i64 z, .int .i64 hi, .bool asc, .int .i64 lim, .bool false, .int .i64 0, .slice none 0 0, .string ⟨#[]⟩] 49)) g6 49 #[.int .i64 z, .int .i64 hi, .bool asc, .int .i64 lim, .bool false, .int .i64 0, .slice none 0 0, .string ⟨#[]⟩] by rw [← hg6]; exact Blk.new _ _ _)
      have nma : ma ≠ g6 := by omega
      have hW6 : W.heap.size ≤ g6 := by omega
      have hs9 : w8.heap.size ≤ (w8.alloc (.cells #[.int .i64 z, .int .i64 hi, .bool asc, .int .i64 lim, .bool false, .int .i64 0, .slice none 0 0, .string ⟨#[]⟩] 49)).heap.size := hb.size
      obtain ⟨w5, hw5⟩ : ∃ z_, w8.alloc (.cells #[.int .i64 z, .int .i64 hi, .bool asc, .int .i64 lim, .bool false, .int .i64 0, .slice none 0 0, .string ⟨#[]⟩] 49) = z_ := ⟨_, rfl⟩
      rw [hw5] at hb K6 hs9
      replace FP := Lib.hid (FP.out.below hb)
      replace AO := Lib.hid (AO.out.below hb AO.out.lt)
      replace HB := Lib.hid (hop HB.out (Nat.le_refl _) hb)
      replace OE := Lib.hid (OE.out.below hb)
      have HW5 := Lib.hid hw5
      have HG6 := Lib.hid hg6
      clear hb hw5 hg6 mal
      have HNE0 := Lib.hid (show Rs ≠ [] from fun e => by have h1 := HLN.out; rw [e] at h1; simp at h1; omega)
      have BSL := Lib.hid (show ∀ b ∈ Rs.map ReplX.b, W.heap.size ≤ b from fun b hb => by
        obtain ⟨x, hx, rfl⟩ := List.mem_map.1 hb
        exact (DF.out x hx).low)
      have SW0 := Lib.hid (show StepF asc (Rs.map (rangeX z hi asc)) false ⟨0, [], ⟨#[]⟩⟩ [] 0 from StepF.start asc _ _ (fun F hF => by
        obtain ⟨x, hx, rfl⟩ := List.mem_map.1 hF
        refine Nat.le_trans (List.length_filter_le _ _) ?_
        rw [dirL_len, List.length_map]
        exact (DF.out x hx).l) (by rw [List.length_map, HLN.out]; exact bN.2))
      obtain ⟨GB, hGB⟩ : ∃ g, w5.heap.size = g := ⟨_, rfl⟩
      have HG0 := Lib.hid (show GB ≤ w5.heap.size by omega)
      have HWG := Lib.hid (show W.heap.size ≤ GB by omega)
      have TT0 := Lib.hid (OwnE.nil 0 w5 GB)
      have GA0 := Lib.hid (good_nilS w5 0 ⟨#[]⟩ (by decide) (by decide))
      have LVB := Lib.hid (show ∀ j, ∀ x ∈ Rs.map (atK j), ∀ g, x.lv.ownBlock = some g → g < GB from fun j x hx g hg => by
        obtain ⟨y, hy, rfl⟩ := List.mem_map.1 hx
        have := LVW.out y hy g hg
        omega)
      have RS0 : Rs.map (atK 0) = Rs := by
        have h : ∀ l : List ReplX, (∀ x ∈ l, x.k = 0) → l.map (atK 0) = l := by
          intro l
          induction l with
          | nil => intro _; rfl
          | cons y l ih =>
            intro hy
            have h1 := hy y List.mem_cons_self
            rw [List.map_cons, ih (fun x hx => hy x (List.mem_cons_of_mem _ hx))]
            obtain ⟨yb, yS, yk, yL, yr, yl⟩ := y
            dsimp only at h1
            subst h1
            rfl
        exact h Rs (fun x hx => (DF.out x hx).k)
      replace FP := Lib.hid (show FanP 0 w5 f (Rs.map (atK 0)) (List.range N) rv ov2 from by rw [RS0]; exact FP.out)
      have LEB := Lib.hid (show ∀ g, (Value.slice EA ne ec).ownBlock = some g → g < GB from fun g hg => by rw [← hGB]; exact (World.ownsRow.lt OE.out.1 g hg).2)
      clear hGB LVW RS0 hW8 hwx7 hw78 hs9
      go_wp2
      rw [HW5.out, HG6.out]
      clear HW5 HG6
      go_loopg [25, 26, 27] (leftN (Rs.map (rangeX z hi asc)) (qF asc false ⟨0, [], ⟨#[]⟩⟩) + 1) (fun gk tv cv mv wr => ∃ (T : List EntX) (has : Bool) (ats : Int) (aA : Option Addr) (an ac : Nat) (als : List PairB) (aln : ByteArray) (k : Nat) (more : Bool), mv = .bool more ∧ cv = .int .i64 (k : Nat) ∧ k ≤ 33 ∧ T.length ≤ 32 ∧ Hid (OwnE 0 wr GB tv T) ∧ Hid (Blk wr g6 49 #[.int .i64 z, .int .i64 hi, .bool asc, .int .i64 lim, .bool has, .int .i64 ats, .slice aA an ac, .string aln]) ∧ Hid (Good 0 wr ⟨ats, aA, an, ac, als, aln⟩) ∧ Hid (FanP 0 wr f (Rs.map (atK k)) (List.range N) rv ov2) ∧ Hid (Blk wr ma 108 #[.slice none 0 0]) ∧ Hid (OwnE W.heap.size wr W.heap.size (.slice EA ne ec) LA) ∧ Hid (Below W.heap.size W wr) ∧ Hid (GB ≤ wr.heap.size) ∧ Hid ((more = true → StepF asc (Rs.map (rangeX z hi asc)) has ⟨ats, als, aln⟩ (T.map EntX.b) k ∧ gk = leftN (Rs.map (rangeX z hi asc)) (qF asc has ⟨ats, als, aln⟩) + 1) ∧ (more = false → (StrictB asc (T.map EntX.b) ∧ ∀ e, e ∈ T.map EntX.b ↔ ∃ F ∈ (Rs.map (rangeX z hi asc)), e ∈ F) ∧ gk = 0)))
      case atStart => exact ⟨[], false, 0, none, 0, 0, [], ⟨#[]⟩, 0, true, rfl, rfl, Nat.zero_le _, Nat.zero_le _, TT0, K6, GA0, FP, AO, OE, HB, HG0, Lib.hid ⟨fun _ => ⟨SW0.out, rfl⟩, fun h => by cases h⟩⟩
      case round =>
        clear TT0 K6 GA0 FP AO OE HB HG0 SW0
        obtain ⟨T, has, ats, aA, an, ac, als, aln, k, more, rfl, rfl, hk33, hT32, TT, K6, GA, FP, AO, OE, HB, HG, SW⟩ := hrel
        have hsz := HB.out.size
        obtain ⟨tA, tc, htv⟩ := OwnR.shape TT.out.1
        subst htv
        have LTT := Lib.hid (show ∀ g, (Value.slice tA T.length tc).ownBlock = some g → g < wr.heap.size from fun g hg => (World.ownsRow.lt TT.out.1 g hg).2)
        cases more with
        | true => as_aux_lemma =>
          have SS := Lib.hid (SW.out.1 rfl).1
          have GK := Lib.hid (SW.out.1 rfl).2
          have hk32 : k ≤ 32 := by have := SS.out.num; omega
          have HAR := Lib.hid (show askR (AskX.b ⟨z, hi, asc, lim, has, ⟨ats, aA, an, ac, als, aln⟩⟩) = true from by
            show (decide (z < hi) && decide (1 ≤ lim)) = true
            rw [decide_eq_true bhi.1, decide_eq_true blim.1]
            rfl)
          obtain ⟨hte, P, mm, hP, hmm, hyes, hno⟩ := whole_step SS.out DF.out blim.1 HNE0.out
          have HYES := Lib.hid hyes
          have HNO := Lib.hid hno
          have HPP := Lib.hid hP
          have HMM := Lib.hid hmm
          have HTE := Lib.hid hte
          have ORX := Lib.hid (show orderX (Rs.map (atK k)) (List.range N) = Rs.map (atK k) from by
            have h1 := orderX_range (Rs.map (atK k))
            rwa [List.length_map, HLN.out] at h1)
          have OKX := Lib.hid (show ∀ x ∈ Rs.map (atK k), OkX 0 (.pointer (some ⟨ma, 0, none⟩)) (fun _ => true) (fun w => Blk w ma 108 #[.slice none 0 0]) x from fun x hx => by
            obtain ⟨y, hy, rfl⟩ := List.mem_map.1 hx
            have d := DF.out y hy
            exact ⟨(by show k ≤ 1000000; omega), Nat.le_trans d.s (by decide), Nat.le_trans d.l (by decide), d.right, (d.up k).2, Nat.zero_le _, none_test y.b ma⟩)
          have SRT := Lib.hid (show ∀ x ∈ Rs.map (atK k), (x.L.map EntX.b).Pairwise leB from fun x hx => by
            obtain ⟨y, hy, rfl⟩ := List.mem_map.1 hx
            exact (DF.out y hy).sort)
          have INB := Lib.hid (show ∀ x ∈ Rs.map (atK k), x.b ∈ Rs.map ReplX.b from fun x hx => by
            obtain ⟨y, hy, rfl⟩ := List.mem_map.1 hx
            show y.b ∈ Rs.map ReplX.b
            exact List.mem_map_of_mem hy)
          have NXT := Lib.hid (show askedL (Rs.map (atK k)) (List.range N) (List.range N).length = Rs.map (atK (k + 1)) from by
            rw [asked_all List.nodup_range (fun i hi => by rw [List.length_map, HLN.out] at hi; exact List.mem_range.2 hi)]
            exact atK_next k Rs)
          have FE := Lib.hid (fetch_lit 0 0 f (Rs.map ReplX.b) (Rs.map (atK k)) (List.range N) rv ov2 ⟨ma, 0, none⟩ (fun _ => true) (fun w => Blk w ma 108 #[.slice none 0 0]) ⟨z, hi, asc, lim, has, ⟨ats, aA, an, ac, als, aln⟩⟩ (by rw [List.length_map, HLN.out]; exact bN.2) ⟨List.nodup_range, fun i hi => by rw [List.length_map, HLN.out]; exact List.mem_range.1 hi⟩ OKX.out SRT.out INB.out (fun w w' h hb => h.below hb h.lt) HAR.out (by show lim ≤ _; omega) wr FP.out AO.out GA.out mm 0 P _ (by rw [ORX.out]; exact HMM.out) (by rw [ORX.out]; exact if_neg (fun h => by have h1 := HTE.out.symm.trans h; cases h1)) (by rw [ORX.out]; exact HPP.out) NXT.out)
          clear hte hP hmm hyes hno OKX SRT INB NXT ORX HTE SW
          go_wp2_with (refine wpList_load_row rfl 49 (.tmp 24) rfl g6 rfl 49 #[.int .i64 z, .int .i64 hi, .bool asc, .int .i64 lim, .bool has, .int .i64 ats, .slice aA an ac, .string aln] (0, 0) _ K6.out Tryz.underlying49 rfl (by kernel_rfl) ?_)
          refine (show Calls Tryz.prog 17 #[.pointer (some ⟨f, 0, none⟩), .agg #[.int .i64 z, .int .i64 hi, .bool asc, .int .i64 lim, .bool has, .int .i64 ats, .slice aA an ac, .string aln], .pointer (some ⟨ma, 0, none⟩)] wr _ from FE.out).mono ?_
          rintro e w6 ⟨vp, Lt, rfl, ho, hm, hfp, hh⟩
          replace TT := Lib.hid (TT.out.hops hh (fun _ _ => Nat.zero_le _) (by decide) (by decide))
          replace K6 := Lib.hid (K6.out.hopsT hh (by decide))
          replace GA := Lib.hid (GA.out.hops hh (fun _ _ => Nat.zero_le _) (by decide))
          replace AO := Lib.hid (AO.out.hopsT hh (by decide))
          replace OE := Lib.hid (OE.out.hops hh BSL.out (by decide) (by decide))
          replace HB := Lib.hid (hh.under HB.out BSL.out hsz)
          replace HG := Lib.hid (Nat.le_trans HG.out hh.size)
          replace FP := Lib.hid hfp
          have PP_ := Lib.hid ho
          have PM := Lib.hid hm
          clear hh hfp ho hm FE HAR HPP HMM
          obtain ⟨pA0, pc0, hpv⟩ := OwnR.shape PP_.out.1
          subst hpv
          obtain ⟨q, hq⟩ : ∃ q, Lt.length = q := ⟨_, rfl⟩
          have HQ := Lib.hid hq
          have HPQ := Lib.hid (show P.length = q from by rw [← PM.out, List.length_map]; exact hq)
          have TEN := Lib.hid (show (T ++ Lt).map EntX.b = T.map EntX.b ++ P from by rw [List.map_append, PM.out])
          have hTq : T.length + q ≤ 32 := by
            have h0 : ∀ gk' more' has' af', EndF asc (Rs.map (rangeX z hi asc)) more' has' af' (T.map EntX.b ++ P) (k + 1) gk' → (T.map EntX.b ++ P).length ≤ (LA.map EntX.b).length := fun gk' more' has' af' h => by
              cases more' with
              | true => exact strict_len ((h.yes rfl).1.st.strict) (fun e he => by
                  obtain ⟨F, hF, h2⟩ := (h.yes rfl).1.st.sub e he
                  obtain ⟨y, hy, rfl⟩ := List.mem_map.1 hF
                  exact (MEM.out e).2 ⟨y, hy, dirL_mem.1 (List.mem_filter.1 h2).1⟩)
              | false => exact (whole_end MEM.out (h.no rfl).1).2
            have h1 : (T.map EntX.b ++ P).length ≤ (LA.map EntX.b).length := by
              cases mm with
              | true =>
                obtain ⟨_, _, _, gk', h, _⟩ := HYES.out rfl
                exact h0 _ _ _ _ h
              | false => exact h0 _ _ _ _ (HNO.out rfl false ⟨0, [], ⟨#[]⟩⟩)
            rw [List.length_append, List.length_map, HPQ.out, List.length_map, HNE.out] at h1
            omega
          have kW : IntKind.i64.wrap ((k : Int) + 1) = (k : Int) + 1 := by rw [IntKind.wrap_i64]; omega
          have kG : ¬ (k : Int) + 1 > 40 := by omega
          have kG2 : ¬ (40 : Int) < (k : Int) + 1 := by omega
          rw [hq] at PP_ ⊢
          clear hq
          rcases Nat.eq_zero_or_pos q with q0 | q0
          · -- nothing more
            have hmmf : mm = false := by
              cases mm with
              | false => rfl
              | true =>
                obtain ⟨y, l, e, _⟩ := HYES.out rfl
                have h1 := HPQ.out
                rw [e, List.length_append, List.length_singleton] at h1
                omega
            subst hmmf q0
            have EF := Lib.hid (HNO.out rfl has ⟨ats, als, aln⟩)
            clear HYES HNO
            go_wp2_with (at_builtin; refine wpList_append_rows rfl (.tmp 162) (.tmp 163) 64 rfl GB 47 i0 (.agg #[.int .i64 0, .slice none 0 0, .string ⟨#[]⟩]) 3 48 Tryz.underlying64 hinf hi0 hi1 hi2 rfl (by decide) _ _ _ rfl TT.out.1 _ _ _ _ rfl PP_.out.1 (entV_many _) (by have := HQ.out; unfold maxLen; omega) (by have := HQ.out; omega) HG.out ?_)
            intro t7 w7 hown hgrow hvb
            have hol := own_row_type TT.out.1
            have K6n := Lib.hid (show Blk w7 g6 49 #[.int .i64 z, .int .i64 hi, .bool asc, .int .i64 lim, .bool has, .int .i64 ats, .slice aA an ac, .string aln] from (hgrow.block g6 K6.out.lt (fun e => by obtain ⟨_, cur, h2⟩ := hol _ e.symm; exact blk_ne K6.out h2 (by decide))).trans K6.out)
            have AOn := Lib.hid (show Blk w7 ma 108 #[.slice none 0 0] from (hgrow.block ma AO.out.lt (fun e => by obtain ⟨_, cur, h2⟩ := hol _ e.symm; exact blk_ne AO.out h2 (by decide))).trans AO.out)
            have GAn := Lib.hid (GA.out.kept TT.out.1 (Nat.zero_le _) hgrow)
            have FPn := Lib.hid (FP.out.grewE hgrow (fun g e => ⟨fun x hx e2 => (by have h1 := (hol g e).1; have h2 := LVB.out _ x hx g e2; omega), (hol g e).2⟩))
            have OEn := Lib.hid (show OwnE W.heap.size w7 W.heap.size (.slice EA ne ec) LA from ⟨OwnR.grew2 OE.out.1 hgrow (fun g e1 e2 => by have := (hol g e2).1; have := LEB.out g e1; omega), fun x hx => (OE.out.2 x hx).kept TT.out.1 HWG.out hgrow⟩)
            have PPn := Lib.hid (show OwnE 0 w7 _ _ Lt from ⟨OwnR.grew2 PP_.out.1 hgrow (fun g e1 e2 => by have := LTT.out g e2; have := (World.ownsRow.lt PP_.out.1 g e1).1; omega), fun x hx => (PP_.out.2 x hx).kept TT.out.1 (Nat.zero_le _) hgrow⟩)
            have TTn := Lib.hid (show OwnE 0 w7 GB t7 (T ++ Lt) from OwnE.snocs TT.out PP_.out.2 (Nat.zero_le _) hgrow (by first | exact hown | (rw [HQ.out]; exact hown)))
            have HBn := Lib.hid (HB.out.grown hgrow HB.out.size (fun r hr => Nat.le_trans HWG.out (hol r hr).1))
            have HGn := Lib.hid (Nat.le_trans HG.out hgrow.size)
            clear hown hgrow hvb hol TT PP_ K6 AO GA FP OE HB HG
            go_wp2
            go_roundg 0
            case measure => have := GK.out; omega
            case rel => exact ⟨T ++ Lt, has, ats, aA, an, ac, als, aln, k + 1, false, rfl, by go_num, by omega, by rw [List.length_append, HQ.out]; omega, TTn, K6n, GAn, FPn, AOn, OEn, HBn, HGn, Lib.hid ⟨(fun h => by cases h), (fun _ => ⟨by rw [TEN.out]; exact (EF.out.no rfl).1, rfl⟩)⟩⟩
          · obtain ⟨i, hi_⟩ : ∃ i, q = i + 1 := ⟨q - 1, by omega⟩
            have HI := Lib.hid hi_
            obtain ⟨P0, x, hPx⟩ : ∃ P0 x, Lt = P0 ++ [x] := by
              have h3 : Lt ≠ [] := fun e => by have := HQ.out; rw [e] at this; simp at this; omega
              exact ⟨_, _, (List.dropLast_concat_getLast h3).symm⟩
            have hPl : P0.length = i := by have := HQ.out; rw [hPx, List.length_append, List.length_singleton] at this; omega
            have hxi : Lt[i]? = some x := by rw [hPx, List.getElem?_append_right (by omega), hPl, Nat.sub_self]; rfl
            have hNx : P = P0.map EntX.b ++ [x.b] := by rw [← PM.out, hPx, List.map_append]; rfl
            have PX := Lib.hid hxi
            have q0I : ((q : Int) == 0) = false := by rw [beq_eq_false_iff_ne]; omega
            have q0J : ¬ (q : Int) = 0 := by omega
            have q1I : (0 : Int) < (q : Int) := by omega
            have q2I : (q : Int) > 0 := by omega
            have hwi : IntKind.i64.wrap ((q : Int) - 1) = (i : Int) := by have := HI.out; rw [IntKind.wrap_i64]; omega
            obtain ⟨gk2, ew, hg2⟩ : ∃ g, EndF asc (Rs.map (rangeX z hi asc)) mm true x.b (T.map EntX.b ++ P) (k + 1) g ∧ g < leftN (Rs.map (rangeX z hi asc)) (qF asc has ⟨ats, als, aln⟩) + 1 := by
              cases mm with
              | true =>
                obtain ⟨y, l, e, g, h1, h2⟩ := HYES.out rfl
                have e2 : l = x.b := by
                  rw [hNx] at e
                  exact ((List.cons.inj (List.append_inj' e rfl).2).1).symm
                rw [e2] at h1
                exact ⟨g, h1, h2⟩
              | false => exact ⟨0, HNO.out rfl true x.b, by omega⟩
            have EW := Lib.hid ew
            have HG2 := Lib.hid hg2
            clear ew hg2 HYES HNO hPx hPl hxi hNx hi_
            cases mm
            all_goals
              go_wp2_with (at_builtin; refine wpList_append_rows rfl (.tmp 162) (.tmp 163) 64 rfl GB 47 i0 (.agg #[.int .i64 0, .slice none 0 0, .string ⟨#[]⟩]) 3 48 Tryz.underlying64 hinf hi0 hi1 hi2 rfl (by decide) _ _ _ rfl TT.out.1 _ _ _ _ rfl PP_.out.1 (entV_many _) (by have := HQ.out; unfold maxLen; omega) (by have := HQ.out; omega) HG.out ?_)
              intro t7 w7 hown hgrow hvb
              have hol := own_row_type TT.out.1
              have K6n := Lib.hid (show Blk w7 g6 49 #[.int .i64 z, .int .i64 hi, .bool asc, .int .i64 lim, .bool has, .int .i64 ats, .slice aA an ac, .string aln] from (hgrow.block g6 K6.out.lt (fun e => by obtain ⟨_, cur, h2⟩ := hol _ e.symm; exact blk_ne K6.out h2 (by decide))).trans K6.out)
              have AOn := Lib.hid (show Blk w7 ma 108 #[.slice none 0 0] from (hgrow.block ma AO.out.lt (fun e => by obtain ⟨_, cur, h2⟩ := hol _ e.symm; exact blk_ne AO.out h2 (by decide))).trans AO.out)
              have GAn := Lib.hid (GA.out.kept TT.out.1 (Nat.zero_le _) hgrow)
              have FPn := Lib.hid (FP.out.grewE hgrow (fun g e => ⟨fun x hx e2 => (by have h1 := (hol g e).1; have h2 := LVB.out _ x hx g e2; omega), (hol g e).2⟩))
              have OEn := Lib.hid (show OwnE W.heap.size w7 W.heap.size (.slice EA ne ec) LA from ⟨OwnR.grew2 OE.out.1 hgrow (fun g e1 e2 => by have := (hol g e2).1; have := LEB.out g e1; omega), fun x hx => (OE.out.2 x hx).kept TT.out.1 HWG.out hgrow⟩)
              have PPn := Lib.hid (show OwnE 0 w7 _ _ Lt from ⟨OwnR.grew2 PP_.out.1 hgrow (fun g e1 e2 => by have := LTT.out g e2; have := (World.ownsRow.lt PP_.out.1 g e1).1; omega), fun x hx => (PP_.out.2 x hx).kept TT.out.1 (Nat.zero_le _) hgrow⟩)
              have TTn := Lib.hid (show OwnE 0 w7 GB t7 (T ++ Lt) from OwnE.snocs TT.out PP_.out.2 (Nat.zero_le _) hgrow (by first | exact hown | (rw [HQ.out]; exact hown)))
              have HBn := Lib.hid (HB.out.grown hgrow HB.out.size (fun r hr => Nat.le_trans HWG.out (hol r hr).1))
              have HGn := Lib.hid (Nat.le_trans HG.out hgrow.size)
              clear hown hgrow hvb hol TT PP_ K6 AO GA FP OE HB HG
              obtain ⟨gp, cp, hpe, _, hplt, _, hpc⟩ := OwnR.at_ entV_len PPn.out.1 (by rw [HQ.out]; omega)
              injection hpe with e1 e2 e3
              subst e1 e3
              obtain ⟨_, curp, hcurp⟩ := own_row_type PPn.out.1 gp rfl
              have BKp : Blk w7 gp 47 curp := hcurp
              have hgp6 : gp ≠ g6 := blk_apart BKp K6n.out (by decide)
              have GX := Lib.hid (PPn.out.2 x (List.mem_of_getElem? PX.out))
              have p0 := hpc i 0 x PX.out (by decide)
              have p1 := hpc i 1 x PX.out (by decide)
              have p2 := hpc i 2 x PX.out (by decide)
              obtain ⟨pt, pA, pn, pc, ps, pl⟩ := x
              have BK4 := BKp.far (p := ⟨g6, 4, none⟩) (by show gp ≠ g6; exact hgp6) (.bool true)
              have p0_ : (w7.setCell ⟨g6, 4, none⟩ (.bool true)).cell? ⟨gp, i * 3, none⟩ = some (.int .i64 pt) := ((BK4.cell _).trans (BKp.cell _).symm).trans p0
              have p1_ : (w7.setCell ⟨g6, 4, none⟩ (.bool true)).cell? ⟨gp, i * 3 + 1, none⟩ = some (.slice pA pn pc) := ((BK4.cell _).trans (BKp.cell _).symm).trans p1
              have p2_ : (w7.setCell ⟨g6, 4, none⟩ (.bool true)).cell? ⟨gp, i * 3 + 2, none⟩ = some (.string pl) := ((BK4.cell _).trans (BKp.cell _).symm).trans p2
              have k6 := K6n.out
              have k1 := k6.set_ 4 (.bool true)
              have g0_ : w7.cell? ⟨g6, 4, none⟩ = some (.bool has) := (k6.cell 4).trans rfl
              have g1_ := k6.frozen 4
              have h5_ : (w7.setCell ⟨g6, 4, none⟩ (.bool true)).cell? ⟨g6, 5, none⟩ = some (.int .i64 ats) := (k1.cell 5).trans rfl
              have h6_ : (w7.setCell ⟨g6, 4, none⟩ (.bool true)).cell? ⟨g6, 6, none⟩ = some (.slice aA an ac) := (k1.cell 6).trans rfl
              have h7_ : (w7.setCell ⟨g6, 4, none⟩ (.bool true)).cell? ⟨g6, 7, none⟩ = some (.string aln) := (k1.cell 7).trans rfl
              have i5_ := k1.frozen 5
              have i6_ := k1.frozen 6
              have i7_ := k1.frozen 7
              have s1 := Se.FG.set_ (b := g6) (w := w7) 4 (.bool true)
              have s2 := Se.FG.set_ (b := g6) (w := w7.setCell ⟨g6, 4, none⟩ (.bool true)) 5 (.int .i64 pt)
              have s3 := Se.FG.set_ (b := g6) (w := (w7.setCell ⟨g6, 4, none⟩ (.bool true)).setCell ⟨g6, 5, none⟩ (.int .i64 pt)) 6 (.slice pA pn pc)
              have s4 := Se.FG.set_ (b := g6) (w := ((w7.setCell ⟨g6, 4, none⟩ (.bool true)).setCell ⟨g6, 5, none⟩ (.int .i64 pt)).setCell ⟨g6, 6, none⟩ (.slice pA pn pc)) 7 (.string pl)
              have hf := ((s1.trans s2).trans s3).trans s4
              have K6f := Lib.hid (show Blk ((((w7.setCell ⟨g6, 4, none⟩ (.bool true)).setCell ⟨g6, 5, none⟩ (.int .i64 pt)).setCell ⟨g6, 6, none⟩ (.slice pA pn pc)).setCell ⟨g6, 7, none⟩ (.string pl)) g6 49 #[.int .i64 z, .int .i64 hi, .bool asc, .int .i64 lim, .bool true, .int .i64 pt, .slice pA pn pc, .string pl] from ((k1.set_ 5 (.int .i64 pt)).set_ 6 (.slice pA pn pc)).set_ 7 (.string pl))
              have TTf := Lib.hid (TTn.out.fgT hf (Nat.zero_le _) k6 (by decide) (by decide))
              have GAf := Lib.hid (GX.out.fgT hf (Nat.zero_le _) k6 (by decide))
              have FPf := Lib.hid (FPn.out.fgO hf k6 (by decide) (by decide) (by decide) (by decide) (by decide) (by decide) (by decide))
              have AOf := Lib.hid (AOn.out.fg hf nma)
              have OEf := Lib.hid (OEn.out.fgT hf hW6 k6 (by decide) (by decide))
              have HBf := Lib.hid (Se.FG.below hf HBn.out hW6 (by have := HBn.out.size; omega))
              have HGf := Lib.hid (Nat.le_trans HGn.out hf.size)
              have in1 : (i : Int) < (q : Int) := by have := HI.out; omega
              have in0 : (0 : Int) ≤ (i : Int) := by omega
              clear hpc hcurp BKp BK4 p0 p1 p2 k6 k1 s1 s2 s3 s4 hf K6n TTn GAn FPn AOn OEn HBn HGn PPn GX hplt e2
              go_wp2
              go_roundg gk2
              case measure => have h1 := GK.out; have h3 := HG2.out; omega
              case rel => exact ⟨T ++ Lt, true, pt, pA, pn, pc, ps, pl, k + 1, _, rfl, by go_num, by omega, by rw [List.length_append, HQ.out]; omega, TTf, K6f, GAf, FPf, AOf, OEf, HBf, HGf, Lib.hid ⟨by rw [TEN.out]; exact EW.out.yes, by rw [TEN.out]; exact EW.out.no⟩⟩
        | false => as_aux_lemma =>
          have DN := Lib.hid (SW.out.2 rfl).1
          have WE := Lib.hid (whole_end MEM.out DN.out)
          have CAL := Lib.hid (fanCalls_any 0 f (Rs.map (atK k)) (List.range N) rv ov2 (by rw [List.length_map, HLN.out]; exact bN.2) (fun x hx => by obtain ⟨y, hy, rfl⟩ := List.mem_map.1 hx; show k ≤ 1000000; omega) wr FP.out)
          have hcx : callsX (Rs.map (atK k)) = k * N := by
            have h : ∀ l : List ReplX, callsX (l.map (atK k)) = k * l.length := by
              intro l
              induction l with
              | nil => rfl
              | cons y l ih =>
                have e : callsX ((y :: l).map (atK k)) = k + callsX (l.map (atK k)) := by
                  unfold callsX
                  rw [List.map_cons, List.map_cons, List.sum_cons]
                  rfl
                rw [e, ih, List.length_cons, Nat.mul_succ]
                omega
            rw [h, HLN.out]
          have hkN : k * N ≤ 33 * 4 := Nat.mul_le_mul hk33 bN.2
          obtain ⟨kn, hkn⟩ : ∃ q, k * N = q := ⟨_, rfl⟩
          have hknI : (k : Int) * (N : Int) = (kn : Int) := by rw [← hkn]; exact (Int.natCast_mul k N).symm
          have hknw : IntKind.i64.wrap (kn : Int) = (kn : Int) := by rw [IntKind.wrap_i64]; omega
          rw [hcx, hkn] at CAL
          clear SW LTT LVB LEB HWG hcx hkN hkn
          obtain ⟨m, hm⟩ : ∃ m, T.length = m := ⟨_, rfl⟩
          have PO := Lib.hid TT.out
          rw [hm] at PO hT32 ⊢
          have HPN := Lib.hid hm
          clear hm TT
          go_wp2_with fail
          refine CAL.out.mono ?_
          rintro e _ ⟨rfl, rfl⟩
          obtain ⟨v1, hv1⟩ : ∃ v, v = wr := ⟨_, rfl⟩
          subst hv1
          have HBv := Lib.hid (Below.refl v1.heap.size v1)
          have hlt6 := K6.out.lt
          have Z0 := Lib.hid (show v1.cell? ⟨g6, 0, none⟩ = some (.int .i64 z) from (K6.out.cell 0).trans rfl)
          have Z1 := Lib.hid (show v1.cell? ⟨g6, 1, none⟩ = some (.int .i64 hi) from (K6.out.cell 1).trans rfl)
          clear CAL K6 GA FP AO HG
          go_wp2
          go_loopw [31] (fun iv wr => ∃ j : Nat, 1 ≤ j ∧ (j ≤ m ∨ j = 1) ∧ iv = .int .i64 (j : Nat) ∧ Hid (Below v1.heap.size v1 wr)) (fun iv _ => m - (intOf iv).toNat)
          case atStart => exact ⟨1, Nat.le_refl _, .inr rfl, rfl, HBv⟩
          case round =>
            clear HBv
            obtain ⟨j, hj1, hjm, rfl, HBv⟩ := hrel
            by_cases hj : j < m
            · as_aux_lemma =>
              have jI : (j : Int) < (m : Int) := by omega
              have jW : IntKind.i64.wrap ((j : Int) + 1) = (j : Int) + 1 := by rw [IntKind.wrap_i64]; omega
              obtain ⟨i, hi_⟩ : ∃ i, j = i + 1 := ⟨j - 1, by omega⟩
              obtain ⟨x, hx⟩ : ∃ x, T[j]? = some x := ⟨_, List.getElem?_eq_getElem (by rw [HPN.out]; exact hj)⟩
              obtain ⟨y, hy⟩ : ∃ y, T[i]? = some y := ⟨_, List.getElem?_eq_getElem (by rw [HPN.out]; omega)⟩
              have AHD : aheadB y.b x.b asc = true := by
                have h1 : (T.map EntX.b)[i]? = some y.b := by rw [List.getElem?_map, hy]; rfl
                have h2 : (T.map EntX.b)[j]? = some x.b := by rw [List.getElem?_map, hx]; rfl
                obtain ⟨l1, e1⟩ := List.getElem?_eq_some_iff.1 h1
                obtain ⟨l2, e2⟩ := List.getElem?_eq_some_iff.1 h2
                have h3 := List.pairwise_iff_getElem.1 DN.out.1 i j l1 l2 (by omega)
                rwa [e1, e2] at h3
              obtain ⟨gx, hqA, xat⟩ := ownE_at (PO.out.below HBv.out) hx
              obtain ⟨gy, hyA, yat⟩ := ownE_at (PO.out.below HBv.out) hy
              rw [hqA] at hyA
              injection hyA with hyA
              injection hyA with hyA _ _
              subst hyA
              subst hqA
              have XX := Lib.hid xat
              have YY := Lib.hid yat
              have SM := Lib.hid (fun wd (h1 : Good 0 wd y) (h2 : Good 0 wd x) => aheadG y x asc wd h1 h2)
              simp only [AHD] at SM
              have mW : IntKind.i64.wrap ((j : Int) - 1) = (i : Int) := by rw [IntKind.wrap_i64]; omega
              have mI : (i : Int) < (m : Int) := by omega
              have HI := Lib.hid hi_
              clear hx hy xat yat AHD hi_ hj
              go_wp2
              obtain ⟨wd, hwd⟩ : ∃ z, wr.drew = z := ⟨_, rfl⟩
              have hbd : Below wr.heap.size wr wd := by rw [← hwd]; exact (Below.refl _ _).drew
              have X1 := Lib.hid (YY.out.below hbd)
              have X2 := Lib.hid (XX.out.below hbd)
              have HBd := Lib.hid hbd
              have S0 : (fun w' : World => w'.cell? ⟨gx, i * 3, none⟩ = some (.int .i64 y.ts) ∧ w'.cell? ⟨gx, i * 3 + 1, none⟩ = some (.slice y.A y.n y.c) ∧ w'.cell? ⟨gx, i * 3 + 2, none⟩ = some (.string y.ln) ∧ w'.cell? ⟨gx, j * 3, none⟩ = some (.int .i64 x.ts) ∧ w'.cell? ⟨gx, j * 3 + 1, none⟩ = some (.slice x.A x.n x.c) ∧ w'.cell? ⟨gx, j * 3 + 2, none⟩ = some (.string x.ln) ∧ True) wr.drew := by rw [hwd]; exact ⟨X1.out.c0, X1.out.c1, X1.out.c2, X2.out.c0, X2.out.c1, X2.out.c2, trivial⟩
              clear hbd
              refine wp_region_held_drew (S := (fun w' : World => w'.cell? ⟨gx, i * 3, none⟩ = some (.int .i64 y.ts) ∧ w'.cell? ⟨gx, i * 3 + 1, none⟩ = some (.slice y.A y.n y.c) ∧ w'.cell? ⟨gx, i * 3 + 2, none⟩ = some (.string y.ln) ∧ w'.cell? ⟨gx, j * 3, none⟩ = some (.int .i64 x.ts) ∧ w'.cell? ⟨gx, j * 3 + 1, none⟩ = some (.slice x.A x.n x.c) ∧ w'.cell? ⟨gx, j * 3 + 2, none⟩ = some (.string x.ln) ∧ True)) (by kernel_rfl) S0 (fun hS => ?_)
              rw [hwd] at hS ⊢
              clear S0 hwd
              refine tV 0 ?_; refine tV 1 ?_; refine tV 2 ?_; refine tV 3 ?_; refine tH 4 ?_; refine tV 5 ?_; refine tV 6 ?_; refine tV 7 ?_; refine tH 8 ?_; refine tV 9 ?_
              refine rdy [10] ?_
              refine rdC (fun K hK => ?_) AllReadyH.nil
              go_simp
              go_at_call 25
              refine (SM.out wd X1.out.good X2.out.good).mono ?_
              rintro e wz ⟨rfl, hbz⟩
              have hSz : (fun w' : World => w'.cell? ⟨gx, i * 3, none⟩ = some (.int .i64 y.ts) ∧ w'.cell? ⟨gx, i * 3 + 1, none⟩ = some (.slice y.A y.n y.c) ∧ w'.cell? ⟨gx, i * 3 + 2, none⟩ = some (.string y.ln) ∧ w'.cell? ⟨gx, j * 3, none⟩ = some (.int .i64 x.ts) ∧ w'.cell? ⟨gx, j * 3 + 1, none⟩ = some (.slice x.A x.n x.c) ∧ w'.cell? ⟨gx, j * 3 + 2, none⟩ = some (.string x.ln) ∧ True) wz := ⟨(X1.out.below hbz).c0, (X1.out.below hbz).c1, (X1.out.below hbz).c2, (X2.out.below hbz).c0, (X2.out.below hbz).c1, (X2.out.below hbz).c2, trivial⟩
              have HBZ := Lib.hid (hop HBd.out (Nat.le_refl _) hbz)
              refine hK.out _ _ hSz (fun _ => ?_)
              clear hK K hS hSz hbz X1 X2 HBd
              try simp only [Act.put, pz1, pz2, pz3]
              refine tV 11 ?_
              refine wpAnyH_done (by kernel_rfl) ?_ _
              have hbz2 := Lib.hid (hop HBv.out (Nat.le_refl _) HBZ.out)
              clear HBZ SM
              go_wp2
              go_round
              case rel => exact ⟨j + 1, by omega, by omega, by go_num, hbz2⟩
              case measure => first | (simp [intOf]; done) | (simp [intOf]; omega)
            · have jI : ¬ (j : Int) < (m : Int) := by omega
              clear hjm hj
              go_wp2
              go_loopw [32] (fun iv wr => ∃ jx : Nat, jx ≤ ne ∧ iv = .int .i64 (jx : Nat) ∧ Hid (Below v1.heap.size v1 wr)) (fun iv _ => ne - (intOf iv).toNat)
              case atStart => exact ⟨0, Nat.zero_le _, rfl, HBv⟩
              case round =>
                clear HBv
                obtain ⟨jx, hjq, rfl, HBv⟩ := hrel
                by_cases hj : jx < ne
                · as_aux_lemma =>
                  have jI : (jx : Int) < (ne : Int) := by omega
                  have jW : IntKind.i64.wrap ((jx : Int) + 1) = (jx : Int) + 1 := by rw [IntKind.wrap_i64]; omega
                  obtain ⟨x, hx⟩ : ∃ x, LA[jx]? = some x := ⟨_, List.getElem?_eq_getElem (by rw [HNE.out]; exact hj)⟩
                  obtain ⟨gx, hqA, xat⟩ := ownE_at (OE.out.below HBv.out) hx
                  subst hqA
                  have XX := Lib.hid xat
                  have AN := Lib.hid (show thereB T x.b m = (decide (z ≤ x.b.ts) && decide (x.b.ts < hi)) from by
                    show _ = inT z hi x.b
                    rw [Bool.eq_iff_iff, there_all T x.b m (by rw [HPN.out]; exact Nat.le_refl _), WE.out.1]
                    exact ⟨fun h => h.2, fun h => ⟨List.mem_map_of_mem (List.mem_of_getElem? hx), h⟩⟩)
                  replace PO := Lib.hid (PO.out.below HBv.out)
                  clear hx xat hj
                  obtain ⟨v0, hv0⟩ : ∃ v, v = wr := ⟨_, rfl⟩
                  subst hv0
                  have HB0 := Lib.hid (Below.refl v0.heap.size v0)
                  go_wp2
                  go_loopw [33, 34] (fun tv kv wx => ∃ (k : Nat) (bo : Bool), k ≤ m ∧ tv = .bool bo ∧ kv = .int .i64 (k : Nat) ∧ Hid (thereB T x.b k = bo) ∧ Hid (Below v0.heap.size v0 wx)) (fun _ kv _ => m - (intOf kv).toNat)
                  case atStart => exact ⟨0, false, Nat.zero_le _, rfl, rfl, Lib.hid rfl, HB0⟩
                  case round =>
                    clear HB0
                    obtain ⟨k, bo, hkm, rfl, rfl, HK, HBk⟩ := hrel
                    by_cases hk : k < m
                    · have kI : (k : Int) < (m : Int) := by omega
                      obtain ⟨y, hy⟩ : ∃ y, T[k]? = some y := ⟨_, List.getElem?_eq_getElem (by rw [HPN.out]; exact hk)⟩
                      have NXT := Lib.hid (there_next T x.b k y hy)
                      cases bo with
                      | true =>
                        have HK2 := Lib.hid (show thereB T x.b (k + 1) = true from by rw [NXT.out, HK.out]; rfl)
                        clear HK NXT hy
                        go_wp2
                        go_quiet (fail)
                        generalize hw4 : World.drewN _ _ = w4
                        have hb4 := Lib.hid (show Below v0.heap.size v0 w4 from by rw [← hw4]; exact below_drewN HBk.out _)
                        clear hw4
                        go_wp2
                        go_round
                        case rel => exact ⟨k + 1, true, by omega, rfl, by go_num, HK2, hb4⟩
                        case measure => first | (simp [intOf]; done) | (simp [intOf]; omega)
                      | false =>
                        have HY := Lib.hid hy
                        have XW := Lib.hid (XX.out.below HBk.out)
                        obtain ⟨gp, hpA, yat⟩ := ownE_at (PO.out.below HBk.out) hy
                        subst hpA
                        have YY := Lib.hid yat
                        have HK2 := Lib.hid (show thereB T x.b (k + 1) = sameE y.b x.b from by rw [NXT.out, HK.out]; rfl)
                        obtain ⟨q, hq⟩ : ∃ q, sameE x.b y.b = q := ⟨_, rfl⟩
                        rw [sameE_comm, hq] at HK2
                        have SM := Lib.hid (fun wd (h1 : Good W.heap.size wd x) (h2 : Good 0 wd y) => sameG x y wd h1 h2)
                        simp only [hq] at SM
                        clear hy yat HK NXT hq
                        go_wp2
                        obtain ⟨wd, hwd⟩ : ∃ z, wr.drew = z := ⟨_, rfl⟩
                        have hbd : Below wr.heap.size wr wd := by rw [← hwd]; exact (Below.refl _ _).drew
                        have X1 := Lib.hid (XW.out.below hbd)
                        have X2 := Lib.hid (YY.out.below hbd)
                        have HBd := Lib.hid hbd
                        have S0 : (fun w' : World => w'.cell? ⟨gx, jx * 3, none⟩ = some (.int .i64 x.ts) ∧ w'.cell? ⟨gx, jx * 3 + 1, none⟩ = some (.slice x.A x.n x.c) ∧ w'.cell? ⟨gx, jx * 3 + 2, none⟩ = some (.string x.ln) ∧ w'.cell? ⟨gp, k * 3, none⟩ = some (.int .i64 y.ts) ∧ w'.cell? ⟨gp, k * 3 + 1, none⟩ = some (.slice y.A y.n y.c) ∧ w'.cell? ⟨gp, k * 3 + 2, none⟩ = some (.string y.ln) ∧ True) wr.drew := by rw [hwd]; exact ⟨X1.out.c0, X1.out.c1, X1.out.c2, X2.out.c0, X2.out.c1, X2.out.c2, trivial⟩
                        clear hbd
                        refine wp_region_held_drew (S := (fun w' : World => w'.cell? ⟨gx, jx * 3, none⟩ = some (.int .i64 x.ts) ∧ w'.cell? ⟨gx, jx * 3 + 1, none⟩ = some (.slice x.A x.n x.c) ∧ w'.cell? ⟨gx, jx * 3 + 2, none⟩ = some (.string x.ln) ∧ w'.cell? ⟨gp, k * 3, none⟩ = some (.int .i64 y.ts) ∧ w'.cell? ⟨gp, k * 3 + 1, none⟩ = some (.slice y.A y.n y.c) ∧ w'.cell? ⟨gp, k * 3 + 2, none⟩ = some (.string y.ln) ∧ True)) (by kernel_rfl) S0 (fun hS => ?_)
                        rw [hwd] at hS ⊢
                        clear S0 hwd
                        refine tV 0 ?_; refine tV 1 ?_; refine tV 2 ?_; refine tV 3 ?_; refine tV 4 ?_; refine tH 5 ?_; refine tV 6 ?_; refine tV 7 ?_; refine tV 8 ?_; refine tH 9 ?_
                        refine rdy [10] ?_
                        refine rdC (fun K hK => ?_) AllReadyH.nil
                        go_simp
                        go_at_call 26
                        refine (SM.out wd X1.out.good X2.out.good).mono ?_
                        rintro e wz ⟨rfl, hbz⟩
                        have hSz : (fun w' : World => w'.cell? ⟨gx, jx * 3, none⟩ = some (.int .i64 x.ts) ∧ w'.cell? ⟨gx, jx * 3 + 1, none⟩ = some (.slice x.A x.n x.c) ∧ w'.cell? ⟨gx, jx * 3 + 2, none⟩ = some (.string x.ln) ∧ w'.cell? ⟨gp, k * 3, none⟩ = some (.int .i64 y.ts) ∧ w'.cell? ⟨gp, k * 3 + 1, none⟩ = some (.slice y.A y.n y.c) ∧ w'.cell? ⟨gp, k * 3 + 2, none⟩ = some (.string y.ln) ∧ True) wz := ⟨(X1.out.below hbz).c0, (X1.out.below hbz).c1, (X1.out.below hbz).c2, (X2.out.below hbz).c0, (X2.out.below hbz).c1, (X2.out.below hbz).c2, trivial⟩
                        have HBZ := Lib.hid (hop HBd.out (Nat.le_refl _) hbz)
                        refine hK.out _ _ hSz (fun _ => ?_)
                        clear hK K hS hSz hbz X1 X2 HBd
                        try simp only [Act.put, pz1, pz2, pz3]
                        refine tV 11 ?_; refine tV 12 ?_
                        refine wpAnyH_done (by kernel_rfl) ?_ _
                        have hbz2 := Lib.hid (hop HBk.out (Nat.le_refl _) HBZ.out)
                        clear HBZ SM
                        go_wp2
                        go_round
                        case rel => exact ⟨k + 1, q, by omega, rfl, by go_num, HK2, hbz2⟩
                        case measure => first | (simp [intOf]; done) | (simp [intOf]; omega)
                    · have kI : ¬ (k : Int) < (m : Int) := by omega
                      obtain rfl : m = k := by omega
                      have hbo : bo = (decide (z ≤ x.b.ts) && decide (x.b.ts < hi)) := HK.out.symm.trans AN.out
                      have c1_ := (XX.out.below HBk.out).c0
                      replace HBv := Lib.hid (hop HBv.out (Nat.le_refl _) HBk.out)
                      have z0_ := (HBv.out.cell (p := ⟨g6, 0, none⟩) hlt6).trans Z0.out
                      have z1_ := (HBv.out.cell (p := ⟨g6, 1, none⟩) hlt6).trans Z1.out
                      obtain ⟨ts, hts⟩ : ∃ t, x.ts = t := ⟨_, rfl⟩
                      have hbo2 : bo = (decide (z ≤ ts) && decide (ts < hi)) := by rw [← hts]; exact hbo
                      rw [hts] at c1_
                      have ways : (z ≤ ts ∧ ts < hi ∧ bo = true) ∨ (z ≤ ts ∧ ¬ ts < hi ∧ bo = false) ∨ (¬ z ≤ ts ∧ bo = false) := by
                        by_cases q1 : z ≤ ts
                        · by_cases q2 : ts < hi
                          · exact .inl ⟨q1, q2, by rw [hbo2, decide_eq_true q1, decide_eq_true q2]; rfl⟩
                          · exact .inr (.inl ⟨q1, q2, by rw [hbo2, decide_eq_false q2, Bool.and_false]⟩)
                        · exact .inr (.inr ⟨q1, by rw [hbo2, decide_eq_false q1, Bool.false_and]⟩)
                      clear hbo hbo2 hts HK AN HBk
                      rcases ways with ⟨q1, q2, rfl⟩ | ⟨q1, q2, rfl⟩ | ⟨q1, rfl⟩
                      · have d1 : decide (ts ≥ z) = true := decide_eq_true q1
                        have d2 : decide (ts < hi) = true := decide_eq_true q2
                        have q1' : ts ≥ z := q1
                        go_wp2
                        go_quiet (fail)
                        generalize hw4 : World.drewN _ _ = w4
                        have HBO := Lib.hid (hop HBv.out (Nat.le_refl _) (show Below wr.heap.size wr w4 from by rw [← hw4]; exact below_drewN (Below.refl _ _) _))
                        clear hw4
                        go_wp2
                        go_round
                        case rel => exact ⟨jx + 1, by omega, by go_num, HBO⟩
                        case measure => first | (simp [intOf]; done) | (simp [intOf]; omega)
                      · have d1 : decide (ts ≥ z) = true := decide_eq_true q1
                        have d2 : decide (ts < hi) = false := decide_eq_false q2
                        have q1' : ts ≥ z := q1
                        go_wp2
                        go_quiet (fail)
                        generalize hw4 : World.drewN _ _ = w4
                        have HBO := Lib.hid (hop HBv.out (Nat.le_refl _) (show Below wr.heap.size wr w4 from by rw [← hw4]; exact below_drewN (Below.refl _ _) _))
                        clear hw4
                        go_wp2
                        go_round
                        case rel => exact ⟨jx + 1, by omega, by go_num, HBO⟩
                        case measure => first | (simp [intOf]; done) | (simp [intOf]; omega)
                      · have q1' : ¬ ts ≥ z := q1
                        have d1 : decide (ts ≥ z) = false := decide_eq_false q1'
                        go_wp2
                        go_quiet (fail)
                        generalize hw4 : World.drewN _ _ = w4
                        have HBO := Lib.hid (hop HBv.out (Nat.le_refl _) (show Below wr.heap.size wr w4 from by rw [← hw4]; exact below_drewN (Below.refl _ _) _))
                        clear hw4
                        go_wp2
                        go_round
                        case rel => exact ⟨jx + 1, by omega, by go_num, HBO⟩
                        case measure => first | (simp [intOf]; done) | (simp [intOf]; omega)
                · have jI : ¬ (jx : Int) < (ne : Int) := by omega
                  have HEND := Lib.hid (hop HB.out (Nat.le_refl _) HBv.out)
                  have hle : m ≤ ne := by
                    have h1 := WE.out.2
                    rwa [List.length_map, HPN.out, List.length_map, HNE.out] at h1
                  have pq : (m : Int) ≤ (ne : Int) := by omega
                  clear WE DN
                  go_wp2
                  go_ret
                  exact ⟨rfl, HEND.out⟩
end Go.Proofs.YtdaainifkldcpaaGreatDoor
