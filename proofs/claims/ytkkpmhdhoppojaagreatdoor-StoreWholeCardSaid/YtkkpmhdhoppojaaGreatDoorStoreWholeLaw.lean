-- shaken
import Derived.Test.YtkkpmhdhoppojaaGreatDoorStoWholeBase
import Derived.Test.YtkkpmhdhoppojaaGreatDoorReplyOpen
import Derived.Deep.LoopGhost
import Derived.Deep.DeepCutAuto
import Derived.Deep.CutBlock
import Derived.Outline
namespace Go.Proofs.YtkkpmhdhoppojaaGreatDoor
open Go.RowKit
set_option linter.unusedVariables false
set_option linter.unusedSimpArgs false
set_option maxRecDepth 100000 in
set_option maxHeartbeats 6400000 in
theorem storeWhole_walk {W : World} (A : Option Addr) (n c : Nat) (l : List ItemX) (lm : Int) (SA0 : Option Addr) (sn0 sc0 : Nat) (S0 : List RepB) (asc : Bool) (fr : Int) (lo_ : Int) (h1 : ItemsP W.heap.size W A n l) (hnc : n ≤ c) (hcm : c ≤ maxLen) (wlm : (Lit.int .u8 lm).wf = true) (hS : RowR RepB.V 2 W SA0 sn0 S0 ∧ ∀ r ∈ S0, numRep r) (hsc : sn0 ≤ sc0) (hsm : sc0 ≤ maxLen) (wfr : (Lit.int .i8 fr).wf = true) (wlo : (Lit.int .u8 lo_).wf = true) (hl : True) :
    Calls Tryz.prog 4 #[.slice A n c, .int .u8 lm, .slice SA0 sn0 sc0, .bool asc, .int .i8 fr, .int .u8 lo_] W fun e w' => e = .returned (.bool true) ∧ Below W.heap.size W w' := by
  unfold maxLen at hcm hsm
  have hn : n ≤ 9223372036854775807 := by omega
  have hsn : sn0 ≤ 9223372036854775807 := by omega
  have bl := bdu8 wlm
  have bo := bdu8 wlo
  have hfr : -128 ≤ fr ∧ fr ≤ 127 := by simpa [Lit.wf, IntKind.min, IntKind.max, IntKind.signed, IntKind.bits] using wfr
  obtain ⟨l5, hl5⟩ : ∃ z, lm.tmod 5 = z := ⟨_, rfl⟩
  have bl5 : 0 ≤ l5 ∧ l5 ≤ 4 := by rw [← hl5, Int.tmod_eq_emod_of_nonneg bl.1]; omega
  have hl5a : IntKind.u8.wrap l5 = l5 := by rw [IntKind.wrap_u8]; omega
  have hl5b : IntKind.i64.wrap l5 = l5 := by rw [IntKind.wrap_i64]; omega
  obtain ⟨o30, ho30⟩ : ∃ z, lo_.tmod 30 = z := ⟨_, rfl⟩
  have bo30 : 0 ≤ o30 ∧ o30 ≤ 29 := by rw [← ho30, Int.tmod_eq_emod_of_nonneg bo.1]; omega
  have ho30a : IntKind.u8.wrap o30 = o30 := by rw [IntKind.wrap_u8]; omega
  have ho30b : IntKind.i64.wrap o30 = o30 := by rw [IntKind.wrap_i64]; omega
  obtain ⟨z, hz⟩ : ∃ z, fr.tmod 14 = z := ⟨_, rfl⟩
  have hzb : -13 ≤ z ∧ z ≤ 13 := by
    rw [← hz]
    rcases Int.le_total 0 fr with h | h
    · rw [Int.tmod_eq_emod_of_nonneg h]; omega
    · have e : fr.tmod 14 = -((-fr) % 14) := by
        rw [← Int.tmod_eq_emod_of_nonneg (by omega), Int.neg_tmod, Int.neg_neg]
      rw [e]; omega
  have hz1 : IntKind.i8.wrap z = z := by rw [wrap_i8']; omega
  have hz2 : IntKind.i64.wrap z = z := by rw [IntKind.wrap_i64]; omega
  obtain ⟨lim, hlim⟩ : ∃ m, 1 + l5 = m := ⟨_, rfl⟩
  have blim : 1 ≤ lim ∧ lim ≤ 5 := by omega
  have hlimw : IntKind.i64.wrap lim = lim := by rw [IntKind.wrap_i64]; omega
  have hzp : IntKind.i64.wrap (z + 1) = z + 1 := by rw [IntKind.wrap_i64]; omega
  obtain ⟨hi, hhi⟩ : ∃ m, z + 1 + o30 = m := ⟨_, rfl⟩
  have bhi : z < hi ∧ hi ≤ 100 := by omega
  have hhiw : IntKind.i64.wrap hi = hi := by rw [IntKind.wrap_i64]; omega
  have H1 := Lib.hid h1
  have LN := Lib.hid (ownL_len l)
  have NX := Lib.hid (ownL_next l)
  have RE := Lib.hid (fun w (hw : Below W.heap.size W w) => replies_any SA0 sn0 sc0 S0 hsn w (hS.1.below hw) hS.2)
  have RS := Lib.hid (show ∀ r ∈ repsL S0 10, r.most ≤ 9223372036854775807 from fun r hr => by
    obtain ⟨r0, hr0, rfl⟩ := List.mem_map.1 hr
    have := tmod6 r0.most (hS.2 r0 (List.mem_of_mem_take hr0))
    show r0.most.tmod 6 ≤ _
    omega)
  have RL := Lib.hid (repsL_len S0 10)
  obtain ⟨R, hR⟩ : ∃ R, repsL S0 10 = R := ⟨_, rfl⟩
  rw [hR] at RE RS RL
  obtain ⟨i0, hinf, hi0, hi1, hi2⟩ := info_parts infoEntS
  have ALLR := Lib.hid (show ∀ j, ∀ e ∈ ownL l j, rightE e = true from fun j e he => by
    obtain ⟨x, hx, rfl⟩ := List.mem_map.1 he
    exact own_right (h1.2 x (List.mem_of_mem_take hx)))
  clear h1 wlm wlo wfr hl hnc hcm hS hsc hsm hR bl bo hfr
  go_enter Tryz.func4, Tryz.ntmps4
  go_wp2_with fail
  refine (examples14_any W).mono ?_
  rintro e w1 ⟨rfl, hb⟩
  have HB := Lib.hid hb
  clear hb
  go_upto_block 0 with fail
  go_cut [14] (fun av wx => ∃ L : List EntX, L.length ≤ 12 ∧ Hid (∀ e ∈ L.map EntX.b, rightE e = true) ∧ Hid (OwnE W.heap.size wx W.heap.size av L) ∧ Hid (Below W.heap.size W wx))
  case first =>
    have OE0 := Lib.hid (OwnE.nil W.heap.size w1 W.heap.size)
    have EQ0 := Lib.hid (show ([] : List EntX).map EntX.b = ownL l 0 from rfl)
    go_wp2_with fail
    go_loopw [14, 15] (fun av iv wr => ∃ (j : Nat) (L : List EntX), j ≤ n ∧ j ≤ 12 ∧ iv = .int .i64 (j : Nat) ∧ Hid (L.map EntX.b = ownL l j) ∧ Hid (OwnE W.heap.size wr W.heap.size av L) ∧ Hid (Below W.heap.size W wr)) (fun _ iv _ => 12 - (intOf iv).toNat)
    case atStart => exact ⟨0, [], Nat.zero_le _, Nat.zero_le _, rfl, EQ0, OE0, HB⟩
    case round =>
      clear OE0 EQ0 HB
      obtain ⟨j, L, hjn, hj12, rfl, EQ, OE, HB⟩ := hrel
      have hLl : L.length ≤ 12 := by
        have h3 := congrArg List.length EQ.out
        rw [List.length_map] at h3
        have := LN.out j
        omega
      by_cases hj : j < n ∧ j < 12
      · obtain ⟨g1, g2⟩ := hj
        have h2 := H1.out.below HB.out
        obtain ⟨b1, o1, hA, hlt1, hc1⟩ := h2.at_ (by omega)
        obtain ⟨⟨c1, c2, c3, c4, c5, c6, c7⟩, gI⟩ := hc1 j g1
        subst hA
        have hjl : j < l.length := by rw [h2.1.1]; exact g1
        have hks := NX.out j hjl
        obtain ⟨x, hx⟩ : ∃ p, l.getD j inil = p := ⟨_, rfl⟩
        rw [hx] at c1 c2 c3 c4 c5 c6 c7 hks gI
        have gI0 : GoodI W.heap.size W x := by
          refine H1.out.2 x ?_
          rw [← hx, List.getD_eq_getElem?_getD, List.getElem?_eq_getElem hjl]
          exact List.getElem_mem _
        have IT := Lib.hid (fun w (h : Below W.heap.size W w) => item_any W.heap.size (ownI x) w (ownI_good (gI0.below h)))
        have hjI : (j : Int) < (n : Int) := by omega
        have hjM : (j : Int) < 12 := by omega
        obtain ⟨bx, hbx⟩ : ∃ b, itemB (ownI x) = b := ⟨_, rfl⟩
        rw [hbx] at hks
        replace IT := IT.out
        simp only [hbx] at IT
        obtain ⟨⟨xt, xA, xn, xc, xs, xl⟩, ow, it, iA, inn, ic, lt, ik⟩ := x
        replace IT : Hid (∀ w, Below W.heap.size W w → Calls Tryz.prog 25 #[.agg #[.int .i64 xt, .slice xA xn xc, .string xl, .bool true, .int .i8 it, .slice iA inn ic, .int .u8 (ik : Int)]] w fun e w' => ∃ y : EntX, e = .returned y.val ∧ y.b = bx ∧ Good W.heap.size w' y ∧ Below w.heap.size w w') := Lib.hid IT
        dsimp only at c1 c2 c3 c4 c5 c6 c7
        have HKS := Lib.hid hks
        have OEA := Lib.hid (OE.out.alloc (.cells #[.int .i64 xt, .slice xA xn xc, .string xl, .bool true, .int .i8 it, .slice iA inn ic, .int .u8 (ik : Int)] 62))
        have HBA := Lib.hid (HB.out.alloc HB.out.size (.cells #[.int .i64 xt, .slice xA xn xc, .string xl, .bool true, .int .i8 it, .slice iA inn ic, .int .u8 (ik : Int)] 62))
        clear hks hx hc1 h2 hjl gI gI0 hbx OE
        go_wp2_with fail
        refine (IT.out _ HBA.out).mono ?_
        rintro e w3 ⟨y, rfl, hy, gy, hb⟩
        dsimp only [EntX.val]
        replace OEA := Lib.hid (OEA.out.below hb)
        replace HBA := Lib.hid (hop HBA.out (Nat.le_refl _) hb)
        have HY := Lib.hid hy
        have HGY := Lib.hid gy
        clear hb hy gy IT c1 c2 c3 c4 c5 c6 c7 HB
        go_wp2_with (at_builtin; refine wpList_append_lies _ rfl (.tmp 50) (.tmp 53) 27 rfl W.heap.size 56 i0 (.agg #[.int .i64 0, .slice none 0 0, .string ⟨#[]⟩]) 3 48 Tryz.underlying27 hinf hi0 hi1 hi2 rfl (by decide) _ _ _ rfl (OwnR.alloc OEA.out.1 (.cells #[.int .i64 y.ts, .slice y.A y.n y.c, .string y.ln] 56)) ⟨w3.heap.size, 0, none⟩ 1 1 (EntX.V y) rfl rfl (World.news_of_block (Blk.new _ _ _)) (entV_one y) (by decide) (by unfold maxLen; omega) (by omega) (by have := HBA.out.size; simp; omega) _ rfl ?_)
        intro g2' cap2 w4 hown hgrow hg' hlt2
        have OE4 := Lib.hid (OwnE.snoc (OEA.out.alloc (.cells #[.int .i64 y.ts, .slice y.A y.n y.c, .string y.ln] 56)) (HGY.out.below ((Below.refl _ _).alloc (Nat.le_refl _) (.cells #[.int .i64 y.ts, .slice y.A y.n y.c, .string y.ln] 56))) (Nat.le_refl _) hgrow hown)
        have HB4 := Lib.hid ((HBA.out.alloc HBA.out.size (.cells #[.int .i64 y.ts, .slice y.A y.n y.c, .string y.ln] 56)).grown hgrow (by have := HBA.out.size; simp; omega) (fun r hr => (World.ownsRow.lt OEA.out.1 r hr).1))
        have EQ4 := Lib.hid (show (L ++ [y]).map EntX.b = ownL l (j + 1) by rw [List.map_append, EQ.out, HKS.out, ← HY.out]; rfl)
        clear hown hgrow hg' hlt2 OEA HBA HGY HY EQ
        go_wp2
        go_round
        case rel => exact ⟨j + 1, _, by omega, by omega, by go_num, EQ4, OE4, HB4⟩
        case measure => first | (simp [intOf]; done) | (simp [intOf]; omega)
      · have hends : (¬ (j : Int) < (n : Int)) ∨ ((j : Int) < (n : Int) ∧ ¬ (j : Int) < 12) := by omega
        have AR := Lib.hid (show ∀ e ∈ L.map EntX.b, rightE e = true by rw [EQ.out]; exact ALLR.out j)
        rcases hends with e1 | ⟨e1, e2⟩
        all_goals
          go_wp2_with fail
          go_meet
          case rel => exact ⟨L, hLl, AR, OE, HB⟩
  case rest =>
    obtain ⟨L, hL12, AR, OE, HB⟩ := hcut
    clear H1 NX LN ALLR
    obtain ⟨EA, ec, hve⟩ := OwnR.shape OE.out.1
    subst hve
    obtain ⟨ne, hne⟩ : ∃ k, L.length = k := ⟨_, rfl⟩
    have HNE := Lib.hid hne
    rw [hne] at hL12 OE ⊢
    clear hne
    go_wp2_with fail
    refine (RE.out _ HB.out).mono ?_
    rintro e w2 ⟨sv, rfl, hso, hb⟩
    have hsb := HB.out.size
    replace OE := Lib.hid (OE.out.below hb)
    replace HB := Lib.hid (hop HB.out (Nat.le_refl _) hb)
    have SO0 := Lib.hid (show OwnR RepB.V 2 w2 W.heap.size 32 sv (clearL R 0) from by
      have e : clearL R 0 = R := rfl
      rw [e]
      exact OwnR.mono hso hsb)
    obtain ⟨SA, sc, hsv⟩ := OwnR.shape hso
    obtain ⟨ns, hns⟩ : ∃ k, R.length = k := ⟨_, rfl⟩
    rw [hns] at hsv
    subst hsv
    have HNS := Lib.hid hns
    have hns10 : ns ≤ 10 := by rw [← hns]; exact RL.out
    clear hso hns hb RE RL hsb
    go_wp2
    go_loopw [18] (fun iv wr => ∃ k : Nat, k ≤ ns ∧ iv = .int .i64 (k : Nat) ∧ Hid (OwnR RepB.V 2 wr W.heap.size 32 (.slice SA ns sc) (clearL R k)) ∧ Hid (OwnE W.heap.size wr W.heap.size (.slice EA ne ec) L) ∧ Hid (Below W.heap.size W wr)) (fun iv _ => ns - (intOf iv).toNat)
    case atStart => exact ⟨0, Nat.zero_le _, rfl, SO0, OE, HB⟩
    case round =>
      clear SO0 OE HB
      obtain ⟨k, hkn, rfl, SO, OE, HB⟩ := hrel
      by_cases hk : k < ns
      · have kI : (k : Int) < (ns : Int) := by omega
        obtain ⟨r, hr⟩ : ∃ r, R[k]? = some r := ⟨_, List.getElem?_eq_getElem (by rw [HNS.out]; exact hk)⟩
        have hat := clearL_at R k r hr
        have hnx := clearL_next R k r hr
        obtain ⟨gs, cs, hsv, _, hlt, _, hcc⟩ := OwnR.at_ repV_len SO.out (by rw [clearL_len R k (by rw [HNS.out]; omega), HNS.out]; omega)
        injection hsv with e1 e2 e3
        subst e1 e3
        obtain ⟨_, cur, hcur⟩ := own_row_type SO.out gs rfl
        have BK : Blk wr gs 32 cur := hcur
        have m0_ : wr.cell? ⟨gs, k * 2, none⟩ = some (.bool r.fail) := (hcc k 0 r hat (by decide)).trans rfl
        have f0_ := BK.frozen (k * 2)
        have SO2 := Lib.hid (show OwnR RepB.V 2 (wr.setCell ⟨gs, k * 2, none⟩ (.bool false)) W.heap.size 32 (.slice (some ⟨gs, 0, none⟩) ns sc) (clearL R (k + 1)) from by
          rw [← hnx]
          exact own_setV repV_len SO.out k 0 r ⟨false, r.most⟩ (.bool false) hat (by decide) rfl)
        have OE2 := Lib.hid (OE.out.fgT (Se.FG.set_ (b := gs) (k * 2) (.bool false)) (own_row_type SO.out gs rfl).1 BK (by decide) (by decide))
        have HB2 := Lib.hid (HB.out.setCell (p := ⟨gs, k * 2, none⟩) (own_row_type SO.out gs rfl).1 (.bool false))
        clear hr hat hnx hcc hcur BK SO OE HB e2 hlt
        go_wp2
        go_round
        case rel => exact ⟨k + 1, by omega, by go_num, SO2, OE2, HB2⟩
        case measure => first | (simp [intOf]; done) | (simp [intOf]; omega)
      · have kI : ¬ (k : Int) < (ns : Int) := by omega
        have kn : k = ns := by omega
        subst kn
        have hRR : clearL R k = R.map (fun r => (⟨false, r.most⟩ : RepB)) := by rw [← HNS.out]; exact clearL_all R
        obtain ⟨RR, hRRe⟩ : ∃ Q, R.map (fun r => (⟨false, r.most⟩ : RepB)) = Q := ⟨_, rfl⟩
        have CR := Lib.hid (fun i => clear_reply R i RS.out)
        rw [hRRe] at hRR CR
        have LRR : RR.length = k := by rw [← hRRe, List.length_map]; exact HNS.out
        rw [hRR] at SO
        obtain ⟨A2, c2, e, _, _, hrow⟩ := OwnR.open repV_len SO.out
        rw [LRR] at e hrow
        injection e with e _ e3
        subst e e3
        obtain ⟨A3, c3, e, _, _, hent⟩ := OE.out.ents
        rw [HNE.out] at e hent
        injection e with e _ e3
        subst e e3
        have NW := Lib.hid (new_any W.heap.size EA ne ec L SA k sc RR hL12 (by omega) wr hent hrow)
        have s1 := HB.out.size
        clear hrow hent hRR hRRe SO RS HNS
        go_wp2_with fail
        refine NW.out.mono ?_
        rintro e w3 ⟨b, L', rv, lv, rfl, hr, hbl, hp, hsd, hb⟩
        have hnew : newE (L.map EntX.b) = L.map EntX.b := List.filter_eq_self.2 AR.out
        rw [hnew] at hp
        have LR := Lib.hid (show ∀ x ∈ L', rightE x.b = true from fun x hx => AR.out _ (hp.mem_iff.1 (List.mem_map_of_mem hx)))
        have PM := Lib.hid hp
        have hl12 : L'.length ≤ 12 := by
          have h1 := hp.length_eq
          rw [List.length_map, List.length_map, HNE.out] at h1
          omega
        have SD := Lib.hid (show (L'.map EntX.b).Pairwise leB from List.pairwise_map.2 hsd)
        replace OE := Lib.hid (OE.out.below hb)
        replace HB := Lib.hid (hop HB.out (Nat.le_refl _) hb)
        have RP := Lib.hid hr
        have hWb : W.heap.size ≤ b := by omega
        clear hr hbl hp hsd hb NW hnew AR
        go_wp2_with fail
        refine (everyNone_any w3).mono ?_
        rintro e w4 ⟨rfl, hao, hb⟩
        have s4 := hb.size
        obtain ⟨ma, hma⟩ : ∃ g, w3.heap.size = g := ⟨_, rfl⟩
        rw [hma] at hao ⊢
        have bl := RP.out.blk.lt
        have nm : ma ≠ b := by omega
        have AO := Lib.hid hao
        replace RP := Lib.hid (RP.out.below hb)
        replace HB := Lib.hid (hop HB.out (Nat.le_refl _) hb)
        replace OE := Lib.hid (OE.out.below hb)
        have mal : ma < w4.heap.size := hao.lt
        clear hao hb hma
        have bl4 := RP.out.blk.lt
        have hW4 := HB.out.size
        obtain ⟨g6, hg6⟩ : ∃ g, w4.heap.size = g := ⟨_, rfl⟩
        have hb : Below w4.heap.size w4 (w4.alloc (.cells #[.int .i64 z, .int .i64 hi, .bool asc, .int .i64 lim, .bool false, .int .i64 0, .slice none 0 0, .string ⟨#[]⟩] 58)) := (Below.refl _ _).alloc (Nat.le_refl _) _
        have K6 := Lib.hid (show Blk (w4.alloc (.cells #[.int .i64 z, .int .i64 hi, .bool asc, .int .i64 lim, .bool false, .int .i64 0, .slice none 0 0, .string ⟨#[]⟩] 58)) g6 58 #[.int .i64 z, .int .i64 hi, .bool asc, .int .i64 lim, .bool false, .int .i64 0, .slice none 0 0, .string ⟨#[]⟩] by rw [← hg6]; exact Blk.new _ _ _)
        have n6 : g6 ≠ b := by omega
        have nma : ma ≠ g6 := by omega
        have hW6 : W.heap.size ≤ g6 := by omega
        obtain ⟨w5, hw5⟩ : ∃ z_, w4.alloc (.cells #[.int .i64 z, .int .i64 hi, .bool asc, .int .i64 lim, .bool false, .int .i64 0, .slice none 0 0, .string ⟨#[]⟩] 58) = z_ := ⟨_, rfl⟩
        rw [hw5] at hb K6
        replace RP := Lib.hid (RP.out.below hb)
        replace AO := Lib.hid (AO.out.below hb AO.out.lt)
        replace HB := Lib.hid (hop HB.out (Nat.le_refl _) hb)
        replace OE := Lib.hid (OE.out.below hb)
        have HW5 := Lib.hid hw5
        have HG6 := Lib.hid hg6
        clear hb hw5 hg6 bl4 bl s4 mal s1 hW4
        obtain ⟨M, hM⟩ : ∃ M, L'.map EntX.b = M := ⟨_, rfl⟩
        rw [hM] at SD PM
        obtain ⟨F, hF⟩ : ∃ F, (dirL asc M).filter (inT z hi) = F := ⟨_, rfl⟩
        have FS := Lib.hid (show F.Pairwise (leD asc) by rw [← hF]; exact (dir_sorted asc SD.out).filter _)
        have hM12 : M.length ≤ 12 := by rw [← hM, List.length_map]; exact hl12
        have SW0 := Lib.hid (show StepW F M z hi asc lim false ⟨0, [], ⟨#[]⟩⟩ [] 0 F from
          ⟨Whole.start F asc FS.out, by rw [met_in, hF], by
            have h1 : F.length ≤ (dirL asc M).length := by rw [← hF]; exact List.length_filter_le _ _
            rw [dirL_len] at h1
            omega⟩)
        have HF := Lib.hid hF.symm
        have HM := Lib.hid hM
        clear hM hF SD
        have hW2 := HB.out.size
        obtain ⟨GB, hGB⟩ : ∃ g, w5.heap.size = g := ⟨_, rfl⟩
        have HG0 := Lib.hid (show GB ≤ w5.heap.size by omega)
        have HWG := Lib.hid (show W.heap.size ≤ GB by omega)
        have TT0 := Lib.hid (OwnE.nil 0 w5 GB)
        have GA0 := Lib.hid (good_nilS w5 0 ⟨#[]⟩ (by decide) (by decide))
        have LVB := Lib.hid (show ∀ g, lv.ownBlock = some g → g < GB from fun g hg => by rw [← hGB]; exact (World.ownsRow.lt RP.out.ent.1 g hg).2)
        have LEB := Lib.hid (show ∀ g, (Value.slice EA ne ec).ownBlock = some g → g < GB from fun g hg => by rw [← hGB]; exact (World.ownsRow.lt OE.out.1 g hg).2)
        obtain ⟨BB, hBB⟩ : ∃ B, wr.heap.size = B := ⟨_, rfl⟩
        rw [hBB] at RP
        clear hBB hGB hW2
        go_wp2
        rw [HW5.out, HG6.out]
        clear HW5 HG6
        go_loopg [23, 24] (F.length + 1) (fun gk tv mv wr => ∃ (T : List EntX) (rem : List EntB) (has : Bool) (ats : Int) (aA : Option Addr) (an ac : Nat) (als : List PairB) (aln : ByteArray) (k : Nat) (more : Bool), mv = .bool more ∧ T.length ≤ 5 * k ∧ k ≤ 13 ∧ Hid (OwnE 0 wr GB tv T) ∧ Hid (Blk wr g6 58 #[.int .i64 z, .int .i64 hi, .bool asc, .int .i64 lim, .bool has, .int .i64 ats, .slice aA an ac, .string aln]) ∧ Hid (Good 0 wr ⟨ats, aA, an, ac, als, aln⟩) ∧ Hid (RepP BB wr b RR k L' rv lv) ∧ Hid (Blk wr ma 106 #[.slice none 0 0]) ∧ Hid (OwnE W.heap.size wr W.heap.size (.slice EA ne ec) L) ∧ Hid (Below W.heap.size W wr) ∧ Hid (GB ≤ wr.heap.size) ∧ Hid ((more = true → StepW F M z hi asc lim has ⟨ats, als, aln⟩ (T.map EntX.b) k rem ∧ gk = rem.length + 1) ∧ (more = false → DoneW F asc (T.map EntX.b) ∧ gk = 0)))
        case atStart => exact ⟨[], F, false, 0, none, 0, 0, [], ⟨#[]⟩, 0, true, rfl, Nat.zero_le _, Nat.zero_le _, TT0, K6, GA0, RP, AO, OE, HB, HG0, Lib.hid ⟨fun _ => ⟨SW0.out, rfl⟩, fun h => by cases h⟩⟩
        case round =>
          clear TT0 K6 GA0 RP AO OE HB HG0 SW0
          obtain ⟨T, rem, has, ats, aA, an, ac, als, aln, k, more, rfl, hT5, hk13, TT, K6, GA, RP, AO, OE, HB, HG, SW⟩ := hrel
          have hsz := HB.out.size
          obtain ⟨tA, tc, htv⟩ := OwnR.shape TT.out.1
          subst htv
          have LTT := Lib.hid (show ∀ g, (Value.slice tA T.length tc).ownBlock = some g → g < wr.heap.size from fun g hg => (World.ownsRow.lt TT.out.1 g hg).2)
          cases more with
          | true =>
            have SS := Lib.hid (SW.out.1 rfl).1
            have GK := Lib.hid (SW.out.1 rfl).2
            have hk12 : k ≤ 12 := by have := SS.out.num; omega
            have har : askR (AskX.b ⟨z, hi, asc, lim, has, ⟨ats, aA, an, ac, als, aln⟩⟩) = true := by
              show (decide (z < hi) && decide (1 ≤ lim)) = true
              rw [decide_eq_true bhi.1, decide_eq_true blim.1]
              rfl
            have HAR := Lib.hid har
            obtain ⟨mI, hmI⟩ : ∃ m, mostOf lim (replyAt RR k) = m := ⟨_, rfl⟩
            have hm1 : 1 ≤ mI := by rw [← hmI]; exact mostOf_pos blim.1
            have hm2 : mI ≤ lim := by rw [← hmI]; exact mostOf_hi
            have HMI := Lib.hid hmI
            obtain ⟨N, hN⟩ : ∃ N, rem.take mI.toNat = N := ⟨_, rfl⟩
            obtain ⟨mb, hmb⟩ : ∃ q, decide (mI.toNat < rem.length) = q := ⟨_, rfl⟩
            have HT1 := Lib.hid (show tellL (fun _ => true) (AskX.b ⟨z, hi, asc, lim, has, ⟨ats, aA, an, ac, als, aln⟩⟩) mI (L'.map EntX.b) = N by
              unfold tellL
              rw [HM.out]
              show (metL (fun _ => true) ⟨z, hi, asc, lim, has, ⟨ats, als, aln⟩⟩ M).take mI.toNat = N
              rw [← SS.out.met, hN])
            have HT2 := Lib.hid (show moreL (fun _ => true) (AskX.b ⟨z, hi, asc, lim, has, ⟨ats, aA, an, ac, als, aln⟩⟩) mI (L'.map EntX.b) = mb by
              unfold moreL
              rw [HM.out]
              show decide (mI.toNat < (metL (fun _ => true) ⟨z, hi, asc, lim, has, ⟨ats, als, aln⟩⟩ M).length) = mb
              rw [← SS.out.met, hmb])
            have HNN := Lib.hid hN
            have HMB := Lib.hid hmb
            clear har hmI hN hmb SW
            have a0_ : wr.cell? ⟨g6, 0, none⟩ = some (.int .i64 z) := (K6.out.cell 0).trans rfl
            have a1_ : wr.cell? ⟨g6, 1, none⟩ = some (.int .i64 hi) := (K6.out.cell 1).trans rfl
            have a2_ : wr.cell? ⟨g6, 2, none⟩ = some (.bool asc) := (K6.out.cell 2).trans rfl
            have a3_ : wr.cell? ⟨g6, 3, none⟩ = some (.int .i64 lim) := (K6.out.cell 3).trans rfl
            have a4_ : wr.cell? ⟨g6, 4, none⟩ = some (.bool has) := (K6.out.cell 4).trans rfl
            have a5_ : wr.cell? ⟨g6, 5, none⟩ = some (.int .i64 ats) := (K6.out.cell 5).trans rfl
            have a6_ : wr.cell? ⟨g6, 6, none⟩ = some (.slice aA an ac) := (K6.out.cell 6).trans rfl
            have a7_ : wr.cell? ⟨g6, 7, none⟩ = some (.string aln) := (K6.out.cell 7).trans rfl
            go_wp2_with fail
            refine (show Calls Tryz.prog 18 #[.pointer (some ⟨b, 0, none⟩), .agg #[.int .i64 z, .int .i64 hi, .bool asc, .int .i64 lim, .bool has, .int .i64 ats, .slice aA an ac, .string aln], .pointer (some ⟨ma, 0, none⟩)] wr _ from range_lit BB 0 b RR k L' rv lv _ (fun _ => true) _ (none_test b ma) ⟨z, hi, asc, lim, has, ⟨ats, aA, an, ac, als, aln⟩⟩ (by omega) (by rw [LRR]; omega) (by omega) LR.out wr RP.out AO.out GA.out (Nat.zero_le _) HAR.out (by show lim ≤ 9223372036854775807; omega) (CR.out k).2 (CR.out k).1 mI HMI.out N mb HT1.out HT2.out).mono ?_
            rintro e w6 ⟨vp, Lt, rfl, ho, hm, hr, hf⟩
            replace TT := Lib.hid (TT.out.fgT hf (Nat.zero_le _) RP.out.blk rep_not_ent rep_not_pair)
            replace K6 := Lib.hid (K6.out.fg hf n6)
            replace GA := Lib.hid (GA.out.fgT hf (Nat.zero_le _) RP.out.blk rep_not_pair)
            replace AO := Lib.hid (AO.out.fg hf nm)
            replace OE := Lib.hid (OE.out.fgT hf hWb RP.out.blk rep_not_ent rep_not_pair)
            replace HB := Lib.hid (Se.FG.below hf HB.out hWb hsz)
            replace HG := Lib.hid (Nat.le_trans HG.out hf.size)
            replace RP := Lib.hid hr
            have PP := Lib.hid ho
            have PM := Lib.hid hm
            have hLN : Lt.length = N.length := by rw [← hm, List.length_map]
            have hN5 : N.length ≤ mI.toNat := by rw [← HNN.out, List.length_take]; omega
            have hNr : N.length ≤ rem.length := by rw [← HNN.out, List.length_take]; omega
            clear hr hf ho hm HT1 HT2 HAR HMI a0_ a1_ a2_ a3_ a4_ a5_ a6_ a7_
            obtain ⟨pA0, pc0, hpv⟩ := OwnR.shape PP.out.1
            subst hpv
            obtain ⟨q, hq⟩ : ∃ q, Lt.length = q := ⟨_, rfl⟩
            have HQ := Lib.hid hq
            have a3_ : w6.cell? ⟨g6, 3, none⟩ = some (.int .i64 lim) := (K6.out.cell 3).trans rfl
            have hqn : q = N.length := by omega
            have hql : ¬ (q : Int) > lim := by omega
            have hql2 : ¬ lim < (q : Int) := by omega
            have CAL := Lib.hid (calls_any BB b RR (k + 1) L' rv lv w6 RP.out)
            have hk20 : ¬ (((k + 1 : Nat)) : Int) > 20 := by omega
            have hk21 : ¬ (20 : Int) < (((k + 1 : Nat)) : Int) := by omega
            obtain ⟨kk, hkk⟩ : ∃ m : Int, (((k + 1 : Nat)) : Int) = m := ⟨_, rfl⟩
            rw [hkk] at CAL hk20 hk21
            rw [hq] at PP ⊢
            have hT70 : T.length ≤ 60 := by omega
            have hq5 : q ≤ 5 := by omega
            clear hkk hq
            rcases Nat.eq_zero_or_pos q with q0 | q0
            · -- nothing more
              have hrem : rem = [] := by
                apply List.eq_nil_of_length_eq_zero
                have h1 : N.length = min mI.toNat rem.length := by rw [← HNN.out, List.length_take]
                omega
              have hmbf : mb = false := by rw [← HMB.out, hrem]; exact decide_eq_false (by simp)
              subst hmbf q0
              clear hqn hLN hN5 hNr
              have DN := Lib.hid (show DoneW F asc ((T ++ Lt).map EntX.b) from by
                have h1 : Lt = [] := List.eq_nil_of_length_eq_zero HQ.out
                rw [h1, List.append_nil]
                have h2 := SS.out.whole.last
                rw [hrem, List.append_nil] at h2
                exact h2)
              go_wp2_with fail
              refine CAL.out.mono ?_
              rintro e _ ⟨rfl, rfl⟩
              clear a3_ CAL
              go_wp2_with (at_builtin; refine wpList_append_rows rfl (.tmp 132) (.tmp 133) 27 rfl GB 56 i0 (.agg #[.int .i64 0, .slice none 0 0, .string ⟨#[]⟩]) 3 48 Tryz.underlying27 hinf hi0 hi1 hi2 rfl (by decide) _ _ _ rfl TT.out.1 _ _ _ _ rfl PP.out.1 (entV_ones _) (by have := HQ.out; unfold maxLen; omega) (by have := HQ.out; omega) HG.out ?_)
              intro t7 w7 hown hgrow hvb
              rw [HQ.out] at hown
              have hol := own_row_type TT.out.1
              have K6n := Lib.hid (show Blk w7 g6 58 #[.int .i64 z, .int .i64 hi, .bool asc, .int .i64 lim, .bool has, .int .i64 ats, .slice aA an ac, .string aln] from (hgrow.block g6 K6.out.lt (fun e => by obtain ⟨_, cur, h2⟩ := hol _ e.symm; have h3 := K6.out; unfold Blk at h3; rw [h2] at h3; injection h3 with h3; injection h3 with _ h3 _; exact absurd h3 (by decide))).trans K6.out)
              have AOn := Lib.hid (show Blk w7 ma 106 #[.slice none 0 0] from (hgrow.block ma AO.out.lt (fun e => by obtain ⟨_, cur, h2⟩ := hol _ e.symm; have h3 := AO.out; unfold Blk at h3; rw [h2] at h3; injection h3 with h3; injection h3 with _ h3 _; exact absurd h3 (by decide))).trans AO.out)
              have GAn := Lib.hid (GA.out.kept TT.out.1 (Nat.zero_le _) hgrow)
              have RPn := Lib.hid (show RepP BB w7 b RR (k + 1) L' rv lv from ⟨(hgrow.block b RP.out.blk.lt (fun e => by obtain ⟨_, cur, h2⟩ := hol _ e.symm; have h3 := RP.out.blk; unfold Blk at h3; rw [h2] at h3; injection h3 with h3; injection h3 with _ h3 _; exact absurd h3 (by decide))).trans RP.out.blk,
                OwnR.grew2 RP.out.rep hgrow (fun g e1 e2 => by obtain ⟨_, cur, h2⟩ := hol _ e2; obtain ⟨_, cur2, h4⟩ := own_row_type RP.out.rep _ e1; rw [h2] at h4; injection h4 with h4; injection h4 with _ h4 _; exact absurd h4 (by decide)),
                ⟨OwnR.grew2 RP.out.ent.1 hgrow (fun g e1 e2 => by have := (hol g e2).1; have := LVB.out g e1; omega), fun x hx => (RP.out.ent.2 x hx).kept TT.out.1 (Nat.zero_le _) hgrow⟩, RP.out.low⟩)
              have OEn := Lib.hid (show OwnE W.heap.size w7 W.heap.size (.slice EA ne ec) L from ⟨OwnR.grew2 OE.out.1 hgrow (fun g e1 e2 => by have := (hol g e2).1; have := LEB.out g e1; omega), fun x hx => (OE.out.2 x hx).kept TT.out.1 HWG.out hgrow⟩)
              have PPn := Lib.hid (show OwnE 0 w7 _ _ Lt from ⟨OwnR.grew2 PP.out.1 hgrow (fun g e1 e2 => by have := LTT.out g e2; have := (World.ownsRow.lt PP.out.1 g e1).1; omega), fun x hx => (PP.out.2 x hx).kept TT.out.1 (Nat.zero_le _) hgrow⟩)
              have TTn := Lib.hid (show OwnE 0 w7 GB t7 (T ++ Lt) from OwnE.snocs TT.out PP.out.2 (Nat.zero_le _) hgrow (by first | exact hown | (rw [HQ.out]; exact hown)))
              have HBn := Lib.hid (HB.out.grown hgrow HB.out.size (fun r hr => Nat.le_trans HWG.out (hol r hr).1))
              have HGn := Lib.hid (Nat.le_trans HG.out hgrow.size)
              clear hown hgrow hvb hol TT PP K6 AO GA RP OE HB HG
              go_wp2
              go_roundg 0
              case measure => have := GK.out; omega
              case rel => exact ⟨T ++ Lt, [], has, ats, aA, an, ac, als, aln, k + 1, false, rfl, by rw [List.length_append, HQ.out]; omega, by omega, TTn, K6n, GAn, RPn, AOn, OEn, HBn, HGn, Lib.hid ⟨(fun h => by cases h), (fun _ => ⟨DN.out, rfl⟩)⟩⟩
            · obtain ⟨i, hi_⟩ : ∃ i, q = i + 1 := ⟨q - 1, by omega⟩
              have HI := Lib.hid hi_
              have hNe : rem ≠ [] := fun e => by
                have h1 : rem.length = 0 := by rw [e]; rfl
                omega
              clear hqn hLN hN5 hNr
              obtain ⟨P, x, hPx⟩ : ∃ P x, Lt = P ++ [x] := by
                have h3 : Lt ≠ [] := fun e => by have := HQ.out; rw [e] at this; simp at this; omega
                exact ⟨_, _, (List.dropLast_concat_getLast h3).symm⟩
              have hPl : P.length = i := by have := HQ.out; rw [hPx, List.length_append, List.length_singleton] at this; omega
              have hxi : Lt[i]? = some x := by rw [hPx, List.getElem?_append_right (by omega), hPl, Nat.sub_self]; rfl
              have hNx : N = P.map EntX.b ++ [x.b] := by rw [← PM.out, hPx, List.map_append]; rfl
              have FINW := Lib.hid (show (mb = true → StepW F M z hi asc lim true x.b ((T ++ Lt).map EntX.b) (k + 1) (F.filter fun e => aheadB x.b e asc) ∧ (F.filter fun e => aheadB x.b e asc).length < rem.length) ∧ (mb = false → DoneW F asc ((T ++ Lt).map EntX.b)) from by
                have e1 : (T ++ Lt).map EntX.b = T.map EntX.b ++ (P.map EntX.b ++ [x.b]) := by rw [List.map_append, ← hNx, ← PM.out]
                refine ⟨fun _ => ?_, fun h => ?_⟩
                · rw [e1]
                  refine ⟨SS.out.next HF.out FS.out mI.toNat (by rw [HNN.out, hNx]), ?_⟩
                  exact (SS.out.whole.next (p := P.map EntX.b) (l := x.b) (r := rem.drop mI.toNat) (by rw [← hNx, ← HNN.out, List.take_append_drop]) FS.out).2
                · rw [List.map_append, PM.out]
                  have h1 : N = rem := by
                    rw [← HMB.out, decide_eq_false_iff_not] at h
                    rw [← HNN.out]
                    exact List.take_of_length_le (by omega)
                  rw [h1]
                  exact SS.out.whole.last)
              have PX := Lib.hid hxi
              clear hPx hPl hxi hNx hNe hi_
              have q0I : ((q : Int) == 0) = false := by rw [beq_eq_false_iff_ne]; omega
              have q0J : ¬ (q : Int) = 0 := by omega
              have q1I : (0 : Int) < (q : Int) := by omega
              have q2I : (q : Int) > 0 := by omega
              have hwi : IntKind.i64.wrap ((q : Int) - 1) = (i : Int) := by have := HI.out; rw [IntKind.wrap_i64]; omega
              obtain ⟨gk2, ew, hg2⟩ : ∃ g, EndW F M z hi asc lim mb true x.b ((T ++ Lt).map EntX.b) (k + 1) (F.filter fun e => aheadB x.b e asc) g ∧ g < rem.length + 1 := by
                cases mb with
                | true => exact ⟨(F.filter fun e => aheadB x.b e asc).length + 1, ⟨(fun h => ⟨(FINW.out.1 h).1, rfl⟩), (fun h => by cases h)⟩, by have := (FINW.out.1 rfl).2; omega⟩
                | false => exact ⟨0, ⟨(fun h => by cases h), (fun h => ⟨FINW.out.2 h, rfl⟩)⟩, by omega⟩
              have EW := Lib.hid ew
              have HG2 := Lib.hid hg2
              clear ew hg2 FINW
              cases mb
              all_goals
                go_wp2_with fail
                refine CAL.out.mono ?_
                rintro e _ ⟨rfl, rfl⟩
                clear a3_ CAL
                go_wp2_with (at_builtin; refine wpList_append_rows rfl (.tmp 132) (.tmp 133) 27 rfl GB 56 i0 (.agg #[.int .i64 0, .slice none 0 0, .string ⟨#[]⟩]) 3 48 Tryz.underlying27 hinf hi0 hi1 hi2 rfl (by decide) _ _ _ rfl TT.out.1 _ _ _ _ rfl PP.out.1 (entV_ones _) (by have := HQ.out; unfold maxLen; omega) (by have := HQ.out; omega) HG.out ?_)
                intro t7 w7 hown hgrow hvb
                have hol := own_row_type TT.out.1
                have K6n := Lib.hid (show Blk w7 g6 58 #[.int .i64 z, .int .i64 hi, .bool asc, .int .i64 lim, .bool has, .int .i64 ats, .slice aA an ac, .string aln] from (hgrow.block g6 K6.out.lt (fun e => by obtain ⟨_, cur, h2⟩ := hol _ e.symm; have h3 := K6.out; unfold Blk at h3; rw [h2] at h3; injection h3 with h3; injection h3 with _ h3 _; exact absurd h3 (by decide))).trans K6.out)
                have AOn := Lib.hid (show Blk w7 ma 106 #[.slice none 0 0] from (hgrow.block ma AO.out.lt (fun e => by obtain ⟨_, cur, h2⟩ := hol _ e.symm; have h3 := AO.out; unfold Blk at h3; rw [h2] at h3; injection h3 with h3; injection h3 with _ h3 _; exact absurd h3 (by decide))).trans AO.out)
                have GAn := Lib.hid (GA.out.kept TT.out.1 (Nat.zero_le _) hgrow)
                have RPn := Lib.hid (show RepP BB w7 b RR (k + 1) L' rv lv from ⟨(hgrow.block b RP.out.blk.lt (fun e => by obtain ⟨_, cur, h2⟩ := hol _ e.symm; have h3 := RP.out.blk; unfold Blk at h3; rw [h2] at h3; injection h3 with h3; injection h3 with _ h3 _; exact absurd h3 (by decide))).trans RP.out.blk,
                  OwnR.grew2 RP.out.rep hgrow (fun g e1 e2 => by obtain ⟨_, cur, h2⟩ := hol _ e2; obtain ⟨_, cur2, h4⟩ := own_row_type RP.out.rep _ e1; rw [h2] at h4; injection h4 with h4; injection h4 with _ h4 _; exact absurd h4 (by decide)),
                  ⟨OwnR.grew2 RP.out.ent.1 hgrow (fun g e1 e2 => by have := (hol g e2).1; have := LVB.out g e1; omega), fun x hx => (RP.out.ent.2 x hx).kept TT.out.1 (Nat.zero_le _) hgrow⟩, RP.out.low⟩)
                have OEn := Lib.hid (show OwnE W.heap.size w7 W.heap.size (.slice EA ne ec) L from ⟨OwnR.grew2 OE.out.1 hgrow (fun g e1 e2 => by have := (hol g e2).1; have := LEB.out g e1; omega), fun x hx => (OE.out.2 x hx).kept TT.out.1 HWG.out hgrow⟩)
                have PPn := Lib.hid (show OwnE 0 w7 _ _ Lt from ⟨OwnR.grew2 PP.out.1 hgrow (fun g e1 e2 => by have := LTT.out g e2; have := (World.ownsRow.lt PP.out.1 g e1).1; omega), fun x hx => (PP.out.2 x hx).kept TT.out.1 (Nat.zero_le _) hgrow⟩)
                have TTn := Lib.hid (show OwnE 0 w7 GB t7 (T ++ Lt) from OwnE.snocs TT.out PP.out.2 (Nat.zero_le _) hgrow (by first | exact hown | (rw [HQ.out]; exact hown)))
                have HBn := Lib.hid (HB.out.grown hgrow HB.out.size (fun r hr => Nat.le_trans HWG.out (hol r hr).1))
                have HGn := Lib.hid (Nat.le_trans HG.out hgrow.size)
                clear hown hgrow hvb hol TT PP K6 AO GA RP OE HB HG
                obtain ⟨gp, cp, hpe, _, hplt, _, hpc⟩ := OwnR.at_ entV_len PPn.out.1 (by rw [HQ.out]; omega)
                injection hpe with e1 e2 e3
                subst e1 e3
                obtain ⟨_, curp, hcurp⟩ := own_row_type PPn.out.1 gp rfl
                have BKp : Blk w7 gp 56 curp := hcurp
                have hgp6 : gp ≠ g6 := fun e => by
                  have h3 := K6n.out
                  unfold Blk at h3 BKp
                  rw [← e, BKp] at h3
                  injection h3 with h3
                  injection h3 with _ h3 _
                  exact absurd h3 (by decide)
                have GX := Lib.hid (PPn.out.2 x (List.mem_of_getElem? PX.out))
                have p0 := hpc i 0 x PX.out (by decide)
                have p1 := hpc i 1 x PX.out (by decide)
                have p2 := hpc i 2 x PX.out (by decide)
                obtain ⟨pt, pA, pn, pc, ps, pl⟩ := x
                have BK4 := BKp.far (p := ⟨g6, 4, none⟩) (by show gp ≠ g6; exact hgp6) (.bool true)
                have p0_ : (w7.setCell ⟨g6, 4, none⟩ (.bool true)).cell? ⟨gp, i * 3, none⟩ = some (.int .i64 pt) := ((BK4.cell _).trans (BKp.cell _).symm).trans p0
                have p1_ : (w7.setCell ⟨g6, 4, none⟩ (.bool true)).cell? ⟨gp, i * 3 + 1, none⟩ = some (.slice pA pn pc) := ((BK4.cell _).trans (BKp.cell _).symm).trans p1
                have p2_ : (w7.setCell ⟨g6, 4, none⟩ (.bool true)).cell? ⟨gp, i * 3 + 2, none⟩ = some (.string pl) := ((BK4.cell _).trans (BKp.cell _).symm).trans p2
                have k6 := K6n.out
                have k1 := k6.set_ 4 (.bool true)
                have g0_ : w7.cell? ⟨g6, 4, none⟩ = some (.bool has) := (k6.cell 4).trans rfl
                have g1_ := k6.frozen 4
                have h5_ : (w7.setCell ⟨g6, 4, none⟩ (.bool true)).cell? ⟨g6, 5, none⟩ = some (.int .i64 ats) := (k1.cell 5).trans rfl
                have h6_ : (w7.setCell ⟨g6, 4, none⟩ (.bool true)).cell? ⟨g6, 6, none⟩ = some (.slice aA an ac) := (k1.cell 6).trans rfl
                have h7_ : (w7.setCell ⟨g6, 4, none⟩ (.bool true)).cell? ⟨g6, 7, none⟩ = some (.string aln) := (k1.cell 7).trans rfl
                have i5_ := k1.frozen 5
                have i6_ := k1.frozen 6
                have i7_ := k1.frozen 7
                have s1 := Se.FG.set_ (b := g6) (w := w7) 4 (.bool true)
                have s2 := Se.FG.set_ (b := g6) (w := w7.setCell ⟨g6, 4, none⟩ (.bool true)) 5 (.int .i64 pt)
                have s3 := Se.FG.set_ (b := g6) (w := (w7.setCell ⟨g6, 4, none⟩ (.bool true)).setCell ⟨g6, 5, none⟩ (.int .i64 pt)) 6 (.slice pA pn pc)
                have s4 := Se.FG.set_ (b := g6) (w := ((w7.setCell ⟨g6, 4, none⟩ (.bool true)).setCell ⟨g6, 5, none⟩ (.int .i64 pt)).setCell ⟨g6, 6, none⟩ (.slice pA pn pc)) 7 (.string pl)
                have hf := ((s1.trans s2).trans s3).trans s4
                have K6f := Lib.hid (show Blk ((((w7.setCell ⟨g6, 4, none⟩ (.bool true)).setCell ⟨g6, 5, none⟩ (.int .i64 pt)).setCell ⟨g6, 6, none⟩ (.slice pA pn pc)).setCell ⟨g6, 7, none⟩ (.string pl)) g6 58 #[.int .i64 z, .int .i64 hi, .bool asc, .int .i64 lim, .bool true, .int .i64 pt, .slice pA pn pc, .string pl] from ((k1.set_ 5 (.int .i64 pt)).set_ 6 (.slice pA pn pc)).set_ 7 (.string pl))
                have TTf := Lib.hid (TTn.out.fgT hf (Nat.zero_le _) k6 (by decide) (by decide))
                have GAf := Lib.hid (GX.out.fgT hf (Nat.zero_le _) k6 (by decide))
                have RPf := Lib.hid (RPn.out.fg hf k6 (fun e => n6 e.symm) (by decide) (by decide) (by decide))
                have AOf := Lib.hid (AOn.out.fg hf nma)
                have OEf := Lib.hid (OEn.out.fgT hf hW6 k6 (by decide) (by decide))
                have HBf := Lib.hid (Se.FG.below hf HBn.out hW6 (by have := HBn.out.size; omega))
                have HGf := Lib.hid (Nat.le_trans HGn.out hf.size)
                have in1 : (i : Int) < (q : Int) := by have := HI.out; omega
                have in0 : (0 : Int) ≤ (i : Int) := by omega
                clear hpc hcurp BKp BK4 p0 p1 p2 k6 k1 s1 s2 s3 s4 hf K6n TTn GAn RPn AOn OEn HBn HGn PPn GX hplt e2
                go_wp2
                go_roundg gk2
                case measure => have h1 := GK.out; have h3 := HG2.out; omega
                case rel => exact ⟨T ++ Lt, F.filter fun e => aheadB (EntX.b ⟨pt, pA, pn, pc, ps, pl⟩) e asc, true, pt, pA, pn, pc, ps, pl, k + 1, _, rfl, by rw [List.length_append, HQ.out]; omega, by omega, TTf, K6f, GAf, RPf, AOf, OEf, HBf, HGf, Lib.hid ⟨EW.out.yes, EW.out.no⟩⟩
          | false =>
            have DN := Lib.hid (SW.out.2 rfl).1
            clear SW LTT LVB LEB HWG CR
            obtain ⟨_, _, e1, _, _, HT⟩ := TT.out.ents
            injection e1 with e1 _ e3
            subst e1 e3
            obtain ⟨_, _, e1, _, _, HE⟩ := OE.out.ents
            rw [HNE.out] at e1 HE
            injection e1 with e1 _ e3
            subst e1 e3
            obtain ⟨m, hm⟩ : ∃ m, T.length = m := ⟨_, rfl⟩
            rw [hm] at HT ⊢
            have m65 : m ≤ 65 := by omega
            have HTM := Lib.hid hm
            have SRT := Lib.hid (sorted_dir asc T DN.out.1)
            have HT0 := Lib.hid HT
            have HE0 := Lib.hid HE
            have hlt6 := K6.out.lt
            clear hm HT HE TT OE RP AO GA
            go_wp2_with fail
            refine (entSorted_any asc _ m _ T (by omega) _ _ HT0.out).mono ?_
            rintro e w8 ⟨rfl, hb⟩
            rw [SRT.out]
            have HT8 := Lib.hid (HT0.out.below hb)
            have HE8 := Lib.hid (HE0.out.below hb)
            have hlt6' : g6 < w8.heap.size := Nat.lt_of_lt_of_le hlt6 hb.size
            have Z0 := Lib.hid (show w8.cell? ⟨g6, 0, none⟩ = some (.int .i64 z) from (hb.cell (p := ⟨g6, 0, none⟩) hlt6).trans ((K6.out.cell 0).trans rfl))
            have Z1 := Lib.hid (show w8.cell? ⟨g6, 1, none⟩ = some (.int .i64 hi) from (hb.cell (p := ⟨g6, 1, none⟩) hlt6).trans ((K6.out.cell 1).trans rfl))
            replace HB := Lib.hid (hop HB.out (Nat.le_refl _) hb)
            clear hb HT0 HE0 K6 hlt6 SRT
            go_wp2
            go_loopw [28] (fun iv wx => ∃ j : Nat, j ≤ m ∧ iv = .int .i64 (j : Nat) ∧ Hid (Below w8.heap.size w8 wx)) (fun iv _ => m - (intOf iv).toNat)
            case atStart => exact ⟨0, Nat.zero_le _, rfl, Lib.hid (Below.refl _ _)⟩
            case round =>
              obtain ⟨j, hjm, rfl, HBr⟩ := hrel
              by_cases hj : j < m
              · have jI : (j : Int) < (m : Int) := by omega
                obtain ⟨ga, ka, hA, hlt1, hc1⟩ := (HT8.out.below HBr.out).at_ (by omega)
                obtain ⟨p0, p1, p2, gx⟩ := hc1 j hj
                subst hA
                have hin : z ≤ (T.getD j xnil).ts ∧ (T.getD j xnil).ts < hi := by
                  have h1 : (T.getD j xnil).b ∈ T.map EntX.b := List.mem_map_of_mem (by rw [List.getD_eq_getElem?_getD, List.getElem?_eq_getElem (by rw [HTM.out]; exact hj)]; exact List.getElem_mem _)
                  have h2 := (DN.out.2 _).1 h1
                  rw [HF.out] at h2
                  have h3 := (List.mem_filter.1 h2).2
                  unfold inT at h3
                  rw [Bool.and_eq_true, decide_eq_true_iff, decide_eq_true_iff] at h3
                  exact h3
                obtain ⟨ts, hts⟩ : ∃ t, (T.getD j xnil).ts = t := ⟨_, rfl⟩
                rw [hts] at p0 hin
                have q1 : ¬ ts < z := by omega
                have q2 : ¬ ts ≥ hi := by omega
                have q3 : ¬ hi ≤ ts := by omega
                have d1 : decide (ts < z) = false := decide_eq_false q1
                have d2 : decide (ts ≥ hi) = false := decide_eq_false q2
                have d3 : decide (hi ≤ ts) = false := decide_eq_false q3
                have z0_ := (HBr.out.cell (p := ⟨g6, 0, none⟩) hlt6').trans Z0.out
                have z1_ := (HBr.out.cell (p := ⟨g6, 1, none⟩) hlt6').trans Z1.out
                clear p1 p2 gx hts hc1 hin
                go_wp2
                go_quiet (fail)
                generalize hw4 : World.drewN _ _ = w4
                have hb4 := Lib.hid (show Below w8.heap.size w8 w4 from by rw [← hw4]; exact below_drewN HBr.out _)
                clear hw4
                go_wp2
                go_round
                case rel => exact ⟨j + 1, by omega, by go_num, hb4⟩
                case measure => first | (simp [intOf]; done) | (simp [intOf]; omega)
              · have jI : ¬ (j : Int) < (m : Int) := by omega
                go_wp2
                clear jI
                go_loopw [29] (fun iv wx => ∃ i : Nat, i ≤ ne ∧ iv = .int .i64 (i : Nat) ∧ Hid (Below w8.heap.size w8 wx)) (fun iv _ => ne - (intOf iv).toNat)
                case atStart => exact ⟨0, Nat.zero_le _, rfl, HBr⟩
                case round =>
                  clear HBr
                  obtain ⟨i, hie, rfl, HBi⟩ := hrel
                  by_cases hi_ : i < ne
                  · have iI : (i : Int) < (ne : Int) := by omega
                    obtain ⟨gx, kx, hA, hltx, hcx⟩ := HE8.out.at_ (by omega)
                    obtain ⟨x0, x1, x2, gX⟩ := hcx i hi_
                    subst hA
                    have xm : L.getD i xnil ∈ L := by
                      rw [List.getD_eq_getElem?_getD, List.getElem?_eq_getElem (by rw [HNE.out]; exact hi_)]
                      exact List.getElem_mem _
                    obtain ⟨x, hx⟩ : ∃ x, L.getD i xnil = x := ⟨_, rfl⟩
                    rw [hx] at x0 x1 x2 gX xm
                    have GX := Lib.hid gX
                    have AN := Lib.hid (show anyB T x.b m = (decide (z ≤ x.ts) && decide (x.ts < hi)) from by
                      rw [← HTM.out]
                      show _ = inT z hi x.b
                      rw [Bool.eq_iff_iff, anyB_all]
                      constructor
                      · intro h1
                        have h2 := (DN.out.2 _).1 h1
                        rw [HF.out] at h2
                        exact (List.mem_filter.1 h2).2
                      · intro h1
                        refine (DN.out.2 _).2 ?_
                        rw [HF.out]
                        exact List.mem_filter.2 ⟨dirL_mem.2 (PM.out.mem_iff.2 (List.mem_map_of_mem xm)), h1⟩)
                    clear hcx hx gX xm
                    have HBi' := HBi
                    clear HBi
                    go_wp2
                    go_loopw [30, 31] (fun tv kv wx => ∃ (k : Nat) (bo : Bool), k ≤ m ∧ tv = .bool bo ∧ kv = .int .i64 (k : Nat) ∧ Hid (anyB T x.b k = bo) ∧ Hid (Below w8.heap.size w8 wx)) (fun _ kv _ => m - (intOf kv).toNat)
                    case atStart => exact ⟨0, false, Nat.zero_le _, rfl, rfl, Lib.hid rfl, HBi'⟩
                    case round =>
                      clear HBi'
                      obtain ⟨k, bo, hkm, rfl, rfl, HK, HBk⟩ := hrel
                      by_cases hk : k < m
                      · have kI : (k : Int) < (m : Int) := by omega
                        have yq : T[k]? = some (T.getD k xnil) := by
                          rw [List.getD_eq_getElem?_getD, List.getElem?_eq_getElem (by rw [HTM.out]; exact hk)]
                          rfl
                        cases bo with
                        | true =>
                          have HK2 := Lib.hid (show anyB T x.b (k + 1) = true from by rw [anyB_next T x.b k _ yq, HK.out]; rfl)
                          clear HK yq
                          go_wp2
                          go_quiet (fail)
                          generalize hw4 : World.drewN _ _ = w4
                          have hb4 := Lib.hid (show Below w8.heap.size w8 w4 from by rw [← hw4]; exact below_drewN HBk.out _)
                          clear hw4
                          go_wp2
                          go_round
                          case rel => exact ⟨k + 1, true, by omega, rfl, by go_num, HK2, hb4⟩
                          case measure => first | (simp [intOf]; done) | (simp [intOf]; omega)
                        | false =>
                          obtain ⟨gy, ky, hA, hlty, hcy⟩ := (HT8.out.below HBk.out).at_ (by omega)
                          obtain ⟨y0, y1, y2, gY⟩ := hcy k hk
                          subst hA
                          obtain ⟨y, hy⟩ : ∃ y, T.getD k xnil = y := ⟨_, rfl⟩
                          rw [hy] at y0 y1 y2 gY yq
                          obtain ⟨q, hq⟩ : ∃ q, sameE x.b y.b = q := ⟨_, rfl⟩
                          have HK2 := Lib.hid (show anyB T x.b (k + 1) = q from by rw [anyB_next T x.b k _ yq, HK.out, hq]; rfl)
                          have hltx2 : gx < wr.heap.size := Nat.lt_of_lt_of_le hltx HBk.out.size
                          have c1 := (HBk.out.cell (p := ⟨gx, kx + i * 3, none⟩) hltx).trans x0
                          have c2 := (HBk.out.cell (p := ⟨gx, kx + i * 3 + 1, none⟩) hltx).trans x1
                          have c3 := (HBk.out.cell (p := ⟨gx, kx + i * 3 + 2, none⟩) hltx).trans x2
                          have Gx2 := Lib.hid (GX.out.below HBk.out)
                          have Gy2 := Lib.hid gY
                          have SM := fun w (h : Below wr.heap.size wr w) => same_good x y w (Gx2.out.below h) (Gy2.out.below h)
                          simp only [hq] at SM
                          replace SM := Lib.hid SM
                          have S0 : Below wr.heap.size wr wr.drew := (Below.refl _ _).drew
                          clear hcy hy gY yq hq HK Gx2 Gy2
                          go_wp2
                          go_region_held3 (fun w' => Below wr.heap.size wr w' ∧ w'.cell? ⟨gx, kx + i * 3, none⟩ = some (.int .i64 x.ts) ∧ w'.cell? ⟨gx, kx + i * 3 + 1, none⟩ = some (.slice x.A x.n x.c) ∧ w'.cell? ⟨gx, kx + i * 3 + 2, none⟩ = some (.string x.ln) ∧ w'.cell? ⟨gy, ky + k * 3, none⟩ = some (.int .i64 y.ts) ∧ w'.cell? ⟨gy, ky + k * 3 + 1, none⟩ = some (.slice y.A y.n y.c) ∧ w'.cell? ⟨gy, ky + k * 3 + 2, none⟩ = some (.string y.ln))
                            (first | assumption | exact ⟨by assumption, by assumption, by assumption, by assumption, by assumption, by assumption, by assumption⟩ | exact ⟨by assumption, (hb5.cell (p := ⟨_, _, none⟩) hltx2).trans c1, (hb5.cell (p := ⟨_, _, none⟩) hltx2).trans c2, (hb5.cell (p := ⟨_, _, none⟩) hltx2).trans c3, (hb5.cell (p := ⟨_, _, none⟩) hlty).trans y0, (hb5.cell (p := ⟨_, _, none⟩) hlty).trans y1, (hb5.cell (p := ⟨_, _, none⟩) hlty).trans y2⟩)
                            (first | (go_at_call 27; refine (SM.out _ S0).mono ?_; rintro e wz ⟨rfl, hb5⟩; replace hb5 : Below wr.heap.size wr wz := ⟨hb5.os, hb5.tape, hb5.output, hb5.size, hb5.block⟩))
                          all_goals
                            have hbz := Lib.hid (hop HBk.out (Nat.le_refl _) hb5)
                            clear hb5 y0 y1 y2 c1 c2 c3 SM S0
                            go_wp2
                            go_round
                            case rel => exact ⟨k + 1, q, by omega, rfl, by go_num, HK2, hbz⟩
                            case measure => first | (simp [intOf]; done) | (simp [intOf]; omega)
                      · have kI : ¬ (k : Int) < (m : Int) := by omega
                        obtain rfl : m = k := by omega
                        have hbo : bo = (decide (z ≤ x.ts) && decide (x.ts < hi)) := HK.out.symm.trans AN.out
                        have z0_ := (HBk.out.cell (p := ⟨g6, 0, none⟩) hlt6').trans Z0.out
                        have z1_ := (HBk.out.cell (p := ⟨g6, 1, none⟩) hlt6').trans Z1.out
                        have c1 := (HBk.out.cell (p := ⟨gx, kx + i * 3, none⟩) hltx).trans x0
                        obtain ⟨ts, hts⟩ : ∃ t, x.ts = t := ⟨_, rfl⟩
                        rw [hts] at hbo c1
                        have hlc : kx + i * 3 < 9223372036854775807 ∨ True := .inr trivial
                        have ways : (z ≤ ts ∧ ts < hi ∧ bo = true) ∨ (z ≤ ts ∧ ¬ ts < hi ∧ bo = false) ∨ (¬ z ≤ ts ∧ bo = false) := by
                          by_cases q1 : z ≤ ts
                          · by_cases q2 : ts < hi
                            · exact .inl ⟨q1, q2, by rw [hbo, decide_eq_true q1, decide_eq_true q2]; rfl⟩
                            · exact .inr (.inl ⟨q1, q2, by rw [hbo, decide_eq_false q2, Bool.and_false]⟩)
                          · exact .inr (.inr ⟨q1, by rw [hbo, decide_eq_false q1, Bool.false_and]⟩)
                        clear hbo hts HK AN x1 x2 GX
                        rcases ways with ⟨q1, q2, rfl⟩ | ⟨q1, q2, rfl⟩ | ⟨q1, rfl⟩
                        · have d1 : decide (ts ≥ z) = true := decide_eq_true q1
                          have d2 : decide (ts < hi) = true := decide_eq_true q2
                          have q1' : ts ≥ z := q1
                          go_wp2
                          go_quiet (fail)
                          generalize hw4 : World.drewN _ _ = w4
                          have hb4 := Lib.hid (show Below w8.heap.size w8 w4 from by rw [← hw4]; exact below_drewN HBk.out _)
                          clear hw4
                          go_wp2
                          go_round
                          case rel => exact ⟨i + 1, by omega, by go_num, hb4⟩
                          case measure => first | (simp [intOf]; done) | (simp [intOf]; omega)
                        · have d1 : decide (ts ≥ z) = true := decide_eq_true q1
                          have d2 : decide (ts < hi) = false := decide_eq_false q2
                          have q1' : ts ≥ z := q1
                          go_wp2
                          go_quiet (fail)
                          generalize hw4 : World.drewN _ _ = w4
                          have hb4 := Lib.hid (show Below w8.heap.size w8 w4 from by rw [← hw4]; exact below_drewN HBk.out _)
                          clear hw4
                          go_wp2
                          go_round
                          case rel => exact ⟨i + 1, by omega, by go_num, hb4⟩
                          case measure => first | (simp [intOf]; done) | (simp [intOf]; omega)
                        · have q1' : ¬ ts ≥ z := q1
                          have d1 : decide (ts ≥ z) = false := decide_eq_false q1'
                          go_wp2
                          go_quiet (fail)
                          generalize hw4 : World.drewN _ _ = w4
                          have hb4 := Lib.hid (show Below w8.heap.size w8 w4 from by rw [← hw4]; exact below_drewN HBk.out _)
                          clear hw4
                          go_wp2
                          go_round
                          case rel => exact ⟨i + 1, by omega, by go_num, hb4⟩
                          case measure => first | (simp [intOf]; done) | (simp [intOf]; omega)
                  · have iI : ¬ (i : Int) < (ne : Int) := by omega
                    have HEND := Lib.hid (hop HB.out (Nat.le_refl _) HBi.out)
                    go_wp2
                    go_ret
                    exact ⟨rfl, HEND.out⟩
end Go.Proofs.YtkkpmhdhoppojaaGreatDoor
