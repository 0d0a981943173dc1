-- shaken
import Derived.Test.YtkkpmhdhoppojaaGreatDoorStoExam
import Derived.Test.YtkkpmhdhoppojaaGreatDoorStoSplitMath
import Derived.Test.YtkkpmhdhoppojaaGreatDoorRowApp
import Derived.Test.YtkkpmhdhoppojaaGreatDoorItems
import Derived.Test.YtkkpmhdhoppojaaGreatDoorEntBackMath
namespace Go.Proofs.YtkkpmhdhoppojaaGreatDoor
open Go.RowKit
set_option linter.unusedVariables false
set_option linter.unusedSimpArgs false
theorem rangeAll_any (B b k : Nat) (L : List EntX) (rv lv : Value) (ma : Nat) (lo hi : Int) (asc : Bool) (hk : k ≤ 1000) (hL : L.length ≤ 12) (hR : ∀ x ∈ L, rightE x.b = true) (W : World) (h : RepP B W b [] k L rv lv) (hao : Blk W ma 106 #[.slice none 0 0]) (hlt : lo < hi) :
    Calls Tryz.prog 18 #[.pointer (some ⟨b, 0, none⟩), .agg #[.int .i64 lo, .int .i64 hi, .bool asc, .int .i64 99, .bool false, .int .i64 0, .slice none 0 0, .string ⟨#[]⟩], .pointer (some ⟨ma, 0, none⟩)] W fun e w' => RangeL B W b [] k L rv lv (metL (fun _ => true) ⟨lo, hi, asc, 99, false, ⟨0, [], ⟨#[]⟩⟩⟩ (L.map EntX.b)) false e w' := by
  have hr : replyAt [] k = ⟨false, 0⟩ := by unfold replyAt; simp
  have ht := tell_all (T := fun _ => true) (a := ⟨lo, hi, asc, 99, false, ⟨0, [], ⟨#[]⟩⟩⟩) (m := 99) (L := L.map EntX.b) (by rw [List.length_map]; show L.length ≤ 99; omega)
  exact range_lit B 0 b [] k L rv lv _ (fun _ => true) _ (none_test b ma) ⟨lo, hi, asc, 99, false, ⟨0, none, 0, 0, [], ⟨#[]⟩⟩⟩ (by omega) (by decide) (by omega) hR W h hao (good_nilS _ _ _ (by decide) (by decide)) (Nat.zero_le _) (by show (decide (lo < hi) && decide ((1 : Int) ≤ 99)) = true; rw [decide_eq_true hlt]; decide) (by show (99 : Int) ≤ 9223372036854775807; decide) (by rw [hr]; decide) (by rw [hr]) 99 (by rw [hr]; rfl) _ _ ht.1 ht.2
theorem entV_ones (l : List EntX) : ∀ u ∈ rowV EntX.V l, u.oneCell' = true := by
  intro u hu
  obtain ⟨x, _, hx⟩ := List.mem_flatMap.1 hu
  exact entV_one x u hx
set_option maxRecDepth 100000 in
set_option maxHeartbeats 3200000 in
theorem storeSplit_walk {W : World} (A : Option Addr) (n c : Nat) (l : List ItemX) (asc : Bool) (at_ : Int) (h1 : ItemsP W.heap.size W A n l) (hnc : n ≤ c) (hcm : c ≤ maxLen) (wat : (Lit.int .i8 at_).wf = true) (hl : True) :
    Calls Tryz.prog 6 #[.slice A n c, .bool asc, .int .i8 at_] W fun e w' => e = .returned (.bool true) ∧ Below W.heap.size W w' := by
  unfold maxLen at hcm
  have hn : n ≤ 9223372036854775807 := by omega
  have hat : -128 ≤ at_ ∧ at_ ≤ 127 := by simpa [Lit.wf, IntKind.min, IntKind.max, IntKind.signed, IntKind.bits] using wat
  obtain ⟨z, hz⟩ : ∃ z, at_.tmod 11 = z := ⟨_, rfl⟩
  have hzb : -10 ≤ z ∧ z ≤ 10 := by
    rw [← hz]
    rcases Int.le_total 0 at_ with h | h
    · rw [Int.tmod_eq_emod_of_nonneg h]; omega
    · have e : at_.tmod 11 = -((-at_) % 11) := by
        rw [← Int.tmod_eq_emod_of_nonneg (by omega), Int.neg_tmod, Int.neg_neg]
      rw [e]; omega
  have hz1 : IntKind.i8.wrap z = z := by rw [wrap_i8']; omega
  have hz2 : IntKind.i64.wrap z = z := by rw [IntKind.wrap_i64]; omega
  have IT := Lib.hid (fun w (hw : Below W.heap.size W w) (hs : W.heap.size ≤ w.heap.size) => items_any W.heap.size A n c 12 l hn (by decide) w hs (h1.below hw))
  obtain ⟨i0, hinf, hi0, hi1, hi2⟩ := info_parts infoEntS
  clear h1 wat hl hnc hcm
  go_enter Tryz.func6, Tryz.ntmps6
  go_wp2_with fail
  refine (examples14_any W).mono ?_
  rintro e w1 ⟨rfl, hb⟩
  have HB := Lib.hid hb
  have s1 := hb.size
  clear hb
  go_wp2_with fail
  refine (IT.out w1 HB.out s1).mono ?_
  rintro e w2 ⟨v, L, rfl, ho, hlb, hb⟩
  have s2 := hb.size
  obtain ⟨EA, ec, hve, _, _, hent⟩ := OwnE.ents ho
  have hL12 : L.length ≤ 12 := by
    have h1 := congrArg List.length hlb
    rw [List.length_map] at h1
    rw [h1]
    exact itemsB_len _ _
  subst hve
  replace HB := Lib.hid (hop HB.out (Nat.le_refl _) hb)
  have NW := Lib.hid (new_any W.heap.size EA L.length ec L none 0 0 [] hL12 (by decide) w2 hent (RowR.none _))
  have HLB := Lib.hid hlb
  clear hb ho hent IT hlb
  go_wp2_with fail
  refine NW.out.mono ?_
  rintro e w3 ⟨b, L', rv, lv, rfl, hr, hbl, hp, hsd, hb⟩
  have s3 := hb.size
  have LR := Lib.hid (show ∀ x ∈ L', rightE x.b = true from fun x hx => (List.mem_filter.1 (hp.mem_iff.1 (List.mem_map_of_mem hx))).2)
  have hl12 : L'.length ≤ 12 := by
    have h1 := hp.length_eq
    rw [List.length_map] at h1
    rw [h1]
    unfold newE
    exact Nat.le_trans (List.length_filter_le _ _) (by rw [List.length_map]; exact hL12)
  have SD := Lib.hid (show (L'.map EntX.b).Pairwise leB from List.pairwise_map.2 hsd)
  replace HB := Lib.hid (hop HB.out (Nat.le_refl _) hb)
  have RP := Lib.hid hr
  have hWb : W.heap.size ≤ b := by omega
  clear hr hbl hp hsd hb NW HLB
  go_wp2_with fail
  refine (everyNone_any w3).mono ?_
  rintro e w4 ⟨rfl, hao, hb⟩
  have s4 := hb.size
  obtain ⟨ma, hma⟩ : ∃ g, w3.heap.size = g := ⟨_, rfl⟩
  rw [hma] at hao ⊢
  have bl := RP.out.blk.lt
  have nm : ma ≠ b := by omega
  have AO := Lib.hid hao
  replace RP := Lib.hid (RP.out.below hb)
  replace HB := Lib.hid (hop HB.out (Nat.le_refl _) hb)
  clear hao hb hma bl s3 s4
  obtain ⟨M, hM⟩ : ∃ M, L'.map EntX.b = M := ⟨_, rfl⟩
  obtain ⟨M0, hM0⟩ : ∃ M0, metL (fun _ => true) ⟨-12, 12, asc, 99, false, ⟨0, [], ⟨#[]⟩⟩⟩ M = M0 := ⟨_, rfl⟩
  obtain ⟨M1, hM1⟩ : ∃ M0, metL (fun _ => true) ⟨-12, z, asc, 99, false, ⟨0, [], ⟨#[]⟩⟩⟩ M = M0 := ⟨_, rfl⟩
  obtain ⟨M2, hM2⟩ : ∃ M0, metL (fun _ => true) ⟨z, 12, asc, 99, false, ⟨0, [], ⟨#[]⟩⟩⟩ M = M0 := ⟨_, rfl⟩
  have MS := Lib.hid (show M0 = if asc then M1 ++ M2 else M2 ++ M1 by
    rw [← hM0, ← hM1, ← hM2]
    exact met_split_z z (by omega) (by omega) asc 99 ⟨0, [], ⟨#[]⟩⟩ M (by rw [← hM]; exact SD.out))
  have met_len : ∀ lo hi, (metL (fun _ => true) ⟨lo, hi, asc, 99, false, ⟨0, [], ⟨#[]⟩⟩⟩ M).length ≤ 12 := fun lo hi => by
    unfold metL
    refine Nat.le_trans (List.length_filter_le _ _) ?_
    rw [dirL_len, ← hM, List.length_map]
    exact hl12
  have ln1 : M1.length ≤ 12 := by rw [← hM1]; exact met_len _ _
  have ln2 : M2.length ≤ 12 := by rw [← hM2]; exact met_len _ _
  have R0 := Lib.hid (fun w (h : RepP w2.heap.size w b [] 0 L' rv lv) (ha : Blk w ma 106 #[.slice none 0 0]) => rangeAll_any w2.heap.size b 0 L' rv lv ma (-12) 12 asc (by decide) hl12 LR.out w h ha (by decide))
  have R1 := Lib.hid (fun w (h : RepP w2.heap.size w b [] 1 L' rv lv) (ha : Blk w ma 106 #[.slice none 0 0]) => rangeAll_any w2.heap.size b 1 L' rv lv ma (-12) z asc (by decide) hl12 LR.out w h ha (by omega))
  have R2 := Lib.hid (fun w (h : RepP w2.heap.size w b [] 2 L' rv lv) (ha : Blk w ma 106 #[.slice none 0 0]) => rangeAll_any w2.heap.size b 2 L' rv lv ma z 12 asc (by decide) hl12 LR.out w h ha (by omega))
  rw [hM, hM0] at R0
  rw [hM, hM1] at R1
  rw [hM, hM2] at R2
  clear hM hM0 hM1 hM2 met_len
  go_wp2_with fail
  refine (R0.out w4 RP.out AO.out).mono ?_
  rintro e w5 ⟨v0, L0, rfl, ho, hm, hr, hf⟩
  replace HB := Lib.hid (Se.FG.below hf HB.out hWb (by have := HB.out.size; omega))
  replace AO := Lib.hid (AO.out.fg hf nm)
  replace RP := Lib.hid hr
  have O0 := Lib.hid ho
  have E0 := Lib.hid hm
  clear hr hf ho hm R0
  go_wp2_with fail
  refine (R1.out w5 RP.out AO.out).mono ?_
  rintro e w6 ⟨v1, L1, rfl, ho, hm, hr, hf⟩
  replace HB := Lib.hid (Se.FG.below hf HB.out hWb (by have := HB.out.size; omega))
  replace AO := Lib.hid (AO.out.fg hf nm)
  replace O0 := Lib.hid (O0.out.fgT hf (Nat.zero_le _) RP.out.blk rep_not_ent rep_not_pair)
  replace RP := Lib.hid hr
  have O1 := Lib.hid ho
  have E1 := Lib.hid hm
  clear hr hf ho hm R1
  go_wp2_with fail
  refine (R2.out w6 RP.out AO.out).mono ?_
  rintro e w7 ⟨v2, L2, rfl, ho, hm, hr, hf⟩
  replace HB := Lib.hid (Se.FG.below hf HB.out hWb (by have := HB.out.size; omega))
  replace AO := Lib.hid (AO.out.fg hf nm)
  replace O0 := Lib.hid (O0.out.fgT hf (Nat.zero_le _) RP.out.blk rep_not_ent rep_not_pair)
  replace O1 := Lib.hid (O1.out.fgT hf (Nat.zero_le _) RP.out.blk rep_not_ent rep_not_pair)
  replace RP := Lib.hid hr
  have O2 := Lib.hid ho
  have E2 := Lib.hid hm
  clear hr hf ho hm R2
  have ll1 : L1.length ≤ 12 := by have h1 := congrArg List.length E1.out; rw [List.length_map] at h1; omega
  have ll2 : L2.length ≤ 12 := by have h1 := congrArg List.length E2.out; rw [List.length_map] at h1; omega
  clear RP AO
  go_wp2_with (at_builtin; refine wpList_append_rows rfl (.const (.slice none 0 0)) (.tmp 75) 27 rfl W.heap.size 56 i0 (.agg #[.int .i64 0, .slice none 0 0, .string ⟨#[]⟩]) 3 48 Tryz.underlying27 hinf hi0 hi1 hi2 rfl (by decide) _ _ _ rfl (World.ownsRow_nil _ _ _ _) _ _ _ _ rfl O1.out.1 (entV_ones _) (by unfold maxLen; omega) (by omega) (by have := HB.out.size; omega) ?_)
  intro u1 wa1 hown hgrow hvb
  have hb : Below w7.heap.size w7 wa1 := (Below.refl _ _).grown hgrow (Nat.le_refl _) (fun r hr => by cases hr)
  have OC := Lib.hid (show OwnE 0 wa1 W.heap.size u1 L1 from OwnE.snocs (l := []) (OwnE.nil 0 w7 W.heap.size) O1.out.2 (Nat.zero_le _) hgrow (show wa1.ownsRow W.heap.size 56 3 u1 (0 + L1.length) ([] ++ rowV EntX.V L1) by rw [Nat.zero_add, List.nil_append]; exact hown))
  have UB := Lib.hid (show ∀ g, u1.ownBlock = some g → w7.heap.size ≤ g from fun g hg => by
    rcases hvb with h | h
    · rw [h] at hg; cases hg
    · rw [h] at hg; exact Nat.le_of_eq (Option.some.inj hg))
  have LT0 := Lib.hid (show ∀ g, v0.ownBlock = some g → g < w7.heap.size from fun g hg => (World.ownsRow.lt O0.out.1 g hg).2)
  have LT1 := Lib.hid (show ∀ g, v1.ownBlock = some g → g < w7.heap.size from fun g hg => (World.ownsRow.lt O1.out.1 g hg).2)
  have LT2 := Lib.hid (show ∀ g, v2.ownBlock = some g → g < w7.heap.size from fun g hg => (World.ownsRow.lt O2.out.1 g hg).2)
  replace O0 := Lib.hid (O0.out.below hb)
  replace O1 := Lib.hid (O1.out.below hb)
  replace O2 := Lib.hid (O2.out.below hb)
  replace HB := Lib.hid (hop HB.out (Nat.le_refl _) hb)
  clear hb hown hgrow hvb
  go_wp2_with (at_builtin; refine wpList_append_rows rfl (.tmp 76) (.tmp 77) 27 rfl W.heap.size 56 i0 (.agg #[.int .i64 0, .slice none 0 0, .string ⟨#[]⟩]) 3 48 Tryz.underlying27 hinf hi0 hi1 hi2 rfl (by decide) _ _ _ rfl OC.out.1 _ _ _ _ rfl O2.out.1 (entV_ones _) (by unfold maxLen; omega) (by omega) (by have := HB.out.size; omega) ?_)
  intro v3 w8 hown hgrow hvb
  have OB := Lib.hid (show OwnE 0 w8 W.heap.size v3 (L1 ++ L2) from OwnE.snocs OC.out O2.out.2 (Nat.zero_le _) hgrow hown)
  replace O0 := Lib.hid (show OwnE 0 w8 _ v0 L0 from ⟨OwnR.grew O0.out.1 hgrow (fun g e1 e2 => by have := UB.out g e2; have := LT0.out g e1; omega), fun x hx => (O0.out.2 x hx).kept OC.out.1 (Nat.zero_le _) hgrow⟩)
  replace O1 := Lib.hid (show OwnE 0 w8 _ v1 L1 from ⟨OwnR.grew O1.out.1 hgrow (fun g e1 e2 => by have := UB.out g e2; have := LT1.out g e1; omega), fun x hx => (O1.out.2 x hx).kept OC.out.1 (Nat.zero_le _) hgrow⟩)
  replace O2 := Lib.hid (show OwnE 0 w8 _ v2 L2 from ⟨OwnR.grew O2.out.1 hgrow (fun g e1 e2 => by have := UB.out g e2; have := LT2.out g e1; omega), fun x hx => (O2.out.2 x hx).kept OC.out.1 (Nat.zero_le _) hgrow⟩)
  replace HB := Lib.hid (HB.out.grown hgrow (by have := HB.out.size; omega) (fun r hr => (World.ownsRow.lt OC.out.1 r hr).1))
  clear hown hgrow hvb OC UB LT0 LT1 LT2
  cases asc with
  | true =>
    have EQ : L0.map EntX.b = (L1 ++ L2).map EntX.b := by rw [E0.out, MS.out, List.map_append, E1.out, E2.out]; rfl
    have LBL : (L1 ++ L2).length = L1.length + L2.length := List.length_append
    have EM := Lib.hid EQ
    have SL : (L1 ++ L2).length = L0.length := by have h1 := congrArg List.length EQ; rw [List.length_map, List.length_map] at h1; exact h1.symm
    obtain ⟨A0, c0, hv0⟩ := OwnR.shape O0.out.1
    obtain ⟨A1, c1, hv1⟩ := OwnR.shape OB.out.1
    rw [SL] at hv1
    subst hv0 hv1
    obtain ⟨m, hm⟩ : ∃ m, L0.length = m := ⟨_, rfl⟩
    rw [hm]
    have HM := Lib.hid hm
    have HSL := Lib.hid SL
    have mm : ((m : Int) == (m : Int)) = true := beq_self_eq_true _
    have m24 : m ≤ 24 := by omega
    obtain ⟨_, _, e0, _, _, P0⟩ := O0.out.ents
    obtain ⟨_, _, e1, _, _, P1⟩ := OB.out.ents
    rw [hm] at e0 P0
    rw [SL, hm] at e1 P1
    injection e0 with e0 _ _
    injection e1 with e1 _ _
    subst e0 e1
    have HP0 := Lib.hid P0
    have HP1 := Lib.hid P1
    clear EQ P0 P1 SL O1 O2 E0 E1 E2
    rw [hm] at O0
    clear hm O0 OB
    go_wp2
    go_loopw [22] (fun iv wr => ∃ j : Nat, j ≤ m ∧ iv = .int .i64 (j : Nat) ∧ Hid (Below w8.heap.size w8 wr)) (fun iv _ => m - (intOf iv).toNat)
    case atStart => exact ⟨0, Nat.zero_le _, rfl, Lib.hid (Below.refl _ _)⟩
    case round =>
      obtain ⟨j, hjm, rfl, HBr⟩ := hrel
      by_cases hj : j < m
      · have jI : (j : Int) < (m : Int) := by omega
        obtain ⟨ga, ka, hA, hlt1, hc1⟩ := HP0.out.at_ (by omega)
        obtain ⟨gb, kb, hA2, hlt2, hc2⟩ := HP1.out.at_ (by omega)
        obtain ⟨p0, p1, p2, gx⟩ := hc1 j hj
        obtain ⟨q0, q1, q2, gy⟩ := hc2 j hj
        subst hA hA2
        have hxy : (L0.getD j xnil).b = ((L1 ++ L2).getD j xnil).b := by
          have h1 : (L0.map EntX.b)[j]? = ((L1 ++ L2).map EntX.b)[j]? := by rw [EM.out]
          rw [List.getElem?_map, List.getElem?_map] at h1
          rw [List.getElem?_eq_getElem (by rw [HM.out]; exact hj), List.getElem?_eq_getElem (by rw [HSL.out, HM.out]; exact hj)] at h1
          rw [List.getD_eq_getElem?_getD, List.getD_eq_getElem?_getD, List.getElem?_eq_getElem (by rw [HM.out]; exact hj), List.getElem?_eq_getElem (by rw [HSL.out, HM.out]; exact hj)]
          exact Option.some.inj h1
        obtain ⟨x, hx⟩ : ∃ x, L0.getD j xnil = x := ⟨_, rfl⟩
        obtain ⟨y, hy⟩ : ∃ x, (L1 ++ L2).getD j xnil = x := ⟨_, rfl⟩
        rw [hx] at p0 p1 p2 gx hxy
        rw [hy] at q0 q1 q2 gy hxy
        have SP := Lib.hid (fun w' (hb : Below w8.heap.size w8 w') => show w'.cell? ⟨ga, ka + j * 3, none⟩ = some (.int .i64 x.ts) ∧ w'.cell? ⟨ga, ka + j * 3 + 1, none⟩ = some (.slice x.A x.n x.c) ∧ w'.cell? ⟨ga, ka + j * 3 + 2, none⟩ = some (.string x.ln) ∧ w'.cell? ⟨gb, kb + j * 3, none⟩ = some (.int .i64 y.ts) ∧ w'.cell? ⟨gb, kb + j * 3 + 1, none⟩ = some (.slice y.A y.n y.c) ∧ w'.cell? ⟨gb, kb + j * 3 + 2, none⟩ = some (.string y.ln) from
          ⟨(hb.cell (p := ⟨ga, ka + j * 3, none⟩) hlt1).trans p0, (hb.cell (p := ⟨ga, ka + j * 3 + 1, none⟩) hlt1).trans p1, (hb.cell (p := ⟨ga, ka + j * 3 + 2, none⟩) hlt1).trans p2, (hb.cell (p := ⟨gb, kb + j * 3, none⟩) hlt2).trans q0, (hb.cell (p := ⟨gb, kb + j * 3 + 1, none⟩) hlt2).trans q1, (hb.cell (p := ⟨gb, kb + j * 3 + 2, none⟩) hlt2).trans q2⟩)
        have SM := Lib.hid (fun w (hb : Below w8.heap.size w8 w) => show Calls Tryz.prog 27 #[.agg #[.int .i64 x.ts, .slice x.A x.n x.c, .string x.ln], .agg #[.int .i64 y.ts, .slice y.A y.n y.c, .string y.ln]] w fun e w' => e = .returned (.bool true) ∧ Below w.heap.size w w' from by
          have h1 := entSame_any x.ts y.ts x.A y.A x.n y.n x.c y.c x.ls y.ls x.ln y.ln gx.len gy.len w (gx.set.1.below hb) (gy.set.1.below hb)
          have h2 : sameE ⟨x.ts, x.ls, x.ln⟩ ⟨y.ts, y.ls, y.ln⟩ = true := sameE_iff.2 hxy
          rwa [h2] at h1)
        obtain ⟨xt, xA, xn, xc, xs, xl⟩ := x
        obtain ⟨yt, yA, yn, yc, ys, yl⟩ := y
        dsimp only at SP SM
        have HB0 : Below w8.heap.size w8 wr.drew := below_drewN HBr.out 1
        clear p0 p1 p2 q0 q1 q2 gx gy hxy hx hy hc1 hc2 hlt1 hlt2 HBr
        go_wp2_with fail
        refine wp_region_held_drew (S := fun w' => w'.cell? ⟨ga, ka + j * 3, none⟩ = some (.int .i64 xt) ∧ w'.cell? ⟨ga, ka + j * 3 + 1, none⟩ = some (.slice xA xn xc) ∧ w'.cell? ⟨ga, ka + j * 3 + 2, none⟩ = some (.string xl) ∧ w'.cell? ⟨gb, kb + j * 3, none⟩ = some (.int .i64 yt) ∧ w'.cell? ⟨gb, kb + j * 3 + 1, none⟩ = some (.slice yA yn yc) ∧ w'.cell? ⟨gb, kb + j * 3 + 2, none⟩ = some (.string yl)) (by kernel_rfl) (SP.out _ HB0) (fun hS => ?_)
        obtain ⟨w0, hw0⟩ : ∃ z, wr.drew = z := ⟨_, rfl⟩
        rw [hw0] at hS HB0 ⊢
        clear hw0
        refine tV 0 ?_; refine tV 1 ?_; refine tV 2 ?_; refine tH 3 ?_; refine tV 4 ?_; refine tV 5 ?_; refine tV 6 ?_; refine tH 7 ?_
        refine rdy [8] ?_
        refine rdC (fun K hK => ?_) AllReadyH.nil
        go_simp
        go_at_call 27
        refine (SM.out w0 HB0).mono ?_
        rintro e w5_ ⟨rfl, hb⟩
        replace HB0 := hop HB0 (Nat.le_refl _) hb
        clear hb hS
        have hS := SP.out w5_ HB0
        refine hK.out _ _ hS (fun _ => ?_)
        clear hK K
        try simp only [Act.put, pz1, pz2, pz3]
        refine tV 9 ?_
        refine wpAnyH_done (by kernel_rfl) ?_ _
        have HBe := Lib.hid HB0
        clear HB0 hS SP SM
        go_wp2
        go_round
        case rel => exact ⟨j + 1, by omega, by go_num, HBe⟩
        case measure => first | (simp [intOf]; done) | (simp [intOf]; omega)
      · have jI : ¬ (j : Int) < (m : Int) := by omega
        have HE := Lib.hid (hop HB.out (Nat.le_refl _) HBr.out)
        go_wp2
        go_ret
        exact ⟨rfl, HE.out⟩
  | false =>
    clear OB
    go_wp2_with (at_builtin; refine wpList_append_rows rfl (.const (.slice none 0 0)) (.tmp 81) 27 rfl W.heap.size 56 i0 (.agg #[.int .i64 0, .slice none 0 0, .string ⟨#[]⟩]) 3 48 Tryz.underlying27 hinf hi0 hi1 hi2 rfl (by decide) _ _ _ rfl (World.ownsRow_nil _ _ _ _) _ _ _ _ rfl O2.out.1 (entV_ones _) (by unfold maxLen; omega) (by omega) (by have := HB.out.size; omega) ?_)
    intro u2 wa2 hown hgrow hvb
    have hb : Below w8.heap.size w8 wa2 := (Below.refl _ _).grown hgrow (Nat.le_refl _) (fun r hr => by cases hr)
    have OC := Lib.hid (show OwnE 0 wa2 W.heap.size u2 L2 from OwnE.snocs (l := []) (OwnE.nil 0 w8 W.heap.size) O2.out.2 (Nat.zero_le _) hgrow (show wa2.ownsRow W.heap.size 56 3 u2 (0 + L2.length) ([] ++ rowV EntX.V L2) by rw [Nat.zero_add, List.nil_append]; exact hown))
    have UB := Lib.hid (show ∀ g, u2.ownBlock = some g → w8.heap.size ≤ g from fun g hg => by
      rcases hvb with h | h
      · rw [h] at hg; cases hg
      · rw [h] at hg; exact Nat.le_of_eq (Option.some.inj hg))
    have LT0 := Lib.hid (show ∀ g, v0.ownBlock = some g → g < w8.heap.size from fun g hg => (World.ownsRow.lt O0.out.1 g hg).2)
    have LT1 := Lib.hid (show ∀ g, v1.ownBlock = some g → g < w8.heap.size from fun g hg => (World.ownsRow.lt O1.out.1 g hg).2)
    have LT2 := Lib.hid (show ∀ g, v2.ownBlock = some g → g < w8.heap.size from fun g hg => (World.ownsRow.lt O2.out.1 g hg).2)
    replace O0 := Lib.hid (O0.out.below hb)
    replace O1 := Lib.hid (O1.out.below hb)
    replace O2 := Lib.hid (O2.out.below hb)
    replace HB := Lib.hid (hop HB.out (Nat.le_refl _) hb)
    clear hb hown hgrow hvb
    go_wp2_with (at_builtin; refine wpList_append_rows rfl (.tmp 82) (.tmp 83) 27 rfl W.heap.size 56 i0 (.agg #[.int .i64 0, .slice none 0 0, .string ⟨#[]⟩]) 3 48 Tryz.underlying27 hinf hi0 hi1 hi2 rfl (by decide) _ _ _ rfl OC.out.1 _ _ _ _ rfl O1.out.1 (entV_ones _) (by unfold maxLen; omega) (by omega) (by have := HB.out.size; omega) ?_)
    intro v5 w9 hown hgrow hvb
    have OB := Lib.hid (show OwnE 0 w9 W.heap.size v5 (L2 ++ L1) from OwnE.snocs OC.out O1.out.2 (Nat.zero_le _) hgrow hown)
    replace O0 := Lib.hid (show OwnE 0 w9 _ v0 L0 from ⟨OwnR.grew O0.out.1 hgrow (fun g e1 e2 => by have := UB.out g e2; have := LT0.out g e1; omega), fun x hx => (O0.out.2 x hx).kept OC.out.1 (Nat.zero_le _) hgrow⟩)
    replace O1 := Lib.hid (show OwnE 0 w9 _ v1 L1 from ⟨OwnR.grew O1.out.1 hgrow (fun g e1 e2 => by have := UB.out g e2; have := LT1.out g e1; omega), fun x hx => (O1.out.2 x hx).kept OC.out.1 (Nat.zero_le _) hgrow⟩)
    replace O2 := Lib.hid (show OwnE 0 w9 _ v2 L2 from ⟨OwnR.grew O2.out.1 hgrow (fun g e1 e2 => by have := UB.out g e2; have := LT2.out g e1; omega), fun x hx => (O2.out.2 x hx).kept OC.out.1 (Nat.zero_le _) hgrow⟩)
    replace HB := Lib.hid (HB.out.grown hgrow (by have := HB.out.size; omega) (fun r hr => (World.ownsRow.lt OC.out.1 r hr).1))
    clear hown hgrow hvb OC UB LT0 LT1 LT2
    have EQ : L0.map EntX.b = (L2 ++ L1).map EntX.b := by rw [E0.out, MS.out, List.map_append, E1.out, E2.out]; rfl
    have LBL : (L2 ++ L1).length = L2.length + L1.length := List.length_append
    have EM := Lib.hid EQ
    have SL : (L2 ++ L1).length = L0.length := by have h1 := congrArg List.length EQ; rw [List.length_map, List.length_map] at h1; exact h1.symm
    obtain ⟨A0, c0, hv0⟩ := OwnR.shape O0.out.1
    obtain ⟨A1, c1, hv1⟩ := OwnR.shape OB.out.1
    rw [SL] at hv1
    subst hv0 hv1
    obtain ⟨m, hm⟩ : ∃ m, L0.length = m := ⟨_, rfl⟩
    rw [hm]
    have HM := Lib.hid hm
    have HSL := Lib.hid SL
    have mm : ((m : Int) == (m : Int)) = true := beq_self_eq_true _
    have m24 : m ≤ 24 := by omega
    obtain ⟨_, _, e0, _, _, P0⟩ := O0.out.ents
    obtain ⟨_, _, e1, _, _, P1⟩ := OB.out.ents
    rw [hm] at e0 P0
    rw [SL, hm] at e1 P1
    injection e0 with e0 _ _
    injection e1 with e1 _ _
    subst e0 e1
    have HP0 := Lib.hid P0
    have HP1 := Lib.hid P1
    clear EQ P0 P1 SL O1 O2 E0 E1 E2
    rw [hm] at O0
    clear hm O0 OB
    go_wp2
    go_loopw [22] (fun iv wr => ∃ j : Nat, j ≤ m ∧ iv = .int .i64 (j : Nat) ∧ Hid (Below w9.heap.size w9 wr)) (fun iv _ => m - (intOf iv).toNat)
    case atStart => exact ⟨0, Nat.zero_le _, rfl, Lib.hid (Below.refl _ _)⟩
    case round =>
      obtain ⟨j, hjm, rfl, HBr⟩ := hrel
      by_cases hj : j < m
      · have jI : (j : Int) < (m : Int) := by omega
        obtain ⟨ga, ka, hA, hlt1, hc1⟩ := HP0.out.at_ (by omega)
        obtain ⟨gb, kb, hA2, hlt2, hc2⟩ := HP1.out.at_ (by omega)
        obtain ⟨p0, p1, p2, gx⟩ := hc1 j hj
        obtain ⟨q0, q1, q2, gy⟩ := hc2 j hj
        subst hA hA2
        have hxy : (L0.getD j xnil).b = ((L2 ++ L1).getD j xnil).b := by
          have h1 : (L0.map EntX.b)[j]? = ((L2 ++ L1).map EntX.b)[j]? := by rw [EM.out]
          rw [List.getElem?_map, List.getElem?_map] at h1
          rw [List.getElem?_eq_getElem (by rw [HM.out]; exact hj), List.getElem?_eq_getElem (by rw [HSL.out, HM.out]; exact hj)] at h1
          rw [List.getD_eq_getElem?_getD, List.getD_eq_getElem?_getD, List.getElem?_eq_getElem (by rw [HM.out]; exact hj), List.getElem?_eq_getElem (by rw [HSL.out, HM.out]; exact hj)]
          exact Option.some.inj h1
        obtain ⟨x, hx⟩ : ∃ x, L0.getD j xnil = x := ⟨_, rfl⟩
        obtain ⟨y, hy⟩ : ∃ x, (L2 ++ L1).getD j xnil = x := ⟨_, rfl⟩
        rw [hx] at p0 p1 p2 gx hxy
        rw [hy] at q0 q1 q2 gy hxy
        have SP := Lib.hid (fun w' (hb : Below w9.heap.size w9 w') => show w'.cell? ⟨ga, ka + j * 3, none⟩ = some (.int .i64 x.ts) ∧ w'.cell? ⟨ga, ka + j * 3 + 1, none⟩ = some (.slice x.A x.n x.c) ∧ w'.cell? ⟨ga, ka + j * 3 + 2, none⟩ = some (.string x.ln) ∧ w'.cell? ⟨gb, kb + j * 3, none⟩ = some (.int .i64 y.ts) ∧ w'.cell? ⟨gb, kb + j * 3 + 1, none⟩ = some (.slice y.A y.n y.c) ∧ w'.cell? ⟨gb, kb + j * 3 + 2, none⟩ = some (.string y.ln) from
          ⟨(hb.cell (p := ⟨ga, ka + j * 3, none⟩) hlt1).trans p0, (hb.cell (p := ⟨ga, ka + j * 3 + 1, none⟩) hlt1).trans p1, (hb.cell (p := ⟨ga, ka + j * 3 + 2, none⟩) hlt1).trans p2, (hb.cell (p := ⟨gb, kb + j * 3, none⟩) hlt2).trans q0, (hb.cell (p := ⟨gb, kb + j * 3 + 1, none⟩) hlt2).trans q1, (hb.cell (p := ⟨gb, kb + j * 3 + 2, none⟩) hlt2).trans q2⟩)
        have SM := Lib.hid (fun w (hb : Below w9.heap.size w9 w) => show Calls Tryz.prog 27 #[.agg #[.int .i64 x.ts, .slice x.A x.n x.c, .string x.ln], .agg #[.int .i64 y.ts, .slice y.A y.n y.c, .string y.ln]] w fun e w' => e = .returned (.bool true) ∧ Below w.heap.size w w' from by
          have h1 := entSame_any x.ts y.ts x.A y.A x.n y.n x.c y.c x.ls y.ls x.ln y.ln gx.len gy.len w (gx.set.1.below hb) (gy.set.1.below hb)
          have h2 : sameE ⟨x.ts, x.ls, x.ln⟩ ⟨y.ts, y.ls, y.ln⟩ = true := sameE_iff.2 hxy
          rwa [h2] at h1)
        obtain ⟨xt, xA, xn, xc, xs, xl⟩ := x
        obtain ⟨yt, yA, yn, yc, ys, yl⟩ := y
        dsimp only at SP SM
        have HB0 : Below w9.heap.size w9 wr.drew := below_drewN HBr.out 1
        clear p0 p1 p2 q0 q1 q2 gx gy hxy hx hy hc1 hc2 hlt1 hlt2 HBr
        go_wp2_with fail
        refine wp_region_held_drew (S := fun w' => w'.cell? ⟨ga, ka + j * 3, none⟩ = some (.int .i64 xt) ∧ w'.cell? ⟨ga, ka + j * 3 + 1, none⟩ = some (.slice xA xn xc) ∧ w'.cell? ⟨ga, ka + j * 3 + 2, none⟩ = some (.string xl) ∧ w'.cell? ⟨gb, kb + j * 3, none⟩ = some (.int .i64 yt) ∧ w'.cell? ⟨gb, kb + j * 3 + 1, none⟩ = some (.slice yA yn yc) ∧ w'.cell? ⟨gb, kb + j * 3 + 2, none⟩ = some (.string yl)) (by kernel_rfl) (SP.out _ HB0) (fun hS => ?_)
        obtain ⟨w0, hw0⟩ : ∃ z, wr.drew = z := ⟨_, rfl⟩
        rw [hw0] at hS HB0 ⊢
        clear hw0
        refine tV 0 ?_; refine tV 1 ?_; refine tV 2 ?_; refine tH 3 ?_; refine tV 4 ?_; refine tV 5 ?_; refine tV 6 ?_; refine tH 7 ?_
        refine rdy [8] ?_
        refine rdC (fun K hK => ?_) AllReadyH.nil
        go_simp
        go_at_call 27
        refine (SM.out w0 HB0).mono ?_
        rintro e w5_ ⟨rfl, hb⟩
        replace HB0 := hop HB0 (Nat.le_refl _) hb
        clear hb hS
        have hS := SP.out w5_ HB0
        refine hK.out _ _ hS (fun _ => ?_)
        clear hK K
        try simp only [Act.put, pz1, pz2, pz3]
        refine tV 9 ?_
        refine wpAnyH_done (by kernel_rfl) ?_ _
        have HBe := Lib.hid HB0
        clear HB0 hS SP SM
        go_wp2
        go_round
        case rel => exact ⟨j + 1, by omega, by go_num, HBe⟩
        case measure => first | (simp [intOf]; done) | (simp [intOf]; omega)
      · have jI : ¬ (j : Int) < (m : Int) := by omega
        have HE := Lib.hid (hop HB.out (Nat.le_refl _) HBr.out)
        go_wp2
        go_ret
        exact ⟨rfl, HE.out⟩
end Go.Proofs.YtkkpmhdhoppojaaGreatDoor
