-- shaken
import Derived.Test.YtkkpmhdhoppojaaGreatDoorStoreSplitLaw
namespace Go.Proofs.YtkkpmhdhoppojaaGreatDoor
open Go.RowKit
set_option linter.unusedVariables false
set_option linter.unusedSimpArgs false
def failL (n : Nat) : List RepB := (List.range n).map fun (i : Nat) => (⟨true, (i : Int)⟩ : RepB)
theorem failL_len (n : Nat) : (failL n).length = n := by unfold failL; simp
theorem failL_next (n : Nat) : failL (n + 1) = failL n ++ [⟨true, (n : Int)⟩] := by unfold failL; rw [List.range_succ, List.map_append]; rfl
theorem failL_at {n k : Nat} (h : k < n) : (replyAt (failL n) k).fail = true := by
  unfold replyAt failL
  rw [List.getD_eq_getElem?_getD, List.getElem?_map, List.getElem?_range h]
  rfl
theorem failL_end (n : Nat) : replyAt (failL n) n = ⟨false, 0⟩ := by
  unfold replyAt
  rw [List.getD_eq_getElem?_getD, List.getElem?_eq_none (by rw [failL_len]; exact Nat.le_refl _)]
  rfl
def cntF (L : List EntX) (j : Nat) : Nat := ((newE ((L.take j).map EntX.b)).filter (inT (-100) 100)).length
theorem cntF_next (L : List EntX) (j : Nat) (x : EntX) (h : L[j]? = some x) : cntF L (j + 1) = cntF L j + if rightE x.b && inT (-100) 100 x.b then 1 else 0 := by
  unfold cntF
  rw [List.take_add_one, h, List.map_append]
  unfold newE
  rw [List.filter_append, List.filter_append, List.length_append]
  congr 1
  cases hr : rightE x.b <;> cases hi : inT (-100) 100 x.b <;> simp [hr, hi]
theorem cntF_le (L : List EntX) (j : Nat) : cntF L j ≤ j := by
  unfold cntF newE
  refine Nat.le_trans (List.length_filter_le _ _) (Nat.le_trans (List.length_filter_le _ _) ?_)
  rw [List.length_map, List.length_take]
  omega
set_option maxRecDepth 100000 in
set_option maxHeartbeats 3200000 in
theorem storeFails_walk {W : World} (A : Option Addr) (n c : Nat) (l : List ItemX) (many : Int) (h1 : ItemsP W.heap.size W A n l) (hnc : n ≤ c) (hcm : c ≤ maxLen) (wm : (Lit.int .u8 many).wf = true) (hl : True) :
    Calls Tryz.prog 5 #[.slice A n c, .int .u8 many] W fun e w' => e = .returned (.bool true) ∧ Below W.heap.size W w' := by
  unfold maxLen at hcm
  have hn : n ≤ 9223372036854775807 := by omega
  have hma := bdu8 wm
  obtain ⟨N, hN⟩ : ∃ N : Nat, many.tmod 8 = (N : Int) := ⟨(many.tmod 8).toNat, by rw [Int.tmod_eq_emod_of_nonneg hma.1]; omega⟩
  have hN8 : N < 8 := by
    rw [Int.tmod_eq_emod_of_nonneg hma.1] at hN
    omega
  have hz1 : IntKind.u8.wrap (N : Int) = (N : Int) := by rw [IntKind.wrap_u8]; omega
  have hz2 : IntKind.i64.wrap (N : Int) = (N : Int) := by rw [IntKind.wrap_i64]; omega
  have IT := Lib.hid (fun w (hw : Below W.heap.size W w) (hs : W.heap.size ≤ w.heap.size) => items_any W.heap.size A n c 6 l hn (by decide) w hs (h1.below hw))
  obtain ⟨i0, hinf, hi0, hi1, hi2⟩ := info_parts infoReply
  clear h1 wm hl hnc hcm
  go_enter Tryz.func5, Tryz.ntmps5
  go_wp2_with fail
  refine (examples14_any W).mono ?_
  rintro e w1 ⟨rfl, hb⟩
  have HB := Lib.hid hb
  clear hb
  have OR0 := Lib.hid (OwnR.nil (V := RepB.V) (s := 2) w1 W.heap.size 32)
  go_wp2
  go_loopw [7, 8] (fun sv iv wr => ∃ j : Nat, j ≤ N ∧ iv = .int .i64 (j : Nat) ∧ Hid (OwnR RepB.V 2 wr W.heap.size 32 sv (failL j)) ∧ Hid (Below W.heap.size W wr)) (fun _ iv _ => N - (intOf iv).toNat)
  case atStart => exact ⟨0, Nat.zero_le _, rfl, OR0, HB⟩
  case round =>
    clear OR0 HB
    obtain ⟨j, hjN, rfl, OR, HB⟩ := hrel
    by_cases hj : j < N
    · have jI : (j : Int) < (N : Int) := by omega
      have hlen := failL_len j
      have NX := Lib.hid (failL_next j)
      go_wp2_with (at_builtin; refine wpList_append_lies _ rfl (.tmp 37) (.tmp 40) 23 rfl W.heap.size 32 i0 (.agg #[.bool false, .int .i64 0]) 2 16 Tryz.underlying23 hinf hi0 hi1 hi2 rfl (by decide) _ _ _ rfl (OwnR.alloc OR.out (.cells #[.bool true, .int .i64 (j : Int)] 32)) ⟨wr.heap.size, 0, none⟩ 1 1 (RepB.V ⟨true, (j : Int)⟩) rfl rfl (World.news_of_block (Blk.new _ _ _)) (fun u hu => by simp only [RepB.V, List.mem_cons, List.not_mem_nil, or_false] at hu; rcases hu with rfl | rfl <;> rfl) (by decide) (by unfold maxLen; omega) (by omega) (by have := HB.out.size; simp; omega) _ rfl ?_)
      intro g2 cap2 w2 hown hgrow hg' hlt2
      have OR2 := Lib.hid (show OwnR RepB.V 2 w2 W.heap.size 32 (.slice (some ⟨g2, 0, none⟩) (j + 1) cap2) (failL (j + 1)) from by
        rw [NX.out]
        refine OwnR.snoc ?_
        rw [hlen]
        exact hown)
      have HB2 := Lib.hid ((HB.out.alloc HB.out.size (.cells #[.bool true, .int .i64 (j : Int)] 32)).grown hgrow (by have := HB.out.size; simp; omega) (fun r hr => (World.ownsRow.lt OR.out r hr).1))
      clear hown hgrow hg' hlt2 hlen
      go_wp2
      go_round
      case rel => exact ⟨j + 1, by omega, by go_num, OR2, HB2⟩
      case measure => first | (simp [intOf]; done) | (simp [intOf]; omega)
    · have jI : ¬ (j : Int) < (N : Int) := by omega
      have jN : j = N := by omega
      subst jN
      obtain ⟨RA, rc, hrv⟩ := OwnR.shape OR.out
      rw [failL_len] at hrv
      subst hrv
      have RRow := Lib.hid (show RowR RepB.V 2 wr RA j (failL j) from by
        obtain ⟨A2, c2, e, _, _, hr⟩ := OwnR.open repV_len OR.out
        rw [failL_len] at e hr
        injection e with e _ _
        subst e
        exact hr)
      have s1 := HB.out.size
      clear OR
      go_wp2_with fail
      refine (IT.out wr HB.out s1).mono ?_
      rintro e w2 ⟨v, L, rfl, ho, hlb, hb⟩
      have s2 := hb.size
      obtain ⟨EA, ec, hve, _, _, hent⟩ := OwnE.ents ho
      have hL6 : L.length ≤ 6 := by
        have h1 := congrArg List.length hlb
        rw [List.length_map] at h1
        rw [h1]
        exact itemsB_len _ _
      subst hve
      replace HB := Lib.hid (hop HB.out (Nat.le_refl _) hb)
      have NW := Lib.hid (new_any W.heap.size EA L.length ec L RA j rc (failL j) (by omega) (by omega) w2 hent (RRow.out.below hb))
      have HEN := Lib.hid ho
      clear hb ho hent IT hlb RRow
      go_wp2_with fail
      refine NW.out.mono ?_
      rintro e w3 ⟨b, L', rv, lv, rfl, hr, hbl, hp, hsd, hb⟩
      have s3 := hb.size
      have LR := Lib.hid (show ∀ x ∈ L', rightE x.b = true from fun x hx => (List.mem_filter.1 (hp.mem_iff.1 (List.mem_map_of_mem hx))).2)
      have hl6 : L'.length ≤ 6 := by
        have h1 := hp.length_eq
        rw [List.length_map] at h1
        rw [h1]
        unfold newE
        exact Nat.le_trans (List.length_filter_le _ _) (by rw [List.length_map]; exact hL6)
      have CN := Lib.hid (show (metL (fun _ => true) ⟨-100, 100, true, 100, false, ⟨0, [], ⟨#[]⟩⟩⟩ (L'.map EntX.b)).length = cntF L L.length from by
        rw [met_in]
        show ((L'.map EntX.b).filter (inT (-100) 100)).length = _
        rw [(hp.filter _).length_eq]
        unfold cntF
        rw [List.take_length])
      replace HB := Lib.hid (hop HB.out (Nat.le_refl _) hb)
      replace HEN := Lib.hid (HEN.out.below hb)
      have RP := Lib.hid hr
      have hWb : W.heap.size ≤ b := by omega
      have hEb : w2.heap.size ≤ b := hbl
      clear hr hbl hp hsd hb NW
      go_wp2_with fail
      refine (everyNone_any w3).mono ?_
      rintro e w4 ⟨rfl, hao, hb⟩
      have s4 := hb.size
      obtain ⟨ma, hma⟩ : ∃ g, w3.heap.size = g := ⟨_, rfl⟩
      rw [hma] at hao ⊢
      have bl := RP.out.blk.lt
      have nm : ma ≠ b := by omega
      have AO := Lib.hid hao
      replace RP := Lib.hid (RP.out.below hb)
      replace HB := Lib.hid (hop HB.out (Nat.le_refl _) hb)
      replace HEN := Lib.hid (HEN.out.below hb)
      clear hao hb hma s3
      have bl4 := RP.out.blk.lt
      have hW4 := HB.out.size
      obtain ⟨g6, hg6⟩ : ∃ g, w4.heap.size = g := ⟨_, rfl⟩
      have hb : Below w4.heap.size w4 (w4.alloc (.cells #[.int .i64 (-100), .int .i64 100, .bool true, .int .i64 100, .bool false, .int .i64 0, .slice none 0 0, .string ⟨#[]⟩] 58)) := (Below.refl _ _).alloc (Nat.le_refl _) _
      have K6 := Lib.hid (show Blk (w4.alloc (.cells #[.int .i64 (-100), .int .i64 100, .bool true, .int .i64 100, .bool false, .int .i64 0, .slice none 0 0, .string ⟨#[]⟩] 58)) g6 58 #[.int .i64 (-100), .int .i64 100, .bool true, .int .i64 100, .bool false, .int .i64 0, .slice none 0 0, .string ⟨#[]⟩] by rw [← hg6]; exact Blk.new _ _ _)
      have n6 : g6 ≠ b := by omega
      obtain ⟨w5, hw5⟩ : ∃ z, w4.alloc (.cells #[.int .i64 (-100), .int .i64 100, .bool true, .int .i64 100, .bool false, .int .i64 0, .slice none 0 0, .string ⟨#[]⟩] 58) = z := ⟨_, rfl⟩
      rw [hw5] at hb K6
      replace RP := Lib.hid (RP.out.below hb)
      replace AO := Lib.hid (AO.out.below hb AO.out.lt)
      replace HB := Lib.hid (hop HB.out (Nat.le_refl _) hb)
      replace HEN := Lib.hid (HEN.out.below hb)
      have HW5 := Lib.hid hw5
      have HG6 := Lib.hid hg6
      clear hb hw5 hg6 bl4 bl s4
      have hB5 : W.heap.size ≤ w5.heap.size := HB.out.size
      go_wp2
      rw [HW5.out, HG6.out]
      go_loopw [14] (fun iv wx => ∃ i : Nat, i ≤ j ∧ iv = .int .i64 (i : Nat) ∧ Hid (RepP w2.heap.size wx b (failL j) i L' rv lv) ∧ Hid (Blk wx ma 106 #[.slice none 0 0]) ∧ Hid (Blk wx g6 58 #[.int .i64 (-100), .int .i64 100, .bool true, .int .i64 100, .bool false, .int .i64 0, .slice none 0 0, .string ⟨#[]⟩]) ∧ Hid (OwnE W.heap.size wx wr.heap.size (.slice EA L.length ec) L) ∧ Hid (Below W.heap.size W wx)) (fun iv _ => j - (intOf iv).toNat)
      case atStart => exact ⟨0, Nat.zero_le _, rfl, RP, AO, K6, HEN, HB⟩
      case round =>
        clear RP AO K6 HEN HB HW5 HG6
        obtain ⟨i, hij, rfl, RP, AO, K6, HEN, HB⟩ := hrel
        have hsz := HB.out.size
        have a0_ : wr.cell? ⟨g6, 0, none⟩ = some (.int .i64 (-100)) := (K6.out.cell 0).trans rfl
        have a1_ : wr.cell? ⟨g6, 1, none⟩ = some (.int .i64 100) := (K6.out.cell 1).trans rfl
        have a2_ : wr.cell? ⟨g6, 2, none⟩ = some (.bool true) := (K6.out.cell 2).trans rfl
        have a3_ : wr.cell? ⟨g6, 3, none⟩ = some (.int .i64 100) := (K6.out.cell 3).trans rfl
        have a4_ : wr.cell? ⟨g6, 4, none⟩ = some (.bool false) := (K6.out.cell 4).trans rfl
        have a5_ : wr.cell? ⟨g6, 5, none⟩ = some (.int .i64 0) := (K6.out.cell 5).trans rfl
        have a6_ : wr.cell? ⟨g6, 6, none⟩ = some (.slice none 0 0) := (K6.out.cell 6).trans rfl
        have a7_ : wr.cell? ⟨g6, 7, none⟩ = some (.string ⟨#[]⟩) := (K6.out.cell 7).trans rfl
        by_cases hi : i < j
        · have iI : (i : Int) < (j : Int) := by omega
          have hwi : IntKind.i64.wrap ((i : Int) + 1) = (i : Int) + 1 := by rw [IntKind.wrap_i64]; omega
          go_wp2_with fail
          refine ((show Calls Tryz.prog 18 #[.pointer (some ⟨b, 0, none⟩), .agg #[.int .i64 (-100), .int .i64 100, .bool true, .int .i64 100, .bool false, .int .i64 0, .slice none 0 0, .string ⟨#[]⟩], .pointer (some ⟨ma, 0, none⟩)] wr _ from rangeDown_any _ b _ i L' rv lv _ ⟨-100, 100, true, 100, false, ⟨0, none, 0, 0, [], ⟨#[]⟩⟩⟩ (by omega) (by rw [failL_len]; omega) wr RP.out (by decide +kernel) (failL_at hi))).mono ?_
          rintro e w6 ⟨rfl, hr, hf⟩
          replace AO := Lib.hid (AO.out.fg hf nm)
          replace K6 := Lib.hid (K6.out.fg hf n6)
          replace HEN := Lib.hid (HEN.out.fgT hf hWb RP.out.blk rep_not_ent rep_not_pair)
          replace HB := Lib.hid (Se.FG.below hf HB.out hWb hsz)
          replace RP := Lib.hid hr
          clear hr hf a0_ a1_ a2_ a3_ a4_ a5_ a6_ a7_
          go_wp2_with fail
          refine ((show Calls Tryz.prog 18 #[.pointer (some ⟨b, 0, none⟩), .agg #[.int .i64 5, .int .i64 5, .bool false, .int .i64 1, .bool false, .int .i64 0, .slice none 0 0, .string ⟨#[]⟩], .pointer (some ⟨ma, 0, none⟩)] w6 _ from rangeBad_any ⟨5, 5, false, 1, false, ⟨0, none, 0, 0, [], ⟨#[]⟩⟩⟩ _ _ w6 (by decide))).mono ?_
          rintro e w7 ⟨rfl, hb⟩
          replace RP := Lib.hid (RP.out.below hb)
          replace AO := Lib.hid (AO.out.below hb AO.out.lt)
          replace K6 := Lib.hid (K6.out.below hb K6.out.lt)
          replace HEN := Lib.hid (HEN.out.below hb)
          replace HB := Lib.hid (hop HB.out (Nat.le_refl _) hb)
          clear hb
          have CL := Lib.hid (calls_any _ b _ (i + 1) L' rv lv w7 RP.out)
          rw [show (((i + 1 : Nat)) : Int) = (i : Int) + 1 by omega] at CL
          have eqi : (((i : Int) + 1) == ((i : Int) + 1)) = true := beq_self_eq_true _
          go_wp2_with fail
          refine CL.out.mono ?_
          rintro e _ ⟨rfl, rfl⟩
          clear CL
          go_wp2
          go_round
          case rel => exact ⟨i + 1, by omega, by go_num, RP, AO, K6, HEN, HB⟩
          case measure => first | (simp [intOf]; done) | (simp [intOf]; omega)
        · have iI : ¬ (i : Int) < (j : Int) := by omega
          have ij : i = j := by omega
          subst ij
          have ht := tell_all (T := fun _ => true) (a := ⟨-100, 100, true, 100, false, ⟨0, [], ⟨#[]⟩⟩⟩) (m := 100) (L := L'.map EntX.b) (by rw [List.length_map]; show L'.length ≤ 100; omega)
          have HT := Lib.hid ht
          clear ht
          go_wp2_with fail
          refine ((show Calls Tryz.prog 18 #[.pointer (some ⟨b, 0, none⟩), .agg #[.int .i64 (-100), .int .i64 100, .bool true, .int .i64 100, .bool false, .int .i64 0, .slice none 0 0, .string ⟨#[]⟩], .pointer (some ⟨ma, 0, none⟩)] wr _ from range_lit _ 0 b _ i L' rv lv _ (fun _ => true) _ (none_test b ma) ⟨-100, 100, true, 100, false, ⟨0, none, 0, 0, [], ⟨#[]⟩⟩⟩ (by omega) (by rw [failL_len]; omega) (by omega) LR.out wr RP.out AO.out (good_nilS _ _ _ (by decide) (by decide)) (Nat.zero_le _) (by decide +kernel) (by show (100 : Int) ≤ 9223372036854775807; decide) (by rw [failL_end]; decide) (by rw [failL_end]) 100 (by rw [failL_end]; rfl) _ _ HT.out.1 HT.out.2)).mono ?_
          rintro e w6 ⟨vp, Lp, rfl, hop_, hmp, hr, hf⟩
          replace HEN := Lib.hid (HEN.out.fgT hf hWb RP.out.blk rep_not_ent rep_not_pair)
          replace HB := Lib.hid (Se.FG.below hf HB.out hWb hsz)
          replace RP := Lib.hid hr
          have LPL : Lp.length = cntF L L.length := by
            have h1 := congrArg List.length hmp
            rw [List.length_map, CN.out] at h1
            exact h1
          obtain ⟨PA, pc, hpv⟩ := OwnR.shape hop_.1
          subst hpv
          obtain ⟨C, hC⟩ : ∃ C, cntF L L.length = C := ⟨_, rfl⟩
          rw [LPL, hC]
          have HC := Lib.hid hC
          obtain ⟨m, hm⟩ : ∃ m, L.length = m := ⟨_, rfl⟩
          rw [hm] at HEN HC ⊢
          have HM := Lib.hid hm
          have hEnts := HEN.out.ents
          obtain ⟨EA2, ec2, e1, _, _, hent⟩ := hEnts
          rw [hm] at e1 hent
          injection e1 with e1 _ _
          subst e1
          have HE := Lib.hid hent
          have m6 : m ≤ 6 := by omega
          clear hr hf hop_ hmp LPL hC hm hent K6 AO a0_ a1_ a2_ a3_ a4_ a5_ a6_ a7_
          go_wp2
          go_loopw [24, 25] (fun cv iv wy => ∃ k : Nat, k ≤ m ∧ cv = .int .i64 (cntF L k : Nat) ∧ iv = .int .i64 (k : Nat) ∧ Hid (Below w6.heap.size w6 wy)) (fun _ iv _ => m - (intOf iv).toNat)
          case atStart => exact ⟨0, Nat.zero_le _, rfl, rfl, Lib.hid (Below.refl _ _)⟩
          case round =>
            obtain ⟨k, hkm, rfl, rfl, HBk⟩ := hrel
            by_cases hk : k < m
            · have kI : (k : Int) < (m : Int) := by omega
              obtain ⟨ga, ka, hA, hlt1, hc1⟩ := (HE.out.below HBk.out).at_ (by omega)
              obtain ⟨p0, p1, p2, gx⟩ := hc1 k hk
              subst hA
              have NX := cntF_next L k (L.getD k xnil) (by rw [List.getD_eq_getElem?_getD, List.getElem?_eq_getElem (by rw [HM.out]; exact hk)]; rfl)
              have CLE := cntF_le L k
              obtain ⟨x, hx⟩ : ∃ x, L.getD k xnil = x := ⟨_, rfl⟩
              rw [hx] at p0 p1 p2 gx NX
              obtain ⟨cc, hcc⟩ : ∃ c, cntF L k = c := ⟨_, rfl⟩
              rw [hcc] at NX CLE ⊢
              have RI := Lib.hid (fun w (hw : Below wr.heap.size wr w) => entRight_any x.ts x.A x.n x.c x.ls x.ln gx.len w (gx.set.1.below hw))
              obtain ⟨q, hq⟩ : ∃ q, rightE x.b = q := ⟨_, rfl⟩
              replace RI : Hid (∀ w, Below wr.heap.size wr w → Calls Tryz.prog 28 #[.agg #[.int .i64 x.ts, .slice x.A x.n x.c, .string x.ln]] w fun e w' => e = .returned (.bool q) ∧ Below w.heap.size w w') := Lib.hid (fun w hw => by rw [← hq]; exact RI.out w hw)
              rw [hq] at NX
              obtain ⟨xt, xA, xn, xc, xs, xl⟩ := x
              have hin : inT (-100) 100 (EntX.b ⟨xt, xA, xn, xc, xs, xl⟩) = (decide (-100 ≤ xt) && decide (xt < 100)) := rfl
              rw [hin] at NX
              dsimp only at p0 p1 p2 RI
              have hwc : IntKind.i64.wrap ((cc : Int) + 1) = (cc : Int) + 1 := by rw [IntKind.wrap_i64]; omega
              clear hx hc1 gx hq hcc hin
              cases q with
              | false =>
                have NX0 := Lib.hid (show cntF L (k + 1) = cc by rw [NX]; simp)
                clear NX
                go_wp2_with fail
                refine (RI.out _ (Below.refl _ _)).mono ?_
                rintro e w8 ⟨rfl, hb⟩
                have HB8 := Lib.hid (hop HBk.out (Nat.le_refl _) hb)
                clear hb p0 p1 p2 RI
                go_wp2
                go_round
                case rel => exact ⟨k + 1, by omega, by rw [NX0.out], by go_num, HB8⟩
                case measure => first | (simp [intOf]; done) | (simp [intOf]; omega)
              | true =>
                have ways : (¬ -100 ≤ xt ∧ cntF L (k + 1) = cc) ∨ (-100 ≤ xt ∧ ¬ xt < 100 ∧ cntF L (k + 1) = cc) ∨ (-100 ≤ xt ∧ xt < 100 ∧ cntF L (k + 1) = cc + 1) := by
                  by_cases h1 : -100 ≤ xt
                  · by_cases h2 : xt < 100
                    · exact .inr (.inr ⟨h1, h2, by rw [NX]; simp [h1, h2]⟩)
                    · exact .inr (.inl ⟨h1, h2, by rw [NX]; simp [h1, h2]⟩)
                  · exact .inl ⟨h1, by rw [NX]; simp [h1]⟩
                clear NX
                have pk : ∀ w', Below wr.heap.size wr w' → w'.cell? ⟨ga, ka + k * 3, none⟩ = some (.int .i64 xt) := fun w' hb => (hb.cell (p := ⟨ga, ka + k * 3, none⟩) hlt1).trans p0
                have PK := Lib.hid pk
                clear pk
                rcases ways with ⟨u1, NX⟩ | ⟨u1, u2, NX⟩ | ⟨u1, u2, NX⟩
                all_goals
                  have NX0 := Lib.hid NX
                  clear NX
                  have v1 : (xt ≥ -100) = (-100 ≤ xt) := rfl
                  go_wp2_with fail
                  refine (RI.out _ (Below.refl _ _)).mono ?_
                  rintro e w8 ⟨rfl, hb⟩
                  have HB8 := Lib.hid (hop HBk.out (Nat.le_refl _) hb)
                  have p0_ := PK.out w8 hb
                  clear hb p0 p1 p2 RI
                  go_wp2
                  go_round
                  case rel => exact ⟨k + 1, by omega, by first | (rw [NX0.out]; done) | (rw [NX0.out]; go_num), by go_num, HB8⟩
                  case measure => first | (simp [intOf]; done) | (simp [intOf]; omega)
            · have kI : ¬ (k : Int) < (m : Int) := by omega
              have km : k = m := by omega
              have CL := Lib.hid (calls_any _ b _ (i + 1) L' rv lv wr (RP.out.below HBk.out))
              rw [show (((i + 1 : Nat)) : Int) = (i : Int) + 1 by omega] at CL
              have hwi : IntKind.i64.wrap ((i : Int) + 1) = (i : Int) + 1 := by rw [IntKind.wrap_i64]; omega
              have eqi : (((i : Int) + 1) == ((i : Int) + 1)) = true := beq_self_eq_true _
              have eqc : ((C : Int) == (C : Int)) = true := beq_self_eq_true _
              have HF := Lib.hid (hop HB.out (Nat.le_refl _) HBk.out)
              have HKC := Lib.hid (show cntF L k = C by rw [km]; exact HC.out)
              rw [HKC.out]
              clear km
              go_wp2_with fail
              refine CL.out.mono ?_
              rintro e _ ⟨rfl, rfl⟩
              clear CL
              go_wp2
              go_ret
              exact ⟨rfl, HF.out⟩
end Go.Proofs.YtkkpmhdhoppojaaGreatDoor
