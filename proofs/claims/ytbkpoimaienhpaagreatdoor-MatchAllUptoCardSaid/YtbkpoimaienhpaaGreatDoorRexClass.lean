-- shaken
import Derived.Test.YtbkpoimaienhpaaGreatDoorRexMem
import Derived.Test.YtbkpoimaienhpaaGreatDoorMem
namespace Go.Proofs.YtbkpoimaienhpaaGreatDoor
open Go.RowKit
set_option linter.unusedVariables false
set_option linter.unusedSimpArgs false
theorem many_none (S : Nat) : ∀ n, (∀ j, j < n → S.testBit j = false) → manyN S n = 0
  | 0, _ => rfl
  | n + 1, h => by
    show manyN S n + _ = 0
    rw [many_none S n (fun j hj => h j (by omega)), h n (by omega)]
    rfl
theorem many_some {S : Nat} (h : manyB S = 1) : ∃ j, j < 256 ∧ S.testBit j = true := by
  refine Classical.byContradiction fun hn => ?_
  have := many_none S 256 (fun j hj => by
    cases hb : S.testBit j
    · rfl
    · exact absurd ⟨j, hj, hb⟩ hn)
  unfold manyB at h
  omega
theorem leastN_le (S : Nat) : ∀ n b, leastN S b n ≤ b + n
  | 0, b => Nat.le_refl _
  | n + 1, b => by
    rw [leastN]
    split
    · omega
    · have := leastN_le S n (b + 1); omega
theorem least_lt (S : Nat) : leastB S < 256 := by
  have := leastN_le S 255 0
  unfold leastB
  omega
theorem spansF_head (S : Nat) : ∀ n b j, 256 ≤ b + n → b ≤ j → j < 256 → S.testBit j = true → ∃ hi rest, spansF S n b = (leastN S b (255 - b), hi) :: rest
  | 0, b, j, h1, h2, h3, _ => by omega
  | n + 1, b, j, h1, h2, h3, h4 => by
    rw [spansF, if_neg (by omega)]
    cases hb : S.testBit b with
    | true =>
      rw [if_pos rfl]
      have e : leastN S b (255 - b) = b := by
        cases hm : 255 - b with
        | zero => rfl
        | succ m => rw [leastN, if_pos hb]
      rw [e]
      exact ⟨_, _, rfl⟩
    | false =>
      rw [if_neg (by decide)]
      have hne : b ≠ j := fun e => by rw [e, h4] at hb; cases hb
      obtain ⟨m, hm⟩ : ∃ m, 255 - b = m + 1 := ⟨254 - b, by omega⟩
      rw [hm, leastN, if_neg (by rw [hb]; decide), show m = 255 - (b + 1) by omega]
      exact spansF_head S n (b + 1) j (by omega) (by omega) h3 h4
theorem spans_low (S : Nat) (hm : manyB S = 1) (W : World) :
    Calls Tryz.prog 114 #[setV S] W fun e w' => ∃ g n c, e = .returned (.slice (some ⟨g, 0, none⟩) n c) ∧ 0 < n ∧ g < w'.heap.size ∧ w'.cell? ⟨g, 0, none⟩ = some (.int .u8 (leastB S : Nat)) ∧ Below W.heap.size W w' := by
  obtain ⟨j, hj, hb⟩ := many_some hm
  obtain ⟨hi, rest, he⟩ := spansF_head S 256 0 j (by omega) (Nat.zero_le _) hj hb
  refine (spans_any S W).mono ?_
  rintro e w ⟨⟨v, rfl, ho⟩, hx⟩
  have hl : spansL S = (leastB S, hi) :: rest := he
  rw [hl] at ho
  obtain ⟨g, c, hv, _, hlt, _, hc⟩ := OwnR.at_ spanV_len ho (by simp)
  have h0 := hc 0 0 (leastB S, hi) rfl (by decide)
  exact ⟨g, _, c, by rw [hv], by rw [List.length_cons]; omega, hlt, h0, hx⟩
theorem wpAnyH_more {P : Program} {md : Region.Mode} {ops : Array Oper} {Q : Exit → Act → World → Prop} {S S' : World → Prop} (h : ∀ w, S' w → S w) :
    ∀ (fuel : Nat) (listed : Array Bool) (a : Act) (w : World), wpAnyH P md ops Q S' fuel listed a w → wpAnyH P md ops Q S fuel listed a w
  | 0, _, _, _, H => H
  | fuel + 1, _, _, _, H => ⟨H.1, fun i hi => wpOp_mono (fun a' w' h' => ⟨h _ h'.1, wpAnyH_more h fuel _ a' w' h'.2⟩) (H.2 i hi)⟩
theorem itemP_none {l : List UInt8} (h : memP l = none) : itemP l = none := by unfold itemP; rw [h]
theorem itemP_one {l r : List UInt8} {S : Nat} (h : memP l = some (S, r)) (hr : ∀ q, r ≠ 45 :: q) : itemP l = some (S, r) := by
  unfold itemP
  rw [h]
  cases r with
  | nil => rfl
  | cons c q =>
    by_cases hc : c = 45
    · exact absurd (by rw [hc]) (hr q)
    · simp [hc]
theorem itemP_two {l r : List UInt8} {S : Nat} (h : memP l = some (S, 45 :: r)) : itemP l = (match memP r with
    | none => none
    | some (t, r2) => if manyB S = 1 ∧ manyB t = 1 ∧ leastB S ≤ leastB t then some (withB 0 (leastB S) (leastB t), r2) else none) := by
  unfold itemP
  rw [h]
  rfl
set_option maxRecDepth 100000 in
set_option maxHeartbeats 3200000 in
theorem item_any (b : Nat) (t : ByteArray) (k o : Nat) (f : Bool) (e0 : Int) (W : World) (h : Ps W b t k o f e0) :
    Calls Tryz.prog 150 #[.pointer (some ⟨b, 0, none⟩)] W fun e w' => ∃ S ok j, e = .returned (.tuple #[setV S, .bool ok]) ∧ Ps w' b t j o f e0 ∧ W.grownBy w' (some b) ∧ SetPost (itemP (atL t k)) t S ok j := by
  have hlt := h.lt
  have hbn : W.heap.size ≠ b := by omega
  have HK0 := Lib.hid (zero_new W)
  have MB := Lib.hid (member_any b t k o f e0 _ (h.alloc (.cells #[.int .u64 0, .int .u64 0, .int .u64 0, .int .u64 0] 94)))
  have hs0 : (W.alloc (.cells #[.int .u64 0, .int .u64 0, .int .u64 0, .int .u64 0] 94)).heap.size = W.heap.size + 1 := by simp
  obtain ⟨I, hI⟩ : ∃ I, itemP (atL t k) = I := ⟨_, rfl⟩
  rw [hI]
  have HI := Lib.hid hI
  clear h hI
  go_enter Tryz.func150, Tryz.ntmps150
  go_wp2_with fail
  refine MB.out.mono ?_
  rintro e w1 ⟨S, ok, j, rfl, hp, hg, hpost⟩
  have HP1 := Lib.hid hp
  have HG1 := Lib.hid (World.grownBy.trans (World.grownBy_alloc W (.cells #[.int .u64 0, .int .u64 0, .int .u64 0, .int .u64 0] 94) (some b)) hg)
  have HK1 := Lib.hid (HK0.out.kept hg hbn)
  have hs1 : W.heap.size < w1.heap.size := by have := hg.size; omega
  have hb1 := hp.lt
  clear hg hp MB HK0
  have HPO := Lib.hid hpost
  clear hpost
  cases hm : memP (atL t k) with
  | none =>
    have hpost := HPO.out
    rw [hm] at hpost
    obtain rfl : ok = false := hpost
    have HI2 := Lib.hid (HI.out.symm.trans (itemP_none hm))
    obtain ⟨⟨d0, d1, d2, d3⟩, f0, f1, f2, f3⟩ := set_cells HK1.out
    clear hm HPO HI
    unfold setV setC
    go_wp2
    refine bodyPost_ret (results_row_tmp rfl _ _ W.heap.size 94 (setC 0) (0, 0) _ rfl ((set_four HK1.out _ _ _ _).alloc _) Tryz.underlying94 rfl (by kernel_rfl)) rfl ?_
    refine ⟨0, false, j, rfl, (HP1.out.four (Ne.symm hbn) _ _ _ _).alloc _, grown_alloc (grown_four HG1.out (Nat.le_refl _) _ _ _ _) _, ?_⟩
    rw [HI2.out]
    rfl
  | some x =>
    obtain ⟨T0, r⟩ := x
    have hpost := HPO.out
    rw [hm] at hpost
    obtain ⟨rfl, rfl, hr⟩ := hpost
    have HR1 := Lib.hid hr
    have HM := Lib.hid hm
    have HK2 := Lib.hid (HK1.out.alloc (.cells (setC S) 94))
    have HP2 := Lib.hid (HP1.out.alloc (.cells (setC S) 94))
    have HG2 := Lib.hid (grown_alloc HG1.out (.cells (setC S) 94))
    have HS2 := Lib.hid (new_at w1 94 (setC S) w1.heap.size rfl)
    clear hm hr HPO
    have HSZ := Lib.hid (show w1.heap.size + 1 = (w1.alloc (.cells (setC S) 94)).heap.size by simp)
    have hne1 : w1.heap.size ≠ b := by omega
    by_cases h45 : ∃ q, r = 45 :: q
    · obtain ⟨q, rfl⟩ := h45
      have HI2 := Lib.hid (HI.out.symm.trans (itemP_two HM.out))
      have TN := Lib.hid (take_yes2 b ⟨#[45]⟩ (by decide) q t j o f e0 HR1.out _ HP2.out (w1.heap.size + 1) HSZ.out)
      have MB := Lib.hid (fun w h => member_any b t (j + 1) o f e0 w h)
      unfold setV setC
      go_wp2_with fail
      refine TN.out.mono ?_
      rintro e w3 ⟨⟨x, rfl⟩, ⟨hp, hr⟩, hg⟩
      have HP3 := Lib.hid hp
      have HR3 := Lib.hid (show atL t (j + 1) = q from hr)
      have HG3 := Lib.hid (World.grownBy.trans HG2.out hg)
      have HK3 := Lib.hid (HK2.out.kept hg hbn)
      have HS3 := Lib.hid (HS2.out.kept hg hne1)
      have hs3 : w1.heap.size < w3.heap.size := by have := hg.size; rw [World.size_alloc] at this; omega
      clear hp hr hg TN HP2 HG2 HK2 HS2 HP1 HG1 HK1 HM HI HSZ
      go_wp2_with fail
      refine (MB.out _ HP3.out).mono ?_
      rintro e w4 ⟨T, ok2, j2, rfl, hp, hg, hpost⟩
      have HP4 := Lib.hid hp
      have HG4 := Lib.hid (World.grownBy.trans HG3.out hg)
      have HK4 := Lib.hid (HK3.out.kept hg hbn)
      have HS4 := Lib.hid (HS3.out.kept hg hne1)
      have hs4 : w1.heap.size < w4.heap.size := by have := hg.size; omega
      have hs5 : W.heap.size < w4.heap.size := by omega
      have hb4 := hp.lt
      rw [HR3.out] at hpost
      have HPO := Lib.hid hpost
      clear hpost hp hg MB HP3 HG3 HK3 HS3 HR3
      cases hm : memP q with
      | none =>
        have hpost := HPO.out
        rw [hm] at hpost
        obtain rfl : ok2 = false := hpost
        have hi := HI2.out
        rw [hm] at hi
        have HI3 := Lib.hid hi
        obtain ⟨⟨d0, d1, d2, d3⟩, f0, f1, f2, f3⟩ := set_cells HK4.out
        clear hm HPO hi HI2
        unfold setV setC
        go_wp2
        refine bodyPost_ret (results_row_tmp rfl _ _ W.heap.size 94 (setC 0) (0, 0) _ rfl ((set_four HK4.out _ _ _ _).alloc _) Tryz.underlying94 rfl (by kernel_rfl)) rfl ?_
        refine ⟨0, false, j2, rfl, (HP4.out.four (Ne.symm hbn) _ _ _ _).alloc _, grown_alloc (grown_four HG4.out (Nat.le_refl _) _ _ _ _) _, ?_⟩
        rw [HI3.out]
        rfl
      | some x2 =>
        obtain ⟨T0, r2⟩ := x2
        have hpost := HPO.out
        rw [hm] at hpost
        obtain ⟨rfl, rfl, hr2⟩ := hpost
        have hi := HI2.out
        rw [hm] at hi
        dsimp only at hi
        have HI3 := Lib.hid hi
        have HR5 := Lib.hid hr2
        have HK5 := Lib.hid (HK4.out.alloc (.cells (setC T) 94))
        have HS5 := Lib.hid (HS4.out.alloc (.cells (setC T) 94))
        have HT5 := Lib.hid (new_at w4 94 (setC T) w4.heap.size rfl)
        have HP5 := Lib.hid (HP4.out.alloc (.cells (setC T) 94))
        have HG5 := Lib.hid (grown_alloc HG4.out (.cells (setC T) 94))
        obtain ⟨⟨a0, a1, a2, a3⟩, _⟩ := set_cells HS4.out
        have MS := rexMany_any S (w4.alloc (.cells (setC T) 94))
        obtain ⟨mS, hmS⟩ : ∃ m, manyB S = m := ⟨_, rfl⟩
        rw [hmS] at MS
        replace MS := Lib.hid MS
        have HMS := Lib.hid hmS
        clear hm HPO hi HI2 hr2 HK4 HP4 HG4 hmS
        by_cases h1 : mS = 1
        · have g1 : ((mS : Int) == 1) = true := by simp [h1]
          have g1' : ((mS : Int) != 1) = false := by simp [h1]
          obtain ⟨mT, hmT⟩ : ∃ m, manyB T = m := ⟨_, rfl⟩
          have MT := fun w => rexMany_any T w
          simp only [hmT] at MT
          replace MT := Lib.hid MT
          have HMT := Lib.hid hmT
          clear hmT
          have hne4 : w4.heap.size ≠ b := by omega
          by_cases h2 : mT = 1
          · have g2 : ((mT : Int) == 1) = true := by simp [h2]
            have g2' : ((mT : Int) != 1) = false := by simp [h2]
            have SPS := Lib.hid (fun w => spans_low S (HMS.out.trans h1) w)
            have SPT := Lib.hid (fun w => spans_low T (HMT.out.trans h2) w)
            have lS := least_lt S
            have lT := least_lt T
            obtain ⟨lo, hlo⟩ : ∃ x, leastB S = x := ⟨_, rfl⟩
            obtain ⟨hi, hhi⟩ : ∃ x, leastB T = x := ⟨_, rfl⟩
            rw [hlo] at SPS lS
            rw [hhi] at SPT lT
            have HLO := Lib.hid hlo
            have HHI := Lib.hid hhi
            clear hlo hhi
            unfold setV setC
            go_wp2_with fail
            refine MS.out.mono ?_
            rintro e w6 ⟨rfl, hx⟩
            have HK6 := Lib.hid (HK5.out.below hx HK5.out.lt)
            have HP6 := Lib.hid (HP5.out.belowS hx)
            have HG6 := Lib.hid (grown_hop HG5.out hx)
            have HS6 := Lib.hid (HS5.out.below hx HS5.out.lt)
            have HT6 := Lib.hid (HT5.out.below hx HT5.out.lt)
            obtain ⟨⟨b0, b1, b2, b3⟩, _⟩ := set_cells HT6.out
            clear hx a0 a1 a2 a3 MS HK5 HP5 HG5 HS5 HT5
            go_wp2_with fail
            refine (MT.out _).mono ?_
            rintro e w7 ⟨rfl, hx⟩
            have HK7 := Lib.hid (HK6.out.below hx HK6.out.lt)
            have HP7 := Lib.hid (HP6.out.belowS hx)
            have HG7 := Lib.hid (grown_hop HG6.out hx)
            have HS7 := Lib.hid (HS6.out.below hx HS6.out.lt).drew
            have HT7 := Lib.hid (HT6.out.below hx HT6.out.lt).drew
            obtain ⟨s0, s1, s2, s3, hsS⟩ : ∃ s0 s1 s2 s3, setC S = #[s0, s1, s2, s3] := ⟨_, _, _, _, rfl⟩
            obtain ⟨t0, t1, t2, t3, hsT⟩ : ∃ s0 s1 s2 s3, setC T = #[s0, s1, s2, s3] := ⟨_, _, _, _, rfl⟩
            have HS8 := HS7.out
            have HT8 := HT7.out
            rw [hsS] at HS8
            rw [hsT] at HT8
            have HT9 := Lib.hid HT8
            have HS9 := Lib.hid HS8
            unfold setV at SPS SPT
            simp only [hsS] at SPS
            simp only [hsT] at SPT
            replace HK7 := Lib.hid HK7.out.drew
            replace HP7 := Lib.hid (HP7.out.drewN 1)
            replace HG7 := Lib.hid (World.grownBy.trans HG7.out (grown_drew w7 (some b) 1))
            clear hsS hsT HS8 HT8 HS7 HT7
            clear hx b0 b1 b2 b3 MT HK6 HP6 HG6 HS6 HT6
            go_wp2
            have S0 : Blk w7.drew w1.heap.size 94 #[s0, s1, s2, s3] ∧ Blk w7.drew w4.heap.size 94 #[t0, t1, t2, t3] := ⟨HS9.out, HT9.out⟩
            refine wp_region_held_drew (S := fun w' => (Blk w' w1.heap.size 94 #[s0, s1, s2, s3] ∧ Blk w' w4.heap.size 94 #[t0, t1, t2, t3])) (by kernel_rfl) S0 (fun hHeld => ?_)
            refine tC 0 rfl (by intro w hSw; have q0 := hSw.1.cell 0; have q1 := hSw.1.cell 1; have q2 := hSw.1.cell 2; have q3 := hSw.1.cell 3; first | (go_simp; done) | (go_simp; with_reducible rfl)) ?_
            refine tC 5 rfl (by intro w hSw; have q0 := hSw.2.cell 0; have q1 := hSw.2.cell 1; have q2 := hSw.2.cell 2; have q3 := hSw.2.cell 3; first | (go_simp; done) | (go_simp; with_reducible rfl)) ?_
            refine rdy [1] ?_
            refine rdC (fun K hK => ?_) AllReadyH.nil
            go_simp
            go_at_call 114
            refine (SPS.out _).mono ?_
            rintro e w8 ⟨gS, ngS, cgS, rfl, pS, lS8, qS, hx8⟩
            have S1 : Blk w8 w1.heap.size 94 #[s0, s1, s2, s3] ∧ Blk w8 w4.heap.size 94 #[t0, t1, t2, t3] := ⟨S0.1.below hx8 S0.1.lt, S0.2.below hx8 S0.2.lt⟩
            refine hK.out _ _ S1 (fun _ => ?_)
            have S2 : (Blk w8 w1.heap.size 94 #[s0, s1, s2, s3] ∧ Blk w8 w4.heap.size 94 #[t0, t1, t2, t3]) ∧ w8.cell? ⟨gS, 0, none⟩ = some (.int .u8 (lo : Int)) := ⟨S1, qS⟩
            refine wpAnyH_more (S' := fun w' => (Blk w' w1.heap.size 94 #[s0, s1, s2, s3] ∧ Blk w' w4.heap.size 94 #[t0, t1, t2, t3]) ∧ w'.cell? ⟨gS, 0, none⟩ = some (.int .u8 (lo : Int))) (fun _ h => h.1) _ _ _ _ ?_
            clear hK K
            try simp only [Act.put, pz1, pz2, pz3]
            refine tV 2 ?_; refine tV 3 ?_
            refine tC 4 rfl (by intro w hSw; have q0 := hSw.2; first | (go_simp; done) | (go_simp; with_reducible rfl)) ?_
            refine rdy [6] ?_
            refine rdC (fun K hK => ?_) AllReadyH.nil
            go_simp
            go_at_call 114
            refine (SPT.out _).mono ?_
            rintro e w9 ⟨gT, ngT, cgT, rfl, pT, lT9, qT, hx9⟩
            have S3 : (Blk w9 w1.heap.size 94 #[s0, s1, s2, s3] ∧ Blk w9 w4.heap.size 94 #[t0, t1, t2, t3]) ∧ w9.cell? ⟨gS, 0, none⟩ = some (.int .u8 (lo : Int)) := ⟨⟨S1.1.below hx9 S1.1.lt, S1.2.below hx9 S1.2.lt⟩, (hx9.cell (p := ⟨gS, 0, none⟩) lS8).trans qS⟩
            refine hK.out _ _ S3 (fun _ => ?_)
            have S4 : ((Blk w9 w1.heap.size 94 #[s0, s1, s2, s3] ∧ Blk w9 w4.heap.size 94 #[t0, t1, t2, t3]) ∧ w9.cell? ⟨gS, 0, none⟩ = some (.int .u8 (lo : Int))) ∧ w9.cell? ⟨gT, 0, none⟩ = some (.int .u8 (hi : Int)) := ⟨S3, qT⟩
            refine wpAnyH_more (S' := fun w' => ((Blk w' w1.heap.size 94 #[s0, s1, s2, s3] ∧ Blk w' w4.heap.size 94 #[t0, t1, t2, t3]) ∧ w'.cell? ⟨gS, 0, none⟩ = some (.int .u8 (lo : Int))) ∧ w'.cell? ⟨gT, 0, none⟩ = some (.int .u8 (hi : Int))) (fun _ h => h.1) _ _ _ _ ?_
            clear hK K
            try simp only [Act.put, pz1, pz2, pz3]
            refine tV 7 ?_; refine tV 8 ?_
            refine tC 9 rfl (by intro w hSw; have q0 := hSw.2; first | (go_simp; done) | (go_simp; with_reducible rfl)) ?_
            refine tV 10 ?_; refine tV 11 ?_
            refine wpAnyH_done (by kernel_rfl) ?_ _
            have HKa := Lib.hid ((HK7.out.below hx8 HK7.out.lt).below hx9 (HK7.out.below hx8 HK7.out.lt).lt)
            have HPa := Lib.hid ((HP7.out.belowS hx8).belowS hx9)
            have HGa := Lib.hid (grown_hop (grown_hop HG7.out hx8) hx9)
            have SO := Lib.hid (setOf_any (some ⟨w9.heap.size, 0, none⟩) 1 1 [(lo, hi)] (by simp; omega) (by decide) _ (spans_lit w9 [(lo, hi)] _ rfl))
            have hf : setV (foldB [(lo, hi)]) = setV (withB 0 lo hi) := rfl
            rw [hf] at SO
            have hi3 := HI3.out
            rw [HMS.out, HMT.out, HLO.out, HHI.out] at hi3
            have HI4 := Lib.hid hi3
            obtain ⟨R, hR⟩ : ∃ R, withB 0 lo hi = R := ⟨_, rfl⟩
            rw [hR] at SO
            have HRR := Lib.hid hR
            clear hx8 hx9 HK7 HP7 HG7 S0 S1 S2 S3 S4 hHeld lS8 qS lT9 qT pS pT HS9 HT9 SPS SPT hi3 hf HI3 HMS HMT HLO HHI hR
            go_wp2_with fail
            refine SO.out.mono ?_
            rintro e wb ⟨rfl, hx⟩
            have HKb := Lib.hid ((HKa.out.alloc (.cells (rowV spanV [(lo, hi)]).toArray 189)).below hx (HKa.out.alloc _).lt)
            have HPb := Lib.hid ((HPa.out.alloc (.cells (rowV spanV [(lo, hi)]).toArray 189)).belowS hx)
            have HGb := Lib.hid (grown_hop (grown_alloc HGa.out (.cells (rowV spanV [(lo, hi)]).toArray 189)) hx)
            obtain ⟨⟨d0, d1, d2, d3⟩, f0, f1, f2, f3⟩ := set_cells HKb.out
            clear hx HKa HPa HGa SO
            by_cases hle : lo ≤ hi
            · have hleI : (lo : Int) ≤ (hi : Int) := by omega
              unfold setV setC
              go_wp2
              refine bodyPost_ret (results_row_tmp rfl _ _ W.heap.size 94 (setC R) (0, 0) _ rfl (set_four HKb.out _ _ _ _) Tryz.underlying94 rfl (by kernel_rfl)) rfl ?_
              refine ⟨R, true, j2, rfl, HPb.out.four (Ne.symm hbn) _ _ _ _, grown_four HGb.out (Nat.le_refl _) _ _ _ _, ?_⟩
              rw [HI4.out, if_pos ⟨h1, h2, hle⟩]
              exact ⟨rfl, HRR.out.symm, HR5.out⟩
            · have hleI : ¬ (lo : Int) ≤ (hi : Int) := by omega
              unfold setV setC
              go_wp2
              refine bodyPost_ret (results_row_tmp rfl _ _ W.heap.size 94 (setC R) (0, 0) _ rfl (set_four HKb.out _ _ _ _) Tryz.underlying94 rfl (by kernel_rfl)) rfl ?_
              refine ⟨R, false, j2, rfl, HPb.out.four (Ne.symm hbn) _ _ _ _, grown_four HGb.out (Nat.le_refl _) _ _ _ _, ?_⟩
              rw [HI4.out, if_neg (fun q => hle q.2.2)]
              rfl
          · have g2 : ¬ (mT : Int) = 1 := by omega
            have g2' : ((mT : Int) != 1) = true := by simp; omega
            unfold setV setC
            go_wp2_with fail
            refine MS.out.mono ?_
            rintro e w6 ⟨rfl, hx⟩
            have HK6 := Lib.hid (HK5.out.below hx HK5.out.lt)
            have HP6 := Lib.hid (HP5.out.belowS hx)
            have HG6 := Lib.hid (grown_hop HG5.out hx)
            obtain ⟨⟨b0, b1, b2, b3⟩, _⟩ := set_cells (HT5.out.below hx HT5.out.lt)
            clear hx a0 a1 a2 a3 MS HK5 HP5 HG5
            go_wp2_with fail
            refine (MT.out _).mono ?_
            rintro e w7 ⟨rfl, hx⟩
            have HK7 := Lib.hid (HK6.out.below hx HK6.out.lt)
            have HP7 := Lib.hid (HP6.out.belowS hx)
            have HG7 := Lib.hid (grown_hop HG6.out hx)
            obtain ⟨⟨d0, d1, d2, d3⟩, f0, f1, f2, f3⟩ := set_cells HK7.out
            clear hx b0 b1 b2 b3 MT HK6 HP6 HG6
            go_wp2
            refine bodyPost_ret (results_row_tmp rfl _ _ W.heap.size 94 (setC 0) (0, 0) _ rfl (set_four HK7.out _ _ _ _) Tryz.underlying94 rfl (by kernel_rfl)) rfl ?_
            refine ⟨0, false, j2, rfl, HP7.out.four (Ne.symm hbn) _ _ _ _, grown_four HG7.out (Nat.le_refl _) _ _ _ _, ?_⟩
            rw [HI3.out, if_neg (by rintro ⟨_, q1, _⟩; rw [HMT.out] at q1; exact h2 q1)]
            rfl
        · have g1 : ¬ (mS : Int) = 1 := by omega
          have g1' : ((mS : Int) != 1) = true := by simp; omega
          unfold setV setC
          go_wp2_with fail
          refine MS.out.mono ?_
          rintro e w6 ⟨rfl, hx⟩
          have HK6 := Lib.hid (HK5.out.below hx HK5.out.lt)
          have HP6 := Lib.hid (HP5.out.belowS hx)
          have HG6 := Lib.hid (grown_hop HG5.out hx)
          obtain ⟨⟨d0, d1, d2, d3⟩, f0, f1, f2, f3⟩ := set_cells HK6.out
          clear hx a0 a1 a2 a3 MS HK5 HP5 HG5
          go_wp2
          refine bodyPost_ret (results_row_tmp rfl _ _ W.heap.size 94 (setC 0) (0, 0) _ rfl (set_four HK6.out _ _ _ _) Tryz.underlying94 rfl (by kernel_rfl)) rfl ?_
          refine ⟨0, false, j2, rfl, HP6.out.four (Ne.symm hbn) _ _ _ _, grown_four HG6.out (Nat.le_refl _) _ _ _ _, ?_⟩
          rw [HI3.out, if_neg (by rintro ⟨q1, _⟩; rw [HMS.out] at q1; exact h1 q1)]
          rfl
    · have hr45 : ∀ q, r ≠ 45 :: q := fun q e => h45 ⟨q, e⟩
      have HI2 := Lib.hid (HI.out.symm.trans (itemP_one HM.out hr45))
      have TN := Lib.hid (take_no2 b ⟨#[45]⟩ (by decide) t j o f e0 (by
        rw [HR1.out]
        cases r with
        | nil => rfl
        | cons c q =>
          show (45 == c && _) = false
          rw [Bool.and_eq_false_iff]
          left
          rw [beq_eq_false_iff_ne]
          exact fun e => h45 ⟨q, by rw [e]⟩) _ HP2.out (w1.heap.size + 1) HSZ.out)
      unfold setV setC
      go_wp2_with fail
      refine TN.out.mono ?_
      rintro e w3 ⟨⟨x, rfl⟩, hp, hg⟩
      have HP3 := Lib.hid hp
      have HG3 := Lib.hid (World.grownBy.trans HG2.out hg)
      have HK3 := Lib.hid (HK2.out.kept hg hbn)
      obtain ⟨⟨a0, a1, a2, a3⟩, _⟩ := set_cells (HS2.out.kept hg hne1)
      obtain ⟨⟨d0, d1, d2, d3⟩, f0, f1, f2, f3⟩ := set_cells HK3.out
      clear hp hg TN HP2 HG2 HK2 HS2 HP1 HG1 HK1 HM HI HSZ hr45
      go_wp2
      refine bodyPost_ret (results_row_tmp rfl _ _ W.heap.size 94 (setC S) (0, 0) _ rfl (set_four HK3.out _ _ _ _) Tryz.underlying94 rfl (by kernel_rfl)) rfl ?_
      refine ⟨S, true, j, rfl, HP3.out.four (Ne.symm hbn) _ _ _ _, grown_four HG3.out (Nat.le_refl _) _ _ _ _, ?_⟩
      rw [HI2.out]
      exact ⟨rfl, rfl, HR1.out⟩
theorem oneB_lt (n : Nat) (h : n < 256) : oneB n < 2 ^ 256 := withB_lt _ _ (by decide) h
theorem escP_some {l r : List UInt8} {S : Nat} (h : escP l = some (S, r)) : S < 2 ^ 256 ∧ r.length < l.length := by
  cases l with
  | nil => cases h
  | cons b q =>
    rw [escP_cons] at h
    split at h
    · cases h; exact ⟨oneB_lt 10 (by decide), by simp⟩
    · split at h
      · cases h; exact ⟨oneB_lt 9 (by decide), by simp⟩
      · split at h
        · cases h; exact ⟨withB_lt _ _ (by decide) (by decide), by simp⟩
        · split at h
          · cases h; exact ⟨withB_lt _ _ (withB_lt _ _ (withB_lt _ _ (withB_lt _ _ (by decide) (by decide)) (by decide)) (by decide)) (by decide), by simp⟩
          · split at h
            · cases h; exact ⟨withB_lt _ _ (withB_lt _ _ (withB_lt _ _ (by decide) (by decide)) (by decide)) (by decide), by simp⟩
            · split at h
              · cases h; exact ⟨oneB_lt _ b.toNat_lt, by simp⟩
              · cases h
theorem memP_some {l r : List UInt8} {S : Nat} (h : memP l = some (S, r)) : S < 2 ^ 256 ∧ r.length < l.length := by
  cases l with
  | nil => cases h
  | cons b q =>
    rw [memP_cons] at h
    split at h
    · have := escP_some h
      exact ⟨this.1, by rw [List.length_cons]; omega⟩
    · split at h
      · cases h
      · cases h; exact ⟨oneB_lt _ b.toNat_lt, by simp⟩
theorem itemP_some {l r : List UInt8} {S : Nat} (h : itemP l = some (S, r)) : S < 2 ^ 256 ∧ r.length < l.length := by
  cases hm : memP l with
  | none => rw [itemP_none hm] at h; cases h
  | some x =>
    obtain ⟨T, q⟩ := x
    have h1 := memP_some hm
    by_cases h45 : ∃ p, q = 45 :: p
    · obtain ⟨p, rfl⟩ := h45
      rw [itemP_two hm] at h
      cases hm2 : memP p with
      | none => rw [hm2] at h; cases h
      | some y =>
        obtain ⟨T2, q2⟩ := y
        have h2 := memP_some hm2
        rw [hm2] at h
        dsimp only at h
        split at h
        · cases h
          rw [List.length_cons] at h1
          exact ⟨withB_lt _ _ (by decide) (least_lt _), by omega⟩
        · cases h
    · rw [itemP_one hm (fun p e => h45 ⟨p, e⟩)] at h
      cases h
      exact h1
theorem itemsP_end (n all : Nat) (r : List UInt8) : itemsP (n + 1) all (93 :: r) = some (all, r) := rfl
theorem itemsP_next {n all : Nat} {l : List UInt8} (h : ∀ q, l ≠ 93 :: q) : itemsP (n + 1) all l = (match itemP l with
    | none => none
    | some (s, r) => itemsP n (all ||| s) r) := by
  rw [itemsP]
  · rfl
  · exact fun q e => h q e
theorem classP_hat (r : List UInt8) : classP (94 :: r) = classB true r := rfl
theorem classP_not {l : List UInt8} (h : ∀ q, l ≠ 94 :: q) : classP l = classB false l := by
  unfold classP
  split
  · rename_i q; exact absurd rfl (h q)
  · rfl
def posOf (w : World) (b : Nat) : Nat := match w.cell? ⟨b, 1, none⟩ with | some (.int _ i) => i.toNat | _ => 0
theorem Ps.pos {w : World} {b : Nat} {t : ByteArray} {k o : Nat} {f : Bool} {e : Int} (h : Ps w b t k o f e) : posOf w b = k := by
  unfold posOf
  rw [show w.cell? ⟨b, 1, none⟩ = some (.int .i64 (k : Int)) from h.blk.cell 1]
  simp
theorem head_no (c : UInt8) (l : List UInt8) (h : ∀ q, l ≠ c :: q) : [c].isPrefixOf l = false := by
  cases l with
  | nil => rfl
  | cons d q =>
    show (c == d && _) = false
    rw [Bool.and_eq_false_iff]
    left
    rw [beq_eq_false_iff_ne]
    exact fun e => h q (by rw [e])
theorem eq_sets24 (a b c d x y z u : Int) (w : World) : (Op.equalIn 10000 94 (.agg #[.int .u64 a, .int .u64 b, .int .u64 c, .int .u64 d]) (.agg #[.int .u64 x, .int .u64 y, .int .u64 z, .int .u64 u])).run Tryz.prog w = .ok (a == x && b == y && c == z && d == u) w := by
  have u3 := Tryz.underlying92
  have a3 := Tryz.isAgg22
  have z3 := Tryz.sizeOf22
  rw [show (10000 : Nat) = 9999 + 1 from rfl, Op.equalIn]
  simp only [Sem.run_bind, run_underlying Tryz.underlying94, Result.andThen_ok]
  simp only [Std.Legacy.Range.forIn_eq_forIn_range', Std.Legacy.Range.size, Nat.sub_zero, Nat.add_sub_cancel, Nat.div_one, List.range'_succ, List.range'_zero, List.forIn_cons, List.forIn_nil]
  go_simp
  by_cases h1 : a = x <;> by_cases h2 : b = y <;> by_cases h3 : c = z <;> by_cases h4 : d = u <;> simp [h1, h2, h3, h4]
theorem set_zero {S : Nat} (h : S < 2 ^ 256) : ((word S 0 : Int) == 0 && (word S 1 : Int) == 0 && (word S 2 : Int) == 0 && (word S 3 : Int) == 0) = decide (S = 0) := by
  rw [Bool.eq_iff_iff, decide_eq_true_iff]
  constructor
  · intro e
    simp only [Bool.and_eq_true, beq_iff_eq] at e
    obtain ⟨⟨⟨e0, e1⟩, e2⟩, e3⟩ := e
    refine set_ext h (by decide) (fun i hi => ?_)
    match i, hi with
    | 0, _ => show word S 0 = 0; omega
    | 1, _ => show word S 1 = 0; omega
    | 2, _ => show word S 2 = 0; omega
    | 3, _ => show word S 3 = 0; omega
  · rintro rfl
    decide
theorem neq_zero24 {S : Nat} (h : S < 2 ^ 256) (w : World) : (Op.equalIn 10000 94 (.agg #[.int .u64 (word S 0 : Nat), .int .u64 (word S 1 : Nat), .int .u64 (word S 2 : Nat), .int .u64 (word S 3 : Nat)]) (.agg #[.int .u64 0, .int .u64 0, .int .u64 0, .int .u64 0])).run Tryz.prog w = .ok (decide (S = 0)) w := by
  rw [eq_sets24, set_zero h]
end Go.Proofs.YtbkpoimaienhpaaGreatDoor
