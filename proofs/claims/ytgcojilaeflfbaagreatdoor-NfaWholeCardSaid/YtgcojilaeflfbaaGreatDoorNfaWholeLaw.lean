/- NfaWhole: the walk of the law. -/
import Derived.Test.YtgcojilaeflfbaaGreatDoorNfaExam
namespace Go.Proofs.YtgcojilaeflfbaaGreatDoor
open Go.RowKit
set_option linter.unusedVariables false
set_option linter.unusedSimpArgs false

theorem around_text (s : ByteArray) : ((⟨#[40, 46, 124, 10, 41, 42, 40]⟩ : ByteArray) ++ s ++ (⟨#[41, 40, 46, 124, 10, 41, 42]⟩ : ByteArray)).data.toList = aroundL s.data.toList := by
  simp only [text_joined, aroundL, inB_true]
  simp
theorem ends_text (s : ByteArray) : ((⟨#[94, 40]⟩ : ByteArray) ++ s ++ (⟨#[41, 36]⟩ : ByteArray)).data.toList = endsL s.data.toList := by
  simp only [text_joined, endsL, inB_true]
  simp
/-- a text that is read, or that is too large -/
theorem RD.res2 {l : List UInt8} {x : NodeT} (h : RD l x) : (∃ a, parseB l = (x, a, 0)) ∨ (∃ n a, parseB l = (n, a, 4)) := by
  rcases h.res with ⟨a, h1, _⟩ | h1
  · exact .inl ⟨a, h1⟩
  · exact .inr ⟨(parseB l).1, (parseB l).2.1, by rw [← h1]⟩
set_option maxRecDepth 100000 in
set_option maxHeartbeats 3200000 in
theorem nfaWhole_walk {W : World} (A : Option Addr) (len c : Nat) (zs : List Int) (A2 : Option Addr) (len2 c2 : Nat) (zs2 : List Int) (h1 : Ints .u8 W A len zs) (hnc : len ≤ c) (hcm : c ≤ maxLen) (h2 : Ints .u8 W A2 len2 zs2) (hnc2 : len2 ≤ c2) (hcm2 : c2 ≤ maxLen) (hl : LibIs W) :
    Calls Tryz.prog 3 #[.slice A len c, .slice A2 len2 c2] W fun e w' => e = .returned (.bool true) ∧ Below W.heap.size W w' := by
  have HEX := Lib.hid (fun w h => examples5_any w h)
  have HL := Lib.hid hl
  clear hl
  have R1 := Lib.hid (fun w (hb : Below W.heap.size W w) => rexes_any A len c zs (h1.below hb) hnc hcm)
  have R2 := Lib.hid (fun w (hb : Below W.heap.size W w) => few5_any A2 len2 c2 zs2 (h2.below hb) hnc2 hcm2)
  clear h1 h2 hnc hcm hnc2 hcm2
  go_enter Tryz.func3, Tryz.ntmps3
  go_wp2_with fail
  refine (HEX.out W HL.out).mono ?_
  rintro e w1 ⟨rfl, hb_⟩
  have HB_ := Lib.hid hb_
  clear hb_
  go_wp2_with fail
  refine (R1.out w1 HB_.out).mono ?_
  rintro e w2 ⟨⟨s, rfl, hzs⟩, hb_⟩
  have hbb_ := hop HB_.out (Nat.le_refl _) hb_
  clear HB_
  have HB_ := Lib.hid hbb_
  clear hbb_ hb_
  go_wp2_with fail
  refine (R2.out w2 HB_.out).mono ?_
  rintro e w3 ⟨⟨t, rfl, hzt, _⟩, hb_⟩
  have hbb_ := hop HB_.out (Nat.le_refl _) hb_
  clear HB_
  have HB_ := Lib.hid hbb_
  clear hbb_ hb_
  have s1 : ¬ 9223372036854775807 < 7 + s.size := by omega
  have s2 : ¬ 9223372036854775807 < 7 + s.size + 7 := by omega
  have s3 : ¬ 9223372036854775807 < 2 + s.size := by omega
  have s4 : ¬ 9223372036854775807 < 2 + s.size + 2 := by omega
  obtain ⟨x, a, er, hpb⟩ : ∃ x a er, parseB s.data.toList = (x, a, er) := ⟨_, _, _, rfl⟩
  have HPB := Lib.hid hpb
  clear hpb R1 R2 HEX
  by_cases her : er = 0
  · subst her
    obtain ⟨hrd, _, _, _⟩ := RD.of HPB.out
    have HRD := Lib.hid hrd
    have hwf := hrd.nf.canB
    have HLAW := Lib.hid (fun (wp fp qw rf rw : Bool) h1 h2 h3 h4 h5 => law_whole (s := t.data.toList) hwf (wp := wp) (fp := fp) (qw := qw) (rf := rf) (rw := rw) h1 h2 h3 h4 h5)
    have HQ := Lib.hid (rd_around hrd).res2
    have HR := Lib.hid (rd_ends hrd).res2
    clear hrd hwf
    go_wp2_with fail
    refine (of_ok s x a w3 (HL.out.below HB_.out) HPB.out).mono ?_
    rintro e w4 ⟨bp, rfl, hpn_, _, hb_⟩
    have hbb_ := hop HB_.out (Nat.le_refl _) hb_
    clear HB_
    have HB_ := Lib.hid hbb_
    clear hbb_ hb_
    have Hp := Lib.hid hpn_
    clear hpn_
    rcases HQ.out with ⟨aq, hq⟩ | ⟨nq, aq, hq⟩
    ·
      have HQ_ok := Lib.hid hq
      clear hq
      go_wp2_with fail
      refine (of_ok _ (catT [anyT, x, anyT]) aq w4 (HL.out.below HB_.out) (by rw [around_text]; exact HQ_ok.out)).mono ?_
      rintro e w5 ⟨bq, rfl, hpn_, _, hb_⟩
      have hp_ := Hp.out.below hb_
      clear Hp
      have Hp := Lib.hid hp_
      clear hp_
      have hbb_ := hop HB_.out (Nat.le_refl _) hb_
      clear HB_
      have HB_ := Lib.hid hbb_
      clear hbb_ hb_
      have Hq := Lib.hid hpn_
      clear hpn_
      rcases HR.out with ⟨ar, hr⟩ | ⟨nr, ar, hr⟩
      ·
        have HR_ := Lib.hid hr
        clear hr
        go_wp2_with fail
        refine (of_ok _ (catT [begT, x, finT]) ar w5 (HL.out.below HB_.out) (by rw [ends_text]; exact HR_.out)).mono ?_
        rintro e w6 ⟨br, rfl, hpn_, _, hb_⟩
        have hp_ := Hp.out.below hb_
        clear Hp
        have Hp := Lib.hid hp_
        clear hp_
        have hp_ := Hq.out.below hb_
        clear Hq
        have Hq := Lib.hid hp_
        clear hp_
        have hbb_ := hop HB_.out (Nat.le_refl _) hb_
        clear HB_
        have HB_ := Lib.hid hbb_
        clear hbb_ hb_
        have Hr := Lib.hid hpn_
        clear hpn_
        obtain ⟨wp, hwp⟩ : ∃ b, wholeB t.data.toList x = b := ⟨_, rfl⟩
        obtain ⟨fp, hfp⟩ : ∃ b, foundB t.data.toList x = b := ⟨_, rfl⟩
        obtain ⟨qw, hqw⟩ : ∃ b, wholeB t.data.toList (catT [anyT, x, anyT]) = b := ⟨_, rfl⟩
        obtain ⟨rf, hrf⟩ : ∃ b, foundB t.data.toList (catT [begT, x, finT]) = b := ⟨_, rfl⟩
        obtain ⟨rw_, hrw⟩ : ∃ b, wholeB t.data.toList (catT [begT, x, finT]) = b := ⟨_, rfl⟩
        obtain ⟨l1, l2, l3, l4⟩ := HLAW.out wp fp qw rf rw_ (by rw [← hwp]; exact wholeB_iff _ _) (by rw [← hfp]; exact foundB_iff _ _) (by rw [← hqw]; exact wholeB_iff _ _) (by rw [← hrf]; exact foundB_iff _ _) (by rw [← hrw]; exact wholeB_iff _ _)
        rw [beq_iff_eq] at l2 l3 l4
        rw [← l2] at hqw
        rw [← l4, ← l3] at hrw
        rw [← l3] at hrf
        have L1 := Lib.hid l1
        have HWP := Lib.hid hwp
        have HFP := Lib.hid hfp
        have HQW := Lib.hid hqw
        have HRF := Lib.hid hrf
        have HRW := Lib.hid hrw
        clear hwp hfp hqw hrf hrw HLAW HRD HQ HR HPB l1 l2 l3 l4 qw rf rw_
        cases wp with
        | true =>
          have hq_ := nfaWhole_any x bp t w6 Hp.out (by omega)
          rw [HWP.out] at hq_
          have HQ_ := Lib.hid hq_
          clear hq_
          go_wp2_with fail
          refine (HQ_.out).mono ?_
          rintro e w7 ⟨rfl, hb_⟩
          have hp_ := Hp.out.below hb_
          clear Hp
          have Hp := Lib.hid hp_
          clear hp_
          have hp_ := Hq.out.below hb_
          clear Hq
          have Hq := Lib.hid hp_
          clear hp_
          have hp_ := Hr.out.below hb_
          clear Hr
          have Hr := Lib.hid hp_
          clear hp_
          have hbb_ := hop HB_.out (Nat.le_refl _) hb_
          clear HB_
          have HB_ := Lib.hid hbb_
          clear hbb_ hb_
          clear HQ_
          have hfp := HFP.out
          have l1_ := L1.out (by first | rfl | trivial)
          rw [l1_] at hfp HQW
          have HFP2 := Lib.hid hfp
          clear hfp l1_
          have hq_ := nfaFind_any x bp t w7 Hp.out (by omega)
          rw [HFP2.out] at hq_
          have HQ_ := Lib.hid hq_
          clear hq_
          go_wp2_with fail
          refine (HQ_.out).mono ?_
          rintro e w8 ⟨rfl, hb_⟩
          have hp_ := Hp.out.below hb_
          clear Hp
          have Hp := Lib.hid hp_
          clear hp_
          have hp_ := Hq.out.below hb_
          clear Hq
          have Hq := Lib.hid hp_
          clear hp_
          have hp_ := Hr.out.below hb_
          clear Hr
          have Hr := Lib.hid hp_
          clear hp_
          have hbb_ := hop HB_.out (Nat.le_refl _) hb_
          clear HB_
          have HB_ := Lib.hid hbb_
          clear hbb_ hb_
          clear HQ_
          have hq_ := nfaFind_any x bp t w8 Hp.out (by omega)
          rw [HFP2.out] at hq_
          have HQ_ := Lib.hid hq_
          clear hq_
          go_wp2_with fail
          refine (HQ_.out).mono ?_
          rintro e w9 ⟨rfl, hb_⟩
          have hp_ := Hp.out.below hb_
          clear Hp
          have Hp := Lib.hid hp_
          clear hp_
          have hp_ := Hq.out.below hb_
          clear Hq
          have Hq := Lib.hid hp_
          clear hp_
          have hp_ := Hr.out.below hb_
          clear Hr
          have Hr := Lib.hid hp_
          clear hp_
          have hbb_ := hop HB_.out (Nat.le_refl _) hb_
          clear HB_
          have HB_ := Lib.hid hbb_
          clear hbb_ hb_
          clear HQ_
          have hq_ := nfaWhole_any (catT [anyT, x, anyT]) bq t w9 Hq.out (by omega)
          rw [HQW.out] at hq_
          have HQ_ := Lib.hid hq_
          clear hq_
          go_wp2_with fail
          refine (HQ_.out).mono ?_
          rintro e w10 ⟨rfl, hb_⟩
          have hp_ := Hp.out.below hb_
          clear Hp
          have Hp := Lib.hid hp_
          clear hp_
          have hp_ := Hq.out.below hb_
          clear Hq
          have Hq := Lib.hid hp_
          clear hp_
          have hp_ := Hr.out.below hb_
          clear Hr
          have Hr := Lib.hid hp_
          clear hp_
          have hbb_ := hop HB_.out (Nat.le_refl _) hb_
          clear HB_
          have HB_ := Lib.hid hbb_
          clear hbb_ hb_
          clear HQ_
          have hq_ := nfaWhole_any x bp t w10 Hp.out (by omega)
          rw [HWP.out] at hq_
          have HQ_ := Lib.hid hq_
          clear hq_
          go_wp2_with fail
          refine (HQ_.out).mono ?_
          rintro e w11 ⟨rfl, hb_⟩
          have hp_ := Hp.out.below hb_
          clear Hp
          have Hp := Lib.hid hp_
          clear hp_
          have hp_ := Hq.out.below hb_
          clear Hq
          have Hq := Lib.hid hp_
          clear hp_
          have hp_ := Hr.out.below hb_
          clear Hr
          have Hr := Lib.hid hp_
          clear hp_
          have hbb_ := hop HB_.out (Nat.le_refl _) hb_
          clear HB_
          have HB_ := Lib.hid hbb_
          clear hbb_ hb_
          clear HQ_
          have hq_ := nfaFind_any (catT [begT, x, finT]) br t w11 Hr.out (by omega)
          rw [HRF.out] at hq_
          have HQ_ := Lib.hid hq_
          clear hq_
          go_wp2_with fail
          refine (HQ_.out).mono ?_
          rintro e w12 ⟨rfl, hb_⟩
          have hp_ := Hp.out.below hb_
          clear Hp
          have Hp := Lib.hid hp_
          clear hp_
          have hp_ := Hq.out.below hb_
          clear Hq
          have Hq := Lib.hid hp_
          clear hp_
          have hp_ := Hr.out.below hb_
          clear Hr
          have Hr := Lib.hid hp_
          clear hp_
          have hbb_ := hop HB_.out (Nat.le_refl _) hb_
          clear HB_
          have HB_ := Lib.hid hbb_
          clear hbb_ hb_
          clear HQ_
          have hq_ := nfaFind_any (catT [begT, x, finT]) br t w12 Hr.out (by omega)
          rw [HRF.out] at hq_
          have HQ_ := Lib.hid hq_
          clear hq_
          go_wp2_with fail
          refine (HQ_.out).mono ?_
          rintro e w13 ⟨rfl, hb_⟩
          have hp_ := Hp.out.below hb_
          clear Hp
          have Hp := Lib.hid hp_
          clear hp_
          have hp_ := Hq.out.below hb_
          clear Hq
          have Hq := Lib.hid hp_
          clear hp_
          have hp_ := Hr.out.below hb_
          clear Hr
          have Hr := Lib.hid hp_
          clear hp_
          have hbb_ := hop HB_.out (Nat.le_refl _) hb_
          clear HB_
          have HB_ := Lib.hid hbb_
          clear hbb_ hb_
          clear HQ_
          have hq_ := nfaWhole_any (catT [begT, x, finT]) br t w13 Hr.out (by omega)
          rw [HRW.out] at hq_
          have HQ_ := Lib.hid hq_
          clear hq_
          go_wp2_with fail
          refine (HQ_.out).mono ?_
          rintro e w14 ⟨rfl, hb_⟩
          have hp_ := Hp.out.below hb_
          clear Hp
          have Hp := Lib.hid hp_
          clear hp_
          have hp_ := Hq.out.below hb_
          clear Hq
          have Hq := Lib.hid hp_
          clear hp_
          have hp_ := Hr.out.below hb_
          clear Hr
          have Hr := Lib.hid hp_
          clear hp_
          have hbb_ := hop HB_.out (Nat.le_refl _) hb_
          clear HB_
          have HB_ := Lib.hid hbb_
          clear hbb_ hb_
          clear HQ_
          go_wp2
          go_ret
          exact ⟨by first | rfl | (simp; done) | decide, HB_.out⟩
        | false =>
          have hq_ := nfaWhole_any x bp t w6 Hp.out (by omega)
          rw [HWP.out] at hq_
          have HQ_ := Lib.hid hq_
          clear hq_
          go_wp2_with fail
          refine (HQ_.out).mono ?_
          rintro e w15 ⟨rfl, hb_⟩
          have hp_ := Hp.out.below hb_
          clear Hp
          have Hp := Lib.hid hp_
          clear hp_
          have hp_ := Hq.out.below hb_
          clear Hq
          have Hq := Lib.hid hp_
          clear hp_
          have hp_ := Hr.out.below hb_
          clear Hr
          have Hr := Lib.hid hp_
          clear hp_
          have hbb_ := hop HB_.out (Nat.le_refl _) hb_
          clear HB_
          have HB_ := Lib.hid hbb_
          clear hbb_ hb_
          clear HQ_
          cases fp with
          | true =>
            have hq_ := nfaFind_any x bp t w15 Hp.out (by omega)
            rw [HFP.out] at hq_
            have HQ_ := Lib.hid hq_
            clear hq_
            go_wp2_with fail
            refine (HQ_.out).mono ?_
            rintro e w16 ⟨rfl, hb_⟩
            have hp_ := Hp.out.below hb_
            clear Hp
            have Hp := Lib.hid hp_
            clear hp_
            have hp_ := Hq.out.below hb_
            clear Hq
            have Hq := Lib.hid hp_
            clear hp_
            have hp_ := Hr.out.below hb_
            clear Hr
            have Hr := Lib.hid hp_
            clear hp_
            have hbb_ := hop HB_.out (Nat.le_refl _) hb_
            clear HB_
            have HB_ := Lib.hid hbb_
            clear hbb_ hb_
            clear HQ_
            have hq_ := nfaWhole_any (catT [anyT, x, anyT]) bq t w16 Hq.out (by omega)
            rw [HQW.out] at hq_
            have HQ_ := Lib.hid hq_
            clear hq_
            go_wp2_with fail
            refine (HQ_.out).mono ?_
            rintro e w17 ⟨rfl, hb_⟩
            have hp_ := Hp.out.below hb_
            clear Hp
            have Hp := Lib.hid hp_
            clear hp_
            have hp_ := Hq.out.below hb_
            clear Hq
            have Hq := Lib.hid hp_
            clear hp_
            have hp_ := Hr.out.below hb_
            clear Hr
            have Hr := Lib.hid hp_
            clear hp_
            have hbb_ := hop HB_.out (Nat.le_refl _) hb_
            clear HB_
            have HB_ := Lib.hid hbb_
            clear hbb_ hb_
            clear HQ_
            have hq_ := nfaWhole_any x bp t w17 Hp.out (by omega)
            rw [HWP.out] at hq_
            have HQ_ := Lib.hid hq_
            clear hq_
            go_wp2_with fail
            refine (HQ_.out).mono ?_
            rintro e w18 ⟨rfl, hb_⟩
            have hp_ := Hp.out.below hb_
            clear Hp
            have Hp := Lib.hid hp_
            clear hp_
            have hp_ := Hq.out.below hb_
            clear Hq
            have Hq := Lib.hid hp_
            clear hp_
            have hp_ := Hr.out.below hb_
            clear Hr
            have Hr := Lib.hid hp_
            clear hp_
            have hbb_ := hop HB_.out (Nat.le_refl _) hb_
            clear HB_
            have HB_ := Lib.hid hbb_
            clear hbb_ hb_
            clear HQ_
            have hq_ := nfaFind_any (catT [begT, x, finT]) br t w18 Hr.out (by omega)
            rw [HRF.out] at hq_
            have HQ_ := Lib.hid hq_
            clear hq_
            go_wp2_with fail
            refine (HQ_.out).mono ?_
            rintro e w19 ⟨rfl, hb_⟩
            have hp_ := Hp.out.below hb_
            clear Hp
            have Hp := Lib.hid hp_
            clear hp_
            have hp_ := Hq.out.below hb_
            clear Hq
            have Hq := Lib.hid hp_
            clear hp_
            have hp_ := Hr.out.below hb_
            clear Hr
            have Hr := Lib.hid hp_
            clear hp_
            have hbb_ := hop HB_.out (Nat.le_refl _) hb_
            clear HB_
            have HB_ := Lib.hid hbb_
            clear hbb_ hb_
            clear HQ_
            have hq_ := nfaFind_any (catT [begT, x, finT]) br t w19 Hr.out (by omega)
            rw [HRF.out] at hq_
            have HQ_ := Lib.hid hq_
            clear hq_
            go_wp2_with fail
            refine (HQ_.out).mono ?_
            rintro e w20 ⟨rfl, hb_⟩
            have hp_ := Hp.out.below hb_
            clear Hp
            have Hp := Lib.hid hp_
            clear hp_
            have hp_ := Hq.out.below hb_
            clear Hq
            have Hq := Lib.hid hp_
            clear hp_
            have hp_ := Hr.out.below hb_
            clear Hr
            have Hr := Lib.hid hp_
            clear hp_
            have hbb_ := hop HB_.out (Nat.le_refl _) hb_
            clear HB_
            have HB_ := Lib.hid hbb_
            clear hbb_ hb_
            clear HQ_
            have hq_ := nfaWhole_any (catT [begT, x, finT]) br t w20 Hr.out (by omega)
            rw [HRW.out] at hq_
            have HQ_ := Lib.hid hq_
            clear hq_
            go_wp2_with fail
            refine (HQ_.out).mono ?_
            rintro e w21 ⟨rfl, hb_⟩
            have hp_ := Hp.out.below hb_
            clear Hp
            have Hp := Lib.hid hp_
            clear hp_
            have hp_ := Hq.out.below hb_
            clear Hq
            have Hq := Lib.hid hp_
            clear hp_
            have hp_ := Hr.out.below hb_
            clear Hr
            have Hr := Lib.hid hp_
            clear hp_
            have hbb_ := hop HB_.out (Nat.le_refl _) hb_
            clear HB_
            have HB_ := Lib.hid hbb_
            clear hbb_ hb_
            clear HQ_
            go_wp2
            go_ret
            exact ⟨by first | rfl | (simp; done) | decide, HB_.out⟩
          | false =>
            have hq_ := nfaFind_any x bp t w15 Hp.out (by omega)
            rw [HFP.out] at hq_
            have HQ_ := Lib.hid hq_
            clear hq_
            go_wp2_with fail
            refine (HQ_.out).mono ?_
            rintro e w22 ⟨rfl, hb_⟩
            have hp_ := Hp.out.below hb_
            clear Hp
            have Hp := Lib.hid hp_
            clear hp_
            have hp_ := Hq.out.below hb_
            clear Hq
            have Hq := Lib.hid hp_
            clear hp_
            have hp_ := Hr.out.below hb_
            clear Hr
            have Hr := Lib.hid hp_
            clear hp_
            have hbb_ := hop HB_.out (Nat.le_refl _) hb_
            clear HB_
            have HB_ := Lib.hid hbb_
            clear hbb_ hb_
            clear HQ_
            have hq_ := nfaWhole_any (catT [anyT, x, anyT]) bq t w22 Hq.out (by omega)
            rw [HQW.out] at hq_
            have HQ_ := Lib.hid hq_
            clear hq_
            go_wp2_with fail
            refine (HQ_.out).mono ?_
            rintro e w23 ⟨rfl, hb_⟩
            have hp_ := Hp.out.below hb_
            clear Hp
            have Hp := Lib.hid hp_
            clear hp_
            have hp_ := Hq.out.below hb_
            clear Hq
            have Hq := Lib.hid hp_
            clear hp_
            have hp_ := Hr.out.below hb_
            clear Hr
            have Hr := Lib.hid hp_
            clear hp_
            have hbb_ := hop HB_.out (Nat.le_refl _) hb_
            clear HB_
            have HB_ := Lib.hid hbb_
            clear hbb_ hb_
            clear HQ_
            have hq_ := nfaWhole_any x bp t w23 Hp.out (by omega)
            rw [HWP.out] at hq_
            have HQ_ := Lib.hid hq_
            clear hq_
            go_wp2_with fail
            refine (HQ_.out).mono ?_
            rintro e w24 ⟨rfl, hb_⟩
            have hp_ := Hp.out.below hb_
            clear Hp
            have Hp := Lib.hid hp_
            clear hp_
            have hp_ := Hq.out.below hb_
            clear Hq
            have Hq := Lib.hid hp_
            clear hp_
            have hp_ := Hr.out.below hb_
            clear Hr
            have Hr := Lib.hid hp_
            clear hp_
            have hbb_ := hop HB_.out (Nat.le_refl _) hb_
            clear HB_
            have HB_ := Lib.hid hbb_
            clear hbb_ hb_
            clear HQ_
            have hq_ := nfaFind_any (catT [begT, x, finT]) br t w24 Hr.out (by omega)
            rw [HRF.out] at hq_
            have HQ_ := Lib.hid hq_
            clear hq_
            go_wp2_with fail
            refine (HQ_.out).mono ?_
            rintro e w25 ⟨rfl, hb_⟩
            have hp_ := Hp.out.below hb_
            clear Hp
            have Hp := Lib.hid hp_
            clear hp_
            have hp_ := Hq.out.below hb_
            clear Hq
            have Hq := Lib.hid hp_
            clear hp_
            have hp_ := Hr.out.below hb_
            clear Hr
            have Hr := Lib.hid hp_
            clear hp_
            have hbb_ := hop HB_.out (Nat.le_refl _) hb_
            clear HB_
            have HB_ := Lib.hid hbb_
            clear hbb_ hb_
            clear HQ_
            have hq_ := nfaFind_any (catT [begT, x, finT]) br t w25 Hr.out (by omega)
            rw [HRF.out] at hq_
            have HQ_ := Lib.hid hq_
            clear hq_
            go_wp2_with fail
            refine (HQ_.out).mono ?_
            rintro e w26 ⟨rfl, hb_⟩
            have hp_ := Hp.out.below hb_
            clear Hp
            have Hp := Lib.hid hp_
            clear hp_
            have hp_ := Hq.out.below hb_
            clear Hq
            have Hq := Lib.hid hp_
            clear hp_
            have hp_ := Hr.out.below hb_
            clear Hr
            have Hr := Lib.hid hp_
            clear hp_
            have hbb_ := hop HB_.out (Nat.le_refl _) hb_
            clear HB_
            have HB_ := Lib.hid hbb_
            clear hbb_ hb_
            clear HQ_
            have hq_ := nfaWhole_any (catT [begT, x, finT]) br t w26 Hr.out (by omega)
            rw [HRW.out] at hq_
            have HQ_ := Lib.hid hq_
            clear hq_
            go_wp2_with fail
            refine (HQ_.out).mono ?_
            rintro e w27 ⟨rfl, hb_⟩
            have hp_ := Hp.out.below hb_
            clear Hp
            have Hp := Lib.hid hp_
            clear hp_
            have hp_ := Hq.out.below hb_
            clear Hq
            have Hq := Lib.hid hp_
            clear hp_
            have hp_ := Hr.out.below hb_
            clear Hr
            have Hr := Lib.hid hp_
            clear hp_
            have hbb_ := hop HB_.out (Nat.le_refl _) hb_
            clear HB_
            have HB_ := Lib.hid hbb_
            clear hbb_ hb_
            clear HQ_
            go_wp2
            go_ret
            exact ⟨by first | rfl | (simp; done) | decide, HB_.out⟩
      ·
        have HR_ := Lib.hid hr
        clear hr
        go_wp2_with fail
        refine (of_no _ _ ar 4 w5 (HL.out.below HB_.out) (by rw [ends_text]; exact HR_.out) (by decide)).mono ?_
        rintro e w28 ⟨rfl, hb_⟩
        have hp_ := Hp.out.below hb_
        clear Hp
        have Hp := Lib.hid hp_
        clear hp_
        have hp_ := Hq.out.below hb_
        clear Hq
        have Hq := Lib.hid hp_
        clear hp_
        have hbb_ := hop HB_.out (Nat.le_refl _) hb_
        clear HB_
        have HB_ := Lib.hid hbb_
        clear hbb_ hb_
        go_wp2
        go_ret
        exact ⟨by first | rfl | (simp; done) | decide, HB_.out⟩
    ·
      have HQ_no := Lib.hid hq
      clear hq
      go_wp2_with fail
      refine (of_no _ _ aq 4 w4 (HL.out.below HB_.out) (by rw [around_text]; exact HQ_no.out) (by decide)).mono ?_
      rintro e w29 ⟨rfl, hb_⟩
      have hp_ := Hp.out.below hb_
      clear Hp
      have Hp := Lib.hid hp_
      clear hp_
      have hbb_ := hop HB_.out (Nat.le_refl _) hb_
      clear HB_
      have HB_ := Lib.hid hbb_
      clear hbb_ hb_
      rcases HR.out with ⟨ar, hr⟩ | ⟨nr, ar, hr⟩
      ·
        have HR_ := Lib.hid hr
        clear hr
        go_wp2_with fail
        refine (of_ok _ (catT [begT, x, finT]) ar w29 (HL.out.below HB_.out) (by rw [ends_text]; exact HR_.out)).mono ?_
        rintro e w30 ⟨br, rfl, hpn_, _, hb_⟩
        have hp_ := Hp.out.below hb_
        clear Hp
        have Hp := Lib.hid hp_
        clear hp_
        have hbb_ := hop HB_.out (Nat.le_refl _) hb_
        clear HB_
        have HB_ := Lib.hid hbb_
        clear hbb_ hb_
        have Hr := Lib.hid hpn_
        clear hpn_
        go_wp2
        go_ret
        exact ⟨by first | rfl | (simp; done) | decide, HB_.out⟩
      ·
        have HR_ := Lib.hid hr
        clear hr
        go_wp2_with fail
        refine (of_no _ _ ar 4 w29 (HL.out.below HB_.out) (by rw [ends_text]; exact HR_.out) (by decide)).mono ?_
        rintro e w31 ⟨rfl, hb_⟩
        have hp_ := Hp.out.below hb_
        clear Hp
        have Hp := Lib.hid hp_
        clear hp_
        have hbb_ := hop HB_.out (Nat.le_refl _) hb_
        clear HB_
        have HB_ := Lib.hid hbb_
        clear hbb_ hb_
        go_wp2
        go_ret
        exact ⟨by first | rfl | (simp; done) | decide, HB_.out⟩
  ·
    have g1 : (er == 0) = false := beq_eq_false_iff_ne.2 her
    have g2 : (er != 0) = true := by rw [bne, g1]; rfl
    go_wp2_with fail
    refine (of_no s _ a er w3 (HL.out.below HB_.out) HPB.out her).mono ?_
    rintro e w32 ⟨rfl, hb_⟩
    have hbb_ := hop HB_.out (Nat.le_refl _) hb_
    clear HB_
    have HB_ := Lib.hid hbb_
    clear hbb_ hb_
    go_wp2
    go_ret
    exact ⟨by first | rfl | (simp; done) | decide, HB_.out⟩
end Go.Proofs.YtgcojilaeflfbaaGreatDoor
