/- NfaLetters: the walk of the law. -/
import Derived.Test.YtgcojilaeflfbaaGreatDoorNfaExam
namespace Go.Proofs.YtgcojilaeflfbaaGreatDoor
open Go.RowKit
set_option linter.unusedVariables false
set_option linter.unusedSimpArgs false

theorem cut_part5 (p : ByteArray) (i j : Nat) : (p.extract i j).data.toList = (p.data.toList.take j).drop i := by
  rw [ByteArray.data_extract, Array.toList_extract]
  simp [List.extract, List.drop_take]
theorem len_of (s : ByteArray) : s.data.toList.length = s.size := rfl
theorem letters_ok {s : ByteArray} (h : ∀ b, b ∈ s.data.toList → (b = 97 ∨ b = 98)) : ∀ c, c ∈ s.data.toList → c ∉ spec := by
  intro c hc
  rcases h c hc with rfl | rfl <;> decide
theorem text_same5 {a b : ByteArray} (h : a = b) : (a.toList == b.toList) = true := by rw [h]; exact beq_self_eq_true _
theorem bool_same {p : Prop} {b c : Bool} (h1 : b = true ↔ p) (h2 : c = true ↔ p) : b = c := by
  cases b <;> cases c <;> simp_all
set_option maxRecDepth 100000 in
set_option maxHeartbeats 3200000 in
theorem nfaLetters_walk {W : World} (A : Option Addr) (len c : Nat) (zs : List Int) (A2 : Option Addr) (len2 c2 : Nat) (zs2 : List Int) (A3 : Option Addr) (len3 c3 : Nat) (zs3 : List Int) (h1 : Ints .u8 W A len zs) (hnc : len ≤ c) (hcm : c ≤ maxLen) (h2 : Ints .u8 W A2 len2 zs2) (hnc2 : len2 ≤ c2) (hcm2 : c2 ≤ maxLen) (h3 : Ints .u8 W A3 len3 zs3) (hnc3 : len3 ≤ c3) (hcm3 : c3 ≤ maxLen) (hl : LibIs W) :
    Calls Tryz.prog 5 #[.slice A len c, .slice A2 len2 c2, .slice A3 len3 c3] W fun e w' => e = .returned (.bool true) ∧ Below W.heap.size W w' := by
  have HEX := Lib.hid (fun w h => examples5_any w h)
  have HL := Lib.hid hl
  clear hl
  have R1 := Lib.hid (fun w (hb : Below W.heap.size W w) => letters5_any A len c zs (h1.below hb) hnc hcm)
  have R2 := Lib.hid (fun w (hb : Below W.heap.size W w) => letters5_any A2 len2 c2 zs2 (h2.below hb) hnc2 hcm2)
  have R3 := Lib.hid (fun w (hb : Below W.heap.size W w) => letters5_any A3 len3 c3 zs3 (h3.below hb) hnc3 hcm3)
  clear h1 h2 h3 hnc hcm hnc2 hcm2 hnc3 hcm3
  go_enter Tryz.func5, Tryz.ntmps5
  go_wp2_with fail
  refine (HEX.out W HL.out).mono ?_
  rintro e w1 ⟨rfl, hb_⟩
  have HB_ := Lib.hid hb_
  clear hb_
  go_wp2_with fail
  refine (R1.out w1 HB_.out).mono ?_
  rintro e w2 ⟨⟨a, rfl, sza, hla⟩, hb_⟩
  have hbb_ := hop HB_.out (Nat.le_refl _) hb_
  clear HB_
  have HB_ := Lib.hid hbb_
  clear hbb_ hb_
  have LA := Lib.hid (letters_ok hla)
  clear hla
  go_wp2_with fail
  refine (R2.out w2 HB_.out).mono ?_
  rintro e w3 ⟨⟨b, rfl, szb, hlb⟩, hb_⟩
  have hbb_ := hop HB_.out (Nat.le_refl _) hb_
  clear HB_
  have HB_ := Lib.hid hbb_
  clear hbb_ hb_
  go_wp2_with fail
  refine (R3.out w3 HB_.out).mono ?_
  rintro e w4 ⟨⟨t, rfl, szt, hlt⟩, hb_⟩
  have hbb_ := hop HB_.out (Nat.le_refl _) hb_
  clear HB_
  have HB_ := Lib.hid hbb_
  clear hbb_ hb_
  clear R1 R2 R3 HEX hlb hlt
  have lenA := len_of a
  have HPA := Lib.hid (parse_small (rd_ones LA.out) (by rw [lenA]; omega) (by rw [cnt_letters, lenA]; omega))
  go_wp2_with fail
  refine (of_ok a (catT (ones a.data.toList)) _ w4 (HL.out.below HB_.out) HPA.out).mono ?_
  rintro e w5 ⟨bp, rfl, hpn_, _, hb_⟩
  have hbb_ := hop HB_.out (Nat.le_refl _) hb_
  clear HB_
  have HB_ := Lib.hid hbb_
  clear hbb_ hb_
  have Hp := Lib.hid hpn_
  clear hpn_
  obtain ⟨v0, hv0⟩ : ∃ v, v = w5 := ⟨_, rfl⟩
  go_wp2
  go_loopw [14, 15] (fun fv iv wr => ∃ (i : Nat) (fb : Bool), i ≤ t.size + 1 ∧ fv = .bool fb ∧ iv = .int .i64 i ∧ Hid (fb = true ↔ foundK a.data.toList t.data.toList i) ∧ Hid (w5 = wr)) (fun _ iv _ => t.size + 1 - (intOf iv).toNat)
  case atStart => exact ⟨0, false, by omega, rfl, rfl, Lib.hid ⟨fun h => (by cases h), fun h => absurd h (foundK_zero _ _)⟩, Lib.hid rfl⟩
  case round =>
    obtain ⟨i, fb, hi, rfl, rfl, HF, HW⟩ := hrel
    by_cases hgo : i + a.size ≤ t.size
    · have nI : (i : Int) + (a.size : Int) ≤ (t.size : Int) := by omega
      have hsucc := foundK_succ a.data.toList t.data.toList (k := i) (by rw [lenA, len_of]; exact hgo)
      have HS := Lib.hid hsucc
      have hext : (t.extract i (i + a.size)).data.toList = (t.data.toList.drop i).take a.data.toList.length := by
        rw [cut_part5, lenA, List.drop_take, Nat.add_sub_cancel_left]
      have HX := Lib.hid hext
      clear hsucc hext lenA
      cases fb with
      | true =>
        go_wp2
        go_round
        case rel => exact ⟨i + 1, true, by omega, rfl, by go_num, Lib.hid (HS.out.trans ⟨fun _ => rfl, fun _ => .inl (HF.out.1 rfl)⟩).symm, HW⟩
        case measure => first | (simp [intOf]; done) | (simp [intOf]; omega)
      | false =>
        by_cases heq : t.extract i (i + a.size) = a
        · have t1 := text_same5 heq
          go_wp2
          go_round
          case rel => exact ⟨i + 1, true, by omega, rfl, by go_num, Lib.hid (HS.out.trans ⟨fun _ => rfl, fun _ => .inr (by rw [← HX.out, heq])⟩).symm, HW⟩
          case measure => first | (simp [intOf]; done) | (simp [intOf]; omega)
        · have t1 := text_other heq
          go_wp2
          go_round
          case rel =>
            refine ⟨i + 1, false, by omega, rfl, by go_num, Lib.hid ⟨fun h => (by cases h), fun h => ?_⟩, HW⟩
            rcases HS.out.1 h with h1 | h1
            · exact absurd (HF.out.2 h1) (by decide)
            · exact absurd (text_ext1 (HX.out.trans h1)) heq
          case measure => first | (simp [intOf]; done) | (simp [intOf]; omega)
    · have nI : ¬ (i : Int) + (a.size : Int) ≤ (t.size : Int) := by omega
      have hall := foundK_all a.data.toList t.data.toList (k := i) (by rw [lenA, len_of]; omega)
      have hfb : foundB t.data.toList (catT (ones a.data.toList)) = fb := bool_same (foundB_iff _ _) (HF.out.trans hall)
      have HFB := Lib.hid hfb
      have HWA := Lib.hid (show wholeB a.data.toList (catT (ones a.data.toList)) = true from (wholeB_iff _ _).2 ((plain_whole _ _).2 rfl))
      have HIN := Lib.hid (show foundB (b ++ a ++ t).data.toList (catT (ones a.data.toList)) = true from (foundB_iff _ _).2 (by rw [text_joined, text_joined]; exact found_in _ _ _))
      have hwb : wholeB b.data.toList (catT (ones a.data.toList)) = decide (a = b) := bool_same (wholeB_iff _ _) (by rw [decide_eq_true_iff, plain_whole]; exact ⟨fun h => by rw [h], fun h => (text_ext1 h).symm⟩)
      have s1 : ¬ 9223372036854775807 < b.size + a.size := by omega
      have s2 : ¬ 9223372036854775807 < b.size + a.size + t.size := by omega
      have s3 : (b ++ a ++ t).size ≤ 4000000000000000000 := by simp only [ByteArray.size_append]; omega
      have HS3 := Lib.hid s3
      have hw_ := HW.out
      subst hw_
      by_cases hab : a = b
      ·
        rw [decide_eq_true hab] at hwb
        have t1 := text_same5 hab
        have HWB := Lib.hid hwb
        clear hwb hab s3 hall hfb HF HPA lenA HW
        cases fb with
        | true =>
          have hq_ := nfaWhole_any (catT (ones a.data.toList)) bp b w5 Hp.out (by omega)
          rw [HWB.out] at hq_
          have HQ_ := Lib.hid hq_
          clear hq_
          go_wp2_with fail
          refine (HQ_.out).mono ?_
          rintro e w6 ⟨rfl, hb_⟩
          have hp_ := Hp.out.below hb_
          clear Hp
          have Hp := Lib.hid hp_
          clear hp_
          have hbb_ := hop HB_.out (Nat.le_refl _) hb_
          clear HB_
          have HB_ := Lib.hid hbb_
          clear hbb_ hb_
          clear HQ_
          have hq_ := nfaWhole_any (catT (ones a.data.toList)) bp a w6 Hp.out (by omega)
          rw [HWA.out] at hq_
          have HQ_ := Lib.hid hq_
          clear hq_
          go_wp2_with fail
          refine (HQ_.out).mono ?_
          rintro e w7 ⟨rfl, hb_⟩
          have hp_ := Hp.out.below hb_
          clear Hp
          have Hp := Lib.hid hp_
          clear hp_
          have hbb_ := hop HB_.out (Nat.le_refl _) hb_
          clear HB_
          have HB_ := Lib.hid hbb_
          clear hbb_ hb_
          clear HQ_
          have hq_ := nfaFind_any (catT (ones a.data.toList)) bp (b ++ a ++ t) w7 Hp.out HS3.out
          rw [HIN.out] at hq_
          have HQ_ := Lib.hid hq_
          clear hq_
          go_wp2_with fail
          refine (HQ_.out).mono ?_
          rintro e w8 ⟨rfl, hb_⟩
          have hp_ := Hp.out.below hb_
          clear Hp
          have Hp := Lib.hid hp_
          clear hp_
          have hbb_ := hop HB_.out (Nat.le_refl _) hb_
          clear HB_
          have HB_ := Lib.hid hbb_
          clear hbb_ hb_
          clear HQ_
          have hq_ := nfaFind_any (catT (ones a.data.toList)) bp t w8 Hp.out (by omega)
          rw [HFB.out] at hq_
          have HQ_ := Lib.hid hq_
          clear hq_
          go_wp2_with fail
          refine (HQ_.out).mono ?_
          rintro e w9 ⟨rfl, hb_⟩
          have hp_ := Hp.out.below hb_
          clear Hp
          have Hp := Lib.hid hp_
          clear hp_
          have hbb_ := hop HB_.out (Nat.le_refl _) hb_
          clear HB_
          have HB_ := Lib.hid hbb_
          clear hbb_ hb_
          clear HQ_
          go_wp2
          go_ret
          exact ⟨by first | rfl | (simp; done) | decide, HB_.out⟩
        | false =>
          have hq_ := nfaWhole_any (catT (ones a.data.toList)) bp b w5 Hp.out (by omega)
          rw [HWB.out] at hq_
          have HQ_ := Lib.hid hq_
          clear hq_
          go_wp2_with fail
          refine (HQ_.out).mono ?_
          rintro e w10 ⟨rfl, hb_⟩
          have hp_ := Hp.out.below hb_
          clear Hp
          have Hp := Lib.hid hp_
          clear hp_
          have hbb_ := hop HB_.out (Nat.le_refl _) hb_
          clear HB_
          have HB_ := Lib.hid hbb_
          clear hbb_ hb_
          clear HQ_
          have hq_ := nfaWhole_any (catT (ones a.data.toList)) bp a w10 Hp.out (by omega)
          rw [HWA.out] at hq_
          have HQ_ := Lib.hid hq_
          clear hq_
          go_wp2_with fail
          refine (HQ_.out).mono ?_
          rintro e w11 ⟨rfl, hb_⟩
          have hp_ := Hp.out.below hb_
          clear Hp
          have Hp := Lib.hid hp_
          clear hp_
          have hbb_ := hop HB_.out (Nat.le_refl _) hb_
          clear HB_
          have HB_ := Lib.hid hbb_
          clear hbb_ hb_
          clear HQ_
          have hq_ := nfaFind_any (catT (ones a.data.toList)) bp (b ++ a ++ t) w11 Hp.out HS3.out
          rw [HIN.out] at hq_
          have HQ_ := Lib.hid hq_
          clear hq_
          go_wp2_with fail
          refine (HQ_.out).mono ?_
          rintro e w12 ⟨rfl, hb_⟩
          have hp_ := Hp.out.below hb_
          clear Hp
          have Hp := Lib.hid hp_
          clear hp_
          have hbb_ := hop HB_.out (Nat.le_refl _) hb_
          clear HB_
          have HB_ := Lib.hid hbb_
          clear hbb_ hb_
          clear HQ_
          have hq_ := nfaFind_any (catT (ones a.data.toList)) bp t w12 Hp.out (by omega)
          rw [HFB.out] at hq_
          have HQ_ := Lib.hid hq_
          clear hq_
          go_wp2_with fail
          refine (HQ_.out).mono ?_
          rintro e w13 ⟨rfl, hb_⟩
          have hp_ := Hp.out.below hb_
          clear Hp
          have Hp := Lib.hid hp_
          clear hp_
          have hbb_ := hop HB_.out (Nat.le_refl _) hb_
          clear HB_
          have HB_ := Lib.hid hbb_
          clear hbb_ hb_
          clear HQ_
          go_wp2
          go_ret
          exact ⟨by first | rfl | (simp; done) | decide, HB_.out⟩
      ·
        rw [decide_eq_false hab] at hwb
        have t1 := text_other hab
        have HWB := Lib.hid hwb
        clear hwb hab s3 hall hfb HF HPA lenA HW
        cases fb with
        | true =>
          have hq_ := nfaWhole_any (catT (ones a.data.toList)) bp b w5 Hp.out (by omega)
          rw [HWB.out] at hq_
          have HQ_ := Lib.hid hq_
          clear hq_
          go_wp2_with fail
          refine (HQ_.out).mono ?_
          rintro e w14 ⟨rfl, hb_⟩
          have hp_ := Hp.out.below hb_
          clear Hp
          have Hp := Lib.hid hp_
          clear hp_
          have hbb_ := hop HB_.out (Nat.le_refl _) hb_
          clear HB_
          have HB_ := Lib.hid hbb_
          clear hbb_ hb_
          clear HQ_
          have hq_ := nfaWhole_any (catT (ones a.data.toList)) bp a w14 Hp.out (by omega)
          rw [HWA.out] at hq_
          have HQ_ := Lib.hid hq_
          clear hq_
          go_wp2_with fail
          refine (HQ_.out).mono ?_
          rintro e w15 ⟨rfl, hb_⟩
          have hp_ := Hp.out.below hb_
          clear Hp
          have Hp := Lib.hid hp_
          clear hp_
          have hbb_ := hop HB_.out (Nat.le_refl _) hb_
          clear HB_
          have HB_ := Lib.hid hbb_
          clear hbb_ hb_
          clear HQ_
          have hq_ := nfaFind_any (catT (ones a.data.toList)) bp (b ++ a ++ t) w15 Hp.out HS3.out
          rw [HIN.out] at hq_
          have HQ_ := Lib.hid hq_
          clear hq_
          go_wp2_with fail
          refine (HQ_.out).mono ?_
          rintro e w16 ⟨rfl, hb_⟩
          have hp_ := Hp.out.below hb_
          clear Hp
          have Hp := Lib.hid hp_
          clear hp_
          have hbb_ := hop HB_.out (Nat.le_refl _) hb_
          clear HB_
          have HB_ := Lib.hid hbb_
          clear hbb_ hb_
          clear HQ_
          have hq_ := nfaFind_any (catT (ones a.data.toList)) bp t w16 Hp.out (by omega)
          rw [HFB.out] at hq_
          have HQ_ := Lib.hid hq_
          clear hq_
          go_wp2_with fail
          refine (HQ_.out).mono ?_
          rintro e w17 ⟨rfl, hb_⟩
          have hp_ := Hp.out.below hb_
          clear Hp
          have Hp := Lib.hid hp_
          clear hp_
          have hbb_ := hop HB_.out (Nat.le_refl _) hb_
          clear HB_
          have HB_ := Lib.hid hbb_
          clear hbb_ hb_
          clear HQ_
          go_wp2
          go_ret
          exact ⟨by first | rfl | (simp; done) | decide, HB_.out⟩
        | false =>
          have hq_ := nfaWhole_any (catT (ones a.data.toList)) bp b w5 Hp.out (by omega)
          rw [HWB.out] at hq_
          have HQ_ := Lib.hid hq_
          clear hq_
          go_wp2_with fail
          refine (HQ_.out).mono ?_
          rintro e w18 ⟨rfl, hb_⟩
          have hp_ := Hp.out.below hb_
          clear Hp
          have Hp := Lib.hid hp_
          clear hp_
          have hbb_ := hop HB_.out (Nat.le_refl _) hb_
          clear HB_
          have HB_ := Lib.hid hbb_
          clear hbb_ hb_
          clear HQ_
          have hq_ := nfaWhole_any (catT (ones a.data.toList)) bp a w18 Hp.out (by omega)
          rw [HWA.out] at hq_
          have HQ_ := Lib.hid hq_
          clear hq_
          go_wp2_with fail
          refine (HQ_.out).mono ?_
          rintro e w19 ⟨rfl, hb_⟩
          have hp_ := Hp.out.below hb_
          clear Hp
          have Hp := Lib.hid hp_
          clear hp_
          have hbb_ := hop HB_.out (Nat.le_refl _) hb_
          clear HB_
          have HB_ := Lib.hid hbb_
          clear hbb_ hb_
          clear HQ_
          have hq_ := nfaFind_any (catT (ones a.data.toList)) bp (b ++ a ++ t) w19 Hp.out HS3.out
          rw [HIN.out] at hq_
          have HQ_ := Lib.hid hq_
          clear hq_
          go_wp2_with fail
          refine (HQ_.out).mono ?_
          rintro e w20 ⟨rfl, hb_⟩
          have hp_ := Hp.out.below hb_
          clear Hp
          have Hp := Lib.hid hp_
          clear hp_
          have hbb_ := hop HB_.out (Nat.le_refl _) hb_
          clear HB_
          have HB_ := Lib.hid hbb_
          clear hbb_ hb_
          clear HQ_
          have hq_ := nfaFind_any (catT (ones a.data.toList)) bp t w20 Hp.out (by omega)
          rw [HFB.out] at hq_
          have HQ_ := Lib.hid hq_
          clear hq_
          go_wp2_with fail
          refine (HQ_.out).mono ?_
          rintro e w21 ⟨rfl, hb_⟩
          have hp_ := Hp.out.below hb_
          clear Hp
          have Hp := Lib.hid hp_
          clear hp_
          have hbb_ := hop HB_.out (Nat.le_refl _) hb_
          clear HB_
          have HB_ := Lib.hid hbb_
          clear hbb_ hb_
          clear HQ_
          go_wp2
          go_ret
          exact ⟨by first | rfl | (simp; done) | decide, HB_.out⟩
end Go.Proofs.YtgcojilaeflfbaaGreatDoor
