/- NfaNested: the walk of the law. -/
import Derived.Test.YtgcojilaeflfbaaGreatDoorNfaLettersLaw
namespace Go.Proofs.YtgcojilaeflfbaaGreatDoor
open Go.RowKit
set_option linter.unusedVariables false
set_option linter.unusedSimpArgs false

theorem nestT_text {plus : Bool} {i : Nat} {S : ByteArray} (h : S.data.toList = nestL plus i) : ((⟨#[40]⟩ : ByteArray) ++ S ++ (⟨#[41, if plus then 43 else 42]⟩ : ByteArray)).data.toList = nestL plus (i + 1) := by
  rw [nestL, inB_true]
  simp [text_joined, h]
theorem size_let {x : NodeT} {b : Nat} {z : Int} (W : World) (h : PrgAt W b x) (hz : sizeT x = z) : Calls Tryz.prog 17 #[.pointer (some ⟨b, 0, none⟩)] W fun e w' => e = .returned (.int .i64 z) ∧ W = w' := by
  rw [← hz]; exact nfaSize_any x b W h
set_option maxRecDepth 100000 in
set_option maxHeartbeats 3200000 in
theorem nfaNested_walk {W : World} (a : Int) (plus : Bool) (A : Option Addr) (len c : Nat) (zs : List Int) (wa : (Lit.int .u8 a).wf = true) (h1 : Ints .u8 W A len zs) (hnc : len ≤ c) (hcm : c ≤ maxLen) (hl : LibIs W) :
    Calls Tryz.prog 8 #[.int .u8 a, .bool plus, .slice A len c] W fun e w' => e = .returned (.bool true) ∧ Below W.heap.size W w' := by
  have HEX := Lib.hid (fun w h => examples5_any w h)
  have HL := Lib.hid hl
  clear hl
  have R1 := Lib.hid (fun w (hb : Below W.heap.size W w) => few5_any A len c zs (h1.below hb) hnc hcm)
  clear h1 hnc hcm
  obtain ⟨a0, a1⟩ := bdu8 wa
  obtain ⟨m, hm, hm60⟩ : ∃ k : Nat, a.tmod 60 = (k : Int) ∧ k < 60 := ⟨(a.tmod 60).toNat, by rw [Int.tmod_eq_emod_of_nonneg a0]; omega, by rw [Int.tmod_eq_emod_of_nonneg a0]; omega⟩
  have hm' : a % 60 = (m : Int) := by rw [← hm, Int.tmod_eq_emod_of_nonneg a0]
  obtain ⟨n, hn⟩ : ∃ n, 1 + m = n := ⟨_, rfl⟩
  have wm : IntKind.u8.wrap (m : Int) = (m : Int) := by rw [IntKind.wrap_u8]; omega
  have wm2 : IntKind.i64.wrap (m : Int) = (m : Int) := by rw [IntKind.wrap_i64]; omega
  have wn : IntKind.i64.wrap (1 + (m : Int)) = (n : Int) := by rw [IntKind.wrap_i64]; omega
  have wn2 : 1 + (m : Int) = (n : Int) := by omega
  have hn60 : n ≤ 60 := by omega
  have HN1 := Lib.hid (show n = m + 1 by omega)
  have HPP := Lib.hid (fun (p : Bool) => parse_small (rd_nest p n) (by rw [nestL_len]; omega) (by rw [nest_cnt _ (by cases p <;> decide)]; omega))
  clear wa hn
  go_enter Tryz.func8, Tryz.ntmps8
  go_wp2_with fail
  refine (HEX.out W HL.out).mono ?_
  rintro e w1 ⟨rfl, hb_⟩
  have HB_ := Lib.hid hb_
  clear hb_
  clear HEX
  cases plus with
  | false =>
    obtain ⟨v0, hv0⟩ : ∃ v, v = w1 := ⟨_, rfl⟩
    go_wp2
    go_loopw [9, 10] (fun tv iv wr => ∃ (i : Nat) (t : ByteArray), i ≤ n ∧ tv = .string t ∧ iv = .int .i64 i ∧ t.size = 3 * i + 1 ∧ Hid (t.data.toList = nestL false i) ∧ Hid (w1 = wr)) (fun _ iv _ => n - (intOf iv).toNat)
    case atStart => exact ⟨0, ⟨#[97]⟩, Nat.zero_le _, rfl, rfl, rfl, Lib.hid rfl, Lib.hid rfl⟩
    case round =>
      obtain ⟨i, t, hi, rfl, rfl, hts, HT, HW⟩ := hrel
      by_cases hgo : i < n
      · have nI : (i : Int) < (n : Int) := by omega
        have hl1 : ¬ 9223372036854775807 < 1 + t.size := by omega
        have hl2 : ¬ 9223372036854775807 < 1 + t.size + 2 := by omega
        go_wp2
        go_round
        case rel => exact ⟨i + 1, _, hgo, rfl, by go_num, by simp only [ByteArray.size_append, hts]; show 1 + (3 * i + 1) + 2 = _; omega, Lib.hid (nestT_text (plus := false) HT.out), HW⟩
        case measure => first | (simp [intOf]; done) | (simp [intOf]; omega)
      · have nI : ¬ (i : Int) < (n : Int) := by omega
        have hik : i = n := by omega
        subst hik
        have hw_ := HW.out
        subst hw_
        clear HW hgo
        go_wp2_with fail
        refine (R1.out w1 HB_.out).mono ?_
        rintro e w2 ⟨⟨s, rfl, szs, hls⟩, hb_⟩
        have hbb_ := hop HB_.out (Nat.le_refl _) hb_
        clear HB_
        have HB_ := Lib.hid hbb_
        clear hbb_ hb_
        clear hls R1
        go_wp2_with fail
        refine (of_ok _ (nestT 0 i) _ w2 (HL.out.below HB_.out) (by rw [HT.out]; exact HPP.out false)).mono ?_
        rintro e w3 ⟨bp, rfl, hpn_, _, hb_⟩
        have hbb_ := hop HB_.out (Nat.le_refl _) hb_
        clear HB_
        have HB_ := Lib.hid hbb_
        clear hbb_ hb_
        have Hp := Lib.hid hpn_
        clear hpn_
        obtain ⟨v1, hv1⟩ : ∃ v, v = w3 := ⟨_, rfl⟩
        clear HT hts HPP
        go_wp2
        go_loopw [15, 16, 17] (fun av yv jv wr => ∃ (j : Nat) (all any : Bool), j ≤ s.size ∧ av = .bool all ∧ yv = .bool any ∧ jv = .int .i64 j ∧ Hid (all = true ↔ ∀ x, x ∈ s.data.toList.take j → x = 97) ∧ Hid (any = true ↔ ∃ x, x ∈ s.data.toList.take j ∧ x = 97) ∧ Hid (w3 = wr)) (fun _ _ jv _ => s.size - (intOf jv).toNat)
        case atStart => exact ⟨0, true, false, Nat.zero_le _, rfl, rfl, rfl, Lib.hid ⟨fun _ x h => (by simp at h), fun _ => rfl⟩, Lib.hid ⟨fun h => (by cases h), fun ⟨x, h, _⟩ => (by simp at h)⟩, Lib.hid rfl⟩
        case round =>
          obtain ⟨j, all, any, hj, rfl, rfl, rfl, HA, HY, HW⟩ := hrel
          by_cases hgo : j < s.size
          · have nI : (j : Int) < (s.size : Int) := by omega
            have hjl : j < s.data.toList.length := hgo
            have hsx : s[j]'hgo = s.data.toList[j]'hjl := rfl
            have HT1 := Lib.hid (all_take hjl 97)
            have HT2 := Lib.hid (any_take hjl 97)
            obtain ⟨x, hx⟩ : ∃ x, s.data.toList[j]'hjl = x := ⟨_, rfl⟩
            rw [hx] at hsx
            have HX := Lib.hid hx
            by_cases h97 : x = 97
            · have h1 : x.toNat = 97 := by rw [h97]; rfl
              have hs1 : (s[j]'hgo).toNat = 97 := by rw [hsx]; exact h1
              cases all with
              | true =>
                cases any with
                | true =>
                  go_wp2
                  go_round
                  case rel => exact ⟨j + 1, true, true, hgo, rfl, rfl, by go_num, Lib.hid (HT1.out.trans ⟨fun _ => rfl, fun _ => ⟨HA.out.1 rfl, by rw [HX.out, h97]⟩⟩).symm, Lib.hid (HT2.out.trans ⟨fun _ => rfl, fun _ => .inl (HY.out.1 rfl)⟩).symm, HW⟩
                  case measure => first | (simp [intOf]; done) | (simp [intOf]; omega)
                | false =>
                  go_wp2
                  go_round
                  case rel => exact ⟨j + 1, true, true, hgo, rfl, rfl, by go_num, Lib.hid (HT1.out.trans ⟨fun _ => rfl, fun _ => ⟨HA.out.1 rfl, by rw [HX.out, h97]⟩⟩).symm, Lib.hid (HT2.out.trans ⟨fun _ => rfl, fun _ => .inr (by rw [HX.out, h97])⟩).symm, HW⟩
                  case measure => first | (simp [intOf]; done) | (simp [intOf]; omega)
              | false =>
                cases any with
                | true =>
                  go_wp2
                  go_round
                  case rel => exact ⟨j + 1, false, true, hgo, rfl, rfl, by go_num, Lib.hid (HT1.out.trans ⟨fun h => HA.out.2 h.1, fun h => (by cases h)⟩).symm, Lib.hid (HT2.out.trans ⟨fun _ => rfl, fun _ => .inl (HY.out.1 rfl)⟩).symm, HW⟩
                  case measure => first | (simp [intOf]; done) | (simp [intOf]; omega)
                | false =>
                  go_wp2
                  go_round
                  case rel => exact ⟨j + 1, false, true, hgo, rfl, rfl, by go_num, Lib.hid (HT1.out.trans ⟨fun h => HA.out.2 h.1, fun h => (by cases h)⟩).symm, Lib.hid (HT2.out.trans ⟨fun _ => rfl, fun _ => .inr (by rw [HX.out, h97])⟩).symm, HW⟩
                  case measure => first | (simp [intOf]; done) | (simp [intOf]; omega)
            · have h1 : ¬ x.toNat = 97 := fun h => h97 (UInt8.toNat_inj.1 h)
              have hs1 : ¬ (s[j]'hgo).toNat = 97 := by rw [hsx]; exact h1
              have hs2 : ((s[j]'hgo).toNat == 97) = false := beq_eq_false_iff_ne.2 hs1
              have hs3 : ¬ ((s[j]'hgo).toNat : Int) = 97 := by omega
              have hs4 : (((s[j]'hgo).toNat : Int) == 97) = false := beq_eq_false_iff_ne.2 hs3
              have hs5 : ((x.toNat : Int) == 97) = false := beq_eq_false_iff_ne.2 (by omega)
              cases all with
              | true =>
                cases any with
                | true =>
                  go_wp2
                  go_round
                  case rel => exact ⟨j + 1, false, true, hgo, (by first | rfl | rw [hs5]), (by first | rfl | rw [hs5]), by go_num, Lib.hid (HT1.out.trans ⟨fun h => absurd (HX.out.symm.trans h.2) h97, fun h => (by cases h)⟩).symm, Lib.hid (HT2.out.trans ⟨fun _ => rfl, fun _ => .inl (HY.out.1 rfl)⟩).symm, HW⟩
                  case measure => first | (simp [intOf]; done) | (simp [intOf]; omega)
                | false =>
                  go_wp2
                  go_round
                  case rel => exact ⟨j + 1, false, false, hgo, (by first | rfl | rw [hs5]), (by first | rfl | rw [hs5]), by go_num, Lib.hid (HT1.out.trans ⟨fun h => absurd (HX.out.symm.trans h.2) h97, fun h => (by cases h)⟩).symm, Lib.hid (HT2.out.trans ⟨fun h => h.elim HY.out.2 (fun h => absurd (HX.out.symm.trans h) h97), fun h => (by cases h)⟩).symm, HW⟩
                  case measure => first | (simp [intOf]; done) | (simp [intOf]; omega)
              | false =>
                cases any with
                | true =>
                  go_wp2
                  go_round
                  case rel => exact ⟨j + 1, false, true, hgo, (by first | rfl | rw [hs5]), (by first | rfl | rw [hs5]), by go_num, Lib.hid (HT1.out.trans ⟨fun h => absurd (HX.out.symm.trans h.2) h97, fun h => (by cases h)⟩).symm, Lib.hid (HT2.out.trans ⟨fun _ => rfl, fun _ => .inl (HY.out.1 rfl)⟩).symm, HW⟩
                  case measure => first | (simp [intOf]; done) | (simp [intOf]; omega)
                | false =>
                  go_wp2
                  go_round
                  case rel => exact ⟨j + 1, false, false, hgo, (by first | rfl | rw [hs5]), (by first | rfl | rw [hs5]), by go_num, Lib.hid (HT1.out.trans ⟨fun h => absurd (HX.out.symm.trans h.2) h97, fun h => (by cases h)⟩).symm, Lib.hid (HT2.out.trans ⟨fun h => h.elim HY.out.2 (fun h => absurd (HX.out.symm.trans h) h97), fun h => (by cases h)⟩).symm, HW⟩
                  case measure => first | (simp [intOf]; done) | (simp [intOf]; omega)
          · have nI : ¬ (j : Int) < (s.size : Int) := by omega
            have htk : s.data.toList.take j = s.data.toList := List.take_of_length_le (by rw [len_of]; omega)
            have ha := HA.out
            have hy := HY.out
            rw [htk] at ha hy
            obtain ⟨wv, hwv⟩ : ∃ x, wholeB s.data.toList (nestT 0 i) = x := ⟨_, rfl⟩
            obtain ⟨fv, hfv⟩ : ∃ x, foundB s.data.toList (nestT 0 i) = x := ⟨_, rfl⟩
            have hlaw := nest_all (s := s.data.toList) (w := wv) (f := fv) (all := all) (any := any) (plus := false) (n := m) (by rw [← hwv, ← HN1.out]; exact wholeB_iff _ _) (by rw [← hfv, ← HN1.out]; exact foundB_iff _ _) ha hy
            have HLAW := Lib.hid hlaw
            have hsz : sizeT (nestT 0 i) = (i : Int) + 1 := nest_size 0 (by decide) (by decide) i (by omega)
            have HSZ := Lib.hid hsz
            have HWV := Lib.hid hwv
            have HFV := Lib.hid hfv
            have hw_ := HW.out
            subst hw_
            have wi : IntKind.i64.wrap ((i : Int) + 1) = (i : Int) + 1 := by rw [IntKind.wrap_i64]; omega
            have hemp : s.size = 0 ↔ s.data.toList = [] := by rw [← len_of, List.length_eq_zero_iff]
            have HEMP := Lib.hid hemp
            clear ha hy hlaw hsz hwv hfv HA HY HW htk hemp
            obtain ⟨l1, l2⟩ := HLAW.out
            clear HLAW
            cases all with
            | true =>
              cases any with
              | true =>
                have hf1 : fv = true := by
                  cases fv with
                  | true => rfl
                  | false => exact absurd (l2.2 (by decide)) (by decide)
                have hw1 : wv = true := by
                  cases wv with
                  | true => rfl
                  | false => exact absurd (l1.2 ⟨rfl, fun h => (by cases h)⟩) (by decide)
                subst hw1 hf1
                clear l1 l2

                have hq_ := nfaWhole_any (nestT 0 i) bp s w3 Hp.out (by omega)
                rw [HWV.out] at hq_
                have HQ_ := Lib.hid hq_
                clear hq_
                go_wp2_with fail
                refine (HQ_.out).mono ?_
                rintro e w4 ⟨rfl, hb_⟩
                have hp_ := Hp.out.below hb_
                clear Hp
                have Hp := Lib.hid hp_
                clear hp_
                have hbb_ := hop HB_.out (Nat.le_refl _) hb_
                clear HB_
                have HB_ := Lib.hid hbb_
                clear hbb_ hb_
                clear HQ_
                have hq_ := nfaFind_any (nestT 0 i) bp s w4 Hp.out (by omega)
                rw [HFV.out] at hq_
                have HQ_ := Lib.hid hq_
                clear hq_
                go_wp2_with fail
                refine (HQ_.out).mono ?_
                rintro e w5 ⟨rfl, hb_⟩
                have hp_ := Hp.out.below hb_
                clear Hp
                have Hp := Lib.hid hp_
                clear hp_
                have hbb_ := hop HB_.out (Nat.le_refl _) hb_
                clear HB_
                have HB_ := Lib.hid hbb_
                clear hbb_ hb_
                clear HQ_
                go_wp2_with fail
                refine (size_let w5 Hp.out HSZ.out).mono ?_
                rintro e w_ ⟨rfl, rfl⟩
                go_wp2
                go_ret
                exact ⟨by first | rfl | (simp; done) | decide, HB_.out⟩
              | false =>
                have hf1 : fv = true := by
                  cases fv with
                  | true => rfl
                  | false => exact absurd (l2.2 (by decide)) (by decide)
                have hw1 : wv = true := by
                  cases wv with
                  | true => rfl
                  | false => exact absurd (l1.2 ⟨rfl, fun h => (by cases h)⟩) (by decide)
                subst hw1 hf1
                clear l1 l2

                have hq_ := nfaWhole_any (nestT 0 i) bp s w3 Hp.out (by omega)
                rw [HWV.out] at hq_
                have HQ_ := Lib.hid hq_
                clear hq_
                go_wp2_with fail
                refine (HQ_.out).mono ?_
                rintro e w7 ⟨rfl, hb_⟩
                have hp_ := Hp.out.below hb_
                clear Hp
                have Hp := Lib.hid hp_
                clear hp_
                have hbb_ := hop HB_.out (Nat.le_refl _) hb_
                clear HB_
                have HB_ := Lib.hid hbb_
                clear hbb_ hb_
                clear HQ_
                have hq_ := nfaFind_any (nestT 0 i) bp s w7 Hp.out (by omega)
                rw [HFV.out] at hq_
                have HQ_ := Lib.hid hq_
                clear hq_
                go_wp2_with fail
                refine (HQ_.out).mono ?_
                rintro e w8 ⟨rfl, hb_⟩
                have hp_ := Hp.out.below hb_
                clear Hp
                have Hp := Lib.hid hp_
                clear hp_
                have hbb_ := hop HB_.out (Nat.le_refl _) hb_
                clear HB_
                have HB_ := Lib.hid hbb_
                clear hbb_ hb_
                clear HQ_
                go_wp2_with fail
                refine (size_let w8 Hp.out HSZ.out).mono ?_
                rintro e w_ ⟨rfl, rfl⟩
                go_wp2
                go_ret
                exact ⟨by first | rfl | (simp; done) | decide, HB_.out⟩
            | false =>
              cases any with
              | true =>
                have hf1 : fv = true := by
                  cases fv with
                  | true => rfl
                  | false => exact absurd (l2.2 (by decide)) (by decide)
                have hw1 : wv = false := by
                  cases wv with
                  | true => exact absurd (l1.1 rfl).1 (by decide)
                  | false => rfl
                subst hw1 hf1
                clear l1 l2

                have hq_ := nfaWhole_any (nestT 0 i) bp s w3 Hp.out (by omega)
                rw [HWV.out] at hq_
                have HQ_ := Lib.hid hq_
                clear hq_
                go_wp2_with fail
                refine (HQ_.out).mono ?_
                rintro e w10 ⟨rfl, hb_⟩
                have hp_ := Hp.out.below hb_
                clear Hp
                have Hp := Lib.hid hp_
                clear hp_
                have hbb_ := hop HB_.out (Nat.le_refl _) hb_
                clear HB_
                have HB_ := Lib.hid hbb_
                clear hbb_ hb_
                clear HQ_
                have hq_ := nfaFind_any (nestT 0 i) bp s w10 Hp.out (by omega)
                rw [HFV.out] at hq_
                have HQ_ := Lib.hid hq_
                clear hq_
                go_wp2_with fail
                refine (HQ_.out).mono ?_
                rintro e w11 ⟨rfl, hb_⟩
                have hp_ := Hp.out.below hb_
                clear Hp
                have Hp := Lib.hid hp_
                clear hp_
                have hbb_ := hop HB_.out (Nat.le_refl _) hb_
                clear HB_
                have HB_ := Lib.hid hbb_
                clear hbb_ hb_
                clear HQ_
                go_wp2_with fail
                refine (size_let w11 Hp.out HSZ.out).mono ?_
                rintro e w_ ⟨rfl, rfl⟩
                go_wp2
                go_ret
                exact ⟨by first | rfl | (simp; done) | decide, HB_.out⟩
              | false =>
                have hf1 : fv = true := by
                  cases fv with
                  | true => rfl
                  | false => exact absurd (l2.2 (by decide)) (by decide)
                have hw1 : wv = false := by
                  cases wv with
                  | true => exact absurd (l1.1 rfl).1 (by decide)
                  | false => rfl
                subst hw1 hf1
                clear l1 l2

                have hq_ := nfaWhole_any (nestT 0 i) bp s w3 Hp.out (by omega)
                rw [HWV.out] at hq_
                have HQ_ := Lib.hid hq_
                clear hq_
                go_wp2_with fail
                refine (HQ_.out).mono ?_
                rintro e w13 ⟨rfl, hb_⟩
                have hp_ := Hp.out.below hb_
                clear Hp
                have Hp := Lib.hid hp_
                clear hp_
                have hbb_ := hop HB_.out (Nat.le_refl _) hb_
                clear HB_
                have HB_ := Lib.hid hbb_
                clear hbb_ hb_
                clear HQ_
                have hq_ := nfaFind_any (nestT 0 i) bp s w13 Hp.out (by omega)
                rw [HFV.out] at hq_
                have HQ_ := Lib.hid hq_
                clear hq_
                go_wp2_with fail
                refine (HQ_.out).mono ?_
                rintro e w14 ⟨rfl, hb_⟩
                have hp_ := Hp.out.below hb_
                clear Hp
                have Hp := Lib.hid hp_
                clear hp_
                have hbb_ := hop HB_.out (Nat.le_refl _) hb_
                clear HB_
                have HB_ := Lib.hid hbb_
                clear hbb_ hb_
                clear HQ_
                go_wp2_with fail
                refine (size_let w14 Hp.out HSZ.out).mono ?_
                rintro e w_ ⟨rfl, rfl⟩
                go_wp2
                go_ret
                exact ⟨by first | rfl | (simp; done) | decide, HB_.out⟩
  | true =>
    obtain ⟨v0, hv0⟩ : ∃ v, v = w1 := ⟨_, rfl⟩
    go_wp2
    go_loopw [9, 10] (fun tv iv wr => ∃ (i : Nat) (t : ByteArray), i ≤ n ∧ tv = .string t ∧ iv = .int .i64 i ∧ t.size = 3 * i + 1 ∧ Hid (t.data.toList = nestL true i) ∧ Hid (w1 = wr)) (fun _ iv _ => n - (intOf iv).toNat)
    case atStart => exact ⟨0, ⟨#[97]⟩, Nat.zero_le _, rfl, rfl, rfl, Lib.hid rfl, Lib.hid rfl⟩
    case round =>
      obtain ⟨i, t, hi, rfl, rfl, hts, HT, HW⟩ := hrel
      by_cases hgo : i < n
      · have nI : (i : Int) < (n : Int) := by omega
        have hl1 : ¬ 9223372036854775807 < 1 + t.size := by omega
        have hl2 : ¬ 9223372036854775807 < 1 + t.size + 2 := by omega
        go_wp2
        go_round
        case rel => exact ⟨i + 1, _, hgo, rfl, by go_num, by simp only [ByteArray.size_append, hts]; show 1 + (3 * i + 1) + 2 = _; omega, Lib.hid (nestT_text (plus := true) HT.out), HW⟩
        case measure => first | (simp [intOf]; done) | (simp [intOf]; omega)
      · have nI : ¬ (i : Int) < (n : Int) := by omega
        have hik : i = n := by omega
        subst hik
        have hw_ := HW.out
        subst hw_
        clear HW hgo
        go_wp2_with fail
        refine (R1.out w1 HB_.out).mono ?_
        rintro e w16 ⟨⟨s, rfl, szs, hls⟩, hb_⟩
        have hbb_ := hop HB_.out (Nat.le_refl _) hb_
        clear HB_
        have HB_ := Lib.hid hbb_
        clear hbb_ hb_
        clear hls R1
        go_wp2_with fail
        refine (of_ok _ (nestT 1 i) _ w16 (HL.out.below HB_.out) (by rw [HT.out]; exact HPP.out true)).mono ?_
        rintro e w17 ⟨bp, rfl, hpn_, _, hb_⟩
        have hbb_ := hop HB_.out (Nat.le_refl _) hb_
        clear HB_
        have HB_ := Lib.hid hbb_
        clear hbb_ hb_
        have Hp := Lib.hid hpn_
        clear hpn_
        obtain ⟨v1, hv1⟩ : ∃ v, v = w17 := ⟨_, rfl⟩
        clear HT hts HPP
        go_wp2
        go_loopw [15, 16, 17] (fun av yv jv wr => ∃ (j : Nat) (all any : Bool), j ≤ s.size ∧ av = .bool all ∧ yv = .bool any ∧ jv = .int .i64 j ∧ Hid (all = true ↔ ∀ x, x ∈ s.data.toList.take j → x = 97) ∧ Hid (any = true ↔ ∃ x, x ∈ s.data.toList.take j ∧ x = 97) ∧ Hid (w17 = wr)) (fun _ _ jv _ => s.size - (intOf jv).toNat)
        case atStart => exact ⟨0, true, false, Nat.zero_le _, rfl, rfl, rfl, Lib.hid ⟨fun _ x h => (by simp at h), fun _ => rfl⟩, Lib.hid ⟨fun h => (by cases h), fun ⟨x, h, _⟩ => (by simp at h)⟩, Lib.hid rfl⟩
        case round =>
          obtain ⟨j, all, any, hj, rfl, rfl, rfl, HA, HY, HW⟩ := hrel
          by_cases hgo : j < s.size
          · have nI : (j : Int) < (s.size : Int) := by omega
            have hjl : j < s.data.toList.length := hgo
            have hsx : s[j]'hgo = s.data.toList[j]'hjl := rfl
            have HT1 := Lib.hid (all_take hjl 97)
            have HT2 := Lib.hid (any_take hjl 97)
            obtain ⟨x, hx⟩ : ∃ x, s.data.toList[j]'hjl = x := ⟨_, rfl⟩
            rw [hx] at hsx
            have HX := Lib.hid hx
            by_cases h97 : x = 97
            · have h1 : x.toNat = 97 := by rw [h97]; rfl
              have hs1 : (s[j]'hgo).toNat = 97 := by rw [hsx]; exact h1
              cases all with
              | true =>
                cases any with
                | true =>
                  go_wp2
                  go_round
                  case rel => exact ⟨j + 1, true, true, hgo, rfl, rfl, by go_num, Lib.hid (HT1.out.trans ⟨fun _ => rfl, fun _ => ⟨HA.out.1 rfl, by rw [HX.out, h97]⟩⟩).symm, Lib.hid (HT2.out.trans ⟨fun _ => rfl, fun _ => .inl (HY.out.1 rfl)⟩).symm, HW⟩
                  case measure => first | (simp [intOf]; done) | (simp [intOf]; omega)
                | false =>
                  go_wp2
                  go_round
                  case rel => exact ⟨j + 1, true, true, hgo, rfl, rfl, by go_num, Lib.hid (HT1.out.trans ⟨fun _ => rfl, fun _ => ⟨HA.out.1 rfl, by rw [HX.out, h97]⟩⟩).symm, Lib.hid (HT2.out.trans ⟨fun _ => rfl, fun _ => .inr (by rw [HX.out, h97])⟩).symm, HW⟩
                  case measure => first | (simp [intOf]; done) | (simp [intOf]; omega)
              | false =>
                cases any with
                | true =>
                  go_wp2
                  go_round
                  case rel => exact ⟨j + 1, false, true, hgo, rfl, rfl, by go_num, Lib.hid (HT1.out.trans ⟨fun h => HA.out.2 h.1, fun h => (by cases h)⟩).symm, Lib.hid (HT2.out.trans ⟨fun _ => rfl, fun _ => .inl (HY.out.1 rfl)⟩).symm, HW⟩
                  case measure => first | (simp [intOf]; done) | (simp [intOf]; omega)
                | false =>
                  go_wp2
                  go_round
                  case rel => exact ⟨j + 1, false, true, hgo, rfl, rfl, by go_num, Lib.hid (HT1.out.trans ⟨fun h => HA.out.2 h.1, fun h => (by cases h)⟩).symm, Lib.hid (HT2.out.trans ⟨fun _ => rfl, fun _ => .inr (by rw [HX.out, h97])⟩).symm, HW⟩
                  case measure => first | (simp [intOf]; done) | (simp [intOf]; omega)
            · have h1 : ¬ x.toNat = 97 := fun h => h97 (UInt8.toNat_inj.1 h)
              have hs1 : ¬ (s[j]'hgo).toNat = 97 := by rw [hsx]; exact h1
              have hs2 : ((s[j]'hgo).toNat == 97) = false := beq_eq_false_iff_ne.2 hs1
              have hs3 : ¬ ((s[j]'hgo).toNat : Int) = 97 := by omega
              have hs4 : (((s[j]'hgo).toNat : Int) == 97) = false := beq_eq_false_iff_ne.2 hs3
              have hs5 : ((x.toNat : Int) == 97) = false := beq_eq_false_iff_ne.2 (by omega)
              cases all with
              | true =>
                cases any with
                | true =>
                  go_wp2
                  go_round
                  case rel => exact ⟨j + 1, false, true, hgo, (by first | rfl | rw [hs5]), (by first | rfl | rw [hs5]), by go_num, Lib.hid (HT1.out.trans ⟨fun h => absurd (HX.out.symm.trans h.2) h97, fun h => (by cases h)⟩).symm, Lib.hid (HT2.out.trans ⟨fun _ => rfl, fun _ => .inl (HY.out.1 rfl)⟩).symm, HW⟩
                  case measure => first | (simp [intOf]; done) | (simp [intOf]; omega)
                | false =>
                  go_wp2
                  go_round
                  case rel => exact ⟨j + 1, false, false, hgo, (by first | rfl | rw [hs5]), (by first | rfl | rw [hs5]), by go_num, Lib.hid (HT1.out.trans ⟨fun h => absurd (HX.out.symm.trans h.2) h97, fun h => (by cases h)⟩).symm, Lib.hid (HT2.out.trans ⟨fun h => h.elim HY.out.2 (fun h => absurd (HX.out.symm.trans h) h97), fun h => (by cases h)⟩).symm, HW⟩
                  case measure => first | (simp [intOf]; done) | (simp [intOf]; omega)
              | false =>
                cases any with
                | true =>
                  go_wp2
                  go_round
                  case rel => exact ⟨j + 1, false, true, hgo, (by first | rfl | rw [hs5]), (by first | rfl | rw [hs5]), by go_num, Lib.hid (HT1.out.trans ⟨fun h => absurd (HX.out.symm.trans h.2) h97, fun h => (by cases h)⟩).symm, Lib.hid (HT2.out.trans ⟨fun _ => rfl, fun _ => .inl (HY.out.1 rfl)⟩).symm, HW⟩
                  case measure => first | (simp [intOf]; done) | (simp [intOf]; omega)
                | false =>
                  go_wp2
                  go_round
                  case rel => exact ⟨j + 1, false, false, hgo, (by first | rfl | rw [hs5]), (by first | rfl | rw [hs5]), by go_num, Lib.hid (HT1.out.trans ⟨fun h => absurd (HX.out.symm.trans h.2) h97, fun h => (by cases h)⟩).symm, Lib.hid (HT2.out.trans ⟨fun h => h.elim HY.out.2 (fun h => absurd (HX.out.symm.trans h) h97), fun h => (by cases h)⟩).symm, HW⟩
                  case measure => first | (simp [intOf]; done) | (simp [intOf]; omega)
          · have nI : ¬ (j : Int) < (s.size : Int) := by omega
            have htk : s.data.toList.take j = s.data.toList := List.take_of_length_le (by rw [len_of]; omega)
            have ha := HA.out
            have hy := HY.out
            rw [htk] at ha hy
            obtain ⟨wv, hwv⟩ : ∃ x, wholeB s.data.toList (nestT 1 i) = x := ⟨_, rfl⟩
            obtain ⟨fv, hfv⟩ : ∃ x, foundB s.data.toList (nestT 1 i) = x := ⟨_, rfl⟩
            have hlaw := nest_all (s := s.data.toList) (w := wv) (f := fv) (all := all) (any := any) (plus := true) (n := m) (by rw [← hwv, ← HN1.out]; exact wholeB_iff _ _) (by rw [← hfv, ← HN1.out]; exact foundB_iff _ _) ha hy
            have HLAW := Lib.hid hlaw
            have hsz : sizeT (nestT 1 i) = (i : Int) + 1 := nest_size 1 (by decide) (by decide) i (by omega)
            have HSZ := Lib.hid hsz
            have HWV := Lib.hid hwv
            have HFV := Lib.hid hfv
            have hw_ := HW.out
            subst hw_
            have wi : IntKind.i64.wrap ((i : Int) + 1) = (i : Int) + 1 := by rw [IntKind.wrap_i64]; omega
            have hemp : s.size = 0 ↔ s.data.toList = [] := by rw [← len_of, List.length_eq_zero_iff]
            have HEMP := Lib.hid hemp
            clear ha hy hlaw hsz hwv hfv HA HY HW htk hemp
            obtain ⟨l1, l2⟩ := HLAW.out
            clear HLAW
            cases all with
            | true =>
              cases any with
              | true =>
                have hf1 : fv = true := by
                  cases fv with
                  | true => rfl
                  | false => exact absurd (l2.2 (by decide)) (by decide)
                by_cases he : s.size = 0
                ·
                  have hse : s = .empty := text_ext1 (HEMP.out.1 he)
                  have e1 : (s.toList == ByteArray.empty.toList) = true := by rw [hse]; exact beq_self_eq_true _
                  have e2 : s.toList.isEmpty = true := by rw [Lib.toList_data, HEMP.out.1 he]; rfl
                  have hw1 : wv = false := by
                    cases wv with
                    | true => exact absurd (HEMP.out.1 he) ((l1.1 rfl).2 rfl)
                    | false => rfl
                  subst hw1 hf1
                  clear l1 l2 hse

                  have hq_ := nfaWhole_any (nestT 1 i) bp s w17 Hp.out (by omega)
                  rw [HWV.out] at hq_
                  have HQ_ := Lib.hid hq_
                  clear hq_
                  go_wp2_with fail
                  refine (HQ_.out).mono ?_
                  rintro e w18 ⟨rfl, hb_⟩
                  have hp_ := Hp.out.below hb_
                  clear Hp
                  have Hp := Lib.hid hp_
                  clear hp_
                  have hbb_ := hop HB_.out (Nat.le_refl _) hb_
                  clear HB_
                  have HB_ := Lib.hid hbb_
                  clear hbb_ hb_
                  clear HQ_
                  have hq_ := nfaFind_any (nestT 1 i) bp s w18 Hp.out (by omega)
                  rw [HFV.out] at hq_
                  have HQ_ := Lib.hid hq_
                  clear hq_
                  go_wp2_with fail
                  refine (HQ_.out).mono ?_
                  rintro e w19 ⟨rfl, hb_⟩
                  have hp_ := Hp.out.below hb_
                  clear Hp
                  have Hp := Lib.hid hp_
                  clear hp_
                  have hbb_ := hop HB_.out (Nat.le_refl _) hb_
                  clear HB_
                  have HB_ := Lib.hid hbb_
                  clear hbb_ hb_
                  clear HQ_
                  go_wp2_with fail
                  refine (size_let w19 Hp.out HSZ.out).mono ?_
                  rintro e w_ ⟨rfl, rfl⟩
                  go_wp2
                  go_ret
                  exact ⟨by first | rfl | (simp; done) | decide, HB_.out⟩
                ·
                  have hse : s ≠ .empty := fun h => he (by rw [h]; rfl)
                  have e1 := text_other hse
                  have e2 : s.toList.isEmpty = false := by
                    cases hq : s.toList.isEmpty with
                    | false => rfl
                    | true => exact absurd (by rw [Lib.toList_data, List.isEmpty_iff] at hq; exact HEMP.out.2 hq) he
                  have hw1 : wv = true := by
                    cases wv with
                    | true => rfl
                    | false => exact absurd (l1.2 ⟨rfl, fun _ h => he (HEMP.out.2 h)⟩) (by decide)
                  subst hw1 hf1
                  clear l1 l2

                  have hq_ := nfaWhole_any (nestT 1 i) bp s w17 Hp.out (by omega)
                  rw [HWV.out] at hq_
                  have HQ_ := Lib.hid hq_
                  clear hq_
                  go_wp2_with fail
                  refine (HQ_.out).mono ?_
                  rintro e w21 ⟨rfl, hb_⟩
                  have hp_ := Hp.out.below hb_
                  clear Hp
                  have Hp := Lib.hid hp_
                  clear hp_
                  have hbb_ := hop HB_.out (Nat.le_refl _) hb_
                  clear HB_
                  have HB_ := Lib.hid hbb_
                  clear hbb_ hb_
                  clear HQ_
                  have hq_ := nfaFind_any (nestT 1 i) bp s w21 Hp.out (by omega)
                  rw [HFV.out] at hq_
                  have HQ_ := Lib.hid hq_
                  clear hq_
                  go_wp2_with fail
                  refine (HQ_.out).mono ?_
                  rintro e w22 ⟨rfl, hb_⟩
                  have hp_ := Hp.out.below hb_
                  clear Hp
                  have Hp := Lib.hid hp_
                  clear hp_
                  have hbb_ := hop HB_.out (Nat.le_refl _) hb_
                  clear HB_
                  have HB_ := Lib.hid hbb_
                  clear hbb_ hb_
                  clear HQ_
                  go_wp2_with fail
                  refine (size_let w22 Hp.out HSZ.out).mono ?_
                  rintro e w_ ⟨rfl, rfl⟩
                  go_wp2
                  go_ret
                  exact ⟨by first | rfl | (simp; done) | decide, HB_.out⟩
              | false =>
                have hf1 : fv = false := by
                  cases fv with
                  | true => exact absurd (l2.1 rfl) (by decide)
                  | false => rfl
                by_cases he : s.size = 0
                ·
                  have hse : s = .empty := text_ext1 (HEMP.out.1 he)
                  have e1 : (s.toList == ByteArray.empty.toList) = true := by rw [hse]; exact beq_self_eq_true _
                  have e2 : s.toList.isEmpty = true := by rw [Lib.toList_data, HEMP.out.1 he]; rfl
                  have hw1 : wv = false := by
                    cases wv with
                    | true => exact absurd (HEMP.out.1 he) ((l1.1 rfl).2 rfl)
                    | false => rfl
                  subst hw1 hf1
                  clear l1 l2 hse

                  have hq_ := nfaWhole_any (nestT 1 i) bp s w17 Hp.out (by omega)
                  rw [HWV.out] at hq_
                  have HQ_ := Lib.hid hq_
                  clear hq_
                  go_wp2_with fail
                  refine (HQ_.out).mono ?_
                  rintro e w24 ⟨rfl, hb_⟩
                  have hp_ := Hp.out.below hb_
                  clear Hp
                  have Hp := Lib.hid hp_
                  clear hp_
                  have hbb_ := hop HB_.out (Nat.le_refl _) hb_
                  clear HB_
                  have HB_ := Lib.hid hbb_
                  clear hbb_ hb_
                  clear HQ_
                  have hq_ := nfaFind_any (nestT 1 i) bp s w24 Hp.out (by omega)
                  rw [HFV.out] at hq_
                  have HQ_ := Lib.hid hq_
                  clear hq_
                  go_wp2_with fail
                  refine (HQ_.out).mono ?_
                  rintro e w25 ⟨rfl, hb_⟩
                  have hp_ := Hp.out.below hb_
                  clear Hp
                  have Hp := Lib.hid hp_
                  clear hp_
                  have hbb_ := hop HB_.out (Nat.le_refl _) hb_
                  clear HB_
                  have HB_ := Lib.hid hbb_
                  clear hbb_ hb_
                  clear HQ_
                  go_wp2_with fail
                  refine (size_let w25 Hp.out HSZ.out).mono ?_
                  rintro e w_ ⟨rfl, rfl⟩
                  go_wp2
                  go_ret
                  exact ⟨by first | rfl | (simp; done) | decide, HB_.out⟩
                ·
                  have hse : s ≠ .empty := fun h => he (by rw [h]; rfl)
                  have e1 := text_other hse
                  have e2 : s.toList.isEmpty = false := by
                    cases hq : s.toList.isEmpty with
                    | false => rfl
                    | true => exact absurd (by rw [Lib.toList_data, List.isEmpty_iff] at hq; exact HEMP.out.2 hq) he
                  have hw1 : wv = true := by
                    cases wv with
                    | true => rfl
                    | false => exact absurd (l1.2 ⟨rfl, fun _ h => he (HEMP.out.2 h)⟩) (by decide)
                  subst hw1 hf1
                  clear l1 l2

                  have hq_ := nfaWhole_any (nestT 1 i) bp s w17 Hp.out (by omega)
                  rw [HWV.out] at hq_
                  have HQ_ := Lib.hid hq_
                  clear hq_
                  go_wp2_with fail
                  refine (HQ_.out).mono ?_
                  rintro e w27 ⟨rfl, hb_⟩
                  have hp_ := Hp.out.below hb_
                  clear Hp
                  have Hp := Lib.hid hp_
                  clear hp_
                  have hbb_ := hop HB_.out (Nat.le_refl _) hb_
                  clear HB_
                  have HB_ := Lib.hid hbb_
                  clear hbb_ hb_
                  clear HQ_
                  have hq_ := nfaFind_any (nestT 1 i) bp s w27 Hp.out (by omega)
                  rw [HFV.out] at hq_
                  have HQ_ := Lib.hid hq_
                  clear hq_
                  go_wp2_with fail
                  refine (HQ_.out).mono ?_
                  rintro e w28 ⟨rfl, hb_⟩
                  have hp_ := Hp.out.below hb_
                  clear Hp
                  have Hp := Lib.hid hp_
                  clear hp_
                  have hbb_ := hop HB_.out (Nat.le_refl _) hb_
                  clear HB_
                  have HB_ := Lib.hid hbb_
                  clear hbb_ hb_
                  clear HQ_
                  go_wp2_with fail
                  refine (size_let w28 Hp.out HSZ.out).mono ?_
                  rintro e w_ ⟨rfl, rfl⟩
                  go_wp2
                  go_ret
                  exact ⟨by first | rfl | (simp; done) | decide, HB_.out⟩
            | false =>
              cases any with
              | true =>
                have hf1 : fv = true := by
                  cases fv with
                  | true => rfl
                  | false => exact absurd (l2.2 (by decide)) (by decide)
                have hw1 : wv = false := by
                  cases wv with
                  | true => exact absurd (l1.1 rfl).1 (by decide)
                  | false => rfl
                subst hw1 hf1
                clear l1 l2

                have hq_ := nfaWhole_any (nestT 1 i) bp s w17 Hp.out (by omega)
                rw [HWV.out] at hq_
                have HQ_ := Lib.hid hq_
                clear hq_
                go_wp2_with fail
                refine (HQ_.out).mono ?_
                rintro e w30 ⟨rfl, hb_⟩
                have hp_ := Hp.out.below hb_
                clear Hp
                have Hp := Lib.hid hp_
                clear hp_
                have hbb_ := hop HB_.out (Nat.le_refl _) hb_
                clear HB_
                have HB_ := Lib.hid hbb_
                clear hbb_ hb_
                clear HQ_
                have hq_ := nfaFind_any (nestT 1 i) bp s w30 Hp.out (by omega)
                rw [HFV.out] at hq_
                have HQ_ := Lib.hid hq_
                clear hq_
                go_wp2_with fail
                refine (HQ_.out).mono ?_
                rintro e w31 ⟨rfl, hb_⟩
                have hp_ := Hp.out.below hb_
                clear Hp
                have Hp := Lib.hid hp_
                clear hp_
                have hbb_ := hop HB_.out (Nat.le_refl _) hb_
                clear HB_
                have HB_ := Lib.hid hbb_
                clear hbb_ hb_
                clear HQ_
                go_wp2_with fail
                refine (size_let w31 Hp.out HSZ.out).mono ?_
                rintro e w_ ⟨rfl, rfl⟩
                go_wp2
                go_ret
                exact ⟨by first | rfl | (simp; done) | decide, HB_.out⟩
              | false =>
                have hf1 : fv = false := by
                  cases fv with
                  | true => exact absurd (l2.1 rfl) (by decide)
                  | false => rfl
                have hw1 : wv = false := by
                  cases wv with
                  | true => exact absurd (l1.1 rfl).1 (by decide)
                  | false => rfl
                subst hw1 hf1
                clear l1 l2

                have hq_ := nfaWhole_any (nestT 1 i) bp s w17 Hp.out (by omega)
                rw [HWV.out] at hq_
                have HQ_ := Lib.hid hq_
                clear hq_
                go_wp2_with fail
                refine (HQ_.out).mono ?_
                rintro e w33 ⟨rfl, hb_⟩
                have hp_ := Hp.out.below hb_
                clear Hp
                have Hp := Lib.hid hp_
                clear hp_
                have hbb_ := hop HB_.out (Nat.le_refl _) hb_
                clear HB_
                have HB_ := Lib.hid hbb_
                clear hbb_ hb_
                clear HQ_
                have hq_ := nfaFind_any (nestT 1 i) bp s w33 Hp.out (by omega)
                rw [HFV.out] at hq_
                have HQ_ := Lib.hid hq_
                clear hq_
                go_wp2_with fail
                refine (HQ_.out).mono ?_
                rintro e w34 ⟨rfl, hb_⟩
                have hp_ := Hp.out.below hb_
                clear Hp
                have Hp := Lib.hid hp_
                clear hp_
                have hbb_ := hop HB_.out (Nat.le_refl _) hb_
                clear HB_
                have HB_ := Lib.hid hbb_
                clear hbb_ hb_
                clear HQ_
                go_wp2_with fail
                refine (size_let w34 Hp.out HSZ.out).mono ?_
                rintro e w_ ⟨rfl, rfl⟩
                go_wp2
                go_ret
                exact ⟨by first | rfl | (simp; done) | decide, HB_.out⟩
end Go.Proofs.YtgcojilaeflfbaaGreatDoor
