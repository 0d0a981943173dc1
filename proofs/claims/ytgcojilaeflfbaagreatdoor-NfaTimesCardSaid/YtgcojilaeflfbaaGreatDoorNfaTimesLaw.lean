/- NfaTimes: the walk of the law. -/
import Derived.Test.YtgcojilaeflfbaaGreatDoorNfaLettersLaw
namespace Go.Proofs.YtgcojilaeflfbaaGreatDoor
open Go.RowKit
set_option linter.unusedVariables false
set_option linter.unusedSimpArgs false

theorem two_short : ∀ m, m < 21 → (twoL m).length ≤ 2 := by decide +kernel
theorem times_text {m n : Nat} {S T : ByteArray} (h : S.data.toList = twoL m) (h2 : T.data.toList = twoL n) : ((⟨#[97, 123]⟩ : ByteArray) ++ S ++ (⟨#[44]⟩ : ByteArray) ++ T ++ (⟨#[125]⟩ : ByteArray)).data.toList = timesL m (some n) := by
  simp [text_joined, timesL, h, h2]
theorem times_text0 {m : Nat} {S : ByteArray} (h : S.data.toList = twoL m) : ((⟨#[97, 123]⟩ : ByteArray) ++ S ++ (⟨#[44, 125]⟩ : ByteArray)).data.toList = timesL m none := by
  simp [text_joined, timesL, h]
theorem times_len {m n : Nat} (hm : m < 21) (hn : n < 21) : (timesL m (some n)).length ≤ 256 := by
  have h1 := two_short m hm
  have h2 := two_short n hn
  simp only [timesL, List.length_cons, List.length_append, List.length_nil]
  omega
theorem times_len0 {m : Nat} (hm : m < 21) : (timesL m none).length ≤ 256 := by
  have h1 := two_short m hm
  simp only [timesL, List.length_cons, List.length_append, List.length_nil]
  omega
theorem times_cnt {m n : Nat} (hm : m < 21) (hn : n < 21) : cntT (.rep (.one (oneB 97)) m n) ≤ 200 := by
  rw [cnt_rep, cnt_one]
  split <;> omega
theorem times_cnt0 {m : Nat} (hm : m < 21) : cntT (.rep (.one (oneB 97)) m (-1)) ≤ 200 := by
  rw [cnt_rep, cnt_one]
  split <;> omega
theorem two5_let (m : Nat) (hm : m < 21) (W : World) :
    Calls Tryz.prog 16 #[.int .i64 (m : Int)] W fun e w' => (∃ S : ByteArray, e = .returned (.string S) ∧ S.size ≤ 2 ∧ S.data.toList = twoL m) ∧ Below W.heap.size W w' := by
  refine (two5_any m hm W).mono ?_
  rintro e w ⟨h1, h2⟩
  exact ⟨⟨_, h1, by show (twoL m).toArray.size ≤ 2; rw [List.size_toArray]; exact two_short m hm, rfl⟩, h2⟩
set_option maxRecDepth 100000 in
set_option maxHeartbeats 3200000 in
theorem nfaTimes_walk {W : World} (a b : Int) (en : Bool) (c : Int) (wa : (Lit.int .u8 a).wf = true) (wb : (Lit.int .u8 b).wf = true) (wc : (Lit.int .u8 c).wf = true) (hl : LibIs W) :
    Calls Tryz.prog 6 #[.int .u8 a, .int .u8 b, .bool en, .int .u8 c] W fun e w' => e = .returned (.bool true) ∧ Below W.heap.size W w' := by
  have HEX := Lib.hid (fun w h => examples5_any w h)
  have HL := Lib.hid hl
  clear hl
  obtain ⟨a0, a1⟩ := bdu8 wa
  obtain ⟨b0, b1⟩ := bdu8 wb
  obtain ⟨c0, c1⟩ := bdu8 wc
  obtain ⟨m, hm, hm21⟩ : ∃ k : Nat, a.tmod 21 = (k : Int) ∧ k < 21 := ⟨(a.tmod 21).toNat, by rw [Int.tmod_eq_emod_of_nonneg a0]; omega, by rw [Int.tmod_eq_emod_of_nonneg a0]; omega⟩
  have hm' : a % 21 = (m : Int) := by rw [← hm, Int.tmod_eq_emod_of_nonneg a0]
  obtain ⟨d, hd⟩ : ∃ d, 21 - m = d := ⟨_, rfl⟩
  have hd1 : 1 ≤ d := by omega
  obtain ⟨q, rfl⟩ : ∃ k : Nat, b = k := ⟨b.toNat, by omega⟩
  obtain ⟨e, he⟩ : ∃ e, q % d = e := ⟨_, rfl⟩
  have hed : e < d := by rw [← he]; exact Nat.mod_lt _ hd1
  have het : (q : Int).tmod (d : Int) = (e : Int) := by rw [Int.tmod_eq_emod_of_nonneg (by omega), ← he]; rfl
  have het2 : (q : Int) % (d : Int) = (e : Int) := by rw [← he]; rfl
  obtain ⟨n, hn⟩ : ∃ n, m + e = n := ⟨_, rfl⟩
  obtain ⟨k, hk, hk64⟩ : ∃ k : Nat, c.tmod 64 = (k : Int) ∧ k < 64 := ⟨(c.tmod 64).toNat, by rw [Int.tmod_eq_emod_of_nonneg c0]; omega, by rw [Int.tmod_eq_emod_of_nonneg c0]; omega⟩
  have hk' : c % 64 = (k : Int) := by rw [← hk, Int.tmod_eq_emod_of_nonneg c0]
  have hmn : m ≤ n := by omega
  have hn21 : n < 21 := by omega
  have wm : IntKind.u8.wrap (m : Int) = (m : Int) := by rw [IntKind.wrap_u8]; omega
  have wm2 : IntKind.i64.wrap (m : Int) = (m : Int) := by rw [IntKind.wrap_i64]; omega
  have wq : IntKind.i64.wrap (q : Int) = (q : Int) := by rw [IntKind.wrap_i64]; omega
  have wd : IntKind.i64.wrap (21 - (m : Int)) = (d : Int) := by rw [IntKind.wrap_i64]; omega
  have wd2 : (21 - (m : Int)) = (d : Int) := by omega
  have wd3 : ¬ (d : Int) = 0 := by omega
  have we : IntKind.i64.wrap (e : Int) = (e : Int) := by rw [IntKind.wrap_i64]; omega
  have wn : IntKind.i64.wrap ((m : Int) + (e : Int)) = (n : Int) := by rw [IntKind.wrap_i64]; omega
  have wn2 : (m : Int) + (e : Int) = (n : Int) := by omega
  have wk : IntKind.u8.wrap (k : Int) = (k : Int) := by rw [IntKind.wrap_u8]; omega
  have wk2 : IntKind.i64.wrap (k : Int) = (k : Int) := by rw [IntKind.wrap_i64]; omega
  have TM := Lib.hid (fun w => two5_let m hm21 w)
  have TN := Lib.hid (fun w => two5_let n hn21 w)
  have HP0 := Lib.hid (show parseB (timesL m none) = (NodeT.rep (.one (oneB 97)) (m : Int) (-1), ((timesL m none).length : Int), 0) from parse_small (rd_times (m := m) (n := none) hm21 (fun k h => by cases h)) (times_len0 hm21) (times_cnt0 hm21))
  have HPN := Lib.hid (show parseB (timesL m (some n)) = (NodeT.rep (.one (oneB 97)) (m : Int) (n : Int), ((timesL m (some n)).length : Int), 0) from parse_small (rd_times (m := m) (n := some n) hm21 (fun k h => by injection h with h; omega)) (times_len hm21 hn21) (times_cnt hm21 hn21))
  clear hn hd he wa wb wc
  go_enter Tryz.func6, Tryz.ntmps6
  go_wp2_with fail
  refine (HEX.out W HL.out).mono ?_
  rintro e w1 ⟨rfl, hb_⟩
  have HB_ := Lib.hid hb_
  clear hb_
  go_wp2_with fail
  refine (TM.out w1).mono ?_
  rintro e w2 ⟨⟨S, rfl, szS, hSl⟩, hb_⟩
  have hbb_ := hop HB_.out (Nat.le_refl _) hb_
  clear HB_
  have HB_ := Lib.hid hbb_
  clear hbb_ hb_
  have HSL := Lib.hid hSl
  clear hSl
  go_wp2_with fail
  refine (TN.out w2).mono ?_
  rintro e w3 ⟨⟨T, rfl, szT, hTl⟩, hb_⟩
  have hbb_ := hop HB_.out (Nat.le_refl _) hb_
  clear HB_
  have HB_ := Lib.hid hbb_
  clear hbb_ hb_
  have HTL := Lib.hid hTl
  clear hTl HEX
  have s1 : ¬ 9223372036854775807 < 2 + S.size := by omega
  have s2 : ¬ 9223372036854775807 < 2 + S.size + 1 := by omega
  have s3 : ¬ 9223372036854775807 < 2 + S.size + 1 + T.size := by omega
  have s4 : ¬ 9223372036854775807 < 2 + S.size + 1 + T.size + 1 := by omega
  cases en with
  | false =>
    obtain ⟨v0, hv0⟩ : ∃ v, v = w3 := ⟨_, rfl⟩
    go_wp2
    go_loopw [14, 15] (fun tv iv wr => ∃ (i : Nat) (t : ByteArray), i ≤ k ∧ tv = .string t ∧ iv = .int .i64 i ∧ t.size = i ∧ Hid (t.data.toList = List.replicate i 97) ∧ Hid (w3 = wr)) (fun _ iv _ => k - (intOf iv).toNat)
    case atStart => exact ⟨0, .empty, Nat.zero_le _, rfl, rfl, rfl, Lib.hid rfl, Lib.hid rfl⟩
    case round =>
      obtain ⟨i, t, hi, rfl, rfl, hts, HT, HW⟩ := hrel
      by_cases hgo : i < k
      · have nI : (i : Int) < (k : Int) := by omega
        have hlong : ¬ 9223372036854775807 < t.size + 1 := by omega
        go_wp2
        go_round
        case rel => exact ⟨i + 1, _, hgo, rfl, by go_num, by simp only [ByteArray.size_append, hts]; rfl, Lib.hid (by rw [text_joined, HT.out, List.replicate_succ']), HW⟩
        case measure => first | (simp [intOf]; done) | (simp [intOf]; omega)
      · have nI : ¬ (i : Int) < (k : Int) := by omega
        have hik : i = k := by omega
        subst hik
        have hlong : ¬ 9223372036854775807 < t.size + 1 := by omega
        have hw_ := HW.out
        subst hw_
        clear HW hgo
        go_wp2_with fail
        refine (of_ok _ (.rep (.one (oneB 97)) (m : Int) (n : Int)) _ w3 (HL.out.below HB_.out) (by rw [times_text HSL.out HTL.out]; exact HPN.out)).mono ?_
        rintro e w4 ⟨bp, rfl, hpn_, _, hb_⟩
        have hbb_ := hop HB_.out (Nat.le_refl _) hb_
        clear HB_
        have HB_ := Lib.hid hbb_
        clear hbb_ hb_
        have Hp := Lib.hid hpn_
        clear hpn_
        have k1 := times_whole i 97 m (n : Int)
        have k2 := times_found i 97 m (n : Int) (by omega) (by first | (exact .inl rfl) | (exact .inr (by omega)))
        have k3 := times_other i 97 98 (by decide) m (n : Int)
        have HTO := Lib.hid (show wholeB (t ++ ⟨#[98]⟩).data.toList (.rep (.one (oneB 97)) (m : Int) (n : Int)) = false from Bool.eq_false_iff.2 (fun h => k3 (by
          have h2 := (wholeB_iff _ _).1 h
          rw [text_joined, HT.out] at h2
          exact h2)))
        have hts2 : (t ++ (⟨#[98]⟩ : ByteArray)).size ≤ 4000000000000000000 := by simp only [ByteArray.size_append, hts]; show i + 1 ≤ _; omega
        have HTS2 := Lib.hid hts2
        have hw1 : (wholeB t.data.toList (.rep (.one (oneB 97)) (m : Int) (n : Int)) = true) ↔ (m : Int) ≤ (i : Int) ∧ ((n : Int) < 0 ∨ (i : Int) ≤ (n : Int)) := by rw [wholeB_iff, HT.out]; exact k1
        have hf1 : (foundB t.data.toList (.rep (.one (oneB 97)) (m : Int) (n : Int)) = true) ↔ (m : Int) ≤ (i : Int) := by rw [foundB_iff, HT.out]; exact k2
        clear k1 k2 k3 hts2
        by_cases g1 : m ≤ i
        ·
          by_cases g2 : i ≤ n
          ·
            have i1 : (m : Int) ≤ (i : Int) := by omega
            have i2 : (i : Int) ≤ (n : Int) := by omega
            have hw2 : wholeB t.data.toList (.rep (.one (oneB 97)) (m : Int) (n : Int)) = true := by rw [Bool.eq_iff_iff, hw1]; simp; try omega
            have hf2 : foundB t.data.toList (.rep (.one (oneB 97)) (m : Int) (n : Int)) = true := by rw [Bool.eq_iff_iff, hf1]; simp; try omega
            have HW2 := Lib.hid hw2
            have HF2 := Lib.hid hf2
            clear hw1 hf1 hw2 hf2
            have hq_ := nfaWhole_any (.rep (.one (oneB 97)) (m : Int) (n : Int)) bp t w4 Hp.out (by omega)
            rw [HW2.out] at hq_
            have HQ_ := Lib.hid hq_
            clear hq_
            go_wp2_with fail
            refine (HQ_.out).mono ?_
            rintro e w5 ⟨rfl, hb_⟩
            have hp_ := Hp.out.below hb_
            clear Hp
            have Hp := Lib.hid hp_
            clear hp_
            have hbb_ := hop HB_.out (Nat.le_refl _) hb_
            clear HB_
            have HB_ := Lib.hid hbb_
            clear hbb_ hb_
            clear HQ_
            have hq_ := nfaFind_any (.rep (.one (oneB 97)) (m : Int) (n : Int)) bp t w5 Hp.out (by omega)
            rw [HF2.out] at hq_
            have HQ_ := Lib.hid hq_
            clear hq_
            go_wp2_with fail
            refine (HQ_.out).mono ?_
            rintro e w6 ⟨rfl, hb_⟩
            have hp_ := Hp.out.below hb_
            clear Hp
            have Hp := Lib.hid hp_
            clear hp_
            have hbb_ := hop HB_.out (Nat.le_refl _) hb_
            clear HB_
            have HB_ := Lib.hid hbb_
            clear hbb_ hb_
            clear HQ_
            have hq_ := nfaWhole_any (.rep (.one (oneB 97)) (m : Int) (n : Int)) bp (t ++ ⟨#[98]⟩) w6 Hp.out HTS2.out
            rw [HTO.out] at hq_
            have HQ_ := Lib.hid hq_
            clear hq_
            go_wp2_with fail
            refine (HQ_.out).mono ?_
            rintro e w7 ⟨rfl, hb_⟩
            have hp_ := Hp.out.below hb_
            clear Hp
            have Hp := Lib.hid hp_
            clear hp_
            have hbb_ := hop HB_.out (Nat.le_refl _) hb_
            clear HB_
            have HB_ := Lib.hid hbb_
            clear hbb_ hb_
            clear HQ_
            go_wp2
            go_ret
            exact ⟨by first | rfl | (simp; done) | decide, HB_.out⟩
          ·
            have i1 : (m : Int) ≤ (i : Int) := by omega
            have i2 : ¬ (i : Int) ≤ (n : Int) := by omega
            have hw2 : wholeB t.data.toList (.rep (.one (oneB 97)) (m : Int) (n : Int)) = false := by rw [Bool.eq_iff_iff, hw1]; simp; try omega
            have hf2 : foundB t.data.toList (.rep (.one (oneB 97)) (m : Int) (n : Int)) = true := by rw [Bool.eq_iff_iff, hf1]; simp; try omega
            have HW2 := Lib.hid hw2
            have HF2 := Lib.hid hf2
            clear hw1 hf1 hw2 hf2
            have hq_ := nfaWhole_any (.rep (.one (oneB 97)) (m : Int) (n : Int)) bp t w4 Hp.out (by omega)
            rw [HW2.out] at hq_
            have HQ_ := Lib.hid hq_
            clear hq_
            go_wp2_with fail
            refine (HQ_.out).mono ?_
            rintro e w8 ⟨rfl, hb_⟩
            have hp_ := Hp.out.below hb_
            clear Hp
            have Hp := Lib.hid hp_
            clear hp_
            have hbb_ := hop HB_.out (Nat.le_refl _) hb_
            clear HB_
            have HB_ := Lib.hid hbb_
            clear hbb_ hb_
            clear HQ_
            have hq_ := nfaFind_any (.rep (.one (oneB 97)) (m : Int) (n : Int)) bp t w8 Hp.out (by omega)
            rw [HF2.out] at hq_
            have HQ_ := Lib.hid hq_
            clear hq_
            go_wp2_with fail
            refine (HQ_.out).mono ?_
            rintro e w9 ⟨rfl, hb_⟩
            have hp_ := Hp.out.below hb_
            clear Hp
            have Hp := Lib.hid hp_
            clear hp_
            have hbb_ := hop HB_.out (Nat.le_refl _) hb_
            clear HB_
            have HB_ := Lib.hid hbb_
            clear hbb_ hb_
            clear HQ_
            have hq_ := nfaWhole_any (.rep (.one (oneB 97)) (m : Int) (n : Int)) bp (t ++ ⟨#[98]⟩) w9 Hp.out HTS2.out
            rw [HTO.out] at hq_
            have HQ_ := Lib.hid hq_
            clear hq_
            go_wp2_with fail
            refine (HQ_.out).mono ?_
            rintro e w10 ⟨rfl, hb_⟩
            have hp_ := Hp.out.below hb_
            clear Hp
            have Hp := Lib.hid hp_
            clear hp_
            have hbb_ := hop HB_.out (Nat.le_refl _) hb_
            clear HB_
            have HB_ := Lib.hid hbb_
            clear hbb_ hb_
            clear HQ_
            go_wp2
            go_ret
            exact ⟨by first | rfl | (simp; done) | decide, HB_.out⟩
        ·
          have i1 : ¬ (m : Int) ≤ (i : Int) := by omega
          have hw2 : wholeB t.data.toList (.rep (.one (oneB 97)) (m : Int) (n : Int)) = false := by rw [Bool.eq_iff_iff, hw1]; simp; try omega
          have hf2 : foundB t.data.toList (.rep (.one (oneB 97)) (m : Int) (n : Int)) = false := by rw [Bool.eq_iff_iff, hf1]; simp; try omega
          have HW2 := Lib.hid hw2
          have HF2 := Lib.hid hf2
          clear hw1 hf1 hw2 hf2
          have hq_ := nfaWhole_any (.rep (.one (oneB 97)) (m : Int) (n : Int)) bp t w4 Hp.out (by omega)
          rw [HW2.out] at hq_
          have HQ_ := Lib.hid hq_
          clear hq_
          go_wp2_with fail
          refine (HQ_.out).mono ?_
          rintro e w11 ⟨rfl, hb_⟩
          have hp_ := Hp.out.below hb_
          clear Hp
          have Hp := Lib.hid hp_
          clear hp_
          have hbb_ := hop HB_.out (Nat.le_refl _) hb_
          clear HB_
          have HB_ := Lib.hid hbb_
          clear hbb_ hb_
          clear HQ_
          have hq_ := nfaFind_any (.rep (.one (oneB 97)) (m : Int) (n : Int)) bp t w11 Hp.out (by omega)
          rw [HF2.out] at hq_
          have HQ_ := Lib.hid hq_
          clear hq_
          go_wp2_with fail
          refine (HQ_.out).mono ?_
          rintro e w12 ⟨rfl, hb_⟩
          have hp_ := Hp.out.below hb_
          clear Hp
          have Hp := Lib.hid hp_
          clear hp_
          have hbb_ := hop HB_.out (Nat.le_refl _) hb_
          clear HB_
          have HB_ := Lib.hid hbb_
          clear hbb_ hb_
          clear HQ_
          have hq_ := nfaWhole_any (.rep (.one (oneB 97)) (m : Int) (n : Int)) bp (t ++ ⟨#[98]⟩) w12 Hp.out HTS2.out
          rw [HTO.out] at hq_
          have HQ_ := Lib.hid hq_
          clear hq_
          go_wp2_with fail
          refine (HQ_.out).mono ?_
          rintro e w13 ⟨rfl, hb_⟩
          have hp_ := Hp.out.below hb_
          clear Hp
          have Hp := Lib.hid hp_
          clear hp_
          have hbb_ := hop HB_.out (Nat.le_refl _) hb_
          clear HB_
          have HB_ := Lib.hid hbb_
          clear hbb_ hb_
          clear HQ_
          go_wp2
          go_ret
          exact ⟨by first | rfl | (simp; done) | decide, HB_.out⟩
  | true =>
    go_wp2_with fail
    refine (TM.out w3).mono ?_
    rintro e w14 ⟨⟨R, rfl, szR, hRl⟩, hb_⟩
    have hbb_ := hop HB_.out (Nat.le_refl _) hb_
    clear HB_
    have HB_ := Lib.hid hbb_
    clear hbb_ hb_
    have HRL := Lib.hid hRl
    clear hRl
    have r1 : ¬ 9223372036854775807 < 2 + R.size := by omega
    have r2 : ¬ 9223372036854775807 < 2 + R.size + 2 := by omega
    obtain ⟨v0, hv0⟩ : ∃ v, v = w14 := ⟨_, rfl⟩
    go_wp2
    go_loopw [14, 15] (fun tv iv wr => ∃ (i : Nat) (t : ByteArray), i ≤ k ∧ tv = .string t ∧ iv = .int .i64 i ∧ t.size = i ∧ Hid (t.data.toList = List.replicate i 97) ∧ Hid (w14 = wr)) (fun _ iv _ => k - (intOf iv).toNat)
    case atStart => exact ⟨0, .empty, Nat.zero_le _, rfl, rfl, rfl, Lib.hid rfl, Lib.hid rfl⟩
    case round =>
      obtain ⟨i, t, hi, rfl, rfl, hts, HT, HW⟩ := hrel
      by_cases hgo : i < k
      · have nI : (i : Int) < (k : Int) := by omega
        have hlong : ¬ 9223372036854775807 < t.size + 1 := by omega
        go_wp2
        go_round
        case rel => exact ⟨i + 1, _, hgo, rfl, by go_num, by simp only [ByteArray.size_append, hts]; rfl, Lib.hid (by rw [text_joined, HT.out, List.replicate_succ']), HW⟩
        case measure => first | (simp [intOf]; done) | (simp [intOf]; omega)
      · have nI : ¬ (i : Int) < (k : Int) := by omega
        have hik : i = k := by omega
        subst hik
        have hlong : ¬ 9223372036854775807 < t.size + 1 := by omega
        have hw_ := HW.out
        subst hw_
        clear HW hgo
        go_wp2_with fail
        refine (of_ok _ (.rep (.one (oneB 97)) (m : Int) (-1)) _ w14 (HL.out.below HB_.out) (by rw [times_text0 HRL.out]; exact HP0.out)).mono ?_
        rintro e w15 ⟨bp, rfl, hpn_, _, hb_⟩
        have hbb_ := hop HB_.out (Nat.le_refl _) hb_
        clear HB_
        have HB_ := Lib.hid hbb_
        clear hbb_ hb_
        have Hp := Lib.hid hpn_
        clear hpn_
        have k1 := times_whole i 97 m (-1)
        have k2 := times_found i 97 m (-1) (by omega) (by first | (exact .inl rfl) | (exact .inr (by omega)))
        have k3 := times_other i 97 98 (by decide) m (-1)
        have HTO := Lib.hid (show wholeB (t ++ ⟨#[98]⟩).data.toList (.rep (.one (oneB 97)) (m : Int) (-1)) = false from Bool.eq_false_iff.2 (fun h => k3 (by
          have h2 := (wholeB_iff _ _).1 h
          rw [text_joined, HT.out] at h2
          exact h2)))
        have hts2 : (t ++ (⟨#[98]⟩ : ByteArray)).size ≤ 4000000000000000000 := by simp only [ByteArray.size_append, hts]; show i + 1 ≤ _; omega
        have HTS2 := Lib.hid hts2
        have hw1 : (wholeB t.data.toList (.rep (.one (oneB 97)) (m : Int) (-1)) = true) ↔ (m : Int) ≤ (i : Int) ∧ ((-1) < 0 ∨ (i : Int) ≤ (-1)) := by rw [wholeB_iff, HT.out]; exact k1
        have hf1 : (foundB t.data.toList (.rep (.one (oneB 97)) (m : Int) (-1)) = true) ↔ (m : Int) ≤ (i : Int) := by rw [foundB_iff, HT.out]; exact k2
        clear k1 k2 k3 hts2
        by_cases g1 : m ≤ i
        ·
          have i1 : (m : Int) ≤ (i : Int) := by omega
          have hw2 : wholeB t.data.toList (.rep (.one (oneB 97)) (m : Int) (-1)) = true := by rw [Bool.eq_iff_iff, hw1]; simp; try omega
          have hf2 : foundB t.data.toList (.rep (.one (oneB 97)) (m : Int) (-1)) = true := by rw [Bool.eq_iff_iff, hf1]; simp; try omega
          have HW2 := Lib.hid hw2
          have HF2 := Lib.hid hf2
          clear hw1 hf1 hw2 hf2
          have hq_ := nfaWhole_any (.rep (.one (oneB 97)) (m : Int) (-1)) bp t w15 Hp.out (by omega)
          rw [HW2.out] at hq_
          have HQ_ := Lib.hid hq_
          clear hq_
          go_wp2_with fail
          refine (HQ_.out).mono ?_
          rintro e w16 ⟨rfl, hb_⟩
          have hp_ := Hp.out.below hb_
          clear Hp
          have Hp := Lib.hid hp_
          clear hp_
          have hbb_ := hop HB_.out (Nat.le_refl _) hb_
          clear HB_
          have HB_ := Lib.hid hbb_
          clear hbb_ hb_
          clear HQ_
          have hq_ := nfaFind_any (.rep (.one (oneB 97)) (m : Int) (-1)) bp t w16 Hp.out (by omega)
          rw [HF2.out] at hq_
          have HQ_ := Lib.hid hq_
          clear hq_
          go_wp2_with fail
          refine (HQ_.out).mono ?_
          rintro e w17 ⟨rfl, hb_⟩
          have hp_ := Hp.out.below hb_
          clear Hp
          have Hp := Lib.hid hp_
          clear hp_
          have hbb_ := hop HB_.out (Nat.le_refl _) hb_
          clear HB_
          have HB_ := Lib.hid hbb_
          clear hbb_ hb_
          clear HQ_
          have hq_ := nfaWhole_any (.rep (.one (oneB 97)) (m : Int) (-1)) bp (t ++ ⟨#[98]⟩) w17 Hp.out HTS2.out
          rw [HTO.out] at hq_
          have HQ_ := Lib.hid hq_
          clear hq_
          go_wp2_with fail
          refine (HQ_.out).mono ?_
          rintro e w18 ⟨rfl, hb_⟩
          have hp_ := Hp.out.below hb_
          clear Hp
          have Hp := Lib.hid hp_
          clear hp_
          have hbb_ := hop HB_.out (Nat.le_refl _) hb_
          clear HB_
          have HB_ := Lib.hid hbb_
          clear hbb_ hb_
          clear HQ_
          go_wp2
          go_ret
          exact ⟨by first | rfl | (simp; done) | decide, HB_.out⟩
        ·
          have i1 : ¬ (m : Int) ≤ (i : Int) := by omega
          have hw2 : wholeB t.data.toList (.rep (.one (oneB 97)) (m : Int) (-1)) = false := by rw [Bool.eq_iff_iff, hw1]; simp; try omega
          have hf2 : foundB t.data.toList (.rep (.one (oneB 97)) (m : Int) (-1)) = false := by rw [Bool.eq_iff_iff, hf1]; simp; try omega
          have HW2 := Lib.hid hw2
          have HF2 := Lib.hid hf2
          clear hw1 hf1 hw2 hf2
          have hq_ := nfaWhole_any (.rep (.one (oneB 97)) (m : Int) (-1)) bp t w15 Hp.out (by omega)
          rw [HW2.out] at hq_
          have HQ_ := Lib.hid hq_
          clear hq_
          go_wp2_with fail
          refine (HQ_.out).mono ?_
          rintro e w19 ⟨rfl, hb_⟩
          have hp_ := Hp.out.below hb_
          clear Hp
          have Hp := Lib.hid hp_
          clear hp_
          have hbb_ := hop HB_.out (Nat.le_refl _) hb_
          clear HB_
          have HB_ := Lib.hid hbb_
          clear hbb_ hb_
          clear HQ_
          have hq_ := nfaFind_any (.rep (.one (oneB 97)) (m : Int) (-1)) bp t w19 Hp.out (by omega)
          rw [HF2.out] at hq_
          have HQ_ := Lib.hid hq_
          clear hq_
          go_wp2_with fail
          refine (HQ_.out).mono ?_
          rintro e w20 ⟨rfl, hb_⟩
          have hp_ := Hp.out.below hb_
          clear Hp
          have Hp := Lib.hid hp_
          clear hp_
          have hbb_ := hop HB_.out (Nat.le_refl _) hb_
          clear HB_
          have HB_ := Lib.hid hbb_
          clear hbb_ hb_
          clear HQ_
          have hq_ := nfaWhole_any (.rep (.one (oneB 97)) (m : Int) (-1)) bp (t ++ ⟨#[98]⟩) w20 Hp.out HTS2.out
          rw [HTO.out] at hq_
          have HQ_ := Lib.hid hq_
          clear hq_
          go_wp2_with fail
          refine (HQ_.out).mono ?_
          rintro e w21 ⟨rfl, hb_⟩
          have hp_ := Hp.out.below hb_
          clear Hp
          have Hp := Lib.hid hp_
          clear hp_
          have hbb_ := hop HB_.out (Nat.le_refl _) hb_
          clear HB_
          have HB_ := Lib.hid hbb_
          clear hbb_ hb_
          clear HQ_
          go_wp2
          go_ret
          exact ⟨by first | rfl | (simp; done) | decide, HB_.out⟩
end Go.Proofs.YtgcojilaeflfbaaGreatDoor
