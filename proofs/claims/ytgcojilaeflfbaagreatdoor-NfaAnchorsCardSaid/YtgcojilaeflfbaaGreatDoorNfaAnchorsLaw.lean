/- NfaAnchors: the walk of the law. -/
import Derived.Test.YtgcojilaeflfbaaGreatDoorNfaLettersLaw
namespace Go.Proofs.YtgcojilaeflfbaaGreatDoor
open Go.RowKit
set_option linter.unusedVariables false
set_option linter.unusedSimpArgs false

theorem both_line (a : ByteArray) : ((⟨#[94]⟩ : ByteArray) ++ a ++ (⟨#[36]⟩ : ByteArray)).data.toList = 94 :: (a.data.toList ++ [36]) := by simp [text_joined]
theorem begl_line (a : ByteArray) : ((⟨#[94]⟩ : ByteArray) ++ a).data.toList = 94 :: a.data.toList := by simp [text_joined]
theorem lend_line (a : ByteArray) : (a ++ (⟨#[36]⟩ : ByteArray)).data.toList = a.data.toList ++ [36] := by simp [text_joined]
theorem eq_text5 (a b : ByteArray) : ((a.toList == b.toList) = true) ↔ a.data.toList = b.data.toList := by
  by_cases h : a = b
  · rw [text_same5 h]; exact ⟨fun _ => (by rw [h]), fun _ => rfl⟩
  · rw [text_other h]; exact ⟨fun k => (by cases k), fun k => absurd (text_ext1 k) h⟩
set_option maxRecDepth 100000 in
set_option maxHeartbeats 3200000 in
theorem nfaAnchors_walk {W : World} (A : Option Addr) (len c : Nat) (zs : List Int) (A2 : Option Addr) (len2 c2 : Nat) (zs2 : List Int) (A3 : Option Addr) (len3 c3 : Nat) (zs3 : List Int) (h1 : Ints .u8 W A len zs) (hnc : len ≤ c) (hcm : c ≤ maxLen) (h2 : Ints .u8 W A2 len2 zs2) (hnc2 : len2 ≤ c2) (hcm2 : c2 ≤ maxLen) (h3 : Ints .u8 W A3 len3 zs3) (hnc3 : len3 ≤ c3) (hcm3 : c3 ≤ maxLen) (hl : LibIs W) :
    Calls Tryz.prog 7 #[.slice A len c, .slice A2 len2 c2, .slice A3 len3 c3] W fun e w' => e = .returned (.bool true) ∧ Below W.heap.size W w' := by
  have HEX := Lib.hid (fun w h => examples5_any w h)
  have HL := Lib.hid hl
  clear hl
  have R1 := Lib.hid (fun w (hb : Below W.heap.size W w) => letters5_any A len c zs (h1.below hb) hnc hcm)
  have R2 := Lib.hid (fun w (hb : Below W.heap.size W w) => letters5_any A2 len2 c2 zs2 (h2.below hb) hnc2 hcm2)
  have R3 := Lib.hid (fun w (hb : Below W.heap.size W w) => letters5_any A3 len3 c3 zs3 (h3.below hb) hnc3 hcm3)
  clear h1 h2 h3 hnc hcm hnc2 hcm2 hnc3 hcm3
  go_enter Tryz.func7, Tryz.ntmps7
  go_wp2_with fail
  refine (HEX.out W HL.out).mono ?_
  rintro e w1 ⟨rfl, hb_⟩
  have HB_ := Lib.hid hb_
  clear hb_
  go_wp2_with fail
  refine (R1.out w1 HB_.out).mono ?_
  rintro e w2 ⟨⟨a, rfl, sza, hla⟩, hb_⟩
  have hbb_ := hop HB_.out (Nat.le_refl _) hb_
  clear HB_
  have HB_ := Lib.hid hbb_
  clear hbb_ hb_
  have LA := Lib.hid (letters_ok hla)
  clear hla
  go_wp2_with fail
  refine (R2.out w2 HB_.out).mono ?_
  rintro e w3 ⟨⟨b, rfl, szb, hlb⟩, hb_⟩
  have hbb_ := hop HB_.out (Nat.le_refl _) hb_
  clear HB_
  have HB_ := Lib.hid hbb_
  clear hbb_ hb_
  go_wp2_with fail
  refine (R3.out w3 HB_.out).mono ?_
  rintro e w4 ⟨⟨t, rfl, szt, hlt⟩, hb_⟩
  have hbb_ := hop HB_.out (Nat.le_refl _) hb_
  clear HB_
  have HB_ := Lib.hid hbb_
  clear hbb_ hb_
  clear R1 R2 R3 HEX hlb hlt
  have lenA := len_of a
  have HPA := Lib.hid (parse_small (rd_both LA.out) (by simp only [List.length_cons, List.length_append, List.length_nil, lenA]; omega) (by rw [cnt_both, lenA]; omega))
  have HPQ := Lib.hid (parse_small (rd_begl LA.out) (by simp only [List.length_cons, lenA]; omega) (by rw [cnt_begl, lenA]; omega))
  have HPR := Lib.hid (parse_small (rd_lend LA.out) (by simp only [List.length_cons, List.length_append, List.length_nil, lenA]; omega) (by rw [cnt_lend, lenA]; omega))
  have s1 : ¬ 9223372036854775807 < 1 + a.size := by omega
  have s2 : ¬ 9223372036854775807 < 1 + a.size + 1 := by omega
  have s3 : ¬ 9223372036854775807 < a.size + 1 := by omega
  have s4 : ¬ 9223372036854775807 < b.size + a.size := by omega
  have s5 : ¬ 9223372036854775807 < b.size + a.size + t.size := by omega
  have s6 : ¬ 9223372036854775807 < a.size + t.size := by omega
  go_wp2_with fail
  refine (of_ok _ (catT (begT :: (ones a.data.toList ++ [finT]))) _ w4 (HL.out.below HB_.out) (by rw [both_line]; exact HPA.out)).mono ?_
  rintro e w5 ⟨bp, rfl, hpn_, _, hb_⟩
  have hbb_ := hop HB_.out (Nat.le_refl _) hb_
  clear HB_
  have HB_ := Lib.hid hbb_
  clear hbb_ hb_
  have Hp := Lib.hid hpn_
  clear hpn_
  go_wp2_with fail
  refine (of_ok _ (catT (begT :: ones a.data.toList)) _ w5 (HL.out.below HB_.out) (by rw [begl_line]; exact HPQ.out)).mono ?_
  rintro e w6 ⟨bq, rfl, hpn_, _, hb_⟩
  have hp_ := Hp.out.below hb_
  clear Hp
  have Hp := Lib.hid hp_
  clear hp_
  have hbb_ := hop HB_.out (Nat.le_refl _) hb_
  clear HB_
  have HB_ := Lib.hid hbb_
  clear hbb_ hb_
  have Hq := Lib.hid hpn_
  clear hpn_
  go_wp2_with fail
  refine (of_ok _ (catT (ones a.data.toList ++ [finT])) _ w6 (HL.out.below HB_.out) (by rw [lend_line]; exact HPR.out)).mono ?_
  rintro e w7 ⟨br, rfl, hpn_, _, hb_⟩
  have hp_ := Hp.out.below hb_
  clear Hp
  have Hp := Lib.hid hp_
  clear hp_
  have hp_ := Hq.out.below hb_
  clear Hq
  have Hq := Lib.hid hp_
  clear hp_
  have hbb_ := hop HB_.out (Nat.le_refl _) hb_
  clear HB_
  have HB_ := Lib.hid hbb_
  clear hbb_ hb_
  have Hr := Lib.hid hpn_
  clear hpn_
  have zs_ : (b ++ a ++ t).size = b.size + a.size + t.size := by simp only [ByteArray.size_append]
  have HZS := Lib.hid zs_
  clear zs_
  obtain ⟨bp_, hbp⟩ : ∃ x, ((b ++ a ++ t).toList == a.toList) = x := ⟨_, rfl⟩
  obtain ⟨bq_, hbq⟩ : ∃ x, (((b ++ a ++ t).extract 0 a.size).toList == a.toList) = x := ⟨_, rfl⟩
  obtain ⟨br_, hbr⟩ : ∃ x, (((b ++ a ++ t).extract ((b ++ a ++ t).size - a.size) (b ++ a ++ t).size).toList == a.toList) = x := ⟨_, rfl⟩
  have f1 : foundB (b ++ a ++ t).data.toList (catT (begT :: (ones a.data.toList ++ [finT]))) = bp_ := bool_same (foundB_iff _ _) (by rw [← hbp, eq_text5]; exact (both_found2 _ _).symm)
  have f2 : foundB (b ++ a ++ t).data.toList (catT (begT :: ones a.data.toList)) = bq_ := bool_same (foundB_iff _ _) (by rw [← hbq, eq_text5, cut_part5, List.drop_zero, begl_found, lenA])
  have f3 : foundB (b ++ a ++ t).data.toList (catT (ones a.data.toList ++ [finT])) = br_ := bool_same (foundB_iff _ _) (by rw [← hbr, eq_text5, cut_part5, lend_long (by rw [len_of, len_of, HZS.out]; omega), lenA, List.take_of_length_le (by rw [len_of]; exact Nat.le_refl _), len_of])
  have F1 := Lib.hid f1
  have F2 := Lib.hid f2
  have F3 := Lib.hid f3
  have F4 := Lib.hid (show wholeB a.data.toList (catT (begT :: (ones a.data.toList ++ [finT]))) = true from (wholeB_iff _ _).2 ((both_whole2 _ _).2 rfl))
  have F5 := Lib.hid (show foundB (a ++ t).data.toList (catT (begT :: ones a.data.toList)) = true from (foundB_iff _ _).2 (by rw [text_joined]; exact begl_here _ _))
  have F6 := Lib.hid (show foundB (b ++ a).data.toList (catT (ones a.data.toList ++ [finT])) = true from (foundB_iff _ _).2 (by rw [text_joined]; exact lend_here _ _))
  have s7 : (b ++ a ++ t).size ≤ 4000000000000000000 := by rw [HZS.out]; omega
  have s8 : (a ++ t).size ≤ 4000000000000000000 := by simp only [ByteArray.size_append]; omega
  have s9 : (b ++ a).size ≤ 4000000000000000000 := by simp only [ByteArray.size_append]; omega
  have S7 := Lib.hid s7
  have S8 := Lib.hid s8
  have S9 := Lib.hid s9
  rw [HZS.out] at hbr
  have n1 : ((b.size : Int) + (a.size : Int) + (t.size : Int)) - (a.size : Int) = ((b.size + a.size + t.size - a.size : Nat) : Int) := by omega
  clear f1 f2 f3 s7 s8 s9 HPA HPQ HPR LA lenA
  cases bp_ <;> cases bq_ <;> cases br_
  all_goals
    have hq_ := nfaFind_any (catT (begT :: (ones a.data.toList ++ [finT]))) bp (b ++ a ++ t) w7 Hp.out S7.out
    rw [F1.out] at hq_
    have HQ_ := Lib.hid hq_
    clear hq_
    go_wp2_with fail
    refine (HQ_.out).mono ?_
    rintro e w8 ⟨rfl, hb_⟩
    have hp_ := Hp.out.below hb_
    clear Hp
    have Hp := Lib.hid hp_
    clear hp_
    have hp_ := Hq.out.below hb_
    clear Hq
    have Hq := Lib.hid hp_
    clear hp_
    have hp_ := Hr.out.below hb_
    clear Hr
    have Hr := Lib.hid hp_
    clear hp_
    have hbb_ := hop HB_.out (Nat.le_refl _) hb_
    clear HB_
    have HB_ := Lib.hid hbb_
    clear hbb_ hb_
    clear HQ_
    have hq_ := nfaFind_any (catT (begT :: ones a.data.toList)) bq (b ++ a ++ t) w8 Hq.out S7.out
    rw [F2.out] at hq_
    have HQ_ := Lib.hid hq_
    clear hq_
    go_wp2_with fail
    refine (HQ_.out).mono ?_
    rintro e w9 ⟨rfl, hb_⟩
    have hp_ := Hp.out.below hb_
    clear Hp
    have Hp := Lib.hid hp_
    clear hp_
    have hp_ := Hq.out.below hb_
    clear Hq
    have Hq := Lib.hid hp_
    clear hp_
    have hp_ := Hr.out.below hb_
    clear Hr
    have Hr := Lib.hid hp_
    clear hp_
    have hbb_ := hop HB_.out (Nat.le_refl _) hb_
    clear HB_
    have HB_ := Lib.hid hbb_
    clear hbb_ hb_
    clear HQ_
    have hq_ := nfaFind_any (catT (ones a.data.toList ++ [finT])) br (b ++ a ++ t) w9 Hr.out S7.out
    rw [F3.out] at hq_
    have HQ_ := Lib.hid hq_
    clear hq_
    go_wp2_with fail
    refine (HQ_.out).mono ?_
    rintro e w10 ⟨rfl, hb_⟩
    have hp_ := Hp.out.below hb_
    clear Hp
    have Hp := Lib.hid hp_
    clear hp_
    have hp_ := Hq.out.below hb_
    clear Hq
    have Hq := Lib.hid hp_
    clear hp_
    have hp_ := Hr.out.below hb_
    clear Hr
    have Hr := Lib.hid hp_
    clear hp_
    have hbb_ := hop HB_.out (Nat.le_refl _) hb_
    clear HB_
    have HB_ := Lib.hid hbb_
    clear hbb_ hb_
    clear HQ_
    have hq_ := nfaWhole_any (catT (begT :: (ones a.data.toList ++ [finT]))) bp a w10 Hp.out (by omega)
    rw [F4.out] at hq_
    have HQ_ := Lib.hid hq_
    clear hq_
    go_wp2_with fail
    refine (HQ_.out).mono ?_
    rintro e w11 ⟨rfl, hb_⟩
    have hp_ := Hp.out.below hb_
    clear Hp
    have Hp := Lib.hid hp_
    clear hp_
    have hp_ := Hq.out.below hb_
    clear Hq
    have Hq := Lib.hid hp_
    clear hp_
    have hp_ := Hr.out.below hb_
    clear Hr
    have Hr := Lib.hid hp_
    clear hp_
    have hbb_ := hop HB_.out (Nat.le_refl _) hb_
    clear HB_
    have HB_ := Lib.hid hbb_
    clear hbb_ hb_
    clear HQ_
    have hq_ := nfaFind_any (catT (begT :: ones a.data.toList)) bq (a ++ t) w11 Hq.out S8.out
    rw [F5.out] at hq_
    have HQ_ := Lib.hid hq_
    clear hq_
    go_wp2_with fail
    refine (HQ_.out).mono ?_
    rintro e w12 ⟨rfl, hb_⟩
    have hp_ := Hp.out.below hb_
    clear Hp
    have Hp := Lib.hid hp_
    clear hp_
    have hp_ := Hq.out.below hb_
    clear Hq
    have Hq := Lib.hid hp_
    clear hp_
    have hp_ := Hr.out.below hb_
    clear Hr
    have Hr := Lib.hid hp_
    clear hp_
    have hbb_ := hop HB_.out (Nat.le_refl _) hb_
    clear HB_
    have HB_ := Lib.hid hbb_
    clear hbb_ hb_
    clear HQ_
    have hq_ := nfaFind_any (catT (ones a.data.toList ++ [finT])) br (b ++ a) w12 Hr.out S9.out
    rw [F6.out] at hq_
    have HQ_ := Lib.hid hq_
    clear hq_
    go_wp2_with fail
    refine (HQ_.out).mono ?_
    rintro e w13 ⟨rfl, hb_⟩
    have hp_ := Hp.out.below hb_
    clear Hp
    have Hp := Lib.hid hp_
    clear hp_
    have hp_ := Hq.out.below hb_
    clear Hq
    have Hq := Lib.hid hp_
    clear hp_
    have hp_ := Hr.out.below hb_
    clear Hr
    have Hr := Lib.hid hp_
    clear hp_
    have hbb_ := hop HB_.out (Nat.le_refl _) hb_
    clear HB_
    have HB_ := Lib.hid hbb_
    clear hbb_ hb_
    clear HQ_
    go_wp2
    go_ret
    exact ⟨by first | rfl | (simp; done) | decide, HB_.out⟩
end Go.Proofs.YtgcojilaeflfbaaGreatDoor
