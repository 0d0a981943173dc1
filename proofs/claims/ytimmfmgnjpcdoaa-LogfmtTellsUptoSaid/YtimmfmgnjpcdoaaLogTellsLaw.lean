/- The walk of the law LogfmtTells: any line has the fields, and the set, that the document says; any labels are put so. -/
import Derived.Test.YtimmfmgnjpcdoaaLogExam
import Derived.Test.YtimmfmgnjpcdoaaLogLine
import Derived.Test.YtimmfmgnjpcdoaaLogRefOf
import Derived.Test.YtimmfmgnjpcdoaaLabBackLaw
import Derived.Deep.DeepCutAuto
namespace Go.Proofs.Ytimmfmgnjpcdoaa
open Go.RowKit
set_option linter.unusedVariables false
set_option linter.unusedSimpArgs false

theorem logSame_true (A B : Option Addr) (n m c d : Nat) (ps : List PairB) (hn : n ≤ 1000) (W : World) (h1 : Hid (Pairs W A n ps)) (h2 : Hid (Pairs W B m ps)) :
    Calls Try.prog 11 #[.slice A n c, .slice B m d] W fun e w' => e = .returned (.bool true) ∧ Below W.heap.size W w' := by
  have S := samePairs_any A B n m c d ps ps (by omega) W h1.out h2.out
  rw [decide_eq_true (rfl : ps = ps)] at S
  exact S
theorem line_join (ps : List PairB) (n : Nat) (hl : ps.length = n) (hn : n ≤ 100) (hps : ∀ p ∈ ps, p.1.size ≤ 1048576 ∧ p.2.size ≤ 1048576) : (joinB ⟨#[32]⟩ (ps.map partT)).length ≤ 700000000 := by
  have hJ := join_le (ps.map partT) ⟨#[32]⟩ 6000000 (fun x hx => by
    obtain ⟨p, hp, rfl⟩ := List.mem_map.1 hx
    have h1 := hps p hp
    have h2 := putS_size p.2
    unfold partT
    rw [ByteArray.size_append, ByteArray.size_append]
    have one : (⟨#[61]⟩ : ByteArray).size = 1 := rfl
    omega)
  rw [List.length_map, hl] at hJ
  have one : (⟨#[32]⟩ : ByteArray).size = 1 := rfl
  rw [one] at hJ
  have hj7 : n * (6000000 + 1) ≤ 100 * 6000001 := Nat.mul_le_mul hn (Nat.le_refl _)
  omega
set_option maxRecDepth 100000 in
set_option maxHeartbeats 3200000 in
theorem logfmtTells_walk {W : World} (s : ByteArray) (own : Bool) (C : Option Addr) (len cc : Nat) (zs : List Int) (A : Option Addr) (n c : Nat) (x : List TagB)
    (hs : s.size ≤ 1048576) (hz : Ints .u8 W C len zs) (hzl : len ≤ 1048576) (hzc : len ≤ cc) (hx : TagsP W A n x) (ux : bulkG x ≤ 1048576) (hnc : n ≤ c) (hcm : c ≤ maxLen) :
    Calls Try.prog 3 #[.string s, .bool own, .slice C len cc, .slice A n c] W fun e w' => e = .returned (.bool true) ∧ Below W.heap.size W w' := by
  have h0 : W.heap.size ≤ W.heap.size := Nat.le_refl _
  unfold maxLen at hcm
  have HX := Lib.hid (logExamples_any W)
  have LN := Lib.hid (fun w (h : Ints .u8 w C len zs) => line_any C len cc zs (by omega) w h)
  have hls : (lineS zs (min len 40)).size ≤ 1048576 := by have := lineS_size zs (min len 40); omega
  have TX := Lib.hid (fun w h => tags_some A n c 20 20 rfl x (by omega) (by omega) w h)
  have lx := tagsL_len x 20
  have HSM := Lib.hid (tagsL_small x 20 ux)
  have HX1 := Lib.hid hx
  have HZ := Lib.hid hz
  obtain ⟨la, hla⟩ : ∃ l, tagsL x 20 = l := ⟨_, rfl⟩
  replace TX := TX.out
  replace HSM := HSM.out
  simp only [hla] at TX lx HSM
  replace TX := Lib.hid TX
  replace HSM := Lib.hid HSM
  obtain ⟨ln, hln⟩ : ∃ l, lineS zs (min len 40) = l := ⟨_, rfl⟩
  replace LN := LN.out
  simp only [hln] at LN
  rw [hln] at hls
  replace LN := Lib.hid LN
  clear hz hx hnc hcm hla hln ux hzl hzc
  go_enter Try.func3, Try.ntmps3
  go_wp2_with fail
  refine HX.out.mono ?_
  rintro e w ⟨rfl, hb⟩
  have HB0 := Lib.hid hb
  have HZ1 := Lib.hid (HZ.out.below hb)
  have HX2 := Lib.hid (HX1.out.below hb)
  clear hb HX HZ HX1
  go_upto_if 16 with (fail)
  go_cut [0] (fun sv wx => ∃ t : ByteArray, sv = .string t ∧ t.size ≤ 1048576 ∧ Hid (Below w.heap.size w wx))
  case first =>
    cases own with
    | false =>
      go_wp2_with fail
      go_meet
      case rel => exact ⟨s, rfl, hs, Lib.hid (Below.refl _ _)⟩
    | true =>
      go_wp2_with fail
      refine (LN.out _ HZ1.out).mono ?_
      rintro e w1 ⟨rfl, hb⟩
      have HB := Lib.hid hb
      clear hb
      go_wp2
      go_meet
      case rel => exact ⟨ln, rfl, hls, HB⟩
  case rest =>
    obtain ⟨t, rfl, ht, HBc⟩ := hcut
    have HB1 := Lib.hid (hop HB0.out (Nat.le_refl _) HBc.out)
    have TX1 := Lib.hid (TX.out _ (HX2.out.below HBc.out))
    have ht2 : t.size ≤ 16000000 := by omega
    clear HB0 HBc HX2 HZ1 LN hls hs TX ht
    go_wp2_with fail
    refine TX1.out.mono ?_
    rintro e w2 ⟨B1, n1, k1, rfl, hp, hx⟩
    have HB2 := Lib.hid (hop HB1.out h0 hx)
    have hn1 : n1 ≤ 20 := by have := hp.out.1; omega
    clear hx TX1 HB1
    have AL := Lib.hid (all_any t ht2 w2)
    have HLN := Lib.hid (allF_len t)
    have RA := Lib.hid (fun w => refAll_any t ht2 w)
    have SA := Lib.hid (fun (A B : Option Addr) (n m c d : Nat) (w : World) (hn : n ≤ 1000) (h1 : Hid (Pairs w A n (allF t))) (h2 : Hid (Pairs w B m (allF t))) => logSame_true A B n m c d (allF t) hn w h1 h2)
    obtain ⟨fl, hfl⟩ : ∃ l, allF t = l := ⟨_, rfl⟩
    replace AL := AL.out
    replace HLN := HLN.out
    replace RA := RA.out
    replace SA := SA.out
    simp only [hfl] at AL HLN RA SA
    replace AL := Lib.hid AL
    replace RA := Lib.hid RA
    replace SA := Lib.hid SA
    clear hfl
    go_wp2_with fail
    refine AL.out.mono ?_
    rintro e w3 ⟨v, rfl, hown, hx⟩
    obtain ⟨A3, n3, c3, rfl, hn3, hq0, hp3⟩ := OwnP.capL hown
    clear hq0
    have hn3b : n3 ≤ 64 := by omega
    have HB3 := Lib.hid (hop HB2.out h0 hx)
    have HP := Lib.hid (hp.out.below hx)
    have HP3 := Lib.hid hp3
    clear hown hx hn3 hp hp3 AL HB2 HLN
    go_wp2_with fail
    refine (RA.out _).mono ?_
    rintro e w4 ⟨v, rfl, hown, hx⟩
    obtain ⟨A4, n4, c4, rfl, hq1, hq2, hq3, hp4⟩ := hown.capL
    clear hq1 hq2 hq3
    have HB4 := Lib.hid (hop HB3.out h0 hx)
    have HP2 := Lib.hid (HP.out.below hx)
    have HS4 := Lib.hid (SA.out A3 A4 n3 n4 c3 c4 w4 (by omega) (Lib.hid (HP3.out.below hx)) (Lib.hid hp4))
    clear hown hx hp4 RA HB3 HP HP3
    go_wp2_with fail
    refine HS4.out.mono ?_
    rintro e w5 ⟨rfl, hx⟩
    have HB5 := Lib.hid (hop HB4.out h0 hx)
    have HP5 := Lib.hid (HP2.out.below hx)
    clear hx HS4 HB4 HP2
    have OF := Lib.hid (logOf_any t ht2 w5)
    go_wp2_with fail
    refine OF.out.mono ?_
    rintro e w6 ⟨A6, n6, c6, rfl, hn6, hp6, _, hx⟩
    have HB6 := Lib.hid (hop HB5.out h0 hx)
    have HP6 := Lib.hid (HP5.out.below hx)
    clear hx OF HB5 HP5
    have RO := Lib.hid (refLogOf_any t ht2 w6)
    go_wp2_with fail
    refine RO.out.mono ?_
    rintro e w7 ⟨A7, n7, c7, rfl, hp7, hx⟩
    have HB7 := Lib.hid (hop HB6.out h0 hx)
    have HP7 := Lib.hid (HP6.out.below hx)
    have HS7 := Lib.hid (logSame_true A6 A7 n6 n7 c6 c7 (ofF t) (by omega) w7 (Lib.hid (hp6.out.below hx)) hp7)
    clear hx RO HB6 HP6
    go_wp2_with fail
    refine HS7.out.mono ?_
    rintro e w8 ⟨rfl, hx⟩
    have HB8 := Lib.hid (hop HB7.out h0 hx)
    have HP8 := Lib.hid (HP7.out.below hx)
    clear hx HS7 HB7 HP7
    have hll := HP8.out.1
    have PU := logPut_any B1 n1 k1 la (by omega) (line_join la n1 hll (by omega) HSM.out) HSM.out w8 HP8.out
    have RP := fun (A : Option Addr) (c : Nat) (w : World) (h : Pairs w A n1 la) => refLogPut_any A n1 c la (by omega) HSM.out w h
    obtain ⟨T, hT⟩ : ∃ T, lineT la = T := ⟨_, rfl⟩
    rw [hT] at PU
    simp only [hT] at RP
    replace PU := Lib.hid PU
    replace RP := Lib.hid RP
    clear hT hll lx
    go_wp2_with fail
    refine PU.out.mono ?_
    rintro e w9 ⟨rfl, hx⟩
    have HB9 := Lib.hid (hop HB8.out h0 hx)
    have HP9 := Lib.hid (HP8.out.below hx)
    clear hx PU HB8 HP8
    have RF := refPairs_any B1 n1 k1 la (by omega) w9 HP9.out
    have HL9 := Lib.hid HP9.out.1
    replace RF := Lib.hid RF
    go_wp2_with fail
    refine RF.out.mono ?_
    rintro e w10 ⟨v, rfl, hown, hx⟩
    obtain ⟨Aq, nq, cq, rfl, hnq, hq2, hq3, hpq⟩ := hown.capL
    clear hq2 hq3
    rw [HL9.out] at hnq
    subst hnq
    have HB10 := Lib.hid (hop HB9.out h0 hx)
    have R2 := Lib.hid (RP.out Aq cq w10 hpq)
    clear hown hx hpq RF HB9
    go_wp2_with fail
    refine R2.out.mono ?_
    rintro e w11 ⟨rfl, hx⟩
    have hb11 := hop HB10.out h0 hx
    clear hx R2
    go_wp2
    go_ret
    exact ⟨by first | rfl | simp, hb11⟩
end Go.Proofs.Ytimmfmgnjpcdoaa
