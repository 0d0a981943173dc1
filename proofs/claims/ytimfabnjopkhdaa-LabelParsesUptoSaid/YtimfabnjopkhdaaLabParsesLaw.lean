/- The walk of the law LabelParses: what a text begins with, by the program and by the document. -/
import Derived.Test.YtimfabnjopkhdaaRefOf8
import Derived.Test.YtimfabnjopkhdaaBend
namespace Go.Proofs.Ytimfabnjopkhdaa
open Go.RowKit
set_option linter.unusedVariables false
set_option linter.unusedSimpArgs false

theorem tm (n d k : Nat) (h : n % d = k) : (n : Int).tmod (d : Int) = (k : Int) ∧ (n : Int) % (d : Int) = (k : Int) ∧ n % d = k := by
  have e : (n : Int) % (d : Int) = (k : Int) := by omega
  exact ⟨by rw [Int.tmod_eq_emod_of_nonneg (by omega)]; exact e, e, h⟩

set_option maxRecDepth 100000 in
set_option maxHeartbeats 1600000 in
theorem labelParses_walk {W : World} (A : Option Addr) (n c : Nat) (x : List TagB) (s : ByteArray) (how at_ by_ : Int)
    (hx : TagsP W A n x) (ux : bulkG x ≤ 1048576) (hnc : n ≤ c) (hcm : c ≤ maxLen) (us : s.size ≤ 1048576) (hhow : (Lit.int .u8 how).wf = true) (hat : (Lit.int .i64 at_).wf = true) (hby : (Lit.int .u8 by_).wf = true) :
    Calls Try.prog 4 #[.slice A n c, .string s, .int .u8 how, .int .i64 at_, .int .u8 by_] W fun e w' => e = .returned (.bool true) ∧ Below W.heap.size W w' := by
  have h0 : W.heap.size ≤ W.heap.size := Nat.le_refl _
  unfold maxLen at hcm
  obtain ⟨hh0, hh1⟩ := bdu8 hhow
  obtain ⟨ha0, ha1⟩ := bdi64 hat
  obtain ⟨hb0, hb1⟩ := bdu8 hby
  have HX := Lib.hid (labExamples_any W)
  have TX := Lib.hid (fun w h => tags_some A n c 18 18 rfl x (by omega) (by omega) w h)
  have lx := tagsL_len x 18
  have BE := Lib.hid (fun (t : ByteArray) (ht : t.size ≤ 16000000) w => bend_any t ht at_ by_ ha0 ha1 hb0 hb1 w)
  have TA := txt_tags x 18 (by omega) ux
  have TB := txt_of x 18 (by omega) ux
  obtain ⟨L, hL⟩ : ∃ L, tagsL x 18 = L := ⟨_, rfl⟩
  rw [hL] at TA TB lx
  simp only [hL] at TX
  obtain ⟨R, hR⟩ : ∃ R, refOfL L = R := ⟨_, rfl⟩
  have OF := Lib.hid (fun B q k (hq : q ≤ 1000) w h => refOf_some B q k L hq w h)
  simp only [hR] at OF
  rw [hR] at TB
  have RP := Lib.hid (fun B q k (hq : q ≤ 1000) w h => refPairs_some B q k L hq w h)
  obtain ⟨hw, rfl⟩ : ∃ k : Nat, how = (k : Int) := ⟨how.toNat, by omega⟩
  have HX1 := Lib.hid hx
  clear hx hnc hcm hL hR ux hhow hat hby ha0 ha1 hb0 hb1 hh0
  rcases (by omega : hw % 8 ≤ 5 ∨ 5 < hw % 8) with hq | hq
  · obtain ⟨T, hT⟩ : ∃ T, textT R = T := ⟨_, rfl⟩
    rw [hT] at TB
    have hTs := TB.most
    have TT := Lib.hid (fun B q k w h => refText_some B q k R T TB w h)
    clear hT TA TB
    obtain ⟨q1, q2, q3⟩ := tm hw 8 _ rfl
    have q4 : ¬ (5 : Int) < ((hw % 8 : Nat) : Int) := by omega
    obtain ⟨h8, hh8⟩ : ∃ k, hw % 8 = k := ⟨_, rfl⟩
    rw [hh8] at q1 q2 q4
    replace q1 : (hw : Int).tmod 8 = (h8 : Int) := q1
    replace q2 : (hw : Int) % 8 = (h8 : Int) := q2
    have q5 : ¬ 5 < h8 := by omega
    clear q3 hq hh8
    go_enter Try.func4, Try.ntmps4
    go_wp2_with fail
    refine HX.out.mono ?_
    rintro e w ⟨rfl, hb⟩
    go_wp2_with fail
    refine (TX.out _ (HX1.out.below hb)).mono ?_
    rintro e w1 ⟨B1, m1, k1, rfl, hp, hx⟩
    replace hb := hop hb h0 hx
    have hm1 : m1 ≤ 1000 := by have := hp.out.1; omega
    clear hx
    go_wp2_with fail
    refine (RP.out _ _ _ hm1 _ hp).mono ?_
    rintro e w2 ⟨B2, m2, k2, rfl, hp2, hx⟩
    replace hb := hop hb h0 hx
    have hm2 : m2 ≤ 1000 := by have := hp2.out.1; omega
    clear hx hp hm1
    go_wp2_with fail
    refine (OF.out _ _ _ hm2 _ hp2).mono ?_
    rintro e w3 ⟨B3, m3, k3, rfl, hp3, hx⟩
    replace hb := hop hb h0 hx
    clear hx hp2 hm2
    go_wp2_with fail
    refine (TT.out _ _ _ _ hp3).mono ?_
    rintro e w4 ⟨rfl, hx⟩
    replace hb := hop hb h0 hx
    clear hx hp3 OF RP TX TT HX HX1
    rcases (by omega : hw % 4 = 0 ∨ hw % 4 = 1 ∨ hw % 4 = 2 ∨ hw % 4 = 3) with g | g | g | g
    · obtain ⟨g1, g2, g3⟩ := tm hw 4 0 g
      have hcs : ¬ 9223372036854775807 < T.size + s.size := by omega
      obtain ⟨S, hS⟩ : ∃ S, T ++ s = S := ⟨_, rfl⟩
      have hSz : S.size ≤ 16000000 := by rw [← hS, ByteArray.size_append]; omega
      have hS2 := hS
      obtain ⟨l, n1, b1, ht⟩ := told_any S
      have PA := Lib.hid (fun w => parse_some S l n1 b1 ht (by omega) w)
      have PR := Lib.hid (fun w => refParse_some S l n1 b1 ht (by omega) w)
      have hll := ht.len
      clear ht hS
      go_wp2_with fail
      refine (PA.out _).mono ?_
      rintro e w11 ⟨A1, m1, c1, rfl, hpa, hx⟩
      replace hb := hop hb h0 hx
      clear hx
      go_wp2_with fail
      refine (PR.out _).mono ?_
      rintro e w12 ⟨A2, m2, c2, rfl, hpb, hx⟩
      replace hb := hop hb h0 hx
      replace hpa := Lib.hid (hpa.out.below hx)
      clear hx
      go_wp2_with fail
      refine (same_told A1 A2 m1 m2 c1 c2 l hll _ hpa hpb).mono ?_
      rintro e w13 ⟨rfl, hx⟩
      replace hb := hop hb h0 hx
      clear hx hpa hpb
      go_wp2
      go_ret
      exact ⟨by first | rfl | (simp; done), hb⟩
    · obtain ⟨g1, g2, g3⟩ := tm hw 4 1 g
      go_wp2_with fail
      refine (BE.out T (by omega) _).mono ?_
      rintro e w10 ⟨S, hS, rfl, hx⟩
      replace hb := hop hb h0 hx
      clear hx
      have hSz : S.size ≤ 16000000 := by omega
      obtain ⟨l, n1, b1, ht⟩ := told_any S
      have PA := Lib.hid (fun w => parse_some S l n1 b1 ht (by omega) w)
      have PR := Lib.hid (fun w => refParse_some S l n1 b1 ht (by omega) w)
      have hll := ht.len
      clear ht
      go_wp2_with fail
      refine (PA.out _).mono ?_
      rintro e w11 ⟨A1, m1, c1, rfl, hpa, hx⟩
      replace hb := hop hb h0 hx
      clear hx
      go_wp2_with fail
      refine (PR.out _).mono ?_
      rintro e w12 ⟨A2, m2, c2, rfl, hpb, hx⟩
      replace hb := hop hb h0 hx
      replace hpa := Lib.hid (hpa.out.below hx)
      clear hx
      go_wp2_with fail
      refine (same_told A1 A2 m1 m2 c1 c2 l hll _ hpa hpb).mono ?_
      rintro e w13 ⟨rfl, hx⟩
      replace hb := hop hb h0 hx
      clear hx hpa hpb
      go_wp2
      go_ret
      exact ⟨by first | rfl | (simp; done), hb⟩
    · obtain ⟨g1, g2, g3⟩ := tm hw 4 2 g
      go_wp2_with fail
      refine (BE.out T (by omega) _).mono ?_
      rintro e w10 ⟨S, hS, rfl, hx⟩
      replace hb := hop hb h0 hx
      clear hx
      have hSz : S.size ≤ 16000000 := by omega
      obtain ⟨l, n1, b1, ht⟩ := told_any S
      have PA := Lib.hid (fun w => parse_some S l n1 b1 ht (by omega) w)
      have PR := Lib.hid (fun w => refParse_some S l n1 b1 ht (by omega) w)
      have hll := ht.len
      clear ht
      go_wp2_with fail
      refine (PA.out _).mono ?_
      rintro e w11 ⟨A1, m1, c1, rfl, hpa, hx⟩
      replace hb := hop hb h0 hx
      clear hx
      go_wp2_with fail
      refine (PR.out _).mono ?_
      rintro e w12 ⟨A2, m2, c2, rfl, hpb, hx⟩
      replace hb := hop hb h0 hx
      replace hpa := Lib.hid (hpa.out.below hx)
      clear hx
      go_wp2_with fail
      refine (same_told A1 A2 m1 m2 c1 c2 l hll _ hpa hpb).mono ?_
      rintro e w13 ⟨rfl, hx⟩
      replace hb := hop hb h0 hx
      clear hx hpa hpb
      go_wp2
      go_ret
      exact ⟨by first | rfl | (simp; done), hb⟩
    · obtain ⟨g1, g2, g3⟩ := tm hw 4 3 g
      obtain ⟨S, hS⟩ : ∃ S, s = S := ⟨_, rfl⟩
      have hSz : S.size ≤ 16000000 := by rw [← hS]; omega
      subst hS
      obtain ⟨l, n1, b1, ht⟩ := told_any s
      have PA := Lib.hid (fun w => parse_some s l n1 b1 ht (by omega) w)
      have PR := Lib.hid (fun w => refParse_some s l n1 b1 ht (by omega) w)
      have hll := ht.len
      clear ht
      go_wp2_with fail
      refine (PA.out _).mono ?_
      rintro e w11 ⟨A1, m1, c1, rfl, hpa, hx⟩
      replace hb := hop hb h0 hx
      clear hx
      go_wp2_with fail
      refine (PR.out _).mono ?_
      rintro e w12 ⟨A2, m2, c2, rfl, hpb, hx⟩
      replace hb := hop hb h0 hx
      replace hpa := Lib.hid (hpa.out.below hx)
      clear hx
      go_wp2_with fail
      refine (same_told A1 A2 m1 m2 c1 c2 l hll _ hpa hpb).mono ?_
      rintro e w13 ⟨rfl, hx⟩
      replace hb := hop hb h0 hx
      clear hx hpa hpb
      go_wp2
      go_ret
      exact ⟨by first | rfl | (simp; done), hb⟩
  · obtain ⟨T, hT⟩ : ∃ T, textT L = T := ⟨_, rfl⟩
    rw [hT] at TA
    have hTs := TA.most
    have TT := Lib.hid (fun B q k w h => refText_some B q k L T TA w h)
    clear hT TA TB
    obtain ⟨q1, q2, q3⟩ := tm hw 8 _ rfl
    have q4 : (5 : Int) < ((hw % 8 : Nat) : Int) := by omega
    obtain ⟨h8, hh8⟩ : ∃ k, hw % 8 = k := ⟨_, rfl⟩
    rw [hh8] at q1 q2 q4
    replace q1 : (hw : Int).tmod 8 = (h8 : Int) := q1
    replace q2 : (hw : Int) % 8 = (h8 : Int) := q2
    have q5 : 5 < h8 := by omega
    clear q3 hq hh8
    go_enter Try.func4, Try.ntmps4
    go_wp2_with fail
    refine HX.out.mono ?_
    rintro e w ⟨rfl, hb⟩
    go_wp2_with fail
    refine (TX.out _ (HX1.out.below hb)).mono ?_
    rintro e w1 ⟨B1, m1, k1, rfl, hp, hx⟩
    replace hb := hop hb h0 hx
    have hm1 : m1 ≤ 1000 := by have := hp.out.1; omega
    clear hx
    go_wp2_with fail
    refine (RP.out _ _ _ hm1 _ hp).mono ?_
    rintro e w2 ⟨B2, m2, k2, rfl, hp2, hx⟩
    replace hb := hop hb h0 hx
    have hm2 : m2 ≤ 1000 := by have := hp2.out.1; omega
    clear hx hp hm1
    go_wp2_with fail
    refine (OF.out _ _ _ hm2 _ hp2).mono ?_
    rintro e w3 ⟨B3, m3, k3, rfl, hp3, hx⟩
    replace hb := hop hb h0 hx
    clear hx hp2 hm2 hp3
    go_wp2_with fail
    refine (TX.out _ (HX1.out.below hb)).mono ?_
    rintro e w1 ⟨B1, m1, k1, rfl, hp, hx⟩
    replace hb := hop hb h0 hx
    have hm1 : m1 ≤ 1000 := by have := hp.out.1; omega
    clear hx
    go_wp2_with fail
    refine (RP.out _ _ _ hm1 _ hp).mono ?_
    rintro e w2 ⟨B2, m2, k2, rfl, hp2, hx⟩
    replace hb := hop hb h0 hx
    clear hx hp hm1
    go_wp2_with fail
    refine (TT.out _ _ _ _ hp2).mono ?_
    rintro e w4 ⟨rfl, hx⟩
    replace hb := hop hb h0 hx
    clear hx hp2 OF RP TX TT HX HX1
    rcases (by omega : hw % 4 = 2 ∨ hw % 4 = 3) with g | g
    · obtain ⟨g1, g2, g3⟩ := tm hw 4 2 g
      go_wp2_with fail
      refine (BE.out T (by omega) _).mono ?_
      rintro e w10 ⟨S, hS, rfl, hx⟩
      replace hb := hop hb h0 hx
      clear hx
      have hSz : S.size ≤ 16000000 := by omega
      obtain ⟨l, n1, b1, ht⟩ := told_any S
      have PA := Lib.hid (fun w => parse_some S l n1 b1 ht (by omega) w)
      have PR := Lib.hid (fun w => refParse_some S l n1 b1 ht (by omega) w)
      have hll := ht.len
      clear ht
      go_wp2_with fail
      refine (PA.out _).mono ?_
      rintro e w11 ⟨A1, m1, c1, rfl, hpa, hx⟩
      replace hb := hop hb h0 hx
      clear hx
      go_wp2_with fail
      refine (PR.out _).mono ?_
      rintro e w12 ⟨A2, m2, c2, rfl, hpb, hx⟩
      replace hb := hop hb h0 hx
      replace hpa := Lib.hid (hpa.out.below hx)
      clear hx
      go_wp2_with fail
      refine (same_told A1 A2 m1 m2 c1 c2 l hll _ hpa hpb).mono ?_
      rintro e w13 ⟨rfl, hx⟩
      replace hb := hop hb h0 hx
      clear hx hpa hpb
      go_wp2
      go_ret
      exact ⟨by first | rfl | (simp; done), hb⟩
    · obtain ⟨g1, g2, g3⟩ := tm hw 4 3 g
      obtain ⟨S, hS⟩ : ∃ S, s = S := ⟨_, rfl⟩
      have hSz : S.size ≤ 16000000 := by rw [← hS]; omega
      subst hS
      obtain ⟨l, n1, b1, ht⟩ := told_any s
      have PA := Lib.hid (fun w => parse_some s l n1 b1 ht (by omega) w)
      have PR := Lib.hid (fun w => refParse_some s l n1 b1 ht (by omega) w)
      have hll := ht.len
      clear ht
      go_wp2_with fail
      refine (PA.out _).mono ?_
      rintro e w11 ⟨A1, m1, c1, rfl, hpa, hx⟩
      replace hb := hop hb h0 hx
      clear hx
      go_wp2_with fail
      refine (PR.out _).mono ?_
      rintro e w12 ⟨A2, m2, c2, rfl, hpb, hx⟩
      replace hb := hop hb h0 hx
      replace hpa := Lib.hid (hpa.out.below hx)
      clear hx
      go_wp2_with fail
      refine (same_told A1 A2 m1 m2 c1 c2 l hll _ hpa hpb).mono ?_
      rintro e w13 ⟨rfl, hx⟩
      replace hb := hop hb h0 hx
      clear hx hpa hpb
      go_wp2
      go_ret
      exact ⟨by first | rfl | (simp; done), hb⟩
end Go.Proofs.Ytimfabnjopkhdaa
