/- The walk of the law NumTexts: any number is told, and any text read, as the document says. -/
import Derived.Test.YtnokpeobkaofoaaDoorNumExam
import Derived.Test.YtnokpeobkaofoaaDoorRefParse
namespace Go.Proofs.YtnokpeobkaofoaaDoor
open Go.RowKit
set_option linter.unusedVariables false

set_option maxHeartbeats 1600000 in
theorem numTexts_walk {W : World} (n : Int) (s : ByteArray) (own : Int) (wn : (Lit.int .i64 n).wf = true) (hs : s.size ≤ 1048576) (wo : (Lit.int .u8 own).wf = true) (hl : LibIs W) :
    Calls Tryd.prog 4 #[.int .i64 n, .string s, .int .u8 own] W fun e w' => e = .returned (.bool true) ∧ Below W.heap.size W w' := by
  have h0 : W.heap.size ≤ W.heap.size := Nat.le_refl _
  obtain ⟨n0, n1⟩ := bdi64 wn
  obtain ⟨o0, o1⟩ := bdu8 wo
  have HX := Lib.hid (numExamples_any W hl)
  have TA := Lib.hid (fun w h => text_any n n0 n1 w h)
  have TR := Lib.hid (fun w => refText_any n n0 n1 w)
  have PA := Lib.hid (fun (x : ByteArray) (hx : x.size ≤ 2000000) w h => parse_any x (by omega) w h)
  have PR := Lib.hid (fun (x : ByteArray) (hx : x.size ≤ 2000000) w => refParse_any x (by omega) w)
  have hsz := itoaS_size n n0 n1
  obtain ⟨t, ht⟩ : ∃ t, itoaS n = t := ⟨_, rfl⟩
  simp only [ht] at TA TR hsz
  have hself : (t.toList == t.toList) = true := by simp
  have g1 : t.size + s.size ≤ 2000000 := by omega
  have g2 : (⟨#[48]⟩ : ByteArray).size + t.size ≤ 2000000 := by show 1 + t.size ≤ _; omega
  have k1 : (t ++ s).size ≤ 2000000 := by rw [ByteArray.size_append]; exact g1
  have k2 : ((⟨#[48]⟩ : ByteArray) ++ t).size ≤ 2000000 := by rw [ByteArray.size_append]; exact g2
  have k3 : t.size ≤ 2000000 := by omega
  have k4 : s.size ≤ 2000000 := by omega
  have ho : ∃ x : ByteArray, x.size ≤ 2000000 ∧ (((own % 4 == 0) = true ∧ x = t) ∨ ((own % 4 == 0) = false ∧ (own % 4 == 1) = true ∧ x = t ++ s) ∨ ((own % 4 == 0) = false ∧ (own % 4 == 1) = false ∧ (own % 4 == 2) = true ∧ x = (⟨#[48]⟩ : ByteArray) ++ t) ∨ ((own % 4 == 0) = false ∧ (own % 4 == 1) = false ∧ (own % 4 == 2) = false ∧ x = s)) := by
    by_cases c0 : own % 4 = 0
    · exact ⟨t, k3, .inl ⟨by simp [c0], rfl⟩⟩
    · by_cases c1 : own % 4 = 1
      · exact ⟨t ++ s, k1, .inr (.inl ⟨by simpa using c0, by simp [c1], rfl⟩)⟩
      · by_cases c2 : own % 4 = 2
        · exact ⟨_, k2, .inr (.inr (.inl ⟨by simpa using c0, by simpa using c1, by simp [c2], rfl⟩))⟩
        · exact ⟨s, k4, .inr (.inr (.inr ⟨by simpa using c0, by simpa using c1, by simpa using c2, rfl⟩))⟩
  obtain ⟨x, hx, ho⟩ := ho
  have P1 := Lib.hid (PA.out x hx)
  have P2 := Lib.hid (PR.out x hx)
  obtain ⟨z, hz⟩ : ∃ z, parseZ x = z := ⟨_, rfl⟩
  rw [hz] at P1 P2
  obtain ⟨v, hv⟩ : ∃ v, z.getD 0 = v := ⟨_, rfl⟩
  obtain ⟨b, hb⟩ : ∃ v, z.isSome = v := ⟨_, rfl⟩
  rw [hv, hb] at P1 P2
  clear hz hv hb PA PR k1 k2 k3 k4 ht
  rcases ho with ⟨q1, rfl⟩ | ⟨q1, q2, rfl⟩ | ⟨q1, q2, q3, rfl⟩ | ⟨q1, q2, q3, rfl⟩
  all_goals
    go_enter Tryd.func4, Tryd.ntmps4
    go_wp2_with fail
    refine HX.out.mono ?_
    rintro e w ⟨rfl, hb⟩
    go_wp2_with fail
    try
      refine (TR.out _).mono ?_
      rintro e w2 ⟨rfl, hy⟩
      replace hb := hop hb h0 hy
      clear hy
      go_wp2_with fail
    refine (P1.out _ (hl.below hb)).mono ?_
    rintro e w3 ⟨rfl, hy⟩
    replace hb := hop hb h0 hy
    clear hy
    go_wp2_with fail
    refine (P2.out _).mono ?_
    rintro e w4 ⟨rfl, hy⟩
    replace hb := hop hb h0 hy
    clear hy
    go_wp2_with fail
    refine (TA.out _ (hl.below hb)).mono ?_
    rintro e w5 ⟨rfl, hy⟩
    replace hb := hop hb h0 hy
    clear hy
    go_wp2_with fail
    refine (TR.out _).mono ?_
    rintro e w6 ⟨rfl, hy⟩
    replace hb := hop hb h0 hy
    clear hy
    go_wp2
    go_ret
    exact ⟨by simp, hb⟩
end Go.Proofs.YtnokpeobkaofoaaDoor
