-- shaken
import Derived.Test.YtbkpoimaienhpaaGreatDoorMatExam
namespace Go.Proofs.YtbkpoimaienhpaaGreatDoor
open Go.RowKit
set_option linter.unusedVariables false
set_option linter.unusedSimpArgs false
theorem has_at {s sub : ByteArray} (i : Nat) (hi : i ≤ s.data.toList.length) (h : Lib.occAt s.data.toList sub.data.toList i = true) : hasT s sub = true := by
  unfold hasT Lib.contains
  rcases Lib.index_spec s.data.toList sub.data.toList with ⟨_, h2⟩ | ⟨k, h2, _⟩
  · rw [h2 i hi] at h; cases h
  · rw [h2]; exact decide_eq_true (by omega)
theorem has_in (a b c : ByteArray) : hasT (a ++ b ++ c) b = true := by
  refine has_at a.data.toList.length ?_ ?_
  · rw [text_joined, text_joined]; simp
  · unfold Lib.occAt
    rw [text_joined, text_joined, List.append_assoc, List.drop_left]
    exact List.isPrefixOf_iff_prefix.2 (List.prefix_append _ _)
theorem has_none (a : ByteArray) : hasT a ⟨#[]⟩ = true := has_at 0 (Nat.zero_le _) rfl
theorem has_long {c b : ByteArray} (h : c.size < b.size) : hasT c b = false := by
  unfold hasT Lib.contains
  refine decide_eq_false (fun k => ?_)
  have h2 := Lib.index_room c.data.toList b.data.toList k
  rw [size_toList, size_toList] at h2
  omega
set_option maxRecDepth 100000 in
set_option maxHeartbeats 3200000 in
theorem matchInside_walk {W : World} (a b c : ByteArray) (ha : a.size ≤ 1048576) (hb0 : b.size ≤ 1048576) (hc : c.size ≤ 1048576) (hm : MaxAt W) (hl : LibIs W) :
    Calls Tryz.prog 5 #[.string a, .string b, .string c] W fun e w' => e = .returned (.bool true) ∧ Below W.heap.size W w' := by
  have HM := Lib.hid hm
  have HL := Lib.hid hl
  have HB := Lib.hid (Below.refl W.heap.size W)
  obtain ⟨k, hk⟩ : ∃ k : Nat, min b.size 200 = k := ⟨_, rfl⟩
  have hk2 : k ≤ b.size ∧ k ≤ 200 := by omega
  have hkI : min (b.size : Int) 200 = (k : Int) := by omega
  clear hm hl
  go_enter Tryz.func5, Tryz.ntmps5
  go_wp2_with fail
  refine (examples11_any _ HL.out HM.out).mono ?_
  rintro e w1 ⟨rfl, hb⟩
  replace HB := Lib.hid (hop HB.out (Nat.le_refl _) hb)
  clear hb
  go_wp2_with fail
  obtain ⟨p, hp⟩ : ∃ p, b.extract 0 k = p := ⟨_, rfl⟩
  have hpk : p.size = k := by rw [← hp, ByteArray.size_extract]; omega
  rw [hp]
  have F1 := Lib.hid (show fitsB lineOps ⟨#[124, 61]⟩ p = true by
    unfold fitsB
    rw [show amongB (⟨#[124, 61]⟩ : ByteArray) lineOps = true by decide +kernel, show amongB (⟨#[124, 61]⟩ : ByteArray) exprOps = false by decide +kernel, decide_eq_true (show p.size ≤ 256 by omega)]
    rfl)
  have hps : p.size ≤ 200 := by omega
  clear hp hpk hkI hk hk2
  refine (lineOf_yes ⟨#[124, 61]⟩ p F1.out _ (HL.out.below HB.out)).mono ?_
  rintro e w2 ⟨l1, rfl, h1, _, hb⟩
  replace HB := Lib.hid (hop HB.out (Nat.le_refl _) hb)
  have P1 := Lib.hid h1
  clear hb h1
  go_wp2_with fail
  refine (lineOf_yes ⟨#[124, 61]⟩ ⟨#[]⟩ (by decide +kernel) _ (HL.out.below HB.out)).mono ?_
  rintro e w3 ⟨l2, rfl, h1, _, hb⟩
  replace HB := Lib.hid (hop HB.out (Nat.le_refl _) hb)
  replace P1 := Lib.hid (P1.out.below hb)
  have P2 := Lib.hid h1
  clear hb h1
  have v1 : ¬ 9223372036854775807 < a.size + p.size := by omega
  have v2 : ¬ 9223372036854775807 < a.size + p.size + c.size := by omega
  have TA := Lib.hid (fun u h hm => lineTest_any ⟨#[124, 61]⟩ p l1 (a ++ p ++ c) u h in_l0 (by simp only [ByteArray.size_append]; omega) hm)
  have TB := Lib.hid (fun u h hm => lineTest_any ⟨#[124, 61]⟩ ⟨#[]⟩ l2 a u h in_l0 (by omega) hm)
  have TC := Lib.hid (fun u h hm => lineTest_any ⟨#[124, 61]⟩ p l1 a u h in_l0 (by omega) hm)
  have TD := Lib.hid (fun u h hm => lineTest_any ⟨#[124, 61]⟩ p l1 c u h in_l0 (by omega) hm)
  rw [lineM_in, has_in] at TA
  rw [lineM_in, has_none] at TB
  rw [lineM_in] at TC TD
  obtain ⟨z, hz⟩ : ∃ z, hasT a p = z := ⟨_, rfl⟩
  rw [hz] at TC
  have HZ := Lib.hid hz
  have HD := Lib.hid (fun (h : c.size < p.size) => has_long h)
  clear hz
  go_wp2_with fail
  refine (TA.out _ P1.out (HM.out.below HB.out)).mono ?_
  rintro e u1 ⟨rfl, hb⟩
  replace HB := Lib.hid (hop HB.out (Nat.le_refl _) hb)
  replace P1 := Lib.hid (P1.out.below hb)
  replace P2 := Lib.hid (P2.out.below hb)
  clear hb TA
  go_wp2_with fail
  refine (TB.out _ P2.out (HM.out.below HB.out)).mono ?_
  rintro e u2 ⟨rfl, hb⟩
  replace HB := Lib.hid (hop HB.out (Nat.le_refl _) hb)
  replace P1 := Lib.hid (P1.out.below hb)
  clear hb TB P2
  go_wp2_with fail
  refine (TC.out _ P1.out (HM.out.below HB.out)).mono ?_
  rintro e u3 ⟨rfl, hb⟩
  replace HB := Lib.hid (hop HB.out (Nat.le_refl _) hb)
  replace P1 := Lib.hid (P1.out.below hb)
  clear hb TC
  have hpos : z = true ∨ (z = false ∧ 0 < p.size) := by
    cases z with
    | true => exact .inl rfl
    | false =>
      refine .inr ⟨rfl, Nat.pos_of_ne_zero (fun h => ?_)⟩
      have e : p = ⟨#[]⟩ := text_ext1 (List.eq_nil_of_length_eq_zero (by rw [size_toList]; exact h))
      have h2 := HZ.out
      rw [e, has_none] at h2
      cases h2
  clear HZ
  rcases hpos with rfl | ⟨rfl, h0⟩
  all_goals
    (try have h0I : (0 : Int) < (p.size : Int) := by omega)
    by_cases hle : p.size ≤ c.size
    · have hleI : (p.size : Int) ≤ (c.size : Int) := by omega
      go_wp2
      go_ret
      exact ⟨rfl, HB.out⟩
    · have hleI : ¬ (p.size : Int) ≤ (c.size : Int) := by omega
      rw [HD.out (by omega)] at TD
      go_wp2_with fail
      refine (TD.out _ P1.out (HM.out.below HB.out)).mono ?_
      rintro e u4 ⟨rfl, hb⟩
      replace HB := Lib.hid (hop HB.out (Nat.le_refl _) hb)
      clear hb
      go_wp2
      go_ret
      exact ⟨rfl, HB.out⟩
end Go.Proofs.YtbkpoimaienhpaaGreatDoor
