/- The walk of the law NumBack: what was told is read; two numbers are told alike just if they are the same. -/
import Derived.Test.YtnokpeobkaofoaaDoorNumExam
namespace Go.Proofs.YtnokpeobkaofoaaDoor
open Go.RowKit
set_option linter.unusedVariables false

theorem back_plain (v : Int) (h0 : -9223372036854775808 ≤ v) (h1 : v ≤ 9223372036854775807) : parseZ (itoaS v) = some v := (parseZ_iff _ _).2 ⟨⟨h0, h1⟩, rfl⟩
theorem back_plus (v : Int) : parseZ ((⟨#[43]⟩ : ByteArray) ++ itoaS v) = none := parseZ_none fun u _ _ h => by
  have h2 := congrArg (fun s : ByteArray => s.data.toList) h
  simp only [text_joined, itoaS_list] at h2
  have h3 := itoa_all u 43 (by rw [← h2]; exact List.mem_append_left _ (List.mem_singleton.2 rfl))
  revert h3
  decide
theorem back_space (v : Int) : parseZ (itoaS v ++ (⟨#[32]⟩ : ByteArray)) = none := parseZ_none fun u _ _ h => by
  have h2 := congrArg (fun s : ByteArray => s.data.toList) h
  simp only [text_joined, itoaS_list] at h2
  have h3 := itoa_all u 32 (by rw [← h2]; exact List.mem_append_right _ (List.mem_singleton.2 rfl))
  revert h3
  decide

set_option maxHeartbeats 1600000 in
theorem numBack_walk {W : World} (a b : Int) (same : Bool) (wa : (Lit.int .i64 a).wf = true) (wb : (Lit.int .i64 b).wf = true) (hl : LibIs W) :
    Calls Tryd.prog 5 #[.int .i64 a, .int .i64 b, .bool same] W fun e w' => e = .returned (.bool true) ∧ Below W.heap.size W w' := by
  have h0 : W.heap.size ≤ W.heap.size := Nat.le_refl _
  obtain ⟨a0, a1⟩ := bdi64 wa
  obtain ⟨b0, b1⟩ := bdi64 wb
  have HX := Lib.hid (numExamples_any W hl)
  have HA := Lib.hid (fun w h => text_any a a0 a1 w h)
  have HB := Lib.hid (fun w h => text_any b b0 b1 w h)
  have hsz := itoaS_size a a0 a1
  have e1 := back_plain a a0 a1
  have e2 := back_plus a
  have e3 := back_space a
  have hsame : ((itoaS a).toList == (itoaS b).toList) = (a == b) := by
    rw [text_eq, Bool.eq_iff_iff, decide_eq_true_eq, beq_iff_eq]
    exact ⟨fun h => itoaS_inj a0 a1 b0 b1 h, fun h => by rw [h]⟩
  have hself : ((itoaS a).toList == (itoaS a).toList) = true := by simp
  have P1 := fun w h => parse_any (itoaS a) (by omega) w h
  have P2 := fun w h => parse_any ((⟨#[43]⟩ : ByteArray) ++ itoaS a) (by rw [ByteArray.size_append]; show 1 + _ ≤ _; omega) w h
  have P3 := fun w h => parse_any (itoaS a ++ (⟨#[32]⟩ : ByteArray)) (by rw [ByteArray.size_append]; show _ + 1 ≤ _; omega) w h
  simp only [e1, e2, e3] at P1 P2 P3
  replace P1 := Lib.hid P1
  replace P2 := Lib.hid P2
  replace P3 := Lib.hid P3
  obtain ⟨t, ht⟩ : ∃ t, itoaS a = t := ⟨_, rfl⟩
  obtain ⟨u, hu⟩ : ∃ u, itoaS b = u := ⟨_, rfl⟩
  simp only [ht, hu] at HA HB hsz hsame hself P1 P2 P3
  have hab : (a == a) = true := by simp
  obtain ⟨c, hc⟩ : ∃ c, (a == b) = c := ⟨_, rfl⟩
  rw [hc] at hsame
  clear e1 e2 e3 ht hu wa wb
  cases same
  all_goals
    go_enter Tryd.func5, Tryd.ntmps5
    go_wp2_with fail
    refine HX.out.mono ?_
    rintro e w ⟨rfl, hb⟩
    go_wp2_with fail
    refine (HA.out _ (hl.below hb)).mono ?_
    rintro e w2 ⟨rfl, hx⟩
    replace hb := hop hb h0 hx
    clear hx
    go_wp2_with fail
    refine (P1.out _ (hl.below hb)).mono ?_
    rintro e w3 ⟨rfl, hx⟩
    replace hb := hop hb h0 hx
    clear hx
    go_wp2_with fail
    refine (HA.out _ (hl.below hb)).mono ?_
    rintro e w4 ⟨rfl, hx⟩
    replace hb := hop hb h0 hx
    clear hx
    go_wp2_with fail
    refine (P2.out _ (hl.below hb)).mono ?_
    rintro e w5 ⟨rfl, hx⟩
    replace hb := hop hb h0 hx
    clear hx
    go_wp2_with fail
    refine (HA.out _ (hl.below hb)).mono ?_
    rintro e w6 ⟨rfl, hx⟩
    replace hb := hop hb h0 hx
    clear hx
    go_wp2_with fail
    refine (P3.out _ (hl.below hb)).mono ?_
    rintro e w7 ⟨rfl, hx⟩
    replace hb := hop hb h0 hx
    clear hx
    go_wp2_with fail
    refine (HA.out _ (hl.below hb)).mono ?_
    rintro e w8 ⟨rfl, hx⟩
    replace hb := hop hb h0 hx
    clear hx
    go_wp2_with fail
    first | refine (HB.out _ (hl.below hb)).mono ?_ | refine (HA.out _ (hl.below hb)).mono ?_
    rintro e w9 ⟨rfl, hx⟩
    replace hb := hop hb h0 hx
    clear hx
    go_wp2
    go_ret
    exact ⟨by simp [hsame, hself, hc], hb⟩
end Go.Proofs.YtnokpeobkaofoaaDoor
