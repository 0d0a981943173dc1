/- The chapter's examples of durations and sizes are so. -/
import Derived.Test.YtehhmejpfglimaaDoorUnitTell
namespace Go.Proofs.YtehhmejpfglimaaDoor
open Go.RowKit
set_option linter.unusedVariables false

section
variable (W : World) (hl : LibIs W)
include hl
theorem dur_some (s : ByteArray) (hs : s.size ≤ 1000) (v : Int) (h : durZ s.data.toList = some v) : Calls Tryd.prog 12 #[.string s] W fun e w' => e = .returned (.tuple #[.int .i64 v, .bool true]) ∧ Below W.heap.size W w' := by
  have := duration_any s (by omega) W hl
  rw [h] at this
  exact this
theorem dur_none (s : ByteArray) (hs : s.size ≤ 1000) (h : durZ s.data.toList = none) : Calls Tryd.prog 12 #[.string s] W fun e w' => e = .returned (.tuple #[.int .i64 0, .bool false]) ∧ Below W.heap.size W w' := by
  have := duration_any s (by omega) W hl
  rw [h] at this
  exact this
theorem byt_some (s : ByteArray) (hs : s.size ≤ 1000) (v : Int) (h : sizZ s.data.toList = some v) : Calls Tryd.prog 14 #[.string s] W fun e w' => e = .returned (.tuple #[.int .i64 v, .bool true]) ∧ Below W.heap.size W w' := by
  have := bytes_any s (by omega) W hl
  rw [h] at this
  exact this
theorem byt_none (s : ByteArray) (hs : s.size ≤ 1000) (h : sizZ s.data.toList = none) : Calls Tryd.prog 14 #[.string s] W fun e w' => e = .returned (.tuple #[.int .i64 0, .bool false]) ∧ Below W.heap.size W w' := by
  have := bytes_any s (by omega) W hl
  rw [h] at this
  exact this
theorem spn_some (n : Int) (h0 : 0 ≤ n) (h1 : n ≤ 9223372036854775807) (s : ByteArray) (h : spanB n = s.data.toList) : Calls Tryd.prog 16 #[.int .i64 n] W fun e w' => e = .returned (.tuple #[.string s, .bool true]) ∧ Below W.heap.size W w' := by
  have := span_any n (by omega) h1 W hl
  rw [if_neg (by omega), decide_eq_true h0, h, show txt s.data.toList = s from text_ext1 (txt_list _)] at this
  exact this
theorem spn_none (n : Int) (h0 : -9223372036854775808 ≤ n) (h1 : n < 0) : Calls Tryd.prog 16 #[.int .i64 n] W fun e w' => e = .returned (.tuple #[.string ⟨#[]⟩, .bool false]) ∧ Below W.heap.size W w' := by
  have := span_any n h0 (by omega) W hl
  rw [if_pos h1, decide_eq_false (by omega)] at this
  exact this
theorem siz_some (n : Int) (h0 : 0 ≤ n) (h1 : n ≤ 9223372036854775807) (s : ByteArray) (h : sizeB n = s.data.toList) : Calls Tryd.prog 18 #[.int .i64 n] W fun e w' => e = .returned (.tuple #[.string s, .bool true]) ∧ Below W.heap.size W w' := by
  have := size_any n (by omega) h1 W hl
  rw [if_neg (by omega), decide_eq_true h0, h, show txt s.data.toList = s from text_ext1 (txt_list _)] at this
  exact this
theorem siz_none (n : Int) (h0 : -9223372036854775808 ≤ n) (h1 : n < 0) : Calls Tryd.prog 18 #[.int .i64 n] W fun e w' => e = .returned (.tuple #[.string ⟨#[]⟩, .bool false]) ∧ Below W.heap.size W w' := by
  have := size_any n h0 (by omega) W hl
  rw [if_pos h1, decide_eq_false (by omega)] at this
  exact this
end
set_option maxRecDepth 100000 in
set_option maxHeartbeats 1600000 in
theorem unitExamples_any (W : World) (hl : LibIs W) : Calls Tryd.prog 10 #[] W fun e w' => e = .returned (.bool true) ∧ Below W.heap.size W w' := by
  have h0 : W.heap.size ≤ W.heap.size := Nat.le_refl _
  have E0 := Lib.hid (fun w (h : LibIs w) => dur_some w h ⟨#[49, 104, 53, 109]⟩ (by decide) (3900000000000) (by decide +kernel))
  have E1 := Lib.hid (fun w (h : LibIs w) => dur_none w h ⟨#[53, 109, 49, 104]⟩ (by decide) (by decide +kernel))
  have E2 := Lib.hid (fun w (h : LibIs w) => dur_none w h ⟨#[49, 104, 49, 104]⟩ (by decide) (by decide +kernel))
  have E3 := Lib.hid (fun w (h : LibIs w) => dur_none w h ⟨#[]⟩ (by decide) (by decide +kernel))
  have E4 := Lib.hid (fun w (h : LibIs w) => byt_some w h ⟨#[51, 75, 66]⟩ (by decide) (3072) (by decide +kernel))
  have E5 := Lib.hid (fun w (h : LibIs w) => byt_none w h ⟨#[49, 75, 66, 49, 66]⟩ (by decide) (by decide +kernel))
  have E6 := Lib.hid (fun w (h : LibIs w) => spn_some w h 3661000000001 (by decide) (by decide) ⟨#[49, 104, 49, 109, 49, 115, 49, 110, 115]⟩ (by decide +kernel))
  have E7 := Lib.hid (fun w (h : LibIs w) => siz_some w h 1536 (by decide) (by decide) ⟨#[49, 53, 51, 54, 66]⟩ (by decide +kernel))
  have E8 := Lib.hid (fun w (h : LibIs w) => siz_some w h 2048 (by decide) (by decide) ⟨#[50, 75, 66]⟩ (by decide +kernel))
  have E9 := Lib.hid (fun w (h : LibIs w) => spn_none w h (-1) (by decide) (by decide))
  go_enter Tryd.func10, Tryd.ntmps10
  go_wp2_with fail
  refine (E0.out _ hl).mono ?_
  rintro e w0 ⟨rfl, hx⟩
  have hb : Below W.heap.size W w0 := hx
  clear hx
  go_wp2_with fail
  refine (E1.out _ (hl.below hb)).mono ?_
  rintro e w1 ⟨rfl, hx⟩
  replace hb := hop hb h0 hx
  clear hx
  go_wp2_with fail
  refine (E2.out _ (hl.below hb)).mono ?_
  rintro e w2 ⟨rfl, hx⟩
  replace hb := hop hb h0 hx
  clear hx
  go_wp2_with fail
  refine (E3.out _ (hl.below hb)).mono ?_
  rintro e w3 ⟨rfl, hx⟩
  replace hb := hop hb h0 hx
  clear hx
  go_wp2_with fail
  refine (E4.out _ (hl.below hb)).mono ?_
  rintro e w4 ⟨rfl, hx⟩
  replace hb := hop hb h0 hx
  clear hx
  go_wp2_with fail
  refine (E5.out _ (hl.below hb)).mono ?_
  rintro e w5 ⟨rfl, hx⟩
  replace hb := hop hb h0 hx
  clear hx
  go_wp2_with fail
  refine (E6.out _ (hl.below hb)).mono ?_
  rintro e w6 ⟨rfl, hx⟩
  replace hb := hop hb h0 hx
  clear hx
  go_wp2_with fail
  refine (E7.out _ (hl.below hb)).mono ?_
  rintro e w7 ⟨rfl, hx⟩
  replace hb := hop hb h0 hx
  clear hx
  go_wp2_with fail
  refine (E8.out _ (hl.below hb)).mono ?_
  rintro e w8 ⟨rfl, hx⟩
  replace hb := hop hb h0 hx
  clear hx
  go_wp2_with fail
  refine (E9.out _ (hl.below hb)).mono ?_
  rintro e w9 ⟨rfl, hx⟩
  replace hb := hop hb h0 hx
  clear hx
  go_wp2
  go_ret
  exact ⟨rfl, hb⟩
end Go.Proofs.YtehhmejpfglimaaDoor
