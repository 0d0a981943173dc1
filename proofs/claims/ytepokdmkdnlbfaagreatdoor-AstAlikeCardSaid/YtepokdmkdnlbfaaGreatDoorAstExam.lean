-- shaken
import Derived.Test.YtepokdmkdnlbfaaGreatDoorAstQuery
import Derived.Test.YtepokdmkdnlbfaaGreatDoorAstSame
namespace Go.Proofs.YtepokdmkdnlbfaaGreatDoor
open Go.RowKit
set_option linter.unusedVariables false
set_option linter.unusedSimpArgs false
theorem row_lit8 {α : Type} {V : α → List Value} {s : Nat} (hV : ∀ a, (V a).length = s) (w : World) (ty : TypeId) (l : List α) (g : Nat) (hg : g = w.heap.size) : RowR V s (w.alloc (.cells (rowV V l).toArray ty)) (some ⟨g, 0, none⟩) l.length l := by
  subst hg
  refine ⟨rfl, fun _ => ⟨_, 0, rfl, by simp, fun j i a hj hi => ?_⟩⟩
  rw [show 0 + j * s + i = j * s + i by omega, (Blk.new w ty _).cell, List.getElem?_toArray, rowV_at hV l j i a hj hi]
def exM8 : List MatB := [⟨⟨#[97]⟩, ⟨#[61, 126]⟩, ⟨#[120, 124, 121]⟩⟩]
def exS8 : List StgB := [⟨1, ⟨#[]⟩, ⟨#[124, 61]⟩, ⟨#[101]⟩, 0, 0⟩, ⟨2, ⟨#[]⟩, ⟨#[]⟩, ⟨#[]⟩, 0, 0⟩, ⟨3, ⟨#[108]⟩, ⟨#[33, 61]⟩, ⟨#[]⟩, 0, 0⟩, ⟨4, ⟨#[100]⟩, ⟨#[62, 61]⟩, ⟨#[]⟩, 60000000000, 1⟩]
theorem ex8_right : rightQ exM8 exS8 = true := by decide +kernel
theorem ex8_put : putQ exM8 exS8 = ⟨#[123, 97, 61, 126, 34, 120, 124, 121, 34, 125, 32, 124, 61, 32, 34, 101, 34, 32, 124, 32, 108, 111, 103, 102, 109, 116, 32, 124, 32, 108, 33, 61, 34, 34, 32, 124, 32, 100, 32, 62, 61, 32, 49, 109]⟩ := by decide +kernel
theorem ex8_lit : litT 2048 2 = ⟨#[50, 75, 66]⟩ := by decide +kernel
theorem ex8_none : rightQ [] [] = false := by decide +kernel
theorem ex8_bad : rightA ⟨#[97]⟩ ⟨#[61, 126]⟩ ⟨#[40]⟩ = false := by decide +kernel
theorem ex8_log : rightS ⟨3, ⟨#[108, 111, 103, 102, 109, 116]⟩, ⟨#[61]⟩, ⟨#[97]⟩, 0, 0⟩ = false := by decide +kernel
theorem ex8_putM : putA ⟨#[97]⟩ ⟨#[61, 126]⟩ ⟨#[120, 124, 121]⟩ = ⟨#[97, 61, 126, 34, 120, 124, 121, 34]⟩ := by decide +kernel
theorem ex8_putG : putG ⟨2, ⟨#[]⟩, ⟨#[]⟩, ⟨#[]⟩, 0, 0⟩ = ⟨#[124, 32, 108, 111, 103, 102, 109, 116]⟩ := by decide +kernel
theorem ex8_few : ∀ x, x ∈ exM8 → FewM x := by
  intro x hx
  simp only [exM8, List.mem_singleton] at hx
  subst hx
  exact ⟨by unfold Few; decide, by unfold Few; decide, by unfold Few; decide⟩
theorem ex8_fewG : ∀ s, s ∈ exS8 → FewG s := by
  intro x hx
  simp only [exS8, List.mem_cons, List.not_mem_nil, or_false] at hx
  rcases hx with rfl | rfl | rfl | rfl <;> exact ⟨by unfold Few; decide, by unfold Few; decide, by unfold Few; decide, by unfold Num64; decide⟩
theorem ex8_num : ∀ s, s ∈ exS8 → Num64 s.num := fun s h => (ex8_fewG s h).2.2.2
set_option maxRecDepth 100000 in
set_option maxHeartbeats 3200000 in
theorem examples8_any (W : World) (hl : LibIs W) :
    Calls Tryz.prog 6 #[] W fun e w' => e = .returned (.bool true) ∧ Below W.heap.size W w' := by
  have HL := Lib.hid hl
  clear hl
  have HB_ := Lib.hid ((((Below.refl W.heap.size W).alloc (Nat.le_refl _) (.cells #[.string ⟨#[97]⟩, .string ⟨#[61, 126]⟩, .string ⟨#[120, 124, 121]⟩] 43)).alloc (by simp) (.cells #[.int .i64 1, .string ⟨#[]⟩, .string ⟨#[124, 61]⟩, .string ⟨#[101]⟩, .int .i64 0, .int .i64 0, .int .i64 2, .string ⟨#[]⟩, .string ⟨#[]⟩, .string ⟨#[]⟩, .int .i64 0, .int .i64 0, .int .i64 3, .string ⟨#[108]⟩, .string ⟨#[33, 61]⟩, .string ⟨#[]⟩, .int .i64 0, .int .i64 0, .int .i64 4, .string ⟨#[100]⟩, .string ⟨#[62, 61]⟩, .string ⟨#[]⟩, .int .i64 60000000000, .int .i64 1] 27)).alloc (by simp; omega) (.cells #[.slice (some ⟨W.heap.size, 0, none⟩) 1 1, .slice (some ⟨W.heap.size + 1, 0, none⟩) 4 4] 34))
  have K1 := Lib.hid (((Blk.new W 43 #[.string ⟨#[97]⟩, .string ⟨#[61, 126]⟩, .string ⟨#[120, 124, 121]⟩]).alloc (.cells #[.int .i64 1, .string ⟨#[]⟩, .string ⟨#[124, 61]⟩, .string ⟨#[101]⟩, .int .i64 0, .int .i64 0, .int .i64 2, .string ⟨#[]⟩, .string ⟨#[]⟩, .string ⟨#[]⟩, .int .i64 0, .int .i64 0, .int .i64 3, .string ⟨#[108]⟩, .string ⟨#[33, 61]⟩, .string ⟨#[]⟩, .int .i64 0, .int .i64 0, .int .i64 4, .string ⟨#[100]⟩, .string ⟨#[62, 61]⟩, .string ⟨#[]⟩, .int .i64 60000000000, .int .i64 1] 27)).alloc (.cells #[.slice (some ⟨W.heap.size, 0, none⟩) 1 1, .slice (some ⟨W.heap.size + 1, 0, none⟩) 4 4] 34))
  have K2 := Lib.hid (show Blk ((W.alloc (.cells #[.string ⟨#[97]⟩, .string ⟨#[61, 126]⟩, .string ⟨#[120, 124, 121]⟩] 43)).alloc (.cells #[.int .i64 1, .string ⟨#[]⟩, .string ⟨#[124, 61]⟩, .string ⟨#[101]⟩, .int .i64 0, .int .i64 0, .int .i64 2, .string ⟨#[]⟩, .string ⟨#[]⟩, .string ⟨#[]⟩, .int .i64 0, .int .i64 0, .int .i64 3, .string ⟨#[108]⟩, .string ⟨#[33, 61]⟩, .string ⟨#[]⟩, .int .i64 0, .int .i64 0, .int .i64 4, .string ⟨#[100]⟩, .string ⟨#[62, 61]⟩, .string ⟨#[]⟩, .int .i64 60000000000, .int .i64 1] 27)) (W.heap.size + 1) 27 #[.int .i64 1, .string ⟨#[]⟩, .string ⟨#[124, 61]⟩, .string ⟨#[101]⟩, .int .i64 0, .int .i64 0, .int .i64 2, .string ⟨#[]⟩, .string ⟨#[]⟩, .string ⟨#[]⟩, .int .i64 0, .int .i64 0, .int .i64 3, .string ⟨#[108]⟩, .string ⟨#[33, 61]⟩, .string ⟨#[]⟩, .int .i64 0, .int .i64 0, .int .i64 4, .string ⟨#[100]⟩, .string ⟨#[62, 61]⟩, .string ⟨#[]⟩, .int .i64 60000000000, .int .i64 1] from by
    have h := Blk.new (W.alloc (.cells #[.string ⟨#[97]⟩, .string ⟨#[61, 126]⟩, .string ⟨#[120, 124, 121]⟩] 43)) 27 #[.int .i64 1, .string ⟨#[]⟩, .string ⟨#[124, 61]⟩, .string ⟨#[101]⟩, .int .i64 0, .int .i64 0, .int .i64 2, .string ⟨#[]⟩, .string ⟨#[]⟩, .string ⟨#[]⟩, .int .i64 0, .int .i64 0, .int .i64 3, .string ⟨#[108]⟩, .string ⟨#[33, 61]⟩, .string ⟨#[]⟩, .int .i64 0, .int .i64 0, .int .i64 4, .string ⟨#[100]⟩, .string ⟨#[62, 61]⟩, .string ⟨#[]⟩, .int .i64 60000000000, .int .i64 1]
    rwa [show (W.alloc (.cells #[.string ⟨#[97]⟩, .string ⟨#[61, 126]⟩, .string ⟨#[120, 124, 121]⟩] 43)).heap.size = W.heap.size + 1 by simp] at h)
  have K2 := Lib.hid (K2.out.alloc (.cells #[.slice (some ⟨W.heap.size, 0, none⟩) 1 1, .slice (some ⟨W.heap.size + 1, 0, none⟩) 4 4] 34))
  have K3 := Lib.hid (show Blk (((W.alloc (.cells #[.string ⟨#[97]⟩, .string ⟨#[61, 126]⟩, .string ⟨#[120, 124, 121]⟩] 43)).alloc (.cells #[.int .i64 1, .string ⟨#[]⟩, .string ⟨#[124, 61]⟩, .string ⟨#[101]⟩, .int .i64 0, .int .i64 0, .int .i64 2, .string ⟨#[]⟩, .string ⟨#[]⟩, .string ⟨#[]⟩, .int .i64 0, .int .i64 0, .int .i64 3, .string ⟨#[108]⟩, .string ⟨#[33, 61]⟩, .string ⟨#[]⟩, .int .i64 0, .int .i64 0, .int .i64 4, .string ⟨#[100]⟩, .string ⟨#[62, 61]⟩, .string ⟨#[]⟩, .int .i64 60000000000, .int .i64 1] 27)).alloc (.cells #[.slice (some ⟨W.heap.size, 0, none⟩) 1 1, .slice (some ⟨W.heap.size + 1, 0, none⟩) 4 4] 34)) (W.heap.size + 2) 34 #[.slice (some ⟨W.heap.size, 0, none⟩) 1 1, .slice (some ⟨W.heap.size + 1, 0, none⟩) 4 4] from by
    have h := Blk.new ((W.alloc (.cells #[.string ⟨#[97]⟩, .string ⟨#[61, 126]⟩, .string ⟨#[120, 124, 121]⟩] 43)).alloc (.cells #[.int .i64 1, .string ⟨#[]⟩, .string ⟨#[124, 61]⟩, .string ⟨#[101]⟩, .int .i64 0, .int .i64 0, .int .i64 2, .string ⟨#[]⟩, .string ⟨#[]⟩, .string ⟨#[]⟩, .int .i64 0, .int .i64 0, .int .i64 3, .string ⟨#[108]⟩, .string ⟨#[33, 61]⟩, .string ⟨#[]⟩, .int .i64 0, .int .i64 0, .int .i64 4, .string ⟨#[100]⟩, .string ⟨#[62, 61]⟩, .string ⟨#[]⟩, .int .i64 60000000000, .int .i64 1] 27)) 34 #[.slice (some ⟨W.heap.size, 0, none⟩) 1 1, .slice (some ⟨W.heap.size + 1, 0, none⟩) 4 4]
    rwa [show ((W.alloc (.cells #[.string ⟨#[97]⟩, .string ⟨#[61, 126]⟩, .string ⟨#[120, 124, 121]⟩] 43)).alloc (.cells #[.int .i64 1, .string ⟨#[]⟩, .string ⟨#[124, 61]⟩, .string ⟨#[101]⟩, .int .i64 0, .int .i64 0, .int .i64 2, .string ⟨#[]⟩, .string ⟨#[]⟩, .string ⟨#[]⟩, .int .i64 0, .int .i64 0, .int .i64 3, .string ⟨#[108]⟩, .string ⟨#[33, 61]⟩, .string ⟨#[]⟩, .int .i64 0, .int .i64 0, .int .i64 4, .string ⟨#[100]⟩, .string ⟨#[62, 61]⟩, .string ⟨#[]⟩, .int .i64 60000000000, .int .i64 1] 27)).heap.size = W.heap.size + 2 by simp] at h)
  have R1 := Lib.hid (show RowR matV 3 (((W.alloc (.cells #[.string ⟨#[97]⟩, .string ⟨#[61, 126]⟩, .string ⟨#[120, 124, 121]⟩] 43)).alloc (.cells #[.int .i64 1, .string ⟨#[]⟩, .string ⟨#[124, 61]⟩, .string ⟨#[101]⟩, .int .i64 0, .int .i64 0, .int .i64 2, .string ⟨#[]⟩, .string ⟨#[]⟩, .string ⟨#[]⟩, .int .i64 0, .int .i64 0, .int .i64 3, .string ⟨#[108]⟩, .string ⟨#[33, 61]⟩, .string ⟨#[]⟩, .int .i64 0, .int .i64 0, .int .i64 4, .string ⟨#[100]⟩, .string ⟨#[62, 61]⟩, .string ⟨#[]⟩, .int .i64 60000000000, .int .i64 1] 27)).alloc (.cells #[.slice (some ⟨W.heap.size, 0, none⟩) 1 1, .slice (some ⟨W.heap.size + 1, 0, none⟩) 4 4] 34)) (some ⟨W.heap.size, 0, none⟩) 1 exM8 from ((row_lit8 matV_len W 43 exM8 _ rfl).below ((Below.refl _ _).alloc (Nat.le_refl _) (.cells #[.int .i64 1, .string ⟨#[]⟩, .string ⟨#[124, 61]⟩, .string ⟨#[101]⟩, .int .i64 0, .int .i64 0, .int .i64 2, .string ⟨#[]⟩, .string ⟨#[]⟩, .string ⟨#[]⟩, .int .i64 0, .int .i64 0, .int .i64 3, .string ⟨#[108]⟩, .string ⟨#[33, 61]⟩, .string ⟨#[]⟩, .int .i64 0, .int .i64 0, .int .i64 4, .string ⟨#[100]⟩, .string ⟨#[62, 61]⟩, .string ⟨#[]⟩, .int .i64 60000000000, .int .i64 1] 27))).below ((Below.refl _ _).alloc (Nat.le_refl _) (.cells #[.slice (some ⟨W.heap.size, 0, none⟩) 1 1, .slice (some ⟨W.heap.size + 1, 0, none⟩) 4 4] 34)))
  have R2 := Lib.hid (show RowR stgV 6 (((W.alloc (.cells #[.string ⟨#[97]⟩, .string ⟨#[61, 126]⟩, .string ⟨#[120, 124, 121]⟩] 43)).alloc (.cells #[.int .i64 1, .string ⟨#[]⟩, .string ⟨#[124, 61]⟩, .string ⟨#[101]⟩, .int .i64 0, .int .i64 0, .int .i64 2, .string ⟨#[]⟩, .string ⟨#[]⟩, .string ⟨#[]⟩, .int .i64 0, .int .i64 0, .int .i64 3, .string ⟨#[108]⟩, .string ⟨#[33, 61]⟩, .string ⟨#[]⟩, .int .i64 0, .int .i64 0, .int .i64 4, .string ⟨#[100]⟩, .string ⟨#[62, 61]⟩, .string ⟨#[]⟩, .int .i64 60000000000, .int .i64 1] 27)).alloc (.cells #[.slice (some ⟨W.heap.size, 0, none⟩) 1 1, .slice (some ⟨W.heap.size + 1, 0, none⟩) 4 4] 34)) (some ⟨W.heap.size + 1, 0, none⟩) 4 exS8 from (row_lit8 stgV_len (W.alloc (.cells #[.string ⟨#[97]⟩, .string ⟨#[61, 126]⟩, .string ⟨#[120, 124, 121]⟩] 43)) 27 exS8 (W.heap.size + 1) (by simp)).below ((Below.refl _ _).alloc (Nat.le_refl _) (.cells #[.slice (some ⟨W.heap.size, 0, none⟩) 1 1, .slice (some ⟨W.heap.size + 1, 0, none⟩) 4 4] 34)))
  obtain ⟨wA, hwA⟩ : ∃ w, (((W.alloc (.cells #[.string ⟨#[97]⟩, .string ⟨#[61, 126]⟩, .string ⟨#[120, 124, 121]⟩] 43)).alloc (.cells #[.int .i64 1, .string ⟨#[]⟩, .string ⟨#[124, 61]⟩, .string ⟨#[101]⟩, .int .i64 0, .int .i64 0, .int .i64 2, .string ⟨#[]⟩, .string ⟨#[]⟩, .string ⟨#[]⟩, .int .i64 0, .int .i64 0, .int .i64 3, .string ⟨#[108]⟩, .string ⟨#[33, 61]⟩, .string ⟨#[]⟩, .int .i64 0, .int .i64 0, .int .i64 4, .string ⟨#[100]⟩, .string ⟨#[62, 61]⟩, .string ⟨#[]⟩, .int .i64 60000000000, .int .i64 1] 27)).alloc (.cells #[.slice (some ⟨W.heap.size, 0, none⟩) 1 1, .slice (some ⟨W.heap.size + 1, 0, none⟩) 4 4] 34)) = w := ⟨_, rfl⟩
  have HWA := Lib.hid hwA
  rw [hwA] at HB_ K1 K2 K3 R1 R2
  clear hwA
  have L1 := Lib.hid (fun w (h : LibIs w) => literal_any 2048 2 (by decide) (by decide) w h)
  have L2 := Lib.hid (fun w (h : LibIs w) => literal_any 1 3 (by decide) (by decide) w h)
  rw [ex8_lit, show litOk 2048 2 = true by decide] at L1
  rw [show litOk 1 3 = false by decide] at L2
  go_enter Tryz.func6, Tryz.ntmps6
  go_wp2_with fail
  rw [HWA.out]
  refine (L1.out wA (HL.out.below HB_.out)).mono ?_
  rintro e w1 ⟨rfl, hb_⟩
  have k_ := K1.out.below hb_ K1.out.lt
  clear K1
  have K1 := Lib.hid k_
  clear k_
  have k_ := K2.out.below hb_ K2.out.lt
  clear K2
  have K2 := Lib.hid k_
  clear k_
  have k_ := K3.out.below hb_ K3.out.lt
  clear K3
  have K3 := Lib.hid k_
  clear k_
  have k_ := RowR.below R1.out hb_
  clear R1
  have R1 := Lib.hid k_
  clear k_
  have k_ := RowR.below R2.out hb_
  clear R2
  have R2 := Lib.hid k_
  clear k_
  have K3_0 := K3.out.cell 0
  have K3_1 := K3.out.cell 1
  have hbb_ := hop HB_.out (Nat.le_refl _) hb_
  clear HB_
  have HB_ := Lib.hid hbb_
  clear hbb_ hb_
  go_wp2_with fail
  refine (L2.out w1 (HL.out.below HB_.out)).mono ?_
  rintro e w2 ⟨rfl, hb_⟩
  have k_ := K1.out.below hb_ K1.out.lt
  clear K1
  have K1 := Lib.hid k_
  clear k_
  have k_ := K2.out.below hb_ K2.out.lt
  clear K2
  have K2 := Lib.hid k_
  clear k_
  have k_ := K3.out.below hb_ K3.out.lt
  clear K3
  have K3 := Lib.hid k_
  clear k_
  have k_ := RowR.below R1.out hb_
  clear R1
  have R1 := Lib.hid k_
  clear k_
  have k_ := RowR.below R2.out hb_
  clear R2
  have R2 := Lib.hid k_
  clear k_
  (try clear K3_0)
  have K3_0 := K3.out.cell 0
  (try clear K3_1)
  have K3_1 := K3.out.cell 1
  have hbb_ := hop HB_.out (Nat.le_refl _) hb_
  clear HB_
  have HB_ := Lib.hid hbb_
  clear hbb_ hb_
  have cq := astRight_any (some ⟨W.heap.size, 0, none⟩) 1 1 (some ⟨W.heap.size + 1, 0, none⟩) 4 4 exM8 exS8 w2 R1.out R2.out ex8_num (HL.out.below HB_.out)
  rw [ex8_right] at cq
  have CQ := Lib.hid cq
  clear cq
  go_wp2_with fail
  refine (CQ.out).mono ?_
  rintro e w3 ⟨rfl, hb_⟩
  have k_ := K1.out.below hb_ K1.out.lt
  clear K1
  have K1 := Lib.hid k_
  clear k_
  have k_ := K2.out.below hb_ K2.out.lt
  clear K2
  have K2 := Lib.hid k_
  clear k_
  have k_ := K3.out.below hb_ K3.out.lt
  clear K3
  have K3 := Lib.hid k_
  clear k_
  have k_ := RowR.below R1.out hb_
  clear R1
  have R1 := Lib.hid k_
  clear k_
  have k_ := RowR.below R2.out hb_
  clear R2
  have R2 := Lib.hid k_
  clear k_
  (try clear K3_0)
  have K3_0 := K3.out.cell 0
  (try clear K3_1)
  have K3_1 := K3.out.cell 1
  have hbb_ := hop HB_.out (Nat.le_refl _) hb_
  clear HB_
  have HB_ := Lib.hid hbb_
  clear hbb_ hb_
  clear CQ
  have cq := astPut_any (some ⟨W.heap.size, 0, none⟩) 1 1 (some ⟨W.heap.size + 1, 0, none⟩) 4 4 exM8 exS8 (by decide) (by decide) w3 R1.out R2.out ex8_few ex8_fewG (HL.out.below HB_.out)
  rw [ex8_put] at cq
  have CP := Lib.hid cq
  clear cq
  go_wp2_with fail
  refine (CP.out).mono ?_
  rintro e w4 ⟨rfl, hb_⟩
  have k_ := K1.out.below hb_ K1.out.lt
  clear K1
  have K1 := Lib.hid k_
  clear k_
  have k_ := K2.out.below hb_ K2.out.lt
  clear K2
  have K2 := Lib.hid k_
  clear k_
  have k_ := K3.out.below hb_ K3.out.lt
  clear K3
  have K3 := Lib.hid k_
  clear k_
  have k_ := RowR.below R1.out hb_
  clear R1
  have R1 := Lib.hid k_
  clear k_
  have k_ := RowR.below R2.out hb_
  clear R2
  have R2 := Lib.hid k_
  clear k_
  (try clear K3_0)
  have K3_0 := K3.out.cell 0
  (try clear K3_1)
  have K3_1 := K3.out.cell 1
  have hbb_ := hop HB_.out (Nat.le_refl _) hb_
  clear HB_
  have HB_ := Lib.hid hbb_
  clear hbb_ hb_
  clear CP
  have cq := astRight_any none 0 0 none 0 0 [] [] w4 (RowR.none _) (RowR.none _) (fun _ h => by cases h) (HL.out.below HB_.out)
  rw [ex8_none] at cq
  have CN := Lib.hid cq
  clear cq
  go_wp2_with fail
  refine (CN.out).mono ?_
  rintro e w5 ⟨rfl, hb_⟩
  have k_ := K1.out.below hb_ K1.out.lt
  clear K1
  have K1 := Lib.hid k_
  clear k_
  have k_ := K2.out.below hb_ K2.out.lt
  clear K2
  have K2 := Lib.hid k_
  clear k_
  have k_ := K3.out.below hb_ K3.out.lt
  clear K3
  have K3 := Lib.hid k_
  clear k_
  have k_ := RowR.below R1.out hb_
  clear R1
  have R1 := Lib.hid k_
  clear k_
  have k_ := RowR.below R2.out hb_
  clear R2
  have R2 := Lib.hid k_
  clear k_
  (try clear K3_0)
  have K3_0 := K3.out.cell 0
  (try clear K3_1)
  have K3_1 := K3.out.cell 1
  have hbb_ := hop HB_.out (Nat.le_refl _) hb_
  clear HB_
  have HB_ := Lib.hid hbb_
  clear hbb_ hb_
  clear CN
  have cq := rightMatcher_any ⟨#[97]⟩ ⟨#[61, 126]⟩ ⟨#[40]⟩ w5 (HL.out.below HB_.out)
  rw [ex8_bad] at cq
  have CB := Lib.hid cq
  clear cq
  go_wp2_with fail
  refine (CB.out).mono ?_
  rintro e w6 ⟨rfl, hb_⟩
  have k_ := K1.out.below hb_ K1.out.lt
  clear K1
  have K1 := Lib.hid k_
  clear k_
  have k_ := K2.out.below hb_ K2.out.lt
  clear K2
  have K2 := Lib.hid k_
  clear k_
  have k_ := K3.out.below hb_ K3.out.lt
  clear K3
  have K3 := Lib.hid k_
  clear k_
  have k_ := RowR.below R1.out hb_
  clear R1
  have R1 := Lib.hid k_
  clear k_
  have k_ := RowR.below R2.out hb_
  clear R2
  have R2 := Lib.hid k_
  clear k_
  (try clear K3_0)
  have K3_0 := K3.out.cell 0
  (try clear K3_1)
  have K3_1 := K3.out.cell 1
  have hbb_ := hop HB_.out (Nat.le_refl _) hb_
  clear HB_
  have HB_ := Lib.hid hbb_
  clear hbb_ hb_
  clear CB
  have cq := rightStage_any 3 ⟨#[108, 111, 103, 102, 109, 116]⟩ ⟨#[61]⟩ ⟨#[97]⟩ 0 0 (by unfold Num64; decide) w6 (HL.out.below HB_.out)
  rw [ex8_log] at cq
  have CG := Lib.hid cq
  clear cq
  go_wp2_with fail
  refine (CG.out).mono ?_
  rintro e w7 ⟨rfl, hb_⟩
  have k_ := K1.out.below hb_ K1.out.lt
  clear K1
  have K1 := Lib.hid k_
  clear k_
  have k_ := K2.out.below hb_ K2.out.lt
  clear K2
  have K2 := Lib.hid k_
  clear k_
  have k_ := K3.out.below hb_ K3.out.lt
  clear K3
  have K3 := Lib.hid k_
  clear k_
  have k_ := RowR.below R1.out hb_
  clear R1
  have R1 := Lib.hid k_
  clear k_
  have k_ := RowR.below R2.out hb_
  clear R2
  have R2 := Lib.hid k_
  clear k_
  (try clear K3_0)
  have K3_0 := K3.out.cell 0
  (try clear K3_1)
  have K3_1 := K3.out.cell 1
  have hbb_ := hop HB_.out (Nat.le_refl _) hb_
  clear HB_
  have HB_ := Lib.hid hbb_
  clear hbb_ hb_
  clear CG
  go_wp2_with fail
  refine (astSame_any (some ⟨W.heap.size, 0, none⟩) 1 1 (some ⟨W.heap.size + 1, 0, none⟩) 4 4 (some ⟨W.heap.size, 0, none⟩) 1 1 (some ⟨W.heap.size + 1, 0, none⟩) 4 4 exM8 exM8 exS8 exS8 w7 (by decide) (by decide) R1.out R2.out R1.out R2.out).mono ?_
  rintro e w8 ⟨bS, rfl, hbS, hb_⟩
  have hS := hbS.2 ⟨rfl, rfl⟩
  subst hS
  clear hbS
  have k_ := K1.out.below hb_ K1.out.lt
  clear K1
  have K1 := Lib.hid k_
  clear k_
  have k_ := K2.out.below hb_ K2.out.lt
  clear K2
  have K2 := Lib.hid k_
  clear k_
  have k_ := K3.out.below hb_ K3.out.lt
  clear K3
  have K3 := Lib.hid k_
  clear k_
  have k_ := RowR.below R1.out hb_
  clear R1
  have R1 := Lib.hid k_
  clear k_
  have k_ := RowR.below R2.out hb_
  clear R2
  have R2 := Lib.hid k_
  clear k_
  (try clear K3_0)
  have K3_0 := K3.out.cell 0
  (try clear K3_1)
  have K3_1 := K3.out.cell 1
  (try clear K1_0)
  have K1_0 := K1.out.cell 0
  (try clear K1_1)
  have K1_1 := K1.out.cell 1
  (try clear K1_2)
  have K1_2 := K1.out.cell 2
  have hbb_ := hop HB_.out (Nat.le_refl _) hb_
  clear HB_
  have HB_ := Lib.hid hbb_
  clear hbb_ hb_
  have cq := putMatcher_any ⟨#[97]⟩ ⟨#[61, 126]⟩ ⟨#[120, 124, 121]⟩ (ex8_few _ (by simp [exM8])) w8
  rw [ex8_putM] at cq
  have CM := Lib.hid cq
  clear cq
  go_wp2_with fail
  refine (CM.out).mono ?_
  rintro e w9 ⟨rfl, hb_⟩
  have k_ := K1.out.below hb_ K1.out.lt
  clear K1
  have K1 := Lib.hid k_
  clear k_
  have k_ := K2.out.below hb_ K2.out.lt
  clear K2
  have K2 := Lib.hid k_
  clear k_
  have k_ := K3.out.below hb_ K3.out.lt
  clear K3
  have K3 := Lib.hid k_
  clear k_
  have k_ := RowR.below R1.out hb_
  clear R1
  have R1 := Lib.hid k_
  clear k_
  have k_ := RowR.below R2.out hb_
  clear R2
  have R2 := Lib.hid k_
  clear k_
  (try clear K3_0)
  have K3_0 := K3.out.cell 0
  (try clear K3_1)
  have K3_1 := K3.out.cell 1
  (try clear K1_0)
  have K1_0 := K1.out.cell 0
  (try clear K1_1)
  have K1_1 := K1.out.cell 1
  (try clear K1_2)
  have K1_2 := K1.out.cell 2
  (try clear K2_6)
  have K2_6 := K2.out.cell 6
  (try clear K2_7)
  have K2_7 := K2.out.cell 7
  (try clear K2_8)
  have K2_8 := K2.out.cell 8
  (try clear K2_9)
  have K2_9 := K2.out.cell 9
  (try clear K2_10)
  have K2_10 := K2.out.cell 10
  (try clear K2_11)
  have K2_11 := K2.out.cell 11
  have hbb_ := hop HB_.out (Nat.le_refl _) hb_
  clear HB_
  have HB_ := Lib.hid hbb_
  clear hbb_ hb_
  clear CM
  have cq := putStage_any 2 ⟨#[]⟩ ⟨#[]⟩ ⟨#[]⟩ 0 0 (ex8_fewG _ (by simp [exS8])) w9 (HL.out.below HB_.out)
  rw [ex8_putG] at cq
  have CT := Lib.hid cq
  clear cq
  go_wp2_with fail
  refine (CT.out).mono ?_
  rintro e w10 ⟨rfl, hb_⟩
  have k_ := K1.out.below hb_ K1.out.lt
  clear K1
  have K1 := Lib.hid k_
  clear k_
  have k_ := K2.out.below hb_ K2.out.lt
  clear K2
  have K2 := Lib.hid k_
  clear k_
  have k_ := K3.out.below hb_ K3.out.lt
  clear K3
  have K3 := Lib.hid k_
  clear k_
  have k_ := RowR.below R1.out hb_
  clear R1
  have R1 := Lib.hid k_
  clear k_
  have k_ := RowR.below R2.out hb_
  clear R2
  have R2 := Lib.hid k_
  clear k_
  (try clear K3_0)
  have K3_0 := K3.out.cell 0
  (try clear K3_1)
  have K3_1 := K3.out.cell 1
  (try clear K1_0)
  have K1_0 := K1.out.cell 0
  (try clear K1_1)
  have K1_1 := K1.out.cell 1
  (try clear K1_2)
  have K1_2 := K1.out.cell 2
  (try clear K2_6)
  have K2_6 := K2.out.cell 6
  (try clear K2_7)
  have K2_7 := K2.out.cell 7
  (try clear K2_8)
  have K2_8 := K2.out.cell 8
  (try clear K2_9)
  have K2_9 := K2.out.cell 9
  (try clear K2_10)
  have K2_10 := K2.out.cell 10
  (try clear K2_11)
  have K2_11 := K2.out.cell 11
  have hbb_ := hop HB_.out (Nat.le_refl _) hb_
  clear HB_
  have HB_ := Lib.hid hbb_
  clear hbb_ hb_
  go_wp2
  go_ret
  exact ⟨rfl, HB_.out⟩
end Go.Proofs.YtepokdmkdnlbfaaGreatDoor
