-- shaken
import Derived.Test.YtepokdmkdnlbfaaGreatDoorAstExam
namespace Go.Proofs.YtepokdmkdnlbfaaGreatDoor
open Go.RowKit
set_option linter.unusedVariables false
set_option linter.unusedSimpArgs false
theorem eqB_no {x s : ByteArray} (h : ¬ s = x) : eqB x s = false := by
  cases hq : eqB x s with
  | false => rfl
  | true => exact absurd ((eqB_iff x s).1 hq).symm h
theorem okB_a : okB ⟨#[97]⟩ = true := by decide +kernel
theorem fits_a (ops : List ByteArray) (s : ByteArray) : fitsB ops s ⟨#[97]⟩ = amongB s ops := by
  unfold fitsB
  rw [okB_a, show decide ((⟨#[97]⟩ : ByteArray).size ≤ 256) = true from by decide]
  cases amongB s ops <;> cases amongB s exprOps <;> rfl
theorem opsM (s : ByteArray) : rightA ⟨#[110]⟩ s ⟨#[97]⟩ = amongB s textOps := by
  unfold rightA
  rw [fits_a, show nameB ⟨#[110]⟩ = true from by decide +kernel]; rfl
theorem opsL (s : ByteArray) : rightS ⟨1, ⟨#[]⟩, s, ⟨#[97]⟩, 0, 0⟩ = amongB s lineOps := by
  unfold rightS
  simp only [if_true]
  rw [eqStg_self, fits_a]; rfl
theorem opsT (s : ByteArray) : rightS ⟨3, ⟨#[110]⟩, s, ⟨#[97]⟩, 0, 0⟩ = amongB s textOps := by
  unfold rightS
  simp only [show ¬ (3 : Int) = 1 by decide, show ¬ (3 : Int) = 2 by decide, if_false, if_true]
  rw [eqStg_self, opsM, show ((⟨#[110]⟩ : ByteArray).toList == logL) = false from by decide +kernel]; rfl
theorem opsN (s : ByteArray) : rightS ⟨4, ⟨#[110]⟩, s, ⟨#[]⟩, 1, 0⟩ = amongB s numOps := by
  unfold rightS
  simp only [show ¬ (4 : Int) = 1 by decide, show ¬ (4 : Int) = 2 by decide, show ¬ (4 : Int) = 3 by decide, if_false, if_true]
  rw [eqStg_self]
  unfold rightC
  rw [show nameB ⟨#[110]⟩ = true from by decide +kernel, show ((⟨#[110]⟩ : ByteArray).toList == logL) = false from by decide +kernel, show litOk 1 0 = true from by decide]; rfl
theorem ops_cases (s : ByteArray) : s = ⟨#[61]⟩ ∨ s = ⟨#[33, 61]⟩ ∨ s = ⟨#[61, 126]⟩ ∨ s = ⟨#[33, 126]⟩ ∨ s = ⟨#[124, 61]⟩ ∨ s = ⟨#[124, 126]⟩ ∨ s = ⟨#[61, 61]⟩ ∨ s = ⟨#[62]⟩ ∨ s = ⟨#[62, 61]⟩ ∨ s = ⟨#[60]⟩ ∨ s = ⟨#[60, 61]⟩ ∨ ((¬ s.toList = [61] ∧ ¬ s.toList = [33, 61] ∧ ¬ s.toList = [61, 126] ∧ ¬ s.toList = [33, 126] ∧ ¬ s.toList = [124, 61] ∧ ¬ s.toList = [124, 126] ∧ ¬ s.toList = [61, 61] ∧ ¬ s.toList = [62] ∧ ¬ s.toList = [62, 61] ∧ ¬ s.toList = [60] ∧ ¬ s.toList = [60, 61]) ∧ amongB s textOps = false ∧ amongB s lineOps = false ∧ amongB s numOps = false) := by
  by_cases h0 : s = ⟨#[61]⟩
  · exact .inl h0
  by_cases h1 : s = ⟨#[33, 61]⟩
  · exact (.inr (.inl h1))
  by_cases h2 : s = ⟨#[61, 126]⟩
  · exact (.inr (.inr (.inl h2)))
  by_cases h3 : s = ⟨#[33, 126]⟩
  · exact (.inr (.inr (.inr (.inl h3))))
  by_cases h4 : s = ⟨#[124, 61]⟩
  · exact (.inr (.inr (.inr (.inr (.inl h4)))))
  by_cases h5 : s = ⟨#[124, 126]⟩
  · exact (.inr (.inr (.inr (.inr (.inr (.inl h5))))))
  by_cases h6 : s = ⟨#[61, 61]⟩
  · exact (.inr (.inr (.inr (.inr (.inr (.inr (.inl h6)))))))
  by_cases h7 : s = ⟨#[62]⟩
  · exact (.inr (.inr (.inr (.inr (.inr (.inr (.inr (.inl h7))))))))
  by_cases h8 : s = ⟨#[62, 61]⟩
  · exact (.inr (.inr (.inr (.inr (.inr (.inr (.inr (.inr (.inl h8)))))))))
  by_cases h9 : s = ⟨#[60]⟩
  · exact (.inr (.inr (.inr (.inr (.inr (.inr (.inr (.inr (.inr (.inl h9))))))))))
  by_cases h10 : s = ⟨#[60, 61]⟩
  · exact (.inr (.inr (.inr (.inr (.inr (.inr (.inr (.inr (.inr (.inr (.inl h10)))))))))))
  exact (.inr (.inr (.inr (.inr (.inr (.inr (.inr (.inr (.inr (.inr (.inr ⟨⟨(fun e => h0 (text_ext1 (by rw [← Lib.toList_data, e]))), (fun e => h1 (text_ext1 (by rw [← Lib.toList_data, e]))), (fun e => h2 (text_ext1 (by rw [← Lib.toList_data, e]))), (fun e => h3 (text_ext1 (by rw [← Lib.toList_data, e]))), (fun e => h4 (text_ext1 (by rw [← Lib.toList_data, e]))), (fun e => h5 (text_ext1 (by rw [← Lib.toList_data, e]))), (fun e => h6 (text_ext1 (by rw [← Lib.toList_data, e]))), (fun e => h7 (text_ext1 (by rw [← Lib.toList_data, e]))), (fun e => h8 (text_ext1 (by rw [← Lib.toList_data, e]))), (fun e => h9 (text_ext1 (by rw [← Lib.toList_data, e]))), (fun e => h10 (text_ext1 (by rw [← Lib.toList_data, e])))⟩, (by simp only [amongB, textOps, List.any_cons, List.any_nil, eqB_no h0, eqB_no h1, eqB_no h2, eqB_no h3, Bool.or_false]), (by simp only [amongB, lineOps, List.any_cons, List.any_nil, eqB_no h4, eqB_no h1, eqB_no h5, eqB_no h3, Bool.or_false]), (by simp only [amongB, numOps, List.any_cons, List.any_nil, eqB_no h6, eqB_no h1, eqB_no h7, eqB_no h8, eqB_no h9, eqB_no h10, Bool.or_false])⟩)))))))))))
def ops12 : List ByteArray := [⟨#[61]⟩, ⟨#[33, 61]⟩, ⟨#[61, 126]⟩, ⟨#[33, 126]⟩, ⟨#[124, 61]⟩, ⟨#[124, 126]⟩, ⟨#[61, 61]⟩, ⟨#[62]⟩, ⟨#[62, 61]⟩, ⟨#[60]⟩, ⟨#[60, 61]⟩, ⟨#[]⟩]
set_option maxRecDepth 100000 in
set_option maxHeartbeats 3200000 in
theorem astOps_walk {W : World} (s : ByteArray) (k : Int) (own : Bool) (hs : s.size ≤ maxLen) (wk : (Lit.int .u8 k).wf = true) (hl : LibIs W) :
    Calls Tryz.prog 5 #[.string s, .int .u8 k, .bool own] W fun e w' => e = .returned (.bool true) ∧ Below W.heap.size W w' := by
  have HEX := Lib.hid (fun w h => examples8_any w h)
  have HL := Lib.hid hl
  obtain ⟨k0, k1⟩ := bdu8 wk
  obtain ⟨i, hi, hi12⟩ : ∃ i : Nat, k.tmod 12 = (i : Int) ∧ i < 12 := ⟨(k.tmod 12).toNat, by rw [Int.tmod_eq_emod_of_nonneg k0]; omega, by rw [Int.tmod_eq_emod_of_nonneg k0]; omega⟩
  have hi' : k % 12 = (i : Int) := by rw [← hi, Int.tmod_eq_emod_of_nonneg k0]
  have wi : IntKind.u8.wrap (i : Int) = (i : Int) := by rw [IntKind.wrap_u8]; omega
  obtain ⟨r, hr⟩ : ∃ r, ops12[i]? = some r := ⟨ops12[i]'hi12, List.getElem?_eq_getElem _⟩
  have HR := Lib.hid hr
  clear hl hs wk hr
  cases own with
  | false =>
    have CM := Lib.hid (fun w (h : LibIs w) => rightMatcher_any ⟨#[110]⟩ s ⟨#[97]⟩ w h)
    have CL := Lib.hid (fun w (h : LibIs w) => rightStage_any 1 ⟨#[]⟩ s ⟨#[97]⟩ 0 0 (by unfold Num64; decide) w h)
    have CT := Lib.hid (fun w (h : LibIs w) => rightStage_any 3 ⟨#[110]⟩ s ⟨#[97]⟩ 0 0 (by unfold Num64; decide) w h)
    have CN := Lib.hid (fun w (h : LibIs w) => rightStage_any 4 ⟨#[110]⟩ s ⟨#[]⟩ 1 0 (by unfold Num64; decide) w h)
    rw [opsM] at CM
    rw [opsL] at CL
    rw [opsT] at CT
    rw [opsN] at CN
    obtain ⟨b1, hb1⟩ : ∃ b, amongB s textOps = b := ⟨_, rfl⟩
    obtain ⟨b2, hb2⟩ : ∃ b, amongB s lineOps = b := ⟨_, rfl⟩
    obtain ⟨b3, hb3⟩ : ∃ b, amongB s numOps = b := ⟨_, rfl⟩
    rw [hb1] at CM CT
    rw [hb2] at CL
    rw [hb3] at CN
    rcases ops_cases s with rfl | rfl | rfl | rfl | rfl | rfl | rfl | rfl | rfl | rfl | rfl | ⟨⟨f0, f1, f2, f3, f4, f5, f6, f7, f8, f9, f10⟩, fa, fb, fc⟩
    all_goals
      cases b1 <;> first | exact absurd hb1 (by decide +kernel) | exact absurd (fa.symm.trans hb1) (by decide) | skip
      all_goals
        cases b2 <;> first | exact absurd hb2 (by decide +kernel) | exact absurd (fb.symm.trans hb2) (by decide) | skip
      all_goals
        cases b3 <;> first | exact absurd hb3 (by decide +kernel) | exact absurd (fc.symm.trans hb3) (by decide) | skip
    all_goals
      clear hb1 hb2 hb3
      try clear fa fb fc
      go_enter Tryz.func5, Tryz.ntmps5
      go_wp2_with fail
      refine (HEX.out W HL.out).mono ?_
      rintro e w1 ⟨rfl, hb_⟩
      have HB_ := Lib.hid hb_
      clear hb_
      go_wp2_with fail
      refine (CM.out w1 (HL.out.below HB_.out)).mono ?_
      rintro e w2 ⟨rfl, hb_⟩
      have hbb_ := hop HB_.out (Nat.le_refl _) hb_
      clear HB_
      have HB_ := Lib.hid hbb_
      clear hbb_ hb_
      go_wp2_with fail
      refine (CL.out w2 (HL.out.below HB_.out)).mono ?_
      rintro e w3 ⟨rfl, hb_⟩
      have hbb_ := hop HB_.out (Nat.le_refl _) hb_
      clear HB_
      have HB_ := Lib.hid hbb_
      clear hbb_ hb_
      go_wp2_with fail
      refine (CT.out w3 (HL.out.below HB_.out)).mono ?_
      rintro e w4 ⟨rfl, hb_⟩
      have hbb_ := hop HB_.out (Nat.le_refl _) hb_
      clear HB_
      have HB_ := Lib.hid hbb_
      clear hbb_ hb_
      go_wp2_with fail
      refine (CN.out w4 (HL.out.below HB_.out)).mono ?_
      rintro e w5 ⟨rfl, hb_⟩
      have hbb_ := hop HB_.out (Nat.le_refl _) hb_
      clear HB_
      have HB_ := Lib.hid hbb_
      clear hbb_ hb_
      go_wp2
      go_ret
      exact ⟨by first | rfl | (simp only [beq_eq_false_iff_ne.2 f0, beq_eq_false_iff_ne.2 f1, beq_eq_false_iff_ne.2 f2, beq_eq_false_iff_ne.2 f3, beq_eq_false_iff_ne.2 f4, beq_eq_false_iff_ne.2 f5, beq_eq_false_iff_ne.2 f6, beq_eq_false_iff_ne.2 f7, beq_eq_false_iff_ne.2 f8, beq_eq_false_iff_ne.2 f9, beq_eq_false_iff_ne.2 f10, Bool.not_false, Bool.or_false, Bool.and_self, Bool.or_self, Bool.and_true]; rfl), HB_.out⟩
  | true =>
    have CM := Lib.hid (fun w (h : LibIs w) => rightMatcher_any ⟨#[110]⟩ r ⟨#[97]⟩ w h)
    have CL := Lib.hid (fun w (h : LibIs w) => rightStage_any 1 ⟨#[]⟩ r ⟨#[97]⟩ 0 0 (by unfold Num64; decide) w h)
    have CT := Lib.hid (fun w (h : LibIs w) => rightStage_any 3 ⟨#[110]⟩ r ⟨#[97]⟩ 0 0 (by unfold Num64; decide) w h)
    have CN := Lib.hid (fun w (h : LibIs w) => rightStage_any 4 ⟨#[110]⟩ r ⟨#[]⟩ 1 0 (by unfold Num64; decide) w h)
    rw [opsM] at CM
    rw [opsL] at CL
    rw [opsT] at CT
    rw [opsN] at CN
    obtain ⟨b1, hb1⟩ : ∃ b, amongB r textOps = b := ⟨_, rfl⟩
    obtain ⟨b2, hb2⟩ : ∃ b, amongB r lineOps = b := ⟨_, rfl⟩
    obtain ⟨b3, hb3⟩ : ∃ b, amongB r numOps = b := ⟨_, rfl⟩
    rw [hb1] at CM CT
    rw [hb2] at CL
    rw [hb3] at CN
    rcases ops_cases r with rfl | rfl | rfl | rfl | rfl | rfl | rfl | rfl | rfl | rfl | rfl | ⟨⟨f0, f1, f2, f3, f4, f5, f6, f7, f8, f9, f10⟩, fa, fb, fc⟩
    all_goals
      cases b1 <;> first | exact absurd hb1 (by decide +kernel) | exact absurd (fa.symm.trans hb1) (by decide) | skip
      all_goals
        cases b2 <;> first | exact absurd hb2 (by decide +kernel) | exact absurd (fb.symm.trans hb2) (by decide) | skip
      all_goals
        cases b3 <;> first | exact absurd hb3 (by decide +kernel) | exact absurd (fc.symm.trans hb3) (by decide) | skip
    all_goals
      clear hb1 hb2 hb3
      try clear fa fb fc
      go_enter Tryz.func5, Tryz.ntmps5
      go_wp2_with fail
      refine (HEX.out W HL.out).mono ?_
      rintro e w1 ⟨rfl, hb_⟩
      have HB_ := Lib.hid hb_
      clear hb_
      have hk_ := HR.out
      have HX := Lib.hid (Blk.new w1 9 (ops12.map Value.string).toArray)
      have HBx := Lib.hid (HB_.out.alloc HB_.out.size (.cells (ops12.map Value.string).toArray 9))
      have hc := HX.out.cell i
      rw [List.getElem?_toArray, List.getElem?_map, hk_] at hc
      simp only [Option.map_some, ops12, List.map_cons, List.map_nil] at hc
      clear hk_ HX
      go_wp2_with fail
      refine (CM.out _ (HL.out.below HBx.out)).mono ?_
      rintro e w2 ⟨rfl, hb_⟩
      have HB_ := Lib.hid (hop HBx.out (Nat.le_refl _) hb_)
      clear hb_ hc HBx
      go_wp2_with fail
      refine (CL.out w2 (HL.out.below HB_.out)).mono ?_
      rintro e w3 ⟨rfl, hb_⟩
      have hbb_ := hop HB_.out (Nat.le_refl _) hb_
      clear HB_
      have HB_ := Lib.hid hbb_
      clear hbb_ hb_
      go_wp2_with fail
      refine (CT.out w3 (HL.out.below HB_.out)).mono ?_
      rintro e w4 ⟨rfl, hb_⟩
      have hbb_ := hop HB_.out (Nat.le_refl _) hb_
      clear HB_
      have HB_ := Lib.hid hbb_
      clear hbb_ hb_
      go_wp2_with fail
      refine (CN.out w4 (HL.out.below HB_.out)).mono ?_
      rintro e w5 ⟨rfl, hb_⟩
      have hbb_ := hop HB_.out (Nat.le_refl _) hb_
      clear HB_
      have HB_ := Lib.hid hbb_
      clear hbb_ hb_
      go_wp2
      go_ret
      exact ⟨by first | rfl | (simp only [beq_eq_false_iff_ne.2 f0, beq_eq_false_iff_ne.2 f1, beq_eq_false_iff_ne.2 f2, beq_eq_false_iff_ne.2 f3, beq_eq_false_iff_ne.2 f4, beq_eq_false_iff_ne.2 f5, beq_eq_false_iff_ne.2 f6, beq_eq_false_iff_ne.2 f7, beq_eq_false_iff_ne.2 f8, beq_eq_false_iff_ne.2 f9, beq_eq_false_iff_ne.2 f10, Bool.not_false, Bool.or_false, Bool.and_self, Bool.or_self, Bool.and_true]; rfl), HB_.out⟩
end Go.Proofs.YtepokdmkdnlbfaaGreatDoor
