/- The chapter's examples: the walk of examples. -/
import Derived.Test.YtojjeignijpiaaaGreatDoorRexTellD
import Derived.Test.YtojjeignijpiaaaGreatDoorRexRightW
import Derived.Test.YtojjeignijpiaaaGreatDoorRexParse
namespace Go.Proofs.YtojjeignijpiaaaGreatDoor
open Go.RowKit
set_option linter.unusedVariables false
set_option linter.unusedSimpArgs false

theorem tell_ext {s : ByteArray} {l : List UInt8} (h : s.data.toList = l) : s = ⟨l.toArray⟩ := by
  subst h
  rfl
theorem parseB_nf {l : List UInt8} {n : NodeT} {a e : Int} (h : parseB l = (n, a, e)) : NF n := by
  unfold parseB at h
  split at h
  · cases h; exact .nil
  · cases hx : exprP (l.length + 1) false l with
    | bad k => rw [hx] at h; cases h; exact .nil
    | ok m r =>
      rw [hx] at h
      replace h : (if 200 < sizeT m then (NodeT.nil, (l.length : Int) - (r.length : Int), (4 : Int)) else (m, (l.length : Int) - (r.length : Int), 0)) = (n, a, e) := h
      split at h
      · cases h; exact .nil
      · cases h; exact exprP_nf _ _ _ _ _ hx
def exT : NodeT := .mk 5 0 0 0 [.mk 4 0 0 0 [.one (oneB 97), .rep (.one (oneB 98)) 0 (-1)], .one (withB 0 97 99)]
theorem exT_put : putT exT = [97, 98, 42, 124, 91, 97, 45, 99, 93] := by kernel_rfl
theorem exT_size : sizeT exT = 5 := by kernel_rfl
theorem exT_right : rightT exT = true := by kernel_rfl
theorem exT_same : sameT exT exT = true := by kernel_rfl
theorem ex_many : manyB (withB 0 5 7) = 3 := by decide +kernel
theorem ex_has : (withB 0 5 7).testBit 6 = true := by decide +kernel
theorem exm_parse1 : parseB [40, 97, 41, 98, 42, 124, 91, 97, 45, 99, 93] = (exT, 11, 0) := by kernel_rfl
theorem exm_parse2 : parseB [97, 41] = (.nil, 1, 2) := by kernel_rfl
theorem exm_parse3 : parseB [40, 97] = (.nil, 2, 2) := by kernel_rfl
theorem exm_parse4 : parseB [97, 42, 42] = (.nil, 2, 2) := by kernel_rfl
theorem exm_parse5 : parseB [40, 40, 40, 97, 123, 50, 48, 125, 41, 123, 50, 48, 125, 41, 41] = (.nil, 15, 4) := by kernel_rfl
set_option maxRecDepth 100000 in
set_option maxHeartbeats 6400000 in
theorem rexExamples_any (W : World) (hl : LibIs W) :
    Calls Tryz.prog 10 #[] W fun e w' => e = .returned (.bool true) ∧ Below W.heap.size W w' := by
  have PR := Lib.hid (fun t w h => parse_rex t w h)
  have HL := Lib.hid hl
  have HB0 := Lib.hid (Below.refl W.heap.size W)
  clear hl
  go_enter Tryz.func10, Tryz.ntmps10
  go_wp2_with fail
  refine (PR.out ⟨#[40, 97, 41, 98, 42, 124, 91, 97, 45, 99, 93]⟩ _ (HL.out.below HB0.out)).mono ?_
  rintro e w1 ⟨x1, a1, r1, rfl, hp1, hg1, hb1⟩
  have hE1 : (exT, (11 : Int), (0 : Int)) = (x1.t, a1, r1) := exm_parse1.symm.trans hp1
  obtain ⟨hx1, hA1⟩ := Prod.mk.inj hE1
  obtain ⟨hA1, hR1⟩ := Prod.mk.inj hA1
  subst hA1 hR1
  have hB1 := (hop HB0.out (by first | exact Nat.le_refl _ | exact HB0.out.size) hb1)
  have HB1 := Lib.hid (hB1.alloc hB1.size (.cells (nodeC x1) 36))
  have HNF := Lib.hid (parseB_nf hp1)
  have HT := Lib.hid hx1.symm
  have hgg := hg1.alloc (.cells (nodeC x1) 36)
  have hkk := Blk.new w1 36 (nodeC x1)
  obtain ⟨g1, hgz⟩ : ∃ g, w1.heap.size = g := ⟨_, rfl⟩
  obtain ⟨v1, hv1⟩ : ∃ v, w1.alloc (.cells (nodeC x1) 36) = v := ⟨_, rfl⟩
  rw [hgz] at hkk
  rw [hv1] at hgg HB1 hkk
  have HG1 := Lib.hid hgg
  have HK1 := Lib.hid hkk
  have HV1 := Lib.hid hv1
  have HGZ := Lib.hid hgz
  clear hp1 hg1 hb1 hE1 hx1 hB1 hgg hkk hv1 hgz
  unfold nodeC nodeV at HV1
  unfold nodeC nodeV
  go_wp2_with fail
  rw [HV1.out, HGZ.out]
  refine (PR.out ⟨#[97, 41]⟩ _ (HL.out.below HB1.out)).mono ?_
  rintro e w2 ⟨x2, a2, r2, rfl, hp2, hg2, hb2⟩
  have hE2 : (.nil, (1 : Int), (2 : Int)) = (x2.t, a2, r2) := exm_parse2.symm.trans hp2
  obtain ⟨hx2, hA2⟩ := Prod.mk.inj hE2
  obtain ⟨hA2, hR2⟩ := Prod.mk.inj hA2
  subst hA2 hR2
  have hB2 := (hop HB1.out (by first | exact Nat.le_refl _ | exact HB1.out.size) hb2)
  have HB2 := Lib.hid (hB2.alloc hB2.size (.cells (nodeC x2) 36))
  have hbz := (hb2.alloc hb2.size (.cells (nodeC x2) 36))
  have hgg := HG1.out.later hbz
  have hkk := HK1.out.below hbz HK1.out.lt
  obtain ⟨v2, hv2⟩ : ∃ v, w2.alloc (.cells (nodeC x2) 36) = v := ⟨_, rfl⟩
  rw [hv2] at hgg hkk HB2
  have HG2 := Lib.hid hgg
  have HK2 := Lib.hid hkk
  have HV2 := Lib.hid hv2
  clear hp2 hg2 hb2 hE2 hx2 hB2 hbz hgg hkk hv2 HG1 HK1 HB1
  unfold nodeC nodeV at HV2
  unfold nodeC nodeV
  go_wp2_with fail
  rw [HV2.out]
  refine (PR.out ⟨#[40, 97]⟩ _ (HL.out.below HB2.out)).mono ?_
  rintro e w3 ⟨x3, a3, r3, rfl, hp3, hg3, hb3⟩
  have hE3 : (.nil, (2 : Int), (2 : Int)) = (x3.t, a3, r3) := exm_parse3.symm.trans hp3
  obtain ⟨hx3, hA3⟩ := Prod.mk.inj hE3
  obtain ⟨hA3, hR3⟩ := Prod.mk.inj hA3
  subst hA3 hR3
  have hB3 := (hop HB2.out (by first | exact Nat.le_refl _ | exact HB2.out.size) hb3)
  have HB3 := Lib.hid (hB3.alloc hB3.size (.cells (nodeC x3) 36))
  have hbz := (hb3.alloc hb3.size (.cells (nodeC x3) 36))
  have hgg := HG2.out.later hbz
  have hkk := HK2.out.below hbz HK2.out.lt
  obtain ⟨v3, hv3⟩ : ∃ v, w3.alloc (.cells (nodeC x3) 36) = v := ⟨_, rfl⟩
  rw [hv3] at hgg hkk HB3
  have HG3 := Lib.hid hgg
  have HK3 := Lib.hid hkk
  have HV3 := Lib.hid hv3
  clear hp3 hg3 hb3 hE3 hx3 hB3 hbz hgg hkk hv3 HG2 HK2 HB2
  unfold nodeC nodeV at HV3
  unfold nodeC nodeV
  go_wp2_with fail
  rw [HV3.out]
  refine (PR.out ⟨#[97, 42, 42]⟩ _ (HL.out.below HB3.out)).mono ?_
  rintro e w4 ⟨x4, a4, r4, rfl, hp4, hg4, hb4⟩
  have hE4 : (.nil, (2 : Int), (2 : Int)) = (x4.t, a4, r4) := exm_parse4.symm.trans hp4
  obtain ⟨hx4, hA4⟩ := Prod.mk.inj hE4
  obtain ⟨hA4, hR4⟩ := Prod.mk.inj hA4
  subst hA4 hR4
  have hB4 := (hop HB3.out (by first | exact Nat.le_refl _ | exact HB3.out.size) hb4)
  have HB4 := Lib.hid (hB4.alloc hB4.size (.cells (nodeC x4) 36))
  have hbz := (hb4.alloc hb4.size (.cells (nodeC x4) 36))
  have hgg := HG3.out.later hbz
  have hkk := HK3.out.below hbz HK3.out.lt
  obtain ⟨v4, hv4⟩ : ∃ v, w4.alloc (.cells (nodeC x4) 36) = v := ⟨_, rfl⟩
  rw [hv4] at hgg hkk HB4
  have HG4 := Lib.hid hgg
  have HK4 := Lib.hid hkk
  have HV4 := Lib.hid hv4
  clear hp4 hg4 hb4 hE4 hx4 hB4 hbz hgg hkk hv4 HG3 HK3 HB3
  unfold nodeC nodeV at HV4
  unfold nodeC nodeV
  go_wp2_with fail
  rw [HV4.out]
  refine (PR.out ⟨#[40, 40, 40, 97, 123, 50, 48, 125, 41, 123, 50, 48, 125, 41, 41]⟩ _ (HL.out.below HB4.out)).mono ?_
  rintro e w5 ⟨x5, a5, r5, rfl, hp5, hg5, hb5⟩
  have hE5 : (.nil, (15 : Int), (4 : Int)) = (x5.t, a5, r5) := exm_parse5.symm.trans hp5
  obtain ⟨hx5, hA5⟩ := Prod.mk.inj hE5
  obtain ⟨hA5, hR5⟩ := Prod.mk.inj hA5
  subst hA5 hR5
  have hB5 := (hop HB4.out (by first | exact Nat.le_refl _ | exact HB4.out.size) hb5)
  have HB5 := Lib.hid (hB5.alloc hB5.size (.cells (nodeC x5) 36))
  have hbz := (hb5.alloc hb5.size (.cells (nodeC x5) 36))
  have hgg := HG4.out.later hbz
  have hkk := HK4.out.below hbz HK4.out.lt
  obtain ⟨v5, hv5⟩ : ∃ v, w5.alloc (.cells (nodeC x5) 36) = v := ⟨_, rfl⟩
  rw [hv5] at hgg hkk HB5
  have HG5 := Lib.hid hgg
  have HK5 := Lib.hid hkk
  have HV5 := Lib.hid hv5
  clear hp5 hg5 hb5 hE5 hx5 hB5 hbz hgg hkk hv5 HG4 HK4 HB4
  unfold nodeC nodeV at HV5
  obtain ⟨⟨c0, c1, c2, c3, c4, c5, c6, c7⟩, _⟩ := node_cells (show Blk (w5.alloc (.cells (nodeC x5) 36)) g1 36 (nodeC x1) by have h := HK5.out; rw [← HV5.out] at h; exact h)
  unfold nodeC nodeV at *
  go_wp2_with fail
  rw [HV5.out]
  refine (put_rex x1 _ v5 HG5.out HNF.out (HL.out.below HB5.out) (by rw [HT.out, exT_put]; decide)).mono ?_
  rintro e w6 ⟨⟨s6, rfl, hs6⟩, hb6⟩
  obtain rfl : s6 = ⟨#[97, 98, 42, 124, 91, 97, 45, 99, 93]⟩ := tell_ext (by rw [hs6, HT.out, exT_put])
  clear hs6
  have HB6 := Lib.hid (hop HB5.out (Nat.le_refl _) hb6)
  have HG6 := Lib.hid (HG5.out.later hb6)
  have HK6 := Lib.hid (HK5.out.below hb6 HK5.out.lt)
  clear hb6 HB5 HG5 HK5
  clear c0 c1 c2 c3 c4 c5 c6 c7
  obtain ⟨⟨c0, c1, c2, c3, c4, c5, c6, c7⟩, _⟩ := node_cells HK6.out
  try unfold nodeC nodeV at *
  go_wp2_with fail
  refine (size_any x1 _ w6 HG6.out).mono ?_
  rw [HT.out, exT_size]
  rintro e w7 ⟨rfl, hb7⟩
  have HB7 := Lib.hid (hop HB6.out (Nat.le_refl _) hb7)
  have HG7 := Lib.hid (HG6.out.later hb7)
  have HK7 := Lib.hid (HK6.out.below hb7 HK6.out.lt)
  clear hb7 HB6 HG6 HK6
  clear c0 c1 c2 c3 c4 c5 c6 c7
  obtain ⟨⟨c0, c1, c2, c3, c4, c5, c6, c7⟩, _⟩ := node_cells HK7.out
  try unfold nodeC nodeV at *
  go_wp2_with fail
  refine (right_rex x1 _ w7 HG7.out).mono ?_
  rw [HT.out, exT_right]
  rintro e w8 ⟨rfl, hb8⟩
  have HB8 := Lib.hid (hop HB7.out (Nat.le_refl _) hb8)
  have HG8 := Lib.hid (HG7.out.later hb8)
  have HK8 := Lib.hid (HK7.out.below hb8 HK7.out.lt)
  clear hb8 HB7 HG7 HK7
  clear c0 c1 c2 c3 c4 c5 c6 c7
  obtain ⟨⟨c0, c1, c2, c3, c4, c5, c6, c7⟩, _⟩ := node_cells HK8.out
  try unfold nodeC nodeV at *
  go_wp2_with fail
  refine (same_rex x1 x1 _ _ w8 HG8.out HG8.out).mono ?_
  rw [HT.out, exT_same]
  rintro e w9 ⟨rfl, hb9⟩
  have HB9 := Lib.hid (hop HB8.out (Nat.le_refl _) hb9)
  have HG9 := Lib.hid (HG8.out.later hb9)
  have HK9 := Lib.hid (HK8.out.below hb9 HK8.out.lt)
  clear hb9 HB8 HG8 HK8
  clear c0 c1 c2 c3 c4 c5 c6 c7
  go_wp2_with fail
  refine (rexWith_any 0 5 7 (by decide) (by decide) w9).mono ?_
  rintro e w10 ⟨rfl, hb10⟩
  have HB10 := Lib.hid (hop HB9.out (Nat.le_refl _) hb10)
  have HG10 := Lib.hid (HG9.out.later hb10)
  have HK10 := Lib.hid (HK9.out.below hb10 HK9.out.lt)
  clear hb10 HB9 HG9 HK9
  go_wp2_with fail
  refine (rexMany_any (withB 0 5 7) w10).mono ?_
  rw [ex_many]
  rintro e w11 ⟨rfl, hb11⟩
  have HB11 := Lib.hid (hop HB10.out (Nat.le_refl _) hb11)
  have HG11 := Lib.hid (HG10.out.later hb11)
  have HK11 := Lib.hid (HK10.out.below hb11 HK10.out.lt)
  clear hb11 HB10 HG10 HK10
  go_wp2_with fail
  refine (rexWith_any 0 5 7 (by decide) (by decide) w11).mono ?_
  rintro e w12 ⟨rfl, hb12⟩
  have HB12 := Lib.hid (hop HB11.out (Nat.le_refl _) hb12)
  have HG12 := Lib.hid (HG11.out.later hb12)
  have HK12 := Lib.hid (HK11.out.below hb12 HK11.out.lt)
  clear hb12 HB11 HG11 HK11
  go_wp2_with fail
  refine (rexHas_any (withB 0 5 7) 6 (by decide) w12).mono ?_
  rw [ex_has]
  rintro e w13 ⟨rfl, hb13⟩
  have HB13 := Lib.hid (hop HB12.out (Nat.le_refl _) hb13)
  have HG13 := Lib.hid (HG12.out.later hb13)
  have HK13 := Lib.hid (HK12.out.below hb13 HK12.out.lt)
  clear hb13 HB12 HG12 HK12
  go_wp2
  go_ret
  exact ⟨by first | rfl | decide | simp, HB13.out⟩
end Go.Proofs.YtojjeignijpiaaaGreatDoor
