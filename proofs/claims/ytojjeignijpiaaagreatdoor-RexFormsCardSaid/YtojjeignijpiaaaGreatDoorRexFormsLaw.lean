/- RexForms: the walk of the law. -/
import Derived.Test.YtojjeignijpiaaaGreatDoorRexRexes
namespace Go.Proofs.YtojjeignijpiaaaGreatDoor
open Go.RowKit
set_option linter.unusedVariables false
set_option linter.unusedSimpArgs false

/-- what is read of a text whose node is known -/
def cutN (x : NodeT) : NodeT := if 200 < sizeT x then .nil else x
def cutE (x : NodeT) : Int := if 200 < sizeT x then 4 else 0
theorem RD.cut {l : List UInt8} {x : NodeT} (h : RD l x) (hl : l.length ≤ 256) : parseB l = (cutN x, (l.length : Int), cutE x) := by
  rw [h.parse hl]
  unfold cutN cutE
  split <;> rfl
theorem form_text7 (a b c : ByteArray) : ((⟨#[40, 40]⟩ : ByteArray) ++ a ++ (⟨#[41, 41]⟩ : ByteArray)).data.toList = inB true (inB true a.data.toList) := by
  simp only [text_joined, inB_true]
  simp
theorem form_text8 (a b c : ByteArray) : ((⟨#[40]⟩ : ByteArray) ++ a ++ (⟨#[41, 40, 40]⟩ : ByteArray) ++ b ++ (⟨#[41, 40]⟩ : ByteArray) ++ c ++ (⟨#[41, 41]⟩ : ByteArray)).data.toList = inB true a.data.toList ++ inB true (inB true b.data.toList ++ inB true c.data.toList) := by
  simp only [text_joined, inB_true]
  simp
theorem form_text9 (a b c : ByteArray) : ((⟨#[40, 40]⟩ : ByteArray) ++ a ++ (⟨#[41, 40]⟩ : ByteArray) ++ b ++ (⟨#[41, 41, 40]⟩ : ByteArray) ++ c ++ (⟨#[41]⟩ : ByteArray)).data.toList = inB true (inB true a.data.toList ++ inB true b.data.toList) ++ inB true c.data.toList := by
  simp only [text_joined, inB_true]
  simp
theorem form_text10 (a b c : ByteArray) : ((⟨#[40]⟩ : ByteArray) ++ a ++ (⟨#[41, 124, 40, 40]⟩ : ByteArray) ++ b ++ (⟨#[41, 124, 40]⟩ : ByteArray) ++ c ++ (⟨#[41, 41]⟩ : ByteArray)).data.toList = inB true a.data.toList ++ 124 :: inB true (inB true b.data.toList ++ 124 :: inB true c.data.toList) := by
  simp only [text_joined, inB_true]
  simp
theorem form_text11 (a b c : ByteArray) : ((⟨#[40, 40]⟩ : ByteArray) ++ a ++ (⟨#[41, 124, 40]⟩ : ByteArray) ++ b ++ (⟨#[41, 41, 124]⟩ : ByteArray) ++ c).data.toList = inB true (inB true a.data.toList ++ 124 :: inB true b.data.toList) ++ 124 :: c.data.toList := by
  simp only [text_joined, inB_true]
  simp
set_option maxRecDepth 100000 in
set_option maxHeartbeats 12800000 in
theorem rexForms_walk {W : World} (A : Option Addr) (len cp : Nat) (zs : List Int) (A2 : Option Addr) (len2 cp2 : Nat) (zs2 : List Int) (A3 : Option Addr) (len3 cp3 : Nat) (zs3 : List Int)
    (h1 : Ints .u8 W A len zs) (hnc : len ≤ cp) (hcm : cp ≤ maxLen) (h2 : Ints .u8 W A2 len2 zs2) (hnc2 : len2 ≤ cp2) (hcm2 : cp2 ≤ maxLen) (h3 : Ints .u8 W A3 len3 zs3) (hnc3 : len3 ≤ cp3) (hcm3 : cp3 ≤ maxLen) (hl : LibIs W) :
    Calls Tryz.prog 8 #[.slice A len cp, .slice A2 len2 cp2, .slice A3 len3 cp3] W fun e w' => e = .returned (.bool true) ∧ Below W.heap.size W w' := by
  have R1 := Lib.hid (fun w (hb : Below W.heap.size W w) => rexes_any A len cp zs (h1.below hb) hnc hcm)
  have R2 := Lib.hid (fun w (hb : Below W.heap.size W w) => rexes_any A2 len2 cp2 zs2 (h2.below hb) hnc2 hcm2)
  have R3 := Lib.hid (fun w (hb : Below W.heap.size W w) => rexes_any A3 len3 cp3 zs3 (h3.below hb) hnc3 hcm3)
  have PR := Lib.hid (fun t w h => parse_rex t w h)
  have HEX := Lib.hid (fun w h => rexExamples_any w h)
  have HL := Lib.hid hl
  have HSM := Lib.hid (fun (p q : NodeX) (n : NodeT) (h1 : p.t = n) (h2 : q.t = n) (P Q : Nat → Prop) (w : World) (g1 : GoodN w P p) (g2 : GoodN w Q q) => show Calls Tryz.prog 21 #[.agg (nodeC p), .agg (nodeC q)] w fun e w' => e = .returned (.bool true) ∧ Below w.heap.size w w' from by
    have h := same_rex p q P Q w g1 g2
    rw [h1, h2, sameT_samesT_refl] at h
    exact h)
  clear h1 h2 h3 hnc hcm hnc2 hcm2 hnc3 hcm3 hl
  go_enter Tryz.func8, Tryz.ntmps8
  go_wp2_with fail
  refine (HEX.out W HL.out).mono ?_
  rintro _ w0 ⟨rfl, hb0⟩
  have HB0 := Lib.hid hb0
  clear hb0 HEX
  go_wp2_with fail
  refine (R1.out w0 HB0.out).mono ?_
  rintro _ w1 ⟨⟨a, rfl, hza⟩, hb1⟩
  have HB1 := Lib.hid (hop HB0.out (Nat.le_refl _) hb1)
  clear hb1 HB0 R1
  go_wp2_with fail
  refine (R2.out w1 HB1.out).mono ?_
  rintro _ w2 ⟨⟨b, rfl, hzb⟩, hb2⟩
  have HB2 := Lib.hid (hop HB1.out (Nat.le_refl _) hb2)
  clear hb2 HB1 R2
  go_wp2_with fail
  refine (R3.out w2 HB2.out).mono ?_
  rintro _ w3 ⟨⟨c, rfl, hzc⟩, hb3⟩
  have HB3 := Lib.hid (hop HB2.out (Nat.le_refl _) hb3)
  clear hb3 HB2 R3
  go_wp2_with fail
  refine (PR.out (a) w3 (HL.out.below HB3.out)).mono ?_
  rintro _ w4 ⟨x4, y4, r4, rfl, hp4, hg4, hb4⟩
  have HP4 := Lib.hid hp4
  have hB4 := (hop HB3.out (Nat.le_refl _) hb4)
  have HB4 := Lib.hid (hB4.alloc hB4.size (.cells (nodeC x4) 36))
  have hbz := (hb4.alloc hb4.size (.cells (nodeC x4) 36))
  have hg := hg4.alloc (.cells (nodeC x4) 36)
  have hk := Blk.new w4 36 (nodeC x4)
  obtain ⟨g4, hgz⟩ : ∃ g, w4.heap.size = g := ⟨_, rfl⟩
  obtain ⟨v4, hv4⟩ : ∃ v, w4.alloc (.cells (nodeC x4) 36) = v := ⟨_, rfl⟩
  rw [hgz] at hk
  rw [hv4] at hg HB4 hk
  have HG4_ := Lib.hid hg
  have HK4_ := Lib.hid hk
  have HV4 := Lib.hid hv4
  have HGZ4 := Lib.hid hgz
  clear hp4 hg4 hb4 hB4 hbz hg hk hv4 hgz
  unfold nodeC nodeV at HV4
  unfold nodeC nodeV
  go_wp2_with fail
  rw [HV4.out, HGZ4.out]
  refine (PR.out (b) v4 (HL.out.below HB4.out)).mono ?_
  rintro _ w5 ⟨x5, y5, r5, rfl, hp5, hg5, hb5⟩
  have HP5 := Lib.hid hp5
  have hB5 := (hop HB4.out (Nat.le_refl _) hb5)
  have HB5 := Lib.hid (hB5.alloc hB5.size (.cells (nodeC x5) 36))
  have hbz := (hb5.alloc hb5.size (.cells (nodeC x5) 36))
  have hg := hg5.alloc (.cells (nodeC x5) 36)
  have hk := Blk.new w5 36 (nodeC x5)
  obtain ⟨g5, hgz⟩ : ∃ g, w5.heap.size = g := ⟨_, rfl⟩
  obtain ⟨v5, hv5⟩ : ∃ v, w5.alloc (.cells (nodeC x5) 36) = v := ⟨_, rfl⟩
  rw [hgz] at hk
  rw [hv5] at hg HB5 hk
  have HG5_ := Lib.hid hg
  have HK5_ := Lib.hid hk
  have HV5 := Lib.hid hv5
  have HGZ5 := Lib.hid hgz
  have hgg := HG4_.out.later hbz
  have hkk := HK4_.out.below hbz HK4_.out.lt
  rw [hv5] at hgg hkk
  clear HG4_ HK4_
  have HG4_ := Lib.hid hgg
  have HK4_ := Lib.hid hkk
  clear hgg hkk
  clear hp5 hg5 hb5 hB5 hbz hg hk hv5 hgz
  unfold nodeC nodeV at HV5
  unfold nodeC nodeV
  go_wp2_with fail
  rw [HV5.out, HGZ5.out]
  refine (PR.out (c) v5 (HL.out.below HB5.out)).mono ?_
  rintro _ w6 ⟨x6, y6, r6, rfl, hp6, hg6, hb6⟩
  have HP6 := Lib.hid hp6
  have hB6 := (hop HB5.out (Nat.le_refl _) hb6)
  have HB6 := Lib.hid (hB6.alloc hB6.size (.cells (nodeC x6) 36))
  have hbz := (hb6.alloc hb6.size (.cells (nodeC x6) 36))
  have hg := hg6.alloc (.cells (nodeC x6) 36)
  have hk := Blk.new w6 36 (nodeC x6)
  obtain ⟨g6, hgz⟩ : ∃ g, w6.heap.size = g := ⟨_, rfl⟩
  obtain ⟨v6, hv6⟩ : ∃ v, w6.alloc (.cells (nodeC x6) 36) = v := ⟨_, rfl⟩
  rw [hgz] at hk
  rw [hv6] at hg HB6 hk
  have HG6_ := Lib.hid hg
  have HK6_ := Lib.hid hk
  have HV6 := Lib.hid hv6
  have HGZ6 := Lib.hid hgz
  have hgg := HG4_.out.later hbz
  have hkk := HK4_.out.below hbz HK4_.out.lt
  rw [hv6] at hgg hkk
  clear HG4_ HK4_
  have HG4_ := Lib.hid hgg
  have HK4_ := Lib.hid hkk
  clear hgg hkk
  clear hp6 hg6 hb6 hB6 hbz hg hk hv6 hgz
  unfold nodeC nodeV at HV6
  unfold nodeC nodeV
  by_cases hok : (r4 = 0 ∧ r5 = 0) ∧ (r6 = 0 ∧ ¬ 200 < a.size + b.size + c.size)
  · obtain ⟨⟨rfl, rfl⟩, rfl, hsum⟩ := hok
    obtain ⟨ra, sa, la, _⟩ := RD.of HP4.out
    obtain ⟨rb, sb, lb, _⟩ := RD.of HP5.out
    obtain ⟨rc, sc, lc, _⟩ := RD.of HP6.out
    obtain ⟨f7, f8, f9, f10, f11⟩ := forms ra rb rc
    have hsI : ¬ (200 : Int) < (a.size : Int) + (b.size : Int) + (c.size : Int) := by omega
    have hsI2 : ¬ (a.size : Int) + (b.size : Int) + (c.size : Int) > 200 := by omega
    have sza := size_toList a
    have szb := size_toList b
    have szc := size_toList c
    have c7 := (rd_grp (rd_grp ra)).cut (by rw [inB_len2, inB_len2]; omega)
    have c8 := f8.cut (by rw [List.length_append, inB_len2, inB_len2, List.length_append, inB_len2, inB_len2]; omega)
    have c9 := f9.cut (by rw [List.length_append, inB_len2, inB_len2, List.length_append, inB_len2, inB_len2]; omega)
    have c10 := f10.cut (by rw [List.length_append, inB_len2, List.length_cons, inB_len2, List.length_append, inB_len2, List.length_cons, inB_len2]; omega)
    have c11 := f11.cut (by rw [List.length_append, inB_len2, List.length_cons, List.length_append, inB_len2, List.length_cons, inB_len2]; omega)
    have ecn : cutN x4.t = x4.t := by unfold cutN; rw [if_neg (by omega)]
    have ece : cutE x4.t = 0 := by unfold cutE; rw [if_neg (by omega)]
    rw [ecn, ece] at c7
    obtain ⟨m8, hm8⟩ : ∃ m, cutN (catT [x4.t, catT [x5.t, x6.t]]) = m := ⟨_, rfl⟩
    obtain ⟨m10, hm10⟩ : ∃ m, cutN (altT [x4.t, altT [x5.t, x6.t]]) = m := ⟨_, rfl⟩
    obtain ⟨q8, hq8⟩ : ∃ m, cutE (catT [x4.t, catT [x5.t, x6.t]]) = m := ⟨_, rfl⟩
    obtain ⟨q10, hq10⟩ : ∃ m, cutE (altT [x4.t, altT [x5.t, x6.t]]) = m := ⟨_, rfl⟩
    rw [hm8, hq8] at c8 c9
    rw [hm10, hq10] at c10 c11
    rw [← form_text7 a b c] at c7
    rw [← form_text8 a b c] at c8
    rw [← form_text9 a b c] at c9
    rw [← form_text10 a b c] at c10
    rw [← form_text11 a b c] at c11
    have C7 := Lib.hid c7
    have C8 := Lib.hid c8
    have C9 := Lib.hid c9
    have C10 := Lib.hid c10
    have C11 := Lib.hid c11
    have s1 : a.size ≤ 200 := by omega
    have s2 : b.size ≤ 200 := by omega
    have s3 : c.size ≤ 200 := by omega
    clear ra rb rc sa sb sc la lb lc f7 f8 f9 f10 f11 sza szb szc c7 c8 c9 c10 c11 ecn ece hm8 hm10 hq8 hq10
    go_wp2_with fail
    rw [HV6.out, HGZ6.out]
    refine (PR.out ((⟨#[40, 40]⟩ : ByteArray) ++ a ++ (⟨#[41, 41]⟩ : ByteArray)) v6 (HL.out.below HB6.out)).mono ?_
    rintro _ w7 ⟨x7, y7, r7, rfl, hp7, hg7, hb7⟩
    have hE7 := C7.out.symm.trans hp7
    obtain ⟨hx7, hA7⟩ := Prod.mk.inj hE7
    obtain ⟨hA7, hR7⟩ := Prod.mk.inj hA7
    have HX7 := Lib.hid hx7.symm
    subst hR7
    clear hE7 hA7 hx7
    have hB7 := (hop HB6.out (Nat.le_refl _) hb7)
    have HB7 := Lib.hid (hB7.alloc hB7.size (.cells (nodeC x7) 36))
    have hbz := (hb7.alloc hb7.size (.cells (nodeC x7) 36))
    have hg := hg7.alloc (.cells (nodeC x7) 36)
    have hk := Blk.new w7 36 (nodeC x7)
    obtain ⟨g7, hgz⟩ : ∃ g, w7.heap.size = g := ⟨_, rfl⟩
    obtain ⟨v7, hv7⟩ : ∃ v, w7.alloc (.cells (nodeC x7) 36) = v := ⟨_, rfl⟩
    rw [hgz] at hk
    rw [hv7] at hg HB7 hk
    have HG7_ := Lib.hid hg
    have HK7_ := Lib.hid hk
    have HV7 := Lib.hid hv7
    have HGZ7 := Lib.hid hgz
    have hgg := HG4_.out.later hbz
    have hkk := HK4_.out.below hbz HK4_.out.lt
    rw [hv7] at hgg hkk
    clear HG4_ HK4_
    have HG4_ := Lib.hid hgg
    have HK4_ := Lib.hid hkk
    clear hgg hkk
    clear hp7 hg7 hb7 hB7 hbz hg hk hv7 hgz
    unfold nodeC nodeV at HV7
    unfold nodeC nodeV
    go_wp2_with fail
    rw [HV7.out, HGZ7.out]
    refine (PR.out ((⟨#[40]⟩ : ByteArray) ++ a ++ (⟨#[41, 40, 40]⟩ : ByteArray) ++ b ++ (⟨#[41, 40]⟩ : ByteArray) ++ c ++ (⟨#[41, 41]⟩ : ByteArray)) v7 (HL.out.below HB7.out)).mono ?_
    rintro _ w8 ⟨x8, y8, r8, rfl, hp8, hg8, hb8⟩
    have hE8 := C8.out.symm.trans hp8
    obtain ⟨hx8, hA8⟩ := Prod.mk.inj hE8
    obtain ⟨hA8, hR8⟩ := Prod.mk.inj hA8
    have HX8 := Lib.hid hx8.symm
    subst hR8
    clear hE8 hA8 hx8
    have hB8 := (hop HB7.out (Nat.le_refl _) hb8)
    have HB8 := Lib.hid (hB8.alloc hB8.size (.cells (nodeC x8) 36))
    have hbz := (hb8.alloc hb8.size (.cells (nodeC x8) 36))
    have hg := hg8.alloc (.cells (nodeC x8) 36)
    have hk := Blk.new w8 36 (nodeC x8)
    obtain ⟨g8, hgz⟩ : ∃ g, w8.heap.size = g := ⟨_, rfl⟩
    obtain ⟨v8, hv8⟩ : ∃ v, w8.alloc (.cells (nodeC x8) 36) = v := ⟨_, rfl⟩
    rw [hgz] at hk
    rw [hv8] at hg HB8 hk
    have HG8_ := Lib.hid hg
    have HK8_ := Lib.hid hk
    have HV8 := Lib.hid hv8
    have HGZ8 := Lib.hid hgz
    have hgg := HG4_.out.later hbz
    have hkk := HK4_.out.below hbz HK4_.out.lt
    rw [hv8] at hgg hkk
    clear HG4_ HK4_
    have HG4_ := Lib.hid hgg
    have HK4_ := Lib.hid hkk
    clear hgg hkk
    have hgg := HG7_.out.later hbz
    have hkk := HK7_.out.below hbz HK7_.out.lt
    rw [hv8] at hgg hkk
    clear HG7_ HK7_
    have HG7_ := Lib.hid hgg
    have HK7_ := Lib.hid hkk
    clear hgg hkk
    clear hp8 hg8 hb8 hB8 hbz hg hk hv8 hgz
    unfold nodeC nodeV at HV8
    unfold nodeC nodeV
    go_wp2_with fail
    rw [HV8.out, HGZ8.out]
    refine (PR.out ((⟨#[40, 40]⟩ : ByteArray) ++ a ++ (⟨#[41, 40]⟩ : ByteArray) ++ b ++ (⟨#[41, 41, 40]⟩ : ByteArray) ++ c ++ (⟨#[41]⟩ : ByteArray)) v8 (HL.out.below HB8.out)).mono ?_
    rintro _ w9 ⟨x9, y9, r9, rfl, hp9, hg9, hb9⟩
    have hE9 := C9.out.symm.trans hp9
    obtain ⟨hx9, hA9⟩ := Prod.mk.inj hE9
    obtain ⟨hA9, hR9⟩ := Prod.mk.inj hA9
    have HX9 := Lib.hid hx9.symm
    subst hR9
    clear hE9 hA9 hx9
    have hB9 := (hop HB8.out (Nat.le_refl _) hb9)
    have HB9 := Lib.hid (hB9.alloc hB9.size (.cells (nodeC x9) 36))
    have hbz := (hb9.alloc hb9.size (.cells (nodeC x9) 36))
    have hg := hg9.alloc (.cells (nodeC x9) 36)
    have hk := Blk.new w9 36 (nodeC x9)
    obtain ⟨g9, hgz⟩ : ∃ g, w9.heap.size = g := ⟨_, rfl⟩
    obtain ⟨v9, hv9⟩ : ∃ v, w9.alloc (.cells (nodeC x9) 36) = v := ⟨_, rfl⟩
    rw [hgz] at hk
    rw [hv9] at hg HB9 hk
    have HG9_ := Lib.hid hg
    have HK9_ := Lib.hid hk
    have HV9 := Lib.hid hv9
    have HGZ9 := Lib.hid hgz
    have hgg := HG4_.out.later hbz
    have hkk := HK4_.out.below hbz HK4_.out.lt
    rw [hv9] at hgg hkk
    clear HG4_ HK4_
    have HG4_ := Lib.hid hgg
    have HK4_ := Lib.hid hkk
    clear hgg hkk
    have hgg := HG7_.out.later hbz
    have hkk := HK7_.out.below hbz HK7_.out.lt
    rw [hv9] at hgg hkk
    clear HG7_ HK7_
    have HG7_ := Lib.hid hgg
    have HK7_ := Lib.hid hkk
    clear hgg hkk
    have hgg := HG8_.out.later hbz
    have hkk := HK8_.out.below hbz HK8_.out.lt
    rw [hv9] at hgg hkk
    clear HG8_ HK8_
    have HG8_ := Lib.hid hgg
    have HK8_ := Lib.hid hkk
    clear hgg hkk
    clear hp9 hg9 hb9 hB9 hbz hg hk hv9 hgz
    unfold nodeC nodeV at HV9
    unfold nodeC nodeV
    go_wp2_with fail
    rw [HV9.out, HGZ9.out]
    refine (PR.out ((⟨#[40]⟩ : ByteArray) ++ a ++ (⟨#[41, 124, 40, 40]⟩ : ByteArray) ++ b ++ (⟨#[41, 124, 40]⟩ : ByteArray) ++ c ++ (⟨#[41, 41]⟩ : ByteArray)) v9 (HL.out.below HB9.out)).mono ?_
    rintro _ w10 ⟨x10, y10, r10, rfl, hp10, hg10, hb10⟩
    have hE10 := C10.out.symm.trans hp10
    obtain ⟨hx10, hA10⟩ := Prod.mk.inj hE10
    obtain ⟨hA10, hR10⟩ := Prod.mk.inj hA10
    have HX10 := Lib.hid hx10.symm
    subst hR10
    clear hE10 hA10 hx10
    have hB10 := (hop HB9.out (Nat.le_refl _) hb10)
    have HB10 := Lib.hid (hB10.alloc hB10.size (.cells (nodeC x10) 36))
    have hbz := (hb10.alloc hb10.size (.cells (nodeC x10) 36))
    have hg := hg10.alloc (.cells (nodeC x10) 36)
    have hk := Blk.new w10 36 (nodeC x10)
    obtain ⟨g10, hgz⟩ : ∃ g, w10.heap.size = g := ⟨_, rfl⟩
    obtain ⟨v10, hv10⟩ : ∃ v, w10.alloc (.cells (nodeC x10) 36) = v := ⟨_, rfl⟩
    rw [hgz] at hk
    rw [hv10] at hg HB10 hk
    have HG10_ := Lib.hid hg
    have HK10_ := Lib.hid hk
    have HV10 := Lib.hid hv10
    have HGZ10 := Lib.hid hgz
    have hgg := HG4_.out.later hbz
    have hkk := HK4_.out.below hbz HK4_.out.lt
    rw [hv10] at hgg hkk
    clear HG4_ HK4_
    have HG4_ := Lib.hid hgg
    have HK4_ := Lib.hid hkk
    clear hgg hkk
    have hgg := HG7_.out.later hbz
    have hkk := HK7_.out.below hbz HK7_.out.lt
    rw [hv10] at hgg hkk
    clear HG7_ HK7_
    have HG7_ := Lib.hid hgg
    have HK7_ := Lib.hid hkk
    clear hgg hkk
    have hgg := HG8_.out.later hbz
    have hkk := HK8_.out.below hbz HK8_.out.lt
    rw [hv10] at hgg hkk
    clear HG8_ HK8_
    have HG8_ := Lib.hid hgg
    have HK8_ := Lib.hid hkk
    clear hgg hkk
    have hgg := HG9_.out.later hbz
    have hkk := HK9_.out.below hbz HK9_.out.lt
    rw [hv10] at hgg hkk
    clear HG9_ HK9_
    have HG9_ := Lib.hid hgg
    have HK9_ := Lib.hid hkk
    clear hgg hkk
    clear hp10 hg10 hb10 hB10 hbz hg hk hv10 hgz
    unfold nodeC nodeV at HV10
    unfold nodeC nodeV
    go_wp2_with fail
    rw [HV10.out, HGZ10.out]
    refine (PR.out ((⟨#[40, 40]⟩ : ByteArray) ++ a ++ (⟨#[41, 124, 40]⟩ : ByteArray) ++ b ++ (⟨#[41, 41, 124]⟩ : ByteArray) ++ c) v10 (HL.out.below HB10.out)).mono ?_
    rintro _ w11 ⟨x11, y11, r11, rfl, hp11, hg11, hb11⟩
    have hE11 := C11.out.symm.trans hp11
    obtain ⟨hx11, hA11⟩ := Prod.mk.inj hE11
    obtain ⟨hA11, hR11⟩ := Prod.mk.inj hA11
    have HX11 := Lib.hid hx11.symm
    subst hR11
    clear hE11 hA11 hx11
    have hB11 := (hop HB10.out (Nat.le_refl _) hb11)
    have HB11 := Lib.hid (hB11.alloc hB11.size (.cells (nodeC x11) 36))
    have hbz := (hb11.alloc hb11.size (.cells (nodeC x11) 36))
    have hg := hg11.alloc (.cells (nodeC x11) 36)
    have hk := Blk.new w11 36 (nodeC x11)
    obtain ⟨g11, hgz⟩ : ∃ g, w11.heap.size = g := ⟨_, rfl⟩
    obtain ⟨v11, hv11⟩ : ∃ v, w11.alloc (.cells (nodeC x11) 36) = v := ⟨_, rfl⟩
    rw [hgz] at hk
    rw [hv11] at hg HB11 hk
    have HG11_ := Lib.hid hg
    have HK11_ := Lib.hid hk
    have HV11 := Lib.hid hv11
    have HGZ11 := Lib.hid hgz
    have hgg := HG4_.out.later hbz
    have hkk := HK4_.out.below hbz HK4_.out.lt
    obtain ⟨⟨c40, c41, c42, c43, c44, c45, c46, c47⟩, _⟩ := node_cells hkk
    rw [hv11] at hgg hkk
    clear HG4_ HK4_
    have HG4_ := Lib.hid hgg
    have HK4_ := Lib.hid hkk
    clear hgg hkk
    have hgg := HG7_.out.later hbz
    have hkk := HK7_.out.below hbz HK7_.out.lt
    obtain ⟨⟨c70, c71, c72, c73, c74, c75, c76, c77⟩, _⟩ := node_cells hkk
    rw [hv11] at hgg hkk
    clear HG7_ HK7_
    have HG7_ := Lib.hid hgg
    have HK7_ := Lib.hid hkk
    clear hgg hkk
    have hgg := HG8_.out.later hbz
    have hkk := HK8_.out.below hbz HK8_.out.lt
    rw [hv11] at hgg hkk
    clear HG8_ HK8_
    have HG8_ := Lib.hid hgg
    have HK8_ := Lib.hid hkk
    clear hgg hkk
    have hgg := HG9_.out.later hbz
    have hkk := HK9_.out.below hbz HK9_.out.lt
    rw [hv11] at hgg hkk
    clear HG9_ HK9_
    have HG9_ := Lib.hid hgg
    have HK9_ := Lib.hid hkk
    clear hgg hkk
    have hgg := HG10_.out.later hbz
    have hkk := HK10_.out.below hbz HK10_.out.lt
    rw [hv11] at hgg hkk
    clear HG10_ HK10_
    have HG10_ := Lib.hid hgg
    have HK10_ := Lib.hid hkk
    clear hgg hkk
    clear hp11 hg11 hb11 hB11 hbz hg hk hv11 hgz
    unfold nodeC nodeV at HV11
    unfold nodeC nodeV
    unfold nodeC nodeV at c40 c41 c42 c43 c44 c45 c46 c47 c70 c71 c72 c73 c74 c75 c76 c77
    have z8 : (q8 == q8) = true := by simp
    have z10 : (q10 == q10) = true := by simp
    go_wp2_with fail
    rw [HV11.out, HGZ11.out]
    refine (HSM.out x4 x7 _ rfl HX7.out _ _ v11 HG4_.out HG7_.out).mono ?_
    rintro _ w12 ⟨rfl, hb12⟩
    clear c40 c41 c42 c43 c44 c45 c46 c47 c70 c71 c72 c73 c74 c75 c76 c77
    have HB12 := Lib.hid (hop HB11.out (Nat.le_refl _) hb12)
    have hgg := HG8_.out.later hb12
    have hkk := HK8_.out.below hb12 HK8_.out.lt
    clear HG8_ HK8_
    have HG8_ := Lib.hid hgg
    have HK8_ := Lib.hid hkk
    clear hgg hkk
    have hgg := HG9_.out.later hb12
    have hkk := HK9_.out.below hb12 HK9_.out.lt
    clear HG9_ HK9_
    have HG9_ := Lib.hid hgg
    have HK9_ := Lib.hid hkk
    clear hgg hkk
    have hgg := HG10_.out.later hb12
    have hkk := HK10_.out.below hb12 HK10_.out.lt
    clear HG10_ HK10_
    have HG10_ := Lib.hid hgg
    have HK10_ := Lib.hid hkk
    clear hgg hkk
    have hgg := HG11_.out.later hb12
    have hkk := HK11_.out.below hb12 HK11_.out.lt
    clear HG11_ HK11_
    have HG11_ := Lib.hid hgg
    have HK11_ := Lib.hid hkk
    clear hgg hkk
    clear hb12
    obtain ⟨⟨c80, c81, c82, c83, c84, c85, c86, c87⟩, _⟩ := node_cells HK8_.out
    obtain ⟨⟨c90, c91, c92, c93, c94, c95, c96, c97⟩, _⟩ := node_cells HK9_.out
    go_wp2_with fail
    refine (HSM.out x8 x9 _ HX8.out HX9.out _ _ w12 HG8_.out HG9_.out).mono ?_
    rintro _ w13 ⟨rfl, hb13⟩
    clear c80 c81 c82 c83 c84 c85 c86 c87 c90 c91 c92 c93 c94 c95 c96 c97
    have HB13 := Lib.hid (hop HB12.out (Nat.le_refl _) hb13)
    have hgg := HG10_.out.later hb13
    have hkk := HK10_.out.below hb13 HK10_.out.lt
    clear HG10_ HK10_
    have HG10_ := Lib.hid hgg
    have HK10_ := Lib.hid hkk
    clear hgg hkk
    have hgg := HG11_.out.later hb13
    have hkk := HK11_.out.below hb13 HK11_.out.lt
    clear HG11_ HK11_
    have HG11_ := Lib.hid hgg
    have HK11_ := Lib.hid hkk
    clear hgg hkk
    clear hb13
    obtain ⟨⟨c100, c101, c102, c103, c104, c105, c106, c107⟩, _⟩ := node_cells HK10_.out
    obtain ⟨⟨c110, c111, c112, c113, c114, c115, c116, c117⟩, _⟩ := node_cells HK11_.out
    go_wp2_with fail
    refine (HSM.out x10 x11 _ HX10.out HX11.out _ _ w13 HG10_.out HG11_.out).mono ?_
    rintro _ w14 ⟨rfl, hb14⟩
    clear c100 c101 c102 c103 c104 c105 c106 c107 c110 c111 c112 c113 c114 c115 c116 c117
    have HB14 := Lib.hid (hop HB13.out (Nat.le_refl _) hb14)
    clear hb14
    go_wp2
    go_ret
    exact ⟨by first | rfl | decide | (simp; done), HB14.out⟩
  · have hno : (r4 ≠ 0) ∨ (r4 = 0 ∧ r5 ≠ 0) ∨ (r4 = 0 ∧ r5 = 0 ∧ r6 ≠ 0) ∨ (r4 = 0 ∧ r5 = 0 ∧ r6 = 0 ∧ 200 < a.size + b.size + c.size) := by omega
    have s1 : a.size ≤ 80 := hza
    have s2 : b.size ≤ 80 := hzb
    have s3 : c.size ≤ 80 := hzc
    clear hok
    rcases hno with h | ⟨rfl, h⟩ | ⟨rfl, rfl, h⟩ | ⟨rfl, rfl, rfl, h⟩
    · have z : (r4 == 0) = false := beq_eq_false_iff_ne.2 h
      clear HG4_ HK4_
      go_wp2
      go_ret
      rw [HV6.out]
      exact ⟨rfl, HB6.out⟩
    · have z : (r5 == 0) = false := beq_eq_false_iff_ne.2 h
      clear HG4_ HK4_
      go_wp2
      go_ret
      rw [HV6.out]
      exact ⟨rfl, HB6.out⟩
    · have z : (r6 == 0) = false := beq_eq_false_iff_ne.2 h
      clear HG4_ HK4_
      go_wp2
      go_ret
      rw [HV6.out]
      exact ⟨rfl, HB6.out⟩
    · have hI : (200 : Int) < (a.size : Int) + (b.size : Int) + (c.size : Int) := by omega
      have hI2 : (a.size : Int) + (b.size : Int) + (c.size : Int) > 200 := by omega
      clear HG4_ HK4_
      go_wp2
      go_ret
      rw [HV6.out]
      exact ⟨rfl, HB6.out⟩
end Go.Proofs.YtojjeignijpiaaaGreatDoor
