/- RexClasses: the walk of the law. -/
import Derived.Test.YtojjeignijpiaaaGreatDoorRexLaws
import Derived.Test.YtojjeignijpiaaaGreatDoorRexExam
import Derived.Test.YtojjeignijpiaaaGreatDoorConv
namespace Go.Proofs.YtojjeignijpiaaaGreatDoor
open Go.RowKit
set_option linter.unusedVariables false
set_option linter.unusedSimpArgs false

theorem NodeX.t_set (x : NodeX) : x.t.set = x.set := by cases x; rfl
theorem conv_lit (w : World) (l : List UInt8) (n : Nat) (hn : l.length = n) (h : n ≤ 100) : (convert 32 9 (.slice (some ⟨w.heap.size, 0, none⟩) n n)).run Tryz.prog (w.alloc (.cells (bV l).toArray 5)) = .ok (.string ⟨l.toArray⟩) (w.alloc (.cells (bV l).toArray 5)) := by
  subst hn
  exact conv_own (own_new w l 0 (Nat.zero_le _) (by omega))
/-- the letters of a class -/
structure ClsL (lo hi one : Nat) : Prop where
  l0 : 97 ≤ lo
  le : lo ≤ hi
  h1 : hi ≤ 122
  o0 : 48 ≤ one
  o1 : one ≤ 57
theorem no_cspec : ∀ n, n < 256 → (97 ≤ n ∧ n ≤ 122 ∨ 48 ≤ n ∧ n ≤ 57) → UInt8.ofNat n ∉ cspec := by decide +kernel
theorem bV_of (l : List Nat) (h : ∀ n ∈ l, n < 256) : bV (l.map UInt8.ofNat) = l.map fun n : Nat => Value.int .u8 (n : Int) := by
  induction l with
  | nil => rfl
  | cons a l ih =>
    have h1 := ih (fun n hn => h n (List.mem_cons_of_mem a hn))
    unfold bV at h1 ⊢
    rw [List.map_cons, List.map_cons, List.map_cons, h1, u8_nat (h a List.mem_cons_self)]
theorem conv_nats (w : World) (l : List Nat) (hl : ∀ n ∈ l, n < 256) (n : Nat) (hn : l.length = n) (h : n ≤ 100) : (convert 32 9 (.slice (some ⟨w.heap.size, 0, none⟩) n n)).run Tryz.prog (w.alloc (.cells (l.map fun n : Nat => Value.int .u8 (n : Int)).toArray 5)) = .ok (.string ⟨(l.map UInt8.ofNat).toArray⟩) (w.alloc (.cells (l.map fun n : Nat => Value.int .u8 (n : Int)).toArray 5)) := by
  have h2 := conv_lit w (l.map UInt8.ofNat) n (by rw [List.length_map]; exact hn) h
  rw [bV_of l hl] at h2
  exact h2
/-- what is read of a class -/
theorem cls_told {lo hi one : Nat} (h : ClsL lo hi one) (neg : Bool) (k : Nat) : ∃ S, S < 2 ^ 256 ∧ (∀ x, x < 256 → S.testBit x = (((decide (lo ≤ x) && decide (x ≤ hi)) || decide (x = one)) != neg)) ∧
    ∀ l, (l = [lo, 45, hi, one] ∨ l = [one, lo, 45, hi, one] ∨ l = [one, 45, one, lo, 45, hi]) → (parseB (91 :: (hatL neg ++ (l.map UInt8.ofNat ++ [93])))).1 = .one S ∧ (parseB (91 :: (hatL neg ++ (l.map UInt8.ofNat ++ [93])))).2.2 = 0 := by
  obtain ⟨a1, a2, a3, a4, a5⟩ := h
  have e1 := u8_nat (show lo < 256 by omega)
  have e2 := u8_nat (show hi < 256 by omega)
  have e3 := u8_nat (show one < 256 by omega)
  have n1 := no_cspec lo (by omega) (.inl ⟨a1, by omega⟩)
  have n2 := no_cspec hi (by omega) (.inl ⟨by omega, a3⟩)
  have n3 := no_cspec one (by omega) (.inr ⟨a4, a5⟩)
  obtain ⟨c1, c2, c3⟩ := class_one neg n1 n2 n3 (by omega) (by omega) (by omega)
  refine ⟨if neg then notB (classU (UInt8.ofNat lo) (UInt8.ofNat hi) (UInt8.ofNat one)) else classU (UInt8.ofNat lo) (UInt8.ofNat hi) (UInt8.ofNat one), ?_, fun x hx => ?_, fun l hl => ?_⟩
  · have hU : classU (UInt8.ofNat lo) (UInt8.ofNat hi) (UInt8.ofNat one) < 2 ^ 256 := by
      unfold classU
      exact Nat.or_lt_two_pow (withB_lt _ _ (by decide) (UInt8.toNat_lt _)) (oneB_lt _ (UInt8.toNat_lt _))
    cases neg
    · exact hU
    · exact notB_lt hU
  · rw [classU_has _ _ _ neg x hx, e1, e2, e3]
  · rcases hl with rfl | rfl | rfl
    · exact class_parse (l := [UInt8.ofNat 45, UInt8.ofNat hi, UInt8.ofNat one]) neg n1 c1 (by simp)
    · exact class_parse (l := [UInt8.ofNat lo, UInt8.ofNat 45, UInt8.ofNat hi, UInt8.ofNat one]) neg n3 c2 (by simp)
    · exact class_parse (l := [UInt8.ofNat 45, UInt8.ofNat one, UInt8.ofNat lo, UInt8.ofNat 45, UInt8.ofNat hi]) neg n3 c3 (by simp)
theorem in_ways {lo hi one : Nat} (h : ClsL lo hi one) (y : Nat) : (decide (lo ≤ y) = true ∧ decide (y ≤ hi) = true) ∨ (decide (lo ≤ y) = true ∧ decide (y ≤ hi) = false) ∨ (decide (lo ≤ y) = false ∧ decide (y ≤ hi) = true) := by
  by_cases u1 : lo ≤ y
  · by_cases u2 : y ≤ hi
    · exact .inl ⟨decide_eq_true u1, decide_eq_true u2⟩
    · exact .inr (.inl ⟨decide_eq_true u1, decide_eq_false u2⟩)
  · exact .inr (.inr ⟨decide_eq_false u1, decide_eq_true (by have := h.le; omega)⟩)
theorem of_bool {p : Prop} [Decidable p] {b : Bool} (h : decide p = b) : if b then p else ¬ p := by
  cases b
  · exact of_decide_eq_false h
  · exact of_decide_eq_true h
set_option maxRecDepth 100000 in
set_option maxHeartbeats 12800000 in
theorem rexClasses_walk {W : World} (a b c d : Int) (neg : Bool) (x : Int) (wa : (Lit.int .u8 a).wf = true) (wb : (Lit.int .u8 b).wf = true) (wc : (Lit.int .u8 c).wf = true) (wd : (Lit.int .u8 d).wf = true) (wx : (Lit.int .u8 x).wf = true) (hl : LibIs W) :
    Calls Tryz.prog 9 #[.int .u8 a, .int .u8 b, .int .u8 c, .int .u8 d, .bool neg, .int .u8 x] W fun e w' => e = .returned (.bool true) ∧ Below W.heap.size W w' := by
  obtain ⟨a0, a1⟩ := bdu8 wa
  obtain ⟨b0, b1⟩ := bdu8 wb
  obtain ⟨c0, c1⟩ := bdu8 wc
  obtain ⟨d0, d1⟩ := bdu8 wd
  obtain ⟨x0, x1⟩ := bdu8 wx
  obtain ⟨p, hp, hp26⟩ : ∃ k : Nat, a.tmod 26 = (k : Int) ∧ k < 26 := ⟨(a.tmod 26).toNat, by rw [Int.tmod_eq_emod_of_nonneg a0]; omega, by rw [Int.tmod_eq_emod_of_nonneg a0]; omega⟩
  obtain ⟨q, hq, hq26⟩ : ∃ k : Nat, b.tmod 26 = (k : Int) ∧ k < 26 := ⟨(b.tmod 26).toNat, by rw [Int.tmod_eq_emod_of_nonneg b0]; omega, by rw [Int.tmod_eq_emod_of_nonneg b0]; omega⟩
  obtain ⟨r, hr, hr10⟩ : ∃ k : Nat, c.tmod 10 = (k : Int) ∧ k < 10 := ⟨(c.tmod 10).toNat, by rw [Int.tmod_eq_emod_of_nonneg c0]; omega, by rw [Int.tmod_eq_emod_of_nonneg c0]; omega⟩
  obtain ⟨y, rfl⟩ : ∃ k : Nat, x = k := ⟨x.toNat, by omega⟩
  have hp' : a % 26 = (p : Int) := by rw [← hp, Int.tmod_eq_emod_of_nonneg a0]
  have hq' : b % 26 = (q : Int) := by rw [← hq, Int.tmod_eq_emod_of_nonneg b0]
  have hr' : c % 10 = (r : Int) := by rw [← hr, Int.tmod_eq_emod_of_nonneg c0]
  have wp : IntKind.u8.wrap (p : Int) = (p : Int) := by rw [IntKind.wrap_u8]; omega
  have wq : IntKind.u8.wrap (q : Int) = (q : Int) := by rw [IntKind.wrap_u8]; omega
  have wr : IntKind.u8.wrap (r : Int) = (r : Int) := by rw [IntKind.wrap_u8]; omega
  obtain ⟨mn, hmn⟩ : ∃ k : Nat, min p q = k := ⟨_, rfl⟩
  obtain ⟨mx, hmx⟩ : ∃ k : Nat, max p q = k := ⟨_, rfl⟩
  have hmnI : min (p : Int) (q : Int) = (mn : Int) := by omega
  have hmxI : max (p : Int) (q : Int) = (mx : Int) := by omega
  obtain ⟨lo, hlo⟩ : ∃ k : Nat, 97 + mn = k := ⟨_, rfl⟩
  obtain ⟨hi, hhi⟩ : ∃ k : Nat, 97 + mx = k := ⟨_, rfl⟩
  obtain ⟨one, hone⟩ : ∃ k : Nat, 48 + r = k := ⟨_, rfl⟩
  have wlo : IntKind.u8.wrap (97 + (mn : Int)) = (lo : Int) := by rw [IntKind.wrap_u8]; omega
  have whi : IntKind.u8.wrap (97 + (mx : Int)) = (hi : Int) := by rw [IntKind.wrap_u8]; omega
  have wone : IntKind.u8.wrap (48 + (r : Int)) = (one : Int) := by rw [IntKind.wrap_u8]; omega
  have hcls : ClsL lo hi one := ⟨by omega, by omega, by omega, by omega, by omega⟩
  have PR := Lib.hid (fun t w h => parse_rex t w h)
  have HEX := Lib.hid (fun w h => rexExamples_any w h)
  have HL := Lib.hid hl
  have HC := Lib.hid hcls
  have hy : y < 256 := by omega
  obtain ⟨S, hS, hbit, hcl⟩ := cls_told hcls neg 0
  have hlt : ∀ n, n ∈ [lo, 45, hi, one] → n < 256 := by obtain ⟨q1, q2, q3, q4, q5⟩ := hcls; simp; omega
  have hlt5 : ∀ n, n ∈ [one, lo, 45, hi, one] → n < 256 := by obtain ⟨q1, q2, q3, q4, q5⟩ := hcls; simp; omega
  have hlt6 : ∀ n, n ∈ [one, 45, one, lo, 45, hi] → n < 256 := by obtain ⟨q1, q2, q3, q4, q5⟩ := hcls; simp; omega
  have C4 := fun w : World => conv_nats w [lo, 45, hi, one] hlt 4 rfl (by decide)
  have C5 := fun w : World => conv_nats w [one, lo, 45, hi, one] hlt5 5 rfl (by decide)
  have C6 := fun w : World => conv_nats w [one, 45, one, lo, 45, hi] hlt6 6 rfl (by decide)
  have p4 := hcl _ (.inl rfl)
  have p5 := hcl _ (.inr (.inl rfl))
  have p6 := hcl _ (.inr (.inr rfl))
  have z4 : (⟨([lo, 45, hi, one].map UInt8.ofNat).toArray⟩ : ByteArray).size = 4 := rfl
  have z5 : (⟨([one, lo, 45, hi, one].map UInt8.ofNat).toArray⟩ : ByteArray).size = 5 := rfl
  have z6 : (⟨([one, 45, one, lo, 45, hi].map UInt8.ofNat).toArray⟩ : ByteArray).size = 6 := rfl
  have q4 : (⟨([lo, 45, hi, one].map UInt8.ofNat).toArray⟩ : ByteArray).data.toList = [lo, 45, hi, one].map UInt8.ofNat := rfl
  have q5 : (⟨([one, lo, 45, hi, one].map UInt8.ofNat).toArray⟩ : ByteArray).data.toList = [one, lo, 45, hi, one].map UInt8.ofNat := rfl
  have q6 : (⟨([one, 45, one, lo, 45, hi].map UInt8.ofNat).toArray⟩ : ByteArray).data.toList = [one, 45, one, lo, 45, hi].map UInt8.ofNat := rfl
  rw [← q4] at p4
  rw [← q5] at p5
  rw [← q6] at p6
  obtain ⟨t4, h4⟩ : ∃ t, (⟨([lo, 45, hi, one].map UInt8.ofNat).toArray⟩ : ByteArray) = t := ⟨_, rfl⟩
  obtain ⟨t5, h5⟩ : ∃ t, (⟨([one, lo, 45, hi, one].map UInt8.ofNat).toArray⟩ : ByteArray) = t := ⟨_, rfl⟩
  obtain ⟨t6, h6⟩ : ∃ t, (⟨([one, 45, one, lo, 45, hi].map UInt8.ofNat).toArray⟩ : ByteArray) = t := ⟨_, rfl⟩
  rw [h4] at C4 p4 z4
  rw [h5] at C5 p5 z5
  rw [h6] at C6 p6 z6
  have D4 := fun w : World => show (convert 32 9 (.slice (some ⟨w.heap.size, 0, none⟩) 4 4)).run Tryz.prog (w.alloc (.cells #[.int .u8 (lo : Int), .int .u8 45, .int .u8 (hi : Int), .int .u8 (one : Int)] 5)) = .ok (.string t4) (w.alloc (.cells #[.int .u8 (lo : Int), .int .u8 45, .int .u8 (hi : Int), .int .u8 (one : Int)] 5)) from C4 w
  have D5 := fun w : World => show (convert 32 9 (.slice (some ⟨w.heap.size, 0, none⟩) 5 5)).run Tryz.prog (w.alloc (.cells #[.int .u8 (one : Int), .int .u8 (lo : Int), .int .u8 45, .int .u8 (hi : Int), .int .u8 (one : Int)] 5)) = .ok (.string t5) (w.alloc (.cells #[.int .u8 (one : Int), .int .u8 (lo : Int), .int .u8 45, .int .u8 (hi : Int), .int .u8 (one : Int)] 5)) from C5 w
  have D6 := fun w : World => show (convert 32 9 (.slice (some ⟨w.heap.size, 0, none⟩) 6 6)).run Tryz.prog (w.alloc (.cells #[.int .u8 (one : Int), .int .u8 45, .int .u8 (one : Int), .int .u8 (lo : Int), .int .u8 45, .int .u8 (hi : Int)] 5)) = .ok (.string t6) (w.alloc (.cells #[.int .u8 (one : Int), .int .u8 45, .int .u8 (one : Int), .int .u8 (lo : Int), .int .u8 45, .int .u8 (hi : Int)] 5)) from C6 w
  have HD4 := Lib.hid D4
  have HD5 := Lib.hid D5
  have HD6 := Lib.hid D6
  have hbit2 := hbit y hy
  have HBIT := Lib.hid hbit2
  have HS := Lib.hid hS
  have P4 := Lib.hid p4
  have P5 := Lib.hid p5
  have P6 := Lib.hid p6
  have Q := Lib.hid (show (a : Int) = a from rfl)
  obtain ⟨dv, hdv, hdv2⟩ : ∃ k : Nat, d.tmod 2 = (k : Int) ∧ (k = 0 ∨ k = 1) := ⟨(d.tmod 2).toNat, by rw [Int.tmod_eq_emod_of_nonneg d0]; omega, by rw [Int.tmod_eq_emod_of_nonneg d0]; omega⟩
  have hdv' : d % 2 = (dv : Int) := by rw [← hdv, Int.tmod_eq_emod_of_nonneg d0]
  have wdv : IntKind.u8.wrap (dv : Int) = (dv : Int) := by rw [IntKind.wrap_u8]; omega
  have SM := Lib.hid (fun (p q : NodeX) (h1 : p.t = .one S) (h2 : q.t = .one S) (P Q : Nat → Prop) (w : World) (g1 : GoodN w P p) (g2 : GoodN w Q q) => show Calls Tryz.prog 21 #[.agg (nodeC p), .agg (nodeC q)] w fun e w' => e = .returned (.bool true) ∧ Below w.heap.size w w' from by
    have h := same_rex p q P Q w g1 g2
    rw [h1, h2, sameT_samesT_refl] at h
    exact h)
  have HA := Lib.hid (fun w => rexHas_any S y hy w)
  clear hl wa wb wc wd wx hcls hbit hcl hlt hlt5 hlt6 C4 C5 C6 D4 D5 D6 h4 h5 h6 q4 q5 q6 p4 p5 p6 hbit2 hS
  rcases hdv2 with rfl | rfl
  all_goals cases neg
  · go_enter Tryz.func9, Tryz.ntmps9
    go_wp2_with fail
    refine (HEX.out W HL.out).mono ?_
    rintro e w1 ⟨rfl, hb⟩
    have D4 := HD4.out w1
    have D5 := HD5.out (w1.alloc (.cells #[.int .u8 (lo : Int), .int .u8 45, .int .u8 (hi : Int), .int .u8 (one : Int)] 5))
    have D6 := HD6.out ((w1.alloc (.cells #[.int .u8 (lo : Int), .int .u8 45, .int .u8 (hi : Int), .int .u8 (one : Int)] 5)).alloc (.cells #[.int .u8 (one : Int), .int .u8 (lo : Int), .int .u8 45, .int .u8 (hi : Int), .int .u8 (one : Int)] 5))
    simp only [World.size_alloc] at D4 D5 D6
    have HB1 := Lib.hid (show Below W.heap.size W (((w1.alloc (.cells #[.int .u8 (lo : Int), .int .u8 45, .int .u8 (hi : Int), .int .u8 (one : Int)] 5)).alloc (.cells #[.int .u8 (one : Int), .int .u8 (lo : Int), .int .u8 45, .int .u8 (hi : Int), .int .u8 (one : Int)] 5)).alloc (.cells #[.int .u8 (one : Int), .int .u8 45, .int .u8 (one : Int), .int .u8 (lo : Int), .int .u8 45, .int .u8 (hi : Int)] 5)) from (((hb.alloc hb.size _).alloc (by have := hb.size; simp; omega) _).alloc (by have := hb.size; simp; omega) _))
    obtain ⟨v1, hv1⟩ : ∃ v, (((w1.alloc (.cells #[.int .u8 (lo : Int), .int .u8 45, .int .u8 (hi : Int), .int .u8 (one : Int)] 5)).alloc (.cells #[.int .u8 (one : Int), .int .u8 (lo : Int), .int .u8 45, .int .u8 (hi : Int), .int .u8 (one : Int)] 5)).alloc (.cells #[.int .u8 (one : Int), .int .u8 45, .int .u8 (one : Int), .int .u8 (lo : Int), .int .u8 45, .int .u8 (hi : Int)] 5)) = v := ⟨_, rfl⟩
    rw [hv1] at HB1
    have HV1 := Lib.hid hv1
    clear hb hv1
    go_wp2_with fail
    rw [HV1.out]
    refine (PR.out ((⟨#[91]⟩ : ByteArray) ++ (⟨#[]⟩ : ByteArray) ++ t4 ++ (⟨#[93]⟩ : ByteArray)) v1 (HL.out.below HB1.out)).mono ?_
    rintro e w2 ⟨x2, a2, r2, rfl, hp2, hg2, hb2⟩
    have e2 : ((⟨#[91]⟩ : ByteArray) ++ (⟨#[]⟩ : ByteArray) ++ t4 ++ (⟨#[93]⟩ : ByteArray)).data.toList = 91 :: (hatL false ++ (t4.data.toList ++ [93])) := by rw [text_joined, text_joined, text_joined, List.append_assoc]; rfl
    have hq2 := P4.out
    rw [e2] at hp2
    rw [hp2] at hq2
    obtain ⟨hx2, hr2⟩ := hq2
    replace hx2 : x2.t = .one S := hx2
    replace hr2 : r2 = 0 := hr2
    subst hr2
    have HX2 := Lib.hid hx2
    have hB2 := (hop HB1.out (Nat.le_refl _) hb2)
    have HB2 := Lib.hid (hB2.alloc hB2.size (.cells (nodeC x2) 36))
    have hgg := hg2.alloc (.cells (nodeC x2) 36)
    have hkk := Blk.new w2 36 (nodeC x2)
    obtain ⟨g2, hg2z⟩ : ∃ g, w2.heap.size = g := ⟨_, rfl⟩
    obtain ⟨v2, hv2⟩ : ∃ v, w2.alloc (.cells (nodeC x2) 36) = v := ⟨_, rfl⟩
    rw [hg2z] at hkk
    rw [hv2] at hgg HB2 hkk
    have HG2 := Lib.hid hgg
    have HK2 := Lib.hid hkk
    have HV2 := Lib.hid hv2
    have HGZ2 := Lib.hid hg2z
    clear hp2 hg2 hb2 e2 hx2 hB2 hgg hkk hv2 hg2z HB1
    unfold nodeC nodeV at HV2
    unfold nodeC nodeV
    go_wp2_with fail
    rw [HV2.out, HGZ2.out]
    refine (PR.out ((⟨#[91]⟩ : ByteArray) ++ (⟨#[]⟩ : ByteArray) ++ t6 ++ (⟨#[93]⟩ : ByteArray)) v2 (HL.out.below HB2.out)).mono ?_
    rintro e w3 ⟨x3, a3, r3, rfl, hp3, hg3, hb3⟩
    have e3 : ((⟨#[91]⟩ : ByteArray) ++ (⟨#[]⟩ : ByteArray) ++ t6 ++ (⟨#[93]⟩ : ByteArray)).data.toList = 91 :: (hatL false ++ (t6.data.toList ++ [93])) := by rw [text_joined, text_joined, text_joined, List.append_assoc]; rfl
    have hq3 := P6.out
    rw [e3] at hp3
    rw [hp3] at hq3
    obtain ⟨hx3, hr3⟩ := hq3
    replace hx3 : x3.t = .one S := hx3
    replace hr3 : r3 = 0 := hr3
    subst hr3
    have HX3 := Lib.hid hx3
    have hB3 := (hop HB2.out (Nat.le_refl _) hb3)
    have HB3 := Lib.hid (hB3.alloc hB3.size (.cells (nodeC x3) 36))
    have hgg := hg3.alloc (.cells (nodeC x3) 36)
    have hkk := Blk.new w3 36 (nodeC x3)
    have hbz := (hb3.alloc hb3.size (.cells (nodeC x3) 36))
    have hg4 := HG2.out.later hbz
    have hk4 := HK2.out.below hbz HK2.out.lt
    have HG3 := Lib.hid hgg
    have HG4 := Lib.hid hg4
    have HK4 := Lib.hid hk4
    have hkind : x2.kind = 1 := by rw [← NodeX.t_kind, HX2.out]; rfl
    have hset : x2.set = S := by rw [← NodeX.t_set, HX2.out]; rfl
    have HKI := Lib.hid hkind
    have HSE := Lib.hid hset
    obtain ⟨⟨c0, c1, c2, c3, c4, c5, c6, c7⟩, _⟩ := node_cells hk4
    obtain ⟨⟨d0, d1, d2, d3, d4, d5, d6, d7⟩, _⟩ := node_cells hkk
    obtain ⟨v3, hv3⟩ : ∃ v, w3.alloc (.cells (nodeC x3) 36) = v := ⟨_, rfl⟩
    have HV3 := Lib.hid hv3
    rw [hv3] at HB3 HG3 HG4 HK4
    clear hv3
    clear hp3 hg3 hb3 e3 hx3 hB3 hgg hbz hg4 hk4 hkk hkind hset HB2
    have hbit := HBIT.out
    rw [show decide (y = one) = ((y : Int) == (one : Int)) by rw [Bool.eq_iff_iff, beq_iff_eq, decide_eq_true_iff]; omega] at hbit
    rcases in_ways HC.out y with ⟨i1, i2⟩ | ⟨i1, i2⟩ | ⟨i1, i2⟩
    all_goals cases i3 : ((y : Int) == (one : Int))
    all_goals
      rw [i1, i2, i3] at hbit
      have HBT := Lib.hid hbit
      have k1 := of_bool i1
      have k2 := of_bool i2
      simp only [if_true, if_false, reduceCtorEq, Bool.false_eq_true, ite_true, ite_false] at k1 k2
      clear hbit
      unfold nodeC nodeV at *
      go_wp2_with fail
      rw [HV3.out]
      refine (SM.out x2 x3 HX2.out HX3.out _ _ v3 HG4.out HG3.out).mono ?_
      rintro e w4 ⟨rfl, hb4⟩
      have hk5 := HK4.out.below hb4 HK4.out.lt
      have HB5 := Lib.hid (hop HB3.out (Nat.le_refl _) hb4)
      clear c0 c1 c2 c3 c4 c5 c6 c7 d0 d1 d2 d3 d4 d5 d6 d7 hb4
      obtain ⟨⟨c0, c1, c2, c3, c4, c5, c6, c7⟩, _⟩ := node_cells hk5
      rw [HKI.out] at c0
      rw [HSE.out] at c1 c2 c3 c4
      clear hk5
      go_wp2_with fail
      refine (HA.out w4).mono ?_
      rw [HBT.out]
      rintro e w5 ⟨rfl, hb5⟩
      have HB6 := Lib.hid (hop HB5.out (Nat.le_refl _) hb5)
      clear hb5
      go_wp2
      go_ret
      exact ⟨by first | rfl | decide | simp, HB6.out⟩
  · go_enter Tryz.func9, Tryz.ntmps9
    go_wp2_with fail
    refine (HEX.out W HL.out).mono ?_
    rintro e w1 ⟨rfl, hb⟩
    have D4 := HD4.out w1
    have D5 := HD5.out (w1.alloc (.cells #[.int .u8 (lo : Int), .int .u8 45, .int .u8 (hi : Int), .int .u8 (one : Int)] 5))
    have D6 := HD6.out ((w1.alloc (.cells #[.int .u8 (lo : Int), .int .u8 45, .int .u8 (hi : Int), .int .u8 (one : Int)] 5)).alloc (.cells #[.int .u8 (one : Int), .int .u8 (lo : Int), .int .u8 45, .int .u8 (hi : Int), .int .u8 (one : Int)] 5))
    simp only [World.size_alloc] at D4 D5 D6
    have HB1 := Lib.hid (show Below W.heap.size W (((w1.alloc (.cells #[.int .u8 (lo : Int), .int .u8 45, .int .u8 (hi : Int), .int .u8 (one : Int)] 5)).alloc (.cells #[.int .u8 (one : Int), .int .u8 (lo : Int), .int .u8 45, .int .u8 (hi : Int), .int .u8 (one : Int)] 5)).alloc (.cells #[.int .u8 (one : Int), .int .u8 45, .int .u8 (one : Int), .int .u8 (lo : Int), .int .u8 45, .int .u8 (hi : Int)] 5)) from (((hb.alloc hb.size _).alloc (by have := hb.size; simp; omega) _).alloc (by have := hb.size; simp; omega) _))
    obtain ⟨v1, hv1⟩ : ∃ v, (((w1.alloc (.cells #[.int .u8 (lo : Int), .int .u8 45, .int .u8 (hi : Int), .int .u8 (one : Int)] 5)).alloc (.cells #[.int .u8 (one : Int), .int .u8 (lo : Int), .int .u8 45, .int .u8 (hi : Int), .int .u8 (one : Int)] 5)).alloc (.cells #[.int .u8 (one : Int), .int .u8 45, .int .u8 (one : Int), .int .u8 (lo : Int), .int .u8 45, .int .u8 (hi : Int)] 5)) = v := ⟨_, rfl⟩
    rw [hv1] at HB1
    have HV1 := Lib.hid hv1
    clear hb hv1
    go_wp2_with fail
    rw [HV1.out]
    refine (PR.out ((⟨#[91]⟩ : ByteArray) ++ (⟨#[94]⟩ : ByteArray) ++ t4 ++ (⟨#[93]⟩ : ByteArray)) v1 (HL.out.below HB1.out)).mono ?_
    rintro e w2 ⟨x2, a2, r2, rfl, hp2, hg2, hb2⟩
    have e2 : ((⟨#[91]⟩ : ByteArray) ++ (⟨#[94]⟩ : ByteArray) ++ t4 ++ (⟨#[93]⟩ : ByteArray)).data.toList = 91 :: (hatL true ++ (t4.data.toList ++ [93])) := by rw [text_joined, text_joined, text_joined, List.append_assoc]; rfl
    have hq2 := P4.out
    rw [e2] at hp2
    rw [hp2] at hq2
    obtain ⟨hx2, hr2⟩ := hq2
    replace hx2 : x2.t = .one S := hx2
    replace hr2 : r2 = 0 := hr2
    subst hr2
    have HX2 := Lib.hid hx2
    have hB2 := (hop HB1.out (Nat.le_refl _) hb2)
    have HB2 := Lib.hid (hB2.alloc hB2.size (.cells (nodeC x2) 36))
    have hgg := hg2.alloc (.cells (nodeC x2) 36)
    have hkk := Blk.new w2 36 (nodeC x2)
    obtain ⟨g2, hg2z⟩ : ∃ g, w2.heap.size = g := ⟨_, rfl⟩
    obtain ⟨v2, hv2⟩ : ∃ v, w2.alloc (.cells (nodeC x2) 36) = v := ⟨_, rfl⟩
    rw [hg2z] at hkk
    rw [hv2] at hgg HB2 hkk
    have HG2 := Lib.hid hgg
    have HK2 := Lib.hid hkk
    have HV2 := Lib.hid hv2
    have HGZ2 := Lib.hid hg2z
    clear hp2 hg2 hb2 e2 hx2 hB2 hgg hkk hv2 hg2z HB1
    unfold nodeC nodeV at HV2
    unfold nodeC nodeV
    go_wp2_with fail
    rw [HV2.out, HGZ2.out]
    refine (PR.out ((⟨#[91]⟩ : ByteArray) ++ (⟨#[94]⟩ : ByteArray) ++ t6 ++ (⟨#[93]⟩ : ByteArray)) v2 (HL.out.below HB2.out)).mono ?_
    rintro e w3 ⟨x3, a3, r3, rfl, hp3, hg3, hb3⟩
    have e3 : ((⟨#[91]⟩ : ByteArray) ++ (⟨#[94]⟩ : ByteArray) ++ t6 ++ (⟨#[93]⟩ : ByteArray)).data.toList = 91 :: (hatL true ++ (t6.data.toList ++ [93])) := by rw [text_joined, text_joined, text_joined, List.append_assoc]; rfl
    have hq3 := P6.out
    rw [e3] at hp3
    rw [hp3] at hq3
    obtain ⟨hx3, hr3⟩ := hq3
    replace hx3 : x3.t = .one S := hx3
    replace hr3 : r3 = 0 := hr3
    subst hr3
    have HX3 := Lib.hid hx3
    have hB3 := (hop HB2.out (Nat.le_refl _) hb3)
    have HB3 := Lib.hid (hB3.alloc hB3.size (.cells (nodeC x3) 36))
    have hgg := hg3.alloc (.cells (nodeC x3) 36)
    have hkk := Blk.new w3 36 (nodeC x3)
    have hbz := (hb3.alloc hb3.size (.cells (nodeC x3) 36))
    have hg4 := HG2.out.later hbz
    have hk4 := HK2.out.below hbz HK2.out.lt
    have HG3 := Lib.hid hgg
    have HG4 := Lib.hid hg4
    have HK4 := Lib.hid hk4
    have hkind : x2.kind = 1 := by rw [← NodeX.t_kind, HX2.out]; rfl
    have hset : x2.set = S := by rw [← NodeX.t_set, HX2.out]; rfl
    have HKI := Lib.hid hkind
    have HSE := Lib.hid hset
    obtain ⟨⟨c0, c1, c2, c3, c4, c5, c6, c7⟩, _⟩ := node_cells hk4
    obtain ⟨⟨d0, d1, d2, d3, d4, d5, d6, d7⟩, _⟩ := node_cells hkk
    obtain ⟨v3, hv3⟩ : ∃ v, w3.alloc (.cells (nodeC x3) 36) = v := ⟨_, rfl⟩
    have HV3 := Lib.hid hv3
    rw [hv3] at HB3 HG3 HG4 HK4
    clear hv3
    clear hp3 hg3 hb3 e3 hx3 hB3 hgg hbz hg4 hk4 hkk hkind hset HB2
    have hbit := HBIT.out
    rw [show decide (y = one) = ((y : Int) == (one : Int)) by rw [Bool.eq_iff_iff, beq_iff_eq, decide_eq_true_iff]; omega] at hbit
    rcases in_ways HC.out y with ⟨i1, i2⟩ | ⟨i1, i2⟩ | ⟨i1, i2⟩
    all_goals cases i3 : ((y : Int) == (one : Int))
    all_goals
      rw [i1, i2, i3] at hbit
      have HBT := Lib.hid hbit
      have k1 := of_bool i1
      have k2 := of_bool i2
      simp only [if_true, if_false, reduceCtorEq, Bool.false_eq_true, ite_true, ite_false] at k1 k2
      clear hbit
      unfold nodeC nodeV at *
      go_wp2_with fail
      rw [HV3.out]
      refine (SM.out x2 x3 HX2.out HX3.out _ _ v3 HG4.out HG3.out).mono ?_
      rintro e w4 ⟨rfl, hb4⟩
      have hk5 := HK4.out.below hb4 HK4.out.lt
      have HB5 := Lib.hid (hop HB3.out (Nat.le_refl _) hb4)
      clear c0 c1 c2 c3 c4 c5 c6 c7 d0 d1 d2 d3 d4 d5 d6 d7 hb4
      obtain ⟨⟨c0, c1, c2, c3, c4, c5, c6, c7⟩, _⟩ := node_cells hk5
      rw [HKI.out] at c0
      rw [HSE.out] at c1 c2 c3 c4
      clear hk5
      go_wp2_with fail
      refine (HA.out w4).mono ?_
      rw [HBT.out]
      rintro e w5 ⟨rfl, hb5⟩
      have HB6 := Lib.hid (hop HB5.out (Nat.le_refl _) hb5)
      clear hb5
      go_wp2
      go_ret
      exact ⟨by first | rfl | decide | simp, HB6.out⟩
  · go_enter Tryz.func9, Tryz.ntmps9
    go_wp2_with fail
    refine (HEX.out W HL.out).mono ?_
    rintro e w1 ⟨rfl, hb⟩
    have D4 := HD4.out w1
    have D5 := HD5.out (w1.alloc (.cells #[.int .u8 (lo : Int), .int .u8 45, .int .u8 (hi : Int), .int .u8 (one : Int)] 5))
    skip
    simp only [World.size_alloc] at D4 D5
    have HB1 := Lib.hid (show Below W.heap.size W ((w1.alloc (.cells #[.int .u8 (lo : Int), .int .u8 45, .int .u8 (hi : Int), .int .u8 (one : Int)] 5)).alloc (.cells #[.int .u8 (one : Int), .int .u8 (lo : Int), .int .u8 45, .int .u8 (hi : Int), .int .u8 (one : Int)] 5)) from ((hb.alloc hb.size _).alloc (by have := hb.size; simp; omega) _))
    obtain ⟨v1, hv1⟩ : ∃ v, ((w1.alloc (.cells #[.int .u8 (lo : Int), .int .u8 45, .int .u8 (hi : Int), .int .u8 (one : Int)] 5)).alloc (.cells #[.int .u8 (one : Int), .int .u8 (lo : Int), .int .u8 45, .int .u8 (hi : Int), .int .u8 (one : Int)] 5)) = v := ⟨_, rfl⟩
    rw [hv1] at HB1
    have HV1 := Lib.hid hv1
    clear hb hv1
    go_wp2_with fail
    rw [HV1.out]
    refine (PR.out ((⟨#[91]⟩ : ByteArray) ++ (⟨#[]⟩ : ByteArray) ++ t4 ++ (⟨#[93]⟩ : ByteArray)) v1 (HL.out.below HB1.out)).mono ?_
    rintro e w2 ⟨x2, a2, r2, rfl, hp2, hg2, hb2⟩
    have e2 : ((⟨#[91]⟩ : ByteArray) ++ (⟨#[]⟩ : ByteArray) ++ t4 ++ (⟨#[93]⟩ : ByteArray)).data.toList = 91 :: (hatL false ++ (t4.data.toList ++ [93])) := by rw [text_joined, text_joined, text_joined, List.append_assoc]; rfl
    have hq2 := P4.out
    rw [e2] at hp2
    rw [hp2] at hq2
    obtain ⟨hx2, hr2⟩ := hq2
    replace hx2 : x2.t = .one S := hx2
    replace hr2 : r2 = 0 := hr2
    subst hr2
    have HX2 := Lib.hid hx2
    have hB2 := (hop HB1.out (Nat.le_refl _) hb2)
    have HB2 := Lib.hid (hB2.alloc hB2.size (.cells (nodeC x2) 36))
    have hgg := hg2.alloc (.cells (nodeC x2) 36)
    have hkk := Blk.new w2 36 (nodeC x2)
    obtain ⟨g2, hg2z⟩ : ∃ g, w2.heap.size = g := ⟨_, rfl⟩
    obtain ⟨v2, hv2⟩ : ∃ v, w2.alloc (.cells (nodeC x2) 36) = v := ⟨_, rfl⟩
    rw [hg2z] at hkk
    rw [hv2] at hgg HB2 hkk
    have HG2 := Lib.hid hgg
    have HK2 := Lib.hid hkk
    have HV2 := Lib.hid hv2
    have HGZ2 := Lib.hid hg2z
    clear hp2 hg2 hb2 e2 hx2 hB2 hgg hkk hv2 hg2z HB1
    unfold nodeC nodeV at HV2
    unfold nodeC nodeV
    go_wp2_with fail
    rw [HV2.out, HGZ2.out]
    refine (PR.out ((⟨#[91]⟩ : ByteArray) ++ (⟨#[]⟩ : ByteArray) ++ t5 ++ (⟨#[93]⟩ : ByteArray)) v2 (HL.out.below HB2.out)).mono ?_
    rintro e w3 ⟨x3, a3, r3, rfl, hp3, hg3, hb3⟩
    have e3 : ((⟨#[91]⟩ : ByteArray) ++ (⟨#[]⟩ : ByteArray) ++ t5 ++ (⟨#[93]⟩ : ByteArray)).data.toList = 91 :: (hatL false ++ (t5.data.toList ++ [93])) := by rw [text_joined, text_joined, text_joined, List.append_assoc]; rfl
    have hq3 := P5.out
    rw [e3] at hp3
    rw [hp3] at hq3
    obtain ⟨hx3, hr3⟩ := hq3
    replace hx3 : x3.t = .one S := hx3
    replace hr3 : r3 = 0 := hr3
    subst hr3
    have HX3 := Lib.hid hx3
    have hB3 := (hop HB2.out (Nat.le_refl _) hb3)
    have HB3 := Lib.hid (hB3.alloc hB3.size (.cells (nodeC x3) 36))
    have hgg := hg3.alloc (.cells (nodeC x3) 36)
    have hkk := Blk.new w3 36 (nodeC x3)
    have hbz := (hb3.alloc hb3.size (.cells (nodeC x3) 36))
    have hg4 := HG2.out.later hbz
    have hk4 := HK2.out.below hbz HK2.out.lt
    have HG3 := Lib.hid hgg
    have HG4 := Lib.hid hg4
    have HK4 := Lib.hid hk4
    have hkind : x2.kind = 1 := by rw [← NodeX.t_kind, HX2.out]; rfl
    have hset : x2.set = S := by rw [← NodeX.t_set, HX2.out]; rfl
    have HKI := Lib.hid hkind
    have HSE := Lib.hid hset
    obtain ⟨⟨c0, c1, c2, c3, c4, c5, c6, c7⟩, _⟩ := node_cells hk4
    obtain ⟨⟨d0, d1, d2, d3, d4, d5, d6, d7⟩, _⟩ := node_cells hkk
    obtain ⟨v3, hv3⟩ : ∃ v, w3.alloc (.cells (nodeC x3) 36) = v := ⟨_, rfl⟩
    have HV3 := Lib.hid hv3
    rw [hv3] at HB3 HG3 HG4 HK4
    clear hv3
    clear hp3 hg3 hb3 e3 hx3 hB3 hgg hbz hg4 hk4 hkk hkind hset HB2
    have hbit := HBIT.out
    rw [show decide (y = one) = ((y : Int) == (one : Int)) by rw [Bool.eq_iff_iff, beq_iff_eq, decide_eq_true_iff]; omega] at hbit
    rcases in_ways HC.out y with ⟨i1, i2⟩ | ⟨i1, i2⟩ | ⟨i1, i2⟩
    all_goals cases i3 : ((y : Int) == (one : Int))
    all_goals
      rw [i1, i2, i3] at hbit
      have HBT := Lib.hid hbit
      have k1 := of_bool i1
      have k2 := of_bool i2
      simp only [if_true, if_false, reduceCtorEq, Bool.false_eq_true, ite_true, ite_false] at k1 k2
      clear hbit
      unfold nodeC nodeV at *
      go_wp2_with fail
      rw [HV3.out]
      refine (SM.out x2 x3 HX2.out HX3.out _ _ v3 HG4.out HG3.out).mono ?_
      rintro e w4 ⟨rfl, hb4⟩
      have hk5 := HK4.out.below hb4 HK4.out.lt
      have HB5 := Lib.hid (hop HB3.out (Nat.le_refl _) hb4)
      clear c0 c1 c2 c3 c4 c5 c6 c7 d0 d1 d2 d3 d4 d5 d6 d7 hb4
      obtain ⟨⟨c0, c1, c2, c3, c4, c5, c6, c7⟩, _⟩ := node_cells hk5
      rw [HKI.out] at c0
      rw [HSE.out] at c1 c2 c3 c4
      clear hk5
      go_wp2_with fail
      refine (HA.out w4).mono ?_
      rw [HBT.out]
      rintro e w5 ⟨rfl, hb5⟩
      have HB6 := Lib.hid (hop HB5.out (Nat.le_refl _) hb5)
      clear hb5
      go_wp2
      go_ret
      exact ⟨by first | rfl | decide | simp, HB6.out⟩
  · go_enter Tryz.func9, Tryz.ntmps9
    go_wp2_with fail
    refine (HEX.out W HL.out).mono ?_
    rintro e w1 ⟨rfl, hb⟩
    have D4 := HD4.out w1
    have D5 := HD5.out (w1.alloc (.cells #[.int .u8 (lo : Int), .int .u8 45, .int .u8 (hi : Int), .int .u8 (one : Int)] 5))
    skip
    simp only [World.size_alloc] at D4 D5
    have HB1 := Lib.hid (show Below W.heap.size W ((w1.alloc (.cells #[.int .u8 (lo : Int), .int .u8 45, .int .u8 (hi : Int), .int .u8 (one : Int)] 5)).alloc (.cells #[.int .u8 (one : Int), .int .u8 (lo : Int), .int .u8 45, .int .u8 (hi : Int), .int .u8 (one : Int)] 5)) from ((hb.alloc hb.size _).alloc (by have := hb.size; simp; omega) _))
    obtain ⟨v1, hv1⟩ : ∃ v, ((w1.alloc (.cells #[.int .u8 (lo : Int), .int .u8 45, .int .u8 (hi : Int), .int .u8 (one : Int)] 5)).alloc (.cells #[.int .u8 (one : Int), .int .u8 (lo : Int), .int .u8 45, .int .u8 (hi : Int), .int .u8 (one : Int)] 5)) = v := ⟨_, rfl⟩
    rw [hv1] at HB1
    have HV1 := Lib.hid hv1
    clear hb hv1
    go_wp2_with fail
    rw [HV1.out]
    refine (PR.out ((⟨#[91]⟩ : ByteArray) ++ (⟨#[94]⟩ : ByteArray) ++ t4 ++ (⟨#[93]⟩ : ByteArray)) v1 (HL.out.below HB1.out)).mono ?_
    rintro e w2 ⟨x2, a2, r2, rfl, hp2, hg2, hb2⟩
    have e2 : ((⟨#[91]⟩ : ByteArray) ++ (⟨#[94]⟩ : ByteArray) ++ t4 ++ (⟨#[93]⟩ : ByteArray)).data.toList = 91 :: (hatL true ++ (t4.data.toList ++ [93])) := by rw [text_joined, text_joined, text_joined, List.append_assoc]; rfl
    have hq2 := P4.out
    rw [e2] at hp2
    rw [hp2] at hq2
    obtain ⟨hx2, hr2⟩ := hq2
    replace hx2 : x2.t = .one S := hx2
    replace hr2 : r2 = 0 := hr2
    subst hr2
    have HX2 := Lib.hid hx2
    have hB2 := (hop HB1.out (Nat.le_refl _) hb2)
    have HB2 := Lib.hid (hB2.alloc hB2.size (.cells (nodeC x2) 36))
    have hgg := hg2.alloc (.cells (nodeC x2) 36)
    have hkk := Blk.new w2 36 (nodeC x2)
    obtain ⟨g2, hg2z⟩ : ∃ g, w2.heap.size = g := ⟨_, rfl⟩
    obtain ⟨v2, hv2⟩ : ∃ v, w2.alloc (.cells (nodeC x2) 36) = v := ⟨_, rfl⟩
    rw [hg2z] at hkk
    rw [hv2] at hgg HB2 hkk
    have HG2 := Lib.hid hgg
    have HK2 := Lib.hid hkk
    have HV2 := Lib.hid hv2
    have HGZ2 := Lib.hid hg2z
    clear hp2 hg2 hb2 e2 hx2 hB2 hgg hkk hv2 hg2z HB1
    unfold nodeC nodeV at HV2
    unfold nodeC nodeV
    go_wp2_with fail
    rw [HV2.out, HGZ2.out]
    refine (PR.out ((⟨#[91]⟩ : ByteArray) ++ (⟨#[94]⟩ : ByteArray) ++ t5 ++ (⟨#[93]⟩ : ByteArray)) v2 (HL.out.below HB2.out)).mono ?_
    rintro e w3 ⟨x3, a3, r3, rfl, hp3, hg3, hb3⟩
    have e3 : ((⟨#[91]⟩ : ByteArray) ++ (⟨#[94]⟩ : ByteArray) ++ t5 ++ (⟨#[93]⟩ : ByteArray)).data.toList = 91 :: (hatL true ++ (t5.data.toList ++ [93])) := by rw [text_joined, text_joined, text_joined, List.append_assoc]; rfl
    have hq3 := P5.out
    rw [e3] at hp3
    rw [hp3] at hq3
    obtain ⟨hx3, hr3⟩ := hq3
    replace hx3 : x3.t = .one S := hx3
    replace hr3 : r3 = 0 := hr3
    subst hr3
    have HX3 := Lib.hid hx3
    have hB3 := (hop HB2.out (Nat.le_refl _) hb3)
    have HB3 := Lib.hid (hB3.alloc hB3.size (.cells (nodeC x3) 36))
    have hgg := hg3.alloc (.cells (nodeC x3) 36)
    have hkk := Blk.new w3 36 (nodeC x3)
    have hbz := (hb3.alloc hb3.size (.cells (nodeC x3) 36))
    have hg4 := HG2.out.later hbz
    have hk4 := HK2.out.below hbz HK2.out.lt
    have HG3 := Lib.hid hgg
    have HG4 := Lib.hid hg4
    have HK4 := Lib.hid hk4
    have hkind : x2.kind = 1 := by rw [← NodeX.t_kind, HX2.out]; rfl
    have hset : x2.set = S := by rw [← NodeX.t_set, HX2.out]; rfl
    have HKI := Lib.hid hkind
    have HSE := Lib.hid hset
    obtain ⟨⟨c0, c1, c2, c3, c4, c5, c6, c7⟩, _⟩ := node_cells hk4
    obtain ⟨⟨d0, d1, d2, d3, d4, d5, d6, d7⟩, _⟩ := node_cells hkk
    obtain ⟨v3, hv3⟩ : ∃ v, w3.alloc (.cells (nodeC x3) 36) = v := ⟨_, rfl⟩
    have HV3 := Lib.hid hv3
    rw [hv3] at HB3 HG3 HG4 HK4
    clear hv3
    clear hp3 hg3 hb3 e3 hx3 hB3 hgg hbz hg4 hk4 hkk hkind hset HB2
    have hbit := HBIT.out
    rw [show decide (y = one) = ((y : Int) == (one : Int)) by rw [Bool.eq_iff_iff, beq_iff_eq, decide_eq_true_iff]; omega] at hbit
    rcases in_ways HC.out y with ⟨i1, i2⟩ | ⟨i1, i2⟩ | ⟨i1, i2⟩
    all_goals cases i3 : ((y : Int) == (one : Int))
    all_goals
      rw [i1, i2, i3] at hbit
      have HBT := Lib.hid hbit
      have k1 := of_bool i1
      have k2 := of_bool i2
      simp only [if_true, if_false, reduceCtorEq, Bool.false_eq_true, ite_true, ite_false] at k1 k2
      clear hbit
      unfold nodeC nodeV at *
      go_wp2_with fail
      rw [HV3.out]
      refine (SM.out x2 x3 HX2.out HX3.out _ _ v3 HG4.out HG3.out).mono ?_
      rintro e w4 ⟨rfl, hb4⟩
      have hk5 := HK4.out.below hb4 HK4.out.lt
      have HB5 := Lib.hid (hop HB3.out (Nat.le_refl _) hb4)
      clear c0 c1 c2 c3 c4 c5 c6 c7 d0 d1 d2 d3 d4 d5 d6 d7 hb4
      obtain ⟨⟨c0, c1, c2, c3, c4, c5, c6, c7⟩, _⟩ := node_cells hk5
      rw [HKI.out] at c0
      rw [HSE.out] at c1 c2 c3 c4
      clear hk5
      go_wp2_with fail
      refine (HA.out w4).mono ?_
      rw [HBT.out]
      rintro e w5 ⟨rfl, hb5⟩
      have HB6 := Lib.hid (hop HB5.out (Nat.le_refl _) hb5)
      clear hb5
      go_wp2
      go_ret
      exact ⟨by first | rfl | decide | simp, HB6.out⟩
end Go.Proofs.YtojjeignijpiaaaGreatDoor
