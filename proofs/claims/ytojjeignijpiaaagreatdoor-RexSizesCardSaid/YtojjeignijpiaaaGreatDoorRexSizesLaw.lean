/- RexSizes: the walk of the law. -/
import Derived.Test.YtojjeignijpiaaaGreatDoorRexLaws
import Derived.Test.YtojjeignijpiaaaGreatDoorRexExam
namespace Go.Proofs.YtojjeignijpiaaaGreatDoor
open Go.RowKit
set_option linter.unusedVariables false
set_option linter.unusedSimpArgs false

set_option maxRecDepth 100000 in
set_option maxHeartbeats 12800000 in
theorem rexSizes_walk {W : World} (a b c : Int) (wa : (Lit.int .u8 a).wf = true) (wb : (Lit.int .u8 b).wf = true) (wc : (Lit.int .u8 c).wf = true) (hl : LibIs W) :
    Calls Tryz.prog 7 #[.int .u8 a, .int .u8 b, .int .u8 c] W fun e w' => e = .returned (.bool true) ∧ Below W.heap.size W w' := by
  obtain ⟨a0, a1⟩ := bdu8 wa
  obtain ⟨b0, b1⟩ := bdu8 wb
  obtain ⟨c0, c1⟩ := bdu8 wc
  obtain ⟨m, hm, hm21⟩ : ∃ k : Nat, a.tmod 21 = (k : Int) ∧ k < 21 := ⟨(a.tmod 21).toNat, by rw [Int.tmod_eq_emod_of_nonneg a0]; omega, by rw [Int.tmod_eq_emod_of_nonneg a0]; omega⟩
  have hm' : a % 21 = (m : Int) := by rw [← hm, Int.tmod_eq_emod_of_nonneg a0]
  obtain ⟨d, hd⟩ : ∃ d, 21 - m = d := ⟨_, rfl⟩
  have hd1 : 1 ≤ d := by omega
  obtain ⟨q, rfl⟩ : ∃ k : Nat, b = k := ⟨b.toNat, by omega⟩
  obtain ⟨e, he⟩ : ∃ e, q % d = e := ⟨_, rfl⟩
  have hed : e < d := by rw [← he]; exact Nat.mod_lt _ hd1
  have het : (q : Int).tmod (d : Int) = (e : Int) := by rw [Int.tmod_eq_emod_of_nonneg (by omega), ← he]; rfl
  have het2 : (q : Int) % (d : Int) = (e : Int) := by rw [← he]; rfl
  obtain ⟨n, hn⟩ : ∃ n, m + e = n := ⟨_, rfl⟩
  obtain ⟨r, hr, hr20⟩ : ∃ k : Nat, c.tmod 20 = (k : Int) ∧ k < 20 := ⟨(c.tmod 20).toNat, by rw [Int.tmod_eq_emod_of_nonneg c0]; omega, by rw [Int.tmod_eq_emod_of_nonneg c0]; omega⟩
  have hr' : c % 20 = (r : Int) := by rw [← hr, Int.tmod_eq_emod_of_nonneg c0]
  obtain ⟨k, hk⟩ : ∃ k, 1 + r = k := ⟨_, rfl⟩
  obtain ⟨z, hz⟩ : ∃ z, n + n - m = z := ⟨_, rfl⟩
  have hmn : m ≤ n := by omega
  have hn20 : n ≤ 20 := by omega
  have hk20 : k ≤ 20 := by omega
  have hz40 : z ≤ 40 := by omega
  obtain ⟨p, hp⟩ : ∃ p, k * z = p := ⟨_, rfl⟩
  have hp800 : p ≤ 800 := by rw [← hp]; exact Nat.mul_le_mul hk20 hz40
  have wm : IntKind.u8.wrap (m : Int) = (m : Int) := by rw [IntKind.wrap_u8]; omega
  have wm2 : IntKind.i64.wrap (m : Int) = (m : Int) := by rw [IntKind.wrap_i64]; omega
  have wq : IntKind.i64.wrap (q : Int) = (q : Int) := by rw [IntKind.wrap_i64]; omega
  have wd : IntKind.i64.wrap (21 - (m : Int)) = (d : Int) := by rw [IntKind.wrap_i64]; omega
  have wd2 : (21 - (m : Int)) = (d : Int) := by omega
  have wd3 : ¬ (d : Int) = 0 := by omega
  have we : IntKind.i64.wrap (e : Int) = (e : Int) := by rw [IntKind.wrap_i64]; omega
  have wn : IntKind.i64.wrap ((m : Int) + (e : Int)) = (n : Int) := by rw [IntKind.wrap_i64]; omega
  have wn2 : (m : Int) + (e : Int) = (n : Int) := by omega
  have wr : IntKind.u8.wrap (r : Int) = (r : Int) := by rw [IntKind.wrap_u8]; omega
  have wr2 : IntKind.i64.wrap (r : Int) = (r : Int) := by rw [IntKind.wrap_i64]; omega
  have wk : IntKind.i64.wrap (1 + (r : Int)) = (k : Int) := by rw [IntKind.wrap_i64]; omega
  have wk2 : 1 + (r : Int) = (k : Int) := by omega
  have wz : (n : Int) + (n : Int) - (m : Int) = (z : Int) := by omega
  have wp : (k : Int) * (z : Int) = (p : Int) := by rw [← hp, Int.natCast_mul]
  have SA := repA_size hmn hn20
  have SB := repB_size hmn hn20 hk20
  have PB := repB_parse hmn hn20 hk20
  have PL := repB_put hmn hn20 hk20
  have NA := repA_nf hmn hn20
  have NB := repB_nf hmn hn20 hk20
  rw [hz] at SA SB PB
  rw [hp] at SB PB
  have RA := right_nf NA
  have RB := right_nf NB
  have HSA := Lib.hid SA
  have HSB := Lib.hid SB
  have HPB := Lib.hid PB
  have HPL := Lib.hid PL
  have HNB := Lib.hid NB
  have HRA := Lib.hid RA
  have HRB := Lib.hid RB
  obtain ⟨S, hS⟩ : ∃ S, withB 0 97 97 = S := ⟨_, rfl⟩
  have hS2 : S < 2 ^ 256 := by rw [← hS]; decide +kernel
  have HWI := Lib.hid (fun w => show Calls Tryz.prog 11 #[setV 0, .int .u8 97, .int .u8 97] w fun e w' => e = .returned (setV S) ∧ Below w.heap.size w w' from by
    have h := rexWith_any 0 97 97 (by decide) (by decide) w
    rw [hS] at h
    exact h)
  have HSS := Lib.hid hS
  have HS2 := Lib.hid hS2
  have PR := Lib.hid (fun t w h => parse_rex t w h)
  have HEX := Lib.hid (fun w h => rexExamples_any w h)
  have HL := Lib.hid hl
  clear SA SB PB PL NA NB RA RB hS hS2 hl wa wb wc hp hz hn hk hd he
  go_enter Tryz.func7, Tryz.ntmps7
  go_wp2_with fail
  refine (HEX.out W HL.out).mono ?_
  rintro _ w1 ⟨rfl, hb1⟩
  have HB1 := Lib.hid hb1
  clear hb1 HEX
  go_wp2_with fail
  refine (HWI.out w1).mono ?_
  rintro _ w2 ⟨rfl, hb2⟩
  have HB2 := Lib.hid (hop HB1.out (Nat.le_refl _) hb2)
  have e1 : (nodeC (oneX S)) = #[.int .i64 1, .int .u64 (word S 0 : Nat), .int .u64 (word S 1 : Nat), .int .u64 (word S 2 : Nat), .int .u64 (word S 3 : Nat), .int .i64 0, .int .i64 0, .slice none 0 0] := rfl
  have e2 : nodeC (repX (oneX S) m n w2.heap.size) = #[.int .i64 6, .int .u64 0, .int .u64 0, .int .u64 0, .int .u64 0, .int .i64 (m : Nat), .int .i64 (n : Nat), .slice (some ⟨w2.heap.size, 0, none⟩) 1 1] := (mkX_c 6 m n (some ⟨w2.heap.size, 0, none⟩) 1 1 [oneX S]).symm
  have e3 : nodeC (repX (repX (oneX S) m n w2.heap.size) k k (w2.heap.size + 1 + 1)) = #[.int .i64 6, .int .u64 0, .int .u64 0, .int .u64 0, .int .u64 0, .int .i64 (k : Nat), .int .i64 (k : Nat), .slice (some ⟨w2.heap.size + 1 + 1, 0, none⟩) 1 1] := (mkX_c 6 k k (some ⟨w2.heap.size + 1 + 1, 0, none⟩) 1 1 [repX (oneX S) m n w2.heap.size]).symm
  have g1 : GoodN w2 (fun g => W.heap.size ≤ g) (oneX S) := GoodN.one _ _ HS2.out
  have g2 := g1.lit m n w2.heap.size rfl
  have g2' := g2.weaken (Q := fun g => W.heap.size ≤ g) (fun g hg _ => by have := HB2.out.size; omega)
  have g3 := g2'.alloc (.cells (nodeC (repX (oneX S) m n w2.heap.size)) 36)
  have g4 := g3.lit k k (w2.heap.size + 1 + 1) (by simp)
  have g4' := g4.weaken (Q := fun g => W.heap.size ≤ g) (fun g hg _ => by have := HB2.out.size; simp at hg; omega)
  have g5 := g4'.alloc (.cells (nodeC (repX (repX (oneX S) m n w2.heap.size) k k (w2.heap.size + 1 + 1))) 36)
  have g6 := ((g3.alloc (.cells (nodeC (repX (oneX S) m n w2.heap.size)) 36))).alloc (.cells (nodeC (repX (repX (oneX S) m n w2.heap.size) k k (w2.heap.size + 1 + 1))) 36)
  have ba := new_at (w2.alloc (.cells (nodeC (oneX S)) 36)) 36 (nodeC (repX (oneX S) m n w2.heap.size)) (w2.heap.size + 1) (by simp)
  have ba2 := (ba.alloc (.cells (nodeC (repX (oneX S) m n w2.heap.size)) 36)).alloc (.cells (nodeC (repX (repX (oneX S) m n w2.heap.size) k k (w2.heap.size + 1 + 1))) 36)
  have bb := new_at (((w2.alloc (.cells (nodeC (oneX S)) 36)).alloc (.cells (nodeC (repX (oneX S) m n w2.heap.size)) 36)).alloc (.cells (nodeC (repX (oneX S) m n w2.heap.size)) 36)) 36 (nodeC (repX (repX (oneX S) m n w2.heap.size) k k (w2.heap.size + 1 + 1))) (w2.heap.size + 1 + 1 + 1) (by simp)
  obtain ⟨⟨c0', c1', c2', c3', c4', c5', c6', c7'⟩, _⟩ := node_cells ba
  obtain ⟨⟨d0, d1, d2, d3, d4, d5, d6, d7⟩, _⟩ := node_cells bb
  have hbel := (((HB2.out.alloc HB2.out.size (.cells (nodeC (oneX S)) 36)).alloc (by have := HB2.out.size; simp; omega) (.cells (nodeC (repX (oneX S) m n w2.heap.size)) 36)).alloc (by have := HB2.out.size; simp; omega) (.cells (nodeC (repX (oneX S) m n w2.heap.size)) 36)).alloc (by have := HB2.out.size; simp; omega) (.cells (nodeC (repX (repX (oneX S) m n w2.heap.size) k k (w2.heap.size + 1 + 1))) 36)
  have HAt := Lib.hid (show (repX (oneX S) m n w2.heap.size).t = repA m n by rw [repX_t]; unfold repA; rw [show (oneX S).t = .one S from rfl, ← HSS.out]; rfl)
  have HBt := Lib.hid (show (repX (repX (oneX S) m n w2.heap.size) k k (w2.heap.size + 1 + 1)).t = repB m n k by rw [repX_t, HAt.out]; rfl)
  simp only [e1, e2, e3] at c0' c1' c2' c3' c4' c5' c6' c7' d0 d1 d2 d3 d4 d5 d6 d7
  simp only [repX, NodeX.kind, NodeX.set, NodeX.mn, NodeX.mx, NodeX.A, NodeX.n, NodeX.c, word_zero] at c0' c1' c2' c3' c4' c5' c6' c7' d0 d1 d2 d3 d4 d5 d6 d7
  obtain ⟨XA, hXA⟩ : ∃ X, repX (oneX S) m n w2.heap.size = X := ⟨_, rfl⟩
  rw [hXA] at e2 e3 g5 g6 ba2 bb hbel HAt HBt
  obtain ⟨XB, hXB⟩ : ∃ X, repX XA k k (w2.heap.size + 1 + 1) = X := ⟨_, rfl⟩
  rw [hXB] at e3 g5 g6 ba2 bb hbel HBt
  rw [e1, e2] at hbel g5 g6
  rw [e3] at hbel g5 g6
  have hA6 : Blk ((((w2.alloc (.cells #[.int .i64 1, .int .u64 (word S 0 : Nat), .int .u64 (word S 1 : Nat), .int .u64 (word S 2 : Nat), .int .u64 (word S 3 : Nat), .int .i64 0, .int .i64 0, .slice none 0 0] 36)).alloc (.cells #[.int .i64 6, .int .u64 0, .int .u64 0, .int .u64 0, .int .u64 0, .int .i64 (m : Nat), .int .i64 (n : Nat), .slice (some ⟨w2.heap.size, 0, none⟩) 1 1] 36)).alloc (.cells #[.int .i64 6, .int .u64 0, .int .u64 0, .int .u64 0, .int .u64 0, .int .i64 (m : Nat), .int .i64 (n : Nat), .slice (some ⟨w2.heap.size, 0, none⟩) 1 1] 36)).alloc (.cells #[.int .i64 6, .int .u64 0, .int .u64 0, .int .u64 0, .int .u64 0, .int .i64 (k : Nat), .int .i64 (k : Nat), .slice (some ⟨w2.heap.size + 1 + 1, 0, none⟩) 1 1] 36)) (w2.heap.size + 1) 36 (nodeC XA) := by rw [e1, e2, e3] at ba2; rw [e2]; exact ba2
  have hB6 : Blk ((((w2.alloc (.cells #[.int .i64 1, .int .u64 (word S 0 : Nat), .int .u64 (word S 1 : Nat), .int .u64 (word S 2 : Nat), .int .u64 (word S 3 : Nat), .int .i64 0, .int .i64 0, .slice none 0 0] 36)).alloc (.cells #[.int .i64 6, .int .u64 0, .int .u64 0, .int .u64 0, .int .u64 0, .int .i64 (m : Nat), .int .i64 (n : Nat), .slice (some ⟨w2.heap.size, 0, none⟩) 1 1] 36)).alloc (.cells #[.int .i64 6, .int .u64 0, .int .u64 0, .int .u64 0, .int .u64 0, .int .i64 (m : Nat), .int .i64 (n : Nat), .slice (some ⟨w2.heap.size, 0, none⟩) 1 1] 36)).alloc (.cells #[.int .i64 6, .int .u64 0, .int .u64 0, .int .u64 0, .int .u64 0, .int .i64 (k : Nat), .int .i64 (k : Nat), .slice (some ⟨w2.heap.size + 1 + 1, 0, none⟩) 1 1] 36)) (w2.heap.size + 1 + 1 + 1) 36 (nodeC XB) := by rw [e1, e2, e3] at bb; rw [e3]; exact bb
  obtain ⟨g0, hg0⟩ : ∃ g, w2.heap.size = g := ⟨_, rfl⟩
  obtain ⟨v6, hv6⟩ : ∃ v, ((((w2.alloc (.cells #[.int .i64 1, .int .u64 (word S 0 : Nat), .int .u64 (word S 1 : Nat), .int .u64 (word S 2 : Nat), .int .u64 (word S 3 : Nat), .int .i64 0, .int .i64 0, .slice none 0 0] 36)).alloc (.cells #[.int .i64 6, .int .u64 0, .int .u64 0, .int .u64 0, .int .u64 0, .int .i64 (m : Nat), .int .i64 (n : Nat), .slice (some ⟨w2.heap.size, 0, none⟩) 1 1] 36)).alloc (.cells #[.int .i64 6, .int .u64 0, .int .u64 0, .int .u64 0, .int .u64 0, .int .i64 (m : Nat), .int .i64 (n : Nat), .slice (some ⟨w2.heap.size, 0, none⟩) 1 1] 36)).alloc (.cells #[.int .i64 6, .int .u64 0, .int .u64 0, .int .u64 0, .int .u64 0, .int .i64 (k : Nat), .int .i64 (k : Nat), .slice (some ⟨w2.heap.size + 1 + 1, 0, none⟩) 1 1] 36)) = v := ⟨_, rfl⟩
  rw [hv6] at hbel g5 g6 hA6 hB6
  rw [hg0] at hA6 hB6 e3
  have HV6 := Lib.hid hv6
  have HG0 := Lib.hid hg0
  have G5 := Lib.hid g5
  have G6 := Lib.hid g6
  have HB6 := Lib.hid hbel
  have KA := Lib.hid hA6
  have KB := Lib.hid hB6
  have E3 := Lib.hid e3
  clear g1 g2 g2' g3 g4 g4' g5 g6 ba ba2 bb hbel hA6 hB6 hXA hXB e1 e2 e3 hb2 hg0 hv6
  clear hm hm' het het2 wm wm2 wq wd wd2 wd3 we wn wn2 wr wr2 wk wk2 hr hr'
  unfold setV setC
  have PU := put_rex XB _ v6 G5.out (by rw [HBt.out]; exact HNB.out) (HL.out.below HB6.out) (by rw [HBt.out]; have := HPL.out; omega)
  rw [E3.out, HBt.out] at PU
  replace PU := Lib.hid PU
  go_wp2_with fail
  rw [HV6.out, HG0.out]
  refine PU.out.mono ?_
  rintro _ w7 ⟨⟨s7, rfl, hs7⟩, hb7⟩
  have HS7 := Lib.hid hs7
  have GA6 := G6
  have GB6 := G5
  have KA6 := KA
  have KB6 := KB
  have HB7 := Lib.hid (hop HB6.out (Nat.le_refl _) hb7)
  have GA7 := Lib.hid (GA6.out.later hb7)
  have GB7 := Lib.hid (GB6.out.later hb7)
  have KA7 := Lib.hid (KA6.out.below hb7 KA6.out.lt)
  have KB7 := Lib.hid (KB6.out.below hb7 KB6.out.lt)
  clear hb7 HB6 GA6 GB6 KA6 KB6
  clear c0' c1' c2' c3' c4' c5' c6' c7' d0 d1 d2 d3 d4 d5 d6 d7 hs7 G5 G6 KA KB PU
  go_wp2_with fail
  refine (PR.out s7 w7 (HL.out.below HB7.out)).mono ?_
  rintro _ w8 ⟨x8, y8, r8, rfl, hp8, hg8, hb8⟩
  have hr8 : r8 = if 200 < p then 4 else 0 := by
    have h := HPB.out
    rw [← HS7.out, hp8] at h
    exact h
  have hb8 := hb8.alloc hb8.size (.cells (nodeC x8) 36)
  have HB8 := Lib.hid (hop HB7.out (Nat.le_refl _) hb8)
  have GA8 := Lib.hid (GA7.out.later hb8)
  have GB8 := Lib.hid (GB7.out.later hb8)
  have KA8 := Lib.hid (KA7.out.below hb8 KA7.out.lt)
  have KB8 := Lib.hid (KB7.out.below hb8 KB7.out.lt)
  clear hb8 HB7 GA7 GB7 KA7 KB7
  obtain ⟨⟨a0', a1', a2', a3', a4', a5', a6', a7'⟩, _⟩ := node_cells KA8.out
  obtain ⟨⟨b0', b1', b2', b3', b4', b5', b6', b7'⟩, _⟩ := node_cells KB8.out
  have hr8' : (200 < p ∧ r8 = 4) ∨ (¬ 200 < p ∧ r8 = 0) := by
    by_cases h : 200 < p
    · rw [if_pos h] at hr8; exact .inl ⟨h, hr8⟩
    · rw [if_neg h] at hr8; exact .inr ⟨h, hr8⟩
  obtain ⟨v8, hv8⟩ : ∃ v, w8.alloc (.cells (nodeC x8) 36) = v := ⟨_, rfl⟩
  rw [hv8] at HB8 GA8 GB8 KA8 KB8
  have HV8 := Lib.hid hv8
  clear hp8 hg8 hr8 hv8
  rcases hr8' with ⟨hp2, rfl⟩ | ⟨hp2, rfl⟩
  all_goals
    have hp3 : decide (200 < p) = decide (200 < p) := rfl
    unfold nodeC nodeV at *
    go_wp2_with fail
    rw [HV8.out]
    refine (right_rex XA _ v8 GA8.out).mono ?_
    rw [HAt.out, HRA.out]
    rintro _ w9 ⟨rfl, hb9⟩
    have HB9 := Lib.hid (hop HB8.out (Nat.le_refl _) hb9)
    have GA9 := Lib.hid (GA8.out.later hb9)
    have GB9 := Lib.hid (GB8.out.later hb9)
    have KA9 := Lib.hid (KA8.out.below hb9 KA8.out.lt)
    have KB9 := Lib.hid (KB8.out.below hb9 KB8.out.lt)
    clear hb9 HB8 GA8 GB8 KA8 KB8
    clear a0' a1' a2' a3' a4' a5' a6' a7' b0' b1' b2' b3' b4' b5' b6' b7'
    obtain ⟨⟨a0', a1', a2', a3', a4', a5', a6', a7'⟩, _⟩ := node_cells KA9.out
    obtain ⟨⟨b0', b1', b2', b3', b4', b5', b6', b7'⟩, _⟩ := node_cells KB9.out
    go_wp2_with fail
    refine (right_rex XB _ w9 GB9.out).mono ?_
    rw [HBt.out, HRB.out]
    rintro _ w10 ⟨rfl, hb10⟩
    have HB10 := Lib.hid (hop HB9.out (Nat.le_refl _) hb10)
    have GA10 := Lib.hid (GA9.out.later hb10)
    have GB10 := Lib.hid (GB9.out.later hb10)
    have KA10 := Lib.hid (KA9.out.below hb10 KA9.out.lt)
    have KB10 := Lib.hid (KB9.out.below hb10 KB9.out.lt)
    clear hb10 HB9 GA9 GB9 KA9 KB9
    clear a0' a1' a2' a3' a4' a5' a6' a7' b0' b1' b2' b3' b4' b5' b6' b7'
    obtain ⟨⟨a0', a1', a2', a3', a4', a5', a6', a7'⟩, _⟩ := node_cells KA10.out
    obtain ⟨⟨b0', b1', b2', b3', b4', b5', b6', b7'⟩, _⟩ := node_cells KB10.out
    go_wp2_with fail
    refine (size_any XA _ w10 GA10.out).mono ?_
    rw [HAt.out, HSA.out]
    rintro _ w11 ⟨rfl, hb11⟩
    have HB11 := Lib.hid (hop HB10.out (Nat.le_refl _) hb11)
    have GA11 := Lib.hid (GA10.out.later hb11)
    have GB11 := Lib.hid (GB10.out.later hb11)
    have KA11 := Lib.hid (KA10.out.below hb11 KA10.out.lt)
    have KB11 := Lib.hid (KB10.out.below hb11 KB10.out.lt)
    clear hb11 HB10 GA10 GB10 KA10 KB10
    clear a0' a1' a2' a3' a4' a5' a6' a7' b0' b1' b2' b3' b4' b5' b6' b7'
    obtain ⟨⟨a0', a1', a2', a3', a4', a5', a6', a7'⟩, _⟩ := node_cells KA11.out
    obtain ⟨⟨b0', b1', b2', b3', b4', b5', b6', b7'⟩, _⟩ := node_cells KB11.out
    go_wp2_with fail
    refine (size_any XB _ w11 GB11.out).mono ?_
    rw [HBt.out, HSB.out]
    rintro _ w12 ⟨rfl, hb12⟩
    have HB12 := Lib.hid (hop HB11.out (Nat.le_refl _) hb12)
    have GA12 := Lib.hid (GA11.out.later hb12)
    have GB12 := Lib.hid (GB11.out.later hb12)
    have KA12 := Lib.hid (KA11.out.below hb12 KA11.out.lt)
    have KB12 := Lib.hid (KB11.out.below hb12 KB11.out.lt)
    clear hb12 HB11 GA11 GB11 KA11 KB11
    clear a0' a1' a2' a3' a4' a5' a6' a7' b0' b1' b2' b3' b4' b5' b6' b7'
    go_wp2
    go_ret
    exact ⟨by first | rfl | decide | (simp; done) | (simp; omega), HB12.out⟩
end Go.Proofs.YtojjeignijpiaaaGreatDoor
