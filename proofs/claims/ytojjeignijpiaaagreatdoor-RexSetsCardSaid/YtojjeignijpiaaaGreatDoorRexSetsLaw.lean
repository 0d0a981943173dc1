/- The document's own sets of bytes: the walks of Has, With, Many.
   A set that comes in, opened.
   RexSets: the walk of the law. -/
import Derived.Test.YtojjeignijpiaaaGreatDoorRexSpans
import Derived.Test.YtojjeignijpiaaaGreatDoorScanQuo
import Derived.Test.YtojjeignijpiaaaGreatDoorRexSet
import Derived.Test.YtojjeignijpiaaaGreatDoorRexExam
import Derived.WalkKit
import Derived.ProofKit
import Derived.OpenShut
import Derived.ChangeOld
namespace Go.Proofs.YtojjeignijpiaaaGreatDoor
open Go.RowKit
set_option linter.unusedVariables false
set_option linter.unusedSimpArgs false

theorem has_mod (S b : Nat) : (((word S (b / 64) : Int) / 2 ^ (b % 64)).tmod 2 == 1) = S.testBit b := by
  have e : ((word S (b / 64) : Int) / 2 ^ (b % 64)) = ((word S (b / 64) >>> (b % 64) : Nat) : Int) := by
    rw [Nat.shiftRight_eq_div_pow]
    simp
  rw [e, Int.tmod_eq_emod_of_nonneg (Int.natCast_nonneg _)]
  rw [show ((word S (b / 64) >>> (b % 64) : Nat) : Int) % 2 = (((word S (b / 64) >>> (b % 64)) % 2 : Nat) : Int) from rfl, word_has]
  cases S.testBit b <;> rfl
set_option maxHeartbeats 800000 in
theorem refHas_any (S b : Nat) (hb : b < 256) (W : World) :
    Calls Tryz.prog 14 #[setV S, .int .u8 (b : Int)] W fun e w' => e = .returned (.bool (S.testBit b)) ∧ Below W.heap.size W w' := by
  have c0 := ((Blk.new W 27 (setC S)).cell (b / 64)).trans (setC_at S (b / 64) (by omega))
  have k1 : ((b : Int).tdiv 64) = ((b / 64 : Nat) : Int) := by rw [Int.tdiv_eq_ediv_of_nonneg (by omega)]; omega
  have k2 : ((b : Int).tmod 64) = ((b % 64 : Nat) : Int) := by rw [Int.tmod_eq_emod_of_nonneg (by omega)]; omega
  unfold setV
  go_enter Tryz.func14, Tryz.ntmps14
  go_wp2
  go_ret
  refine ⟨?_, (Below.refl _ _).alloc (Nat.le_refl _) _⟩
  rw [← has_mod]
  rfl
set_option maxHeartbeats 800000 in
theorem refWith_any (S lo hi : Nat) (hlo : lo < 256) (hhi : hi < 256) (W : World) :
    Calls Tryz.prog 12 #[setV S, .int .u8 (lo : Int), .int .u8 (hi : Int)] W fun e w' => e = .returned (setV (withB S lo hi)) ∧ Below W.heap.size W w' := by
  obtain ⟨g, hg⟩ : ∃ g, g = W.heap.size := ⟨_, rfl⟩
  unfold setV
  go_enter Tryz.func12, Tryz.ntmps12
  go_wp2
  go_loopw [7] (fun iv wr => ∃ (j : Nat), lo ≤ j ∧ j ≤ 256 ∧ (j ≤ hi + 1 ∨ j = lo) ∧ iv = .int .i64 (j : Nat) ∧ Hid (Below W.heap.size W wr) ∧ Blk wr W.heap.size 27 (setC (withN S lo (j - lo))) ∧ Blk wr (W.heap.size + 1) 27 (setC 0)) (fun iv _ => 256 - (intOf iv).toNat)
  case atStart =>
    refine ⟨lo, Nat.le_refl _, by omega, .inr rfl, rfl, Lib.hid (((Below.refl W.heap.size W).alloc (Nat.le_refl _) _).alloc (by simp) _), ?_, ?_⟩
    · rw [Nat.sub_self]
      exact (Blk.new W 27 (setC S)).alloc _
    · have h := Blk.new (W.alloc (Obj.cells (setC S) 27)) 27 (setC 0)
      rw [World.size_alloc] at h
      exact h
  case round =>
    obtain ⟨j, hlj, hj, hj2, rfl, HB, hb1, hb2⟩ := hrel
    by_cases h : j ≤ hi
    · have hI : (j : Int) ≤ (hi : Int) := by omega
      obtain ⟨q, hq⟩ : ∃ q, j / 64 = q := ⟨_, rfl⟩
      obtain ⟨r, hr⟩ : ∃ r, j % 64 = r := ⟨_, rfl⟩
      have k0 : (j : Int) / 64 = (q : Int) := by omega
      have k1 : IntKind.i64.wrap (q : Int) = (q : Int) := by rw [IntKind.wrap_i64]; omega
      have k2 : ((j : Int) % 64) = (r : Int) := by omega
      have k2' : ((j : Int).tmod 64) = (r : Int) := by rw [Int.tmod_eq_emod_of_nonneg (by omega)]; exact k2
      have k3 : (q : Int) < 4 := by omega
      have k4 := shl_wrap r (by omega)
      have k5 := u64_or_nat (word (withN S lo (j - lo)) q) (1 <<< r) (word_lt _ _) (one_shl _ (by omega))
      have d0 := ((hb1.drew).cell q).trans (setC_at _ q (by omega))
      have e0 := (hb1.drew).frozen q
      obtain ⟨m, hm⟩ : ∃ m, 1 <<< r = m := ⟨_, rfl⟩
      rw [hm] at k4 k5
      obtain ⟨m2, hm2⟩ : ∃ m2, word (withN S lo (j - lo)) q ||| m = m2 := ⟨_, rfl⟩
      rw [hm2] at k5
      go_wp2
      go_region_law (fail)
      go_wp2
      go_round
      case rel =>
        refine ⟨j + 1, by omega, by omega, .inl (by omega), by go_num, Lib.hid (below_drewN ((HB.out).setCell (by show W.heap.size ≤ W.heap.size; exact Nat.le_refl _) _) 1), ?_, (hb2.far (by show W.heap.size + 1 ≠ W.heap.size; omega) _).drew⟩
        have e : setC (withN S lo (j + 1 - lo)) = (setC (withN S lo (j - lo))).setIfInBounds q (.int .u64 (m2 : Int)) := by
          rw [show j + 1 - lo = (j - lo) + 1 by omega, withN_succ, show lo + (j - lo) = j by omega, ← setC_add _ _ (by omega), hq, hr, hm, hm2]
        rw [e]
        exact (hb1.set_ q _).drew
      case measure => simp [intOf]; omega
    · have hI : ¬ (j : Int) ≤ (hi : Int) := by omega
      have e0 := hb1.cell 0
      have e1 := hb1.cell 1
      have e2 := hb1.cell 2
      have e3 := hb1.cell 3
      rw [setC_at _ _ (by decide)] at e0 e1 e2 e3
      have d0 := hb2.cell 0
      have d1 := hb2.cell 1
      have d2 := hb2.cell 2
      have d3 := hb2.cell 3
      rw [setC_at _ _ (by decide)] at d0 d1 d2 d3
      have f0 := hb2.frozen 0
      have f1 := hb2.frozen 1
      have f2 := hb2.frozen 2
      have f3 := hb2.frozen 3
      go_wp2
      have hbf := set_four hb2 (.int .u64 (word (withN S lo (j - lo)) 0 : Nat)) (.int .u64 (word (withN S lo (j - lo)) 1 : Nat)) (.int .u64 (word (withN S lo (j - lo)) 2 : Nat)) (.int .u64 (word (withN S lo (j - lo)) 3 : Nat))
      refine bodyPost_ret (results_cell_row rfl _ _ (W.heap.size + 1) 27 (setC (withN S lo (j - lo))) (0, 0) _ rfl hbf Tryz.underlying27 rfl (by kernel_rfl)) rfl ?_
      have e : withN S lo (j - lo) = withB S lo hi := by
        rcases hj2 with h2 | h2
        · unfold withB; rw [show j = hi + 1 by omega]
        · unfold withB; rw [show hi + 1 - lo = 0 by omega, h2, Nat.sub_self]
      rw [e]
      exact ⟨rfl, (((HB.out.setCell (by show W.heap.size ≤ W.heap.size + 1; omega) _).setCell (by show W.heap.size ≤ W.heap.size + 1; omega) _).setCell (by show W.heap.size ≤ W.heap.size + 1; omega) _).setCell (by show W.heap.size ≤ W.heap.size + 1; omega) _⟩
theorem manyN_le (S : Nat) : ∀ n, manyN S n ≤ n
  | 0 => Nat.le_refl _
  | n + 1 => by
    have h := manyN_le S n
    rw [manyN]
    cases S.testBit n <;> simp <;> omega
set_option maxHeartbeats 800000 in
theorem refMany_any (S : Nat) (W : World) :
    Calls Tryz.prog 16 #[setV S] W fun e w' => e = .returned (.int .i64 (manyB S : Nat)) ∧ Below W.heap.size W w' := by
  have HH := Lib.hid (fun b hb w => refHas_any S b hb w)
  have HB0 := Lib.hid (Blk.new W 27 (setC S))
  unfold setV at *
  go_enter Tryz.func16, Tryz.ntmps16
  go_wp2
  go_loopw [3, 4] (fun nv iv wr => ∃ (j : Nat), j ≤ 256 ∧ nv = .int .i64 (manyN S j : Nat) ∧ iv = .int .i64 (j : Nat) ∧ Hid (Below W.heap.size W wr) ∧ Hid (Blk wr W.heap.size 27 (setC S))) (fun _ iv _ => 256 - (intOf iv).toNat)
  case atStart => exact ⟨0, by omega, rfl, rfl, Lib.hid ((Below.refl _ _).alloc (Nat.le_refl _) _), HB0⟩
  case round =>
    obtain ⟨j, hj, rfl, rfl, HB, HK⟩ := hrel
    by_cases h : j < 256
    · have hI : (j : Int) < 256 := by omega
      have hcv : IntKind.u8.wrap (j : Int) = (j : Int) := by rw [IntKind.wrap_u8]; omega
      have HA := HH.out j h
      obtain ⟨⟨e0, e1, e2, e3⟩, _⟩ := set_cells HK.out
      have hmn := manyN_le S j
      cases ht : S.testBit j with
      | false =>
        rw [ht] at HA
        replace HA := Lib.hid HA
        have hnx := Lib.hid (show manyN S (j + 1) = manyN S j by rw [manyN, ht]; rfl)
        clear ht
        obtain ⟨q, hq⟩ : ∃ q, manyN S j = q := ⟨_, rfl⟩
        rw [hq] at hnx hmn ⊢
        clear hq
        go_wp2_with fail
        refine (HA.out _).mono ?_
        rintro e w1 ⟨rfl, hx⟩
        have HB2 := Lib.hid (hop HB.out (Nat.le_refl _) hx)
        have HK2 := Lib.hid (HK.out.below hx HK.out.lt)
        clear hx
        go_wp2
        go_round
        case rel => exact ⟨j + 1, by omega, by rw [hnx.out], by go_num, HB2, HK2⟩
        case measure => simp [intOf]; omega
      | true =>
        rw [ht] at HA
        replace HA := Lib.hid HA
        have hnx := Lib.hid (show manyN S (j + 1) = manyN S j + 1 by rw [manyN, ht]; rfl)
        clear ht
        obtain ⟨q, hq⟩ : ∃ q, manyN S j = q := ⟨_, rfl⟩
        rw [hq] at hnx hmn ⊢
        clear hq
        go_wp2_with fail
        refine (HA.out _).mono ?_
        rintro e w1 ⟨rfl, hx⟩
        have HB2 := Lib.hid (hop HB.out (Nat.le_refl _) hx)
        have HK2 := Lib.hid (HK.out.below hx HK.out.lt)
        clear hx
        go_wp2
        go_round
        case rel => exact ⟨j + 1, by omega, by rw [hnx.out]; go_num, by go_num, HB2, HK2⟩
        case measure => simp [intOf]; omega
    · obtain rfl : j = 256 := by omega
      go_wp2
      go_ret
      exact ⟨rfl, HB.out⟩
end Go.Proofs.YtojjeignijpiaaaGreatDoor
namespace Go.Proofs.YtojjeignijpiaaaGreatDoor
open Go.ChangeShapes Go.WideShapes Go.ChangeAt Go.RowKit
set_option linter.unusedVariables false
set_option linter.unusedSimpArgs false

theorem okWide_arr {P : Program} {w : World} {r : Reach} {base n : Nat} {e t : TypeId} {v : Value} (ht : P.underlying t = some (.array n e)) (h : Value.okWide P w r base t v) : ∃ cs, v = .agg cs ∧ cs.size = P.cellsOf t := by
  simp only [Value.okWide, ht] at h
  obtain ⟨cs, h1, h2, _⟩ := h
  exact ⟨cs, h1, h2⟩
theorem words_of (a b c d : Nat) (ha : a < 18446744073709551616) (hb : b < 18446744073709551616) (hc : c < 18446744073709551616) (hd : d < 18446744073709551616) : ∃ S, S < 2 ^ 256 ∧ word S 0 = a ∧ word S 1 = b ∧ word S 2 = c ∧ word S 3 = d := by
  refine ⟨a + 2 ^ 64 * (b + 2 ^ 64 * (c + 2 ^ 64 * d)), ?_, ?_, ?_, ?_, ?_⟩ <;> (try unfold word) <;> (try rw [Nat.shiftRight_eq_div_pow]) <;> omega
section
variable {H : Type} {enc : TypeId × Value → H} {w : World} {base : Nat} {spare : Nat → Bool} {held : Bool}
theorem cells_set : Tryz.prog.cellsOf 24 = 4 := by kernel_rfl
theorem cells_u64 : Tryz.prog.cellsOf 22 = 1 := by kernel_rfl
theorem one_set {n : Nat} {cs : List Value} {y : DataW H × List MemPlace} (h : DataW.trod enc Tryz.prog w base spare held n 24 cs = some y) : ∃ S : Nat, S < 2 ^ 256 ∧ cs = (setC S).toList := by
  obtain ⟨xs, m, _, hy, hl, hlen, hf⟩ := DataW.trod_array Tryz.underlying24 h
  rw [cells_set] at hl
  rw [cells_u64] at hf
  obtain ⟨c0, c1, c2, c3, rfl⟩ : ∃ a b c d, cs = [a, b, c, d] := by
    match cs, hl with
    | [a, b, c, d], _ => exact ⟨a, b, c, d, rfl⟩
  obtain ⟨y0, y1, y2, y3, rfl⟩ : ∃ a b c d, xs = [a, b, c, d] := by
    match xs, hlen with
    | [a, b, c, d], _ => exact ⟨a, b, c, d, rfl⟩
  obtain ⟨z0, e0, _, w0⟩ := DataW.trod_int Tryz.underlying22 (x := y0) (hf 0 (by decide))
  obtain ⟨z1, e1, _, w1⟩ := DataW.trod_int Tryz.underlying22 (x := y1) (hf 1 (by decide))
  obtain ⟨z2, e2, _, w2⟩ := DataW.trod_int Tryz.underlying22 (x := y2) (hf 2 (by decide))
  obtain ⟨z3, e3, _, w3⟩ := DataW.trod_int Tryz.underlying22 (x := y3) (hf 3 (by decide))
  simp [Lit.wf, IntKind.min, IntKind.max, IntKind.signed, IntKind.bits] at w0 w1 w2 w3
  obtain ⟨a, rfl⟩ : ∃ k : Nat, z0 = k := ⟨z0.toNat, by omega⟩
  obtain ⟨b, rfl⟩ : ∃ k : Nat, z1 = k := ⟨z1.toNat, by omega⟩
  obtain ⟨c, rfl⟩ : ∃ k : Nat, z2 = k := ⟨z2.toNat, by omega⟩
  obtain ⟨d, rfl⟩ : ∃ k : Nat, z3 = k := ⟨z3.toNat, by omega⟩
  obtain ⟨S, hS, s0, s1, s2, s3⟩ := words_of a b c d (by omega) (by omega) (by omega) (by omega)
  refine ⟨S, hS, ?_⟩
  simp at e0 e1 e2 e3
  subst e0 e1 e2 e3
  unfold setC
  rw [s0, s1, s2, s3]
end
end Go.Proofs.YtojjeignijpiaaaGreatDoor
namespace Go.Proofs.YtojjeignijpiaaaGreatDoor
open Go.RowKit
set_option linter.unusedVariables false
set_option linter.unusedSimpArgs false

theorem eq_sets27 (a b c d x y z u : Int) (w : World) : (Op.equalIn 10000 27 (.agg #[.int .u64 a, .int .u64 b, .int .u64 c, .int .u64 d]) (.agg #[.int .u64 x, .int .u64 y, .int .u64 z, .int .u64 u])).run Tryz.prog w = .ok (a == x && b == y && c == z && d == u) w := by
  have u3 := Tryz.underlying22
  have a3 := Tryz.isAgg22
  have z3 := Tryz.sizeOf22
  rw [show (10000 : Nat) = 9999 + 1 from rfl, Op.equalIn]
  simp only [Sem.run_bind, run_underlying Tryz.underlying27, Result.andThen_ok]
  simp only [Std.Legacy.Range.forIn_eq_forIn_range', Std.Legacy.Range.size, Nat.sub_zero, Nat.add_sub_cancel, Nat.div_one, List.range'_succ, List.range'_zero, List.forIn_cons, List.forIn_nil]
  go_simp
  by_cases h1 : a = x <;> by_cases h2 : b = y <;> by_cases h3 : c = z <;> by_cases h4 : d = u <;> simp [h1, h2, h3, h4]
theorem same27 (a b c d : Int) (w : World) : (Op.equalIn 10000 27 (.agg #[.int .u64 a, .int .u64 b, .int .u64 c, .int .u64 d]) (.agg #[.int .u64 a, .int .u64 b, .int .u64 c, .int .u64 d])).run Tryz.prog w = .ok true w := by
  rw [eq_sets27]
  simp
set_option maxRecDepth 100000 in
set_option maxHeartbeats 12800000 in
theorem rexSets_walk {W : World} (S : Nat) (a1 a2 a3 : Int) (hS : S < 2 ^ 256) (w1 : (Lit.int .u8 a1).wf = true) (w2 : (Lit.int .u8 a2).wf = true) (w3 : (Lit.int .u8 a3).wf = true) (hl : LibIs W) :
    Calls Tryz.prog 3 #[setV S, .int .u8 a1, .int .u8 a2, .int .u8 a3] W fun e w' => e = .returned (.bool true) ∧ Below W.heap.size W w' := by
  have b1 := bdu8 w1
  have b2 := bdu8 w2
  have b3 := bdu8 w3
  obtain ⟨lo, rfl⟩ : ∃ k : Nat, a1 = k := ⟨a1.toNat, by omega⟩
  obtain ⟨hi, rfl⟩ : ∃ k : Nat, a2 = k := ⟨a2.toNat, by omega⟩
  obtain ⟨b, rfl⟩ : ∃ k : Nat, a3 = k := ⟨a3.toNat, by omega⟩
  have hlo : lo < 256 := by omega
  have hhi : hi < 256 := by omega
  have hb : b < 256 := by omega
  clear b1 b2 b3 w1 w2 w3
  have HEX := Lib.hid (fun w h => rexExamples_any w h)
  have WI := Lib.hid (fun w => rexWith_any S lo hi hlo hhi w)
  have RW := Lib.hid (fun w => refWith_any S lo hi hlo hhi w)
  have ha0 := fun w => rexHas_any S b hb w
  have ra0 := fun w => refHas_any S b hb w
  have ms0 := fun w => rexMany_any S w
  have rs0 := fun w => refMany_any S w
  have mt0 := fun w => rexMany_any (withB S lo hi) w
  have rt0 := fun w => refMany_any (withB S lo hi) w
  obtain ⟨T, hT⟩ : ∃ T, withB S lo hi = T := ⟨_, rfl⟩
  rw [hT] at WI RW mt0 rt0
  obtain ⟨B, hB⟩ : ∃ B, S.testBit b = B := ⟨_, rfl⟩
  rw [hB] at ha0 ra0
  obtain ⟨m, hm⟩ : ∃ m, manyB S = m := ⟨_, rfl⟩
  rw [hm] at ms0 rs0
  obtain ⟨n, hn⟩ : ∃ n, manyB T = n := ⟨_, rfl⟩
  rw [hn] at mt0 rt0
  have HA := Lib.hid ha0
  have RA := Lib.hid ra0
  have MS := Lib.hid ms0
  have RS := Lib.hid rs0
  have MT := Lib.hid mt0
  have RT := Lib.hid rt0
  have HL := Lib.hid hl
  have hbb : (B == B) = true := by simp
  have hmm : ((m : Int) == (m : Int)) = true := by simp
  have hnn : ((n : Int) == (n : Int)) = true := by simp
  have hEQ := same27 (word T 0 : Nat) (word T 1 : Nat) (word T 2 : Nat) (word T 3 : Nat)
  have HB0 := Lib.hid ((Below.refl W.heap.size W).alloc (Nat.le_refl _) (.cells (setC S) 24))
  have HK0 := Lib.hid (Blk.new W 24 (setC S))
  clear ha0 ra0 ms0 rs0 mt0 rt0 hT hB hm hn hl hS hlo hhi hb
  obtain ⟨v0, hv0⟩ : ∃ v, W.alloc (.cells (setC S) 24) = v := ⟨_, rfl⟩
  rw [hv0] at HB0 HK0
  have HV0 := Lib.hid hv0
  have HG0 := Lib.hid (show ∃ g, W.heap.size = g from ⟨_, rfl⟩)
  clear hv0
  unfold setV
  go_enter Tryz.func3, Tryz.ntmps3
  go_wp2_with fail
  rw [HV0.out]
  refine (HEX.out v0 (HL.out.below HB0.out)).mono ?_
  rintro e w1 ⟨rfl, hb1⟩
  have HB1 := Lib.hid (hop HB0.out (Nat.le_refl _) hb1)
  have hk1 := HK0.out.below hb1 HK0.out.lt
  have HK1 := Lib.hid hk1
  obtain ⟨⟨c0, c1, c2, c3⟩, _⟩ := set_cells hk1
  clear hk1 hb1 HK0 HB0
  go_wp2_with fail
  refine (WI.out w1).mono ?_
  rintro e w2 ⟨rfl, hb2⟩
  have HB2 := Lib.hid ((hop HB1.out (Nat.le_refl _) hb2).alloc (hop HB1.out (Nat.le_refl _) hb2).size (.cells (setC T) 24))
  have hk2 := (HK1.out.below hb2 HK1.out.lt).alloc (.cells (setC T) 24)
  have ht2 := Blk.new w2 24 (setC T)
  have hlt1 : W.heap.size < w2.heap.size := (HK1.out.below hb2 HK1.out.lt).lt
  obtain ⟨g1, hg1⟩ : ∃ g, w2.heap.size = g := ⟨_, rfl⟩
  obtain ⟨v2, hv2⟩ : ∃ v, w2.alloc (.cells (setC T) 24) = v := ⟨_, rfl⟩
  rw [hg1] at ht2 hlt1
  rw [hv2] at ht2 hk2 HB2
  have HV2 := Lib.hid hv2
  have HG1 := Lib.hid hg1
  have HK2 := Lib.hid hk2
  have HT2 := Lib.hid ht2
  clear c0 c1 c2 c3 hb2 HK1 HB1 hg1 hv2
  obtain ⟨⟨c0, c1, c2, c3⟩, _⟩ := set_cells (show Blk (w2.alloc (.cells (setC T) 24)) W.heap.size 24 (setC S) by rw [HV2.out]; exact hk2)
  clear hk2 ht2
  unfold setV setC at *
  go_wp2_with fail
  rw [HV2.out, HG1.out]
  refine (RW.out v2).mono ?_
  rintro e w3 ⟨rfl, hb3⟩
  have HB3 := Lib.hid ((hop HB2.out (Nat.le_refl _) hb3).alloc (hop HB2.out (Nat.le_refl _) hb3).size (.cells (setC T) 27))
  have hk3 := (HK2.out.below hb3 HK2.out.lt).alloc (.cells (setC T) 27)
  have ht3 := (HT2.out.below hb3 HT2.out.lt).alloc (.cells (setC T) 27)
  have hr3 := Blk.new w3 27 (setC T)
  obtain ⟨g2, hg2⟩ : ∃ g, w3.heap.size = g := ⟨_, rfl⟩
  obtain ⟨v3, hv3⟩ : ∃ v, w3.alloc (.cells (setC T) 27) = v := ⟨_, rfl⟩
  rw [hg2] at hr3
  rw [hv3] at hk3 ht3 hr3 HB3
  obtain ⟨g0, hg0⟩ : ∃ g, W.heap.size = g := ⟨_, rfl⟩
  rw [hg0] at hk3
  have HG0 := Lib.hid hg0
  have S0 : (Blk v3.drew g0 24 (setC S) ∧ Blk v3.drew g1 24 (setC T) ∧ Blk v3.drew g2 27 (setC T) ∧ (v3.drew.cell? ⟨g0, 0, none⟩ = some (.int .u64 (word S 0 : Nat)) ∧ v3.drew.cell? ⟨g0, 1, none⟩ = some (.int .u64 (word S 1 : Nat)) ∧ v3.drew.cell? ⟨g0, 2, none⟩ = some (.int .u64 (word S 2 : Nat)) ∧ v3.drew.cell? ⟨g0, 3, none⟩ = some (.int .u64 (word S 3 : Nat))) ∧ (v3.drew.cell? ⟨g1, 0, none⟩ = some (.int .u64 (word T 0 : Nat)) ∧ v3.drew.cell? ⟨g1, 1, none⟩ = some (.int .u64 (word T 1 : Nat)) ∧ v3.drew.cell? ⟨g1, 2, none⟩ = some (.int .u64 (word T 2 : Nat)) ∧ v3.drew.cell? ⟨g1, 3, none⟩ = some (.int .u64 (word T 3 : Nat))) ∧ (v3.drew.cell? ⟨g2, 0, none⟩ = some (.int .u64 (word T 0 : Nat)) ∧ v3.drew.cell? ⟨g2, 1, none⟩ = some (.int .u64 (word T 1 : Nat)) ∧ v3.drew.cell? ⟨g2, 2, none⟩ = some (.int .u64 (word T 2 : Nat)) ∧ v3.drew.cell? ⟨g2, 3, none⟩ = some (.int .u64 (word T 3 : Nat))) ∧ Below W.heap.size W v3.drew) := ⟨hk3, ht3, hr3, (set_cells hk3).1, (set_cells ht3).1, (set_cells hr3).1, below_drewN HB3.out 1⟩
  have HS := Lib.hid (show ∀ w w', (Blk w g0 24 (setC S) ∧ Blk w g1 24 (setC T) ∧ Blk w g2 27 (setC T) ∧ (w.cell? ⟨g0, 0, none⟩ = some (.int .u64 (word S 0 : Nat)) ∧ w.cell? ⟨g0, 1, none⟩ = some (.int .u64 (word S 1 : Nat)) ∧ w.cell? ⟨g0, 2, none⟩ = some (.int .u64 (word S 2 : Nat)) ∧ w.cell? ⟨g0, 3, none⟩ = some (.int .u64 (word S 3 : Nat))) ∧ (w.cell? ⟨g1, 0, none⟩ = some (.int .u64 (word T 0 : Nat)) ∧ w.cell? ⟨g1, 1, none⟩ = some (.int .u64 (word T 1 : Nat)) ∧ w.cell? ⟨g1, 2, none⟩ = some (.int .u64 (word T 2 : Nat)) ∧ w.cell? ⟨g1, 3, none⟩ = some (.int .u64 (word T 3 : Nat))) ∧ (w.cell? ⟨g2, 0, none⟩ = some (.int .u64 (word T 0 : Nat)) ∧ w.cell? ⟨g2, 1, none⟩ = some (.int .u64 (word T 1 : Nat)) ∧ w.cell? ⟨g2, 2, none⟩ = some (.int .u64 (word T 2 : Nat)) ∧ w.cell? ⟨g2, 3, none⟩ = some (.int .u64 (word T 3 : Nat))) ∧ Below W.heap.size W w) → Below w.heap.size w w' → (Blk w' g0 24 (setC S) ∧ Blk w' g1 24 (setC T) ∧ Blk w' g2 27 (setC T) ∧ (w'.cell? ⟨g0, 0, none⟩ = some (.int .u64 (word S 0 : Nat)) ∧ w'.cell? ⟨g0, 1, none⟩ = some (.int .u64 (word S 1 : Nat)) ∧ w'.cell? ⟨g0, 2, none⟩ = some (.int .u64 (word S 2 : Nat)) ∧ w'.cell? ⟨g0, 3, none⟩ = some (.int .u64 (word S 3 : Nat))) ∧ (w'.cell? ⟨g1, 0, none⟩ = some (.int .u64 (word T 0 : Nat)) ∧ w'.cell? ⟨g1, 1, none⟩ = some (.int .u64 (word T 1 : Nat)) ∧ w'.cell? ⟨g1, 2, none⟩ = some (.int .u64 (word T 2 : Nat)) ∧ w'.cell? ⟨g1, 3, none⟩ = some (.int .u64 (word T 3 : Nat))) ∧ (w'.cell? ⟨g2, 0, none⟩ = some (.int .u64 (word T 0 : Nat)) ∧ w'.cell? ⟨g2, 1, none⟩ = some (.int .u64 (word T 1 : Nat)) ∧ w'.cell? ⟨g2, 2, none⟩ = some (.int .u64 (word T 2 : Nat)) ∧ w'.cell? ⟨g2, 3, none⟩ = some (.int .u64 (word T 3 : Nat))) ∧ Below W.heap.size W w') from fun w w' h hb => ⟨h.1.below hb h.1.lt, h.2.1.below hb h.2.1.lt, h.2.2.1.below hb h.2.2.1.lt, (set_cells (h.1.below hb h.1.lt)).1, (set_cells (h.2.1.below hb h.2.1.lt)).1, (set_cells (h.2.2.1.below hb h.2.2.1.lt)).1, hop h.2.2.2.2.2.2 (Nat.le_refl _) hb⟩)
  have HV3 := Lib.hid hv3
  have HG2 := Lib.hid hg2
  clear c0 c1 c2 c3 hb3 hk3 ht3 hr3 HK2 HT2 HB2 HB3 hg2 hv3 hg0 WI RW HEX HL hlt1
  try unfold setC at HV3
  try unfold setV
  try unfold setC
  go_wp2_with fail
  rw [HV3.out, HG2.out, HG0.out]
  clear HV3 HG2 HG1 HV2 HV0
  refine wp_region_held_drew (S := fun w' => (Blk w' g0 24 (setC S) ∧ Blk w' g1 24 (setC T) ∧ Blk w' g2 27 (setC T) ∧ (w'.cell? ⟨g0, 0, none⟩ = some (.int .u64 (word S 0 : Nat)) ∧ w'.cell? ⟨g0, 1, none⟩ = some (.int .u64 (word S 1 : Nat)) ∧ w'.cell? ⟨g0, 2, none⟩ = some (.int .u64 (word S 2 : Nat)) ∧ w'.cell? ⟨g0, 3, none⟩ = some (.int .u64 (word S 3 : Nat))) ∧ (w'.cell? ⟨g1, 0, none⟩ = some (.int .u64 (word T 0 : Nat)) ∧ w'.cell? ⟨g1, 1, none⟩ = some (.int .u64 (word T 1 : Nat)) ∧ w'.cell? ⟨g1, 2, none⟩ = some (.int .u64 (word T 2 : Nat)) ∧ w'.cell? ⟨g1, 3, none⟩ = some (.int .u64 (word T 3 : Nat))) ∧ (w'.cell? ⟨g2, 0, none⟩ = some (.int .u64 (word T 0 : Nat)) ∧ w'.cell? ⟨g2, 1, none⟩ = some (.int .u64 (word T 1 : Nat)) ∧ w'.cell? ⟨g2, 2, none⟩ = some (.int .u64 (word T 2 : Nat)) ∧ w'.cell? ⟨g2, 3, none⟩ = some (.int .u64 (word T 3 : Nat))) ∧ Below W.heap.size W w')) (by kernel_rfl) S0 (fun hHeld => ?_)
  refine wpAnyH_take (i := 0) (oi := { dst := some 23, op := Go.Op.move (Go.Operand.tmp 9), type := 4, pos := "law.go:133", after := #[], guard := none }) (v := ?_) rfl (by kernel_rfl) (by kernel_rfl) (by kernel_rfl) (fun _ _ _ h => h) (Or.inl ⟨by kernel_rfl, ?_⟩) (by assumption) ?_
  rotate_left
  · intro w _
    first | (go_simp; done) | (go_simp; with_reducible rfl)
  try simp only [Act.put, List.setIfInBounds_toArray, List.set_cons_zero, List.set_cons_succ]
  refine wpAnyH_take (i := 1) (oi := { dst := some 24, op := Go.Op.move (Go.Operand.tmp 23), type := 4, pos := "law.go:133", after := #[{ on := 0, ground := Go.Ground.data }], guard := none }) (v := ?_) rfl (by kernel_rfl) (by kernel_rfl) (by kernel_rfl) (fun _ _ _ h => h) (Or.inl ⟨by kernel_rfl, ?_⟩) (by assumption) ?_
  rotate_left
  · intro w _
    first | (go_simp; done) | (go_simp; with_reducible rfl)
  try simp only [Act.put, List.setIfInBounds_toArray, List.set_cons_zero, List.set_cons_succ]
  refine wpAnyH_take (i := 2) (oi := { dst := some 25, op := Go.Op.load 24 (Go.Operand.tmp 10), type := 24, pos := "law.go:133", after := #[{ on := 1, ground := Go.Ground.guard }], guard := some (1, true) }) (v := ?_) rfl (by kernel_rfl) (by kernel_rfl) (by kernel_rfl) (fun _ _ _ h => h) (Or.inl ⟨by kernel_rfl, ?_⟩) (by assumption) ?_
  rotate_left
  · intro w hSw
    (try dsimp only at hSw)
    go_split_ands
    first | (go_simp; done) | (go_simp; with_reducible rfl)
  try simp only [Act.put, List.setIfInBounds_toArray, List.set_cons_zero, List.set_cons_succ]
  refine wpAnyH_take (i := 3) (oi := { dst := some 26, op := Go.Op.load 27 (Go.Operand.tmp 11), type := 27, pos := "law.go:133", after := #[{ on := 1, ground := Go.Ground.guard }], guard := some (1, true) }) (v := ?_) rfl (by kernel_rfl) (by kernel_rfl) (by kernel_rfl) (fun _ _ _ h => h) (Or.inl ⟨by kernel_rfl, ?_⟩) (by assumption) ?_
  rotate_left
  · intro w hSw
    (try dsimp only at hSw)
    go_split_ands
    first | (go_simp; done) | (go_simp; with_reducible rfl)
  try simp only [Act.put, List.setIfInBounds_toArray, List.set_cons_zero, List.set_cons_succ]
  refine wpAnyH_take (i := 4) (oi := { dst := some 27, op := Go.Op.binOp Go.BinOp.eql 27 (Go.Operand.tmp 25) (Go.Operand.tmp 26) 27, type := 4, pos := "law.go:133", after := #[{ on := 2, ground := Go.Ground.data }, { on := 3, ground := Go.Ground.data }, { on := 1, ground := Go.Ground.guard }], guard := some (1, true) }) (v := ?_) rfl (by kernel_rfl) (by kernel_rfl) (by kernel_rfl) (fun _ _ _ h => h) (Or.inl ⟨by kernel_rfl, ?_⟩) (by assumption) ?_
  rotate_left
  · intro w _
    first | (go_simp; done) | (go_simp; with_reducible rfl)
  try simp only [Act.put, List.setIfInBounds_toArray, List.set_cons_zero, List.set_cons_succ]
  refine wpAnyH_take (i := 5) (oi := { dst := some 28, op := Go.Op.pick (Go.Operand.tmp 24) (Go.Operand.tmp 27) (Go.Operand.const (Go.Value.bool false)), type := 4, pos := "law.go:133", after := #[{ on := 1, ground := Go.Ground.data }, { on := 4, ground := Go.Ground.data }], guard := none }) (v := ?_) rfl (by kernel_rfl) (by kernel_rfl) (by kernel_rfl) (fun _ _ _ h => h) (Or.inl ⟨by kernel_rfl, ?_⟩) (by assumption) ?_
  rotate_left
  · intro w _
    first | (go_simp; done) | (go_simp; with_reducible rfl)
  try simp only [Act.put, List.setIfInBounds_toArray, List.set_cons_zero, List.set_cons_succ]
  refine wpAnyH_take (i := 6) (oi := { dst := some 29, op := Go.Op.move (Go.Operand.tmp 28), type := 4, pos := "law.go:133", after := #[{ on := 5, ground := Go.Ground.data }, { on := 1, ground := Go.Ground.chain }], guard := none }) (v := ?_) rfl (by kernel_rfl) (by kernel_rfl) (by kernel_rfl) (fun _ _ _ h => h) (Or.inl ⟨by kernel_rfl, ?_⟩) (by assumption) ?_
  rotate_left
  · intro w _
    first | (go_simp; done) | (go_simp; with_reducible rfl)
  try simp only [Act.put, List.setIfInBounds_toArray, List.set_cons_zero, List.set_cons_succ]
  refine wpAnyH_take (i := 7) (oi := { dst := some 30, op := Go.Op.load 24 (Go.Operand.tmp 4), type := 24, pos := "law.go:133", after := #[{ on := 6, ground := Go.Ground.guard }], guard := some (6, true) }) (v := ?_) rfl (by kernel_rfl) (by kernel_rfl) (by kernel_rfl) (fun _ _ _ h => h) (Or.inl ⟨by kernel_rfl, ?_⟩) (by assumption) ?_
  rotate_left
  · intro w hSw
    (try dsimp only at hSw)
    go_split_ands
    first | (go_simp; done) | (go_simp; with_reducible rfl)
  try simp only [Act.put, List.setIfInBounds_toArray, List.set_cons_zero, List.set_cons_succ]
  refine wpAnyH_take (i := 8) (oi := { dst := some 31, op := Go.Op.move (Go.Operand.tmp 3), type := 5, pos := "law.go:133", after := #[{ on := 6, ground := Go.Ground.guard }], guard := some (6, true) }) (v := ?_) rfl (by kernel_rfl) (by kernel_rfl) (by kernel_rfl) (fun _ _ _ h => h) (Or.inl ⟨by kernel_rfl, ?_⟩) (by assumption) ?_
  rotate_left
  · intro w _
    first | (go_simp; done) | (go_simp; with_reducible rfl)
  try simp only [Act.put, List.setIfInBounds_toArray, List.set_cons_zero, List.set_cons_succ]
  refine wpAnyH_take (i := 10) (oi := { dst := some 33, op := Go.Op.load 24 (Go.Operand.tmp 4), type := 24, pos := "law.go:133", after := #[{ on := 6, ground := Go.Ground.guard }], guard := some (6, true) }) (v := ?_) rfl (by kernel_rfl) (by kernel_rfl) (by kernel_rfl) (fun _ _ _ h => h) (Or.inl ⟨by kernel_rfl, ?_⟩) (by assumption) ?_
  rotate_left
  · intro w hSw
    (try dsimp only at hSw)
    go_split_ands
    first | (go_simp; done) | (go_simp; with_reducible rfl)
  try simp only [Act.put, List.setIfInBounds_toArray, List.set_cons_zero, List.set_cons_succ]
  refine wpAnyH_take (i := 11) (oi := { dst := some 34, op := Go.Op.move (Go.Operand.tmp 3), type := 5, pos := "law.go:133", after := #[{ on := 6, ground := Go.Ground.guard }], guard := some (6, true) }) (v := ?_) rfl (by kernel_rfl) (by kernel_rfl) (by kernel_rfl) (fun _ _ _ h => h) (Or.inl ⟨by kernel_rfl, ?_⟩) (by assumption) ?_
  rotate_left
  · intro w _
    first | (go_simp; done) | (go_simp; with_reducible rfl)
  try simp only [Act.put, List.setIfInBounds_toArray, List.set_cons_zero, List.set_cons_succ]
  refine wpAnyH_ready (rs := [9]) (by kernel_rfl) (by simp) ?_
  refine AllReadyH.cons (o := { dst := some 32, op := Go.Op.call { callee := Go.Callee.value (Go.Operand.func 13), args := #[Go.Operand.tmp 30, Go.Operand.tmp 31], argTypes := #[24, 5] }, type := 4, pos := "law.go:133", after := #[{ on := 7, ground := Go.Ground.data }, { on := 8, ground := Go.Ground.data }, { on := 6, ground := Go.Ground.chain }, { on := 6, ground := Go.Ground.guard }], guard := some (6, true) }) rfl (fun K hK => ?_) AllReadyH.nil
  go_simp
  go_at_call 13
  refine (HA.out _).mono ?_
  rintro e wc1 ⟨rfl, hb3⟩
  have Sc1 := HS.out _ _ (by assumption) hb3
  refine hK.out _ _ Sc1 (fun _ => ?_)
  clear hK K hb3
  try simp only [Act.put, List.setIfInBounds_toArray, List.set_cons_zero, List.set_cons_succ]
  refine wpAnyH_ready (rs := [12]) (by kernel_rfl) (by simp) ?_
  refine AllReadyH.cons (o := { dst := some 35, op := Go.Op.call { callee := Go.Callee.value (Go.Operand.func 14), args := #[Go.Operand.tmp 33, Go.Operand.tmp 34], argTypes := #[27, 5] }, type := 4, pos := "law.go:133", after := #[{ on := 10, ground := Go.Ground.data }, { on := 11, ground := Go.Ground.data }, { on := 9, ground := Go.Ground.chain }, { on := 6, ground := Go.Ground.guard }], guard := some (6, true) }) rfl (fun K hK => ?_) AllReadyH.nil
  go_simp
  go_at_call 14
  refine (RA.out _).mono ?_
  rintro e wc2 ⟨rfl, hb3⟩
  have Sc2 := HS.out _ _ (by assumption) hb3
  refine hK.out _ _ Sc2 (fun _ => ?_)
  clear hK K hb3
  try simp only [Act.put, List.setIfInBounds_toArray, List.set_cons_zero, List.set_cons_succ]
  refine wpAnyH_take (i := 13) (oi := { dst := some 36, op := Go.Op.binOp Go.BinOp.eql 4 (Go.Operand.tmp 32) (Go.Operand.tmp 35) 4, type := 4, pos := "law.go:133", after := #[{ on := 9, ground := Go.Ground.data }, { on := 12, ground := Go.Ground.data }, { on := 6, ground := Go.Ground.guard }], guard := some (6, true) }) (v := ?_) rfl (by kernel_rfl) (by kernel_rfl) (by kernel_rfl) (fun _ _ _ h => h) (Or.inl ⟨by kernel_rfl, ?_⟩) (by assumption) ?_
  rotate_left
  · intro w _
    first | (go_simp; done) | (go_simp; with_reducible rfl)
  try simp only [Act.put, List.setIfInBounds_toArray, List.set_cons_zero, List.set_cons_succ]
  refine wpAnyH_take (i := 14) (oi := { dst := some 37, op := Go.Op.pick (Go.Operand.tmp 29) (Go.Operand.tmp 36) (Go.Operand.const (Go.Value.bool false)), type := 4, pos := "law.go:133", after := #[{ on := 6, ground := Go.Ground.data }, { on := 13, ground := Go.Ground.data }], guard := none }) (v := ?_) rfl (by kernel_rfl) (by kernel_rfl) (by kernel_rfl) (fun _ _ _ h => h) (Or.inl ⟨by kernel_rfl, ?_⟩) (by assumption) ?_
  rotate_left
  · intro w _
    first | (go_simp; done) | (go_simp; with_reducible rfl)
  try simp only [Act.put, List.setIfInBounds_toArray, List.set_cons_zero, List.set_cons_succ]
  refine wpAnyH_take (i := 15) (oi := { dst := some 38, op := Go.Op.move (Go.Operand.tmp 37), type := 4, pos := "law.go:133", after := #[{ on := 14, ground := Go.Ground.data }, { on := 12, ground := Go.Ground.chain }], guard := none }) (v := ?_) rfl (by kernel_rfl) (by kernel_rfl) (by kernel_rfl) (fun _ _ _ h => h) (Or.inl ⟨by kernel_rfl, ?_⟩) (by assumption) ?_
  rotate_left
  · intro w _
    first | (go_simp; done) | (go_simp; with_reducible rfl)
  try simp only [Act.put, List.setIfInBounds_toArray, List.set_cons_zero, List.set_cons_succ]
  refine wpAnyH_take (i := 16) (oi := { dst := some 39, op := Go.Op.load 24 (Go.Operand.tmp 4), type := 24, pos := "law.go:133", after := #[{ on := 15, ground := Go.Ground.guard }], guard := some (15, true) }) (v := ?_) rfl (by kernel_rfl) (by kernel_rfl) (by kernel_rfl) (fun _ _ _ h => h) (Or.inl ⟨by kernel_rfl, ?_⟩) (by assumption) ?_
  rotate_left
  · intro w hSw
    (try dsimp only at hSw)
    go_split_ands
    first | (go_simp; done) | (go_simp; with_reducible rfl)
  try simp only [Act.put, List.setIfInBounds_toArray, List.set_cons_zero, List.set_cons_succ]
  refine wpAnyH_take (i := 18) (oi := { dst := some 41, op := Go.Op.load 24 (Go.Operand.tmp 4), type := 24, pos := "law.go:133", after := #[{ on := 15, ground := Go.Ground.guard }], guard := some (15, true) }) (v := ?_) rfl (by kernel_rfl) (by kernel_rfl) (by kernel_rfl) (fun _ _ _ h => h) (Or.inl ⟨by kernel_rfl, ?_⟩) (by assumption) ?_
  rotate_left
  · intro w hSw
    (try dsimp only at hSw)
    go_split_ands
    first | (go_simp; done) | (go_simp; with_reducible rfl)
  try simp only [Act.put, List.setIfInBounds_toArray, List.set_cons_zero, List.set_cons_succ]
  refine wpAnyH_ready (rs := [17]) (by kernel_rfl) (by simp) ?_
  refine AllReadyH.cons (o := { dst := some 40, op := Go.Op.call { callee := Go.Callee.value (Go.Operand.func 15), args := #[Go.Operand.tmp 39], argTypes := #[24] }, type := 3, pos := "law.go:133", after := #[{ on := 16, ground := Go.Ground.data }, { on := 15, ground := Go.Ground.chain }, { on := 15, ground := Go.Ground.guard }], guard := some (15, true) }) rfl (fun K hK => ?_) AllReadyH.nil
  go_simp
  go_at_call 15
  refine (MS.out _).mono ?_
  rintro e wc3 ⟨rfl, hb3⟩
  have Sc3 := HS.out _ _ (by assumption) hb3
  refine hK.out _ _ Sc3 (fun _ => ?_)
  clear hK K hb3
  try simp only [Act.put, List.setIfInBounds_toArray, List.set_cons_zero, List.set_cons_succ]
  refine wpAnyH_ready (rs := [19]) (by kernel_rfl) (by simp) ?_
  refine AllReadyH.cons (o := { dst := some 42, op := Go.Op.call { callee := Go.Callee.value (Go.Operand.func 16), args := #[Go.Operand.tmp 41], argTypes := #[27] }, type := 3, pos := "law.go:133", after := #[{ on := 18, ground := Go.Ground.data }, { on := 17, ground := Go.Ground.chain }, { on := 15, ground := Go.Ground.guard }], guard := some (15, true) }) rfl (fun K hK => ?_) AllReadyH.nil
  go_simp
  go_at_call 16
  refine (RS.out _).mono ?_
  rintro e wc4 ⟨rfl, hb3⟩
  have Sc4 := HS.out _ _ (by assumption) hb3
  refine hK.out _ _ Sc4 (fun _ => ?_)
  clear hK K hb3
  try simp only [Act.put, List.setIfInBounds_toArray, List.set_cons_zero, List.set_cons_succ]
  refine wpAnyH_take (i := 20) (oi := { dst := some 43, op := Go.Op.binOp Go.BinOp.eql 3 (Go.Operand.tmp 40) (Go.Operand.tmp 42) 3, type := 4, pos := "law.go:133", after := #[{ on := 17, ground := Go.Ground.data }, { on := 19, ground := Go.Ground.data }, { on := 15, ground := Go.Ground.guard }], guard := some (15, true) }) (v := ?_) rfl (by kernel_rfl) (by kernel_rfl) (by kernel_rfl) (fun _ _ _ h => h) (Or.inl ⟨by kernel_rfl, ?_⟩) (by assumption) ?_
  rotate_left
  · intro w _
    first | (go_simp; done) | (go_simp; with_reducible rfl)
  try simp only [Act.put, List.setIfInBounds_toArray, List.set_cons_zero, List.set_cons_succ]
  refine wpAnyH_take (i := 21) (oi := { dst := some 44, op := Go.Op.pick (Go.Operand.tmp 38) (Go.Operand.tmp 43) (Go.Operand.const (Go.Value.bool false)), type := 4, pos := "law.go:133", after := #[{ on := 15, ground := Go.Ground.data }, { on := 20, ground := Go.Ground.data }], guard := none }) (v := ?_) rfl (by kernel_rfl) (by kernel_rfl) (by kernel_rfl) (fun _ _ _ h => h) (Or.inl ⟨by kernel_rfl, ?_⟩) (by assumption) ?_
  rotate_left
  · intro w _
    first | (go_simp; done) | (go_simp; with_reducible rfl)
  try simp only [Act.put, List.setIfInBounds_toArray, List.set_cons_zero, List.set_cons_succ]
  refine wpAnyH_take (i := 22) (oi := { dst := some 45, op := Go.Op.move (Go.Operand.tmp 44), type := 4, pos := "law.go:133", after := #[{ on := 21, ground := Go.Ground.data }, { on := 19, ground := Go.Ground.chain }], guard := none }) (v := ?_) rfl (by kernel_rfl) (by kernel_rfl) (by kernel_rfl) (fun _ _ _ h => h) (Or.inl ⟨by kernel_rfl, ?_⟩) (by assumption) ?_
  rotate_left
  · intro w _
    first | (go_simp; done) | (go_simp; with_reducible rfl)
  try simp only [Act.put, List.setIfInBounds_toArray, List.set_cons_zero, List.set_cons_succ]
  refine wpAnyH_take (i := 23) (oi := { dst := some 46, op := Go.Op.load 24 (Go.Operand.tmp 10), type := 24, pos := "law.go:133", after := #[{ on := 22, ground := Go.Ground.guard }], guard := some (22, true) }) (v := ?_) rfl (by kernel_rfl) (by kernel_rfl) (by kernel_rfl) (fun _ _ _ h => h) (Or.inl ⟨by kernel_rfl, ?_⟩) (by assumption) ?_
  rotate_left
  · intro w hSw
    (try dsimp only at hSw)
    go_split_ands
    first | (go_simp; done) | (go_simp; with_reducible rfl)
  try simp only [Act.put, List.setIfInBounds_toArray, List.set_cons_zero, List.set_cons_succ]
  refine wpAnyH_take (i := 25) (oi := { dst := some 48, op := Go.Op.load 27 (Go.Operand.tmp 11), type := 27, pos := "law.go:133", after := #[{ on := 22, ground := Go.Ground.guard }], guard := some (22, true) }) (v := ?_) rfl (by kernel_rfl) (by kernel_rfl) (by kernel_rfl) (fun _ _ _ h => h) (Or.inl ⟨by kernel_rfl, ?_⟩) (by assumption) ?_
  rotate_left
  · intro w hSw
    (try dsimp only at hSw)
    go_split_ands
    first | (go_simp; done) | (go_simp; with_reducible rfl)
  try simp only [Act.put, List.setIfInBounds_toArray, List.set_cons_zero, List.set_cons_succ]
  refine wpAnyH_ready (rs := [24]) (by kernel_rfl) (by simp) ?_
  refine AllReadyH.cons (o := { dst := some 47, op := Go.Op.call { callee := Go.Callee.value (Go.Operand.func 15), args := #[Go.Operand.tmp 46], argTypes := #[24] }, type := 3, pos := "law.go:133", after := #[{ on := 23, ground := Go.Ground.data }, { on := 22, ground := Go.Ground.chain }, { on := 22, ground := Go.Ground.guard }], guard := some (22, true) }) rfl (fun K hK => ?_) AllReadyH.nil
  go_simp
  go_at_call 15
  refine (MT.out _).mono ?_
  rintro e wc5 ⟨rfl, hb3⟩
  have Sc5 := HS.out _ _ (by assumption) hb3
  refine hK.out _ _ Sc5 (fun _ => ?_)
  clear hK K hb3
  try simp only [Act.put, List.setIfInBounds_toArray, List.set_cons_zero, List.set_cons_succ]
  refine wpAnyH_ready (rs := [26]) (by kernel_rfl) (by simp) ?_
  refine AllReadyH.cons (o := { dst := some 49, op := Go.Op.call { callee := Go.Callee.value (Go.Operand.func 16), args := #[Go.Operand.tmp 48], argTypes := #[27] }, type := 3, pos := "law.go:133", after := #[{ on := 25, ground := Go.Ground.data }, { on := 24, ground := Go.Ground.chain }, { on := 22, ground := Go.Ground.guard }], guard := some (22, true) }) rfl (fun K hK => ?_) AllReadyH.nil
  go_simp
  go_at_call 16
  refine (RT.out _).mono ?_
  rintro e wc6 ⟨rfl, hb3⟩
  have Sc6 := HS.out _ _ (by assumption) hb3
  refine hK.out _ _ Sc6 (fun _ => ?_)
  clear hK K hb3
  try simp only [Act.put, List.setIfInBounds_toArray, List.set_cons_zero, List.set_cons_succ]
  refine wpAnyH_take (i := 27) (oi := { dst := some 50, op := Go.Op.binOp Go.BinOp.eql 3 (Go.Operand.tmp 47) (Go.Operand.tmp 49) 3, type := 4, pos := "law.go:133", after := #[{ on := 24, ground := Go.Ground.data }, { on := 26, ground := Go.Ground.data }, { on := 22, ground := Go.Ground.guard }], guard := some (22, true) }) (v := ?_) rfl (by kernel_rfl) (by kernel_rfl) (by kernel_rfl) (fun _ _ _ h => h) (Or.inl ⟨by kernel_rfl, ?_⟩) (by assumption) ?_
  rotate_left
  · intro w _
    first | (go_simp; done) | (go_simp; with_reducible rfl)
  try simp only [Act.put, List.setIfInBounds_toArray, List.set_cons_zero, List.set_cons_succ]
  refine wpAnyH_take (i := 28) (oi := { dst := some 51, op := Go.Op.pick (Go.Operand.tmp 45) (Go.Operand.tmp 50) (Go.Operand.const (Go.Value.bool false)), type := 4, pos := "law.go:133", after := #[{ on := 22, ground := Go.Ground.data }, { on := 27, ground := Go.Ground.data }], guard := none }) (v := ?_) rfl (by kernel_rfl) (by kernel_rfl) (by kernel_rfl) (fun _ _ _ h => h) (Or.inl ⟨by kernel_rfl, ?_⟩) (by assumption) ?_
  rotate_left
  · intro w _
    first | (go_simp; done) | (go_simp; with_reducible rfl)
  try simp only [Act.put, List.setIfInBounds_toArray, List.set_cons_zero, List.set_cons_succ]
  refine wpAnyH_take (i := 29) (oi := { dst := some 8, op := Go.Op.assign (Go.Operand.tmp 51), type := 4, pos := "law.go:133", after := #[{ on := 28, ground := Go.Ground.data }, { on := 26, ground := Go.Ground.chain }, { on := 0, ground := Go.Ground.phase }, { on := 1, ground := Go.Ground.phase }, { on := 2, ground := Go.Ground.phase }, { on := 3, ground := Go.Ground.phase }, { on := 4, ground := Go.Ground.phase }, { on := 5, ground := Go.Ground.phase }, { on := 6, ground := Go.Ground.phase }, { on := 7, ground := Go.Ground.phase }, { on := 8, ground := Go.Ground.phase }, { on := 9, ground := Go.Ground.phase }, { on := 10, ground := Go.Ground.phase }, { on := 11, ground := Go.Ground.phase }, { on := 12, ground := Go.Ground.phase }, { on := 13, ground := Go.Ground.phase }, { on := 14, ground := Go.Ground.phase }, { on := 15, ground := Go.Ground.phase }, { on := 16, ground := Go.Ground.phase }, { on := 17, ground := Go.Ground.phase }, { on := 18, ground := Go.Ground.phase }, { on := 19, ground := Go.Ground.phase }, { on := 20, ground := Go.Ground.phase }, { on := 21, ground := Go.Ground.phase }, { on := 22, ground := Go.Ground.phase }, { on := 23, ground := Go.Ground.phase }, { on := 24, ground := Go.Ground.phase }, { on := 25, ground := Go.Ground.phase }, { on := 26, ground := Go.Ground.phase }, { on := 27, ground := Go.Ground.phase }, { on := 28, ground := Go.Ground.phase }], guard := none }) (v := ?_) rfl (by kernel_rfl) (by kernel_rfl) (by kernel_rfl) (fun _ _ _ h => h) (Or.inl ⟨by kernel_rfl, ?_⟩) (by assumption) ?_
  rotate_left
  · intro w _
    first | (go_simp; done) | (go_simp; with_reducible rfl)
  try simp only [Act.put, List.setIfInBounds_toArray, List.set_cons_zero, List.set_cons_succ]
  refine wpAnyH_done (by kernel_rfl) ?_ _
  clear HS hHeld
  go_wp2
  go_ret
  exact ⟨by first | rfl | decide | simp, Sc6.2.2.2.2.2.2⟩
end Go.Proofs.YtojjeignijpiaaaGreatDoor
