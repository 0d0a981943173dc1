/- The walk of the law SplitWhole: the pieces together are the range, one behind the other; the other way round they are the same. -/
import Derived.Test.YtmdpdffifpbbeaaBehindLaw
namespace Go.Proofs.Ytmdpdffifpbbeaa
open Go.RowKit
set_option linter.unusedVariables false

def atPlace (f t w : Int) (n k : Nat) : Int := if k < n then f + k * w else t

set_option maxRecDepth 100000 in
set_option maxHeartbeats 1000000 in
theorem wholeLaw_in (x f wd m8 mm ls w Q r : Int) (n : Nat) (hx : -9223372036854775808 ≤ x) (hx2 : x ≤ 9223372036854775807) (hf1 : -2305843009213693952 ≤ f) (hf2 : f ≤ 2305843009213693951) (hxf : x / 4 = f)
    (h8 : 0 ≤ wd) (h82 : wd ≤ 4294967295) (h9 : 0 ≤ m8) (h92 : m8 ≤ 255) (ha : 0 ≤ ls) (ha2 : ls ≤ 4294967295) (hmm : m8 % 64 = mm) (hmm1 : 0 ≤ mm) (hmm2 : mm < 64)
    (hn0 : 1 + mm = n) (hQ : (n : Int) * (wd + 1) = Q) (hQ1 : wd + 1 ≤ Q) (hQ2 : Q ≤ 274877906944) (hr : ls % (wd + 1) = r) (hr1 : 0 ≤ r) (hr2 : r < wd + 1)
    (hn : Hid ((n : Int) = (f + Q - r - f - 1) / (wd + 1) + 1)) (hn1 : n ≤ 64) (W : World) :
    Calls Try.prog 4 #[.int .i64 x, .int .u32 wd, .int .u8 m8, .int .u32 ls] W fun e w' => e = .returned (.bool true) ∧ Below W.heap.size W w' := by
  have hP4 : (wd + 1 == 0) = false := by rw [beq_eq_false_iff_ne]; omega
  go_enter Try.func4, Try.ntmps4
  go_wp2_with fail
  refine (examples_any _).mono ?_
  rintro e w1 ⟨rfl, hbel1⟩
  go_wp2_with fail
  obtain ⟨to, hto⟩ : ∃ to, to = f + Q - r := ⟨_, rfl⟩
  obtain ⟨w, hw⟩ : ∃ w, w = wd + 1 := ⟨_, rfl⟩
  have hfit : Fits f to w n := by rw [hto, hw]; exact fits_of _ _ _ _ (by omega) (by omega) hn.out
  have hn' : Hid ((n : Int) = (to - f - 1) / w + 1) := by rw [hto, hw]; exact hn
  have hto1 : f < to := hfit.lt
  have hto2 : to ≤ 3000000000000000000 := by omega
  have hw1 : 1 ≤ w := by omega
  have hw2 : w ≤ 4294967296 := by omega
  rw [← hto, ← hw]
  have HT := Lib.hid hto
  have HW := Lib.hid hw
  clear hto hw hn
  refine (all_any true f to w (by omega) (by omega) hto1 hw1 (by omega) n hn' hn1 _).mono ?_
  rintro e w2 ⟨g1, rfl, hg1, hb1, hbel2⟩
  have hlt2 := hb1.lt
  have hr1 := RowOf.blk hb1
  clear hb1 hmm hQ hr hxf
  go_wp2_with fail
  refine (all_any false f to w (by omega) (by omega) hto1 hw1 (by omega) n hn' hn1 _).mono ?_
  rintro e w3 ⟨g2, rfl, hg2, hb2, hbel3⟩
  have hrow1 := hr1.below hbel3 hlt2
  have hrow2 := RowOf.blk hb2
  clear hr1 hb2
  go_wp2_with fail
  refine (many_n f to w n (by omega) (by omega) hto1 hw1 (by omega) hn' (by omega) _).mono ?_
  rintro e w' ⟨rfl, rfl⟩
  have hnp : 1 ≤ n := hfit.pos
  have H1 := Lib.hid hrow1
  have H2 := Lib.hid hrow2
  clear hrow1 hrow2
  go_wp2_with fail
  go_loopw [19, 20] (fun a i wr => ∃ k q : Nat, k ≤ n ∧ i = .int .i64 k ∧ a = .int .i64 (atPlace f to w n k) ∧ wr = w3.drewN q) (fun _ i _ => n - (intOf i).toNat)
  case atStart => exact ⟨0, 0, Nat.zero_le _, rfl, by simp [atPlace]; intro h; omega, rfl⟩
  case round =>
    obtain ⟨k, q, hk, rfl, rfl, rfl⟩ := hrel
    by_cases hkn : k < n
    · obtain ⟨l0, l1⟩ := H1.out k (by rw [told_len]; exact hkn)
      obtain ⟨m, hm⟩ : ∃ m : Nat, (n : Int) - 1 - k = m := ⟨n - 1 - k, by omega⟩
      obtain ⟨b0, b1⟩ := H2.out m (by rw [told_len]; omega)
      rw [told_asc _ _ _ _ _ hkn] at l0 l1
      rw [told_desc _ _ _ _ _ (by omega), show n - 1 - m = k by omega] at b0 b1
      obtain ⟨s, hs⟩ : ∃ s, s = atPlace f to w n k := ⟨_, rfl⟩
      have hs2 : s = f + k * w := by rw [hs]; simp [atPlace, hkn]
      have hs1 := hfit.start_le k hkn
      have hmn : m < n := by omega
      rw [← hs2] at hs1
      have hp1 : (piece f to w n k).1 = s := by rw [hs2]; rfl
      rw [hp1] at l0 b0
      rw [← hs]
      obtain ⟨hs3, hs4⟩ := hs1
      by_cases hlast : k + 1 < n
      · have hp2 : (piece f to w n k).2 = s + w := by rw [hs2, piece, if_pos hlast, succ_mul', Int.add_assoc]
        have hnext : atPlace f to w n (k + 1) = s + w := by rw [hs2, atPlace, if_pos hlast, Int.natCast_add, Int.natCast_one, succ_mul', Int.add_assoc]
        rw [hp2] at l1 b1
        have HN := Lib.hid hnext
        have d1 : decide (s + w ≤ s) = false := by rw [decide_eq_false_iff_not]; omega
        have d2 : decide (w ≤ 0) = false := by rw [decide_eq_false_iff_not]; omega
        have d3 : decide ((k : Int) < (n : Int) - 1) = true := by rw [decide_eq_true_iff]; omega
        clear hs hs2 hp1 hp2 hnext
        go_wp2
        go_quiet (fail)
        go_wp2
        go_roundw
        case rel => exact ⟨k + 1, _, by omega, by go_num, by rw [HN.out], rfl⟩
        case measure => simp [intOf]; omega
      · have hp2 : (piece f to w n k).2 = to := by rw [piece, if_neg hlast]
        have hnext : atPlace f to w n (k + 1) = to := by rw [atPlace, if_neg hlast]
        have hle : to ≤ s + w := by
          have := hfit.above
          have e : (n : Int) * w = k * w + w := by rw [show (n : Int) = k + 1 by omega, succ_mul']
          omega
        rw [hp2] at l1 b1
        have HN := Lib.hid hnext
        have d1 : decide (s + w < to) = false := by rw [decide_eq_false_iff_not]; omega
        have d2 : decide (to ≤ s) = false := by rw [decide_eq_false_iff_not]; omega
        have hdec : decide ((k : Int) < (n : Int) - 1) = false := by rw [decide_eq_false_iff_not]; omega
        clear hs hs2 hp1 hp2 hnext
        go_wp2
        go_quiet (fail)
        go_wp2
        go_roundw
        case rel => exact ⟨k + 1, _, by omega, by go_num, by rw [HN.out], rfl⟩
        case measure => simp [intOf]; omega
    · obtain rfl : k = n := by omega
      rw [show atPlace f to w k k = to by simp [atPlace]]
      go_wp2
      go_ret
      exact ⟨rfl, ((hbel1.trans (hbel2.mono hbel1.size)).trans (hbel3.mono (Nat.le_trans hbel1.size hbel2.size))).trans (below_drewN (Below.refl _ _) _)⟩

theorem bdi64 {x : Int} (h : (Lit.int .i64 x).wf = true) : -9223372036854775808 ≤ x ∧ x ≤ 9223372036854775807 := by
  simpa [Lit.wf, IntKind.min, IntKind.max, IntKind.signed, IntKind.bits] using h
theorem bdu32 {x : Int} (h : (Lit.int .u32 x).wf = true) : 0 ≤ x ∧ x ≤ 4294967295 := by
  simpa [Lit.wf, IntKind.min, IntKind.max, IntKind.signed, IntKind.bits] using h
theorem short_many (f w r : Int) (n : Nat) (hr : 0 ≤ r) (hr2 : r < w) : (n : Int) = (f + n * w - r - f - 1) / w + 1 := by
  have e : f + n * w - r - f - 1 = (w - r - 1) + ((n : Int) - 1) * w := by rw [Int.sub_mul]; omega
  rw [e, Int.add_mul_ediv_right _ _ (by omega), Int.ediv_eq_zero_of_lt (by omega) (by omega)]
  omega
theorem wholeLaw_walk (x wd m8 ls : Int) (h0 : (Lit.int .i64 x).wf = true) (h1 : (Lit.int .u32 wd).wf = true) (h2 : (Lit.int .u8 m8).wf = true) (h3 : (Lit.int .u32 ls).wf = true) (W : World) :
    Calls Try.prog 4 #[.int .i64 x, .int .u32 wd, .int .u8 m8, .int .u32 ls] W fun e w' => e = .returned (.bool true) ∧ Below W.heap.size W w' := by
  obtain ⟨x1, x2⟩ := bdi64 h0
  obtain ⟨a1, a2⟩ := bdu32 h1
  obtain ⟨b1, b2⟩ := bd8 h2
  obtain ⟨c1, c2⟩ := bdu32 h3
  obtain ⟨w, hw⟩ : ∃ w : Nat, (w : Int) = wd + 1 := ⟨(wd + 1).toNat, by omega⟩
  obtain ⟨n, hn⟩ : ∃ n : Nat, (n : Int) = 1 + m8 % 64 := ⟨(1 + m8 % 64).toNat, by omega⟩
  have hr1 : 0 ≤ ls % (wd + 1) := Int.emod_nonneg _ (by omega)
  have hr2 : ls % (wd + 1) < wd + 1 := Int.emod_lt_of_pos _ (by omega)
  have hn1 : 1 ≤ n := by omega
  have hn2 : n ≤ 64 := by omega
  have hw2 : w ≤ 4294967296 := by omega
  have hQ1 : w ≤ n * w := Nat.le_mul_of_pos_left w hn1
  have hQ2 : n * w ≤ 64 * 4294967296 := Nat.mul_le_mul hn2 hw2
  have hQ : ((n * w : Nat) : Int) = (n : Int) * (wd + 1) := by rw [Int.natCast_mul, hw]
  exact wholeLaw_in x (x / 4) wd m8 (m8 % 64) ls 0 ((n : Int) * (wd + 1)) (ls % (wd + 1)) n x1 x2 (by omega) (by omega) rfl a1 a2 b1 b2 c1 c2 rfl (by omega) (by omega) hn.symm rfl (by omega) (by omega) rfl hr1 hr2
    (Lib.hid (short_many _ _ _ _ hr1 hr2)) hn2 W
end Go.Proofs.Ytmdpdffifpbbeaa
