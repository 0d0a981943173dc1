import Derived.Test.YtmdpdffifpbbeaaHeads
namespace Go.Proofs.Ytmdpdffifpbbeaa
open Go.RowKit

theorem bd64 {x : Int} (h : (Lit.int .i64 x).wf = true) : -9223372036854775808 ≤ x ∧ x ≤ 9223372036854775807 := by
  simpa [Lit.wf, IntKind.min, IntKind.max, IntKind.signed, IntKind.bits] using h
theorem and_le (x : Int) (m : Nat) (hm : m < 1024) : ∃ k : Nat, k ≤ m ∧ bits .and .i64 x (m : Int) = k := by
  refine ⟨(BitVec.ofInt 64 x &&& BitVec.ofInt 64 (m : Int)).toNat, ?_, ?_⟩
  · rw [BitVec.toNat_and, BitVec.ofInt_natCast, BitVec.toNat_ofNat, Nat.mod_eq_of_lt (by omega : m < 2 ^ 64)]
    exact Nat.and_le_right
  · show IntKind.i64.wrap ((BitVec.ofInt 64 x &&& BitVec.ofInt 64 (m : Int)).toNat : Int) = _
    have h : (BitVec.ofInt 64 x &&& BitVec.ofInt 64 (m : Int)).toNat ≤ m := by
      rw [BitVec.toNat_and, BitVec.ofInt_natCast, BitVec.toNat_ofNat, Nat.mod_eq_of_lt (by omega : m < 2 ^ 64)]
      exact Nat.and_le_right
    rw [IntKind.wrap_i64]
    omega

theorem many_above (k : Nat) (hk : k ≤ 1023) : 64 < (4611686018427387904 - -4611686018427387904 - 1) / (1 + (k : Int)) + 1 := by
  have h : (64 : Int) ≤ 9223372036854775807 / (1 + (k : Int)) := by
    rw [Int.le_ediv_iff_mul_le (by omega)]
    omega
  have e : (4611686018427387904 - -4611686018427387904 - 1 : Int) = 9223372036854775807 := by decide
  rw [e]
  omega

theorem and_1023 (x : Int) : ∃ k : Nat, k ≤ 1023 ∧ bits .and .i64 x 1023 = k := and_le x 1023 (by decide)
set_option maxHeartbeats 400000 in
theorem wrong_lt_min (a b d : Int) (h : a < b) (hd : d = -9223372036854775808) (W : World) :
    Calls Try.prog 6 #[.int .i64 a, .int .i64 b, .int .i64 d] W fun e w' => e = .returned (.bool true) ∧ Below W.heap.size W w' := by
  obtain ⟨k, hk, hb⟩ := and_1023 d
  have hab := many_above k hk
  subst hd
  go_enter Try.func6, Try.ntmps6
  go_wp2_with fail
  refine (examples_any _).mono ?_
  rintro e w1 ⟨rfl, hbel1⟩
  go_wp2_with fail
  all_goals
    refine (many_none _ _ _ (by omega) _).mono ?_
    rintro e w' ⟨rfl, rfl⟩
    go_wp2_with fail
    all_goals
      refine (all_none _ _ _ _ (by first | omega | (unfold wrap64; omega)) _).mono ?_
      rintro e w' ⟨rfl, rfl⟩
      go_wp2_with fail
      all_goals
        refine (all_much _ _ _ _ (by omega) (by omega) (by omega) (by omega) (by omega) hab _).mono ?_
        rintro e w' ⟨rfl, rfl⟩
        go_wp2
        go_ret
        exact ⟨rfl, hbel1⟩

set_option maxHeartbeats 400000 in
theorem wrong_lt_neg (a b d : Int) (h : a < b) (hd : -9223372036854775808 < d ∧ d < 0) (W : World) :
    Calls Try.prog 6 #[.int .i64 a, .int .i64 b, .int .i64 d] W fun e w' => e = .returned (.bool true) ∧ Below W.heap.size W w' := by
  obtain ⟨k, hk, hb⟩ := and_1023 d
  have hab := many_above k hk
  obtain ⟨d1, d2⟩ := hd
  go_enter Try.func6, Try.ntmps6
  go_wp2_with fail
  refine (examples_any _).mono ?_
  rintro e w1 ⟨rfl, hbel1⟩
  go_wp2_with fail
  all_goals
    refine (many_none _ _ _ (by omega) _).mono ?_
    rintro e w' ⟨rfl, rfl⟩
    go_wp2_with fail
    all_goals
      refine (all_none _ _ _ _ (by first | omega | (unfold wrap64; omega)) _).mono ?_
      rintro e w' ⟨rfl, rfl⟩
      go_wp2_with fail
      all_goals
        refine (all_much _ _ _ _ (by omega) (by omega) (by omega) (by omega) (by omega) hab _).mono ?_
        rintro e w' ⟨rfl, rfl⟩
        go_wp2
        go_ret
        exact ⟨rfl, hbel1⟩

set_option maxHeartbeats 400000 in
theorem wrong_lt_pos (a b d : Int) (h : a < b) (hd : 0 ≤ d ∧ d ≤ 9223372036854775807) (W : World) :
    Calls Try.prog 6 #[.int .i64 a, .int .i64 b, .int .i64 d] W fun e w' => e = .returned (.bool true) ∧ Below W.heap.size W w' := by
  obtain ⟨k, hk, hb⟩ := and_1023 d
  have hab := many_above k hk
  obtain ⟨d1, d2⟩ := hd
  go_enter Try.func6, Try.ntmps6
  go_wp2_with fail
  refine (examples_any _).mono ?_
  rintro e w1 ⟨rfl, hbel1⟩
  go_wp2_with fail
  all_goals
    refine (many_none _ _ _ (by omega) _).mono ?_
    rintro e w' ⟨rfl, rfl⟩
    go_wp2_with fail
    all_goals
      refine (all_none _ _ _ _ (by first | omega | (unfold wrap64; omega)) _).mono ?_
      rintro e w' ⟨rfl, rfl⟩
      go_wp2_with fail
      all_goals
        refine (all_much _ _ _ _ (by omega) (by omega) (by omega) (by omega) (by omega) hab _).mono ?_
        rintro e w' ⟨rfl, rfl⟩
        go_wp2
        go_ret
        exact ⟨rfl, hbel1⟩

set_option maxHeartbeats 400000 in
theorem wrong_eq_min (a b d : Int) (h : a = b) (hd : d = -9223372036854775808) (W : World) :
    Calls Try.prog 6 #[.int .i64 a, .int .i64 b, .int .i64 d] W fun e w' => e = .returned (.bool true) ∧ Below W.heap.size W w' := by
  obtain ⟨k, hk, hb⟩ := and_1023 d
  have hab := many_above k hk
  subst hd; subst h
  go_enter Try.func6, Try.ntmps6
  go_wp2_with fail
  refine (examples_any _).mono ?_
  rintro e w1 ⟨rfl, hbel1⟩
  go_wp2_with fail
  all_goals
    refine (many_none _ _ _ (by omega) _).mono ?_
    rintro e w' ⟨rfl, rfl⟩
    go_wp2_with fail
    all_goals
      refine (all_none _ _ _ _ (by first | omega | (unfold wrap64; omega)) _).mono ?_
      rintro e w' ⟨rfl, rfl⟩
      go_wp2_with fail
      all_goals
        refine (all_much _ _ _ _ (by omega) (by omega) (by omega) (by omega) (by omega) hab _).mono ?_
        rintro e w' ⟨rfl, rfl⟩
        go_wp2
        go_ret
        exact ⟨rfl, hbel1⟩

set_option maxHeartbeats 400000 in
theorem wrong_eq_neg (a b d : Int) (h : a = b) (hd : -9223372036854775808 < d ∧ d < 0) (W : World) :
    Calls Try.prog 6 #[.int .i64 a, .int .i64 b, .int .i64 d] W fun e w' => e = .returned (.bool true) ∧ Below W.heap.size W w' := by
  obtain ⟨k, hk, hb⟩ := and_1023 d
  have hab := many_above k hk
  obtain ⟨d1, d2⟩ := hd; subst h
  go_enter Try.func6, Try.ntmps6
  go_wp2_with fail
  refine (examples_any _).mono ?_
  rintro e w1 ⟨rfl, hbel1⟩
  go_wp2_with fail
  all_goals
    refine (many_none _ _ _ (by omega) _).mono ?_
    rintro e w' ⟨rfl, rfl⟩
    go_wp2_with fail
    all_goals
      refine (all_none _ _ _ _ (by first | omega | (unfold wrap64; omega)) _).mono ?_
      rintro e w' ⟨rfl, rfl⟩
      go_wp2_with fail
      all_goals
        refine (all_much _ _ _ _ (by omega) (by omega) (by omega) (by omega) (by omega) hab _).mono ?_
        rintro e w' ⟨rfl, rfl⟩
        go_wp2
        go_ret
        exact ⟨rfl, hbel1⟩

set_option maxHeartbeats 400000 in
theorem wrong_eq_pos (a b d : Int) (h : a = b) (hd : 0 ≤ d ∧ d ≤ 9223372036854775807) (W : World) :
    Calls Try.prog 6 #[.int .i64 a, .int .i64 b, .int .i64 d] W fun e w' => e = .returned (.bool true) ∧ Below W.heap.size W w' := by
  obtain ⟨k, hk, hb⟩ := and_1023 d
  have hab := many_above k hk
  obtain ⟨d1, d2⟩ := hd; subst h
  go_enter Try.func6, Try.ntmps6
  go_wp2_with fail
  refine (examples_any _).mono ?_
  rintro e w1 ⟨rfl, hbel1⟩
  go_wp2_with fail
  all_goals
    refine (many_none _ _ _ (by omega) _).mono ?_
    rintro e w' ⟨rfl, rfl⟩
    go_wp2_with fail
    all_goals
      refine (all_none _ _ _ _ (by first | omega | (unfold wrap64; omega)) _).mono ?_
      rintro e w' ⟨rfl, rfl⟩
      go_wp2_with fail
      all_goals
        refine (all_much _ _ _ _ (by omega) (by omega) (by omega) (by omega) (by omega) hab _).mono ?_
        rintro e w' ⟨rfl, rfl⟩
        go_wp2
        go_ret
        exact ⟨rfl, hbel1⟩

set_option maxHeartbeats 400000 in
theorem wrong_gt_min (a b d : Int) (h : b < a) (hd : d = -9223372036854775808) (W : World) :
    Calls Try.prog 6 #[.int .i64 a, .int .i64 b, .int .i64 d] W fun e w' => e = .returned (.bool true) ∧ Below W.heap.size W w' := by
  obtain ⟨k, hk, hb⟩ := and_1023 d
  have hab := many_above k hk
  subst hd
  go_enter Try.func6, Try.ntmps6
  go_wp2_with fail
  refine (examples_any _).mono ?_
  rintro e w1 ⟨rfl, hbel1⟩
  go_wp2_with fail
  all_goals
    refine (many_none _ _ _ (by omega) _).mono ?_
    rintro e w' ⟨rfl, rfl⟩
    go_wp2_with fail
    all_goals
      refine (all_none _ _ _ _ (by first | omega | (unfold wrap64; omega)) _).mono ?_
      rintro e w' ⟨rfl, rfl⟩
      go_wp2_with fail
      all_goals
        refine (all_much _ _ _ _ (by omega) (by omega) (by omega) (by omega) (by omega) hab _).mono ?_
        rintro e w' ⟨rfl, rfl⟩
        go_wp2
        go_ret
        exact ⟨rfl, hbel1⟩

set_option maxHeartbeats 400000 in
theorem wrong_gt_neg (a b d : Int) (h : b < a) (hd : -9223372036854775808 < d ∧ d < 0) (W : World) :
    Calls Try.prog 6 #[.int .i64 a, .int .i64 b, .int .i64 d] W fun e w' => e = .returned (.bool true) ∧ Below W.heap.size W w' := by
  obtain ⟨k, hk, hb⟩ := and_1023 d
  have hab := many_above k hk
  obtain ⟨d1, d2⟩ := hd
  go_enter Try.func6, Try.ntmps6
  go_wp2_with fail
  refine (examples_any _).mono ?_
  rintro e w1 ⟨rfl, hbel1⟩
  go_wp2_with fail
  all_goals
    refine (many_none _ _ _ (by omega) _).mono ?_
    rintro e w' ⟨rfl, rfl⟩
    go_wp2_with fail
    all_goals
      refine (all_none _ _ _ _ (by first | omega | (unfold wrap64; omega)) _).mono ?_
      rintro e w' ⟨rfl, rfl⟩
      go_wp2_with fail
      all_goals
        refine (all_much _ _ _ _ (by omega) (by omega) (by omega) (by omega) (by omega) hab _).mono ?_
        rintro e w' ⟨rfl, rfl⟩
        go_wp2
        go_ret
        exact ⟨rfl, hbel1⟩

set_option maxHeartbeats 400000 in
theorem wrong_gt_pos (a b d : Int) (h : b < a) (hd : 0 ≤ d ∧ d ≤ 9223372036854775807) (W : World) :
    Calls Try.prog 6 #[.int .i64 a, .int .i64 b, .int .i64 d] W fun e w' => e = .returned (.bool true) ∧ Below W.heap.size W w' := by
  obtain ⟨k, hk, hb⟩ := and_1023 d
  have hab := many_above k hk
  obtain ⟨d1, d2⟩ := hd
  go_enter Try.func6, Try.ntmps6
  go_wp2_with fail
  refine (examples_any _).mono ?_
  rintro e w1 ⟨rfl, hbel1⟩
  go_wp2_with fail
  all_goals
    refine (many_none _ _ _ (by omega) _).mono ?_
    rintro e w' ⟨rfl, rfl⟩
    go_wp2_with fail
    all_goals
      refine (all_none _ _ _ _ (by first | omega | (unfold wrap64; omega)) _).mono ?_
      rintro e w' ⟨rfl, rfl⟩
      go_wp2_with fail
      all_goals
        refine (all_much _ _ _ _ (by omega) (by omega) (by omega) (by omega) (by omega) hab _).mono ?_
        rintro e w' ⟨rfl, rfl⟩
        go_wp2
        go_ret
        exact ⟨rfl, hbel1⟩

theorem wrong_walk (a b d : Int) (_ : (Lit.int .i64 a).wf = true) (_ : (Lit.int .i64 b).wf = true) (h2 : (Lit.int .i64 d).wf = true) (W : World) :
    Calls Try.prog 6 #[.int .i64 a, .int .i64 b, .int .i64 d] W fun e w' => e = .returned (.bool true) ∧ Below W.heap.size W w' := by
  obtain ⟨d1, d2⟩ := bd64 h2
  rcases (by omega : a < b ∨ a = b ∨ b < a) with h | h | h <;> rcases (by omega : d = -9223372036854775808 ∨ (-9223372036854775808 < d ∧ d < 0) ∨ (0 ≤ d ∧ d ≤ 9223372036854775807)) with hd | hd | hd
  · exact wrong_lt_min a b d h hd W
  · exact wrong_lt_neg a b d h hd W
  · exact wrong_lt_pos a b d h hd W
  · exact wrong_eq_min a b d h hd W
  · exact wrong_eq_neg a b d h hd W
  · exact wrong_eq_pos a b d h hd W
  · exact wrong_gt_min a b d h hd W
  · exact wrong_gt_neg a b d h hd W
  · exact wrong_gt_pos a b d h hd W
end Go.Proofs.Ytmdpdffifpbbeaa
