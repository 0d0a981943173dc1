/- The walk of the law SplitMany: how many pieces there are, told by Many and by All alike. -/
import Derived.Test.YtmdpdffifpbbeaaHeads
namespace Go.Proofs.Ytmdpdffifpbbeaa
open Go.RowKit

theorem many_n (f t w n : Int) (hf : -9223372036854775808 ≤ f) (ht : t ≤ 9223372036854775807) (hlt : f < t) (hw : 1 ≤ w) (hw2 : w ≤ 9223372036854775807) (hn : Hid (n = (t - f - 1) / w + 1)) (hn1 : n ≤ 64) (W : World) :
    Calls Try.prog 9 #[.int .i64 f, .int .i64 t, .int .i64 w] W fun e w' => e = .returned (.tuple #[.int .i64 n, .int .i64 0]) ∧ W = w' := by
  have h := hn.out
  subst h
  exact many_ok f t w hf ht hlt hw hw2 hn1 W
theorem bd32 {x : Int} (h : (Lit.int .i32 x).wf = true) : -2147483648 ≤ x ∧ x ≤ 2147483647 := by
  simpa [Lit.wf, IntKind.min, IntKind.max, IntKind.signed, IntKind.bits] using h
theorem bd16 {x : Int} (h : (Lit.int .u16 x).wf = true) : 0 ≤ x ∧ x ≤ 65535 := by
  simpa [Lit.wf, IntKind.min, IntKind.max, IntKind.signed, IntKind.bits] using h

set_option maxHeartbeats 400000 in
theorem many_few_lt (x l a b : Int) (hx : -2147483648 ≤ x) (hx2 : x ≤ 2147483647) (hl : 0 ≤ l) (hl2 : l ≤ 65535) (ha : 0 ≤ a) (hb2 : b ≤ 65535) (hab : a < b) (n m : Nat) (hn : Hid ((n : Int) = l / (a + 1) + 1)) (hm : Hid ((m : Int) = l / (b + 1) + 1)) (hmn : m ≤ n) (hn1 : n ≤ 64) (W : World) :
    Calls Try.prog 7 #[.int .i32 x, .int .u16 l, .int .u16 a, .int .u16 b] W fun e w' => e = .returned (.bool true) ∧ Below W.heap.size W w' := by
  have hd : 0 ≤ l / (a + 1) := Int.ediv_nonneg hl (by omega)
  have hq : l / (a + 1) + 1 ≤ 64 := by have := hn.out; omega
  have hdec : decide (64 < l / (a + 1) + 1) = false := by rw [decide_eq_false_iff_not]; omega
  have E1 := Lib.hid (show x + l + 1 - x - 1 = l by omega)
  have E2 := Lib.hid (show (1 : Int) = (x + l + 1 - x - 1) / (x + l + 1 - x) + 1 by rw [show x + l + 1 - x - 1 = l by omega, show x + l + 1 - x = l + 1 by omega, Int.ediv_eq_zero_of_lt hl (by omega)]; rfl)
  go_enter Try.func7, Try.ntmps7
  go_wp2_with fail
  refine (examples_any _).mono ?_
  rintro e w1 ⟨rfl, hbel1⟩
  go_wp2_with fail
  refine (many_n _ _ _ n (by omega) (by omega) (by omega) (by omega) (by omega) (by rw [E1.out]; exact hn) (by omega) _).mono ?_
  rintro e w' ⟨rfl, rfl⟩
  go_wp2_with fail
  refine (many_n _ _ _ m (by omega) (by omega) (by omega) (by omega) (by omega) (by rw [E1.out]; exact hm) (by omega) _).mono ?_
  rintro e w' ⟨rfl, rfl⟩
  go_wp2_with fail
  refine (all_any false _ _ _ (by omega) (by omega) (by omega) (by omega) (by omega) n (by rw [E1.out]; exact hn) (by omega) _).mono ?_
  rintro e w2 ⟨g, rfl, hg, hb, hbel2⟩
  go_wp2_with fail
  refine (many_n _ _ _ 1 (by omega) (by omega) (by omega) (by omega) (by omega) E2 (by omega) _).mono ?_
  rintro e w' ⟨rfl, rfl⟩
  go_wp2
  go_ret
  exact ⟨rfl, hbel1.trans (hbel2.mono hbel1.size)⟩

set_option maxHeartbeats 400000 in
theorem many_few_eq (x l a : Int) (hx : -2147483648 ≤ x) (hx2 : x ≤ 2147483647) (hl : 0 ≤ l) (hl2 : l ≤ 65535) (ha : 0 ≤ a) (hb2 : a ≤ 65535) (n m : Nat) (hn : Hid ((n : Int) = l / (a + 1) + 1)) (hm : Hid ((m : Int) = l / (a + 1) + 1)) (hmn : m ≤ n) (hn1 : n ≤ 64) (W : World) :
    Calls Try.prog 7 #[.int .i32 x, .int .u16 l, .int .u16 a, .int .u16 a] W fun e w' => e = .returned (.bool true) ∧ Below W.heap.size W w' := by
  have hd : 0 ≤ l / (a + 1) := Int.ediv_nonneg hl (by omega)
  have hq : l / (a + 1) + 1 ≤ 64 := by have := hn.out; omega
  have hdec : decide (64 < l / (a + 1) + 1) = false := by rw [decide_eq_false_iff_not]; omega
  have E1 := Lib.hid (show x + l + 1 - x - 1 = l by omega)
  have E2 := Lib.hid (show (1 : Int) = (x + l + 1 - x - 1) / (x + l + 1 - x) + 1 by rw [show x + l + 1 - x - 1 = l by omega, show x + l + 1 - x = l + 1 by omega, Int.ediv_eq_zero_of_lt hl (by omega)]; rfl)
  go_enter Try.func7, Try.ntmps7
  go_wp2_with fail
  refine (examples_any _).mono ?_
  rintro e w1 ⟨rfl, hbel1⟩
  go_wp2_with fail
  refine (many_n _ _ _ n (by omega) (by omega) (by omega) (by omega) (by omega) (by rw [E1.out]; exact hn) (by omega) _).mono ?_
  rintro e w' ⟨rfl, rfl⟩
  go_wp2_with fail
  refine (many_n _ _ _ m (by omega) (by omega) (by omega) (by omega) (by omega) (by rw [E1.out]; exact hm) (by omega) _).mono ?_
  rintro e w' ⟨rfl, rfl⟩
  go_wp2_with fail
  refine (all_any false _ _ _ (by omega) (by omega) (by omega) (by omega) (by omega) n (by rw [E1.out]; exact hn) (by omega) _).mono ?_
  rintro e w2 ⟨g, rfl, hg, hb, hbel2⟩
  go_wp2_with fail
  refine (many_n _ _ _ 1 (by omega) (by omega) (by omega) (by omega) (by omega) E2 (by omega) _).mono ?_
  rintro e w' ⟨rfl, rfl⟩
  go_wp2
  go_ret
  exact ⟨rfl, hbel1.trans (hbel2.mono hbel1.size)⟩

set_option maxHeartbeats 400000 in
theorem many_few_gt (x l a b : Int) (hx : -2147483648 ≤ x) (hx2 : x ≤ 2147483647) (hl : 0 ≤ l) (hl2 : l ≤ 65535) (hb : 0 ≤ b) (ha2 : a ≤ 65535) (hab : b < a) (n m : Nat) (hn : Hid ((n : Int) = l / (b + 1) + 1)) (hm : Hid ((m : Int) = l / (a + 1) + 1)) (hmn : m ≤ n) (hn1 : n ≤ 64) (W : World) :
    Calls Try.prog 7 #[.int .i32 x, .int .u16 l, .int .u16 a, .int .u16 b] W fun e w' => e = .returned (.bool true) ∧ Below W.heap.size W w' := by
  have hd : 0 ≤ l / (b + 1) := Int.ediv_nonneg hl (by omega)
  have hq : l / (b + 1) + 1 ≤ 64 := by have := hn.out; omega
  have hdec : decide (64 < l / (b + 1) + 1) = false := by rw [decide_eq_false_iff_not]; omega
  have E1 := Lib.hid (show x + l + 1 - x - 1 = l by omega)
  have E2 := Lib.hid (show (1 : Int) = (x + l + 1 - x - 1) / (x + l + 1 - x) + 1 by rw [show x + l + 1 - x - 1 = l by omega, show x + l + 1 - x = l + 1 by omega, Int.ediv_eq_zero_of_lt hl (by omega)]; rfl)
  go_enter Try.func7, Try.ntmps7
  go_wp2_with fail
  refine (examples_any _).mono ?_
  rintro e w1 ⟨rfl, hbel1⟩
  go_wp2_with fail
  refine (many_n _ _ _ n (by omega) (by omega) (by omega) (by omega) (by omega) (by rw [E1.out]; exact hn) (by omega) _).mono ?_
  rintro e w' ⟨rfl, rfl⟩
  go_wp2_with fail
  refine (many_n _ _ _ m (by omega) (by omega) (by omega) (by omega) (by omega) (by rw [E1.out]; exact hm) (by omega) _).mono ?_
  rintro e w' ⟨rfl, rfl⟩
  go_wp2_with fail
  refine (all_any false _ _ _ (by omega) (by omega) (by omega) (by omega) (by omega) n (by rw [E1.out]; exact hn) (by omega) _).mono ?_
  rintro e w2 ⟨g, rfl, hg, hb, hbel2⟩
  go_wp2_with fail
  refine (many_n _ _ _ 1 (by omega) (by omega) (by omega) (by omega) (by omega) E2 (by omega) _).mono ?_
  rintro e w' ⟨rfl, rfl⟩
  go_wp2
  go_ret
  exact ⟨rfl, hbel1.trans (hbel2.mono hbel1.size)⟩

set_option maxHeartbeats 400000 in
theorem many_lots_lt (x l a b : Int) (hx : -2147483648 ≤ x) (hx2 : x ≤ 2147483647) (hl : 0 ≤ l) (hl2 : l ≤ 65535) (ha : 0 ≤ a) (hb2 : b ≤ 65535) (hab : a < b) (hq : 64 < l / (a + 1) + 1) (W : World) :
    Calls Try.prog 7 #[.int .i32 x, .int .u16 l, .int .u16 a, .int .u16 b] W fun e w' => e = .returned (.bool true) ∧ Below W.heap.size W w' := by
  obtain ⟨hd, hd2⟩ := div_le l (a + 1) hl (by omega)
  have hdec : decide (64 < l / (a + 1) + 1) = true := by rw [decide_eq_true_iff]; exact hq
  have hr0 := div_le l (b + 1) hl (by omega)
  have E1 := Lib.hid (show x + l + 1 - x - 1 = l by omega)
  have E2 := Lib.hid (show (1 : Int) = (x + l + 1 - x - 1) / (x + l + 1 - x) + 1 by rw [show x + l + 1 - x - 1 = l by omega, show x + l + 1 - x = l + 1 by omega, Int.ediv_eq_zero_of_lt hl (by omega)]; rfl)
  by_cases hr : l / (b + 1) + 1 ≤ 64
  all_goals
    go_enter Try.func7, Try.ntmps7
    go_wp2_with fail
    refine (examples_any _).mono ?_
    rintro e w1 ⟨rfl, hbel1⟩
    go_wp2_with fail
    refine (many_much _ _ _ (by omega) (by omega) (by omega) (by omega) (by omega) (by rw [E1.out]; exact hq) _).mono ?_
    rintro e w' ⟨rfl, rfl⟩
    go_wp2_with fail
    first
      | (refine (many_n _ _ _ (l / (b + 1) + 1) (by omega) (by omega) (by omega) (by omega) (by omega) (Lib.hid (by rw [E1.out])) hr _).mono ?_)
      | (refine (many_much _ _ _ (by omega) (by omega) (by omega) (by omega) (by omega) (by rw [E1.out]; omega) _).mono ?_)
    rintro e w' ⟨rfl, rfl⟩
    go_wp2_with fail
    refine (all_much false _ _ _ (by omega) (by omega) (by omega) (by omega) (by omega) (by rw [E1.out]; exact hq) _).mono ?_
    rintro e w' ⟨rfl, rfl⟩
    go_wp2_with fail
    refine (many_n _ _ _ 1 (by omega) (by omega) (by omega) (by omega) (by omega) E2 (by omega) _).mono ?_
    rintro e w' ⟨rfl, rfl⟩
    go_wp2
    go_ret
    exact ⟨rfl, hbel1⟩

set_option maxHeartbeats 400000 in
theorem many_lots_eq (x l a : Int) (hx : -2147483648 ≤ x) (hx2 : x ≤ 2147483647) (hl : 0 ≤ l) (hl2 : l ≤ 65535) (ha : 0 ≤ a) (hb2 : a ≤ 65535) (hq : 64 < l / (a + 1) + 1) (W : World) :
    Calls Try.prog 7 #[.int .i32 x, .int .u16 l, .int .u16 a, .int .u16 a] W fun e w' => e = .returned (.bool true) ∧ Below W.heap.size W w' := by
  obtain ⟨hd, hd2⟩ := div_le l (a + 1) hl (by omega)
  have hdec : decide (64 < l / (a + 1) + 1) = true := by rw [decide_eq_true_iff]; exact hq
  have hr0 := div_le l (a + 1) hl (by omega)
  have E1 := Lib.hid (show x + l + 1 - x - 1 = l by omega)
  have E2 := Lib.hid (show (1 : Int) = (x + l + 1 - x - 1) / (x + l + 1 - x) + 1 by rw [show x + l + 1 - x - 1 = l by omega, show x + l + 1 - x = l + 1 by omega, Int.ediv_eq_zero_of_lt hl (by omega)]; rfl)
  have hr : ¬ l / (a + 1) + 1 ≤ 64 := by omega
  all_goals
    go_enter Try.func7, Try.ntmps7
    go_wp2_with fail
    refine (examples_any _).mono ?_
    rintro e w1 ⟨rfl, hbel1⟩
    go_wp2_with fail
    refine (many_much _ _ _ (by omega) (by omega) (by omega) (by omega) (by omega) (by rw [E1.out]; exact hq) _).mono ?_
    rintro e w' ⟨rfl, rfl⟩
    go_wp2_with fail
    refine (many_much _ _ _ (by omega) (by omega) (by omega) (by omega) (by omega) (by rw [E1.out]; omega) _).mono ?_
    rintro e w' ⟨rfl, rfl⟩
    go_wp2_with fail
    refine (all_much false _ _ _ (by omega) (by omega) (by omega) (by omega) (by omega) (by rw [E1.out]; exact hq) _).mono ?_
    rintro e w' ⟨rfl, rfl⟩
    go_wp2_with fail
    refine (many_n _ _ _ 1 (by omega) (by omega) (by omega) (by omega) (by omega) E2 (by omega) _).mono ?_
    rintro e w' ⟨rfl, rfl⟩
    go_wp2
    go_ret
    exact ⟨rfl, hbel1⟩

set_option maxHeartbeats 400000 in
theorem many_lots_gt (x l a b : Int) (hx : -2147483648 ≤ x) (hx2 : x ≤ 2147483647) (hl : 0 ≤ l) (hl2 : l ≤ 65535) (hb : 0 ≤ b) (ha2 : a ≤ 65535) (hab : b < a) (hq : 64 < l / (b + 1) + 1) (W : World) :
    Calls Try.prog 7 #[.int .i32 x, .int .u16 l, .int .u16 a, .int .u16 b] W fun e w' => e = .returned (.bool true) ∧ Below W.heap.size W w' := by
  obtain ⟨hd, hd2⟩ := div_le l (b + 1) hl (by omega)
  have hdec : decide (64 < l / (b + 1) + 1) = true := by rw [decide_eq_true_iff]; exact hq
  have hr0 := div_le l (a + 1) hl (by omega)
  have E1 := Lib.hid (show x + l + 1 - x - 1 = l by omega)
  have E2 := Lib.hid (show (1 : Int) = (x + l + 1 - x - 1) / (x + l + 1 - x) + 1 by rw [show x + l + 1 - x - 1 = l by omega, show x + l + 1 - x = l + 1 by omega, Int.ediv_eq_zero_of_lt hl (by omega)]; rfl)
  by_cases hr : l / (a + 1) + 1 ≤ 64
  all_goals
    go_enter Try.func7, Try.ntmps7
    go_wp2_with fail
    refine (examples_any _).mono ?_
    rintro e w1 ⟨rfl, hbel1⟩
    go_wp2_with fail
    refine (many_much _ _ _ (by omega) (by omega) (by omega) (by omega) (by omega) (by rw [E1.out]; exact hq) _).mono ?_
    rintro e w' ⟨rfl, rfl⟩
    go_wp2_with fail
    first
      | (refine (many_n _ _ _ (l / (a + 1) + 1) (by omega) (by omega) (by omega) (by omega) (by omega) (Lib.hid (by rw [E1.out])) hr _).mono ?_)
      | (refine (many_much _ _ _ (by omega) (by omega) (by omega) (by omega) (by omega) (by rw [E1.out]; omega) _).mono ?_)
    rintro e w' ⟨rfl, rfl⟩
    go_wp2_with fail
    refine (all_much false _ _ _ (by omega) (by omega) (by omega) (by omega) (by omega) (by rw [E1.out]; exact hq) _).mono ?_
    rintro e w' ⟨rfl, rfl⟩
    go_wp2_with fail
    refine (many_n _ _ _ 1 (by omega) (by omega) (by omega) (by omega) (by omega) E2 (by omega) _).mono ?_
    rintro e w' ⟨rfl, rfl⟩
    go_wp2
    go_ret
    exact ⟨rfl, hbel1⟩

theorem div_mono (l v w : Int) (hl : 0 ≤ l) (hv : 0 ≤ v) (h : v ≤ w) : l / (w + 1) ≤ l / (v + 1) := by
  rw [Int.le_ediv_iff_mul_le (by omega)]
  have h0 : 0 ≤ l / (w + 1) := Int.ediv_nonneg hl (by omega)
  have h1 : l / (w + 1) * (v + 1) ≤ l / (w + 1) * (w + 1) := Int.mul_le_mul_of_nonneg_left (by omega) h0
  have h2 := Int.ediv_mul_le l (b := w + 1) (by omega)
  omega
theorem toNat_is (l v : Int) (hl : 0 ≤ l) (hv : 0 ≤ v) : (((l / (v + 1) + 1).toNat : Nat) : Int) = l / (v + 1) + 1 := by
  have h0 : 0 ≤ l / (v + 1) := Int.ediv_nonneg hl (by omega)
  omega
theorem manyLaw_walk (x l a b : Int) (h0 : (Lit.int .i32 x).wf = true) (h1 : (Lit.int .u16 l).wf = true) (h2 : (Lit.int .u16 a).wf = true) (h3 : (Lit.int .u16 b).wf = true) (W : World) :
    Calls Try.prog 7 #[.int .i32 x, .int .u16 l, .int .u16 a, .int .u16 b] W fun e w' => e = .returned (.bool true) ∧ Below W.heap.size W w' := by
  obtain ⟨x1, x2⟩ := bd32 h0
  obtain ⟨l1, l2⟩ := bd16 h1
  obtain ⟨a1, a2⟩ := bd16 h2
  obtain ⟨b1, b2⟩ := bd16 h3
  rcases (by omega : a < b ∨ a = b ∨ b < a) with h | rfl | h
  · by_cases hq : l / (a + 1) + 1 ≤ 64
    · have := div_mono l a b l1 a1 (by omega)
      have e1 := toNat_is l a l1 a1
      have e2 := toNat_is l b l1 b1
      exact many_few_lt x l a b x1 x2 l1 l2 a1 b2 h _ _ (Lib.hid e1) (Lib.hid e2) (by omega) (by omega) W
    · exact many_lots_lt x l a b x1 x2 l1 l2 a1 b2 h (by omega) W
  · by_cases hq : l / (a + 1) + 1 ≤ 64
    · have e1 := toNat_is l a l1 a1
      exact many_few_eq x l a x1 x2 l1 l2 a1 a2 _ _ (Lib.hid e1) (Lib.hid e1) (by omega) (by omega) W
    · exact many_lots_eq x l a x1 x2 l1 l2 a1 a2 (by omega) W
  · by_cases hq : l / (b + 1) + 1 ≤ 64
    · have := div_mono l b a l1 b1 (by omega)
      have e1 := toNat_is l b l1 b1
      have e2 := toNat_is l a l1 a1
      exact many_few_gt x l a b x1 x2 l1 l2 b1 a2 h _ _ (Lib.hid e1) (Lib.hid e2) (by omega) (by omega) W
    · exact many_lots_gt x l a b x1 x2 l1 l2 b1 a2 h (by omega) W
end Go.Proofs.Ytmdpdffifpbbeaa
