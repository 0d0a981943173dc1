/- The walk of the law NumLaws: sums and products are the same in whatever order of two; what was added is taken off again; a product is divided again. -/
import Derived.Test.YtnokpeobkaofoaaDoorNumExam
namespace Go.Proofs.YtnokpeobkaofoaaDoor
open Go.RowKit
set_option linter.unusedVariables false

theorem sum_two (a b : Int) (a0 : -9223372036854775808 ≤ a) (a1 : a ≤ 9223372036854775807) : sumR [a, b] = if -9223372036854775808 ≤ a + b ∧ a + b ≤ 9223372036854775807 then some (a + b) else none := by
  simp only [sumR, List.foldl_cons, List.foldl_nil, stepR, Option.bind_some, Int.zero_add]
  rw [if_pos ⟨a0, a1⟩]
  rfl
theorem mul_two (a b : Int) (a0 : -9223372036854775808 ≤ a) (a1 : a ≤ 9223372036854775807) : mulR [a, b] = if -9223372036854775808 ≤ a * b ∧ a * b ≤ 9223372036854775807 then some (a * b) else none := by
  simp only [mulR, List.foldl_cons, List.foldl_nil, stepR, Option.bind_some, Int.one_mul]
  rw [if_pos ⟨a0, a1⟩]
  rfl
/-- the result of a call that adds or multiplies -/
def numV (o : Option Int) : Value := .tuple #[.int .i64 (o.getD 0), .bool o.isSome]

theorem adds (W : World) (t : TypeId) (a b : Int) (wa : (Lit.int .i64 a).wf = true) (wb : (Lit.int .i64 b).wf = true) :
    Calls Tryd.prog 10 #[.slice (some ⟨W.heap.size, 0, none⟩) 2 2] (W.alloc (.cells #[.int .i64 a, .int .i64 b] t)) fun e w' => e = .returned (.tuple #[.int .i64 ((sumR [a, b]).getD 0), .bool (sumR [a, b]).isSome]) ∧ Below (W.alloc (.cells #[.int .i64 a, .int .i64 b] t)).heap.size (W.alloc (.cells #[.int .i64 a, .int .i64 b] t)) w' :=
  same_below (add_any _ 2 2 [a, b] (by decide) _ (ints_lit W t [a, b] (by simp [wa, wb]) _ rfl))
theorem muls (W : World) (t : TypeId) (a b : Int) (wa : (Lit.int .i64 a).wf = true) (wb : (Lit.int .i64 b).wf = true) :
    Calls Tryd.prog 12 #[.slice (some ⟨W.heap.size, 0, none⟩) 2 2] (W.alloc (.cells #[.int .i64 a, .int .i64 b] t)) fun e w' => e = .returned (.tuple #[.int .i64 ((mulR [a, b]).getD 0), .bool (mulR [a, b]).isSome]) ∧ Below (W.alloc (.cells #[.int .i64 a, .int .i64 b] t)).heap.size (W.alloc (.cells #[.int .i64 a, .int .i64 b] t)) w' :=
  same_below (mul_any _ 2 2 [a, b] (by decide) _ (ints_lit W t [a, b] (by simp [wa, wb]) _ rfl))

set_option maxRecDepth 100000 in
set_option maxHeartbeats 3200000 in
theorem numLaws_walk {W : World} (a b : Int) (wa : (Lit.int .i64 a).wf = true) (wb : (Lit.int .i64 b).wf = true) (hl : LibIs W) :
    Calls Tryd.prog 6 #[.int .i64 a, .int .i64 b] W fun e w' => e = .returned (.bool true) ∧ Below W.heap.size W w' := by
  have h0 : W.heap.size ≤ W.heap.size := Nat.le_refl _
  obtain ⟨a0, a1⟩ := bdi64 wa
  obtain ⟨b0, b1⟩ := bdi64 wb
  have HX := Lib.hid (numExamples_any W hl)
  have A1 := fun w t => adds w t a b wa wb
  have A2 := fun w t => adds w t b a wb wa
  have M1 := fun w t => muls w t a b wa wb
  have M2 := fun w t => muls w t b a wb wa
  rw [sum_two a b a0 a1] at A1
  rw [sum_two b a b0 b1, Int.add_comm b a] at A2
  rw [mul_two a b a0 a1] at M1
  rw [mul_two b a b0 b1, Int.mul_comm b a] at M2
  -- the sum
  have hsum : (∃ s, (if -9223372036854775808 ≤ a + b ∧ a + b ≤ 9223372036854775807 then some (a + b) else none) = some s ∧
      ∀ w, Calls Tryd.prog 14 #[.int .i64 s, .int .i64 b] w fun e w' => e = .returned (.tuple #[.int .i64 a, .bool true]) ∧ Below w.heap.size w w') ∨
      ((if -9223372036854775808 ≤ a + b ∧ a + b ≤ 9223372036854775807 then some (a + b) else none) = none ∧ ((a < 0 ∧ b < 0) ∨ (0 ≤ a ∧ 0 ≤ b))) := by
    by_cases h : -9223372036854775808 ≤ a + b ∧ a + b ≤ 9223372036854775807
    · refine .inl ⟨a + b, by rw [if_pos h], fun w => ?_⟩
      have := same_below (sub_any (a + b) b h.1 h.2 b0 b1 w)
      have e : stepR (· - ·) (some (a + b)) b = some a := by
        have : a + b - b = a := by omega
        simp only [stepR, Option.bind_some, this]
        rw [if_pos ⟨a0, a1⟩]
      rw [e] at this
      exact this
    · exact .inr ⟨by rw [if_neg h], by omega⟩
  -- the product
  have hprod : (∃ p, (if -9223372036854775808 ≤ a * b ∧ a * b ≤ 9223372036854775807 then some (a * b) else none) = some p ∧ (b = 0 ∨ b = -1 ∨ (b ≠ 0 ∧ b ≠ -1 ∧ p.tdiv b = a ∧ p.tmod b = 0))) ∨
      ((if -9223372036854775808 ≤ a * b ∧ a * b ≤ 9223372036854775807 then some (a * b) else none) = none ∧ a ≠ 0 ∧ b ≠ 0 ∧ a ≠ 1 ∧ b ≠ 1) := by
    by_cases h : -9223372036854775808 ≤ a * b ∧ a * b ≤ 9223372036854775807
    · refine .inl ⟨a * b, by rw [if_pos h], ?_⟩
      by_cases hb : b = 0
      · exact .inl hb
      · by_cases hb1 : b = -1
        · exact .inr (.inl hb1)
        · exact .inr (.inr ⟨hb, hb1, Int.mul_tdiv_cancel a hb, Int.mul_tmod_left a b⟩)
    · refine .inr ⟨by rw [if_neg h], ?_, ?_, ?_, ?_⟩ <;> rintro rfl <;> exact h (by constructor <;> omega)
  generalize (if -9223372036854775808 ≤ a + b ∧ a + b ≤ 9223372036854775807 then some (a + b) else none) = sr at A1 A2 hsum
  generalize (if -9223372036854775808 ≤ a * b ∧ a * b ≤ 9223372036854775807 then some (a * b) else none) = pr at M1 M2 hprod
  obtain ⟨s, ok, es, HS, HD⟩ : ∃ (s : Int) (ok : Bool), (sr.getD 0 = s ∧ sr.isSome = ok) ∧ ((ok = true) ∨ (ok = false ∧ (decide (a < 0) == decide (b < 0)) = true)) ∧
      Hid (ok = true → ∀ w, Calls Tryd.prog 14 #[.int .i64 s, .int .i64 b] w fun e w' => e = .returned (.tuple #[.int .i64 a, .bool true]) ∧ Below w.heap.size w w') := by
    rcases hsum with ⟨s, rfl, h⟩ | ⟨rfl, h⟩
    · exact ⟨s, true, ⟨rfl, rfl⟩, .inl rfl, Lib.hid fun _ => h⟩
    · exact ⟨0, false, ⟨rfl, rfl⟩, .inr ⟨rfl, by rcases h with h | h <;> simp <;> omega⟩, Lib.hid fun h => by cases h⟩
  obtain ⟨p, fits, ep, HP⟩ : ∃ (p : Int) (fits : Bool), (pr.getD 0 = p ∧ pr.isSome = fits) ∧ ((fits = true ∧ (b == 0) = true) ∨ (fits = true ∧ (b == 0) = false ∧ (b == -1) = true) ∨ (fits = true ∧ (b == 0) = false ∧ (b == -1) = false ∧ p.tdiv b = a ∧ p.tmod b = 0 ∧ ¬ b = 0) ∨
      (fits = false ∧ (a != 0) = true ∧ (b != 0) = true ∧ (a != 1) = true ∧ (b != 1) = true)) := by
    rcases hprod with ⟨p, rfl, h⟩ | ⟨rfl, h1, h2, h3, h4⟩
    · refine ⟨p, true, ⟨rfl, rfl⟩, ?_⟩
      rcases h with h | h | ⟨h1, h2, h3, h4⟩
      · exact .inl ⟨rfl, by simp [h]⟩
      · exact .inr (.inl ⟨rfl, by simp [h], by simp [h]⟩)
      · exact .inr (.inr (.inl ⟨rfl, by simpa using h1, by simpa using h2, h3, h4, h1⟩))
    · exact ⟨0, false, ⟨rfl, rfl⟩, .inr (.inr (.inr ⟨rfl, by simpa using h1, by simpa using h2, by simpa using h3, by simpa using h4⟩))⟩
  rw [es.1, es.2] at A1 A2
  rw [ep.1, ep.2] at M1 M2
  have HA1 := Lib.hid A1
  have HA2 := Lib.hid A2
  have HM1 := Lib.hid M1
  have HM2 := Lib.hid M2
  clear A1 A2 M1 M2 es ep hsum hprod wa wb
  rcases HS with rfl | ⟨rfl, k1⟩
  · replace HD := Lib.hid (HD.out rfl)
    rcases HP with ⟨rfl, q1⟩ | ⟨rfl, q1, q2⟩ | ⟨rfl, q1, q2, q3, q4, q5⟩ | ⟨rfl, q1, q2, q3, q4⟩
    all_goals
      go_enter Tryd.func6, Tryd.ntmps6
      go_wp2_with fail
      refine HX.out.mono ?_
      rintro e w ⟨rfl, hb⟩
      go_wp2_with fail
      refine (HA1.out _ _).mono ?_
      rintro e w2 ⟨rfl, hx⟩
      replace hb := hop_new hb h0 hx
      clear hx
      go_wp2_with fail
      refine (HA2.out _ _).mono ?_
      rintro e w3 ⟨rfl, hx⟩
      replace hb := hop_new hb h0 hx
      clear hx
      go_wp2_with fail
      refine (HM1.out _ _).mono ?_
      rintro e w4 ⟨rfl, hx⟩
      replace hb := hop_new hb h0 hx
      clear hx
      go_wp2_with fail
      refine (HM2.out _ _).mono ?_
      rintro e w5 ⟨rfl, hx⟩
      replace hb := hop_new hb h0 hx
      clear hx
      go_wp2_with fail
      refine (HD.out _).mono ?_
      rintro e w6 ⟨rfl, hx⟩
      replace hb := hop hb h0 hx
      clear hx
      go_wp2
      go_ret
      exact ⟨rfl, hb⟩
  · rcases HP with ⟨rfl, q1⟩ | ⟨rfl, q1, q2⟩ | ⟨rfl, q1, q2, q3, q4, q5⟩ | ⟨rfl, q1, q2, q3, q4⟩
    all_goals
      clear HD
      go_enter Tryd.func6, Tryd.ntmps6
      go_wp2_with fail
      refine HX.out.mono ?_
      rintro e w ⟨rfl, hb⟩
      go_wp2_with fail
      refine (HA1.out _ _).mono ?_
      rintro e w2 ⟨rfl, hx⟩
      replace hb := hop_new hb h0 hx
      clear hx
      go_wp2_with fail
      refine (HA2.out _ _).mono ?_
      rintro e w3 ⟨rfl, hx⟩
      replace hb := hop_new hb h0 hx
      clear hx
      go_wp2_with fail
      refine (HM1.out _ _).mono ?_
      rintro e w4 ⟨rfl, hx⟩
      replace hb := hop_new hb h0 hx
      clear hx
      go_wp2_with fail
      refine (HM2.out _ _).mono ?_
      rintro e w5 ⟨rfl, hx⟩
      replace hb := hop_new hb h0 hx
      clear hx
      go_wp2
      go_ret
      exact ⟨rfl, hb⟩
end Go.Proofs.YtnokpeobkaofoaaDoor
