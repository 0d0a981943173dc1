/- The document's own sums, products and least ones. -/
import Derived.Test.YtehhmejpfglimaaDoorRefNum
namespace Go.Proofs.YtehhmejpfglimaaDoor
open Go.RowKit
set_option linter.unusedVariables false

theorem getD_wf {zs : List Int} {n : Nat} (hl : zs.length = n) (hw : ∀ z ∈ zs, (Lit.int .i64 z).wf = true) (k : Nat) (hk : k < n) : -9223372036854775808 ≤ zs.getD k 0 ∧ zs.getD k 0 ≤ 9223372036854775807 := by
  have hm : zs.getD k 0 ∈ zs := by
    rw [List.getD_eq_getElem?_getD, List.getElem?_eq_getElem (by rw [hl]; exact hk)]
    exact List.getElem_mem _
  exact bdi64 (hw _ hm)
theorem step_range {f : Int → Int → Int} {o : Option Int} {z s : Int} (h : stepR f o z = some s) : -9223372036854775808 ≤ s ∧ s ≤ 9223372036854775807 := by
  cases o with
  | none => cases h
  | some x =>
    simp only [stepR, Option.bind_some] at h
    split at h
    · rename_i hx
      injection h with h
      subst h
      exact hx
    · cases h

theorem wrap_u64 (x : Int) : IntKind.u64.wrap x = x % 18446744073709551616 := by
  simp [IntKind.wrap, IntKind.signed, IntKind.bits]
set_option maxHeartbeats 400000 in
theorem refSize_any (a : Int) (a0 : -9223372036854775808 ≤ a) (a1 : a ≤ 9223372036854775807) (W : World) :
    Calls Tryd.prog 34 #[.int .i64 a] W fun e w' => e = .returned (.int .u64 (a.natAbs : Int)) ∧ W = w' := by
  rcases (by omega : a < 0 ∨ ¬ a < 0) with h | h
  · have e : IntKind.u64.wrap (-(IntKind.u64.wrap a)) = (a.natAbs : Int) := by rw [wrap_u64, wrap_u64]; omega
    go_enter Tryd.func34, Tryd.ntmps34
    go_wp2
    go_ret
    exact ⟨by first | rw [e] | (congr 2), rfl⟩
  · have e : IntKind.u64.wrap a = (a.natAbs : Int) := by rw [wrap_u64]; omega
    go_enter Tryd.func34, Tryd.ntmps34
    go_wp2
    go_ret
    exact ⟨by first | rw [e] | (congr 2), rfl⟩

/-- how far from 0 a product may be, by its sign -/
theorem times_iff (a b : Int) (a0 : a ≠ 0) (b0 : b ≠ 0) : (-9223372036854775808 ≤ a * b ∧ a * b ≤ 9223372036854775807) ↔ a.natAbs ≤ (if (decide (a < 0) == decide (b < 0)) = true then 9223372036854775807 else 9223372036854775808) / b.natAbs := by
  have hb : 0 < b.natAbs := by omega
  rw [Nat.le_div_iff_mul_le hb, ← Int.natAbs_mul]
  rcases (by omega : a < 0 ∨ 0 < a) with h | h <;> rcases (by omega : b < 0 ∨ 0 < b) with h2 | h2
  · have hp : 0 < a * b := Int.mul_pos_of_neg_of_neg h h2
    rw [if_pos (by simp; omega)]; omega
  · have hp : a * b < 0 := Int.mul_neg_of_neg_of_pos h h2
    rw [if_neg (by simp; omega)]; omega
  · have hp : a * b < 0 := Int.mul_neg_of_pos_of_neg h h2
    rw [if_neg (by simp; omega)]; omega
  · have hp : 0 < a * b := Int.mul_pos h h2
    rw [if_pos (by simp; omega)]; omega
def timesO (a b : Int) : Option Int := stepR (· * ·) (some a) b
theorem timesO_eq (a b : Int) : timesO a b = if -9223372036854775808 ≤ a * b ∧ a * b ≤ 9223372036854775807 then some (a * b) else none := rfl

set_option maxHeartbeats 800000 in
theorem refTimes_any (a b : Int) (a0 : -9223372036854775808 ≤ a) (a1 : a ≤ 9223372036854775807) (b0 : -9223372036854775808 ≤ b) (b1 : b ≤ 9223372036854775807) (W : World) :
    Calls Tryd.prog 26 #[.int .i64 a, .int .i64 b] W fun e w' => e = .returned (.tuple #[.int .i64 ((timesO a b).getD 0), .bool (timesO a b).isSome]) ∧ W = w' := by
  have HA := Lib.hid (fun w => refSize_any a a0 a1 w)
  have HB := Lib.hid (fun w => refSize_any b b0 b1 w)
  by_cases ha : a = 0
  · subst ha
    have e : timesO 0 b = some 0 := by rw [timesO_eq, Int.zero_mul]; rfl
    have E := Lib.hid e
    clear e
    go_enter Tryd.func26, Tryd.ntmps26
    go_wp2_with fail
    refine (HA.out _).mono ?_
    rintro e w ⟨rfl, rfl⟩
    go_wp2_with fail
    refine (HB.out _).mono ?_
    rintro e w ⟨rfl, rfl⟩
    go_wp2
    go_ret2
    exact ⟨ret_num (by rw [E.out]; rfl) (by rw [E.out]; rfl), rfl⟩
  · by_cases hb : b = 0
    · subst hb
      have e : timesO a 0 = some 0 := by rw [timesO_eq, Int.mul_zero]; rfl
      have E := Lib.hid e
      obtain ⟨x, hx⟩ : ∃ x : Nat, a.natAbs = x := ⟨_, rfl⟩
      rw [hx] at HA
      have gx : ((x : Int) == 0) = false := by rw [beq_eq_false_iff_ne]; omega
      clear e
      go_enter Tryd.func26, Tryd.ntmps26
      go_wp2_with fail
      refine (HA.out _).mono ?_
      rintro e w ⟨rfl, rfl⟩
      go_wp2_with fail
      refine (HB.out _).mono ?_
      rintro e w ⟨rfl, rfl⟩
      go_wp2
      go_ret2
      exact ⟨ret_num (by rw [E.out]; rfl) (by rw [E.out]; rfl), rfl⟩
    · have hiff := times_iff a b ha hb
      have hx1 : a.natAbs ≤ 9223372036854775808 := by omega
      have hy1 : b.natAbs ≤ 9223372036854775808 := by omega
      obtain ⟨x, hx⟩ : ∃ x : Nat, a.natAbs = x := ⟨_, rfl⟩
      obtain ⟨y, hy⟩ : ∃ y : Nat, b.natAbs = y := ⟨_, rfl⟩
      have HWR := Lib.hid (fun h : InR (a * b) => wrap_in (a * b) h)
      rw [hx, hy] at hiff
      rw [hx] at HA hx1
      rw [hy] at HB hy1
      have gx : ((x : Int) == 0) = false := by rw [beq_eq_false_iff_ne]; omega
      have gy : ((y : Int) == 0) = false := by rw [beq_eq_false_iff_ne]; omega
      have gy0 : ¬ (y : Int) = 0 := by omega
      have hs : ∃ (m : Nat) (sg : Bool), (decide (a < 0) == decide (b < 0)) = sg ∧ m = (if sg = true then 9223372036854775807 else 9223372036854775808) ∧ ((-9223372036854775808 ≤ a * b ∧ a * b ≤ 9223372036854775807) ↔ x ≤ m / y) := ⟨_, _, rfl, rfl, hiff⟩
      obtain ⟨m, sg, hsg, hm, hi⟩ := hs
      have hq : m / y ≤ m := Nat.div_le_self _ _
      have hms : sg = true ∧ m = 9223372036854775807 ∨ sg = false ∧ m = 9223372036854775808 := by cases sg <;> simp at hm <;> simp [hm]
      have hdiv : (m : Int) / (y : Int) = ((m / y : Nat) : Int) := rfl
      have hsgn : (decide (a < 0) = true ∧ decide (b < 0) = true ∧ sg = true) ∨ (decide (a < 0) = false ∧ decide (b < 0) = false ∧ sg = true) ∨ (decide (a < 0) = true ∧ decide (b < 0) = false ∧ sg = false) ∨ (decide (a < 0) = false ∧ decide (b < 0) = true ∧ sg = false) := by
        revert hsg
        generalize decide (a < 0) = x1
        generalize decide (b < 0) = x2
        intro hsg
        revert hsg
        cases x1 <;> cases x2 <;> cases sg <;> decide
      clear hm hsg hiff hx hy
      by_cases hin : x ≤ m / y
      · have e : timesO a b = some (a * b) := by rw [timesO_eq, if_pos (hi.2 hin)]
        have E := Lib.hid e
        have hwr := HWR.out (hi.2 hin)
        have HWR2 := Lib.hid hwr
        obtain ⟨q, hqe⟩ : ∃ q, m / y = q := ⟨_, rfl⟩
        rw [hqe] at hin hdiv hq
        clear hi e hqe hwr HWR
        rcases hms with ⟨rfl, rfl⟩ | ⟨rfl, rfl⟩
        · have hd : (9223372036854775807 : Int) / (y : Int) = (q : Int) := hdiv
          clear hdiv
          rcases hsgn with ⟨k1, k2, k3⟩ | ⟨k1, k2, k3⟩ | ⟨k1, k2, k3⟩ | ⟨k1, k2, k3⟩
          all_goals
            first
            | exact absurd k3 (by decide)
            | (clear k3
               go_enter Tryd.func26, Tryd.ntmps26
               go_wp2_with fail
               refine (HA.out _).mono ?_
               rintro e w ⟨rfl, rfl⟩
               go_wp2_with fail
               refine (HB.out _).mono ?_
               rintro e w ⟨rfl, rfl⟩
               go_wp2
               go_ret2
               exact ⟨ret_num (by rw [E.out]; exact HWR2.out.symm) (by rw [E.out]; rfl), rfl⟩)
        · have hd : (9223372036854775808 : Int) / (y : Int) = (q : Int) := hdiv
          clear hdiv
          rcases hsgn with ⟨k1, k2, k3⟩ | ⟨k1, k2, k3⟩ | ⟨k1, k2, k3⟩ | ⟨k1, k2, k3⟩
          all_goals
            first
            | exact absurd k3 (by decide)
            | (clear k3
               go_enter Tryd.func26, Tryd.ntmps26
               go_wp2_with fail
               refine (HA.out _).mono ?_
               rintro e w ⟨rfl, rfl⟩
               go_wp2_with fail
               refine (HB.out _).mono ?_
               rintro e w ⟨rfl, rfl⟩
               go_wp2
               go_ret2
               exact ⟨ret_num (by rw [E.out]; exact HWR2.out.symm) (by rw [E.out]; rfl), rfl⟩)
      · have e : timesO a b = none := by rw [timesO_eq, if_neg (fun h => hin (hi.1 h))]
        have E := Lib.hid e
        obtain ⟨q, hqe⟩ : ∃ q, m / y = q := ⟨_, rfl⟩
        rw [hqe] at hin hdiv hq
        clear hi e hqe HWR
        rcases hms with ⟨rfl, rfl⟩ | ⟨rfl, rfl⟩
        · have hd : (9223372036854775807 : Int) / (y : Int) = (q : Int) := hdiv
          clear hdiv
          rcases hsgn with ⟨k1, k2, k3⟩ | ⟨k1, k2, k3⟩ | ⟨k1, k2, k3⟩ | ⟨k1, k2, k3⟩
          all_goals
            first
            | exact absurd k3 (by decide)
            | (clear k3
               go_enter Tryd.func26, Tryd.ntmps26
               go_wp2_with fail
               refine (HA.out _).mono ?_
               rintro e w ⟨rfl, rfl⟩
               go_wp2_with fail
               refine (HB.out _).mono ?_
               rintro e w ⟨rfl, rfl⟩
               go_wp2
               go_ret2
               exact ⟨ret_num (by rw [E.out]; rfl) (by rw [E.out]; rfl), rfl⟩)
        · have hd : (9223372036854775808 : Int) / (y : Int) = (q : Int) := hdiv
          clear hdiv
          rcases hsgn with ⟨k1, k2, k3⟩ | ⟨k1, k2, k3⟩ | ⟨k1, k2, k3⟩ | ⟨k1, k2, k3⟩
          all_goals
            first
            | exact absurd k3 (by decide)
            | (clear k3
               go_enter Tryd.func26, Tryd.ntmps26
               go_wp2_with fail
               refine (HA.out _).mono ?_
               rintro e w ⟨rfl, rfl⟩
               go_wp2_with fail
               refine (HB.out _).mono ?_
               rintro e w ⟨rfl, rfl⟩
               go_wp2
               go_ret2
               exact ⟨ret_num (by rw [E.out]; rfl) (by rw [E.out]; rfl), rfl⟩)
end Go.Proofs.YtehhmejpfglimaaDoor
