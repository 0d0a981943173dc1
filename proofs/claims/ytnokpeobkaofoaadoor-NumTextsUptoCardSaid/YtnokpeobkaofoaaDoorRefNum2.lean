/- The document's own sums, products and least ones. -/
import Derived.Test.YtnokpeobkaofoaaDoorRefNum
namespace Go.Proofs.YtnokpeobkaofoaaDoor
open Go.RowKit
set_option linter.unusedVariables false

theorem getD_wf {zs : List Int} {n : Nat} (hl : zs.length = n) (hw : ∀ z ∈ zs, (Lit.int .i64 z).wf = true) (k : Nat) (hk : k < n) : -9223372036854775808 ≤ zs.getD k 0 ∧ zs.getD k 0 ≤ 9223372036854775807 := by
  have hm : zs.getD k 0 ∈ zs := by
    rw [List.getD_eq_getElem?_getD, List.getElem?_eq_getElem (by rw [hl]; exact hk)]
    exact List.getElem_mem _
  exact bdi64 (hw _ hm)
theorem step_range {f : Int → Int → Int} {o : Option Int} {z s : Int} (h : stepR f o z = some s) : -9223372036854775808 ≤ s ∧ s ≤ 9223372036854775807 := by
  cases o with
  | none => cases h
  | some x =>
    simp only [stepR, Option.bind_some] at h
    split at h
    · rename_i hx
      injection h with h
      subst h
      exact hx
    · cases h

set_option maxHeartbeats 400000 in
theorem refAdd_any (A : Option Addr) (n c : Nat) (zs : List Int) (hn : n ≤ 9223372036854775806) (W : World) (h : Ints .i64 W A n zs) :
    Calls Tryd.prog 11 #[.slice A n c] W fun e w' => e = .returned (.tuple #[.int .i64 ((sumR zs).getD 0), .bool (sumR zs).isSome]) ∧ W = w' := by
  obtain ⟨hl, hw, hA⟩ := h
  have HL := Lib.hid hl
  have HW := Lib.hid hw
  have HA := Lib.hid hA
  clear hl hw hA
  go_enter Tryd.func11, Tryd.ntmps11
  go_wp2
  go_loop [4, 5] (fun v i => ∃ (k : Nat) (s : Int), k ≤ n ∧ i = .int .i64 k ∧ v = .int .i64 s ∧ -9223372036854775808 ≤ s ∧ s ≤ 9223372036854775807 ∧ Hid ((zs.take k).foldl (stepR (· + ·)) (some 0) = some s)) (fun _ i => n - (intOf i).toNat)
  case atStart => exact ⟨0, 0, Nat.zero_le _, rfl, rfl, by decide, by decide, Lib.hid rfl⟩
  case round =>
    obtain ⟨k, s, hk, rfl, rfl, s0, s1, HS⟩ := hrel
    by_cases hkn : k < n
    · obtain ⟨b, off, rfl, hlt, hc⟩ := HA.out (by omega)
      have c0 := hc k hkn
      have hstep := fold_snoc (· + ·) (some 0) zs k (by rw [HL.out]; exact hkn)
      rw [HS.out] at hstep
      obtain ⟨z0, z1⟩ := getD_wf HL.out HW.out k hkn
      obtain ⟨z, hz⟩ : ∃ z, zs.getD k 0 = z := ⟨_, rfl⟩
      rw [hz] at c0 hstep z0 z1
      have hcall := fun w => refSum_any s z s0 s1 z0 z1 w
      have hrg := fun r => step_range (f := (· + ·)) (o := some s) (z := z) (s := r)
      obtain ⟨o, ho⟩ : ∃ o, stepR (· + ·) (some s) z = o := ⟨_, rfl⟩
      simp only [ho] at hcall hstep hrg
      have HC := Lib.hid hcall
      clear hc hz ho hcall
      cases o with
      | none =>
        have e2 := fold_stop _ _ _ _ hstep
        have E := Lib.hid e2
        clear hstep e2 hrg
        go_wp2_with fail
        refine (HC.out _).mono ?_
        rintro e w' ⟨rfl, rfl⟩
        go_wp2
        go_ret2
        exact ⟨ret_num (o := sumR zs) (by rw [sumR, E.out]; rfl) (by rw [sumR, E.out]; rfl), rfl⟩
      | some r =>
        obtain ⟨r0, r1⟩ := hrg r rfl
        have E := Lib.hid hstep
        clear hstep hrg
        go_wp2_with fail
        refine (HC.out _).mono ?_
        rintro e w' ⟨rfl, rfl⟩
        go_wp2
        go_round
        case rel => exact ⟨k + 1, r, by omega, by go_num, rfl, r0, r1, E⟩
        case measure => simp [intOf]; omega
    · obtain rfl : k = n := by omega
      have hs := HS.out
      rw [List.take_of_length_le (by rw [HL.out]; exact Nat.le_refl _)] at hs
      have E := Lib.hid hs
      clear hs
      go_wp2
      go_ret2
      exact ⟨ret_num (o := sumR zs) (by rw [sumR, E.out]; rfl) (by rw [sumR, E.out]; rfl), rfl⟩

theorem wrap_u64 (x : Int) : IntKind.u64.wrap x = x % 18446744073709551616 := by
  simp [IntKind.wrap, IntKind.signed, IntKind.bits]
set_option maxHeartbeats 400000 in
theorem refSize_any (a : Int) (a0 : -9223372036854775808 ≤ a) (a1 : a ≤ 9223372036854775807) (W : World) :
    Calls Tryd.prog 25 #[.int .i64 a] W fun e w' => e = .returned (.int .u64 (a.natAbs : Int)) ∧ W = w' := by
  rcases (by omega : a < 0 ∨ ¬ a < 0) with h | h
  · have e : IntKind.u64.wrap (-(IntKind.u64.wrap a)) = (a.natAbs : Int) := by rw [wrap_u64, wrap_u64]; omega
    go_enter Tryd.func25, Tryd.ntmps25
    go_wp2
    go_ret
    exact ⟨by first | rw [e] | (congr 2), rfl⟩
  · have e : IntKind.u64.wrap a = (a.natAbs : Int) := by rw [wrap_u64]; omega
    go_enter Tryd.func25, Tryd.ntmps25
    go_wp2
    go_ret
    exact ⟨by first | rw [e] | (congr 2), rfl⟩

/-- how far from 0 a product may be, by its sign -/
theorem times_iff (a b : Int) (a0 : a ≠ 0) (b0 : b ≠ 0) : (-9223372036854775808 ≤ a * b ∧ a * b ≤ 9223372036854775807) ↔ a.natAbs ≤ (if (decide (a < 0) == decide (b < 0)) = true then 9223372036854775807 else 9223372036854775808) / b.natAbs := by
  have hb : 0 < b.natAbs := by omega
  rw [Nat.le_div_iff_mul_le hb, ← Int.natAbs_mul]
  rcases (by omega : a < 0 ∨ 0 < a) with h | h <;> rcases (by omega : b < 0 ∨ 0 < b) with h2 | h2
  · have hp : 0 < a * b := Int.mul_pos_of_neg_of_neg h h2
    rw [if_pos (by simp; omega)]; omega
  · have hp : a * b < 0 := Int.mul_neg_of_neg_of_pos h h2
    rw [if_neg (by simp; omega)]; omega
  · have hp : a * b < 0 := Int.mul_neg_of_pos_of_neg h h2
    rw [if_neg (by simp; omega)]; omega
  · have hp : 0 < a * b := Int.mul_pos h h2
    rw [if_pos (by simp; omega)]; omega
def timesO (a b : Int) : Option Int := stepR (· * ·) (some a) b
theorem timesO_eq (a b : Int) : timesO a b = if -9223372036854775808 ≤ a * b ∧ a * b ≤ 9223372036854775807 then some (a * b) else none := rfl

set_option maxHeartbeats 800000 in
theorem refTimes_any (a b : Int) (a0 : -9223372036854775808 ≤ a) (a1 : a ≤ 9223372036854775807) (b0 : -9223372036854775808 ≤ b) (b1 : b ≤ 9223372036854775807) (W : World) :
    Calls Tryd.prog 24 #[.int .i64 a, .int .i64 b] W fun e w' => e = .returned (.tuple #[.int .i64 ((timesO a b).getD 0), .bool (timesO a b).isSome]) ∧ W = w' := by
  have HA := Lib.hid (fun w => refSize_any a a0 a1 w)
  have HB := Lib.hid (fun w => refSize_any b b0 b1 w)
  by_cases ha : a = 0
  · subst ha
    have e : timesO 0 b = some 0 := by rw [timesO_eq, Int.zero_mul]; rfl
    have E := Lib.hid e
    clear e
    go_enter Tryd.func24, Tryd.ntmps24
    go_wp2_with fail
    refine (HA.out _).mono ?_
    rintro e w ⟨rfl, rfl⟩
    go_wp2_with fail
    refine (HB.out _).mono ?_
    rintro e w ⟨rfl, rfl⟩
    go_wp2
    go_ret2
    exact ⟨ret_num (by rw [E.out]; rfl) (by rw [E.out]; rfl), rfl⟩
  · by_cases hb : b = 0
    · subst hb
      have e : timesO a 0 = some 0 := by rw [timesO_eq, Int.mul_zero]; rfl
      have E := Lib.hid e
      obtain ⟨x, hx⟩ : ∃ x : Nat, a.natAbs = x := ⟨_, rfl⟩
      rw [hx] at HA
      have gx : ((x : Int) == 0) = false := by rw [beq_eq_false_iff_ne]; omega
      clear e
      go_enter Tryd.func24, Tryd.ntmps24
      go_wp2_with fail
      refine (HA.out _).mono ?_
      rintro e w ⟨rfl, rfl⟩
      go_wp2_with fail
      refine (HB.out _).mono ?_
      rintro e w ⟨rfl, rfl⟩
      go_wp2
      go_ret2
      exact ⟨ret_num (by rw [E.out]; rfl) (by rw [E.out]; rfl), rfl⟩
    · have hiff := times_iff a b ha hb
      have hx1 : a.natAbs ≤ 9223372036854775808 := by omega
      have hy1 : b.natAbs ≤ 9223372036854775808 := by omega
      obtain ⟨x, hx⟩ : ∃ x : Nat, a.natAbs = x := ⟨_, rfl⟩
      obtain ⟨y, hy⟩ : ∃ y : Nat, b.natAbs = y := ⟨_, rfl⟩
      have HWR := Lib.hid (fun h : InR (a * b) => wrap_in (a * b) h)
      rw [hx, hy] at hiff
      rw [hx] at HA hx1
      rw [hy] at HB hy1
      have gx : ((x : Int) == 0) = false := by rw [beq_eq_false_iff_ne]; omega
      have gy : ((y : Int) == 0) = false := by rw [beq_eq_false_iff_ne]; omega
      have gy0 : ¬ (y : Int) = 0 := by omega
      have hs : ∃ (m : Nat) (sg : Bool), (decide (a < 0) == decide (b < 0)) = sg ∧ m = (if sg = true then 9223372036854775807 else 9223372036854775808) ∧ ((-9223372036854775808 ≤ a * b ∧ a * b ≤ 9223372036854775807) ↔ x ≤ m / y) := ⟨_, _, rfl, rfl, hiff⟩
      obtain ⟨m, sg, hsg, hm, hi⟩ := hs
      have hq : m / y ≤ m := Nat.div_le_self _ _
      have hms : sg = true ∧ m = 9223372036854775807 ∨ sg = false ∧ m = 9223372036854775808 := by cases sg <;> simp at hm <;> simp [hm]
      have hdiv : (m : Int) / (y : Int) = ((m / y : Nat) : Int) := rfl
      have hsgn : (decide (a < 0) = true ∧ decide (b < 0) = true ∧ sg = true) ∨ (decide (a < 0) = false ∧ decide (b < 0) = false ∧ sg = true) ∨ (decide (a < 0) = true ∧ decide (b < 0) = false ∧ sg = false) ∨ (decide (a < 0) = false ∧ decide (b < 0) = true ∧ sg = false) := by
        revert hsg
        generalize decide (a < 0) = x1
        generalize decide (b < 0) = x2
        intro hsg
        revert hsg
        cases x1 <;> cases x2 <;> cases sg <;> decide
      clear hm hsg hiff hx hy
      by_cases hin : x ≤ m / y
      · have e : timesO a b = some (a * b) := by rw [timesO_eq, if_pos (hi.2 hin)]
        have E := Lib.hid e
        have hwr := HWR.out (hi.2 hin)
        have HWR2 := Lib.hid hwr
        obtain ⟨q, hqe⟩ : ∃ q, m / y = q := ⟨_, rfl⟩
        rw [hqe] at hin hdiv hq
        clear hi e hqe hwr HWR
        rcases hms with ⟨rfl, rfl⟩ | ⟨rfl, rfl⟩
        · have hd : (9223372036854775807 : Int) / (y : Int) = (q : Int) := hdiv
          clear hdiv
          rcases hsgn with ⟨k1, k2, k3⟩ | ⟨k1, k2, k3⟩ | ⟨k1, k2, k3⟩ | ⟨k1, k2, k3⟩
          all_goals
            first
            | exact absurd k3 (by decide)
            | (clear k3
               go_enter Tryd.func24, Tryd.ntmps24
               go_wp2_with fail
               refine (HA.out _).mono ?_
               rintro e w ⟨rfl, rfl⟩
               go_wp2_with fail
               refine (HB.out _).mono ?_
               rintro e w ⟨rfl, rfl⟩
               go_wp2
               go_ret2
               exact ⟨ret_num (by rw [E.out]; exact HWR2.out.symm) (by rw [E.out]; rfl), rfl⟩)
        · have hd : (9223372036854775808 : Int) / (y : Int) = (q : Int) := hdiv
          clear hdiv
          rcases hsgn with ⟨k1, k2, k3⟩ | ⟨k1, k2, k3⟩ | ⟨k1, k2, k3⟩ | ⟨k1, k2, k3⟩
          all_goals
            first
            | exact absurd k3 (by decide)
            | (clear k3
               go_enter Tryd.func24, Tryd.ntmps24
               go_wp2_with fail
               refine (HA.out _).mono ?_
               rintro e w ⟨rfl, rfl⟩
               go_wp2_with fail
               refine (HB.out _).mono ?_
               rintro e w ⟨rfl, rfl⟩
               go_wp2
               go_ret2
               exact ⟨ret_num (by rw [E.out]; exact HWR2.out.symm) (by rw [E.out]; rfl), rfl⟩)
      · have e : timesO a b = none := by rw [timesO_eq, if_neg (fun h => hin (hi.1 h))]
        have E := Lib.hid e
        obtain ⟨q, hqe⟩ : ∃ q, m / y = q := ⟨_, rfl⟩
        rw [hqe] at hin hdiv hq
        clear hi e hqe HWR
        rcases hms with ⟨rfl, rfl⟩ | ⟨rfl, rfl⟩
        · have hd : (9223372036854775807 : Int) / (y : Int) = (q : Int) := hdiv
          clear hdiv
          rcases hsgn with ⟨k1, k2, k3⟩ | ⟨k1, k2, k3⟩ | ⟨k1, k2, k3⟩ | ⟨k1, k2, k3⟩
          all_goals
            first
            | exact absurd k3 (by decide)
            | (clear k3
               go_enter Tryd.func24, Tryd.ntmps24
               go_wp2_with fail
               refine (HA.out _).mono ?_
               rintro e w ⟨rfl, rfl⟩
               go_wp2_with fail
               refine (HB.out _).mono ?_
               rintro e w ⟨rfl, rfl⟩
               go_wp2
               go_ret2
               exact ⟨ret_num (by rw [E.out]; rfl) (by rw [E.out]; rfl), rfl⟩)
        · have hd : (9223372036854775808 : Int) / (y : Int) = (q : Int) := hdiv
          clear hdiv
          rcases hsgn with ⟨k1, k2, k3⟩ | ⟨k1, k2, k3⟩ | ⟨k1, k2, k3⟩ | ⟨k1, k2, k3⟩
          all_goals
            first
            | exact absurd k3 (by decide)
            | (clear k3
               go_enter Tryd.func24, Tryd.ntmps24
               go_wp2_with fail
               refine (HA.out _).mono ?_
               rintro e w ⟨rfl, rfl⟩
               go_wp2_with fail
               refine (HB.out _).mono ?_
               rintro e w ⟨rfl, rfl⟩
               go_wp2
               go_ret2
               exact ⟨ret_num (by rw [E.out]; rfl) (by rw [E.out]; rfl), rfl⟩)
end Go.Proofs.YtnokpeobkaofoaaDoor
