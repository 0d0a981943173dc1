/- The document's own products of many, and least ones. -/
import Derived.Test.YtnokpeobkaofoaaDoorRefNum2
namespace Go.Proofs.YtnokpeobkaofoaaDoor
open Go.RowKit
set_option linter.unusedVariables false

set_option maxHeartbeats 400000 in
theorem refMul_any (A : Option Addr) (n c : Nat) (zs : List Int) (hn : n ≤ 9223372036854775806) (W : World) (h : Ints .i64 W A n zs) :
    Calls Tryd.prog 13 #[.slice A n c] W fun e w' => e = .returned (.tuple #[.int .i64 ((mulR zs).getD 0), .bool (mulR zs).isSome]) ∧ W = w' := by
  obtain ⟨hl, hw, hA⟩ := h
  have HL := Lib.hid hl
  have HW := Lib.hid hw
  have HA := Lib.hid hA
  clear hl hw hA
  go_enter Tryd.func13, Tryd.ntmps13
  go_wp2
  go_loop [4, 5] (fun v i => ∃ (k : Nat) (s : Int), k ≤ n ∧ i = .int .i64 k ∧ v = .int .i64 s ∧ -9223372036854775808 ≤ s ∧ s ≤ 9223372036854775807 ∧ Hid ((zs.take k).foldl (stepR (· * ·)) (some 1) = some s)) (fun _ i => n - (intOf i).toNat)
  case atStart => exact ⟨0, 1, Nat.zero_le _, rfl, rfl, by decide, by decide, Lib.hid rfl⟩
  case round =>
    obtain ⟨k, s, hk, rfl, rfl, s0, s1, HS⟩ := hrel
    by_cases hkn : k < n
    · obtain ⟨b, off, rfl, hlt, hc⟩ := HA.out (by omega)
      have c0 := hc k hkn
      have hstep := fold_snoc (· * ·) (some 1) zs k (by rw [HL.out]; exact hkn)
      rw [HS.out] at hstep
      obtain ⟨z0, z1⟩ := getD_wf HL.out HW.out k hkn
      obtain ⟨z, hz⟩ : ∃ z, zs.getD k 0 = z := ⟨_, rfl⟩
      rw [hz] at c0 hstep z0 z1
      have hcall := fun w => refTimes_any s z s0 s1 z0 z1 w
      have hrg := fun r => step_range (f := (· * ·)) (o := some s) (z := z) (s := r)
      obtain ⟨o, ho⟩ : ∃ o, stepR (· * ·) (some s) z = o := ⟨_, rfl⟩
      simp only [timesO] at hcall
      simp only [ho] at hcall hstep hrg
      have HC := Lib.hid hcall
      clear hc hz ho hcall
      cases o with
      | none =>
        have e2 := fold_stop _ _ _ _ hstep
        have E := Lib.hid e2
        clear hstep e2 hrg
        go_wp2_with fail
        refine (HC.out _).mono ?_
        rintro e w' ⟨rfl, rfl⟩
        go_wp2
        go_ret2
        exact ⟨ret_num (o := mulR zs) (by rw [mulR, E.out]; rfl) (by rw [mulR, E.out]; rfl), rfl⟩
      | some r =>
        obtain ⟨r0, r1⟩ := hrg r rfl
        have E := Lib.hid hstep
        clear hstep hrg
        go_wp2_with fail
        refine (HC.out _).mono ?_
        rintro e w' ⟨rfl, rfl⟩
        go_wp2
        go_round
        case rel => exact ⟨k + 1, r, by omega, by go_num, rfl, r0, r1, E⟩
        case measure => simp [intOf]; omega
    · obtain rfl : k = n := by omega
      have hs := HS.out
      rw [List.take_of_length_le (by rw [HL.out]; exact Nat.le_refl _)] at hs
      have E := Lib.hid hs
      clear hs
      go_wp2
      go_ret2
      exact ⟨ret_num (o := mulR zs) (by rw [mulR, E.out]; rfl) (by rw [mulR, E.out]; rfl), rfl⟩

set_option maxHeartbeats 400000 in
theorem refLeast_any (a : Int) (ms : List Int) (A : Option Addr) (n c : Nat) (hn : n ≤ 9223372036854775806) (W : World) (h : Ints .i64 W A n (a :: ms)) :
    Calls Tryd.prog 17 #[.slice A n c] W fun e w' => e = .returned (.int .i64 (leastZ a ms)) ∧ W = w' := by
  obtain ⟨hl, hw, hA⟩ := h
  have hl' : ms.length + 1 = n := by simpa using hl
  obtain ⟨b, off, rfl, hlt, hc⟩ := hA (by omega)
  have c00 := hc 0 (by omega)
  rw [Nat.add_zero] at c00
  have HC := Lib.hid hc
  have HL := Lib.hid hl'
  have hn1 : 0 < n := by omega
  have hn2 : 1 ≤ n := by omega
  clear hl hw hA hc hl'
  replace c00 : W.cell? ⟨b, off, none⟩ = some (.int .i64 a) := c00
  go_enter Tryd.func17, Tryd.ntmps17
  go_wp2
  go_loop [3, 4] (fun v i => ∃ (k : Nat) (s : Int), k + 1 ≤ n ∧ i = .int .i64 ((k : Int) + 1) ∧ v = .int .i64 s ∧ Hid ((ms.take k).foldl min a = s)) (fun _ i => n - (intOf i).toNat)
  case atStart => exact ⟨0, a, hn2, rfl, rfl, Lib.hid rfl⟩
  case round =>
    obtain ⟨k, s, hk, rfl, rfl, HS⟩ := hrel
    by_cases hkn : k + 1 < n
    · have c0 := HC.out (k + 1) hkn
      have hlm := HL.out
      have hstep : (ms.take (k + 1)).foldl min a = min s (ms.getD k 0) := by
        rw [List.take_succ_eq_append_getElem (by omega), List.foldl_append, HS.out, List.getD_eq_getElem?_getD, List.getElem?_eq_getElem (by omega)]
        rfl
      replace c0 : W.cell? ⟨b, off + (k + 1), none⟩ = some (.int .i64 (ms.getD k 0)) := c0
      obtain ⟨z, hz⟩ : ∃ z, ms.getD k 0 = z := ⟨_, rfl⟩
      rw [hz] at c0 hstep
      have hmin : min s z = if z < s then z else s := by split <;> omega
      rw [hmin] at hstep
      have HST := Lib.hid hstep
      obtain ⟨m, hm⟩ : ∃ m : Nat, m = k + 1 := ⟨_, rfl⟩
      have hmi : (k : Int) + 1 = (m : Int) := by omega
      rw [← hm] at c0 hkn
      rw [hmi]
      have q1 : (m : Int) < (n : Int) := by omega
      have HM := Lib.hid hm
      clear hz hmin hstep hlm hm hmi
      go_wp2
      go_round
      case rel => exact ⟨k + 1, _, by have := HM.out; omega, by rw [HM.out], rfl, HST⟩
      case measure => have := HM.out; simp [intOf]; omega
    · have hs := HS.out
      have hkl : ms.length = k := by have := HL.out; omega
      rw [List.take_of_length_le (by omega)] at hs
      have E := Lib.hid hs
      obtain ⟨m, hm⟩ : ∃ m : Nat, m = k + 1 := ⟨_, rfl⟩
      have hmi : (k : Int) + 1 = (m : Int) := by omega
      have hmn : m = n := by omega
      rw [hmi]
      subst hmn
      clear hs hkl hkn hk hm hmi
      go_wp2
      go_ret
      exact ⟨by show Ending.returned (.int .i64 s) = _; rw [leastZ, E.out], rfl⟩
end Go.Proofs.YtnokpeobkaofoaaDoor
