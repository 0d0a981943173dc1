/- The program's products and least ones. -/
import Derived.Test.YtehhmejpfglimaaDoorNum
namespace Go.Proofs.YtehhmejpfglimaaDoor
open Go.RowKit
set_option linter.unusedVariables false

def wrapsB (a b : Int) : Bool := !decide (-9223372036854775808 ≤ a * b ∧ a * b ≤ 9223372036854775807)
set_option maxHeartbeats 400000 in
theorem wraps_any (a b : Int) (a0 : -9223372036854775808 ≤ a) (a1 : a ≤ 9223372036854775807) (b0 : -9223372036854775808 ≤ b) (b1 : b ≤ 9223372036854775807) (W : World) :
    Calls Tryd.prog 54 #[.int .i64 a, .int .i64 b] W fun e w' => e = .returned (.bool (wrapsB a b)) ∧ W = w' := by
  by_cases h1 : b = -1
  · subst h1
    have e : wrapsB a (-1) = (a == -9223372036854775808) := by
      unfold wrapsB
      rw [Bool.eq_iff_iff]
      simp
      omega
    rw [e]
    go_enter Tryd.func54, Tryd.ntmps54
    go_wp2
    go_ret
    exact ⟨rfl, rfl⟩
  · have g1 : (b == -1) = false := by rw [beq_eq_false_iff_ne]; exact h1
    by_cases h2 : b = 0
    · subst h2
      have e : wrapsB a 0 = false := by simp [wrapsB]
      rw [e]
      clear h1
      go_enter Tryd.func54, Tryd.ntmps54
      go_wp2
      go_ret
      exact ⟨rfl, rfl⟩
    · have g2 : (b != 0) = true := by rw [bne_iff_ne]; exact h2
      have g3 : (b == 0) = false := by rw [beq_eq_false_iff_ne]; exact h2
      have hw := wraps_iff a b ⟨b0, b1⟩ h2
      have hin : wrap64 ((wrap64 (a * b)).tdiv b) = (wrap64 (a * b)).tdiv b := by
        apply wrap_in
        obtain ⟨w0, w1⟩ := wrap_range (a * b)
        generalize wrap64 (a * b) = w at w0 w1
        have hq : (w.tdiv b).natAbs ≤ w.natAbs := by rw [Int.natAbs_tdiv]; exact Nat.div_le_self _ _
        have hq2 : b.natAbs = 1 ∨ (w.tdiv b).natAbs * 2 ≤ w.natAbs := by
          rcases Nat.lt_or_ge b.natAbs 2 with h | h
          · left; omega
          · right
            rw [Int.natAbs_tdiv]
            exact Nat.le_trans (Nat.mul_le_mul_right 2 (Nat.div_le_div_left h (by omega))) (Nat.div_mul_le_self _ _)
        unfold InR
        rcases hq2 with h | h
        · have hb1 : b = 1 := by omega
          subst hb1
          rw [Int.tdiv_one]
          exact ⟨w0, w1⟩
        · omega
      have e : ((wrap64 (a * b)).tdiv b != a) = wrapsB a b := by
        unfold wrapsB
        unfold InR at hw
        rw [Bool.eq_iff_iff]
        simp [hw]
        omega
      have E := Lib.hid e
      have HIN := Lib.hid hin
      clear h1 hw hin e
      go_enter Tryd.func54, Tryd.ntmps54
      go_wp2
      go_ret
      exact ⟨by show Ending.returned (.bool (wrap64 ((wrap64 (a * b)).tdiv b) != a)) = _; rw [HIN.out, E.out], rfl⟩

set_option maxHeartbeats 400000 in
theorem mul_any (A : Option Addr) (n c : Nat) (zs : List Int) (hn : n ≤ 9223372036854775807) (W : World) (h : Ints .i64 W A n zs) :
    Calls Tryd.prog 47 #[.slice A n c] W fun e w' => e = .returned (.tuple #[.int .i64 ((mulR zs).getD 0), .bool (mulR zs).isSome]) ∧ W = w' := by
  obtain ⟨hl, hw, hA⟩ := h
  have HL := Lib.hid hl
  have HW := Lib.hid hw
  have HA := Lib.hid hA
  clear hl hw hA
  go_enter Tryd.func47, Tryd.ntmps47
  go_wp2
  go_loop [4, 9] (fun v i => ∃ (k : Nat) (s : Int), k ≤ n ∧ i = .int .i64 k ∧ v = .int .i64 s ∧ -9223372036854775808 ≤ s ∧ s ≤ 9223372036854775807 ∧ Hid ((zs.take k).foldl (stepR (· * ·)) (some 1) = some s)) (fun _ i => n - (intOf i).toNat)
  case atStart => exact ⟨0, 1, Nat.zero_le _, rfl, rfl, by decide, by decide, Lib.hid rfl⟩
  case round =>
    obtain ⟨k, s, hk, rfl, rfl, s0, s1, HS⟩ := hrel
    by_cases hkn : k < n
    · obtain ⟨b, off, rfl, hlt, hc⟩ := HA.out (by omega)
      have c0 := hc k hkn
      have hstep := fold_snoc (· * ·) (some 1) zs k (by rw [HL.out]; exact hkn)
      rw [HS.out] at hstep
      obtain ⟨z0, z1⟩ : -9223372036854775808 ≤ zs.getD k 0 ∧ zs.getD k 0 ≤ 9223372036854775807 := by
        have hm : zs.getD k 0 ∈ zs := by
          rw [List.getD_eq_getElem?_getD, List.getElem?_eq_getElem (by rw [HL.out]; exact hkn)]
          exact List.getElem_mem _
        have := HW.out _ hm
        simpa [Lit.wf, IntKind.min, IntKind.max, IntKind.signed, IntKind.bits] using this
      obtain ⟨z, hz⟩ : ∃ z, zs.getD k 0 = z := ⟨_, rfl⟩
      rw [hz] at c0 hstep z0 z1
      have HST := Lib.hid hstep
      have hwr := fun w => wraps_any s z s0 s1 z0 z1 w
      clear hc hstep hz
      by_cases hr : -9223372036854775808 ≤ s * z ∧ s * z ≤ 9223372036854775807
      · have e : (zs.take (k + 1)).foldl (stepR (· * ·)) (some 1) = some (s * z) := by rw [HST.out]; simp [stepR, hr]
        have E := Lib.hid e
        have hb : wrapsB s z = false := by simp [wrapsB, hr]
        simp only [hb] at hwr
        have HWR := Lib.hid hwr
        obtain ⟨r0, r1⟩ := hr
        obtain ⟨p, hp⟩ : ∃ p, s * z = p := ⟨_, rfl⟩
        have hpw : wrap64 (s * z) = p := by rw [wrap_in _ ⟨r0, r1⟩, hp]
        rw [hp] at r0 r1
        have E' : Hid ((zs.take (k + 1)).foldl (stepR (· * ·)) (some 1) = some p) := by rw [← hp]; exact E
        clear e hb hwr
        go_wp2_with fail
        refine (HWR.out _).mono ?_
        rintro e w' ⟨rfl, rfl⟩
        go_wp2
        go_round
        case rel => exact ⟨k + 1, p, by omega, by go_num, rfl, r0, r1, E'⟩
        case measure => simp [intOf]; omega
      · have e : (zs.take (k + 1)).foldl (stepR (· * ·)) (some 1) = none := by rw [HST.out]; simp only [stepR, Option.bind_some]; rw [if_neg hr]
        have e2 := fold_stop _ _ _ _ e
        have E := Lib.hid e2
        have hb : wrapsB s z = true := by unfold wrapsB; rw [decide_eq_false hr]; rfl
        simp only [hb] at hwr
        have HWR := Lib.hid hwr
        clear e e2 hr hb hwr
        go_wp2_with fail
        refine (HWR.out _).mono ?_
        rintro e w' ⟨rfl, rfl⟩
        go_wp2
        go_ret2
        exact ⟨ret_num (o := mulR zs) (by rw [mulR, E.out]; rfl) (by rw [mulR, E.out]; rfl), rfl⟩
    · obtain rfl : k = n := by omega
      have hs := HS.out
      rw [List.take_of_length_le (by rw [HL.out]; exact Nat.le_refl _)] at hs
      have E := Lib.hid hs
      clear hs
      go_wp2
      go_ret2
      exact ⟨ret_num (o := mulR zs) (by rw [mulR, E.out]; rfl) (by rw [mulR, E.out]; rfl), rfl⟩

def leastZ (a : Int) (zs : List Int) : Int := zs.foldl min a
end Go.Proofs.YtehhmejpfglimaaDoor
