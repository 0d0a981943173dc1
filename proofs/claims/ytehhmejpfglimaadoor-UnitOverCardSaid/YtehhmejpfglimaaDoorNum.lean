/- The program's sums, differences, products and least ones. -/
import Derived.Test.YtehhmejpfglimaaDoorRows
import Derived.Test.YtehhmejpfglimaaDoorMem
import Derived.Test.YtehhmejpfglimaaDoorNumMath
import Derived.Test.YtehhmejpfglimaaDoorInts
import Derived.WalkLawsBesides
namespace Go.Proofs.YtehhmejpfglimaaDoor
open Go.RowKit
set_option linter.unusedVariables false

/-- one step: none, where it would be no number of 64 bits -/
def stepR (f : Int → Int → Int) (o : Option Int) (z : Int) : Option Int :=
  o.bind fun s => if -9223372036854775808 ≤ f s z ∧ f s z ≤ 9223372036854775807 then some (f s z) else none
def sumR (zs : List Int) : Option Int := zs.foldl (stepR (· + ·)) (some 0)
def mulR (zs : List Int) : Option Int := zs.foldl (stepR (· * ·)) (some 1)
theorem fold_none (f : Int → Int → Int) (zs : List Int) : zs.foldl (stepR f) none = none := by
  induction zs with
  | nil => rfl
  | cons z zs ih => rw [List.foldl_cons]; exact ih
theorem fold_snoc (f : Int → Int → Int) (a : Option Int) (zs : List Int) (k : Nat) (h : k < zs.length) : (zs.take (k + 1)).foldl (stepR f) a = stepR f ((zs.take k).foldl (stepR f) a) (zs.getD k 0) := by
  rw [List.take_succ_eq_append_getElem h, List.foldl_append, List.getD_eq_getElem?_getD, List.getElem?_eq_getElem h]
  rfl
theorem fold_stop (f : Int → Int → Int) (a : Option Int) (zs : List Int) (k : Nat) (h : (zs.take k).foldl (stepR f) a = none) : zs.foldl (stepR f) a = none := by
  conv => lhs; rw [← List.take_append_drop k zs]
  rw [List.foldl_append, h, fold_none]
theorem ret_num {o : Option Int} {x : Int} {b : Bool} (h : o.getD 0 = x) (h2 : o.isSome = b) : Ending.returned (.tuple #[.int .i64 x, .bool b]) = .returned (.tuple #[.int .i64 (o.getD 0), .bool o.isSome]) := by rw [h, h2]

set_option maxHeartbeats 400000 in
theorem add_any (A : Option Addr) (n c : Nat) (zs : List Int) (hn : n ≤ 9223372036854775807) (W : World) (h : Ints .i64 W A n zs) :
    Calls Tryd.prog 39 #[.slice A n c] W fun e w' => e = .returned (.tuple #[.int .i64 ((sumR zs).getD 0), .bool (sumR zs).isSome]) ∧ W = w' := by
  obtain ⟨hl, hw, hA⟩ := h
  have HL := Lib.hid hl
  have HW := Lib.hid hw
  have HA := Lib.hid hA
  clear hl hw hA
  go_enter Tryd.func39, Tryd.ntmps39
  go_wp2
  go_loop [4, 9] (fun v i => ∃ (k : Nat) (s : Int), k ≤ n ∧ i = .int .i64 k ∧ v = .int .i64 s ∧ -9223372036854775808 ≤ s ∧ s ≤ 9223372036854775807 ∧ Hid ((zs.take k).foldl (stepR (· + ·)) (some 0) = some s)) (fun _ i => n - (intOf i).toNat)
  case atStart => exact ⟨0, 0, Nat.zero_le _, rfl, rfl, by decide, by decide, Lib.hid rfl⟩
  case round =>
    obtain ⟨k, s, hk, rfl, rfl, s0, s1, HS⟩ := hrel
    by_cases hkn : k < n
    · obtain ⟨b, off, rfl, hlt, hc⟩ := HA.out (by omega)
      have c0 := hc k hkn
      have hstep := fold_snoc (· + ·) (some 0) zs k (by rw [HL.out]; exact hkn)
      rw [HS.out] at hstep
      obtain ⟨z0, z1⟩ : -9223372036854775808 ≤ zs.getD k 0 ∧ zs.getD k 0 ≤ 9223372036854775807 := by
        have hm : zs.getD k 0 ∈ zs := by
          rw [List.getD_eq_getElem?_getD, List.getElem?_eq_getElem (by rw [HL.out]; exact hkn)]
          exact List.getElem_mem _
        have := HW.out _ hm
        simpa [Lit.wf, IntKind.min, IntKind.max, IntKind.signed, IntKind.bits] using this
      obtain ⟨z, hz⟩ : ∃ z, zs.getD k 0 = z := ⟨_, rfl⟩
      rw [hz] at c0 hstep z0 z1
      have HST := Lib.hid hstep
      clear hc hstep hz
      by_cases hr : -9223372036854775808 ≤ s + z ∧ s + z ≤ 9223372036854775807
      · have e : (zs.take (k + 1)).foldl (stepR (· + ·)) (some 0) = some (s + z) := by rw [HST.out]; simp [stepR, hr]
        have E := Lib.hid e
        obtain ⟨r0, r1⟩ := hr
        rcases (by omega : (0 < z ∧ s ≤ 9223372036854775807 - z) ∨ (z < 0 ∧ -9223372036854775808 - z ≤ s) ∨ z = 0) with ⟨p1, p2⟩ | ⟨p1, p2⟩ | rfl
        all_goals
          clear e
          go_wp2
          go_round
          case rel => exact ⟨k + 1, _, by omega, by go_num, rfl, by omega, by omega, by first | exact E | exact Lib.hid (E.out.trans (by simp))⟩
          case measure => simp [intOf]; omega
      · have e : (zs.take (k + 1)).foldl (stepR (· + ·)) (some 0) = none := by rw [HST.out]; simp [stepR]; omega
        have e2 := fold_stop _ _ _ _ e
        have E := Lib.hid e2
        rcases (by omega : (0 < z ∧ 9223372036854775807 - z < s) ∨ (z < 0 ∧ s < -9223372036854775808 - z)) with ⟨p1, p2⟩ | ⟨p1, p2⟩
        all_goals
          clear e e2 hr
          go_wp2
          go_ret2
          exact ⟨ret_num (o := sumR zs) (by rw [sumR, E.out]; rfl) (by rw [sumR, E.out]; rfl), rfl⟩
    · obtain rfl : k = n := by omega
      have hs := HS.out
      rw [List.take_of_length_le (by rw [HL.out]; exact Nat.le_refl _)] at hs
      have E := Lib.hid hs
      clear hs
      go_wp2
      go_ret2
      exact ⟨ret_num (o := sumR zs) (by rw [sumR, E.out]; rfl) (by rw [sumR, E.out]; rfl), rfl⟩

end Go.Proofs.YtehhmejpfglimaaDoor
