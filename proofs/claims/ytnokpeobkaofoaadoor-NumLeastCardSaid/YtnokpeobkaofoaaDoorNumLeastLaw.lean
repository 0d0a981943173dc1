/- The walk of the law NumLeast: the least of some is one of them, and none is below it. -/
import Derived.Test.YtnokpeobkaofoaaDoorNumExam
namespace Go.Proofs.YtnokpeobkaofoaaDoor
open Go.RowKit
set_option linter.unusedVariables false

theorem least_le (zs : List Int) : ∀ a, leastZ a zs ≤ a ∧ ∀ z ∈ zs, leastZ a zs ≤ z := by
  induction zs with
  | nil => intro a; exact ⟨Int.le_refl _, by simp⟩
  | cons x xs ih =>
    intro a
    have h := ih (min a x)
    have e : leastZ a (x :: xs) = leastZ (min a x) xs := rfl
    rw [e]
    refine ⟨by omega, fun z hz => ?_⟩
    rcases List.mem_cons.1 hz with rfl | hz
    · omega
    · exact h.2 z hz
theorem least_in (zs : List Int) : ∀ a, leastZ a zs = a ∨ leastZ a zs ∈ zs := by
  induction zs with
  | nil => intro a; exact .inl rfl
  | cons x xs ih =>
    intro a
    have e : leastZ a (x :: xs) = leastZ (min a x) xs := rfl
    rw [e]
    rcases ih (min a x) with h | h
    · rw [h]
      rcases (by omega : min a x = a ∨ min a x = x) with h | h <;> simp [h]
    · right; simp [h]

set_option maxHeartbeats 800000 in
theorem numLeast_walk {W : World} (a : Int) (A : Option Addr) (n c : Nat) (zs : List Int) (wa : (Lit.int .i64 a).wf = true) (h : Ints .i64 W A n zs) (hc : n ≤ c) (hm : c ≤ maxLen) (hl : LibIs W) :
    Calls Tryd.prog 7 #[.int .i64 a, .slice A n c] W fun e w' => e = .returned (.bool true) ∧ Below W.heap.size W w' := by
  unfold maxLen at hm
  have hlen := h.1
  obtain ⟨l1, l2⟩ := least_le zs a
  have l3 := least_in zs a
  have HX := Lib.hid (numExamples_any W hl)
  have HL := Lib.hid (fun w h => least_any a A n c zs (by omega) w h)
  obtain ⟨s, hs⟩ : ∃ s, leastZ a zs = s := ⟨_, rfl⟩
  simp only [hs] at l1 l2 l3 HL
  have L2 := Lib.hid l2
  have L3 := Lib.hid l3
  have HW := Lib.hid h.2.2
  have HI := Lib.hid h
  have hn : n ≤ 9223372036854775807 := by omega
  clear hs h l2 l3 wa hm
  go_enter Tryd.func7, Tryd.ntmps7
  go_wp2_with fail
  refine HX.out.mono ?_
  rintro e w ⟨rfl, hb⟩
  have hi := HI.out.below hb
  obtain ⟨_, _, hA⟩ := hi
  have HA := Lib.hid hA
  have HI2 := Lib.hid (HI.out.below hb)
  clear hA
  go_wp2_with fail
  refine (HL.out _ HI2.out).mono ?_
  rintro e w2 ⟨rfl, rfl⟩
  have start : ∃ b, (s == a) = b ∧ Hid (b = true ↔ s = a ∨ ∃ j, j < 0 ∧ zs.getD j 0 = s) := ⟨_, rfl, Lib.hid (by simp)⟩
  obtain ⟨b0, hb0, HB0⟩ := start
  go_wp2
  go_loop [7, 8] (fun v i => ∃ (k : Nat) (b : Bool), k ≤ n ∧ i = .int .i64 k ∧ v = .bool b ∧ Hid (b = true ↔ s = a ∨ ∃ j, j < k ∧ zs.getD j 0 = s)) (fun _ i => n - (intOf i).toNat)
  case atStart => exact ⟨0, b0, Nat.zero_le _, rfl, rfl, HB0⟩
  case round =>
    obtain ⟨k, b, hk, rfl, rfl, HB⟩ := hrel
    by_cases hkn : k < n
    · obtain ⟨g, off, rfl, hlt, hcell⟩ := HA.out (by omega)
      have c0 := hcell k hkn
      have hz : s ≤ zs.getD k 0 := by
        apply L2.out
        rw [List.getD_eq_getElem?_getD, List.getElem?_eq_getElem (by omega)]
        exact List.getElem_mem _
      obtain ⟨z, hzz⟩ : ∃ z, zs.getD k 0 = z := ⟨_, rfl⟩
      rw [hzz] at c0 hz
      have next : ∃ b', (b || z == s) = b' ∧ Hid (b' = true ↔ s = a ∨ ∃ j, j < k + 1 ∧ zs.getD j 0 = s) := by
        refine ⟨_, rfl, Lib.hid ?_⟩
        rw [Bool.or_eq_true, HB.out, beq_iff_eq]
        constructor
        · rintro ((h | ⟨j, hj, h⟩) | h)
          · exact .inl h
          · exact .inr ⟨j, by omega, h⟩
          · exact .inr ⟨k, by omega, by rw [hzz]; exact h⟩
        · rintro (h | ⟨j, hj, h⟩)
          · exact .inl (.inl h)
          · rcases Nat.lt_or_ge j k with hj2 | hj2
            · exact .inl (.inr ⟨j, hj2, h⟩)
            · right
              obtain rfl : j = k := by omega
              rw [← hzz]; exact h
      obtain ⟨b', hb', HB'⟩ := next
      clear hcell hzz HB HB0
      cases b with
      | true =>
        have : b' = true := by rw [← hb']; rfl
        subst this
        clear hb'
        go_wp2
        go_round
        case rel => exact ⟨k + 1, true, by omega, by go_num, rfl, HB'⟩
        case measure => simp [intOf]; omega
      | false =>
        have g1 : (z == s) = b' := by rw [← hb']; rfl
        clear hb'
        go_wp2
        go_round
        case rel => exact ⟨k + 1, b', by omega, by go_num, rfl, HB'⟩
        case measure => simp [intOf]; omega
    · obtain rfl : k = n := by omega
      have : b = true := by
        rw [HB.out]
        rcases L3.out with h | h
        · exact .inl h
        · obtain ⟨j, hj, e⟩ := List.getElem_of_mem h
          exact .inr ⟨j, by omega, by rw [List.getD_eq_getElem?_getD, List.getElem?_eq_getElem hj]; exact e⟩
      subst this
      go_wp2
      go_ret
      exact ⟨rfl, hb⟩
end Go.Proofs.YtnokpeobkaofoaaDoor
