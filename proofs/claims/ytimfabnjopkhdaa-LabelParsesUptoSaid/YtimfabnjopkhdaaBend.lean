/- A text with one byte another one: a text of the same length. -/
import Derived.Test.YtimfabnjopkhdaaRefGet
import Derived.Lib.ConvBytes
import Derived.HandedShaped
namespace Go.Proofs.Ytimfabnjopkhdaa
open Go.RowKit
set_option linter.unusedVariables false
set_option linter.unusedSimpArgs false

theorem ints_of (w : World) (g : Nat) : ∀ n : Nat, (∀ i, i < n → ∃ m, w.cell? ⟨g, i, none⟩ = some (.int .u8 m)) → ∃ xs : List Int, xs.length = n ∧ ∀ i, i < n → w.cell? ⟨g, 0 + i, none⟩ = some (.int .u8 (xs.getD i 0))
  | 0, _ => ⟨[], rfl, fun i hi => absurd hi (by omega)⟩
  | n + 1, h => by
    obtain ⟨xs, hl, hx⟩ := ints_of w g n fun i hi => h i (by omega)
    obtain ⟨m, hm⟩ := h n (by omega)
    refine ⟨xs ++ [m], by simp [hl], fun i hi => ?_⟩
    rcases Nat.lt_or_ge i n with h1 | h1
    · rw [hx i h1, List.getD_eq_getElem?_getD, List.getD_eq_getElem?_getD, List.getElem?_append_left (by omega)]
    · obtain rfl : i = n := by omega
      rw [Nat.zero_add, hm, List.getD_eq_getElem?_getD, List.getElem?_append_right (by omega), hl]
      simp
theorem conv_ints (w : World) (g n cap : Nat) (h : ∀ i, i < n → ∃ m, w.cell? ⟨g, i, none⟩ = some (.int .u8 m)) : ∃ t : ByteArray, t.size = n ∧ (convert 58 9 (.slice (some ⟨g, 0, none⟩) n cap)).run Try.prog w = .ok (.string t) w := by
  obtain ⟨xs, hl, hx⟩ := ints_of w g n h
  exact ⟨_, by rw [strOfNums_size]; exact hl, run_convert_bytes_arg (P := Try.prog) w 58 5 Try.underlying58 Try.underlying5 g 0 n cap xs hl hx 9 Try.underlying9⟩
theorem conv_text (w : World) (s : ByteArray) : ∃ C w1, (convert 9 58 (.string s)).run Try.prog w = .ok (.slice (some ⟨w.heap.size, 0, none⟩) s.size C) w1 ∧ Below w.heap.size w w1 ∧ w.heap.size < w1.heap.size ∧ ∀ j, j < s.size → w1.frozen? ⟨w.heap.size, j, none⟩ = false ∧ ∃ m, w1.cell? ⟨w.heap.size, j, none⟩ = some (.int .u8 m) := by
  refine ⟨_, _, Lib.run_convert_string_bytes w 9 58 5 s Try.underlying9 Try.underlying58 Try.underlying5, ⟨rfl, rfl, rfl, ?_, fun k hk => Lib.bytesWorld_at_old w _ s k hk⟩, ?_, fun j hj => ⟨?_, _, Lib.bytesWorld_cell w _ s j hj⟩⟩
  · rw [Lib.bytesWorld_size]; omega
  · rw [Lib.bytesWorld_size]; omega
  · have hz : s.size ≤ (Lib.bytesCells w 5 s).size := by simp [Lib.bytesCells]
    simp only [World.frozen?, Lib.bytesWorld_at_new]
    simp
    omega

set_option maxRecDepth 100000 in
set_option maxHeartbeats 1000000 in
theorem bend_any (s : ByteArray) (hs : s.size ≤ 16000000) (at_ by_ : Int) (h1 : -9223372036854775808 ≤ at_) (h2 : at_ ≤ 9223372036854775807) (h3 : 0 ≤ by_) (h4 : by_ ≤ 255) (W : World) :
    Calls Try.prog 29 #[.string s, .int .i64 at_, .int .u8 by_] W fun e w' => ∃ t : ByteArray, t.size = s.size ∧ e = .returned (.string t) ∧ Below W.heap.size W w' := by
  by_cases h0 : s.size = 0
  · have hem2 : s.toList.isEmpty = true := by rw [empty_iff]; simpa using h0
    clear h0
    go_enter Try.func29, Try.ntmps29
    go_wp2
    go_ret
    exact ⟨s, rfl, rfl, Below.refl _ _⟩
  · have hem2 : s.toList.isEmpty = false := by rw [empty_iff]; simpa using h0
    have hp : (0 : Int) < (s.size : Int) := by omega
    obtain ⟨C, w1, hcv, hbel, hlt, hcells⟩ := conv_text W s
    have HB := Lib.hid hbel
    have HC := Lib.hid hcells
    clear hbel hcells
    have hne : ((s.size : Int) == 0) = false := by rw [beq_eq_false_iff_ne]; omega
    have key : ∀ x : Int, 0 ≤ x → ∃ j : Nat, x % (s.size : Int) = j ∧ j < s.size := fun x hx => by
      have a0 : 0 ≤ x % (s.size : Int) := Int.emod_nonneg _ (by omega)
      have a1 : x % (s.size : Int) < s.size := Int.emod_lt_of_pos _ (by omega)
      exact ⟨(x % (s.size : Int)).toNat, by omega, by omega⟩
    have K := Lib.hid key
    clear key
    have hend : ∀ (j : Nat) (z : Int), j < s.size → ∃ t : ByteArray, t.size = s.size ∧ (convert 58 9 (.slice (some ⟨W.heap.size, 0, none⟩) s.size C)).run Try.prog ((w1.setCell ⟨W.heap.size, j, none⟩ (.int .u8 z)).drew) = .ok (.string t) ((w1.setCell ⟨W.heap.size, j, none⟩ (.int .u8 z)).drew) :=
      fun j z hj => conv_ints _ _ _ _ fun i hi => someInt_setCell (HC.out i hi).2 _ _
    have HE := Lib.hid hend
    clear hend
    rcases (by omega : at_ < 0 ∨ 0 ≤ at_) with g | g
    · have g2 : (0 : Int) ≤ -(at_ + 1) := by omega
      have g3 : -(at_ + 1) ≤ (9223372036854775807 : Int) := by omega
      obtain ⟨x, hx⟩ : ∃ x, -(at_ + 1) = x := ⟨_, rfl⟩
      rw [hx] at g2 g3
      obtain ⟨j, hj, hjs⟩ := K.out x g2
      have hjs' : (j : Int) < (s.size : Int) := by omega
      have hj0 : (0 : Int) ≤ (j : Int) := by omega
      have hjt : x.tmod (s.size : Int) = (j : Int) := by rw [Int.tmod_eq_emod_of_nonneg g2]; exact hj
      obtain ⟨hfr, m, hc0⟩ := HC.out j hjs
      go_enter Try.func29, Try.ntmps29
      go_wp2
      go_region_law (fail)
      all_goals
        obtain ⟨t, hts, hcv2⟩ := HE.out j (bits BinOp.xor IntKind.u8 m by_) hjs
        go_wp2
        go_ret
        exact ⟨t, hts, rfl, (HB.out.setCell (Nat.le_refl _) _).drew⟩
    · obtain ⟨j, hj, hjs⟩ := K.out at_ g
      have hjs' : (j : Int) < (s.size : Int) := by omega
      have hj0 : (0 : Int) ≤ (j : Int) := by omega
      have hjt : at_.tmod (s.size : Int) = (j : Int) := by rw [Int.tmod_eq_emod_of_nonneg g]; exact hj
      obtain ⟨hfr, m, hc0⟩ := HC.out j hjs
      go_enter Try.func29, Try.ntmps29
      go_wp2
      go_region_law (fail)
      all_goals
        obtain ⟨t, hts, hcv2⟩ := HE.out j (bits BinOp.xor IntKind.u8 m by_) hjs
        go_wp2
        go_ret
        exact ⟨t, hts, rfl, (HB.out.setCell (Nat.le_refl _) _).drew⟩
end Go.Proofs.Ytimfabnjopkhdaa
