/- The walk of the law UnitBack: what is told of a number is read as that number; of a number below 0 nothing is told. -/
import Derived.Test.YtehhmejpfglimaaDoorUnitBackMath
import Derived.Test.YtehhmejpfglimaaDoorUnitExam
namespace Go.Proofs.YtehhmejpfglimaaDoor
open Go.RowKit
set_option linter.unusedVariables false

theorem shift_range (n : Int) (k : Nat) (n0 : -9223372036854775808 ≤ n) (n1 : n ≤ 9223372036854775807) : -9223372036854775808 ≤ n / 2 ^ k ∧ n / 2 ^ k ≤ 9223372036854775807 := by
  have hd : (1 : Int) ≤ 2 ^ k := by
    have : 1 ≤ 2 ^ k := Nat.one_le_two_pow
    have e : ((2 ^ k : Nat) : Int) = 2 ^ k := by simp
    omega
  generalize (2 ^ k : Int) = d at hd
  rcases (by omega : 0 ≤ n ∨ n < 0) with h | h
  · have h1 := Int.ediv_nonneg h (by omega : 0 ≤ d)
    have h2 := Int.ediv_le_self d h
    omega
  · have h1 : n / d < 0 := Int.ediv_neg_of_neg_of_pos h (by omega)
    have h2 : n ≤ n / d := by
      rw [Int.le_ediv_iff_mul_le (by omega)]
      have := Int.mul_le_mul_of_nonpos_left (a := n) (b := d) (c := 1) (by omega) hd
      omega
    omega
theorem spanL_len : ∀ (U : List (List UInt8 × Int)) (n : Int), 0 ≤ n → n ≤ 9223372036854775807 → (∀ u ∈ U, 1 ≤ u.2 ∧ u.1.length ≤ 2) → (spanL U n).length ≤ 30 * U.length := by
  intro U
  induction U with
  | nil => intro n _ _ _; simp [spanL]
  | cons u U ih =>
    intro n h0 h1 hU
    obtain ⟨a, b⟩ := hU u (by simp)
    obtain ⟨d0, d1, r0, r1⟩ := tdiv_ok n u.2 h0 h1 a
    have h2 := ih (n.tmod u.2) r0 (by omega) (fun v hv => hU v (by simp [hv]))
    have h3 := Lib.itoa_length_le (n.tdiv u.2) (by omega) (by omega)
    rw [spanL, List.length_append, List.length_cons]
    split
    · rw [List.length_append]; omega
    · simp; omega
theorem spanB_size (n : Int) (h0 : 0 ≤ n) (h1 : n ≤ 9223372036854775807) : (txt (spanB n)).size ≤ 180 := by
  rw [txt_size]
  unfold spanB
  split
  · simp
  · exact spanL_len durU n h0 h1 (by decide)
theorem sizeB_size (n : Int) (h0 : 0 ≤ n) (h1 : n ≤ 9223372036854775807) : (txt (sizeB n)).size ≤ 180 := by
  rw [txt_size]
  unfold sizeB
  split
  · simp
  · obtain ⟨i, hi, e, _⟩ := sizeL_is n h0 h1
    obtain ⟨u1, u2, u3⟩ := unit_ok2 i hi
    obtain ⟨d0, d1, _, _⟩ := tdiv_ok n _ h0 h1 u1
    have h3 := Lib.itoa_length_le (n.tdiv (sizU.getD i ([], 0)).2) (by omega) (by omega)
    rw [e, List.length_append]
    omega

set_option maxRecDepth 100000 in
set_option maxHeartbeats 1600000 in
theorem unitBack_walk {W : World} (n sh : Int) (wn : (Lit.int .i64 n).wf = true) (ws : (Lit.int .u8 sh).wf = true) (hl : LibIs W) :
    Calls Tryd.prog 5 #[.int .i64 n, .int .u8 sh] W fun e w' => e = .returned (.bool true) ∧ Below W.heap.size W w' := by
  have h0 : W.heap.size ≤ W.heap.size := Nat.le_refl _
  obtain ⟨n0, n1⟩ := bdi64 wn
  obtain ⟨o0, o1⟩ := bdu8 ws
  have HX := Lib.hid (unitExamples_any W hl)
  obtain ⟨p0, p1⟩ := shift_range n (sh % 64).toNat n0 n1
  obtain ⟨p, hp⟩ : ∃ p, n / 2 ^ (sh % 64).toNat = p := ⟨_, rfl⟩
  rw [hp] at p0 p1
  by_cases hneg : p < 0
  · have A1 := Lib.hid (fun w h => spn_none w h p p0 hneg)
    have A2 := Lib.hid (fun w h => siz_none w h p p0 hneg)
    go_enter Tryd.func5, Tryd.ntmps5
    go_wp2_with fail
    refine HX.out.mono ?_
    rintro e w ⟨rfl, hb⟩
    go_wp2_with fail
    refine (A1.out _ (hl.below hb)).mono ?_
    rintro e w2 ⟨rfl, hx⟩
    replace hb := hop hb h0 hx
    clear hx
    go_wp2_with fail
    refine (A2.out _ (hl.below hb)).mono ?_
    rintro e w3 ⟨rfl, hx⟩
    replace hb := hop hb h0 hx
    clear hx
    go_wp2
    go_ret
    exact ⟨rfl, hb⟩
  · have hp' : 0 ≤ p := by omega
    have s1 := spanB_size p hp' p1
    have s2 := sizeB_size p hp' p1
    have d1 := dur_span p hp' p1
    obtain ⟨d2, d3⟩ := siz_size p hp' p1
    rw [← txt_list (spanB p)] at d1
    rw [← txt_list (sizeB p)] at d2 d3
    have A1 := fun w h => spn_some w h p hp' p1 (txt (spanB p)) (txt_list _).symm
    have A2 := fun w h => siz_some w h p hp' p1 (txt (sizeB p)) (txt_list _).symm
    have A3 := fun w h => dur_some w h (txt (spanB p)) (by omega) p d1
    have A4 := fun w h => byt_some w h (txt (sizeB p)) (by omega) p d2
    have A5 := fun w h => dur_none w h (txt (sizeB p)) (by omega) d3
    obtain ⟨a, ha⟩ : ∃ a, txt (spanB p) = a := ⟨_, rfl⟩
    obtain ⟨b, hb⟩ : ∃ a, txt (sizeB p) = a := ⟨_, rfl⟩
    simp only [ha] at A1 A3
    simp only [hb] at A2 A4 A5
    replace A1 := Lib.hid A1
    replace A2 := Lib.hid A2
    replace A3 := Lib.hid A3
    replace A4 := Lib.hid A4
    replace A5 := Lib.hid A5
    clear ha hb s1 s2 d1 d2 d3 hneg
    go_enter Tryd.func5, Tryd.ntmps5
    go_wp2_with fail
    refine HX.out.mono ?_
    rintro e w ⟨rfl, hb⟩
    go_wp2_with fail
    refine (A1.out _ (hl.below hb)).mono ?_
    rintro e w2 ⟨rfl, hx⟩
    replace hb := hop hb h0 hx
    clear hx
    go_wp2_with fail
    refine (A2.out _ (hl.below hb)).mono ?_
    rintro e w3 ⟨rfl, hx⟩
    replace hb := hop hb h0 hx
    clear hx
    go_wp2_with fail
    refine (A3.out _ (hl.below hb)).mono ?_
    rintro e w4 ⟨rfl, hx⟩
    replace hb := hop hb h0 hx
    clear hx
    go_wp2_with fail
    refine (A4.out _ (hl.below hb)).mono ?_
    rintro e w5 ⟨rfl, hx⟩
    replace hb := hop hb h0 hx
    clear hx
    go_wp2_with fail
    refine (A5.out _ (hl.below hb)).mono ?_
    rintro e w6 ⟨rfl, hx⟩
    replace hb := hop hb h0 hx
    clear hx
    go_wp2
    go_ret
    exact ⟨by simp, hb⟩
end Go.Proofs.YtehhmejpfglimaaDoor
