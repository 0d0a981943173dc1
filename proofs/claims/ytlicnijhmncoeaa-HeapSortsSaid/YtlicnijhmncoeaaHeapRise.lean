/- An item of a heap goes up: the walk of rise. -/
import Derived.Test.YtlicnijhmncoeaaHeapAhead
import Derived.Test.YtlicnijhmncoeaaHeapSwap
namespace Go.Proofs.Ytlicnijhmncoeaa
open Go.RowKit
set_option linter.unusedVariables false
set_option linter.unusedSimpArgs false

theorem par_num {j : Nat} (h : 0 < j) : ((j : Int) - 1).tdiv 2 = (parN j : Int) := by
  unfold parN
  obtain ⟨k, rfl⟩ : ∃ k, j = k + 1 := ⟨j - 1, by omega⟩
  rw [show ((k + 1 : Nat) : Int) - 1 = (k : Int) by omega, Int.tdiv_eq_ediv_of_nonneg (by omega)]
  omega
set_option maxRecDepth 100000 in
set_option maxHeartbeats 1600000 in
theorem rise_any (b : Nat) (v : Value) (L : List (KeyP Int)) (came i : Nat) (hu : UpH tenK L i) (w : World) (h : HeapSt w b v L came) :
    Calls Try.prog 42 #[.pointer (some ⟨b, 0, none⟩), .int .i64 (i : Int)] w fun e w' => e = .returned (.tuple #[]) ∧ ∃ L', L'.Perm L ∧ IsHeapP tenK L' ∧ HeapSt w' b v L' came ∧ HG b w v w' v := by
  have hfew := h.few
  have hless := h.less
  have H0 := Lib.hid h
  have HU0 := Lib.hid hu
  clear h hu
  go_enter Try.func42, Try.ntmps42
  go_wp2
  go_loopw [1] (fun iv wr => ∃ (j : Nat) (M : List (KeyP Int)), iv = .int .i64 (j : Int) ∧ Hid (M.Perm L) ∧ Hid (UpH tenK M j) ∧ Hid (HeapSt wr b v M came) ∧ Hid (HG b w v wr v)) (fun iv _ => (intOf iv).toNat)
  case atStart => exact ⟨i, L, rfl, Lib.hid (List.Perm.refl _), HU0, H0, Lib.hid (HG.refl _ _ _)⟩
  case round =>
    obtain ⟨j, M, rfl, HP, HU, HS, HGG⟩ := hrel
    have hj : j < came := Nat.lt_of_lt_of_le HU.out.lt HS.out.few
    rcases Nat.eq_zero_or_pos j with hj0 | hj0
    · have q1 : decide (0 < j) = false := decide_eq_false (by omega)
      have q3 : ¬ (0 : Int) < (j : Int) := by omega
      have HE := Lib.hid (up_end tenK HU.out (.inl hj0))
      clear hj0
      go_wp2
      refine bodyPost_end (results_none rfl _ _ _) rfl ?_
      exact ⟨rfl, M, HP.out, HE.out, HS.out, HGG.out⟩
    · have q2 := par_num hj0
      have hpj : parN j < j := by unfold parN; omega
      obtain ⟨p, hp⟩ : ∃ p, parN j = p := ⟨_, rfl⟩
      rw [hp] at q2 hpj
      have HPJ := Lib.hid hp
      have HJ0 := Lib.hid hj0
      have q3 : (0 : Int) < (j : Int) := by omega
      clear hp hj0
      have hM : j < M.length := HU.out.lt
      have hpM : p < M.length := by omega
      go_wp2_with fail
      refine (ahead_any b v M came j p hM hpM wr HS.out).mono ?_
      rintro e w2 ⟨rfl, hx⟩
      have HS2 := Lib.hid (HS.out.below hx)
      have HG2 := Lib.hid (HGG.out.trans (HG.of_below hx))
      clear hx HS HGG
      rcases hA : ahdP tenK (getP M j) (getP M p) with _ | _
      · have HE := Lib.hid (up_end tenK HU.out (.inr (by rw [HPJ.out]; exact hA)))
        clear hA
        go_wp2
        refine bodyPost_end (results_none rfl _ _ _) rfl ?_
        exact ⟨rfl, M, HP.out, HE.out, HS2.out, HG2.out⟩
      · have HU2 := Lib.hid (up_step tenK HU.out HJ0.out (by rw [HPJ.out]; exact hA))
        clear hA
        go_wp2_with fail
        refine (swap_any b v M came j p hM hpM w2 HS2.out).mono ?_
        rintro e w3 ⟨rfl, hs3, hg3⟩
        have HS3 := Lib.hid hs3
        have HG3 := Lib.hid (HG2.out.trans hg3)
        have hu2 := HU2.out
        rw [HPJ.out] at hu2
        have HU3 := Lib.hid hu2
        have HP3 := Lib.hid ((swapP_perm hM hpM).trans HP.out)
        clear hs3 hg3 hu2 HS2 HG2 HU HU2 HP
        go_wp2
        go_round
        case rel => exact ⟨p, swapP M j p, by first | rfl | go_num, HP3, HU3, HS3, HG3⟩
        case measure => simp [intOf]; omega
end Go.Proofs.Ytlicnijhmncoeaa
