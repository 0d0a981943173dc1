/- An item of a heap goes down: the walk of sink. -/
import Derived.Test.YtlicnijhmncoeaaHeapAhead
import Derived.Test.YtlicnijhmncoeaaHeapSwap
namespace Go.Proofs.Ytlicnijhmncoeaa
open Go.RowKit
set_option linter.unusedVariables false
set_option linter.unusedSimpArgs false

/-- of the kids that lie before the k-th, and the i-th, none stands ahead of the f-th -/
structure FirstP (M : List (KeyP Int)) (i k f : Nat) : Prop where
  lt : f < M.length
  was : f = i ∨ (parN f = i ∧ 0 < f ∧ ahdP tenK (getP M f) (getP M i) = true)
  all : ∀ j, 0 < j → j < M.length → parN j = i → j < k → ahdP tenK (getP M j) (getP M f) = false
theorem FirstP.start {M : List (KeyP Int)} {i : Nat} (h : i < M.length) : FirstP M i (2 * i + 1) i := ⟨h, .inl rfl, fun j h0 hj hp hk => by unfold parN at hp; omega⟩
theorem FirstP.stay {M : List (KeyP Int)} {i k f : Nat} (h : FirstP M i k f) (ha : ahdP tenK (getP M k) (getP M f) = false) : FirstP M i (k + 1) f := ⟨h.lt, h.was, fun j h0 hj hp hk => by
  by_cases e : j = k
  · rw [e]; exact ha
  · exact h.all j h0 hj hp (by omega)⟩
theorem FirstP.step {M : List (KeyP Int)} {i k f : Nat} (h : FirstP M i k f) (hk : k < M.length) (h1 : 2 * i + 1 ≤ k) (h2 : k ≤ 2 * i + 2) (ha : ahdP tenK (getP M k) (getP M f) = true) : FirstP M i (k + 1) k := by
  refine ⟨hk, .inr ⟨by unfold parN; omega, by omega, ?_⟩, fun j h0 hj hp hjk => ?_⟩
  · rcases h.was with e | ⟨_, _, e⟩
    · rw [e] at ha; exact ha
    · rw [ahd_iff] at ha e ⊢; omega
  · by_cases e : j = k
    · rw [e, ahd_not]; omega
    · have a1 := h.all j h0 hj hp (by omega)
      rw [ahd_iff] at ha
      rw [ahd_not] at a1 ⊢
      omega
theorem FirstP.whole {M : List (KeyP Int)} {i k f : Nat} (h : FirstP M i k f) (hk : k = 2 * i + 3 ∨ M.length ≤ k) : ∀ j, 0 < j → j < M.length → parN j = i → ahdP tenK (getP M j) (getP M f) = false := fun j h0 hj hp => h.all j h0 hj hp (by unfold parN at hp; omega)
set_option maxRecDepth 100000 in
set_option maxHeartbeats 1600000 in
theorem sink_any (b : Nat) (v : Value) (L : List (KeyP Int)) (came i : Nat) (hu : DownP tenK L i) (hi : i < L.length) (w : World) (h : HeapSt w b v L came) :
    Calls Try.prog 40 #[.pointer (some ⟨b, 0, none⟩), .int .i64 (i : Int)] w fun e w' => e = .returned (.tuple #[]) ∧ ∃ L', L'.Perm L ∧ IsHeapP tenK L' ∧ HeapSt w' b v L' came ∧ HG b w v w' v := by
  have hfew := h.few
  have hless := h.less
  have H0 := Lib.hid h
  have HU0 := Lib.hid hu
  clear h hu
  go_enter Try.func40, Try.ntmps40
  go_wp2
  go_loopw [1] (fun iv wr => ∃ (j : Nat) (M : List (KeyP Int)), iv = .int .i64 (j : Int) ∧ j < M.length ∧ M.length = L.length ∧ Hid (M.Perm L) ∧ Hid (DownP tenK M j) ∧ Hid (HeapSt wr b v M came) ∧ Hid (HG b w v wr v)) (fun iv _ => (intOf (.int .i64 (L.length : Int))).toNat - (intOf iv).toNat)
  case atStart => exact ⟨i, L, rfl, hi, rfl, Lib.hid (List.Perm.refl _), HU0, H0, Lib.hid (HG.refl _ _ _)⟩
  case round =>
    obtain ⟨j, M, rfl, hjM, hML, HP, HU, HS, HGG⟩ := hrel
    obtain ⟨v0, hv0⟩ : ∃ v, v = wr := ⟨_, rfl⟩
    subst hv0
    have hMc := HS.out.few
    go_wp2
    go_loopw [4, 5] (fun fv kv w3 => ∃ (k f : Nat), fv = .int .i64 (f : Int) ∧ kv = .int .i64 (k : Int) ∧ 2 * j + 1 ≤ k ∧ k ≤ 2 * j + 3 ∧ f < M.length ∧ Hid (FirstP M j k f) ∧ Below v0.heap.size v0 w3) (fun _ kv _ => (intOf (.int .i64 (2 * (j : Int) + 3))).toNat - (intOf kv).toNat)
    case atStart => exact ⟨2 * j + 1, j, rfl, by first | rfl | go_num, Nat.le_refl _, by omega, hjM, Lib.hid (FirstP.start hjM), Below.refl _ _⟩
    case round =>
      obtain ⟨k, f, rfl, rfl, hk1, hk2, hfM, HF, hb3⟩ := hrel
      have HS3 := Lib.hid (HS.out.below hb3)
      by_cases hgo : k ≤ 2 * j + 2 ∧ k < M.length
      · obtain ⟨g1, g2⟩ := hgo
        have q1 : (k : Int) ≤ 2 * (j : Int) + 2 := by omega
        have q2 : (k : Int) < (M.length : Int) := by omega
        go_wp2_with fail
        refine (many_any b v M came wr HS3.out).mono ?_
        rintro e w4 ⟨rfl, rfl⟩
        go_wp2_with fail
        refine (ahead_any b v M came k f g2 hfM _ HS3.out).mono ?_
        rintro e w5 ⟨rfl, hx⟩
        have HB5 := Lib.hid (hop hb3 (Nat.le_refl _) hx)
        clear hx hb3 HS3
        rcases hA : ahdP tenK (getP M k) (getP M f) with _ | _
        · have HF2 := Lib.hid (HF.out.stay hA)
          clear hA HF
          go_wp2
          go_round
          case rel => exact ⟨k + 1, f, rfl, by first | rfl | go_num, by omega, by omega, hfM, HF2, HB5.out⟩
          case measure => simp [intOf]; omega
        · have HF2 := Lib.hid (HF.out.step g2 hk1 g1 hA)
          clear hA HF
          go_wp2
          go_round
          case rel => exact ⟨k + 1, k, rfl, by first | rfl | go_num, by omega, by omega, g2, HF2, HB5.out⟩
          case measure => simp [intOf]; omega
      · have HW := Lib.hid (HF.out.whole (by omega))
        have HWas := Lib.hid HF.out.was
        by_cases g1 : k ≤ 2 * j + 2
        · have g2 : ¬ k < M.length := fun g2 => hgo ⟨g1, g2⟩
          have q1 : (k : Int) ≤ 2 * (j : Int) + 2 := by omega
          have q2 : ¬ (k : Int) < (M.length : Int) := by omega
          have q3 : decide (k < M.length) = false := decide_eq_false g2
          clear hgo HF
          go_wp2_with fail
          refine (many_any b v M came wr HS3.out).mono ?_
          rintro e w4 ⟨rfl, rfl⟩
          rcases HWas.out with he | ⟨hpf, h0f, haf⟩
          · obtain rfl := he
            have HE := Lib.hid (down_end tenK HU.out HW.out)
            clear HW HWas HU
            go_wp2
            refine bodyPost_ret (results_none rfl _ _ _) rfl ?_
            exact ⟨rfl, M, HP.out, HE.out, HS3.out, HGG.out.trans (HG.of_below hb3)⟩
          · have hjf : j < f := by unfold parN at hpf; omega
            have qn : ¬ (f : Int) = (j : Int) := by omega
            have qm : ¬ f = j := by omega
            have HU2 := Lib.hid (down_step tenK HU.out h0f hfM hpf haf HW.out)
            have HP2 := Lib.hid ((swapP_perm hjM hfM).trans HP.out)
            have hlen2 := swapP_len M j f
            clear HW HWas HU hpf h0f haf HP
            go_wp2_with fail
            refine (swap_any b v M came j f hjM hfM _ HS3.out).mono ?_
            rintro e w6 ⟨rfl, hs6, hg6⟩
            have HS6 := Lib.hid hs6
            have HG6 := Lib.hid ((HGG.out.trans (HG.of_below hb3)).trans hg6)
            clear hs6 hg6 HS3 hb3 HGG HS
            go_wp2
            go_round
            case rel => exact ⟨f, swapP M j f, rfl, by omega, by omega, HP2, HU2, HS6, HG6⟩
            case measure => simp [intOf]; omega
        · have q1 : ¬ (k : Int) ≤ 2 * (j : Int) + 2 := by omega
          clear hgo HF
          rcases HWas.out with he | ⟨hpf, h0f, haf⟩
          · obtain rfl := he
            have HE := Lib.hid (down_end tenK HU.out HW.out)
            clear HW HWas HU
            go_wp2
            refine bodyPost_ret (results_none rfl _ _ _) rfl ?_
            exact ⟨rfl, M, HP.out, HE.out, HS3.out, HGG.out.trans (HG.of_below hb3)⟩
          · have hjf : j < f := by unfold parN at hpf; omega
            have qn : ¬ (f : Int) = (j : Int) := by omega
            have qm : ¬ f = j := by omega
            have HU2 := Lib.hid (down_step tenK HU.out h0f hfM hpf haf HW.out)
            have HP2 := Lib.hid ((swapP_perm hjM hfM).trans HP.out)
            have hlen2 := swapP_len M j f
            clear HW HWas HU hpf h0f haf HP
            go_wp2_with fail
            refine (swap_any b v M came j f hjM hfM _ HS3.out).mono ?_
            rintro e w6 ⟨rfl, hs6, hg6⟩
            have HS6 := Lib.hid hs6
            have HG6 := Lib.hid ((HGG.out.trans (HG.of_below hb3)).trans hg6)
            clear hs6 hg6 HS3 hb3 HGG HS
            go_wp2
            go_round
            case rel => exact ⟨f, swapP M j f, rfl, by omega, by omega, HP2, HU2, HS6, HG6⟩
            case measure => simp [intOf]; omega
end Go.Proofs.Ytlicnijhmncoeaa
