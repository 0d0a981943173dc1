/- The walk of the law LexWords: any text has the words that the chapter says, or is wrong at a place. -/
import Derived.Test.YtnhbahfpinijiaaRefLexAll
namespace Go.Proofs.Ytnhbahfpinijiaa
open Go.RowKit
set_option linter.unusedVariables false

theorem ref_toks (t : ByteArray) (toks : List TokB) (k : Nat) (z : Int) (hz : lexL t.data.toList = (toks, k, z)) (W : World) : Calls Try.prog 11 #[.string t] W fun e w' => ∃ A c, e = .returned (.tuple #[.slice A toks.length c, .int .i64 (k : Nat), .int .i64 z]) ∧ toks.length ≤ c ∧ Hid (ToksP w' A toks) ∧ Below W.heap.size W w' := by
  refine (refAll_any t W).mono ?_
  rintro e w' ⟨v, rfl, hown, hb⟩
  rw [hz] at hown ⊢
  dsimp only at hown
  rcases Nat.eq_zero_or_pos toks.length with h0 | h0
  · obtain ⟨A, cap, rfl, hc, _⟩ := hown.open tokV_len
    exact ⟨A, cap, rfl, hc, Lib.hid (fun h => by omega), hb⟩
  · obtain ⟨g, cap, rfl, hB, hlt, hc, hcell⟩ := hown.at_ tokV_len h0
    refine ⟨_, cap, rfl, hc, Lib.hid (fun _ => ⟨g, rfl, hlt, fun j hj => ?_⟩), hb⟩
    have hj1 : toks[j]? = some (toks.getD j tnil) := by
      rw [List.getD_eq_getElem?_getD, List.getElem?_eq_getElem hj]
      rfl
    exact ⟨hcell j 0 _ hj1 (by decide), hcell j 1 _ hj1 (by decide), hcell j 2 _ hj1 (by decide)⟩
theorem toks_len (l : List UInt8) (toks : List TokB) (k : Nat) (z : Int) (h : lexL l = (toks, k, z)) (hl : l.length ≤ 9223372036854775807) : toks.length ≤ 9223372036854775807 := by
  have hok := lexL_ok l
  rw [h] at hok
  dsimp only at hok
  rcases hok with ⟨_, _, h3⟩ | ⟨_, _, h3⟩
  · have := h3.len
    omega
  · rw [h3]
    exact Nat.zero_le _

set_option maxRecDepth 100000 in
set_option maxHeartbeats 1600000 in
theorem lexWords_walk {W : World} (s : ByteArray) (own : Bool) (A : Option Addr) (n c : Nat) (zs : List Int) (ht : s.size ≤ maxLen) (h1 : Ints .u8 W A n zs) (hnc : n ≤ c) (hcm : c ≤ maxLen) :
    Calls Try.prog 3 #[.string s, .bool own, .slice A n c] W fun e w' => e = .returned (.bool true) ∧ Below W.heap.size W w' := by
  have h0 : W.heap.size ≤ W.heap.size := Nat.le_refl _
  unfold maxLen at ht hcm
  have HX := Lib.hid (lexExamples_any W)
  have WD := Lib.hid (fun w h => words_any A n c zs (by omega) w h)
  have HI := Lib.hid h1
  clear h1 hnc hcm
  go_enter Try.func3, Try.ntmps3
  go_wp2_with fail
  refine HX.out.mono ?_
  rintro e w1 ⟨rfl, hb⟩
  cases own
  case' true =>
    go_wp2_with fail
    refine (WD.out _ (HI.out.below hb)).mono ?_
    rintro e w2 ⟨s, rfl, hsz, hx⟩
    replace hb := hop hb h0 hx
    replace ht : s.size ≤ 9223372036854775807 := by omega
    clear hx hsz
  case' false =>
    replace ht : s.size ≤ 9223372036854775807 := by omega
  all_goals
    clear WD HI HX
    obtain ⟨⟨toks, k, z⟩, hz⟩ : ∃ z, lexL s.data.toList = z := ⟨_, rfl⟩
    have hlen := toks_len _ toks k z hz (by rw [size_toList]; exact ht)
    have A1 := fun w => all_toks s toks k z hz w
    have A2 := fun w => ref_toks s toks k z hz w
    obtain ⟨m, hm⟩ : ∃ m, toks.length = m := ⟨_, rfl⟩
    have HM := Lib.hid hm
    simp only [hm] at A1 A2 hlen
    replace A1 := Lib.hid A1
    replace A2 := Lib.hid A2
    clear hz hm
    go_wp2_with fail
    refine (A1.out _).mono ?_
    rintro e w3 ⟨Ag, cg, rfl, hcg, HT1, hx⟩
    replace hb := hop hb h0 hx
    clear hx
    go_wp2_with fail
    refine (A2.out _).mono ?_
    rintro e w4 ⟨Ah, ch, rfl, hch, HT2, hx⟩
    replace hb := hop hb h0 hx
    replace HT1 := Lib.hid (HT1.out.below hx)
    have HB := Lib.hid hb
    have g1 : ((m : Int) != (m : Int)) = false := by simp
    have g2 : ((k : Int) != (k : Int)) = false := by simp
    have g3 : (z != z) = false := by simp
    clear hx hb A1 A2
    go_wp2
    go_loopw [14] (fun iv wr => ∃ i : Nat, i ≤ m ∧ iv = .int .i64 i ∧ ∃ q, wr = w4.drewN q) (fun iv _ => m - (intOf iv).toNat)
    case atStart => exact ⟨0, Nat.zero_le _, rfl, 0, rfl⟩
    case round =>
      obtain ⟨i, him, rfl, q, rfl⟩ := hrel
      by_cases hilt : i < m
      · have hiI : (i : Int) < (m : Int) := by omega
        have hl := HM.out
        obtain ⟨ga, ee1, lt1, hc1⟩ := HT1.out (by omega)
        obtain ⟨gb, ee2, lt2, hc2⟩ := HT2.out (by omega)
        subst ee1 ee2
        obtain ⟨a0, a1, a2⟩ := hc1 i (by omega)
        obtain ⟨b0, b1, b2⟩ := hc2 i (by omega)
        obtain ⟨⟨kd, tt, pl⟩, hp⟩ : ∃ x, toks.getD i tnil = x := ⟨_, rfl⟩
        rw [hp] at a0 a1 a2 b0 b1 b2
        dsimp only at a0 a1 a2 b0 b1 b2
        have g4 : (kd != kd) = false := by simp
        have g5 : ((pl : Int) != (pl : Int)) = false := by simp
        clear hc1 hc2 hp hl
        go_wp2
        refine wp_region_quiet_lit (by kernel_rfl) (by kernel_rfl) ?_
        repeat (generalize hst : ({ tmps := _, defers := _ } : Act) = st; refine wpQuiet_step (fun K hK => ?_); subst hst; go_simp; refine hK _ ?_; clear hK K)
        refine wpQuiet_nil ?_
        intro _ hw'
        obtain ⟨nq, hw''⟩ := hw'
        subst hw''
        go_wp2
        go_round
        case rel => exact ⟨i + 1, by omega, by go_num, _, rfl⟩
        case measure => simp [intOf]; omega
      · obtain rfl : i = m := by omega
        have hb5 := below_drewN HB.out q
        obtain ⟨w5, hw5⟩ : ∃ w, w4.drewN q = w := ⟨_, rfl⟩
        rw [hw5] at hb5
        have HB5 := Lib.hid hb5
        have T1 := texts_lit w5 opsT w5.heap.size rfl
        have T2 := texts_lit (w5.alloc (.cells (opsT.map Value.string).toArray 9)) opsT (w5.heap.size + 1) (by simp)
        have T1b := T1.below ((Below.refl _ _).alloc (Nat.le_refl _) (.cells (opsT.map Value.string).toArray 9))
        have hb7 := (hb5.alloc hb5.size (.cells (opsT.map Value.string).toArray 9)).alloc (by simp; have := hb5.size; omega) (.cells (opsT.map Value.string).toArray 9)
        have O2 := refOps_any (w5.alloc (.cells (opsT.map Value.string).toArray 9))
        rw [show (w5.alloc (.cells (opsT.map Value.string).toArray 9)).heap.size = w5.heap.size + 1 by simp] at O2
        have HT1b := Lib.hid T1b
        have HT2b := Lib.hid T2
        have HB7 := Lib.hid hb7
        have HO2 := Lib.hid O2
        clear hb5 T1 T2 T1b hb7 O2
        go_wp2_with fail
        try rw [hw5]
        refine (ops_any _).mono ?_
        rintro e w6 ⟨rfl, rfl⟩
        go_wp2_with fail
        refine HO2.out.mono ?_
        rintro e w7 ⟨rfl, rfl⟩
        obtain ⟨w7, hw7⟩ : ∃ w, (w5.alloc (.cells (opsT.map Value.string).toArray 9)).alloc (.cells (opsT.map Value.string).toArray 9) = w := ⟨_, rfl⟩
        rw [hw7] at HT1b HT2b HB7
        rw [hw7]
        clear hw7 HO2
        go_wp2
        go_loopw [17] (fun iv wr => ∃ j : Nat, j ≤ 15 ∧ iv = .int .i64 j ∧ ∃ q, wr = w7.drewN q) (fun iv _ => 15 - (intOf iv).toNat)
        case atStart => exact ⟨0, Nat.zero_le _, rfl, 0, rfl⟩
        case round =>
          obtain ⟨j, hj, rfl, p, rfl⟩ := hrel
          by_cases hj15 : j < 15
          · have hjI : (j : Int) < 15 := by omega
            obtain ⟨ga, oa, e1, lt1, hc1⟩ := HT1b.out.2 (by decide)
            obtain ⟨gb, ob, e2, lt2, hc2⟩ := HT2b.out.2 (by decide)
            injection e1 with e1
            injection e1 with e3 e4
            injection e2 with e2
            injection e2 with e5 e6
            subst e3 e4 e5 e6
            have a0 := hc1 j hj15
            have b0 := hc2 j hj15
            rw [Nat.zero_add] at a0 b0
            obtain ⟨o, ho⟩ : ∃ o, opsT.getD j .empty = o := ⟨_, rfl⟩
            rw [ho] at a0 b0
            clear hc1 hc2 ho
            go_wp2
            go_quiet (fail)
            go_wp2
            go_round
            case rel => exact ⟨j + 1, by omega, by go_num, _, rfl⟩
            case measure => simp [intOf]; omega
          · obtain rfl : j = 15 := by omega
            go_wp2
            go_ret
            exact ⟨by first | rfl | (simp; done), below_drewN HB7.out p⟩
end Go.Proofs.Ytnhbahfpinijiaa
