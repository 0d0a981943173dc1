/- The document's own words: its signs, its bytes. -/
import Derived.Test.YtnhbahfpinijiaaLexSpacesLaw
import Derived.Test.YtnhbahfpinijiaaRefGet
import Derived.Test.YtnhbahfpinijiaaResTmp
namespace Go.Proofs.Ytnhbahfpinijiaa
open Go.RowKit
set_option linter.unusedVariables false

set_option maxHeartbeats 800000 in
theorem refDigit_any (c : Nat) (hc : c < 256) (W : World) :
    Calls Try.prog 30 #[.int .u8 (c : Int)] W fun e w' => e = .returned (.bool (kindB 0 c)) ∧ W = w' := by
  rcases (by omega : c < 48 ∨ (48 ≤ c ∧ c ≤ 57) ∨ (48 ≤ c ∧ 57 < c)) with h | ⟨h, h2⟩ | ⟨h, h2⟩
  · have e : kindB 0 c = false := by simp [kindB]; omega
    rw [e]
    go_enter Try.func30, Try.ntmps30
    go_wp2
    go_ret
    first | exact ⟨rfl, rfl⟩ | exact ⟨ret_bool (by simp; omega), rfl⟩
  · have e : kindB 0 c = true := by simp [kindB]; omega
    rw [e]
    go_enter Try.func30, Try.ntmps30
    go_wp2
    go_ret
    first | exact ⟨rfl, rfl⟩ | exact ⟨ret_bool (by simp; omega), rfl⟩
  · have e : kindB 0 c = false := by simp [kindB]; omega
    rw [e]
    go_enter Try.func30, Try.ntmps30
    go_wp2
    go_ret
    first | exact ⟨rfl, rfl⟩ | exact ⟨ret_bool (by simp; omega), rfl⟩
set_option maxHeartbeats 800000 in
theorem refLetter_any (c : Nat) (hc : c < 256) (W : World) :
    Calls Try.prog 29 #[.int .u8 (c : Int)] W fun e w' => e = .returned (.bool (kindB 1 c)) ∧ W = w' := by
  rcases (by omega : c < 65 ∨ (65 ≤ c ∧ c ≤ 90) ∨ (65 ≤ c ∧ 90 < c ∧ c < 97) ∨ (65 ≤ c ∧ 90 < c ∧ 97 ≤ c ∧ c ≤ 122) ∨ (65 ≤ c ∧ 90 < c ∧ 97 ≤ c ∧ 122 < c)) with h | ⟨h, h2⟩ | ⟨h, h2, h3⟩ | ⟨h, h2, h3, h4⟩ | ⟨h, h2, h3, h4⟩
  · have h5 : c < 97 := by omega
    have e : kindB 1 c = false := by simp [kindB]; omega
    rw [e]
    go_enter Try.func29, Try.ntmps29
    go_wp2
    go_ret
    first | exact ⟨rfl, rfl⟩ | exact ⟨ret_bool (by simp; omega), rfl⟩
  · have e : kindB 1 c = true := by simp [kindB]; omega
    rw [e]
    go_enter Try.func29, Try.ntmps29
    go_wp2
    go_ret
    first | exact ⟨rfl, rfl⟩ | exact ⟨ret_bool (by simp; omega), rfl⟩
  · have e : kindB 1 c = false := by simp [kindB]; omega
    rw [e]
    go_enter Try.func29, Try.ntmps29
    go_wp2
    go_ret
    first | exact ⟨rfl, rfl⟩ | exact ⟨ret_bool (by simp; omega), rfl⟩
  · have e : kindB 1 c = true := by simp [kindB]; omega
    rw [e]
    go_enter Try.func29, Try.ntmps29
    go_wp2
    go_ret
    first | exact ⟨rfl, rfl⟩ | exact ⟨ret_bool (by simp; omega), rfl⟩
  · have e : kindB 1 c = false := by simp [kindB]; omega
    rw [e]
    go_enter Try.func29, Try.ntmps29
    go_wp2
    go_ret
    first | exact ⟨rfl, rfl⟩ | exact ⟨ret_bool (by simp; omega), rfl⟩
theorem refOps_any (W : World) : Calls Try.prog 13 #[] W fun e w' => e = .returned (.slice (some ⟨W.heap.size, 0, none⟩) 15 15) ∧ w' = W.alloc (.cells (opsT.map Value.string).toArray 9) := by
  go_enter Try.func13, Try.ntmps13
  go_wp2
  go_ret
  exact ⟨rfl, rfl⟩
set_option maxRecDepth 100000 in
set_option maxHeartbeats 800000 in
theorem refOp_any (s : ByteArray) (hs : s.size ≤ 16000000) (W : World) :
    Calls Try.prog 27 #[.string s] W fun e w' => e = .returned (.string ((opL s.data.toList).getD .empty)) ∧ Below W.heap.size W w' := by
  have HT0 := texts_lit W opsT W.heap.size rfl
  have hb0 : Below W.heap.size W (W.alloc (.cells (opsT.map Value.string).toArray 9)) := (Below.refl _ _).alloc (Nat.le_refl _) _
  obtain ⟨w0, hw0⟩ : ∃ w, W.alloc (.cells (opsT.map Value.string).toArray 9) = w := ⟨_, rfl⟩
  have OP := refOps_any W
  rw [hw0] at HT0 hb0
  simp only [hw0] at OP
  obtain ⟨Z, hZ⟩ : ∃ Z, opL s.data.toList = Z := ⟨_, rfl⟩
  rw [hZ]
  have HZ := Lib.hid (show (opsT.drop 0).find? (fun o => o.data.toList.isPrefixOf s.data.toList) = Z from hZ)
  have HOP := Lib.hid OP
  have HT := Lib.hid HT0
  have HB0 := Lib.hid hb0
  clear hw0 OP HT0 hb0 hZ
  go_enter Try.func27, Try.ntmps27
  go_wp2_with fail
  refine HOP.out.mono ?_
  rintro e w1 ⟨rfl, rfl⟩
  go_wp2
  go_loopw [4] (fun iv wr => ∃ j : Nat, j ≤ 15 ∧ iv = .int .i64 j ∧ Hid ((opsT.drop j).find? (fun o => o.data.toList.isPrefixOf s.data.toList) = Z) ∧ ∃ q, wr = w1.drewN q) (fun iv _ => 15 - (intOf iv).toNat)
  case atStart => exact ⟨0, Nat.zero_le _, rfl, HZ, 0, rfl⟩
  case round =>
    obtain ⟨j, hj, rfl, HJ, q, rfl⟩ := hrel
    by_cases hj15 : j < 15
    · have hjI : (j : Int) < 15 := by omega
      obtain ⟨gT, oT, eT, hltT, hcT⟩ := HT.out.2 (by decide)
      injection eT with eT
      injection eT with e1 e2
      subst e1 e2
      have c0 := hcT j hj15
      rw [Nat.zero_add] at c0
      have hd : opsT.drop j = opsT.getD j .empty :: opsT.drop (j + 1) := by
        rw [List.drop_eq_getElem_cons hj15, List.getD_eq_getElem?_getD, List.getElem?_eq_getElem hj15]
        rfl
      have hos := ops_size (opsT.getD j .empty) (by rw [List.getD_eq_getElem?_getD, List.getElem?_eq_getElem hj15]; exact List.getElem_mem _)
      obtain ⟨o, ho⟩ : ∃ o, opsT.getD j .empty = o := ⟨_, rfl⟩
      rw [ho] at c0 hd hos
      have hJ := HJ.out
      rw [hd, List.find?_cons, ← prefB_list] at hJ
      have hpb : prefB s o = (decide (o.size ≤ s.size) && ((s.extract 0 o.size).toList == o.toList)) := by unfold prefB; rw [text_eq]
      rw [hpb] at hJ
      by_cases hsz : o.size ≤ s.size
      · rw [decide_eq_true hsz, Bool.true_and] at hJ
        have b1 : decide ((o.size : Int) ≤ (s.size : Int)) = true := decide_eq_true (by omega)
        have b2 : decide (o.size ≤ s.size) = true := decide_eq_true hsz
        have b3 : (o.size : Int) ≤ (s.size : Int) := by omega
        obtain ⟨y, hy⟩ : ∃ y, ((s.extract 0 o.size).toList == o.toList) = y := ⟨_, rfl⟩
        rw [hy] at hJ
        clear hcT hd ho hpb
        cases y with
        | true =>
          have E := Lib.hid (show some o = Z from hJ)
          clear hJ
          go_wp2
          refine wp_region_quiet_lit (by kernel_rfl) (by kernel_rfl) ?_
          repeat (generalize hst : ({ tmps := _, defers := _ } : Act) = st; refine wpQuiet_step (fun K hK => ?_); subst hst; go_simp; refine hK _ ?_; clear hK K)
          refine wpQuiet_nil ?_
          intro _ hw'
          obtain ⟨nq, hw''⟩ := hw'
          subst hw''
          go_wp2
          go_ret
          exact ⟨by rw [← E.out]; rfl, below_drewN HB0.out _⟩
        | false =>
          have E := Lib.hid (show (opsT.drop (j + 1)).find? (fun o => o.data.toList.isPrefixOf s.data.toList) = Z from hJ)
          clear hJ
          go_wp2
          refine wp_region_quiet_lit (by kernel_rfl) (by kernel_rfl) ?_
          repeat (generalize hst : ({ tmps := _, defers := _ } : Act) = st; refine wpQuiet_step (fun K hK => ?_); subst hst; go_simp; refine hK _ ?_; clear hK K)
          refine wpQuiet_nil ?_
          intro _ hw'
          obtain ⟨nq, hw''⟩ := hw'
          subst hw''
          go_wp2
          go_round
          case rel => exact ⟨j + 1, by omega, by go_num, E, _, rfl⟩
          case measure => simp [intOf]; omega
      · rw [decide_eq_false hsz, Bool.false_and] at hJ
        have E := Lib.hid (show (opsT.drop (j + 1)).find? (fun o => o.data.toList.isPrefixOf s.data.toList) = Z from hJ)
        have b1 : decide ((o.size : Int) ≤ (s.size : Int)) = false := decide_eq_false (by omega)
        have b2 : decide (o.size ≤ s.size) = false := decide_eq_false hsz
        clear hcT hd ho hpb hJ
        go_wp2
        refine wp_region_quiet_lit (by kernel_rfl) (by kernel_rfl) ?_
        repeat (generalize hst : ({ tmps := _, defers := _ } : Act) = st; refine wpQuiet_step (fun K hK => ?_); subst hst; go_simp; refine hK _ ?_; clear hK K)
        refine wpQuiet_nil ?_
        intro _ hw'
        obtain ⟨nq, hw''⟩ := hw'
        subst hw''
        go_wp2
        go_round
        case rel => exact ⟨j + 1, by omega, by go_num, E, _, rfl⟩
        case measure => simp [intOf]; omega
    · obtain rfl : j = 15 := by omega
      have E := Lib.hid (show none = Z from HJ.out)
      go_wp2
      go_ret
      exact ⟨by rw [← E.out]; rfl, below_drewN HB0.out _⟩
end Go.Proofs.Ytnhbahfpinijiaa
