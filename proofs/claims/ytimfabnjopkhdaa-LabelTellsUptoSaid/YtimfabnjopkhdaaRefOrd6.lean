/- The document's own order of sets of labels: the walks of its less and its Order. -/
import Derived.Test.YtimfabnjopkhdaaRefLab
namespace Go.Proofs.Ytimfabnjopkhdaa
open Go.RowKit
set_option linter.unusedVariables false
set_option linter.unusedSimpArgs false

set_option maxHeartbeats 800000 in
theorem refLess_any (a b : ByteArray) (W : World) : Calls Try.prog 46 #[.string a, .string b] W fun e w' => e = .returned (.int .i64 (txtC a b)) ∧ w' = W := by
  have h1 := less_txtC a b
  rcases txtC_vals a b with h | h | h
  · rw [h] at h1 ⊢
    simp only [show decide ((-1 : Int) < 0) = true from by decide, show decide ((0 : Int) < 0) = false from by decide, show decide ((1 : Int) < 0) = false from by decide] at h1
    clear h
    go_enter Try.func46, Try.ntmps46
    go_wp2
    go_ret
    exact ⟨rfl, rfl⟩
  · obtain rfl := txtC_ord.zero a b h
    rw [h] at h1 ⊢
    simp only [show decide ((-1 : Int) < 0) = true from by decide, show decide ((0 : Int) < 0) = false from by decide, show decide ((1 : Int) < 0) = false from by decide] at h1
    have h2 : (a.toList == a.toList) = true := by simp
    clear h
    go_enter Try.func46, Try.ntmps46
    go_wp2
    go_ret
    exact ⟨rfl, rfl⟩
  · have h2 : (a.toList == b.toList) = false := text_other (fun e => by rw [e, txtC_ord.refl] at h; cases h)
    rw [h] at h1 ⊢
    simp only [show decide ((-1 : Int) < 0) = true from by decide, show decide ((0 : Int) < 0) = false from by decide, show decide ((1 : Int) < 0) = false from by decide] at h1
    clear h
    go_enter Try.func46, Try.ntmps46
    go_wp2
    go_ret
    exact ⟨rfl, rfl⟩

set_option maxRecDepth 100000 in
set_option maxHeartbeats 1600000 in
theorem refOrderL_any (A B : Option Addr) (n m c d : Nat) (ps qs : List PairB) (hn : n ≤ 9223372036854775807) (hm : m ≤ 9223372036854775807) (W : World) (h1 : Pairs W A n ps) (h2 : Pairs W B m qs) :
    Calls Try.prog 27 #[.slice A n c, .slice B m d] W fun e w' => e = .returned (.int .i64 (orderL ps qs)) ∧ Below W.heap.size W w' := by
  obtain ⟨T, hT⟩ : ∃ T, orderL ps qs = T := ⟨_, rfl⟩
  rw [hT]
  have HT := Lib.hid (show lexC pairC (ps.drop 0) (qs.drop 0) = T by rw [List.drop_zero, List.drop_zero]; exact hT)
  have H1 := Lib.hid h1
  have H2 := Lib.hid h2
  have LS := Lib.hid (fun a b w => refLess_any a b w)
  clear hT h1 h2
  go_enter Try.func27, Try.ntmps27
  go_wp2
  go_loopw [5] (fun iv wr => ∃ j : Nat, j ≤ n ∧ j ≤ m ∧ iv = .int .i64 j ∧ Hid (lexC pairC (ps.drop j) (qs.drop j) = T) ∧ ∃ q, wr = W.drewN q) (fun iv _ => n - (intOf iv).toNat)
  case atStart => exact ⟨0, Nat.zero_le _, Nat.zero_le _, rfl, HT, 0, rfl⟩
  case round =>
    obtain ⟨j, hjn, hjm, rfl, HJ, q0, rfl⟩ := hrel
    have l1 := H1.out.1
    have l2 := H2.out.1
    by_cases hj : j < n ∧ j < m
    · obtain ⟨g1, g2⟩ := hj
      have hjI : (j : Int) < (n : Int) := by omega
      have hjM : (j : Int) < (m : Int) := by omega
      obtain ⟨b1, o1, rfl, hlt1, hc1⟩ := H1.out.2 (by omega)
      obtain ⟨b2, o2, rfl, hlt2, hc2⟩ := H2.out.2 (by omega)
      obtain ⟨c1, c2⟩ := hc1 j g1
      obtain ⟨c3, c4⟩ := hc2 j g2
      have d1 : ps.drop j = ps.getD j pnil :: ps.drop (j + 1) := by
        rw [List.drop_eq_getElem_cons (by omega), List.getD_eq_getElem?_getD, List.getElem?_eq_getElem (by omega)]
        rfl
      have d2 : qs.drop j = qs.getD j pnil :: qs.drop (j + 1) := by
        rw [List.drop_eq_getElem_cons (by omega), List.getD_eq_getElem?_getD, List.getElem?_eq_getElem (by omega)]
        rfl
      obtain ⟨⟨p1, p2⟩, hp⟩ : ∃ p, ps.getD j pnil = p := ⟨_, rfl⟩
      obtain ⟨⟨q1, q2⟩, hq⟩ : ∃ p, qs.getD j pnil = p := ⟨_, rfl⟩
      rw [hp] at c1 c2 d1
      rw [hq] at c3 c4 d2
      have hJ := HJ.out
      rw [d1, d2, lexC] at hJ
      dsimp only at c1 c2 c3 c4
      have hpc : pairC (p1, p2) (q1, q2) = (if txtC p1 q1 = 0 then txtC p2 q2 else txtC p1 q1) := rfl
      rw [hpc] at hJ
      have C1 := LS.out p1 q1
      have C2 := LS.out p2 q2
      obtain ⟨x, hx⟩ : ∃ x, txtC p1 q1 = x := ⟨_, rfl⟩
      obtain ⟨y, hy⟩ : ∃ x, txtC p2 q2 = x := ⟨_, rfl⟩
      simp only [hx] at C1
      simp only [hy] at C2
      rw [hx, hy] at hJ
      replace C1 := Lib.hid C1
      replace C2 := Lib.hid C2
      clear hc1 hc2 hp hq d1 d2 hpc hx hy l1 l2 LS
      by_cases x0 : x = 0
      · rw [if_pos x0] at hJ
        subst x0
        by_cases y0 : y = 0
        · rw [if_pos y0] at hJ
          subst y0
          have HN := Lib.hid hJ
          clear hJ
          go_wp2
          refine wp_region_quiet_lit (by kernel_rfl) (by kernel_rfl) ?_
          repeat (generalize hst : ({ tmps := _, defers := _ } : Act) = st; refine wpQuiet_step (fun K hK => ?_); subst hst; go_simp; refine hK _ ?_; clear hK K)
          quiet_step (first | (go_at_call 46; refine (C1.out _).mono ?_; rintro e w5 ⟨rfl, rfl⟩; exact ⟨rfl, _, rfl⟩))
          repeat (generalize hst : ({ tmps := _, defers := _ } : Act) = st; refine wpQuiet_step (fun K hK => ?_); subst hst; go_simp; refine hK _ ?_; clear hK K)
          refine wpQuiet_nil ?_
          intro _ hw'
          obtain ⟨nq, hw''⟩ := hw'
          subst hw''
          go_wp2
          refine wp_region_quiet_lit (by kernel_rfl) (by kernel_rfl) ?_
          repeat (generalize hst : ({ tmps := _, defers := _ } : Act) = st; refine wpQuiet_step (fun K hK => ?_); subst hst; go_simp; refine hK _ ?_; clear hK K)
          quiet_step (first | (go_at_call 46; refine (C2.out _).mono ?_; rintro e w5 ⟨rfl, rfl⟩; exact ⟨rfl, _, rfl⟩))
          repeat (generalize hst : ({ tmps := _, defers := _ } : Act) = st; refine wpQuiet_step (fun K hK => ?_); subst hst; go_simp; refine hK _ ?_; clear hK K)
          refine wpQuiet_nil ?_
          intro _ hw'
          obtain ⟨nq2, hw''⟩ := hw'
          subst hw''
          go_wp2
          go_round
          case rel => exact ⟨j + 1, by omega, by omega, by go_num, HN, _, rfl⟩
          case measure => simp [intOf]; omega
        · rw [if_neg y0] at hJ
          have E := Lib.hid hJ
          have y1 : (y != 0) = true := by rw [bne_iff_ne]; exact y0
          clear hJ
          go_wp2
          refine wp_region_quiet_lit (by kernel_rfl) (by kernel_rfl) ?_
          repeat (generalize hst : ({ tmps := _, defers := _ } : Act) = st; refine wpQuiet_step (fun K hK => ?_); subst hst; go_simp; refine hK _ ?_; clear hK K)
          quiet_step (first | (go_at_call 46; refine (C1.out _).mono ?_; rintro e w5 ⟨rfl, rfl⟩; exact ⟨rfl, _, rfl⟩))
          repeat (generalize hst : ({ tmps := _, defers := _ } : Act) = st; refine wpQuiet_step (fun K hK => ?_); subst hst; go_simp; refine hK _ ?_; clear hK K)
          refine wpQuiet_nil ?_
          intro _ hw'
          obtain ⟨nq, hw''⟩ := hw'
          subst hw''
          go_wp2
          refine wp_region_quiet_lit (by kernel_rfl) (by kernel_rfl) ?_
          repeat (generalize hst : ({ tmps := _, defers := _ } : Act) = st; refine wpQuiet_step (fun K hK => ?_); subst hst; go_simp; refine hK _ ?_; clear hK K)
          quiet_step (first | (go_at_call 46; refine (C2.out _).mono ?_; rintro e w5 ⟨rfl, rfl⟩; exact ⟨rfl, _, rfl⟩))
          repeat (generalize hst : ({ tmps := _, defers := _ } : Act) = st; refine wpQuiet_step (fun K hK => ?_); subst hst; go_simp; refine hK _ ?_; clear hK K)
          refine wpQuiet_nil ?_
          intro _ hw'
          obtain ⟨nq2, hw''⟩ := hw'
          subst hw''
          go_wp2
          go_ret
          exact ⟨ret_int E.out, by first | exact below_drewN (Below.refl _ _) _ | exact below_drewN (below_drewN (Below.refl _ _) _) _ | exact below_drewN (below_drewN (below_drewN (Below.refl _ _) _) _) _⟩
      · rw [if_neg x0, if_neg x0] at hJ
        have E := Lib.hid hJ
        have x1 : (x != 0) = true := by rw [bne_iff_ne]; exact x0
        clear hJ
        go_wp2
        refine wp_region_quiet_lit (by kernel_rfl) (by kernel_rfl) ?_
        repeat (generalize hst : ({ tmps := _, defers := _ } : Act) = st; refine wpQuiet_step (fun K hK => ?_); subst hst; go_simp; refine hK _ ?_; clear hK K)
        quiet_step (first | (go_at_call 46; refine (C1.out _).mono ?_; rintro e w5 ⟨rfl, rfl⟩; exact ⟨rfl, _, rfl⟩))
        repeat (generalize hst : ({ tmps := _, defers := _ } : Act) = st; refine wpQuiet_step (fun K hK => ?_); subst hst; go_simp; refine hK _ ?_; clear hK K)
        refine wpQuiet_nil ?_
        intro _ hw'
        obtain ⟨nq, hw''⟩ := hw'
        subst hw''
        go_wp2
        go_ret
        exact ⟨ret_int E.out, by first | exact below_drewN (Below.refl _ _) _ | exact below_drewN (below_drewN (Below.refl _ _) _) _⟩
    · have hends : (¬ (j : Int) < (n : Int)) ∨ ((j : Int) < (n : Int) ∧ ¬ (j : Int) < (m : Int)) := by omega
      have hb : Below W.heap.size W (W.drewN q0) := below_drewN (Below.refl _ _) _
      rcases (by omega : n < m ∨ m < n ∨ n = m) with g | g | g
      · have hfin : (-1 : Int) = T := by
          rw [← HJ.out, List.drop_eq_nil_of_le (by omega), List.drop_eq_getElem_cons (by omega)]
          rfl
        have E := Lib.hid hfin
        have k1 : (n : Int) < (m : Int) := by omega
        have k2 : ¬ (m : Int) < (n : Int) := by omega
        clear hfin hj
        rcases hends with e1 | ⟨e1, e2⟩
        all_goals
          go_wp2
          go_ret
          exact ⟨ret_int E.out, hb⟩
      · have hfin : (1 : Int) = T := by
          rw [← HJ.out, List.drop_eq_nil_of_le (show qs.length ≤ j by omega), List.drop_eq_getElem_cons (l := ps) (by omega)]
          rfl
        have E := Lib.hid hfin
        have k1 : ¬ (n : Int) < (m : Int) := by omega
        have k2 : (m : Int) < (n : Int) := by omega
        clear hfin hj
        rcases hends with e1 | ⟨e1, e2⟩
        all_goals
          go_wp2
          go_ret
          exact ⟨ret_int E.out, hb⟩
      · have hfin : (0 : Int) = T := by
          rw [← HJ.out, List.drop_eq_nil_of_le (show qs.length ≤ j by omega), List.drop_eq_nil_of_le (show ps.length ≤ j by omega)]
          rfl
        have E := Lib.hid hfin
        have k1 : ¬ (n : Int) < (m : Int) := by omega
        have k2 : ¬ (m : Int) < (n : Int) := by omega
        clear hfin hj
        rcases hends with e1 | ⟨e1, e2⟩
        all_goals
          go_wp2
          go_ret
          exact ⟨ret_int E.out, hb⟩
end Go.Proofs.Ytimfabnjopkhdaa
