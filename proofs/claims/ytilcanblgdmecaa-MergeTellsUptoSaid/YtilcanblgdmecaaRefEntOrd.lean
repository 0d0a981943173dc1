/- The document's own order of entries: the walks of its less, Order of labels, Order, Ahead, Right.
   The document's own order of entries, going on: Ahead, Right, Sorted; entries as the document's. -/
import Derived.Test.YtilcanblgdmecaaRefEntR
namespace Go.Proofs.Ytilcanblgdmecaa
open Go.RowKit
set_option linter.unusedVariables false
set_option linter.unusedSimpArgs false

set_option maxHeartbeats 800000 in
theorem refLess_any (a b : ByteArray) (W : World) : Calls Try.prog 54 #[.string a, .string b] W fun e w' => e = .returned (.int .i64 (txtC a b)) ∧ w' = W := by
  have h1 := less_txtC a b
  rcases txtC_vals a b with h | h | h
  · rw [h] at h1 ⊢
    simp only [show decide ((-1 : Int) < 0) = true from by decide, show decide ((0 : Int) < 0) = false from by decide, show decide ((1 : Int) < 0) = false from by decide] at h1
    clear h
    go_enter Try.func54, Try.ntmps54
    go_wp2
    go_ret
    exact ⟨rfl, rfl⟩
  · obtain rfl := txtC_ord.zero a b h
    rw [h] at h1 ⊢
    simp only [show decide ((-1 : Int) < 0) = true from by decide, show decide ((0 : Int) < 0) = false from by decide, show decide ((1 : Int) < 0) = false from by decide] at h1
    have h2 : (a.toList == a.toList) = true := by simp
    clear h
    go_enter Try.func54, Try.ntmps54
    go_wp2
    go_ret
    exact ⟨rfl, rfl⟩
  · have h2 : (a.toList == b.toList) = false := text_other (fun e => by rw [e, txtC_ord.refl] at h; cases h)
    rw [h] at h1 ⊢
    simp only [show decide ((-1 : Int) < 0) = true from by decide, show decide ((0 : Int) < 0) = false from by decide, show decide ((1 : Int) < 0) = false from by decide] at h1
    clear h
    go_enter Try.func54, Try.ntmps54
    go_wp2
    go_ret
    exact ⟨rfl, rfl⟩

set_option maxRecDepth 100000 in
set_option maxHeartbeats 1600000 in
theorem refOrderL_any (A B : Option Addr) (n m c d : Nat) (ps qs : List PairB) (hn : n ≤ 9223372036854775807) (hm : m ≤ 9223372036854775807) (W : World) (h1 : Pairs W A n ps) (h2 : Pairs W B m qs) :
    Calls Try.prog 43 #[.slice A n c, .slice B m d] W fun e w' => e = .returned (.int .i64 (orderL ps qs)) ∧ Below W.heap.size W w' := by
  obtain ⟨T, hT⟩ : ∃ T, orderL ps qs = T := ⟨_, rfl⟩
  rw [hT]
  have HT := Lib.hid (show lexC pairC (ps.drop 0) (qs.drop 0) = T by rw [List.drop_zero, List.drop_zero]; exact hT)
  have H1 := Lib.hid h1
  have H2 := Lib.hid h2
  have LS := Lib.hid (fun a b w => refLess_any a b w)
  clear hT h1 h2
  go_enter Try.func43, Try.ntmps43
  go_wp2
  go_loopw [5] (fun iv wr => ∃ j : Nat, j ≤ n ∧ j ≤ m ∧ iv = .int .i64 j ∧ Hid (lexC pairC (ps.drop j) (qs.drop j) = T) ∧ ∃ q, wr = W.drewN q) (fun iv _ => n - (intOf iv).toNat)
  case atStart => exact ⟨0, Nat.zero_le _, Nat.zero_le _, rfl, HT, 0, rfl⟩
  case round =>
    obtain ⟨j, hjn, hjm, rfl, HJ, q0, rfl⟩ := hrel
    have l1 := H1.out.1
    have l2 := H2.out.1
    by_cases hj : j < n ∧ j < m
    · obtain ⟨g1, g2⟩ := hj
      have hjI : (j : Int) < (n : Int) := by omega
      have hjM : (j : Int) < (m : Int) := by omega
      obtain ⟨b1, o1, rfl, hlt1, hc1⟩ := H1.out.2 (by omega)
      obtain ⟨b2, o2, rfl, hlt2, hc2⟩ := H2.out.2 (by omega)
      obtain ⟨c1, c2⟩ := hc1 j g1
      obtain ⟨c3, c4⟩ := hc2 j g2
      have d1 : ps.drop j = ps.getD j pnil :: ps.drop (j + 1) := by
        rw [List.drop_eq_getElem_cons (by omega), List.getD_eq_getElem?_getD, List.getElem?_eq_getElem (by omega)]
        rfl
      have d2 : qs.drop j = qs.getD j pnil :: qs.drop (j + 1) := by
        rw [List.drop_eq_getElem_cons (by omega), List.getD_eq_getElem?_getD, List.getElem?_eq_getElem (by omega)]
        rfl
      obtain ⟨⟨p1, p2⟩, hp⟩ : ∃ p, ps.getD j pnil = p := ⟨_, rfl⟩
      obtain ⟨⟨q1, q2⟩, hq⟩ : ∃ p, qs.getD j pnil = p := ⟨_, rfl⟩
      rw [hp] at c1 c2 d1
      rw [hq] at c3 c4 d2
      have hJ := HJ.out
      rw [d1, d2, lexC] at hJ
      dsimp only at c1 c2 c3 c4
      have hpc : pairC (p1, p2) (q1, q2) = (if txtC p1 q1 = 0 then txtC p2 q2 else txtC p1 q1) := rfl
      rw [hpc] at hJ
      have C1 := LS.out p1 q1
      have C2 := LS.out p2 q2
      obtain ⟨x, hx⟩ : ∃ x, txtC p1 q1 = x := ⟨_, rfl⟩
      obtain ⟨y, hy⟩ : ∃ x, txtC p2 q2 = x := ⟨_, rfl⟩
      simp only [hx] at C1
      simp only [hy] at C2
      rw [hx, hy] at hJ
      replace C1 := Lib.hid C1
      replace C2 := Lib.hid C2
      clear hc1 hc2 hp hq d1 d2 hpc hx hy l1 l2 LS
      by_cases x0 : x = 0
      · rw [if_pos x0] at hJ
        subst x0
        by_cases y0 : y = 0
        · rw [if_pos y0] at hJ
          subst y0
          have HN := Lib.hid hJ
          clear hJ
          go_wp2
          refine wp_region_quiet_lit (by kernel_rfl) (by kernel_rfl) ?_
          repeat (generalize hst : ({ tmps := _, defers := _ } : Act) = st; refine wpQuiet_step (fun K hK => ?_); subst hst; go_simp; refine hK _ ?_; clear hK K)
          quiet_step (first | (go_at_call 54; refine (C1.out _).mono ?_; rintro e w5 ⟨rfl, rfl⟩; exact ⟨rfl, _, rfl⟩))
          repeat (generalize hst : ({ tmps := _, defers := _ } : Act) = st; refine wpQuiet_step (fun K hK => ?_); subst hst; go_simp; refine hK _ ?_; clear hK K)
          refine wpQuiet_nil ?_
          intro _ hw'
          obtain ⟨nq, hw''⟩ := hw'
          subst hw''
          go_wp2
          refine wp_region_quiet_lit (by kernel_rfl) (by kernel_rfl) ?_
          repeat (generalize hst : ({ tmps := _, defers := _ } : Act) = st; refine wpQuiet_step (fun K hK => ?_); subst hst; go_simp; refine hK _ ?_; clear hK K)
          quiet_step (first | (go_at_call 54; refine (C2.out _).mono ?_; rintro e w5 ⟨rfl, rfl⟩; exact ⟨rfl, _, rfl⟩))
          repeat (generalize hst : ({ tmps := _, defers := _ } : Act) = st; refine wpQuiet_step (fun K hK => ?_); subst hst; go_simp; refine hK _ ?_; clear hK K)
          refine wpQuiet_nil ?_
          intro _ hw'
          obtain ⟨nq2, hw''⟩ := hw'
          subst hw''
          go_wp2
          go_round
          case rel => exact ⟨j + 1, by omega, by omega, by go_num, HN, _, rfl⟩
          case measure => simp [intOf]; omega
        · rw [if_neg y0] at hJ
          have E := Lib.hid hJ
          have y1 : (y != 0) = true := by rw [bne_iff_ne]; exact y0
          clear hJ
          go_wp2
          refine wp_region_quiet_lit (by kernel_rfl) (by kernel_rfl) ?_
          repeat (generalize hst : ({ tmps := _, defers := _ } : Act) = st; refine wpQuiet_step (fun K hK => ?_); subst hst; go_simp; refine hK _ ?_; clear hK K)
          quiet_step (first | (go_at_call 54; refine (C1.out _).mono ?_; rintro e w5 ⟨rfl, rfl⟩; exact ⟨rfl, _, rfl⟩))
          repeat (generalize hst : ({ tmps := _, defers := _ } : Act) = st; refine wpQuiet_step (fun K hK => ?_); subst hst; go_simp; refine hK _ ?_; clear hK K)
          refine wpQuiet_nil ?_
          intro _ hw'
          obtain ⟨nq, hw''⟩ := hw'
          subst hw''
          go_wp2
          refine wp_region_quiet_lit (by kernel_rfl) (by kernel_rfl) ?_
          repeat (generalize hst : ({ tmps := _, defers := _ } : Act) = st; refine wpQuiet_step (fun K hK => ?_); subst hst; go_simp; refine hK _ ?_; clear hK K)
          quiet_step (first | (go_at_call 54; refine (C2.out _).mono ?_; rintro e w5 ⟨rfl, rfl⟩; exact ⟨rfl, _, rfl⟩))
          repeat (generalize hst : ({ tmps := _, defers := _ } : Act) = st; refine wpQuiet_step (fun K hK => ?_); subst hst; go_simp; refine hK _ ?_; clear hK K)
          refine wpQuiet_nil ?_
          intro _ hw'
          obtain ⟨nq2, hw''⟩ := hw'
          subst hw''
          go_wp2
          go_ret
          exact ⟨ret_int E.out, by first | exact below_drewN (Below.refl _ _) _ | exact below_drewN (below_drewN (Below.refl _ _) _) _ | exact below_drewN (below_drewN (below_drewN (Below.refl _ _) _) _) _⟩
      · rw [if_neg x0, if_neg x0] at hJ
        have E := Lib.hid hJ
        have x1 : (x != 0) = true := by rw [bne_iff_ne]; exact x0
        clear hJ
        go_wp2
        refine wp_region_quiet_lit (by kernel_rfl) (by kernel_rfl) ?_
        repeat (generalize hst : ({ tmps := _, defers := _ } : Act) = st; refine wpQuiet_step (fun K hK => ?_); subst hst; go_simp; refine hK _ ?_; clear hK K)
        quiet_step (first | (go_at_call 54; refine (C1.out _).mono ?_; rintro e w5 ⟨rfl, rfl⟩; exact ⟨rfl, _, rfl⟩))
        repeat (generalize hst : ({ tmps := _, defers := _ } : Act) = st; refine wpQuiet_step (fun K hK => ?_); subst hst; go_simp; refine hK _ ?_; clear hK K)
        refine wpQuiet_nil ?_
        intro _ hw'
        obtain ⟨nq, hw''⟩ := hw'
        subst hw''
        go_wp2
        go_ret
        exact ⟨ret_int E.out, by first | exact below_drewN (Below.refl _ _) _ | exact below_drewN (below_drewN (Below.refl _ _) _) _⟩
    · have hends : (¬ (j : Int) < (n : Int)) ∨ ((j : Int) < (n : Int) ∧ ¬ (j : Int) < (m : Int)) := by omega
      have hb : Below W.heap.size W (W.drewN q0) := below_drewN (Below.refl _ _) _
      rcases (by omega : n < m ∨ m < n ∨ n = m) with g | g | g
      · have hfin : (-1 : Int) = T := by
          rw [← HJ.out, List.drop_eq_nil_of_le (by omega), List.drop_eq_getElem_cons (by omega)]
          rfl
        have E := Lib.hid hfin
        have k1 : (n : Int) < (m : Int) := by omega
        have k2 : ¬ (m : Int) < (n : Int) := by omega
        clear hfin hj
        rcases hends with e1 | ⟨e1, e2⟩
        all_goals
          go_wp2
          go_ret
          exact ⟨ret_int E.out, hb⟩
      · have hfin : (1 : Int) = T := by
          rw [← HJ.out, List.drop_eq_nil_of_le (show qs.length ≤ j by omega), List.drop_eq_getElem_cons (l := ps) (by omega)]
          rfl
        have E := Lib.hid hfin
        have k1 : ¬ (n : Int) < (m : Int) := by omega
        have k2 : (m : Int) < (n : Int) := by omega
        clear hfin hj
        rcases hends with e1 | ⟨e1, e2⟩
        all_goals
          go_wp2
          go_ret
          exact ⟨ret_int E.out, hb⟩
      · have hfin : (0 : Int) = T := by
          rw [← HJ.out, List.drop_eq_nil_of_le (show qs.length ≤ j by omega), List.drop_eq_nil_of_le (show ps.length ≤ j by omega)]
          rfl
        have E := Lib.hid hfin
        have k1 : ¬ (n : Int) < (m : Int) := by omega
        have k2 : ¬ (m : Int) < (n : Int) := by omega
        clear hfin hj
        rcases hends with e1 | ⟨e1, e2⟩
        all_goals
          go_wp2
          go_ret
          exact ⟨ret_int E.out, hb⟩
set_option maxRecDepth 100000 in
set_option maxHeartbeats 1600000 in
theorem refEntOrder_any (t1 t2 : Int) (A B : Option Addr) (n m c d : Nat) (ps qs : List PairB) (l1 l2 : ByteArray) (hn : n ≤ 9223372036854775807) (hm : m ≤ 9223372036854775807) (W : World) (h1 : Pairs W A n ps) (h2 : Pairs W B m qs) :
    Calls Try.prog 31 #[.agg #[.int .i64 t1, .slice A n c, .string l1], .agg #[.int .i64 t2, .slice B m d, .string l2]] W fun e w' => e = .returned (.int .i64 (entC ⟨t1, ps, l1⟩ ⟨t2, qs, l2⟩)) ∧ Below W.heap.size W w' := by
  have h0 : W.heap.size ≤ W.heap.size := Nat.le_refl _
  have OR := fun w h => refOrderL_any A B n m c d ps qs hn hm w (h1.below h) (h2.below h)
  obtain ⟨T, hT⟩ : ∃ T, entC ⟨t1, ps, l1⟩ ⟨t2, qs, l2⟩ = T := ⟨_, rfl⟩
  rw [hT]
  have hT2 : (if cmpZ t1 t2 = 0 then (if orderL ps qs = 0 then txtC l1 l2 else orderL ps qs) else cmpZ t1 t2) = T := hT
  obtain ⟨x, hx⟩ : ∃ x, orderL ps qs = x := ⟨_, rfl⟩
  simp only [hx] at OR
  rw [hx] at hT2
  replace OR := Lib.hid OR
  have k1 := less_txtC l1 l2
  have kv := txtC_vals l1 l2
  have kz := txtC_ord.zero l1 l2
  have kr := fun (e : l1 = l2) => show txtC l1 l2 = 0 by rw [e, txtC_ord.refl]
  obtain ⟨y, hy⟩ : ∃ x, txtC l1 l2 = x := ⟨_, rfl⟩
  rw [hy] at hT2 k1 kv kz
  simp only [hy] at kr
  have hz : (t1 < t2 ∧ cmpZ t1 t2 = -1) ∨ (t2 < t1 ∧ cmpZ t1 t2 = 1) ∨ (t1 = t2 ∧ cmpZ t1 t2 = 0) := by
    unfold cmpZ
    rcases Int.lt_trichotomy t1 t2 with h | h | h
    · exact .inl ⟨h, by rw [if_pos h]⟩
    · exact .inr (.inr ⟨h, by rw [if_neg (by omega), if_neg (by omega)]⟩)
    · exact .inr (.inl ⟨h, by rw [if_neg (by omega), if_pos h]⟩)
  clear h1 h2 hT hx hy
  rcases hz with ⟨hlt, hc⟩ | ⟨hlt, hc⟩ | ⟨rfl, hc⟩
  · have E := Lib.hid (show (-1 : Int) = T by rw [← hT2, hc, if_neg (by decide)])
    have f1 : (t1 != t2) = true := by rw [bne_iff_ne]; omega
    have f3 : ¬ t1 = t2 := by omega
    clear hT2 hc k1 kv kz kr OR
    go_enter Try.func31, Try.ntmps31
    go_wp2
    go_ret
    exact ⟨ret_int E.out, ((Below.refl _ _).alloc (Nat.le_refl _) _).alloc (by simp) _⟩
  · have E := Lib.hid (show (1 : Int) = T by rw [← hT2, hc, if_neg (by decide)])
    have f1 : (t1 != t2) = true := by rw [bne_iff_ne]; omega
    have f3 : ¬ t1 = t2 := by omega
    have f2 : ¬ t1 < t2 := by omega
    clear hT2 hc k1 kv kz kr OR
    go_enter Try.func31, Try.ntmps31
    go_wp2
    go_ret
    exact ⟨ret_int E.out, ((Below.refl _ _).alloc (Nat.le_refl _) _).alloc (by simp) _⟩
  · rw [hc, if_pos rfl] at hT2
    have f1 : (t1 != t1) = false := by simp
    by_cases x0 : x = 0
    · rw [if_pos x0] at hT2
      subst x0
      rcases kv with rfl | rfl | rfl
      · have E := Lib.hid hT2
        simp only [show decide ((-1 : Int) < 0) = true from by decide, show decide ((0 : Int) < 0) = false from by decide, show decide ((1 : Int) < 0) = false from by decide] at k1
        clear hT2 hc kz kr
        go_enter Try.func31, Try.ntmps31
        go_wp2_with fail
        obtain ⟨w1, hw1⟩ : ∃ w, (W.alloc (.cells #[.int .i64 t1, .slice A n c, .string l1] 48)).alloc (.cells #[.int .i64 t1, .slice B m d, .string l2] 48) = w := ⟨_, rfl⟩
        have B1 : Blk w1 W.heap.size 48 #[.int .i64 t1, .slice A n c, .string l1] := by rw [← hw1]; exact (Blk.new W _ _).alloc _
        have B2 : Blk w1 (W.heap.size + 1) 48 #[.int .i64 t1, .slice B m d, .string l2] := by rw [← hw1]; exact blk_next W _ _ _
        have hb1 : Below W.heap.size W w1 := by rw [← hw1]; exact ((Below.refl _ _).alloc (Nat.le_refl _) _).alloc (by simp) _
        rw [hw1]
        clear hw1
        refine (OR.out _ hb1).mono ?_
        rintro e w2 ⟨rfl, hx⟩
        replace B1 := B1.below hx B1.lt
        replace B2 := B2.below hx B2.lt
        have a2 : w2.cell? ⟨W.heap.size, 2, none⟩ = some (.string l1) := (B1.cell 2).trans rfl
        have b2 : w2.cell? ⟨W.heap.size + 1, 2, none⟩ = some (.string l2) := (B2.cell 2).trans rfl
        have HB := Lib.hid (hop hb1 h0 hx)
        clear hx B1 B2 hb1 OR
        go_wp2
        go_ret
        exact ⟨ret_int E.out, HB.out⟩
      · have E := Lib.hid hT2
        obtain rfl := kz rfl
        simp only [show decide ((-1 : Int) < 0) = true from by decide, show decide ((0 : Int) < 0) = false from by decide, show decide ((1 : Int) < 0) = false from by decide] at k1
        have k2 : (l1.toList == l1.toList) = true := by simp
        clear hT2 hc kz kr
        go_enter Try.func31, Try.ntmps31
        go_wp2_with fail
        obtain ⟨w1, hw1⟩ : ∃ w, (W.alloc (.cells #[.int .i64 t1, .slice A n c, .string l1] 48)).alloc (.cells #[.int .i64 t1, .slice B m d, .string l1] 48) = w := ⟨_, rfl⟩
        have B1 : Blk w1 W.heap.size 48 #[.int .i64 t1, .slice A n c, .string l1] := by rw [← hw1]; exact (Blk.new W _ _).alloc _
        have B2 : Blk w1 (W.heap.size + 1) 48 #[.int .i64 t1, .slice B m d, .string l1] := by rw [← hw1]; exact blk_next W _ _ _
        have hb1 : Below W.heap.size W w1 := by rw [← hw1]; exact ((Below.refl _ _).alloc (Nat.le_refl _) _).alloc (by simp) _
        rw [hw1]
        clear hw1
        refine (OR.out _ hb1).mono ?_
        rintro e w2 ⟨rfl, hx⟩
        replace B1 := B1.below hx B1.lt
        replace B2 := B2.below hx B2.lt
        have a2 : w2.cell? ⟨W.heap.size, 2, none⟩ = some (.string l1) := (B1.cell 2).trans rfl
        have b2 : w2.cell? ⟨W.heap.size + 1, 2, none⟩ = some (.string l1) := (B2.cell 2).trans rfl
        have HB := Lib.hid (hop hb1 h0 hx)
        clear hx B1 B2 hb1 OR
        go_wp2
        go_ret
        exact ⟨ret_int E.out, HB.out⟩
      · have E := Lib.hid hT2
        have k2 : (l1.toList == l2.toList) = false := text_other (fun e => by have := kr e; cases this)
        simp only [show decide ((-1 : Int) < 0) = true from by decide, show decide ((0 : Int) < 0) = false from by decide, show decide ((1 : Int) < 0) = false from by decide] at k1
        clear hT2 hc kz kr
        go_enter Try.func31, Try.ntmps31
        go_wp2_with fail
        obtain ⟨w1, hw1⟩ : ∃ w, (W.alloc (.cells #[.int .i64 t1, .slice A n c, .string l1] 48)).alloc (.cells #[.int .i64 t1, .slice B m d, .string l2] 48) = w := ⟨_, rfl⟩
        have B1 : Blk w1 W.heap.size 48 #[.int .i64 t1, .slice A n c, .string l1] := by rw [← hw1]; exact (Blk.new W _ _).alloc _
        have B2 : Blk w1 (W.heap.size + 1) 48 #[.int .i64 t1, .slice B m d, .string l2] := by rw [← hw1]; exact blk_next W _ _ _
        have hb1 : Below W.heap.size W w1 := by rw [← hw1]; exact ((Below.refl _ _).alloc (Nat.le_refl _) _).alloc (by simp) _
        rw [hw1]
        clear hw1
        refine (OR.out _ hb1).mono ?_
        rintro e w2 ⟨rfl, hx⟩
        replace B1 := B1.below hx B1.lt
        replace B2 := B2.below hx B2.lt
        have a2 : w2.cell? ⟨W.heap.size, 2, none⟩ = some (.string l1) := (B1.cell 2).trans rfl
        have b2 : w2.cell? ⟨W.heap.size + 1, 2, none⟩ = some (.string l2) := (B2.cell 2).trans rfl
        have HB := Lib.hid (hop hb1 h0 hx)
        clear hx B1 B2 hb1 OR
        go_wp2
        go_ret
        exact ⟨ret_int E.out, HB.out⟩
    · rw [if_neg x0] at hT2
      have E := Lib.hid hT2
      have x1 : (x != 0) = true := by rw [bne_iff_ne]; exact x0
      clear hT2 hc k1 kv kz kr
      go_enter Try.func31, Try.ntmps31
      go_wp2_with fail
      obtain ⟨w1, hw1⟩ : ∃ w, (W.alloc (.cells #[.int .i64 t1, .slice A n c, .string l1] 48)).alloc (.cells #[.int .i64 t1, .slice B m d, .string l2] 48) = w := ⟨_, rfl⟩
      have B1 : Blk w1 W.heap.size 48 #[.int .i64 t1, .slice A n c, .string l1] := by rw [← hw1]; exact (Blk.new W _ _).alloc _
      have B2 : Blk w1 (W.heap.size + 1) 48 #[.int .i64 t1, .slice B m d, .string l2] := by rw [← hw1]; exact blk_next W _ _ _
      have hb1 : Below W.heap.size W w1 := by rw [← hw1]; exact ((Below.refl _ _).alloc (Nat.le_refl _) _).alloc (by simp) _
      rw [hw1]
      clear hw1
      refine (OR.out _ hb1).mono ?_
      rintro e w2 ⟨rfl, hx⟩
      replace B1 := B1.below hx B1.lt
      replace B2 := B2.below hx B2.lt
      have HB := Lib.hid (hop hb1 h0 hx)
      clear hx B1 B2 hb1 OR
      go_wp2
      go_ret
      exact ⟨ret_int E.out, HB.out⟩
end Go.Proofs.Ytilcanblgdmecaa
namespace Go.Proofs.Ytilcanblgdmecaa
open Go.RowKit
set_option linter.unusedVariables false
set_option linter.unusedSimpArgs false

set_option maxRecDepth 100000 in
set_option maxHeartbeats 1600000 in
theorem refEntAhead_any (t1 t2 : Int) (A B : Option Addr) (n m c d : Nat) (ps qs : List PairB) (l1 l2 : ByteArray) (asc : Bool) (hn : n ≤ 9223372036854775807) (hm : m ≤ 9223372036854775807) (W : World) (h1 : Pairs W A n ps) (h2 : Pairs W B m qs) :
    Calls Try.prog 24 #[.agg #[.int .i64 t1, .slice A n c, .string l1], .agg #[.int .i64 t2, .slice B m d, .string l2], .bool asc] W fun e w' => e = .returned (.bool (aheadB ⟨t1, ps, l1⟩ ⟨t2, qs, l2⟩ asc)) ∧ Below W.heap.size W w' := by
  have h0 : W.heap.size ≤ W.heap.size := Nat.le_refl _
  have OR := fun w h => refEntOrder_any t1 t2 A B n m c d ps qs l1 l2 hn hm w (h1.below h) (h2.below h)
  obtain ⟨T, hT⟩ : ∃ T, aheadB ⟨t1, ps, l1⟩ ⟨t2, qs, l2⟩ asc = T := ⟨_, rfl⟩
  rw [hT]
  have hT2 : (if asc then decide (entC ⟨t1, ps, l1⟩ ⟨t2, qs, l2⟩ < 0) else decide (0 < entC ⟨t1, ps, l1⟩ ⟨t2, qs, l2⟩)) = T := hT
  obtain ⟨x, hx⟩ : ∃ x, entC ⟨t1, ps, l1⟩ ⟨t2, qs, l2⟩ = x := ⟨_, rfl⟩
  simp only [hx] at OR
  rw [hx] at hT2
  replace OR := Lib.hid OR
  clear h1 h2 hT hx
  cases asc with
  | false =>
    have E := Lib.hid (show decide (0 < x) = T from hT2)
    clear hT2
    go_enter Try.func24, Try.ntmps24
    go_wp2_with fail
    obtain ⟨w1, hw1⟩ : ∃ w, (W.alloc (.cells #[.int .i64 t1, .slice A n c, .string l1] 48)).alloc (.cells #[.int .i64 t2, .slice B m d, .string l2] 48) = w := ⟨_, rfl⟩
    have hTW : Below W.heap.size W w1 := by rw [← hw1]; exact ((Below.refl _ _).alloc (Nat.le_refl _) _).alloc (by simp) _
    rw [hw1]
    clear hw1
    refine (OR.out _ hTW).mono ?_
    rintro e w2 ⟨rfl, hx⟩
    have HB := Lib.hid (hop hTW h0 hx)
    clear hx hTW OR
    go_wp2
    go_ret
    exact ⟨ret_bool E.out, HB.out⟩
  | true =>
    have E := Lib.hid (show decide (x < 0) = T from hT2)
    clear hT2
    go_enter Try.func24, Try.ntmps24
    go_wp2_with fail
    obtain ⟨w1, hw1⟩ : ∃ w, (W.alloc (.cells #[.int .i64 t1, .slice A n c, .string l1] 48)).alloc (.cells #[.int .i64 t2, .slice B m d, .string l2] 48) = w := ⟨_, rfl⟩
    have hTW : Below W.heap.size W w1 := by rw [← hw1]; exact ((Below.refl _ _).alloc (Nat.le_refl _) _).alloc (by simp) _
    rw [hw1]
    clear hw1
    refine (OR.out _ hTW).mono ?_
    rintro e w2 ⟨rfl, hx⟩
    have HB := Lib.hid (hop hTW h0 hx)
    clear hx hTW OR
    go_wp2
    go_ret
    exact ⟨ret_bool E.out, HB.out⟩

/-- a slice of the document's entries that can be read -/
def EntsQ (w : World) (A : Option Addr) (n : Nat) (l : List EntX) : Prop := RowR EntX.V 3 w A n l ∧ ∀ x ∈ l, GoodQ w x
theorem EntsQ.below {w w' : World} {A : Option Addr} {n : Nat} {l : List EntX} (h : EntsQ w A n l) (hb : Below w.heap.size w w') : EntsQ w' A n l := ⟨h.1.below hb, fun x hx => (h.2 x hx).below hb⟩
theorem EntsQ.at_ {w : World} {A : Option Addr} {n : Nat} {l : List EntX} (h : EntsQ w A n l) (hn : 0 < n) : ∃ b off, A = some ⟨b, off, Option.none⟩ ∧ b < w.heap.size ∧ ∀ j, j < n →
    w.cell? ⟨b, off + j * 3, none⟩ = some (.int .i64 (l.getD j xnil).ts) ∧ w.cell? ⟨b, off + j * 3 + 1, none⟩ = some (.slice (l.getD j xnil).A (l.getD j xnil).n (l.getD j xnil).c) ∧ w.cell? ⟨b, off + j * 3 + 2, none⟩ = some (.string (l.getD j xnil).ln) ∧ l.getD j xnil ∈ l ∧ GoodQ w (l.getD j xnil) := by
  obtain ⟨b, off, e, hlt, hc⟩ := h.1.2 hn
  refine ⟨b, off, e, hlt, fun j hj => ?_⟩
  have hg : l[j]? = some (l.getD j xnil) := by
    have := h.1.1
    rw [List.getD_eq_getElem?_getD, List.getElem?_eq_getElem (by omega)]
    rfl
  exact ⟨hc j 0 _ hg (by decide), hc j 1 _ hg (by decide), hc j 2 _ hg (by decide), List.mem_of_getElem? hg, h.2 _ (List.mem_of_getElem? hg)⟩
theorem sortedGo_map (asc : Bool) : ∀ (l m : List EntX) (x y : EntX), x.b = y.b → l.map EntX.b = m.map EntX.b → sortedGo asc x l = sortedGo asc y m
  | [], [], _, _, _, _ => rfl
  | a :: l, c :: m, x, y, h, e => by
    rw [List.map_cons, List.map_cons] at e
    injection e with e1 e2
    rw [sortedGo, sortedGo, h, e1, sortedGo_map asc l m a c e1 e2]
  | [], _ :: _, _, _, _, e => by cases e
  | _ :: _, [], _, _, _, e => by cases e
theorem sortedE_map (asc : Bool) (l m : List EntX) (e : l.map EntX.b = m.map EntX.b) : sortedE asc l = sortedE asc m := by
  cases l with
  | nil =>
    cases m with
    | nil => rfl
    | cons c m => cases e
  | cons a l =>
    cases m with
    | nil => cases e
    | cons c m =>
      rw [List.map_cons, List.map_cons] at e
      injection e with e1 e2
      exact sortedGo_map asc l m a c e1 e2

set_option maxRecDepth 100000 in
set_option maxHeartbeats 1600000 in
theorem refEntSorted_any (asc : Bool) (A : Option Addr) (n c : Nat) (l : List EntX) (hn : n ≤ 9223372036854775807) (hns : ∀ x ∈ l, x.n ≤ 9223372036854775807) (W : World) (h1 : EntsQ W A n l) :
    Calls Try.prog 30 #[.bool asc, .slice A n c] W fun e w' => e = .returned (.bool (sortedE asc l)) ∧ Below W.heap.size W w' := by
  have h0 : W.heap.size ≤ W.heap.size := Nat.le_refl _
  obtain ⟨T, hT⟩ : ∃ T, sortedE asc l = T := ⟨_, rfl⟩
  rw [hT]
  have HT := Lib.hid (show ∀ j, 1 ≤ j → j = 1 → (n = 0 → true = T) ∧ (0 < n → sortedGo asc (l.getD (j - 1) xnil) (l.drop j) = T) from fun j hj1 hj2 => by
    have hl := h1.1.1
    subst hj2
    refine ⟨fun h => ?_, fun h => ?_⟩
    · have : l = [] := List.eq_nil_of_length_eq_zero (by omega)
      rw [← hT, this]; rfl
    · rw [← hT]
      cases l with
      | nil => simp at hl; omega
      | cons x l => rfl)
  have H1 := Lib.hid h1
  have HL := Lib.hid h1.1.1
  have HN1 := Lib.hid (fun (x : EntX) (g : x ∈ l) => hns x g)
  clear h1 hT
  go_enter Try.func30, Try.ntmps30
  go_wp2
  go_loopw [5] (fun iv wr => ∃ j : Nat, 1 ≤ j ∧ (j ≤ n ∨ (n = 0 ∧ j = 1)) ∧ iv = .int .i64 j ∧ Hid ((n = 0 → true = T) ∧ (0 < n → sortedGo asc (l.getD (j - 1) xnil) (l.drop j) = T)) ∧ Below W.heap.size W wr) (fun iv _ => n - (intOf iv).toNat)
  case atStart => exact ⟨1, Nat.le_refl _, by omega, rfl, Lib.hid (HT.out 1 (Nat.le_refl _) rfl), Below.refl _ _⟩
  case round =>
    obtain ⟨j, hj1, hjn, rfl, HJ, hb⟩ := hrel
    have hsz := hb.size
    by_cases hj : j < n
    · have hjI : (j : Int) < (n : Int) := by omega
      obtain ⟨i, hij⟩ : ∃ i, j = i + 1 := ⟨j - 1, by omega⟩
      have hwp : IntKind.i64.wrap ((j : Int) - 1) = (i : Int) := by rw [IntKind.wrap_i64]; omega
      have hiI : (i : Int) < (n : Int) := by omega
      obtain ⟨b1, o1, rfl, hlt1, hc⟩ := (H1.out.below hb).at_ (by omega)
      obtain ⟨c1, c2, c3, g1⟩ := hc i (by omega)
      obtain ⟨d1, d2, d3, g2⟩ := hc j hj
      have hd : l.drop j = l.getD j xnil :: l.drop (j + 1) := by
        have := HL.out
        rw [List.drop_eq_getElem_cons (by omega), List.getD_eq_getElem?_getD, List.getElem?_eq_getElem (by omega)]
        rfl
      have hs := HJ.out.2 (by omega)
      rw [hd, show j - 1 = i by omega, sortedGo] at hs
      have hnext : j + 1 - 1 = j := by omega
      obtain ⟨x, hx⟩ : ∃ x, l.getD i xnil = x := ⟨_, rfl⟩
      obtain ⟨y, hy⟩ : ∃ x, l.getD j xnil = x := ⟨_, rfl⟩
      rw [hx] at c1 c2 c3 g1 hs
      rw [hy] at d1 d2 d3 g2 hs
      have HN := Lib.hid (show ∀ z, sortedGo asc y (l.drop (j + 1)) = z → (n = 0 → true = z) ∧ (0 < n → sortedGo asc (l.getD (j + 1 - 1) xnil) (l.drop (j + 1)) = z) from fun z hz => ⟨fun h => by omega, fun _ => by rw [hnext, hy]; exact hz⟩)
      obtain ⟨xt, xA, xn, xc, xl, xs⟩ := x
      obtain ⟨yt, yA, yn, yc, yl, ys⟩ := y
      dsimp only at c1 c2 c3 d1 d2 d3
      have AH := fun w h => refEntAhead_any yt xt yA xA yn xn yc xc yl xl ys xs asc (HN1.out _ g2.1) (HN1.out _ g1.1) w (g2.2.set.below h) (g1.2.set.below h)
      have hab : aheadB (EntX.b ⟨yt, yA, yn, yc, yl, ys⟩) (EntX.b ⟨xt, xA, xn, xc, xl, xs⟩) asc = aheadB ⟨yt, yl, ys⟩ ⟨xt, xl, xs⟩ asc := rfl
      rw [hab] at hs
      obtain ⟨z, hz⟩ : ∃ x, aheadB ⟨yt, yl, ys⟩ ⟨xt, xl, xs⟩ asc = x := ⟨_, rfl⟩
      simp only [hz] at AH
      rw [hz] at hs
      have HSS := Lib.hid hs
      replace AH := Lib.hid AH
      have HIJ := Lib.hid hij
      clear hc hd hx hy hab hz hs g1 g2 hnext hij hj1 hjn
      have S0 : Below wr.heap.size wr wr.drew := (Below.refl _ _).drew
      go_wp2
      go_region_held3 (fun w' => Below wr.heap.size wr w' ∧ w'.cell? ⟨b1, o1 + i * 3, none⟩ = some (.int .i64 xt) ∧ w'.cell? ⟨b1, o1 + i * 3 + 1, none⟩ = some (.slice xA xn xc) ∧ w'.cell? ⟨b1, o1 + i * 3 + 2, none⟩ = some (.string xs) ∧ w'.cell? ⟨b1, o1 + j * 3, none⟩ = some (.int .i64 yt) ∧ w'.cell? ⟨b1, o1 + j * 3 + 1, none⟩ = some (.slice yA yn yc) ∧ w'.cell? ⟨b1, o1 + j * 3 + 2, none⟩ = some (.string ys))
        (first | assumption | exact ⟨by assumption, by assumption, by assumption, by assumption, by assumption, by assumption, by assumption⟩ | exact ⟨by assumption, (hb3.cell (p := ⟨_, _, none⟩) hlt1).trans c1, (hb3.cell (p := ⟨_, _, none⟩) hlt1).trans c2, (hb3.cell (p := ⟨_, _, none⟩) hlt1).trans c3, (hb3.cell (p := ⟨_, _, none⟩) hlt1).trans d1, (hb3.cell (p := ⟨_, _, none⟩) hlt1).trans d2, (hb3.cell (p := ⟨_, _, none⟩) hlt1).trans d3⟩)
        (first | (go_at_call 24; refine (AH.out _ S0).mono ?_; rintro e w3 ⟨rfl, hb3⟩; replace hb3 : Below wr.heap.size wr w3 := ⟨hb3.os, hb3.tape, hb3.output, hb3.size, hb3.block⟩))
      all_goals
        have hb4 := hop hb h0 hb3
        clear hb3
        cases z with
        | false =>
          have HSN := Lib.hid (HN.out T (by have := HSS.out; simpa using this))
          go_wp2
          go_round
          case rel => exact ⟨j + 1, by omega, by omega, by go_num, HSN, hb4⟩
          case measure => simp [intOf]; omega
        | true =>
          have E := Lib.hid (show false = T from by have := HSS.out; simpa using this)
          go_wp2
          go_ret
          exact ⟨ret_bool E.out, hb4⟩
    · have E := Lib.hid (show true = T from by
        rcases Nat.eq_zero_or_pos n with h | h
        · exact HJ.out.1 h
        · have := HJ.out.2 h
          rw [List.drop_of_length_le (by have := HL.out; omega)] at this
          exact this)
      go_wp2
      go_ret
      exact ⟨ret_bool E.out, hb⟩

theorem infoEntQ : (Try.prog.info? 48).map (fun i => (i.zero, i.size, i.bytes)) = some (some (.agg #[.int .i64 0, .slice none 0 0, .string ⟨#[]⟩]), 3, 48) := by kernel_rfl
def OwnEQ (w : World) (B' : Nat) (v : Value) (l : List EntX) : Prop := OwnR EntX.V 3 w B' 48 v l ∧ ∀ x ∈ l, GoodQ w x
theorem OwnEQ.below {B' : Nat} {w w' : World} {v : Value} {l : List EntX} (h : OwnEQ w B' v l) (hb : Below w.heap.size w w') : OwnEQ w' B' v l := ⟨OwnR.below h.1 hb, fun x hx => (h.2 x hx).below hb⟩
theorem OwnEQ.alloc {B' : Nat} {w : World} {v : Value} {l : List EntX} (h : OwnEQ w B' v l) (o : Obj) : OwnEQ (w.alloc o) B' v l := h.below ((Below.refl _ _).alloc (Nat.le_refl _) o)
theorem GoodQ.kept {B' : Nat} {w w' : World} {x : EntX} {v : Value} {l : List EntX} (h : GoodQ w x) (ho : OwnR EntX.V 3 w B' 48 v l) (hg : w.grownBy w' v.ownBlock) : GoodQ w' x :=
  h.grown hg fun b hb => by
    obtain ⟨_, cur, hc⟩ := own_row_type ho b hb
    exact ⟨cur, _, entQ_not_pair, hc⟩
theorem OwnEQ.snoc {B' : Nat} {w w' : World} {v v' : Value} {l : List EntX} {x : EntX} (h : OwnEQ w B' v l) (hx : GoodQ w x) (hg : w.grownBy w' v.ownBlock) (ho : w'.ownsRow B' 48 3 v' (l.length + 1) (rowV EntX.V l ++ x.V)) : OwnEQ w' B' v' (l ++ [x]) :=
  ⟨OwnR.snoc ho, fun y hy => by
    rcases List.mem_append.1 hy with hy | hy
    · exact (h.2 y hy).kept h.1 hg
    · rw [List.mem_singleton.1 hy]
      exact hx.kept h.1 hg⟩
theorem OwnEQ.ents {B' : Nat} {w : World} {v : Value} {l : List EntX} (h : OwnEQ w B' v l) : ∃ A cap, v = .slice A l.length cap ∧ EntsQ w A l.length l := by
  obtain ⟨A, cap, e, _, _, hr⟩ := OwnR.open entV_len h.1
  exact ⟨A, cap, e, hr, h.2⟩

set_option maxRecDepth 100000 in
set_option maxHeartbeats 1600000 in
theorem refEntries_any (B : Nat) (A : Option Addr) (n c : Nat) (l : List EntX) (hn : n ≤ 1048576) (hl : ∀ x ∈ l, x.n ≤ 1048576) (W : World) (h1 : Ents B W A n l) :
    Calls Try.prog 11 #[.slice A n c] W fun e w' => ∃ (A' : Option Addr) (c' : Nat) (L : List EntX), e = .returned (.slice A' n c') ∧ L.map EntX.b = l.map EntX.b ∧ (∀ x ∈ L, x.n ≤ 1048576) ∧ EntsQ w' A' n L ∧ Below W.heap.size W w' := by
  have h0 : W.heap.size ≤ W.heap.size := Nat.le_refl _
  obtain ⟨i0, hi, hz0, hz1, hz2⟩ := info_parts infoEntQ
  have H1 := Lib.hid h1
  have HLN := Lib.hid hl
  have RE := Lib.hid refEntry_any
  clear h1 hl
  go_enter Try.func11, Try.ntmps11
  go_wp2
  go_loopw [3, 4] (fun sv iv wr => ∃ (j : Nat) (L : List EntX), j ≤ n ∧ iv = .int .i64 j ∧ Hid (L.map EntX.b = (l.take j).map EntX.b) ∧ Hid (∀ x ∈ L, x.n ≤ 1048576) ∧ OwnEQ wr W.heap.size sv L ∧ Below W.heap.size W wr) (fun _ iv _ => n - (intOf iv).toNat)
  case atStart => exact ⟨0, [], Nat.zero_le _, rfl, Lib.hid rfl, Lib.hid (fun _ h => by cases h), ⟨OwnR.nil _ _ _, fun _ h => by cases h⟩, Below.refl _ _⟩
  case round =>
    obtain ⟨j, L, hjn, rfl, HLB, HLL, hown, hb⟩ := hrel
    have hsz := hb.size
    by_cases hj : j < n
    · have h2 := H1.out.below hb
      obtain ⟨b1, o1, rfl, hlt1, hc1⟩ := h2.at_ (by omega)
      obtain ⟨c1, c2, c3, gI⟩ := hc1 j hj
      have hjl : j < l.length := by rw [h2.1.1]; exact hj
      have hks : l.take (j + 1) = l.take j ++ [l.getD j xnil] := by
        rw [List.take_succ_eq_append_getElem hjl, List.getD_eq_getElem?_getD, List.getElem?_eq_getElem hjl]
        rfl
      have hmem : l.getD j xnil ∈ l := by
        rw [List.getD_eq_getElem?_getD, List.getElem?_eq_getElem hjl]
        exact List.getElem_mem _
      have hxn := HLN.out _ hmem
      have hLl : L.length ≤ 1048576 := by
        have h3 := congrArg List.length HLB.out
        rw [List.length_map, List.length_map, List.length_take] at h3
        omega
      obtain ⟨x, hx⟩ : ∃ p, l.getD j xnil = p := ⟨_, rfl⟩
      rw [hx] at c1 c2 c3 hks gI hxn
      have IT := Lib.hid (fun w (h : Below wr.heap.size wr w) => RE.out x hxn w (gI.set.1.below h))
      obtain ⟨ts, eA, en, ec, els, eln⟩ := x
      dsimp only at c1 c2 c3
      have hjI : (j : Int) < (n : Int) := by omega
      have HXN := Lib.hid hxn
      have HKS := Lib.hid hks
      have HOW := Lib.hid hown
      replace IT := IT.out
      dsimp only at IT
      replace IT := Lib.hid IT
      clear hks hx hc1 h2 hjl gI hown hmem hxn
      go_wp2_with fail
      refine (IT.out _ (Below.refl _ _)).mono ?_
      rintro e w2 ⟨y, rfl, hy, hyn, gy, hx⟩
      have hb2 := hop hb h0 hx
      have ho2 := HOW.out.below hx
      have hs2 := hb2.size
      have HY := Lib.hid hy
      have HYN := Lib.hid (show y.n ≤ 1048576 by rw [hyn]; exact HXN.out)
      obtain ⟨yt, yA, yn, yc, yl, ys⟩ := y
      have HGY := Lib.hid gy
      have HO2 := Lib.hid ho2
      clear hx c1 c2 c3 hb gy hy ho2 hyn
      dsimp only
      go_wp2_with (at_builtin; refine wpList_append_own _ rfl (.tmp 11) (.tmp 17) 38 rfl W.heap.size 48 i0 (.agg #[.int .i64 0, .slice none 0 0, .string ⟨#[]⟩]) 3 48 Try.underlying38 hi hz0 hz1 hz2 rfl (by decide) _ _ _ rfl (OwnR.alloc HO2.out.1 _) ⟨w2.heap.size, 0, none⟩ 1 1 (EntX.V ⟨yt, yA, yn, yc, yl, ys⟩) rfl rfl (new_cells_at _ _ _ _ (by simp)) (entV_one _) (by unfold maxLen; omega) (by omega) (by simp; omega) ?_)
      intro v' w3 hown' hgrow _
      have hb3 := (hb2.alloc hs2 _).grown hgrow (by simp; omega) (fun r hr => (World.ownsRow.lt HO2.out.1 r hr).1)
      have hown3 := OwnEQ.snoc (HO2.out.alloc _) (HGY.out.below ((Below.refl _ _).alloc (Nat.le_refl _) _)) hgrow hown'
      have hmap : (L ++ [(⟨yt, yA, yn, yc, yl, ys⟩ : EntX)]).map EntX.b = (l.take (j + 1)).map EntX.b := by
        rw [List.map_append, HLB.out, HKS.out, List.map_append]
        show _ ++ [EntX.b _] = _ ++ [EntX.b _]
        rw [HY.out]
      have HMAP := Lib.hid hmap
      have HLL2 := Lib.hid (show ∀ x ∈ L ++ [(⟨yt, yA, yn, yc, yl, ys⟩ : EntX)], x.n ≤ 1048576 from fun z hz => by
        rcases List.mem_append.1 hz with hz | hz
        · exact HLL.out z hz
        · rw [List.mem_singleton.1 hz]; exact HYN.out)
      have HO3 := Lib.hid hown3
      clear hown' hgrow hmap hown3
      go_wp2
      go_round
      case rel => exact ⟨j + 1, _, by omega, by go_num, HMAP, HLL2, HO3.out, hb3⟩
      case measure => simp [intOf]; omega
    · obtain rfl : j = n := by omega
      obtain ⟨A', c', rfl, he⟩ := hown.ents
      have hm := HLB.out
      have hll : l.length = j := H1.out.1.1
      rw [List.take_of_length_le (by omega)] at hm
      have hLl : L.length = j := by
        have h3 := congrArg List.length hm
        rw [List.length_map, List.length_map] at h3
        omega
      rw [hLl] at he ⊢
      have HE := Lib.hid he
      have HM := Lib.hid hm
      have hjI : ¬ (j : Int) < (j : Int) := by omega
      clear he hm hll hj hown
      go_wp2
      go_ret
      exact ⟨A', ⟨c', rfl⟩, L, HM.out, HLL.out, HE.out, hb⟩
end Go.Proofs.Ytilcanblgdmecaa
