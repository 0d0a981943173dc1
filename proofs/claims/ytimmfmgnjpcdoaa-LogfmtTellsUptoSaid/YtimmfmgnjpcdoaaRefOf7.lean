/- The document's own set of labels: the walk. -/
import Derived.Test.YtimmfmgnjpcdoaaRefParse6
namespace Go.Proofs.Ytimmfmgnjpcdoaa
open Go.RowKit
set_option linter.unusedVariables false
set_option linter.unusedSimpArgs false

set_option maxRecDepth 100000 in
set_option maxHeartbeats 1600000 in
theorem refOf_any (A : Option Addr) (n c : Nat) (ps : List PairB) (hn : n ≤ 1000) (W : World) (h1 : Pairs W A n ps) :
    Calls Try.prog 32 #[.slice A n c] W fun e w' => ∃ v, e = .returned v ∧ OwnQ w' W.heap.size v (refOfL ps) ∧ Below W.heap.size W w' := by
  have h0 : W.heap.size ≤ W.heap.size := Nat.le_refl _
  obtain ⟨i0, hi, hz0, hz1, hz2⟩ := info_parts infoPair6
  have H1 := Lib.hid h1
  have HL := Lib.hid h1.1
  clear h1
  go_enter Try.func32, Try.ntmps32
  go_wp2
  go_loopw [3, 4] (fun ov iv wr => ∃ (i : Nat) (out : List PairB), i ≤ n ∧ iv = .int .i64 i ∧ Hid (out = refTo ps i) ∧ out.length ≤ i ∧ ((out = [] ∧ ov = .slice none 0 0) ∨ (0 < out.length ∧ OwnQ wr W.heap.size ov out)) ∧ Below W.heap.size W wr) (fun _ iv _ => n - (intOf iv).toNat)
  case atStart => exact ⟨0, [], Nat.zero_le _, rfl, Lib.hid rfl, Nat.zero_le _, .inl ⟨rfl, rfl⟩, Below.refl _ _⟩
  case round =>
    obtain ⟨i, out, hin, rfl, HT, hol, hcase, hb⟩ := hrel
    have hsz := hb.size
    by_cases hlt : i < n
    · have hltI : (i : Int) < (n : Int) := by omega
      obtain ⟨b1, o1, rfl, hlt1, hc1⟩ := (H1.out.below hb).2 (by omega)
      obtain ⟨c1, c2⟩ := hc1 i hlt
      have hnx : refTo ps (i + 1) = if nameB (ps.getD i pnil).1 = true then insR out (ps.getD i pnil) else out := by
        rw [refTo, ← HT.out]
      obtain ⟨⟨p1, p2⟩, hp⟩ : ∃ p, ps.getD i pnil = p := ⟨_, rfl⟩
      rw [hp] at c1 c2 hnx
      dsimp only at c1 c2 hnx
      have NM := fun w => refName_any p1 w
      obtain ⟨nb, hnb⟩ : ∃ b, nameB p1 = b := ⟨_, rfl⟩
      rw [hnb] at hnx
      simp only [hnb] at NM
      replace NM := Lib.hid NM
      clear hc1 hp hnb
      cases nb with
      | false =>
        have HN := Lib.hid (show out = refTo ps (i + 1) from by rw [hnx, if_neg (by decide)])
        have HC := Lib.hid hcase
        clear hnx hcase
        go_wp2_with fail
        refine (NM.out _).mono ?_
        rintro e w ⟨rfl, rfl⟩
        go_wp2
        go_round
        case rel => exact ⟨i + 1, out, by omega, by go_num, HN, by omega, HC.out, hb⟩
        case measure => simp [intOf]; omega
      | true =>
        have HN := Lib.hid (show refTo ps (i + 1) = insR out (p1, p2) from by rw [hnx, if_pos rfl])
        have hil := insR_len out (p1, p2)
        clear hnx
        rcases hcase with ⟨rfl, rfl⟩ | ⟨hpos, hown⟩
        · have HE := Lib.hid (show insR [] (p1, p2) = [(p1, p2)] from rfl)
          go_wp2_with fail
          refine (NM.out _).mono ?_
          rintro e w ⟨rfl, rfl⟩
          go_wp2
          go_loopw [5] (fun av w2 => av = .int .i64 0 ∧ ∃ q, w2 = wr.drewN q) (fun _ _ => 0)
          case atStart => exact ⟨rfl, 0, rfl⟩
          case round =>
            obtain ⟨rfl, q, rfl⟩ := hrel
            go_wp2
            refine wp_region_quiet_lit (by kernel_rfl) (by kernel_rfl) ?_
            repeat (generalize hst : ({ tmps := _, defers := _ } : Act) = st; refine wpQuiet_step (fun K hK => ?_); subst hst; go_simp; refine hK _ ?_; clear hK K)
            refine wpQuiet_nil ?_
            intro _ hw'
            obtain ⟨nq, hw''⟩ := hw'
            subst hw''
            obtain ⟨w1, hw1⟩ : ∃ w, (wr.drewN q).drewN nq = w := ⟨_, rfl⟩
            have d1 : w1.cell? ⟨b1, o1 + i * 2, none⟩ = some (.string p1) := by rw [← hw1]; exact c1
            have d2 : w1.cell? ⟨b1, o1 + i * 2 + 1, none⟩ = some (.string p2) := by rw [← hw1]; exact c2
            have hb1 : Below W.heap.size W w1 := by rw [← hw1]; exact below_drewN (below_drewN hb _) _
            have hs1 := hb1.size
            rw [hw1]
            clear hw1 c1 c2
            go_wp2_with (at_builtin; first | (refine wpList_append_own_none rfl (.tmp 39) (.tmp 42) 30 rfl W.heap.size 54 i0 2 Try.underlying30 hi _ 0 [] rfl (World.ownsRow_nil _ _ _ _) rfl ?_) | (refine wpList_append_own _ rfl (.tmp 44) (.tmp 49) 30 rfl W.heap.size 54 i0 (.agg #[.string ⟨#[]⟩, .string ⟨#[]⟩]) 2 32 Try.underlying30 hi hz0 hz1 hz2 rfl (by decide) _ 0 [] rfl (World.ownsRow_nil _ _ _ _) ⟨w1.heap.size, 0, none⟩ 1 1 (pairV (p1, p2)) rfl rfl (new_cells_at _ _ _ _ (by simp)) (pairV_one _) (by unfold maxLen; omega) (by omega) (by simp; omega) ?_))
            intro v' w3 hown' hgrow _
            have hb3 := (hb1.alloc hs1 _).grown hgrow (by simp; omega) (fun r hr => by cases hr)
            have hown3 : OwnQ w3 W.heap.size v' [(p1, p2)] := OwnR.snoc (l := []) (a := ((p1, p2) : PairB)) (by simpa [rowV] using hown')
            have HO3 := Lib.hid hown3
            have HB3 := Lib.hid hb3
            clear hown' hgrow hown3 hb3 d1 d2
            go_wp2
            refine wp_region_quiet_lit (by kernel_rfl) (by kernel_rfl) ?_
            repeat (generalize hst : ({ tmps := _, defers := _ } : Act) = st; refine wpQuiet_step (fun K hK => ?_); subst hst; go_simp; refine hK _ ?_; clear hK K)
            refine wpQuiet_nil ?_
            intro _ hw'
            obtain ⟨nq, hw''⟩ := hw'
            subst hw''
            have HO4 := Lib.hid (OwnR.drewN HO3.out nq)
            go_wp2_with (at_builtin; refine wpList_append_own_none rfl (.tmp 70) (.tmp 73) 30 rfl W.heap.size 54 i0 2 Try.underlying30 hi _ _ _ rfl HO4.out rfl ?_)
            go_wp2
            go_round
            case rel => exact ⟨i + 1, [(p1, p2)], by omega, by go_num, Lib.hid (by rw [HN.out, HE.out]), by rw [List.length_singleton]; omega, .inr ⟨by simp, HO4.out⟩, below_drewN HB3.out nq⟩
            case measure => simp [intOf]; omega
        · obtain ⟨g, cap, rfl, hgB, hglt, hlc, hcell⟩ := OwnR.at_ pairV_len hown hpos
          obtain ⟨m, hm⟩ : ∃ m, out.length = m := ⟨_, rfl⟩
          have hm1 : 1 ≤ m := by omega
          have hmi : m ≤ i := by omega
          have hmc : m ≤ cap := by omega
          have HCELL := Lib.hid hcell
          have HM := Lib.hid hm
          rw [hm]
          clear hcell hm hown hpos hlc hol
          go_wp2_with fail
          refine (NM.out _).mono ?_
          rintro e w ⟨rfl, rfl⟩
          go_wp2
          go_loopw [5] (fun av w2 => ∃ k : Nat, k ≤ m ∧ av = .int .i64 k ∧ Hid (∀ j, j < k → ∃ q, out[j]? = some q ∧ txtC q.1 p1 < 0) ∧ ∃ q, w2 = wr.drewN q) (fun av _ => m - (intOf av).toNat)
          case atStart => exact ⟨0, Nat.zero_le _, rfl, Lib.hid (fun j hj => by omega), 0, rfl⟩
          case round =>
            obtain ⟨k, hkm, rfl, HK, q, rfl⟩ := hrel
            by_cases hklt : k < m
            · have hkI : (k : Int) < (m : Int) := by omega
              have hq0 : out[k]? = some (out.getD k pnil) := by
                have := HM.out
                rw [List.getD_eq_getElem?_getD, List.getElem?_eq_getElem (by omega)]
                rfl
              have x0 := HCELL.out k 0 _ hq0 (by decide)
              rw [Nat.add_zero] at x0
              obtain ⟨⟨q1, q2⟩, hq⟩ : ∃ x, out.getD k pnil = x := ⟨_, rfl⟩
              rw [hq] at x0 hq0
              replace x0 : wr.cell? ⟨g, k * 2, none⟩ = some (.string q1) := x0
              have hbl := less_txtC q1 p1
              by_cases hless : txtC q1 p1 < 0
              · rw [decide_eq_true hless] at hbl
                have HK2 := Lib.hid (show ∀ j, j < k + 1 → ∃ q, out[j]? = some q ∧ txtC q.1 p1 < 0 from fun j hj => by
                  rcases Nat.lt_or_ge j k with h | h
                  · exact HK.out j h
                  · obtain rfl : j = k := by omega
                    exact ⟨_, hq0, hless⟩)
                clear hless hq hq0
                go_wp2
                refine wp_region_quiet_lit (by kernel_rfl) (by kernel_rfl) ?_
                repeat (generalize hst : ({ tmps := _, defers := _ } : Act) = st; refine wpQuiet_step (fun K hK => ?_); subst hst; go_simp; refine hK _ ?_; clear hK K)
                refine wpQuiet_nil ?_
                intro _ hw'
                obtain ⟨nq, hw''⟩ := hw'
                subst hw''
                go_wp2
                go_round
                case rel => exact ⟨k + 1, by omega, by go_num, HK2, _, rfl⟩
                case measure => simp [intOf]; omega
              · rw [decide_eq_false hless] at hbl
                have hah := ahead_is (p1, p2) out k HK.out (fun q hq2 => by rw [hq0] at hq2; injection hq2 with hq2; rw [← hq2]; exact hless)
                by_cases heq : q1 = p1
                · have HINS := Lib.hid (show insR out (p1, p2) = out.take k ++ [(p1, p2)] ++ out.drop (k + 1) from by
                    unfold insR sameAt
                    rw [hah, hq, decide_eq_true (show k < out.length by have := HM.out; omega), decide_eq_true (show ((q1, q2) : PairB).1 = ((p1, p2) : PairB).1 from heq)]
                    rfl)
                  have t1 : (q1.toList == p1.toList) = true := text_same heq
                  clear hless hq hq0 hah heq
                  go_wp2
                  refine wp_region_quiet_lit (by kernel_rfl) (by kernel_rfl) ?_
                  repeat (generalize hst : ({ tmps := _, defers := _ } : Act) = st; refine wpQuiet_step (fun K hK => ?_); subst hst; go_simp; refine hK _ ?_; clear hK K)
                  refine wpQuiet_nil ?_
                  intro _ hw'
                  obtain ⟨nq, hw''⟩ := hw'
                  subst hw''
                  obtain ⟨w1, hw1⟩ : ∃ w, (wr.drewN q).drewN nq = w := ⟨_, rfl⟩
                  have b1' : Below wr.heap.size wr w1 := by rw [← hw1]; exact below_drewN (below_drewN (Below.refl _ _) _) _
                  have hs1 := b1'.size
                  have hsrc1 : ∀ (t : Nat) (u : Value), (rowV pairV (out.take k))[t]? = some u → w1.cell? ((⟨g, 0, none⟩ : Addr).add t) = some u := row_upto (fun j i a ha hi => (b1'.cell (p := ⟨g, j * 2 + i, none⟩) hglt).trans (HCELL.out j i a ha hi)) k
                  have hnl : (rowV pairV (out.take k)).length = k * 2 := by rw [rowV_len pairV_len, List.length_take]; have := HM.out; omega
                  have HSRC := Lib.hid hsrc1
                  have HNL := Lib.hid hnl
                  rw [hw1]
                  clear hw1 hsrc1 hnl
                  go_wp2_with (at_builtin; refine wpList_append_own _ rfl (.tmp 39) (.tmp 42) 30 rfl wr.heap.size 54 i0 (.agg #[.string ⟨#[]⟩, .string ⟨#[]⟩]) 2 32 Try.underlying30 hi hz0 hz1 hz2 rfl (by decide) _ 0 [] rfl (World.ownsRow_nil _ _ _ _) ⟨g, 0, none⟩ k cap (rowV pairV (out.take k)) rfl HNL.out HSRC.out (rowV_one pairV_one _) (by unfold maxLen; omega) (by omega) (by omega) ?_)
                  intro v1 w2 hown1 hgrow _
                  have b2 := b1'.grown hgrow hs1 (fun r hr => by cases hr)
                  have own2 : OwnQ w2 wr.heap.size v1 (out.take k) := by
                    have e : (out.take k).length = 0 + k := by rw [List.length_take]; have := HM.out; omega
                    unfold OwnQ OwnR
                    rw [e]
                    simpa using hown1
                  have hs2 := b2.size
                  have hk2 : (out.take k).length ≤ 1000 := by rw [List.length_take]; omega
                  obtain ⟨fr, hfr⟩ : ∃ x, out.take k = x := ⟨_, rfl⟩
                  rw [hfr] at own2 hk2
                  have HINS2 := Lib.hid (HINS.out.trans (by rw [hfr]))
                  clear hfr
                  have d1 := (b2.cell (p := ⟨b1, o1 + i * 2, none⟩) hlt1).trans c1
                  have d2 := (b2.cell (p := ⟨b1, o1 + i * 2 + 1, none⟩) hlt1).trans c2
                  clear hown1 hgrow
                  go_wp2_with (at_builtin; refine wpList_append_own _ rfl (.tmp 44) (.tmp 49) 30 rfl wr.heap.size 54 i0 (.agg #[.string ⟨#[]⟩, .string ⟨#[]⟩]) 2 32 Try.underlying30 hi hz0 hz1 hz2 rfl (by decide) _ _ _ rfl (OwnR.alloc own2 _) ⟨w2.heap.size, 0, none⟩ 1 1 (pairV (p1, p2)) rfl rfl (new_cells_at _ _ _ _ (by simp)) (pairV_one _) (by unfold maxLen; omega) (by omega) (by simp; omega) ?_)
                  intro v2 w3 hown2 hgrow _
                  have b3 := (b2.alloc hs2 _).grown hgrow (by simp; omega) (fun r hr => (World.ownsRow.lt own2 r hr).1)
                  have own3 : OwnQ w3 wr.heap.size v2 (fr ++ [(p1, p2)]) := OwnR.snoc (a := ((p1, p2) : PairB)) hown2
                  have hk3 : (fr ++ [(p1, p2)]).length ≤ 1001 := by rw [List.length_append, List.length_singleton]; omega
                  obtain ⟨mid, hmid⟩ : ∃ x, fr ++ [(p1, p2)] = x := ⟨_, rfl⟩
                  rw [hmid] at own3 hk3
                  have HINS3 := Lib.hid (HINS2.out.trans (by rw [hmid]))
                  clear hmid HINS2
                  have hs3 := b3.size
                  clear hown2 hgrow own2 d1 d2 b1' b2
                  have d1 := (b3.cell (p := ⟨b1, o1 + i * 2, none⟩) hlt1).trans c1
                  have x1 := (b3.cell (p := ⟨g, k * 2, none⟩) hglt).trans x0
                  have HO3 := Lib.hid own3
                  have Hb3 := Lib.hid b3
                  clear own3 b3
                  go_wp2
                  refine wp_region_quiet_lit (by kernel_rfl) (by kernel_rfl) ?_
                  repeat (generalize hst : ({ tmps := _, defers := _ } : Act) = st; refine wpQuiet_step (fun K hK => ?_); subst hst; go_simp; refine hK _ ?_; clear hK K)
                  refine wpQuiet_nil ?_
                  intro _ hw'
                  obtain ⟨nq, hw''⟩ := hw'
                  subst hw''
                  obtain ⟨w4, hw4⟩ : ∃ w, w3.drewN nq = w := ⟨_, rfl⟩
                  have b4 : Below wr.heap.size wr w4 := by rw [← hw4]; exact below_drewN Hb3.out _
                  have own4 : OwnQ w4 wr.heap.size v2 mid := by rw [← hw4]; exact OwnR.drewN HO3.out _
                  have hs4 := b4.size
                  have hsrc4 : ∀ (t : Nat) (u : Value), (rowV pairV (out.drop (k + 1)))[t]? = some u → w4.cell? ((⟨g, (k + 1) * 2, none⟩ : Addr).add t) = some u := row_from (fun j i a ha hi => (b4.cell (p := ⟨g, j * 2 + i, none⟩) hglt).trans (HCELL.out j i a ha hi)) (k + 1)
                  have hnl4 : (rowV pairV (out.drop (k + 1))).length = (m - (k + 1)) * 2 := by rw [rowV_len pairV_len, List.length_drop, HM.out]
                  have HSRC4 := Lib.hid hsrc4
                  have HNL4 := Lib.hid hnl4
                  have HW4 := Lib.hid hw4
                  clear hsrc4 hnl4 hw4
                  try rw [HW4.out]
                  by_cases hck : cap = k + 1
                  · subst hck
                    obtain rfl : m = k + 1 := by omega
                    go_wp2_with (at_builtin; refine wpList_append_own _ rfl (.tmp 70) (.tmp 73) 30 rfl wr.heap.size 54 i0 (.agg #[.string ⟨#[]⟩, .string ⟨#[]⟩]) 2 32 Try.underlying30 hi hz0 hz1 hz2 rfl (by decide) _ _ _ rfl own4 ⟨g, 0, none⟩ 0 0 (rowV pairV (out.drop (k + 1))) rfl (by rw [HNL4.out]; omega) (fun t u hu => by have h := HNL4.out; rw [List.getElem?_eq_none (by rw [h]; omega)] at hu; cases hu) (rowV_one pairV_one _) (by unfold maxLen; omega) (by omega) (by omega) ?_)
                    intro v3 w5 hown5 hgrow _
                    have b5 := b4.grown hgrow hs4 (fun r hr => (World.ownsRow.lt own4 r hr).1)
                    have own5 : OwnQ w5 W.heap.size v3 (mid ++ out.drop (k + 1)) := OwnR.mono (OwnR.snocs (by rw [List.length_drop, HM.out, Nat.sub_self]; exact hown5)) hsz
                    have HO5 := Lib.hid own5
                    have HB5 := Lib.hid (hop hb (Nat.le_refl _) b5)
                    clear hown5 hgrow own5 b5 own4 b4
                    go_wp2
                    go_round
                    case rel => exact ⟨i + 1, _, by omega, by go_num, Lib.hid (by rw [HN.out, HINS3.out]), by rw [← HINS3.out]; have := HM.out; omega, .inr ⟨by rw [← HINS3.out]; omega, HO5.out⟩, HB5.out⟩
                    case measure => simp [intOf]; omega
                  · have hcn : ¬ k + 1 = cap := fun h => hck h.symm
                    go_wp2_with (at_builtin; refine wpList_append_own _ rfl (.tmp 70) (.tmp 73) 30 rfl wr.heap.size 54 i0 (.agg #[.string ⟨#[]⟩, .string ⟨#[]⟩]) 2 32 Try.underlying30 hi hz0 hz1 hz2 rfl (by decide) _ _ _ rfl own4 ⟨g, (k + 1) * 2, none⟩ (m - (k + 1)) (cap - (k + 1)) (rowV pairV (out.drop (k + 1))) rfl HNL4.out HSRC4.out (rowV_one pairV_one _) (by unfold maxLen; omega) (by omega) (by omega) ?_)
                    intro v3 w5 hown5 hgrow _
                    have b5 := b4.grown hgrow hs4 (fun r hr => (World.ownsRow.lt own4 r hr).1)
                    have own5 : OwnQ w5 W.heap.size v3 (mid ++ out.drop (k + 1)) := OwnR.mono (OwnR.snocs (by rw [List.length_drop, HM.out]; exact hown5)) hsz
                    have HO5 := Lib.hid own5
                    have HB5 := Lib.hid (hop hb (Nat.le_refl _) b5)
                    clear hown5 hgrow own5 b5 own4 b4
                    go_wp2
                    go_round
                    case rel => exact ⟨i + 1, _, by omega, by go_num, Lib.hid (by rw [HN.out, HINS3.out]), by rw [← HINS3.out]; have := HM.out; omega, .inr ⟨by rw [← HINS3.out]; omega, HO5.out⟩, HB5.out⟩
                    case measure => simp [intOf]; omega
                · have HINS := Lib.hid (show insR out (p1, p2) = out.take k ++ [(p1, p2)] ++ out.drop k from by
                    unfold insR sameAt
                    rw [hah, hq, decide_eq_false (show ¬ ((q1, q2) : PairB).1 = ((p1, p2) : PairB).1 from heq), Bool.and_false]
                    rfl)
                  have t1 : (q1.toList == p1.toList) = false := text_other heq
                  clear hless hq hq0 hah heq
                  go_wp2
                  refine wp_region_quiet_lit (by kernel_rfl) (by kernel_rfl) ?_
                  repeat (generalize hst : ({ tmps := _, defers := _ } : Act) = st; refine wpQuiet_step (fun K hK => ?_); subst hst; go_simp; refine hK _ ?_; clear hK K)
                  refine wpQuiet_nil ?_
                  intro _ hw'
                  obtain ⟨nq, hw''⟩ := hw'
                  subst hw''
                  obtain ⟨w1, hw1⟩ : ∃ w, (wr.drewN q).drewN nq = w := ⟨_, rfl⟩
                  have b1' : Below wr.heap.size wr w1 := by rw [← hw1]; exact below_drewN (below_drewN (Below.refl _ _) _) _
                  have hs1 := b1'.size
                  have hsrc1 : ∀ (t : Nat) (u : Value), (rowV pairV (out.take k))[t]? = some u → w1.cell? ((⟨g, 0, none⟩ : Addr).add t) = some u := row_upto (fun j i a ha hi => (b1'.cell (p := ⟨g, j * 2 + i, none⟩) hglt).trans (HCELL.out j i a ha hi)) k
                  have hnl : (rowV pairV (out.take k)).length = k * 2 := by rw [rowV_len pairV_len, List.length_take]; have := HM.out; omega
                  have HSRC := Lib.hid hsrc1
                  have HNL := Lib.hid hnl
                  rw [hw1]
                  clear hw1 hsrc1 hnl
                  go_wp2_with (at_builtin; refine wpList_append_own _ rfl (.tmp 39) (.tmp 42) 30 rfl wr.heap.size 54 i0 (.agg #[.string ⟨#[]⟩, .string ⟨#[]⟩]) 2 32 Try.underlying30 hi hz0 hz1 hz2 rfl (by decide) _ 0 [] rfl (World.ownsRow_nil _ _ _ _) ⟨g, 0, none⟩ k cap (rowV pairV (out.take k)) rfl HNL.out HSRC.out (rowV_one pairV_one _) (by unfold maxLen; omega) (by omega) (by omega) ?_)
                  intro v1 w2 hown1 hgrow _
                  have b2 := b1'.grown hgrow hs1 (fun r hr => by cases hr)
                  have own2 : OwnQ w2 wr.heap.size v1 (out.take k) := by
                    have e : (out.take k).length = 0 + k := by rw [List.length_take]; have := HM.out; omega
                    unfold OwnQ OwnR
                    rw [e]
                    simpa using hown1
                  have hs2 := b2.size
                  have hk2 : (out.take k).length ≤ 1000 := by rw [List.length_take]; omega
                  obtain ⟨fr, hfr⟩ : ∃ x, out.take k = x := ⟨_, rfl⟩
                  rw [hfr] at own2 hk2
                  have HINS2 := Lib.hid (HINS.out.trans (by rw [hfr]))
                  clear hfr
                  have d1 := (b2.cell (p := ⟨b1, o1 + i * 2, none⟩) hlt1).trans c1
                  have d2 := (b2.cell (p := ⟨b1, o1 + i * 2 + 1, none⟩) hlt1).trans c2
                  clear hown1 hgrow
                  go_wp2_with (at_builtin; refine wpList_append_own _ rfl (.tmp 44) (.tmp 49) 30 rfl wr.heap.size 54 i0 (.agg #[.string ⟨#[]⟩, .string ⟨#[]⟩]) 2 32 Try.underlying30 hi hz0 hz1 hz2 rfl (by decide) _ _ _ rfl (OwnR.alloc own2 _) ⟨w2.heap.size, 0, none⟩ 1 1 (pairV (p1, p2)) rfl rfl (new_cells_at _ _ _ _ (by simp)) (pairV_one _) (by unfold maxLen; omega) (by omega) (by simp; omega) ?_)
                  intro v2 w3 hown2 hgrow _
                  have b3 := (b2.alloc hs2 _).grown hgrow (by simp; omega) (fun r hr => (World.ownsRow.lt own2 r hr).1)
                  have own3 : OwnQ w3 wr.heap.size v2 (fr ++ [(p1, p2)]) := OwnR.snoc (a := ((p1, p2) : PairB)) hown2
                  have hk3 : (fr ++ [(p1, p2)]).length ≤ 1001 := by rw [List.length_append, List.length_singleton]; omega
                  obtain ⟨mid, hmid⟩ : ∃ x, fr ++ [(p1, p2)] = x := ⟨_, rfl⟩
                  rw [hmid] at own3 hk3
                  have HINS3 := Lib.hid (HINS2.out.trans (by rw [hmid]))
                  clear hmid HINS2
                  have hs3 := b3.size
                  clear hown2 hgrow own2 d1 d2 b1' b2
                  have d1 := (b3.cell (p := ⟨b1, o1 + i * 2, none⟩) hlt1).trans c1
                  have x1 := (b3.cell (p := ⟨g, k * 2, none⟩) hglt).trans x0
                  have HO3 := Lib.hid own3
                  have Hb3 := Lib.hid b3
                  clear own3 b3
                  go_wp2
                  refine wp_region_quiet_lit (by kernel_rfl) (by kernel_rfl) ?_
                  repeat (generalize hst : ({ tmps := _, defers := _ } : Act) = st; refine wpQuiet_step (fun K hK => ?_); subst hst; go_simp; refine hK _ ?_; clear hK K)
                  refine wpQuiet_nil ?_
                  intro _ hw'
                  obtain ⟨nq, hw''⟩ := hw'
                  subst hw''
                  obtain ⟨w4, hw4⟩ : ∃ w, w3.drewN nq = w := ⟨_, rfl⟩
                  have b4 : Below wr.heap.size wr w4 := by rw [← hw4]; exact below_drewN Hb3.out _
                  have own4 : OwnQ w4 wr.heap.size v2 mid := by rw [← hw4]; exact OwnR.drewN HO3.out _
                  have hs4 := b4.size
                  have hsrc4 : ∀ (t : Nat) (u : Value), (rowV pairV (out.drop (k)))[t]? = some u → w4.cell? ((⟨g, (k) * 2, none⟩ : Addr).add t) = some u := row_from (fun j i a ha hi => (b4.cell (p := ⟨g, j * 2 + i, none⟩) hglt).trans (HCELL.out j i a ha hi)) (k)
                  have hnl4 : (rowV pairV (out.drop (k))).length = (m - (k)) * 2 := by rw [rowV_len pairV_len, List.length_drop, HM.out]
                  have HSRC4 := Lib.hid hsrc4
                  have HNL4 := Lib.hid hnl4
                  have HW4 := Lib.hid hw4
                  clear hsrc4 hnl4 hw4
                  try rw [HW4.out]
                  have hck : ¬ cap = k := by omega
                  have hcn : ¬ k = cap := by omega
                  go_wp2_with (at_builtin; refine wpList_append_own _ rfl (.tmp 70) (.tmp 73) 30 rfl wr.heap.size 54 i0 (.agg #[.string ⟨#[]⟩, .string ⟨#[]⟩]) 2 32 Try.underlying30 hi hz0 hz1 hz2 rfl (by decide) _ _ _ rfl own4 ⟨g, (k) * 2, none⟩ (m - (k)) (cap - (k)) (rowV pairV (out.drop (k))) rfl HNL4.out HSRC4.out (rowV_one pairV_one _) (by unfold maxLen; omega) (by omega) (by omega) ?_)
                  intro v3 w5 hown5 hgrow _
                  have b5 := b4.grown hgrow hs4 (fun r hr => (World.ownsRow.lt own4 r hr).1)
                  have own5 : OwnQ w5 W.heap.size v3 (mid ++ out.drop (k)) := OwnR.mono (OwnR.snocs (by rw [List.length_drop, HM.out]; exact hown5)) hsz
                  have HO5 := Lib.hid own5
                  have HB5 := Lib.hid (hop hb (Nat.le_refl _) b5)
                  clear hown5 hgrow own5 b5 own4 b4
                  go_wp2
                  go_round
                  case rel => exact ⟨i + 1, _, by omega, by go_num, Lib.hid (by rw [HN.out, HINS3.out]), by rw [← HINS3.out]; have := HM.out; omega, .inr ⟨by rw [← HINS3.out]; omega, HO5.out⟩, HB5.out⟩
                  case measure => simp [intOf]; omega
            · obtain rfl : k = m := by omega
              have hah := ahead_is (p1, p2) out k HK.out (fun q hq2 => by rw [List.getElem?_eq_none (by rw [HM.out]; exact Nat.le_refl _)] at hq2; cases hq2)
              have HINS := Lib.hid (show insR out (p1, p2) = out.take k ++ [(p1, p2)] ++ out.drop k from by
                unfold insR sameAt
                rw [hah, decide_eq_false (show ¬ k < out.length by rw [HM.out]; omega), Bool.false_and]
                rfl)
              clear hah
              go_wp2
              refine wp_region_quiet_lit (by kernel_rfl) (by kernel_rfl) ?_
              repeat (generalize hst : ({ tmps := _, defers := _ } : Act) = st; refine wpQuiet_step (fun K hK => ?_); subst hst; go_simp; refine hK _ ?_; clear hK K)
              refine wpQuiet_nil ?_
              intro _ hw'
              obtain ⟨nq, hw''⟩ := hw'
              subst hw''
              obtain ⟨w1, hw1⟩ : ∃ w, (wr.drewN q).drewN nq = w := ⟨_, rfl⟩
              have b1' : Below wr.heap.size wr w1 := by rw [← hw1]; exact below_drewN (below_drewN (Below.refl _ _) _) _
              have hs1 := b1'.size
              have hsrc1 : ∀ (t : Nat) (u : Value), (rowV pairV (out.take k))[t]? = some u → w1.cell? ((⟨g, 0, none⟩ : Addr).add t) = some u := row_upto (fun j i a ha hi => (b1'.cell (p := ⟨g, j * 2 + i, none⟩) hglt).trans (HCELL.out j i a ha hi)) k
              have hnl : (rowV pairV (out.take k)).length = k * 2 := by rw [rowV_len pairV_len, List.length_take]; have := HM.out; omega
              have HSRC := Lib.hid hsrc1
              have HNL := Lib.hid hnl
              rw [hw1]
              clear hw1 hsrc1 hnl
              go_wp2_with (at_builtin; refine wpList_append_own _ rfl (.tmp 39) (.tmp 42) 30 rfl wr.heap.size 54 i0 (.agg #[.string ⟨#[]⟩, .string ⟨#[]⟩]) 2 32 Try.underlying30 hi hz0 hz1 hz2 rfl (by decide) _ 0 [] rfl (World.ownsRow_nil _ _ _ _) ⟨g, 0, none⟩ k cap (rowV pairV (out.take k)) rfl HNL.out HSRC.out (rowV_one pairV_one _) (by unfold maxLen; omega) (by omega) (by omega) ?_)
              intro v1 w2 hown1 hgrow _
              have b2 := b1'.grown hgrow hs1 (fun r hr => by cases hr)
              have own2 : OwnQ w2 wr.heap.size v1 (out.take k) := by
                have e : (out.take k).length = 0 + k := by rw [List.length_take]; have := HM.out; omega
                unfold OwnQ OwnR
                rw [e]
                simpa using hown1
              have hs2 := b2.size
              have hk2 : (out.take k).length ≤ 1000 := by rw [List.length_take]; omega
              obtain ⟨fr, hfr⟩ : ∃ x, out.take k = x := ⟨_, rfl⟩
              rw [hfr] at own2 hk2
              have HINS2 := Lib.hid (HINS.out.trans (by rw [hfr]))
              clear hfr
              have d1 := (b2.cell (p := ⟨b1, o1 + i * 2, none⟩) hlt1).trans c1
              have d2 := (b2.cell (p := ⟨b1, o1 + i * 2 + 1, none⟩) hlt1).trans c2
              clear hown1 hgrow
              go_wp2_with (at_builtin; refine wpList_append_own _ rfl (.tmp 44) (.tmp 49) 30 rfl wr.heap.size 54 i0 (.agg #[.string ⟨#[]⟩, .string ⟨#[]⟩]) 2 32 Try.underlying30 hi hz0 hz1 hz2 rfl (by decide) _ _ _ rfl (OwnR.alloc own2 _) ⟨w2.heap.size, 0, none⟩ 1 1 (pairV (p1, p2)) rfl rfl (new_cells_at _ _ _ _ (by simp)) (pairV_one _) (by unfold maxLen; omega) (by omega) (by simp; omega) ?_)
              intro v2 w3 hown2 hgrow _
              have b3 := (b2.alloc hs2 _).grown hgrow (by simp; omega) (fun r hr => (World.ownsRow.lt own2 r hr).1)
              have own3 : OwnQ w3 wr.heap.size v2 (fr ++ [(p1, p2)]) := OwnR.snoc (a := ((p1, p2) : PairB)) hown2
              have hk3 : (fr ++ [(p1, p2)]).length ≤ 1001 := by rw [List.length_append, List.length_singleton]; omega
              obtain ⟨mid, hmid⟩ : ∃ x, fr ++ [(p1, p2)] = x := ⟨_, rfl⟩
              rw [hmid] at own3 hk3
              have HINS3 := Lib.hid (HINS2.out.trans (by rw [hmid]))
              clear hmid HINS2
              have hs3 := b3.size
              clear hown2 hgrow own2 d1 d2 b1' b2
              have d1 := (b3.cell (p := ⟨b1, o1 + i * 2, none⟩) hlt1).trans c1
              have HO3 := Lib.hid own3
              have Hb3 := Lib.hid b3
              clear own3 b3
              go_wp2
              refine wp_region_quiet_lit (by kernel_rfl) (by kernel_rfl) ?_
              repeat (generalize hst : ({ tmps := _, defers := _ } : Act) = st; refine wpQuiet_step (fun K hK => ?_); subst hst; go_simp; refine hK _ ?_; clear hK K)
              refine wpQuiet_nil ?_
              intro _ hw'
              obtain ⟨nq, hw''⟩ := hw'
              subst hw''
              obtain ⟨w4, hw4⟩ : ∃ w, w3.drewN nq = w := ⟨_, rfl⟩
              have b4 : Below wr.heap.size wr w4 := by rw [← hw4]; exact below_drewN Hb3.out _
              have own4 : OwnQ w4 wr.heap.size v2 mid := by rw [← hw4]; exact OwnR.drewN HO3.out _
              have hs4 := b4.size
              have hsrc4 : ∀ (t : Nat) (u : Value), (rowV pairV (out.drop (k)))[t]? = some u → w4.cell? ((⟨g, (k) * 2, none⟩ : Addr).add t) = some u := row_from (fun j i a ha hi => (b4.cell (p := ⟨g, j * 2 + i, none⟩) hglt).trans (HCELL.out j i a ha hi)) (k)
              have hnl4 : (rowV pairV (out.drop (k))).length = (k - k) * 2 := by rw [rowV_len pairV_len, List.length_drop, HM.out]
              have HSRC4 := Lib.hid hsrc4
              have HNL4 := Lib.hid hnl4
              have HW4 := Lib.hid hw4
              clear hsrc4 hnl4 hw4
              try rw [HW4.out]
              by_cases hck : cap = k
              · subst hck
                go_wp2_with (at_builtin; refine wpList_append_own _ rfl (.tmp 70) (.tmp 73) 30 rfl wr.heap.size 54 i0 (.agg #[.string ⟨#[]⟩, .string ⟨#[]⟩]) 2 32 Try.underlying30 hi hz0 hz1 hz2 rfl (by decide) _ _ _ rfl own4 ⟨g, 0, none⟩ 0 0 (rowV pairV (out.drop (cap))) rfl (by rw [HNL4.out]; omega) (fun t u hu => by have h := HNL4.out; rw [List.getElem?_eq_none (by rw [h]; omega)] at hu; cases hu) (rowV_one pairV_one _) (by unfold maxLen; omega) (by omega) (by omega) ?_)
                intro v3 w5 hown5 hgrow _
                have b5 := b4.grown hgrow hs4 (fun r hr => (World.ownsRow.lt own4 r hr).1)
                have own5 : OwnQ w5 W.heap.size v3 (mid ++ out.drop (cap)) := OwnR.mono (OwnR.snocs (by rw [List.length_drop, HM.out, Nat.sub_self]; exact hown5)) hsz
                have HO5 := Lib.hid own5
                have HB5 := Lib.hid (hop hb (Nat.le_refl _) b5)
                clear hown5 hgrow own5 b5 own4 b4
                go_wp2
                go_round
                case rel => exact ⟨i + 1, _, by omega, by go_num, Lib.hid (by rw [HN.out, HINS3.out]), by rw [← HINS3.out]; have := HM.out; omega, .inr ⟨by rw [← HINS3.out]; omega, HO5.out⟩, HB5.out⟩
                case measure => simp [intOf]; omega
              · have hcn : ¬ k = cap := fun h => hck h.symm
                go_wp2_with (at_builtin; refine wpList_append_own _ rfl (.tmp 70) (.tmp 73) 30 rfl wr.heap.size 54 i0 (.agg #[.string ⟨#[]⟩, .string ⟨#[]⟩]) 2 32 Try.underlying30 hi hz0 hz1 hz2 rfl (by decide) _ _ _ rfl own4 ⟨g, k * 2, none⟩ 0 (cap - k) (rowV pairV (out.drop (k))) rfl (by rw [HNL4.out]; omega) HSRC4.out (rowV_one pairV_one _) (by unfold maxLen; omega) (by omega) (by omega) ?_)
                intro v3 w5 hown5 hgrow _
                have b5 := b4.grown hgrow hs4 (fun r hr => (World.ownsRow.lt own4 r hr).1)
                have own5 : OwnQ w5 W.heap.size v3 (mid ++ out.drop (k)) := OwnR.mono (OwnR.snocs (by rw [List.length_drop, HM.out, Nat.sub_self]; exact hown5)) hsz
                have HO5 := Lib.hid own5
                have HB5 := Lib.hid (hop hb (Nat.le_refl _) b5)
                clear hown5 hgrow own5 b5 own4 b4
                go_wp2
                go_round
                case rel => exact ⟨i + 1, _, by omega, by go_num, Lib.hid (by rw [HN.out, HINS3.out]), by rw [← HINS3.out]; have := HM.out; omega, .inr ⟨by rw [← HINS3.out]; omega, HO5.out⟩, HB5.out⟩
                case measure => simp [intOf]; omega
    · obtain rfl : i = n := by omega
      have E := Lib.hid (show out = refOfL ps from by rw [HT.out, ← HL.out]; rfl)
      rcases hcase with ⟨rfl, rfl⟩ | ⟨hpos, hown⟩
      · go_wp2
        go_ret
        exact ⟨_, rfl, by rw [← E.out]; exact OwnR.nil _ _ _, hb⟩
      · go_wp2
        go_ret
        exact ⟨_, rfl, by rw [← E.out]; exact hown, hb⟩
end Go.Proofs.Ytimmfmgnjpcdoaa
