/- The walk of the law NumMany: numbers that are added or multiplied one by one come to what they do together. -/
import Derived.Test.YtnokpeobkaofoaaDoorNumLawsLaw
import Derived.Test.YtnokpeobkaofoaaDoorOwnInts
namespace Go.Proofs.YtnokpeobkaofoaaDoor
open Go.RowKit
set_option linter.unusedVariables false

theorem infoI64 : (Tryd.prog.info? 2).map (fun i => (i.zero, i.size, i.bytes)) = some (some (.int .i64 0), 1, 8) := by kernel_rfl

def tame (small : Bool) (z : Int) : Int := if small then z.tmod 50 else z
theorem tame_wf (small : Bool) (z : Int) (h : (Lit.int .i64 z).wf = true) : (Lit.int .i64 (tame small z)).wf = true := by
  unfold tame
  cases small with
  | false => exact h
  | true =>
    have h1 : (z.tmod 50).natAbs < 50 := by rw [Int.natAbs_tmod]; exact Nat.mod_lt _ (by decide)
    simp [Lit.wf, IntKind.min, IntKind.max, IntKind.signed, IntKind.bits]
    omega

/-- one number more: what the call answers that adds it -/
theorem add_next (o : Option Int) (z : Int) (ho : ∀ s, o = some s → -9223372036854775808 ≤ s ∧ s ≤ 9223372036854775807) (hz : (Lit.int .i64 z).wf = true) (W : World) (t : TypeId) (h : o.isSome = true) :
    Calls Tryd.prog 10 #[.slice (some ⟨W.heap.size, 0, none⟩) 2 2] (W.alloc (.cells #[.int .i64 (o.getD 0), .int .i64 z] t)) fun e w' => e = .returned (.tuple #[.int .i64 ((stepR (· + ·) o z).getD 0), .bool (stepR (· + ·) o z).isSome]) ∧ Below (W.alloc (.cells #[.int .i64 (o.getD 0), .int .i64 z] t)).heap.size (W.alloc (.cells #[.int .i64 (o.getD 0), .int .i64 z] t)) w' := by
  cases o with
  | none => cases h
  | some s =>
    obtain ⟨s0, s1⟩ := ho s rfl
    have hs : (Lit.int .i64 s).wf = true := by simp [Lit.wf, IntKind.min, IntKind.max, IntKind.signed, IntKind.bits]; omega
    have := adds W t s z hs hz
    have e : sumR [s, z] = stepR (· + ·) (some s) z := by rw [sum_two s z s0 s1]; rfl
    rw [e] at this
    exact this
theorem mul_next (o : Option Int) (z : Int) (ho : ∀ s, o = some s → -9223372036854775808 ≤ s ∧ s ≤ 9223372036854775807) (hz : (Lit.int .i64 z).wf = true) (W : World) (t : TypeId) (h : o.isSome = true) :
    Calls Tryd.prog 12 #[.slice (some ⟨W.heap.size, 0, none⟩) 2 2] (W.alloc (.cells #[.int .i64 (o.getD 0), .int .i64 z] t)) fun e w' => e = .returned (.tuple #[.int .i64 ((stepR (· * ·) o z).getD 0), .bool (stepR (· * ·) o z).isSome]) ∧ Below (W.alloc (.cells #[.int .i64 (o.getD 0), .int .i64 z] t)).heap.size (W.alloc (.cells #[.int .i64 (o.getD 0), .int .i64 z] t)) w' := by
  cases o with
  | none => cases h
  | some s =>
    obtain ⟨s0, s1⟩ := ho s rfl
    have hs : (Lit.int .i64 s).wf = true := by simp [Lit.wf, IntKind.min, IntKind.max, IntKind.signed, IntKind.bits]; omega
    have := muls W t s z hs hz
    have e : mulR [s, z] = stepR (· * ·) (some s) z := by rw [mul_two s z s0 s1]; rfl
    rw [e] at this
    exact this
theorem fold_range (f : Int → Int → Int) (zs : List Int) : ∀ (a : Option Int), (∀ s, a = some s → -9223372036854775808 ≤ s ∧ s ≤ 9223372036854775807) → ∀ s, zs.foldl (stepR f) a = some s → -9223372036854775808 ≤ s ∧ s ≤ 9223372036854775807 := by
  induction zs with
  | nil => intro a h s hs; exact h s hs
  | cons z zs ih =>
    intro a h s hs
    rw [List.foldl_cons] at hs
    refine ih _ ?_ s hs
    intro r hr
    unfold stepR at hr
    cases a with
    | none => cases hr
    | some x =>
      simp only [Option.bind_some] at hr
      split at hr
      · rename_i hx
        injection hr with hr
        subst hr
        exact hx
      · cases hr

set_option maxRecDepth 100000 in
set_option maxHeartbeats 3200000 in
theorem numMany_walk {W : World} (A : Option Addr) (n c : Nat) (zs : List Int) (small : Bool) (h : Ints .i64 W A n zs) (hc : n ≤ c) (hm : c ≤ maxLen) (hl : LibIs W) :
    Calls Tryd.prog 8 #[.slice A n c, .bool small] W fun e w' => e = .returned (.bool true) ∧ Below W.heap.size W w' := by
  obtain ⟨i0, hi, hz0, hz1, hz2⟩ := info_parts infoI64
  unfold maxLen at hm
  have h0 : W.heap.size ≤ W.heap.size := Nat.le_refl _
  have HX := Lib.hid (numExamples_any W hl)
  have HW := Lib.hid h
  have hlen := h.1
  have hwf := Lib.hid (fun k (hk : k < n) => tame_wf small _ (h.2.1 (zs.getD k 0) (by
    rw [List.getD_eq_getElem?_getD, List.getElem?_eq_getElem (by omega)]
    exact List.getElem_mem _)))
  have hsnoc := Lib.hid (fun k (hk : k < n) => (show (zs.take (k + 1)).map (tame small) = (zs.take k).map (tame small) ++ [tame small (zs.getD k 0)] by
    rw [List.take_succ_eq_append_getElem (by omega), List.map_append, List.getD_eq_getElem?_getD, List.getElem?_eq_getElem (by omega)]
    rfl))
  have hlk := Lib.hid (fun k (hk : k ≤ n) => (show ((zs.take k).map (tame small)).length = k by rw [List.length_map, List.length_take]; omega))
  have hall := Lib.hid (fun k => (show ∀ z ∈ (zs.take k).map (tame small), (Lit.int .i64 z).wf = true by
    intro z hz
    obtain ⟨y, hy, rfl⟩ := List.mem_map.1 hz
    exact tame_wf small y (h.2.1 y (List.mem_of_mem_take hy))))
  clear h
  go_enter Tryd.func8, Tryd.ntmps8
  go_wp2_with fail
  refine HX.out.mono ?_
  rintro e w1 ⟨rfl, hb1⟩
  have HI := Lib.hid (HW.out.below hb1)
  go_wp2
  go_loopw [6, 7] (fun v i wr => ∃ (k : Nat), k ≤ n ∧ k ≤ 12 ∧ i = .int .i64 k ∧ OwnI .i64 wr w1.heap.size 2 v ((zs.take k).map (tame small)) ∧ Below w1.heap.size w1 wr) (fun _ i _ => n - (intOf i).toNat)
  case atStart => exact ⟨0, Nat.zero_le _, Nat.zero_le _, rfl, OwnI.nil _ _ _ _, Below.refl _ _⟩
  case round =>
    obtain ⟨k, hk, hk12, rfl, hown, hbel⟩ := hrel
    have hsz := hbel.size
    rename_i u2 _ _
    by_cases hkn : k < n ∧ k < 12
    · obtain ⟨hkn, hk12'⟩ := hkn
      obtain ⟨b, off, rfl, hlt, hcs⟩ := (HI.out.below hbel).2.2 (by omega)
      have c0 := hcs k hkn
      have hsn := hsnoc.out k hkn
      have hlk' := hlk.out k hk
      obtain ⟨z, hz⟩ : ∃ z, zs.getD k 0 = z := ⟨_, rfl⟩
      rw [hz] at c0 hsn
      obtain ⟨ms, hms⟩ : ∃ ms, (zs.take k).map (tame small) = ms := ⟨_, rfl⟩
      rw [hms] at hown hsn hlk'
      obtain ⟨x, hx⟩ : ∃ x, tame small z = x := ⟨_, rfl⟩
      rw [hx] at hsn
      have HSN := Lib.hid hsn
      have q1 : (k : Int) < (n : Int) := by omega
      have q2 : (k : Int) < 12 := by omega
      clear hcs hsn hms hz
      cases small
      all_goals
        first
        | (replace hx : x = z := hx.symm; subst hx)
        | (replace hx : z.tmod 50 = x := hx)
        go_wp2_with (at_builtin; refine wpList_append_own _ rfl (.tmp 38) (.tmp 40) 22 rfl w1.heap.size 2 i0 (.int .i64 0) 1 8 Tryd.underlying22 hi hz0 hz1 hz2 rfl (by decide) _ _ _ rfl (hown.alloc _) ⟨wr.heap.size, 0, none⟩ 1 1 (iV .i64 [x]) rfl rfl (new_cells_at _ _ _ _ (by simp)) (iV_one _ _) (by unfold maxLen; omega) (by omega) (by simp; omega) ?_)
        intro v' w3 hown' hgrow _
        have hbel' := (hbel.alloc hsz _).grown hgrow (by simp; omega) (fun r hr => (World.ownsRow.lt hown r hr).1)
        have hown3 : OwnI .i64 w3 w1.heap.size 2 v' (ms ++ [x]) := OwnI.snoc (m := [x]) (by rw [hlk']; exact hown')
        clear hown' hgrow hbel hown
        go_wp2
        go_round
        case rel => exact ⟨k + 1, by omega, by omega, by go_num, by rw [HSN.out]; exact hown3, hbel'⟩
        case measure => simp [intOf]; omega
    · have hlk' := hlk.out k hk
      have hall' := hall.out k
      have hkm : (¬ (k : Int) < (n : Int)) ∨ ((k : Int) < (n : Int) ∧ ¬ (k : Int) < 12) := by omega
      obtain ⟨ms, hms⟩ : ∃ ms, (zs.take k).map (tame small) = ms := ⟨_, rfl⟩
      rw [hms] at hown hlk' hall'
      obtain ⟨A', cap, rfl, hcap, hints⟩ := hown.ints hall'
      rw [hlk'] at hints ⊢
      have HB := Lib.hid (hbel)
      have S1 := Lib.hid (fun w h => same_below (add_any A' k cap ms (by omega) w h))
      have S2 := Lib.hid (fun w h => same_below (mul_any A' k cap ms (by omega) w h))
      have HI2 := Lib.hid hints
      obtain ⟨s1, hs1⟩ : ∃ x, sumR ms = x := ⟨_, rfl⟩
      obtain ⟨s2, hs2⟩ : ∃ x, mulR ms = x := ⟨_, rfl⟩
      simp only [hs1, hs2] at S1 S2
      have HS1 := Lib.hid hs1
      have HS2 := Lib.hid hs2
      have hall2 := Lib.hid hall'
      obtain ⟨w0, rfl⟩ : ∃ w0, w0 = wr := ⟨_, rfl⟩
      clear hcap hints hs1 hs2 hall' hown hms hkn hbel HW HI hwf hsnoc hlk hall
      have fin : ∀ w : World, Below w0.heap.size w0 w → Below W.heap.size W w := fun w h => hop hb1 h0 (hop HB.out (Nat.le_refl _) h)
      have FIN := Lib.hid fin
      clear fin
      rcases hkm with p1 | ⟨p1, p2⟩
      all_goals
        go_wp2_with fail
        refine (S1.out _ HI2.out).mono ?_
        rintro e w2 ⟨rfl, hb2⟩
        go_wp2_with fail
        refine (S2.out _ (HI2.out.below hb2)).mono ?_
        rintro e w3 ⟨rfl, hb3⟩
        replace hb2 := hop hb2 (Nat.le_refl _) hb3
        clear hb3
        go_wp2
        go_loopw [13, 14, 15, 16, 17] (fun a b x y i wr => ∃ (j : Nat), j ≤ k ∧ i = .int .i64 j ∧ a = .int .i64 (((ms.take j).foldl (stepR (· + ·)) (some 0)).getD 0) ∧ b = .int .i64 (((ms.take j).foldl (stepR (· * ·)) (some 1)).getD 0) ∧ x = .bool ((ms.take j).foldl (stepR (· + ·)) (some 0)).isSome ∧ y = .bool ((ms.take j).foldl (stepR (· * ·)) (some 1)).isSome ∧ Below w0.heap.size w0 wr) (fun _ _ _ _ i _ => k - (intOf i).toNat)
        case atStart => exact ⟨0, Nat.zero_le _, rfl, rfl, rfl, rfl, rfl, hb2⟩
        case round =>
          obtain ⟨j, hj, rfl, rfl, rfl, rfl, rfl, hbz⟩ := hrel
          by_cases hjk : j < k
          · obtain ⟨b, off, rfl, hlt, hcs⟩ := HI2.out.2.2 (by omega)
            have cell := fun w (h : Below w0.heap.size w0 w) => (h.cell (p := ⟨b, off + j, none⟩) hlt).trans (hcs j hjk)
            have hzwf := hall2.out (ms.getD j 0) (by rw [List.getD_eq_getElem?_getD, List.getElem?_eq_getElem (by omega)]; exact List.getElem_mem _)
            have e1 := fold_snoc (· + ·) (some 0) ms j (by omega)
            have e2 := fold_snoc (· * ·) (some 1) ms j (by omega)
            have r1 := fold_range (· + ·) (ms.take j) (some 0) (by intro s hs; cases hs; decide)
            have r2 := fold_range (· * ·) (ms.take j) (some 1) (by intro s hs; cases hs; decide)
            obtain ⟨z, hz⟩ : ∃ z, ms.getD j 0 = z := ⟨_, rfl⟩
            rw [hz] at hzwf e1 e2
            simp only [hz] at cell
            have CELL := Lib.hid cell
            have c0 := cell _ hbz
            obtain ⟨o1, ho1⟩ : ∃ o, (ms.take j).foldl (stepR (· + ·)) (some 0) = o := ⟨_, rfl⟩
            obtain ⟨o2, ho2⟩ : ∃ o, (ms.take j).foldl (stepR (· * ·)) (some 1) = o := ⟨_, rfl⟩
            rw [ho1] at e1 r1 ⊢
            rw [ho2] at e2 r2 ⊢
            have f1 := fun w t => add_next o1 z r1 hzwf w t
            have f2 := fun w t => mul_next o2 z r2 hzwf w t
            have g1 : o1.isSome = false → stepR (· + ·) o1 z = o1 := by intro h; cases o1 with | none => rfl | some s => cases h
            have g2 : o2.isSome = false → stepR (· * ·) o2 z = o2 := by intro h; cases o2 with | none => rfl | some s => cases h
            obtain ⟨t1, ht1⟩ : ∃ o, stepR (· + ·) o1 z = o := ⟨_, rfl⟩
            obtain ⟨t2, ht2⟩ : ∃ o, stepR (· * ·) o2 z = o := ⟨_, rfl⟩
            rw [ht1] at e1
            rw [ht2] at e2
            simp only [ht1] at f1 g1
            simp only [ht2] at f2 g2
            clear ho1 ho2 ht1 ht2 r1 r2 hz hcs hzwf cell
            obtain ⟨a1, ha1⟩ : ∃ x, o1.getD 0 = x := ⟨_, rfl⟩
            obtain ⟨a2, ha2⟩ : ∃ x, o2.getD 0 = x := ⟨_, rfl⟩
            obtain ⟨x1, hx1⟩ : ∃ x, o1.isSome = x := ⟨_, rfl⟩
            obtain ⟨x2, hx2⟩ : ∃ x, o2.isSome = x := ⟨_, rfl⟩
            rw [ha1, hx1, ha2, hx2]
            rw [hx1] at f1 g1
            rw [hx2] at f2 g2
            simp only [ha1] at f1
            simp only [ha2] at f2
            have E1 := Lib.hid e1
            have E2 := Lib.hid e2
            have F1 := Lib.hid f1
            have F2 := Lib.hid f2
            have K1 := Lib.hid ha1
            have K2 := Lib.hid ha2
            have L1 := Lib.hid hx1
            have L2 := Lib.hid hx2
            have G1 := Lib.hid g1
            have G2 := Lib.hid g2
            clear e1 e2 f1 f2 ha1 ha2 hx1 hx2 g1 g2
            cases x1 with
            | true =>
              replace F1 := Lib.hid fun w t => F1.out w t rfl
              cases x2 with
              | true =>
                replace F2 := Lib.hid fun w t => F2.out w t rfl
                go_wp2_with fail
                refine (F1.out _ _).mono ?_
                rintro e w4 ⟨rfl, hx⟩
                replace hbz := hop_new hbz (Nat.le_refl _) hx
                clear hx
                have c1 := CELL.out _ hbz
                go_wp2_with fail
                refine (F2.out _ _).mono ?_
                rintro e w5 ⟨rfl, hx⟩
                replace hbz := hop_new hbz (Nat.le_refl _) hx
                clear hx
                go_wp2
                go_round
                case rel => exact ⟨j + 1, by omega, by go_num, by rw [E1.out], by rw [E2.out], by rw [E1.out], by rw [E2.out], hbz⟩
                case measure => simp [intOf]; omega
              | false =>
                replace G2 := Lib.hid (G2.out rfl)
                go_wp2_with fail
                refine (F1.out _ _).mono ?_
                rintro e w4 ⟨rfl, hx⟩
                replace hbz := hop_new hbz (Nat.le_refl _) hx
                clear hx
                go_wp2
                go_round
                case rel => exact ⟨j + 1, by omega, by go_num, by rw [E1.out], by rw [E2.out, G2.out, K2.out], by rw [E1.out], by rw [E2.out, G2.out, L2.out], hbz⟩
                case measure => simp [intOf]; omega
            | false =>
              replace G1 := Lib.hid (G1.out rfl)
              cases x2 with
              | true =>
                replace F2 := Lib.hid fun w t => F2.out w t rfl
                go_wp2_with fail
                refine (F2.out _ _).mono ?_
                rintro e w4 ⟨rfl, hx⟩
                replace hbz := hop_new hbz (Nat.le_refl _) hx
                clear hx
                go_wp2
                go_round
                case rel => exact ⟨j + 1, by omega, by go_num, by rw [E1.out, G1.out, K1.out], by rw [E2.out], by rw [E1.out, G1.out, L1.out], by rw [E2.out], hbz⟩
                case measure => simp [intOf]; omega
              | false =>
                replace G2 := Lib.hid (G2.out rfl)
                go_wp2
                go_round
                case rel => exact ⟨j + 1, by omega, by go_num, by rw [E1.out, G1.out, K1.out], by rw [E2.out, G2.out, K2.out], by rw [E1.out, G1.out, L1.out], by rw [E2.out, G2.out, L2.out], hbz⟩
                case measure => simp [intOf]; omega
          · obtain rfl : j = k := by omega
            have u1 : (ms.take j).foldl (stepR (· + ·)) (some 0) = s1 := by rw [List.take_of_length_le (by omega)]; exact HS1.out
            have u2 : (ms.take j).foldl (stepR (· * ·)) (some 1) = s2 := by rw [List.take_of_length_le (by omega)]; exact HS2.out
            rw [u1, u2]
            have hfin := FIN.out _ hbz
            obtain ⟨a1, ha1⟩ : ∃ x, s1.getD 0 = x := ⟨_, rfl⟩
            obtain ⟨a2, ha2⟩ : ∃ x, s2.getD 0 = x := ⟨_, rfl⟩
            obtain ⟨x1, hx1⟩ : ∃ x, s1.isSome = x := ⟨_, rfl⟩
            obtain ⟨x2, hx2⟩ : ∃ x, s2.isSome = x := ⟨_, rfl⟩
            rw [ha1, ha2, hx1, hx2]
            clear u1 u2
            go_wp2
            go_ret
            exact ⟨by simp, hfin⟩
end Go.Proofs.YtnokpeobkaofoaaDoor
