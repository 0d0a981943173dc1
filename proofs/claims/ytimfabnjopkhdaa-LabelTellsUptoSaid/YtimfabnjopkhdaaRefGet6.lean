/- The document's Get and With of labels: the walks. -/
import Derived.Test.YtimfabnjopkhdaaRefOf7
import Derived.Test.YtimfabnjopkhdaaLabWith
namespace Go.Proofs.Ytimfabnjopkhdaa
open Go.RowKit
set_option linter.unusedVariables false
set_option linter.unusedSimpArgs false

theorem refGetL_any (A : Option Addr) (n c : Nat) (ps : List PairB) (nm : ByteArray) (hn : n ≤ 9223372036854775806) (W : World) (h1 : Pairs W A n ps) :
    Calls Try.prog 14 #[.slice A n c, .string nm] W fun e w' => e = .returned (.tuple #[.string ((getL ps nm).getD .empty), .bool (getL ps nm).isSome]) ∧ w' = W := by
  obtain ⟨T, hT⟩ : ∃ T, getL ps nm = T := ⟨_, rfl⟩
  rw [hT]
  have HT := Lib.hid (show (findL (ps.drop 0) nm).map (·.2) = T by rw [List.drop_zero]; exact hT)
  have H1 := Lib.hid h1
  clear hT h1
  go_enter Try.func14, Try.ntmps14
  go_wp2
  go_loopw [6] (fun iv wr => ∃ j : Nat, j ≤ n ∧ iv = .int .i64 j ∧ Hid ((findL (ps.drop j) nm).map (·.2) = T) ∧ wr = W) (fun iv _ => n - (intOf iv).toNat)
  case atStart => exact ⟨0, Nat.zero_le _, rfl, HT, rfl⟩
  case round =>
    obtain ⟨j, hjn, rfl, HJ, rfl⟩ := hrel
    have l1 := H1.out.1
    by_cases hj : j < n
    · obtain ⟨b1, o1, rfl, hlt1, hc1⟩ := H1.out.2 (by omega)
      obtain ⟨c1, c2⟩ := hc1 j hj
      have d1 : ps.drop j = ps.getD j pnil :: ps.drop (j + 1) := by
        rw [List.drop_eq_getElem_cons (by omega), List.getD_eq_getElem?_getD, List.getElem?_eq_getElem (by omega)]
        rfl
      obtain ⟨p, hp⟩ : ∃ p, ps.getD j pnil = p := ⟨_, rfl⟩
      rw [hp] at c1 c2 d1
      obtain ⟨p1, p2⟩ := p
      dsimp only at c1 c2
      have hstep : findL (ps.drop j) nm = if p1 = nm then some (p1, p2) else findL (ps.drop (j + 1)) nm := by
        rw [d1]
        unfold findL
        by_cases h : p1 = nm
        · rw [List.find?_cons_of_pos (by simpa using h), if_pos h]
        · rw [List.find?_cons_of_neg (by simpa using h), if_neg h]
      have hjI : (j : Int) < (n : Int) := by omega
      have hj0 := HJ.out
      rw [hstep] at hj0
      clear hc1 hp d1 hstep
      by_cases he : p1 = nm
      · have g := text_same he
        rw [if_pos he] at hj0
        have E := Lib.hid (show T = some p2 from hj0.symm)
        clear he hj0
        go_wp2
        go_ret2
        exact ⟨by rw [E.out]; rfl, rfl⟩
      · have g := text_other he
        rw [if_neg he] at hj0
        have HN := Lib.hid hj0
        clear he hj0
        go_wp2
        go_round
        case rel => exact ⟨j + 1, by omega, by go_num, HN, by first | rfl | trivial⟩
        case measure => simp [intOf]; omega
    · obtain rfl : j = n := by omega
      have E := Lib.hid (show T = none by rw [← HJ.out, show ps.drop j = [] from List.drop_of_length_le (by omega)]; rfl)
      go_wp2
      go_ret2
      exact ⟨by rw [E.out]; rfl, rfl⟩

/-- the cells of a row that stands somewhere -/
theorem Pairs.from_ {w : World} {A : Option Addr} {n : Nat} (c : Nat) {ps : List PairB} (h : Pairs w A n ps) (hA : A = none → n = 0 ∧ c = 0) : (A = none ∧ n = 0 ∧ c = 0) ∨ ∃ ad, A = some ad ∧ ∀ w', Below w.heap.size w w' → ∀ t u, (rowV pairV ps)[t]? = some u → w'.cell? (ad.add t) = some u := by
  rcases (h.src c hA).2 with h1 | ⟨ad, rfl, h2⟩
  · exact .inl h1
  · refine .inr ⟨ad, rfl, fun w' hb => ?_⟩
    rcases ((h.below hb).src c hA).2 with ⟨h1, _⟩ | ⟨ad2, h3, h4⟩
    · cases h1
    · cases h3
      exact h4
set_option maxRecDepth 100000 in
set_option maxHeartbeats 1600000 in
theorem refWithL_any (A B : Option Addr) (n m c d : Nat) (ps qs : List PairB) (hn : n ≤ 400) (hm : m ≤ 400) (W : World) (h1 : Pairs W A n ps) (h2 : Pairs W B m qs) (hA : A = none → n = 0 ∧ c = 0) (hB : B = none → m = 0 ∧ d = 0) :
    Calls Try.prog 19 #[.slice A n c, .slice B m d] W fun e w' => ∃ v, e = .returned v ∧ OwnQ w' W.heap.size v (refOfL (ps ++ qs)) ∧ Below W.heap.size W w' := by
  have h0 : W.heap.size ≤ W.heap.size := Nat.le_refl _
  obtain ⟨i0, hi, hz0, hz1, hz2⟩ := info_parts infoPair6
  have HSA := h1.from_ c hA
  have HSB := h2.from_ d hB
  have l1 := h1.1
  have l2 := h2.1
  have HLA := Lib.hid (show (rowV pairV ps).length = n * 2 by rw [rowV_len pairV_len, l1])
  have HLB := Lib.hid (show (rowV pairV qs).length = m * 2 by rw [rowV_len pairV_len, l2])
  have HN := Lib.hid l1
  have HM := Lib.hid l2
  have HRF := Lib.hid (fun (A2 : Option Addr) (k c2 : Nat) (w : World) (hk : k ≤ 1000) (h : Pairs w A2 k (ps ++ qs)) => refOf_any A2 k c2 (ps ++ qs) hk w h)
  clear h1 h2 hA hB l1 l2
  rcases HSA with ⟨rfl, rfl, rfl⟩ | ⟨ad, rfl, HA0⟩
  · have hp0 : ps = [] := List.eq_nil_of_length_eq_zero HN.out
    rcases HSB with ⟨rfl, rfl, rfl⟩ | ⟨bd, rfl, HB0⟩
    · have hq0 : qs = [] := List.eq_nil_of_length_eq_zero HM.out
      have HOWN := Lib.hid (show OwnQ W W.heap.size (.slice none 0 0) (ps ++ qs) from by rw [hq0, hp0]; exact OwnR.nil _ _ _)
      have HBB := Lib.hid (Below.refl W.heap.size W)
      have hll : (ps ++ qs).length = 0 := by rw [hp0, hq0]; rfl
      have RF := Lib.hid (HRF.out none 0 0 W (by omega) (by rw [hp0, hq0]; exact pairs_none W))
      clear hp0 hq0 hll
      go_enter Try.func19, Try.ntmps19
      go_wp2_with (at_builtin; first | (refine wpList_append_own_none rfl (.const (.slice none 0 0)) (.tmp 5) 26 rfl W.heap.size 38 i0 2 Try.underlying26 hi _ 0 [] rfl (World.ownsRow_nil _ _ _ _) rfl ?_) | (refine wpList_append_own_none rfl (.tmp 6) (.tmp 7) 26 rfl W.heap.size 38 i0 2 Try.underlying26 hi _ _ _ rfl (World.ownsRow_nil _ _ _ _) rfl ?_))
      go_wp2_with fail
      refine RF.out.mono ?_
      rintro e w9 ⟨v9, rfl, hown9, hx⟩
      have hb9 := hop HBB.out h0 hx
      have ho9 := Lib.hid (OwnR.mono hown9 HBB.out.size)
      clear hx hown9
      go_wp2
      go_ret
      exact ⟨_, rfl, ho9.out, hb9⟩
    · have HA2 := Lib.hid (HB0 W (Below.refl _ _))
      have HP0 := Lib.hid hp0
      clear HB0 hp0
      go_enter Try.func19, Try.ntmps19
      go_wp2_with (at_builtin; first | (refine wpList_append_own_none rfl (.const (.slice none 0 0)) (.tmp 5) 26 rfl W.heap.size 38 i0 2 Try.underlying26 hi _ 0 [] rfl (World.ownsRow_nil _ _ _ _) rfl ?_) | (refine wpList_append_own _ rfl (.tmp 6) (.tmp 7) 26 rfl W.heap.size 38 i0 (.agg #[.string ⟨#[]⟩, .string ⟨#[]⟩]) 2 32 Try.underlying26 hi hz0 hz1 hz2 rfl (by decide) _ _ _ rfl (World.ownsRow_nil _ _ _ _) bd m d (rowV pairV qs) rfl HLB.out HA2.out (rowV_one pairV_one _) (by unfold maxLen; omega) (by omega) (by omega) ?_))
      intro v2 w5 hown2 hgrow _
      have HOWN := Lib.hid (show OwnQ w5 W.heap.size v2 (ps ++ qs) from (by rw [HP0.out, List.nil_append]; unfold OwnQ OwnR; rw [HM.out]; simpa using hown2))
      have HBB := Lib.hid ((Below.refl W.heap.size W).grown hgrow h0 (fun r hr => by cases hr))
      clear hown2 hgrow
      obtain ⟨A9, c9, hv9, _, _, hp9⟩ := HOWN.out.pairs
      subst hv9
      have RF := Lib.hid (HRF.out A9 _ c9 _ (by rw [List.length_append, HN.out, HM.out]; omega) hp9)
      have hl9 : (ps ++ qs).length ≤ 800 := by rw [List.length_append, HN.out, HM.out]; omega
      obtain ⟨k9, hk9⟩ : ∃ k, (ps ++ qs).length = k := ⟨_, rfl⟩
      replace RF := RF.out
      rw [hk9] at RF hl9 hp9 ⊢
      replace RF := Lib.hid RF
      clear hk9 hp9 HOWN
      go_wp2_with fail
      refine RF.out.mono ?_
      rintro e w9 ⟨v9, rfl, hown9, hx⟩
      have hb9 := hop HBB.out h0 hx
      have ho9 := Lib.hid (OwnR.mono hown9 HBB.out.size)
      clear hx hown9
      go_wp2
      go_ret
      exact ⟨_, rfl, ho9.out, hb9⟩
  · have HA1 := Lib.hid (HA0 W (Below.refl _ _))
    clear HA0
    rcases HSB with ⟨rfl, rfl, rfl⟩ | ⟨bd, rfl, HB0⟩
    · have hq0 : qs = [] := List.eq_nil_of_length_eq_zero HM.out
      have HQ0 := Lib.hid hq0
      clear hq0
      go_enter Try.func19, Try.ntmps19
      go_wp2_with (at_builtin; first | (refine wpList_append_own _ rfl (.const (.slice none 0 0)) (.tmp 5) 26 rfl W.heap.size 38 i0 (.agg #[.string ⟨#[]⟩, .string ⟨#[]⟩]) 2 32 Try.underlying26 hi hz0 hz1 hz2 rfl (by decide) _ 0 [] rfl (World.ownsRow_nil _ _ _ _) ad n c (rowV pairV ps) rfl HLA.out HA1.out (rowV_one pairV_one _) (by unfold maxLen; omega) (by omega) (by omega) ?_))
      intro v1 w4 hown1 hgrow _
      have HO1 := Lib.hid (show OwnQ w4 W.heap.size v1 ps from by
        unfold OwnQ OwnR
        rw [HN.out]
        simpa using hown1)
      have HB1 := Lib.hid ((Below.refl W.heap.size W).grown hgrow h0 (fun r hr => by cases hr))
      clear hown1 hgrow
      have HOWN := Lib.hid (show OwnQ w4 W.heap.size v1 (ps ++ qs) from by rw [HQ0.out, List.append_nil]; exact HO1.out)
      have HBB := HB1
      have hown := HO1.out
      unfold OwnQ OwnR at hown
      go_wp2_with (at_builtin; refine wpList_append_own_none rfl (.tmp 6) (.tmp 7) 26 rfl W.heap.size 38 i0 2 Try.underlying26 hi _ _ _ rfl hown rfl ?_)
      clear hown
      obtain ⟨A9, c9, hv9, _, _, hp9⟩ := HOWN.out.pairs
      subst hv9
      have RF := Lib.hid (HRF.out A9 _ c9 _ (by rw [List.length_append, HN.out, HM.out]; omega) hp9)
      have hl9 : (ps ++ qs).length ≤ 800 := by rw [List.length_append, HN.out, HM.out]; omega
      obtain ⟨k9, hk9⟩ : ∃ k, (ps ++ qs).length = k := ⟨_, rfl⟩
      replace RF := RF.out
      rw [hk9] at RF hl9 hp9 ⊢
      replace RF := Lib.hid RF
      clear hk9 hp9 HOWN
      go_wp2_with fail
      refine RF.out.mono ?_
      rintro e w9 ⟨v9, rfl, hown9, hx⟩
      have hb9 := hop HBB.out h0 hx
      have ho9 := Lib.hid (OwnR.mono hown9 HBB.out.size)
      clear hx hown9
      go_wp2
      go_ret
      exact ⟨_, rfl, ho9.out, hb9⟩
    · have HB0 := Lib.hid HB0
      go_enter Try.func19, Try.ntmps19
      go_wp2_with (at_builtin; first | (refine wpList_append_own _ rfl (.const (.slice none 0 0)) (.tmp 5) 26 rfl W.heap.size 38 i0 (.agg #[.string ⟨#[]⟩, .string ⟨#[]⟩]) 2 32 Try.underlying26 hi hz0 hz1 hz2 rfl (by decide) _ 0 [] rfl (World.ownsRow_nil _ _ _ _) ad n c (rowV pairV ps) rfl HLA.out HA1.out (rowV_one pairV_one _) (by unfold maxLen; omega) (by omega) (by omega) ?_))
      intro v1 w4 hown1 hgrow _
      have HO1 := Lib.hid (show OwnQ w4 W.heap.size v1 ps from by
        unfold OwnQ OwnR
        rw [HN.out]
        simpa using hown1)
      have HB1 := Lib.hid ((Below.refl W.heap.size W).grown hgrow h0 (fun r hr => by cases hr))
      clear hown1 hgrow
      have HA2 := Lib.hid (HB0.out w4 HB1.out)
      have hpl : ps.length ≤ 400 := by rw [HN.out]; exact hn
      have hs1 := HB1.out.size
      have hown := HO1.out
      unfold OwnQ OwnR at hown
      go_wp2_with (at_builtin; refine wpList_append_own _ rfl (.tmp 6) (.tmp 7) 26 rfl W.heap.size 38 i0 (.agg #[.string ⟨#[]⟩, .string ⟨#[]⟩]) 2 32 Try.underlying26 hi hz0 hz1 hz2 rfl (by decide) _ _ _ rfl hown bd m d (rowV pairV qs) rfl HLB.out HA2.out (rowV_one pairV_one _) (by unfold maxLen; omega) (by omega) (by omega) ?_)
      clear hown
      intro v2 w5 hown2 hgrow _
      have HOWN := Lib.hid (show OwnQ w5 W.heap.size v2 (ps ++ qs) from OwnR.snocs (by rw [HM.out]; exact hown2))
      have HBB := Lib.hid (HB1.out.grown hgrow hs1 (fun r hr => (World.ownsRow.lt HO1.out r hr).1))
      clear hown2 hgrow
      obtain ⟨A9, c9, hv9, _, _, hp9⟩ := HOWN.out.pairs
      subst hv9
      have RF := Lib.hid (HRF.out A9 _ c9 _ (by rw [List.length_append, HN.out, HM.out]; omega) hp9)
      have hl9 : (ps ++ qs).length ≤ 800 := by rw [List.length_append, HN.out, HM.out]; omega
      obtain ⟨k9, hk9⟩ : ∃ k, (ps ++ qs).length = k := ⟨_, rfl⟩
      replace RF := RF.out
      rw [hk9] at RF hl9 hp9 ⊢
      replace RF := Lib.hid RF
      clear hk9 hp9 HOWN
      go_wp2_with fail
      refine RF.out.mono ?_
      rintro e w9 ⟨v9, rfl, hown9, hx⟩
      have hb9 := hop HBB.out h0 hx
      have ho9 := Lib.hid (OwnR.mono hown9 HBB.out.size)
      clear hx hown9
      go_wp2
      go_ret
      exact ⟨_, rfl, ho9.out, hb9⟩
end Go.Proofs.Ytimfabnjopkhdaa
