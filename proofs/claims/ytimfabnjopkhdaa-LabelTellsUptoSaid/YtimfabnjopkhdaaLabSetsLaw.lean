/- The walk of the law LabelSets: a set has each name once, rising, with the last value; in whatever order its labels are put again, it is the same. -/
import Derived.Test.YtimfabnjopkhdaaLabWithLaw
import Derived.Test.YtimfabnjopkhdaaSymOf
namespace Go.Proofs.Ytimfabnjopkhdaa
open Go.RowKit Go.Sort
set_option linter.unusedVariables false
set_option linter.unusedSimpArgs false

theorem withBig_cap (A B : Option Addr) (n m c d : Nat) (ps qs : List PairB) (hn : n ≤ 400) (hm : m ≤ 400) (W : World) (h1 : Hid (Pairs W A n ps)) (h2 : Hid (Pairs W B m qs)) (hA : Hid (A = none → n = 0 ∧ c = 0)) (hB : Hid (B = none → m = 0 ∧ d = 0)) :
    Calls Try.prog 18 #[.slice A n c, .slice B m d] W fun e w' => ∃ A3 k cap, e = .returned (.slice A3 k cap) ∧ k ≤ n + m ∧ Hid (A3 = none → k = 0 ∧ cap = 0) ∧ Hid (Pairs w' A3 k (ofL (ps ++ qs))) ∧ Below W.heap.size W w' := by
  have l1 := h1.out.1
  have l2 := h2.out.1
  have hlt : (namedL (ps ++ qs)).length ≤ 1000000 := Nat.le_trans (List.length_filter_le _ _) (by rw [List.length_append]; omega)
  refine (with_big A B n m c d ps qs (by omega) (by omega) hlt W h1.out h2.out hA.out hB.out).mono ?_
  rintro e w' ⟨v, rfl, hown, hb⟩
  obtain ⟨A3, k, cap, rfl, hk, hA3, hp⟩ := hown.cap
  exact ⟨_, _, _, rfl, by rw [hk]; exact Nat.le_trans (ofL_len _) (by rw [List.length_append]; omega), hA3, hp, hb⟩
/-- of a list that holds the labels of a set, each name as often, the set is made again -/
theorem ofL_same {l s : List PairB} (hs : SetL s) (h : ∀ nm, l.filter (ofName nm) = s.filter (ofName nm)) : ofL l = s := by
  have hm : ∀ p, p ∈ l ↔ p ∈ s := fun p => by
    have h1 := h p.1
    have h2 : p ∈ l ↔ p ∈ l.filter (ofName p.1) := ⟨fun k => List.mem_filter.2 ⟨k, decide_eq_true rfl⟩, fun k => (List.mem_filter.1 k).1⟩
    have h3 : p ∈ s ↔ p ∈ s.filter (ofName p.1) := ⟨fun k => List.mem_filter.2 ⟨k, decide_eq_true rfl⟩, fun k => (List.mem_filter.1 k).1⟩
    rw [h2, h3, h1]
  have hn : namedL l = l := named_all (fun p hp => hs.named p ((hm p).1 hp))
  refine rise_ext _ _ (ofL_rise l) hs.rise (fun p => ?_)
  rw [ofL_mem, hn, h p.1]
  constructor
  · intro k
    exact (List.mem_filter.1 (List.mem_of_getLast? k)).1
  · intro k
    rcases one_of hs.rise p.1 with e | ⟨q, _, e⟩
    · have : p ∈ s.filter (ofName p.1) := List.mem_filter.2 ⟨k, decide_eq_true rfl⟩
      rw [e] at this
      cases this
    · have : p ∈ s.filter (ofName p.1) := List.mem_filter.2 ⟨k, decide_eq_true rfl⟩
      rw [e] at this ⊢
      rw [List.mem_singleton.1 this]
      rfl
theorem ofL_id {s : List PairB} (hs : SetL s) : ofL s = s := ofL_same hs (fun _ => rfl)
theorem ofL_rev {s : List PairB} (hs : SetL s) : ofL s.reverse = s := ofL_same hs (fun nm => by
  rw [List.filter_reverse]
  rcases one_of hs.rise nm with e | ⟨q, _, e⟩ <;> rw [e] <;> rfl)
theorem ofL_twice {s : List PairB} (hs : SetL s) : ofL (s ++ s) = s := by
  refine rise_ext _ _ (ofL_rise _) hs.rise (fun p => ?_)
  rw [with_mem hs hs]
  exact ⟨fun h => h.elim id (fun k => k.1), fun h => .inl h⟩
/-- whether none of those behind i, up to k, has the name of the i-th -/
def lastB (l : List PairB) (i k : Nat) : Bool := (List.range k).all (fun j => decide (j ≤ i) || decide ((l.getD j pnil).1 ≠ (l.getD i pnil).1))
theorem lastB_start (l : List PairB) (i : Nat) : lastB l i (i + 1) = true := by
  unfold lastB
  rw [List.all_eq_true]
  intro j hj
  rw [List.mem_range] at hj
  rw [decide_eq_true (by omega)]
  rfl
theorem lastB_next (l : List PairB) {i k : Nat} (h : i < k) : lastB l i (k + 1) = (lastB l i k && decide ((l.getD k pnil).1 ≠ (l.getD i pnil).1)) := by
  unfold lastB
  rw [List.range_succ, List.all_append, List.all_cons, List.all_nil, decide_eq_false (show ¬ k ≤ i by omega)]
  simp
theorem lastB_all {l : List PairB} {i n : Nat} (h : lastB l i n = true) : ∀ j, i < j → j < n → (l.getD j pnil).1 ≠ (l.getD i pnil).1 := fun j h1 h2 => by
  unfold lastB at h
  have := List.all_eq_true.1 h j (List.mem_range.2 h2)
  rw [decide_eq_false (show ¬ j ≤ i by omega), Bool.false_or] at this
  exact of_decide_eq_true this
/-- what a set tells of the name of the i-th label that it was made of -/
theorem getL_of (l : List PairB) (i : Nat) (hi : i < l.length) : (nameB (l.getD i pnil).1 = false ∧ getL (ofL l) (l.getD i pnil).1 = none) ∨ (nameB (l.getD i pnil).1 = true ∧ ∃ v, getL (ofL l) (l.getD i pnil).1 = some v ∧ (lastB l i l.length = true → v = (l.getD i pnil).2)) := by
  have hsp : l = l.take i ++ l[i] :: l.drop (i + 1) := by rw [← List.drop_eq_getElem_cons hi, List.take_append_drop]
  have hgi : l.getD i pnil = l[i] := by rw [List.getD_eq_getElem?_getD, List.getElem?_eq_getElem hi]; rfl
  have hof := ofL_of l (l.getD i pnil).1
  have hnf : nameB (l.getD i pnil).1 = true → (namedL l).filter (ofName (l.getD i pnil).1) = l.filter (ofName (l.getD i pnil).1) := fun hb => by
    unfold namedL
    rw [List.filter_filter]
    apply List.filter_congr
    intro q _
    by_cases hq : ofName (l.getD i pnil).1 q = true
    · have : q.1 = (l.getD i pnil).1 := of_decide_eq_true hq
      rw [hq, this, hb]
      rfl
    · rw [Bool.not_eq_true] at hq
      rw [hq, Bool.false_and]
  cases hb : nameB (l.getD i pnil).1 with
  | false =>
    refine .inl ⟨rfl, get_none ?_⟩
    rw [hof]
    have : (namedL l).filter (ofName (l.getD i pnil).1) = [] := by
      rw [List.filter_eq_nil_iff]
      intro q hq hn
      have h1 : nameB q.1 = true := (List.mem_filter.1 hq).2
      have h2 : q.1 = (l.getD i pnil).1 := of_decide_eq_true hn
      rw [h2, hb] at h1
      cases h1
    rw [this]
    rfl
  | true =>
    refine .inr ⟨rfl, ?_⟩
    rw [hnf hb] at hof
    have hmem : l.getD i pnil ∈ l.filter (ofName (l.getD i pnil).1) := List.mem_filter.2 ⟨by rw [hgi]; exact List.getElem_mem _, decide_eq_true rfl⟩
    obtain ⟨q, hq⟩ : ∃ q, (l.filter (ofName (l.getD i pnil).1)).getLast? = some q := by
      cases h : (l.filter (ofName (l.getD i pnil).1)).getLast? with
      | none =>
        rw [List.getLast?_eq_none_iff] at h
        rw [h] at hmem
        cases hmem
      | some q => exact ⟨q, rfl⟩
    rw [hq] at hof
    refine ⟨q.2, get_one hof, fun hl => ?_⟩
    have hall := lastB_all hl
    have hdr : (l.drop (i + 1)).filter (ofName (l.getD i pnil).1) = [] := by
      rw [List.filter_eq_nil_iff]
      intro r hr hn
      obtain ⟨t, ht, rfl⟩ := List.mem_iff_getElem.1 hr
      rw [List.length_drop] at ht
      have h3 := hall (i + 1 + t) (by omega) (by omega)
      have h4 : (l.getD (i + 1 + t) pnil) = (l.drop (i + 1))[t] := by
        rw [List.getD_eq_getElem?_getD, List.getElem?_eq_getElem (by omega), List.getElem_drop]
        rfl
      rw [h4] at h3
      exact h3 (of_decide_eq_true hn)
    have key : ∀ nm, l[i].1 = nm → l.filter (ofName nm) = (l.take i).filter (ofName nm) ++ (l[i] :: (l.drop (i + 1)).filter (ofName nm)) := fun nm h => by
      conv => lhs; rw [hsp]
      rw [List.filter_append, List.filter_cons_of_pos (show ofName nm l[i] = true from decide_eq_true h)]
    have hfl : l.filter (ofName (l.getD i pnil).1) = (l.take i).filter (ofName (l.getD i pnil).1) ++ [l.getD i pnil] := by
      rw [key _ (by rw [hgi]), hdr, hgi]
    rw [hfl, List.getLast?_append] at hq
    have hq2 : l.getD i pnil = q := by simpa using hq
    rw [hq2]
theorem set_at {s : List PairB} (hs : SetL s) (i : Nat) (hi : i < s.length) : nameB (s.getD i pnil).1 = true ∧ (i = 0 ∨ ∃ q, i = q + 1 ∧ txtC (s.getD q pnil).1 (s.getD i pnil).1 < 0) := by
  have e : s.getD i pnil = s[i] := by rw [List.getD_eq_getElem?_getD, List.getElem?_eq_getElem hi]; rfl
  refine ⟨by rw [e]; exact hs.named _ (List.getElem_mem _), ?_⟩
  cases i with
  | zero => exact .inl rfl
  | succ q =>
    refine .inr ⟨q, rfl, ?_⟩
    have e2 : s.getD q pnil = s[q] := by rw [List.getD_eq_getElem?_getD, List.getElem?_eq_getElem (by omega)]; rfl
    rw [e, e2]
    exact List.pairwise_iff_getElem.1 hs.rise q (q + 1) (by omega) hi (by omega)
theorem rev_next (s : List PairB) (q : Nat) (h : q < s.length) : (s.drop q).reverse = (s.drop (q + 1)).reverse ++ [s.getD q pnil] := by
  rw [List.drop_eq_getElem_cons h, List.reverse_cons, List.getD_eq_getElem?_getD, List.getElem?_eq_getElem h]
  rfl
set_option maxRecDepth 100000 in
set_option maxHeartbeats 3200000 in
theorem labelSets_walk {W : World} (A : Option Addr) (n c : Nat) (x : List TagB) (hx : TagsP W A n x) (hnc : n ≤ c) (hcm : c ≤ maxLen) :
    Calls Try.prog 6 #[.slice A n c] W fun e w' => e = .returned (.bool true) ∧ Below W.heap.size W w' := by
  have h0 : W.heap.size ≤ W.heap.size := Nat.le_refl _
  unfold maxLen at hcm
  obtain ⟨i0, hinf, hz0, hz1, hz2⟩ := info_parts infoPair
  have mixed : Try.prog.follows .mixedOrders = true := by kernel_rfl
  have HX := Lib.hid (labExamples_any W)
  have TX := Lib.hid (fun w h => tags_some A n c 16 16 rfl x (by omega) (by omega) w h)
  have lx := tagsL_len x 16
  have OX := Lib.hid (fun B q k w h => of_cap (tagsL x 16) (by omega) B q k w h)
  have HX1 := Lib.hid hx
  clear hx hnc hcm
  go_enter Try.func6, Try.ntmps6
  go_wp2_with fail
  refine HX.out.mono ?_
  rintro e w ⟨rfl, hb⟩
  go_wp2_with fail
  refine (TX.out _ (HX1.out.below hb)).mono ?_
  rintro e w1 ⟨B1, n1, k1, rfl, hp, hx⟩
  replace hb := hop hb h0 hx
  clear hx
  have HT1 := Lib.hid hp
  have OX2 := Lib.hid (OX.out _ _ k1 _ hp)
  have ST := Lib.hid (ofL_set (tagsL x 16))
  have HGL := Lib.hid (fun i hi => getL_of (tagsL x 16) i hi)
  obtain ⟨l, hl⟩ : ∃ l, tagsL x 16 = l := ⟨_, rfl⟩
  replace ST := ST.out
  replace HGL := HGL.out
  replace OX2 := OX2.out
  replace HT1 := HT1.out
  rw [hl] at lx ST HT1
  simp only [hl] at OX2 HGL
  replace ST := Lib.hid ST
  replace HGL := Lib.hid HGL
  replace OX2 := Lib.hid OX2
  have hn1 : n1 ≤ 16 := by have := HT1.out.1; omega
  clear hl hp TX OX HX HX1
  go_wp2_with fail
  refine OX2.out.mono ?_
  rintro e w2 ⟨A2, m, k2, rfl, hm, hA2, hp, hx⟩
  replace hb := hop hb h0 hx
  replace HT1 := Lib.hid (HT1.out.below hx)
  have hm16 : m ≤ 16 := Nat.le_trans hm lx
  clear hx OX2 hm lx
  obtain ⟨s, hs⟩ : ∃ s, ofL l = s := ⟨_, rfl⟩
  replace ST := ST.out
  replace HGL := HGL.out
  rw [hs] at ST hp
  simp only [hs] at HGL
  have hsl : s.length ≤ 16 := by have := hp.out.1; omega
  have OA := of_cap s (by omega) A2 m k2 w2 hp
  rw [ofL_id ST] at OA
  replace OA := Lib.hid OA
  have OR := fun B q k w h => of_cap s.reverse (by rw [List.length_reverse]; omega) B q k w h
  rw [ofL_rev ST] at OR
  replace OR := Lib.hid OR
  have WT := fun w (h : Hid (Pairs w A2 m s)) => withBig_cap A2 A2 m m k2 k2 s s (by omega) (by omega) w h h hA2 hA2
  rw [ofL_twice ST] at WT
  replace WT := Lib.hid WT
  have SM := Lib.hid (fun (A B : Option Addr) (n m c d : Nat) (w : World) (hn : n ≤ 32) (hm : m ≤ 32) (h1 : Hid (Pairs w A n s)) (h2 : Hid (Pairs w B m s)) => show Calls Try.prog 28 #[.slice A n c, .slice B m d] w fun e w' => e = .returned (.bool true) ∧ Below w.heap.size w w' from by
    have S := same_any A B n m c d s s (by omega) (by omega) w h1.out h2.out
    rw [decide_eq_true (rfl : s = s)] at S
    exact S)
  have HST := Lib.hid ST
  replace HGL := Lib.hid HGL
  clear hs ST hsl
  go_wp2_with fail
  refine OA.out.mono ?_
  rintro e w3 ⟨A3, m3, k3, rfl, hm3, hA3, hp3, hx⟩
  replace hb := hop hb h0 hx
  replace HT1 := Lib.hid (HT1.out.below hx)
  replace hp := Lib.hid (hp.out.below hx)
  have hm3' : m3 = m := by have := hp3.out.1; have := hp.out.1; omega
  have hm3b : m3 ≤ 32 := by omega
  have HB := Lib.hid hb
  clear hx OA hm3 hm3' hb
  go_wp2
  go_loopw [7] (fun iv wr => ∃ i : Nat, i ≤ m ∧ iv = .int .i64 i ∧ Below w3.heap.size w3 wr) (fun iv _ => m - (intOf iv).toNat)
  case atStart => exact ⟨0, Nat.zero_le _, rfl, Below.refl _ _⟩
  case round =>
    obtain ⟨i, him, rfl, hb⟩ := hrel
    by_cases hi : i < m
    · have hpw := hp.out.below hb
      obtain ⟨b1, o1, rfl, hlt1, hc1⟩ := hpw.2 (by omega)
      obtain ⟨hnm, hrise⟩ := set_at HST.out i (by rw [hpw.1]; exact hi)
      obtain ⟨e1, _⟩ := hc1 i hi
      have hiI : (i : Int) < (m : Int) := by omega
      have k1' : ∀ q os, (grow (wr.drewN q) os).cell? ⟨b1, o1 + i * 2, none⟩ = some (.string (s.getD i pnil).1) := fun q os => cell_grown (w := wr) (a := ⟨b1, o1 + i * 2, none⟩) hlt1 e1 q os
      obtain ⟨p1, hp1⟩ : ∃ p, (s.getD i pnil).1 = p := ⟨_, rfl⟩
      rw [hp1] at k1' hnm hrise
      have NM : ∀ w, Calls Try.prog 20 #[.string p1] w fun e w' => e = .returned (.bool true) ∧ ∃ q os, w' = grow (w.drewN q) os := fun w => by
        have h := name_grown p1 w
        rw [hnm] at h
        exact h
      replace NM := Lib.hid NM
      have HC1 := Lib.hid (fun q (hq : q < m) => (hc1 q hq).1)
      have hszw := hb.size
      clear hpw hc1 hnm e1 hp1
      rcases hrise with hj0 | ⟨q, rfl, hlt⟩
      · have jz : decide (0 < i) = false := decide_eq_false (by omega)
        clear hj0
        go_wp2
        refine wp_region_quiet_grown mixed (by kernel_rfl) ?_
        repeat (generalize hst : ({ tmps := _, defers := _ } : Act) = st; refine wpQuiet_step (fun K hK => ?_); subst hst; go_simp; refine hK _ ?_; clear hK K)
        quiet_step (first | (go_at_call 20; refine Calls.grown_of (NM.out _)))
        repeat (generalize hst : ({ tmps := _, defers := _ } : Act) = st; refine wpQuiet_step (fun K hK => ?_); subst hst; go_simp; refine hK _ ?_; clear hK K)
        refine wpQuiet_nil ?_
        intro _ hw'
        obtain ⟨⟨nq, osq⟩, hw''⟩ := hw'
        subst hw''
        have hb4 := hb.trans (Go.Lib.below_grow w3.heap.size wr hszw nq osq)
        go_wp2
        go_round
        case rel => exact ⟨i + 1, by omega, by go_num, hb4⟩
        case measure => simp [intOf]; omega
      · have k3 := HC1.out q (by omega)
        replace k3 := fun n os => cell_grown (w := wr) (a := ⟨b1, o1 + q * 2, none⟩) hlt1 k3 n os
        obtain ⟨p0, hp0⟩ : ∃ p, (s.getD q pnil).1 = p := ⟨_, rfl⟩
        rw [hp0] at k3 hlt
        have hge := fun w => geq_run p0 p1 w
        simp only [decide_eq_true hlt, Bool.not_true] at hge
        have hbl : Op.bytesLess p0.toList p1.toList = true := by rw [less_txtC]; exact decide_eq_true hlt
        have hwp : IntKind.i64.wrap (q : Int) = (q : Int) := by rw [IntKind.wrap_i64]; omega
        have jz : (q : Int) + 1 < (m : Int) := by omega
        have jz1 : (q : Int) < (m : Int) := by omega
        have jz4 : (0 : Int) ≤ (q : Int) + 1 := by omega
        have jz0 : (0 : Int) < (q : Int) + 1 := by omega
        have jz3 : decide ((0 : Int) < (q : Int) + 1) = true := decide_eq_true jz0
        clear hp0 hlt
        go_wp2
        refine wp_region_quiet_grown mixed (by kernel_rfl) ?_
        repeat (generalize hst : ({ tmps := _, defers := _ } : Act) = st; refine wpQuiet_step (fun K hK => ?_); subst hst; go_simp; refine hK _ ?_; clear hK K)
        quiet_step (first | (go_at_call 20; refine Calls.grown_of (NM.out _)))
        repeat (generalize hst : ({ tmps := _, defers := _ } : Act) = st; refine wpQuiet_step (fun K hK => ?_); subst hst; go_simp; refine hK _ ?_; clear hK K)
        refine wpQuiet_nil ?_
        intro _ hw'
        obtain ⟨⟨nq, osq⟩, hw''⟩ := hw'
        subst hw''
        have hb4 := hb.trans (Go.Lib.below_grow w3.heap.size wr hszw nq osq)
        go_wp2
        go_round
        case rel => exact ⟨q + 1 + 1, by omega, by go_num, hb4⟩
        case measure => simp [intOf]; omega
    · obtain rfl : m = i := by omega
      have HT2 := Lib.hid (HT1.out.below hb)
      have hp2 := Lib.hid (hp.out.below hb)
      have hp3b := Lib.hid (hp3.out.below hb)
      have HB2 := Lib.hid (hop HB.out (Nat.le_refl _) hb)
      clear hi hb HB HT1 hp hp3
      obtain ⟨wa, hwa⟩ : ∃ v, v = wr := ⟨_, rfl⟩
      subst hwa
      go_wp2
      go_loopw [8] (fun iv wr => ∃ i : Nat, i ≤ n1 ∧ iv = .int .i64 i ∧ Below wa.heap.size wa wr) (fun iv _ => n1 - (intOf iv).toNat)
      case atStart => exact ⟨0, Nat.zero_le _, rfl, Below.refl _ _⟩
      case round =>
        obtain ⟨i, hin, rfl, hb⟩ := hrel
        by_cases hi : i < n1
        · have hpw := HT2.out.below hb
          obtain ⟨b1, o1, rfl, hlt1, hc1⟩ := hpw.2 (by omega)
          have HGI := Lib.hid (HGL.out i (by rw [hpw.1]; exact hi))
          have HLL := Lib.hid (show l.length = n1 from hpw.1)
          obtain ⟨e1, e2⟩ := hc1 i hi
          have hiI : (i : Int) < (n1 : Int) := by omega
          have HC1 := Lib.hid (fun q (hq : q < n1) => (hc1 q hq).1)
          have hsA := Lib.hid (hp2.out.below hb)
          have HBR := Lib.hid hb
          have hwi : IntKind.i64.wrap ((i : Int) + 1) = (i : Int) + 1 := by rw [IntKind.wrap_i64]; omega
          obtain ⟨p1, hp1⟩ : ∃ p, (l.getD i pnil).1 = p := ⟨_, rfl⟩
          obtain ⟨v1, hv1⟩ : ∃ p, (l.getD i pnil).2 = p := ⟨_, rfl⟩
          rw [hp1] at e1
          rw [hv1] at e2
          have HP1 := Lib.hid hp1
          have HV1 := Lib.hid hv1
          clear hpw hc1 hp1 hv1 hb
          obtain ⟨wb, hwb⟩ : ∃ v, v = wr := ⟨_, rfl⟩
          subst hwb
          go_wp2
          go_loopw [9, 10] (fun lv kv wr => ∃ k : Nat, i + 1 ≤ k ∧ k ≤ n1 ∧ kv = .int .i64 k ∧ Hid (lv = .bool (lastB l i k)) ∧ Below wb.heap.size wb wr) (fun _ kv _ => n1 - (intOf kv).toNat)
          case atStart => exact ⟨i + 1, Nat.le_refl _, hi, by first | rfl | go_num, Lib.hid (by rw [lastB_start]), Below.refl _ _⟩
          case round =>
            obtain ⟨k, hik, hkn, rfl, HLV, hbr⟩ := hrel
            by_cases hk : k < n1
            · have hkI : (k : Int) < (n1 : Int) := by omega
              have ck := (hbr.cell (p := ⟨b1, o1 + k * 2, none⟩) hlt1).trans (HC1.out k hk)
              have ci := (hbr.cell (p := ⟨b1, o1 + i * 2, none⟩) hlt1).trans e1
              have HNX := Lib.hid (lastB_next l (i := i) (k := k) (by omega))
              have hlv := HLV.out
              obtain ⟨pk, hpk⟩ : ∃ p, (l.getD k pnil).1 = p := ⟨_, rfl⟩
              rw [hpk] at ck
              have HPK := Lib.hid hpk
              have hnx2 := Lib.hid (show lastB l i (k + 1) = (lastB l i k && decide (pk ≠ p1)) from by rw [HNX.out, HPK.out, HP1.out])
              obtain ⟨lb, hlb⟩ : ∃ b, lastB l i k = b := ⟨_, rfl⟩
              have hnx := hnx2.out
              rw [hlb] at hlv hnx
              subst hlv
              replace hnx := Lib.hid hnx
              clear hpk hlb
              cases lb with
              | false =>
                have HE := Lib.hid (show lastB l i (k + 1) = false from hnx.out)
                clear hnx
                go_wp2
                go_quiet (fail)
                go_wp2
                go_round
                case rel => exact ⟨k + 1, by omega, by omega, by go_num, Lib.hid (by rw [HE.out]), below_drewN hbr _⟩
                case measure => simp [intOf]; omega
              | true =>
                by_cases hq : pk = p1
                · subst hq
                  have HE := Lib.hid (show lastB l i (k + 1) = false by rw [hnx.out]; simp)
                  clear hnx
                  go_wp2
                  go_quiet (fail)
                  go_wp2
                  go_round
                  case rel => exact ⟨k + 1, by omega, by omega, by go_num, Lib.hid (by rw [HE.out]), below_drewN hbr _⟩
                  case measure => simp [intOf]; omega
                · have HE := Lib.hid (show lastB l i (k + 1) = true by rw [hnx.out, decide_eq_true hq]; rfl)
                  have hql : ¬ pk.toList = p1.toList := fun h => hq (text_ext1 (by rw [Lib.toList_data, Lib.toList_data] at h; exact h))
                  have hqB : (pk.toList == p1.toList) = false := by rw [beq_eq_false_iff_ne]; exact hql
                  clear hnx hq
                  go_wp2
                  go_quiet (fail)
                  go_wp2
                  go_round
                  case rel => exact ⟨k + 1, by omega, by omega, by go_num, Lib.hid (by rw [HE.out]), below_drewN hbr _⟩
                  case measure => simp [intOf]; omega
            · obtain rfl : n1 = k := by omega
              have hlv := HLV.out
              have ci := (hbr.cell (p := ⟨b1, o1 + i * 2, none⟩) hlt1).trans e1
              have cv := (hbr.cell (p := ⟨b1, o1 + i * 2 + 1, none⟩) hlt1).trans e2
              have hlt2 : b1 < wr.heap.size := Nat.lt_of_lt_of_le hlt1 hbr.size
              have G := labGet_any A2 m k2 s p1 (by omega) wr (hsA.out.below hbr)
              have HBR2 := Lib.hid (hop HBR.out (Nat.le_refl _) hbr)
              have hgi := HGI.out
              rw [HP1.out, HV1.out, HLL.out] at hgi
              obtain ⟨lb, hlb⟩ : ∃ b, lastB l i n1 = b := ⟨_, rfl⟩
              rw [hlb] at hlv hgi
              subst hlv
              clear hlb hbr e1 e2 hi
              rcases hgi with ⟨hnb, hg⟩ | ⟨hnb, v, hg, hvl⟩
              · rw [hg] at G
                replace G := Lib.hid G
                have NM := Lib.hid (fun w => show Calls Try.prog 20 #[.string p1] w fun e w' => e = .returned (.bool false) ∧ Below w.heap.size w w' from hnb ▸ name_any p1 w)
                clear hg hnb
                go_wp2_with fail
                refine G.out.mono ?_
                rintro e w6 ⟨rfl, hx⟩
                have f1 : w6.cell? ⟨b1, o1 + i * 2, none⟩ = some (.string p1) := (hx.cell (p := ⟨b1, o1 + i * 2, none⟩) hlt2).trans ci
                have hb6 := hop HBR2.out (Nat.le_refl _) hx
                have HB6 := Lib.hid hb6
                clear hx ci cv hb6 G
                go_wp2_with fail
                refine (NM.out _).mono ?_
                rintro e w7 ⟨rfl, hx⟩
                have hb7 := hop HB6.out (Nat.le_refl _) hx
                clear hx f1
                go_wp2
                go_round
                case rel => exact ⟨i + 1, by omega, by go_num, hb7⟩
                case measure => simp [intOf]; omega
              · rw [hg] at G
                replace G := Lib.hid G
                have NM := Lib.hid (fun w => show Calls Try.prog 20 #[.string p1] w fun e w' => e = .returned (.bool true) ∧ Below w.heap.size w w' from hnb ▸ name_any p1 w)
                clear hg hnb
                go_wp2_with fail
                refine G.out.mono ?_
                rintro e w6 ⟨rfl, hx⟩
                have f1 : w6.cell? ⟨b1, o1 + i * 2, none⟩ = some (.string p1) := (hx.cell (p := ⟨b1, o1 + i * 2, none⟩) hlt2).trans ci
                have f2 : w6.cell? ⟨b1, o1 + i * 2 + 1, none⟩ = some (.string v1) := (hx.cell (p := ⟨b1, o1 + i * 2 + 1, none⟩) hlt2).trans cv
                have hlt3 : b1 < w6.heap.size := Nat.lt_of_lt_of_le hlt2 hx.size
                have hb6 := hop HBR2.out (Nat.le_refl _) hx
                have HB6 := Lib.hid hb6
                clear hx ci cv hb6 G
                cases lb with
                | false =>
                  clear hvl
                  go_wp2_with fail
                  refine (NM.out _).mono ?_
                  rintro e w7 ⟨rfl, hx⟩
                  have hb7 := hop HB6.out (Nat.le_refl _) hx
                  clear hx f1 f2
                  go_wp2
                  go_round
                  case rel => exact ⟨i + 1, by omega, by go_num, hb7⟩
                  case measure => simp [intOf]; omega
                | true =>
                  have hv1 : v = v1 := hvl rfl
                  subst hv1
                  clear hvl
                  go_wp2_with fail
                  refine (NM.out _).mono ?_
                  rintro e w7 ⟨rfl, hx⟩
                  have g2 : w7.cell? ⟨b1, o1 + i * 2 + 1, none⟩ = some (.string v) := (hx.cell (p := ⟨b1, o1 + i * 2 + 1, none⟩) hlt3).trans f2
                  have hb7 := hop HB6.out (Nat.le_refl _) hx
                  clear hx f1 f2
                  go_wp2
                  go_round
                  case rel => exact ⟨i + 1, by omega, by go_num, hb7⟩
                  case measure => simp [intOf]; omega
        · obtain rfl : n1 = i := by omega
          have hp4 := Lib.hid (hp2.out.below hb)
          have hp5 := Lib.hid (hp3b.out.below hb)
          have HB4 := Lib.hid (hop HB2.out (Nat.le_refl _) hb)
          clear hi hb HB2 HT2 hp2 hp3b HGL
          obtain ⟨wd, hwd⟩ : ∃ v, v = wr := ⟨_, rfl⟩
          subst hwd
          obtain ⟨z, hz⟩ : ∃ z : Int, z = (m : Int) - 1 := ⟨_, rfl⟩
          have hzI : (m : Int) - 1 = z := hz.symm
          have hzW : IntKind.i64.wrap z = z := by rw [IntKind.wrap_i64]; omega
          have HZ := Lib.hid hz
          have HSL := Lib.hid (show s.length = m from hp4.out.1)
          clear hz
          go_wp2
          clear hzI hzW
          go_loopw [13, 14] (fun bv iv wr => ∃ (k : Nat) (z : Int), iv = .int .i64 z ∧ Hid (z = (k : Int) - 1) ∧ k ≤ m ∧ Hid (OwnP wr wd.heap.size bv ((s.drop k).reverse)) ∧ Below wd.heap.size wd wr) (fun _ iv _ => (intOf iv + 1).toNat)
          case atStart => exact ⟨m, z, rfl, HZ, Nat.le_refl _, Lib.hid (by rw [List.drop_of_length_le (by rw [HSL.out]; exact Nat.le_refl _)]; exact OwnP.nil _ _), Below.refl _ _⟩
          case round =>
            clear HZ
            obtain ⟨k, z, rfl, HZ, hkm, HO, hb⟩ := hrel
            have hsz := hb.size
            rcases Nat.eq_zero_or_pos k with hk | hk
            · obtain rfl : z = -1 := by have := HZ.out; omega
              have HO2 := Lib.hid (show OwnP wr wd.heap.size _ s.reverse from by
                have h1 := HO.out
                rw [hk, List.drop_zero] at h1
                exact h1)
              have hp6 := Lib.hid (hp4.out.below hb)
              have hp7 := Lib.hid (hp5.out.below hb)
              have HB5 := Lib.hid (hop HB4.out (Nat.le_refl _) hb)
              obtain ⟨A6, m6, k6, rfl, hm6, _, hp8⟩ := HO2.out.cap
              have S1 := Lib.hid (SM.out A2 A3 m m3 k2 k3 wr (by omega) hm3b hp6 hp7)
              have hm6b : m6 ≤ 32 := by rw [hm6, List.length_reverse, HSL.out]; omega
              clear HO HO2 hk hkm hb hm6
              go_wp2_with fail
              refine S1.out.mono ?_
              rintro e w7 ⟨rfl, hx⟩
              have hp9 := Lib.hid (hp6.out.below hx)
              have hpA := Lib.hid (hp8.out.below hx)
              have HB6 := Lib.hid (hop HB5.out (Nat.le_refl _) hx)
              have S2 := Lib.hid (OR.out A6 m6 k6 w7 hpA)
              clear hx S1
              go_wp2_with fail
              refine S2.out.mono ?_
              rintro e w8 ⟨A8, m8, k8, rfl, hm8, _, hpB, hx⟩
              have hpC := Lib.hid (hp9.out.below hx)
              have HB7 := Lib.hid (hop HB6.out (Nat.le_refl _) hx)
              have hm8b : m8 ≤ 32 := by have := hm8; rw [List.length_reverse, HSL.out] at this; omega
              have S3 := Lib.hid (SM.out A8 A2 m8 m k8 k2 w8 hm8b (by omega) hpB hpC)
              clear hx S2 hm8
              go_wp2_with fail
              refine S3.out.mono ?_
              rintro e w9 ⟨rfl, hx⟩
              have hpD := Lib.hid (hpC.out.below hx)
              have HB8 := Lib.hid (hop HB7.out (Nat.le_refl _) hx)
              have S4 := Lib.hid (WT.out w9 hpD)
              clear hx S3
              go_wp2_with fail
              refine S4.out.mono ?_
              rintro e w10 ⟨AE, mE, kE, rfl, hmE, _, hpE, hx⟩
              have hpF := Lib.hid (hpD.out.below hx)
              have HB9 := Lib.hid (hop HB8.out (Nat.le_refl _) hx)
              have S5 := Lib.hid (SM.out AE A2 mE m kE k2 w10 (by omega) (by omega) hpE hpF)
              clear hx S4
              go_wp2_with fail
              refine S5.out.mono ?_
              rintro e w11 ⟨rfl, hx⟩
              have hb12 := hop HB9.out (Nat.le_refl _) hx
              clear hx S5
              go_wp2
              go_ret
              exact ⟨rfl, hb12⟩
            · obtain ⟨q, rfl⟩ : ∃ q, k = q + 1 := ⟨k - 1, by omega⟩
              obtain rfl : z = (q : Int) := by have := HZ.out; omega
              have hp6 := hp4.out.below hb
              obtain ⟨b1, o1, rfl, hlt1, hc1⟩ := hp6.2 (by omega)
              obtain ⟨e1, e2⟩ := hc1 q (by omega)
              obtain ⟨⟨p1, p2⟩, hp⟩ : ∃ p, s.getD q pnil = p := ⟨_, rfl⟩
              rw [hp] at e1 e2
              dsimp only at e1 e2
              have HNX := Lib.hid (show (s.drop q).reverse = (s.drop (q + 1)).reverse ++ [(p1, p2)] from by rw [rev_next s q (by rw [HSL.out]; omega), hp])
              obtain ⟨L, hL⟩ : ∃ L, (s.drop (q + 1)).reverse = L := ⟨_, rfl⟩
              have hLl : L.length ≤ 16 := by rw [← hL, List.length_reverse, List.length_drop, HSL.out]; omega
              have hown := HO.out
              rw [hL] at hown
              have HNX2 := Lib.hid (show (s.drop q).reverse = L ++ [(p1, p2)] from by rw [HNX.out, hL])
              have hqm : (q : Int) < (m : Int) := by omega
              have hwq : IntKind.i64.wrap ((q : Int) - 1) = (q : Int) - 1 := by rw [IntKind.wrap_i64]; omega
              clear hp6 hc1 hp hL HNX HO hk HZ
              go_wp2_with (at_builtin; refine wpList_append_own _ rfl (.tmp 123) (.tmp 128) 24 rfl wd.heap.size 29 i0 (.agg #[.string ⟨#[]⟩, .string ⟨#[]⟩]) 2 32 Try.underlying24 hinf hz0 hz1 hz2 rfl (by decide) _ _ _ rfl (hown.alloc _) ⟨wr.heap.size, 0, none⟩ 1 1 (pairV (p1, p2)) rfl rfl (new_cells_at _ _ _ _ (by simp)) (pairV_one _) (by unfold maxLen; omega) (by omega) (by simp; omega) ?_)
              intro v' w4 hown' hgrow _
              have hb3 := (hb.alloc hsz _).grown hgrow (by simp; omega) (fun r hr => (World.ownsRow.lt hown r hr).1)
              have hown3 := OwnP.snoc (p := (p1, p2)) hown'
              rw [← HNX2.out] at hown3
              replace hown3 := Lib.hid hown3
              clear hown' hgrow
              go_wp2
              go_round
              case rel => exact ⟨q, (q : Int) - 1, by first | rfl | go_num, Lib.hid rfl, by omega, hown3, hb3⟩
              case measure => simp [intOf]
end Go.Proofs.Ytimfabnjopkhdaa
