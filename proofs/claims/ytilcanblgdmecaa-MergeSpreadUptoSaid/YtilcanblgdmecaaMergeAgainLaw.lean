/- What was merged is merged to itself, with more of what is there already, too; what is no sorted list is refused: the walk of MergeAgain. -/
import Derived.Test.YtilcanblgdmecaaMergeSort
namespace Go.Proofs.Ytilcanblgdmecaa
open Go.RowKit
set_option linter.unusedVariables false
set_option linter.unusedSimpArgs false

theorem strict_sortedA {asc : Bool} {L : List EntX} (h : StrictB asc (L.map EntX.b)) : SortedA asc L := by
  unfold StrictB at h
  rw [List.pairwise_map] at h
  exact h.imp fun h1 => ahead_anti h1
/-- what stands in order, each once, falls when it is turned, but one alone -/
theorem turned_is {asc : Bool} {L : List EntX} (h : StrictB asc (L.map EntX.b)) : sortedE asc L.reverse = decide (L.length < 2) := by
  unfold StrictB at h
  rw [List.pairwise_map] at h
  have h2 : L.reverse.Pairwise fun x y => aheadB y.b x.b asc = true := List.pairwise_reverse.2 h
  rw [← List.length_reverse]
  cases hr : L.reverse with
  | nil => rfl
  | cons x l =>
    cases l with
    | nil => rfl
    | cons y l =>
      rw [hr] at h2
      have h3 := (List.pairwise_cons.1 h2).1 y List.mem_cons_self
      show sortedGo asc x (y :: l) = _
      rw [sortedGo, h3, if_pos rfl]
      symm
      rw [decide_eq_false_iff_not]
      simp
theorem allB_mem (ls : List LsX) (e : EntB) : e ∈ allB ls ↔ ∃ x ∈ ls, e ∈ x.l.map EntX.b := by
  unfold allB
  rw [List.mem_flatMap]
theorem uniq_same {asc : Bool} {l m : List EntB} (h : ∀ e, e ∈ l ↔ e ∈ m) : uniqB asc l = uniqB asc m :=
  strict_same (uniq_strict _ _) (uniq_strict _ _) (fun e => by rw [uniq_mem, uniq_mem, h e])
theorem at_same {T S : List EntX} {i : Nat} {x y : EntX} (h : T.map EntX.b = S.map EntX.b) (hx : T[i]? = some x) (hy : S[i]? = some y) : x.b = y.b := by
  have h1 : (T.map EntX.b)[i]? = some x.b := by rw [List.getElem?_map, hx]; rfl
  have h2 : (S.map EntX.b)[i]? = some y.b := by rw [List.getElem?_map, hy]; rfl
  rw [h, h2] at h1
  injection h1 with h1
  exact h1.symm
set_option maxRecDepth 100000 in
set_option maxHeartbeats 1600000 in
theorem mergeAgain_walk {W : World} (AX : Option Addr) (nX cX : Nat) (lX : List ItemX) (AY : Option Addr) (nY cY : Nat) (lY : List ItemX) (asc : Bool) (hX : ItemsP W.heap.size W AX nX lX) (ulX : sumN (lX.map itemK) ≤ 1048576) (hncX : nX ≤ cX) (hcmX : cX ≤ maxLen)
    (hY : ItemsP W.heap.size W AY nY lY) (ulY : sumN (lY.map itemK) ≤ 1048576) (hncY : nY ≤ cY) (hcmY : cY ≤ maxLen) :
    Calls Try.prog 7 #[.slice AX nX cX, .slice AY nY cY, .bool asc] W fun e w' => e = .returned (.bool true) ∧ Below W.heap.size W w' := by
  have h0 : W.heap.size ≤ W.heap.size := Nat.le_refl _
  obtain ⟨i0, hi, hz0, hz1, hz2⟩ := info_parts infoEnt
  have HX := Lib.hid (mergeExamples_any W)
  have ITX := Lib.hid (fun w (h : Below W.heap.size W w) => items_any W.heap.size AX nX cX 8 lX (by unfold maxLen at hcmX; omega) (by decide) w h.size (hX.below h))
  have GIX := Lib.hid (And.intro hX.2 ulX)
  have ITY := Lib.hid (fun w (h : Below W.heap.size W w) => items_any W.heap.size AY nY cY 8 lY (by unfold maxLen at hcmY; omega) (by decide) w h.size (hY.below h))
  have GIY := Lib.hid (And.intro hY.2 ulY)
  clear hX ulX hncX hcmX hY ulY hncY hcmY
  go_enter Try.func7, Try.ntmps7
  go_wp2_with fail
  refine HX.out.mono ?_
  rintro e w1 ⟨rfl, hx⟩
  have HB := Lib.hid hx
  clear hx HX
  go_wp2_with fail
  refine (ITX.out _ HB.out).mono ?_
  rintro e w2 ⟨vu, Lu, rfl, ho, hL, hx⟩
  have hlen : Lu.length ≤ 8 := by
    have h3 := congrArg List.length hL
    rw [List.length_map] at h3
    have := itemsB_len lX 8
    omega
  have Nu := Lib.hid (items_n GIX.out.1 GIX.out.2 hL ho.2)
  replace HB := Lib.hid (hop HB.out (Nat.le_refl _) hx)
  have hcap := ho.1
  obtain ⟨Au, cu, rfl, _, _, hE⟩ := ho.ents
  have Eu := Lib.hid hE
  have Cu := Lib.hid (OwnR.cap hcap)
  have Mu := Lib.hid hlen
  clear ho hL hx hE hcap
  have SO := Lib.hid (sorted_any W.heap.size Au cu Lu asc (by have := Mu.out; omega) Nu.out w2 HB.out.size Eu.out)
  go_wp2_with fail
  refine SO.out.mono ?_
  rintro e w3 ⟨va, La, rfl, ho, hs, hlen, hn, hx⟩
  have Na := Lib.hid hn
  have Sa := Lib.hid hs
  clear Eu
  replace HB := Lib.hid (hop HB.out (Nat.le_refl _) hx)
  have hcap := ho.1
  obtain ⟨Aa, ca, rfl, _, _, hE⟩ := ho.ents
  have Ca := Lib.hid (OwnR.cap hcap)
  have Ma := Lib.hid (show La.length ≤ 8 by rw [hlen]; exact Mu.out)
  obtain ⟨na, hnk⟩ : ∃ n, La.length = n := ⟨_, rfl⟩
  have HLa := Lib.hid hnk
  rw [hnk] at hE Ca Ma ⊢
  have Ea := Lib.hid hE
  clear ho hs hlen hn hx hE hcap hnk SO Cu Nu Mu
  go_wp2_with fail
  refine (ITY.out _ HB.out).mono ?_
  rintro e w4 ⟨vv, Lv, rfl, ho, hL, hx⟩
  have hlen : Lv.length ≤ 8 := by
    have h3 := congrArg List.length hL
    rw [List.length_map] at h3
    have := itemsB_len lY 8
    omega
  have Nv := Lib.hid (items_n GIY.out.1 GIY.out.2 hL ho.2)
  replace Ea := Lib.hid (Ea.out.below hx)
  replace HB := Lib.hid (hop HB.out (Nat.le_refl _) hx)
  have hcap := ho.1
  obtain ⟨Av, cv, rfl, _, _, hE⟩ := ho.ents
  have Ev := Lib.hid hE
  have Cv := Lib.hid (OwnR.cap hcap)
  have Mv := Lib.hid hlen
  clear ho hL hx hE hcap
  have SO := Lib.hid (sorted_any W.heap.size Av cv Lv asc (by have := Mv.out; omega) Nv.out w4 HB.out.size Ev.out)
  go_wp2_with fail
  refine SO.out.mono ?_
  rintro e w5 ⟨vb, Lb, rfl, ho, hs, hlen, hn, hx⟩
  have Nb := Lib.hid hn
  have Sb := Lib.hid hs
  clear Ev
  replace Ea := Lib.hid (Ea.out.below hx)
  replace HB := Lib.hid (hop HB.out (Nat.le_refl _) hx)
  have hcap := ho.1
  obtain ⟨Ab, cb, rfl, _, _, hE⟩ := ho.ents
  have Cb := Lib.hid (OwnR.cap hcap)
  have Mb := Lib.hid (show Lb.length ≤ 8 by rw [hlen]; exact Mv.out)
  obtain ⟨nb, hnk⟩ : ∃ n, Lb.length = n := ⟨_, rfl⟩
  have HLb := Lib.hid hnk
  rw [hnk] at hE Cb Mb ⊢
  have Eb := Lib.hid hE
  clear ho hs hlen hn hx hE hcap hnk SO Cv Nv Mv
  have S1 := Lib.hid (sortedA_E Sa.out)
  have S2 := Lib.hid (sortedA_E Sb.out)
  have SL := Lib.hid (show sortedLs asc [⟨Aa, na, ca, La⟩, ⟨Ab, nb, cb, Lb⟩] = true by simp only [sortedLs, List.all_cons, List.all_nil, S1.out, S2.out, Bool.and_self])
  clear Sa Sb
  obtain ⟨gp, hgp⟩ : ∃ g, w5.heap.size = g := ⟨_, rfl⟩
  obtain ⟨w6, hw6⟩ : ∃ z, w5.alloc (.cells #[.slice Aa na ca, .slice Ab nb cb] 34) = z := ⟨_, rfl⟩
  have bw6 : Below w5.heap.size w5 w6 := by rw [← hw6]; exact (Below.refl _ _).alloc (Nat.le_refl _) _
  have AL := all_lists W.heap.size asc 99 [⟨Aa, na, ca, La⟩, ⟨Ab, nb, cb, Lb⟩] 2 rfl w5 w6 gp hgp 34 hw6 (by
    intro x hx
    simp only [List.mem_cons, List.mem_nil_iff, or_false] at hx
    rcases hx with rfl | rfl
    · exact ⟨Ea.out, Ca.out⟩
    · exact ⟨Eb.out, Cb.out⟩) true SL.out (by simp only [totL, List.map_cons, List.map_nil, List.sum_cons, List.sum_nil]; have := Ma.out; have := Mb.out; omega) HB.out.size
  replace AL := Lib.hid AL
  replace Ea := Lib.hid (Ea.out.below bw6)
  replace Eb := Lib.hid (Eb.out.below bw6)
  replace HB := Lib.hid (hop HB.out (Nat.le_refl _) bw6)
  go_wp2_with fail
  refine AL.out.mono ?_
  rintro e w7 ⟨Ap, np, cp, Lp, rfl, hE, hl, hc, hL, hx⟩
  replace Ea := Lib.hid (Ea.out.below hx)
  replace Eb := Lib.hid (Eb.out.below hx)
  replace HB := Lib.hid (hop HB.out (Nat.le_refl _) hx)
  have Ep := Lib.hid hE
  have HLp := Lib.hid hl
  have Cp := Lib.hid hc
  have Rp := Lib.hid hL
  clear hE hl hc hL hx hw6 hgp bw6 AL
  obtain ⟨U, hU⟩ : ∃ U, uniqB asc (allB [⟨Aa, na, ca, La⟩, ⟨Ab, nb, cb, Lb⟩]) = U := ⟨_, rfl⟩
  have WP := Lib.hid (show Lp.map EntX.b = U by
    rw [Rp.out, ← hU]
    exact merge_whole SL.out (fun x hx => by
      simp only [List.mem_cons, List.mem_nil_iff, or_false] at hx
      rcases hx with rfl | rfl
      · exact HLa.out
      · exact HLb.out) (by
      simp only [totL, List.map_cons, List.map_nil, List.sum_cons, List.sum_nil]
      have := Ma.out; have := Mb.out
      show _ ≤ 99
      omega))
  have HST := Lib.hid (show StrictB asc (Lp.map EntX.b) by rw [WP.out, ← hU]; exact uniq_strict _ _)
  have HUM := Lib.hid (show ∀ e, e ∈ Lp.map EntX.b ↔ e ∈ La.map EntX.b ∨ e ∈ Lb.map EntX.b from fun e => by
    rw [WP.out, ← hU, uniq_mem, allB_mem]
    simp)
  have HUQ := Lib.hid (show ∀ m, (∀ e, e ∈ m ↔ e ∈ Lp.map EntX.b) → uniqB asc m = U from fun m hm => by
    rw [← hU]
    exact uniq_same (fun e => by rw [hm e, WP.out, ← hU, uniq_mem]))
  have Mp := Lib.hid (show np ≤ 16 by
    rw [← HLp.out, ← List.length_map (f := EntX.b), WP.out, ← hU]
    refine Nat.le_trans (uniq_len _ _) ?_
    rw [allB_len _ (fun x hx => by
      simp only [List.mem_cons, List.mem_nil_iff, or_false] at hx
      rcases hx with rfl | rfl
      · exact HLa.out
      · exact HLb.out)]
    simp only [totL, List.map_cons, List.map_nil, List.sum_cons, List.sum_nil]
    have := Ma.out
    have := Mb.out
    omega)
  have SP := Lib.hid (sortedA_E (strict_sortedA HST.out))
  have SLq := Lib.hid (show sortedLs asc [⟨Ap, np, cp, Lp⟩] = true by simp only [sortedLs, List.all_cons, List.all_nil, SP.out, Bool.and_self])
  have SLm := Lib.hid (show sortedLs asc [⟨Ap, np, cp, Lp⟩, ⟨Aa, na, ca, La⟩, ⟨Ab, nb, cb, Lb⟩, ⟨Ap, np, cp, Lp⟩] = true by simp only [sortedLs, List.all_cons, List.all_nil, SP.out, S1.out, S2.out, Bool.and_self])
  clear hU Rp SL
  obtain ⟨gq, hgq⟩ : ∃ g, w7.heap.size = g := ⟨_, rfl⟩
  obtain ⟨w8, hw8⟩ : ∃ z, w7.alloc (.cells #[.slice Ap np cp] 34) = z := ⟨_, rfl⟩
  have bw8 : Below w7.heap.size w7 w8 := by rw [← hw8]; exact (Below.refl _ _).alloc (Nat.le_refl _) _
  have AL := all_lists W.heap.size asc 99 [⟨Ap, np, cp, Lp⟩] 1 rfl w7 w8 gq hgq 34 hw8 (by
    intro x hx
    simp only [List.mem_cons, List.mem_nil_iff, or_false] at hx
    subst hx
    · exact ⟨Ep.out, Cp.out⟩) true SLq.out (by simp only [totL, List.map_cons, List.map_nil, List.sum_cons, List.sum_nil]; have := Mp.out; omega) HB.out.size
  replace AL := Lib.hid AL
  replace Ea := Lib.hid (Ea.out.below bw8)
  replace Eb := Lib.hid (Eb.out.below bw8)
  replace Ep := Lib.hid (Ep.out.below bw8)
  replace HB := Lib.hid (hop HB.out (Nat.le_refl _) bw8)
  go_wp2_with fail
  refine AL.out.mono ?_
  rintro e w9 ⟨Aq, nq, cq, Lq, rfl, hE, hl, hc, hL, hx⟩
  replace Ea := Lib.hid (Ea.out.below hx)
  replace Eb := Lib.hid (Eb.out.below hx)
  replace Ep := Lib.hid (Ep.out.below hx)
  replace HB := Lib.hid (hop HB.out (Nat.le_refl _) hx)
  have Eq := Lib.hid hE
  have HLq := Lib.hid hl
  have Cq := Lib.hid hc
  have Rq := Lib.hid hL
  clear hE hl hc hL hx hw8 hgq bw8 AL
  have WQ := Lib.hid (show Lq.map EntX.b = U by
    rw [Rq.out, merge_whole SLq.out (fun x hx => ?_) ?_]
    · exact HUQ.out _ (fun e => by rw [allB_mem]; simp)
    · simp only [totL, List.map_cons, List.map_nil, List.sum_cons, List.sum_nil]
      have := Mp.out
      show _ ≤ 99
      omega
    · rename_i hx
      simp only [List.mem_cons, List.mem_nil_iff, or_false] at hx
      subst hx
      exact HLp.out)
  clear Rq SLq
  obtain ⟨gm, hgm⟩ : ∃ g, w9.heap.size = g := ⟨_, rfl⟩
  obtain ⟨w10, hw10⟩ : ∃ z, w9.alloc (.cells #[.slice Ap np cp, .slice Aa na ca, .slice Ab nb cb, .slice Ap np cp] 34) = z := ⟨_, rfl⟩
  have bw10 : Below w9.heap.size w9 w10 := by rw [← hw10]; exact (Below.refl _ _).alloc (Nat.le_refl _) _
  have AL := all_lists W.heap.size asc 99 [⟨Ap, np, cp, Lp⟩, ⟨Aa, na, ca, La⟩, ⟨Ab, nb, cb, Lb⟩, ⟨Ap, np, cp, Lp⟩] 4 rfl w9 w10 gm hgm 34 hw10 (by
    intro x hx
    simp only [List.mem_cons, List.mem_nil_iff, or_false] at hx
    rcases hx with rfl | rfl | rfl | rfl
    · exact ⟨Ep.out, Cp.out⟩
    · exact ⟨Ea.out, Ca.out⟩
    · exact ⟨Eb.out, Cb.out⟩
    · exact ⟨Ep.out, Cp.out⟩) true SLm.out (by simp only [totL, List.map_cons, List.map_nil, List.sum_cons, List.sum_nil]; have := Mp.out; have := Ma.out; have := Mb.out; omega) HB.out.size
  replace AL := Lib.hid AL
  replace Ea := Lib.hid (Ea.out.below bw10)
  replace Eb := Lib.hid (Eb.out.below bw10)
  replace Ep := Lib.hid (Ep.out.below bw10)
  replace Eq := Lib.hid (Eq.out.below bw10)
  replace HB := Lib.hid (hop HB.out (Nat.le_refl _) bw10)
  go_wp2_with fail
  refine AL.out.mono ?_
  rintro e w11 ⟨Am, nm, cm, Lm, rfl, hE, hl, hc, hL, hx⟩
  replace Ea := Lib.hid (Ea.out.below hx)
  replace Eb := Lib.hid (Eb.out.below hx)
  replace Ep := Lib.hid (Ep.out.below hx)
  replace Eq := Lib.hid (Eq.out.below hx)
  replace HB := Lib.hid (hop HB.out (Nat.le_refl _) hx)
  have Em := Lib.hid hE
  have HLm := Lib.hid hl
  have Cm := Lib.hid hc
  have Rm := Lib.hid hL
  clear hE hl hc hL hx hw10 hgm bw10 AL
  have WM := Lib.hid (show Lm.map EntX.b = U by
    rw [Rm.out, merge_whole SLm.out (fun x hx => ?_) ?_]
    · exact HUQ.out _ (fun e => by
        rw [allB_mem]
        have := HUM.out e
        constructor
        · rintro ⟨x, hx, he⟩
          simp only [List.mem_cons, List.mem_nil_iff, or_false] at hx
          rcases hx with rfl | rfl | rfl | rfl
          · exact he
          · exact this.2 (.inl he)
          · exact this.2 (.inr he)
          · exact he
        · intro he
          exact ⟨_, List.mem_cons_self, he⟩)
    · simp only [totL, List.map_cons, List.map_nil, List.sum_cons, List.sum_nil]
      have := Mp.out
      have := Ma.out
      have := Mb.out
      show _ ≤ 99
      omega
    · rename_i hx
      simp only [List.mem_cons, List.mem_nil_iff, or_false] at hx
      rcases hx with rfl | rfl | rfl | rfl
      · exact HLp.out
      · exact HLa.out
      · exact HLb.out
      · exact HLp.out)
  clear Rm SLm HUM HUQ
  have hqp : np = nq := by rw [← HLq.out, ← HLp.out, ← List.length_map (f := EntX.b), WP.out, ← WQ.out, List.length_map]
  have hmp : np = nm := by rw [← HLm.out, ← HLp.out, ← List.length_map (f := EntX.b), WP.out, ← WM.out, List.length_map]
  subst hqp
  subst hmp
  clear Eb
  have hnp16 : np ≤ 16 := Mp.out
  have hnpw : IntKind.i64.wrap ((np : Int) - 1) = (np : Int) - 1 := by rw [IntKind.wrap_i64]; omega
  go_wp2
  go_loopw [16, 17] (fun bv iv wr => ∃ (k : Nat) (K : List EntX) (z : Int), k ≤ np ∧ iv = .int .i64 z ∧ Hid (z = (k : Int) - 1) ∧ Hid (K = (Lp.drop k).reverse) ∧ Hid (OwnE W.heap.size wr w11.heap.size bv K) ∧ Below w11.heap.size w11 wr) (fun _ iv _ => (intOf iv + 1).toNat)
  case atStart => exact ⟨np, [], _, Nat.le_refl _, rfl, Lib.hid rfl, Lib.hid (by rw [List.drop_of_length_le (by rw [HLp.out]; exact Nat.le_refl _)]; rfl), Lib.hid (OwnE.nil _ _ _), Below.refl _ _⟩
  case round =>
    obtain ⟨k, K, z, hkn, rfl, HZ, HK, HOK, hb⟩ := hrel
    have hs3 := hb.size
    have hKl : K.length = np - k := by rw [HK.out, List.length_reverse, List.length_drop, HLp.out]
    rcases Nat.eq_zero_or_pos k with hk0 | hk0
    · obtain rfl : z = -1 := by rw [HZ.out, hk0]; rfl
      have hKK : K = Lp.reverse := by rw [HK.out, hk0, List.drop_zero]
      subst hKK
      replace Ea := Lib.hid (Ea.out.below hb)
      replace Ep := Lib.hid (Ep.out.below hb)
      replace Eq := Lib.hid (Eq.out.below hb)
      replace Em := Lib.hid (Em.out.below hb)
      replace HB := Lib.hid (hop HB.out (Nat.le_refl _) hb)
      have hcap := HOK.out.1
      obtain ⟨Ar, cr, rfl, _, _, hE⟩ := HOK.out.ents
      have Cr := Lib.hid (OwnR.cap hcap)
      have hlr : Lp.reverse.length = np := by rw [List.length_reverse]; exact HLp.out
      rw [hlr] at hE Cr ⊢
      have Er := Lib.hid hE
      obtain ⟨Lr, hLr⟩ : ∃ l, Lp.reverse = l := ⟨_, rfl⟩
      have HLr := Lib.hid (show Lr.length = np by rw [← hLr]; exact hlr)
      have HLR := Lib.hid hLr
      rw [hLr] at Er
      obtain ⟨zt, hzt⟩ : ∃ z, sortedLs asc [⟨Aa, na, ca, La⟩, ⟨Ar, np, cr, Lr⟩] = z := ⟨_, rfl⟩
      have HZT := Lib.hid (show decide ((np : Int) < 2) = zt by
        rw [← hzt]
        simp only [sortedLs, List.all_cons, List.all_nil, S1.out, Bool.true_and, Bool.and_true]
        rw [← hLr, turned_is HST.out, HLp.out, decide_eq_decide]
        omega)
      have Mr := Mp
      clear hcap hE HOK hb hlr hLr hk0 HZ HK hkn hKl
      obtain ⟨gt, hgt⟩ : ∃ g, wr.heap.size = g := ⟨_, rfl⟩
      obtain ⟨w12, hw12⟩ : ∃ z, wr.alloc (.cells #[.slice Aa na ca, .slice Ar np cr] 34) = z := ⟨_, rfl⟩
      have bw12 : Below wr.heap.size wr w12 := by rw [← hw12]; exact (Below.refl _ _).alloc (Nat.le_refl _) _
      have AL := all_lists W.heap.size asc 99 [⟨Aa, na, ca, La⟩, ⟨Ar, np, cr, Lr⟩] 2 rfl wr w12 gt hgt 34 hw12 (by
        intro x hx
        simp only [List.mem_cons, List.mem_nil_iff, or_false] at hx
        rcases hx with rfl | rfl
        · exact ⟨Ea.out, Ca.out⟩
        · exact ⟨Er.out, Cr.out⟩) zt hzt (by simp only [totL, List.map_cons, List.map_nil, List.sum_cons, List.sum_nil]; have := Ma.out; have := Mr.out; omega) HB.out.size
      replace AL := Lib.hid AL
      replace Ea := Lib.hid (Ea.out.below bw12)
      replace Ep := Lib.hid (Ep.out.below bw12)
      replace Eq := Lib.hid (Eq.out.below bw12)
      replace Em := Lib.hid (Em.out.below bw12)
      replace Er := Lib.hid (Er.out.below bw12)
      replace HB := Lib.hid (hop HB.out (Nat.le_refl _) bw12)
      go_wp2_with fail
      refine AL.out.mono ?_
      rintro e w13 ⟨At, nt, ct, Lt, rfl, hE, hl, hc, hL, hx⟩
      replace Ea := Lib.hid (Ea.out.below hx)
      replace Ep := Lib.hid (Ep.out.below hx)
      replace Eq := Lib.hid (Eq.out.below hx)
      replace Em := Lib.hid (Em.out.below hx)
      replace Er := Lib.hid (Er.out.below hx)
      replace HB := Lib.hid (hop HB.out (Nat.le_refl _) hx)
      have Et := Lib.hid hE
      have HLt := Lib.hid hl
      have Ct := Lib.hid hc
      have Rt := Lib.hid hL
      clear hE hl hc hL hx hw12 hgt bw12 AL
      have AN := Lib.hid (all_any W.heap.size asc 99 none 0 0 [] (by simp [totL]) w13 HB.out.size ⟨RowR.none _, fun x hx => absurd hx List.not_mem_nil⟩)
      clear Rt Ct HLt hzt
      go_wp2_with fail
      refine AN.out.mono ?_
      rintro e w14 ⟨vn, Ln, rfl, ho, hL, hx⟩
      have hl0 : Ln.length = 0 := by
        have h1 := congrArg List.length hL
        rw [List.length_map] at h1
        rw [h1]
        rfl
      rw [show sortedLs asc [] = true from rfl]
      replace Ea := Lib.hid (Ea.out.below hx)
      replace Ep := Lib.hid (Ep.out.below hx)
      replace Eq := Lib.hid (Eq.out.below hx)
      replace Em := Lib.hid (Em.out.below hx)
      replace Er := Lib.hid (Er.out.below hx)
      replace Et := Lib.hid (Et.out.below hx)
      replace HB := Lib.hid (hop HB.out (Nat.le_refl _) hx)
      obtain ⟨An, cn, rfl, _, _, _⟩ := ho.ents
      rw [hl0]
      have W1 := Lib.hid (WP.out.trans WQ.out.symm)
      have W2 := Lib.hid (WP.out.trans WM.out.symm)
      clear hL hx ho hl0 AN Ea Er Et
      go_wp2
      go_loopw [22] (fun iv wr => ∃ j : Nat, j ≤ np ∧ iv = .int .i64 (j : Int) ∧ Below w14.heap.size w14 wr) (fun iv _ => np - (intOf iv).toNat)
      case atStart => exact ⟨0, Nat.zero_le _, rfl, Below.refl _ _⟩
      case round =>
        obtain ⟨j, hjn, rfl, hb⟩ := hrel
        by_cases hj : j < np
        · have hjI : (j : Int) < (np : Int) := by omega
          obtain ⟨bx, ox, hA, hltx, hc⟩ := (Ep.out.below hb).at_ (by omega)
          obtain ⟨c1, c2, c3, gx⟩ := hc j (by omega)
          have xq : Lp[j]? = some (Lp.getD j xnil) := by
            have := HLp.out
            rw [List.getD_eq_getElem?_getD, List.getElem?_eq_getElem (by omega)]
            rfl
          obtain ⟨x, hx⟩ : ∃ t, Lp.getD j xnil = t := ⟨_, rfl⟩
          rw [hx] at c1 c2 c3 gx xq
          have Qx := Lib.hid xq
          have Gx := Lib.hid gx
          clear hc hx xq gx
          have hA1 := hA
          clear hA
          obtain ⟨by_, oy, hA, hlty, hc⟩ := (Eq.out.below hb).at_ (by omega)
          obtain ⟨d1, d2, d3, gy⟩ := hc j (by omega)
          have yq : Lq[j]? = some (Lq.getD j xnil) := by
            have := HLq.out
            rw [List.getD_eq_getElem?_getD, List.getElem?_eq_getElem (by omega)]
            rfl
          obtain ⟨y, hy⟩ : ∃ t, Lq.getD j xnil = t := ⟨_, rfl⟩
          rw [hy] at d1 d2 d3 gy yq
          have Qy := Lib.hid yq
          have Gy := Lib.hid gy
          clear hc hy yq gy
          have hA2 := hA
          clear hA
          obtain ⟨bv, ov, hA, hltv, hc⟩ := (Em.out.below hb).at_ (by omega)
          obtain ⟨f1, f2, f3, gv⟩ := hc j (by omega)
          have vq : Lm[j]? = some (Lm.getD j xnil) := by
            have := HLm.out
            rw [List.getD_eq_getElem?_getD, List.getElem?_eq_getElem (by omega)]
            rfl
          obtain ⟨v, hv⟩ : ∃ t, Lm.getD j xnil = t := ⟨_, rfl⟩
          rw [hv] at f1 f2 f3 gv vq
          have Qv := Lib.hid vq
          have Gv := Lib.hid gv
          clear hc hv vq gv
          subst hA
          subst hA1
          subst hA2
          have Hb := Lib.hid hb
          have S1 := fun w (h : Below wr.heap.size wr w) => same_good x y w (Gx.out.below h) (Gy.out.below h)
          rw [show sameE x.b y.b = true from sameE_iff.2 (at_same W1.out.symm Qy.out Qx.out).symm] at S1
          replace S1 := Lib.hid S1
          have S2 := fun w (h : Below wr.heap.size wr w) => same_good x v w (Gx.out.below h) (Gv.out.below h)
          rw [show sameE x.b v.b = true from sameE_iff.2 (at_same W2.out.symm Qv.out Qx.out).symm] at S2
          replace S2 := Lib.hid S2
          have S0 : Below wr.heap.size wr wr.drew ∧ wr.drew.cell? ⟨bx, ox + j * 3, none⟩ = some (.int .i64 x.ts) ∧ wr.drew.cell? ⟨bx, ox + j * 3 + 1, none⟩ = some (.slice x.A x.n x.c) ∧ wr.drew.cell? ⟨bx, ox + j * 3 + 2, none⟩ = some (.string x.ln) ∧ wr.drew.cell? ⟨by_, oy + j * 3, none⟩ = some (.int .i64 y.ts) ∧ wr.drew.cell? ⟨by_, oy + j * 3 + 1, none⟩ = some (.slice y.A y.n y.c) ∧ wr.drew.cell? ⟨by_, oy + j * 3 + 2, none⟩ = some (.string y.ln) ∧ wr.drew.cell? ⟨bv, ov + j * 3, none⟩ = some (.int .i64 v.ts) ∧ wr.drew.cell? ⟨bv, ov + j * 3 + 1, none⟩ = some (.slice v.A v.n v.c) ∧ wr.drew.cell? ⟨bv, ov + j * 3 + 2, none⟩ = some (.string v.ln) := ⟨(Below.refl _ _).drew, c1, c2, c3, d1, d2, d3, f1, f2, f3⟩
          have HS := Lib.hid (fun (wa wb : World) (hS : Below wr.heap.size wr wa ∧ wa.cell? ⟨bx, ox + j * 3, none⟩ = some (.int .i64 x.ts) ∧ wa.cell? ⟨bx, ox + j * 3 + 1, none⟩ = some (.slice x.A x.n x.c) ∧ wa.cell? ⟨bx, ox + j * 3 + 2, none⟩ = some (.string x.ln) ∧ wa.cell? ⟨by_, oy + j * 3, none⟩ = some (.int .i64 y.ts) ∧ wa.cell? ⟨by_, oy + j * 3 + 1, none⟩ = some (.slice y.A y.n y.c) ∧ wa.cell? ⟨by_, oy + j * 3 + 2, none⟩ = some (.string y.ln) ∧ wa.cell? ⟨bv, ov + j * 3, none⟩ = some (.int .i64 v.ts) ∧ wa.cell? ⟨bv, ov + j * 3 + 1, none⟩ = some (.slice v.A v.n v.c) ∧ wa.cell? ⟨bv, ov + j * 3 + 2, none⟩ = some (.string v.ln)) (h : Below wa.heap.size wa wb) => show Below wr.heap.size wr wb ∧ wb.cell? ⟨bx, ox + j * 3, none⟩ = some (.int .i64 x.ts) ∧ wb.cell? ⟨bx, ox + j * 3 + 1, none⟩ = some (.slice x.A x.n x.c) ∧ wb.cell? ⟨bx, ox + j * 3 + 2, none⟩ = some (.string x.ln) ∧ wb.cell? ⟨by_, oy + j * 3, none⟩ = some (.int .i64 y.ts) ∧ wb.cell? ⟨by_, oy + j * 3 + 1, none⟩ = some (.slice y.A y.n y.c) ∧ wb.cell? ⟨by_, oy + j * 3 + 2, none⟩ = some (.string y.ln) ∧ wb.cell? ⟨bv, ov + j * 3, none⟩ = some (.int .i64 v.ts) ∧ wb.cell? ⟨bv, ov + j * 3 + 1, none⟩ = some (.slice v.A v.n v.c) ∧ wb.cell? ⟨bv, ov + j * 3 + 2, none⟩ = some (.string v.ln) from by
            obtain ⟨s0, s1, s2, s3, s4, s5, s6, s7, s8, s9⟩ := hS
            exact ⟨hop s0 (Nat.le_refl _) h, (h.cell (p := ⟨bx, ox + j * 3, none⟩) (block_lt_of_cell s1)).trans s1, (h.cell (p := ⟨bx, ox + j * 3 + 1, none⟩) (block_lt_of_cell s2)).trans s2, (h.cell (p := ⟨bx, ox + j * 3 + 2, none⟩) (block_lt_of_cell s3)).trans s3, (h.cell (p := ⟨by_, oy + j * 3, none⟩) (block_lt_of_cell s4)).trans s4, (h.cell (p := ⟨by_, oy + j * 3 + 1, none⟩) (block_lt_of_cell s5)).trans s5, (h.cell (p := ⟨by_, oy + j * 3 + 2, none⟩) (block_lt_of_cell s6)).trans s6, (h.cell (p := ⟨bv, ov + j * 3, none⟩) (block_lt_of_cell s7)).trans s7, (h.cell (p := ⟨bv, ov + j * 3 + 1, none⟩) (block_lt_of_cell s8)).trans s8, (h.cell (p := ⟨bv, ov + j * 3 + 2, none⟩) (block_lt_of_cell s9)).trans s9⟩)
          clear hb c1 c2 c3 d1 d2 d3 f1 f2 f3
          go_wp2
          refine wp_region_held_drew (S := fun w' => Below wr.heap.size wr w' ∧ w'.cell? ⟨bx, ox + j * 3, none⟩ = some (.int .i64 x.ts) ∧ w'.cell? ⟨bx, ox + j * 3 + 1, none⟩ = some (.slice x.A x.n x.c) ∧ w'.cell? ⟨bx, ox + j * 3 + 2, none⟩ = some (.string x.ln) ∧ w'.cell? ⟨by_, oy + j * 3, none⟩ = some (.int .i64 y.ts) ∧ w'.cell? ⟨by_, oy + j * 3 + 1, none⟩ = some (.slice y.A y.n y.c) ∧ w'.cell? ⟨by_, oy + j * 3 + 2, none⟩ = some (.string y.ln) ∧ w'.cell? ⟨bv, ov + j * 3, none⟩ = some (.int .i64 v.ts) ∧ w'.cell? ⟨bv, ov + j * 3 + 1, none⟩ = some (.slice v.A v.n v.c) ∧ w'.cell? ⟨bv, ov + j * 3 + 2, none⟩ = some (.string v.ln)) (by kernel_rfl) S0 (fun hHeld => ?_)
          refine wpAnyH_take (i := 0) (oi := { dst := some 116, op := Go.Op.move (Go.Operand.tmp 10), type := 34, pos := "keeps.go:120", after := #[], guard := none }) (v := ?_) rfl (by kernel_rfl) (by kernel_rfl) (by kernel_rfl) (fun _ _ _ h => h) (Or.inl ⟨by kernel_rfl, ?_⟩) (by assumption) ?_
          rotate_left
          · intro w _
            first | (go_simp; done) | (go_simp; with_reducible rfl)
          try simp only [Act.put, List.setIfInBounds_toArray, List.set_cons_zero, List.set_cons_succ]
          refine wpAnyH_take (i := 1) (oi := { dst := some 117, op := Go.Op.move (Go.Operand.tmp 22), type := 3, pos := "keeps.go:120", after := #[], guard := none }) (v := ?_) rfl (by kernel_rfl) (by kernel_rfl) (by kernel_rfl) (fun _ _ _ h => h) (Or.inl ⟨by kernel_rfl, ?_⟩) (by assumption) ?_
          rotate_left
          · intro w _
            first | (go_simp; done) | (go_simp; with_reducible rfl)
          try simp only [Act.put, List.setIfInBounds_toArray, List.set_cons_zero, List.set_cons_succ]
          refine wpAnyH_take (i := 2) (oi := { dst := some 118, op := Go.Op.indexAddr 34 (Go.Operand.tmp 116) (Go.Operand.tmp 117), type := 0, pos := "keeps.go:120", after := #[{ on := 0, ground := Go.Ground.data }, { on := 1, ground := Go.Ground.data }], guard := none }) (v := ?_) rfl (by kernel_rfl) (by kernel_rfl) (by kernel_rfl) (fun _ _ _ h => h) (Or.inl ⟨by kernel_rfl, ?_⟩) (by assumption) ?_
          rotate_left
          · intro w _
            first | (go_simp; done) | (go_simp; with_reducible rfl)
          try simp only [Act.put, List.setIfInBounds_toArray, List.set_cons_zero, List.set_cons_succ]
          refine wpAnyH_take (i := 3) (oi := { dst := some 119, op := Go.Op.load 26 (Go.Operand.tmp 118), type := 26, pos := "keeps.go:120", after := #[{ on := 2, ground := Go.Ground.data }], guard := none }) (v := ?_) rfl (by kernel_rfl) (by kernel_rfl) (by kernel_rfl) (fun _ _ _ h => h) (Or.inl ⟨by kernel_rfl, ?_⟩) (by assumption) ?_
          rotate_left
          · intro w hSw
            (try dsimp only at hSw)
            go_split_ands
            first | (go_simp; done) | (go_simp; with_reducible rfl)
          try simp only [Act.put, List.setIfInBounds_toArray, List.set_cons_zero, List.set_cons_succ]
          refine wpAnyH_take (i := 4) (oi := { dst := some 120, op := Go.Op.move (Go.Operand.tmp 12), type := 34, pos := "keeps.go:120", after := #[], guard := none }) (v := ?_) rfl (by kernel_rfl) (by kernel_rfl) (by kernel_rfl) (fun _ _ _ h => h) (Or.inl ⟨by kernel_rfl, ?_⟩) (by assumption) ?_
          rotate_left
          · intro w _
            first | (go_simp; done) | (go_simp; with_reducible rfl)
          try simp only [Act.put, List.setIfInBounds_toArray, List.set_cons_zero, List.set_cons_succ]
          refine wpAnyH_take (i := 5) (oi := { dst := some 121, op := Go.Op.move (Go.Operand.tmp 22), type := 3, pos := "keeps.go:120", after := #[], guard := none }) (v := ?_) rfl (by kernel_rfl) (by kernel_rfl) (by kernel_rfl) (fun _ _ _ h => h) (Or.inl ⟨by kernel_rfl, ?_⟩) (by assumption) ?_
          rotate_left
          · intro w _
            first | (go_simp; done) | (go_simp; with_reducible rfl)
          try simp only [Act.put, List.setIfInBounds_toArray, List.set_cons_zero, List.set_cons_succ]
          refine wpAnyH_take (i := 6) (oi := { dst := some 122, op := Go.Op.indexAddr 34 (Go.Operand.tmp 120) (Go.Operand.tmp 121), type := 0, pos := "keeps.go:120", after := #[{ on := 4, ground := Go.Ground.data }, { on := 5, ground := Go.Ground.data }], guard := none }) (v := ?_) rfl (by kernel_rfl) (by kernel_rfl) (by kernel_rfl) (fun _ _ _ h => h) (Or.inl ⟨by kernel_rfl, ?_⟩) (by assumption) ?_
          rotate_left
          · intro w _
            first | (go_simp; done) | (go_simp; with_reducible rfl)
          try simp only [Act.put, List.setIfInBounds_toArray, List.set_cons_zero, List.set_cons_succ]
          refine wpAnyH_take (i := 7) (oi := { dst := some 123, op := Go.Op.load 26 (Go.Operand.tmp 122), type := 26, pos := "keeps.go:120", after := #[{ on := 6, ground := Go.Ground.data }], guard := none }) (v := ?_) rfl (by kernel_rfl) (by kernel_rfl) (by kernel_rfl) (fun _ _ _ h => h) (Or.inl ⟨by kernel_rfl, ?_⟩) (by assumption) ?_
          rotate_left
          · intro w hSw
            (try dsimp only at hSw)
            go_split_ands
            first | (go_simp; done) | (go_simp; with_reducible rfl)
          try simp only [Act.put, List.setIfInBounds_toArray, List.set_cons_zero, List.set_cons_succ]
          refine wpAnyH_ready (rs := [8]) (by kernel_rfl) (by simp) ?_
          refine AllReadyH.cons (o := { dst := some 124, op := Go.Op.call { callee := Go.Callee.value (Go.Operand.func 22), args := #[Go.Operand.tmp 119, Go.Operand.tmp 123], argTypes := #[26, 26] }, type := 4, pos := "keeps.go:120", after := #[{ on := 3, ground := Go.Ground.data }, { on := 7, ground := Go.Ground.data }], guard := none }) rfl (fun K hK => ?_) AllReadyH.nil
          go_simp
          go_at_call 22
          refine (S1.out _ (show Below wr.heap.size wr wr.drew from by go_split_ands; assumption)).mono ?_
          rintro e wc1 ⟨rfl, hb3⟩
          have Sc1 := HS.out _ _ (by assumption) hb3
          refine hK.out _ _ Sc1 (fun _ => ?_)
          clear hK K hb3
          try simp only [Act.put, List.setIfInBounds_toArray, List.set_cons_zero, List.set_cons_succ]
          refine wpAnyH_take (i := 9) (oi := { dst := some 125, op := Go.Op.unOp Go.UnOp.not 4 (Go.Operand.tmp 124), type := 4, pos := "keeps.go:120", after := #[{ on := 8, ground := Go.Ground.data }], guard := none }) (v := ?_) rfl (by kernel_rfl) (by kernel_rfl) (by kernel_rfl) (fun _ _ _ h => h) (Or.inl ⟨by kernel_rfl, ?_⟩) (by assumption) ?_
          rotate_left
          · intro w _
            first | (go_simp; done) | (go_simp; with_reducible rfl)
          try simp only [Act.put, List.setIfInBounds_toArray, List.set_cons_zero, List.set_cons_succ]
          refine wpAnyH_take (i := 10) (oi := { dst := some 126, op := Go.Op.move (Go.Operand.tmp 125), type := 4, pos := "keeps.go:120", after := #[{ on := 9, ground := Go.Ground.data }, { on := 8, ground := Go.Ground.chain }], guard := none }) (v := ?_) rfl (by kernel_rfl) (by kernel_rfl) (by kernel_rfl) (fun _ _ _ h => h) (Or.inl ⟨by kernel_rfl, ?_⟩) (by assumption) ?_
          rotate_left
          · intro w _
            first | (go_simp; done) | (go_simp; with_reducible rfl)
          try simp only [Act.put, List.setIfInBounds_toArray, List.set_cons_zero, List.set_cons_succ]
          refine wpAnyH_take (i := 11) (oi := { dst := some 127, op := Go.Op.move (Go.Operand.tmp 10), type := 34, pos := "keeps.go:120", after := #[{ on := 10, ground := Go.Ground.guard }], guard := some (10, false) }) (v := ?_) rfl (by kernel_rfl) (by kernel_rfl) (by kernel_rfl) (fun _ _ _ h => h) (Or.inl ⟨by kernel_rfl, ?_⟩) (by assumption) ?_
          rotate_left
          · intro w _
            first | (go_simp; done) | (go_simp; with_reducible rfl)
          try simp only [Act.put, List.setIfInBounds_toArray, List.set_cons_zero, List.set_cons_succ]
          refine wpAnyH_take (i := 12) (oi := { dst := some 128, op := Go.Op.move (Go.Operand.tmp 22), type := 3, pos := "keeps.go:120", after := #[{ on := 10, ground := Go.Ground.guard }], guard := some (10, false) }) (v := ?_) rfl (by kernel_rfl) (by kernel_rfl) (by kernel_rfl) (fun _ _ _ h => h) (Or.inl ⟨by kernel_rfl, ?_⟩) (by assumption) ?_
          rotate_left
          · intro w _
            first | (go_simp; done) | (go_simp; with_reducible rfl)
          try simp only [Act.put, List.setIfInBounds_toArray, List.set_cons_zero, List.set_cons_succ]
          refine wpAnyH_take (i := 13) (oi := { dst := some 129, op := Go.Op.indexAddr 34 (Go.Operand.tmp 127) (Go.Operand.tmp 128), type := 0, pos := "keeps.go:120", after := #[{ on := 11, ground := Go.Ground.data }, { on := 12, ground := Go.Ground.data }, { on := 10, ground := Go.Ground.guard }], guard := some (10, false) }) (v := ?_) rfl (by kernel_rfl) (by kernel_rfl) (by kernel_rfl) (fun _ _ _ h => h) (Or.inl ⟨by kernel_rfl, ?_⟩) (by assumption) ?_
          rotate_left
          · intro w _
            first | (go_simp; done) | (go_simp; with_reducible rfl)
          try simp only [Act.put, List.setIfInBounds_toArray, List.set_cons_zero, List.set_cons_succ]
          refine wpAnyH_take (i := 14) (oi := { dst := some 130, op := Go.Op.load 26 (Go.Operand.tmp 129), type := 26, pos := "keeps.go:120", after := #[{ on := 13, ground := Go.Ground.data }, { on := 10, ground := Go.Ground.guard }], guard := some (10, false) }) (v := ?_) rfl (by kernel_rfl) (by kernel_rfl) (by kernel_rfl) (fun _ _ _ h => h) (Or.inl ⟨by kernel_rfl, ?_⟩) (by assumption) ?_
          rotate_left
          · intro w hSw
            (try dsimp only at hSw)
            go_split_ands
            first | (go_simp; done) | (go_simp; with_reducible rfl)
          try simp only [Act.put, List.setIfInBounds_toArray, List.set_cons_zero, List.set_cons_succ]
          refine wpAnyH_take (i := 15) (oi := { dst := some 131, op := Go.Op.move (Go.Operand.tmp 14), type := 34, pos := "keeps.go:120", after := #[{ on := 10, ground := Go.Ground.guard }], guard := some (10, false) }) (v := ?_) rfl (by kernel_rfl) (by kernel_rfl) (by kernel_rfl) (fun _ _ _ h => h) (Or.inl ⟨by kernel_rfl, ?_⟩) (by assumption) ?_
          rotate_left
          · intro w _
            first | (go_simp; done) | (go_simp; with_reducible rfl)
          try simp only [Act.put, List.setIfInBounds_toArray, List.set_cons_zero, List.set_cons_succ]
          refine wpAnyH_take (i := 16) (oi := { dst := some 132, op := Go.Op.move (Go.Operand.tmp 22), type := 3, pos := "keeps.go:120", after := #[{ on := 10, ground := Go.Ground.guard }], guard := some (10, false) }) (v := ?_) rfl (by kernel_rfl) (by kernel_rfl) (by kernel_rfl) (fun _ _ _ h => h) (Or.inl ⟨by kernel_rfl, ?_⟩) (by assumption) ?_
          rotate_left
          · intro w _
            first | (go_simp; done) | (go_simp; with_reducible rfl)
          try simp only [Act.put, List.setIfInBounds_toArray, List.set_cons_zero, List.set_cons_succ]
          refine wpAnyH_take (i := 17) (oi := { dst := some 133, op := Go.Op.indexAddr 34 (Go.Operand.tmp 131) (Go.Operand.tmp 132), type := 0, pos := "keeps.go:120", after := #[{ on := 15, ground := Go.Ground.data }, { on := 16, ground := Go.Ground.data }, { on := 10, ground := Go.Ground.guard }], guard := some (10, false) }) (v := ?_) rfl (by kernel_rfl) (by kernel_rfl) (by kernel_rfl) (fun _ _ _ h => h) (Or.inl ⟨by kernel_rfl, ?_⟩) (by assumption) ?_
          rotate_left
          · intro w _
            first | (go_simp; done) | (go_simp; with_reducible rfl)
          try simp only [Act.put, List.setIfInBounds_toArray, List.set_cons_zero, List.set_cons_succ]
          refine wpAnyH_take (i := 18) (oi := { dst := some 134, op := Go.Op.load 26 (Go.Operand.tmp 133), type := 26, pos := "keeps.go:120", after := #[{ on := 17, ground := Go.Ground.data }, { on := 10, ground := Go.Ground.guard }], guard := some (10, false) }) (v := ?_) rfl (by kernel_rfl) (by kernel_rfl) (by kernel_rfl) (fun _ _ _ h => h) (Or.inl ⟨by kernel_rfl, ?_⟩) (by assumption) ?_
          rotate_left
          · intro w hSw
            (try dsimp only at hSw)
            go_split_ands
            first | (go_simp; done) | (go_simp; with_reducible rfl)
          try simp only [Act.put, List.setIfInBounds_toArray, List.set_cons_zero, List.set_cons_succ]
          refine wpAnyH_ready (rs := [19]) (by kernel_rfl) (by simp) ?_
          refine AllReadyH.cons (o := { dst := some 135, op := Go.Op.call { callee := Go.Callee.value (Go.Operand.func 22), args := #[Go.Operand.tmp 130, Go.Operand.tmp 134], argTypes := #[26, 26] }, type := 4, pos := "keeps.go:120", after := #[{ on := 14, ground := Go.Ground.data }, { on := 18, ground := Go.Ground.data }, { on := 10, ground := Go.Ground.chain }, { on := 10, ground := Go.Ground.guard }], guard := some (10, false) }) rfl (fun K hK => ?_) AllReadyH.nil
          go_simp
          go_at_call 22
          refine (S2.out _ (show Below wr.heap.size wr wc1 from by go_split_ands; assumption)).mono ?_
          rintro e wc2 ⟨rfl, hb3⟩
          have Sc2 := HS.out _ _ (by assumption) hb3
          refine hK.out _ _ Sc2 (fun _ => ?_)
          clear hK K hb3
          try simp only [Act.put, List.setIfInBounds_toArray, List.set_cons_zero, List.set_cons_succ]
          refine wpAnyH_take (i := 20) (oi := { dst := some 136, op := Go.Op.unOp Go.UnOp.not 4 (Go.Operand.tmp 135), type := 4, pos := "keeps.go:120", after := #[{ on := 19, ground := Go.Ground.data }, { on := 10, ground := Go.Ground.guard }], guard := some (10, false) }) (v := ?_) rfl (by kernel_rfl) (by kernel_rfl) (by kernel_rfl) (fun _ _ _ h => h) (Or.inl ⟨by kernel_rfl, ?_⟩) (by assumption) ?_
          rotate_left
          · intro w _
            first | (go_simp; done) | (go_simp; with_reducible rfl)
          try simp only [Act.put, List.setIfInBounds_toArray, List.set_cons_zero, List.set_cons_succ]
          refine wpAnyH_take (i := 21) (oi := { dst := some 137, op := Go.Op.pick (Go.Operand.tmp 126) (Go.Operand.const (Go.Value.bool true)) (Go.Operand.tmp 136), type := 4, pos := "keeps.go:120", after := #[{ on := 10, ground := Go.Ground.data }, { on := 20, ground := Go.Ground.data }], guard := none }) (v := ?_) rfl (by kernel_rfl) (by kernel_rfl) (by kernel_rfl) (fun _ _ _ h => h) (Or.inl ⟨by kernel_rfl, ?_⟩) (by assumption) ?_
          rotate_left
          · intro w _
            first | (go_simp; done) | (go_simp; with_reducible rfl)
          try simp only [Act.put, List.setIfInBounds_toArray, List.set_cons_zero, List.set_cons_succ]
          refine wpAnyH_done (by kernel_rfl) ?_ _
          have hbz := hop Hb.out (Nat.le_refl _) (show Below wr.heap.size wr wc2 from by go_split_ands; assumption)
          go_split_ands
          clear S1 S2 HS
          go_wp2
          go_round
          case rel => exact ⟨j + 1, by omega, by go_num, hbz⟩
          case measure => simp [intOf]; omega
        · obtain rfl : np = j := by omega
          have HF := Lib.hid (hop HB.out (Nat.le_refl _) hb)
          clear hb
          have z1 := HZT.out
          rcases (by omega : np < 2 ∨ ¬ np < 2) with hz | hz
          · have z2 : (np : Int) < 2 := by omega
            have z3 : zt = true := by rw [← z1]; exact decide_eq_true z2
            subst z3
            clear z1 HZT
            go_wp2
            go_ret
            exact ⟨by first | rfl | (simp; done), HF.out⟩
          · have z2 : ¬ (np : Int) < 2 := by omega
            have z3 : zt = false := by rw [← z1]; exact decide_eq_false z2
            subst z3
            clear z1 HZT
            go_wp2
            go_ret
            exact ⟨by first | rfl | (simp; done), HF.out⟩
    · obtain ⟨i, hki⟩ : ∃ i, k = i + 1 := ⟨k - 1, by omega⟩
      obtain rfl : z = (i : Int) := by rw [HZ.out, hki]; omega
      have hi0 : (0 : Int) ≤ (i : Int) := by omega
      have hiI : (i : Int) < (np : Int) := by omega
      have hwi : IntKind.i64.wrap ((i : Int) - 1) = (i : Int) - 1 := by rw [IntKind.wrap_i64]; omega
      obtain ⟨by_, oy, hA, hlty, hc⟩ := (Ep.out.below hb).at_ (by omega)
      obtain ⟨d1, d2, d3, gy⟩ := hc i (by omega)
      have yq : Lp[i]? = some (Lp.getD i xnil) := by
        have := HLp.out
        rw [List.getD_eq_getElem?_getD, List.getElem?_eq_getElem (by omega)]
        rfl
      obtain ⟨y, hy⟩ : ∃ t, Lp.getD i xnil = t := ⟨_, rfl⟩
      rw [hy] at d1 d2 d3 gy yq
      have Qy := Lib.hid yq
      have Gy := Lib.hid gy
      clear hc hy yq gy
      subst hA
      have hrev : (Lp.drop i).reverse = K ++ [y] := by
        have hlt : i < Lp.length := by rw [HLp.out]; omega
        have hyl : Lp[i] = y := (List.getElem?_eq_some_iff.1 Qy.out).2
        rw [HK.out, hki, List.drop_eq_getElem_cons hlt, List.reverse_cons, hyl]
      have HREV := Lib.hid hrev.symm
      have hK16 : K.length ≤ 16 := by omega
      have HHb := Lib.hid hb
      have hik : i ≤ np := by omega
      clear hrev hki hk0 hKl hb HK HZ
      go_wp2_with (at_builtin; refine wpList_append_own _ rfl (.tmp 66) (.tmp 71) 34 rfl w11.heap.size 26 i0 (.agg #[.int .i64 0, .slice none 0 0, .string ⟨#[]⟩]) 3 48 Try.underlying34 hi hz0 hz1 hz2 rfl (by decide) _ _ _ rfl (OwnR.alloc HOK.out.1 _) ⟨wr.heap.size, 0, none⟩ 1 1 (EntX.V y) rfl rfl (new_cells_at _ _ _ _ (by simp)) (entV_one _) (by unfold maxLen; omega) (by omega) (by simp; omega) ?_)
      intro n2 w6 hown2 hgrow2 _
      have hb6 := (HHb.out.alloc hs3 _).grown hgrow2 (by simp; omega) (fun r hr => (World.ownsRow.lt HOK.out.1 r hr).1)
      have ho6 := Lib.hid (OwnE.snoc (x := y) (HOK.out.alloc _) (Gy.out.below ((Below.refl _ _).alloc (Nat.le_refl _) _)) HB.out.size hgrow2 hown2)
      clear hown2 hgrow2
      go_wp2
      go_round
      case rel => exact ⟨i, _, _, hik, rfl, Lib.hid rfl, HREV, ho6, hb6⟩
      case measure => simp [intOf]
end Go.Proofs.Ytilcanblgdmecaa
