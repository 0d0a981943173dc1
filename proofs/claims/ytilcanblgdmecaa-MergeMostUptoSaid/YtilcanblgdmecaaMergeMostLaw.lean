/- The first so many of what is merged are what is merged of the first so many: the walk of MergeMost. -/
import Derived.Test.YtilcanblgdmecaaMergeSort
namespace Go.Proofs.Ytilcanblgdmecaa
open Go.RowKit
set_option linter.unusedVariables false
set_option linter.unusedSimpArgs false

theorem bdu8m {x : Int} (h : (Lit.int .u8 x).wf = true) : 0 ≤ x ∧ x ≤ 255 := by
  simpa [Lit.wf, IntKind.min, IntKind.max, IntKind.signed, IntKind.bits] using h
set_option maxRecDepth 100000 in
set_option maxHeartbeats 1600000 in
theorem mergeMost_walk {W : World} (AX : Option Addr) (nX cX : Nat) (lX : List ItemX) (AY : Option Addr) (nY cY : Nat) (lY : List ItemX) (m : Int) (asc : Bool) (hX : ItemsP W.heap.size W AX nX lX) (ulX : sumN (lX.map itemK) ≤ 1048576) (hncX : nX ≤ cX) (hcmX : cX ≤ maxLen)
    (hY : ItemsP W.heap.size W AY nY lY) (ulY : sumN (lY.map itemK) ≤ 1048576) (hncY : nY ≤ cY) (hcmY : cY ≤ maxLen) (hm : (Lit.int .u8 m).wf = true) :
    Calls Try.prog 5 #[.slice AX nX cX, .slice AY nY cY, .int .u8 m, .bool asc] W fun e w' => e = .returned (.bool true) ∧ Below W.heap.size W w' := by
  have h0 : W.heap.size ≤ W.heap.size := Nat.le_refl _
  have HX := Lib.hid (mergeExamples_any W)
  obtain ⟨m0, m1⟩ := bdu8m hm
  obtain ⟨q, hq⟩ : ∃ q : Nat, m.tmod 20 = (q : Int) := ⟨(m.tmod 20).toNat, by rw [Int.tmod_eq_emod_of_nonneg m0]; omega⟩
  have hq20 : q < 20 := by rw [Int.tmod_eq_emod_of_nonneg m0] at hq; omega
  have qw1 : IntKind.u8.wrap (m.tmod 20) = (q : Int) := by rw [hq, IntKind.wrap_u8]; omega
  have qw2 : IntKind.i64.wrap (q : Int) = (q : Int) := by rw [IntKind.wrap_i64]; omega
  have qw3 : IntKind.i64.wrap (-(q : Int)) = -(q : Int) := by rw [IntKind.wrap_i64]; omega
  have qw4 : IntKind.u8.wrap (q : Int) = (q : Int) := by rw [IntKind.wrap_u8]; omega
  have ITX := Lib.hid (fun w (h : Below W.heap.size W w) => items_any W.heap.size AX nX cX 8 lX (by unfold maxLen at hcmX; omega) (by decide) w h.size (hX.below h))
  have GIX := Lib.hid (And.intro hX.2 ulX)
  have ITY := Lib.hid (fun w (h : Below W.heap.size W w) => items_any W.heap.size AY nY cY 8 lY (by unfold maxLen at hcmY; omega) (by decide) w h.size (hY.below h))
  have GIY := Lib.hid (And.intro hY.2 ulY)
  clear hX ulX hncX hcmX hY ulY hncY hcmY hm m0 m1
  go_enter Try.func5, Try.ntmps5
  go_wp2_with fail
  refine HX.out.mono ?_
  rintro e w1 ⟨rfl, hx⟩
  have HB := Lib.hid hx
  clear hx HX
  go_wp2_with fail
  refine (ITX.out _ HB.out).mono ?_
  rintro e w2 ⟨vu, Lu, rfl, ho, hL, hx⟩
  have hlen : Lu.length ≤ 8 := by
    have h3 := congrArg List.length hL
    rw [List.length_map] at h3
    have := itemsB_len lX 8
    omega
  have Nu := Lib.hid (items_n GIX.out.1 GIX.out.2 hL ho.2)
  replace HB := Lib.hid (hop HB.out (Nat.le_refl _) hx)
  have hcap := ho.1
  obtain ⟨Au, cu, rfl, _, _, hE⟩ := ho.ents
  have Eu := Lib.hid hE
  have Cu := Lib.hid (OwnR.cap hcap)
  have Mu := Lib.hid hlen
  clear ho hL hx hE hcap
  have SO := Lib.hid (sorted_any W.heap.size Au cu Lu asc (by have := Mu.out; omega) Nu.out w2 HB.out.size Eu.out)
  go_wp2_with fail
  refine SO.out.mono ?_
  rintro e w3 ⟨va, La, rfl, ho, hs, hlen, hn, hx⟩
  have Na := Lib.hid hn
  have Sa := Lib.hid hs
  clear Eu
  replace HB := Lib.hid (hop HB.out (Nat.le_refl _) hx)
  have hcap := ho.1
  obtain ⟨Aa, ca, rfl, _, _, hE⟩ := ho.ents
  have Ca := Lib.hid (OwnR.cap hcap)
  have Ma := Lib.hid (show La.length ≤ 8 by rw [hlen]; exact Mu.out)
  obtain ⟨na, hnk⟩ : ∃ n, La.length = n := ⟨_, rfl⟩
  have HLa := Lib.hid hnk
  rw [hnk] at hE Ca Ma ⊢
  have Ea := Lib.hid hE
  clear ho hs hlen hn hx hE hcap hnk SO Cu Nu Mu
  go_wp2_with fail
  refine (ITY.out _ HB.out).mono ?_
  rintro e w4 ⟨vv, Lv, rfl, ho, hL, hx⟩
  have hlen : Lv.length ≤ 8 := by
    have h3 := congrArg List.length hL
    rw [List.length_map] at h3
    have := itemsB_len lY 8
    omega
  have Nv := Lib.hid (items_n GIY.out.1 GIY.out.2 hL ho.2)
  replace Ea := Lib.hid (Ea.out.below hx)
  replace HB := Lib.hid (hop HB.out (Nat.le_refl _) hx)
  have hcap := ho.1
  obtain ⟨Av, cv, rfl, _, _, hE⟩ := ho.ents
  have Ev := Lib.hid hE
  have Cv := Lib.hid (OwnR.cap hcap)
  have Mv := Lib.hid hlen
  clear ho hL hx hE hcap
  have SO := Lib.hid (sorted_any W.heap.size Av cv Lv asc (by have := Mv.out; omega) Nv.out w4 HB.out.size Ev.out)
  go_wp2_with fail
  refine SO.out.mono ?_
  rintro e w5 ⟨vb, Lb, rfl, ho, hs, hlen, hn, hx⟩
  have Nb := Lib.hid hn
  have Sb := Lib.hid hs
  clear Ev
  replace Ea := Lib.hid (Ea.out.below hx)
  replace HB := Lib.hid (hop HB.out (Nat.le_refl _) hx)
  have hcap := ho.1
  obtain ⟨Ab, cb, rfl, _, _, hE⟩ := ho.ents
  have Cb := Lib.hid (OwnR.cap hcap)
  have Mb := Lib.hid (show Lb.length ≤ 8 by rw [hlen]; exact Mv.out)
  obtain ⟨nb, hnk⟩ : ∃ n, Lb.length = n := ⟨_, rfl⟩
  have HLb := Lib.hid hnk
  rw [hnk] at hE Cb Mb ⊢
  have Eb := Lib.hid hE
  clear ho hs hlen hn hx hE hcap hnk SO Cv Nv Mv
  have SL := Lib.hid (show sortedLs asc [⟨Aa, na, ca, La⟩, ⟨Ab, nb, cb, Lb⟩] = true by simp only [sortedLs, List.all_cons, List.all_nil, sortedA_E Sa.out, sortedA_E Sb.out, Bool.and_self])
  obtain ⟨gp, hgp⟩ : ∃ g, w5.heap.size = g := ⟨_, rfl⟩
  obtain ⟨w6, hw6⟩ : ∃ z, w5.alloc (.cells #[.slice Aa na ca, .slice Ab nb cb] 34) = z := ⟨_, rfl⟩
  have bw6 : Below w5.heap.size w5 w6 := by rw [← hw6]; exact (Below.refl _ _).alloc (Nat.le_refl _) _
  have AL := all_lists W.heap.size asc 100 [⟨Aa, na, ca, La⟩, ⟨Ab, nb, cb, Lb⟩] 2 rfl w5 w6 gp hgp 34 hw6 (by
    intro x hx
    simp only [List.mem_cons, List.mem_nil_iff, or_false] at hx
    rcases hx with rfl | rfl
    · exact ⟨Ea.out, Ca.out⟩
    · exact ⟨Eb.out, Cb.out⟩) true SL.out (by simp only [totL, List.map_cons, List.map_nil, List.sum_cons, List.sum_nil]; have := Ma.out; have := Mb.out; omega) HB.out.size
  replace AL := Lib.hid AL
  replace Ea := Lib.hid (Ea.out.below bw6)
  replace Eb := Lib.hid (Eb.out.below bw6)
  replace HB := Lib.hid (hop HB.out (Nat.le_refl _) bw6)
  go_wp2_with fail
  refine AL.out.mono ?_
  rintro e w7 ⟨Ap, np, cp, Lp, rfl, hE, hl, hc, hL, hx⟩
  replace Ea := Lib.hid (Ea.out.below hx)
  replace Eb := Lib.hid (Eb.out.below hx)
  replace HB := Lib.hid (hop HB.out (Nat.le_refl _) hx)
  have Ep := Lib.hid hE
  have HLp := Lib.hid hl
  have Cp := Lib.hid hc
  have Rp := Lib.hid hL
  clear hE hl hc hL hx hw6 hgp bw6 AL
  obtain ⟨gs, hgs⟩ : ∃ g, w7.heap.size = g := ⟨_, rfl⟩
  obtain ⟨w8, hw8⟩ : ∃ z, w7.alloc (.cells #[.slice Aa na ca, .slice Ab nb cb] 34) = z := ⟨_, rfl⟩
  have bw8 : Below w7.heap.size w7 w8 := by rw [← hw8]; exact (Below.refl _ _).alloc (Nat.le_refl _) _
  have AL := all_lists W.heap.size asc (q : Int) [⟨Aa, na, ca, La⟩, ⟨Ab, nb, cb, Lb⟩] 2 rfl w7 w8 gs hgs 34 hw8 (by
    intro x hx
    simp only [List.mem_cons, List.mem_nil_iff, or_false] at hx
    rcases hx with rfl | rfl
    · exact ⟨Ea.out, Ca.out⟩
    · exact ⟨Eb.out, Cb.out⟩) true SL.out (by simp only [totL, List.map_cons, List.map_nil, List.sum_cons, List.sum_nil]; have := Ma.out; have := Mb.out; omega) HB.out.size
  replace AL := Lib.hid AL
  replace Ea := Lib.hid (Ea.out.below bw8)
  replace Eb := Lib.hid (Eb.out.below bw8)
  replace Ep := Lib.hid (Ep.out.below bw8)
  replace HB := Lib.hid (hop HB.out (Nat.le_refl _) bw8)
  go_wp2_with fail
  refine AL.out.mono ?_
  rintro e w9 ⟨As, ns, cs, Ls, rfl, hE, hl, hc, hL, hx⟩
  replace Ea := Lib.hid (Ea.out.below hx)
  replace Eb := Lib.hid (Eb.out.below hx)
  replace Ep := Lib.hid (Ep.out.below hx)
  replace HB := Lib.hid (hop HB.out (Nat.le_refl _) hx)
  have Es := Lib.hid hE
  have HLs := Lib.hid hl
  have Cs := Lib.hid hc
  have Rs := Lib.hid hL
  clear hE hl hc hL hx hw8 hgs bw8 AL
  obtain ⟨gz, hgz⟩ : ∃ g, w9.heap.size = g := ⟨_, rfl⟩
  obtain ⟨w10, hw10⟩ : ∃ z, w9.alloc (.cells #[.slice Aa na ca, .slice Ab nb cb] 34) = z := ⟨_, rfl⟩
  have bw10 : Below w9.heap.size w9 w10 := by rw [← hw10]; exact (Below.refl _ _).alloc (Nat.le_refl _) _
  have AL := all_lists W.heap.size asc (-(q : Int)) [⟨Aa, na, ca, La⟩, ⟨Ab, nb, cb, Lb⟩] 2 rfl w9 w10 gz hgz 34 hw10 (by
    intro x hx
    simp only [List.mem_cons, List.mem_nil_iff, or_false] at hx
    rcases hx with rfl | rfl
    · exact ⟨Ea.out, Ca.out⟩
    · exact ⟨Eb.out, Cb.out⟩) true SL.out (by simp only [totL, List.map_cons, List.map_nil, List.sum_cons, List.sum_nil]; have := Ma.out; have := Mb.out; omega) HB.out.size
  replace AL := Lib.hid AL
  replace Ea := Lib.hid (Ea.out.below bw10)
  replace Eb := Lib.hid (Eb.out.below bw10)
  replace Ep := Lib.hid (Ep.out.below bw10)
  replace Es := Lib.hid (Es.out.below bw10)
  replace HB := Lib.hid (hop HB.out (Nat.le_refl _) bw10)
  go_wp2_with fail
  refine AL.out.mono ?_
  rintro e w11 ⟨Az, nz, cz, Lz, rfl, hE, hl, hc, hL, hx⟩
  replace Ea := Lib.hid (Ea.out.below hx)
  replace Eb := Lib.hid (Eb.out.below hx)
  replace Ep := Lib.hid (Ep.out.below hx)
  replace Es := Lib.hid (Es.out.below hx)
  replace HB := Lib.hid (hop HB.out (Nat.le_refl _) hx)
  have Ez := Lib.hid hE
  have HLz := Lib.hid hl
  have Cz := Lib.hid hc
  have Rz := Lib.hid hL
  clear hE hl hc hL hx hw10 hgz bw10 AL
  have WH := Lib.hid (show Lp.map EntX.b = uniqB asc (allB [⟨Aa, na, ca, La⟩, ⟨Ab, nb, cb, Lb⟩]) by
    rw [Rp.out]
    refine merge_whole SL.out (fun x hx => ?_) ?_
    · simp only [List.mem_cons, List.mem_nil_iff, or_false] at hx
      rcases hx with rfl | rfl
      · exact HLa.out
      · exact HLb.out
    · simp only [totL, List.map_cons, List.map_nil, List.sum_cons, List.sum_nil]
      have := Ma.out
      have := Mb.out
      show _ ≤ 100
      omega)
  have WS := Lib.hid (show Ls.map EntX.b = (uniqB asc (allB [⟨Aa, na, ca, La⟩, ⟨Ab, nb, cb, Lb⟩])).take q by
    rw [Rs.out]
    unfold mergeB
    rw [if_pos SL.out]
    rfl)
  have WZ : nz = 0 := by
    have h1 := congrArg List.length Rz.out
    rw [List.length_map, HLz.out] at h1
    rw [h1]
    unfold mergeB
    rw [if_pos SL.out, show (-(q : Int)).toNat = 0 by omega, List.take_zero]
    rfl
  have WN : ns = min q np := by
    have h1 := congrArg List.length WS.out
    have h2 := congrArg List.length WH.out
    rw [List.length_map, List.length_take] at h1
    rw [List.length_map] at h2
    rw [HLs.out] at h1
    rw [HLp.out] at h2
    rw [h1, ← h2]
  have hnp : ns ≤ np := by omega
  subst WZ
  clear Rp Rs Rz SL Ez Ea Eb
  have q1 : (ns : Int) = min (q : Int) (np : Int) := by omega
  go_wp2
  go_loopw [19] (fun iv wr => ∃ j : Nat, j ≤ ns ∧ iv = .int .i64 (j : Int) ∧ Below w11.heap.size w11 wr) (fun iv _ => ns - (intOf iv).toNat)
  case atStart => exact ⟨0, Nat.zero_le _, rfl, Below.refl _ _⟩
  case round =>
    obtain ⟨j, hjn, rfl, hb⟩ := hrel
    by_cases hj : j < ns
    · have hjI : (j : Int) < (ns : Int) := by omega
      have hjJ : (j : Int) < (np : Int) := by omega
      obtain ⟨bx, ox, hA, hltx, hc⟩ := (Es.out.below hb).at_ (by omega)
      obtain ⟨c1, c2, c3, gx⟩ := hc j (by omega)
      have xq : Ls[j]? = some (Ls.getD j xnil) := by
        have := HLs.out
        rw [List.getD_eq_getElem?_getD, List.getElem?_eq_getElem (by omega)]
        rfl
      obtain ⟨x, hx⟩ : ∃ t, Ls.getD j xnil = t := ⟨_, rfl⟩
      rw [hx] at c1 c2 c3 gx xq
      have Qx := Lib.hid xq
      have Gx := Lib.hid gx
      clear hc hx xq gx
      have hAs := hA
      clear hA
      obtain ⟨by_, oy, hA, hlty, hc⟩ := (Ep.out.below hb).at_ (by omega)
      obtain ⟨d1, d2, d3, gy⟩ := hc j (by omega)
      have yq : Lp[j]? = some (Lp.getD j xnil) := by
        have := HLp.out
        rw [List.getD_eq_getElem?_getD, List.getElem?_eq_getElem (by omega)]
        rfl
      obtain ⟨y, hy⟩ : ∃ t, Lp.getD j xnil = t := ⟨_, rfl⟩
      rw [hy] at d1 d2 d3 gy yq
      have Qy := Lib.hid yq
      have Gy := Lib.hid gy
      clear hc hy yq gy
      subst hA
      subst hAs
      have SA := fun w (h : Below wr.heap.size wr w) => same_good x y w (Gx.out.below h) (Gy.out.below h)
      rw [show sameE x.b y.b = true from sameE_iff.2 (take_b WH.out WS.out Qx.out Qy.out)] at SA
      replace SA := Lib.hid SA
      have Hb := Lib.hid hb
      clear hb
      have S0 : Below wr.heap.size wr wr.drew := (Below.refl _ _).drew
      go_wp2
      go_region_held3 (fun w' => Below wr.heap.size wr w' ∧ w'.cell? ⟨bx, ox + j * 3, none⟩ = some (.int .i64 x.ts) ∧ w'.cell? ⟨bx, ox + j * 3 + 1, none⟩ = some (.slice x.A x.n x.c) ∧ w'.cell? ⟨bx, ox + j * 3 + 2, none⟩ = some (.string x.ln) ∧ w'.cell? ⟨by_, oy + j * 3, none⟩ = some (.int .i64 y.ts) ∧ w'.cell? ⟨by_, oy + j * 3 + 1, none⟩ = some (.slice y.A y.n y.c) ∧ w'.cell? ⟨by_, oy + j * 3 + 2, none⟩ = some (.string y.ln))
        (first | assumption | exact ⟨by assumption, by assumption, by assumption, by assumption, by assumption, by assumption, by assumption⟩ | exact ⟨by assumption, (hb5.cell (p := ⟨_, _, none⟩) hltx).trans c1, (hb5.cell (p := ⟨_, _, none⟩) hltx).trans c2, (hb5.cell (p := ⟨_, _, none⟩) hltx).trans c3, (hb5.cell (p := ⟨_, _, none⟩) hlty).trans d1, (hb5.cell (p := ⟨_, _, none⟩) hlty).trans d2, (hb5.cell (p := ⟨_, _, none⟩) hlty).trans d3⟩)
        (first | (go_at_call 22; refine (SA.out _ S0).mono ?_; rintro e wz ⟨rfl, hb5⟩; replace hb5 : Below wr.heap.size wr wz := ⟨hb5.os, hb5.tape, hb5.output, hb5.size, hb5.block⟩))
      all_goals
        have hbz := hop Hb.out (Nat.le_refl _) hb5
        clear hb5 c1 c2 c3 d1 d2 d3 SA S0
        go_wp2
        go_round
        case rel => exact ⟨j + 1, by omega, by go_num, hbz⟩
        case measure => simp [intOf]; omega
    · obtain rfl : ns = j := by omega
      have HF := Lib.hid (hop HB.out (Nat.le_refl _) hb)
      clear hb
      go_wp2
      go_ret
      exact ⟨by first | rfl | (simp; done), HF.out⟩
end Go.Proofs.Ytilcanblgdmecaa
