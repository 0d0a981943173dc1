/- Of those up to an end none stands behind it, and all others do: the walk of MergeEnds. -/
import Derived.Test.YtilcanblgdmecaaMergeExam
namespace Go.Proofs.Ytilcanblgdmecaa
open Go.RowKit
set_option linter.unusedVariables false
set_option linter.unusedSimpArgs false

theorem firstF_min (asc : Bool) (l : List EntX) : ∀ f, aheadB f.b (firstF asc f l).b asc = false ∧ ∀ x ∈ l, aheadB x.b (firstF asc f l).b asc = false := by
  induction l with
  | nil => intro f; exact ⟨ahead_irr _ _, fun x hx => absurd hx List.not_mem_nil⟩
  | cons e l ih =>
    intro f
    rw [firstF]
    by_cases h : aheadB e.b f.b asc = true
    · rw [if_pos h]
      obtain ⟨h1, h2⟩ := ih e
      refine ⟨ahead_not (ahead_anti h) h1, fun x hx => ?_⟩
      rcases List.mem_cons.1 hx with rfl | hx
      · exact h1
      · exact h2 x hx
    · rw [if_neg h]
      obtain ⟨h1, h2⟩ := ih f
      refine ⟨h1, fun x hx => ?_⟩
      rcases List.mem_cons.1 hx with rfl | hx
      · exact ahead_not (by simpa using h) h1
      · exact h2 x hx
theorem firstE_min (asc : Bool) (l : List EntX) : ∀ x ∈ l, aheadB x.b (firstE asc l).b asc = false := by
  cases l with
  | nil => intro x hx; exact absurd hx List.not_mem_nil
  | cons f l =>
    obtain ⟨h1, h2⟩ := firstF_min asc l f
    intro x hx
    rcases List.mem_cons.1 hx with rfl | hx
    · exact h1
    · exact h2 x hx
theorem upto_at {asc : Bool} {u : EntB} {l : List EntX} {j : Nat} {y : EntX} (hy : l[j]? = some y) (h : aheadB u y.b asc = false) : (uptoE asc u l)[(uptoE asc u (l.take j)).length]? = some y ∧ (uptoE asc u (l.take (j + 1))).length = (uptoE asc u (l.take j)).length + 1 := by
  have hj : j < l.length := (List.getElem?_eq_some_iff.1 hy).1
  have he : l[j] = y := (List.getElem?_eq_some_iff.1 hy).2
  have hl : l = l.take j ++ y :: l.drop (j + 1) := by rw [← he, ← List.drop_eq_getElem_cons hj, List.take_append_drop]
  have ht : l.take (j + 1) = l.take j ++ [y] := by rw [List.take_succ_eq_append_getElem hj, he]
  refine ⟨?_, ?_⟩
  · conv => lhs; lhs; rw [hl]
    unfold uptoE
    rw [List.filter_append, List.filter_cons_of_pos (by rw [h]; rfl), List.getElem?_append_right (Nat.le_refl _), Nat.sub_self]
    rfl
  · rw [ht]
    unfold uptoE
    rw [List.filter_append, List.filter_cons_of_pos (by rw [h]; rfl), List.length_append]
    rfl
theorem upto_skip {asc : Bool} {u : EntB} {l : List EntX} {j : Nat} {y : EntX} (hy : l[j]? = some y) (h : aheadB u y.b asc = true) : (uptoE asc u (l.take (j + 1))).length = (uptoE asc u (l.take j)).length := by
  have hj : j < l.length := (List.getElem?_eq_some_iff.1 hy).1
  have he : l[j] = y := (List.getElem?_eq_some_iff.1 hy).2
  rw [List.take_succ_eq_append_getElem hj, he]
  unfold uptoE
  rw [List.filter_append, List.filter_cons_of_neg (by rw [h]; decide), List.filter_nil, List.append_nil]

theorem OwnR.cap {α : Type} {V : α → List Value} {s : Nat} {w : World} {B ty : Nat} {A : Option Addr} {n c : Nat} {l : List α} (h : OwnR V s w B ty (.slice A n c) l) : n ≤ c ∧ c ≤ maxLen := by
  rcases h.2 with ⟨e, _⟩ | ⟨g, cap, cur, e, _, _, hc, hm, _⟩
  · injection e with e1 e2 e3
    subst e2 e3
    exact ⟨Nat.le_refl _, Nat.zero_le _⟩
  · injection e with e1 e2 e3
    subst e2 e3
    exact ⟨hc, hm⟩
set_option maxRecDepth 100000 in
set_option maxHeartbeats 1600000 in
theorem mergeEnds_walk {W : World} (A : Option Addr) (n c : Nat) (l : List ItemX) (x : ItemX) (asc : Bool) (h1 : ItemsP W.heap.size W A n l) (hnc : n ≤ c) (hcm : c ≤ maxLen) (hx : GoodI W.heap.size W x) :
    Calls Try.prog 6 #[.slice A n c, x.val, .bool asc] W fun e w' => e = .returned (.bool true) ∧ Below W.heap.size W w' := by
  have h0 : W.heap.size ≤ W.heap.size := Nat.le_refl _
  have hn : n ≤ 9223372036854775807 := by unfold maxLen at hcm; omega
  obtain ⟨g4, hg4⟩ : ∃ g, W.heap.size = g := ⟨_, rfl⟩
  obtain ⟨w1, hw1⟩ : ∃ z, W.alloc (.cells #[.int .i64 x.e.ts, .slice x.e.A x.e.n x.e.c, .string x.e.ln, .bool x.own, .int .i8 x.t, .slice x.LA x.Ln x.Lc, .int .u8 (x.k : Int)] 30) = z := ⟨_, rfl⟩
  have B4 : Blk w1 g4 30 #[.int .i64 x.e.ts, .slice x.e.A x.e.n x.e.c, .string x.e.ln, .bool x.own, .int .i8 x.t, .slice x.LA x.Ln x.Lc, .int .u8 (x.k : Int)] := by rw [← hw1, ← hg4]; exact Blk.new _ _ _
  have hb1 : Below W.heap.size W w1 := by rw [← hw1]; exact (Below.refl _ _).alloc h0 _
  have HB4 := Lib.hid B4
  have Hb1 := Lib.hid hb1
  have HX := Lib.hid (mergeExamples_any w1)
  have IT := Lib.hid (fun w (h : Below W.heap.size W w) => items_any W.heap.size A n c 10 l hn (by decide) w h.size (h1.below h))
  have IX := Lib.hid (fun w (h : Below W.heap.size W w) => item_any W.heap.size x w (hx.below h))
  have LN := Lib.hid (itemsB_len l 10)
  have hxv : x.val = .agg #[.int .i64 x.e.ts, .slice x.e.A x.e.n x.e.c, .string x.e.ln, .bool x.own, .int .i8 x.t, .slice x.LA x.Ln x.Lc, .int .u8 (x.k : Int)] := rfl
  rw [hxv]
  clear h1 hx B4 hb1 hnc hcm hn hxv
  go_enter Try.func6, Try.ntmps6
  go_wp2_with fail
  refine HX.out.mono ?_
  rintro e w2 ⟨rfl, hb2⟩
  have Hb2 := Lib.hid (hop Hb1.out h0 hb2)
  have HB42 := Lib.hid (HB4.out.below hb2 HB4.out.lt)
  clear hb2 HX hw1 hg4
  go_wp2_with fail
  refine (IT.out _ Hb2.out).mono ?_
  rintro e w3 ⟨v3, L, rfl, ho3, hL, hx3⟩
  have Hb3 := Lib.hid (hop Hb2.out h0 hx3)
  have B43 := HB42.out.below hx3 HB42.out.lt
  have hL10 : L.length ≤ 10 := by
    have h3 := congrArg List.length hL
    rw [List.length_map] at h3
    have := LN.out
    omega
  obtain ⟨A3, c3, rfl, hc3, _, hp3⟩ := (ho3.mono h0 Hb2.out.size).ents
  have HP3 := Lib.hid hp3
  have a0 : w3.cell? ⟨g4, 0, none⟩ = some (.int .i64 x.e.ts) := (B43.cell 0).trans rfl
  have a1 : w3.cell? ⟨g4, 1, none⟩ = some (.slice x.e.A x.e.n x.e.c) := (B43.cell 1).trans rfl
  have a2 : w3.cell? ⟨g4, 2, none⟩ = some (.string x.e.ln) := (B43.cell 2).trans rfl
  have a3 : w3.cell? ⟨g4, 3, none⟩ = some (.bool x.own) := (B43.cell 3).trans rfl
  have a4 : w3.cell? ⟨g4, 4, none⟩ = some (.int .i8 x.t) := (B43.cell 4).trans rfl
  have a5 : w3.cell? ⟨g4, 5, none⟩ = some (.slice x.LA x.Ln x.Lc) := (B43.cell 5).trans rfl
  have a6 : w3.cell? ⟨g4, 6, none⟩ = some (.int .u8 (x.k : Int)) := (B43.cell 6).trans rfl
  have HCAP := Lib.hid (OwnR.cap ho3.1)
  clear ho3 hL hx3 hp3 hc3 HB4 HB42 B43 IT LN Hb2 Hb1
  obtain ⟨nL, hnL⟩ : ∃ k, L.length = k := ⟨_, rfl⟩
  have HNL := Lib.hid hnL
  rw [hnL] at HP3 HCAP hL10 ⊢
  clear hnL
  go_wp2_with fail
  refine (IX.out _ Hb3.out).mono ?_
  rintro e w4 ⟨y, rfl, hy, gy, hx4⟩
  have Hb4 := Lib.hid (hop Hb3.out h0 hx4)
  have HGY := Lib.hid gy
  have HP4 := Lib.hid (HP3.out.below hx4)
  dsimp only [EntX.val]
  clear hx4 gy hy a0 a1 a2 a3 a4 a5 a6 IX HP3 Hb3
  obtain ⟨g9, hg9⟩ : ∃ g, w4.heap.size = g := ⟨_, rfl⟩
  obtain ⟨w5, hw5⟩ : ∃ z, w4.alloc (.cells (entArr y) 26) = z := ⟨_, rfl⟩
  have B9 : Blk w5 g9 26 (entArr y) := by rw [← hw5, ← hg9]; exact Blk.new _ _ _
  have hb5 : Below w4.heap.size w4 w5 := by rw [← hw5]; exact (Below.refl _ _).alloc (Nat.le_refl _) _
  have hp5 := HP4.out.below hb5
  have Hb5 := Lib.hid (hop Hb4.out h0 hb5)
  have HP5 := Lib.hid hp5
  have HB9 := Lib.hid B9
  have y0 : w5.cell? ⟨g9, 0, none⟩ = some (.int .i64 y.ts) := (B9.cell 0).trans rfl
  have y1 : w5.cell? ⟨g9, 1, none⟩ = some (.slice y.A y.n y.c) := (B9.cell 1).trans rfl
  have y2 : w5.cell? ⟨g9, 2, none⟩ = some (.string y.ln) := (B9.cell 2).trans rfl
  have UP := Lib.hid (upto_any W.heap.size asc y A3 nL c3 L (by omega) w5 Hb5.out.size (HGY.out.below hb5) hp5)
  have HGY5 := Lib.hid (HGY.out.below hb5)
  obtain ⟨U, hU⟩ : ∃ U, uptoE asc y.b L = U := ⟨_, rfl⟩
  replace UP := UP.out
  rw [hU] at UP
  replace UP := Lib.hid UP
  have HU := Lib.hid hU
  unfold entArr at hw5
  clear B9 hb5 hp5 HP4 HGY Hb4 hU
  go_wp2_with fail
  clear hw5 hg9
  refine UP.out.mono ?_
  rintro e w6 ⟨v6, rfl, ho6, hx6⟩
  have Hb6 := Lib.hid (hop Hb5.out h0 hx6)
  have HP6 := Lib.hid (HP5.out.below hx6)
  have HB96 := Lib.hid (HB9.out.below hx6 HB9.out.lt)
  have HGY6 := Lib.hid (HGY5.out.below hx6)
  obtain ⟨A6, c6, rfl, hc6, _, hp6⟩ := ho6.ents
  have HU6 := Lib.hid hp6
  have FI := first_any W.heap.size asc A3 nL c3 L HCAP.out w6 HP6.out
  obtain ⟨F, hF⟩ : ∃ F, firstE asc L = F := ⟨_, rfl⟩
  have HGF := Lib.hid (show Good W.heap.size w6 F by rw [← hF]; exact firstE_good asc HP6.out.2)
  have HFM := Lib.hid (show ∀ x ∈ L, aheadB x.b F.b asc = false by rw [← hF]; exact firstE_min asc L)
  rw [hF] at FI
  unfold entArr at FI
  obtain ⟨zo, hzo⟩ : ∃ z, decide (0 < nL) = z := ⟨_, rfl⟩
  rw [hzo] at FI
  replace FI := Lib.hid FI
  have HZO := Lib.hid hzo
  obtain ⟨nU, hnU⟩ : ∃ k, U.length = k := ⟨_, rfl⟩
  have HNU := Lib.hid hnU
  rw [hnU] at HU6 ⊢
  have hnU2 : nU ≤ 10 := by
    rw [← hnU, ← HU.out]
    have := List.length_filter_le (fun e => !aheadB y.b e.b asc) L
    unfold uptoE
    have := HNL.out
    omega
  clear hx6 ho6 UP hp6 hc6 HP5 HB9 HGY5 Hb5 hF hzo hnU y0 y1 y2
  go_wp2_with fail
  refine FI.out.mono ?_
  rintro e w7 ⟨rfl, hx7⟩
  have Hb7 := Lib.hid (hop Hb6.out h0 hx7)
  obtain ⟨g11, hg11⟩ : ∃ g, w7.heap.size = g := ⟨_, rfl⟩
  obtain ⟨w8, hw8⟩ : ∃ z, w7.alloc (.cells (entArr F) 26) = z := ⟨_, rfl⟩
  have B11 : Blk w8 g11 26 (entArr F) := by rw [← hw8, ← hg11]; exact Blk.new _ _ _
  have hb8 : Below w7.heap.size w7 w8 := by rw [← hw8]; exact (Below.refl _ _).alloc (Nat.le_refl _) _
  have hx8 := hop hx7 (Nat.le_refl _) hb8
  have HB98 := Lib.hid (HB96.out.below hx8 HB96.out.lt)
  have HP8 := Lib.hid (HP6.out.below hx8)
  have HU8 := Lib.hid (HU6.out.below hx8)
  have HGY8 := Lib.hid (HGY6.out.below hx8)
  have HGF8 := Lib.hid (HGF.out.below hx8)
  have HB11 := Lib.hid B11
  have Hb8 := Lib.hid (hop Hb7.out h0 hb8)
  unfold entArr at hw8
  clear hx7 hb8 hx8 B11 FI HB96 HP6 HU6 HGY6 HGF Hb7 Hb6
  go_wp2
  clear hw8 hg11
  go_loopw [13, 14] (fun kv iv wr => ∃ j k : Nat, j ≤ nL ∧ iv = .int .i64 (j : Int) ∧ kv = .int .i64 (k : Int) ∧ Hid (k = (uptoE asc y.b (L.take j)).length) ∧ Below w8.heap.size w8 wr) (fun _ iv _ => nL - (intOf iv).toNat)
  case atStart => exact ⟨0, 0, Nat.zero_le _, rfl, rfl, Lib.hid rfl, Below.refl _ _⟩
  case round =>
    obtain ⟨j, k, hjn, rfl, rfl, HK, hb⟩ := hrel
    have hkU : k ≤ nU := by
      rw [HK.out, ← HNU.out, ← HU.out]
      unfold uptoE
      exact (List.take_sublist j L).filter _ |>.length_le
    by_cases hj : j < nL
    · have hjI : (j : Int) < (nL : Int) := by omega
      obtain ⟨b1, o1, rfl, hlt1, hc1⟩ := (HP8.out.below hb).at_ (by omega)
      obtain ⟨c1, c2, c3', gx⟩ := hc1 j hj
      have hjq : L[j]? = some (L.getD j xnil) := by
        have := HNL.out
        rw [List.getD_eq_getElem?_getD, List.getElem?_eq_getElem (by omega)]
        rfl
      obtain ⟨t, ht⟩ : ∃ t, L.getD j xnil = t := ⟨_, rfl⟩
      rw [ht] at c1 c2 c3' gx hjq
      have HJQ := Lib.hid hjq
      have HGT := Lib.hid gx
      have K9 := HB98.out.below hb HB98.out.lt
      have K11 := HB11.out.below hb HB11.out.lt
      have y0 : wr.cell? ⟨g9, 0, none⟩ = some (.int .i64 y.ts) := (K9.cell 0).trans rfl
      have y1 : wr.cell? ⟨g9, 1, none⟩ = some (.slice y.A y.n y.c) := (K9.cell 1).trans rfl
      have y2 : wr.cell? ⟨g9, 2, none⟩ = some (.string y.ln) := (K9.cell 2).trans rfl
      have f0 : wr.cell? ⟨g11, 0, none⟩ = some (.int .i64 F.ts) := (K11.cell 0).trans rfl
      have f1 : wr.cell? ⟨g11, 1, none⟩ = some (.slice F.A F.n F.c) := (K11.cell 1).trans rfl
      have f2 : wr.cell? ⟨g11, 2, none⟩ = some (.string F.ln) := (K11.cell 2).trans rfl
      have hl9 : g9 < wr.heap.size := K9.lt
      have hl11 : g11 < wr.heap.size := K11.lt
      have A1 := fun w (h : Below wr.heap.size wr w) => ahead_good t F asc w (gx.below h) ((HGF8.out.below hb).below h)
      rw [show aheadB t.b F.b asc = false from HFM.out t (List.mem_of_getElem? hjq)] at A1
      replace A1 := Lib.hid A1
      have Hb := Lib.hid hb
      have HGY9 := Lib.hid (HGY8.out.below hb)
      have S0 : Below wr.heap.size wr wr.drew := (Below.refl _ _).drew
      clear hc1 gx hjq ht K9 K11 hb
      go_wp2
      go_region_held3 (fun w' => Below wr.heap.size wr w' ∧ w'.cell? ⟨b1, o1 + j * 3, none⟩ = some (.int .i64 t.ts) ∧ w'.cell? ⟨b1, o1 + j * 3 + 1, none⟩ = some (.slice t.A t.n t.c) ∧ w'.cell? ⟨b1, o1 + j * 3 + 2, none⟩ = some (.string t.ln) ∧ w'.cell? ⟨g11, 0, none⟩ = some (.int .i64 F.ts) ∧ w'.cell? ⟨g11, 1, none⟩ = some (.slice F.A F.n F.c) ∧ w'.cell? ⟨g11, 2, none⟩ = some (.string F.ln))
        (first | assumption | exact ⟨by assumption, by assumption, by assumption, by assumption, by assumption, by assumption, by assumption⟩ | exact ⟨by assumption, (hb5.cell (p := ⟨_, _, none⟩) hlt1).trans c1, (hb5.cell (p := ⟨_, _, none⟩) hlt1).trans c2, (hb5.cell (p := ⟨_, _, none⟩) hlt1).trans c3', (hb5.cell (p := ⟨_, _, none⟩) hl11).trans f0, (hb5.cell (p := ⟨_, _, none⟩) hl11).trans f1, (hb5.cell (p := ⟨_, _, none⟩) hl11).trans f2⟩)
        (first | (go_at_call 23; refine (A1.out _ S0).mono ?_; rintro e w9 ⟨rfl, hb5⟩; replace hb5 : Below wr.heap.size wr w9 := ⟨hb5.os, hb5.tape, hb5.output, hb5.size, hb5.block⟩))
      all_goals
        have hb9 := hop Hb.out (Nat.le_refl _) hb5
        obtain ⟨d1, d2, d3, d4, d5, d6⟩ : w9.cell? ⟨b1, o1 + j * 3, none⟩ = some (.int .i64 t.ts) ∧ w9.cell? ⟨b1, o1 + j * 3 + 1, none⟩ = some (.slice t.A t.n t.c) ∧ w9.cell? ⟨b1, o1 + j * 3 + 2, none⟩ = some (.string t.ln) ∧ w9.cell? ⟨g9, 0, none⟩ = some (.int .i64 y.ts) ∧ w9.cell? ⟨g9, 1, none⟩ = some (.slice y.A y.n y.c) ∧ w9.cell? ⟨g9, 2, none⟩ = some (.string y.ln) :=
          ⟨(hb5.cell (p := ⟨_, _, none⟩) hlt1).trans c1, (hb5.cell (p := ⟨_, _, none⟩) hlt1).trans c2, (hb5.cell (p := ⟨_, _, none⟩) hlt1).trans c3', (hb5.cell (p := ⟨_, _, none⟩) hl9).trans y0, (hb5.cell (p := ⟨_, _, none⟩) hl9).trans y1, (hb5.cell (p := ⟨_, _, none⟩) hl9).trans y2⟩
        have Hb9 := Lib.hid hb9
        have HGT9 := Lib.hid (HGT.out.below hb5)
        have A2 := fun w (h : Below w9.heap.size w9 w) => ahead_good y t asc w ((HGY9.out.below hb5).below h) (HGT9.out.below h)
        obtain ⟨z, hz⟩ : ∃ z, aheadB y.b t.b asc = z := ⟨_, rfl⟩
        simp only [hz] at A2
        replace A2 := Lib.hid A2
        have HZ := Lib.hid hz
        have hlt9 : b1 < w9.heap.size := Nat.lt_of_lt_of_le hlt1 hb5.size
        have hl99 : g9 < w9.heap.size := Nat.lt_of_lt_of_le hl9 hb5.size
        have S0 : Below w9.heap.size w9 w9.drew := (Below.refl _ _).drew
        clear hb5 hb9 hz c1 c2 c3' y0 y1 y2 f0 f1 f2 A1 HGT Hb HGY9
        go_wp2
        go_region_held3 (fun w' => Below w9.heap.size w9 w' ∧ w'.cell? ⟨b1, o1 + j * 3, none⟩ = some (.int .i64 t.ts) ∧ w'.cell? ⟨b1, o1 + j * 3 + 1, none⟩ = some (.slice t.A t.n t.c) ∧ w'.cell? ⟨b1, o1 + j * 3 + 2, none⟩ = some (.string t.ln) ∧ w'.cell? ⟨g9, 0, none⟩ = some (.int .i64 y.ts) ∧ w'.cell? ⟨g9, 1, none⟩ = some (.slice y.A y.n y.c) ∧ w'.cell? ⟨g9, 2, none⟩ = some (.string y.ln))
          (first | assumption | exact ⟨by assumption, by assumption, by assumption, by assumption, by assumption, by assumption, by assumption⟩ | exact ⟨by assumption, (hb5.cell (p := ⟨_, _, none⟩) hlt9).trans d1, (hb5.cell (p := ⟨_, _, none⟩) hlt9).trans d2, (hb5.cell (p := ⟨_, _, none⟩) hlt9).trans d3, (hb5.cell (p := ⟨_, _, none⟩) hl99).trans d4, (hb5.cell (p := ⟨_, _, none⟩) hl99).trans d5, (hb5.cell (p := ⟨_, _, none⟩) hl99).trans d6⟩)
          (first | (go_at_call 23; refine (A2.out _ S0).mono ?_; rintro e w10 ⟨rfl, hb5⟩; replace hb5 : Below w9.heap.size w9 w10 := ⟨hb5.os, hb5.tape, hb5.output, hb5.size, hb5.block⟩))
        all_goals
          have hb10 := hop Hb9.out (Nat.le_refl _) hb5
          cases z with
          | true =>
            have HN := Lib.hid (show k = (uptoE asc y.b (L.take (j + 1))).length by rw [upto_skip HJQ.out HZ.out]; exact HK.out)
            clear hb5 d1 d2 d3 d4 d5 d6 A2
            go_wp2
            go_round
            case rel => exact ⟨j + 1, k, by omega, by go_num, rfl, HN, hb10⟩
            case measure => simp [intOf]; omega
          | false =>
            obtain ⟨hq1, hq2⟩ := upto_at (l := L) HJQ.out HZ.out
            rw [← HK.out, HU.out] at hq1
            have hk : k < nU := by rw [← HNU.out]; exact (List.getElem?_eq_some_iff.1 hq1).1
            have HN := Lib.hid (show k + 1 = (uptoE asc y.b (L.take (j + 1))).length by rw [hq2, ← HK.out])
            obtain ⟨bu, ou, rfl, hltu, hcu⟩ := ((HU8.out.below hb10)).at_ (by omega)
            obtain ⟨u1, u2, u3, _⟩ := hcu k hk
            rw [List.getD_eq_getElem?_getD, hq1] at u1 u2 u3
            dsimp only [Option.getD_some] at u1 u2 u3
            obtain ⟨e1, e2, e3⟩ : w10.cell? ⟨b1, o1 + j * 3, none⟩ = some (.int .i64 t.ts) ∧ w10.cell? ⟨b1, o1 + j * 3 + 1, none⟩ = some (.slice t.A t.n t.c) ∧ w10.cell? ⟨b1, o1 + j * 3 + 2, none⟩ = some (.string t.ln) :=
              ⟨(hb5.cell (p := ⟨_, _, none⟩) hlt9).trans d1, (hb5.cell (p := ⟨_, _, none⟩) hlt9).trans d2, (hb5.cell (p := ⟨_, _, none⟩) hlt9).trans d3⟩
            have hlt10 : b1 < w10.heap.size := Nat.lt_of_lt_of_le hlt9 hb5.size
            have HGT10 := Lib.hid (HGT9.out.below hb5)
            have A3 := fun w (h : Below w10.heap.size w10 w) => same_good t t w (HGT10.out.below h) (HGT10.out.below h)
            rw [show sameE t.b t.b = true from sameE_iff.2 rfl] at A3
            replace A3 := Lib.hid A3
            have hkI : (k : Int) < (nU : Int) := by omega
            have k1 : ¬ ((nU : Int) ≤ (k : Int)) := by omega
            have k2 : ¬ (nU ≤ k) := by omega
            have k3 : decide ((nU : Int) ≤ (k : Int)) = false := decide_eq_false k1
            have k4 : decide (nU ≤ k) = false := decide_eq_false k2
            have Hb10 := Lib.hid hb10
            have S0 : Below w10.heap.size w10 w10.drew := (Below.refl _ _).drew
            clear hb5 hb10 d1 d2 d3 d4 d5 d6 A2 hcu hq1 hq2 HGT9
            go_wp2
            go_region_held3 (fun w' => Below w10.heap.size w10 w' ∧ w'.cell? ⟨b1, o1 + j * 3, none⟩ = some (.int .i64 t.ts) ∧ w'.cell? ⟨b1, o1 + j * 3 + 1, none⟩ = some (.slice t.A t.n t.c) ∧ w'.cell? ⟨b1, o1 + j * 3 + 2, none⟩ = some (.string t.ln) ∧ w'.cell? ⟨bu, ou + k * 3, none⟩ = some (.int .i64 t.ts) ∧ w'.cell? ⟨bu, ou + k * 3 + 1, none⟩ = some (.slice t.A t.n t.c) ∧ w'.cell? ⟨bu, ou + k * 3 + 2, none⟩ = some (.string t.ln))
              (first | assumption | exact ⟨by assumption, by assumption, by assumption, by assumption, by assumption, by assumption, by assumption⟩ | exact ⟨by assumption, (hb5.cell (p := ⟨_, _, none⟩) hlt10).trans e1, (hb5.cell (p := ⟨_, _, none⟩) hlt10).trans e2, (hb5.cell (p := ⟨_, _, none⟩) hlt10).trans e3, (hb5.cell (p := ⟨_, _, none⟩) hltu).trans u1, (hb5.cell (p := ⟨_, _, none⟩) hltu).trans u2, (hb5.cell (p := ⟨_, _, none⟩) hltu).trans u3⟩)
              (first | (go_at_call 22; refine (A3.out _ S0).mono ?_; rintro e w11 ⟨rfl, hb5⟩; replace hb5 : Below w10.heap.size w10 w11 := ⟨hb5.os, hb5.tape, hb5.output, hb5.size, hb5.block⟩))
            all_goals
              have hb11 := hop Hb10.out (Nat.le_refl _) hb5
              clear hb5 e1 e2 e3 u1 u2 u3 A3
              go_wp2
              go_round
              case rel => exact ⟨j + 1, k + 1, by omega, by go_num, by go_num, HN, hb11⟩
              case measure => simp [intOf]; omega
    · obtain rfl : nL = j := by omega
      have hkk : k = nU := by
        have := HK.out
        rw [List.take_of_length_le (by rw [HNL.out]; exact Nat.le_refl _), HU.out, HNU.out] at this
        exact this
      subst hkk
      have HBF := Lib.hid (hop Hb8.out h0 hb)
      rcases Nat.eq_zero_or_pos nL with hz | hz
      · have hz1 : zo = false := by rw [← HZO.out]; exact decide_eq_false (by omega)
        subst hz1
        subst hz
        clear hb HK
        go_wp2
        go_ret
        exact ⟨by first | rfl | (simp; done), HBF.out⟩
      · have hz1 : zo = true := by rw [← HZO.out]; exact decide_eq_true hz
        have hzI : (0 : Int) < (nL : Int) := by omega
        subst hz1
        clear hb HK
        go_wp2
        go_ret
        exact ⟨by first | rfl | (simp; done), HBF.out⟩
end Go.Proofs.Ytilcanblgdmecaa
