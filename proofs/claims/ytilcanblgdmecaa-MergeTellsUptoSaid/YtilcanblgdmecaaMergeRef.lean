/- The document's answers about merging: the walks of its First, Upto; and of sameEntries. -/
import Derived.Test.YtilcanblgdmecaaMergeSort
namespace Go.Proofs.Ytilcanblgdmecaa
open Go.RowKit
set_option linter.unusedVariables false
set_option linter.unusedSimpArgs false

/-- entries of the document's that can be held against one another -/
def SmallQ (w : World) (x : EntX) : Prop := GoodQ w x ∧ x.n ≤ 1048576
theorem SmallQ.below {w w' : World} {x : EntX} (h : SmallQ w x) (hb : Below w.heap.size w w') : SmallQ w' x := ⟨h.1.below hb, h.2⟩
theorem refAhead_q (p q : EntX) (asc : Bool) (w : World) (hp : SmallQ w p) (hq : SmallQ w q) : Calls Try.prog 24 #[.agg #[.int .i64 p.ts, .slice p.A p.n p.c, .string p.ln], .agg #[.int .i64 q.ts, .slice q.A q.n q.c, .string q.ln], .bool asc] w fun e w' => e = .returned (.bool (aheadB p.b q.b asc)) ∧ Below w.heap.size w w' :=
  refEntAhead_any p.ts q.ts p.A q.A p.n q.n p.c q.c p.ls q.ls p.ln q.ln asc (by have := hp.2; omega) (by have := hq.2; omega) w hp.1.set hq.1.set
theorem sameEnt_q (a q : EntX) (w : World) {B : Nat} (ha : Good B w a) (hq : GoodQ w q) : Calls Try.prog 18 #[.agg #[.int .i64 a.ts, .slice a.A a.n a.c, .string a.ln], .agg #[.int .i64 q.ts, .slice q.A q.n q.c, .string q.ln]] w fun e w' => e = .returned (.bool (sameE a.b q.b)) ∧ Below w.heap.size w w' :=
  sameEntry_any a q ha.len w ha.set.1 hq.set
set_option maxRecDepth 100000 in
set_option maxHeartbeats 800000 in
theorem sameEntries_any (B : Nat) (A : Option Addr) (n c : Nat) (l : List EntX) (A2 : Option Addr) (m d : Nat) (r : List EntX) (hn : n ≤ 1000000) (hm : m ≤ 1000000) (W : World) (h1 : Ents B W A n l) (h2 : EntsQ W A2 m r) (T : Bool) (hT : T = true ↔ l.map EntX.b = r.map EntX.b) :
    Calls Try.prog 17 #[.slice A n c, .slice A2 m d] W fun e w' => e = .returned (.bool T) ∧ Below W.heap.size W w' := by
  have hl := h1.1.1
  have hr := h2.1.1
  by_cases hnm : n = m
  · subst hnm
    have H1 := Lib.hid h1
    have H2 := Lib.hid h2
    have HL := Lib.hid hl
    have HR := Lib.hid hr
    have HT := Lib.hid hT
    clear h1 h2 hl hr hT
    go_enter Try.func17, Try.ntmps17
    go_wp2
    go_loopw [5] (fun iv wr => ∃ j : Nat, j ≤ n ∧ iv = .int .i64 (j : Int) ∧ Hid ((l.take j).map EntX.b = (r.take j).map EntX.b) ∧ Below W.heap.size W wr) (fun iv _ => n - (intOf iv).toNat)
    case atStart => exact ⟨0, Nat.zero_le _, rfl, Lib.hid rfl, Below.refl _ _⟩
    case round =>
      obtain ⟨j, hjn, rfl, HJ, hb⟩ := hrel
      by_cases hj : j < n
      · have hjI : (j : Int) < (n : Int) := by omega
        obtain ⟨b1, o1, rfl, hlt1, hc1⟩ := (H1.out.below hb).at_ (by omega)
        obtain ⟨c1, c2, c3, gx⟩ := hc1 j hj
        obtain ⟨b2, o2, rfl, hlt2, hc2⟩ := (H2.out.below hb).at_ (by omega)
        obtain ⟨d1, d2, d3, _, gy⟩ := hc2 j hj
        have hlt : l.take (j + 1) = l.take j ++ [l.getD j xnil] := by
          rw [List.take_succ_eq_append_getElem (by rw [HL.out]; exact hj), List.getD_eq_getElem?_getD, List.getElem?_eq_getElem (by rw [HL.out]; exact hj)]
          rfl
        have hrt : r.take (j + 1) = r.take j ++ [r.getD j xnil] := by
          rw [List.take_succ_eq_append_getElem (by rw [HR.out]; exact hj), List.getD_eq_getElem?_getD, List.getElem?_eq_getElem (by rw [HR.out]; exact hj)]
          rfl
        obtain ⟨x, hx⟩ : ∃ x, l.getD j xnil = x := ⟨_, rfl⟩
        obtain ⟨y, hy⟩ : ∃ x, r.getD j xnil = x := ⟨_, rfl⟩
        rw [hx] at c1 c2 c3 gx hlt
        rw [hy] at d1 d2 d3 gy hrt
        have SA := fun w (h : Below wr.heap.size wr w) => sameEnt_q x y w (gx.below h) (gy.below h)
        obtain ⟨z, hz⟩ : ∃ z, sameE x.b y.b = z := ⟨_, rfl⟩
        simp only [hz] at SA
        replace SA := Lib.hid SA
        have HLT := Lib.hid hlt
        have HRT := Lib.hid hrt
        have HZ := Lib.hid hz
        have Hb := Lib.hid hb
        have S0 : Below wr.heap.size wr wr.drew := (Below.refl _ _).drew
        clear hc1 hc2 gx gy hx hy hz hlt hrt hb
        go_wp2
        go_region_held3 (fun w' => Below wr.heap.size wr w' ∧ w'.cell? ⟨b1, o1 + j * 3, none⟩ = some (.int .i64 x.ts) ∧ w'.cell? ⟨b1, o1 + j * 3 + 1, none⟩ = some (.slice x.A x.n x.c) ∧ w'.cell? ⟨b1, o1 + j * 3 + 2, none⟩ = some (.string x.ln) ∧ w'.cell? ⟨b2, o2 + j * 3, none⟩ = some (.int .i64 y.ts) ∧ w'.cell? ⟨b2, o2 + j * 3 + 1, none⟩ = some (.slice y.A y.n y.c) ∧ w'.cell? ⟨b2, o2 + j * 3 + 2, none⟩ = some (.string y.ln))
          (first | assumption | exact ⟨by assumption, by assumption, by assumption, by assumption, by assumption, by assumption, by assumption⟩ | exact ⟨by assumption, (hb5.cell (p := ⟨_, _, none⟩) hlt1).trans c1, (hb5.cell (p := ⟨_, _, none⟩) hlt1).trans c2, (hb5.cell (p := ⟨_, _, none⟩) hlt1).trans c3, (hb5.cell (p := ⟨_, _, none⟩) hlt2).trans d1, (hb5.cell (p := ⟨_, _, none⟩) hlt2).trans d2, (hb5.cell (p := ⟨_, _, none⟩) hlt2).trans d3⟩)
          (first | (go_at_call 18; refine (SA.out _ S0).mono ?_; rintro e w9 ⟨rfl, hb5⟩; replace hb5 : Below wr.heap.size wr w9 := ⟨hb5.os, hb5.tape, hb5.output, hb5.size, hb5.block⟩))
        all_goals
          have hb9 := hop Hb.out (Nat.le_refl _) hb5
          clear hb5 c1 c2 c3 d1 d2 d3 SA S0
          cases z with
          | true =>
            have HN := Lib.hid (show (l.take (j + 1)).map EntX.b = (r.take (j + 1)).map EntX.b by
              rw [HLT.out, HRT.out, List.map_append, List.map_append, HJ.out]
              show _ ++ [x.b] = _ ++ [y.b]
              rw [sameE_iff.1 HZ.out])
            go_wp2
            go_round
            case rel => exact ⟨j + 1, by omega, by go_num, HN, hb9⟩
            case measure => simp [intOf]; omega
          | false =>
            have E : T = false := by
              cases T with
              | false => rfl
              | true =>
                exfalso
                have h3 := congrArg (List.take (j + 1)) (HT.out.1 rfl)
                rw [← List.map_take, ← List.map_take, HLT.out, HRT.out, List.map_append, List.map_append, HJ.out] at h3
                have h4 := List.append_cancel_left h3
                have h5 : x.b = y.b := by injection h4
                rw [sameE_iff.2 h5] at HZ
                cases HZ.out
            subst E
            go_wp2
            go_ret
            exact ⟨by first | rfl | (simp; done), hb9⟩
      · obtain rfl : n = j := by omega
        have E : T = true := by
          refine HT.out.2 ?_
          have h3 := HJ.out
          rw [List.take_of_length_le (by rw [HL.out]; exact Nat.le_refl _), List.take_of_length_le (by rw [HR.out]; exact Nat.le_refl _)] at h3
          exact h3
        subst E
        clear HJ
        go_wp2
        go_ret
        exact ⟨by first | rfl | (simp; done), hb⟩
  · have E : T = false := by
      cases T with
      | false => rfl
      | true =>
        exfalso
        have h3 := congrArg List.length (hT.1 rfl)
        rw [List.length_map, List.length_map, hl, hr] at h3
        exact hnm h3
    subst E
    have hnI : ¬ ((n : Int) = (m : Int)) := by omega
    clear h1 h2 hl hr hT
    go_enter Try.func17, Try.ntmps17
    go_wp2
    go_ret
    exact ⟨by first | rfl | (simp; done), Below.refl _ _⟩

set_option maxRecDepth 100000 in
set_option maxHeartbeats 800000 in
theorem refUpto_any (asc : Bool) (u : EntX) (A : Option Addr) (n c : Nat) (l : List EntX) (hn : n ≤ 1000000) (W : World) (hu : SmallQ W u) (h : EntsQ W A n l) (hs : ∀ x ∈ l, x.n ≤ 1048576) :
    Calls Try.prog 20 #[.bool asc, .agg #[.int .i64 u.ts, .slice u.A u.n u.c, .string u.ln], .slice A n c] W fun e w' => ∃ v, e = .returned v ∧ OwnEQ w' W.heap.size v (uptoE asc u.b l) ∧ Below W.heap.size W w' := by
  obtain ⟨i0, hi, hz0, hz1, hz2⟩ := info_parts infoEntQ
  obtain ⟨g4, hg4⟩ : ∃ g, W.heap.size = g := ⟨_, rfl⟩
  obtain ⟨w1, hw1⟩ : ∃ z, W.alloc (.cells #[.int .i64 u.ts, .slice u.A u.n u.c, .string u.ln] 48) = z := ⟨_, rfl⟩
  have B4 : Blk w1 g4 48 #[.int .i64 u.ts, .slice u.A u.n u.c, .string u.ln] := by rw [← hw1, ← hg4]; exact Blk.new _ _ _
  have hb1 : Below W.heap.size W w1 := by rw [← hw1]; exact (Below.refl _ _).alloc (Nat.le_refl _) _
  have HL := Lib.hid h.1.1
  have H1 := Lib.hid h
  have HU := Lib.hid hu
  have HSM := Lib.hid hs
  have HB4 := Lib.hid B4
  have Hb1 := Lib.hid hb1
  clear h hu B4 hb1 hs
  go_enter Try.func20, Try.ntmps20
  have HW1 := Lib.hid (show W.heap.size ≤ w1.heap.size from Hb1.out.size)
  go_wp2
  clear hw1 hg4
  go_loopw [7, 8] (fun tv iv wr => ∃ j : Nat, j ≤ n ∧ iv = .int .i64 (j : Int) ∧ Hid (OwnEQ wr w1.heap.size tv (uptoE asc u.b (l.take j))) ∧ Hid (Blk wr g4 48 #[.int .i64 u.ts, .slice u.A u.n u.c, .string u.ln]) ∧ Hid (Below W.heap.size W wr) ∧ Hid (w1.heap.size ≤ wr.heap.size)) (fun _ iv _ => n - (intOf iv).toNat)
  case atStart => exact ⟨0, Nat.zero_le _, rfl, Lib.hid ⟨OwnR.nil _ _ _, fun x hx => absurd hx List.not_mem_nil⟩, HB4, Hb1, Lib.hid (Nat.le_refl _)⟩
  case round =>
    obtain ⟨j, hjn, rfl, HO, K4, HB', HS⟩ := hrel
    by_cases hj : j < n
    · have hjI : (j : Int) < (n : Int) := by omega
      obtain ⟨b2, o2, rfl, hlt2, hc2⟩ := (H1.out.below HB'.out).at_ (by omega)
      obtain ⟨q1, q2, q3, hmem, gy⟩ := hc2 j hj
      have hjl : j < l.length := by rw [HL.out]; exact hj
      have hd : l.take (j + 1) = l.take j ++ [l.getD j xnil] := by
        rw [List.take_succ_eq_append_getElem hjl, List.getD_eq_getElem?_getD, List.getElem?_eq_getElem hjl]
        rfl
      have hyn := HSM.out _ hmem
      obtain ⟨y, hy⟩ : ∃ y, l.getD j xnil = y := ⟨_, rfl⟩
      rw [hy] at q1 q2 q3 hd gy hyn
      have HGY := Lib.hid (show SmallQ wr y from ⟨gy, hyn⟩)
      have HGU := Lib.hid (HU.out.below HB'.out)
      have a0 : wr.cell? ⟨g4, 0, none⟩ = some (.int .i64 u.ts) := (K4.out.cell 0).trans rfl
      have a1 : wr.cell? ⟨g4, 1, none⟩ = some (.slice u.A u.n u.c) := (K4.out.cell 1).trans rfl
      have a2 : wr.cell? ⟨g4, 2, none⟩ = some (.string u.ln) := (K4.out.cell 2).trans rfl
      have hlt4 : g4 < wr.heap.size := K4.out.lt
      have AH := fun w (h : Below wr.heap.size wr w) => refAhead_q u y asc w (HGU.out.below h) (HGY.out.below h)
      have hup : uptoE asc u.b (l.take (j + 1)) = uptoE asc u.b (l.take j) ++ (if aheadB u.b y.b asc = true then [] else [y]) := by
        rw [hd]
        unfold uptoE
        rw [List.filter_append]
        cases hq : aheadB u.b y.b asc
        · rw [if_neg (by decide), List.filter_cons_of_pos (by rw [hq]; rfl)]; rfl
        · rw [if_pos rfl, List.filter_cons_of_neg (by rw [hq]; decide)]; rfl
      obtain ⟨z, hz⟩ : ∃ z, aheadB u.b y.b asc = z := ⟨_, rfl⟩
      rw [hz] at hup
      simp only [hz] at AH
      replace AH := Lib.hid AH
      have HUP := Lib.hid hup
      have HLE := Lib.hid (show (uptoE asc u.b (l.take j)).length ≤ j from Nat.le_trans (List.length_filter_le _ _) (by rw [List.length_take]; omega))
      obtain ⟨L0, hL0⟩ : ∃ L0, uptoE asc u.b (l.take j) = L0 := ⟨_, rfl⟩
      rw [hL0] at HO HUP HLE
      have S0 : Below wr.heap.size wr wr.drew := (Below.refl _ _).drew
      clear hc2 gy hmem hyn hd hy hz hup hjl hL0
      go_wp2
      go_region_held3 (fun w' => Below wr.heap.size wr w' ∧ w'.cell? ⟨g4, 0, none⟩ = some (.int .i64 u.ts) ∧ w'.cell? ⟨g4, 1, none⟩ = some (.slice u.A u.n u.c) ∧ w'.cell? ⟨g4, 2, none⟩ = some (.string u.ln) ∧ w'.cell? ⟨b2, o2 + j * 3, none⟩ = some (.int .i64 y.ts) ∧ w'.cell? ⟨b2, o2 + j * 3 + 1, none⟩ = some (.slice y.A y.n y.c) ∧ w'.cell? ⟨b2, o2 + j * 3 + 2, none⟩ = some (.string y.ln))
        (first | assumption | exact ⟨by assumption, by assumption, by assumption, by assumption, by assumption, by assumption, by assumption⟩ | exact ⟨by assumption, (hb5.cell (p := ⟨_, _, none⟩) hlt4).trans a0, (hb5.cell (p := ⟨_, _, none⟩) hlt4).trans a1, (hb5.cell (p := ⟨_, _, none⟩) hlt4).trans a2, (hb5.cell (p := ⟨_, _, none⟩) hlt2).trans q1, (hb5.cell (p := ⟨_, _, none⟩) hlt2).trans q2, (hb5.cell (p := ⟨_, _, none⟩) hlt2).trans q3⟩)
        (first | (go_at_call 24; refine (AH.out _ S0).mono ?_; rintro e w4 ⟨rfl, hb5⟩; replace hb5 : Below wr.heap.size wr w4 := ⟨hb5.os, hb5.tape, hb5.output, hb5.size, hb5.block⟩))
      all_goals
        have HK44 := Lib.hid (K4.out.below hb5 K4.out.lt)
        have HW4 := Lib.hid (hop HB'.out (Nat.le_refl _) hb5)
        have HO4 := Lib.hid (HO.out.below hb5)
        have HS4 := Lib.hid (Nat.le_trans HS.out hb5.size)
        have HGY4 := Lib.hid (HGY.out.below hb5)
        have e1 := (hb5.cell (p := ⟨b2, o2 + j * 3, none⟩) hlt2).trans q1
        have e2 := (hb5.cell (p := ⟨b2, o2 + j * 3 + 1, none⟩) hlt2).trans q2
        have e3 := (hb5.cell (p := ⟨b2, o2 + j * 3 + 2, none⟩) hlt2).trans q3
        clear hb5 a0 a1 a2 q1 q2 q3 AH S0 HO HGY HGU K4 HB' HS
        cases z with
        | true =>
          have HN := Lib.hid (show OwnEQ w4 w1.heap.size _ (uptoE asc u.b (l.take (j + 1))) by rw [HUP.out, if_pos rfl, List.append_nil]; exact HO4.out)
          clear HO4 HUP e1 e2 e3
          go_wp2
          go_round
          case rel => exact ⟨j + 1, by omega, by go_num, HN, HK44, HW4, HS4⟩
          case measure => simp [intOf]; omega
        | false =>
          have HG4 := Lib.hid (show g4 < w1.heap.size from HB4.out.lt)
          go_wp2_with (at_builtin; refine wpList_append_own _ rfl (.tmp 23) (.tmp 28) 38 rfl w1.heap.size 48 i0 (.agg #[.int .i64 0, .slice none 0 0, .string ⟨#[]⟩]) 3 48 Try.underlying38 hi hz0 hz1 hz2 rfl (by decide) _ _ _ rfl (OwnR.alloc HO4.out.1 _) ⟨w4.heap.size, 0, none⟩ 1 1 (EntX.V y) rfl rfl (new_cells_at _ _ _ _ (by simp)) (entV_one _) (by unfold maxLen; have := HLE.out; omega) (by have := HLE.out; omega) (by have := HS4.out; simp; omega) ?_)
          intro nv w5 hown' hgrow _
          have hK4a := HK44.out.alloc (.cells (EntX.V y).toArray 48)
          have HK45 := Lib.hid (show Blk w5 g4 48 #[.int .i64 u.ts, .slice u.A u.n u.c, .string u.ln] from (hgrow.block g4 hK4a.lt (fun e => by have := (World.ownsRow.lt HO4.out.1 g4 e.symm).1; have := HG4.out; omega)).trans hK4a)
          have HW5 := Lib.hid ((HW4.out.alloc HW4.out.size _).grown hgrow (by have := HW4.out.size; simp; omega) (fun r hr => by have := (World.ownsRow.lt HO4.out.1 r hr).1; have := HW1.out; omega))
          have HN := Lib.hid (show OwnEQ w5 w1.heap.size nv (uptoE asc u.b (l.take (j + 1))) by
            rw [HUP.out, if_neg (by decide)]
            exact OwnEQ.snoc (HO4.out.alloc _) (HGY4.out.1.below ((Below.refl _ _).alloc (Nat.le_refl _) _)) hgrow hown')
          have HS5 := Lib.hid (show w1.heap.size ≤ w5.heap.size by have h1 := hgrow.size; have := HS4.out; simp at h1; omega)
          clear hown' hgrow hK4a HO4 HUP HK44 HW4 HS4 e1 e2 e3
          go_wp2
          go_round
          case rel => exact ⟨j + 1, by omega, by go_num, HN, HK45, HW5, HS5⟩
          case measure => simp [intOf]; omega
    · obtain rfl : n = j := by omega
      have HN := Lib.hid (show OwnEQ wr W.heap.size _ (uptoE asc u.b l) by
        have := HO.out
        rw [List.take_of_length_le (by rw [HL.out]; exact Nat.le_refl _)] at this
        exact ⟨OwnR.mono this.1 HW1.out, this.2⟩)
      clear HO
      go_wp2
      go_ret
      exact ⟨_, rfl, HN.out, HB'.out⟩

set_option maxRecDepth 100000 in
set_option maxHeartbeats 800000 in
theorem refFirst_any (asc : Bool) (A : Option Addr) (n c : Nat) (l : List EntX) (hn : n ≤ 1000000) (W : World) (h : EntsQ W A n l) (hs : ∀ x ∈ l, x.n ≤ 1048576) :
    Calls Try.prog 15 #[.bool asc, .slice A n c] W fun e w' => e = .returned (.tuple #[.agg (entArr (firstE asc l)), .bool (decide (0 < n))]) ∧ Below W.heap.size W w' := by
  have hl := h.1.1
  cases l with
  | nil =>
    obtain rfl : n = 0 := hl.symm
    rw [show decide (0 < 0) = false from rfl, show entArr (firstE asc []) = #[.int .i64 0, .slice none 0 0, .string .empty] from rfl]
    have HB1 := Lib.hid (show Below W.heap.size W (W.alloc (.cells #[.int .i64 0, .slice none 0 0, .string ⟨#[]⟩] 48)) from (Below.refl _ _).alloc (Nat.le_refl _) _)
    have HK := Lib.hid (show Blk (W.alloc (.cells #[.int .i64 0, .slice none 0 0, .string ⟨#[]⟩] 48)) W.heap.size 48 #[.int .i64 0, .slice none 0 0, .string ⟨#[]⟩] from Blk.new _ _ _)
    clear h
    go_enter Try.func15, Try.ntmps15
    go_wp2
    refine bodyPost_ret (results_row_tmp rfl _ _ _ 48 _ (0, 0) _ rfl HK.out Try.underlying48 rfl (by kernel_rfl)) rfl ?_
    exact ⟨rfl, HB1.out⟩
  | cons x tl =>
    rw [List.length_cons] at hl
    have hn0 : 0 < n := by omega
    have hn0I : (0 : Int) < (n : Int) := by omega
    have hnz : ¬ ((n : Int) = 0) := by omega
    have hnz2 : ¬ (n = 0) := by omega
    have hnz3 : ((n : Int) == 0) = false := by rw [beq_eq_false_iff_ne]; exact hnz
    have hnz4 : decide ((n : Int) = 0) = false := decide_eq_false hnz
    obtain ⟨b1, o1, hA, hlt1, hc1⟩ := h.at_ hn0
    obtain ⟨e1, e2, e3, _, ge⟩ := hc1 0 hn0
    rw [show (x :: tl).getD 0 xnil = x from rfl, Nat.zero_mul, Nat.add_zero] at e1 e2 e3
    subst hA
    obtain ⟨F, hF⟩ : ∃ F, firstF asc x tl = F := ⟨_, rfl⟩
    rw [show firstE asc (x :: tl) = firstF asc x tl from rfl, hF, show decide (0 < n) = true from decide_eq_true hn0]
    have HF := Lib.hid hF
    have HT := Lib.hid h
    have HSM := Lib.hid hs
    have HGX := Lib.hid (show SmallQ W x from ⟨h.2 x List.mem_cons_self, hs x List.mem_cons_self⟩)
    have HLL := Lib.hid hl
    obtain ⟨g4, hg4⟩ : ∃ g, W.heap.size = g := ⟨_, rfl⟩
    obtain ⟨w1, hw1⟩ : ∃ z, W.alloc (.cells #[.int .i64 0, .slice none 0 0, .string ⟨#[]⟩] 48) = z := ⟨_, rfl⟩
    have B4 : Blk w1 g4 48 #[.int .i64 0, .slice none 0 0, .string ⟨#[]⟩] := by rw [← hw1, ← hg4]; exact Blk.new _ _ _
    have hb1 : Below W.heap.size W w1 := by rw [← hw1]; exact (Below.refl _ _).alloc (Nat.le_refl _) _
    obtain ⟨g6, hg6⟩ : ∃ g, w1.heap.size = g := ⟨_, rfl⟩
    obtain ⟨w2, hw2⟩ : ∃ z, w1.alloc (.cells (entArr x) 48) = z := ⟨_, rfl⟩
    have B6 : Blk w2 g6 48 (entArr x) := by rw [← hw2, ← hg6]; exact Blk.new _ _ _
    have hb12 : Below w1.heap.size w1 w2 := by rw [← hw2]; exact (Below.refl _ _).alloc (Nat.le_refl _) _
    have B4' := B4.below hb12 B4.lt
    have hb2 : Below W.heap.size W w2 := hop hb1 (Nat.le_refl _) hb12
    have hne : g4 ≠ g6 := by have := B4.lt; omega
    have h6W : W.heap.size ≤ g6 := by rw [← hg6]; exact hb1.size
    have d1 := (hb1.cell (p := ⟨b1, o1, none⟩) hlt1).trans e1
    have d2 := (hb1.cell (p := ⟨b1, o1 + 1, none⟩) hlt1).trans e2
    have d3 := (hb1.cell (p := ⟨b1, o1 + 2, none⟩) hlt1).trans e3
    have HB6 := Lib.hid B6
    have HB4 := Lib.hid B4'
    have Hb2 := Lib.hid hb2
    have HNE := Lib.hid hne
    have HG4 := Lib.hid (show W.heap.size ≤ g4 by omega)
    have H6W := Lib.hid h6W
    unfold entArr at hw2
    clear h hc1 ge hF B4 hb1 B6 hb12 B4' hb2 e1 e2 e3 hne h6W hl hs
    go_enter Try.func15, Try.ntmps15
    go_wp2
    clear hw1 hw2 hg4 hg6
    go_loopw [7] (fun iv wr => ∃ (j : Nat) (f : EntX), 1 ≤ j ∧ j ≤ n ∧ iv = .int .i64 (j : Int) ∧ Hid (firstF asc f ((x :: tl).drop j) = F) ∧ Hid (Blk wr g6 48 (entArr f)) ∧ Hid (Blk wr g4 48 #[.int .i64 0, .slice none 0 0, .string ⟨#[]⟩]) ∧ Hid (Below W.heap.size W wr) ∧ Hid (SmallQ W f)) (fun iv _ => n - (intOf iv).toNat)
    case atStart => exact ⟨1, x, Nat.le_refl _, hn0, rfl, HF, HB6, HB4, Hb2, HGX⟩
    case round =>
      obtain ⟨j, f, hj1, hjm, rfl, HJ, K6, K4, HB, HGF⟩ := hrel
      by_cases hj : j < n
      · have hjI : (j : Int) < (n : Int) := by omega
        obtain ⟨b2, o2, hA2, hlt2, hc2⟩ := (HT.out.below HB.out).at_ (by omega)
        injection hA2 with hA2
        injection hA2 with hA3 hA4
        subst hA3 hA4
        obtain ⟨q1, q2, q3, hmem, gy⟩ := hc2 j hj
        have hjl : j < (x :: tl).length := by rw [List.length_cons, HLL.out]; exact hj
        have hd : (x :: tl).drop j = (x :: tl).getD j xnil :: (x :: tl).drop (j + 1) := by
          rw [List.drop_eq_getElem_cons hjl, List.getD_eq_getElem?_getD, List.getElem?_eq_getElem hjl]
          rfl
        have hs := HJ.out
        rw [hd, firstF] at hs
        have hgy0 : SmallQ W ((x :: tl).getD j xnil) := ⟨HT.out.2 _ hmem, HSM.out _ hmem⟩
        obtain ⟨y, hy⟩ : ∃ y, (x :: tl).getD j xnil = y := ⟨_, rfl⟩
        rw [hy] at q1 q2 q3 hs hgy0
        have HS := Lib.hid hs
        have HGY := Lib.hid hgy0
        have c0 : wr.cell? ⟨g6, 0, none⟩ = some (.int .i64 f.ts) := (K6.out.cell 0).trans rfl
        have c1 : wr.cell? ⟨g6, 1, none⟩ = some (.slice f.A f.n f.c) := (K6.out.cell 1).trans rfl
        have c2 : wr.cell? ⟨g6, 2, none⟩ = some (.string f.ln) := (K6.out.cell 2).trans rfl
        have hlt6 : g6 < wr.heap.size := K6.out.lt
        have AH := fun w (h : Below wr.heap.size wr w) => refAhead_q y f asc w ((hgy0.below HB.out).below h) ((HGF.out.below HB.out).below h)
        obtain ⟨z, hz⟩ : ∃ z, aheadB y.b f.b asc = z := ⟨_, rfl⟩
        simp only [hz] at AH
        replace AH := Lib.hid AH
        have HZ := Lib.hid hz
        have S0 : Below wr.heap.size wr wr.drew := (Below.refl _ _).drew
        clear hc2 gy hmem hjl hgy0 hd hs hy hz HJ
        go_wp2
        go_region_held3 (fun w' => Below wr.heap.size wr w' ∧ w'.cell? ⟨b1, o1 + j * 3, none⟩ = some (.int .i64 y.ts) ∧ w'.cell? ⟨b1, o1 + j * 3 + 1, none⟩ = some (.slice y.A y.n y.c) ∧ w'.cell? ⟨b1, o1 + j * 3 + 2, none⟩ = some (.string y.ln) ∧ w'.cell? ⟨g6, 0, none⟩ = some (.int .i64 f.ts) ∧ w'.cell? ⟨g6, 1, none⟩ = some (.slice f.A f.n f.c) ∧ w'.cell? ⟨g6, 2, none⟩ = some (.string f.ln))
          (first | assumption | exact ⟨by assumption, by assumption, by assumption, by assumption, by assumption, by assumption, by assumption⟩ | exact ⟨by assumption, (hb5.cell (p := ⟨_, _, none⟩) hlt2).trans q1, (hb5.cell (p := ⟨_, _, none⟩) hlt2).trans q2, (hb5.cell (p := ⟨_, _, none⟩) hlt2).trans q3, (hb5.cell (p := ⟨_, _, none⟩) hlt6).trans c0, (hb5.cell (p := ⟨_, _, none⟩) hlt6).trans c1, (hb5.cell (p := ⟨_, _, none⟩) hlt6).trans c2⟩)
          (first | (go_at_call 24; refine (AH.out _ S0).mono ?_; rintro e w4 ⟨rfl, hb5⟩; replace hb5 : Below wr.heap.size wr w4 := ⟨hb5.os, hb5.tape, hb5.output, hb5.size, hb5.block⟩))
        all_goals
          have HK64 := Lib.hid (K6.out.below hb5 K6.out.lt)
          have HK44 := Lib.hid (K4.out.below hb5 K4.out.lt)
          have HW4 := Lib.hid (hop HB.out (Nat.le_refl _) hb5)
          have e1 := (hb5.cell (p := ⟨b1, o1 + j * 3, none⟩) hlt2).trans q1
          have e2 := (hb5.cell (p := ⟨b1, o1 + j * 3 + 1, none⟩) hlt2).trans q2
          have e3 := (hb5.cell (p := ⟨b1, o1 + j * 3 + 2, none⟩) hlt2).trans q3
          clear hb5 c0 c1 c2 q1 q2 q3 AH S0 K6 K4 HB
          cases z with
          | false =>
            have HN := Lib.hid (show firstF asc f ((x :: tl).drop (j + 1)) = F by have := HS.out; rw [HZ.out, if_neg (by decide)] at this; exact this)
            clear HS HZ e1 e2 e3
            go_wp2
            go_round
            case rel => exact ⟨j + 1, f, by omega, by omega, by go_num, HN, HK64, HK44, HW4, HGF⟩
            case measure => simp [intOf]; omega
          | true =>
            have HN := Lib.hid (show firstF asc y ((x :: tl).drop (j + 1)) = F by have := HS.out; rw [HZ.out, if_pos rfl] at this; exact this)
            have c0 : w4.cell? ⟨g6, 0, none⟩ = some (.int .i64 f.ts) := (HK64.out.cell 0).trans rfl
            have c1 : w4.cell? ⟨g6, 1, none⟩ = some (.slice f.A f.n f.c) := (HK64.out.cell 1).trans rfl
            have c2 : w4.cell? ⟨g6, 2, none⟩ = some (.string f.ln) := (HK64.out.cell 2).trans rfl
            have z0 := HK64.out.frozen 0
            have z1 := HK64.out.frozen 1
            have z2 := HK64.out.frozen 2
            have HK65 := Lib.hid (((HK64.out.set_ 0 (.int .i64 y.ts)).set_ 1 (.slice y.A y.n y.c)).set_ 2 (.string y.ln))
            have HK45 := Lib.hid (((HK44.out.far (p := ⟨g6, 0, none⟩) HNE.out (.int .i64 y.ts)).far (p := ⟨g6, 1, none⟩) HNE.out (.slice y.A y.n y.c)).far (p := ⟨g6, 2, none⟩) HNE.out (.string y.ln))
            have HW5 := Lib.hid (((HW4.out.setCell (p := ⟨g6, 0, none⟩) H6W.out (.int .i64 y.ts)).setCell (p := ⟨g6, 1, none⟩) H6W.out (.slice y.A y.n y.c)).setCell (p := ⟨g6, 2, none⟩) H6W.out (.string y.ln))
            clear HS HZ HK64 HK44 HW4
            go_wp2
            go_round
            case rel => exact ⟨j + 1, y, by omega, by omega, by go_num, HN, HK65, HK45, HW5, HGY⟩
            case measure => simp [intOf]; omega
      · obtain rfl : n = j := by omega
        have E := Lib.hid (show f = F by
          have := HJ.out
          rw [List.drop_of_length_le (by rw [List.length_cons, HLL.out]; exact Nat.le_refl _)] at this
          exact this)
        have c0 : wr.cell? ⟨g6, 0, none⟩ = some (.int .i64 f.ts) := (K6.out.cell 0).trans rfl
        have c1 : wr.cell? ⟨g6, 1, none⟩ = some (.slice f.A f.n f.c) := (K6.out.cell 1).trans rfl
        have c2 : wr.cell? ⟨g6, 2, none⟩ = some (.string f.ln) := (K6.out.cell 2).trans rfl
        have y0 : wr.cell? ⟨g4, 0, none⟩ = some (.int .i64 0) := (K4.out.cell 0).trans rfl
        have y1 : wr.cell? ⟨g4, 1, none⟩ = some (.slice none 0 0) := (K4.out.cell 1).trans rfl
        have y2 : wr.cell? ⟨g4, 2, none⟩ = some (.string ⟨#[]⟩) := (K4.out.cell 2).trans rfl
        have z0 := K4.out.frozen 0
        have z1 := K4.out.frozen 1
        have z2 := K4.out.frozen 2
        have HR := Lib.hid (((K4.out.set_ 0 (.int .i64 f.ts)).set_ 1 (.slice f.A f.n f.c)).set_ 2 (.string f.ln))
        have HBE := Lib.hid (((HB.out.setCell (p := ⟨g4, 0, none⟩) (by have := HG4.out; omega) (.int .i64 f.ts)).setCell (p := ⟨g4, 1, none⟩) (by have := HG4.out; omega) (.slice f.A f.n f.c)).setCell (p := ⟨g4, 2, none⟩) (by have := HG4.out; omega) (.string f.ln))
        clear HJ
        go_wp2
        refine bodyPost_ret (results_row_tmp rfl _ _ _ 48 _ (0, 0) _ rfl HR.out Try.underlying48 rfl (by kernel_rfl)) rfl ?_
        rw [← E.out]
        exact ⟨rfl, HBE.out⟩
end Go.Proofs.Ytilcanblgdmecaa
