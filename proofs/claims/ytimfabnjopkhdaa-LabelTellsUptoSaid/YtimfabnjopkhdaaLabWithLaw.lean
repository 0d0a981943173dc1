/- The walk of the law LabelWith: with more labels those that were there stay, but those whose names come once more. -/
import Derived.Test.YtimfabnjopkhdaaLabOrderLaw
import Derived.Test.YtimfabnjopkhdaaLabSets
namespace Go.Proofs.Ytimfabnjopkhdaa
open Go.RowKit
set_option linter.unusedVariables false
set_option linter.unusedSimpArgs false

theorem OwnP.cap {w : World} {B : Nat} {v : Value} {l : List PairB} (h : OwnP w B v l) : ∃ A m cap, v = .slice A m cap ∧ m = l.length ∧ Hid (A = none → m = 0 ∧ cap = 0) ∧ Hid (Pairs w A m l) := by
  rcases h.row with ⟨rfl, rfl⟩ | ⟨g, cap, rfl, _, hg, hc, hr⟩
  · exact ⟨none, 0, 0, rfl, rfl, Lib.hid (fun _ => ⟨rfl, rfl⟩), Lib.hid (pairs_none w)⟩
  · exact ⟨_, _, cap, rfl, rfl, Lib.hid (fun e => by cases e), Lib.hid (hr.pairs hg)⟩
theorem of_cap (L : List PairB) (hL : L.length < 20) (B : Option Addr) (q k : Nat) (W : World) (h : Hid (Pairs W B q L)) :
    Calls Try.prog 16 #[.slice B q k] W fun e w' => ∃ A m cap, e = .returned (.slice A m cap) ∧ m ≤ L.length ∧ Hid (A = none → m = 0 ∧ cap = 0) ∧ Hid (Pairs w' A m (ofL L)) ∧ Below W.heap.size W w' := by
  have hq : L.length = q := h.out.1
  have hlt : (namedL L).length < 20 := Nat.lt_of_le_of_lt (List.length_filter_le _ _) hL
  refine (of_labels B q k L (by omega) hlt W h.out).mono ?_
  rintro e w' ⟨v, rfl, hown, hb⟩
  obtain ⟨A, m, cap, rfl, hm, hA, hp⟩ := hown.cap
  exact ⟨_, _, _, rfl, by rw [hm]; exact ofL_len L, hA, hp, hb⟩
theorem with_cap (A B : Option Addr) (n m c d : Nat) (ps qs : List PairB) (hn : n ≤ 14) (hm : m ≤ 400) (hs : n + m < 20) (W : World) (h1 : Hid (Pairs W A n ps)) (h2 : Hid (Pairs W B m qs)) (hA : Hid (A = none → n = 0 ∧ c = 0)) (hB : Hid (B = none → m = 0 ∧ d = 0)) :
    Calls Try.prog 18 #[.slice A n c, .slice B m d] W fun e w' => ∃ A3 k cap, e = .returned (.slice A3 k cap) ∧ k ≤ n + m ∧ Hid (A3 = none → k = 0 ∧ cap = 0) ∧ Hid (Pairs w' A3 k (ofL (ps ++ qs))) ∧ Below W.heap.size W w' := by
  have l1 := h1.out.1
  have l2 := h2.out.1
  have hlt : (namedL (ps ++ qs)).length < 20 := Nat.lt_of_le_of_lt (List.length_filter_le _ _) (by rw [List.length_append]; omega)
  refine (with_any A B n m c d ps qs (by omega) (by omega) hlt W h1.out h2.out hA.out hB.out).mono ?_
  rintro e w' ⟨v, rfl, hown, hb⟩
  obtain ⟨A3, k, cap, rfl, hk, hA3, hp⟩ := hown.cap
  exact ⟨_, _, _, rfl, by rw [hk]; exact Nat.le_trans (ofL_len _) (by rw [List.length_append]; omega), hA3, hp, hb⟩
theorem get_none {b : List PairB} {nm : ByteArray} (h : b.filter (ofName nm) = []) : getL b nm = none := by
  have e : findL b nm = (b.filter (ofName nm)).head? := List.head?_filter.symm
  unfold getL
  rw [e, h]
  rfl
theorem get_one {b : List PairB} {nm : ByteArray} {p : PairB} (h : b.filter (ofName nm) = [p]) : getL b nm = some p.2 := by
  have e : findL b nm = (b.filter (ofName nm)).head? := List.head?_filter.symm
  unfold getL
  rw [e, h]
  rfl
theorem get_isSome {b : List PairB} (hb : SetL b) (nm : ByteArray) : (getL b nm).isSome = !decide (b.filter (ofName nm) = []) := by
  rcases one_of hb.rise nm with e | ⟨q, _, e⟩
  · rw [get_none e, e]; rfl
  · rw [get_one e, e]; rfl
theorem get_mem {b : List PairB} (hb : SetL b) {p : PairB} (h : p ∈ b) : getL b p.1 = some p.2 := by
  have hm : p ∈ b.filter (ofName p.1) := List.mem_filter.2 ⟨h, decide_eq_true rfl⟩
  rcases one_of hb.rise p.1 with e | ⟨q, _, e⟩
  · rw [e] at hm; cases hm
  · rw [get_one e]
    rw [e] at hm
    rw [List.mem_singleton.1 hm]
theorem with_at {a b : List PairB} (ha : SetL a) (hb : SetL b) {p : PairB} (h : p ∈ ofL (a ++ b)) : getL b p.1 = some p.2 ∨ (getL b p.1 = none ∧ getL a p.1 = some p.2) := by
  rcases (with_mem ha hb p).1 h with h | ⟨h, h2⟩
  · exact .inl (get_mem hb h)
  · exact .inr ⟨get_none h2, get_mem ha h⟩
def moreTo (a b : List PairB) (i : Nat) : Nat := ((a.take i).filter (fun p => decide (b.filter (ofName p.1) = []))).length
theorem moreTo_next {a b : List PairB} (hb : SetL b) (i : Nat) (h : i < a.length) : moreTo a b (i + 1) = moreTo a b i + (if (getL b (a.getD i pnil).1).isSome then 0 else 1) := by
  unfold moreTo
  rw [List.take_succ_eq_append_getElem h, List.filter_append, List.length_append, get_isSome hb, List.getD_eq_getElem?_getD, List.getElem?_eq_getElem h]
  show _ + (List.filter _ [a[i]]).length = _ + if (!decide (b.filter (ofName a[i].1) = [])) = true then 0 else 1
  rw [List.filter_cons]
  cases decide (b.filter (ofName a[i].1) = []) <;> rfl
theorem moreTo_le (a b : List PairB) (i : Nat) : moreTo a b i ≤ i := by
  unfold moreTo
  exact Nat.le_trans (List.length_filter_le _ _) (by rw [List.length_take]; omega)

set_option maxRecDepth 100000 in
set_option maxHeartbeats 3200000 in
theorem labelWith_walk {W : World} (A : Option Addr) (n c : Nat) (x : List TagB) (B : Option Addr) (m d : Nat) (y : List TagB)
    (hx : TagsP W A n x) (hnc : n ≤ c) (hcm : c ≤ maxLen) (hy : TagsP W B m y) (hmd : m ≤ d) (hdm : d ≤ maxLen) :
    Calls Try.prog 9 #[.slice A n c, .slice B m d] W fun e w' => e = .returned (.bool true) ∧ Below W.heap.size W w' := by
  have h0 : W.heap.size ≤ W.heap.size := Nat.le_refl _
  unfold maxLen at hcm hdm
  have HX := Lib.hid (labExamples_any W)
  have TX := Lib.hid (fun w h => tags_some A n c 6 6 rfl x (by omega) (by omega) w h)
  have TY := Lib.hid (fun w h => tags_some B m d 6 6 rfl y (by omega) (by omega) w h)
  have lx := tagsL_len x 6
  have ly := tagsL_len y 6
  have OX := Lib.hid (fun B q k w h => of_cap (tagsL x 6) (by omega) B q k w h)
  have OY := Lib.hid (fun B q k w h => of_cap (tagsL y 6) (by omega) B q k w h)
  have HX1 := Lib.hid hx
  have HY1 := Lib.hid hy
  clear hx hy hnc hcm hmd hdm
  go_enter Try.func9, Try.ntmps9
  go_wp2_with fail
  refine HX.out.mono ?_
  rintro e w ⟨rfl, hb⟩
  go_wp2_with fail
  refine (TX.out _ (HX1.out.below hb)).mono ?_
  rintro e w1 ⟨B1, q1, k1, rfl, hp, hx⟩
  replace hb := hop hb h0 hx
  clear hx
  go_wp2_with fail
  refine (OX.out _ _ _ _ hp).mono ?_
  rintro e w2 ⟨A1, m1, c1, rfl, hm1, hA1, hpa, hx⟩
  replace hb := hop hb h0 hx
  clear hx hp
  go_wp2_with fail
  refine (TY.out _ (HY1.out.below hb)).mono ?_
  rintro e w3 ⟨B2, q2, k2, rfl, hp, hx⟩
  replace hb := hop hb h0 hx
  replace hpa := Lib.hid (hpa.out.below hx)
  clear hx
  go_wp2_with fail
  refine (OY.out _ _ _ _ hp).mono ?_
  rintro e w4 ⟨A2, m2, c2, rfl, hm2, hA2, hpb, hx⟩
  replace hb := hop hb h0 hx
  replace hpa := Lib.hid (hpa.out.below hx)
  clear hx hp
  have sa := ofL_set (tagsL x 6)
  have sb := ofL_set (tagsL y 6)
  obtain ⟨a, ha⟩ : ∃ a, ofL (tagsL x 6) = a := ⟨_, rfl⟩
  obtain ⟨b, hbb⟩ : ∃ a, ofL (tagsL y 6) = a := ⟨_, rfl⟩
  rw [ha] at hpa sa
  rw [hbb] at hpb sb
  have SA := Lib.hid sa
  have SB := Lib.hid sb
  have WW := Lib.hid (with_cap A1 A2 m1 m2 c1 c2 a b (by omega) (by omega) (by omega) w4 hpa hpb hA1 hA2)
  clear ha hbb sa sb TX TY OX OY HX1 HY1 HX
  go_wp2_with fail
  refine WW.out.mono ?_
  rintro e w5 ⟨A3, m3, c3, rfl, hm3, hA3, hpc, hx⟩
  replace hb := hop hb h0 hx
  replace hpa := Lib.hid (hpa.out.below hx)
  replace hpb := Lib.hid (hpb.out.below hx)
  have hcnt := with_count SA.out SB.out
  have hagain := with_again SA.out SB.out
  have hat := fun p (hp : p ∈ ofL (a ++ b)) => with_at SA.out SB.out hp
  obtain ⟨cc, hcc⟩ : ∃ q, ofL (a ++ b) = q := ⟨_, rfl⟩
  rw [hcc] at hpc hcnt hagain
  simp only [hcc] at hat
  have HAT := Lib.hid hat
  have HCN := Lib.hid hcnt
  have HAG := Lib.hid hagain
  have HB := Lib.hid hb
  have hm1' : m1 ≤ 6 := Nat.le_trans hm1 lx
  have hm2' : m2 ≤ 6 := Nat.le_trans hm2 ly
  clear hx WW hcc hat hcnt hagain hb hm1 hm2 lx ly
  go_wp2
  go_loopw [9] (fun iv wr => ∃ i : Nat, i ≤ m3 ∧ iv = .int .i64 i ∧ Below w5.heap.size w5 wr) (fun iv _ => m3 - (intOf iv).toNat)
  case atStart => exact ⟨0, Nat.zero_le _, rfl, Below.refl _ _⟩
  case round =>
    obtain ⟨i, him, rfl, hb⟩ := hrel
    by_cases hi : i < m3
    · have hpc2 := hpc.out.below hb
      obtain ⟨b1, o1, rfl, hlt1, hc1⟩ := hpc2.2 (by omega)
      have hil : i < cc.length := by rw [hpc2.1]; exact hi
      have hmem : cc.getD i pnil ∈ cc := by
        rw [List.getD_eq_getElem?_getD, List.getElem?_eq_getElem hil]
        exact List.getElem_mem _
      have hat := HAT.out _ hmem
      obtain ⟨e1, e2⟩ := hc1 i hi
      obtain ⟨⟨p1, p2⟩, hp⟩ : ∃ p, cc.getD i pnil = p := ⟨_, rfl⟩
      rw [hp] at e1 e2 hat
      dsimp only at e1 e2 hat
      have hiI : (i : Int) < (m3 : Int) := by omega
      have G1 := labGet_any A2 m2 c2 b p1 (by omega) wr (hpb.out.below hb)
      have G2 := fun w h => labGet_any A1 m1 c1 a p1 (by omega) w h
      have hca := hpa.out.below hb
      have HCA := Lib.hid hca
      have E1 := e1
      clear hpc2 hc1 hil hmem hp hca
      rcases hat with hg | ⟨hg, hg2⟩
      · rw [hg] at G1
        obtain ⟨ov, hov⟩ : ∃ o, getL a p1 = o := ⟨_, rfl⟩
        simp only [hov] at G2
        replace G1 := Lib.hid G1
        replace G2 := Lib.hid G2
        clear hg hov
        go_wp2_with fail
        refine G1.out.mono ?_
        rintro e w6 ⟨rfl, hx⟩
        have f1 : w6.cell? ⟨b1, o1 + i * 2, none⟩ = some (.string p1) := (hx.cell (p := ⟨b1, o1 + i * 2, none⟩) hlt1).trans e1
        have f2 : w6.cell? ⟨b1, o1 + i * 2 + 1, none⟩ = some (.string p2) := (hx.cell (p := ⟨b1, o1 + i * 2 + 1, none⟩) hlt1).trans e2
        have hlt2 : b1 < w6.heap.size := Nat.lt_of_lt_of_le hlt1 hx.size
        have HCA2 := Lib.hid (HCA.out.below hx)
        have hb6 := hop hb (Nat.le_refl _) hx
        clear hx e1 e2 E1
        go_wp2_with fail
        refine (G2.out _ HCA2.out).mono ?_
        rintro e w7 ⟨rfl, hx⟩
        have g1 : w7.cell? ⟨b1, o1 + i * 2, none⟩ = some (.string p1) := (hx.cell (p := ⟨b1, o1 + i * 2, none⟩) hlt2).trans f1
        have g2 : w7.cell? ⟨b1, o1 + i * 2 + 1, none⟩ = some (.string p2) := (hx.cell (p := ⟨b1, o1 + i * 2 + 1, none⟩) hlt2).trans f2
        have hb7 := hop hb6 (Nat.le_refl _) hx
        clear hx f1 f2
        go_wp2
        go_round
        case rel => exact ⟨i + 1, by omega, by go_num, hb7⟩
        case measure => simp [intOf]; omega
      · rw [hg] at G1
        simp only [hg2] at G2
        replace G1 := Lib.hid G1
        replace G2 := Lib.hid G2
        clear hg hg2
        go_wp2_with fail
        refine G1.out.mono ?_
        rintro e w6 ⟨rfl, hx⟩
        have f1 : w6.cell? ⟨b1, o1 + i * 2, none⟩ = some (.string p1) := (hx.cell (p := ⟨b1, o1 + i * 2, none⟩) hlt1).trans e1
        have f2 : w6.cell? ⟨b1, o1 + i * 2 + 1, none⟩ = some (.string p2) := (hx.cell (p := ⟨b1, o1 + i * 2 + 1, none⟩) hlt1).trans e2
        have hlt2 : b1 < w6.heap.size := Nat.lt_of_lt_of_le hlt1 hx.size
        have HCA2 := Lib.hid (HCA.out.below hx)
        have hb6 := hop hb (Nat.le_refl _) hx
        clear hx e1 e2 E1
        go_wp2_with fail
        refine (G2.out _ HCA2.out).mono ?_
        rintro e w7 ⟨rfl, hx⟩
        have g1 : w7.cell? ⟨b1, o1 + i * 2, none⟩ = some (.string p1) := (hx.cell (p := ⟨b1, o1 + i * 2, none⟩) hlt2).trans f1
        have g2 : w7.cell? ⟨b1, o1 + i * 2 + 1, none⟩ = some (.string p2) := (hx.cell (p := ⟨b1, o1 + i * 2 + 1, none⟩) hlt2).trans f2
        have hb7 := hop hb6 (Nat.le_refl _) hx
        clear hx f1 f2
        go_wp2
        go_round
        case rel => exact ⟨i + 1, by omega, by go_num, hb7⟩
        case measure => simp [intOf]; omega
    · obtain rfl : i = m3 := by omega
      have hpa2 := Lib.hid (hpa.out.below hb)
      have hpb2 := Lib.hid (hpb.out.below hb)
      have hpc2 := Lib.hid (hpc.out.below hb)
      have HB2 := Lib.hid (hop HB.out (Nat.le_refl _) hb)
      clear hi hb hpa hpb hpc HB
      go_wp2
      go_loopw [14, 15] (fun mv iv ws => ∃ j : Nat, j ≤ m1 ∧ iv = .int .i64 j ∧ mv = .int .i64 ((m2 + moreTo a b j : Nat) : Int) ∧ Below wr.heap.size wr ws) (fun _ iv _ => m1 - (intOf iv).toNat)
      case atStart => exact ⟨0, Nat.zero_le _, rfl, rfl, Below.refl _ _⟩
      case round =>
        obtain ⟨j, hjm, rfl, rfl, hb⟩ := hrel
        by_cases hj : j < m1
        · have hq := hpa2.out.below hb
          obtain ⟨b1, o1, rfl, hlt1, hc1⟩ := hq.2 (by omega)
          have hnx := moreTo_next SB.out j (by rw [hq.1]; exact hj)
          have hml := moreTo_le a b j
          obtain ⟨e1, _⟩ := hc1 j hj
          obtain ⟨⟨p1, p2⟩, hp⟩ : ∃ p, a.getD j pnil = p := ⟨_, rfl⟩
          rw [hp] at e1 hnx
          dsimp only at e1 hnx
          have hjI : (j : Int) < (m1 : Int) := by omega
          have G1 := labGet_any A2 m2 c2 b p1 (by omega) wr (hpb2.out.below hb)
          obtain ⟨ov, hov⟩ : ∃ o, getL b p1 = o := ⟨_, rfl⟩
          rw [hov] at G1 hnx
          obtain ⟨t, ht⟩ : ∃ t, m2 + moreTo a b j = t := ⟨_, rfl⟩
          obtain ⟨t2, ht2⟩ : ∃ t, m2 + moreTo a b (j + 1) = t := ⟨_, rfl⟩
          rw [ht]
          have HT2 := Lib.hid ht2
          replace G1 := Lib.hid G1
          cases ov with
          | some v =>
            have hE : t2 = t := by rw [← ht2, ← ht, hnx]; rfl
            have HE := Lib.hid hE
            have h4 : t ≤ 100 := by omega
            clear hE hq hc1 hnx hml hp hov ht ht2
            go_wp2_with fail
            refine G1.out.mono ?_
            rintro e w6 ⟨rfl, hx⟩
            have hb6 := hop hb (Nat.le_refl _) hx
            clear hx e1
            go_wp2
            go_round
            case rel => exact ⟨j + 1, by omega, by go_num, by rw [HT2.out, HE.out], hb6⟩
            case measure => simp [intOf]; omega
          | none =>
            have hE : t2 = t + 1 := by rw [← ht2, ← ht, hnx]; rfl
            have HE := Lib.hid hE
            have h4 : t ≤ 100 := by omega
            clear hE hq hc1 hnx hml hp hov ht ht2
            go_wp2_with fail
            refine G1.out.mono ?_
            rintro e w6 ⟨rfl, hx⟩
            have hb6 := hop hb (Nat.le_refl _) hx
            clear hx e1
            go_wp2
            go_round
            case rel => exact ⟨j + 1, by omega, by go_num, by rw [HT2.out, HE.out]; go_num, hb6⟩
            case measure => simp [intOf]; omega
        · obtain rfl : j = m1 := by omega
          have hfull : m2 + moreTo a b j = i := by
            have h1 := HCN.out
            rw [hpc2.out.1, hpb2.out.1] at h1
            rw [h1]
            unfold moreTo
            rw [List.take_of_length_le (by rw [hpa2.out.1]; exact Nat.le_refl _)]
          rw [hfull]
          have hpc3 := Lib.hid (hpc2.out.below hb)
          have hpb3 := Lib.hid (hpb2.out.below hb)
          have WW := with_cap A3 A2 i m2 c3 c2 cc b (by omega) (by omega) (by omega) wr hpc3 hpb3 hA3 hA2
          rw [HAG.out] at WW
          replace WW := Lib.hid WW
          have HB3 := Lib.hid (hop HB2.out (Nat.le_refl _) hb)
          clear hfull hj hb
          go_wp2_with fail
          refine WW.out.mono ?_
          rintro e w6 ⟨A4, m4, c4, rfl, hm4, _, hpd, hx⟩
          have hpc4 := Lib.hid (hpc3.out.below hx)
          have hb6 := hop HB3.out (Nat.le_refl _) hx
          have S := same_any A4 A3 m4 i c4 c3 cc cc (by omega) (by omega) w6 hpd.out hpc4.out
          rw [decide_eq_true (rfl : cc = cc)] at S
          replace S := Lib.hid S
          clear hx
          go_wp2_with fail
          refine S.out.mono ?_
          rintro e w7 ⟨rfl, hx⟩
          have hb7 := hop hb6 (Nat.le_refl _) hx
          clear hx
          go_wp2
          go_ret
          exact ⟨by simp, hb7⟩
end Go.Proofs.Ytimfabnjopkhdaa
