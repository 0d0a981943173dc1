/- The walk of the law LabelOrder: the order of sets of labels is one. -/
import Derived.Test.YtimfabnjopkhdaaLabTags
namespace Go.Proofs.Ytimfabnjopkhdaa
open Go.RowKit
set_option linter.unusedVariables false
set_option linter.unusedSimpArgs false

theorem ofL_len (ps : List PairB) : (ofL ps).length ≤ ps.length := by
  unfold ofL lastsL
  refine Nat.le_trans (keptTo_len _ _) ?_
  rw [sortL_length]
  exact List.length_filter_le _ _
theorem tags_some (A : Option Addr) (n c most : Nat) (x : Int) (hx : x = (most : Int)) (ts : List TagB) (hn : n ≤ 9223372036854775807) (hm : most ≤ 1000000) (W : World) (h1 : TagsP W A n ts) :
    Calls Try.prog 11 #[.slice A n c, .int .i64 x] W fun e w' => ∃ B q k, e = .returned (.slice B q k) ∧ Hid (Pairs w' B q (tagsL ts most)) ∧ Below W.heap.size W w' := by
  subst hx
  refine (tags_any A n c most ts hn hm W h1).mono ?_
  rintro e w' ⟨v, rfl, hown, hb⟩
  obtain ⟨B, k, rfl, _, hp⟩ := hown.pairs
  exact ⟨_, _, _, rfl, Lib.hid hp, hb⟩
theorem of_some (L : List PairB) (hL : L.length < 20) (B : Option Addr) (q k : Nat) (W : World) (h : Hid (Pairs W B q L)) :
    Calls Try.prog 16 #[.slice B q k] W fun e w' => ∃ A m cap, e = .returned (.slice A m cap) ∧ m ≤ L.length ∧ Hid (Pairs w' A m (ofL L)) ∧ Below W.heap.size W w' := by
  have hq : L.length = q := h.out.1
  have hlt : (namedL L).length < 20 := Nat.lt_of_le_of_lt (List.length_filter_le _ _) hL
  refine (of_labels B q k L (by omega) hlt W h.out).mono ?_
  rintro e w' ⟨v, rfl, hown, hb⟩
  obtain ⟨A, cap, rfl, _, hp⟩ := hown.pairs
  exact ⟨_, _, _, rfl, ofL_len L, Lib.hid hp, hb⟩
/-- the order, by one step -/
theorem orders (a b c : List PairB) : ∃ o r s t : Int, orderL a b = o ∧ orderL b a = r ∧ orderL b c = s ∧ orderL a c = t ∧ decide (a = b) = decide (o = 0) ∧
    ((o = 1 ∧ r = -1) ∨ (o = 0 ∧ r = 0) ∨ (o = -1 ∧ r = 1)) ∧ ((s ≤ 0 ∧ decide (0 < s) = false ∧ (o ≤ 0 → t ≤ 0)) ∨ decide (s ≤ 0) = false) := by
  refine ⟨_, _, _, _, rfl, rfl, rfl, rfl, ?_, ?_, ?_⟩
  · by_cases h : a = b
    · subst h
      rw [orderL_ord.refl]
      simp
    · have : ¬ orderL a b = 0 := fun h2 => h (orderL_ord.zero _ _ h2)
      rw [decide_eq_false h, decide_eq_false this]
  · have h1 := orderL_ord.anti a b
    have h2 := orderL_vals a b
    omega
  · by_cases h : orderL b c ≤ 0
    · exact .inl ⟨h, decide_eq_false (by omega), fun h2 => orderL_ord.trans _ _ _ h2 h⟩
    · exact .inr (decide_eq_false h)
theorem order_nil (a : List PairB) : (a.length = 0 ∧ orderL [] a = 0) ∨ (1 ≤ a.length ∧ orderL [] a = -1) := by
  cases a with
  | nil => exact .inl ⟨rfl, rfl⟩
  | cons x l => exact .inr ⟨by simp, rfl⟩

set_option maxRecDepth 100000 in
set_option maxHeartbeats 3200000 in
theorem labelOrder_walk {W : World} (A : Option Addr) (n c : Nat) (x : List TagB) (B : Option Addr) (m d : Nat) (y : List TagB) (C : Option Addr) (l e : Nat) (z : List TagB)
    (hx : TagsP W A n x) (hnc : n ≤ c) (hcm : c ≤ maxLen) (hy : TagsP W B m y) (hmd : m ≤ d) (hdm : d ≤ maxLen) (hz : TagsP W C l z) (hle : l ≤ e) (hem : e ≤ maxLen) :
    Calls Try.prog 7 #[.slice A n c, .slice B m d, .slice C l e] W fun e w' => e = .returned (.bool true) ∧ Below W.heap.size W w' := by
  have h0 : W.heap.size ≤ W.heap.size := Nat.le_refl _
  unfold maxLen at hcm hdm hem
  have HX := Lib.hid (labExamples_any W)
  have TX := Lib.hid (fun w h => tags_some A n c 4 4 rfl x (by omega) (by omega) w h)
  have TY := Lib.hid (fun w h => tags_some B m d 4 4 rfl y (by omega) (by omega) w h)
  have TZ := Lib.hid (fun w h => tags_some C l e 4 4 rfl z (by omega) (by omega) w h)
  have lx := tagsL_len x 4
  have ly := tagsL_len y 4
  have lz := tagsL_len z 4
  have OX := Lib.hid (fun B q k w h => of_some (tagsL x 4) (by omega) B q k w h)
  have OY := Lib.hid (fun B q k w h => of_some (tagsL y 4) (by omega) B q k w h)
  have OZ := Lib.hid (fun B q k w h => of_some (tagsL z 4) (by omega) B q k w h)
  have HX1 := Lib.hid hx
  have HY1 := Lib.hid hy
  have HZ1 := Lib.hid hz
  clear hx hy hz hnc hcm hmd hdm hle hem
  go_enter Try.func7, Try.ntmps7
  go_wp2_with fail
  refine HX.out.mono ?_
  rintro e w ⟨rfl, hb⟩
  go_wp2_with fail
  refine (TX.out _ (HX1.out.below hb)).mono ?_
  rintro e w1 ⟨B1, q1, k1, rfl, hp, hx⟩
  replace hb := hop hb h0 hx
  clear hx
  go_wp2_with fail
  refine (OX.out _ _ _ _ hp).mono ?_
  rintro e w2 ⟨A1, m1, c1, rfl, hm1, hpa, hx⟩
  replace hb := hop hb h0 hx
  clear hx hp
  go_wp2_with fail
  refine (TY.out _ (HY1.out.below hb)).mono ?_
  rintro e w3 ⟨B2, q2, k2, rfl, hp, hx⟩
  replace hb := hop hb h0 hx
  replace hpa := Lib.hid (hpa.out.below hx)
  clear hx
  go_wp2_with fail
  refine (OY.out _ _ _ _ hp).mono ?_
  rintro e w4 ⟨A2, m2, c2, rfl, hm2, hpb, hx⟩
  replace hb := hop hb h0 hx
  replace hpa := Lib.hid (hpa.out.below hx)
  clear hx hp
  go_wp2_with fail
  refine (TZ.out _ (HZ1.out.below hb)).mono ?_
  rintro e w5 ⟨B3, q3, k3, rfl, hp, hx⟩
  replace hb := hop hb h0 hx
  replace hpa := Lib.hid (hpa.out.below hx)
  replace hpb := Lib.hid (hpb.out.below hx)
  clear hx
  go_wp2_with fail
  refine (OZ.out _ _ _ _ hp).mono ?_
  rintro e w6 ⟨A3, m3, c3, rfl, hm3, hpc, hx⟩
  replace hb := hop hb h0 hx
  replace hpa := Lib.hid (hpa.out.below hx)
  replace hpb := Lib.hid (hpb.out.below hx)
  clear hx hp
  obtain ⟨a, ha⟩ : ∃ a, ofL (tagsL x 4) = a := ⟨_, rfl⟩
  obtain ⟨b, hbb⟩ : ∃ a, ofL (tagsL y 4) = a := ⟨_, rfl⟩
  obtain ⟨c', hcc⟩ : ∃ a, ofL (tagsL z 4) = a := ⟨_, rfl⟩
  rw [ha] at hpa
  rw [hbb] at hpb
  rw [hcc] at hpc
  obtain ⟨o, r, s, t, e1, e2, e3, e4, e5, e6, e7⟩ := orders a b c'
  have OAB := fun w h1 h2 => order_any A1 A2 m1 m2 c1 c2 a b (by omega) (by omega) w h1 h2
  have OBA := fun w h1 h2 => order_any A2 A1 m2 m1 c2 c1 b a (by omega) (by omega) w h1 h2
  have OBC := fun w h1 h2 => order_any A2 A3 m2 m3 c2 c3 b c' (by omega) (by omega) w h1 h2
  have OAC := fun w h1 h2 => order_any A1 A3 m1 m3 c1 c3 a c' (by omega) (by omega) w h1 h2
  have ONA := fun w h2 => order_any none A1 0 m1 0 c1 [] a (by omega) (by omega) w (pairs_none w) h2
  have SAB := fun w h1 h2 => same_any A1 A2 m1 m2 c1 c2 a b (by omega) (by omega) w h1 h2
  have hn := order_nil a
  have hla := hpa.out.1
  obtain ⟨u, hu⟩ : ∃ u, orderL [] a = u := ⟨_, rfl⟩
  rw [hu, hla] at hn
  simp only [e1] at OAB
  simp only [e2] at OBA
  simp only [e3] at OBC
  simp only [e4] at OAC
  simp only [hu] at ONA
  simp only [e5] at SAB
  replace OAB := Lib.hid OAB
  replace OBA := Lib.hid OBA
  replace OBC := Lib.hid OBC
  replace OAC := Lib.hid OAC
  replace ONA := Lib.hid ONA
  replace SAB := Lib.hid SAB
  have H6 := Lib.hid e6
  have H7 := Lib.hid e7
  have HN := Lib.hid hn
  clear ha hbb hcc e1 e2 e3 e4 e5 e6 e7 hu hn hla lx ly lz hm1 hm2 hm3 TX TY TZ OX OY OZ HX1 HY1 HZ1 HX
  go_wp2_with fail
  refine (OAB.out _ hpa.out hpb.out).mono ?_
  rintro e w7 ⟨rfl, hx⟩
  replace hb := hop hb h0 hx
  replace hpa := Lib.hid (hpa.out.below hx)
  replace hpb := Lib.hid (hpb.out.below hx)
  replace hpc := Lib.hid (hpc.out.below hx)
  clear hx
  rcases H6.out with ⟨rfl, rfl⟩ | ⟨rfl, rfl⟩ | ⟨rfl, rfl⟩
  · clear H6 H7
    go_wp2_with fail
    refine (OBA.out _ hpb.out hpa.out).mono ?_
    rintro e w10 ⟨rfl, hx⟩
    replace hb := hop hb h0 hx
    replace hpa := Lib.hid (hpa.out.below hx)
    replace hpb := Lib.hid (hpb.out.below hx)
    replace hpc := Lib.hid (hpc.out.below hx)
    clear hx
    go_wp2_with fail
    refine (SAB.out _ hpa.out hpb.out).mono ?_
    rintro e w11 ⟨rfl, hx⟩
    replace hb := hop hb h0 hx
    replace hpa := Lib.hid (hpa.out.below hx)
    replace hpb := Lib.hid (hpb.out.below hx)
    replace hpc := Lib.hid (hpc.out.below hx)
    clear hx
    rcases HN.out with ⟨rfl, rfl⟩ | ⟨hm, rfl⟩
    · go_wp2_with fail
      refine (ONA.out _ hpa.out).mono ?_
      rintro e w12 ⟨rfl, hx⟩
      replace hb := hop hb h0 hx
      replace hpa := Lib.hid (hpa.out.below hx)
      replace hpb := Lib.hid (hpb.out.below hx)
      replace hpc := Lib.hid (hpc.out.below hx)
      clear hx
      go_wp2
      go_ret
      exact ⟨by first | (simp; done) | (simp; decide), hb⟩
    · have hmI : (1 : Int) ≤ (m1 : Int) := by omega
      have hmin : min (m1 : Int) 1 = 1 := by omega
      go_wp2_with fail
      refine (ONA.out _ hpa.out).mono ?_
      rintro e w12 ⟨rfl, hx⟩
      replace hb := hop hb h0 hx
      replace hpa := Lib.hid (hpa.out.below hx)
      replace hpb := Lib.hid (hpb.out.below hx)
      replace hpc := Lib.hid (hpc.out.below hx)
      clear hx
      go_wp2
      go_ret
      exact ⟨by first | (simp; done) | (simp; decide), hb⟩
  · rcases H7.out with ⟨hs, hs2, ht⟩ | hs
    · have ht2 : decide (0 < t) = false := decide_eq_false (by have := ht (by omega); omega)
      clear ht H6 H7
      go_wp2_with fail
      refine (OBC.out _ hpb.out hpc.out).mono ?_
      rintro e w8 ⟨rfl, hx⟩
      replace hb := hop hb h0 hx
      replace hpa := Lib.hid (hpa.out.below hx)
      replace hpb := Lib.hid (hpb.out.below hx)
      replace hpc := Lib.hid (hpc.out.below hx)
      clear hx
      go_wp2_with fail
      refine (OAC.out _ hpa.out hpc.out).mono ?_
      rintro e w9 ⟨rfl, hx⟩
      replace hb := hop hb h0 hx
      replace hpa := Lib.hid (hpa.out.below hx)
      replace hpb := Lib.hid (hpb.out.below hx)
      replace hpc := Lib.hid (hpc.out.below hx)
      clear hx
      go_wp2_with fail
      refine (OBA.out _ hpb.out hpa.out).mono ?_
      rintro e w10 ⟨rfl, hx⟩
      replace hb := hop hb h0 hx
      replace hpa := Lib.hid (hpa.out.below hx)
      replace hpb := Lib.hid (hpb.out.below hx)
      replace hpc := Lib.hid (hpc.out.below hx)
      clear hx
      go_wp2_with fail
      refine (SAB.out _ hpa.out hpb.out).mono ?_
      rintro e w11 ⟨rfl, hx⟩
      replace hb := hop hb h0 hx
      replace hpa := Lib.hid (hpa.out.below hx)
      replace hpb := Lib.hid (hpb.out.below hx)
      replace hpc := Lib.hid (hpc.out.below hx)
      clear hx
      rcases HN.out with ⟨rfl, rfl⟩ | ⟨hm, rfl⟩
      · go_wp2_with fail
        refine (ONA.out _ hpa.out).mono ?_
        rintro e w12 ⟨rfl, hx⟩
        replace hb := hop hb h0 hx
        replace hpa := Lib.hid (hpa.out.below hx)
        replace hpb := Lib.hid (hpb.out.below hx)
        replace hpc := Lib.hid (hpc.out.below hx)
        clear hx
        go_wp2
        go_ret
        exact ⟨by first | (simp; done) | (simp; decide), hb⟩
      · have hmI : (1 : Int) ≤ (m1 : Int) := by omega
        have hmin : min (m1 : Int) 1 = 1 := by omega
        go_wp2_with fail
        refine (ONA.out _ hpa.out).mono ?_
        rintro e w12 ⟨rfl, hx⟩
        replace hb := hop hb h0 hx
        replace hpa := Lib.hid (hpa.out.below hx)
        replace hpb := Lib.hid (hpb.out.below hx)
        replace hpc := Lib.hid (hpc.out.below hx)
        clear hx
        go_wp2
        go_ret
        exact ⟨by first | (simp; done) | (simp; decide), hb⟩
    · clear H6 H7
      go_wp2_with fail
      refine (OBC.out _ hpb.out hpc.out).mono ?_
      rintro e w8 ⟨rfl, hx⟩
      replace hb := hop hb h0 hx
      replace hpa := Lib.hid (hpa.out.below hx)
      replace hpb := Lib.hid (hpb.out.below hx)
      replace hpc := Lib.hid (hpc.out.below hx)
      clear hx
      go_wp2_with fail
      refine (OBA.out _ hpb.out hpa.out).mono ?_
      rintro e w10 ⟨rfl, hx⟩
      replace hb := hop hb h0 hx
      replace hpa := Lib.hid (hpa.out.below hx)
      replace hpb := Lib.hid (hpb.out.below hx)
      replace hpc := Lib.hid (hpc.out.below hx)
      clear hx
      go_wp2_with fail
      refine (SAB.out _ hpa.out hpb.out).mono ?_
      rintro e w11 ⟨rfl, hx⟩
      replace hb := hop hb h0 hx
      replace hpa := Lib.hid (hpa.out.below hx)
      replace hpb := Lib.hid (hpb.out.below hx)
      replace hpc := Lib.hid (hpc.out.below hx)
      clear hx
      rcases HN.out with ⟨rfl, rfl⟩ | ⟨hm, rfl⟩
      · go_wp2_with fail
        refine (ONA.out _ hpa.out).mono ?_
        rintro e w12 ⟨rfl, hx⟩
        replace hb := hop hb h0 hx
        replace hpa := Lib.hid (hpa.out.below hx)
        replace hpb := Lib.hid (hpb.out.below hx)
        replace hpc := Lib.hid (hpc.out.below hx)
        clear hx
        go_wp2
        go_ret
        exact ⟨by first | (simp; done) | (simp; decide), hb⟩
      · have hmI : (1 : Int) ≤ (m1 : Int) := by omega
        have hmin : min (m1 : Int) 1 = 1 := by omega
        go_wp2_with fail
        refine (ONA.out _ hpa.out).mono ?_
        rintro e w12 ⟨rfl, hx⟩
        replace hb := hop hb h0 hx
        replace hpa := Lib.hid (hpa.out.below hx)
        replace hpb := Lib.hid (hpb.out.below hx)
        replace hpc := Lib.hid (hpc.out.below hx)
        clear hx
        go_wp2
        go_ret
        exact ⟨by first | (simp; done) | (simp; decide), hb⟩
  · rcases H7.out with ⟨hs, hs2, ht⟩ | hs
    · have ht2 : decide (0 < t) = false := decide_eq_false (by have := ht (by omega); omega)
      clear ht H6 H7
      go_wp2_with fail
      refine (OBC.out _ hpb.out hpc.out).mono ?_
      rintro e w8 ⟨rfl, hx⟩
      replace hb := hop hb h0 hx
      replace hpa := Lib.hid (hpa.out.below hx)
      replace hpb := Lib.hid (hpb.out.below hx)
      replace hpc := Lib.hid (hpc.out.below hx)
      clear hx
      go_wp2_with fail
      refine (OAC.out _ hpa.out hpc.out).mono ?_
      rintro e w9 ⟨rfl, hx⟩
      replace hb := hop hb h0 hx
      replace hpa := Lib.hid (hpa.out.below hx)
      replace hpb := Lib.hid (hpb.out.below hx)
      replace hpc := Lib.hid (hpc.out.below hx)
      clear hx
      go_wp2_with fail
      refine (OBA.out _ hpb.out hpa.out).mono ?_
      rintro e w10 ⟨rfl, hx⟩
      replace hb := hop hb h0 hx
      replace hpa := Lib.hid (hpa.out.below hx)
      replace hpb := Lib.hid (hpb.out.below hx)
      replace hpc := Lib.hid (hpc.out.below hx)
      clear hx
      go_wp2_with fail
      refine (SAB.out _ hpa.out hpb.out).mono ?_
      rintro e w11 ⟨rfl, hx⟩
      replace hb := hop hb h0 hx
      replace hpa := Lib.hid (hpa.out.below hx)
      replace hpb := Lib.hid (hpb.out.below hx)
      replace hpc := Lib.hid (hpc.out.below hx)
      clear hx
      rcases HN.out with ⟨rfl, rfl⟩ | ⟨hm, rfl⟩
      · go_wp2_with fail
        refine (ONA.out _ hpa.out).mono ?_
        rintro e w12 ⟨rfl, hx⟩
        replace hb := hop hb h0 hx
        replace hpa := Lib.hid (hpa.out.below hx)
        replace hpb := Lib.hid (hpb.out.below hx)
        replace hpc := Lib.hid (hpc.out.below hx)
        clear hx
        go_wp2
        go_ret
        exact ⟨by first | (simp; done) | (simp; decide), hb⟩
      · have hmI : (1 : Int) ≤ (m1 : Int) := by omega
        have hmin : min (m1 : Int) 1 = 1 := by omega
        go_wp2_with fail
        refine (ONA.out _ hpa.out).mono ?_
        rintro e w12 ⟨rfl, hx⟩
        replace hb := hop hb h0 hx
        replace hpa := Lib.hid (hpa.out.below hx)
        replace hpb := Lib.hid (hpb.out.below hx)
        replace hpc := Lib.hid (hpc.out.below hx)
        clear hx
        go_wp2
        go_ret
        exact ⟨by first | (simp; done) | (simp; decide), hb⟩
    · clear H6 H7
      go_wp2_with fail
      refine (OBC.out _ hpb.out hpc.out).mono ?_
      rintro e w8 ⟨rfl, hx⟩
      replace hb := hop hb h0 hx
      replace hpa := Lib.hid (hpa.out.below hx)
      replace hpb := Lib.hid (hpb.out.below hx)
      replace hpc := Lib.hid (hpc.out.below hx)
      clear hx
      go_wp2_with fail
      refine (OBA.out _ hpb.out hpa.out).mono ?_
      rintro e w10 ⟨rfl, hx⟩
      replace hb := hop hb h0 hx
      replace hpa := Lib.hid (hpa.out.below hx)
      replace hpb := Lib.hid (hpb.out.below hx)
      replace hpc := Lib.hid (hpc.out.below hx)
      clear hx
      go_wp2_with fail
      refine (SAB.out _ hpa.out hpb.out).mono ?_
      rintro e w11 ⟨rfl, hx⟩
      replace hb := hop hb h0 hx
      replace hpa := Lib.hid (hpa.out.below hx)
      replace hpb := Lib.hid (hpb.out.below hx)
      replace hpc := Lib.hid (hpc.out.below hx)
      clear hx
      rcases HN.out with ⟨rfl, rfl⟩ | ⟨hm, rfl⟩
      · go_wp2_with fail
        refine (ONA.out _ hpa.out).mono ?_
        rintro e w12 ⟨rfl, hx⟩
        replace hb := hop hb h0 hx
        replace hpa := Lib.hid (hpa.out.below hx)
        replace hpb := Lib.hid (hpb.out.below hx)
        replace hpc := Lib.hid (hpc.out.below hx)
        clear hx
        go_wp2
        go_ret
        exact ⟨by first | (simp; done) | (simp; decide), hb⟩
      · have hmI : (1 : Int) ≤ (m1 : Int) := by omega
        have hmin : min (m1 : Int) 1 = 1 := by omega
        go_wp2_with fail
        refine (ONA.out _ hpa.out).mono ?_
        rintro e w12 ⟨rfl, hx⟩
        replace hb := hop hb h0 hx
        replace hpa := Lib.hid (hpa.out.below hx)
        replace hpb := Lib.hid (hpb.out.below hx)
        replace hpc := Lib.hid (hpc.out.below hx)
        clear hx
        go_wp2
        go_ret
        exact ⟨by first | (simp; done) | (simp; decide), hb⟩
end Go.Proofs.Ytimfabnjopkhdaa
