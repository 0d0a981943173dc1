/- The walk of the law LabelTells: names, sets, what is looked up, put, held against others, by the document's answer. -/
import Derived.Test.YtimfabnjopkhdaaLabSetsLaw
import Derived.Test.YtimfabnjopkhdaaLabBackLaw
import Derived.Test.YtimfabnjopkhdaaRefOfEq
import Derived.Test.YtimfabnjopkhdaaRefGet6
import Derived.Test.YtimfabnjopkhdaaRefOrd6
import Derived.Deep.DeepCutAuto
import Derived.Outline
namespace Go.Proofs.Ytimfabnjopkhdaa
open Go.RowKit
set_option linter.unusedVariables false
set_option linter.unusedSimpArgs false

/-- a slice that holds these labels -/
structure HoldsP (w : World) (A : Option Addr) (n c : Nat) (l : List PairB) : Prop where
  row : Pairs w A n l
  nil : A = none → n = 0 ∧ c = 0
theorem HoldsP.below {w w' : World} {A : Option Addr} {n c : Nat} {l : List PairB} (h : HoldsP w A n c l) (hb : Below w.heap.size w w') : HoldsP w' A n c l := ⟨h.row.below hb, h.nil⟩
theorem tags_cap (A : Option Addr) (n c most : Nat) (x : Int) (hx : x = (most : Int)) (ts : List TagB) (hn : n ≤ 9223372036854775807) (hm : most ≤ 1000000) (W : World) (h1 : TagsP W A n ts) :
    Calls Try.prog 11 #[.slice A n c, .int .i64 x] W fun e w' => ∃ B q k, e = .returned (.slice B q k) ∧ q = (tagsL ts most).length ∧ Hid (HoldsP w' B q k (tagsL ts most)) ∧ Below W.heap.size W w' := by
  subst hx
  refine (tags_any A n c most ts hn hm W h1).mono ?_
  rintro e w' ⟨v, rfl, hown, hb⟩
  obtain ⟨B, m, k, rfl, hm, hA, hp⟩ := hown.cap
  exact ⟨_, _, _, rfl, hm, Lib.hid ⟨hp.out, hA.out⟩, hb⟩
theorem refPairs_cap (A : Option Addr) (n c : Nat) (ps : List PairB) (hn : n ≤ 1048576) (W : World) (h1 : Hid (HoldsP W A n c ps)) :
    Calls Try.prog 12 #[.slice A n c] W fun e w' => ∃ B k, e = .returned (.slice B n k) ∧ Hid (HoldsP w' B n k ps) ∧ Below W.heap.size W w' := by
  refine (refPairs_any A n c ps hn W h1.out.row).mono ?_
  rintro e w' ⟨v, rfl, hown, hb⟩
  obtain ⟨B, k, rfl, _, hA, hp⟩ := hown.pairs
  rw [h1.out.row.1] at hp hA ⊢
  exact ⟨_, _, rfl, Lib.hid ⟨hp, hA⟩, hb⟩
theorem ofBig_cap (A : Option Addr) (n c : Nat) (ps : List PairB) (hn : n ≤ 1000) (W : World) (h1 : Hid (HoldsP W A n c ps)) :
    Calls Try.prog 16 #[.slice A n c] W fun e w' => ∃ B m k, e = .returned (.slice B m k) ∧ m ≤ 1000 ∧ Hid (Pairs w' B m (ofL ps)) ∧ Below W.heap.size W w' := by
  have hl := h1.out.row.1
  refine (of_big A n c ps (by omega) (Nat.le_trans (List.length_filter_le _ _) (by omega)) W h1.out.row).mono ?_
  rintro e w' ⟨v, rfl, hown, hb⟩
  obtain ⟨B, m, k, rfl, hm, _, hp⟩ := hown.cap
  exact ⟨_, _, _, rfl, by rw [hm]; exact Nat.le_trans (ofL_len _) (by omega), hp, hb⟩
theorem refOf_cap (A : Option Addr) (n c : Nat) (ps : List PairB) (hn : n ≤ 1000) (W : World) (h1 : Hid (HoldsP W A n c ps)) :
    Calls Try.prog 17 #[.slice A n c] W fun e w' => ∃ B m k, e = .returned (.slice B m k) ∧ Hid (Pairs w' B m (ofL ps)) ∧ Below W.heap.size W w' := by
  refine (refOf_any A n c ps hn W h1.out.row).mono ?_
  rintro e w' ⟨v, rfl, hown, hb⟩
  rw [refOfL_is] at hown
  obtain ⟨B, k, rfl, _, _, hp⟩ := hown.pairs
  exact ⟨_, _, _, rfl, Lib.hid hp, hb⟩
theorem withBig2_cap (A B : Option Addr) (n m c d : Nat) (ps qs : List PairB) (hn : n ≤ 400) (hm : m ≤ 400) (W : World) (h1 : Hid (HoldsP W A n c ps)) (h2 : Hid (HoldsP W B m d qs)) :
    Calls Try.prog 18 #[.slice A n c, .slice B m d] W fun e w' => ∃ A3 k cap, e = .returned (.slice A3 k cap) ∧ k ≤ 1000 ∧ Hid (Pairs w' A3 k (ofL (ps ++ qs))) ∧ Below W.heap.size W w' := by
  refine (withBig_cap A B n m c d ps qs hn hm W (Lib.hid h1.out.row) (Lib.hid h2.out.row) (Lib.hid h1.out.nil) (Lib.hid h2.out.nil)).mono ?_
  rintro e w' ⟨A3, k, cap, rfl, hk, _, hp, hb⟩
  exact ⟨_, _, _, rfl, by omega, hp, hb⟩
theorem refWith_cap (A B : Option Addr) (n m c d : Nat) (ps qs : List PairB) (hn : n ≤ 400) (hm : m ≤ 400) (W : World) (h1 : Hid (HoldsP W A n c ps)) (h2 : Hid (HoldsP W B m d qs)) :
    Calls Try.prog 19 #[.slice A n c, .slice B m d] W fun e w' => ∃ A3 k cap, e = .returned (.slice A3 k cap) ∧ Hid (Pairs w' A3 k (ofL (ps ++ qs))) ∧ Below W.heap.size W w' := by
  refine (refWithL_any A B n m c d ps qs hn hm W h1.out.row h2.out.row h1.out.nil h2.out.nil).mono ?_
  rintro e w' ⟨v, rfl, hown, hb⟩
  rw [refOfL_is] at hown
  obtain ⟨B3, k, rfl, _, _, hp⟩ := hown.pairs
  exact ⟨_, _, _, rfl, Lib.hid hp, hb⟩
theorem samePairs_true (A B : Option Addr) (n m c d : Nat) (ps : List PairB) (hn : n ≤ 1000) (W : World) (h1 : Hid (Pairs W A n ps)) (h2 : Hid (Pairs W B m ps)) :
    Calls Try.prog 15 #[.slice A n c, .slice B m d] W fun e w' => e = .returned (.bool true) ∧ Below W.heap.size W w' := by
  have S := samePairs_any A B n m c d ps ps (by omega) W h1.out h2.out
  rw [decide_eq_true (rfl : ps = ps)] at S
  exact S
/-- are two lists the same, up to i? -/
def sameTo (l m : List PairB) (i : Nat) : Bool := decide (l.length = m.length) && decide (l.take i = m.take i)
theorem sameTo_none (l m : List PairB) : sameTo l m 0 = decide (l.length = m.length) := by
  unfold sameTo
  rw [List.take_zero, List.take_zero, decide_eq_true (rfl : ([] : List PairB) = []), Bool.and_true]
theorem sameTo_all (l m : List PairB) : sameTo l m l.length = decide (l = m) := by
  unfold sameTo
  by_cases h : l.length = m.length
  · rw [decide_eq_true h, Bool.true_and, List.take_length, h, List.take_length]
  · rw [decide_eq_false h, Bool.false_and]
    exact (decide_eq_false (fun e => h (by rw [e]))).symm
theorem sameTo_no {l m : List PairB} {i : Nat} (h : sameTo l m i = false) : decide (l = m) = false := by
  rw [decide_eq_false_iff_not]
  intro e
  subst e
  unfold sameTo at h
  rw [decide_eq_true rfl, decide_eq_true rfl] at h
  cases h
theorem sameTo_next {l m : List PairB} {i : Nat} (h : sameTo l m i = true) (hi : i < l.length) : i < m.length ∧ sameTo l m (i + 1) = decide (l.getD i pnil = m.getD i pnil) := by
  unfold sameTo at h ⊢
  rw [Bool.and_eq_true] at h
  have h1 : l.length = m.length := of_decide_eq_true h.1
  have h2 : l.take i = m.take i := of_decide_eq_true h.2
  have hm : i < m.length := by omega
  refine ⟨hm, ?_⟩
  have e1 : l.getD i pnil = l[i] := by rw [List.getD_eq_getElem?_getD, List.getElem?_eq_getElem hi]; rfl
  have e2 : m.getD i pnil = m[i] := by rw [List.getD_eq_getElem?_getD, List.getElem?_eq_getElem hm]; rfl
  rw [h.1, Bool.true_and, List.take_succ_eq_append_getElem hi, List.take_succ_eq_append_getElem hm, h2, e1, e2]
  refine decide_eq_decide.2 ⟨fun e => ?_, fun e => by rw [e]⟩
  have := List.append_cancel_left e
  exact (List.cons.inj this).1
set_option maxRecDepth 100000 in
set_option maxHeartbeats 3200000 in
theorem labelTells_walk {W : World} (A : Option Addr) (n c : Nat) (x : List TagB) (B : Option Addr) (m d : Nat) (y : List TagB) (name : ByteArray)
    (hx : TagsP W A n x) (ux : bulkG x ≤ 1048576) (hnc : n ≤ c) (hcm : c ≤ maxLen) (hy : TagsP W B m y) (uy : bulkG y ≤ 1048576) (hmd : m ≤ d) (hdm : d ≤ maxLen) (hnm : name.size ≤ 1048576) :
    Calls Try.prog 3 #[.slice A n c, .slice B m d, .string name] W fun e w' => e = .returned (.bool true) ∧ Below W.heap.size W w' := by
  have h0 : W.heap.size ≤ W.heap.size := Nat.le_refl _
  unfold maxLen at hcm hdm
  have HX := Lib.hid (labExamples_any W)
  have TX := Lib.hid (fun w h => tags_cap A n c 20 20 rfl x (by omega) (by omega) w h)
  have TY := Lib.hid (fun w h => tags_cap B m d 6 6 rfl y (by omega) (by omega) w h)
  have lx := tagsL_len x 20
  have ly := tagsL_len y 6
  have HSM := Lib.hid (tagsL_small x 20 ux)
  have HX1 := Lib.hid hx
  have HY1 := Lib.hid hy
  obtain ⟨la, hla⟩ : ∃ l, tagsL x 20 = l := ⟨_, rfl⟩
  obtain ⟨lb, hlb⟩ : ∃ l, tagsL y 6 = l := ⟨_, rfl⟩
  replace TX := TX.out
  replace TY := TY.out
  replace HSM := HSM.out
  simp only [hla] at TX lx HSM
  simp only [hlb] at TY ly
  replace TX := Lib.hid TX
  replace TY := Lib.hid TY
  replace HSM := Lib.hid HSM
  clear hx hy hnc hcm hmd hdm hla hlb ux uy
  go_enter Try.func3, Try.ntmps3
  go_wp2_with fail
  refine HX.out.mono ?_
  rintro e w ⟨rfl, hb⟩
  go_wp2_with fail
  refine (TX.out _ (HX1.out.below hb)).mono ?_
  rintro e w1 ⟨Ba, na, ca, rfl, hna, HA, hx⟩
  have hna20 : na ≤ 20 := by omega
  have HNA := Lib.hid hna
  clear hna lx
  replace hb := hop hb h0 hx
  clear hx TX
  go_wp2_with fail
  refine (TY.out _ (HY1.out.below hb)).mono ?_
  rintro e w2 ⟨Bb, nb, cb, rfl, hnb, HBb, hx⟩
  replace hb := hop hb h0 hx
  replace HA := Lib.hid (HA.out.below hx)
  have hnb6 : nb ≤ 6 := by omega
  have HNB := Lib.hid hnb
  clear hx TY HX HX1 HY1 hnb ly
  have R1 := Lib.hid (refPairs_cap Ba na ca la (by omega) w2 HA)
  go_wp2_with fail
  refine R1.out.mono ?_
  rintro e w3 ⟨Br, cr, rfl, HR, hx⟩
  replace hb := hop hb h0 hx
  replace HA := Lib.hid (HA.out.below hx)
  replace HBb := Lib.hid (HBb.out.below hx)
  clear hx R1
  have R2 := Lib.hid (refPairs_cap Bb nb cb lb (by omega) w3 HBb)
  go_wp2_with fail
  refine R2.out.mono ?_
  rintro e w4 ⟨Bq, cq, rfl, HQ, hx⟩
  have HB := Lib.hid (hop hb h0 hx)
  replace HA := Lib.hid (HA.out.below hx)
  replace HBb := Lib.hid (HBb.out.below hx)
  replace HR := Lib.hid (HR.out.below hx)
  clear hx R2 hb
  go_upto_region 8 with fail
  go_cut [39] (fun tv wx => ∃ t : Bool, tv = .bool t ∧ Hid (t = true → 0 < na) ∧ w4 = wx)
  case first =>
    have hsz : (name.size : Int) % 2 = 0 ∨ (name.size : Int) % 2 = 1 := by omega
    by_cases h1 : 0 < na
    · have h1I : (0 : Int) < (na : Int) := by omega
      have HP := Lib.hid h1
      rcases hsz with h2 | h2
      · go_wp2_with fail
        go_meet
        case rel => exact ⟨_, rfl, Lib.hid (fun _ => HP.out), rfl⟩
      · go_wp2_with fail
        go_meet
        case rel => exact ⟨_, rfl, Lib.hid (fun _ => HP.out), rfl⟩
    · have h1B : decide (0 < na) = false := decide_eq_false h1
      have h1I : ¬ (0 : Int) < (na : Int) := by omega
      have h1J : decide ((0 : Int) < (na : Int)) = false := decide_eq_false h1I
      clear hsz
      go_wp2_with fail
      go_meet
      case rel => exact ⟨_, rfl, Lib.hid (fun h => by cases h), rfl⟩
  case rest =>
    obtain ⟨tb, rfl, HTB, rfl⟩ := hcut
    go_upto_if 39 with (fail)
    go_cut [2] (fun nv wx => ∃ t : ByteArray, nv = .string t ∧ w4 = wx)
    case first =>
      cases tb with
      | true =>
        have hp := HTB.out rfl
        have hr := HA.out.row
        obtain ⟨b1, o1, rfl, hlt1, hc1⟩ := hr.2 hp
        obtain ⟨e1, _⟩ := hc1 0 hp
        have hpI : (0 : Int) < (na : Int) := by omega
        rw [Nat.zero_mul, Nat.add_zero] at e1
        clear hr hc1
        go_wp2_with fail
        go_meet
        case rel => exact ⟨_, rfl, rfl⟩
      | false =>
        go_wp2_with fail
        go_meet
        case rel => exact ⟨_, rfl, rfl⟩
    case rest =>
      obtain ⟨t, rfl, rfl⟩ := hcut
      clear HTB hnm
      have G1 := labGet_any Ba na ca la t (by omega) w4 HA.out.row
      have G2 := fun w (h : Hid (HoldsP w Br na cr la)) => refGetL_any Br na cr la t (by omega) w h.out.row
      obtain ⟨ov, hov⟩ : ∃ o, getL la t = o := ⟨_, rfl⟩
      rw [hov] at G1
      simp only [hov] at G2
      obtain ⟨gv, hgv⟩ : ∃ o, ov.getD ByteArray.empty = o := ⟨_, rfl⟩
      obtain ⟨gb, hgb⟩ : ∃ o, ov.isSome = o := ⟨_, rfl⟩
      rw [hgv, hgb] at G1
      simp only [hgv, hgb] at G2
      replace G1 := Lib.hid G1
      replace G2 := Lib.hid G2
      clear hov hgv hgb
      go_wp2_with fail
      refine G1.out.mono ?_
      rintro e w5 ⟨rfl, hx⟩
      replace HB := Lib.hid (hop HB.out h0 hx)
      replace HA := Lib.hid (HA.out.below hx)
      replace HBb := Lib.hid (HBb.out.below hx)
      replace HR := Lib.hid (HR.out.below hx)
      replace HQ := Lib.hid (HQ.out.below hx)
      clear hx G1
      go_wp2_with fail
      refine (G2.out _ HR).mono ?_
      rintro e w6 ⟨rfl, rfl⟩
      clear G2
      have O1 := Lib.hid (ofBig_cap Ba na ca la (by omega) w6 HA)
      go_wp2_with fail
      refine O1.out.mono ?_
      rintro e w7 ⟨B7, n7, c7, rfl, hn7, H7, hx⟩
      replace HB := Lib.hid (hop HB.out h0 hx)
      replace HA := Lib.hid (HA.out.below hx)
      replace HBb := Lib.hid (HBb.out.below hx)
      replace HR := Lib.hid (HR.out.below hx)
      replace HQ := Lib.hid (HQ.out.below hx)
      clear hx O1
      have O2 := Lib.hid (refOf_cap Br na cr la (by omega) w7 HR)
      go_wp2_with fail
      refine O2.out.mono ?_
      rintro e w8 ⟨B8, n8, c8, rfl, H8, hx⟩
      replace HB := Lib.hid (hop HB.out h0 hx)
      replace HA := Lib.hid (HA.out.below hx)
      replace HBb := Lib.hid (HBb.out.below hx)
      replace HR := Lib.hid (HR.out.below hx)
      replace HQ := Lib.hid (HQ.out.below hx)
      replace H7 := Lib.hid (H7.out.below hx)
      clear hx O2
      have O3 := Lib.hid (samePairs_true B7 B8 n7 n8 c7 c8 (ofL la) (by omega) w8 H7 H8)
      clear H7 H8
      go_wp2_with fail
      refine O3.out.mono ?_
      rintro e w9 ⟨rfl, hx⟩
      replace HB := Lib.hid (hop HB.out h0 hx)
      replace HA := Lib.hid (HA.out.below hx)
      replace HBb := Lib.hid (HBb.out.below hx)
      replace HR := Lib.hid (HR.out.below hx)
      replace HQ := Lib.hid (HQ.out.below hx)
      clear hx O3
      have O1 := Lib.hid (withBig2_cap Ba Bb na nb ca cb la lb (by omega) (by omega) w9 HA HBb)
      go_wp2_with fail
      refine O1.out.mono ?_
      rintro e w10 ⟨B7, n7, c7, rfl, hn7, H7, hx⟩
      replace HB := Lib.hid (hop HB.out h0 hx)
      replace HA := Lib.hid (HA.out.below hx)
      replace HBb := Lib.hid (HBb.out.below hx)
      replace HR := Lib.hid (HR.out.below hx)
      replace HQ := Lib.hid (HQ.out.below hx)
      clear hx O1
      have O2 := Lib.hid (refWith_cap Br Bq na nb cr cq la lb (by omega) (by omega) w10 HR HQ)
      go_wp2_with fail
      refine O2.out.mono ?_
      rintro e w11 ⟨B8, n8, c8, rfl, H8, hx⟩
      replace HB := Lib.hid (hop HB.out h0 hx)
      replace HA := Lib.hid (HA.out.below hx)
      replace HBb := Lib.hid (HBb.out.below hx)
      replace HR := Lib.hid (HR.out.below hx)
      replace HQ := Lib.hid (HQ.out.below hx)
      replace H7 := Lib.hid (H7.out.below hx)
      clear hx O2
      have O3 := Lib.hid (samePairs_true B7 B8 n7 n8 c7 c8 (ofL (la ++ lb)) (by omega) w11 H7 H8)
      clear H7 H8
      go_wp2_with fail
      refine O3.out.mono ?_
      rintro e w12 ⟨rfl, hx⟩
      replace HB := Lib.hid (hop HB.out h0 hx)
      replace HA := Lib.hid (HA.out.below hx)
      replace HBb := Lib.hid (HBb.out.below hx)
      replace HR := Lib.hid (HR.out.below hx)
      replace HQ := Lib.hid (HQ.out.below hx)
      clear hx O3
      have HS0 := Lib.hid (show ((na : Int) == (nb : Int)) = sameTo la lb 0 from by
        rw [sameTo_none, ← HNA.out, ← HNB.out]
        by_cases h : na = nb
        · rw [decide_eq_true h, h]
          simp
        · rw [decide_eq_false h, beq_eq_false_iff_ne]
          omega)
      obtain ⟨sb, hsb⟩ : ∃ b, ((na : Int) == (nb : Int)) = b := ⟨_, rfl⟩
      have HS1 := Lib.hid (hsb.symm.trans HS0.out)
      clear HS0
      go_wp2
      clear hsb
      go_loopw [18, 19] (fun sv iv wr => ∃ (i : Nat) (b : Bool), i ≤ na ∧ sv = .bool b ∧ iv = .int .i64 i ∧ Hid (b = sameTo la lb i) ∧ Below w12.heap.size w12 wr) (fun _ iv _ => na - (intOf iv).toNat)
      case atStart => exact ⟨0, sb, Nat.zero_le _, by first | rfl | (congr 1), rfl, HS1, Below.refl _ _⟩
      case round =>
        clear HS1
        obtain ⟨i, b, hin, rfl, rfl, HS, hb⟩ := hrel
        by_cases hgo : b = true ∧ i < na
        · obtain ⟨hbt, hi⟩ := hgo
          subst hbt
          have hiI : (i : Int) < (na : Int) := by omega
          have hnx := sameTo_next HS.out.symm (by rw [← HNA.out]; exact hi)
          have hib : i < nb := by rw [HNB.out]; exact hnx.1
          have hibI : (i : Int) < (nb : Int) := by omega
          have HNX := Lib.hid hnx.2
          have hr := HR.out.row.below hb
          have hq := HQ.out.row.below hb
          obtain ⟨b1, o1, rfl, _, hc1⟩ := hr.2 (by omega)
          obtain ⟨b2, o2, rfl, _, hc2⟩ := hq.2 (by omega)
          obtain ⟨e1, e2⟩ := hc1 i hi
          obtain ⟨f1, f2⟩ := hc2 i hib
          obtain ⟨⟨p1, p2⟩, hp⟩ : ∃ p, la.getD i pnil = p := ⟨_, rfl⟩
          obtain ⟨⟨q1, q2⟩, hq2⟩ : ∃ p, lb.getD i pnil = p := ⟨_, rfl⟩
          rw [hp] at e1 e2
          rw [hq2] at f1 f2
          dsimp only at e1 e2 f1 f2
          have HNX2 := Lib.hid (show sameTo la lb (i + 1) = decide ((p1, p2) = (q1, q2)) from by rw [HNX.out, hp, hq2])
          clear hr hq hc1 hc2 hp hq2 hnx HNX
          by_cases hpq : p1 = q1
          · subst hpq
            have g1 : (p1.toList == p1.toList) = true := by simp
            by_cases hpq2 : p2 = q2
            · subst hpq2
              have HE := Lib.hid (show true = sameTo la lb (i + 1) by rw [HNX2.out, decide_eq_true rfl])
              clear HNX2
              go_wp2
              go_quiet (fail)
              go_wp2
              go_round
              case rel => exact ⟨i + 1, true, by omega, by first | rfl | simp, by go_num, HE, below_drewN hb _⟩
              case measure => simp [intOf]; omega
            · have g2 := text_other hpq2
              have HE := Lib.hid (show false = sameTo la lb (i + 1) by rw [HNX2.out, decide_eq_false (fun h => hpq2 (Prod.mk.inj h).2)])
              clear HNX2 hpq2
              go_wp2
              go_quiet (fail)
              go_wp2
              go_round
              case rel => exact ⟨i + 1, false, by omega, by first | rfl | simp [g2], by go_num, HE, below_drewN hb _⟩
              case measure => simp [intOf]; omega
          · have g2 := text_other hpq
            have HE := Lib.hid (show false = sameTo la lb (i + 1) by rw [HNX2.out, decide_eq_false (fun h => hpq (Prod.mk.inj h).1)])
            clear HNX2 hpq
            go_wp2
            go_quiet (fail)
            go_wp2
            go_round
            case rel => exact ⟨i + 1, false, by omega, by first | rfl | simp [g2], by go_num, HE, below_drewN hb _⟩
            case measure => simp [intOf]; omega
        · have SM := same_any Ba Bb na nb ca cb la lb (by omega) (by omega)
          have hends : (b = false ∧ i < na ∧ false = decide (la = lb)) ∨ (¬ i < na ∧ b = decide (la = lb)) := by
            by_cases hi : i < na
            · have hbf : b = false := by
                cases b with
                | true => exact absurd ⟨rfl, hi⟩ hgo
                | false => rfl
              exact .inl ⟨hbf, hi, by rw [sameTo_no (by rw [← HS.out, hbf])]⟩
            · have hie : i = na := by omega
              exact .inr ⟨hi, by rw [HS.out, hie, HNA.out, sameTo_all]⟩
          have HA2 := Lib.hid (HA.out.below hb)
          have HBb2 := Lib.hid (HBb.out.below hb)
          have HR2 := Lib.hid (HR.out.below hb)
          have HQ2 := Lib.hid (HQ.out.below hb)
          have HB2 := Lib.hid (hop HB.out h0 hb)
          have NM := Lib.hid (fun w => name_any t w)
          have RN := Lib.hid (fun w => refName_any t w)
          have RT := Lib.hid (fun w (h : Hid (HoldsP w Ba na ca la)) => right_any Ba na ca la (by omega) w h.out.row)
          have RR := Lib.hid (fun w (h : Hid (HoldsP w Br na cr la)) => refRight_any Br na cr la (by omega) w h.out.row)
          have TT := Lib.hid (fun w (h : Hid (HoldsP w Ba na ca la)) => show Calls Try.prog 24 #[.slice Ba na ca] w fun e w' => e = .returned (.string (textT la)) ∧ Below w.heap.size w w' from text_labels Ba na ca la (by omega) HSM.out w h.out.row)
          have RX := Lib.hid (fun w (h : Hid (HoldsP w Br na cr la)) => refTextL_any Br na cr la (by omega) HSM.out w h.out.row)
          have OD := Lib.hid (fun w (h1 : Hid (HoldsP w Ba na ca la)) (h2 : Hid (HoldsP w Bb nb cb lb)) => order_any Ba Bb na nb ca cb la lb (by omega) (by omega) w h1.out.row h2.out.row)
          have RO := Lib.hid (fun w (h1 : Hid (HoldsP w Br na cr la)) (h2 : Hid (HoldsP w Bq nb cq lb)) => refOrderL_any Br Bq na nb cr cq la lb (by omega) (by omega) w h1.out.row h2.out.row)
          replace NM := NM.out
          replace RN := RN.out
          replace RT := RT.out
          replace RR := RR.out
          replace TT := TT.out
          replace RX := RX.out
          replace OD := OD.out
          replace RO := RO.out
          obtain ⟨zn, hzn⟩ : ∃ z, nameB t = z := ⟨_, rfl⟩
          obtain ⟨zr, hzr⟩ : ∃ z, rightB la = z := ⟨_, rfl⟩
          obtain ⟨zt, hzt⟩ : ∃ z, textT la = z := ⟨_, rfl⟩
          obtain ⟨zo, hzo⟩ : ∃ z, orderL la lb = z := ⟨_, rfl⟩
          obtain ⟨zs, hzs⟩ : ∃ z, decide (la = lb) = z := ⟨_, rfl⟩
          simp only [hzn] at NM RN
          simp only [hzr] at RT RR
          simp only [hzt] at TT RX
          simp only [hzo] at OD RO
          simp only [hzs] at SM hends
          replace NM := Lib.hid NM
          replace RN := Lib.hid RN
          replace RT := Lib.hid RT
          replace RR := Lib.hid RR
          replace TT := Lib.hid TT
          replace RX := Lib.hid RX
          replace OD := Lib.hid OD
          replace RO := Lib.hid RO
          replace SM := Lib.hid SM
          clear hzn hzr hzt hzo hzs hgo HA HBb HR HQ HB hb HS
          rcases hends with ⟨hb1, hi, hz⟩ | ⟨hi, hz⟩
          · have hiI : (i : Int) < (na : Int) := by omega
            subst hb1
            subst hz
            go_wp2_with fail
            refine (NM.out _).mono ?_
            rintro e v1 ⟨rfl, hx⟩
            replace HB2 := Lib.hid (hop HB2.out h0 hx)
            replace HA2 := Lib.hid (HA2.out.below hx)
            replace HBb2 := Lib.hid (HBb2.out.below hx)
            replace HR2 := Lib.hid (HR2.out.below hx)
            replace HQ2 := Lib.hid (HQ2.out.below hx)
            clear hx
            go_wp2_with fail
            refine (RN.out _).mono ?_
            rintro e v2 ⟨rfl, rfl⟩
            go_wp2_with fail
            refine (RT.out _ HA2).mono ?_
            rintro e v3 ⟨rfl, hx⟩
            replace HB2 := Lib.hid (hop HB2.out h0 hx)
            replace HA2 := Lib.hid (HA2.out.below hx)
            replace HBb2 := Lib.hid (HBb2.out.below hx)
            replace HR2 := Lib.hid (HR2.out.below hx)
            replace HQ2 := Lib.hid (HQ2.out.below hx)
            clear hx
            go_wp2_with fail
            refine (RR.out _ HR2).mono ?_
            rintro e v4 ⟨rfl, hx⟩
            replace HB2 := Lib.hid (hop HB2.out h0 hx)
            replace HA2 := Lib.hid (HA2.out.below hx)
            replace HBb2 := Lib.hid (HBb2.out.below hx)
            replace HR2 := Lib.hid (HR2.out.below hx)
            replace HQ2 := Lib.hid (HQ2.out.below hx)
            clear hx
            go_wp2_with fail
            refine (TT.out _ HA2).mono ?_
            rintro e v5 ⟨rfl, hx⟩
            replace HB2 := Lib.hid (hop HB2.out h0 hx)
            replace HA2 := Lib.hid (HA2.out.below hx)
            replace HBb2 := Lib.hid (HBb2.out.below hx)
            replace HR2 := Lib.hid (HR2.out.below hx)
            replace HQ2 := Lib.hid (HQ2.out.below hx)
            clear hx
            go_wp2_with fail
            refine (RX.out _ HR2).mono ?_
            rintro e v6 ⟨rfl, hx⟩
            replace HB2 := Lib.hid (hop HB2.out h0 hx)
            replace HA2 := Lib.hid (HA2.out.below hx)
            replace HBb2 := Lib.hid (HBb2.out.below hx)
            replace HR2 := Lib.hid (HR2.out.below hx)
            replace HQ2 := Lib.hid (HQ2.out.below hx)
            clear hx
            go_wp2_with fail
            refine (OD.out _ HA2 HBb2).mono ?_
            rintro e v7 ⟨rfl, hx⟩
            replace HB2 := Lib.hid (hop HB2.out h0 hx)
            replace HA2 := Lib.hid (HA2.out.below hx)
            replace HBb2 := Lib.hid (HBb2.out.below hx)
            replace HR2 := Lib.hid (HR2.out.below hx)
            replace HQ2 := Lib.hid (HQ2.out.below hx)
            clear hx
            go_wp2_with fail
            refine (RO.out _ HR2 HQ2).mono ?_
            rintro e v8 ⟨rfl, hx⟩
            replace HB2 := Lib.hid (hop HB2.out h0 hx)
            replace HA2 := Lib.hid (HA2.out.below hx)
            replace HBb2 := Lib.hid (HBb2.out.below hx)
            replace HR2 := Lib.hid (HR2.out.below hx)
            replace HQ2 := Lib.hid (HQ2.out.below hx)
            clear hx
            go_wp2_with fail
            refine (SM.out _ HA2.out.row HBb2.out.row).mono ?_
            rintro e v9 ⟨rfl, hx⟩
            replace HB2 := Lib.hid (hop HB2.out h0 hx)
            replace HA2 := Lib.hid (HA2.out.below hx)
            replace HBb2 := Lib.hid (HBb2.out.below hx)
            replace HR2 := Lib.hid (HR2.out.below hx)
            replace HQ2 := Lib.hid (HQ2.out.below hx)
            clear hx
            go_wp2
            go_ret
            exact ⟨by simp, HB2.out⟩
          · have hiI : ¬ (i : Int) < (na : Int) := by omega
            have hiB : decide (i < na) = false := decide_eq_false hi
            have hiJ : decide ((i : Int) < (na : Int)) = false := decide_eq_false hiI
            subst hz
            go_wp2_with fail
            refine (NM.out _).mono ?_
            rintro e v1 ⟨rfl, hx⟩
            replace HB2 := Lib.hid (hop HB2.out h0 hx)
            replace HA2 := Lib.hid (HA2.out.below hx)
            replace HBb2 := Lib.hid (HBb2.out.below hx)
            replace HR2 := Lib.hid (HR2.out.below hx)
            replace HQ2 := Lib.hid (HQ2.out.below hx)
            clear hx
            go_wp2_with fail
            refine (RN.out _).mono ?_
            rintro e v2 ⟨rfl, rfl⟩
            go_wp2_with fail
            refine (RT.out _ HA2).mono ?_
            rintro e v3 ⟨rfl, hx⟩
            replace HB2 := Lib.hid (hop HB2.out h0 hx)
            replace HA2 := Lib.hid (HA2.out.below hx)
            replace HBb2 := Lib.hid (HBb2.out.below hx)
            replace HR2 := Lib.hid (HR2.out.below hx)
            replace HQ2 := Lib.hid (HQ2.out.below hx)
            clear hx
            go_wp2_with fail
            refine (RR.out _ HR2).mono ?_
            rintro e v4 ⟨rfl, hx⟩
            replace HB2 := Lib.hid (hop HB2.out h0 hx)
            replace HA2 := Lib.hid (HA2.out.below hx)
            replace HBb2 := Lib.hid (HBb2.out.below hx)
            replace HR2 := Lib.hid (HR2.out.below hx)
            replace HQ2 := Lib.hid (HQ2.out.below hx)
            clear hx
            go_wp2_with fail
            refine (TT.out _ HA2).mono ?_
            rintro e v5 ⟨rfl, hx⟩
            replace HB2 := Lib.hid (hop HB2.out h0 hx)
            replace HA2 := Lib.hid (HA2.out.below hx)
            replace HBb2 := Lib.hid (HBb2.out.below hx)
            replace HR2 := Lib.hid (HR2.out.below hx)
            replace HQ2 := Lib.hid (HQ2.out.below hx)
            clear hx
            go_wp2_with fail
            refine (RX.out _ HR2).mono ?_
            rintro e v6 ⟨rfl, hx⟩
            replace HB2 := Lib.hid (hop HB2.out h0 hx)
            replace HA2 := Lib.hid (HA2.out.below hx)
            replace HBb2 := Lib.hid (HBb2.out.below hx)
            replace HR2 := Lib.hid (HR2.out.below hx)
            replace HQ2 := Lib.hid (HQ2.out.below hx)
            clear hx
            go_wp2_with fail
            refine (OD.out _ HA2 HBb2).mono ?_
            rintro e v7 ⟨rfl, hx⟩
            replace HB2 := Lib.hid (hop HB2.out h0 hx)
            replace HA2 := Lib.hid (HA2.out.below hx)
            replace HBb2 := Lib.hid (HBb2.out.below hx)
            replace HR2 := Lib.hid (HR2.out.below hx)
            replace HQ2 := Lib.hid (HQ2.out.below hx)
            clear hx
            go_wp2_with fail
            refine (RO.out _ HR2 HQ2).mono ?_
            rintro e v8 ⟨rfl, hx⟩
            replace HB2 := Lib.hid (hop HB2.out h0 hx)
            replace HA2 := Lib.hid (HA2.out.below hx)
            replace HBb2 := Lib.hid (HBb2.out.below hx)
            replace HR2 := Lib.hid (HR2.out.below hx)
            replace HQ2 := Lib.hid (HQ2.out.below hx)
            clear hx
            go_wp2_with fail
            refine (SM.out _ HA2.out.row HBb2.out.row).mono ?_
            rintro e v9 ⟨rfl, hx⟩
            replace HB2 := Lib.hid (hop HB2.out h0 hx)
            replace HA2 := Lib.hid (HA2.out.below hx)
            replace HBb2 := Lib.hid (HBb2.out.below hx)
            replace HR2 := Lib.hid (HR2.out.below hx)
            replace HQ2 := Lib.hid (HQ2.out.below hx)
            clear hx
            go_wp2
            go_ret
            exact ⟨by simp, HB2.out⟩
end Go.Proofs.Ytimfabnjopkhdaa
