-- shaken
import Derived.Test.YtepokdmkdnlbfaaGreatDoorAstRight
import Derived.Deep.QuietTactic
namespace Go.Proofs.YtepokdmkdnlbfaaGreatDoor
open Go.RowKit
set_option linter.unusedVariables false
set_option linter.unusedSimpArgs false
def SameAs (P : Prop) (B : Nat) (W : World) (e : Ending) (w' : World) : Prop := ∃ b : Bool, e = .returned (.bool b) ∧ (b = true ↔ P) ∧ Below B W w'
theorem SameAs.mk {P : Prop} {B : Nat} {W w' : World} {e : Ending} (b : Bool) (h1 : e = .returned (.bool b)) (h2 : b = true ↔ P) (h3 : Below B W w') : SameAs P B W e w' := ⟨b, h1, h2, h3⟩
theorem not_toList {x y : ByteArray} (h : ¬ x = y) : ¬ x.toList = y.toList := fun e => h (text_ext1 (by rw [← Lib.toList_data, ← Lib.toList_data, e]))
theorem take_same {α : Type} {M N : List α} {j : Nat} {x : α} (h : M.take j = N.take j) (h1 : M[j]? = some x) (h2 : N[j]? = some x) : M.take (j + 1) = N.take (j + 1) := by
  rw [List.take_add_one, List.take_add_one, h, h1, h2]
theorem take_end {α : Type} {M N : List α} {n : Nat} (h : M.take n = N.take n) (h1 : M.length = n) (h2 : N.length = n) : M = N := by
  rw [List.take_of_length_le (by omega), List.take_of_length_le (by omega)] at h
  exact h
theorem at_other {α : Type} {M N : List α} {j : Nat} {x y : α} (h1 : M[j]? = some x) (h2 : N[j]? = some y) (h : ¬ x = y) : ¬ M = N := fun e => by
  rw [e, h2] at h1
  exact h (Option.some.inj h1).symm
set_option maxRecDepth 100000 in
set_option maxHeartbeats 1600000 in
theorem eqMats_any (A : Option Addr) (n c : Nat) (B : Option Addr) (m d : Nat) (M N : List MatB) (W : World) (hn : n ≤ 100000) (h1 : RowR matV 3 W A n M) (h2 : RowR matV 3 W B m N) :
    Calls Tryz.prog 20 #[.slice A n c, .slice B m d] W fun e w' => SameAs (M = N) W.heap.size W e w' := by
  have hl1 := h1.1
  have hl2 := h2.1
  have HM := Lib.hid h1
  have HN := Lib.hid h2
  clear h1 h2
  by_cases hnm : n = m
  · subst hnm
    have HQ := Lib.hid hl1
    have HQ2 := Lib.hid hl2
    clear hl1 hl2
    go_enter Tryz.func20, Tryz.ntmps20
    obtain ⟨v0, hv0⟩ : ∃ v, v = W := ⟨_, rfl⟩
    go_wp2
    go_loopw [13] (fun iv wr => ∃ j : Nat, j ≤ n ∧ iv = .int .i64 (j : Nat) ∧ Hid (M.take j = N.take j) ∧ Hid (Below W.heap.size W wr)) (fun iv _ => n - (intOf iv).toNat)
    case atStart => exact ⟨0, Nat.zero_le _, rfl, Lib.hid rfl, Lib.hid (Below.refl _ _)⟩
    case round =>
      obtain ⟨j, hj, rfl, HT, HB⟩ := hrel
      by_cases h : j < n
      · have hI : (j : Int) < n := by omega
        obtain ⟨b1, o1, rfl, hlt1, hc1⟩ := HM.out.2 (by omega)
        obtain ⟨b2, o2, rfl, hlt2, hc2⟩ := HN.out.2 (by omega)
        obtain ⟨x, hp⟩ : ∃ x, M[j]? = some x := ⟨M[j]'(by rw [HQ.out]; exact h), List.getElem?_eq_getElem _⟩
        obtain ⟨y, hq⟩ : ∃ y, N[j]? = some y := ⟨N[j]'(by rw [HQ2.out]; exact h), List.getElem?_eq_getElem _⟩
        obtain ⟨x0, x1, x2⟩ := x
        obtain ⟨y0, y1, y2⟩ := y
        have HP := Lib.hid hp
        have HY := Lib.hid hq
        have HC1 := Lib.hid hc1
        have HC2 := Lib.hid hc2
        clear hp hq hc1 hc2
        by_cases e0 : x0 = y0
        · subst e0
          by_cases e1 : x1 = y1
          · subst e1
            by_cases e2 : x2 = y2
            · subst e2
              have c0 := (HB.out.cell (p := ⟨b1, o1 + j * 3 + 0, none⟩) hlt1).trans (HC1.out j 0 _ HP.out (by decide))
              have c1 := (HB.out.cell (p := ⟨b1, o1 + j * 3 + 1, none⟩) hlt1).trans (HC1.out j 1 _ HP.out (by decide))
              have c2 := (HB.out.cell (p := ⟨b1, o1 + j * 3 + 2, none⟩) hlt1).trans (HC1.out j 2 _ HP.out (by decide))
              rw [Nat.add_zero] at c0
              simp only [matV, List.getElem?_cons_zero, List.getElem?_cons_succ] at c0 c1 c2
              have d0 := (HB.out.cell (p := ⟨b2, o2 + j * 3 + 0, none⟩) hlt2).trans (HC2.out j 0 _ HY.out (by decide))
              have d1 := (HB.out.cell (p := ⟨b2, o2 + j * 3 + 1, none⟩) hlt2).trans (HC2.out j 1 _ HY.out (by decide))
              have d2 := (HB.out.cell (p := ⟨b2, o2 + j * 3 + 2, none⟩) hlt2).trans (HC2.out j 2 _ HY.out (by decide))
              rw [Nat.add_zero] at d0
              simp only [matV, List.getElem?_cons_zero, List.getElem?_cons_succ] at d0 d1 d2
              have HT2 := Lib.hid (take_same HT.out HP.out HY.out)
              clear HC1 HC2
              go_wp2
              go_quiet (fail)
              go_wp2
              go_round
              case rel => exact ⟨j + 1, by omega, by go_num, HT2, Lib.hid (below_drewN HB.out _)⟩
              case measure => first | (simp [intOf]; done) | (simp [intOf]; omega)
            ·
              have hne := at_other HP.out HY.out (fun e => e2 (congrArg MatB.v e))
              have HNE := Lib.hid hne
              have q1 := not_toList e2
              have c0 := (HB.out.cell (p := ⟨b1, o1 + j * 3 + 0, none⟩) hlt1).trans (HC1.out j 0 _ HP.out (by decide))
              have c1 := (HB.out.cell (p := ⟨b1, o1 + j * 3 + 1, none⟩) hlt1).trans (HC1.out j 1 _ HP.out (by decide))
              have c2 := (HB.out.cell (p := ⟨b1, o1 + j * 3 + 2, none⟩) hlt1).trans (HC1.out j 2 _ HP.out (by decide))
              rw [Nat.add_zero] at c0
              simp only [matV, List.getElem?_cons_zero, List.getElem?_cons_succ] at c0 c1 c2
              have d0 := (HB.out.cell (p := ⟨b2, o2 + j * 3 + 0, none⟩) hlt2).trans (HC2.out j 0 _ HY.out (by decide))
              have d1 := (HB.out.cell (p := ⟨b2, o2 + j * 3 + 1, none⟩) hlt2).trans (HC2.out j 1 _ HY.out (by decide))
              have d2 := (HB.out.cell (p := ⟨b2, o2 + j * 3 + 2, none⟩) hlt2).trans (HC2.out j 2 _ HY.out (by decide))
              rw [Nat.add_zero] at d0
              simp only [matV, List.getElem?_cons_zero, List.getElem?_cons_succ] at d0 d1 d2
              clear hne HC1 HC2
              go_wp2
              go_quiet (fail)
              go_wp2
              go_ret
              exact .mk _ rfl ⟨fun h => (by cases h), fun h => absurd h HNE.out⟩ (below_drewN HB.out _)
          ·
            have hne := at_other HP.out HY.out (fun e => e1 (congrArg MatB.op e))
            have HNE := Lib.hid hne
            have q1 := not_toList e1
            have c0 := (HB.out.cell (p := ⟨b1, o1 + j * 3 + 0, none⟩) hlt1).trans (HC1.out j 0 _ HP.out (by decide))
            have c1 := (HB.out.cell (p := ⟨b1, o1 + j * 3 + 1, none⟩) hlt1).trans (HC1.out j 1 _ HP.out (by decide))
            have c2 := (HB.out.cell (p := ⟨b1, o1 + j * 3 + 2, none⟩) hlt1).trans (HC1.out j 2 _ HP.out (by decide))
            rw [Nat.add_zero] at c0
            simp only [matV, List.getElem?_cons_zero, List.getElem?_cons_succ] at c0 c1 c2
            have d0 := (HB.out.cell (p := ⟨b2, o2 + j * 3 + 0, none⟩) hlt2).trans (HC2.out j 0 _ HY.out (by decide))
            have d1 := (HB.out.cell (p := ⟨b2, o2 + j * 3 + 1, none⟩) hlt2).trans (HC2.out j 1 _ HY.out (by decide))
            have d2 := (HB.out.cell (p := ⟨b2, o2 + j * 3 + 2, none⟩) hlt2).trans (HC2.out j 2 _ HY.out (by decide))
            rw [Nat.add_zero] at d0
            simp only [matV, List.getElem?_cons_zero, List.getElem?_cons_succ] at d0 d1 d2
            clear hne HC1 HC2
            go_wp2
            go_quiet (fail)
            go_wp2
            go_ret
            exact .mk _ rfl ⟨fun h => (by cases h), fun h => absurd h HNE.out⟩ (below_drewN HB.out _)
        ·
          have hne := at_other HP.out HY.out (fun e => e0 (congrArg MatB.nm e))
          have HNE := Lib.hid hne
          have q1 := not_toList e0
          have c0 := (HB.out.cell (p := ⟨b1, o1 + j * 3 + 0, none⟩) hlt1).trans (HC1.out j 0 _ HP.out (by decide))
          have c1 := (HB.out.cell (p := ⟨b1, o1 + j * 3 + 1, none⟩) hlt1).trans (HC1.out j 1 _ HP.out (by decide))
          have c2 := (HB.out.cell (p := ⟨b1, o1 + j * 3 + 2, none⟩) hlt1).trans (HC1.out j 2 _ HP.out (by decide))
          rw [Nat.add_zero] at c0
          simp only [matV, List.getElem?_cons_zero, List.getElem?_cons_succ] at c0 c1 c2
          have d0 := (HB.out.cell (p := ⟨b2, o2 + j * 3 + 0, none⟩) hlt2).trans (HC2.out j 0 _ HY.out (by decide))
          have d1 := (HB.out.cell (p := ⟨b2, o2 + j * 3 + 1, none⟩) hlt2).trans (HC2.out j 1 _ HY.out (by decide))
          have d2 := (HB.out.cell (p := ⟨b2, o2 + j * 3 + 2, none⟩) hlt2).trans (HC2.out j 2 _ HY.out (by decide))
          rw [Nat.add_zero] at d0
          simp only [matV, List.getElem?_cons_zero, List.getElem?_cons_succ] at d0 d1 d2
          clear hne HC1 HC2
          go_wp2
          go_quiet (fail)
          go_wp2
          go_ret
          exact .mk _ rfl ⟨fun h => (by cases h), fun h => absurd h HNE.out⟩ (below_drewN HB.out _)
      · have hjn : j = n := by omega
        have hI : ¬ (j : Int) < n := by omega
        have hend := take_end (n := n) (by rw [← hjn]; exact HT.out) HQ.out HQ2.out
        have HE := Lib.hid hend
        clear hend hjn
        go_wp2
        go_ret
        exact .mk _ rfl ⟨fun _ => HE.out, fun _ => rfl⟩ HB.out
  · have i1 : ¬ (n : Int) = (m : Int) := by omega
    have i2 : ((n : Int) == (m : Int)) = false := beq_eq_false_iff_ne.2 i1
    have hne : ¬ M = N := fun e => hnm (by rw [← hl1, ← hl2, e])
    have HNE := Lib.hid hne
    clear hne hl1 hl2
    go_enter Tryz.func20, Tryz.ntmps20
    go_wp2
    go_ret
    exact .mk _ rfl ⟨fun h => (by cases h), fun h => absurd h HNE.out⟩ (Below.refl _ _)
set_option maxRecDepth 100000 in
set_option maxHeartbeats 1600000 in
theorem eqStgs_any (A : Option Addr) (n c : Nat) (B : Option Addr) (m d : Nat) (M N : List StgB) (W : World) (hn : n ≤ 100000) (h1 : RowR stgV 6 W A n M) (h2 : RowR stgV 6 W B m N) :
    Calls Tryz.prog 21 #[.slice A n c, .slice B m d] W fun e w' => SameAs (M = N) W.heap.size W e w' := by
  have hl1 := h1.1
  have hl2 := h2.1
  have HM := Lib.hid h1
  have HN := Lib.hid h2
  clear h1 h2
  by_cases hnm : n = m
  · subst hnm
    have HQ := Lib.hid hl1
    have HQ2 := Lib.hid hl2
    clear hl1 hl2
    go_enter Tryz.func21, Tryz.ntmps21
    obtain ⟨v0, hv0⟩ : ∃ v, v = W := ⟨_, rfl⟩
    go_wp2
    go_loopw [13] (fun iv wr => ∃ j : Nat, j ≤ n ∧ iv = .int .i64 (j : Nat) ∧ Hid (M.take j = N.take j) ∧ Hid (Below W.heap.size W wr)) (fun iv _ => n - (intOf iv).toNat)
    case atStart => exact ⟨0, Nat.zero_le _, rfl, Lib.hid rfl, Lib.hid (Below.refl _ _)⟩
    case round =>
      obtain ⟨j, hj, rfl, HT, HB⟩ := hrel
      by_cases h : j < n
      · have hI : (j : Int) < n := by omega
        obtain ⟨b1, o1, rfl, hlt1, hc1⟩ := HM.out.2 (by omega)
        obtain ⟨b2, o2, rfl, hlt2, hc2⟩ := HN.out.2 (by omega)
        obtain ⟨x, hp⟩ : ∃ x, M[j]? = some x := ⟨M[j]'(by rw [HQ.out]; exact h), List.getElem?_eq_getElem _⟩
        obtain ⟨y, hq⟩ : ∃ y, N[j]? = some y := ⟨N[j]'(by rw [HQ2.out]; exact h), List.getElem?_eq_getElem _⟩
        obtain ⟨x0, x1, x2, x3, x4, x5⟩ := x
        obtain ⟨y0, y1, y2, y3, y4, y5⟩ := y
        have HP := Lib.hid hp
        have HY := Lib.hid hq
        have HC1 := Lib.hid hc1
        have HC2 := Lib.hid hc2
        clear hp hq hc1 hc2
        by_cases e0 : x0 = y0
        · subst e0
          by_cases e1 : x1 = y1
          · subst e1
            by_cases e2 : x2 = y2
            · subst e2
              by_cases e3 : x3 = y3
              · subst e3
                by_cases e4 : x4 = y4
                · subst e4
                  by_cases e5 : x5 = y5
                  · subst e5
                    have c0 := (HB.out.cell (p := ⟨b1, o1 + j * 6 + 0, none⟩) hlt1).trans (HC1.out j 0 _ HP.out (by decide))
                    have c1 := (HB.out.cell (p := ⟨b1, o1 + j * 6 + 1, none⟩) hlt1).trans (HC1.out j 1 _ HP.out (by decide))
                    have c2 := (HB.out.cell (p := ⟨b1, o1 + j * 6 + 2, none⟩) hlt1).trans (HC1.out j 2 _ HP.out (by decide))
                    have c3 := (HB.out.cell (p := ⟨b1, o1 + j * 6 + 3, none⟩) hlt1).trans (HC1.out j 3 _ HP.out (by decide))
                    have c4 := (HB.out.cell (p := ⟨b1, o1 + j * 6 + 4, none⟩) hlt1).trans (HC1.out j 4 _ HP.out (by decide))
                    have c5 := (HB.out.cell (p := ⟨b1, o1 + j * 6 + 5, none⟩) hlt1).trans (HC1.out j 5 _ HP.out (by decide))
                    rw [Nat.add_zero] at c0
                    simp only [stgV, List.getElem?_cons_zero, List.getElem?_cons_succ] at c0 c1 c2 c3 c4 c5
                    have d0 := (HB.out.cell (p := ⟨b2, o2 + j * 6 + 0, none⟩) hlt2).trans (HC2.out j 0 _ HY.out (by decide))
                    have d1 := (HB.out.cell (p := ⟨b2, o2 + j * 6 + 1, none⟩) hlt2).trans (HC2.out j 1 _ HY.out (by decide))
                    have d2 := (HB.out.cell (p := ⟨b2, o2 + j * 6 + 2, none⟩) hlt2).trans (HC2.out j 2 _ HY.out (by decide))
                    have d3 := (HB.out.cell (p := ⟨b2, o2 + j * 6 + 3, none⟩) hlt2).trans (HC2.out j 3 _ HY.out (by decide))
                    have d4 := (HB.out.cell (p := ⟨b2, o2 + j * 6 + 4, none⟩) hlt2).trans (HC2.out j 4 _ HY.out (by decide))
                    have d5 := (HB.out.cell (p := ⟨b2, o2 + j * 6 + 5, none⟩) hlt2).trans (HC2.out j 5 _ HY.out (by decide))
                    rw [Nat.add_zero] at d0
                    simp only [stgV, List.getElem?_cons_zero, List.getElem?_cons_succ] at d0 d1 d2 d3 d4 d5
                    have HT2 := Lib.hid (take_same HT.out HP.out HY.out)
                    clear HC1 HC2
                    go_wp2
                    go_quiet (fail)
                    go_wp2
                    go_round
                    case rel => exact ⟨j + 1, by omega, by go_num, HT2, Lib.hid (below_drewN HB.out _)⟩
                    case measure => first | (simp [intOf]; done) | (simp [intOf]; omega)
                  ·
                    have hne := at_other HP.out HY.out (fun e => e5 (congrArg StgB.unit e))
                    have HNE := Lib.hid hne
                    have q1 : (x5 == y5) = false := beq_eq_false_iff_ne.2 e5
                    have c0 := (HB.out.cell (p := ⟨b1, o1 + j * 6 + 0, none⟩) hlt1).trans (HC1.out j 0 _ HP.out (by decide))
                    have c1 := (HB.out.cell (p := ⟨b1, o1 + j * 6 + 1, none⟩) hlt1).trans (HC1.out j 1 _ HP.out (by decide))
                    have c2 := (HB.out.cell (p := ⟨b1, o1 + j * 6 + 2, none⟩) hlt1).trans (HC1.out j 2 _ HP.out (by decide))
                    have c3 := (HB.out.cell (p := ⟨b1, o1 + j * 6 + 3, none⟩) hlt1).trans (HC1.out j 3 _ HP.out (by decide))
                    have c4 := (HB.out.cell (p := ⟨b1, o1 + j * 6 + 4, none⟩) hlt1).trans (HC1.out j 4 _ HP.out (by decide))
                    have c5 := (HB.out.cell (p := ⟨b1, o1 + j * 6 + 5, none⟩) hlt1).trans (HC1.out j 5 _ HP.out (by decide))
                    rw [Nat.add_zero] at c0
                    simp only [stgV, List.getElem?_cons_zero, List.getElem?_cons_succ] at c0 c1 c2 c3 c4 c5
                    have d0 := (HB.out.cell (p := ⟨b2, o2 + j * 6 + 0, none⟩) hlt2).trans (HC2.out j 0 _ HY.out (by decide))
                    have d1 := (HB.out.cell (p := ⟨b2, o2 + j * 6 + 1, none⟩) hlt2).trans (HC2.out j 1 _ HY.out (by decide))
                    have d2 := (HB.out.cell (p := ⟨b2, o2 + j * 6 + 2, none⟩) hlt2).trans (HC2.out j 2 _ HY.out (by decide))
                    have d3 := (HB.out.cell (p := ⟨b2, o2 + j * 6 + 3, none⟩) hlt2).trans (HC2.out j 3 _ HY.out (by decide))
                    have d4 := (HB.out.cell (p := ⟨b2, o2 + j * 6 + 4, none⟩) hlt2).trans (HC2.out j 4 _ HY.out (by decide))
                    have d5 := (HB.out.cell (p := ⟨b2, o2 + j * 6 + 5, none⟩) hlt2).trans (HC2.out j 5 _ HY.out (by decide))
                    rw [Nat.add_zero] at d0
                    simp only [stgV, List.getElem?_cons_zero, List.getElem?_cons_succ] at d0 d1 d2 d3 d4 d5
                    clear hne HC1 HC2
                    go_wp2
                    go_quiet (fail)
                    go_wp2
                    go_ret
                    exact .mk _ rfl ⟨fun h => (by cases h), fun h => absurd h HNE.out⟩ (below_drewN HB.out _)
                ·
                  have hne := at_other HP.out HY.out (fun e => e4 (congrArg StgB.num e))
                  have HNE := Lib.hid hne
                  have q1 : (x4 == y4) = false := beq_eq_false_iff_ne.2 e4
                  have c0 := (HB.out.cell (p := ⟨b1, o1 + j * 6 + 0, none⟩) hlt1).trans (HC1.out j 0 _ HP.out (by decide))
                  have c1 := (HB.out.cell (p := ⟨b1, o1 + j * 6 + 1, none⟩) hlt1).trans (HC1.out j 1 _ HP.out (by decide))
                  have c2 := (HB.out.cell (p := ⟨b1, o1 + j * 6 + 2, none⟩) hlt1).trans (HC1.out j 2 _ HP.out (by decide))
                  have c3 := (HB.out.cell (p := ⟨b1, o1 + j * 6 + 3, none⟩) hlt1).trans (HC1.out j 3 _ HP.out (by decide))
                  have c4 := (HB.out.cell (p := ⟨b1, o1 + j * 6 + 4, none⟩) hlt1).trans (HC1.out j 4 _ HP.out (by decide))
                  have c5 := (HB.out.cell (p := ⟨b1, o1 + j * 6 + 5, none⟩) hlt1).trans (HC1.out j 5 _ HP.out (by decide))
                  rw [Nat.add_zero] at c0
                  simp only [stgV, List.getElem?_cons_zero, List.getElem?_cons_succ] at c0 c1 c2 c3 c4 c5
                  have d0 := (HB.out.cell (p := ⟨b2, o2 + j * 6 + 0, none⟩) hlt2).trans (HC2.out j 0 _ HY.out (by decide))
                  have d1 := (HB.out.cell (p := ⟨b2, o2 + j * 6 + 1, none⟩) hlt2).trans (HC2.out j 1 _ HY.out (by decide))
                  have d2 := (HB.out.cell (p := ⟨b2, o2 + j * 6 + 2, none⟩) hlt2).trans (HC2.out j 2 _ HY.out (by decide))
                  have d3 := (HB.out.cell (p := ⟨b2, o2 + j * 6 + 3, none⟩) hlt2).trans (HC2.out j 3 _ HY.out (by decide))
                  have d4 := (HB.out.cell (p := ⟨b2, o2 + j * 6 + 4, none⟩) hlt2).trans (HC2.out j 4 _ HY.out (by decide))
                  have d5 := (HB.out.cell (p := ⟨b2, o2 + j * 6 + 5, none⟩) hlt2).trans (HC2.out j 5 _ HY.out (by decide))
                  rw [Nat.add_zero] at d0
                  simp only [stgV, List.getElem?_cons_zero, List.getElem?_cons_succ] at d0 d1 d2 d3 d4 d5
                  clear hne HC1 HC2
                  go_wp2
                  go_quiet (fail)
                  go_wp2
                  go_ret
                  exact .mk _ rfl ⟨fun h => (by cases h), fun h => absurd h HNE.out⟩ (below_drewN HB.out _)
              ·
                have hne := at_other HP.out HY.out (fun e => e3 (congrArg StgB.v e))
                have HNE := Lib.hid hne
                have q1 := not_toList e3
                have c0 := (HB.out.cell (p := ⟨b1, o1 + j * 6 + 0, none⟩) hlt1).trans (HC1.out j 0 _ HP.out (by decide))
                have c1 := (HB.out.cell (p := ⟨b1, o1 + j * 6 + 1, none⟩) hlt1).trans (HC1.out j 1 _ HP.out (by decide))
                have c2 := (HB.out.cell (p := ⟨b1, o1 + j * 6 + 2, none⟩) hlt1).trans (HC1.out j 2 _ HP.out (by decide))
                have c3 := (HB.out.cell (p := ⟨b1, o1 + j * 6 + 3, none⟩) hlt1).trans (HC1.out j 3 _ HP.out (by decide))
                have c4 := (HB.out.cell (p := ⟨b1, o1 + j * 6 + 4, none⟩) hlt1).trans (HC1.out j 4 _ HP.out (by decide))
                have c5 := (HB.out.cell (p := ⟨b1, o1 + j * 6 + 5, none⟩) hlt1).trans (HC1.out j 5 _ HP.out (by decide))
                rw [Nat.add_zero] at c0
                simp only [stgV, List.getElem?_cons_zero, List.getElem?_cons_succ] at c0 c1 c2 c3 c4 c5
                have d0 := (HB.out.cell (p := ⟨b2, o2 + j * 6 + 0, none⟩) hlt2).trans (HC2.out j 0 _ HY.out (by decide))
                have d1 := (HB.out.cell (p := ⟨b2, o2 + j * 6 + 1, none⟩) hlt2).trans (HC2.out j 1 _ HY.out (by decide))
                have d2 := (HB.out.cell (p := ⟨b2, o2 + j * 6 + 2, none⟩) hlt2).trans (HC2.out j 2 _ HY.out (by decide))
                have d3 := (HB.out.cell (p := ⟨b2, o2 + j * 6 + 3, none⟩) hlt2).trans (HC2.out j 3 _ HY.out (by decide))
                have d4 := (HB.out.cell (p := ⟨b2, o2 + j * 6 + 4, none⟩) hlt2).trans (HC2.out j 4 _ HY.out (by decide))
                have d5 := (HB.out.cell (p := ⟨b2, o2 + j * 6 + 5, none⟩) hlt2).trans (HC2.out j 5 _ HY.out (by decide))
                rw [Nat.add_zero] at d0
                simp only [stgV, List.getElem?_cons_zero, List.getElem?_cons_succ] at d0 d1 d2 d3 d4 d5
                clear hne HC1 HC2
                go_wp2
                go_quiet (fail)
                go_wp2
                go_ret
                exact .mk _ rfl ⟨fun h => (by cases h), fun h => absurd h HNE.out⟩ (below_drewN HB.out _)
            ·
              have hne := at_other HP.out HY.out (fun e => e2 (congrArg StgB.op e))
              have HNE := Lib.hid hne
              have q1 := not_toList e2
              have c0 := (HB.out.cell (p := ⟨b1, o1 + j * 6 + 0, none⟩) hlt1).trans (HC1.out j 0 _ HP.out (by decide))
              have c1 := (HB.out.cell (p := ⟨b1, o1 + j * 6 + 1, none⟩) hlt1).trans (HC1.out j 1 _ HP.out (by decide))
              have c2 := (HB.out.cell (p := ⟨b1, o1 + j * 6 + 2, none⟩) hlt1).trans (HC1.out j 2 _ HP.out (by decide))
              have c3 := (HB.out.cell (p := ⟨b1, o1 + j * 6 + 3, none⟩) hlt1).trans (HC1.out j 3 _ HP.out (by decide))
              have c4 := (HB.out.cell (p := ⟨b1, o1 + j * 6 + 4, none⟩) hlt1).trans (HC1.out j 4 _ HP.out (by decide))
              have c5 := (HB.out.cell (p := ⟨b1, o1 + j * 6 + 5, none⟩) hlt1).trans (HC1.out j 5 _ HP.out (by decide))
              rw [Nat.add_zero] at c0
              simp only [stgV, List.getElem?_cons_zero, List.getElem?_cons_succ] at c0 c1 c2 c3 c4 c5
              have d0 := (HB.out.cell (p := ⟨b2, o2 + j * 6 + 0, none⟩) hlt2).trans (HC2.out j 0 _ HY.out (by decide))
              have d1 := (HB.out.cell (p := ⟨b2, o2 + j * 6 + 1, none⟩) hlt2).trans (HC2.out j 1 _ HY.out (by decide))
              have d2 := (HB.out.cell (p := ⟨b2, o2 + j * 6 + 2, none⟩) hlt2).trans (HC2.out j 2 _ HY.out (by decide))
              have d3 := (HB.out.cell (p := ⟨b2, o2 + j * 6 + 3, none⟩) hlt2).trans (HC2.out j 3 _ HY.out (by decide))
              have d4 := (HB.out.cell (p := ⟨b2, o2 + j * 6 + 4, none⟩) hlt2).trans (HC2.out j 4 _ HY.out (by decide))
              have d5 := (HB.out.cell (p := ⟨b2, o2 + j * 6 + 5, none⟩) hlt2).trans (HC2.out j 5 _ HY.out (by decide))
              rw [Nat.add_zero] at d0
              simp only [stgV, List.getElem?_cons_zero, List.getElem?_cons_succ] at d0 d1 d2 d3 d4 d5
              clear hne HC1 HC2
              go_wp2
              go_quiet (fail)
              go_wp2
              go_ret
              exact .mk _ rfl ⟨fun h => (by cases h), fun h => absurd h HNE.out⟩ (below_drewN HB.out _)
          ·
            have hne := at_other HP.out HY.out (fun e => e1 (congrArg StgB.nm e))
            have HNE := Lib.hid hne
            have q1 := not_toList e1
            have c0 := (HB.out.cell (p := ⟨b1, o1 + j * 6 + 0, none⟩) hlt1).trans (HC1.out j 0 _ HP.out (by decide))
            have c1 := (HB.out.cell (p := ⟨b1, o1 + j * 6 + 1, none⟩) hlt1).trans (HC1.out j 1 _ HP.out (by decide))
            have c2 := (HB.out.cell (p := ⟨b1, o1 + j * 6 + 2, none⟩) hlt1).trans (HC1.out j 2 _ HP.out (by decide))
            have c3 := (HB.out.cell (p := ⟨b1, o1 + j * 6 + 3, none⟩) hlt1).trans (HC1.out j 3 _ HP.out (by decide))
            have c4 := (HB.out.cell (p := ⟨b1, o1 + j * 6 + 4, none⟩) hlt1).trans (HC1.out j 4 _ HP.out (by decide))
            have c5 := (HB.out.cell (p := ⟨b1, o1 + j * 6 + 5, none⟩) hlt1).trans (HC1.out j 5 _ HP.out (by decide))
            rw [Nat.add_zero] at c0
            simp only [stgV, List.getElem?_cons_zero, List.getElem?_cons_succ] at c0 c1 c2 c3 c4 c5
            have d0 := (HB.out.cell (p := ⟨b2, o2 + j * 6 + 0, none⟩) hlt2).trans (HC2.out j 0 _ HY.out (by decide))
            have d1 := (HB.out.cell (p := ⟨b2, o2 + j * 6 + 1, none⟩) hlt2).trans (HC2.out j 1 _ HY.out (by decide))
            have d2 := (HB.out.cell (p := ⟨b2, o2 + j * 6 + 2, none⟩) hlt2).trans (HC2.out j 2 _ HY.out (by decide))
            have d3 := (HB.out.cell (p := ⟨b2, o2 + j * 6 + 3, none⟩) hlt2).trans (HC2.out j 3 _ HY.out (by decide))
            have d4 := (HB.out.cell (p := ⟨b2, o2 + j * 6 + 4, none⟩) hlt2).trans (HC2.out j 4 _ HY.out (by decide))
            have d5 := (HB.out.cell (p := ⟨b2, o2 + j * 6 + 5, none⟩) hlt2).trans (HC2.out j 5 _ HY.out (by decide))
            rw [Nat.add_zero] at d0
            simp only [stgV, List.getElem?_cons_zero, List.getElem?_cons_succ] at d0 d1 d2 d3 d4 d5
            clear hne HC1 HC2
            go_wp2
            go_quiet (fail)
            go_wp2
            go_ret
            exact .mk _ rfl ⟨fun h => (by cases h), fun h => absurd h HNE.out⟩ (below_drewN HB.out _)
        ·
          have hne := at_other HP.out HY.out (fun e => e0 (congrArg StgB.kind e))
          have HNE := Lib.hid hne
          have q1 : (x0 == y0) = false := beq_eq_false_iff_ne.2 e0
          have c0 := (HB.out.cell (p := ⟨b1, o1 + j * 6 + 0, none⟩) hlt1).trans (HC1.out j 0 _ HP.out (by decide))
          have c1 := (HB.out.cell (p := ⟨b1, o1 + j * 6 + 1, none⟩) hlt1).trans (HC1.out j 1 _ HP.out (by decide))
          have c2 := (HB.out.cell (p := ⟨b1, o1 + j * 6 + 2, none⟩) hlt1).trans (HC1.out j 2 _ HP.out (by decide))
          have c3 := (HB.out.cell (p := ⟨b1, o1 + j * 6 + 3, none⟩) hlt1).trans (HC1.out j 3 _ HP.out (by decide))
          have c4 := (HB.out.cell (p := ⟨b1, o1 + j * 6 + 4, none⟩) hlt1).trans (HC1.out j 4 _ HP.out (by decide))
          have c5 := (HB.out.cell (p := ⟨b1, o1 + j * 6 + 5, none⟩) hlt1).trans (HC1.out j 5 _ HP.out (by decide))
          rw [Nat.add_zero] at c0
          simp only [stgV, List.getElem?_cons_zero, List.getElem?_cons_succ] at c0 c1 c2 c3 c4 c5
          have d0 := (HB.out.cell (p := ⟨b2, o2 + j * 6 + 0, none⟩) hlt2).trans (HC2.out j 0 _ HY.out (by decide))
          have d1 := (HB.out.cell (p := ⟨b2, o2 + j * 6 + 1, none⟩) hlt2).trans (HC2.out j 1 _ HY.out (by decide))
          have d2 := (HB.out.cell (p := ⟨b2, o2 + j * 6 + 2, none⟩) hlt2).trans (HC2.out j 2 _ HY.out (by decide))
          have d3 := (HB.out.cell (p := ⟨b2, o2 + j * 6 + 3, none⟩) hlt2).trans (HC2.out j 3 _ HY.out (by decide))
          have d4 := (HB.out.cell (p := ⟨b2, o2 + j * 6 + 4, none⟩) hlt2).trans (HC2.out j 4 _ HY.out (by decide))
          have d5 := (HB.out.cell (p := ⟨b2, o2 + j * 6 + 5, none⟩) hlt2).trans (HC2.out j 5 _ HY.out (by decide))
          rw [Nat.add_zero] at d0
          simp only [stgV, List.getElem?_cons_zero, List.getElem?_cons_succ] at d0 d1 d2 d3 d4 d5
          clear hne HC1 HC2
          go_wp2
          go_quiet (fail)
          go_wp2
          go_ret
          exact .mk _ rfl ⟨fun h => (by cases h), fun h => absurd h HNE.out⟩ (below_drewN HB.out _)
      · have hjn : j = n := by omega
        have hI : ¬ (j : Int) < n := by omega
        have hend := take_end (n := n) (by rw [← hjn]; exact HT.out) HQ.out HQ2.out
        have HE := Lib.hid hend
        clear hend hjn
        go_wp2
        go_ret
        exact .mk _ rfl ⟨fun _ => HE.out, fun _ => rfl⟩ HB.out
  · have i1 : ¬ (n : Int) = (m : Int) := by omega
    have i2 : ((n : Int) == (m : Int)) = false := beq_eq_false_iff_ne.2 i1
    have hne : ¬ M = N := fun e => hnm (by rw [← hl1, ← hl2, e])
    have HNE := Lib.hid hne
    clear hne hl1 hl2
    go_enter Tryz.func21, Tryz.ntmps21
    go_wp2
    go_ret
    exact .mk _ rfl ⟨fun h => (by cases h), fun h => absurd h HNE.out⟩ (Below.refl _ _)
theorem astSame_any (A : Option Addr) (n c : Nat) (B : Option Addr) (m d : Nat) (A2 : Option Addr) (n2 c2 : Nat) (B2 : Option Addr) (m2 d2 : Nat) (M M2 : List MatB) (S S2 : List StgB) (W : World) (hn : n ≤ 100000) (hm : m ≤ 100000) (h1 : RowR matV 3 W A n M) (h2 : RowR stgV 6 W B m S) (h3 : RowR matV 3 W A2 n2 M2) (h4 : RowR stgV 6 W B2 m2 S2) :
    Calls Tryz.prog 11 #[.agg #[.slice A n c, .slice B m d], .agg #[.slice A2 n2 c2, .slice B2 m2 d2]] W fun e w' => SameAs (M = M2 ∧ S = S2) W.heap.size W e w' := by
  have hb0 := ((Below.refl W.heap.size W).alloc (Nat.le_refl _) (.cells #[.slice A n c, .slice B m d] 34)).alloc (by simp) (.cells #[.slice A2 n2 c2, .slice B2 m2 d2] 34)
  have HB0 := Lib.hid hb0
  have E1 := Lib.hid (eqMats_any A n c A2 n2 c2 M M2 _ hn (h1.below hb0) (h3.below hb0))
  have E2 := Lib.hid (fun w (hb : Below W.heap.size W w) => eqStgs_any B m d B2 m2 d2 S S2 w hm (h2.below hb) (h4.below hb))
  have K1 := Lib.hid ((Blk.new W 34 #[.slice A n c, .slice B m d]).alloc (.cells #[.slice A2 n2 c2, .slice B2 m2 d2] 34))
  have K2 := Lib.hid (show Blk ((W.alloc (.cells #[.slice A n c, .slice B m d] 34)).alloc (.cells #[.slice A2 n2 c2, .slice B2 m2 d2] 34)) (W.heap.size + 1) 34 #[.slice A2 n2 c2, .slice B2 m2 d2] from by
    have h := Blk.new (W.alloc (.cells #[.slice A n c, .slice B m d] 34)) 34 #[.slice A2 n2 c2, .slice B2 m2 d2]
    rwa [show (W.alloc (.cells #[.slice A n c, .slice B m d] 34)).heap.size = W.heap.size + 1 by simp] at h)
  have c0 := K1.out.cell 0
  have c1 := K2.out.cell 0
  clear h1 h2 h3 h4 hb0
  go_enter Tryz.func11, Tryz.ntmps11
  go_wp2_with fail
  refine E1.out.mono ?_
  rintro e w1 ⟨b1, rfl, h1_, hb⟩
  have H1 := Lib.hid h1_
  clear h1_
  have HB := Lib.hid (hop HB0.out (Nat.le_refl _) hb)
  have L1 := K1.out.below hb K1.out.lt
  have L2 := K2.out.below hb K2.out.lt
  have d0 := L1.cell 1
  have d1 := L2.cell 1
  clear hb c0 c1 L1 L2 K1 K2
  cases b1 with
  | false =>
    go_wp2
    go_ret
    exact .mk _ rfl ⟨fun h => (by cases h), fun h => absurd (H1.out.2 h.1) (by decide)⟩ HB.out
  | true =>
    go_wp2_with fail
    refine (E2.out _ HB.out).mono ?_
    rintro e w2 ⟨b2, rfl, h2_, hb⟩
    have H2 := Lib.hid h2_
    clear h2_
    have HB2 := Lib.hid (hop HB.out (Nat.le_refl _) hb)
    clear hb
    go_wp2
    go_ret
    exact .mk _ rfl ⟨fun h => ⟨H1.out.1 (by first | rfl | trivial), H2.out.1 h⟩, fun h => H2.out.2 h.2⟩ HB2.out
end Go.Proofs.YtepokdmkdnlbfaaGreatDoor
