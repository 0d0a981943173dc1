/- What a set of labels holds: of each name the last; the names rising. No program. -/
import Derived.Test.YtimfabnjopkhdaaLabStable
namespace Go.Proofs.Ytimfabnjopkhdaa
open Go.RowKit Go.Sort
set_option linter.unusedVariables false

theorem keptAt_next (p : PairB) (l : List PairB) (i : Nat) : keptAt (p :: l) (i + 1) = keptAt l i := by
  unfold keptAt
  rw [List.length_cons, List.getD_cons_succ, List.getD_cons_succ]
  congr 1
  exact decide_eq_decide.2 (by omega)
theorem lastsL_cons (p : PairB) (l : List PairB) : lastsL (p :: l) = (if keptAt (p :: l) 0 then [p] else []) ++ lastsL l := by
  unfold lastsL keptTo
  rw [List.length_cons, List.range_succ_eq_map, List.filter_cons]
  have e : (List.filter (keptAt (p :: l)) (List.map Nat.succ (List.range l.length))) = List.map Nat.succ ((List.range l.length).filter (keptAt l)) := by
    rw [List.filter_map]
    congr 1
    apply List.filter_congr
    intro i _
    exact keptAt_next p l i
  rw [e]
  cases h : keptAt (p :: l) 0 with
  | true => simp [List.map_map, Function.comp_def]
  | false => simp [List.map_map, Function.comp_def]
theorem lastsL_sub (l : List PairB) : ∀ p ∈ lastsL l, p ∈ l := by
  induction l with
  | nil => intro p hp; cases hp
  | cons q l ih =>
    intro p hp
    rw [lastsL_cons] at hp
    rcases List.mem_append.1 hp with h | h
    · split at h
      · rw [List.mem_singleton.1 h]; exact List.mem_cons_self
      · cases h
    · exact List.mem_cons_of_mem _ (ih p h)
abbrev UpP (p q : PairB) : Prop := txtC p.1 q.1 ≤ 0
abbrev RiseP (p q : PairB) : Prop := txtC p.1 q.1 < 0
def ofName (nm : ByteArray) (p : PairB) : Bool := decide (p.1 = nm)
theorem rise_of {p h : PairB} {l : List PairB} (hs : (p :: h :: l).Pairwise UpP) (hne : h.1 ≠ p.1) : ∀ q ∈ h :: l, RiseP p q := by
  intro q hq
  obtain ⟨h1, h2⟩ := List.pairwise_cons.1 hs
  have a : txtC p.1 h.1 < 0 := by
    have := h1 h List.mem_cons_self
    have h0 : txtC p.1 h.1 ≠ 0 := fun e => hne (txtC_ord.zero _ _ e).symm
    show txtC p.1 h.1 < 0
    have : txtC p.1 h.1 ≤ 0 := this
    omega
  rcases List.mem_cons.1 hq with rfl | hq
  · exact a
  · exact txtC_ord.less a ((List.pairwise_cons.1 h2).1 q hq)
theorem kept0 (p : PairB) (l : List PairB) : keptAt (p :: l) 0 = match l with | [] => true | h :: _ => decide (h.1 ≠ p.1) := by
  cases l with
  | nil => rfl
  | cons h l => simp [keptAt]
theorem lastsL_rise (l : List PairB) (hs : l.Pairwise UpP) : (lastsL l).Pairwise RiseP := by
  induction l with
  | nil => exact .nil
  | cons p l ih =>
    rw [lastsL_cons, kept0]
    have ih := ih (List.pairwise_cons.1 hs).2
    cases l with
    | nil => exact List.pairwise_singleton _ _
    | cons h l =>
      dsimp only
      by_cases hne : h.1 ≠ p.1
      · rw [if_pos (decide_eq_true hne)]
        exact List.pairwise_cons.2 ⟨fun q hq => rise_of hs hne q (lastsL_sub _ q hq), ih⟩
      · rw [if_neg (fun h => hne (of_decide_eq_true h))]
        exact ih
theorem lastsL_of (l : List PairB) (hs : l.Pairwise UpP) (nm : ByteArray) : (lastsL l).filter (ofName nm) = ((l.filter (ofName nm)).getLast?).toList := by
  induction l with
  | nil => rfl
  | cons p l ih =>
    rw [lastsL_cons, kept0, List.filter_append, ih (List.pairwise_cons.1 hs).2]
    by_cases hp : p.1 = nm
    · have e : ofName nm p = true := decide_eq_true hp
      rw [List.filter_cons_of_pos e]
      cases l with
      | nil => simp [e]
      | cons h l =>
        dsimp only
        by_cases hne : h.1 ≠ p.1
        · have hno : (h :: l).filter (ofName nm) = [] := by
            rw [List.filter_eq_nil_iff]
            intro q hq hqn
            have h1 := rise_of hs hne q hq
            have h2 : q.1 = nm := of_decide_eq_true hqn
            have h3 : txtC p.1 q.1 < 0 := h1
            rw [hp, h2, txtC_ord.refl] at h3
            exact absurd h3 (by decide)
          rw [if_pos (decide_eq_true hne), hno]
          simp [e]
        · have hh : h.1 = p.1 := Decidable.not_not.1 hne
          have e2 : ofName nm h = true := decide_eq_true (by rw [hh, hp])
          rw [if_neg (fun h => hne (of_decide_eq_true h)), List.filter_cons_of_pos e2]
          simp [List.getLast?_cons]
    · have e : ofName nm p = false := decide_eq_false hp
      rw [List.filter_cons_of_neg (by rw [e]; decide)]
      split <;> simp [e]
theorem sortL_up (ps : List PairB) : (sortL ps).Pairwise UpP := by
  rw [List.pairwise_iff_getElem]
  intro i j hi hj hij
  have h := sortL_sorted ps i j hij (by rw [← sortL_length ps]; exact hj)
  rw [List.getD_eq_getElem?_getD, List.getD_eq_getElem?_getD, List.getElem?_eq_getElem hi, List.getElem?_eq_getElem hj] at h
  have a := txtC_ord.anti (sortL ps)[i].1 (sortL ps)[j].1
  have h2 : ¬ txtC (sortL ps)[j].1 (sortL ps)[i].1 < 0 := h
  show txtC (sortL ps)[i].1 (sortL ps)[j].1 ≤ 0
  omega
/-- a set's names rise -/
theorem ofL_rise (ps : List PairB) : (ofL ps).Pairwise RiseP := lastsL_rise _ (sortL_up _)
/-- a set holds of each name the last -/
theorem ofL_of (ps : List PairB) (nm : ByteArray) : (ofL ps).filter (ofName nm) = (((namedL ps).filter (ofName nm)).getLast?).toList := by
  unfold ofL
  rw [lastsL_of _ (sortL_up _)]
  rw [show (sortL (namedL ps)).filter (ofName nm) = (namedL ps).filter (ofName nm) from sortL_stable _ nm]
end Go.Proofs.Ytimfabnjopkhdaa
