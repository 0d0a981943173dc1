-- shaken
import Derived.Test.YtdaainifkldcpaaGreatDoorLabOf
namespace Go.Proofs.YtdaainifkldcpaaGreatDoor
open Go.RowKit Go.Sort
set_option linter.unusedVariables false
set_option linter.unusedSimpArgs false
theorem swp_parts (pre post : List PairB) (x y : PairB) : (swp (pre ++ x :: y :: post).toArray (pre.length + 1) pre.length).toList = pre ++ y :: x :: post := by
  unfold swp
  have hx : (pre ++ x :: y :: post).toArray[pre.length]! = x := by simp
  have hy : (pre ++ x :: y :: post).toArray[pre.length + 1]! = y := by simp
  rw [hx, hy]
  simp [List.set_append]
theorem list_split (l : List PairB) (j : Nat) (h : j + 1 < l.length) : ∃ pre x y post, l = pre ++ x :: y :: post ∧ pre.length = j :=
  ⟨l.take j, l[j], l[j + 1], l.drop (j + 2), by
    rw [← List.drop_eq_getElem_cons (by omega), ← List.drop_eq_getElem_cons (by omega), List.take_append_drop], by rw [List.length_take]; omega⟩
theorem filt_swp (q : PairB → Bool) (d : Array PairB) (j : Nat) (hsz : j + 1 < d.size) (hne : (q d[j + 1]! && q d[j]!) = false) : (swp d (j + 1) j).toList.filter q = d.toList.filter q := by
  obtain ⟨l⟩ := d
  obtain ⟨pre, x, y, post, rfl, rfl⟩ := list_split l j (by simpa using hsz)
  rw [swp_parts]
  have hx : (pre ++ x :: y :: post).toArray[pre.length]! = x := by simp
  have hy : (pre ++ x :: y :: post).toArray[pre.length + 1]! = y := by simp
  have hne2 : (q y && q x) = false := by
    have h := hne
    rw [show (Array.mk (pre ++ x :: y :: post)) = (pre ++ x :: y :: post).toArray from rfl, hx, hy] at h
    exact h
  rw [List.filter_append, List.filter_append]
  congr 1
  cases hqy : q y <;> cases hqx : q x <;> simp [hqy, hqx] at hne2 ⊢
theorem insInner_size (a : Nat) : ∀ (j : Nat) (d : Array PairB), (insInner nameLt a j d).size = d.size
  | 0, d => rfl
  | j + 1, d => by
    rw [insInner]
    split
    · rw [insInner_size a j, swp_size]
    · rfl
theorem insInner_filt (q : PairB → Bool) (H : ∀ x y, nameLt x y = true → (q x && q y) = false) (a : Nat) : ∀ (j : Nat) (d : Array PairB), j < d.size → (insInner nameLt a j d).toList.filter q = d.toList.filter q
  | 0, d, _ => rfl
  | j + 1, d, h => by
    rw [insInner]
    split
    · rename_i hc
      have hlt : nameLt d[j + 1]! d[j]! = true := by
        simp only [Bool.and_eq_true] at hc
        exact hc.2
      rw [insInner_filt q H a j _ (by rw [swp_size]; omega), filt_swp q d j h (H _ _ hlt)]
    · rfl
theorem insOuter_filt (q : PairB → Bool) (H : ∀ x y, nameLt x y = true → (q x && q y) = false) (a b : Nat) : ∀ (n i : Nat) (d : Array PairB), n = b - i → b ≤ d.size → (insOuter nameLt a b i d).toList.filter q = d.toList.filter q := by
  intro n
  induction n with
  | zero =>
    intro i d h1 h2
    rw [insOuter, if_neg (by omega)]
  | succ n ih =>
    intro i d h1 h2
    rw [insOuter, if_pos (by omega), ih _ _ (by omega) (by rw [insInner_size]; exact h2), insInner_filt q H a i d (by omega)]
theorem nameLt_ne (nm : ByteArray) (x y : PairB) (h : nameLt x y = true) : (decide (x.1 = nm) && decide (y.1 = nm)) = false := by
  have h1 : txtC x.1 y.1 < 0 := of_decide_eq_true h
  by_cases hx : x.1 = nm
  · by_cases hy : y.1 = nm
    · rw [hx, hy, txtC_ord.refl] at h1
      exact absurd h1 (by decide)
    · rw [decide_eq_false hy, Bool.and_false]
  · rw [decide_eq_false hx, Bool.false_and]
theorem sortL_stable (ps : List PairB) (nm : ByteArray) : (sortL ps).filter (fun p => decide (p.1 = nm)) = ps.filter (fun p => decide (p.1 = nm)) := by
  unfold sortL insertionSort
  rw [insOuter_filt (fun p => decide (p.1 = nm)) (nameLt_ne nm) 0 ps.length _ _ _ rfl (by simp)]
theorem keptAt_next (p : PairB) (l : List PairB) (i : Nat) : keptAt (p :: l) (i + 1) = keptAt l i := by
  unfold keptAt
  rw [List.length_cons, List.getD_cons_succ, List.getD_cons_succ]
  congr 1
  exact decide_eq_decide.2 (by omega)
theorem lastsL_cons (p : PairB) (l : List PairB) : lastsL (p :: l) = (if keptAt (p :: l) 0 then [p] else []) ++ lastsL l := by
  unfold lastsL keptTo
  rw [List.length_cons, List.range_succ_eq_map, List.filter_cons]
  have e : (List.filter (keptAt (p :: l)) (List.map Nat.succ (List.range l.length))) = List.map Nat.succ ((List.range l.length).filter (keptAt l)) := by
    rw [List.filter_map]
    congr 1
    apply List.filter_congr
    intro i _
    exact keptAt_next p l i
  rw [e]
  cases h : keptAt (p :: l) 0 with
  | true => simp [List.map_map, Function.comp_def]
  | false => simp [List.map_map, Function.comp_def]
theorem lastsL_sub (l : List PairB) : ∀ p ∈ lastsL l, p ∈ l := by
  induction l with
  | nil => intro p hp; cases hp
  | cons q l ih =>
    intro p hp
    rw [lastsL_cons] at hp
    rcases List.mem_append.1 hp with h | h
    · split at h
      · rw [List.mem_singleton.1 h]; exact List.mem_cons_self
      · cases h
    · exact List.mem_cons_of_mem _ (ih p h)
abbrev UpP (p q : PairB) : Prop := txtC p.1 q.1 ≤ 0
abbrev RiseP (p q : PairB) : Prop := txtC p.1 q.1 < 0
def ofName (nm : ByteArray) (p : PairB) : Bool := decide (p.1 = nm)
theorem rise_of {p h : PairB} {l : List PairB} (hs : (p :: h :: l).Pairwise UpP) (hne : h.1 ≠ p.1) : ∀ q ∈ h :: l, RiseP p q := by
  intro q hq
  obtain ⟨h1, h2⟩ := List.pairwise_cons.1 hs
  have a : txtC p.1 h.1 < 0 := by
    have := h1 h List.mem_cons_self
    have h0 : txtC p.1 h.1 ≠ 0 := fun e => hne (txtC_ord.zero _ _ e).symm
    show txtC p.1 h.1 < 0
    have : txtC p.1 h.1 ≤ 0 := this
    omega
  rcases List.mem_cons.1 hq with rfl | hq
  · exact a
  · exact txtC_ord.less a ((List.pairwise_cons.1 h2).1 q hq)
theorem kept0 (p : PairB) (l : List PairB) : keptAt (p :: l) 0 = match l with | [] => true | h :: _ => decide (h.1 ≠ p.1) := by
  cases l with
  | nil => rfl
  | cons h l => simp [keptAt]
theorem lastsL_rise (l : List PairB) (hs : l.Pairwise UpP) : (lastsL l).Pairwise RiseP := by
  induction l with
  | nil => exact .nil
  | cons p l ih =>
    rw [lastsL_cons, kept0]
    have ih := ih (List.pairwise_cons.1 hs).2
    cases l with
    | nil => exact List.pairwise_singleton _ _
    | cons h l =>
      dsimp only
      by_cases hne : h.1 ≠ p.1
      · rw [if_pos (decide_eq_true hne)]
        exact List.pairwise_cons.2 ⟨fun q hq => rise_of hs hne q (lastsL_sub _ q hq), ih⟩
      · rw [if_neg (fun h => hne (of_decide_eq_true h))]
        exact ih
theorem lastsL_of (l : List PairB) (hs : l.Pairwise UpP) (nm : ByteArray) : (lastsL l).filter (ofName nm) = ((l.filter (ofName nm)).getLast?).toList := by
  induction l with
  | nil => rfl
  | cons p l ih =>
    rw [lastsL_cons, kept0, List.filter_append, ih (List.pairwise_cons.1 hs).2]
    by_cases hp : p.1 = nm
    · have e : ofName nm p = true := decide_eq_true hp
      rw [List.filter_cons_of_pos e]
      cases l with
      | nil => simp [e]
      | cons h l =>
        dsimp only
        by_cases hne : h.1 ≠ p.1
        · have hno : (h :: l).filter (ofName nm) = [] := by
            rw [List.filter_eq_nil_iff]
            intro q hq hqn
            have h1 := rise_of hs hne q hq
            have h2 : q.1 = nm := of_decide_eq_true hqn
            have h3 : txtC p.1 q.1 < 0 := h1
            rw [hp, h2, txtC_ord.refl] at h3
            exact absurd h3 (by decide)
          rw [if_pos (decide_eq_true hne), hno]
          simp [e]
        · have hh : h.1 = p.1 := Decidable.not_not.1 hne
          have e2 : ofName nm h = true := decide_eq_true (by rw [hh, hp])
          rw [if_neg (fun h => hne (of_decide_eq_true h)), List.filter_cons_of_pos e2]
          simp [List.getLast?_cons]
    · have e : ofName nm p = false := decide_eq_false hp
      rw [List.filter_cons_of_neg (by rw [e]; decide)]
      split <;> simp [e]
theorem sortL_up (ps : List PairB) : (sortL ps).Pairwise UpP := by
  rw [List.pairwise_iff_getElem]
  intro i j hi hj hij
  have h := sortL_sorted ps i j hij (by rw [← sortL_length ps]; exact hj)
  rw [List.getD_eq_getElem?_getD, List.getD_eq_getElem?_getD, List.getElem?_eq_getElem hi, List.getElem?_eq_getElem hj] at h
  have a := txtC_ord.anti (sortL ps)[i].1 (sortL ps)[j].1
  have h2 : ¬ txtC (sortL ps)[j].1 (sortL ps)[i].1 < 0 := h
  show txtC (sortL ps)[i].1 (sortL ps)[j].1 ≤ 0
  omega
theorem ofL_rise (ps : List PairB) : (ofL ps).Pairwise RiseP := lastsL_rise _ (sortL_up _)
theorem ofL_of (ps : List PairB) (nm : ByteArray) : (ofL ps).filter (ofName nm) = (((namedL ps).filter (ofName nm)).getLast?).toList := by
  unfold ofL
  rw [lastsL_of _ (sortL_up _)]
  rw [show (sortL (namedL ps)).filter (ofName nm) = (namedL ps).filter (ofName nm) from sortL_stable _ nm]
structure SetL (l : List PairB) : Prop where
  rise : l.Pairwise RiseP
  named : ∀ p ∈ l, nameB p.1 = true
theorem ofL_mem (ps : List PairB) (p : PairB) : p ∈ ofL ps ↔ ((namedL ps).filter (ofName p.1)).getLast? = some p := by
  have h := ofL_of ps p.1
  have e : p ∈ ofL ps ↔ p ∈ (ofL ps).filter (ofName p.1) := by
    rw [List.mem_filter]
    exact ⟨fun h => ⟨h, decide_eq_true rfl⟩, fun h => h.1⟩
  rw [e, h, Option.mem_toList]
theorem ofL_set (ps : List PairB) : SetL (ofL ps) := ⟨ofL_rise ps, fun p hp => by
  have h := List.mem_of_getLast? ((ofL_mem ps p).1 hp)
  have h2 := (List.mem_filter.1 h).1
  exact (List.mem_filter.1 h2).2⟩
end Go.Proofs.YtdaainifkldcpaaGreatDoor
