/- Entries that were put in their order one by one. No walk. -/
import Derived.Test.YtilcanblgdmecaaEntRow
namespace Go.Proofs.Ytilcanblgdmecaa
open Go.RowKit
set_option linter.unusedVariables false
set_option linter.unusedSimpArgs false

def leB (a b : EntB) : Prop := entC a b ≤ 0
theorem leB_flip {a b : EntB} : leB a b ↔ ¬ entC b a < 0 := by
  have := entC_ord.anti a b
  unfold leB
  omega
theorem leB_trans {a b c : EntB} (h1 : leB a b) (h2 : leB b c) : leB a c := entC_ord.trans _ _ _ h1 h2
theorem leB_refl (a : EntB) : leB a a := by unfold leB; rw [entC_ord.refl]; exact Int.le_refl _
theorem leB_both {a b : EntB} (h1 : leB a b) (h2 : leB b a) : a = b := by
  have := entC_ord.anti a b
  unfold leB at h1 h2
  exact entC_zero.1 (by omega)
def SortedP (l : List EntX) : Prop := l.Pairwise fun x y => leB x.b y.b
theorem ahead_true {a b : EntB} : aheadB a b true = true ↔ entC a b < 0 := by unfold aheadB; rw [if_pos rfl, decide_eq_true_iff]
theorem ahead_false {a b : EntB} : aheadB a b false = true ↔ 0 < entC a b := by unfold aheadB; rw [if_neg (by decide), decide_eq_true_iff]

theorem ins_sorted (l : List EntX) (x : EntX) (k : Nat) (h : SortedP l) (hk : k ≤ l.length) (h1 : ∀ j, k ≤ j → j < l.length → aheadB x.b (l.getD j xnil).b true = true) (h2 : k = 0 ∨ aheadB x.b (l.getD (k - 1) xnil).b true = false) : SortedP (l.take k ++ [x] ++ l.drop k) := by
  have hp : (l.take k ++ l.drop k).Pairwise fun x y => leB x.b y.b := by rw [List.take_append_drop]; exact h
  rw [List.pairwise_append] at hp
  obtain ⟨p1, p2, p3⟩ := hp
  have hx : ∀ y ∈ l.drop k, leB x.b y.b := by
    intro y hy
    obtain ⟨i, hi, rfl⟩ := List.mem_iff_getElem.1 hy
    rw [List.length_drop] at hi
    have := h1 (k + i) (by omega) (by omega)
    rw [List.getD_eq_getElem?_getD, List.getElem?_eq_getElem (by omega)] at this
    rw [List.getElem_drop]
    rw [ahead_true] at this
    unfold leB
    show entC x.b _ ≤ 0
    simp only [Option.getD_some] at this
    omega
  have ha : ∀ y ∈ l.take k, leB y.b x.b := by
    intro y hy
    rcases h2 with h2 | h2
    · subst h2; simp at hy
    · obtain ⟨i, hi, rfl⟩ := List.mem_iff_getElem.1 hy
      rw [List.length_take] at hi
      rw [List.getElem_take]
      have hlast : leB (l.getD (k - 1) xnil).b x.b := by
        rw [leB_flip]
        intro h4
        rw [ahead_true.2 h4] at h2
        cases h2
      rw [List.getD_eq_getElem?_getD, List.getElem?_eq_getElem (by omega)] at hlast
      simp only [Option.getD_some] at hlast
      rcases (by omega : i = k - 1 ∨ i < k - 1) with e | e
      · subst e; exact hlast
      · exact leB_trans (List.pairwise_iff_getElem.1 h i (k - 1) (by omega) (by omega) e) hlast
  unfold SortedP
  rw [List.append_assoc, List.pairwise_append]
  refine ⟨p1, ?_, ?_⟩
  · rw [List.singleton_append, List.pairwise_cons]
    exact ⟨hx, p2⟩
  · intro y hy z hz
    rw [List.singleton_append, List.mem_cons] at hz
    rcases hz with rfl | hz
    · exact ha y hy
    · exact p3 y hy z hz
theorem rises (l : List EntX) (h : SortedP l) : sortedE true l = true := by
  have key : ∀ (l : List EntX) (x : EntX), SortedP (x :: l) → sortedGo true x l = true := by
    intro l
    induction l with
    | nil => intro x _; rfl
    | cons y l ih =>
      intro x h
      unfold SortedP at h
      rw [List.pairwise_cons] at h
      rw [sortedGo, if_neg, ih y h.2]
      rw [ahead_true]
      exact leB_flip.1 (h.1 y List.mem_cons_self)
  cases l with
  | nil => rfl
  | cons x l => exact key l x h
theorem falls (l : List EntX) (h : l.Pairwise fun x y => leB y.b x.b) : sortedE false l = true := by
  have key : ∀ (l : List EntX) (x : EntX), (x :: l).Pairwise (fun x y => leB y.b x.b) → sortedGo false x l = true := by
    intro l
    induction l with
    | nil => intro x _; rfl
    | cons y l ih =>
      intro x h
      rw [List.pairwise_cons] at h
      rw [sortedGo, if_neg, ih y h.2]
      rw [ahead_false]
      have := h.1 y List.mem_cons_self
      unfold leB at this
      omega
  cases l with
  | nil => rfl
  | cons x l => exact key l x h
theorem falls_back (l : List EntX) (h : SortedP l) : sortedE false l.reverse = true := falls _ (List.pairwise_reverse.2 h)
theorem level (l : List EntX) : ∀ (x : EntX), SortedP (x :: l) → (sortedGo false x l = true ↔ ∀ y ∈ l, y.b = x.b) := by
  induction l with
  | nil => intro x _; exact ⟨fun _ y hy => (by cases hy), fun _ => rfl⟩
  | cons z l ih =>
    intro x h
    unfold SortedP at h
    rw [List.pairwise_cons] at h
    have hxz := h.1 z List.mem_cons_self
    rw [sortedGo]
    by_cases hz : aheadB z.b x.b false = true
    · rw [if_pos hz]
      refine ⟨fun h2 => (by cases h2), fun h2 => ?_⟩
      have e := h2 z List.mem_cons_self
      rw [ahead_false, e, entC_ord.refl] at hz
      omega
    · rw [if_neg hz, ih z h.2]
      have e : z.b = x.b := by
        rw [ahead_false] at hz
        exact leB_both (by unfold leB; omega) hxz
      rw [e]
      refine ⟨fun h2 y hy => ?_, fun h2 y hy => h2 y (List.mem_cons_of_mem _ hy)⟩
      rcases List.mem_cons.1 hy with rfl | hy
      · exact e
      · exact h2 y hy
theorem level_ends (l : List EntX) (h : SortedP l) (h0 : 0 < l.length) : sortedE false l = sameE (l.getD 0 xnil).b (l.getD (l.length - 1) xnil).b := by
  cases l with
  | nil => cases h0
  | cons x l =>
    rw [Bool.eq_iff_iff]
    show sortedGo false x l = true ↔ _
    rw [level l x h, sameE_iff]
    have e0 : (x :: l).getD 0 xnil = x := rfl
    rw [e0]
    have hlt : (x :: l).length - 1 < (x :: l).length := by simp
    constructor
    · intro h2
      rw [List.getD_eq_getElem?_getD, List.getElem?_eq_getElem hlt]
      have hm := List.getElem_mem hlt
      rcases List.mem_cons.1 hm with e | hm
      · show x.b = ((x :: l)[(x :: l).length - 1]'hlt).b
        rw [e]
      · exact (h2 _ hm).symm
    · intro h2 y hy
      rw [List.getD_eq_getElem?_getD, List.getElem?_eq_getElem hlt] at h2
      have h2 : x.b = ((x :: l)[(x :: l).length - 1]'hlt).b := h2
      have h3 := h
      unfold SortedP at h
      rw [List.pairwise_cons] at h
      obtain ⟨i, hi, rfl⟩ := List.mem_iff_getElem.1 hy
      have h4 : leB l[i].b x.b := by
        rw [h2]
        rcases (by omega : i + 1 = l.length ∨ i + 1 < l.length) with e | e
        · have : (x :: l)[(x :: l).length - 1]'hlt = l[i] := by
            rw [List.getElem_cons]
            rw [dif_neg (by rw [List.length_cons]; omega)]
            congr 1
            rw [List.length_cons]
            omega
          rw [this]
          exact leB_refl _
        · have := List.pairwise_iff_getElem.1 h3 (i + 1) ((x :: l).length - 1) (by rw [List.length_cons]; omega) hlt (by rw [List.length_cons]; omega)
          rw [List.getElem_cons_succ] at this
          exact this
      exact leB_both h4 (h.1 _ (List.getElem_mem _))
end Go.Proofs.Ytilcanblgdmecaa
