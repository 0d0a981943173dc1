-- shaken
import Derived.Test.YtkkpmhdhoppojaaGreatDoorEntRow
namespace Go.Proofs.YtkkpmhdhoppojaaGreatDoor
open Go.RowKit
set_option linter.unusedVariables false
set_option linter.unusedSimpArgs false
def leB (a b : EntB) : Prop := entC a b ≤ 0
theorem leB_flip {a b : EntB} : leB a b ↔ ¬ entC b a < 0 := by
  have := entC_ord.anti a b
  unfold leB
  omega
theorem leB_both {a b : EntB} (h1 : leB a b) (h2 : leB b a) : a = b := by
  have := entC_ord.anti a b
  unfold leB at h1 h2
  exact entC_zero.1 (by omega)
def SortedP (l : List EntX) : Prop := l.Pairwise fun x y => leB x.b y.b
theorem ahead_true {a b : EntB} : aheadB a b true = true ↔ entC a b < 0 := by unfold aheadB; rw [if_pos rfl, decide_eq_true_iff]
theorem ahead_false {a b : EntB} : aheadB a b false = true ↔ 0 < entC a b := by unfold aheadB; rw [if_neg (by decide), decide_eq_true_iff]
theorem rises (l : List EntX) (h : SortedP l) : sortedE true l = true := by
  have key : ∀ (l : List EntX) (x : EntX), SortedP (x :: l) → sortedGo true x l = true := by
    intro l
    induction l with
    | nil => intro x _; rfl
    | cons y l ih =>
      intro x h
      unfold SortedP at h
      rw [List.pairwise_cons] at h
      rw [sortedGo, if_neg, ih y h.2]
      rw [ahead_true]
      exact leB_flip.1 (h.1 y List.mem_cons_self)
  cases l with
  | nil => rfl
  | cons x l => exact key l x h
theorem falls (l : List EntX) (h : l.Pairwise fun x y => leB y.b x.b) : sortedE false l = true := by
  have key : ∀ (l : List EntX) (x : EntX), (x :: l).Pairwise (fun x y => leB y.b x.b) → sortedGo false x l = true := by
    intro l
    induction l with
    | nil => intro x _; rfl
    | cons y l ih =>
      intro x h
      rw [List.pairwise_cons] at h
      rw [sortedGo, if_neg, ih y h.2]
      rw [ahead_false]
      have := h.1 y List.mem_cons_self
      unfold leB at this
      omega
  cases l with
  | nil => rfl
  | cons x l => exact key l x h
end Go.Proofs.YtkkpmhdhoppojaaGreatDoor
