/- Lists of entries as things of a heap: what they are ordered by. No walk. -/
import Derived.Test.YtilcanblgdmecaaEntRow
import Derived.Test.YtilcanblgdmecaaHeapMath
namespace Go.Proofs.Ytilcanblgdmecaa
open Go.RowKit
set_option linter.unusedVariables false
set_option linter.unusedSimpArgs false

/-- a slice of entries -/
structure LsX where
  A : Option Addr
  n : Nat
  c : Nat
  l : List EntX
instance : Inhabited LsX := ⟨⟨none, 0, 0, []⟩⟩
/-- what a merge's heap stands on: the world at its beginning, the direction and where it lies, all entries that there are -/
structure MP where
  W0 : World
  B : Nat
  asc : Bool
  ac : Nat
  U : List EntB
  hc : W0.cell? ⟨ac, 0, none⟩ = some (.bool asc)
def headE (x : LsX) : EntB := (x.l.getD 0 xnil).b
/-- how many entries come ahead of it -/
def rankM (asc : Bool) (U : List EntB) (a : EntB) : Nat := (U.filter fun u => aheadB u a asc).length
def keyM (P : MP) (x : LsX) : Int := (rankM P.asc P.U (headE x) : Int)
structure GoodL (P : MP) (x : LsX) : Prop where
  ents : Ents P.B P.W0 x.A x.n x.l
  some : 0 < x.n
  few : x.n ≤ 9223372036854775807
  cap : x.n ≤ x.c ∧ x.c ≤ maxLen
  mem : ∀ e ∈ x.l, e.b ∈ P.U
theorem ahead_iff (asc : Bool) (a b : EntB) : aheadB a b asc = true ↔ (if asc then entC a b < 0 else entC b a < 0) := by
  have := entC_ord.anti a b
  cases asc
  · rw [show aheadB a b false = decide (0 < entC a b) from rfl, decide_eq_true_iff, if_neg (by decide)]
    omega
  · rw [show aheadB a b true = decide (entC a b < 0) from rfl, decide_eq_true_iff, if_pos rfl]
theorem ahead_irr (asc : Bool) (a : EntB) : aheadB a a asc = false := by
  have h := ahead_iff asc a a
  rw [entC_ord.refl] at h
  cases hz : aheadB a a asc
  · rfl
  · rw [hz] at h
    have := h.1 rfl
    cases asc <;> simp at this
theorem ahead_trans {asc : Bool} {a b c : EntB} (h1 : aheadB a b asc = true) (h2 : aheadB b c asc = true) : aheadB a c asc = true := by
  rw [ahead_iff] at *
  cases asc
  · simp only [Bool.false_eq_true, if_false] at *
    exact entC_ord.less h2 (by omega)
  · simp only [if_true] at *
    exact entC_ord.less h1 (by omega)
theorem ahead_total {asc : Bool} {a b : EntB} (h1 : aheadB a b asc = false) (h2 : aheadB b a asc = false) : a = b := by
  have k1 := ahead_iff asc a b
  have k2 := ahead_iff asc b a
  have := entC_ord.anti a b
  rw [h1] at k1
  rw [h2] at k2
  refine entC_zero.1 ?_
  cases asc
  · simp only [Bool.false_eq_true, if_false, false_iff] at k1 k2
    omega
  · simp only [Bool.false_eq_true, if_true, false_iff] at k1 k2
    omega
theorem ahead_anti {asc : Bool} {a b : EntB} (h1 : aheadB a b asc = true) : aheadB b a asc = false := by
  cases h : aheadB b a asc
  · rfl
  · have := ahead_trans h1 h
    rw [ahead_irr] at this
    cases this
/-- what is not ahead of b is not ahead of what b is not behind of -/
theorem ahead_not {asc : Bool} {a b c : EntB} (h1 : aheadB a b asc = false) (h2 : aheadB b c asc = false) : aheadB a c asc = false := by
  cases h : aheadB a c asc
  · rfl
  · cases h3 : aheadB b a asc
    · have := ahead_total h1 h3
      rw [this] at h
      rw [h] at h2
      cases h2
    · have := ahead_trans h3 h
      rw [this] at h2
      cases h2
theorem filter_len_le {α : Type} (p q : α → Bool) (l : List α) (h : ∀ x ∈ l, p x = true → q x = true) : (l.filter p).length ≤ (l.filter q).length := by
  induction l with
  | nil => exact Nat.le_refl _
  | cons x l ih =>
    have h1 := ih (fun y hy => h y (List.mem_cons_of_mem _ hy))
    have h2 := h x List.mem_cons_self
    cases hp : p x <;> cases hq : q x
    · rw [List.filter_cons_of_neg (by simp [hp]), List.filter_cons_of_neg (by simp [hq])]; exact h1
    · rw [List.filter_cons_of_neg (by simp [hp]), List.filter_cons_of_pos hq, List.length_cons]; omega
    · rw [hq] at h2; exact absurd (h2 hp) (by decide)
    · rw [List.filter_cons_of_pos hp, List.filter_cons_of_pos hq, List.length_cons, List.length_cons]; omega
theorem filter_len_lt {α : Type} (p q : α → Bool) (l : List α) (h : ∀ x ∈ l, p x = true → q x = true) (y : α) (hy : y ∈ l) (hp : p y = false) (hq : q y = true) : (l.filter p).length < (l.filter q).length := by
  induction l with
  | nil => exact absurd hy List.not_mem_nil
  | cons x l ih =>
    have hl := fun z hz => h z (List.mem_cons_of_mem x hz)
    have h2 := h x List.mem_cons_self
    rcases List.mem_cons.1 hy with rfl | hy
    · rw [List.filter_cons_of_neg (by simp [hp]), List.filter_cons_of_pos hq, List.length_cons]
      have := filter_len_le p q l hl
      omega
    · have h1 := ih hl hy
      cases hp : p x <;> cases hq : q x
      · rw [List.filter_cons_of_neg (by simp [hp]), List.filter_cons_of_neg (by simp [hq])]; exact h1
      · rw [List.filter_cons_of_neg (by simp [hp]), List.filter_cons_of_pos hq, List.length_cons]; omega
      · rw [hq] at h2; exact absurd (h2 hp) (by decide)
      · rw [List.filter_cons_of_pos hp, List.filter_cons_of_pos hq, List.length_cons, List.length_cons]; omega
theorem rank_lt {asc : Bool} {U : List EntB} {a b : EntB} (ha : a ∈ U) : aheadB a b asc = decide (rankM asc U a < rankM asc U b) := by
  unfold rankM
  cases h : aheadB a b asc
  · symm
    rw [decide_eq_false_iff_not, Nat.not_lt]
    refine filter_len_le _ _ U (fun u _ hu => ?_)
    cases h2 : aheadB u a asc
    · rw [ahead_not h2 h] at hu
      cases hu
    · rfl
  · symm
    rw [decide_eq_true_iff]
    exact filter_len_lt _ _ U (fun u _ hu => ahead_trans hu h) a ha (ahead_irr asc a) h
theorem GoodL.head {P : MP} {x : LsX} (h : GoodL P x) : headE x ∈ P.U := by
  have hl := h.ents.1.1
  have h0 := h.some
  refine h.mem _ ?_
  rw [List.getD_eq_getElem?_getD, List.getElem?_eq_getElem (by omega)]
  exact List.getElem_mem _
theorem key_lt {P : MP} {x y : LsX} (h : GoodL P x) : aheadB (headE x) (headE y) P.asc = decide (keyM P x < keyM P y) := by
  rw [rank_lt h.head, decide_eq_decide]
  unfold keyM
  omega
end Go.Proofs.Ytilcanblgdmecaa
