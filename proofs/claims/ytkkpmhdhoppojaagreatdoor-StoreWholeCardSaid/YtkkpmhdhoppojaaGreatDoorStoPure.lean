-- shaken
import Derived.Test.YtkkpmhdhoppojaaGreatDoorEntSortMath
namespace Go.Proofs.YtkkpmhdhoppojaaGreatDoor
open Go.RowKit
set_option linter.unusedVariables false
set_option linter.unusedSimpArgs false
structure AskB where
  lo : Int
  hi : Int
  asc : Bool
  lim : Int
  has : Bool
  af : EntB
structure RepB where
  fail : Bool
  most : Int
def RepB.V (r : RepB) : List Value := [.bool r.fail, .int .i64 r.most]
def askR (a : AskB) : Bool := decide (a.lo < a.hi) && decide (1 ≤ a.lim)
def meetsB (a : AskB) (e : EntB) : Bool := decide (a.lo ≤ e.ts) && (decide (e.ts < a.hi) && (!a.has || aheadB a.af e a.asc))
def dirL {α : Type} (asc : Bool) (l : List α) : List α := if asc then l else l.reverse
theorem dirL_len {α : Type} (asc : Bool) (l : List α) : (dirL asc l).length = l.length := by unfold dirL; split <;> simp
theorem dirL_mem {α : Type} {asc : Bool} {l : List α} {x : α} : x ∈ dirL asc l ↔ x ∈ l := by unfold dirL; split <;> simp
theorem dirL_at {α : Type} (asc : Bool) (l : List α) (j : Nat) (hj : j < l.length) : (dirL asc l)[j]? = l[if asc then j else l.length - 1 - j]? := by
  unfold dirL
  split
  · rfl
  · rw [List.getElem?_reverse hj]
def replyAt (S : List RepB) (k : Nat) : RepB := S.getD k ⟨false, 0⟩
def mostOf (lim : Int) (r : RepB) : Int := if 1 ≤ r.most then min lim r.most else lim
def metL (T : List PairB → Bool) (a : AskB) (L : List EntB) : List EntB := (dirL a.asc L).filter fun e => meetsB a e && T e.ls
def tellL (T : List PairB → Bool) (a : AskB) (m : Int) (L : List EntB) : List EntB := (metL T a L).take m.toNat
def moreL (T : List PairB → Bool) (a : AskB) (m : Int) (L : List EntB) : Bool := decide (m.toNat < (metL T a L).length)
def newE (es : List EntB) : List EntB := es.filter rightE
theorem newE_next (es : List EntB) (j : Nat) (e : EntB) (h : es[j]? = some e) : newE (es.take (j + 1)) = newE (es.take j) ++ (if rightE e then [e] else []) := by
  unfold newE
  rw [List.take_add_one, h, List.filter_append]
  congr 1
  cases hr : rightE e <;> simp [List.filter, hr]
theorem newE_len (es : List EntB) (j : Nat) : (newE (es.take j)).length ≤ j := by
  unfold newE
  have h1 := List.length_filter_le rightE (es.take j)
  rw [List.length_take] at h1
  omega
theorem mostOf_pos {lim : Int} {r : RepB} (h : 1 ≤ lim) : 1 ≤ mostOf lim r := by unfold mostOf; split <;> omega
theorem mostOf_hi {lim : Int} {r : RepB} : mostOf lim r ≤ lim := by unfold mostOf; split <;> omega
theorem met_next (p : EntB → Bool) (D : List EntB) (j : Nat) (e : EntB) (h : D[j]? = some e) : (D.take (j + 1)).filter p = (D.take j).filter p ++ (if p e then [e] else []) := by
  rw [List.take_add_one, h, List.filter_append]
  congr 1
  cases hr : p e <;> simp [List.filter, hr]
theorem met_split (p : EntB → Bool) (D : List EntB) (j : Nat) (e : EntB) (h : D[j]? = some e) : D.filter p = (D.take j).filter p ++ ((if p e then [e] else []) ++ (D.drop (j + 1)).filter p) := by
  have hj : j < D.length := by
    rcases Nat.lt_or_ge j D.length with h1 | h1
    · exact h1
    · rw [List.getElem?_eq_none h1] at h; cases h
  have e1 : D = D.take j ++ (e :: D.drop (j + 1)) := by
    have h2 : D.drop j = e :: D.drop (j + 1) := by
      rw [List.drop_eq_getElem_cons hj]
      congr 1
      exact Option.some.inj ((List.getElem?_eq_getElem hj).symm.trans h)
    rw [← h2, List.take_append_drop]
  have h3 : D.filter p = (D.take j ++ (e :: D.drop (j + 1))).filter p := by rw [← e1]
  rw [h3, List.filter_append]
  congr 1
  cases hr : p e <;> simp [List.filter, hr]
theorem met_full (p : EntB → Bool) (D : List EntB) (j m : Nat) (e : EntB) (h : D[j]? = some e) (hp : p e = true) (hm : ((D.take j).filter p).length = m) : (D.filter p).take m = (D.take j).filter p ∧ m < (D.filter p).length := by
  rw [met_split p D j e h, hp, if_pos rfl]
  refine ⟨?_, ?_⟩
  · rw [List.take_append_of_le_length (by omega), List.take_of_length_le (by omega)]
  · simp only [List.length_append, List.length_cons, List.length_nil]
    omega
theorem met_end (p : EntB → Bool) (D : List EntB) (m : Nat) (hm : ((D.take D.length).filter p).length ≤ m) : (D.filter p).take m = (D.take D.length).filter p ∧ ¬ m < (D.filter p).length := by
  rw [List.take_length] at hm ⊢
  exact ⟨List.take_of_length_le hm, by omega⟩
end Go.Proofs.YtkkpmhdhoppojaaGreatDoor
