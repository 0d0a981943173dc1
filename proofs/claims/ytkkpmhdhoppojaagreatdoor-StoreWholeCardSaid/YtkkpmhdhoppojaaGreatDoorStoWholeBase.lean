-- shaken
import Derived.Test.YtkkpmhdhoppojaaGreatDoorStoExam
import Derived.Test.YtkkpmhdhoppojaaGreatDoorStoSplitMath
import Derived.Test.YtkkpmhdhoppojaaGreatDoorRowApp
import Derived.Test.YtkkpmhdhoppojaaGreatDoorItems
import Derived.Test.YtkkpmhdhoppojaaGreatDoorEntBackMath
import Derived.Test.YtkkpmhdhoppojaaGreatDoorStoWholeMath
import Derived.Test.YtkkpmhdhoppojaaGreatDoorStoReplies
namespace Go.Proofs.YtkkpmhdhoppojaaGreatDoor
open Go.RowKit
set_option linter.unusedVariables false
set_option linter.unusedSimpArgs false
theorem entV_ones (l : List EntX) : ∀ u ∈ rowV EntX.V l, u.oneCell' = true := by
  intro u hu
  obtain ⟨x, _, hx⟩ := List.mem_flatMap.1 hu
  exact entV_one x u hx
def clearL (R : List RepB) (k : Nat) : List RepB := (R.take k).map (fun r => (⟨false, r.most⟩ : RepB)) ++ R.drop k
theorem clearL_len (R : List RepB) (k : Nat) (h : k ≤ R.length) : (clearL R k).length = R.length := by
  unfold clearL
  rw [List.length_append, List.length_map, List.length_take, List.length_drop]
  omega
theorem clearL_at (R : List RepB) (k : Nat) (r : RepB) (h : R[k]? = some r) : (clearL R k)[k]? = some r := by
  have hk : k < R.length := by
    rcases Nat.lt_or_ge k R.length with h1 | h1
    · exact h1
    · rw [List.getElem?_eq_none h1] at h; cases h
  unfold clearL
  rw [List.getElem?_append_right (by rw [List.length_map, List.length_take]; omega), List.length_map, List.length_take, List.getElem?_drop]
  rw [show min k R.length = k by omega, Nat.sub_self, Nat.add_zero]
  exact h
theorem clearL_next (R : List RepB) (k : Nat) (r : RepB) (h : R[k]? = some r) : (clearL R k).set k ⟨false, r.most⟩ = clearL R (k + 1) := by
  have hk : k < R.length := by
    rcases Nat.lt_or_ge k R.length with h1 | h1
    · exact h1
    · rw [List.getElem?_eq_none h1] at h; cases h
  unfold clearL
  have e1 : R.drop k = r :: R.drop (k + 1) := by
    rw [List.drop_eq_getElem_cons hk]
    congr 1
    exact Option.some.inj ((List.getElem?_eq_getElem hk).symm.trans h)
  rw [List.set_append_right _ _ (by rw [List.length_map, List.length_take]; omega), List.length_map, List.length_take, show min k R.length = k by omega, Nat.sub_self, e1, List.take_add_one, h, List.map_append, List.append_assoc]
  rfl
theorem clearL_all (R : List RepB) : clearL R R.length = R.map (fun r => (⟨false, r.most⟩ : RepB)) := by
  unfold clearL
  rw [List.take_length, List.drop_length, List.append_nil]
theorem clear_reply (R : List RepB) (k : Nat) (h : ∀ r ∈ R, r.most ≤ 9223372036854775807) : (replyAt (R.map (fun r => (⟨false, r.most⟩ : RepB))) k).fail = false ∧ (replyAt (R.map (fun r => (⟨false, r.most⟩ : RepB))) k).most ≤ 9223372036854775807 := by
  unfold replyAt
  rw [List.getD_eq_getElem?_getD, List.getElem?_map]
  rcases hr : R[k]? with _ | r
  · exact ⟨rfl, by show (0 : Int) ≤ _; decide⟩
  · exact ⟨rfl, h r (List.mem_of_getElem? hr)⟩
theorem own_right {B : Nat} {w : World} {x : ItemX} (h : GoodI B w x) : rightE (itemB (ownI x)) = true := by
  show (rightB (fewL x.lt) && decide ((lineTs.getD (x.k % 8) .empty).size ≤ 256)) = true
  rw [few_right, decide_eq_true (Nat.le_trans (line_size x.k) (by decide))]
  rfl
def anyB (T : List EntX) (e : EntB) (k : Nat) : Bool := (T.take k).any fun x => sameE e x.b
theorem anyB_next (T : List EntX) (e : EntB) (k : Nat) (x : EntX) (h : T[k]? = some x) : anyB T e (k + 1) = (anyB T e k || sameE e x.b) := by
  unfold anyB
  rw [List.take_add_one, h, List.any_append]
  simp
theorem anyB_all (T : List EntX) (e : EntB) : anyB T e T.length = true ↔ e ∈ T.map EntX.b := by
  unfold anyB
  rw [List.take_length, List.any_eq_true, List.mem_map]
  constructor
  · rintro ⟨x, hx, hs⟩
    exact ⟨x, hx, (sameE_iff.1 hs).symm⟩
  · rintro ⟨x, hx, hs⟩
    exact ⟨x, hx, sameE_iff.2 hs.symm⟩
def DoneW (F : List EntB) (asc : Bool) (told : List EntB) : Prop := told.Pairwise (leD asc) ∧ ∀ e, e ∈ told ↔ e ∈ F
structure StepW (F : List EntB) (M : List EntB) (z hi : Int) (asc : Bool) (lim : Int) (has : Bool) (af : EntB) (told : List EntB) (k : Nat) (rem : List EntB) : Prop where
  whole : Whole F asc told rem
  met : rem = metL (fun _ => true) ⟨z, hi, asc, lim, has, af⟩ M
  num : k + rem.length ≤ 12
structure EndW (F M : List EntB) (z hi : Int) (asc : Bool) (lim : Int) (more has : Bool) (af : EntB) (told : List EntB) (k : Nat) (rem : List EntB) (gk : Nat) : Prop where
  yes : more = true → StepW F M z hi asc lim has af told k rem ∧ gk = rem.length + 1
  no : more = false → DoneW F asc told ∧ gk = 0
theorem StepW.next {F M told rem p : List EntB} {z hi lim : Int} {asc has : Bool} {af l : EntB} {k : Nat} (h : StepW F M z hi asc lim has af told k rem) (hF : F = (dirL asc M).filter (inT z hi)) (hFs : F.Pairwise (leD asc)) (m : Nat) (hp : rem.take m = p ++ [l]) : StepW F M z hi asc lim true l (told ++ (p ++ [l])) (k + 1) (F.filter fun e => aheadB l e asc) := by
  have e1 : rem = p ++ [l] ++ rem.drop m := by rw [← hp, List.take_append_drop]
  obtain ⟨h1, h2⟩ := h.whole.next e1 hFs
  exact ⟨h1, by rw [met_more, ← hF], by have := h.num; omega⟩
end Go.Proofs.YtkkpmhdhoppojaaGreatDoor
