-- shaken
import Derived.Test.YtkkpmhdhoppojaaGreatDoorBase
namespace Go.Proofs.YtkkpmhdhoppojaaGreatDoor
set_option linter.unusedVariables false
set_option linter.unusedSimpArgs false
structure KeyP (α : Type) where
  it : α
  at_ : Nat
section
variable {α : Type} [Inhabited α]
instance : Inhabited (KeyP α) := ⟨⟨default, 0⟩⟩
def getP (L : List (KeyP α)) (i : Nat) : KeyP α := L.getD i default
theorem getP_at {L : List (KeyP α)} {i : Nat} (h : i < L.length) : getP L i = L[i] := by
  unfold getP
  rw [List.getD_eq_getElem?_getD, List.getElem?_eq_getElem h]
  rfl
theorem getP_eq {L : List (KeyP α)} {i : Nat} (h : i < L.length) : L[i]? = some (getP L i) := by
  rw [getP_at h, List.getElem?_eq_getElem h]
def swapP (L : List (KeyP α)) (i k : Nat) : List (KeyP α) := (L.set i (getP L k)).set k (getP L i)
theorem swapP_len (L : List (KeyP α)) (i k : Nat) : (swapP L i k).length = L.length := by unfold swapP; rw [List.length_set, List.length_set]
theorem getP_set {L : List (KeyP α)} {i j : Nat} (x : KeyP α) (hi : i < L.length) : getP (L.set i x) j = if j = i then x else getP L j := by
  unfold getP
  rw [List.getD_eq_getElem?_getD, List.getD_eq_getElem?_getD]
  by_cases h : j = i
  · subst h
    rw [List.getElem?_set_self hi, if_pos rfl]
    rfl
  · rw [List.getElem?_set_ne (Ne.symm h), if_neg h]
theorem getP_swap {L : List (KeyP α)} {i k : Nat} (hi : i < L.length) (hk : k < L.length) (j : Nat) : getP (swapP L i k) j = if j = k then getP L i else if j = i then getP L k else getP L j := by
  unfold swapP
  rw [getP_set _ (by rw [List.length_set]; exact hk), getP_set _ hi]
theorem swapP_perm {L : List (KeyP α)} {i k : Nat} (hi : i < L.length) (hk : k < L.length) : (swapP L i k).Perm L := by
  unfold swapP
  rw [getP_at hi, getP_at hk]
  exact List.set_set_perm hi hk
variable (K : α → Int)
end
end Go.Proofs.YtkkpmhdhoppojaaGreatDoor
