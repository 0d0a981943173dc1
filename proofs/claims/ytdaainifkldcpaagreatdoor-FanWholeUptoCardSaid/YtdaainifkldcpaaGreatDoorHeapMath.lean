-- shaken
import Derived.Test.YtdaainifkldcpaaGreatDoorBase
namespace Go.Proofs.YtdaainifkldcpaaGreatDoor
set_option linter.unusedVariables false
set_option linter.unusedSimpArgs false
structure KeyP (α : Type) where
  it : α
  at_ : Nat
def ahdP {α : Type} (K : α → Int) (x y : KeyP α) : Bool := decide (K x.it < K y.it) || (decide (x.at_ < y.at_) && !decide (K y.it < K x.it))
theorem ahd_iff {α : Type} (K : α → Int) (x y : KeyP α) : ahdP K x y = true ↔ (K x.it < K y.it ∨ (K x.it = K y.it ∧ x.at_ < y.at_)) := by
  unfold ahdP
  simp only [Bool.or_eq_true, Bool.and_eq_true, decide_eq_true_iff, Bool.not_eq_true', decide_eq_false_iff_not]
  omega
theorem ahd_not {α : Type} (K : α → Int) (x y : KeyP α) : ahdP K x y = false ↔ ¬ (K x.it < K y.it ∨ (K x.it = K y.it ∧ x.at_ < y.at_)) := by
  rw [← ahd_iff]
  simp
def parN (j : Nat) : Nat := (j - 1) / 2
section
variable {α : Type} [Inhabited α]
instance : Inhabited (KeyP α) := ⟨⟨default, 0⟩⟩
def getP (L : List (KeyP α)) (i : Nat) : KeyP α := L.getD i default
theorem getP_at {L : List (KeyP α)} {i : Nat} (h : i < L.length) : getP L i = L[i] := by
  unfold getP
  rw [List.getD_eq_getElem?_getD, List.getElem?_eq_getElem h]
  rfl
theorem getP_eq {L : List (KeyP α)} {i : Nat} (h : i < L.length) : L[i]? = some (getP L i) := by
  rw [getP_at h, List.getElem?_eq_getElem h]
def swapP (L : List (KeyP α)) (i k : Nat) : List (KeyP α) := (L.set i (getP L k)).set k (getP L i)
theorem swapP_len (L : List (KeyP α)) (i k : Nat) : (swapP L i k).length = L.length := by unfold swapP; rw [List.length_set, List.length_set]
theorem getP_set {L : List (KeyP α)} {i j : Nat} (x : KeyP α) (hi : i < L.length) : getP (L.set i x) j = if j = i then x else getP L j := by
  unfold getP
  rw [List.getD_eq_getElem?_getD, List.getD_eq_getElem?_getD]
  by_cases h : j = i
  · subst h
    rw [List.getElem?_set_self hi, if_pos rfl]
    rfl
  · rw [List.getElem?_set_ne (Ne.symm h), if_neg h]
theorem getP_swap {L : List (KeyP α)} {i k : Nat} (hi : i < L.length) (hk : k < L.length) (j : Nat) : getP (swapP L i k) j = if j = k then getP L i else if j = i then getP L k else getP L j := by
  unfold swapP
  rw [getP_set _ (by rw [List.length_set]; exact hk), getP_set _ hi]
theorem swapP_perm {L : List (KeyP α)} {i k : Nat} (hi : i < L.length) (hk : k < L.length) : (swapP L i k).Perm L := by
  unfold swapP
  rw [getP_at hi, getP_at hk]
  exact List.set_set_perm hi hk
theorem getP_take {L : List (KeyP α)} {n j : Nat} (h : j < n) : getP (L.take n) j = getP L j := by
  unfold getP
  rw [List.getD_eq_getElem?_getD, List.getD_eq_getElem?_getD, List.getElem?_take_of_lt h]
theorem getP_snoc (L : List (KeyP α)) (x : KeyP α) (j : Nat) : getP (L ++ [x]) j = if j < L.length then getP L j else if j = L.length then x else default := by
  unfold getP
  rw [List.getD_eq_getElem?_getD, List.getD_eq_getElem?_getD]
  by_cases h : j < L.length
  · rw [if_pos h, List.getElem?_append_left h]
  · rw [if_neg h, List.getElem?_append_right (by omega)]
    by_cases h2 : j = L.length
    · subst h2
      rw [if_pos rfl, Nat.sub_self]
      rfl
    · rw [if_neg h2, List.getElem?_eq_none (by rw [List.length_singleton]; omega)]
      rfl
variable (K : α → Int)
def IsHeapP (L : List (KeyP α)) : Prop := ∀ j, 0 < j → j < L.length → ahdP K (getP L j) (getP L (parN j)) = false
structure UpH (L : List (KeyP α)) (i : Nat) : Prop where
  lt : i < L.length
  all : ∀ j, 0 < j → j < L.length → j ≠ i → ahdP K (getP L j) (getP L (parN j)) = false
  kids : ∀ j, 0 < j → j < L.length → parN j = i → 0 < i → ahdP K (getP L j) (getP L (parN i)) = false
structure DownP (L : List (KeyP α)) (i : Nat) : Prop where
  all : ∀ j, 0 < j → j < L.length → parN j ≠ i → ahdP K (getP L j) (getP L (parN j)) = false
  kids : ∀ j, 0 < j → j < L.length → parN j = i → 0 < i → ahdP K (getP L j) (getP L (parN i)) = false
theorem up_new {L : List (KeyP α)} (h : IsHeapP K L) (x : KeyP α) : UpH K (L ++ [x]) L.length := by
  refine ⟨by simp, fun j h0 hj hne => ?_, fun j h0 hj hp hi => ?_⟩
  · rw [List.length_append, List.length_singleton] at hj
    have h2 := h j h0 (by omega)
    rw [getP_snoc, getP_snoc, if_pos (by omega), if_pos (by unfold parN; omega)]
    exact h2
  · rw [List.length_append, List.length_singleton] at hj
    unfold parN at hp
    omega
theorem up_end {L : List (KeyP α)} {i : Nat} (h : UpH K L i) (he : i = 0 ∨ ahdP K (getP L i) (getP L (parN i)) = false) : IsHeapP K L := by
  intro j h0 hj
  by_cases hji : j = i
  · subst hji
    rcases he with rfl | he
    · omega
    · exact he
  · exact h.all j h0 hj hji
theorem up_step {L : List (KeyP α)} {i : Nat} (h : UpH K L i) (h0i : 0 < i) (ha : ahdP K (getP L i) (getP L (parN i)) = true) : UpH K (swapP L i (parN i)) (parN i) := by
  have hlt := h.lt
  have hpi : parN i < i := by unfold parN; omega
  have hpl : parN i < L.length := by omega
  rw [ahd_iff] at ha
  refine ⟨by rw [swapP_len]; exact hpl, fun j h0 hj hne => ?_, fun j h0 hj hp hi => ?_⟩
  · rw [swapP_len] at hj
    rw [getP_swap hlt hpl, getP_swap hlt hpl, if_neg hne]
    have hpj : parN j < j := by unfold parN; omega
    by_cases hji : j = i
    · subst hji
      rw [if_pos rfl, if_pos rfl, ahd_not]
      omega
    · rw [if_neg hji]
      have a1 := h.all j h0 hj hji
      by_cases e1 : parN j = parN i
      · rw [if_pos e1]
        rw [e1] at a1
        rw [ahd_not] at a1 ⊢
        omega
      · rw [if_neg e1]
        by_cases e2 : parN j = i
        · rw [if_pos e2]
          exact h.kids j h0 hj e2 h0i
        · rw [if_neg e2]
          exact a1
  · rw [swapP_len] at hj
    have hpp : parN (parN i) < parN i := by unfold parN at *; omega
    have a1 := h.all (parN i) hi hpl (by omega)
    rw [getP_swap hlt hpl, getP_swap hlt hpl, if_neg (show ¬ parN (parN i) = parN i by omega), if_neg (show ¬ parN (parN i) = i by omega)]
    by_cases hji : j = i
    · subst hji
      rw [if_neg (by omega), if_pos rfl]
      exact a1
    · have hjp : j ≠ parN i := by intro e; rw [e] at hp; omega
      rw [if_neg hjp, if_neg hji]
      have a2 := h.all j h0 hj hji
      rw [hp] at a2
      rw [ahd_not] at a1 a2 ⊢
      omega
theorem down_end {L : List (KeyP α)} {i : Nat} (h : DownP K L i) (he : ∀ j, 0 < j → j < L.length → parN j = i → ahdP K (getP L j) (getP L i) = false) : IsHeapP K L := by
  intro j h0 hj
  by_cases hji : parN j = i
  · have := he j h0 hj hji
    rwa [← hji] at this
  · exact h.all j h0 hj hji
theorem down_step {L : List (KeyP α)} {i f : Nat} (h : DownP K L i) (h0f : 0 < f) (hf : f < L.length) (hp : parN f = i) (ha : ahdP K (getP L f) (getP L i) = true) (hm : ∀ j, 0 < j → j < L.length → parN j = i → ahdP K (getP L j) (getP L f) = false) : DownP K (swapP L i f) f := by
  have hif : i < f := by unfold parN at hp; omega
  have hil : i < L.length := by omega
  rw [ahd_iff] at ha
  refine ⟨fun j h0 hj hne => ?_, fun j h0 hj hpj hf0 => ?_⟩
  · rw [swapP_len] at hj
    rw [getP_swap hil hf, getP_swap hil hf, if_neg hne]
    have hpj : parN j < j := by unfold parN; omega
    by_cases hji : parN j = i
    · rw [if_pos hji]
      by_cases hjf : j = f
      · subst hjf
        rw [if_pos rfl, ahd_not]
        omega
      · rw [if_neg hjf, if_neg (by omega)]
        exact hm j h0 hj hji
    · rw [if_neg hji]
      have a1 := h.all j h0 hj hji
      by_cases hjf : j = f
      · subst hjf
        exact absurd hp hji
      · rw [if_neg hjf]
        by_cases hj2 : j = i
        · subst hj2
          rw [if_pos rfl]
          have a2 := h.kids f h0f hf hp h0
          exact a2
        · rw [if_neg hj2]
          exact a1
  · rw [swapP_len] at hj
    have hfj : f < j := by unfold parN at hpj; omega
    rw [hp, getP_swap hil hf, getP_swap hil hf, if_neg (by omega), if_neg (by omega), if_neg (by omega), if_pos rfl]
    have a1 := h.all j h0 hj (by omega)
    rw [hpj] at a1
    exact a1
theorem down_pop {L : List (KeyP α)} (h : IsHeapP K L) (h0 : 0 < L.length) : DownP K ((swapP L 0 (L.length - 1)).take (L.length - 1)) 0 := by
  refine ⟨fun j h1 hj hne => ?_, fun j h1 hj hp hi => by omega⟩
  rw [List.length_take, swapP_len] at hj
  have hpj : parN j < j := by unfold parN; omega
  rw [getP_take (by omega), getP_take (by omega), getP_swap h0 (by omega), getP_swap h0 (by omega), if_neg (by omega), if_neg (by omega), if_neg (by omega), if_neg hne]
  exact h j h1 (by omega)
theorem heap_first {L : List (KeyP α)} (h : IsHeapP K L) : ∀ n j, j ≤ n → j < L.length → ahdP K (getP L j) (getP L 0) = false := by
  intro n
  induction n with
  | zero =>
    intro j hj hl
    obtain rfl : j = 0 := by omega
    rw [ahd_not]
    omega
  | succ n ih =>
    intro j hj hl
    rcases Nat.eq_zero_or_pos j with h0 | h0
    · exact ih j (by omega) hl
    · have hpj : parN j < j := by unfold parN; omega
      have a1 := h j h0 hl
      have a2 := ih (parN j) (by omega) (by omega)
      rw [ahd_not] at a1 a2 ⊢
      omega
theorem heap_min {L : List (KeyP α)} (h : IsHeapP K L) (x : KeyP α) (hx : x ∈ L) : ahdP K x (getP L 0) = false := by
  obtain ⟨j, hj, rfl⟩ := List.mem_iff_getElem.1 hx
  rw [← getP_at hj]
  exact heap_first K h j j (Nat.le_refl _) hj
theorem pop_perm {L : List (KeyP α)} (h0 : 0 < L.length) : (getP L 0 :: (swapP L 0 (L.length - 1)).take (L.length - 1)).Perm L := by
  have h1 := swapP_perm (L := L) (i := 0) (k := L.length - 1) h0 (by omega)
  have h2 : (swapP L 0 (L.length - 1)).take (L.length - 1) ++ [getP L 0] = swapP L 0 (L.length - 1) := by
    have h3 := List.take_append_getElem (l := swapP L 0 (L.length - 1)) (i := L.length - 1) (by rw [swapP_len]; omega)
    have h4 : (swapP L 0 (L.length - 1))[L.length - 1]'(by rw [swapP_len]; omega) = getP L 0 := by
      rw [← getP_at, getP_swap h0 (by omega), if_pos rfl]
    rw [h4] at h3
    rw [h3, List.take_of_length_le (by rw [swapP_len]; omega)]
  refine List.Perm.trans ?_ h1
  have h5 := (List.perm_append_singleton (getP L 0) ((swapP L 0 (L.length - 1)).take (L.length - 1))).symm
  rwa [h2] at h5
end
end Go.Proofs.YtdaainifkldcpaaGreatDoor
