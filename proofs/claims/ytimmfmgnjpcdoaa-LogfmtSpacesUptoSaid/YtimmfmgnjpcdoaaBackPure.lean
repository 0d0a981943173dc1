/- What is got of what was put (the pure part of Back, for other seats). No program. -/
import Derived.Test.YtimmfmgnjpcdoaaGet
import Derived.Test.YtimmfmgnjpcdoaaPut
namespace Go.Proofs.Ytimmfmgnjpcdoaa
open Go.RowKit
set_option linter.unusedVariables false
set_option linter.unusedSimpArgs false

def hex2 (a b : UInt8) : UInt8 × Bool := if hexI a < 0 ∨ hexI b < 0 then (0, false) else (UInt8.ofNat (hexI a * 16 + hexI b).toNat, rareB (UInt8.ofNat (hexI a * 16 + hexI b).toNat))
theorem hexB_two (a b : UInt8) (r : List UInt8) : hexB (a :: b :: r) = hex2 a b := rfl
theorem hex_back : ∀ b : UInt8, hex2 (digB (b.toNat / 16)) (digB (b.toNat % 16)) = (b, rareB b) := by
  have h : ∀ b : Fin 256, hex2 (digB (b.1 / 16)) (digB (b.1 % 16)) = (UInt8.ofNat b.1, rareB (UInt8.ofNat b.1)) := by decide +kernel
  intro b
  have := h ⟨b.toNat, b.toNat_lt⟩
  simpa using this
theorem rare_plain : ∀ b : UInt8, rareB b = false → b ≠ 34 → b ≠ 92 → b ≠ 10 → b ≠ 9 → (!rareB b && (b != 10 && b != 9)) = true := by
  intro b h _ _ h1 h2
  rw [h]
  simp [h1, h2]
/-- the form of a byte is read, whatever stands behind it -/
theorem first_form (b : UInt8) (r : List UInt8) : firstB (formB b ++ r) = (b, (formB b).length, true) := by
  unfold formB
  by_cases h1 : b = 34 ∨ b = 92
  · rw [if_pos h1]
    simp [firstB, h1]
  · rw [if_neg h1]
    by_cases h2 : b = 10
    · subst h2; simp [firstB]
    · rw [if_neg h2]
      by_cases h3 : b = 9
      · subst h3; simp [firstB]
      · rw [if_neg h3]
        by_cases h4 : rareB b = true
        · rw [if_pos h4]
          have := hex_back b
          simp [firstB, hexB_two, this, h4]
        · rw [if_neg h4]
          have h1a : b ≠ 34 := fun h => h1 (.inl h)
          have h1b : b ≠ 92 := fun h => h1 (.inr h)
          have h4' : rareB b = false := by simpa using h4
          simp [firstB, h1b, h4', h2, h3]
theorem form_head : ∀ b : UInt8, (formB b).head? ≠ some 34 := by
  have h : ∀ b : Fin 256, decide ((formB (UInt8.ofNat b.1)).head? ≠ some 34) = true := by decide +kernel
  intro b
  have := h ⟨b.toNat, b.toNat_lt⟩
  simpa using this
theorem form_short : ∀ b : UInt8, ∀ k, 0 < k → k < (formB b).length → (firstB ((formB b).take k)).2.2 = false := by
  have h : ∀ b : Fin 256, ∀ k : Fin 4, 0 < k.1 → k.1 < (formB (UInt8.ofNat b.1)).length → (firstB ((formB (UInt8.ofNat b.1)).take k.1)).2.2 = false := by decide +kernel
  intro b k h0 h1
  have h4 := (formB_len b).2
  have := h ⟨b.toNat, b.toNat_lt⟩ ⟨k, by omega⟩ h0 (by simpa using h1)
  simpa using this
theorem form_cons (b : UInt8) : ∃ c r, formB b = c :: r ∧ c ≠ 34 := by
  have h1 := (formB_len b).1
  have h2 := form_head b
  match h : formB b with
  | [] => rw [h] at h1; simp at h1
  | c :: r => exact ⟨c, r, rfl, fun hc => h2 (by rw [h, hc]; rfl)⟩
theorem go_form (f : Nat) (b : UInt8) (x out : List UInt8) (n : Nat) : getGo (f + 1) (formB b ++ x) out n = getGo f x (out ++ [b]) (n + (formB b).length) := by
  obtain ⟨c, r, e, hc⟩ := form_cons b
  have hf := first_form b x
  rw [e, List.cons_append] at hf ⊢
  rw [getGo, if_neg hc, hf]
  simp
theorem go_flat (l x : List UInt8) : ∀ (f : Nat) (out : List UInt8) (n : Nat), l.length < f → getGo f (l.flatMap formB ++ (34 :: x)) out n = some (out ++ l, n + (l.flatMap formB).length + 1) := by
  induction l with
  | nil =>
    intro f out n hf
    match f, hf with
    | f + 1, _ => simp [getGo]
  | cons b l ih =>
    intro f out n hf
    match f, hf with
    | f + 1, hf =>
      rw [List.flatMap_cons, List.append_assoc, go_form, ih f _ _ (by simp at hf; omega)]
      simp
      omega
theorem get_back (l x : List UInt8) : getR (putB l ++ x) = (l, (putB l).length, true) := by
  have hl := flat_len l
  have h : getB (putB l ++ x) = some (l, (putB l).length) := by
    have := go_flat l x ((l.flatMap formB ++ [34] ++ x).length + 1) [] 1 (by simp only [List.length_append]; omega)
    simp only [getB, putB, List.cons_append, if_true, List.length_cons, List.append_assoc, List.nil_append] at this ⊢
    rw [this]
    simp
    omega
  rw [getR, h]
theorem go_short (l : List UInt8) : ∀ (f k : Nat) (out : List UInt8) (n : Nat), k ≤ (l.flatMap formB).length → getGo f ((l.flatMap formB ++ [34]).take k) out n = none := by
  induction l with
  | nil =>
    intro f k out n hk
    obtain rfl : k = 0 := by simpa using hk
    cases f <;> simp [getGo]
  | cons b l ih =>
    intro f k out n hk
    match f with
    | 0 => simp [getGo]
    | f + 1 =>
      rw [List.flatMap_cons, List.append_assoc]
      rcases Nat.lt_or_ge k (formB b).length with h | h
      · rw [List.take_append_of_le_length (by omega)]
        rcases Nat.eq_zero_or_pos k with rfl | h0
        · simp [getGo]
        · have hs := form_short b k h0 h
          obtain ⟨c, r, e, hc⟩ := form_cons b
          obtain ⟨j, rfl⟩ : ∃ j, k = j + 1 := ⟨k - 1, by omega⟩
          rw [e, List.take_succ_cons] at hs ⊢
          rw [getGo, if_neg hc, hs]
          simp
      · obtain ⟨j, rfl⟩ : ∃ j, k = (formB b).length + j := ⟨k - (formB b).length, by omega⟩
        rw [List.take_length_add_append, go_form]
        exact ih f j _ _ (by rw [List.flatMap_cons, List.length_append] at hk; omega)
theorem get_short (l : List UInt8) (k : Nat) (hk : k < (putB l).length) : getR ((putB l).take k) = ([], 0, false) := by
  have h : getB ((putB l).take k) = none := by
    match k, hk with
    | 0, _ => rfl
    | k + 1, hk =>
      simp only [putB, List.take_succ_cons, getB, if_true]
      exact go_short l _ k _ _ (by simp only [putB, List.length_cons, List.length_append, List.length_nil] at hk; omega)
  rw [getR, h]
theorem put_inj {l m : List UInt8} (h : putB l = putB m) : l = m := by
  have h1 := get_back l []
  have h2 := get_back m []
  rw [h, h2] at h1
  injection h1 with h1
  exact h1.symm

structure PutTwo (s t p q : ByteArray) (b : Bool) : Prop where
  texts : (s.toList == t.toList) = b
  puts : (p.toList == q.toList) = b
end Go.Proofs.Ytimmfmgnjpcdoaa
