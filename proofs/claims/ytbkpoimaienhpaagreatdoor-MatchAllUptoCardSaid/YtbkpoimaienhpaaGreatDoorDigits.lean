-- shaken
import Derived.Lib.ItoaNum
import Derived.Lib.ItoaLen
import Derived.Lib.ItoaMem
import Derived.Lib.ParseIntBTie
namespace Go.Proofs.YtbkpoimaienhpaaGreatDoor
set_option linter.unusedVariables false
set_option linter.unusedSimpArgs false
open Go.Lib
theorem parse10_app (l m : List UInt8) : ∀ (acc u : Nat), parseUint10 acc l = .ok u → parseUint10 acc (l ++ m) = parseUint10 u m := by
  induction l with
  | nil => intro acc u h; simp only [parseUint10] at h; injection h with h; rw [List.nil_append, h]
  | cons c r ih =>
    intro acc u h
    simp only [List.cons_append, parseUint10] at h ⊢
    split at h
    · rename_i h1
      rw [if_pos h1]
      split at h
      · cases h
      · rename_i h2
        rw [if_neg h2]
        split at h
        · cases h
        · rename_i h3
          rw [if_neg h3]
          exact ih _ _ h
    · cases h
theorem digit_byte (d : Nat) (h : d < 10) : (UInt8.ofNat (48 + d)).toNat = 48 + d := by
  simp [UInt8.toNat_ofNat]
  omega
theorem parse10_digits : ∀ (u : Nat), u < 18446744073709551616 → parseUint10 0 (decDigits u) = .ok u := by
  intro u
  induction u using Nat.strongRecOn with
  | _ u ih =>
    intro hu
    by_cases h : u < 10
    · rw [decDigits, dif_pos h]
      simp only [parseUint10, digit_byte u h]
      rw [if_pos (by omega), if_neg (by omega), if_neg (by omega)]
      congr 1
      omega
    · rw [decDigits, dif_neg h, parse10_app _ _ _ _ (ih (u / 10) (by omega) (by omega))]
      simp only [parseUint10, digit_byte (u % 10) (by omega)]
      rw [if_pos (by omega), if_neg (by omega), if_neg (by omega)]
      congr 1
      omega
theorem digits_ne (u : Nat) : decDigits u ≠ [] := by
  rw [decDigits]
  split <;> simp
theorem digits_all (u : Nat) : ∀ c ∈ decDigits u, 48 ≤ c.toNat ∧ c.toNat ≤ 57 := by
  induction u using Nat.strongRecOn with
  | _ u ih =>
    intro c hc
    by_cases h : u < 10
    · rw [decDigits, dif_pos h] at hc
      simp only [List.mem_singleton] at hc
      subst hc
      rw [digit_byte u h]
      omega
    · rw [decDigits, dif_neg h, List.mem_append] at hc
      rcases hc with hc | hc
      · exact ih _ (by omega) c hc
      · simp only [List.mem_singleton] at hc
        subst hc
        rw [digit_byte _ (by omega)]
        omega
theorem parse_itoa (v : Int) (h0 : -9223372036854775808 ≤ v) (h1 : v ≤ 9223372036854775807) : parseIntB 64 (itoa v) = .ok v := by
  rw [parseIntB_64]
  by_cases h : v < 0
  · have e : itoa v = 45 :: decDigits v.natAbs := by unfold itoa; rw [if_pos h]
    have e45 : (45 : UInt8).toNat = 45 := rfl
    have hp := parse10_digits v.natAbs (by omega)
    rw [e]
    simp only [atoiAll, parseMag, e45, or_true, if_true, if_neg (digits_ne _), hp, not_true_eq_false, false_and, if_false, true_and]
    rw [if_neg (show ¬ 9223372036854775808 < v.natAbs by omega)]
    congr 1
    omega
  · have e : itoa v = decDigits v.toNat := by unfold itoa; rw [if_neg h]
    rw [e]
    cases hd : decDigits v.toNat with
    | nil => exact absurd hd (digits_ne _)
    | cons c r =>
      have hc := digits_all v.toNat c (by rw [hd]; simp)
      have hp := parse10_digits v.toNat (by omega)
      rw [hd] at hp
      have n43 : ¬ c.toNat = 43 := by omega
      have n45 : ¬ c.toNat = 45 := by omega
      simp only [atoiAll, parseMag, n43, n45, hp, or_false, not_false_eq_true, true_and, false_and, if_false, reduceCtorEq]
      rw [if_neg (show ¬ 9223372036854775808 ≤ v.toNat by omega)]
      congr 1
      omega
def itoaS (v : Int) : ByteArray := ⟨(itoa v).toArray⟩
theorem itoaS_list (v : Int) : (itoaS v).data.toList = itoa v := by simp [itoaS]
theorem itoaS_size (v : Int) (h0 : -9223372036854775808 ≤ v) (h1 : v ≤ 9223372036854775807) : (itoaS v).size ≤ 21 := by
  have := itoa_length_le v h0 h1
  show (itoa v).toArray.size ≤ 21
  simpa using this
def parseZ (s : ByteArray) : Option Int :=
  match parseIntB 64 s.data.toList with
  | .ok v => if itoaS v = s then some v else none
  | _ => none
theorem parse_ok_range {l : List UInt8} {v : Int} (h : parseIntB 64 l = .ok v) : -9223372036854775808 ≤ v ∧ v ≤ 9223372036854775807 := by
  have := parseIntB_bounds h
  have e : ((2 ^ (64 - 1) : Nat) : Int) = 9223372036854775808 := by decide
  rw [e] at this
  omega
theorem parseZ_iff (s : ByteArray) (v : Int) : parseZ s = some v ↔ (-9223372036854775808 ≤ v ∧ v ≤ 9223372036854775807) ∧ s = itoaS v := by
  constructor
  · intro h
    unfold parseZ at h
    split at h
    · rename_i u hu
      split at h
      · rename_i he
        injection h with h
        subst h
        exact ⟨parse_ok_range hu, he.symm⟩
      · cases h
    · cases h
  · rintro ⟨⟨h0, h1⟩, rfl⟩
    unfold parseZ
    rw [itoaS_list, parse_itoa v h0 h1]
    simp
end Go.Proofs.YtbkpoimaienhpaaGreatDoor
