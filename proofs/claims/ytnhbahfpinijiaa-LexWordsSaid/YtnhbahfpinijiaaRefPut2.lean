/- The document's own Put; and what a text that begins with a form is. -/
import Derived.Test.YtnhbahfpinijiaaRefPut
import Derived.Test.YtnhbahfpinijiaaRefBase
import Derived.Test.YtnhbahfpinijiaaBackPure
namespace Go.Proofs.Ytnhbahfpinijiaa
open Go.RowKit
set_option linter.unusedVariables false

theorem OwnB.below {w w' : World} {B e : Nat} {v : Value} {l : List UInt8} (h : OwnB w B e v l) (hb : Below w.heap.size w w') : OwnB w' B e v l :=
  World.ownsRow.kept (row := none) h ⟨hb.os, hb.tape, hb.output, hb.size, fun k hk _ => hb.block k hk⟩ (by cases h : v.ownBlock <;> simp)

def putT (s : ByteArray) (k : Nat) : ByteArray := ⟨(34 :: (s.data.toList.take k).flatMap formB).toArray⟩
theorem putT_snoc (s : ByteArray) (k : Nat) (h : k < s.size) : putT s (k + 1) = putT s k ++ formT s[k] := by
  apply text_ext
  rw [text_app]
  show 34 :: (s.data.toList.take (k + 1)).flatMap formB = (34 :: (s.data.toList.take k).flatMap formB) ++ formB s[k]
  rw [take_flat s k h, List.cons_append]
theorem putT_end (s : ByteArray) : putT s s.size ++ ⟨#[34]⟩ = ⟨(putB s.data.toList).toArray⟩ := by
  apply text_ext
  rw [text_app]
  show (34 :: (s.data.toList.take s.size).flatMap formB) ++ [34] = putB s.data.toList
  rw [List.take_of_length_le (by rw [size_toList]; exact Nat.le_refl _), List.cons_append]
  rfl
theorem putT_size (s : ByteArray) (k : Nat) : (putT s k).size ≤ 4 * s.size + 1 := by
  have h := (flat_len (s.data.toList.take k)).2
  have e : (putT s k).size = ((s.data.toList.take k).flatMap formB).length + 1 := put_size _
  rw [e]
  rw [List.length_take, size_toList] at h
  omega
theorem formT_size (b : UInt8) : 1 ≤ (formT b).size ∧ (formT b).size ≤ 4 := by
  have e : (formT b).size = (formB b).length := put_size _
  rw [e]
  exact formB_len b

/-- a text whose first byte is no quote begins with the form of a byte just if firstB says so, and with no other -/
theorem digit_back : ∀ c : UInt8, 0 ≤ hexI c → digB (hexI c).toNat = c := by
  have h : ∀ c : Fin 256, 0 ≤ hexI (UInt8.ofNat c.1) → digB (hexI (UInt8.ofNat c.1)).toNat = UInt8.ofNat c.1 := by decide +kernel
  intro c hc
  have := h ⟨c.toNat, c.toNat_lt⟩ (by simpa using hc)
  simpa using this
theorem rare_form : ∀ b : UInt8, rareB b = true → formB b = [92, 120, digB (b.toNat / 16), digB (b.toNat % 16)] := by
  have h : ∀ b : Fin 256, rareB (UInt8.ofNat b.1) = true → formB (UInt8.ofNat b.1) = [92, 120, digB ((UInt8.ofNat b.1).toNat / 16), digB ((UInt8.ofNat b.1).toNat % 16)] := by decide +kernel
  intro b hb
  have := h ⟨b.toNat, b.toNat_lt⟩ (by simpa using hb)
  simpa using this
theorem first_is (c : UInt8) (r : List UInt8) (hc : c ≠ 34) (h : (firstB (c :: r)).2.2 = true) : formB (firstB (c :: r)).1 <+: (c :: r) ∧ (firstB (c :: r)).2.1 = (formB (firstB (c :: r)).1).length := by
  by_cases h1 : c ≠ 92
  · have e : firstB (c :: r) = (c, 1, !rareB c && (c != 10 && c != 9)) := by simp [firstB, h1]
    rw [e] at h ⊢
    dsimp only at h ⊢
    simp at h
    have f : formB c = [c] := by simp [formB, hc, h1, h.1, h.2.1, h.2.2]
    rw [f]
    exact ⟨⟨r, rfl⟩, rfl⟩
  · have h1' : c = 92 := by simpa using h1
    subst h1'
    match r, h with
    | [], h => simp [firstB] at h
    | d :: r', h =>
      by_cases h2 : d = 34 ∨ d = 92
      · have e : firstB (92 :: d :: r') = (d, 2, true) := by simp [firstB, h2]
        have f : formB d = [92, d] := by simp [formB, h2]
        rw [e, f]
        exact ⟨⟨r', rfl⟩, rfl⟩
      · by_cases h3 : d = 110
        · subst h3
          have e : firstB (92 :: 110 :: r') = (10, 2, true) := by simp [firstB]
          rw [e]
          exact ⟨⟨r', rfl⟩, rfl⟩
        · by_cases h4 : d = 116
          · subst h4
            have e : firstB (92 :: 116 :: r') = (9, 2, true) := by simp [firstB]
            rw [e]
            exact ⟨⟨r', rfl⟩, rfl⟩
          · by_cases h5 : d = 120
            · subst h5
              have e : firstB (92 :: 120 :: r') = ((hexB r').1, 4, (hexB r').2) := by simp [firstB]
              rw [e] at h ⊢
              dsimp only at h ⊢
              match r', h with
              | [], h => simp [hexB] at h
              | [_], h => simp [hexB] at h
              | a :: b :: r'', h =>
                rw [hexB_two] at h ⊢
                by_cases h6 : hexI a < 0 ∨ hexI b < 0
                · rw [hex2, if_pos h6] at h; simp at h
                · rw [hex2, if_neg h6] at h ⊢
                  dsimp only at h ⊢
                  have ra := hexI_range a
                  have rb := hexI_range b
                  have da := digit_back a (by omega)
                  have db := digit_back b (by omega)
                  have e2 : (UInt8.ofNat (hexI a * 16 + hexI b).toNat).toNat = (hexI a * 16 + hexI b).toNat := by
                    rw [UInt8.toNat_ofNat']; omega
                  rw [rare_form _ h, e2, show (hexI a * 16 + hexI b).toNat / 16 = (hexI a).toNat from by omega, show (hexI a * 16 + hexI b).toNat % 16 = (hexI b).toNat from by omega, da, db]
                  exact ⟨⟨r'', rfl⟩, rfl⟩
            · have e : firstB (92 :: d :: r') = (0, 0, false) := by simp [firstB, h2, h3, h4, h5]
              rw [e] at h
              simp at h
theorem occ_form (s : ByteArray) (b : UInt8) (k : Nat) (h : occ s (formT b) k = true) : firstB (s.data.toList.drop k) = (b, (formB b).length, true) := by
  unfold occ Lib.occAt at h
  obtain ⟨r, hr⟩ := List.isPrefixOf_iff_prefix.1 h
  rw [← hr]
  exact first_form b r
theorem form_occ (s : ByteArray) (c : UInt8) (k : Nat) (hk : k < s.size) (hc : s[k] = c) (h34 : c ≠ 34) (h : (firstB (s.data.toList.drop k)).2.2 = true) : occ s (formT (firstB (s.data.toList.drop k)).1) k = true := by
  rw [drop_cons s k hk, hc] at h ⊢
  unfold occ Lib.occAt
  rw [drop_cons s k hk, hc]
  exact List.isPrefixOf_iff_prefix.2 (first_is c _ h34 h).1
end Go.Proofs.Ytnhbahfpinijiaa
