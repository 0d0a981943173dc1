/- Pieces of texts, and where one stands in another one. No program.
   The document's own Put: it answers as the program's does.
   The document's own Put; and what a text that begins with a form is.
   The document's own Get: it answers as the program's does.
   A text with one byte another one: a text of the same length. -/
import Derived.Test.YtilcanblgdmecaaPut
import Derived.Test.YtilcanblgdmecaaConv
import Derived.Test.YtilcanblgdmecaaBackPure
import Derived.Lib.Index
import Derived.Lib.Bytealg
import Derived.Deep.AppendLies
import Derived.Deep.RegionHeld3
import Derived.Laws.OwnMore
import Derived.Lib.ConvBytes
import Derived.HandedShaped
namespace Go.Proofs.Ytilcanblgdmecaa
open Go.RowKit
set_option linter.unusedVariables false
set_option linter.unusedSimpArgs false

theorem text_app (p x : ByteArray) : (p ++ x).data.toList = p.data.toList ++ x.data.toList := by simp [ByteArray.data_append]
theorem put_size (l : List UInt8) : (⟨l.toArray⟩ : ByteArray).size = l.length := by simp [ByteArray.size]
theorem text_part (p : ByteArray) (i j : Nat) : (p.extract i j).data.toList = (p.data.toList.take j).drop i := by
  rw [ByteArray.data_extract, Array.toList_extract]
  simp [List.extract, List.drop_take]
theorem text_ext {a b : ByteArray} (h : a.data.toList = b.data.toList) : a = b := ByteArray.ext (Array.toList_inj.1 h)
theorem text_empty {a : ByteArray} (h : a.size = 0) : a = .empty := text_ext (by rw [show a.data.toList = [] from List.eq_nil_of_length_eq_zero (by rw [size_toList]; exact h)]; rfl)
theorem empty_iff (a : ByteArray) : a.toList.isEmpty = decide (a.size = 0) := by
  rw [Lib.toList_data, ← size_toList]
  cases a.data.toList <;> simp
def occ (s x : ByteArray) (i : Nat) : Bool := Lib.occAt s.data.toList x.data.toList i
theorem occ_piece (s x : ByteArray) (i : Nat) (h : i + x.size ≤ s.size) : ((s.extract i (i + x.size)).toList == x.toList) = occ s x i := by
  rw [Lib.toList_data, Lib.toList_data, text_part, occ, Lib.occAt_iff_take _ _ _ (by rw [size_toList, size_toList]; exact h), size_toList, List.drop_take, Nat.add_sub_cancel_left]
theorem occ_room (s x : ByteArray) (i : Nat) (h : s.size < i + x.size) (h0 : x.size ≠ 0) : occ s x i = false := by
  cases e : occ s x i with
  | false => rfl
  | true =>
    rcases Lib.occAt_room e with h1 | h1
    · rw [size_toList, size_toList] at h1; omega
    · exact absurd (by rw [← size_toList, h1]; rfl) h0
end Go.Proofs.Ytilcanblgdmecaa
namespace Go.Proofs.Ytilcanblgdmecaa
open Go.RowKit
set_option linter.unusedVariables false
set_option linter.unusedSimpArgs false

theorem conv_one (w : World) (b : UInt8) : (convert 58 9 (.slice (some ⟨w.heap.size, 0, none⟩) 1 1)).run Try.prog (w.alloc (.cells #[.int .u8 (b.toNat : Int)] 5)) = .ok (.string ⟨#[b]⟩) (w.alloc (.cells #[.int .u8 (b.toNat : Int)] 5)) :=
  conv_own (own_new w [b] 0 (Nat.zero_le _) (by simp))
theorem conv_two (w : World) (a b : UInt8) : (convert 58 9 (.slice (some ⟨w.heap.size, 0, none⟩) 2 2)).run Try.prog (w.alloc (.cells #[.int .u8 (a.toNat : Int), .int .u8 (b.toNat : Int)] 5)).drew = .ok (.string ⟨#[a, b]⟩) (w.alloc (.cells #[.int .u8 (a.toNat : Int), .int .u8 (b.toNat : Int)] 5)).drew :=
  conv_own (w := (w.alloc (.cells #[.int .u8 (a.toNat : Int), .int .u8 (b.toNat : Int)] 5)).drew) (own_new w [a, b] 0 (Nat.zero_le _) (by simp))

def formT (b : UInt8) : ByteArray := ⟨(formB b).toArray⟩
theorem formT_of {b : UInt8} {l : List UInt8} {t : ByteArray} (h : formB b = l) (ht : t.data.toList = l) : t = formT b := text_ext (by rw [ht, ← h]; rfl)
theorem ret_text {a b : ByteArray} (h : a = b) : Ending.returned (.string a) = .returned (.string b) := by rw [h]

end Go.Proofs.Ytilcanblgdmecaa
namespace Go.Proofs.Ytilcanblgdmecaa
open Go.RowKit
set_option linter.unusedVariables false
set_option linter.unusedSimpArgs false

theorem OwnB.below {w w' : World} {B e : Nat} {v : Value} {l : List UInt8} (h : OwnB w B e v l) (hb : Below w.heap.size w w') : OwnB w' B e v l :=
  World.ownsRow.kept (row := none) h ⟨hb.os, hb.tape, hb.output, hb.size, fun k hk _ => hb.block k hk⟩ (by cases h : v.ownBlock <;> simp)

def putT (s : ByteArray) (k : Nat) : ByteArray := ⟨(34 :: (s.data.toList.take k).flatMap formB).toArray⟩
theorem putT_snoc (s : ByteArray) (k : Nat) (h : k < s.size) : putT s (k + 1) = putT s k ++ formT s[k] := by
  apply text_ext
  rw [text_app]
  show 34 :: (s.data.toList.take (k + 1)).flatMap formB = (34 :: (s.data.toList.take k).flatMap formB) ++ formB s[k]
  rw [take_flat s k h, List.cons_append]
theorem putT_end (s : ByteArray) : putT s s.size ++ ⟨#[34]⟩ = ⟨(putB s.data.toList).toArray⟩ := by
  apply text_ext
  rw [text_app]
  show (34 :: (s.data.toList.take s.size).flatMap formB) ++ [34] = putB s.data.toList
  rw [List.take_of_length_le (by rw [size_toList]; exact Nat.le_refl _), List.cons_append]
  rfl
theorem putT_size (s : ByteArray) (k : Nat) : (putT s k).size ≤ 4 * s.size + 1 := by
  have h := (flat_len (s.data.toList.take k)).2
  have e : (putT s k).size = ((s.data.toList.take k).flatMap formB).length + 1 := put_size _
  rw [e]
  rw [List.length_take, size_toList] at h
  omega
theorem formT_size (b : UInt8) : 1 ≤ (formT b).size ∧ (formT b).size ≤ 4 := by
  have e : (formT b).size = (formB b).length := put_size _
  rw [e]
  exact formB_len b

/-- a text whose first byte is no quote begins with the form of a byte just if firstB says so, and with no other -/
theorem digit_back : ∀ c : UInt8, 0 ≤ hexI c → digB (hexI c).toNat = c := by
  have h : ∀ c : Fin 256, 0 ≤ hexI (UInt8.ofNat c.1) → digB (hexI (UInt8.ofNat c.1)).toNat = UInt8.ofNat c.1 := by decide +kernel
  intro c hc
  have := h ⟨c.toNat, c.toNat_lt⟩ (by simpa using hc)
  simpa using this
theorem rare_form : ∀ b : UInt8, rareB b = true → formB b = [92, 120, digB (b.toNat / 16), digB (b.toNat % 16)] := by
  have h : ∀ b : Fin 256, rareB (UInt8.ofNat b.1) = true → formB (UInt8.ofNat b.1) = [92, 120, digB ((UInt8.ofNat b.1).toNat / 16), digB ((UInt8.ofNat b.1).toNat % 16)] := by decide +kernel
  intro b hb
  have := h ⟨b.toNat, b.toNat_lt⟩ (by simpa using hb)
  simpa using this
theorem first_is (c : UInt8) (r : List UInt8) (hc : c ≠ 34) (h : (firstB (c :: r)).2.2 = true) : formB (firstB (c :: r)).1 <+: (c :: r) ∧ (firstB (c :: r)).2.1 = (formB (firstB (c :: r)).1).length := by
  by_cases h1 : c ≠ 92
  · have e : firstB (c :: r) = (c, 1, !rareB c && (c != 10 && c != 9)) := by simp [firstB, h1]
    rw [e] at h ⊢
    dsimp only at h ⊢
    simp at h
    have f : formB c = [c] := by simp [formB, hc, h1, h.1, h.2.1, h.2.2]
    rw [f]
    exact ⟨⟨r, rfl⟩, rfl⟩
  · have h1' : c = 92 := by simpa using h1
    subst h1'
    match r, h with
    | [], h => simp [firstB] at h
    | d :: r', h =>
      by_cases h2 : d = 34 ∨ d = 92
      · have e : firstB (92 :: d :: r') = (d, 2, true) := by simp [firstB, h2]
        have f : formB d = [92, d] := by simp [formB, h2]
        rw [e, f]
        exact ⟨⟨r', rfl⟩, rfl⟩
      · by_cases h3 : d = 110
        · subst h3
          have e : firstB (92 :: 110 :: r') = (10, 2, true) := by simp [firstB]
          rw [e]
          exact ⟨⟨r', rfl⟩, rfl⟩
        · by_cases h4 : d = 116
          · subst h4
            have e : firstB (92 :: 116 :: r') = (9, 2, true) := by simp [firstB]
            rw [e]
            exact ⟨⟨r', rfl⟩, rfl⟩
          · by_cases h5 : d = 120
            · subst h5
              have e : firstB (92 :: 120 :: r') = ((hexB r').1, 4, (hexB r').2) := by simp [firstB]
              rw [e] at h ⊢
              dsimp only at h ⊢
              match r', h with
              | [], h => simp [hexB] at h
              | [_], h => simp [hexB] at h
              | a :: b :: r'', h =>
                rw [hexB_two] at h ⊢
                by_cases h6 : hexI a < 0 ∨ hexI b < 0
                · rw [hex2, if_pos h6] at h; simp at h
                · rw [hex2, if_neg h6] at h ⊢
                  dsimp only at h ⊢
                  have ra := hexI_range a
                  have rb := hexI_range b
                  have da := digit_back a (by omega)
                  have db := digit_back b (by omega)
                  have e2 : (UInt8.ofNat (hexI a * 16 + hexI b).toNat).toNat = (hexI a * 16 + hexI b).toNat := by
                    rw [UInt8.toNat_ofNat']; omega
                  rw [rare_form _ h, e2, show (hexI a * 16 + hexI b).toNat / 16 = (hexI a).toNat from by omega, show (hexI a * 16 + hexI b).toNat % 16 = (hexI b).toNat from by omega, da, db]
                  exact ⟨⟨r'', rfl⟩, rfl⟩
            · have e : firstB (92 :: d :: r') = (0, 0, false) := by simp [firstB, h2, h3, h4, h5]
              rw [e] at h
              simp at h
theorem occ_form (s : ByteArray) (b : UInt8) (k : Nat) (h : occ s (formT b) k = true) : firstB (s.data.toList.drop k) = (b, (formB b).length, true) := by
  unfold occ Lib.occAt at h
  obtain ⟨r, hr⟩ := List.isPrefixOf_iff_prefix.1 h
  rw [← hr]
  exact first_form b r
theorem form_occ (s : ByteArray) (c : UInt8) (k : Nat) (hk : k < s.size) (hc : s[k] = c) (h34 : c ≠ 34) (h : (firstB (s.data.toList.drop k)).2.2 = true) : occ s (formT (firstB (s.data.toList.drop k)).1) k = true := by
  rw [drop_cons s k hk, hc] at h ⊢
  unfold occ Lib.occAt
  rw [drop_cons s k hk, hc]
  exact List.isPrefixOf_iff_prefix.2 (first_is c _ h34 h).1
end Go.Proofs.Ytilcanblgdmecaa
namespace Go.Proofs.Ytilcanblgdmecaa
open Go.RowKit
set_option linter.unusedVariables false
set_option linter.unusedSimpArgs false

theorem nat_byte (b : Nat) (h : b < 256) : bV [UInt8.ofNat b] = [.int .u8 (b : Int)] := by
  have : ((UInt8.ofNat b).toNat : Int) = (b : Int) := by rw [UInt8.toNat_ofNat']; omega
  simp only [bV, List.map_cons, List.map_nil, this]

end Go.Proofs.Ytilcanblgdmecaa
namespace Go.Proofs.Ytilcanblgdmecaa
open Go.RowKit
set_option linter.unusedVariables false
set_option linter.unusedSimpArgs false

theorem ints_of (w : World) (g : Nat) : ∀ n : Nat, (∀ i, i < n → ∃ m, w.cell? ⟨g, i, none⟩ = some (.int .u8 m)) → ∃ xs : List Int, xs.length = n ∧ ∀ i, i < n → w.cell? ⟨g, 0 + i, none⟩ = some (.int .u8 (xs.getD i 0))
  | 0, _ => ⟨[], rfl, fun i hi => absurd hi (by omega)⟩
  | n + 1, h => by
    obtain ⟨xs, hl, hx⟩ := ints_of w g n fun i hi => h i (by omega)
    obtain ⟨m, hm⟩ := h n (by omega)
    refine ⟨xs ++ [m], by simp [hl], fun i hi => ?_⟩
    rcases Nat.lt_or_ge i n with h1 | h1
    · rw [hx i h1, List.getD_eq_getElem?_getD, List.getD_eq_getElem?_getD, List.getElem?_append_left (by omega)]
    · obtain rfl : i = n := by omega
      rw [Nat.zero_add, hm, List.getD_eq_getElem?_getD, List.getElem?_append_right (by omega), hl]
      simp
theorem conv_ints (w : World) (g n cap : Nat) (h : ∀ i, i < n → ∃ m, w.cell? ⟨g, i, none⟩ = some (.int .u8 m)) : ∃ t : ByteArray, t.size = n ∧ (convert 58 9 (.slice (some ⟨g, 0, none⟩) n cap)).run Try.prog w = .ok (.string t) w := by
  obtain ⟨xs, hl, hx⟩ := ints_of w g n h
  exact ⟨_, by rw [strOfNums_size]; exact hl, run_convert_bytes_arg (P := Try.prog) w 58 5 Try.underlying58 Try.underlying5 g 0 n cap xs hl hx 9 Try.underlying9⟩
theorem conv_text (w : World) (s : ByteArray) : ∃ C w1, (convert 9 58 (.string s)).run Try.prog w = .ok (.slice (some ⟨w.heap.size, 0, none⟩) s.size C) w1 ∧ Below w.heap.size w w1 ∧ w.heap.size < w1.heap.size ∧ ∀ j, j < s.size → w1.frozen? ⟨w.heap.size, j, none⟩ = false ∧ ∃ m, w1.cell? ⟨w.heap.size, j, none⟩ = some (.int .u8 m) := by
  refine ⟨_, _, Lib.run_convert_string_bytes w 9 58 5 s Try.underlying9 Try.underlying58 Try.underlying5, ⟨rfl, rfl, rfl, ?_, fun k hk => Lib.bytesWorld_at_old w _ s k hk⟩, ?_, fun j hj => ⟨?_, _, Lib.bytesWorld_cell w _ s j hj⟩⟩
  · rw [Lib.bytesWorld_size]; omega
  · rw [Lib.bytesWorld_size]; omega
  · have hz : s.size ≤ (Lib.bytesCells w 5 s).size := by simp [Lib.bytesCells]
    simp only [World.frozen?, Lib.bytesWorld_at_new]
    simp
    omega

end Go.Proofs.Ytilcanblgdmecaa
