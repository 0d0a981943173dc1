/- Pieces of texts, and where one stands in another one. No program.
   The document's own Put: it answers as the program's does.
   The document's own Put; and what a text that begins with a form is. -/
import Derived.Test.YtimfabnjopkhdaaPut
import Derived.Test.YtimfabnjopkhdaaConv
import Derived.Test.YtimfabnjopkhdaaBackPure
import Derived.Lib.Index
import Derived.Lib.Bytealg
import Derived.Deep.AppendLies
import Derived.Deep.RegionHeld3
import Derived.Laws.OwnMore
namespace Go.Proofs.Ytimfabnjopkhdaa
open Go.RowKit
set_option linter.unusedVariables false
set_option linter.unusedSimpArgs false

theorem text_app (p x : ByteArray) : (p ++ x).data.toList = p.data.toList ++ x.data.toList := by simp [ByteArray.data_append]
theorem put_size (l : List UInt8) : (⟨l.toArray⟩ : ByteArray).size = l.length := by simp [ByteArray.size]
theorem text_part (p : ByteArray) (i j : Nat) : (p.extract i j).data.toList = (p.data.toList.take j).drop i := by
  rw [ByteArray.data_extract, Array.toList_extract]
  simp [List.extract, List.drop_take]
theorem text_ext {a b : ByteArray} (h : a.data.toList = b.data.toList) : a = b := ByteArray.ext (Array.toList_inj.1 h)
theorem text_empty {a : ByteArray} (h : a.size = 0) : a = .empty := text_ext (by rw [show a.data.toList = [] from List.eq_nil_of_length_eq_zero (by rw [size_toList]; exact h)]; rfl)
theorem empty_iff (a : ByteArray) : a.toList.isEmpty = decide (a.size = 0) := by
  rw [Lib.toList_data, ← size_toList]
  cases a.data.toList <;> simp
def occ (s x : ByteArray) (i : Nat) : Bool := Lib.occAt s.data.toList x.data.toList i
theorem occ_piece (s x : ByteArray) (i : Nat) (h : i + x.size ≤ s.size) : ((s.extract i (i + x.size)).toList == x.toList) = occ s x i := by
  rw [Lib.toList_data, Lib.toList_data, text_part, occ, Lib.occAt_iff_take _ _ _ (by rw [size_toList, size_toList]; exact h), size_toList, List.drop_take, Nat.add_sub_cancel_left]
theorem occ_room (s x : ByteArray) (i : Nat) (h : s.size < i + x.size) (h0 : x.size ≠ 0) : occ s x i = false := by
  cases e : occ s x i with
  | false => rfl
  | true =>
    rcases Lib.occAt_room e with h1 | h1
    · rw [size_toList, size_toList] at h1; omega
    · exact absurd (by rw [← size_toList, h1]; rfl) h0
end Go.Proofs.Ytimfabnjopkhdaa
namespace Go.Proofs.Ytimfabnjopkhdaa
open Go.RowKit
set_option linter.unusedVariables false
set_option linter.unusedSimpArgs false

theorem conv_one (w : World) (b : UInt8) : (convert 58 9 (.slice (some ⟨w.heap.size, 0, none⟩) 1 1)).run Try.prog (w.alloc (.cells #[.int .u8 (b.toNat : Int)] 5)) = .ok (.string ⟨#[b]⟩) (w.alloc (.cells #[.int .u8 (b.toNat : Int)] 5)) :=
  conv_own (own_new w [b] 0 (Nat.zero_le _) (by simp))
theorem conv_two (w : World) (a b : UInt8) : (convert 58 9 (.slice (some ⟨w.heap.size, 0, none⟩) 2 2)).run Try.prog (w.alloc (.cells #[.int .u8 (a.toNat : Int), .int .u8 (b.toNat : Int)] 5)).drew = .ok (.string ⟨#[a, b]⟩) (w.alloc (.cells #[.int .u8 (a.toNat : Int), .int .u8 (b.toNat : Int)] 5)).drew :=
  conv_own (w := (w.alloc (.cells #[.int .u8 (a.toNat : Int), .int .u8 (b.toNat : Int)] 5)).drew) (own_new w [a, b] 0 (Nat.zero_le _) (by simp))

def formT (b : UInt8) : ByteArray := ⟨(formB b).toArray⟩
theorem formT_of {b : UInt8} {l : List UInt8} {t : ByteArray} (h : formB b = l) (ht : t.data.toList = l) : t = formT b := text_ext (by rw [ht, ← h]; rfl)
theorem ret_text {a b : ByteArray} (h : a = b) : Ending.returned (.string a) = .returned (.string b) := by rw [h]

set_option maxRecDepth 100000 in
set_option maxHeartbeats 400000 in
theorem refOne_any (b : UInt8) (W : World) :
    Calls Try.prog 58 #[.int .u8 (b.toNat : Int)] W fun e w' => e = .returned (.string (formT b)) ∧ Below W.heap.size W w' := by
  have hb := b.toNat_lt
  have hc1 := conv_one W b
  by_cases h1 : b = 34 ∨ b = 92
  · have e : formB b = [92, b] := by simp [formB, h1]
    have E := Lib.hid e
    have hx : b.toNat = 34 ∨ b.toNat = 92 := by rcases h1 with rfl | rfl <;> simp
    have hx1 : (((b.toNat : Int)) == 34) = true ∨ (((b.toNat : Int)) == 34) = false ∧ (((b.toNat : Int)) == 92) = true := by
      rcases hx with h | h
      · left; rw [beq_iff_eq]; omega
      · right; exact ⟨by rw [beq_eq_false_iff_ne]; omega, by rw [beq_iff_eq]; omega⟩
    clear h1 hx e
    rcases hx1 with g1 | ⟨g1, g2⟩
    all_goals
      go_enter Try.func58, Try.ntmps58
      go_wp2
      go_ret
      exact ⟨ret_text (formT_of E.out (by rw [text_app]; rfl)), (Below.refl _ _).alloc (Nat.le_refl _) _⟩
  · have hx : ¬ b.toNat = 34 ∧ ¬ b.toNat = 92 := by
      refine ⟨fun h => h1 (.inl ?_), fun h => h1 (.inr ?_)⟩ <;> exact UInt8.toNat_inj.1 h
    have g1 : (((b.toNat : Int)) == 34) = false := by rw [beq_eq_false_iff_ne]; omega
    have g2 : (((b.toNat : Int)) == 92) = false := by rw [beq_eq_false_iff_ne]; omega
    by_cases h2 : b = 10
    · have e : formB b = [92, 110] := by subst h2; rfl
      have E := Lib.hid e
      have g3 : (((b.toNat : Int)) == 10) = true := by subst h2; rfl
      clear h1 h2 hx e
      go_enter Try.func58, Try.ntmps58
      go_wp2
      go_ret
      exact ⟨ret_text (formT_of E.out rfl), Below.refl _ _⟩
    · have g3 : (((b.toNat : Int)) == 10) = false := by rw [beq_eq_false_iff_ne]; intro h; exact h2 (UInt8.toNat_inj.1 (by simp; omega))
      by_cases h3 : b = 9
      · have e : formB b = [92, 116] := by subst h3; rfl
        have E := Lib.hid e
        have g4 : (((b.toNat : Int)) == 9) = true := by subst h3; rfl
        clear h1 h2 h3 hx e
        go_enter Try.func58, Try.ntmps58
        go_wp2
        go_ret
        exact ⟨ret_text (formT_of E.out rfl), Below.refl _ _⟩
      · have g4 : (((b.toNat : Int)) == 9) = false := by rw [beq_eq_false_iff_ne]; intro h; exact h3 (UInt8.toNat_inj.1 (by simp; omega))
        by_cases h4 : rareB b = true
        · have e : formB b = [92, 120, digB (b.toNat / 16), digB (b.toNat % 16)] := by simp [formB, h1, h2, h3, h4]
          obtain ⟨q, hq⟩ : ∃ q, q = b.toNat / 16 := ⟨_, rfl⟩
          obtain ⟨r, hr⟩ : ∃ r, r = b.toNat % 16 := ⟨_, rfl⟩
          have hq16 : q < 16 := by omega
          have hr16 : r < 16 := by omega
          have hq1 : IntKind.u8.wrap ((b.toNat : Int) / 16) = (q : Int) := by rw [IntKind.wrap_u8]; omega
          have hr1 : (b.toNat : Int).tmod 16 = (r : Int) := by rw [Int.tmod_eq_emod_of_nonneg (by omega)]; omega
          have hq16' : (q : Int) < 16 := by omega
          have hr16' : (r : Int) < 16 := by omega
          have hd1 := dig_at q hq16
          have hd2 := dig_at r hr16
          rw [← hq, ← hr] at e
          have E := Lib.hid e
          have hc2 := conv_two W (digB q) (digB r)
          have hrare : (b.toNat : Int) < 32 ∨ ((32 : Int) ≤ (b.toNat : Int) ∧ (126 : Int) < (b.toNat : Int)) := by
            unfold rareB at h4
            simp at h4
            omega
          clear h1 h2 h3 h4 hx hq hr e hc1
          rcases hrare with k1 | ⟨k1, k2⟩
          all_goals
            go_enter Try.func58, Try.ntmps58
            go_wp2
            go_region_law (fail)
            all_goals
              go_wp2
              go_ret
              exact ⟨ret_text (formT_of E.out (by rw [text_app]; rfl)), ((Below.refl _ _).alloc (Nat.le_refl _) _).drew⟩
        · have e : formB b = [b] := by simp [formB, h1, h2, h3, h4]
          have E := Lib.hid e
          have hrare : (32 : Int) ≤ (b.toNat : Int) ∧ (b.toNat : Int) ≤ 126 := by
            unfold rareB at h4
            simp at h4
            have n10 : ¬ b.toNat = 10 := fun h => h2 (UInt8.toNat_inj.1 (by simpa using h))
            have n9 : ¬ b.toNat = 9 := fun h => h3 (UInt8.toNat_inj.1 (by simpa using h))
            omega
          obtain ⟨k1, k2⟩ := hrare
          clear h1 h2 h3 h4 hx e
          go_enter Try.func58, Try.ntmps58
          go_wp2
          go_ret
          exact ⟨ret_text (formT_of E.out rfl), (Below.refl _ _).alloc (Nat.le_refl _) _⟩
end Go.Proofs.Ytimfabnjopkhdaa
namespace Go.Proofs.Ytimfabnjopkhdaa
open Go.RowKit
set_option linter.unusedVariables false
set_option linter.unusedSimpArgs false

theorem OwnB.below {w w' : World} {B e : Nat} {v : Value} {l : List UInt8} (h : OwnB w B e v l) (hb : Below w.heap.size w w') : OwnB w' B e v l :=
  World.ownsRow.kept (row := none) h ⟨hb.os, hb.tape, hb.output, hb.size, fun k hk _ => hb.block k hk⟩ (by cases h : v.ownBlock <;> simp)

def putT (s : ByteArray) (k : Nat) : ByteArray := ⟨(34 :: (s.data.toList.take k).flatMap formB).toArray⟩
theorem putT_snoc (s : ByteArray) (k : Nat) (h : k < s.size) : putT s (k + 1) = putT s k ++ formT s[k] := by
  apply text_ext
  rw [text_app]
  show 34 :: (s.data.toList.take (k + 1)).flatMap formB = (34 :: (s.data.toList.take k).flatMap formB) ++ formB s[k]
  rw [take_flat s k h, List.cons_append]
theorem putT_end (s : ByteArray) : putT s s.size ++ ⟨#[34]⟩ = ⟨(putB s.data.toList).toArray⟩ := by
  apply text_ext
  rw [text_app]
  show (34 :: (s.data.toList.take s.size).flatMap formB) ++ [34] = putB s.data.toList
  rw [List.take_of_length_le (by rw [size_toList]; exact Nat.le_refl _), List.cons_append]
  rfl
theorem putT_size (s : ByteArray) (k : Nat) : (putT s k).size ≤ 4 * s.size + 1 := by
  have h := (flat_len (s.data.toList.take k)).2
  have e : (putT s k).size = ((s.data.toList.take k).flatMap formB).length + 1 := put_size _
  rw [e]
  rw [List.length_take, size_toList] at h
  omega
theorem formT_size (b : UInt8) : 1 ≤ (formT b).size ∧ (formT b).size ≤ 4 := by
  have e : (formT b).size = (formB b).length := put_size _
  rw [e]
  exact formB_len b

set_option maxRecDepth 100000 in
set_option maxHeartbeats 400000 in
theorem refPut_any (s : ByteArray) (hs : s.size ≤ 4000000) (W : World) :
    Calls Try.prog 41 #[.string s] W fun e w' => e = .returned (.string ⟨(putB s.data.toList).toArray⟩) ∧ Below W.heap.size W w' := by
  go_enter Try.func41, Try.ntmps41
  go_wp2
  go_loopw [3, 4] (fun t i wz => ∃ k : Nat, k ≤ s.size ∧ i = .int .i64 k ∧ t = .string (putT s k) ∧ Below W.heap.size W wz) (fun _ i _ => s.size - (intOf i).toNat)
  case atStart => exact ⟨0, Nat.zero_le _, rfl, rfl, Below.refl _ _⟩
  case round =>
    obtain ⟨k, hk, rfl, rfl, hb⟩ := hrel
    have hz := putT_size s k
    have he := putT_end s
    have hsn := putT_snoc s k
    have hfs := formT_size
    obtain ⟨t, ht⟩ : ∃ t, putT s k = t := ⟨_, rfl⟩
    rw [ht] at hz hsn ⊢
    have HE := Lib.hid he
    have HT := Lib.hid ht
    have hsz := hb.size
    clear he ht
    by_cases hkn : k < s.size
    · have hone := fun w => refOne_any s[k] w
      have hsn := hsn hkn
      have hf := (hfs s[k]).2
      obtain ⟨x, hx⟩ : ∃ x, formT s[k] = x := ⟨_, rfl⟩
      rw [hx] at hsn hf
      simp only [hx] at hone
      have HO := Lib.hid hone
      have HS := Lib.hid hsn
      have g1 : t.size + x.size ≤ 16777216 := by omega
      clear hone hsn hfs hx
      go_wp2_with fail
      refine (HO.out _).mono ?_
      rintro e w2 ⟨rfl, hb2⟩
      have hb3 := hb.trans (hb2.mono hsz)
      go_wp2
      go_round
      case rel => exact ⟨k + 1, by omega, by go_num, by rw [HS.out], hb3⟩
      case measure => simp [intOf]; omega
    · obtain rfl : k = s.size := by omega
      clear hsn hfs
      have g1 : t.size + 1 ≤ 16777216 := by omega
      have HEE : Hid (t ++ ⟨#[34]⟩ = ⟨(putB s.data.toList).toArray⟩) := by rw [← HT.out]; exact HE
      go_wp2
      go_ret
      exact ⟨ret_text HEE.out, hb⟩

/-- a text whose first byte is no quote begins with the form of a byte just if firstB says so, and with no other -/
theorem digit_back : ∀ c : UInt8, 0 ≤ hexI c → digB (hexI c).toNat = c := by
  have h : ∀ c : Fin 256, 0 ≤ hexI (UInt8.ofNat c.1) → digB (hexI (UInt8.ofNat c.1)).toNat = UInt8.ofNat c.1 := by decide +kernel
  intro c hc
  have := h ⟨c.toNat, c.toNat_lt⟩ (by simpa using hc)
  simpa using this
theorem rare_form : ∀ b : UInt8, rareB b = true → formB b = [92, 120, digB (b.toNat / 16), digB (b.toNat % 16)] := by
  have h : ∀ b : Fin 256, rareB (UInt8.ofNat b.1) = true → formB (UInt8.ofNat b.1) = [92, 120, digB ((UInt8.ofNat b.1).toNat / 16), digB ((UInt8.ofNat b.1).toNat % 16)] := by decide +kernel
  intro b hb
  have := h ⟨b.toNat, b.toNat_lt⟩ (by simpa using hb)
  simpa using this
theorem first_is (c : UInt8) (r : List UInt8) (hc : c ≠ 34) (h : (firstB (c :: r)).2.2 = true) : formB (firstB (c :: r)).1 <+: (c :: r) ∧ (firstB (c :: r)).2.1 = (formB (firstB (c :: r)).1).length := by
  by_cases h1 : c ≠ 92
  · have e : firstB (c :: r) = (c, 1, !rareB c && (c != 10 && c != 9)) := by simp [firstB, h1]
    rw [e] at h ⊢
    dsimp only at h ⊢
    simp at h
    have f : formB c = [c] := by simp [formB, hc, h1, h.1, h.2.1, h.2.2]
    rw [f]
    exact ⟨⟨r, rfl⟩, rfl⟩
  · have h1' : c = 92 := by simpa using h1
    subst h1'
    match r, h with
    | [], h => simp [firstB] at h
    | d :: r', h =>
      by_cases h2 : d = 34 ∨ d = 92
      · have e : firstB (92 :: d :: r') = (d, 2, true) := by simp [firstB, h2]
        have f : formB d = [92, d] := by simp [formB, h2]
        rw [e, f]
        exact ⟨⟨r', rfl⟩, rfl⟩
      · by_cases h3 : d = 110
        · subst h3
          have e : firstB (92 :: 110 :: r') = (10, 2, true) := by simp [firstB]
          rw [e]
          exact ⟨⟨r', rfl⟩, rfl⟩
        · by_cases h4 : d = 116
          · subst h4
            have e : firstB (92 :: 116 :: r') = (9, 2, true) := by simp [firstB]
            rw [e]
            exact ⟨⟨r', rfl⟩, rfl⟩
          · by_cases h5 : d = 120
            · subst h5
              have e : firstB (92 :: 120 :: r') = ((hexB r').1, 4, (hexB r').2) := by simp [firstB]
              rw [e] at h ⊢
              dsimp only at h ⊢
              match r', h with
              | [], h => simp [hexB] at h
              | [_], h => simp [hexB] at h
              | a :: b :: r'', h =>
                rw [hexB_two] at h ⊢
                by_cases h6 : hexI a < 0 ∨ hexI b < 0
                · rw [hex2, if_pos h6] at h; simp at h
                · rw [hex2, if_neg h6] at h ⊢
                  dsimp only at h ⊢
                  have ra := hexI_range a
                  have rb := hexI_range b
                  have da := digit_back a (by omega)
                  have db := digit_back b (by omega)
                  have e2 : (UInt8.ofNat (hexI a * 16 + hexI b).toNat).toNat = (hexI a * 16 + hexI b).toNat := by
                    rw [UInt8.toNat_ofNat']; omega
                  rw [rare_form _ h, e2, show (hexI a * 16 + hexI b).toNat / 16 = (hexI a).toNat from by omega, show (hexI a * 16 + hexI b).toNat % 16 = (hexI b).toNat from by omega, da, db]
                  exact ⟨⟨r'', rfl⟩, rfl⟩
            · have e : firstB (92 :: d :: r') = (0, 0, false) := by simp [firstB, h2, h3, h4, h5]
              rw [e] at h
              simp at h
theorem occ_form (s : ByteArray) (b : UInt8) (k : Nat) (h : occ s (formT b) k = true) : firstB (s.data.toList.drop k) = (b, (formB b).length, true) := by
  unfold occ Lib.occAt at h
  obtain ⟨r, hr⟩ := List.isPrefixOf_iff_prefix.1 h
  rw [← hr]
  exact first_form b r
theorem form_occ (s : ByteArray) (c : UInt8) (k : Nat) (hk : k < s.size) (hc : s[k] = c) (h34 : c ≠ 34) (h : (firstB (s.data.toList.drop k)).2.2 = true) : occ s (formT (firstB (s.data.toList.drop k)).1) k = true := by
  rw [drop_cons s k hk, hc] at h ⊢
  unfold occ Lib.occAt
  rw [drop_cons s k hk, hc]
  exact List.isPrefixOf_iff_prefix.2 (first_is c _ h34 h).1
end Go.Proofs.Ytimfabnjopkhdaa
