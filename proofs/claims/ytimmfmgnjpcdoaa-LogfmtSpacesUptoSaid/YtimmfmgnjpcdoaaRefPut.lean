/- Pieces of texts, and where one stands in another one. No program.
   The document's own Put: it answers as the program's does.
   The document's own Put; and what a text that begins with a form is.
   The document's own Get: it answers as the program's does.
   A text with one byte another one: a text of the same length. -/
import Derived.Test.YtimmfmgnjpcdoaaPut
import Derived.Test.YtimmfmgnjpcdoaaConv
import Derived.Test.YtimmfmgnjpcdoaaBackPure
import Derived.Lib.Index
import Derived.Lib.Bytealg
import Derived.Deep.AppendLies
import Derived.Deep.RegionHeld3
import Derived.Laws.OwnMore
import Derived.Lib.ConvBytes
import Derived.HandedShaped
namespace Go.Proofs.Ytimmfmgnjpcdoaa
open Go.RowKit
set_option linter.unusedVariables false
set_option linter.unusedSimpArgs false

theorem text_app (p x : ByteArray) : (p ++ x).data.toList = p.data.toList ++ x.data.toList := by simp [ByteArray.data_append]
theorem put_size (l : List UInt8) : (⟨l.toArray⟩ : ByteArray).size = l.length := by simp [ByteArray.size]
theorem text_part (p : ByteArray) (i j : Nat) : (p.extract i j).data.toList = (p.data.toList.take j).drop i := by
  rw [ByteArray.data_extract, Array.toList_extract]
  simp [List.extract, List.drop_take]
theorem text_ext {a b : ByteArray} (h : a.data.toList = b.data.toList) : a = b := ByteArray.ext (Array.toList_inj.1 h)
theorem text_empty {a : ByteArray} (h : a.size = 0) : a = .empty := text_ext (by rw [show a.data.toList = [] from List.eq_nil_of_length_eq_zero (by rw [size_toList]; exact h)]; rfl)
theorem empty_iff (a : ByteArray) : a.toList.isEmpty = decide (a.size = 0) := by
  rw [Lib.toList_data, ← size_toList]
  cases a.data.toList <;> simp
def occ (s x : ByteArray) (i : Nat) : Bool := Lib.occAt s.data.toList x.data.toList i
theorem occ_piece (s x : ByteArray) (i : Nat) (h : i + x.size ≤ s.size) : ((s.extract i (i + x.size)).toList == x.toList) = occ s x i := by
  rw [Lib.toList_data, Lib.toList_data, text_part, occ, Lib.occAt_iff_take _ _ _ (by rw [size_toList, size_toList]; exact h), size_toList, List.drop_take, Nat.add_sub_cancel_left]
theorem occ_room (s x : ByteArray) (i : Nat) (h : s.size < i + x.size) (h0 : x.size ≠ 0) : occ s x i = false := by
  cases e : occ s x i with
  | false => rfl
  | true =>
    rcases Lib.occAt_room e with h1 | h1
    · rw [size_toList, size_toList] at h1; omega
    · exact absurd (by rw [← size_toList, h1]; rfl) h0
end Go.Proofs.Ytimmfmgnjpcdoaa
namespace Go.Proofs.Ytimmfmgnjpcdoaa
open Go.RowKit
set_option linter.unusedVariables false
set_option linter.unusedSimpArgs false

theorem conv_one (w : World) (b : UInt8) : (convert 22 9 (.slice (some ⟨w.heap.size, 0, none⟩) 1 1)).run Try.prog (w.alloc (.cells #[.int .u8 (b.toNat : Int)] 5)) = .ok (.string ⟨#[b]⟩) (w.alloc (.cells #[.int .u8 (b.toNat : Int)] 5)) :=
  conv_own (own_new w [b] 0 (Nat.zero_le _) (by simp))
theorem conv_two (w : World) (a b : UInt8) : (convert 22 9 (.slice (some ⟨w.heap.size, 0, none⟩) 2 2)).run Try.prog (w.alloc (.cells #[.int .u8 (a.toNat : Int), .int .u8 (b.toNat : Int)] 5)).drew = .ok (.string ⟨#[a, b]⟩) (w.alloc (.cells #[.int .u8 (a.toNat : Int), .int .u8 (b.toNat : Int)] 5)).drew :=
  conv_own (w := (w.alloc (.cells #[.int .u8 (a.toNat : Int), .int .u8 (b.toNat : Int)] 5)).drew) (own_new w [a, b] 0 (Nat.zero_le _) (by simp))

def formT (b : UInt8) : ByteArray := ⟨(formB b).toArray⟩
theorem formT_of {b : UInt8} {l : List UInt8} {t : ByteArray} (h : formB b = l) (ht : t.data.toList = l) : t = formT b := text_ext (by rw [ht, ← h]; rfl)
theorem ret_text {a b : ByteArray} (h : a = b) : Ending.returned (.string a) = .returned (.string b) := by rw [h]

set_option maxRecDepth 100000 in
set_option maxHeartbeats 400000 in
theorem refOne_any (b : UInt8) (W : World) :
    Calls Try.prog 47 #[.int .u8 (b.toNat : Int)] W fun e w' => e = .returned (.string (formT b)) ∧ Below W.heap.size W w' := by
  have hb := b.toNat_lt
  have hc1 := conv_one W b
  by_cases h1 : b = 34 ∨ b = 92
  · have e : formB b = [92, b] := by simp [formB, h1]
    have E := Lib.hid e
    have hx : b.toNat = 34 ∨ b.toNat = 92 := by rcases h1 with rfl | rfl <;> simp
    have hx1 : (((b.toNat : Int)) == 34) = true ∨ (((b.toNat : Int)) == 34) = false ∧ (((b.toNat : Int)) == 92) = true := by
      rcases hx with h | h
      · left; rw [beq_iff_eq]; omega
      · right; exact ⟨by rw [beq_eq_false_iff_ne]; omega, by rw [beq_iff_eq]; omega⟩
    clear h1 hx e
    rcases hx1 with g1 | ⟨g1, g2⟩
    all_goals
      go_enter Try.func47, Try.ntmps47
      go_wp2
      go_ret
      exact ⟨ret_text (formT_of E.out (by rw [text_app]; rfl)), (Below.refl _ _).alloc (Nat.le_refl _) _⟩
  · have hx : ¬ b.toNat = 34 ∧ ¬ b.toNat = 92 := by
      refine ⟨fun h => h1 (.inl ?_), fun h => h1 (.inr ?_)⟩ <;> exact UInt8.toNat_inj.1 h
    have g1 : (((b.toNat : Int)) == 34) = false := by rw [beq_eq_false_iff_ne]; omega
    have g2 : (((b.toNat : Int)) == 92) = false := by rw [beq_eq_false_iff_ne]; omega
    by_cases h2 : b = 10
    · have e : formB b = [92, 110] := by subst h2; rfl
      have E := Lib.hid e
      have g3 : (((b.toNat : Int)) == 10) = true := by subst h2; rfl
      clear h1 h2 hx e
      go_enter Try.func47, Try.ntmps47
      go_wp2
      go_ret
      exact ⟨ret_text (formT_of E.out rfl), Below.refl _ _⟩
    · have g3 : (((b.toNat : Int)) == 10) = false := by rw [beq_eq_false_iff_ne]; intro h; exact h2 (UInt8.toNat_inj.1 (by simp; omega))
      by_cases h3 : b = 9
      · have e : formB b = [92, 116] := by subst h3; rfl
        have E := Lib.hid e
        have g4 : (((b.toNat : Int)) == 9) = true := by subst h3; rfl
        clear h1 h2 h3 hx e
        go_enter Try.func47, Try.ntmps47
        go_wp2
        go_ret
        exact ⟨ret_text (formT_of E.out rfl), Below.refl _ _⟩
      · have g4 : (((b.toNat : Int)) == 9) = false := by rw [beq_eq_false_iff_ne]; intro h; exact h3 (UInt8.toNat_inj.1 (by simp; omega))
        by_cases h4 : rareB b = true
        · have e : formB b = [92, 120, digB (b.toNat / 16), digB (b.toNat % 16)] := by simp [formB, h1, h2, h3, h4]
          obtain ⟨q, hq⟩ : ∃ q, q = b.toNat / 16 := ⟨_, rfl⟩
          obtain ⟨r, hr⟩ : ∃ r, r = b.toNat % 16 := ⟨_, rfl⟩
          have hq16 : q < 16 := by omega
          have hr16 : r < 16 := by omega
          have hq1 : IntKind.u8.wrap ((b.toNat : Int) / 16) = (q : Int) := by rw [IntKind.wrap_u8]; omega
          have hr1 : (b.toNat : Int).tmod 16 = (r : Int) := by rw [Int.tmod_eq_emod_of_nonneg (by omega)]; omega
          have hq16' : (q : Int) < 16 := by omega
          have hr16' : (r : Int) < 16 := by omega
          have hd1 := dig_at q hq16
          have hd2 := dig_at r hr16
          rw [← hq, ← hr] at e
          have E := Lib.hid e
          have hc2 := conv_two W (digB q) (digB r)
          have hrare : (b.toNat : Int) < 32 ∨ ((32 : Int) ≤ (b.toNat : Int) ∧ (126 : Int) < (b.toNat : Int)) := by
            unfold rareB at h4
            simp at h4
            omega
          clear h1 h2 h3 h4 hx hq hr e hc1
          rcases hrare with k1 | ⟨k1, k2⟩
          all_goals
            go_enter Try.func47, Try.ntmps47
            go_wp2
            go_region_law (fail)
            all_goals
              go_wp2
              go_ret
              exact ⟨ret_text (formT_of E.out (by rw [text_app]; rfl)), ((Below.refl _ _).alloc (Nat.le_refl _) _).drew⟩
        · have e : formB b = [b] := by simp [formB, h1, h2, h3, h4]
          have E := Lib.hid e
          have hrare : (32 : Int) ≤ (b.toNat : Int) ∧ (b.toNat : Int) ≤ 126 := by
            unfold rareB at h4
            simp at h4
            have n10 : ¬ b.toNat = 10 := fun h => h2 (UInt8.toNat_inj.1 (by simpa using h))
            have n9 : ¬ b.toNat = 9 := fun h => h3 (UInt8.toNat_inj.1 (by simpa using h))
            omega
          obtain ⟨k1, k2⟩ := hrare
          clear h1 h2 h3 h4 hx e
          go_enter Try.func47, Try.ntmps47
          go_wp2
          go_ret
          exact ⟨ret_text (formT_of E.out rfl), (Below.refl _ _).alloc (Nat.le_refl _) _⟩
end Go.Proofs.Ytimmfmgnjpcdoaa
namespace Go.Proofs.Ytimmfmgnjpcdoaa
open Go.RowKit
set_option linter.unusedVariables false
set_option linter.unusedSimpArgs false

theorem OwnB.below {w w' : World} {B e : Nat} {v : Value} {l : List UInt8} (h : OwnB w B e v l) (hb : Below w.heap.size w w') : OwnB w' B e v l :=
  World.ownsRow.kept (row := none) h ⟨hb.os, hb.tape, hb.output, hb.size, fun k hk _ => hb.block k hk⟩ (by cases h : v.ownBlock <;> simp)

def putT (s : ByteArray) (k : Nat) : ByteArray := ⟨(34 :: (s.data.toList.take k).flatMap formB).toArray⟩
theorem putT_snoc (s : ByteArray) (k : Nat) (h : k < s.size) : putT s (k + 1) = putT s k ++ formT s[k] := by
  apply text_ext
  rw [text_app]
  show 34 :: (s.data.toList.take (k + 1)).flatMap formB = (34 :: (s.data.toList.take k).flatMap formB) ++ formB s[k]
  rw [take_flat s k h, List.cons_append]
theorem putT_end (s : ByteArray) : putT s s.size ++ ⟨#[34]⟩ = ⟨(putB s.data.toList).toArray⟩ := by
  apply text_ext
  rw [text_app]
  show (34 :: (s.data.toList.take s.size).flatMap formB) ++ [34] = putB s.data.toList
  rw [List.take_of_length_le (by rw [size_toList]; exact Nat.le_refl _), List.cons_append]
  rfl
theorem putT_size (s : ByteArray) (k : Nat) : (putT s k).size ≤ 4 * s.size + 1 := by
  have h := (flat_len (s.data.toList.take k)).2
  have e : (putT s k).size = ((s.data.toList.take k).flatMap formB).length + 1 := put_size _
  rw [e]
  rw [List.length_take, size_toList] at h
  omega
theorem formT_size (b : UInt8) : 1 ≤ (formT b).size ∧ (formT b).size ≤ 4 := by
  have e : (formT b).size = (formB b).length := put_size _
  rw [e]
  exact formB_len b

set_option maxRecDepth 100000 in
set_option maxHeartbeats 400000 in
theorem refPut_any (s : ByteArray) (hs : s.size ≤ 4000000) (W : World) :
    Calls Try.prog 35 #[.string s] W fun e w' => e = .returned (.string ⟨(putB s.data.toList).toArray⟩) ∧ Below W.heap.size W w' := by
  go_enter Try.func35, Try.ntmps35
  go_wp2
  go_loopw [3, 4] (fun t i wz => ∃ k : Nat, k ≤ s.size ∧ i = .int .i64 k ∧ t = .string (putT s k) ∧ Below W.heap.size W wz) (fun _ i _ => s.size - (intOf i).toNat)
  case atStart => exact ⟨0, Nat.zero_le _, rfl, rfl, Below.refl _ _⟩
  case round =>
    obtain ⟨k, hk, rfl, rfl, hb⟩ := hrel
    have hz := putT_size s k
    have he := putT_end s
    have hsn := putT_snoc s k
    have hfs := formT_size
    obtain ⟨t, ht⟩ : ∃ t, putT s k = t := ⟨_, rfl⟩
    rw [ht] at hz hsn ⊢
    have HE := Lib.hid he
    have HT := Lib.hid ht
    have hsz := hb.size
    clear he ht
    by_cases hkn : k < s.size
    · have hone := fun w => refOne_any s[k] w
      have hsn := hsn hkn
      have hf := (hfs s[k]).2
      obtain ⟨x, hx⟩ : ∃ x, formT s[k] = x := ⟨_, rfl⟩
      rw [hx] at hsn hf
      simp only [hx] at hone
      have HO := Lib.hid hone
      have HS := Lib.hid hsn
      have g1 : t.size + x.size ≤ 16777216 := by omega
      clear hone hsn hfs hx
      go_wp2_with fail
      refine (HO.out _).mono ?_
      rintro e w2 ⟨rfl, hb2⟩
      have hb3 := hb.trans (hb2.mono hsz)
      go_wp2
      go_round
      case rel => exact ⟨k + 1, by omega, by go_num, by rw [HS.out], hb3⟩
      case measure => simp [intOf]; omega
    · obtain rfl : k = s.size := by omega
      clear hsn hfs
      have g1 : t.size + 1 ≤ 16777216 := by omega
      have HEE : Hid (t ++ ⟨#[34]⟩ = ⟨(putB s.data.toList).toArray⟩) := by rw [← HT.out]; exact HE
      go_wp2
      go_ret
      exact ⟨ret_text HEE.out, hb⟩

/-- a text whose first byte is no quote begins with the form of a byte just if firstB says so, and with no other -/
theorem digit_back : ∀ c : UInt8, 0 ≤ hexI c → digB (hexI c).toNat = c := by
  have h : ∀ c : Fin 256, 0 ≤ hexI (UInt8.ofNat c.1) → digB (hexI (UInt8.ofNat c.1)).toNat = UInt8.ofNat c.1 := by decide +kernel
  intro c hc
  have := h ⟨c.toNat, c.toNat_lt⟩ (by simpa using hc)
  simpa using this
theorem rare_form : ∀ b : UInt8, rareB b = true → formB b = [92, 120, digB (b.toNat / 16), digB (b.toNat % 16)] := by
  have h : ∀ b : Fin 256, rareB (UInt8.ofNat b.1) = true → formB (UInt8.ofNat b.1) = [92, 120, digB ((UInt8.ofNat b.1).toNat / 16), digB ((UInt8.ofNat b.1).toNat % 16)] := by decide +kernel
  intro b hb
  have := h ⟨b.toNat, b.toNat_lt⟩ (by simpa using hb)
  simpa using this
theorem first_is (c : UInt8) (r : List UInt8) (hc : c ≠ 34) (h : (firstB (c :: r)).2.2 = true) : formB (firstB (c :: r)).1 <+: (c :: r) ∧ (firstB (c :: r)).2.1 = (formB (firstB (c :: r)).1).length := by
  by_cases h1 : c ≠ 92
  · have e : firstB (c :: r) = (c, 1, !rareB c && (c != 10 && c != 9)) := by simp [firstB, h1]
    rw [e] at h ⊢
    dsimp only at h ⊢
    simp at h
    have f : formB c = [c] := by simp [formB, hc, h1, h.1, h.2.1, h.2.2]
    rw [f]
    exact ⟨⟨r, rfl⟩, rfl⟩
  · have h1' : c = 92 := by simpa using h1
    subst h1'
    match r, h with
    | [], h => simp [firstB] at h
    | d :: r', h =>
      by_cases h2 : d = 34 ∨ d = 92
      · have e : firstB (92 :: d :: r') = (d, 2, true) := by simp [firstB, h2]
        have f : formB d = [92, d] := by simp [formB, h2]
        rw [e, f]
        exact ⟨⟨r', rfl⟩, rfl⟩
      · by_cases h3 : d = 110
        · subst h3
          have e : firstB (92 :: 110 :: r') = (10, 2, true) := by simp [firstB]
          rw [e]
          exact ⟨⟨r', rfl⟩, rfl⟩
        · by_cases h4 : d = 116
          · subst h4
            have e : firstB (92 :: 116 :: r') = (9, 2, true) := by simp [firstB]
            rw [e]
            exact ⟨⟨r', rfl⟩, rfl⟩
          · by_cases h5 : d = 120
            · subst h5
              have e : firstB (92 :: 120 :: r') = ((hexB r').1, 4, (hexB r').2) := by simp [firstB]
              rw [e] at h ⊢
              dsimp only at h ⊢
              match r', h with
              | [], h => simp [hexB] at h
              | [_], h => simp [hexB] at h
              | a :: b :: r'', h =>
                rw [hexB_two] at h ⊢
                by_cases h6 : hexI a < 0 ∨ hexI b < 0
                · rw [hex2, if_pos h6] at h; simp at h
                · rw [hex2, if_neg h6] at h ⊢
                  dsimp only at h ⊢
                  have ra := hexI_range a
                  have rb := hexI_range b
                  have da := digit_back a (by omega)
                  have db := digit_back b (by omega)
                  have e2 : (UInt8.ofNat (hexI a * 16 + hexI b).toNat).toNat = (hexI a * 16 + hexI b).toNat := by
                    rw [UInt8.toNat_ofNat']; omega
                  rw [rare_form _ h, e2, show (hexI a * 16 + hexI b).toNat / 16 = (hexI a).toNat from by omega, show (hexI a * 16 + hexI b).toNat % 16 = (hexI b).toNat from by omega, da, db]
                  exact ⟨⟨r'', rfl⟩, rfl⟩
            · have e : firstB (92 :: d :: r') = (0, 0, false) := by simp [firstB, h2, h3, h4, h5]
              rw [e] at h
              simp at h
theorem occ_form (s : ByteArray) (b : UInt8) (k : Nat) (h : occ s (formT b) k = true) : firstB (s.data.toList.drop k) = (b, (formB b).length, true) := by
  unfold occ Lib.occAt at h
  obtain ⟨r, hr⟩ := List.isPrefixOf_iff_prefix.1 h
  rw [← hr]
  exact first_form b r
theorem form_occ (s : ByteArray) (c : UInt8) (k : Nat) (hk : k < s.size) (hc : s[k] = c) (h34 : c ≠ 34) (h : (firstB (s.data.toList.drop k)).2.2 = true) : occ s (formT (firstB (s.data.toList.drop k)).1) k = true := by
  rw [drop_cons s k hk, hc] at h ⊢
  unfold occ Lib.occAt
  rw [drop_cons s k hk, hc]
  exact List.isPrefixOf_iff_prefix.2 (first_is c _ h34 h).1
end Go.Proofs.Ytimmfmgnjpcdoaa
namespace Go.Proofs.Ytimmfmgnjpcdoaa
open Go.RowKit
set_option linter.unusedVariables false
set_option linter.unusedSimpArgs false

theorem one_nat (b : Nat) (h : b < 256) (W : World) : Calls Try.prog 47 #[.int .u8 (b : Int)] W fun e w' => e = .returned (.string (formT (UInt8.ofNat b))) ∧ Below W.heap.size W w' := by
  have := refOne_any (UInt8.ofNat b) W
  rw [show ((UInt8.ofNat b).toNat : Int) = (b : Int) from by rw [UInt8.toNat_ofNat']; omega] at this
  exact this
theorem nat_byte (b : Nat) (h : b < 256) : bV [UInt8.ofNat b] = [.int .u8 (b : Int)] := by
  have : ((UInt8.ofNat b).toNat : Int) = (b : Int) := by rw [UInt8.toNat_ofNat']; omega
  simp only [bV, List.map_cons, List.map_nil, this]

set_option maxRecDepth 100000 in
set_option maxHeartbeats 2000000 in
theorem refGet_any (s : ByteArray) (hs : s.size ≤ 16000000) (W : World) :
    Calls Try.prog 28 #[.string s] W fun e w' => e = .returned (.tuple #[.string ⟨(getR s.data.toList).1.toArray⟩, .int .i64 ((getR s.data.toList).2.1 : Int), .bool (getR s.data.toList).2.2]) ∧ Below W.heap.size W w' := by
  obtain ⟨i0, hi, hz0, hz1, hz2⟩ := info_parts infoU8
  by_cases h0 : s.size = 0
  · have e : getR s.data.toList = ([], 0, false) := by
      have : s.data.toList = [] := List.eq_nil_of_length_eq_zero (by simpa using h0)
      rw [this]; rfl
    rw [e]
    have hem : s.toList = [] := by rw [Lib.toList_data]; exact List.eq_nil_of_length_eq_zero (by simpa using h0)
    have hem2 : s.toList.isEmpty = true := by rw [hem]; rfl
    have hH := Lib.hid h0
    clear h0
    go_enter Try.func28, Try.ntmps28
    go_wp2
    go_ret3
    exact ⟨rfl, Below.refl _ _⟩
  · obtain ⟨r, hr, hrl⟩ := bytes_cons s (by omega)
    obtain ⟨c0, hc0⟩ : ∃ c, s[0] = c := ⟨_, rfl⟩
    rw [hc0] at hr
    have hp : 0 < s.size := by omega
    have hp' : (0 : Int) < (s.size : Int) := by omega
    have hne : s.toList.isEmpty = false := by rw [Lib.toList_data, hr]; rfl
    have hne2 : ¬ s.toList = [] := by rw [Lib.toList_data, hr]; simp
    by_cases h1 : c0 = 34
    · obtain ⟨g1, g2⟩ := byte_eq c0 34 h1
      replace g1 : ((c0.toNat : Int) == 34) = true := g1
      replace g2 : ((c0.toNat : Int) != 34) = false := g2
      have hB : getB s.data.toList = getGo s.size (s.data.toList.drop 1) [] 1 := by rw [hr, h1]; simp [getB, hrl]
      have HB := Lib.hid hB
      clear hB hr h1 h0
      go_enter Try.func28, Try.ntmps28
      go_wp2
      go_loopw [5, 6] (fun v i wr => ∃ (k f : Nat) (out : List UInt8), 1 ≤ k ∧ k ≤ s.size ∧ i = .int .i64 k ∧ OwnB wr W.heap.size 5 v out ∧ out.length ≤ k ∧ s.size < f + k ∧ getB s.data.toList = getGo f (s.data.toList.drop k) out k ∧ Below W.heap.size W wr) (fun _ i _ => s.size - (intOf i).toNat)
      case atStart => exact ⟨1, s.size, [], Nat.le_refl _, hp, rfl, OwnB.nil _ _ _, by simp, by omega, HB.out, Below.refl _ _⟩
      case round =>
        obtain ⟨k, f, out, hk1, hk, rfl, hown, hol, hf, hg, hbel⟩ := hrel
        have HG := Lib.hid hg
        clear hg
        have hsz := hbel.size
        by_cases hkn : k < s.size
        · have hdc := drop_cons s k hkn
          have hkn' : (k : Int) < (s.size : Int) := by omega
          obtain ⟨f, rfl⟩ : ∃ f', f = f' + 1 := ⟨f - 1, by omega⟩
          by_cases hc : s[k] = 34
          · have e : getR s.data.toList = (out, k + 1, true) := by
              have : getB s.data.toList = some (out, k + 1) := by rw [HG.out, hdc, hc]; simp [getGo]
              rw [getR, this]
            obtain ⟨c, hcc⟩ : ∃ c, s[k] = c := ⟨_, rfl⟩
            rw [hcc] at hc
            obtain ⟨k1, k2⟩ := byte_eq c 34 hc
            replace k1 : ((c.toNat : Int) == 34) = true := k1
            replace k2 : ((c.toNat : Int) != 34) = false := k2
            have hconv := conv_own hown
            have E := Lib.hid e
            clear e hc hdc
            go_wp2
            go_ret3
            exact ⟨by rw [E.out]; rfl, hbel⟩
          · obtain ⟨c, hcc⟩ : ∃ c, s[k] = c := ⟨_, rfl⟩
            rw [hcc] at hc hdc
            obtain ⟨k1, k2⟩ := byte_ne c 34 hc
            replace k1 : ((c.toNat : Int) == 34) = false := k1
            replace k2 : ((c.toNat : Int) != 34) = true := k2
            have hstep : (firstB (s.data.toList.drop k)).2.2 = true → getB s.data.toList = getGo f (s.data.toList.drop (k + (firstB (s.data.toList.drop k)).2.1)) (out ++ [(firstB (s.data.toList.drop k)).1]) (k + (firstB (s.data.toList.drop k)).2.1) := fun hok => by
              rw [HG.out]
              conv => lhs; rw [hdc]
              rw [hdc] at hok
              rw [getGo, if_neg hc, if_pos hok, ← hdc, List.drop_drop]
            have hstop : (firstB (s.data.toList.drop k)).2.2 = false → getR s.data.toList = ([], 0, false) := fun hok => by
              have : getB s.data.toList = none := by
                rw [HG.out]
                conv => lhs; rw [hdc]
                rw [hdc] at hok
                rw [getGo, if_neg hc, if_neg (by rw [hok]; decide)]
              rw [getR, this]
            have hfo := form_occ s c k hkn hcc hc
            obtain ⟨⟨fb, fn, fk⟩, hfb⟩ : ∃ x, firstB (s.data.toList.drop k) = x := ⟨_, rfl⟩
            have hof := fun b h => (occ_form s b k h).symm.trans hfb
            rw [hfb] at hstep hstop hfo
            dsimp only at hstep hstop hfo
            have HST := Lib.hid hstep
            have HSP := Lib.hid hstop
            have HFO := Lib.hid hfo
            have HOF := Lib.hid hof
            clear hstep hstop hfo hof hfb hc hdc
            go_wp2
            go_loopw [5, 6, 7, 8] (fun v i fd j wz => ∃ (b : Nat) (d : Bool) (n : Nat) (o : List UInt8), b ≤ 256 ∧ j = .int .i64 b ∧ fd = .bool d ∧ i = .int .i64 n ∧ OwnB wz W.heap.size 5 v o ∧ Below W.heap.size W wz ∧ Hid (d = false → n = k ∧ o = out ∧ ∀ b', b' < b → occ s (formT (UInt8.ofNat b')) k = false) ∧ Hid (d = true → fk = true ∧ n = k + fn ∧ o = out ++ [fb] ∧ 1 ≤ fn ∧ k + fn ≤ s.size)) (fun _ _ _ j _ => 256 - (intOf j).toNat)
            case atStart => exact ⟨0, false, k, out, by omega, rfl, rfl, rfl, hown, hbel, Lib.hid fun _ => ⟨rfl, rfl, fun b' h => absurd h (by omega)⟩, Lib.hid fun h => Bool.noConfusion h⟩
            case round =>
              obtain ⟨b, d, n, o, hb, rfl, rfl, rfl, hoz, hbz, hdf, hdt⟩ := hrel
              have hszz := hbz.size
              rcases d with _ | _
              · obtain ⟨rfl, rfl, hno⟩ := hdf.out rfl
                have HN := Lib.hid hno
                clear hdf hdt hno
                by_cases hb6 : b < 256
                · have hb6' : (b : Int) < 256 := by omega
                  have hone := fun w => one_nat b hb6 w
                  have hpc := occ_piece s (formT (UInt8.ofNat b)) n
                  have hroom := occ_room s (formT (UInt8.ofNat b)) n
                  have hfz := formT_size (UInt8.ofNat b)
                  have hof := HOF.out (UInt8.ofNat b)
                  have hfl : (formT (UInt8.ofNat b)).size = (formB (UInt8.ofNat b)).length := put_size _
                  have hby := nat_byte b hb6
                  obtain ⟨t, ht⟩ : ∃ t, formT (UInt8.ofNat b) = t := ⟨_, rfl⟩
                  have HT := Lib.hid ht
                  simp only [ht] at hone
                  rw [ht] at hpc hroom hfz hof hfl
                  obtain ⟨f1, f2⟩ := hfz
                  have HO := Lib.hid hone
                  have HOC := Lib.hid hof
                  have HFL := Lib.hid hfl
                  have HBY := Lib.hid hby
                  clear hone hof hfl ht hby
                  by_cases hrm : n + t.size ≤ s.size
                  · have hrm' : (n : Int) + (t.size : Int) ≤ (s.size : Int) := by omega
                    replace hpc := hpc hrm
                    by_cases ho : occ s t n = true
                    · have hfin := HOC.out ho
                      rw [ho] at hpc
                      injection hfin with e1 e2
                      injection e2 with e2 e3
                      rw [← HFL.out] at e2
                      subst e1 e2 e3
                      clear ho hroom
                      go_wp2_with fail
                      refine (HO.out _).mono ?_
                      rintro e w2 ⟨rfl, hb2⟩
                      have hown2 := hoz.below hb2
                      have hbel2 := hbz.trans (hb2.mono hszz)
                      have hsz2 := hbel2.size
                      clear hoz hbz hb2
                      go_wp2_with (at_builtin; refine wpList_append_own _ rfl (.tmp 56) (.tmp 59) 22 rfl W.heap.size 5 i0 (.int .u8 0) 1 1 Try.underlying22 hi hz0 hz1 hz2 rfl (by decide) _ _ _ rfl (hown2.alloc _) ⟨w2.heap.size, 0, none⟩ 1 1 [.int .u8 (b : Int)] rfl rfl (new_cells_at _ _ _ _ (by simp)) (fun u hu => by rw [List.mem_singleton.1 hu]; rfl) (by unfold maxLen; omega) (by omega) (by simp; omega) ?_)
                      intro v' w3 hoz' hgrow _
                      have hbz' := (hbel2.alloc hsz2 _).grown hgrow (by simp; omega) (fun r hr => (World.ownsRow.lt hown2 r hr).1)
                      have hown3 : OwnB w3 W.heap.size 5 v' (o ++ [UInt8.ofNat b]) := OwnB.snoc (m := [UInt8.ofNat b]) (by rw [HBY.out]; exact hoz')
                      clear hoz' hgrow hown2 hbel2
                      go_wp2
                      go_round
                      case rel => exact ⟨b + 1, true, n + t.size, o ++ [UInt8.ofNat b], by omega, by go_num, rfl, by go_num, hown3, hbz', Lib.hid fun h => Bool.noConfusion h, Lib.hid fun _ => ⟨by trivial, rfl, rfl, f1, hrm⟩⟩
                      case measure => simp [intOf]; omega
                    · have ho' : occ s t n = false := by simpa using ho
                      rw [ho'] at hpc
                      have hnext : ∀ b', b' < b + 1 → occ s (formT (UInt8.ofNat b')) n = false := fun b' hb' => by
                        rcases Nat.lt_succ_iff_lt_or_eq.1 hb' with h | rfl
                        · exact HN.out b' h
                        · rw [HT.out]; exact ho'
                      have HNX := Lib.hid hnext
                      clear ho ho' hroom hnext
                      go_wp2_with fail
                      refine (HO.out _).mono ?_
                      rintro e w2 ⟨rfl, hb2⟩
                      have hown2 := hoz.below hb2
                      have hbel2 := hbz.trans (hb2.mono hszz)
                      clear hoz hbz hb2
                      go_wp2
                      go_round
                      case rel => exact ⟨b + 1, false, n, o, by omega, by go_num, rfl, rfl, hown2, hbel2, Lib.hid fun _ => ⟨rfl, rfl, HNX.out⟩, Lib.hid fun h => Bool.noConfusion h⟩
                      case measure => simp [intOf]; omega
                  · have hr' : (s.size : Int) < (n : Int) + (t.size : Int) := by omega
                    have hup : (n : Int) + (t.size : Int) ≤ 33554432 := by omega
                    have ho' := hroom (by omega) (by omega)
                    have hnext : ∀ b', b' < b + 1 → occ s (formT (UInt8.ofNat b')) n = false := fun b' hb' => by
                      rcases Nat.lt_succ_iff_lt_or_eq.1 hb' with h | rfl
                      · exact HN.out b' h
                      · rw [HT.out]; exact ho'
                    have HNX := Lib.hid hnext
                    clear ho' hroom hnext hpc hrm
                    go_wp2_with fail
                    refine (HO.out _).mono ?_
                    rintro e w2 ⟨rfl, hb2⟩
                    have hown2 := hoz.below hb2
                    have hbel2 := hbz.trans (hb2.mono hszz)
                    clear hoz hbz hb2
                    go_wp2
                    go_round
                    case rel => exact ⟨b + 1, false, n, o, by omega, by go_num, rfl, rfl, hown2, hbel2, Lib.hid fun _ => ⟨rfl, rfl, HNX.out⟩, Lib.hid fun h => Bool.noConfusion h⟩
                    case measure => simp [intOf]; omega
                · obtain rfl : b = 256 := by omega
                  have hfk : fk = false := by
                    cases hh : fk with
                    | false => rfl
                    | true =>
                      have h1 := HFO.out hh
                      have h2 := HN.out fb.toNat fb.toNat_lt
                      rw [UInt8.ofNat_toNat, h1] at h2
                      exact Bool.noConfusion h2
                  have e := HSP.out hfk
                  have E := Lib.hid e
                  clear hfk e
                  go_wp2
                  go_ret3
                  exact ⟨by rw [E.out]; rfl, hbz⟩
              · obtain ⟨e1, rfl, rfl, f1, f2⟩ := hdt.out rfl
                have hst := HST.out e1
                have HST' := Lib.hid hst
                have hlen : (out ++ [fb]).length ≤ k + fn := by simp; omega
                have HLEN := Lib.hid hlen
                clear hdf hdt hst e1 hlen
                rcases (by omega : (b : Int) < 256 ∨ b = 256) with g | rfl
                all_goals
                  go_wp2
                  go_round
                  case rel => exact ⟨k + fn, f, out ++ [fb], by omega, by omega, rfl, hoz, HLEN.out, by omega, HST'.out, hbz⟩
                  case measure => simp [intOf]; omega
        · obtain rfl : k = s.size := by omega
          have e : getR s.data.toList = ([], 0, false) := by
            have : getB s.data.toList = none := by
              rw [HG.out, List.drop_of_length_le (by simp)]
              cases f <;> rfl
            rw [getR, this]
          have E := Lib.hid e
          clear e
          go_wp2
          go_ret3
          exact ⟨by rw [E.out]; rfl, hbel⟩
    · have e : getR s.data.toList = ([], 0, false) := by rw [hr]; simp [getR, getB, h1]
      rw [e]
      obtain ⟨g1, g2⟩ := byte_ne c0 34 h1
      replace g1 : ((c0.toNat : Int) == 34) = false := g1
      replace g2 : ((c0.toNat : Int) != 34) = true := g2
      clear h1 hr h0
      go_enter Try.func28, Try.ntmps28
      go_wp2
      go_ret3
      exact ⟨rfl, Below.refl _ _⟩
end Go.Proofs.Ytimmfmgnjpcdoaa
namespace Go.Proofs.Ytimmfmgnjpcdoaa
open Go.RowKit
set_option linter.unusedVariables false
set_option linter.unusedSimpArgs false

theorem ints_of (w : World) (g : Nat) : ∀ n : Nat, (∀ i, i < n → ∃ m, w.cell? ⟨g, i, none⟩ = some (.int .u8 m)) → ∃ xs : List Int, xs.length = n ∧ ∀ i, i < n → w.cell? ⟨g, 0 + i, none⟩ = some (.int .u8 (xs.getD i 0))
  | 0, _ => ⟨[], rfl, fun i hi => absurd hi (by omega)⟩
  | n + 1, h => by
    obtain ⟨xs, hl, hx⟩ := ints_of w g n fun i hi => h i (by omega)
    obtain ⟨m, hm⟩ := h n (by omega)
    refine ⟨xs ++ [m], by simp [hl], fun i hi => ?_⟩
    rcases Nat.lt_or_ge i n with h1 | h1
    · rw [hx i h1, List.getD_eq_getElem?_getD, List.getD_eq_getElem?_getD, List.getElem?_append_left (by omega)]
    · obtain rfl : i = n := by omega
      rw [Nat.zero_add, hm, List.getD_eq_getElem?_getD, List.getElem?_append_right (by omega), hl]
      simp
theorem conv_ints (w : World) (g n cap : Nat) (h : ∀ i, i < n → ∃ m, w.cell? ⟨g, i, none⟩ = some (.int .u8 m)) : ∃ t : ByteArray, t.size = n ∧ (convert 22 9 (.slice (some ⟨g, 0, none⟩) n cap)).run Try.prog w = .ok (.string t) w := by
  obtain ⟨xs, hl, hx⟩ := ints_of w g n h
  exact ⟨_, by rw [strOfNums_size]; exact hl, run_convert_bytes_arg (P := Try.prog) w 22 5 Try.underlying22 Try.underlying5 g 0 n cap xs hl hx 9 Try.underlying9⟩
theorem conv_text (w : World) (s : ByteArray) : ∃ C w1, (convert 9 22 (.string s)).run Try.prog w = .ok (.slice (some ⟨w.heap.size, 0, none⟩) s.size C) w1 ∧ Below w.heap.size w w1 ∧ w.heap.size < w1.heap.size ∧ ∀ j, j < s.size → w1.frozen? ⟨w.heap.size, j, none⟩ = false ∧ ∃ m, w1.cell? ⟨w.heap.size, j, none⟩ = some (.int .u8 m) := by
  refine ⟨_, _, Lib.run_convert_string_bytes w 9 22 5 s Try.underlying9 Try.underlying22 Try.underlying5, ⟨rfl, rfl, rfl, ?_, fun k hk => Lib.bytesWorld_at_old w _ s k hk⟩, ?_, fun j hj => ⟨?_, _, Lib.bytesWorld_cell w _ s j hj⟩⟩
  · rw [Lib.bytesWorld_size]; omega
  · rw [Lib.bytesWorld_size]; omega
  · have hz : s.size ≤ (Lib.bytesCells w 5 s).size := by simp [Lib.bytesCells]
    simp only [World.frozen?, Lib.bytesWorld_at_new]
    simp
    omega

end Go.Proofs.Ytimmfmgnjpcdoaa
