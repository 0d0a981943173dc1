/- What is got of what was put: it, whatever stands behind it; nothing of less of it; and two texts are put alike just if they are the same. -/
import Derived.Test.YthmbgnjbmkmajaaPlain
namespace Go.Proofs.Ythmbgnjbmkmajaa
open Go.RowKit
set_option linter.unusedVariables false

def hex2 (a b : UInt8) : UInt8 × Bool := if hexI a < 0 ∨ hexI b < 0 then (0, false) else (UInt8.ofNat (hexI a * 16 + hexI b).toNat, rareB (UInt8.ofNat (hexI a * 16 + hexI b).toNat))
theorem hexB_two (a b : UInt8) (r : List UInt8) : hexB (a :: b :: r) = hex2 a b := rfl
theorem hex_back : ∀ b : UInt8, hex2 (digB (b.toNat / 16)) (digB (b.toNat % 16)) = (b, rareB b) := by
  have h : ∀ b : Fin 256, hex2 (digB (b.1 / 16)) (digB (b.1 % 16)) = (UInt8.ofNat b.1, rareB (UInt8.ofNat b.1)) := by decide +kernel
  intro b
  have := h ⟨b.toNat, b.toNat_lt⟩
  simpa using this
theorem rare_plain : ∀ b : UInt8, rareB b = false → b ≠ 34 → b ≠ 92 → b ≠ 10 → b ≠ 9 → (!rareB b && (b != 10 && b != 9)) = true := by
  intro b h _ _ h1 h2
  rw [h]
  simp [h1, h2]
/-- the form of a byte is read, whatever stands behind it -/
theorem first_form (b : UInt8) (r : List UInt8) : firstB (formB b ++ r) = (b, (formB b).length, true) := by
  unfold formB
  by_cases h1 : b = 34 ∨ b = 92
  · rw [if_pos h1]
    simp [firstB, h1]
  · rw [if_neg h1]
    by_cases h2 : b = 10
    · subst h2; simp [firstB]
    · rw [if_neg h2]
      by_cases h3 : b = 9
      · subst h3; simp [firstB]
      · rw [if_neg h3]
        by_cases h4 : rareB b = true
        · rw [if_pos h4]
          have := hex_back b
          simp [firstB, hexB_two, this, h4]
        · rw [if_neg h4]
          have h1a : b ≠ 34 := fun h => h1 (.inl h)
          have h1b : b ≠ 92 := fun h => h1 (.inr h)
          have h4' : rareB b = false := by simpa using h4
          simp [firstB, h1b, h4', h2, h3]
theorem form_head : ∀ b : UInt8, (formB b).head? ≠ some 34 := by
  have h : ∀ b : Fin 256, decide ((formB (UInt8.ofNat b.1)).head? ≠ some 34) = true := by decide +kernel
  intro b
  have := h ⟨b.toNat, b.toNat_lt⟩
  simpa using this
theorem form_short : ∀ b : UInt8, ∀ k, 0 < k → k < (formB b).length → (firstB ((formB b).take k)).2.2 = false := by
  have h : ∀ b : Fin 256, ∀ k : Fin 4, 0 < k.1 → k.1 < (formB (UInt8.ofNat b.1)).length → (firstB ((formB (UInt8.ofNat b.1)).take k.1)).2.2 = false := by decide +kernel
  intro b k h0 h1
  have h4 := (formB_len b).2
  have := h ⟨b.toNat, b.toNat_lt⟩ ⟨k, by omega⟩ h0 (by simpa using h1)
  simpa using this
theorem form_cons (b : UInt8) : ∃ c r, formB b = c :: r ∧ c ≠ 34 := by
  have h1 := (formB_len b).1
  have h2 := form_head b
  match h : formB b with
  | [] => rw [h] at h1; simp at h1
  | c :: r => exact ⟨c, r, rfl, fun hc => h2 (by rw [h, hc]; rfl)⟩
theorem go_form (f : Nat) (b : UInt8) (x out : List UInt8) (n : Nat) : getGo (f + 1) (formB b ++ x) out n = getGo f x (out ++ [b]) (n + (formB b).length) := by
  obtain ⟨c, r, e, hc⟩ := form_cons b
  have hf := first_form b x
  rw [e, List.cons_append] at hf ⊢
  rw [getGo, if_neg hc, hf]
  simp
theorem go_flat (l x : List UInt8) : ∀ (f : Nat) (out : List UInt8) (n : Nat), l.length < f → getGo f (l.flatMap formB ++ (34 :: x)) out n = some (out ++ l, n + (l.flatMap formB).length + 1) := by
  induction l with
  | nil =>
    intro f out n hf
    match f, hf with
    | f + 1, _ => simp [getGo]
  | cons b l ih =>
    intro f out n hf
    match f, hf with
    | f + 1, hf =>
      rw [List.flatMap_cons, List.append_assoc, go_form, ih f _ _ (by simp at hf; omega)]
      simp
      omega
theorem get_back (l x : List UInt8) : getR (putB l ++ x) = (l, (putB l).length, true) := by
  have hl := flat_len l
  have h : getB (putB l ++ x) = some (l, (putB l).length) := by
    have := go_flat l x ((l.flatMap formB ++ [34] ++ x).length + 1) [] 1 (by simp only [List.length_append]; omega)
    simp only [getB, putB, List.cons_append, if_true, List.length_cons, List.append_assoc, List.nil_append] at this ⊢
    rw [this]
    simp
    omega
  rw [getR, h]
theorem go_short (l : List UInt8) : ∀ (f k : Nat) (out : List UInt8) (n : Nat), k ≤ (l.flatMap formB).length → getGo f ((l.flatMap formB ++ [34]).take k) out n = none := by
  induction l with
  | nil =>
    intro f k out n hk
    obtain rfl : k = 0 := by simpa using hk
    cases f <;> simp [getGo]
  | cons b l ih =>
    intro f k out n hk
    match f with
    | 0 => simp [getGo]
    | f + 1 =>
      rw [List.flatMap_cons, List.append_assoc]
      rcases Nat.lt_or_ge k (formB b).length with h | h
      · rw [List.take_append_of_le_length (by omega)]
        rcases Nat.eq_zero_or_pos k with rfl | h0
        · simp [getGo]
        · have hs := form_short b k h0 h
          obtain ⟨c, r, e, hc⟩ := form_cons b
          obtain ⟨j, rfl⟩ : ∃ j, k = j + 1 := ⟨k - 1, by omega⟩
          rw [e, List.take_succ_cons] at hs ⊢
          rw [getGo, if_neg hc, hs]
          simp
      · obtain ⟨j, rfl⟩ : ∃ j, k = (formB b).length + j := ⟨k - (formB b).length, by omega⟩
        rw [List.take_length_add_append, go_form]
        exact ih f j _ _ (by rw [List.flatMap_cons, List.length_append] at hk; omega)
theorem get_short (l : List UInt8) (k : Nat) (hk : k < (putB l).length) : getR ((putB l).take k) = ([], 0, false) := by
  have h : getB ((putB l).take k) = none := by
    match k, hk with
    | 0, _ => rfl
    | k + 1, hk =>
      simp only [putB, List.take_succ_cons, getB, if_true]
      exact go_short l _ k _ _ (by simp only [putB, List.length_cons, List.length_append, List.length_nil] at hk; omega)
  rw [getR, h]
theorem put_inj {l m : List UInt8} (h : putB l = putB m) : l = m := by
  have h1 := get_back l []
  have h2 := get_back m []
  rw [h, h2] at h1
  injection h1 with h1
  exact h1.symm

structure PutTwo (s t p q : ByteArray) (b : Bool) : Prop where
  texts : (s.toList == t.toList) = b
  puts : (p.toList == q.toList) = b
theorem put_two (s t : ByteArray) : ∃ b, PutTwo s t ⟨(putB s.data.toList).toArray⟩ ⟨(putB t.data.toList).toArray⟩ b := by
  refine ⟨_, rfl, ?_⟩
  rw [Lib.toList_data, Lib.toList_data, Lib.toList_data, Lib.toList_data]
  rw [Bool.eq_iff_iff, beq_iff_eq, beq_iff_eq]
  exact ⟨fun h => put_inj h, fun h => by rw [h]⟩
theorem text_app (p x : ByteArray) : (p ++ x).data.toList = p.data.toList ++ x.data.toList := by simp [ByteArray.data_append]
theorem text_take (p : ByteArray) (k : Nat) : (p.extract 0 k).data.toList = p.data.toList.take k := by
  rw [ByteArray.data_extract, Array.toList_extract]
  simp [List.extract]

theorem put_data (l : List UInt8) : (⟨l.toArray⟩ : ByteArray).data.toList = l := rfl
theorem put_size (l : List UInt8) : (⟨l.toArray⟩ : ByteArray).size = l.length := by simp [ByteArray.size]
theorem get_put (s x : ByteArray) (hs : s.size ≤ 2000000) (hx : x.size ≤ 2000000) (W : World) :
    Calls Try.prog 13 #[.string (⟨(putB s.data.toList).toArray⟩ ++ x)] W fun e w' => e = .returned (.tuple #[.string s, .int .i64 ((⟨(putB s.data.toList).toArray⟩ : ByteArray).size : Int), .bool true]) ∧ Below W.heap.size W w' := by
  have hl := (put_len s.data.toList).2
  rw [size_toList] at hl
  have h := get_any (⟨(putB s.data.toList).toArray⟩ ++ x) (by rw [ByteArray.size_append, put_size]; omega) W
  rw [text_app, put_data, get_back] at h
  rw [put_size]
  exact h
theorem get_less (s : ByteArray) (k : Nat) (hs : s.size ≤ 2000000) (hk : k < (⟨(putB s.data.toList).toArray⟩ : ByteArray).size) (W : World) :
    Calls Try.prog 13 #[.string ((⟨(putB s.data.toList).toArray⟩ : ByteArray).extract 0 k)] W fun e w' => e = .returned (.tuple #[.string ⟨#[]⟩, .int .i64 0, .bool false]) ∧ Below W.heap.size W w' := by
  have hl := (put_len s.data.toList).2
  rw [size_toList] at hl
  rw [put_size] at hk
  have h := get_any ((⟨(putB s.data.toList).toArray⟩ : ByteArray).extract 0 k) (by rw [ByteArray.size_extract, put_size]; omega) W
  rw [text_take, put_data, get_short _ _ hk] at h
  exact h

set_option maxRecDepth 100000 in
set_option maxHeartbeats 1000000 in
theorem back_some (s t x : ByteArray) (cut : Int) (hs : s.size ≤ 1048576) (ht : t.size ≤ 1048576) (hx : x.size ≤ 1048576) (hc : 0 ≤ cut) (hc2 : cut ≤ 65535) (same : Bool) (W : World) (hm : MaxIs W) :
    Calls Try.prog 5 #[.string s, .string t, .string x, .int .u16 cut, .bool same] W fun e w' => e = .returned (.bool true) ∧ Below W.heap.size W w' := by
  obtain ⟨t', ht', hsz⟩ : ∃ t' : ByteArray, t' = (if same = true then s else t) ∧ t'.size ≤ 1048576 := ⟨_, rfl, by split <;> assumption⟩
  have hput := fun w => put_any s (by omega) w
  have hput2 := fun w => put_any t' (by omega) w
  obtain ⟨b, htwo⟩ := put_two s t'
  have his := put_is s
  have hget := fun w => get_put s x (by omega) (by omega) w
  have hshort := fun k h w => get_less s k (by omega) h w
  obtain ⟨p, hp⟩ : ∃ p : ByteArray, p = ⟨(putB s.data.toList).toArray⟩ := ⟨_, rfl⟩
  obtain ⟨q, hq⟩ : ∃ q : ByteArray, q = ⟨(putB t'.data.toList).toArray⟩ := ⟨_, rfl⟩
  rw [← hp, ← hq] at htwo
  rw [← hp] at his
  simp only [← hp] at hput hget hshort
  simp only [← hq] at hput2
  obtain ⟨lo, hi, _, _, _⟩ := his
  obtain ⟨e1, e2⟩ := htwo
  have hp2 : (p.size : Int) ≤ 4 * (s.size : Int) + 2 := by omega
  have hp3 : (2 : Int) ≤ (p.size : Int) := by omega
  have hp4 : ((p.size : Int) == 0) = false := by rw [beq_eq_false_iff_ne]; omega
  have hj0 : 0 ≤ cut % (p.size : Int) := Int.emod_nonneg _ (by omega)
  have hj1 : cut % (p.size : Int) < p.size := Int.emod_lt_of_pos _ (by omega)
  obtain ⟨k, hk⟩ : ∃ k : Nat, cut % (p.size : Int) = k := ⟨(cut % (p.size : Int)).toNat, by omega⟩
  have hkp : k < p.size := by omega
  have hsh := fun w => hshort k hkp w
  have HP := Lib.hid hput
  have HP2 := Lib.hid hput2
  have HG := Lib.hid hget
  have HS := Lib.hid hsh
  have HT := Lib.hid ht'
  clear hput hput2 hget hsh hshort hp hq hj0 hj1 ht'
  go_enter Try.func5, Try.ntmps5
  go_wp2_with fail
  refine (examples_any _ hm).mono ?_
  rintro e w1 ⟨rfl, hb1⟩
  rcases same with _ | _
  all_goals
    obtain rfl := HT.out
    go_wp2_with fail
    refine (HP.out _).mono ?_
    rintro e w2 ⟨rfl, hb2⟩
    have hb : Below W.heap.size W w2 := hb1.trans (hb2.mono hb1.size)
    clear hb1 hb2
    go_wp2_with fail
    refine (HG.out _).mono ?_
    rintro e w3 ⟨rfl, hb3⟩
    have hb' : Below W.heap.size W w3 := hb.trans (hb3.mono hb.size)
    clear hb hb3
    go_wp2_with fail
    refine (HS.out _).mono ?_
    rintro e w4 ⟨rfl, hb4⟩
    have hb : Below W.heap.size W w4 := hb'.trans (hb4.mono hb'.size)
    clear hb' hb4
    go_wp2_with fail
    refine (HP2.out _).mono ?_
    rintro e w5 ⟨rfl, hb5⟩
    have hb' : Below W.heap.size W w5 := hb.trans (hb5.mono hb.size)
    clear hb hb5
    go_wp2
    go_ret
    first
      | exact ⟨rfl, hb'⟩
      | (obtain rfl : true = b := by rw [← e1, beq_self_eq_true]
         exact ⟨rfl, hb'⟩)

theorem back_walk (W : World) (s t x : ByteArray) (cut : Int) (same : Bool) (hs : s.size ≤ 1048576) (ht : t.size ≤ 1048576) (hx : x.size ≤ 1048576) (hc : (Lit.int .u16 cut).wf = true) (hm : MaxIs W) :
    Calls Try.prog 5 #[.string s, .string t, .string x, .int .u16 cut, .bool same] W fun e w' => e = .returned (.bool true) ∧ Below W.heap.size W w' :=
  back_some s t x cut hs ht hx (bdu16 hc).1 (bdu16 hc).2 same W hm
end Go.Proofs.Ythmbgnjbmkmajaa
