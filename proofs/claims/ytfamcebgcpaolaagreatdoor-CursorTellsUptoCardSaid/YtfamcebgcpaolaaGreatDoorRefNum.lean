/- The document's own sums and differences of two.
   The document's own sums, products and least ones.
   The document's own products of many, and least ones.
   The document's own text of a number.
   The document's own number of a text. -/
import Derived.Test.YtfamcebgcpaolaaGreatDoorNum
import Derived.Test.YtfamcebgcpaolaaGreatDoorDigits
import Derived.Test.YtfamcebgcpaolaaGreatDoorBase
import Derived.Laws.OwnMore
namespace Go.Proofs.YtfamcebgcpaolaaGreatDoor
open Go.RowKit
set_option linter.unusedVariables false
set_option linter.unusedSimpArgs false

end Go.Proofs.YtfamcebgcpaolaaGreatDoor
namespace Go.Proofs.YtfamcebgcpaolaaGreatDoor
open Go.RowKit
set_option linter.unusedVariables false
set_option linter.unusedSimpArgs false

theorem getD_wf {zs : List Int} {n : Nat} (hl : zs.length = n) (hw : ∀ z ∈ zs, (Lit.int .i64 z).wf = true) (k : Nat) (hk : k < n) : -9223372036854775808 ≤ zs.getD k 0 ∧ zs.getD k 0 ≤ 9223372036854775807 := by
  have hm : zs.getD k 0 ∈ zs := by
    rw [List.getD_eq_getElem?_getD, List.getElem?_eq_getElem (by rw [hl]; exact hk)]
    exact List.getElem_mem _
  exact bdi64 (hw _ hm)
theorem step_range {f : Int → Int → Int} {o : Option Int} {z s : Int} (h : stepR f o z = some s) : -9223372036854775808 ≤ s ∧ s ≤ 9223372036854775807 := by
  cases o with
  | none => cases h
  | some x =>
    simp only [stepR, Option.bind_some] at h
    split at h
    · rename_i hx
      injection h with h
      subst h
      exact hx
    · cases h

theorem wrap_u64 (x : Int) : IntKind.u64.wrap x = x % 18446744073709551616 := by
  simp [IntKind.wrap, IntKind.signed, IntKind.bits]
set_option maxHeartbeats 400000 in
theorem refSize_any (a : Int) (a0 : -9223372036854775808 ≤ a) (a1 : a ≤ 9223372036854775807) (W : World) :
    Calls Tryz.prog 48 #[.int .i64 a] W fun e w' => e = .returned (.int .u64 (a.natAbs : Int)) ∧ W = w' := by
  rcases (by omega : a < 0 ∨ ¬ a < 0) with h | h
  · have e : IntKind.u64.wrap (-(IntKind.u64.wrap a)) = (a.natAbs : Int) := by rw [wrap_u64, wrap_u64]; omega
    go_enter Tryz.func48, Tryz.ntmps48
    go_wp2
    go_ret
    exact ⟨by first | rw [e] | (congr 2), rfl⟩
  · have e : IntKind.u64.wrap a = (a.natAbs : Int) := by rw [wrap_u64]; omega
    go_enter Tryz.func48, Tryz.ntmps48
    go_wp2
    go_ret
    exact ⟨by first | rw [e] | (congr 2), rfl⟩

/-- how far from 0 a product may be, by its sign -/
theorem times_iff (a b : Int) (a0 : a ≠ 0) (b0 : b ≠ 0) : (-9223372036854775808 ≤ a * b ∧ a * b ≤ 9223372036854775807) ↔ a.natAbs ≤ (if (decide (a < 0) == decide (b < 0)) = true then 9223372036854775807 else 9223372036854775808) / b.natAbs := by
  have hb : 0 < b.natAbs := by omega
  rw [Nat.le_div_iff_mul_le hb, ← Int.natAbs_mul]
  rcases (by omega : a < 0 ∨ 0 < a) with h | h <;> rcases (by omega : b < 0 ∨ 0 < b) with h2 | h2
  · have hp : 0 < a * b := Int.mul_pos_of_neg_of_neg h h2
    rw [if_pos (by simp; omega)]; omega
  · have hp : a * b < 0 := Int.mul_neg_of_neg_of_pos h h2
    rw [if_neg (by simp; omega)]; omega
  · have hp : a * b < 0 := Int.mul_neg_of_pos_of_neg h h2
    rw [if_neg (by simp; omega)]; omega
  · have hp : 0 < a * b := Int.mul_pos h h2
    rw [if_pos (by simp; omega)]; omega
def timesO (a b : Int) : Option Int := stepR (· * ·) (some a) b
theorem timesO_eq (a b : Int) : timesO a b = if -9223372036854775808 ≤ a * b ∧ a * b ≤ 9223372036854775807 then some (a * b) else none := rfl

end Go.Proofs.YtfamcebgcpaolaaGreatDoor
namespace Go.Proofs.YtfamcebgcpaolaaGreatDoor
open Go.RowKit
set_option linter.unusedVariables false
set_option linter.unusedSimpArgs false

end Go.Proofs.YtfamcebgcpaolaaGreatDoor
namespace Go.Proofs.YtfamcebgcpaolaaGreatDoor
open Go.RowKit
set_option linter.unusedVariables false
set_option linter.unusedSimpArgs false

theorem own_row1 (w : World) (l : List UInt8) (B : Nat) (hB : B ≤ w.heap.size) (hl : l.length ≤ 16777216) : OwnB (w.alloc (.cells (bV l).toArray 5)) B 5 (.slice (some ⟨w.heap.size, 0, none⟩) l.length l.length) l := by
  have h := World.ownsRow_lit (base := B) (e := 5) (size := 1) w (bV l).toArray l.length hB (by unfold maxLen; omega) (by simp [bV])
  simpa [OwnB] using h
def digT (r : Nat) : ByteArray := ⟨#[UInt8.ofNat (48 + r)]⟩
theorem conv_digit (w : World) (r : Nat) (h : r < 10) : (convert 63 9 (.slice (some ⟨w.heap.size, 0, none⟩) 1 1)).run Tryz.prog (w.alloc (.cells #[.int .u8 (48 + (r : Int))] 5)) = .ok (.string (digT r)) (w.alloc (.cells #[.int .u8 (48 + (r : Int))] 5)) := by
  have h1 := own_text (P := Tryz.prog) (own_row1 w [UInt8.ofNat (48 + r)] 0 (Nat.zero_le _) (by simp)) Tryz.underlying63 Tryz.underlying5 Tryz.underlying9
  have e : ((UInt8.ofNat (48 + r)).toNat : Int) = 48 + (r : Int) := by rw [digit_byte r h]; omega
  have e2 : bV [UInt8.ofNat (48 + r)] = [.int .u8 (48 + (r : Int))] := by simp only [bV, List.map_cons, List.map_nil, e]
  rw [e2] at h1
  exact h1
/-- the digits ahead of the last one -/
def ahead (x : Nat) : List UInt8 := if x < 10 then [] else Lib.decDigits (x / 10)
theorem ahead_last (x : Nat) : ahead x ++ [UInt8.ofNat (48 + x % 10)] = Lib.decDigits x := by
  unfold ahead
  by_cases h : x < 10
  · rw [if_pos h, Nat.mod_eq_of_lt h]
    conv => rhs; rw [Lib.decDigits, dif_pos h]
    rfl
  · rw [if_neg h]
    conv => rhs; rw [Lib.decDigits, dif_neg h]
theorem digT_list (r : Nat) : (digT r).data.toList = [UInt8.ofNat (48 + r)] := rfl
theorem digits_len (u : Nat) (h : u ≤ 9223372036854775808) : (Lib.decDigits u).length ≤ 21 := by
  have := Lib.itoa_length_le (-(u : Int)) (by omega) (by omega)
  rcases Nat.eq_zero_or_pos u with h0 | h0
  · subst h0; rw [Lib.decDigits, dif_pos (by decide)]; simp
  · rw [Lib.itoa_neg u h0] at this
    simp at this
    omega
theorem ret_str {a b : ByteArray} (h : a = b) : Ending.returned (.string a) = .returned (.string b) := by rw [h]

set_option maxHeartbeats 800000 in
theorem refText_any (n : Int) (h0 : -9223372036854775808 ≤ n) (h1 : n ≤ 9223372036854775807) (W : World) :
    Calls Tryz.prog 28 #[.int .i64 n] W fun e w' => e = .returned (.string (itoaS n)) ∧ Below W.heap.size W w' := by
  have HS := Lib.hid (fun w => refSize_any n h0 h1 w)
  obtain ⟨X, hX⟩ : ∃ X : Nat, n.natAbs = X := ⟨_, rfl⟩
  have hXb : X ≤ 9223372036854775808 := by omega
  rw [hX] at HS
  have HX := Lib.hid hX
  have HL := Lib.hid (digits_len X hXb)
  have hi0 : (X : Int) % 10 = ((X % 10 : Nat) : Int) := by omega
  obtain ⟨r0, hr0⟩ : ∃ r, X % 10 = r := ⟨_, rfl⟩
  have hr9 : r0 < 10 := by omega
  have hal := ahead_last X
  rw [hr0] at hi0 hal
  have HAL := Lib.hid hal
  have hcv := conv_digit W r0 hr9
  have g0 : (r0 : Int) < 10 := by omega
  clear hX hr0 hal
  go_enter Tryz.func28, Tryz.ntmps28
  go_wp2_with fail
  refine (HS.out _).mono ?_
  rintro e w ⟨rfl, rfl⟩
  go_wp2
  go_loopw [3, 4] (fun xv sv wr => ∃ (x : Nat) (t : ByteArray), xv = .int .u64 x ∧ sv = .string t ∧ x ≤ 9223372036854775808 ∧ Hid (ahead x ++ t.data.toList = Lib.decDigits X) ∧ Below W.heap.size W wr) (fun xv _ _ => (intOf xv).toNat)
  case atStart => exact ⟨X, digT r0, rfl, rfl, hXb, Lib.hid HAL.out, (Below.refl _ _).alloc (Nat.le_refl _) _⟩
  case round =>
    obtain ⟨x, t, rfl, rfl, hx, HA, hb⟩ := hrel
    have hsz := hb.size
    have hts : t.size ≤ 21 := by
      have h2 := congrArg List.length HA.out
      rw [List.length_append, size_toList] at h2
      have := HL.out
      omega
    by_cases hx9 : 9 < x
    · have hi1 : (x : Int) / 10 = ((x / 10 : Nat) : Int) := by omega
      have hi2 : ((x / 10 : Nat) : Int) % 10 = ((x / 10 % 10 : Nat) : Int) := by omega
      have hah : ahead x = Lib.decDigits (x / 10) := by unfold ahead; rw [if_neg (by omega)]
      have hal := ahead_last (x / 10)
      obtain ⟨q, hq⟩ : ∃ q, x / 10 = q := ⟨_, rfl⟩
      have hqx : q < x := by omega
      rw [hq] at hi1 hi2 hah hal
      obtain ⟨r, hr⟩ : ∃ r, q % 10 = r := ⟨_, rfl⟩
      have hr9 : r < 10 := by omega
      rw [hr] at hi2 hal
      have hcv := conv_digit wr r hr9
      have g1 : (r : Int) < 10 := by omega
      have g2 : (digT r).size + t.size ≤ 100 := by show 1 + t.size ≤ 100; omega
      have HN := Lib.hid (show ahead q ++ (digT r ++ t).data.toList = Lib.decDigits X by
        rw [text_joined, digT_list, ← List.append_assoc, hal, ← hah]; exact HA.out)
      obtain ⟨d, hd⟩ : ∃ d, digT r = d := ⟨_, rfl⟩
      rw [hd] at hcv g2 HN
      have hx9' : (9 : Int) < (x : Int) := by omega
      clear hal hah hd hq hr
      go_wp2
      go_round
      case rel => exact ⟨q, _, by go_num, rfl, by omega, HN, hb.alloc hsz _⟩
      case measure => simp [intOf]; omega
    · have hfin : t.data.toList = Lib.decDigits X := by
        have := HA.out
        unfold ahead at this
        rw [if_pos (by omega)] at this
        exact this
      have hx9' : ¬ (9 : Int) < (x : Int) := by omega
      rcases (by omega : n < 0 ∨ ¬ n < 0) with hn | hn
      · have E := Lib.hid (show (⟨#[45]⟩ : ByteArray) ++ t = itoaS n from text_ext1 (by
          rw [text_joined, itoaS_list, hfin, Lib.itoa, if_pos hn, HX.out]; rfl))
        have g2 : (⟨#[45]⟩ : ByteArray).size + t.size ≤ 100 := by show 1 + t.size ≤ 100; omega
        clear hfin
        go_wp2
        go_ret
        exact ⟨ret_str E.out, hb⟩
      · have E := Lib.hid (show t = itoaS n from text_ext1 (by
          have e : n.toNat = X := by have := HX.out; omega
          rw [itoaS_list, hfin, Lib.itoa, if_neg hn, e]))
        clear hfin
        go_wp2
        go_ret
        exact ⟨ret_str E.out, hb⟩
end Go.Proofs.YtfamcebgcpaolaaGreatDoor
namespace Go.Proofs.YtfamcebgcpaolaaGreatDoor
open Go.RowKit
set_option linter.unusedVariables false
set_option linter.unusedSimpArgs false

def accU (l : List UInt8) : Nat := l.foldl (fun a c => (a * 10 + (c.toNat - 48)) % 18446744073709551616) 0
theorem accU_lt (l : List UInt8) : accU l < 18446744073709551616 := by
  unfold accU
  rcases List.eq_nil_or_concat l with rfl | ⟨l', c, rfl⟩
  · decide
  · rw [List.concat_eq_append, List.foldl_append]
    exact Nat.mod_lt _ (by decide)
theorem accU_snoc (l : List UInt8) (c : UInt8) : accU (l ++ [c]) = (accU l * 10 + (c.toNat - 48)) % 18446744073709551616 := by
  unfold accU
  rw [List.foldl_append]
  rfl
theorem accU_digits (u : Nat) : accU (Lib.decDigits u) = u % 18446744073709551616 := by
  induction u using Nat.strongRecOn with
  | _ u ih =>
    by_cases h : u < 10
    · rw [Lib.decDigits, dif_pos h]
      show (0 * 10 + ((UInt8.ofNat (48 + u)).toNat - 48)) % _ = _
      rw [digit_byte u h]
      omega
    · rw [Lib.decDigits, dif_neg h, accU_snoc, ih _ (by omega), digit_byte _ (by omega)]
      omega
/-- what is read of the digits, by the sign -/
def readU (neg : Bool) (u : Nat) : Int := if neg then wrap64 (-(wrap64 (u : Int))) else wrap64 (u : Int)
theorem readU_true (u : Nat) : readU true u = wrap64 (-(wrap64 (u : Int))) := by unfold readU; rw [if_pos rfl]
theorem readU_false (u : Nat) : readU false u = wrap64 (u : Int) := by unfold readU; rw [if_neg (by decide)]
theorem readU_range (neg : Bool) (u : Nat) : -9223372036854775808 ≤ readU neg u ∧ readU neg u ≤ 9223372036854775807 := by
  unfold readU
  split <;> exact wrap_range _
def skip (neg : Bool) (l : List UInt8) : List UInt8 := if neg then l.drop 1 else l
def isNeg (l : List UInt8) : Bool := decide (l.head? = some 45)
theorem read_itoa (v : Int) (h0 : -9223372036854775808 ≤ v) (h1 : v ≤ 9223372036854775807) :
    readU (isNeg (Lib.itoa v)) (accU (skip (isNeg (Lib.itoa v)) (Lib.itoa v))) = v ∧ ∀ c ∈ skip (isNeg (Lib.itoa v)) (Lib.itoa v), 48 ≤ c.toNat ∧ c.toNat ≤ 57 := by
  by_cases h : v < 0
  · have e : Lib.itoa v = 45 :: Lib.decDigits v.natAbs := by unfold Lib.itoa; rw [if_pos h]
    have e1 : isNeg (Lib.itoa v) = true := by rw [e]; rfl
    have e2 : skip true (Lib.itoa v) = Lib.decDigits v.natAbs := by rw [e]; rfl
    rw [e1, e2, accU_digits]
    refine ⟨?_, digits_all _⟩
    unfold readU wrap64
    simp only [if_true]
    omega
  · have e : Lib.itoa v = Lib.decDigits v.toNat := by unfold Lib.itoa; rw [if_neg h]
    have e1 : isNeg (Lib.itoa v) = false := by
      rw [e]
      cases hd : Lib.decDigits v.toNat with
      | nil => exact absurd hd (digits_ne _)
      | cons c r =>
        have hc := digits_all v.toNat c (by rw [hd]; simp)
        unfold isNeg
        simp only [List.head?_cons, Option.some.injEq, decide_eq_false_iff_not]
        rintro rfl
        revert hc; decide
    have e2 : skip false (Lib.itoa v) = Lib.decDigits v.toNat := by rw [e]; rfl
    rw [e1, e2, accU_digits]
    refine ⟨?_, digits_all _⟩
    unfold readU wrap64
    simp only [Bool.false_eq_true, if_false]
    omega
/-- what the document's own Parse comes to: none, or the number whose text it is -/
theorem parse_end (s : ByteArray) (m : Int) (hm : m = readU (isNeg s.data.toList) (accU (skip (isNeg s.data.toList) s.data.toList))) : parseZ s = if itoaS m = s then some m else none := by
  have hr := readU_range (isNeg s.data.toList) (accU (skip (isNeg s.data.toList) s.data.toList))
  rw [← hm] at hr
  split
  · rename_i h
    exact (parseZ_iff s m).2 ⟨hr, h.symm⟩
  · rename_i h
    refine parseZ_none fun v v0 v1 e => h ?_
    have h2 := (read_itoa v v0 v1).1
    have e2 : s.data.toList = Lib.itoa v := by rw [e, itoaS_list]
    rw [e2] at hm
    rw [hm, h2, e]
theorem parse_bad (s : ByteArray) (c : UInt8) (hc : c ∈ skip (isNeg s.data.toList) s.data.toList) (h : ¬ (48 ≤ c.toNat ∧ c.toNat ≤ 57)) : parseZ s = none := by
  refine parseZ_none fun v v0 v1 e => h ?_
  have e2 : s.data.toList = Lib.itoa v := by rw [e, itoaS_list]
  rw [e2] at hc
  exact (read_itoa v v0 v1).2 c hc
theorem digits_len19 : ∀ (k u : Nat), u < 10 ^ (k + 1) → (Lib.decDigits u).length ≤ k + 1
  | 0, u, h => by
    rw [Lib.decDigits, dif_pos (by simpa using h)]
    simp
  | k + 1, u, h => by
    by_cases h1 : u < 10
    · rw [Lib.decDigits, dif_pos h1]; simp
    · rw [Lib.decDigits, dif_neg h1, List.length_append]
      have := digits_len19 k (u / 10) (by rw [Nat.pow_succ] at h; omega)
      simp
      omega
theorem itoa_len20 (v : Int) (h0 : -9223372036854775808 ≤ v) (h1 : v ≤ 9223372036854775807) : (itoaS v).size ≤ 20 := by
  have e : (itoaS v).size = (Lib.itoa v).length := by rw [← itoaS_list, size_toList]
  rw [e]
  unfold Lib.itoa
  split
  · have := digits_len19 18 v.natAbs (by omega)
    simp
    omega
  · have := digits_len19 18 v.toNat (by omega)
    omega
theorem parse_long (s : ByteArray) (h : 20 < s.size) : parseZ s = none := by
  refine parseZ_none fun v v0 v1 e => ?_
  have := itoa_len20 v v0 v1
  rw [← e] at this
  omega
theorem parse_empty (s : ByteArray) (h : s.size = 0) : parseZ s = none := by
  refine parseZ_none fun v v0 v1 e => ?_
  have e2 : s.data.toList = Lib.itoa v := by rw [e, itoaS_list]
  have e3 := congrArg List.length e2
  rw [size_toList, h] at e3
  exact itoa_ne v (List.eq_nil_of_length_eq_zero e3.symm)

theorem u64_mul (a : Nat) : IntKind.u64.wrap ((a : Int) * 10) = ((a * 10 % 18446744073709551616 : Nat) : Int) := by rw [wrap_u64]; omega
theorem bytes_cons1 (s : ByteArray) (h : 0 < s.size) : ∃ r, s.data.toList = s[0] :: r := by
  cases hs : s.data.toList with
  | nil =>
    have := size_toList s
    rw [hs] at this
    simp at this
    omega
  | cons c r =>
    refine ⟨r, ?_⟩
    have e : s.data.toList[0]? = some s[0] := by
      rw [Array.getElem?_toList]
      exact Array.getElem?_eq_getElem (show 0 < s.data.size from h)
    rw [hs] at e
    simp at e
    rw [← e]
theorem byte_at (s : ByteArray) (k : Nat) (h : k < s.size) : s.data.toList[k]? = some s[k] := by
  rw [Array.getElem?_toList]
  exact Array.getElem?_eq_getElem (show k < s.data.size from h)
/-- the digits up to k -/
theorem skip_snoc (s : ByteArray) (neg : Bool) (k : Nat) (c : UInt8) (hk : k < s.size) (hc : s[k] = c) (h1 : neg = true → 1 ≤ k) : skip neg (s.data.toList.take (k + 1)) = skip neg (s.data.toList.take k) ++ [c] := by
  have hl : k < s.data.toList.length := by rw [size_toList]; exact hk
  have e : s.data.toList.take (k + 1) = s.data.toList.take k ++ [c] := by
    rw [List.take_succ_eq_append_getElem hl]
    have := byte_at s k hk
    rw [List.getElem?_eq_getElem hl] at this
    injection this with this
    rw [this, hc]
  rw [e]
  unfold skip
  cases neg with
  | false => rfl
  | true =>
    have := h1 rfl
    simp only [if_true]
    rw [List.drop_append_of_le_length (by rw [List.length_take]; omega)]
theorem skip_mem (s : ByteArray) (neg : Bool) (k : Nat) (hk : k < s.size) (h1 : neg = true → 1 ≤ k) : s[k] ∈ skip neg s.data.toList := by
  have hl : k < s.data.toList.length := by rw [size_toList]; exact hk
  have e : s.data.toList[k] = s[k] := by
    have := byte_at s k hk
    rw [List.getElem?_eq_getElem hl] at this
    injection this
  unfold skip
  cases neg with
  | false => simp only [Bool.false_eq_true, if_false]; rw [← e]; exact List.getElem_mem hl
  | true =>
    have := h1 rfl
    simp only [if_true]
    rw [← e, List.mem_iff_getElem?]
    exact ⟨k - 1, by rw [List.getElem?_drop, show 1 + (k - 1) = k by omega, List.getElem?_eq_getElem hl]⟩

set_option maxHeartbeats 1600000 in
theorem refParse_any (s : ByteArray) (hs : s.size ≤ 281474976710656) (W : World) :
    Calls Tryz.prog 40 #[.string s] W fun e w' => e = .returned (.tuple #[.int .i64 ((parseZ s).getD 0), .bool (parseZ s).isSome]) ∧ Below W.heap.size W w' := by
  by_cases h0 : s.size = 0
  · have E := Lib.hid (parse_empty s h0)
    have hem : s.toList = [] := by rw [Lib.toList_data]; exact List.eq_nil_of_length_eq_zero (by rw [size_toList]; exact h0)
    have hem2 : s.toList.isEmpty = true := by rw [hem]; rfl
    clear h0
    go_enter Tryz.func40, Tryz.ntmps40
    go_wp2
    go_ret2
    exact ⟨ret_num (by rw [E.out]; rfl) (by rw [E.out]; rfl), Below.refl _ _⟩
  · obtain ⟨r, hr⟩ := bytes_cons1 s (by omega)
    have hne : s.toList.isEmpty = false := by rw [Lib.toList_data, hr]; rfl
    have hne2 : ¬ s.toList = [] := by rw [Lib.toList_data, hr]; simp
    by_cases h20 : 20 < s.size
    · have E := Lib.hid (parse_long s h20)
      have h20' : (20 : Int) < (s.size : Int) := by omega
      clear h0 hr
      go_enter Tryz.func40, Tryz.ntmps40
      go_wp2
      go_ret2
      exact ⟨ret_num (by rw [E.out]; rfl) (by rw [E.out]; rfl), Below.refl _ _⟩
    · obtain ⟨c0, hc0⟩ : ∃ c, s[0] = c := ⟨_, rfl⟩
      rw [hc0] at hr
      have h20' : ¬ (20 : Int) < (s.size : Int) := by omega
      have hp : 0 < s.size := by omega
      have hp' : (0 : Int) < (s.size : Int) := by omega
      have hneg : ((c0.toNat : Int) == 45) = isNeg s.data.toList := by
        rw [hr]
        unfold isNeg
        simp only [List.head?_cons, Option.some.injEq]
        by_cases h : c0 = 45
        · subst h; rfl
        · rw [decide_eq_false h, beq_eq_false_iff_ne]
          intro h2
          exact h (UInt8.toNat_inj.1 (by show c0.toNat = 45; omega))
      have PE := Lib.hid (parse_end s)
      have PB := Lib.hid (fun c => parse_bad s c)
      obtain ⟨neg, hng⟩ : ∃ b, isNeg s.data.toList = b := ⟨_, rfl⟩
      rw [hng] at hneg
      replace PE := PE.out
      replace PB := PB.out
      rw [hng] at PE PB
      replace PE := Lib.hid PE
      replace PB := Lib.hid PB
      obtain ⟨at0, hat⟩ : ∃ a : Nat, a = (if neg = true then 1 else 0) := ⟨_, rfl⟩
      have HS0 : Hid (skip neg (s.data.toList.take at0) = []) := Lib.hid (by
        subst hat
        cases neg with
        | false => rfl
        | true => show (s.data.toList.take 1).drop 1 = []; rw [hr]; rfl)
      have HAT : Hid (neg = true → 1 ≤ at0) := Lib.hid (fun h => by rw [hat, h]; exact Nat.le_refl _)
      have hfull : skip neg (s.data.toList.take s.size) = skip neg s.data.toList := by rw [List.take_of_length_le (by rw [size_toList]; exact Nat.le_refl _)]
      have HF := Lib.hid hfull
      have ha1 : at0 ≤ 1 := by rw [hat]; split <;> omega
      have hneg2 : (neg = true ∧ at0 = 1) ∨ (neg = false ∧ at0 = 0) := by cases neg <;> simp [hat]
      clear hr hng hfull hat
      rcases hneg2 with ⟨hn, rfl⟩ | ⟨hn, rfl⟩
      all_goals
        rw [hn] at hneg
        have HN := Lib.hid hn
        clear hn
        go_enter Tryz.func40, Tryz.ntmps40
        go_wp2
        go_loop [4, 6] (fun nv iv => ∃ (k a : Nat), 0 ≤ k ∧ k ≤ s.size ∧ iv = .int .i64 k ∧ nv = .int .u64 (a : Int) ∧ Hid (a = accU (skip neg (s.data.toList.take k))) ∧ Hid (neg = true → 1 ≤ k)) (fun _ iv => s.size - (intOf iv).toNat)
        case atStart => first | exact ⟨1, 0, Nat.zero_le _, by omega, rfl, rfl, Lib.hid (by rw [HS0.out]; rfl), HAT⟩ | exact ⟨0, 0, Nat.zero_le _, by omega, rfl, rfl, Lib.hid (by rw [HS0.out]; rfl), HAT⟩
        case round =>
          obtain ⟨k, a, _, hk, rfl, rfl, HA, H1⟩ := hrel
          have hab : a < 18446744073709551616 := by rw [HA.out]; exact accU_lt _
          by_cases hkn : k < s.size
          · have hsn := skip_snoc s neg k s[k] hkn rfl H1.out
            have hmem := skip_mem s neg k hkn H1.out
            obtain ⟨c, hcc⟩ : ∃ c, s[k] = c := ⟨_, rfl⟩
            rw [hcc] at hsn hmem
            have hkn' : (k : Int) < (s.size : Int) := by omega
            have hcl := c.toNat_lt
            by_cases hd : 48 ≤ c.toNat ∧ c.toNat ≤ 57
            · have hnx := accU_snoc (skip neg (s.data.toList.take k)) c
              rw [← hsn, ← HA.out] at hnx
              have HNX := Lib.hid hnx
              obtain ⟨d, hdd⟩ : ∃ d, c.toNat - 48 = d := ⟨_, rfl⟩
              have w1 : IntKind.u8.wrap ((c.toNat : Int) - 48) = (d : Int) := by rw [IntKind.wrap_u8]; omega
              have q1 : ¬ (c.toNat : Int) < 48 := by omega
              have q2 : ¬ (57 : Int) < (c.toNat : Int) := by omega
              have hv : IntKind.u64.wrap (IntKind.u64.wrap ((a : Int) * 10) + (d : Int)) = (((a * 10 + (c.toNat - 48)) % 18446744073709551616 : Nat) : Int) := by rw [u64_mul, wrap_u64, ← hdd]; omega
              have HV := Lib.hid hv
              clear hnx hsn hmem hv
              go_wp2
              go_round
              case rel => exact ⟨k + 1, _, Nat.zero_le _, by omega, by go_num, by rw [HV.out], Lib.hid HNX.out.symm, Lib.hid fun _ => by omega⟩
              case measure => simp [intOf]; omega
            · have E := Lib.hid (PB.out c hmem hd)
              have q : ((c.toNat : Int) < 48) ∨ (¬ (c.toNat : Int) < 48 ∧ (57 : Int) < (c.toNat : Int)) := by omega
              clear hsn hmem hd
              rcases q with q1 | ⟨q1, q2⟩
              all_goals
                go_wp2
                go_ret2
                exact ⟨ret_num (by rw [E.out]; rfl) (by rw [E.out]; rfl), Below.refl _ _⟩
          · obtain rfl : k = s.size := by omega
            have hac := HA.out
            rw [HF.out] at hac
            have hpe := fun m (h : m = readU neg a) => PE.out m (by rw [← hac]; exact h)
            rw [HN.out] at hpe
            obtain ⟨m1, hm1⟩ : ∃ m, wrap64 (a : Int) = m := ⟨_, rfl⟩
            obtain ⟨m2, hm2⟩ : ∃ m, wrap64 (-m1) = m := ⟨_, rfl⟩
            have r1 : InR m1 := by rw [← hm1]; exact wrap_range _
            have r2 : InR m2 := by rw [← hm2]; exact wrap_range _
            obtain ⟨m, hm, hp2, rm⟩ : ∃ m, Hid ((neg = true ∧ m = m2) ∨ (neg = false ∧ m = m1)) ∧ (parseZ s = if itoaS m = s then some m else none) ∧ InR m := by
              first
              | exact ⟨m2, Lib.hid (.inl ⟨HN.out, rfl⟩), hpe m2 (by rw [readU_true, hm1, hm2]), r2⟩
              | exact ⟨m1, Lib.hid (.inr ⟨HN.out, rfl⟩), hpe m1 (by rw [readU_false, hm1]), r1⟩
            have hme : (neg = true ∧ m = m2) ∨ (neg = false ∧ m = m1) := hm.out
            rw [HN.out] at hme
            simp only [Bool.true_eq_false, Bool.false_eq_true, false_and, or_false, false_or, true_and] at hme
            first | (rw [← hme] at hm1 hm2) | (rw [← hme] at hm2)
            have HT := Lib.hid (fun w => refText_any m rm.1 rm.2 w)
            obtain ⟨t, ht⟩ : ∃ t, itoaS m = t := ⟨_, rfl⟩
            simp only [ht] at HT hp2
            clear hpe hac ht r1 r2 rm hm hme
            go_wp2_with fail
            refine (HT.out _).mono ?_
            rintro e w ⟨rfl, hb⟩
            split at hp2
            · rename_i he
              have g := text_same he
              have E := Lib.hid hp2
              clear he hp2
              go_wp2
              go_ret2
              exact ⟨ret_num (by rw [E.out]; rfl) (by rw [E.out]; rfl), hb⟩
            · rename_i he
              have g := text_other he
              have E := Lib.hid hp2
              clear he hp2
              go_wp2
              go_ret2
              exact ⟨ret_num (by rw [E.out]; rfl) (by rw [E.out]; rfl), hb⟩
end Go.Proofs.YtfamcebgcpaolaaGreatDoor
