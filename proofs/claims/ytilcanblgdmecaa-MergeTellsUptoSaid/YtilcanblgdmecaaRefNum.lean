/- The document's own sums and differences of two.
   The document's own sums, products and least ones.
   The document's own products of many, and least ones.
   The document's own text of a number.
   The document's own number of a text. -/
import Derived.Test.YtilcanblgdmecaaNum
import Derived.Test.YtilcanblgdmecaaDigits
import Derived.Test.YtilcanblgdmecaaBase
import Derived.Laws.OwnMore
namespace Go.Proofs.Ytilcanblgdmecaa
open Go.RowKit
set_option linter.unusedVariables false
set_option linter.unusedSimpArgs false

end Go.Proofs.Ytilcanblgdmecaa
namespace Go.Proofs.Ytilcanblgdmecaa
open Go.RowKit
set_option linter.unusedVariables false
set_option linter.unusedSimpArgs false

theorem getD_wf {zs : List Int} {n : Nat} (hl : zs.length = n) (hw : ∀ z ∈ zs, (Lit.int .i64 z).wf = true) (k : Nat) (hk : k < n) : -9223372036854775808 ≤ zs.getD k 0 ∧ zs.getD k 0 ≤ 9223372036854775807 := by
  have hm : zs.getD k 0 ∈ zs := by
    rw [List.getD_eq_getElem?_getD, List.getElem?_eq_getElem (by rw [hl]; exact hk)]
    exact List.getElem_mem _
  exact bdi64 (hw _ hm)
theorem step_range {f : Int → Int → Int} {o : Option Int} {z s : Int} (h : stepR f o z = some s) : -9223372036854775808 ≤ s ∧ s ≤ 9223372036854775807 := by
  cases o with
  | none => cases h
  | some x =>
    simp only [stepR, Option.bind_some] at h
    split at h
    · rename_i hx
      injection h with h
      subst h
      exact hx
    · cases h

theorem wrap_u64 (x : Int) : IntKind.u64.wrap x = x % 18446744073709551616 := by
  simp [IntKind.wrap, IntKind.signed, IntKind.bits]
/-- how far from 0 a product may be, by its sign -/
theorem times_iff (a b : Int) (a0 : a ≠ 0) (b0 : b ≠ 0) : (-9223372036854775808 ≤ a * b ∧ a * b ≤ 9223372036854775807) ↔ a.natAbs ≤ (if (decide (a < 0) == decide (b < 0)) = true then 9223372036854775807 else 9223372036854775808) / b.natAbs := by
  have hb : 0 < b.natAbs := by omega
  rw [Nat.le_div_iff_mul_le hb, ← Int.natAbs_mul]
  rcases (by omega : a < 0 ∨ 0 < a) with h | h <;> rcases (by omega : b < 0 ∨ 0 < b) with h2 | h2
  · have hp : 0 < a * b := Int.mul_pos_of_neg_of_neg h h2
    rw [if_pos (by simp; omega)]; omega
  · have hp : a * b < 0 := Int.mul_neg_of_neg_of_pos h h2
    rw [if_neg (by simp; omega)]; omega
  · have hp : a * b < 0 := Int.mul_neg_of_pos_of_neg h h2
    rw [if_neg (by simp; omega)]; omega
  · have hp : 0 < a * b := Int.mul_pos h h2
    rw [if_pos (by simp; omega)]; omega
def timesO (a b : Int) : Option Int := stepR (· * ·) (some a) b
theorem timesO_eq (a b : Int) : timesO a b = if -9223372036854775808 ≤ a * b ∧ a * b ≤ 9223372036854775807 then some (a * b) else none := rfl

end Go.Proofs.Ytilcanblgdmecaa
namespace Go.Proofs.Ytilcanblgdmecaa
open Go.RowKit
set_option linter.unusedVariables false
set_option linter.unusedSimpArgs false

end Go.Proofs.Ytilcanblgdmecaa
namespace Go.Proofs.Ytilcanblgdmecaa
open Go.RowKit
set_option linter.unusedVariables false
set_option linter.unusedSimpArgs false

theorem own_row1 (w : World) (l : List UInt8) (B : Nat) (hB : B ≤ w.heap.size) (hl : l.length ≤ 16777216) : OwnB (w.alloc (.cells (bV l).toArray 5)) B 5 (.slice (some ⟨w.heap.size, 0, none⟩) l.length l.length) l := by
  have h := World.ownsRow_lit (base := B) (e := 5) (size := 1) w (bV l).toArray l.length hB (by unfold maxLen; omega) (by simp [bV])
  simpa [OwnB] using h
def digT (r : Nat) : ByteArray := ⟨#[UInt8.ofNat (48 + r)]⟩
theorem conv_digit (w : World) (r : Nat) (h : r < 10) : (convert 58 9 (.slice (some ⟨w.heap.size, 0, none⟩) 1 1)).run Try.prog (w.alloc (.cells #[.int .u8 (48 + (r : Int))] 5)) = .ok (.string (digT r)) (w.alloc (.cells #[.int .u8 (48 + (r : Int))] 5)) := by
  have h1 := own_text (P := Try.prog) (own_row1 w [UInt8.ofNat (48 + r)] 0 (Nat.zero_le _) (by simp)) Try.underlying58 Try.underlying5 Try.underlying9
  have e : ((UInt8.ofNat (48 + r)).toNat : Int) = 48 + (r : Int) := by rw [digit_byte r h]; omega
  have e2 : bV [UInt8.ofNat (48 + r)] = [.int .u8 (48 + (r : Int))] := by simp only [bV, List.map_cons, List.map_nil, e]
  rw [e2] at h1
  exact h1
/-- the digits ahead of the last one -/
def ahead (x : Nat) : List UInt8 := if x < 10 then [] else Lib.decDigits (x / 10)
theorem ahead_last (x : Nat) : ahead x ++ [UInt8.ofNat (48 + x % 10)] = Lib.decDigits x := by
  unfold ahead
  by_cases h : x < 10
  · rw [if_pos h, Nat.mod_eq_of_lt h]
    conv => rhs; rw [Lib.decDigits, dif_pos h]
    rfl
  · rw [if_neg h]
    conv => rhs; rw [Lib.decDigits, dif_neg h]
theorem digT_list (r : Nat) : (digT r).data.toList = [UInt8.ofNat (48 + r)] := rfl
theorem digits_len (u : Nat) (h : u ≤ 9223372036854775808) : (Lib.decDigits u).length ≤ 21 := by
  have := Lib.itoa_length_le (-(u : Int)) (by omega) (by omega)
  rcases Nat.eq_zero_or_pos u with h0 | h0
  · subst h0; rw [Lib.decDigits, dif_pos (by decide)]; simp
  · rw [Lib.itoa_neg u h0] at this
    simp at this
    omega
theorem ret_str {a b : ByteArray} (h : a = b) : Ending.returned (.string a) = .returned (.string b) := by rw [h]

end Go.Proofs.Ytilcanblgdmecaa
namespace Go.Proofs.Ytilcanblgdmecaa
open Go.RowKit
set_option linter.unusedVariables false
set_option linter.unusedSimpArgs false

def accU (l : List UInt8) : Nat := l.foldl (fun a c => (a * 10 + (c.toNat - 48)) % 18446744073709551616) 0
theorem accU_lt (l : List UInt8) : accU l < 18446744073709551616 := by
  unfold accU
  rcases List.eq_nil_or_concat l with rfl | ⟨l', c, rfl⟩
  · decide
  · rw [List.concat_eq_append, List.foldl_append]
    exact Nat.mod_lt _ (by decide)
theorem accU_snoc (l : List UInt8) (c : UInt8) : accU (l ++ [c]) = (accU l * 10 + (c.toNat - 48)) % 18446744073709551616 := by
  unfold accU
  rw [List.foldl_append]
  rfl
theorem accU_digits (u : Nat) : accU (Lib.decDigits u) = u % 18446744073709551616 := by
  induction u using Nat.strongRecOn with
  | _ u ih =>
    by_cases h : u < 10
    · rw [Lib.decDigits, dif_pos h]
      show (0 * 10 + ((UInt8.ofNat (48 + u)).toNat - 48)) % _ = _
      rw [digit_byte u h]
      omega
    · rw [Lib.decDigits, dif_neg h, accU_snoc, ih _ (by omega), digit_byte _ (by omega)]
      omega
/-- what is read of the digits, by the sign -/
def readU (neg : Bool) (u : Nat) : Int := if neg then wrap64 (-(wrap64 (u : Int))) else wrap64 (u : Int)
theorem readU_true (u : Nat) : readU true u = wrap64 (-(wrap64 (u : Int))) := by unfold readU; rw [if_pos rfl]
theorem readU_false (u : Nat) : readU false u = wrap64 (u : Int) := by unfold readU; rw [if_neg (by decide)]
theorem readU_range (neg : Bool) (u : Nat) : -9223372036854775808 ≤ readU neg u ∧ readU neg u ≤ 9223372036854775807 := by
  unfold readU
  split <;> exact wrap_range _
def skip (neg : Bool) (l : List UInt8) : List UInt8 := if neg then l.drop 1 else l
def isNeg (l : List UInt8) : Bool := decide (l.head? = some 45)
theorem read_itoa (v : Int) (h0 : -9223372036854775808 ≤ v) (h1 : v ≤ 9223372036854775807) :
    readU (isNeg (Lib.itoa v)) (accU (skip (isNeg (Lib.itoa v)) (Lib.itoa v))) = v ∧ ∀ c ∈ skip (isNeg (Lib.itoa v)) (Lib.itoa v), 48 ≤ c.toNat ∧ c.toNat ≤ 57 := by
  by_cases h : v < 0
  · have e : Lib.itoa v = 45 :: Lib.decDigits v.natAbs := by unfold Lib.itoa; rw [if_pos h]
    have e1 : isNeg (Lib.itoa v) = true := by rw [e]; rfl
    have e2 : skip true (Lib.itoa v) = Lib.decDigits v.natAbs := by rw [e]; rfl
    rw [e1, e2, accU_digits]
    refine ⟨?_, digits_all _⟩
    unfold readU wrap64
    simp only [if_true]
    omega
  · have e : Lib.itoa v = Lib.decDigits v.toNat := by unfold Lib.itoa; rw [if_neg h]
    have e1 : isNeg (Lib.itoa v) = false := by
      rw [e]
      cases hd : Lib.decDigits v.toNat with
      | nil => exact absurd hd (digits_ne _)
      | cons c r =>
        have hc := digits_all v.toNat c (by rw [hd]; simp)
        unfold isNeg
        simp only [List.head?_cons, Option.some.injEq, decide_eq_false_iff_not]
        rintro rfl
        revert hc; decide
    have e2 : skip false (Lib.itoa v) = Lib.decDigits v.toNat := by rw [e]; rfl
    rw [e1, e2, accU_digits]
    refine ⟨?_, digits_all _⟩
    unfold readU wrap64
    simp only [Bool.false_eq_true, if_false]
    omega
/-- what the document's own Parse comes to: none, or the number whose text it is -/
theorem parse_end (s : ByteArray) (m : Int) (hm : m = readU (isNeg s.data.toList) (accU (skip (isNeg s.data.toList) s.data.toList))) : parseZ s = if itoaS m = s then some m else none := by
  have hr := readU_range (isNeg s.data.toList) (accU (skip (isNeg s.data.toList) s.data.toList))
  rw [← hm] at hr
  split
  · rename_i h
    exact (parseZ_iff s m).2 ⟨hr, h.symm⟩
  · rename_i h
    refine parseZ_none fun v v0 v1 e => h ?_
    have h2 := (read_itoa v v0 v1).1
    have e2 : s.data.toList = Lib.itoa v := by rw [e, itoaS_list]
    rw [e2] at hm
    rw [hm, h2, e]
theorem parse_bad (s : ByteArray) (c : UInt8) (hc : c ∈ skip (isNeg s.data.toList) s.data.toList) (h : ¬ (48 ≤ c.toNat ∧ c.toNat ≤ 57)) : parseZ s = none := by
  refine parseZ_none fun v v0 v1 e => h ?_
  have e2 : s.data.toList = Lib.itoa v := by rw [e, itoaS_list]
  rw [e2] at hc
  exact (read_itoa v v0 v1).2 c hc
theorem digits_len19 : ∀ (k u : Nat), u < 10 ^ (k + 1) → (Lib.decDigits u).length ≤ k + 1
  | 0, u, h => by
    rw [Lib.decDigits, dif_pos (by simpa using h)]
    simp
  | k + 1, u, h => by
    by_cases h1 : u < 10
    · rw [Lib.decDigits, dif_pos h1]; simp
    · rw [Lib.decDigits, dif_neg h1, List.length_append]
      have := digits_len19 k (u / 10) (by rw [Nat.pow_succ] at h; omega)
      simp
      omega
theorem itoa_len20 (v : Int) (h0 : -9223372036854775808 ≤ v) (h1 : v ≤ 9223372036854775807) : (itoaS v).size ≤ 20 := by
  have e : (itoaS v).size = (Lib.itoa v).length := by rw [← itoaS_list, size_toList]
  rw [e]
  unfold Lib.itoa
  split
  · have := digits_len19 18 v.natAbs (by omega)
    simp
    omega
  · have := digits_len19 18 v.toNat (by omega)
    omega
theorem parse_long (s : ByteArray) (h : 20 < s.size) : parseZ s = none := by
  refine parseZ_none fun v v0 v1 e => ?_
  have := itoa_len20 v v0 v1
  rw [← e] at this
  omega
theorem parse_empty (s : ByteArray) (h : s.size = 0) : parseZ s = none := by
  refine parseZ_none fun v v0 v1 e => ?_
  have e2 : s.data.toList = Lib.itoa v := by rw [e, itoaS_list]
  have e3 := congrArg List.length e2
  rw [size_toList, h] at e3
  exact itoa_ne v (List.eq_nil_of_length_eq_zero e3.symm)

theorem u64_mul (a : Nat) : IntKind.u64.wrap ((a : Int) * 10) = ((a * 10 % 18446744073709551616 : Nat) : Int) := by rw [wrap_u64]; omega
theorem bytes_cons1 (s : ByteArray) (h : 0 < s.size) : ∃ r, s.data.toList = s[0] :: r := by
  cases hs : s.data.toList with
  | nil =>
    have := size_toList s
    rw [hs] at this
    simp at this
    omega
  | cons c r =>
    refine ⟨r, ?_⟩
    have e : s.data.toList[0]? = some s[0] := by
      rw [Array.getElem?_toList]
      exact Array.getElem?_eq_getElem (show 0 < s.data.size from h)
    rw [hs] at e
    simp at e
    rw [← e]
theorem byte_at (s : ByteArray) (k : Nat) (h : k < s.size) : s.data.toList[k]? = some s[k] := by
  rw [Array.getElem?_toList]
  exact Array.getElem?_eq_getElem (show k < s.data.size from h)
/-- the digits up to k -/
theorem skip_snoc (s : ByteArray) (neg : Bool) (k : Nat) (c : UInt8) (hk : k < s.size) (hc : s[k] = c) (h1 : neg = true → 1 ≤ k) : skip neg (s.data.toList.take (k + 1)) = skip neg (s.data.toList.take k) ++ [c] := by
  have hl : k < s.data.toList.length := by rw [size_toList]; exact hk
  have e : s.data.toList.take (k + 1) = s.data.toList.take k ++ [c] := by
    rw [List.take_succ_eq_append_getElem hl]
    have := byte_at s k hk
    rw [List.getElem?_eq_getElem hl] at this
    injection this with this
    rw [this, hc]
  rw [e]
  unfold skip
  cases neg with
  | false => rfl
  | true =>
    have := h1 rfl
    simp only [if_true]
    rw [List.drop_append_of_le_length (by rw [List.length_take]; omega)]
theorem skip_mem (s : ByteArray) (neg : Bool) (k : Nat) (hk : k < s.size) (h1 : neg = true → 1 ≤ k) : s[k] ∈ skip neg s.data.toList := by
  have hl : k < s.data.toList.length := by rw [size_toList]; exact hk
  have e : s.data.toList[k] = s[k] := by
    have := byte_at s k hk
    rw [List.getElem?_eq_getElem hl] at this
    injection this
  unfold skip
  cases neg with
  | false => simp only [Bool.false_eq_true, if_false]; rw [← e]; exact List.getElem_mem hl
  | true =>
    have := h1 rfl
    simp only [if_true]
    rw [← e, List.mem_iff_getElem?]
    exact ⟨k - 1, by rw [List.getElem?_drop, show 1 + (k - 1) = k by omega, List.getElem?_eq_getElem hl]⟩

end Go.Proofs.Ytilcanblgdmecaa
