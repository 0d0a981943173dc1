/- The sum of a text, the digits of a number. No walk.
   The sum of a text: the walks of Sum, the program's and the document's.
   The digits of a number: the walk of Hex.
   The number of digits at the beginning of a text: the walk of the document's unhex. -/
import Derived.Test.YtfamcebgcpaolaaGreatDoorLabMath
import Derived.Test.YtfamcebgcpaolaaGreatDoorConv
import Derived.Laws.Bits64
import Derived.Laws.Bits64b
namespace Go.Proofs.YtfamcebgcpaolaaGreatDoor
open Go.RowKit
set_option linter.unusedVariables false
set_option linter.unusedSimpArgs false

/-- FNV-1a, from n on -/
def fnvF (n : Nat) (b : UInt8) : Nat := (n ^^^ b.toNat) * 1099511628211 % 18446744073709551616
def fnv (n : Nat) : List UInt8 → Nat
  | [] => n
  | b :: l => fnv (fnvF n b) l
theorem fnvF_lt (n : Nat) (b : UInt8) : fnvF n b < 18446744073709551616 := Nat.mod_lt _ (by decide)
theorem fnv_lt (l : List UInt8) : ∀ n, n < 18446744073709551616 → fnv n l < 18446744073709551616 := by
  induction l with
  | nil => intro n h; exact h
  | cons b l ih => intro n h; exact ih _ (fnvF_lt n b)
theorem fnv_app (l m : List UInt8) : ∀ n, fnv n (l ++ m) = fnv (fnv n l) m := by
  induction l with
  | nil => intro n; rfl
  | cons b l ih => intro n; exact ih _
theorem xor_lt (n : Nat) (b : UInt8) (h : n < 18446744073709551616) : n ^^^ b.toNat < 18446744073709551616 :=
  Nat.xor_lt_two_pow (n := 64) h (Nat.lt_of_lt_of_le b.toNat_lt (by decide))
theorem times_inj {x y : Nat} (hx : x < 18446744073709551616) (hy : y < 18446744073709551616) (h : x * 1099511628211 % 18446744073709551616 = y * 1099511628211 % 18446744073709551616) : x = y := by
  have key : ∀ z, z < 18446744073709551616 → z * 1099511628211 % 18446744073709551616 * 14886173955864302971 % 18446744073709551616 = z := fun z hz => by
    rw [Nat.mod_mul_mod, Nat.mul_assoc, show 1099511628211 * 14886173955864302971 = 18446744073709551616 * 887285111055 + 1 by decide, Nat.mul_add, Nat.mul_one, ← Nat.mul_assoc, Nat.mul_comm z, Nat.mul_assoc, Nat.mul_add_mod, Nat.mod_eq_of_lt hz]
  rw [← key x hx, h, key y hy]
theorem fnvF_left {n m : Nat} {b : UInt8} (hn : n < 18446744073709551616) (hm : m < 18446744073709551616) (h : fnvF n b = fnvF m b) : n = m := by
  have h2 := times_inj (xor_lt n b hn) (xor_lt m b hm) h
  have h3 := congrArg (· ^^^ b.toNat) h2
  simpa [Nat.xor_assoc] using h3
theorem fnvF_right {n : Nat} {b c : UInt8} (hn : n < 18446744073709551616) (h : fnvF n b = fnvF n c) : b = c := by
  have h2 := times_inj (xor_lt n b hn) (xor_lt n c hn) h
  have h3 := congrArg (n ^^^ ·) h2
  simp only [← Nat.xor_assoc, Nat.xor_self, Nat.zero_xor] at h3
  exact UInt8.toNat_inj.1 h3
theorem fnv_inj (l : List UInt8) : ∀ n m, n < 18446744073709551616 → m < 18446744073709551616 → fnv n l = fnv m l → n = m := by
  induction l with
  | nil => intro n m _ _ h; exact h
  | cons b l ih => intro n m hn hm h; exact fnvF_left hn hm (ih _ _ (fnvF_lt n b) (fnvF_lt m b) h)
/-- with one byte another one a text has another sum -/
theorem fnv_turn (l r : List UInt8) (b c : UInt8) (n : Nat) (hn : n < 18446744073709551616) (h : fnv n (l ++ b :: r) = fnv n (l ++ c :: r)) : b = c := by
  rw [fnv_app, fnv_app] at h
  have hl := fnv_lt l n hn
  exact fnvF_right hl (fnv_inj r _ _ (fnvF_lt _ _) (fnvF_lt _ _) h)

/-- the digits of a number, in sixteens -/
def hexC0 (d : Nat) : UInt8 := if d < 10 then UInt8.ofNat (48 + d) else UInt8.ofNat (87 + d)
def hx : Nat → Nat → List UInt8
  | 0, _ => []
  | k + 1, n => hexC0 (n / 16 ^ k % 16) :: hx k n
theorem hexC0_nat (d : Nat) (h : d < 16) : (hexC0 d).toNat = if d < 10 then 48 + d else 87 + d := by
  unfold hexC0
  split
  · rw [UInt8.toNat_ofNat']; omega
  · rw [UInt8.toNat_ofNat']; omega
theorem hx_len (k n : Nat) : (hx k n).length = k := by
  induction k with
  | zero => rfl
  | succ k ih => rw [hx, List.length_cons, ih]
def cmpN (a b : Nat) : Int := if a < b then -1 else if b < a then 1 else 0
theorem byteC_hex (d e : Nat) (hd : d < 16) (he : e < 16) : byteC (hexC0 d) (hexC0 e) = cmpN d e := by
  have h1 := hexC0_nat d hd
  have h2 := hexC0_nat e he
  unfold byteC cmpN
  have k1 : hexC0 d < hexC0 e ↔ d < e := by
    rw [UInt8.lt_iff_toNat_lt, h1, h2]
    split <;> split <;> omega
  have k2 : hexC0 e < hexC0 d ↔ e < d := by
    rw [UInt8.lt_iff_toNat_lt, h1, h2]
    split <;> split <;> omega
  simp only [k1, k2]
theorem hx_cmp (k a b : Nat) : lexC byteC (hx k a) (hx k b) = cmpN (a % 16 ^ k) (b % 16 ^ k) := by
  induction k with
  | zero => simp [hx, lexC, cmpN, Nat.mod_one]
  | succ k ih =>
    rw [hx, hx, lexC, byteC_hex _ _ (Nat.mod_lt _ (by decide)) (Nat.mod_lt _ (by decide)), ih, Nat.pow_succ, Nat.mod_mul, Nat.mod_mul]
    have h1 : a % 16 ^ k < 16 ^ k := Nat.mod_lt _ (Nat.pow_pos (by decide))
    have h2 : b % 16 ^ k < 16 ^ k := Nat.mod_lt _ (Nat.pow_pos (by decide))
    generalize a / 16 ^ k % 16 = x
    generalize b / 16 ^ k % 16 = y
    generalize a % 16 ^ k = u at *
    generalize b % 16 ^ k = v at *
    generalize 16 ^ k = p at *
    unfold cmpN
    rcases Nat.lt_trichotomy x y with h | h | h
    · have h3 : p * x + p ≤ p * y := by rw [← Nat.mul_succ]; exact Nat.mul_le_mul_left p h
      rw [if_pos h, if_neg (by decide), if_pos (by omega)]
    · subst h
      rw [show (if x < x then (-1 : Int) else if x < x then 1 else 0) = 0 from by rw [if_neg (Nat.lt_irrefl x), if_neg (Nat.lt_irrefl x)], if_pos rfl]
      by_cases g : u < v
      · rw [if_pos g, if_pos (by omega)]
      · by_cases g2 : v < u
        · rw [if_neg g, if_pos g2, if_neg (by omega), if_pos (by omega)]
        · rw [if_neg g, if_neg g2, if_neg (by omega), if_neg (by omega)]
    · have h3 : p * y + p ≤ p * x := by rw [← Nat.mul_succ]; exact Nat.mul_le_mul_left p h
      rw [if_neg (show ¬ x < y by omega), if_pos h, if_neg (by decide), if_neg (by omega), if_pos (by omega)]
def hexS (n : Nat) : ByteArray := ⟨(hx 16 n).toArray⟩
theorem hexS_cmp (a b : Nat) (ha : a < 18446744073709551616) (hb : b < 18446744073709551616) : txtC (hexS a) (hexS b) = cmpN a b := by
  show Lib.compareBytes (hx 16 a) (hx 16 b) = _
  rw [cmpB_lex, hx_cmp, Nat.mod_eq_of_lt ha, Nat.mod_eq_of_lt hb]
theorem hexS_inj {a b : Nat} (ha : a < 18446744073709551616) (hb : b < 18446744073709551616) (h : hexS a = hexS b) : a = b := by
  have h1 := hexS_cmp a b ha hb
  rw [h, txtC_ord.refl] at h1
  unfold cmpN at h1
  split at h1
  · cases h1
  · split at h1
    · cases h1
    · omega
/-- a step of the sum, as the machine takes it -/
theorem fnv_step (n : Nat) (b : UInt8) (hn : n < 18446744073709551616) : IntKind.u64.wrap (bits .xor .u64 (n : Int) (b.toNat : Int) * 1099511628211) = (fnvF n b : Int) := by
  rw [bits_xor_u64_nat n b.toNat hn (Nat.lt_of_lt_of_le b.toNat_lt (by decide)), IntKind.wrap_u64]
  unfold fnvF
  omega
theorem hx_at (k n i : Nat) (hi : i < k) : (hx k n)[i]? = some (hexC0 (n / 16 ^ (k - 1 - i) % 16)) := by
  induction k generalizing i with
  | zero => omega
  | succ k ih =>
    rw [hx]
    cases i with
    | zero => simp
    | succ i =>
      rw [List.getElem?_cons_succ, ih i (by omega), show k + 1 - 1 - (i + 1) = k - 1 - i by omega]
theorem sixteen (i : Nat) (hi : i < 16) : 2 ^ (60 - 4 * i) = 16 ^ (15 - i) := by
  rw [show 60 - 4 * i = 4 * (15 - i) by omega, Nat.pow_mul]
theorem digit_is (n i : Nat) (hi : i < 16) (hn : n < 18446744073709551616) : bits .and .u64 ((n / 2 ^ (60 - 4 * i) : Nat) : Int) 15 = ((n / 16 ^ (15 - i) % 16 : Nat) : Int) := by
  have h := bits_and_u64_nat (n / 2 ^ (60 - 4 * i)) 15 (Nat.lt_of_le_of_lt (Nat.div_le_self _ _) hn) (by decide)
  rw [show ((15 : Nat) : Int) = 15 from rfl] at h
  rw [h, show (15 : Nat) = 2 ^ 4 - 1 by decide, Nat.and_two_pow_sub_one_eq_mod, sixteen i hi]
theorem next_is (n d : Nat) (hn : n < 1152921504606846976) (hd : d < 16) : bits .or .u64 (IntKind.u64.wrap ((n : Int) * 16)) (d : Int) = ((n * 16 + d : Nat) : Int) := by
  have e : IntKind.u64.wrap ((n : Int) * 16) = ((n * 16 : Nat) : Int) := by rw [IntKind.wrap_u64]; omega
  rw [e, bits_or_u64_nat (n * 16) d (by omega) (by omega)]
  have h := Nat.two_pow_add_eq_or_of_lt (i := 4) (show d < 2 ^ 4 from hd) n
  rw [show n * 16 = 2 ^ 4 * n by omega, ← h]
theorem read_next (a i : Nat) (hi : i < 16) : a / 16 ^ (16 - i) * 16 + a / 16 ^ (15 - i) % 16 = a / 16 ^ (15 - i) := by
  rw [show 16 - i = (15 - i) + 1 by omega, Nat.pow_succ, ← Nat.div_div_eq_div_mul]
  omega
theorem read_first (a : Nat) (ha : a < 18446744073709551616) : a / 16 ^ 16 = 0 := Nat.div_eq_of_lt ha
theorem read_less (a i : Nat) (hi : i < 16) (ha : a < 18446744073709551616) : a / 16 ^ (16 - i) < 1152921504606846976 := by
  have h : 16 ≤ 16 ^ (16 - i) := by
    have := Nat.pow_le_pow_right (n := 16) (by decide) (show 1 ≤ 16 - i by omega)
    omega
  have h2 : a / 16 ^ (16 - i) ≤ a / 16 := Nat.div_le_div_left h (by decide)
  omega
end Go.Proofs.YtfamcebgcpaolaaGreatDoor
namespace Go.Proofs.YtfamcebgcpaolaaGreatDoor
open Go.RowKit
set_option linter.unusedVariables false
set_option linter.unusedSimpArgs false

def fnv0 : Nat := 14695981039346656037
def sumS (s : ByteArray) : Nat := fnv fnv0 s.data.toList
theorem fnv0_lt : fnv0 < 18446744073709551616 := by decide
theorem sum_next (s : ByteArray) (k : Nat) (hk : k < s.size) : fnv fnv0 (s.data.toList.take (k + 1)) = fnvF (fnv fnv0 (s.data.toList.take k)) s[k] := by
  have h : s.data.toList.length = s.size := size_toList s
  rw [List.take_succ_eq_append_getElem (by omega), fnv_app]
  rfl
theorem ret_u64 {a b : Int} (h : a = b) : Ending.returned (.int .u64 a) = .returned (.int .u64 b) := by rw [h]

set_option maxRecDepth 100000 in
set_option maxHeartbeats 800000 in
theorem sum_any (s : ByteArray) (hs : s.size ≤ 9223372036854775807) (W : World) :
    Calls Tryz.prog 11 #[.string s] W fun e w' => e = .returned (.int .u64 (sumS s : Int)) ∧ w' = W := by
  have HN := Lib.hid (sum_next s)
  have HT := Lib.hid (show fnv fnv0 (s.data.toList.take s.size) = sumS s from by rw [List.take_of_length_le (by rw [size_toList]; exact Nat.le_refl _)]; rfl)
  obtain ⟨T, hT⟩ : ∃ T, sumS s = T := ⟨_, rfl⟩
  rw [hT] at HT ⊢
  clear hT
  go_enter Tryz.func11, Tryz.ntmps11
  go_wp2
  go_loopw [3, 7] (fun sv iv wr => ∃ k n : Nat, k ≤ s.size ∧ iv = .int .i64 k ∧ sv = .int .u64 n ∧ n < 18446744073709551616 ∧ Hid (fnv fnv0 (s.data.toList.take k) = n) ∧ wr = W) (fun _ iv _ => s.size - (intOf iv).toNat)
  case atStart => exact ⟨0, fnv0, Nat.zero_le _, rfl, rfl, fnv0_lt, Lib.hid rfl, rfl⟩
  case round =>
    obtain ⟨k, n, hk, rfl, rfl, hn, HK, rfl⟩ := hrel
    by_cases hk2 : k < s.size
    · have hkI : (k : Int) < (s.size : Int) := by omega
      have h1 := HN.out k hk2
      rw [HK.out] at h1
      obtain ⟨c, hc⟩ : ∃ c, s[k] = c := ⟨_, rfl⟩
      rw [hc] at h1
      have hst := fnv_step n c hn
      have hcb : IntKind.u64.wrap (c.toNat : Int) = (c.toNat : Int) := by have := c.toNat_lt; rw [IntKind.wrap_u64]; omega
      have hlt := fnvF_lt n c
      obtain ⟨m, hm⟩ : ∃ m, fnvF n c = m := ⟨_, rfl⟩
      rw [hm] at h1 hst hlt
      have HM := Lib.hid h1
      clear h1 hm
      go_wp2
      go_round
      case rel => exact ⟨k + 1, m, by omega, by go_num, by first | rfl | (simp; done), hlt, HM, by first | rfl | trivial⟩
      case measure => simp [intOf]; omega
    · obtain rfl : k = s.size := by omega
      have hkI : ¬ (s.size : Int) < (s.size : Int) := by omega
      have E := Lib.hid (show (n : Int) = (T : Int) by rw [← HK.out, HT.out])
      clear hk2
      go_wp2
      go_ret
      exact ⟨ret_u64 E.out, by first | rfl | trivial⟩
set_option maxRecDepth 100000 in
set_option maxHeartbeats 800000 in
theorem refFnv_any (s : ByteArray) (hs : s.size ≤ 9223372036854775807) (W : World) :
    Calls Tryz.prog 12 #[.string s] W fun e w' => e = .returned (.int .u64 (sumS s : Int)) ∧ w' = W := by
  have HN := Lib.hid (sum_next s)
  have HT := Lib.hid (show fnv fnv0 (s.data.toList.take s.size) = sumS s from by rw [List.take_of_length_le (by rw [size_toList]; exact Nat.le_refl _)]; rfl)
  obtain ⟨T, hT⟩ : ∃ T, sumS s = T := ⟨_, rfl⟩
  rw [hT] at HT ⊢
  clear hT
  go_enter Tryz.func12, Tryz.ntmps12
  go_wp2
  go_loopw [3, 4] (fun sv iv wr => ∃ k n : Nat, k ≤ s.size ∧ iv = .int .i64 k ∧ sv = .int .u64 n ∧ n < 18446744073709551616 ∧ Hid (fnv fnv0 (s.data.toList.take k) = n) ∧ wr = W) (fun _ iv _ => s.size - (intOf iv).toNat)
  case atStart => exact ⟨0, fnv0, Nat.zero_le _, rfl, rfl, fnv0_lt, Lib.hid rfl, rfl⟩
  case round =>
    obtain ⟨k, n, hk, rfl, rfl, hn, HK, rfl⟩ := hrel
    by_cases hk2 : k < s.size
    · have hkI : (k : Int) < (s.size : Int) := by omega
      have h1 := HN.out k hk2
      rw [HK.out] at h1
      obtain ⟨c, hc⟩ : ∃ c, s[k] = c := ⟨_, rfl⟩
      rw [hc] at h1
      have hst := fnv_step n c hn
      have hcb : IntKind.u64.wrap (c.toNat : Int) = (c.toNat : Int) := by have := c.toNat_lt; rw [IntKind.wrap_u64]; omega
      have hlt := fnvF_lt n c
      obtain ⟨m, hm⟩ : ∃ m, fnvF n c = m := ⟨_, rfl⟩
      rw [hm] at h1 hst hlt
      have HM := Lib.hid h1
      clear h1 hm
      go_wp2
      go_round
      case rel => exact ⟨k + 1, m, by omega, by go_num, by first | rfl | (simp; done), hlt, HM, by first | rfl | trivial⟩
      case measure => simp [intOf]; omega
    · obtain rfl : k = s.size := by omega
      have hkI : ¬ (s.size : Int) < (s.size : Int) := by omega
      have E := Lib.hid (show (n : Int) = (T : Int) by rw [← HK.out, HT.out])
      clear hk2
      go_wp2
      go_ret
      exact ⟨ret_u64 E.out, by first | rfl | trivial⟩

def digS : ByteArray := ⟨#[48, 49, 50, 51, 52, 53, 54, 55, 56, 57, 97, 98, 99, 100, 101, 102]⟩
theorem digS_at (d : Nat) (h : d < 16) : ∃ hh : d < digS.size, digS[d] = hexC0 d := by
  have key : ∀ d : Fin 16, digS.data.toList[d.val]? = some (hexC0 d.val) := by decide +kernel
  have hh : d < digS.size := h
  refine ⟨hh, ?_⟩
  have k := key ⟨d, h⟩
  have h2 : digS.data.toList[d]? = some digS[d] := by
    rw [List.getElem?_eq_getElem (show d < digS.data.toList.length from hh)]
    rfl
  rw [h2] at k
  exact Option.some.inj k
end Go.Proofs.YtfamcebgcpaolaaGreatDoor
namespace Go.Proofs.YtfamcebgcpaolaaGreatDoor
open Go.RowKit
set_option linter.unusedVariables false
set_option linter.unusedSimpArgs false

/-- what stands in the array when k digits are written -/
def hexA (n k : Nat) : List Value := (((hx 16 n).take k ++ List.replicate (16 - k) 0).map fun c : UInt8 => .int .u8 (c.toNat : Int))
theorem hexA_len (n k : Nat) (hk : k ≤ 16) : (hexA n k).length = 16 := by
  unfold hexA
  rw [List.length_map, List.length_append, List.length_take, hx_len, List.length_replicate]
  omega
theorem hexA_next (n k : Nat) (hk : k < 16) : (hexA n k).set k (.int .u8 ((hexC0 (n / 16 ^ (15 - k) % 16)).toNat : Int)) = hexA n (k + 1) := by
  unfold hexA
  rw [← List.map_set, List.set_append_right _ _ (by rw [List.length_take, hx_len]; omega), List.length_take, hx_len, show k - min k 16 = 0 by omega, show 16 - k = (16 - (k + 1)) + 1 by omega, List.replicate_succ, List.set_cons_zero,
    List.take_add_one, hx_at 16 n k hk, show 16 - 1 - k = 15 - k by omega]
  simp

set_option maxRecDepth 100000 in
set_option maxHeartbeats 800000 in
theorem hex_any (n : Nat) (hn : n < 18446744073709551616) (W : World) :
    Calls Tryz.prog 13 #[.int .u64 (n : Int)] W fun e w' => e = .returned (.string (hexS n)) ∧ Below W.heap.size W w' := by
  have h0 : W.heap.size ≤ W.heap.size := Nat.le_refl _
  have HD := Lib.hid (digit_is n)
  have HA := Lib.hid (hexA_next n)
  have HG := Lib.hid digS_at
  go_enter Tryz.func13, Tryz.ntmps13
  go_wp2
  obtain ⟨w1, hw1⟩ : ∃ w, W.alloc (.cells (hexA n 0).toArray 73) = w := ⟨_, rfl⟩
  have B1 : Blk w1 W.heap.size 73 (hexA n 0).toArray := by rw [← hw1]; exact Blk.new W _ _
  have hb1 : Below W.heap.size W w1 := by rw [← hw1]; exact (Below.refl _ _).alloc h0 _
  change Code.wp Tryz.prog _ _ _ (W.alloc (.cells (hexA n 0).toArray 73))
  rw [hw1]
  clear hw1
  go_loopw [5] (fun iv wr => ∃ k : Nat, k ≤ 16 ∧ iv = .int .i64 k ∧ Blk wr W.heap.size 73 (hexA n k).toArray ∧ Below W.heap.size W wr) (fun iv _ => 16 - (intOf iv).toNat)
  case atStart => exact ⟨0, Nat.zero_le _, rfl, B1, hb1⟩
  case round =>
    obtain ⟨k, hk, rfl, hB, hb⟩ := hrel
    by_cases hk2 : k < 16
    · have hkI : (k : Int) < 16 := by omega
      have e1 : IntKind.i64.wrap (4 * (k : Int)) = ((4 * k : Nat) : Int) := by rw [IntKind.wrap_i64]; omega
      have e2 : IntKind.i64.wrap (60 - ((4 * k : Nat) : Int)) = ((60 - 4 * k : Nat) : Int) := by rw [IntKind.wrap_i64]; omega
      have e3 : ((n : Int) / 2 ^ ((60 - 4 * k : Nat) : Int).toNat) = ((n / 2 ^ (60 - 4 * k) : Nat) : Int) := by
        rw [Int.toNat_natCast]; push_cast; rfl
      have e4 := HD.out k hk2 hn
      have e5 := HA.out k hk2
      have hd16 : n / 16 ^ (15 - k) % 16 < 16 := Nat.mod_lt _ (by decide)
      obtain ⟨d, hd⟩ : ∃ d, n / 16 ^ (15 - k) % 16 = d := ⟨_, rfl⟩
      rw [hd] at e4 e5 hd16
      have e6 : ((n / 2 ^ (60 - 4 * k) : Nat) : Int) = (n : Int) / 2 ^ (60 - 4 * k) := by rw [Int.natCast_ediv, Int.natCast_pow]; rfl
      rw [e6] at e4
      have e7 : (⟨#[48, 49, 50, 51, 52, 53, 54, 55, 56, 57, 97, 98, 99, 100, 101, 102]⟩ : ByteArray)[d]'(by exact hd16) = hexC0 d := (HG.out d hd16).2
      have c1 : wr.cell? ⟨W.heap.size, k, none⟩ = some (.int .u8 0) := (hB.cell k).trans (by
        unfold hexA
        rw [List.getElem?_toArray, List.getElem?_map, List.getElem?_append_right (by rw [List.length_take, hx_len]; omega), List.length_take, hx_len, show k - min k 16 = 0 by omega, List.getElem?_replicate, if_pos (by omega)]
        rfl)
      have f1 := hB.frozen k
      have B2 := hB.set_ k (.int .u8 ((hexC0 d).toNat : Int))
      rw [List.setIfInBounds_toArray, e5] at B2
      have hb2 := hb.setCell (p := ⟨W.heap.size, k, none⟩) h0 (.int .u8 ((hexC0 d).toNat : Int))
      have HB2 := Lib.hid B2
      have Hb2 := Lib.hid hb2
      clear e6 hd hB hb e5 B2 hb2 e1 e2 e3 B1 hb1
      go_wp2
      go_round
      case rel => exact ⟨k + 1, by omega, by go_num, HB2.out, Hb2.out⟩
      case measure => simp [intOf]; omega
    · obtain rfl : k = 16 := by omega
      have hcv : (convert 63 9 (.slice (some ⟨W.heap.size, 0, none⟩) 16 16)).run Tryz.prog wr = .ok (.string (hexS n)) wr := by
        have h2 := run_convert_bytes_arg (P := Tryz.prog) wr 63 5 Tryz.underlying63 Tryz.underlying5 W.heap.size 0 16 16 ((hx 16 n).map fun b => (b.toNat : Int)) (by rw [List.length_map, hx_len]) (fun i hi => by
          have hl : i < (hx 16 n).length := by rw [hx_len]; exact hi
          rw [Nat.zero_add, hB.cell i, List.getElem?_toArray]
          unfold hexA
          rw [List.take_of_length_le (by rw [hx_len]; omega), List.replicate_zero, List.append_nil, List.getElem?_map, List.getElem?_eq_getElem hl]
          simp [hl, List.getD_eq_getElem?_getD]) 9 Tryz.underlying9
        rw [h2]
        unfold hexS
        congr 2
        apply ByteArray.ext
        apply Array.toList_inj.1
        rw [strOfNums_data, List.map_map]
        show _ = hx 16 n
        conv => rhs; rw [← List.map_id (hx 16 n)]
        apply List.map_congr_left
        intro x _
        simp
      have HC := Lib.hid hb
      clear hb hB B1 hb1 HD HA HG
      go_wp2
      go_ret
      exact ⟨rfl, HC.out⟩

theorem hexC0_text (n k : Nat) : (⟨#[hexC0 (n / 16 ^ k % 16)]⟩ : ByteArray) ++ (⟨(hx k n).toArray⟩ : ByteArray) = ⟨(hx (k + 1) n).toArray⟩ := by
  apply ByteArray.ext
  apply Array.toList_inj.1
  rw [ByteArray.data_append, Array.toList_append, hx]
  rfl
theorem digS_cut (d : Nat) (h : d < 16) : digS.extract d (d + 1) = ⟨#[hexC0 d]⟩ := by
  have key : ∀ d : Fin 16, (digS.extract d.val (d.val + 1)).data.toList = [hexC0 d.val] := by decide +kernel
  apply ByteArray.ext
  apply Array.toList_inj.1
  exact key ⟨d, h⟩

set_option maxRecDepth 100000 in
set_option maxHeartbeats 800000 in
theorem refHex_any (n : Nat) (hn : n < 18446744073709551616) (W : World) :
    Calls Tryz.prog 14 #[.int .u64 (n : Int)] W fun e w' => e = .returned (.string (hexS n)) ∧ w' = W := by
  have HB := Lib.hid (hexC0_text n)
  have HC := Lib.hid digS_cut
  go_enter Tryz.func14, Tryz.ntmps14
  go_wp2
  go_loopw [0, 3, 4] (fun nv sv iv wr => ∃ (k m : Nat) (t : ByteArray), k ≤ 16 ∧ iv = .int .i64 k ∧ nv = .int .u64 m ∧ sv = .string t ∧ m < 18446744073709551616 ∧ Hid (n / 16 ^ k = m) ∧ Hid ((⟨(hx k n).toArray⟩ : ByteArray) = t) ∧ wr = W) (fun _ _ iv _ => 16 - (intOf iv).toNat)
  case atStart => exact ⟨0, n, ⟨#[]⟩, Nat.zero_le _, rfl, rfl, rfl, hn, Lib.hid (by rw [Nat.pow_zero, Nat.div_one]), Lib.hid rfl, rfl⟩
  case round =>
    obtain ⟨k, m, t, hk, rfl, rfl, rfl, hm, HM, HT, rfl⟩ := hrel
    by_cases hk2 : k < 16
    · have hkI : (k : Int) < 16 := by omega
      have hts : t.size = k := by rw [← HT.out]; exact hx_len k n
      have h1 := HB.out k
      rw [HM.out, HT.out] at h1
      have hd16 : m % 16 < 16 := Nat.mod_lt _ (by decide)
      have h2 := HC.out (m % 16) hd16
      have hmn : n / 16 ^ (k + 1) = m / 16 := by rw [Nat.pow_succ, ← Nat.div_div_eq_div_mul, HM.out]
      have q1 : (m : Int).tmod 16 = ((m % 16 : Nat) : Int) := by rw [Int.tmod_eq_emod_of_nonneg (by omega)]; rfl
      have q2 : (m : Int) % 16 = ((m % 16 : Nat) : Int) := rfl
      have q3 : (m : Int).tdiv 16 = ((m / 16 : Nat) : Int) := by rw [Int.tdiv_eq_ediv_of_nonneg (by omega)]; rfl
      have q4 : (m : Int) / 16 = ((m / 16 : Nat) : Int) := rfl
      obtain ⟨d, hd⟩ : ∃ d, m % 16 = d := ⟨_, rfl⟩
      obtain ⟨m2, hm2⟩ : ∃ d, m / 16 = d := ⟨_, rfl⟩
      rw [hd] at h1 h2 hd16 q1 q2
      rw [hm2] at hmn q3 q4
      have hm3 : m2 < 18446744073709551616 := by omega
      have w1 : IntKind.u64.wrap ((d : Int) + 1) = ((d + 1 : Nat) : Int) := by rw [IntKind.wrap_u64]; omega
      have hcat : ¬ 9223372036854775807 < 1 + t.size := by omega
      obtain ⟨u, hu⟩ : ∃ u : ByteArray, (⟨#[hexC0 d]⟩ : ByteArray) = u := ⟨_, rfl⟩
      have hus : u.size = 1 := by rw [← hu]; rfl
      rw [hu] at h1 h2
      have hcat2 : ¬ 9223372036854775807 < u.size + t.size := by omega
      have dI : (d : Int) ≤ ((d + 1 : Nat) : Int) := by omega
      have dJ : ((d + 1 : Nat) : Int) ≤ 16 := by omega
      replace h2 : (⟨#[48, 49, 50, 51, 52, 53, 54, 55, 56, 57, 97, 98, 99, 100, 101, 102]⟩ : ByteArray).extract d (d + 1) = u := h2
      have HM2 := Lib.hid hmn
      have HT2 := Lib.hid (show (⟨(hx (k + 1) n).toArray⟩ : ByteArray) = u ++ t from h1.symm)
      clear h1 hmn hd hm2 hu HB HC HM HT
      go_wp2
      go_round
      case rel => exact ⟨k + 1, m2, u ++ t, by omega, by go_num, by first | rfl | (simp; done), by first | rfl | (simp; done), hm3, HM2, HT2, by first | rfl | trivial⟩
      case measure => simp [intOf]; omega
    · obtain rfl : k = 16 := by omega
      have E := Lib.hid (show t = hexS n from HT.out.symm)
      clear HM HT HB HC
      go_wp2
      go_ret
      exact ⟨by rw [← E.out]; rfl, by first | rfl | trivial⟩
end Go.Proofs.YtfamcebgcpaolaaGreatDoor
namespace Go.Proofs.YtfamcebgcpaolaaGreatDoor
open Go.RowKit
set_option linter.unusedVariables false
set_option linter.unusedSimpArgs false

def dv (c : UInt8) : Nat := if 48 ≤ c.toNat ∧ c.toNat ≤ 57 then c.toNat - 48 else if 97 ≤ c.toNat ∧ c.toNat ≤ 102 then c.toNat - 87 else 16
theorem dv_is (c : UInt8) (k : Nat) (hk : k < 16) : hexC0 k = c ↔ dv c = k := by
  rw [← UInt8.toNat_inj, hexC0_nat k hk]
  unfold dv
  constructor
  · intro h
    split at h <;> (repeat' split) <;> omega
  · intro h
    split at h
    · split <;> omega
    · split at h
      · split <;> omega
      · omega
theorem dv_le (c : UInt8) : dv c ≤ 16 := by
  unfold dv
  (repeat' split) <;> omega
def unF (n : Nat) (c : UInt8) : Nat := if dv c < 16 then (n * 16 + dv c) % 18446744073709551616 else n
def unhexS (t : ByteArray) : Nat := (t.data.toList.take 16).foldl unF 0
theorem unF_lt (n : Nat) (c : UInt8) (h : n < 18446744073709551616) : unF n c < 18446744073709551616 := by
  unfold unF
  split
  · exact Nat.mod_lt _ (by decide)
  · exact h
theorem un_next (t : ByteArray) (k : Nat) (hk : k < t.size) : (t.data.toList.take (k + 1)).foldl unF 0 = unF ((t.data.toList.take k).foldl unF 0) t[k] := by
  have h : t.data.toList.length = t.size := size_toList t
  rw [List.take_succ_eq_append_getElem (by omega), List.foldl_append]
  rfl

set_option maxRecDepth 100000 in
set_option maxHeartbeats 800000 in
theorem unhex_any (t : ByteArray) (hs : t.size ≤ 9223372036854775807) (W : World) :
    Calls Tryz.prog 38 #[.string t] W fun e w' => e = .returned (.int .u64 (unhexS t : Int)) ∧ Below W.heap.size W w' := by
  have HN := Lib.hid (un_next t)
  have HG := Lib.hid digS_at
  have HV := Lib.hid dv_is
  have HLE := Lib.hid dv_le
  have HT := Lib.hid (show ∀ k, (k = 16 ∨ k = t.size) → k ≤ 16 → (t.data.toList.take k).foldl unF 0 = unhexS t from fun k h h2 => by
    unfold unhexS
    rcases h with h | h
    · rw [h]
    · rw [List.take_of_length_le (by rw [size_toList]; omega), List.take_of_length_le (by rw [size_toList]; omega)])
  obtain ⟨T, hT⟩ : ∃ T, unhexS t = T := ⟨_, rfl⟩
  rw [hT] at HT ⊢
  clear hT
  go_enter Tryz.func38, Tryz.ntmps38
  go_wp2
  go_loopw [3, 4] (fun sv iv wr => ∃ k n : Nat, k ≤ t.size ∧ k ≤ 16 ∧ iv = .int .i64 k ∧ sv = .int .u64 n ∧ n < 18446744073709551616 ∧ Hid ((t.data.toList.take k).foldl unF 0 = n) ∧ ∃ q, wr = W.drewN q) (fun _ iv _ => 16 - (intOf iv).toNat)
  case atStart => exact ⟨0, 0, Nat.zero_le _, Nat.zero_le _, rfl, rfl, by decide, Lib.hid rfl, 0, rfl⟩
  case round =>
    obtain ⟨k, n, hk, hk16, rfl, rfl, hn, HK, q0, rfl⟩ := hrel
    by_cases hk2 : k < 16 ∧ k < t.size
    · obtain ⟨g1, g2⟩ := hk2
      have hkI : (k : Int) < 16 := by omega
      have hkJ : (k : Int) < (t.size : Int) := by omega
      have h1 := HN.out k g2
      rw [HK.out] at h1
      obtain ⟨c, hc⟩ : ∃ c, t[k] = c := ⟨_, rfl⟩
      rw [hc] at h1
      have HF := Lib.hid (show unF n c = (if dv c < 16 then (n * 16 + dv c) % 18446744073709551616 else n) from rfl)
      have HC := Lib.hid (show ∀ j, j < 16 → (hexC0 j = c ↔ dv c = j) from fun j hj => HV.out c j hj)
      obtain ⟨D, hD⟩ : ∃ D, dv c = D := ⟨_, rfl⟩
      rw [hD] at HF
      simp only [hD] at HC
      have H1 := Lib.hid h1
      have HLT := Lib.hid (unF_lt n c hn)
      clear h1 hD HV HLE
      go_wp2
      go_loopw [3, 5] (fun sv jv wr => ∃ j m : Nat, j ≤ 16 ∧ jv = .int .i64 j ∧ sv = .int .u64 m ∧ m < 18446744073709551616 ∧ Hid ((if D < j then (n * 16 + D) % 18446744073709551616 else n) = m) ∧ ∃ q, wr = W.drewN q) (fun _ jv _ => 16 - (intOf jv).toNat)
      case atStart => exact ⟨0, n, Nat.zero_le _, rfl, rfl, hn, Lib.hid (if_neg (by omega)), _, rfl⟩
      case round =>
        obtain ⟨j, m, hj, rfl, rfl, hm, HM, q1, rfl⟩ := hrel
        by_cases hj2 : j < 16
        · have hjI : (j : Int) < 16 := by omega
          have e7 : (⟨#[48, 49, 50, 51, 52, 53, 54, 55, 56, 57, 97, 98, 99, 100, 101, 102]⟩ : ByteArray)[j]'(by exact hj2) = hexC0 j := (HG.out j hj2).2
          have e8 := HC.out j hj2
          obtain ⟨b, hb⟩ : ∃ b, hexC0 j = b := ⟨_, rfl⟩
          rw [hb] at e7 e8
          by_cases hbc : b = c
          · have hDj : D = j := e8.1 hbc
            subst hbc
            have hmn : m = n := by rw [← HM.out, if_neg (by omega)]
            have z1 : ((b.toNat : Int) == (b.toNat : Int)) = true := by simp
            have w1 : IntKind.u64.wrap (j : Int) = (j : Int) := by rw [IntKind.wrap_u64]; omega
            have w2 : IntKind.u64.wrap (IntKind.u64.wrap ((m : Int) * 16) + (j : Int)) = (((n * 16 + D) % 18446744073709551616 : Nat) : Int) := by
              rw [IntKind.wrap_u64, IntKind.wrap_u64, hmn, hDj]; omega
            obtain ⟨r, hr⟩ : ∃ r, (n * 16 + D) % 18446744073709551616 = r := ⟨_, rfl⟩
            have hr2 : r < 18446744073709551616 := by rw [← hr]; exact Nat.mod_lt _ (by decide)
            rw [hr] at w2
            have HR := Lib.hid (show (if D < j + 1 then (n * 16 + D) % 18446744073709551616 else n) = r from by rw [if_pos (by omega)]; exact hr)
            clear e8 hb hmn hr HM
            go_wp2
            go_quiet (fail)
            go_wp2
            go_round
            case rel => exact ⟨j + 1, r, by omega, by go_num, by first | rfl | (simp; done), hr2, HR, _, rfl⟩
            case measure => simp [intOf]; omega
          · have hDj : ¬ D = j := fun h => hbc (e8.2 h)
            have hbn : ¬ b.toNat = c.toNat := fun h => hbc (UInt8.toNat_inj.1 h)
            have z1 : ((b.toNat : Int) == (c.toNat : Int)) = false := by rw [beq_eq_false_iff_ne]; omega
            have z2 : ¬ (b.toNat : Int) = (c.toNat : Int) := by omega
            have HR := Lib.hid (show (if D < j + 1 then (n * 16 + D) % 18446744073709551616 else n) = m from by
              rw [← HM.out]
              by_cases h : D < j
              · rw [if_pos h, if_pos (by omega)]
              · rw [if_neg h, if_neg (by omega)])
            clear e8 hb HM
            go_wp2
            go_quiet (fail)
            go_wp2
            go_round
            case rel => exact ⟨j + 1, m, by omega, by go_num, rfl, hm, HR, _, rfl⟩
            case measure => simp [intOf]; omega
        · obtain rfl : j = 16 := by omega
          have HR := Lib.hid (show (t.data.toList.take (k + 1)).foldl unF 0 = m from by rw [H1.out, HF.out]; exact HM.out)
          clear HM H1 HF HC
          go_wp2
          go_round
          case rel => exact ⟨k + 1, m, by omega, by omega, by go_num, rfl, hm, HR, _, rfl⟩
          case measure => simp [intOf]; omega
    · have hends : (¬ (k : Int) < 16) ∨ ((k : Int) < 16 ∧ ¬ (k : Int) < (t.size : Int)) := by omega
      have E := Lib.hid (show (n : Int) = (T : Int) by rw [← HK.out, HT.out k (by omega) hk16])
      clear hk2
      rcases hends with e1 | ⟨e1, e2⟩
      all_goals
        go_wp2
        go_ret
        exact ⟨ret_u64 E.out, below_drewN (Below.refl _ _) _⟩
end Go.Proofs.YtfamcebgcpaolaaGreatDoor
