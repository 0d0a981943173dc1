/- A number in digits, as the law writes it. -/
import Derived.Test.YtehhmejpfglimaaDoorUnitDigits
namespace Go.Proofs.YtehhmejpfglimaaDoor
open Go.RowKit
set_option linter.unusedVariables false

def ndig (x : Nat) : List UInt8 := if x = 0 then [] else Lib.decDigits x
theorem ndig_last (x : Nat) : ndig (x / 10) ++ [UInt8.ofNat (48 + x % 10)] = Lib.decDigits x := by
  unfold ndig
  by_cases h : x < 10
  · rw [if_pos (by omega), dig_one h, Nat.mod_eq_of_lt h]; rfl
  · rw [if_neg (by omega), ← dig_more h]
def lenF (v : Value) : Nat := match v with | .string t => if t.size = 0 then 1 else 0 | _ => 0

set_option maxRecDepth 100000 in
set_option maxHeartbeats 800000 in
theorem long_any (n : Nat) (hn : n < 4294967296) (W : World) :
    Calls Tryd.prog 21 #[.int .u32 (n : Int)] W fun e w' => e = .returned (.string (itoaS (n : Int))) ∧ Below W.heap.size W w' := by
  have hit : itoaS (n : Int) = txt (Lib.decDigits n) := text_ext1 (by rw [itoaS_list, txt_list, itoa_pos (by omega)]; simp)
  have HIT := Lib.hid hit
  have HL := Lib.hid (digits_len n (by omega))
  clear hit
  go_enter Tryd.func21, Tryd.ntmps21
  go_wp2
  go_loopw [0, 3] (fun nv sv wr => ∃ (x : Nat) (t : ByteArray), nv = .int .u32 x ∧ sv = .string t ∧ x ≤ n ∧ Hid ((t = ⟨#[]⟩ ∧ x = n) ∨ (t.size ≠ 0 ∧ ndig x ++ t.data.toList = Lib.decDigits n)) ∧ Below W.heap.size W wr) (fun nv sv _ => (intOf nv).toNat + lenF sv)
  case atStart => exact ⟨n, ⟨#[]⟩, rfl, rfl, Nat.le_refl _, Lib.hid (.inl ⟨rfl, rfl⟩), Below.refl _ _⟩
  case round =>
    obtain ⟨x, t, rfl, rfl, hx, HA, hb⟩ := hrel
    have hsz := hb.size
    obtain ⟨r, hr⟩ : ∃ r, x % 10 = r := ⟨_, rfl⟩
    obtain ⟨q, hq⟩ : ∃ r, x / 10 = r := ⟨_, rfl⟩
    have r9 : r < 10 := by omega
    have i1 : (x : Int) % 10 = (r : Int) := by omega
    have i2 : (x : Int) / 10 = (q : Int) := by omega
    have b1 : (r : Int) < 10 := by omega
    have hw : IntKind.u8.wrap (r : Int) = (r : Int) := by rw [IntKind.wrap_u8]; omega
    have hcv := conv_digit_at wr wr.heap.size rfl r r9
    have hlast := ndig_last x
    rw [hr, hq] at hlast
    have hq0 : q ≤ x := by omega
    rcases HA.out with ⟨rfl, rfl⟩ | ⟨ht, hA⟩
    · have hs1 : (digT r).size = 1 := rfl
      have hnx : Hid (((digT r ++ (⟨#[]⟩ : ByteArray)) = ⟨#[]⟩ ∧ q = x) ∨ ((digT r ++ (⟨#[]⟩ : ByteArray)).size ≠ 0 ∧ ndig q ++ (digT r ++ (⟨#[]⟩ : ByteArray)).data.toList = Lib.decDigits x)) := Lib.hid (.inr ⟨by rw [ByteArray.size_append, hs1]; exact Nat.succ_ne_zero _, by rw [text_joined, digT_list]; exact hlast⟩)
      have hlen : lenF (.string (digT r ++ (⟨#[]⟩ : ByteArray))) = 0 := by
        show (if (digT r ++ (⟨#[]⟩ : ByteArray)).size = 0 then 1 else 0) = 0
        rw [if_neg (by rw [ByteArray.size_append, hs1]; exact Nat.succ_ne_zero _)]
      have hlen0 : lenF (.string (⟨#[]⟩ : ByteArray)) = 1 := rfl
      have g1 : (digT r).size + (⟨#[]⟩ : ByteArray).size ≤ 10 := by rw [hs1]; decide
      obtain ⟨y, hy⟩ : ∃ y, digT r = y := ⟨_, rfl⟩
      rw [hy] at hcv hnx hlen g1
      have HLN := Lib.hid hlen
      have HLN0 := Lib.hid hlen0
      clear hs1 hy hlast hr hq hlen hlen0
      go_wp2
      go_round
      case rel => exact ⟨q, _, by go_num, rfl, hq0, hnx, hb.alloc hsz _⟩
      case measure =>
        show q + lenF (.string (y ++ (⟨#[]⟩ : ByteArray))) < x + lenF (.string (⟨#[]⟩ : ByteArray))
        rw [HLN.out, HLN0.out]
        omega
    · have hts : t.size ≤ 21 := by
        have h2 := congrArg List.length hA
        rw [List.length_append, size_toList] at h2
        have := HL.out
        omega
      have hne : t.toList.isEmpty = false := by
        rw [Lib.toList_data]
        cases h : t.data.toList with
        | nil => exact absurd (by rw [← size_toList, h]; rfl) ht
        | cons a l => rfl
      have hne2 : ¬ t.toList = [] := by
        rw [Lib.toList_data]
        intro h
        exact ht (by rw [← size_toList, h]; rfl)
      by_cases hx0 : x = 0
      · subst hx0
        have E := Lib.hid (show t = itoaS (n : Int) by
          rw [HIT.out]
          exact text_ext1 (by rw [txt_list]; exact hA))
        clear hA hcv hlast hr hq i1 i2
        go_wp2
        go_ret
        exact ⟨ret_str E.out, hb⟩
      · have hs1 : (digT r).size = 1 := rfl
        have hxp : (0 : Int) < (x : Int) := by omega
        have hnd : ndig x = Lib.decDigits x := by unfold ndig; rw [if_neg hx0]
        have hnx : Hid (((digT r ++ t) = ⟨#[]⟩ ∧ q = n) ∨ ((digT r ++ t).size ≠ 0 ∧ ndig q ++ (digT r ++ t).data.toList = Lib.decDigits n)) := Lib.hid (.inr ⟨by rw [ByteArray.size_append, hs1]; omega, by
          rw [text_joined, digT_list, ← List.append_assoc, hlast, ← hnd]; exact hA⟩)
        have hlen : lenF (.string (digT r ++ t)) = 0 := by
          show (if (digT r ++ t).size = 0 then 1 else 0) = 0
          rw [if_neg (by rw [ByteArray.size_append, hs1]; omega)]
        have hlen0 : lenF (.string t) = 0 := by
          show (if t.size = 0 then 1 else 0) = 0
          rw [if_neg ht]
        have hqx : q < x := by omega
        have g1 : (digT r).size + t.size ≤ 30 := by rw [hs1]; omega
        obtain ⟨y, hy⟩ : ∃ y, digT r = y := ⟨_, rfl⟩
        rw [hy] at hcv hnx hlen g1
        have HLN := Lib.hid hlen
        have HLN0 := Lib.hid hlen0
        have HXQ := Lib.hid hqx
        clear hs1 hy hlast hr hq hlen hlen0 hnd hA hqx
        go_wp2
        go_round
        case rel => exact ⟨q, _, by go_num, rfl, by omega, hnx, hb.alloc hsz _⟩
        case measure =>
          show q + lenF (.string (y ++ t)) < x + lenF (.string t)
          rw [HLN.out, HLN0.out]
          exact HXQ.out
end Go.Proofs.YtehhmejpfglimaaDoor
