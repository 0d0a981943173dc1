/- The document's own text of a number. -/
import Derived.Test.YtehhmejpfglimaaDoorRefNum2
import Derived.Test.YtehhmejpfglimaaDoorDigits
import Derived.Test.YtehhmejpfglimaaDoorSame
import Derived.Laws.OwnMore
namespace Go.Proofs.YtehhmejpfglimaaDoor
open Go.RowKit
set_option linter.unusedVariables false

theorem own_row1 (w : World) (l : List UInt8) (B : Nat) (hB : B ≤ w.heap.size) (hl : l.length ≤ 16777216) : OwnB (w.alloc (.cells (bV l).toArray 5)) B 5 (.slice (some ⟨w.heap.size, 0, none⟩) l.length l.length) l := by
  have h := World.ownsRow_lit (base := B) (e := 5) (size := 1) w (bV l).toArray l.length hB (by unfold maxLen; omega) (by simp [bV])
  simpa [OwnB] using h
def digT (r : Nat) : ByteArray := ⟨#[UInt8.ofNat (48 + r)]⟩
theorem conv_digit (w : World) (r : Nat) (h : r < 10) : (convert 22 9 (.slice (some ⟨w.heap.size, 0, none⟩) 1 1)).run Tryd.prog (w.alloc (.cells #[.int .u8 (48 + (r : Int))] 5)) = .ok (.string (digT r)) (w.alloc (.cells #[.int .u8 (48 + (r : Int))] 5)) := by
  have h1 := own_text (P := Tryd.prog) (own_row1 w [UInt8.ofNat (48 + r)] 0 (Nat.zero_le _) (by simp)) Tryd.underlying22 Tryd.underlying5 Tryd.underlying9
  have e : ((UInt8.ofNat (48 + r)).toNat : Int) = 48 + (r : Int) := by rw [digit_byte r h]; omega
  have e2 : bV [UInt8.ofNat (48 + r)] = [.int .u8 (48 + (r : Int))] := by simp only [bV, List.map_cons, List.map_nil, e]
  rw [e2] at h1
  exact h1
/-- the digits ahead of the last one -/
def ahead (x : Nat) : List UInt8 := if x < 10 then [] else Lib.decDigits (x / 10)
theorem ahead_last (x : Nat) : ahead x ++ [UInt8.ofNat (48 + x % 10)] = Lib.decDigits x := by
  unfold ahead
  by_cases h : x < 10
  · rw [if_pos h, Nat.mod_eq_of_lt h]
    conv => rhs; rw [Lib.decDigits, dif_pos h]
    rfl
  · rw [if_neg h]
    conv => rhs; rw [Lib.decDigits, dif_neg h]
theorem digT_list (r : Nat) : (digT r).data.toList = [UInt8.ofNat (48 + r)] := rfl
theorem digits_len (u : Nat) (h : u ≤ 9223372036854775808) : (Lib.decDigits u).length ≤ 21 := by
  have := Lib.itoa_length_le (-(u : Int)) (by omega) (by omega)
  rcases Nat.eq_zero_or_pos u with h0 | h0
  · subst h0; rw [Lib.decDigits, dif_pos (by decide)]; simp
  · rw [Lib.itoa_neg u h0] at this
    simp at this
    omega
theorem ret_str {a b : ByteArray} (h : a = b) : Ending.returned (.string a) = .returned (.string b) := by rw [h]

set_option maxHeartbeats 800000 in
theorem refText_any (n : Int) (h0 : -9223372036854775808 ≤ n) (h1 : n ≤ 9223372036854775807) (W : World) :
    Calls Tryd.prog 22 #[.int .i64 n] W fun e w' => e = .returned (.string (itoaS n)) ∧ Below W.heap.size W w' := by
  have HS := Lib.hid (fun w => refSize_any n h0 h1 w)
  obtain ⟨X, hX⟩ : ∃ X : Nat, n.natAbs = X := ⟨_, rfl⟩
  have hXb : X ≤ 9223372036854775808 := by omega
  rw [hX] at HS
  have HX := Lib.hid hX
  have HL := Lib.hid (digits_len X hXb)
  have hi0 : (X : Int) % 10 = ((X % 10 : Nat) : Int) := by omega
  obtain ⟨r0, hr0⟩ : ∃ r, X % 10 = r := ⟨_, rfl⟩
  have hr9 : r0 < 10 := by omega
  have hal := ahead_last X
  rw [hr0] at hi0 hal
  have HAL := Lib.hid hal
  have hcv := conv_digit W r0 hr9
  have g0 : (r0 : Int) < 10 := by omega
  clear hX hr0 hal
  go_enter Tryd.func22, Tryd.ntmps22
  go_wp2_with fail
  refine (HS.out _).mono ?_
  rintro e w ⟨rfl, rfl⟩
  go_wp2
  go_loopw [3, 4] (fun xv sv wr => ∃ (x : Nat) (t : ByteArray), xv = .int .u64 x ∧ sv = .string t ∧ x ≤ 9223372036854775808 ∧ Hid (ahead x ++ t.data.toList = Lib.decDigits X) ∧ Below W.heap.size W wr) (fun xv _ _ => (intOf xv).toNat)
  case atStart => exact ⟨X, digT r0, rfl, rfl, hXb, Lib.hid HAL.out, (Below.refl _ _).alloc (Nat.le_refl _) _⟩
  case round =>
    obtain ⟨x, t, rfl, rfl, hx, HA, hb⟩ := hrel
    have hsz := hb.size
    have hts : t.size ≤ 21 := by
      have h2 := congrArg List.length HA.out
      rw [List.length_append, size_toList] at h2
      have := HL.out
      omega
    by_cases hx9 : 9 < x
    · have hi1 : (x : Int) / 10 = ((x / 10 : Nat) : Int) := by omega
      have hi2 : ((x / 10 : Nat) : Int) % 10 = ((x / 10 % 10 : Nat) : Int) := by omega
      have hah : ahead x = Lib.decDigits (x / 10) := by unfold ahead; rw [if_neg (by omega)]
      have hal := ahead_last (x / 10)
      obtain ⟨q, hq⟩ : ∃ q, x / 10 = q := ⟨_, rfl⟩
      have hqx : q < x := by omega
      rw [hq] at hi1 hi2 hah hal
      obtain ⟨r, hr⟩ : ∃ r, q % 10 = r := ⟨_, rfl⟩
      have hr9 : r < 10 := by omega
      rw [hr] at hi2 hal
      have hcv := conv_digit wr r hr9
      have g1 : (r : Int) < 10 := by omega
      have g2 : (digT r).size + t.size ≤ 100 := by show 1 + t.size ≤ 100; omega
      have HN := Lib.hid (show ahead q ++ (digT r ++ t).data.toList = Lib.decDigits X by
        rw [text_joined, digT_list, ← List.append_assoc, hal, ← hah]; exact HA.out)
      obtain ⟨d, hd⟩ : ∃ d, digT r = d := ⟨_, rfl⟩
      rw [hd] at hcv g2 HN
      have hx9' : (9 : Int) < (x : Int) := by omega
      clear hal hah hd hq hr
      go_wp2
      go_round
      case rel => exact ⟨q, _, by go_num, rfl, by omega, HN, hb.alloc hsz _⟩
      case measure => simp [intOf]; omega
    · have hfin : t.data.toList = Lib.decDigits X := by
        have := HA.out
        unfold ahead at this
        rw [if_pos (by omega)] at this
        exact this
      have hx9' : ¬ (9 : Int) < (x : Int) := by omega
      rcases (by omega : n < 0 ∨ ¬ n < 0) with hn | hn
      · have E := Lib.hid (show (⟨#[45]⟩ : ByteArray) ++ t = itoaS n from text_ext1 (by
          rw [text_joined, itoaS_list, hfin, Lib.itoa, if_pos hn, HX.out]; rfl))
        have g2 : (⟨#[45]⟩ : ByteArray).size + t.size ≤ 100 := by show 1 + t.size ≤ 100; omega
        clear hfin
        go_wp2
        go_ret
        exact ⟨ret_str E.out, hb⟩
      · have E := Lib.hid (show t = itoaS n from text_ext1 (by
          have e : n.toNat = X := by have := HX.out; omega
          rw [itoaS_list, hfin, Lib.itoa, if_neg hn, e]))
        clear hfin
        go_wp2
        go_ret
        exact ⟨ret_str E.out, hb⟩
end Go.Proofs.YtehhmejpfglimaaDoor
