/- The byte whose form a text begins with. -/
import Derived.Test.YtnhbahfpinijiaaPut2
import Derived.Test.YtnhbahfpinijiaaShelf
import Derived.Lib.IndexBytes
import Derived.WalkLawsBesides
namespace Go.Proofs.Ytnhbahfpinijiaa
open Go.RowKit
set_option linter.unusedVariables false

def digitsL : List UInt8 := [48, 49, 50, 51, 52, 53, 54, 55, 56, 57, 97, 98, 99, 100, 101, 102]
def hexI (c : UInt8) : Int := Lib.indexByte digitsL c
/-- the byte whose two digits stand there, and whether digits are its only form -/
def hexB (l : List UInt8) : UInt8 × Bool :=
  match l with
  | a :: b :: _ => if hexI a < 0 ∨ hexI b < 0 then (0, false) else (UInt8.ofNat (hexI a * 16 + hexI b).toNat, rareB (UInt8.ofNat (hexI a * 16 + hexI b).toNat))
  | _ => (0, false)
theorem hexI_range : ∀ c : UInt8, -1 ≤ hexI c ∧ hexI c < 16 := by
  have h : ∀ c : Fin 256, -1 ≤ hexI (UInt8.ofNat c.1) ∧ hexI (UInt8.ofNat c.1) < 16 := by decide +kernel
  intro c
  have := h ⟨c.toNat, c.toNat_lt⟩
  simpa using this
theorem bytes_cons (t : ByteArray) (h : 0 < t.size) : ∃ r, t.data.toList = t[0] :: r ∧ r.length + 1 = t.size := by
  obtain ⟨⟨l⟩⟩ := t
  match l, h with
  | a :: r, _ => exact ⟨r, rfl, by simp [ByteArray.size]⟩
theorem bytes_cons2 (t : ByteArray) (h : 1 < t.size) : ∃ r, t.data.toList = t[0] :: t[1] :: r ∧ r.length + 2 = t.size := by
  obtain ⟨⟨l⟩⟩ := t
  match l, h with
  | a :: b :: r, _ => exact ⟨r, rfl, by simp [ByteArray.size]⟩
theorem ret2_eq {a a' : Int} {b b' : Bool} (h : a = a') (h2 : b = b') : Ending.returned (.tuple #[.int .u8 a, .bool b]) = .returned (.tuple #[.int .u8 a', .bool b']) := by rw [h, h2]

set_option maxHeartbeats 800000 in
theorem hexByte_any (t : ByteArray) (W : World) :
    Calls Try.prog 44 #[.string t] W fun e w' => e = .returned (.tuple #[.int .u8 ((hexB t.data.toList).1.toNat : Int), .bool (hexB t.data.toList).2]) ∧ ∃ q, w' = W.drewN q := by
  by_cases h2 : t.size < 2
  · have e : hexB t.data.toList = (0, false) := by
      have hl : t.data.toList.length < 2 := by simpa using h2
      match h : t.data.toList, hl with
      | [], _ => rfl
      | [a], _ => rfl
    rw [e]
    have hi : (t.size : Int) < 2 := by omega
    go_enter Try.func44, Try.ntmps44
    go_wp2
    go_ret2
    exact ⟨rfl, 0, rfl⟩
  · obtain ⟨r, hr, _⟩ := bytes_cons2 t (by omega)
    have hi : ¬ (t.size : Int) < 2 := by omega
    have h0 : 0 < t.size := by omega
    have h1 : 1 < t.size := by omega
    obtain ⟨a, ha⟩ : ∃ a, t[0] = a := ⟨_, rfl⟩
    obtain ⟨b, hb⟩ : ∃ b, t[1] = b := ⟨_, rfl⟩
    rw [ha, hb] at hr
    rw [hr]
    have hra := hexI_range a
    have hrb := hexI_range b
    have ca : ∀ w : World, Calls Try.prog 45 #[.string ⟨#[48, 49, 50, 51, 52, 53, 54, 55, 56, 57, 97, 98, 99, 100, 101, 102]⟩, .int .u8 (a.toNat : Int)] w fun e w' => e = .returned (.int .i64 (hexI a)) ∧ w' = w := fun w => by
      simpa [hexI, digitsL] using Try.strings_IndexByte ⟨#[48, 49, 50, 51, 52, 53, 54, 55, 56, 57, 97, 98, 99, 100, 101, 102]⟩ (a.toNat : Int) w
    have cb : ∀ w : World, Calls Try.prog 45 #[.string ⟨#[48, 49, 50, 51, 52, 53, 54, 55, 56, 57, 97, 98, 99, 100, 101, 102]⟩, .int .u8 (b.toNat : Int)] w fun e w' => e = .returned (.int .i64 (hexI b)) ∧ w' = w := fun w => by
      simpa [hexI, digitsL] using Try.strings_IndexByte ⟨#[48, 49, 50, 51, 52, 53, 54, 55, 56, 57, 97, 98, 99, 100, 101, 102]⟩ (b.toNat : Int) w
    have CA := Lib.hid ca
    have CB := Lib.hid cb
    clear ca cb hr
    obtain ⟨x, hx⟩ : ∃ x, hexI a = x := ⟨_, rfl⟩
    obtain ⟨y, hy⟩ : ∃ y, hexI b = y := ⟨_, rfl⟩
    rw [hx] at hra
    rw [hy] at hrb
    obtain ⟨hra1, hra2⟩ := hra
    obtain ⟨hrb1, hrb2⟩ := hrb
    have CA' : Hid (∀ w : World, Calls Try.prog 45 #[.string ⟨#[48, 49, 50, 51, 52, 53, 54, 55, 56, 57, 97, 98, 99, 100, 101, 102]⟩, .int .u8 (a.toNat : Int)] w fun e w' => e = .returned (.int .i64 x) ∧ w' = w) := by rw [← hx]; exact CA
    have CB' : Hid (∀ w : World, Calls Try.prog 45 #[.string ⟨#[48, 49, 50, 51, 52, 53, 54, 55, 56, 57, 97, 98, 99, 100, 101, 102]⟩, .int .u8 (b.toNat : Int)] w fun e w' => e = .returned (.int .i64 y) ∧ w' = w) := by rw [← hy]; exact CB
    have HX := Lib.hid hx
    have HY := Lib.hid hy
    clear CA CB hx hy
    by_cases hbad : x < 0 ∨ y < 0
    · have e : hexB (a :: b :: r) = (0, false) := by simp only [hexB]; rw [if_pos (by rw [HX.out, HY.out]; exact hbad)]
      rw [e]
      rcases (by omega : x < 0 ∨ (0 ≤ x ∧ y < 0)) with g | ⟨g, g2⟩
      all_goals
        clear hbad
        go_enter Try.func44, Try.ntmps44
        go_wp2
        go_quiet (first | (go_at_call_of 45 (Value.int .u8 (a.toNat : Int)); exact Calls.quiet_of_same (CA'.out _)) | (go_at_call_of 45 (Value.int .u8 (b.toNat : Int)); exact Calls.quiet_of_same (CB'.out _)))
        go_wp2
        go_ret2
        exact ⟨rfl, _, rfl⟩
    · obtain ⟨B, hB0⟩ : ∃ B, B = UInt8.ofNat (x * 16 + y).toNat := ⟨_, rfl⟩
      have hB : x * 16 + y = (B.toNat : Int) := by
        have : (x * 16 + y).toNat < 256 := by omega
        rw [hB0]
        simp [UInt8.toNat_ofNat', Nat.mod_eq_of_lt this]
        omega
      have e : hexB (a :: b :: r) = (B, rareB B) := by simp only [hexB]; rw [if_neg (by rw [HX.out, HY.out]; exact hbad), HX.out, HY.out, hB0]
      rw [e]
      have g1 : 0 ≤ x := by omega
      have g2 : 0 ≤ y := by omega
      have hBl := B.toNat_lt
      have hB2 : IntKind.u8.wrap (x * 16 + y) = (B.toNat : Int) := by rw [IntKind.wrap_u8]; omega
      clear hbad hB0 e
      go_enter Try.func44, Try.ntmps44
      go_wp2
      go_quiet (first | (go_at_call_of 45 (Value.int .u8 (a.toNat : Int)); exact Calls.quiet_of_same (CA'.out _)) | (go_at_call_of 45 (Value.int .u8 (b.toNat : Int)); exact Calls.quiet_of_same (CB'.out _)))
      go_wp2_with (go_at_call 31; refine (rare_any B _).mono ?_; rintro e w' ⟨rfl, rfl⟩)
      go_ret2
      exact ⟨rfl, _, rfl⟩
end Go.Proofs.Ytnhbahfpinijiaa
