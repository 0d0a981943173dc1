/- The document's own Put: it answers as the program's does. -/
import Derived.Test.YtnhbahfpinijiaaRefBase
import Derived.Test.YtnhbahfpinijiaaConv
import Derived.Deep.AppendLies
import Derived.Deep.RegionHeld3
import Derived.Laws.OwnMore
namespace Go.Proofs.Ytnhbahfpinijiaa
open Go.RowKit
set_option linter.unusedVariables false

theorem conv_one (w : World) (b : UInt8) : (convert 22 9 (.slice (some ⟨w.heap.size, 0, none⟩) 1 1)).run Try.prog (w.alloc (.cells #[.int .u8 (b.toNat : Int)] 5)) = .ok (.string ⟨#[b]⟩) (w.alloc (.cells #[.int .u8 (b.toNat : Int)] 5)) :=
  conv_own (own_new w [b] 0 (Nat.zero_le _) (by simp))
theorem conv_two (w : World) (a b : UInt8) : (convert 22 9 (.slice (some ⟨w.heap.size, 0, none⟩) 2 2)).run Try.prog (w.alloc (.cells #[.int .u8 (a.toNat : Int), .int .u8 (b.toNat : Int)] 5)).drew = .ok (.string ⟨#[a, b]⟩) (w.alloc (.cells #[.int .u8 (a.toNat : Int), .int .u8 (b.toNat : Int)] 5)).drew :=
  conv_own (w := (w.alloc (.cells #[.int .u8 (a.toNat : Int), .int .u8 (b.toNat : Int)] 5)).drew) (own_new w [a, b] 0 (Nat.zero_le _) (by simp))

def formT (b : UInt8) : ByteArray := ⟨(formB b).toArray⟩
theorem formT_of {b : UInt8} {l : List UInt8} {t : ByteArray} (h : formB b = l) (ht : t.data.toList = l) : t = formT b := text_ext (by rw [ht, ← h]; rfl)
theorem ret_text {a b : ByteArray} (h : a = b) : Ending.returned (.string a) = .returned (.string b) := by rw [h]

set_option maxHeartbeats 400000 in
theorem refOne_any (b : UInt8) (W : World) :
    Calls Try.prog 40 #[.int .u8 (b.toNat : Int)] W fun e w' => e = .returned (.string (formT b)) ∧ Below W.heap.size W w' := by
  have hb := b.toNat_lt
  have hc1 := conv_one W b
  by_cases h1 : b = 34 ∨ b = 92
  · have e : formB b = [92, b] := by simp [formB, h1]
    have E := Lib.hid e
    have hx : b.toNat = 34 ∨ b.toNat = 92 := by rcases h1 with rfl | rfl <;> simp
    have hx1 : (((b.toNat : Int)) == 34) = true ∨ (((b.toNat : Int)) == 34) = false ∧ (((b.toNat : Int)) == 92) = true := by
      rcases hx with h | h
      · left; rw [beq_iff_eq]; omega
      · right; exact ⟨by rw [beq_eq_false_iff_ne]; omega, by rw [beq_iff_eq]; omega⟩
    clear h1 hx e
    rcases hx1 with g1 | ⟨g1, g2⟩
    all_goals
      go_enter Try.func40, Try.ntmps40
      go_wp2
      go_ret
      exact ⟨ret_text (formT_of E.out (by rw [text_app]; rfl)), (Below.refl _ _).alloc (Nat.le_refl _) _⟩
  · have hx : ¬ b.toNat = 34 ∧ ¬ b.toNat = 92 := by
      refine ⟨fun h => h1 (.inl ?_), fun h => h1 (.inr ?_)⟩ <;> exact UInt8.toNat_inj.1 h
    have g1 : (((b.toNat : Int)) == 34) = false := by rw [beq_eq_false_iff_ne]; omega
    have g2 : (((b.toNat : Int)) == 92) = false := by rw [beq_eq_false_iff_ne]; omega
    by_cases h2 : b = 10
    · have e : formB b = [92, 110] := by subst h2; rfl
      have E := Lib.hid e
      have g3 : (((b.toNat : Int)) == 10) = true := by subst h2; rfl
      clear h1 h2 hx e
      go_enter Try.func40, Try.ntmps40
      go_wp2
      go_ret
      exact ⟨ret_text (formT_of E.out rfl), Below.refl _ _⟩
    · have g3 : (((b.toNat : Int)) == 10) = false := by rw [beq_eq_false_iff_ne]; intro h; exact h2 (UInt8.toNat_inj.1 (by simp; omega))
      by_cases h3 : b = 9
      · have e : formB b = [92, 116] := by subst h3; rfl
        have E := Lib.hid e
        have g4 : (((b.toNat : Int)) == 9) = true := by subst h3; rfl
        clear h1 h2 h3 hx e
        go_enter Try.func40, Try.ntmps40
        go_wp2
        go_ret
        exact ⟨ret_text (formT_of E.out rfl), Below.refl _ _⟩
      · have g4 : (((b.toNat : Int)) == 9) = false := by rw [beq_eq_false_iff_ne]; intro h; exact h3 (UInt8.toNat_inj.1 (by simp; omega))
        by_cases h4 : rareB b = true
        · have e : formB b = [92, 120, digB (b.toNat / 16), digB (b.toNat % 16)] := by simp [formB, h1, h2, h3, h4]
          obtain ⟨q, hq⟩ : ∃ q, q = b.toNat / 16 := ⟨_, rfl⟩
          obtain ⟨r, hr⟩ : ∃ r, r = b.toNat % 16 := ⟨_, rfl⟩
          have hq16 : q < 16 := by omega
          have hr16 : r < 16 := by omega
          have hq1 : IntKind.u8.wrap ((b.toNat : Int) / 16) = (q : Int) := by rw [IntKind.wrap_u8]; omega
          have hr1 : (b.toNat : Int).tmod 16 = (r : Int) := by rw [Int.tmod_eq_emod_of_nonneg (by omega)]; omega
          have hq16' : (q : Int) < 16 := by omega
          have hr16' : (r : Int) < 16 := by omega
          have hd1 := dig_at q hq16
          have hd2 := dig_at r hr16
          rw [← hq, ← hr] at e
          have E := Lib.hid e
          have hc2 := conv_two W (digB q) (digB r)
          have hrare : (b.toNat : Int) < 32 ∨ ((32 : Int) ≤ (b.toNat : Int) ∧ (126 : Int) < (b.toNat : Int)) := by
            unfold rareB at h4
            simp at h4
            omega
          clear h1 h2 h3 h4 hx hq hr e hc1
          rcases hrare with k1 | ⟨k1, k2⟩
          all_goals
            go_enter Try.func40, Try.ntmps40
            go_wp2
            go_region_law (fail)
            all_goals
              go_wp2
              go_ret
              exact ⟨ret_text (formT_of E.out (by rw [text_app]; rfl)), ((Below.refl _ _).alloc (Nat.le_refl _) _).drew⟩
        · have e : formB b = [b] := by simp [formB, h1, h2, h3, h4]
          have E := Lib.hid e
          have hrare : (32 : Int) ≤ (b.toNat : Int) ∧ (b.toNat : Int) ≤ 126 := by
            unfold rareB at h4
            simp at h4
            have n10 : ¬ b.toNat = 10 := fun h => h2 (UInt8.toNat_inj.1 (by simpa using h))
            have n9 : ¬ b.toNat = 9 := fun h => h3 (UInt8.toNat_inj.1 (by simpa using h))
            omega
          obtain ⟨k1, k2⟩ := hrare
          clear h1 h2 h3 h4 hx e
          go_enter Try.func40, Try.ntmps40
          go_wp2
          go_ret
          exact ⟨ret_text (formT_of E.out rfl), (Below.refl _ _).alloc (Nat.le_refl _) _⟩
end Go.Proofs.Ytnhbahfpinijiaa
