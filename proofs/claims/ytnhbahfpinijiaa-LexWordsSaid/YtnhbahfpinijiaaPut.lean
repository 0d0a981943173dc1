/- Put: a text in quotes: what the program makes of each byte. -/
import Derived.Test.YtnhbahfpinijiaaRows
import Derived.Test.YtnhbahfpinijiaaMem
import Derived.Deep.RegionLaw
import Derived.Deep.AppendLies
import Derived.Deep.QuietTactic
import Derived.BigQuiet
namespace Go.Proofs.Ytnhbahfpinijiaa
open Go.RowKit
set_option linter.unusedVariables false

def rareB (b : UInt8) : Bool := decide ((126 : Int) < (b.toNat : Int)) || (decide ((b.toNat : Int) < 32) && (((b.toNat : Int) != 10) && ((b.toNat : Int) != 9)))
def digB (k : Nat) : UInt8 := if k < 10 then UInt8.ofNat (48 + k) else UInt8.ofNat (87 + k)
/-- how a byte is put -/
def formB (b : UInt8) : List UInt8 :=
  if b = 34 ∨ b = 92 then [92, b] else if b = 10 then [92, 110] else if b = 9 then [92, 116]
  else if rareB b = true then [92, 120, digB (b.toNat / 16), digB (b.toNat % 16)] else [b]
theorem formB_len (b : UInt8) : 1 ≤ (formB b).length ∧ (formB b).length ≤ 4 := by
  unfold formB
  split
  · simp
  · split
    · simp
    · split
      · simp
      · split <;> simp

theorem ret_bool {a b : Bool} (h : a = b) : Ending.returned (.bool a) = .returned (.bool b) := by rw [h]
set_option maxHeartbeats 400000 in
theorem rare_any (b : UInt8) (W : World) :
    Calls Try.prog 31 #[.int .u8 (b.toNat : Int)] W fun e w' => e = .returned (.bool (rareB b)) ∧ W = w' := by
  go_enter Try.func31, Try.ntmps31
  go_wp2
  all_goals
    go_ret
    refine ⟨ret_bool ?_, rfl⟩
    unfold rareB
    rw [Bool.eq_iff_iff]
    simp
    try omega

theorem dig_at (q : Nat) (h : q < 16) : (⟨#[48, 49, 50, 51, 52, 53, 54, 55, 56, 57, 97, 98, 99, 100, 101, 102]⟩ : ByteArray)[q]'(by exact h) = digB q := by
  have : ∀ q : Fin 16, (⟨#[48, 49, 50, 51, 52, 53, 54, 55, 56, 57, 97, 98, 99, 100, 101, 102]⟩ : ByteArray)[q.1]'(by exact q.2) = digB q.1 := by decide
  exact this ⟨q, h⟩
theorem infoU8 : (Try.prog.info? 5).map (fun i => (i.zero, i.size, i.bytes)) = some (some (.int .u8 0), 1, 1) := by kernel_rfl

set_option maxHeartbeats 800000 in
theorem appendByte_any (b : UInt8) (v : Value) (l : List UInt8) (B : Nat) (W : World) (hown : OwnB W B 5 v l) (hB : B ≤ W.heap.size) (hl : l.length ≤ 16777216) :
    Calls Try.prog 21 #[v, .int .u8 (b.toNat : Int)] W fun e w' => ∃ v', e = .returned v' ∧ OwnB w' B 5 v' (l ++ formB b) ∧ Below B W w' := by
  obtain ⟨i0, hi, hz0, hz1, hz2⟩ := info_parts infoU8
  have hb := b.toNat_lt
  have hB2 : B ≤ W.heap.size + 1 := by omega
  by_cases h1 : b = 34 ∨ b = 92
  · have e : formB b = [92, b] := by simp [formB, h1]
    rw [e]
    have hx : b.toNat = 34 ∨ b.toNat = 92 := by rcases h1 with rfl | rfl <;> simp
    have hx1 : (((b.toNat : Int)) == 34) = true ∨ (((b.toNat : Int)) == 34) = false ∧ (((b.toNat : Int)) == 92) = true := by
      rcases hx with h | h
      · left; rw [beq_iff_eq]; omega
      · right; exact ⟨by rw [beq_eq_false_iff_ne]; omega, by rw [beq_iff_eq]; omega⟩
    clear h1 hx
    rcases hx1 with g1 | ⟨g1, g2⟩
    all_goals
      go_enter Try.func21, Try.ntmps21
      go_wp2_with (at_builtin; refine wpList_append_own _ rfl (.tmp 12) (.tmp 14) 22 rfl B 5 i0 (.int .u8 0) 1 1 Try.underlying22 hi hz0 hz1 hz2 rfl (by decide) _ _ _ rfl (hown.alloc _) ⟨W.heap.size, 0, none⟩ 2 2 (bV [92, b]) rfl rfl (new_cells _ _ _) (bV_one _) (by unfold maxLen; omega) (by omega) (by simp; omega) ?_)
      intro v' w1 hown' hgrow _
      have hbel := ((Below.refl B W).alloc hB _).grown hgrow (by simp; omega) (fun r hr => (World.ownsRow.lt hown r hr).1)
      go_wp2
      go_ret
      exact ⟨_, rfl, OwnB.snoc hown', hbel⟩
  · have hx : ¬ b.toNat = 34 ∧ ¬ b.toNat = 92 := by
      refine ⟨fun h => h1 (.inl ?_), fun h => h1 (.inr ?_)⟩ <;> exact UInt8.toNat_inj.1 h
    have g1 : (((b.toNat : Int)) == 34) = false := by rw [beq_eq_false_iff_ne]; omega
    have g2 : (((b.toNat : Int)) == 92) = false := by rw [beq_eq_false_iff_ne]; omega
    by_cases h2 : b = 10
    · have e : formB b = [92, 110] := by subst h2; rfl
      rw [e]
      have g3 : (((b.toNat : Int)) == 10) = true := by subst h2; rfl
      clear h1 h2 hx
      go_enter Try.func21, Try.ntmps21
      go_wp2_with (at_builtin; refine wpList_append_own _ rfl (.tmp 19) (.tmp 20) 22 rfl B 5 i0 (.int .u8 0) 1 1 Try.underlying22 hi hz0 hz1 hz2 rfl (by decide) _ _ _ rfl (hown.alloc _) ⟨W.heap.size, 0, none⟩ 2 2 (bV [92, 110]) rfl rfl (new_cells _ _ _) (bV_one _) (by unfold maxLen; omega) (by omega) (by simp; omega) ?_)
      intro v' w1 hown' hgrow _
      have hbel := ((Below.refl B W).alloc hB _).grown hgrow (by simp; omega) (fun r hr => (World.ownsRow.lt hown r hr).1)
      go_wp2
      go_ret
      exact ⟨_, rfl, OwnB.snoc hown', hbel⟩
    · have g3 : (((b.toNat : Int)) == 10) = false := by rw [beq_eq_false_iff_ne]; intro h; exact h2 (UInt8.toNat_inj.1 (by simp; omega))
      by_cases h3 : b = 9
      · have e : formB b = [92, 116] := by subst h3; rfl
        rw [e]
        have g4 : (((b.toNat : Int)) == 9) = true := by subst h3; rfl
        clear h1 h2 h3 hx
        go_enter Try.func21, Try.ntmps21
        go_wp2_with (at_builtin; refine wpList_append_own _ rfl (.tmp 25) (.tmp 26) 22 rfl B 5 i0 (.int .u8 0) 1 1 Try.underlying22 hi hz0 hz1 hz2 rfl (by decide) _ _ _ rfl (hown.alloc _) ⟨W.heap.size, 0, none⟩ 2 2 (bV [92, 116]) rfl rfl (new_cells _ _ _) (bV_one _) (by unfold maxLen; omega) (by omega) (by simp; omega) ?_)
        intro v' w1 hown' hgrow _
        have hbel := ((Below.refl B W).alloc hB _).grown hgrow (by simp; omega) (fun r hr => (World.ownsRow.lt hown r hr).1)
        go_wp2
        go_ret
        exact ⟨_, rfl, OwnB.snoc hown', hbel⟩
      · have g4 : (((b.toNat : Int)) == 9) = false := by rw [beq_eq_false_iff_ne]; intro h; exact h3 (UInt8.toNat_inj.1 (by simp; omega))
        by_cases h4 : rareB b = true
        · have e : formB b = [92, 120, digB (b.toNat / 16), digB (b.toNat % 16)] := by simp [formB, h1, h2, h3, h4]
          rw [e]
          obtain ⟨q, hq⟩ : ∃ q, q = b.toNat / 16 := ⟨_, rfl⟩
          obtain ⟨r, hr⟩ : ∃ r, r = b.toNat % 16 := ⟨_, rfl⟩
          have hq16 : q < 16 := by omega
          have hr16 : r < 16 := by omega
          have hq1 : IntKind.u8.wrap ((b.toNat : Int) / 16) = (q : Int) := by rw [IntKind.wrap_u8]; omega
          have hr1 : (b.toNat : Int).tmod 16 = (r : Int) := by rw [Int.tmod_eq_emod_of_nonneg (by omega)]; omega
          have hq16' : (q : Int) < 16 := by omega
          have hr16' : (r : Int) < 16 := by omega
          have hd1 := dig_at q hq16
          have hd2 := dig_at r hr16
          rw [← hq, ← hr]
          clear h1 h2 h3 hx hq hr
          go_enter Try.func21, Try.ntmps21
          go_wp2_with (go_at_call 31; refine (rare_any b _).mono ?_; rintro e w' ⟨rfl, rfl⟩)
          go_region_law (first | (refine step_append_lies _ rfl (.tmp 31) (.tmp 38) 22 rfl B 5 i0 (.int .u8 0) 1 1 Try.underlying22 hi hz0 hz1 hz2 rfl (by decide) _ _ _ rfl (hown.alloc _) ⟨W.heap.size, 0, none⟩ 4 4 (bV [92, 120, digB q, digB r]) rfl rfl (new_cells _ _ _) (bV_one _) (by omega) (by unfold maxLen; omega) (by omega) (by simp; omega) _ rfl ?_; intro g cap w1 hown' hgrow hg hlt))
          all_goals
            have hbel := (((Below.refl B W).alloc hB _).drew).grown hgrow (by simp; omega) (fun r hr => (World.ownsRow.lt hown r hr).1)
            go_wp2
            go_ret
            exact ⟨_, rfl, OwnB.snoc hown', hbel⟩
        · have e : formB b = [b] := by simp [formB, h1, h2, h3, h4]
          rw [e]
          have h5 : rareB b = false := by simpa using h4
          clear h1 h2 h3 h4 hx
          go_enter Try.func21, Try.ntmps21
          go_wp2_with (first | (go_at_call 31; refine (rare_any b _).mono ?_; rintro e w' ⟨rfl, rfl⟩) | (at_builtin; refine wpList_append_own _ rfl (.tmp 40) (.tmp 42) 22 rfl B 5 i0 (.int .u8 0) 1 1 Try.underlying22 hi hz0 hz1 hz2 rfl (by decide) _ _ _ rfl (hown.alloc _) ⟨W.heap.size, 0, none⟩ 1 1 (bV [b]) rfl rfl (new_cells _ _ _) (bV_one _) (by unfold maxLen; omega) (by omega) (by simp; omega) ?_))
          intro v' w1 hown' hgrow _
          have hbel := ((Below.refl B W).alloc hB _).grown hgrow (by simp; omega) (fun r hr => (World.ownsRow.lt hown r hr).1)
          go_wp2
          go_ret
          exact ⟨_, rfl, OwnB.snoc hown', hbel⟩
end Go.Proofs.Ytnhbahfpinijiaa
