/- The chapter's examples of numbers are so. -/
import Derived.Test.YtgcojilaeflfbaaGreatDoorNumText
import Derived.Test.YtgcojilaeflfbaaGreatDoorNum
import Derived.Test.YtgcojilaeflfbaaGreatDoorBase
namespace Go.Proofs.YtgcojilaeflfbaaGreatDoor
open Go.RowKit
set_option linter.unusedVariables false
set_option linter.unusedSimpArgs false

theorem LibIs.alloc {w : World} (h : LibIs w) (o : Obj) : LibIs (w.alloc o) := h.below ((Below.refl _ _).alloc (Nat.le_refl _) o)
theorem LibIs.drewN {w : World} (h : LibIs w) (q : Nat) : LibIs (w.drewN q) := h.below (below_drewN (Below.refl _ _) q)
theorem LibIs.drew {w : World} (h : LibIs w) : LibIs w.drew := h.below (below_drewN (Below.refl _ _) 1)

theorem tell_n12 : itoaS (-12) = ⟨#[45, 49, 50]⟩ := by
  have : Lib.itoa (-12) = [45, 49, 50] := by
    have h : Lib.decDigits 12 = [49, 50] := by
      rw [Lib.decDigits, dif_neg (by decide), Lib.decDigits, dif_pos (by decide)]; rfl
    unfold Lib.itoa
    rw [if_pos (by decide)]
    show 45 :: Lib.decDigits 12 = _
    rw [h]
  unfold itoaS
  rw [this]
theorem tell_n7 : itoaS (-7) = ⟨#[45, 55]⟩ := by
  have : Lib.itoa (-7) = [45, 55] := by
    have h : Lib.decDigits 7 = [55] := by rw [Lib.decDigits, dif_pos (by decide)]; rfl
    unfold Lib.itoa
    rw [if_pos (by decide)]
    show 45 :: Lib.decDigits 7 = _
    rw [h]
  unfold itoaS
  rw [this]
theorem tell_12 : itoaS 12 = ⟨#[49, 50]⟩ := by
  have : Lib.itoa 12 = [49, 50] := by
    have h : Lib.decDigits 12 = [49, 50] := by
      rw [Lib.decDigits, dif_neg (by decide), Lib.decDigits, dif_pos (by decide)]; rfl
    unfold Lib.itoa
    rw [if_neg (by decide)]
    show Lib.decDigits 12 = _
    rw [h]
  unfold itoaS
  rw [this]
theorem read_n12 : parseZ ⟨#[45, 49, 50]⟩ = some (-12) := (parseZ_iff _ _).2 ⟨by decide, tell_n12.symm⟩
theorem read_012 : parseZ ⟨#[48, 49, 50]⟩ = none := by
  have h : Lib.parseIntB 64 (⟨#[48, 49, 50]⟩ : ByteArray).data.toList = .ok 12 := by decide +kernel
  unfold parseZ
  rw [h]
  show (if itoaS 12 = _ then _ else _) = _
  rw [tell_12, if_neg (by decide)]

theorem same_below {P : Program} {f : FuncId} {args : Array Value} {w : World} {v : Value} (h : Calls P f args w fun e w' => e = .returned v ∧ w = w') :
    Calls P f args w fun e w' => e = .returned v ∧ Below w.heap.size w w' := h.mono fun _ _ ⟨he, hm⟩ => ⟨he, by subst hm; exact Below.refl _ _⟩
section
variable (W : World) (g : Nat)
variable (hl : LibIs W)
include hl
theorem ex_parse1 : Calls Tryz.prog 102 #[.string ⟨#[45, 49, 50]⟩] W fun e w' => e = .returned (.tuple #[.int .i64 (-12), .bool true]) ∧ Below W.heap.size W w' := by
  have := parse_any ⟨#[45, 49, 50]⟩ (by decide) W hl
  rw [read_n12] at this
  exact this
theorem ex_parse2 : Calls Tryz.prog 102 #[.string ⟨#[48, 49, 50]⟩] W fun e w' => e = .returned (.tuple #[.int .i64 0, .bool false]) ∧ Below W.heap.size W w' := by
  have := parse_any ⟨#[48, 49, 50]⟩ (by decide) W hl
  rw [read_012] at this
  exact this
theorem ex_text : Calls Tryz.prog 86 #[.int .i64 (-7)] W fun e w' => e = .returned (.string ⟨#[45, 55]⟩) ∧ Below W.heap.size W w' := by
  have := text_any (-7) (by decide) (by decide) W hl
  rw [tell_n7] at this
  exact this
end
end Go.Proofs.YtgcojilaeflfbaaGreatDoor
