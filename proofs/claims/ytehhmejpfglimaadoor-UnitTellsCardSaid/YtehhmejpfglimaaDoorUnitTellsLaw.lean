/- The walk of the law UnitTells: any number is told as a duration, and as a size, as the document says. -/
import Derived.Test.YtehhmejpfglimaaDoorUnitBackLaw
import Derived.Test.YtehhmejpfglimaaDoorRefUnit
namespace Go.Proofs.YtehhmejpfglimaaDoor
open Go.RowKit
set_option linter.unusedVariables false

set_option maxRecDepth 100000 in
set_option maxHeartbeats 1600000 in
theorem unitTells_walk {W : World} (n sh : Int) (wn : (Lit.int .i64 n).wf = true) (ws : (Lit.int .u8 sh).wf = true) (hl : LibIs W) :
    Calls Tryd.prog 4 #[.int .i64 n, .int .u8 sh] W fun e w' => e = .returned (.bool true) ∧ Below W.heap.size W w' := by
  have h0 : W.heap.size ≤ W.heap.size := Nat.le_refl _
  obtain ⟨n0, n1⟩ := bdi64 wn
  obtain ⟨o0, o1⟩ := bdu8 ws
  have HX := Lib.hid (unitExamples_any W hl)
  obtain ⟨p0, p1⟩ := shift_range n (sh % 64).toNat n0 n1
  obtain ⟨p, hp⟩ : ∃ p, n / 2 ^ (sh % 64).toNat = p := ⟨_, rfl⟩
  rw [hp] at p0 p1
  have A1 := fun w h => span_any p p0 p1 w h
  have A2 := fun w => refSpan_any p p0 p1 w
  have A3 := fun w h => size_any p p0 p1 w h
  have A4 := fun w => refSize_any2 p p0 p1 w
  obtain ⟨a, ha⟩ : ∃ a, (if p < 0 then (⟨#[]⟩ : ByteArray) else txt (spanB p)) = a := ⟨_, rfl⟩
  obtain ⟨b, hb⟩ : ∃ a, (if p < 0 then (⟨#[]⟩ : ByteArray) else txt (sizeB p)) = a := ⟨_, rfl⟩
  obtain ⟨c, hc⟩ : ∃ a, decide (0 ≤ p) = a := ⟨_, rfl⟩
  simp only [ha, hc] at A1 A2
  simp only [hb, hc] at A3 A4
  replace A1 := Lib.hid A1
  replace A2 := Lib.hid A2
  replace A3 := Lib.hid A3
  replace A4 := Lib.hid A4
  clear ha hb hc
  go_enter Tryd.func4, Tryd.ntmps4
  go_wp2_with fail
  refine HX.out.mono ?_
  rintro e w ⟨rfl, hb⟩
  go_wp2_with fail
  refine (A1.out _ (hl.below hb)).mono ?_
  rintro e w2 ⟨rfl, hx⟩
  replace hb := hop hb h0 hx
  clear hx
  go_wp2_with fail
  refine (A2.out _).mono ?_
  rintro e w3 ⟨rfl, hx⟩
  replace hb := hop hb h0 hx
  clear hx
  go_wp2_with fail
  refine (A3.out _ (hl.below hb)).mono ?_
  rintro e w4 ⟨rfl, hx⟩
  replace hb := hop hb h0 hx
  clear hx
  go_wp2_with fail
  refine (A4.out _).mono ?_
  rintro e w5 ⟨rfl, hx⟩
  replace hb := hop hb h0 hx
  clear hx
  go_wp2
  go_ret
  exact ⟨by simp, hb⟩
end Go.Proofs.YtehhmejpfglimaaDoor
