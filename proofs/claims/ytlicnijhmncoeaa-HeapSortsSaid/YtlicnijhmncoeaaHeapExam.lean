/- The chapter's own examples of a heap: the walk of what stands ahead of each statement. -/
import Derived.Test.YtlicnijhmncoeaaHeapDrain
namespace Go.Proofs.Ytlicnijhmncoeaa
open Go.RowKit
set_option linter.unusedVariables false
set_option linter.unusedSimpArgs false

theorem exam0 : putP tenK 0 [25, 13, 21] [] = [⟨13, 1⟩, ⟨25, 0⟩, ⟨21, 2⟩] := by kernel_rfl
theorem exam1 : putP tenK 3 [11, 5] [⟨13, 1⟩, ⟨25, 0⟩, ⟨21, 2⟩] = [⟨5, 4⟩, ⟨13, 1⟩, ⟨11, 3⟩, ⟨25, 0⟩, ⟨21, 2⟩] := by kernel_rfl

set_option maxRecDepth 100000 in
set_option maxHeartbeats 1600000 in
theorem examples_any (W : World) :
    Calls Try.prog 7 #[] W fun e w' => e = .returned (.bool true) ∧ Below W.heap.size W w' := by
  have L0 := Lib.hid (ints_lit W 3 [25, 13, 21] (by decide) W.heap.size rfl)
  have HB0 : Below W.heap.size W (W.alloc (.cells ([25, 13, 21].map (Value.int .i64)).toArray 3)) := (Below.refl _ _).alloc (Nat.le_refl _) _
  obtain ⟨g0, hg0⟩ : ∃ g, W.heap.size = g := ⟨_, rfl⟩
  obtain ⟨w0, hw0⟩ : ∃ z, W.alloc (.cells ([25, 13, 21].map (Value.int .i64)).toArray 3) = z := ⟨_, rfl⟩
  rw [hw0] at L0 HB0
  rw [hg0] at L0
  simp only [List.map_cons, List.map_nil] at hw0
  have hgw : W.heap.size ≤ w0.heap.size := HB0.size
  have NW := Lib.hid (newO_any (some ⟨g0, 0, none⟩) 3 3 [25, 13, 21] rfl (by omega) w0 (IntsA.of L0.out (fun _ g o _ hlt => ⟨by omega, by simp [Value.ownBlock]⟩)))
  have HB := Lib.hid HB0
  clear HB0 L0
  go_enter Try.func7, Try.ntmps7
  go_wp2_with fail
  clear hg0 hw0
  refine NW.out.mono ?_
  clear NW
  rintro e w1 ⟨rfl, hb1, v1, hs1⟩
  rw [exam0] at hs1
  have HB1 := Lib.hid (HB.out.trans (hb1.mono hgw))
  have HS1 := Lib.hid hs1
  obtain ⟨b, hb⟩ : ∃ b, w0.heap.size = b := ⟨_, rfl⟩
  rw [hb] at hgw HS1 ⊢
  clear hb hb1 hs1 HB
  go_wp2_with fail
  refine (peekO_any b v1 ⟨13, 1⟩ _ 3 w1 HS1.out).mono ?_
  rintro e w2 ⟨rfl, rfl⟩
  have L1 := Lib.hid (ints_lit w2 3 [11, 5] (by decide) w2.heap.size rfl)
  have HA : Below w2.heap.size w2 (w2.alloc (.cells ([11, 5].map (Value.int .i64)).toArray 3)) := (Below.refl _ _).alloc (Nat.le_refl _) _
  have HS2 := Lib.hid (HS1.out.below HA)
  have HB2 := Lib.hid (hop HB1.out (Nat.le_refl _) HA)
  have hlt2 := HS1.out.lt
  have hown2 := HS1.out.own
  obtain ⟨g1, hg1⟩ : ∃ g, w2.heap.size = g := ⟨_, rfl⟩
  obtain ⟨w3, hw3⟩ : ∃ z, w2.alloc (.cells ([11, 5].map (Value.int .i64)).toArray 3) = z := ⟨_, rfl⟩
  rw [hw3] at L1 HS2 HB2
  rw [hg1] at L1 hlt2 hown2
  simp only [List.map_cons, List.map_nil] at hw3
  have PS := Lib.hid (pushO_any b v1 _ 3 (some ⟨g1, 0, none⟩) 2 2 [11, 5] rfl (by omega) w3 HS2.out (IntsA.of L1.out (fun _ g o ho _ => by
    injection ho with ho
    injection ho with ho _
    subst ho
    exact ⟨by omega, fun e => by have := (hown2 g1 e.symm).2; omega⟩)))
  have HPG := Lib.hid (fun (w' : World) (v' : Value) (h : HG b w3 v1 w' v') => HS2.out.over hgw HB2.out h)
  clear HA HS1 HB1 hlt2 hown2 L1
  go_wp2_with fail
  clear hg1 hw3
  refine PS.out.mono ?_
  rintro e w4 ⟨rfl, v4, hs4, hg4⟩
  rw [exam1] at hs4
  have HB4 := Lib.hid (HPG.out _ _ hg4)
  have HS4 := Lib.hid hs4
  clear PS HPG hs4 hg4 HS2 HB2
  go_wp2_with fail
  refine (popO_any b v4 ⟨5, 4⟩ _ 5 w4 HS4.out).mono ?_
  rintro e w5 ⟨rfl, v5, hs5, hg5⟩
  have HB5 := Lib.hid (HS4.out.over hgw HB4.out hg5)
  have HS5 := Lib.hid hs5
  clear hs5 hg5 HS4 HB4
  go_wp2_with fail
  refine (popO_any b v5 ⟨13, 1⟩ _ 5 w5 HS5.out).mono ?_
  rintro e w6 ⟨rfl, v6, hs6, hg6⟩
  have HB6 := Lib.hid (HS5.out.over hgw HB5.out hg6)
  have HS6 := Lib.hid hs6
  clear hs6 hg6 HS5 HB5
  go_wp2_with fail
  refine (drainO_any b v6 _ 5 w6 HS6.out).mono ?_
  rintro e w7 ⟨v2, rfl, ho7, v7, hs7, hg7⟩
  have HB7 := Lib.hid (HS6.out.over hgw HB6.out hg7)
  have HS7 := Lib.hid hs7
  obtain ⟨g7, c7, rfl, _, hlt7, hcell7⟩ := own_at ho7 (by decide)
  have k0 : w7.cell? ⟨g7, 0, none⟩ = some (.int .i64 11) := (hcell7 0 (by decide)).trans rfl
  have k1 : w7.cell? ⟨g7, 1, none⟩ = some (.int .i64 25) := (hcell7 1 (by decide)).trans rfl
  have k2 : w7.cell? ⟨g7, 2, none⟩ = some (.int .i64 21) := (hcell7 2 (by decide)).trans rfl
  simp only [List.map_cons, List.map_nil, List.length_cons, List.length_nil]
  clear hs7 hg7 HS6 HB6 ho7 hcell7 hlt7
  go_wp2_with fail
  refine (popO_none b v7 5 w7 HS7.out).mono ?_
  rintro e w8 ⟨rfl, rfl⟩
  go_wp2_with fail
  refine (lenO_any b v7 [] 5 w8 HS7.out).mono ?_
  rintro e w9 ⟨rfl, rfl⟩
  go_wp2
  go_ret
  exact ⟨by first | rfl | (simp; done), HB7.out⟩
end Go.Proofs.Ytlicnijhmncoeaa
