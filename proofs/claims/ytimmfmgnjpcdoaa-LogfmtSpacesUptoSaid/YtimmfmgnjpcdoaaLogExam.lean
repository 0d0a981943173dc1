/- The chapter's examples of fields are so. -/
import Derived.Test.YtimmfmgnjpcdoaaLogOf
import Derived.Test.YtimmfmgnjpcdoaaLogPut
import Derived.Test.YtimmfmgnjpcdoaaLabNames
namespace Go.Proofs.Ytimmfmgnjpcdoaa
open Go.RowKit
set_option linter.unusedVariables false
set_option linter.unusedSimpArgs false

def exL : ByteArray := ⟨#[97, 61, 49, 32, 98, 61, 34, 120, 32, 121, 34, 32, 99, 32, 57, 61, 50, 32, 97, 61, 51, 32, 61, 122, 32, 34, 113, 34, 32, 100, 61, 34, 117, 110]⟩
def exM : ByteArray := ⟨#[97, 61, 49, 32, 97, 61, 50, 32, 98, 61, 51]⟩
theorem exL_all : allF exL = [(⟨#[97]⟩, ⟨#[49]⟩), (⟨#[98]⟩, ⟨#[120, 32, 121]⟩), (⟨#[99]⟩, ⟨#[]⟩), (⟨#[97]⟩, ⟨#[51]⟩), (⟨#[122]⟩, ⟨#[]⟩), (⟨#[113]⟩, ⟨#[]⟩), (⟨#[100]⟩, ⟨#[34, 117, 110]⟩)] := by decide +kernel
theorem exM_of : ofF exM = [(⟨#[97]⟩, ⟨#[49]⟩), (⟨#[98]⟩, ⟨#[51]⟩)] := by decide +kernel
theorem exM_get : getL [(⟨#[97]⟩, ⟨#[49]⟩), (⟨#[98]⟩, ⟨#[51]⟩)] ⟨#[97]⟩ = some ⟨#[49]⟩ := by decide +kernel
theorem exP_put : lineT [(⟨#[97]⟩, ⟨#[49]⟩), (⟨#[98]⟩, ⟨#[120, 32, 121]⟩)] = ⟨#[97, 61, 34, 49, 34, 32, 98, 61, 34, 120, 32, 121, 34]⟩ := by decide +kernel
theorem exP_join : (joinB ⟨#[32]⟩ (([(⟨#[97]⟩, ⟨#[49]⟩), (⟨#[98]⟩, ⟨#[120, 32, 121]⟩)] : List PairB).map partT)).length ≤ 700000000 := by decide +kernel
theorem exP_small : ∀ p ∈ ([(⟨#[97]⟩, ⟨#[49]⟩), (⟨#[98]⟩, ⟨#[120, 32, 121]⟩)] : List PairB), p.1.size ≤ 1048576 ∧ p.2.size ≤ 1048576 := by decide
set_option maxRecDepth 100000 in
set_option maxHeartbeats 3200000 in
theorem logExamples_any (W : World) : Calls Try.prog 8 #[] W fun e w' => e = .returned (.bool true) ∧ Below W.heap.size W w' := by
  have h0 : W.heap.size ≤ W.heap.size := Nat.le_refl _
  have AL := Lib.hid (show Calls Try.prog 12 #[.string ⟨#[97, 61, 49, 32, 98, 61, 34, 120, 32, 121, 34, 32, 99, 32, 57, 61, 50, 32, 97, 61, 51, 32, 61, 122, 32, 34, 113, 34, 32, 100, 61, 34, 117, 110]⟩] W fun e w' => ∃ (b1 o1 c : Nat), e = .returned (.slice (some ⟨b1, o1, none⟩) 7 c) ∧ b1 < w'.heap.size ∧ Hid (w'.cell? ⟨b1, o1, none⟩ = some (.string ⟨#[97]⟩) ∧ w'.cell? ⟨b1, o1 + 1, none⟩ = some (.string ⟨#[49]⟩) ∧ w'.cell? ⟨b1, o1 + 2, none⟩ = some (.string ⟨#[98]⟩) ∧ w'.cell? ⟨b1, o1 + 3, none⟩ = some (.string ⟨#[120, 32, 121]⟩) ∧ w'.cell? ⟨b1, o1 + 4, none⟩ = some (.string ⟨#[99]⟩) ∧ w'.cell? ⟨b1, o1 + 5, none⟩ = some (.string ⟨#[]⟩) ∧ w'.cell? ⟨b1, o1 + 6, none⟩ = some (.string ⟨#[97]⟩) ∧ w'.cell? ⟨b1, o1 + 7, none⟩ = some (.string ⟨#[51]⟩) ∧ w'.cell? ⟨b1, o1 + 8, none⟩ = some (.string ⟨#[122]⟩) ∧ w'.cell? ⟨b1, o1 + 9, none⟩ = some (.string ⟨#[]⟩) ∧ w'.cell? ⟨b1, o1 + 10, none⟩ = some (.string ⟨#[113]⟩) ∧ w'.cell? ⟨b1, o1 + 11, none⟩ = some (.string ⟨#[]⟩) ∧ w'.cell? ⟨b1, o1 + 12, none⟩ = some (.string ⟨#[100]⟩) ∧ w'.cell? ⟨b1, o1 + 13, none⟩ = some (.string ⟨#[34, 117, 110]⟩)) ∧ Below W.heap.size W w' from by
    refine (all_any exL (by decide) W).mono ?_
    rintro e w' ⟨v, rfl, hown, hb⟩
    rw [exL_all] at hown
    obtain ⟨A, c, rfl, _, hp⟩ := hown.pairs
    obtain ⟨b1, o1, rfl, hlt, hc⟩ := hp.2 (by decide)
    refine ⟨b1, o1, c, rfl, hlt, Lib.hid ?_, hb⟩
    have q0 := hc 0 (by decide)
    have q1 := hc 1 (by decide)
    have q2 := hc 2 (by decide)
    have q3 := hc 3 (by decide)
    have q4 := hc 4 (by decide)
    have q5 := hc 5 (by decide)
    have q6 := hc 6 (by decide)
    exact ⟨q0.1, q0.2, q1.1, q1.2, q2.1, q2.2, q3.1, q3.2, q4.1, q4.2, q5.1, q5.2, q6.1, q6.2⟩)
  have OF := Lib.hid (fun w => show Calls Try.prog 14 #[.string ⟨#[97, 61, 49, 32, 97, 61, 50, 32, 98, 61, 51]⟩] w fun e w' => ∃ A k, e = .returned (.slice A 2 k) ∧ Hid (Pairs w' A 2 [(⟨#[97]⟩, ⟨#[49]⟩), (⟨#[98]⟩, ⟨#[51]⟩)]) ∧ Below w.heap.size w w' from by
    refine (logOf_any exM (by decide) w).mono ?_
    rintro e w' ⟨A, m, k, rfl, _, hp, _, hb⟩
    rw [exM_of] at hp
    have hm := hp.out.1
    subst hm
    exact ⟨A, k, rfl, hp, hb⟩)
  have PU := Lib.hid (fun w g c (h : Pairs w (some ⟨g, 0, none⟩) 2 [(⟨#[97]⟩, ⟨#[49]⟩), (⟨#[98]⟩, ⟨#[120, 32, 121]⟩)]) => show Calls Try.prog 16 #[.slice (some ⟨g, 0, none⟩) 2 c] w fun e w' => e = .returned (.string ⟨#[97, 61, 34, 49, 34, 32, 98, 61, 34, 120, 32, 121, 34]⟩) ∧ Below w.heap.size w w' from by
    have h2 := logPut_any (some ⟨g, 0, none⟩) 2 c _ (by decide) exP_join exP_small w h
    rw [exP_put] at h2
    exact h2)
  go_enter Try.func8, Try.ntmps8
  go_wp2_with fail
  refine AL.out.mono ?_
  rintro e w1 ⟨b1, o1, c1, rfl, hlt1, HC, hx⟩
  have HB1 := Lib.hid hx
  clear hx AL
  go_wp2_with fail
  refine (OF.out _).mono ?_
  rintro e w2 ⟨A2, k2, rfl, hp2, hx⟩
  have HB2 := Lib.hid (hop HB1.out h0 hx)
  obtain ⟨y0, y1, y2, y3, y4, y5, y6, y7, y8, y9, y10, y11, y12, y13⟩ := HC.out
  have z0 := (hx.cell (p := ⟨b1, o1, none⟩) hlt1).trans y0
  have z1 := (hx.cell (p := ⟨b1, o1 + 1, none⟩) hlt1).trans y1
  have z2 := (hx.cell (p := ⟨b1, o1 + 2, none⟩) hlt1).trans y2
  have z3 := (hx.cell (p := ⟨b1, o1 + 3, none⟩) hlt1).trans y3
  have z4 := (hx.cell (p := ⟨b1, o1 + 4, none⟩) hlt1).trans y4
  have z5 := (hx.cell (p := ⟨b1, o1 + 5, none⟩) hlt1).trans y5
  have z6 := (hx.cell (p := ⟨b1, o1 + 6, none⟩) hlt1).trans y6
  have z7 := (hx.cell (p := ⟨b1, o1 + 7, none⟩) hlt1).trans y7
  have z8 := (hx.cell (p := ⟨b1, o1 + 8, none⟩) hlt1).trans y8
  have z9 := (hx.cell (p := ⟨b1, o1 + 9, none⟩) hlt1).trans y9
  have z10 := (hx.cell (p := ⟨b1, o1 + 10, none⟩) hlt1).trans y10
  have z11 := (hx.cell (p := ⟨b1, o1 + 11, none⟩) hlt1).trans y11
  have z12 := (hx.cell (p := ⟨b1, o1 + 12, none⟩) hlt1).trans y12
  have z13 := (hx.cell (p := ⟨b1, o1 + 13, none⟩) hlt1).trans y13
  have hlt2 : b1 < w2.heap.size := Nat.lt_of_lt_of_le hlt1 hx.size
  have HC2 := Lib.hid (show w2.cell? ⟨b1, o1, none⟩ = some (.string ⟨#[97]⟩) ∧ w2.cell? ⟨b1, o1 + 1, none⟩ = some (.string ⟨#[49]⟩) ∧ w2.cell? ⟨b1, o1 + 2, none⟩ = some (.string ⟨#[98]⟩) ∧ w2.cell? ⟨b1, o1 + 3, none⟩ = some (.string ⟨#[120, 32, 121]⟩) ∧ w2.cell? ⟨b1, o1 + 4, none⟩ = some (.string ⟨#[99]⟩) ∧ w2.cell? ⟨b1, o1 + 5, none⟩ = some (.string ⟨#[]⟩) ∧ w2.cell? ⟨b1, o1 + 6, none⟩ = some (.string ⟨#[97]⟩) ∧ w2.cell? ⟨b1, o1 + 7, none⟩ = some (.string ⟨#[51]⟩) ∧ w2.cell? ⟨b1, o1 + 8, none⟩ = some (.string ⟨#[122]⟩) ∧ w2.cell? ⟨b1, o1 + 9, none⟩ = some (.string ⟨#[]⟩) ∧ w2.cell? ⟨b1, o1 + 10, none⟩ = some (.string ⟨#[113]⟩) ∧ w2.cell? ⟨b1, o1 + 11, none⟩ = some (.string ⟨#[]⟩) ∧ w2.cell? ⟨b1, o1 + 12, none⟩ = some (.string ⟨#[100]⟩) ∧ w2.cell? ⟨b1, o1 + 13, none⟩ = some (.string ⟨#[34, 117, 110]⟩) from ⟨z0, z1, z2, z3, z4, z5, z6, z7, z8, z9, z10, z11, z12, z13⟩)
  have G := labGet_any A2 2 k2 [(⟨#[97]⟩, ⟨#[49]⟩), (⟨#[98]⟩, ⟨#[51]⟩)] ⟨#[97]⟩ (by decide) w2 hp2.out
  rw [exM_get] at G
  replace G := Lib.hid G
  clear hx HC OF y0 z0 y1 z1 y2 z2 y3 z3 y4 z4 y5 z5 y6 z6 y7 z7 y8 z8 y9 z9 y10 z10 y11 z11 y12 z12 y13 z13
  go_wp2_with fail
  refine G.out.mono ?_
  rintro e w0 ⟨rfl, hx⟩
  have HB0 := Lib.hid (hop HB2.out h0 hx)
  obtain ⟨y0, y1, y2, y3, y4, y5, y6, y7, y8, y9, y10, y11, y12, y13⟩ := HC2.out
  have z0 := (hx.cell (p := ⟨b1, o1, none⟩) hlt2).trans y0
  have z1 := (hx.cell (p := ⟨b1, o1 + 1, none⟩) hlt2).trans y1
  have z2 := (hx.cell (p := ⟨b1, o1 + 2, none⟩) hlt2).trans y2
  have z3 := (hx.cell (p := ⟨b1, o1 + 3, none⟩) hlt2).trans y3
  have z4 := (hx.cell (p := ⟨b1, o1 + 4, none⟩) hlt2).trans y4
  have z5 := (hx.cell (p := ⟨b1, o1 + 5, none⟩) hlt2).trans y5
  have z6 := (hx.cell (p := ⟨b1, o1 + 6, none⟩) hlt2).trans y6
  have z7 := (hx.cell (p := ⟨b1, o1 + 7, none⟩) hlt2).trans y7
  have z8 := (hx.cell (p := ⟨b1, o1 + 8, none⟩) hlt2).trans y8
  have z9 := (hx.cell (p := ⟨b1, o1 + 9, none⟩) hlt2).trans y9
  have z10 := (hx.cell (p := ⟨b1, o1 + 10, none⟩) hlt2).trans y10
  have z11 := (hx.cell (p := ⟨b1, o1 + 11, none⟩) hlt2).trans y11
  have z12 := (hx.cell (p := ⟨b1, o1 + 12, none⟩) hlt2).trans y12
  have z13 := (hx.cell (p := ⟨b1, o1 + 13, none⟩) hlt2).trans y13
  have hlt0 : b1 < w0.heap.size := Nat.lt_of_lt_of_le hlt2 hx.size
  have S0 : Below w0.heap.size w0 w0.drew ∧ w0.drew.cell? ⟨b1, o1, none⟩ = some (.string ⟨#[97]⟩) ∧ w0.drew.cell? ⟨b1, o1 + 1, none⟩ = some (.string ⟨#[49]⟩) ∧ w0.drew.cell? ⟨b1, o1 + 2, none⟩ = some (.string ⟨#[98]⟩) ∧ w0.drew.cell? ⟨b1, o1 + 3, none⟩ = some (.string ⟨#[120, 32, 121]⟩) ∧ w0.drew.cell? ⟨b1, o1 + 4, none⟩ = some (.string ⟨#[99]⟩) ∧ w0.drew.cell? ⟨b1, o1 + 5, none⟩ = some (.string ⟨#[]⟩) ∧ w0.drew.cell? ⟨b1, o1 + 6, none⟩ = some (.string ⟨#[97]⟩) ∧ w0.drew.cell? ⟨b1, o1 + 7, none⟩ = some (.string ⟨#[51]⟩) ∧ w0.drew.cell? ⟨b1, o1 + 8, none⟩ = some (.string ⟨#[122]⟩) ∧ w0.drew.cell? ⟨b1, o1 + 9, none⟩ = some (.string ⟨#[]⟩) ∧ w0.drew.cell? ⟨b1, o1 + 10, none⟩ = some (.string ⟨#[113]⟩) ∧ w0.drew.cell? ⟨b1, o1 + 11, none⟩ = some (.string ⟨#[]⟩) ∧ w0.drew.cell? ⟨b1, o1 + 12, none⟩ = some (.string ⟨#[100]⟩) ∧ w0.drew.cell? ⟨b1, o1 + 13, none⟩ = some (.string ⟨#[34, 117, 110]⟩) := ⟨below_drewN (Below.refl _ _) 1, z0, z1, z2, z3, z4, z5, z6, z7, z8, z9, z10, z11, z12, z13⟩
  have HS := Lib.hid (fun (wa wb : World) (hS : Below w0.heap.size w0 wa ∧ wa.cell? ⟨b1, o1, none⟩ = some (.string ⟨#[97]⟩) ∧ wa.cell? ⟨b1, o1 + 1, none⟩ = some (.string ⟨#[49]⟩) ∧ wa.cell? ⟨b1, o1 + 2, none⟩ = some (.string ⟨#[98]⟩) ∧ wa.cell? ⟨b1, o1 + 3, none⟩ = some (.string ⟨#[120, 32, 121]⟩) ∧ wa.cell? ⟨b1, o1 + 4, none⟩ = some (.string ⟨#[99]⟩) ∧ wa.cell? ⟨b1, o1 + 5, none⟩ = some (.string ⟨#[]⟩) ∧ wa.cell? ⟨b1, o1 + 6, none⟩ = some (.string ⟨#[97]⟩) ∧ wa.cell? ⟨b1, o1 + 7, none⟩ = some (.string ⟨#[51]⟩) ∧ wa.cell? ⟨b1, o1 + 8, none⟩ = some (.string ⟨#[122]⟩) ∧ wa.cell? ⟨b1, o1 + 9, none⟩ = some (.string ⟨#[]⟩) ∧ wa.cell? ⟨b1, o1 + 10, none⟩ = some (.string ⟨#[113]⟩) ∧ wa.cell? ⟨b1, o1 + 11, none⟩ = some (.string ⟨#[]⟩) ∧ wa.cell? ⟨b1, o1 + 12, none⟩ = some (.string ⟨#[100]⟩) ∧ wa.cell? ⟨b1, o1 + 13, none⟩ = some (.string ⟨#[34, 117, 110]⟩)) (h : Below wa.heap.size wa wb) => show Below w0.heap.size w0 wb ∧ wb.cell? ⟨b1, o1, none⟩ = some (.string ⟨#[97]⟩) ∧ wb.cell? ⟨b1, o1 + 1, none⟩ = some (.string ⟨#[49]⟩) ∧ wb.cell? ⟨b1, o1 + 2, none⟩ = some (.string ⟨#[98]⟩) ∧ wb.cell? ⟨b1, o1 + 3, none⟩ = some (.string ⟨#[120, 32, 121]⟩) ∧ wb.cell? ⟨b1, o1 + 4, none⟩ = some (.string ⟨#[99]⟩) ∧ wb.cell? ⟨b1, o1 + 5, none⟩ = some (.string ⟨#[]⟩) ∧ wb.cell? ⟨b1, o1 + 6, none⟩ = some (.string ⟨#[97]⟩) ∧ wb.cell? ⟨b1, o1 + 7, none⟩ = some (.string ⟨#[51]⟩) ∧ wb.cell? ⟨b1, o1 + 8, none⟩ = some (.string ⟨#[122]⟩) ∧ wb.cell? ⟨b1, o1 + 9, none⟩ = some (.string ⟨#[]⟩) ∧ wb.cell? ⟨b1, o1 + 10, none⟩ = some (.string ⟨#[113]⟩) ∧ wb.cell? ⟨b1, o1 + 11, none⟩ = some (.string ⟨#[]⟩) ∧ wb.cell? ⟨b1, o1 + 12, none⟩ = some (.string ⟨#[100]⟩) ∧ wb.cell? ⟨b1, o1 + 13, none⟩ = some (.string ⟨#[34, 117, 110]⟩) from by
    obtain ⟨hb, s0, s1, s2, s3, s4, s5, s6, s7, s8, s9, s10, s11, s12, s13⟩ := hS
    refine ⟨hop hb (Nat.le_refl _) h, (h.cell (p := ⟨b1, o1, none⟩) (block_lt_of_cell s0)).trans s0, (h.cell (p := ⟨b1, o1 + 1, none⟩) (block_lt_of_cell s1)).trans s1, (h.cell (p := ⟨b1, o1 + 2, none⟩) (block_lt_of_cell s2)).trans s2, (h.cell (p := ⟨b1, o1 + 3, none⟩) (block_lt_of_cell s3)).trans s3, (h.cell (p := ⟨b1, o1 + 4, none⟩) (block_lt_of_cell s4)).trans s4, (h.cell (p := ⟨b1, o1 + 5, none⟩) (block_lt_of_cell s5)).trans s5, (h.cell (p := ⟨b1, o1 + 6, none⟩) (block_lt_of_cell s6)).trans s6, (h.cell (p := ⟨b1, o1 + 7, none⟩) (block_lt_of_cell s7)).trans s7, (h.cell (p := ⟨b1, o1 + 8, none⟩) (block_lt_of_cell s8)).trans s8, (h.cell (p := ⟨b1, o1 + 9, none⟩) (block_lt_of_cell s9)).trans s9, (h.cell (p := ⟨b1, o1 + 10, none⟩) (block_lt_of_cell s10)).trans s10, (h.cell (p := ⟨b1, o1 + 11, none⟩) (block_lt_of_cell s11)).trans s11, (h.cell (p := ⟨b1, o1 + 12, none⟩) (block_lt_of_cell s12)).trans s12, (h.cell (p := ⟨b1, o1 + 13, none⟩) (block_lt_of_cell s13)).trans s13⟩)
  clear hx HC2 G HB1 HB2 hp2 y0 z0 y1 z1 y2 z2 y3 z3 y4 z4 y5 z5 y6 z6 y7 z7 y8 z8 y9 z9 y10 z10 y11 z11 y12 z12 y13 z13
  go_wp2_with fail
  refine wp_region_held_drew (S := fun w' => Below w0.heap.size w0 w' ∧ w'.cell? ⟨b1, o1, none⟩ = some (.string ⟨#[97]⟩) ∧ w'.cell? ⟨b1, o1 + 1, none⟩ = some (.string ⟨#[49]⟩) ∧ w'.cell? ⟨b1, o1 + 2, none⟩ = some (.string ⟨#[98]⟩) ∧ w'.cell? ⟨b1, o1 + 3, none⟩ = some (.string ⟨#[120, 32, 121]⟩) ∧ w'.cell? ⟨b1, o1 + 4, none⟩ = some (.string ⟨#[99]⟩) ∧ w'.cell? ⟨b1, o1 + 5, none⟩ = some (.string ⟨#[]⟩) ∧ w'.cell? ⟨b1, o1 + 6, none⟩ = some (.string ⟨#[97]⟩) ∧ w'.cell? ⟨b1, o1 + 7, none⟩ = some (.string ⟨#[51]⟩) ∧ w'.cell? ⟨b1, o1 + 8, none⟩ = some (.string ⟨#[122]⟩) ∧ w'.cell? ⟨b1, o1 + 9, none⟩ = some (.string ⟨#[]⟩) ∧ w'.cell? ⟨b1, o1 + 10, none⟩ = some (.string ⟨#[113]⟩) ∧ w'.cell? ⟨b1, o1 + 11, none⟩ = some (.string ⟨#[]⟩) ∧ w'.cell? ⟨b1, o1 + 12, none⟩ = some (.string ⟨#[100]⟩) ∧ w'.cell? ⟨b1, o1 + 13, none⟩ = some (.string ⟨#[34, 117, 110]⟩)) (by kernel_rfl) S0 (fun hHeld => ?_)
  refine wpAnyH_take (i := 0) (oi := { dst := some 12, op := Go.Op.move (Go.Operand.tmp 1), type := 26, pos := "law.go:62", after := #[], guard := none }) (v := ?_) rfl (by kernel_rfl) (by kernel_rfl) (by kernel_rfl) (fun _ _ _ h => h) (Or.inl ⟨by kernel_rfl, ?_⟩) (by assumption) ?_
  rotate_left
  · intro w _
    first | (go_simp; done) | (go_simp; with_reducible rfl)
  try simp only [Act.put, List.setIfInBounds_toArray, List.set_cons_zero, List.set_cons_succ]
  refine wpAnyH_take (i := 1) (oi := { dst := some 13, op := Go.Op.call { callee := Go.Callee.builtin Go.Builtin.len, args := #[Go.Operand.tmp 12], argTypes := #[26] }, type := 3, pos := "law.go:62", after := #[{ on := 0, ground := Go.Ground.data }], guard := none }) (v := ?_) rfl (by kernel_rfl) (by kernel_rfl) (by kernel_rfl) (fun _ _ _ h => h) (Or.inl ⟨by kernel_rfl, ?_⟩) (by assumption) ?_
  rotate_left
  · intro w _
    first | (go_simp; done) | (go_simp; with_reducible rfl)
  try simp only [Act.put, List.setIfInBounds_toArray, List.set_cons_zero, List.set_cons_succ]
  refine wpAnyH_take (i := 2) (oi := { dst := some 14, op := Go.Op.binOp Go.BinOp.eql 3 (Go.Operand.tmp 13) (Go.Operand.const (Go.Value.int Go.IntKind.i64 7)) 3, type := 4, pos := "law.go:62", after := #[{ on := 1, ground := Go.Ground.data }], guard := none }) (v := ?_) rfl (by kernel_rfl) (by kernel_rfl) (by kernel_rfl) (fun _ _ _ h => h) (Or.inl ⟨by kernel_rfl, ?_⟩) (by assumption) ?_
  rotate_left
  · intro w _
    first | (go_simp; done) | (go_simp; with_reducible rfl)
  try simp only [Act.put, List.setIfInBounds_toArray, List.set_cons_zero, List.set_cons_succ]
  refine wpAnyH_take (i := 3) (oi := { dst := some 15, op := Go.Op.move (Go.Operand.tmp 14), type := 4, pos := "law.go:62", after := #[{ on := 2, ground := Go.Ground.data }], guard := none }) (v := ?_) rfl (by kernel_rfl) (by kernel_rfl) (by kernel_rfl) (fun _ _ _ h => h) (Or.inl ⟨by kernel_rfl, ?_⟩) (by assumption) ?_
  rotate_left
  · intro w _
    first | (go_simp; done) | (go_simp; with_reducible rfl)
  try simp only [Act.put, List.setIfInBounds_toArray, List.set_cons_zero, List.set_cons_succ]
  refine wpAnyH_take (i := 4) (oi := { dst := some 16, op := Go.Op.move (Go.Operand.tmp 1), type := 26, pos := "law.go:62", after := #[{ on := 3, ground := Go.Ground.guard }], guard := some (3, true) }) (v := ?_) rfl (by kernel_rfl) (by kernel_rfl) (by kernel_rfl) (fun _ _ _ h => h) (Or.inl ⟨by kernel_rfl, ?_⟩) (by assumption) ?_
  rotate_left
  · intro w _
    first | (go_simp; done) | (go_simp; with_reducible rfl)
  try simp only [Act.put, List.setIfInBounds_toArray, List.set_cons_zero, List.set_cons_succ]
  refine wpAnyH_take (i := 5) (oi := { dst := some 17, op := Go.Op.indexAddr 26 (Go.Operand.tmp 16) (Go.Operand.const (Go.Value.int Go.IntKind.i64 1)), type := 0, pos := "law.go:62", after := #[{ on := 4, ground := Go.Ground.data }, { on := 3, ground := Go.Ground.guard }], guard := some (3, true) }) (v := ?_) rfl (by kernel_rfl) (by kernel_rfl) (by kernel_rfl) (fun _ _ _ h => h) (Or.inl ⟨by kernel_rfl, ?_⟩) (by assumption) ?_
  rotate_left
  · intro w _
    first | (go_simp; done) | (go_simp; with_reducible rfl)
  try simp only [Act.put, List.setIfInBounds_toArray, List.set_cons_zero, List.set_cons_succ]
  refine wpAnyH_take (i := 6) (oi := { dst := some 18, op := Go.Op.fieldAddr 39 (Go.Operand.tmp 17) 1, type := 0, pos := "law.go:62", after := #[{ on := 5, ground := Go.Ground.data }, { on := 3, ground := Go.Ground.guard }], guard := some (3, true) }) (v := ?_) rfl (by kernel_rfl) (by kernel_rfl) (by kernel_rfl) (fun _ _ _ h => h) (Or.inl ⟨by kernel_rfl, ?_⟩) (by assumption) ?_
  rotate_left
  · intro w _
    first | (go_simp; done) | (go_simp; with_reducible rfl)
  try simp only [Act.put, List.setIfInBounds_toArray, List.set_cons_zero, List.set_cons_succ]
  refine wpAnyH_take (i := 7) (oi := { dst := some 19, op := Go.Op.load 9 (Go.Operand.tmp 18), type := 9, pos := "law.go:62", after := #[{ on := 6, ground := Go.Ground.data }, { on := 3, ground := Go.Ground.guard }], guard := some (3, true) }) (v := ?_) rfl (by kernel_rfl) (by kernel_rfl) (by kernel_rfl) (fun _ _ _ h => h) (Or.inl ⟨by kernel_rfl, ?_⟩) (by assumption) ?_
  rotate_left
  · intro w hSw
    (try dsimp only at hSw)
    go_split_ands
    first | (go_simp; done) | (go_simp; with_reducible rfl)
  try simp only [Act.put, List.setIfInBounds_toArray, List.set_cons_zero, List.set_cons_succ]
  refine wpAnyH_take (i := 8) (oi := { dst := some 20, op := Go.Op.binOp Go.BinOp.eql 9 (Go.Operand.tmp 19) (Go.Operand.const (Go.Value.string { data := #[120, 32, 121] })) 9, type := 4, pos := "law.go:62", after := #[{ on := 7, ground := Go.Ground.data }, { on := 3, ground := Go.Ground.guard }], guard := some (3, true) }) (v := ?_) rfl (by kernel_rfl) (by kernel_rfl) (by kernel_rfl) (fun _ _ _ h => h) (Or.inl ⟨by kernel_rfl, ?_⟩) (by assumption) ?_
  rotate_left
  · intro w _
    first | (go_simp; done) | (go_simp; with_reducible rfl)
  try simp only [Act.put, List.setIfInBounds_toArray, List.set_cons_zero, List.set_cons_succ]
  refine wpAnyH_take (i := 9) (oi := { dst := some 21, op := Go.Op.pick (Go.Operand.tmp 15) (Go.Operand.tmp 20) (Go.Operand.const (Go.Value.bool false)), type := 4, pos := "law.go:62", after := #[{ on := 3, ground := Go.Ground.data }, { on := 8, ground := Go.Ground.data }], guard := none }) (v := ?_) rfl (by kernel_rfl) (by kernel_rfl) (by kernel_rfl) (fun _ _ _ h => h) (Or.inl ⟨by kernel_rfl, ?_⟩) (by assumption) ?_
  rotate_left
  · intro w _
    first | (go_simp; done) | (go_simp; with_reducible rfl)
  try simp only [Act.put, List.setIfInBounds_toArray, List.set_cons_zero, List.set_cons_succ]
  refine wpAnyH_take (i := 10) (oi := { dst := some 22, op := Go.Op.move (Go.Operand.tmp 21), type := 4, pos := "law.go:62", after := #[{ on := 9, ground := Go.Ground.data }, { on := 3, ground := Go.Ground.chain }], guard := none }) (v := ?_) rfl (by kernel_rfl) (by kernel_rfl) (by kernel_rfl) (fun _ _ _ h => h) (Or.inl ⟨by kernel_rfl, ?_⟩) (by assumption) ?_
  rotate_left
  · intro w _
    first | (go_simp; done) | (go_simp; with_reducible rfl)
  try simp only [Act.put, List.setIfInBounds_toArray, List.set_cons_zero, List.set_cons_succ]
  refine wpAnyH_take (i := 11) (oi := { dst := some 23, op := Go.Op.move (Go.Operand.tmp 1), type := 26, pos := "law.go:62", after := #[{ on := 10, ground := Go.Ground.guard }], guard := some (10, true) }) (v := ?_) rfl (by kernel_rfl) (by kernel_rfl) (by kernel_rfl) (fun _ _ _ h => h) (Or.inl ⟨by kernel_rfl, ?_⟩) (by assumption) ?_
  rotate_left
  · intro w _
    first | (go_simp; done) | (go_simp; with_reducible rfl)
  try simp only [Act.put, List.setIfInBounds_toArray, List.set_cons_zero, List.set_cons_succ]
  refine wpAnyH_take (i := 12) (oi := { dst := some 24, op := Go.Op.indexAddr 26 (Go.Operand.tmp 23) (Go.Operand.const (Go.Value.int Go.IntKind.i64 2)), type := 0, pos := "law.go:62", after := #[{ on := 11, ground := Go.Ground.data }, { on := 10, ground := Go.Ground.guard }], guard := some (10, true) }) (v := ?_) rfl (by kernel_rfl) (by kernel_rfl) (by kernel_rfl) (fun _ _ _ h => h) (Or.inl ⟨by kernel_rfl, ?_⟩) (by assumption) ?_
  rotate_left
  · intro w _
    first | (go_simp; done) | (go_simp; with_reducible rfl)
  try simp only [Act.put, List.setIfInBounds_toArray, List.set_cons_zero, List.set_cons_succ]
  refine wpAnyH_take (i := 13) (oi := { dst := some 25, op := Go.Op.fieldAddr 39 (Go.Operand.tmp 24) 0, type := 0, pos := "law.go:62", after := #[{ on := 12, ground := Go.Ground.data }, { on := 10, ground := Go.Ground.guard }], guard := some (10, true) }) (v := ?_) rfl (by kernel_rfl) (by kernel_rfl) (by kernel_rfl) (fun _ _ _ h => h) (Or.inl ⟨by kernel_rfl, ?_⟩) (by assumption) ?_
  rotate_left
  · intro w _
    first | (go_simp; done) | (go_simp; with_reducible rfl)
  try simp only [Act.put, List.setIfInBounds_toArray, List.set_cons_zero, List.set_cons_succ]
  refine wpAnyH_take (i := 14) (oi := { dst := some 26, op := Go.Op.load 9 (Go.Operand.tmp 25), type := 9, pos := "law.go:62", after := #[{ on := 13, ground := Go.Ground.data }, { on := 10, ground := Go.Ground.guard }], guard := some (10, true) }) (v := ?_) rfl (by kernel_rfl) (by kernel_rfl) (by kernel_rfl) (fun _ _ _ h => h) (Or.inl ⟨by kernel_rfl, ?_⟩) (by assumption) ?_
  rotate_left
  · intro w hSw
    (try dsimp only at hSw)
    go_split_ands
    first | (go_simp; done) | (go_simp; with_reducible rfl)
  try simp only [Act.put, List.setIfInBounds_toArray, List.set_cons_zero, List.set_cons_succ]
  refine wpAnyH_take (i := 15) (oi := { dst := some 27, op := Go.Op.binOp Go.BinOp.eql 9 (Go.Operand.tmp 26) (Go.Operand.const (Go.Value.string { data := #[99] })) 9, type := 4, pos := "law.go:62", after := #[{ on := 14, ground := Go.Ground.data }, { on := 10, ground := Go.Ground.guard }], guard := some (10, true) }) (v := ?_) rfl (by kernel_rfl) (by kernel_rfl) (by kernel_rfl) (fun _ _ _ h => h) (Or.inl ⟨by kernel_rfl, ?_⟩) (by assumption) ?_
  rotate_left
  · intro w _
    first | (go_simp; done) | (go_simp; with_reducible rfl)
  try simp only [Act.put, List.setIfInBounds_toArray, List.set_cons_zero, List.set_cons_succ]
  refine wpAnyH_take (i := 16) (oi := { dst := some 28, op := Go.Op.pick (Go.Operand.tmp 22) (Go.Operand.tmp 27) (Go.Operand.const (Go.Value.bool false)), type := 4, pos := "law.go:62", after := #[{ on := 10, ground := Go.Ground.data }, { on := 15, ground := Go.Ground.data }], guard := none }) (v := ?_) rfl (by kernel_rfl) (by kernel_rfl) (by kernel_rfl) (fun _ _ _ h => h) (Or.inl ⟨by kernel_rfl, ?_⟩) (by assumption) ?_
  rotate_left
  · intro w _
    first | (go_simp; done) | (go_simp; with_reducible rfl)
  try simp only [Act.put, List.setIfInBounds_toArray, List.set_cons_zero, List.set_cons_succ]
  refine wpAnyH_take (i := 17) (oi := { dst := some 29, op := Go.Op.move (Go.Operand.tmp 28), type := 4, pos := "law.go:62", after := #[{ on := 16, ground := Go.Ground.data }, { on := 10, ground := Go.Ground.chain }], guard := none }) (v := ?_) rfl (by kernel_rfl) (by kernel_rfl) (by kernel_rfl) (fun _ _ _ h => h) (Or.inl ⟨by kernel_rfl, ?_⟩) (by assumption) ?_
  rotate_left
  · intro w _
    first | (go_simp; done) | (go_simp; with_reducible rfl)
  try simp only [Act.put, List.setIfInBounds_toArray, List.set_cons_zero, List.set_cons_succ]
  refine wpAnyH_take (i := 18) (oi := { dst := some 30, op := Go.Op.move (Go.Operand.tmp 1), type := 26, pos := "law.go:62", after := #[{ on := 17, ground := Go.Ground.guard }], guard := some (17, true) }) (v := ?_) rfl (by kernel_rfl) (by kernel_rfl) (by kernel_rfl) (fun _ _ _ h => h) (Or.inl ⟨by kernel_rfl, ?_⟩) (by assumption) ?_
  rotate_left
  · intro w _
    first | (go_simp; done) | (go_simp; with_reducible rfl)
  try simp only [Act.put, List.setIfInBounds_toArray, List.set_cons_zero, List.set_cons_succ]
  refine wpAnyH_take (i := 19) (oi := { dst := some 31, op := Go.Op.indexAddr 26 (Go.Operand.tmp 30) (Go.Operand.const (Go.Value.int Go.IntKind.i64 2)), type := 0, pos := "law.go:62", after := #[{ on := 18, ground := Go.Ground.data }, { on := 17, ground := Go.Ground.guard }], guard := some (17, true) }) (v := ?_) rfl (by kernel_rfl) (by kernel_rfl) (by kernel_rfl) (fun _ _ _ h => h) (Or.inl ⟨by kernel_rfl, ?_⟩) (by assumption) ?_
  rotate_left
  · intro w _
    first | (go_simp; done) | (go_simp; with_reducible rfl)
  try simp only [Act.put, List.setIfInBounds_toArray, List.set_cons_zero, List.set_cons_succ]
  refine wpAnyH_take (i := 20) (oi := { dst := some 32, op := Go.Op.fieldAddr 39 (Go.Operand.tmp 31) 1, type := 0, pos := "law.go:62", after := #[{ on := 19, ground := Go.Ground.data }, { on := 17, ground := Go.Ground.guard }], guard := some (17, true) }) (v := ?_) rfl (by kernel_rfl) (by kernel_rfl) (by kernel_rfl) (fun _ _ _ h => h) (Or.inl ⟨by kernel_rfl, ?_⟩) (by assumption) ?_
  rotate_left
  · intro w _
    first | (go_simp; done) | (go_simp; with_reducible rfl)
  try simp only [Act.put, List.setIfInBounds_toArray, List.set_cons_zero, List.set_cons_succ]
  refine wpAnyH_take (i := 21) (oi := { dst := some 33, op := Go.Op.load 9 (Go.Operand.tmp 32), type := 9, pos := "law.go:62", after := #[{ on := 20, ground := Go.Ground.data }, { on := 17, ground := Go.Ground.guard }], guard := some (17, true) }) (v := ?_) rfl (by kernel_rfl) (by kernel_rfl) (by kernel_rfl) (fun _ _ _ h => h) (Or.inl ⟨by kernel_rfl, ?_⟩) (by assumption) ?_
  rotate_left
  · intro w hSw
    (try dsimp only at hSw)
    go_split_ands
    first | (go_simp; done) | (go_simp; with_reducible rfl)
  try simp only [Act.put, List.setIfInBounds_toArray, List.set_cons_zero, List.set_cons_succ]
  refine wpAnyH_take (i := 22) (oi := { dst := some 34, op := Go.Op.binOp Go.BinOp.eql 9 (Go.Operand.tmp 33) (Go.Operand.const (Go.Value.string { data := #[] })) 9, type := 4, pos := "law.go:62", after := #[{ on := 21, ground := Go.Ground.data }, { on := 17, ground := Go.Ground.guard }], guard := some (17, true) }) (v := ?_) rfl (by kernel_rfl) (by kernel_rfl) (by kernel_rfl) (fun _ _ _ h => h) (Or.inl ⟨by kernel_rfl, ?_⟩) (by assumption) ?_
  rotate_left
  · intro w _
    first | (go_simp; done) | (go_simp; with_reducible rfl)
  try simp only [Act.put, List.setIfInBounds_toArray, List.set_cons_zero, List.set_cons_succ]
  refine wpAnyH_take (i := 23) (oi := { dst := some 35, op := Go.Op.pick (Go.Operand.tmp 29) (Go.Operand.tmp 34) (Go.Operand.const (Go.Value.bool false)), type := 4, pos := "law.go:62", after := #[{ on := 17, ground := Go.Ground.data }, { on := 22, ground := Go.Ground.data }], guard := none }) (v := ?_) rfl (by kernel_rfl) (by kernel_rfl) (by kernel_rfl) (fun _ _ _ h => h) (Or.inl ⟨by kernel_rfl, ?_⟩) (by assumption) ?_
  rotate_left
  · intro w _
    first | (go_simp; done) | (go_simp; with_reducible rfl)
  try simp only [Act.put, List.setIfInBounds_toArray, List.set_cons_zero, List.set_cons_succ]
  refine wpAnyH_take (i := 24) (oi := { dst := some 36, op := Go.Op.move (Go.Operand.tmp 35), type := 4, pos := "law.go:62", after := #[{ on := 23, ground := Go.Ground.data }, { on := 17, ground := Go.Ground.chain }], guard := none }) (v := ?_) rfl (by kernel_rfl) (by kernel_rfl) (by kernel_rfl) (fun _ _ _ h => h) (Or.inl ⟨by kernel_rfl, ?_⟩) (by assumption) ?_
  rotate_left
  · intro w _
    first | (go_simp; done) | (go_simp; with_reducible rfl)
  try simp only [Act.put, List.setIfInBounds_toArray, List.set_cons_zero, List.set_cons_succ]
  refine wpAnyH_take (i := 25) (oi := { dst := some 37, op := Go.Op.move (Go.Operand.tmp 1), type := 26, pos := "law.go:62", after := #[{ on := 24, ground := Go.Ground.guard }], guard := some (24, true) }) (v := ?_) rfl (by kernel_rfl) (by kernel_rfl) (by kernel_rfl) (fun _ _ _ h => h) (Or.inl ⟨by kernel_rfl, ?_⟩) (by assumption) ?_
  rotate_left
  · intro w _
    first | (go_simp; done) | (go_simp; with_reducible rfl)
  try simp only [Act.put, List.setIfInBounds_toArray, List.set_cons_zero, List.set_cons_succ]
  refine wpAnyH_take (i := 26) (oi := { dst := some 38, op := Go.Op.indexAddr 26 (Go.Operand.tmp 37) (Go.Operand.const (Go.Value.int Go.IntKind.i64 3)), type := 0, pos := "law.go:62", after := #[{ on := 25, ground := Go.Ground.data }, { on := 24, ground := Go.Ground.guard }], guard := some (24, true) }) (v := ?_) rfl (by kernel_rfl) (by kernel_rfl) (by kernel_rfl) (fun _ _ _ h => h) (Or.inl ⟨by kernel_rfl, ?_⟩) (by assumption) ?_
  rotate_left
  · intro w _
    first | (go_simp; done) | (go_simp; with_reducible rfl)
  try simp only [Act.put, List.setIfInBounds_toArray, List.set_cons_zero, List.set_cons_succ]
  refine wpAnyH_take (i := 27) (oi := { dst := some 39, op := Go.Op.fieldAddr 39 (Go.Operand.tmp 38) 1, type := 0, pos := "law.go:62", after := #[{ on := 26, ground := Go.Ground.data }, { on := 24, ground := Go.Ground.guard }], guard := some (24, true) }) (v := ?_) rfl (by kernel_rfl) (by kernel_rfl) (by kernel_rfl) (fun _ _ _ h => h) (Or.inl ⟨by kernel_rfl, ?_⟩) (by assumption) ?_
  rotate_left
  · intro w _
    first | (go_simp; done) | (go_simp; with_reducible rfl)
  try simp only [Act.put, List.setIfInBounds_toArray, List.set_cons_zero, List.set_cons_succ]
  refine wpAnyH_take (i := 28) (oi := { dst := some 40, op := Go.Op.load 9 (Go.Operand.tmp 39), type := 9, pos := "law.go:62", after := #[{ on := 27, ground := Go.Ground.data }, { on := 24, ground := Go.Ground.guard }], guard := some (24, true) }) (v := ?_) rfl (by kernel_rfl) (by kernel_rfl) (by kernel_rfl) (fun _ _ _ h => h) (Or.inl ⟨by kernel_rfl, ?_⟩) (by assumption) ?_
  rotate_left
  · intro w hSw
    (try dsimp only at hSw)
    go_split_ands
    first | (go_simp; done) | (go_simp; with_reducible rfl)
  try simp only [Act.put, List.setIfInBounds_toArray, List.set_cons_zero, List.set_cons_succ]
  refine wpAnyH_take (i := 29) (oi := { dst := some 41, op := Go.Op.binOp Go.BinOp.eql 9 (Go.Operand.tmp 40) (Go.Operand.const (Go.Value.string { data := #[51] })) 9, type := 4, pos := "law.go:62", after := #[{ on := 28, ground := Go.Ground.data }, { on := 24, ground := Go.Ground.guard }], guard := some (24, true) }) (v := ?_) rfl (by kernel_rfl) (by kernel_rfl) (by kernel_rfl) (fun _ _ _ h => h) (Or.inl ⟨by kernel_rfl, ?_⟩) (by assumption) ?_
  rotate_left
  · intro w _
    first | (go_simp; done) | (go_simp; with_reducible rfl)
  try simp only [Act.put, List.setIfInBounds_toArray, List.set_cons_zero, List.set_cons_succ]
  refine wpAnyH_take (i := 30) (oi := { dst := some 42, op := Go.Op.pick (Go.Operand.tmp 36) (Go.Operand.tmp 41) (Go.Operand.const (Go.Value.bool false)), type := 4, pos := "law.go:62", after := #[{ on := 24, ground := Go.Ground.data }, { on := 29, ground := Go.Ground.data }], guard := none }) (v := ?_) rfl (by kernel_rfl) (by kernel_rfl) (by kernel_rfl) (fun _ _ _ h => h) (Or.inl ⟨by kernel_rfl, ?_⟩) (by assumption) ?_
  rotate_left
  · intro w _
    first | (go_simp; done) | (go_simp; with_reducible rfl)
  try simp only [Act.put, List.setIfInBounds_toArray, List.set_cons_zero, List.set_cons_succ]
  refine wpAnyH_take (i := 31) (oi := { dst := some 43, op := Go.Op.move (Go.Operand.tmp 42), type := 4, pos := "law.go:62", after := #[{ on := 30, ground := Go.Ground.data }, { on := 24, ground := Go.Ground.chain }], guard := none }) (v := ?_) rfl (by kernel_rfl) (by kernel_rfl) (by kernel_rfl) (fun _ _ _ h => h) (Or.inl ⟨by kernel_rfl, ?_⟩) (by assumption) ?_
  rotate_left
  · intro w _
    first | (go_simp; done) | (go_simp; with_reducible rfl)
  try simp only [Act.put, List.setIfInBounds_toArray, List.set_cons_zero, List.set_cons_succ]
  refine wpAnyH_take (i := 32) (oi := { dst := some 44, op := Go.Op.move (Go.Operand.tmp 1), type := 26, pos := "law.go:62", after := #[{ on := 31, ground := Go.Ground.guard }], guard := some (31, true) }) (v := ?_) rfl (by kernel_rfl) (by kernel_rfl) (by kernel_rfl) (fun _ _ _ h => h) (Or.inl ⟨by kernel_rfl, ?_⟩) (by assumption) ?_
  rotate_left
  · intro w _
    first | (go_simp; done) | (go_simp; with_reducible rfl)
  try simp only [Act.put, List.setIfInBounds_toArray, List.set_cons_zero, List.set_cons_succ]
  refine wpAnyH_take (i := 33) (oi := { dst := some 45, op := Go.Op.indexAddr 26 (Go.Operand.tmp 44) (Go.Operand.const (Go.Value.int Go.IntKind.i64 4)), type := 0, pos := "law.go:62", after := #[{ on := 32, ground := Go.Ground.data }, { on := 31, ground := Go.Ground.guard }], guard := some (31, true) }) (v := ?_) rfl (by kernel_rfl) (by kernel_rfl) (by kernel_rfl) (fun _ _ _ h => h) (Or.inl ⟨by kernel_rfl, ?_⟩) (by assumption) ?_
  rotate_left
  · intro w _
    first | (go_simp; done) | (go_simp; with_reducible rfl)
  try simp only [Act.put, List.setIfInBounds_toArray, List.set_cons_zero, List.set_cons_succ]
  refine wpAnyH_take (i := 34) (oi := { dst := some 46, op := Go.Op.fieldAddr 39 (Go.Operand.tmp 45) 0, type := 0, pos := "law.go:62", after := #[{ on := 33, ground := Go.Ground.data }, { on := 31, ground := Go.Ground.guard }], guard := some (31, true) }) (v := ?_) rfl (by kernel_rfl) (by kernel_rfl) (by kernel_rfl) (fun _ _ _ h => h) (Or.inl ⟨by kernel_rfl, ?_⟩) (by assumption) ?_
  rotate_left
  · intro w _
    first | (go_simp; done) | (go_simp; with_reducible rfl)
  try simp only [Act.put, List.setIfInBounds_toArray, List.set_cons_zero, List.set_cons_succ]
  refine wpAnyH_take (i := 35) (oi := { dst := some 47, op := Go.Op.load 9 (Go.Operand.tmp 46), type := 9, pos := "law.go:62", after := #[{ on := 34, ground := Go.Ground.data }, { on := 31, ground := Go.Ground.guard }], guard := some (31, true) }) (v := ?_) rfl (by kernel_rfl) (by kernel_rfl) (by kernel_rfl) (fun _ _ _ h => h) (Or.inl ⟨by kernel_rfl, ?_⟩) (by assumption) ?_
  rotate_left
  · intro w hSw
    (try dsimp only at hSw)
    go_split_ands
    first | (go_simp; done) | (go_simp; with_reducible rfl)
  try simp only [Act.put, List.setIfInBounds_toArray, List.set_cons_zero, List.set_cons_succ]
  refine wpAnyH_take (i := 36) (oi := { dst := some 48, op := Go.Op.binOp Go.BinOp.eql 9 (Go.Operand.tmp 47) (Go.Operand.const (Go.Value.string { data := #[122] })) 9, type := 4, pos := "law.go:62", after := #[{ on := 35, ground := Go.Ground.data }, { on := 31, ground := Go.Ground.guard }], guard := some (31, true) }) (v := ?_) rfl (by kernel_rfl) (by kernel_rfl) (by kernel_rfl) (fun _ _ _ h => h) (Or.inl ⟨by kernel_rfl, ?_⟩) (by assumption) ?_
  rotate_left
  · intro w _
    first | (go_simp; done) | (go_simp; with_reducible rfl)
  try simp only [Act.put, List.setIfInBounds_toArray, List.set_cons_zero, List.set_cons_succ]
  refine wpAnyH_take (i := 37) (oi := { dst := some 49, op := Go.Op.pick (Go.Operand.tmp 43) (Go.Operand.tmp 48) (Go.Operand.const (Go.Value.bool false)), type := 4, pos := "law.go:62", after := #[{ on := 31, ground := Go.Ground.data }, { on := 36, ground := Go.Ground.data }], guard := none }) (v := ?_) rfl (by kernel_rfl) (by kernel_rfl) (by kernel_rfl) (fun _ _ _ h => h) (Or.inl ⟨by kernel_rfl, ?_⟩) (by assumption) ?_
  rotate_left
  · intro w _
    first | (go_simp; done) | (go_simp; with_reducible rfl)
  try simp only [Act.put, List.setIfInBounds_toArray, List.set_cons_zero, List.set_cons_succ]
  refine wpAnyH_take (i := 38) (oi := { dst := some 50, op := Go.Op.move (Go.Operand.tmp 49), type := 4, pos := "law.go:62", after := #[{ on := 37, ground := Go.Ground.data }, { on := 31, ground := Go.Ground.chain }], guard := none }) (v := ?_) rfl (by kernel_rfl) (by kernel_rfl) (by kernel_rfl) (fun _ _ _ h => h) (Or.inl ⟨by kernel_rfl, ?_⟩) (by assumption) ?_
  rotate_left
  · intro w _
    first | (go_simp; done) | (go_simp; with_reducible rfl)
  try simp only [Act.put, List.setIfInBounds_toArray, List.set_cons_zero, List.set_cons_succ]
  refine wpAnyH_take (i := 39) (oi := { dst := some 51, op := Go.Op.move (Go.Operand.tmp 1), type := 26, pos := "law.go:62", after := #[{ on := 38, ground := Go.Ground.guard }], guard := some (38, true) }) (v := ?_) rfl (by kernel_rfl) (by kernel_rfl) (by kernel_rfl) (fun _ _ _ h => h) (Or.inl ⟨by kernel_rfl, ?_⟩) (by assumption) ?_
  rotate_left
  · intro w _
    first | (go_simp; done) | (go_simp; with_reducible rfl)
  try simp only [Act.put, List.setIfInBounds_toArray, List.set_cons_zero, List.set_cons_succ]
  refine wpAnyH_take (i := 40) (oi := { dst := some 52, op := Go.Op.indexAddr 26 (Go.Operand.tmp 51) (Go.Operand.const (Go.Value.int Go.IntKind.i64 5)), type := 0, pos := "law.go:62", after := #[{ on := 39, ground := Go.Ground.data }, { on := 38, ground := Go.Ground.guard }], guard := some (38, true) }) (v := ?_) rfl (by kernel_rfl) (by kernel_rfl) (by kernel_rfl) (fun _ _ _ h => h) (Or.inl ⟨by kernel_rfl, ?_⟩) (by assumption) ?_
  rotate_left
  · intro w _
    first | (go_simp; done) | (go_simp; with_reducible rfl)
  try simp only [Act.put, List.setIfInBounds_toArray, List.set_cons_zero, List.set_cons_succ]
  refine wpAnyH_take (i := 41) (oi := { dst := some 53, op := Go.Op.fieldAddr 39 (Go.Operand.tmp 52) 0, type := 0, pos := "law.go:62", after := #[{ on := 40, ground := Go.Ground.data }, { on := 38, ground := Go.Ground.guard }], guard := some (38, true) }) (v := ?_) rfl (by kernel_rfl) (by kernel_rfl) (by kernel_rfl) (fun _ _ _ h => h) (Or.inl ⟨by kernel_rfl, ?_⟩) (by assumption) ?_
  rotate_left
  · intro w _
    first | (go_simp; done) | (go_simp; with_reducible rfl)
  try simp only [Act.put, List.setIfInBounds_toArray, List.set_cons_zero, List.set_cons_succ]
  refine wpAnyH_take (i := 42) (oi := { dst := some 54, op := Go.Op.load 9 (Go.Operand.tmp 53), type := 9, pos := "law.go:62", after := #[{ on := 41, ground := Go.Ground.data }, { on := 38, ground := Go.Ground.guard }], guard := some (38, true) }) (v := ?_) rfl (by kernel_rfl) (by kernel_rfl) (by kernel_rfl) (fun _ _ _ h => h) (Or.inl ⟨by kernel_rfl, ?_⟩) (by assumption) ?_
  rotate_left
  · intro w hSw
    (try dsimp only at hSw)
    go_split_ands
    first | (go_simp; done) | (go_simp; with_reducible rfl)
  try simp only [Act.put, List.setIfInBounds_toArray, List.set_cons_zero, List.set_cons_succ]
  refine wpAnyH_take (i := 43) (oi := { dst := some 55, op := Go.Op.binOp Go.BinOp.eql 9 (Go.Operand.tmp 54) (Go.Operand.const (Go.Value.string { data := #[113] })) 9, type := 4, pos := "law.go:62", after := #[{ on := 42, ground := Go.Ground.data }, { on := 38, ground := Go.Ground.guard }], guard := some (38, true) }) (v := ?_) rfl (by kernel_rfl) (by kernel_rfl) (by kernel_rfl) (fun _ _ _ h => h) (Or.inl ⟨by kernel_rfl, ?_⟩) (by assumption) ?_
  rotate_left
  · intro w _
    first | (go_simp; done) | (go_simp; with_reducible rfl)
  try simp only [Act.put, List.setIfInBounds_toArray, List.set_cons_zero, List.set_cons_succ]
  refine wpAnyH_take (i := 44) (oi := { dst := some 56, op := Go.Op.pick (Go.Operand.tmp 50) (Go.Operand.tmp 55) (Go.Operand.const (Go.Value.bool false)), type := 4, pos := "law.go:62", after := #[{ on := 38, ground := Go.Ground.data }, { on := 43, ground := Go.Ground.data }], guard := none }) (v := ?_) rfl (by kernel_rfl) (by kernel_rfl) (by kernel_rfl) (fun _ _ _ h => h) (Or.inl ⟨by kernel_rfl, ?_⟩) (by assumption) ?_
  rotate_left
  · intro w _
    first | (go_simp; done) | (go_simp; with_reducible rfl)
  try simp only [Act.put, List.setIfInBounds_toArray, List.set_cons_zero, List.set_cons_succ]
  refine wpAnyH_take (i := 45) (oi := { dst := some 57, op := Go.Op.move (Go.Operand.tmp 56), type := 4, pos := "law.go:62", after := #[{ on := 44, ground := Go.Ground.data }, { on := 38, ground := Go.Ground.chain }], guard := none }) (v := ?_) rfl (by kernel_rfl) (by kernel_rfl) (by kernel_rfl) (fun _ _ _ h => h) (Or.inl ⟨by kernel_rfl, ?_⟩) (by assumption) ?_
  rotate_left
  · intro w _
    first | (go_simp; done) | (go_simp; with_reducible rfl)
  try simp only [Act.put, List.setIfInBounds_toArray, List.set_cons_zero, List.set_cons_succ]
  refine wpAnyH_take (i := 46) (oi := { dst := some 58, op := Go.Op.move (Go.Operand.tmp 1), type := 26, pos := "law.go:62", after := #[{ on := 45, ground := Go.Ground.guard }], guard := some (45, true) }) (v := ?_) rfl (by kernel_rfl) (by kernel_rfl) (by kernel_rfl) (fun _ _ _ h => h) (Or.inl ⟨by kernel_rfl, ?_⟩) (by assumption) ?_
  rotate_left
  · intro w _
    first | (go_simp; done) | (go_simp; with_reducible rfl)
  try simp only [Act.put, List.setIfInBounds_toArray, List.set_cons_zero, List.set_cons_succ]
  refine wpAnyH_take (i := 47) (oi := { dst := some 59, op := Go.Op.indexAddr 26 (Go.Operand.tmp 58) (Go.Operand.const (Go.Value.int Go.IntKind.i64 6)), type := 0, pos := "law.go:62", after := #[{ on := 46, ground := Go.Ground.data }, { on := 45, ground := Go.Ground.guard }], guard := some (45, true) }) (v := ?_) rfl (by kernel_rfl) (by kernel_rfl) (by kernel_rfl) (fun _ _ _ h => h) (Or.inl ⟨by kernel_rfl, ?_⟩) (by assumption) ?_
  rotate_left
  · intro w _
    first | (go_simp; done) | (go_simp; with_reducible rfl)
  try simp only [Act.put, List.setIfInBounds_toArray, List.set_cons_zero, List.set_cons_succ]
  refine wpAnyH_take (i := 48) (oi := { dst := some 60, op := Go.Op.fieldAddr 39 (Go.Operand.tmp 59) 1, type := 0, pos := "law.go:62", after := #[{ on := 47, ground := Go.Ground.data }, { on := 45, ground := Go.Ground.guard }], guard := some (45, true) }) (v := ?_) rfl (by kernel_rfl) (by kernel_rfl) (by kernel_rfl) (fun _ _ _ h => h) (Or.inl ⟨by kernel_rfl, ?_⟩) (by assumption) ?_
  rotate_left
  · intro w _
    first | (go_simp; done) | (go_simp; with_reducible rfl)
  try simp only [Act.put, List.setIfInBounds_toArray, List.set_cons_zero, List.set_cons_succ]
  refine wpAnyH_take (i := 49) (oi := { dst := some 61, op := Go.Op.load 9 (Go.Operand.tmp 60), type := 9, pos := "law.go:62", after := #[{ on := 48, ground := Go.Ground.data }, { on := 45, ground := Go.Ground.guard }], guard := some (45, true) }) (v := ?_) rfl (by kernel_rfl) (by kernel_rfl) (by kernel_rfl) (fun _ _ _ h => h) (Or.inl ⟨by kernel_rfl, ?_⟩) (by assumption) ?_
  rotate_left
  · intro w hSw
    (try dsimp only at hSw)
    go_split_ands
    first | (go_simp; done) | (go_simp; with_reducible rfl)
  try simp only [Act.put, List.setIfInBounds_toArray, List.set_cons_zero, List.set_cons_succ]
  refine wpAnyH_take (i := 50) (oi := { dst := some 62, op := Go.Op.binOp Go.BinOp.eql 9 (Go.Operand.tmp 61) (Go.Operand.const (Go.Value.string { data := #[34, 117, 110] })) 9, type := 4, pos := "law.go:62", after := #[{ on := 49, ground := Go.Ground.data }, { on := 45, ground := Go.Ground.guard }], guard := some (45, true) }) (v := ?_) rfl (by kernel_rfl) (by kernel_rfl) (by kernel_rfl) (fun _ _ _ h => h) (Or.inl ⟨by kernel_rfl, ?_⟩) (by assumption) ?_
  rotate_left
  · intro w _
    first | (go_simp; done) | (go_simp; with_reducible rfl)
  try simp only [Act.put, List.setIfInBounds_toArray, List.set_cons_zero, List.set_cons_succ]
  refine wpAnyH_take (i := 51) (oi := { dst := some 63, op := Go.Op.pick (Go.Operand.tmp 57) (Go.Operand.tmp 62) (Go.Operand.const (Go.Value.bool false)), type := 4, pos := "law.go:62", after := #[{ on := 45, ground := Go.Ground.data }, { on := 50, ground := Go.Ground.data }], guard := none }) (v := ?_) rfl (by kernel_rfl) (by kernel_rfl) (by kernel_rfl) (fun _ _ _ h => h) (Or.inl ⟨by kernel_rfl, ?_⟩) (by assumption) ?_
  rotate_left
  · intro w _
    first | (go_simp; done) | (go_simp; with_reducible rfl)
  try simp only [Act.put, List.setIfInBounds_toArray, List.set_cons_zero, List.set_cons_succ]
  refine wpAnyH_take (i := 52) (oi := { dst := some 64, op := Go.Op.move (Go.Operand.tmp 63), type := 4, pos := "law.go:62", after := #[{ on := 51, ground := Go.Ground.data }, { on := 45, ground := Go.Ground.chain }], guard := none }) (v := ?_) rfl (by kernel_rfl) (by kernel_rfl) (by kernel_rfl) (fun _ _ _ h => h) (Or.inl ⟨by kernel_rfl, ?_⟩) (by assumption) ?_
  rotate_left
  · intro w _
    first | (go_simp; done) | (go_simp; with_reducible rfl)
  try simp only [Act.put, List.setIfInBounds_toArray, List.set_cons_zero, List.set_cons_succ]
  refine wpAnyH_take (i := 53) (oi := { dst := some 65, op := Go.Op.move (Go.Operand.tmp 2), type := 32, pos := "law.go:62", after := #[{ on := 52, ground := Go.Ground.guard }], guard := some (52, true) }) (v := ?_) rfl (by kernel_rfl) (by kernel_rfl) (by kernel_rfl) (fun _ _ _ h => h) (Or.inl ⟨by kernel_rfl, ?_⟩) (by assumption) ?_
  rotate_left
  · intro w _
    first | (go_simp; done) | (go_simp; with_reducible rfl)
  try simp only [Act.put, List.setIfInBounds_toArray, List.set_cons_zero, List.set_cons_succ]
  refine wpAnyH_take (i := 54) (oi := { dst := some 66, op := Go.Op.call { callee := Go.Callee.builtin Go.Builtin.len, args := #[Go.Operand.tmp 65], argTypes := #[32] }, type := 3, pos := "law.go:62", after := #[{ on := 53, ground := Go.Ground.data }, { on := 52, ground := Go.Ground.guard }], guard := some (52, true) }) (v := ?_) rfl (by kernel_rfl) (by kernel_rfl) (by kernel_rfl) (fun _ _ _ h => h) (Or.inl ⟨by kernel_rfl, ?_⟩) (by assumption) ?_
  rotate_left
  · intro w _
    first | (go_simp; done) | (go_simp; with_reducible rfl)
  try simp only [Act.put, List.setIfInBounds_toArray, List.set_cons_zero, List.set_cons_succ]
  refine wpAnyH_take (i := 55) (oi := { dst := some 67, op := Go.Op.binOp Go.BinOp.eql 3 (Go.Operand.tmp 66) (Go.Operand.const (Go.Value.int Go.IntKind.i64 2)) 3, type := 4, pos := "law.go:62", after := #[{ on := 54, ground := Go.Ground.data }, { on := 52, ground := Go.Ground.guard }], guard := some (52, true) }) (v := ?_) rfl (by kernel_rfl) (by kernel_rfl) (by kernel_rfl) (fun _ _ _ h => h) (Or.inl ⟨by kernel_rfl, ?_⟩) (by assumption) ?_
  rotate_left
  · intro w _
    first | (go_simp; done) | (go_simp; with_reducible rfl)
  try simp only [Act.put, List.setIfInBounds_toArray, List.set_cons_zero, List.set_cons_succ]
  refine wpAnyH_take (i := 56) (oi := { dst := some 68, op := Go.Op.pick (Go.Operand.tmp 64) (Go.Operand.tmp 67) (Go.Operand.const (Go.Value.bool false)), type := 4, pos := "law.go:62", after := #[{ on := 52, ground := Go.Ground.data }, { on := 55, ground := Go.Ground.data }], guard := none }) (v := ?_) rfl (by kernel_rfl) (by kernel_rfl) (by kernel_rfl) (fun _ _ _ h => h) (Or.inl ⟨by kernel_rfl, ?_⟩) (by assumption) ?_
  rotate_left
  · intro w _
    first | (go_simp; done) | (go_simp; with_reducible rfl)
  try simp only [Act.put, List.setIfInBounds_toArray, List.set_cons_zero, List.set_cons_succ]
  refine wpAnyH_take (i := 57) (oi := { dst := some 69, op := Go.Op.move (Go.Operand.tmp 68), type := 4, pos := "law.go:62", after := #[{ on := 56, ground := Go.Ground.data }, { on := 52, ground := Go.Ground.chain }], guard := none }) (v := ?_) rfl (by kernel_rfl) (by kernel_rfl) (by kernel_rfl) (fun _ _ _ h => h) (Or.inl ⟨by kernel_rfl, ?_⟩) (by assumption) ?_
  rotate_left
  · intro w _
    first | (go_simp; done) | (go_simp; with_reducible rfl)
  try simp only [Act.put, List.setIfInBounds_toArray, List.set_cons_zero, List.set_cons_succ]
  refine wpAnyH_take (i := 58) (oi := { dst := some 70, op := Go.Op.move (Go.Operand.tmp 3), type := 9, pos := "law.go:62", after := #[{ on := 57, ground := Go.Ground.guard }], guard := some (57, true) }) (v := ?_) rfl (by kernel_rfl) (by kernel_rfl) (by kernel_rfl) (fun _ _ _ h => h) (Or.inl ⟨by kernel_rfl, ?_⟩) (by assumption) ?_
  rotate_left
  · intro w _
    first | (go_simp; done) | (go_simp; with_reducible rfl)
  try simp only [Act.put, List.setIfInBounds_toArray, List.set_cons_zero, List.set_cons_succ]
  refine wpAnyH_take (i := 59) (oi := { dst := some 71, op := Go.Op.binOp Go.BinOp.eql 9 (Go.Operand.tmp 70) (Go.Operand.const (Go.Value.string { data := #[49] })) 9, type := 4, pos := "law.go:62", after := #[{ on := 58, ground := Go.Ground.data }, { on := 57, ground := Go.Ground.guard }], guard := some (57, true) }) (v := ?_) rfl (by kernel_rfl) (by kernel_rfl) (by kernel_rfl) (fun _ _ _ h => h) (Or.inl ⟨by kernel_rfl, ?_⟩) (by assumption) ?_
  rotate_left
  · intro w _
    first | (go_simp; done) | (go_simp; with_reducible rfl)
  try simp only [Act.put, List.setIfInBounds_toArray, List.set_cons_zero, List.set_cons_succ]
  refine wpAnyH_take (i := 60) (oi := { dst := some 72, op := Go.Op.pick (Go.Operand.tmp 69) (Go.Operand.tmp 71) (Go.Operand.const (Go.Value.bool false)), type := 4, pos := "law.go:62", after := #[{ on := 57, ground := Go.Ground.data }, { on := 59, ground := Go.Ground.data }], guard := none }) (v := ?_) rfl (by kernel_rfl) (by kernel_rfl) (by kernel_rfl) (fun _ _ _ h => h) (Or.inl ⟨by kernel_rfl, ?_⟩) (by assumption) ?_
  rotate_left
  · intro w _
    first | (go_simp; done) | (go_simp; with_reducible rfl)
  try simp only [Act.put, List.setIfInBounds_toArray, List.set_cons_zero, List.set_cons_succ]
  refine wpAnyH_take (i := 61) (oi := { dst := some 73, op := Go.Op.move (Go.Operand.tmp 72), type := 4, pos := "law.go:62", after := #[{ on := 60, ground := Go.Ground.data }, { on := 57, ground := Go.Ground.chain }], guard := none }) (v := ?_) rfl (by kernel_rfl) (by kernel_rfl) (by kernel_rfl) (fun _ _ _ h => h) (Or.inl ⟨by kernel_rfl, ?_⟩) (by assumption) ?_
  rotate_left
  · intro w _
    first | (go_simp; done) | (go_simp; with_reducible rfl)
  try simp only [Act.put, List.setIfInBounds_toArray, List.set_cons_zero, List.set_cons_succ]
  refine wpAnyH_take (i := 62) (oi := { dst := some 74, op := Go.Op.move (Go.Operand.tmp 4), type := 4, pos := "law.go:62", after := #[{ on := 61, ground := Go.Ground.guard }], guard := some (61, true) }) (v := ?_) rfl (by kernel_rfl) (by kernel_rfl) (by kernel_rfl) (fun _ _ _ h => h) (Or.inl ⟨by kernel_rfl, ?_⟩) (by assumption) ?_
  rotate_left
  · intro w _
    first | (go_simp; done) | (go_simp; with_reducible rfl)
  try simp only [Act.put, List.setIfInBounds_toArray, List.set_cons_zero, List.set_cons_succ]
  refine wpAnyH_take (i := 63) (oi := { dst := some 75, op := Go.Op.pick (Go.Operand.tmp 73) (Go.Operand.tmp 74) (Go.Operand.const (Go.Value.bool false)), type := 4, pos := "law.go:62", after := #[{ on := 61, ground := Go.Ground.data }, { on := 62, ground := Go.Ground.data }], guard := none }) (v := ?_) rfl (by kernel_rfl) (by kernel_rfl) (by kernel_rfl) (fun _ _ _ h => h) (Or.inl ⟨by kernel_rfl, ?_⟩) (by assumption) ?_
  rotate_left
  · intro w _
    first | (go_simp; done) | (go_simp; with_reducible rfl)
  try simp only [Act.put, List.setIfInBounds_toArray, List.set_cons_zero, List.set_cons_succ]
  refine wpAnyH_take (i := 64) (oi := { dst := some 76, op := Go.Op.move (Go.Operand.tmp 75), type := 4, pos := "law.go:62", after := #[{ on := 63, ground := Go.Ground.data }, { on := 61, ground := Go.Ground.chain }], guard := none }) (v := ?_) rfl (by kernel_rfl) (by kernel_rfl) (by kernel_rfl) (fun _ _ _ h => h) (Or.inl ⟨by kernel_rfl, ?_⟩) (by assumption) ?_
  rotate_left
  · intro w _
    first | (go_simp; done) | (go_simp; with_reducible rfl)
  try simp only [Act.put, List.setIfInBounds_toArray, List.set_cons_zero, List.set_cons_succ]
  refine wpAnyH_take (i := 65) (oi := { dst := some 77, op := Go.Op.move (Go.Operand.tmp 1), type := 26, pos := "law.go:62", after := #[{ on := 64, ground := Go.Ground.guard }], guard := some (64, true) }) (v := ?_) rfl (by kernel_rfl) (by kernel_rfl) (by kernel_rfl) (fun _ _ _ h => h) (Or.inl ⟨by kernel_rfl, ?_⟩) (by assumption) ?_
  rotate_left
  · intro w _
    first | (go_simp; done) | (go_simp; with_reducible rfl)
  try simp only [Act.put, List.setIfInBounds_toArray, List.set_cons_zero, List.set_cons_succ]
  refine wpAnyH_take (i := 66) (oi := { dst := some 78, op := Go.Op.indexAddr 26 (Go.Operand.tmp 77) (Go.Operand.const (Go.Value.int Go.IntKind.i64 0)), type := 0, pos := "law.go:62", after := #[{ on := 65, ground := Go.Ground.data }, { on := 64, ground := Go.Ground.guard }], guard := some (64, true) }) (v := ?_) rfl (by kernel_rfl) (by kernel_rfl) (by kernel_rfl) (fun _ _ _ h => h) (Or.inl ⟨by kernel_rfl, ?_⟩) (by assumption) ?_
  rotate_left
  · intro w _
    first | (go_simp; done) | (go_simp; with_reducible rfl)
  try simp only [Act.put, List.setIfInBounds_toArray, List.set_cons_zero, List.set_cons_succ]
  refine wpAnyH_take (i := 67) (oi := { dst := some 79, op := Go.Op.load 39 (Go.Operand.tmp 78), type := 39, pos := "law.go:62", after := #[{ on := 66, ground := Go.Ground.data }, { on := 64, ground := Go.Ground.guard }], guard := some (64, true) }) (v := ?_) rfl (by kernel_rfl) (by kernel_rfl) (by kernel_rfl) (fun _ _ _ h => h) (Or.inl ⟨by kernel_rfl, ?_⟩) (by assumption) ?_
  rotate_left
  · intro w hSw
    (try dsimp only at hSw)
    go_split_ands
    first | (go_simp; done) | (go_simp; with_reducible rfl)
  try simp only [Act.put, List.setIfInBounds_toArray, List.set_cons_zero, List.set_cons_succ]
  refine wpAnyH_take (i := 68) (oi := { dst := some 80, op := Go.Op.move (Go.Operand.tmp 1), type := 26, pos := "law.go:62", after := #[{ on := 64, ground := Go.Ground.guard }], guard := some (64, true) }) (v := ?_) rfl (by kernel_rfl) (by kernel_rfl) (by kernel_rfl) (fun _ _ _ h => h) (Or.inl ⟨by kernel_rfl, ?_⟩) (by assumption) ?_
  rotate_left
  · intro w _
    first | (go_simp; done) | (go_simp; with_reducible rfl)
  try simp only [Act.put, List.setIfInBounds_toArray, List.set_cons_zero, List.set_cons_succ]
  refine wpAnyH_take (i := 69) (oi := { dst := some 81, op := Go.Op.indexAddr 26 (Go.Operand.tmp 80) (Go.Operand.const (Go.Value.int Go.IntKind.i64 1)), type := 0, pos := "law.go:62", after := #[{ on := 68, ground := Go.Ground.data }, { on := 64, ground := Go.Ground.guard }], guard := some (64, true) }) (v := ?_) rfl (by kernel_rfl) (by kernel_rfl) (by kernel_rfl) (fun _ _ _ h => h) (Or.inl ⟨by kernel_rfl, ?_⟩) (by assumption) ?_
  rotate_left
  · intro w _
    first | (go_simp; done) | (go_simp; with_reducible rfl)
  try simp only [Act.put, List.setIfInBounds_toArray, List.set_cons_zero, List.set_cons_succ]
  refine wpAnyH_take (i := 70) (oi := { dst := some 82, op := Go.Op.load 39 (Go.Operand.tmp 81), type := 39, pos := "law.go:62", after := #[{ on := 69, ground := Go.Ground.data }, { on := 64, ground := Go.Ground.guard }], guard := some (64, true) }) (v := ?_) rfl (by kernel_rfl) (by kernel_rfl) (by kernel_rfl) (fun _ _ _ h => h) (Or.inl ⟨by kernel_rfl, ?_⟩) (by assumption) ?_
  rotate_left
  · intro w hSw
    (try dsimp only at hSw)
    go_split_ands
    first | (go_simp; done) | (go_simp; with_reducible rfl)
  try simp only [Act.put, List.setIfInBounds_toArray, List.set_cons_zero, List.set_cons_succ]
  refine wpAnyH_ready (rs := [71]) (by kernel_rfl) (by simp) ?_
  refine AllReadyH.cons (o := { dst := some 83, op := Go.Op.buildSlice 26 2 #[(0, Go.Operand.tmp 79), (1, Go.Operand.tmp 82)], type := 26, pos := "law.go:62", after := #[{ on := 67, ground := Go.Ground.data }, { on := 70, ground := Go.Ground.data }, { on := 64, ground := Go.Ground.guard }], guard := some (64, true) }) rfl (fun K hK => ?_) AllReadyH.nil
  go_simp
  have hb3 : Below w0.drew.heap.size w0.drew (w0.alloc (.cells #[.string ⟨#[97]⟩, .string ⟨#[49]⟩, .string ⟨#[98]⟩, .string ⟨#[120, 32, 121]⟩] 39)).drew := (Below.refl _ _).alloc (Nat.le_refl _) _
  obtain ⟨g71, hg71⟩ : ∃ g, w0.heap.size = g := ⟨_, rfl⟩
  have HT2 : Pairs (w0.alloc (.cells #[.string ⟨#[97]⟩, .string ⟨#[49]⟩, .string ⟨#[98]⟩, .string ⟨#[120, 32, 121]⟩] 39)).drew (some ⟨g71, 0, none⟩) 2 [(⟨#[97]⟩, ⟨#[49]⟩), (⟨#[98]⟩, ⟨#[120, 32, 121]⟩)] := pairs_lit w0.drew [(⟨#[97]⟩, ⟨#[49]⟩), (⟨#[98]⟩, ⟨#[120, 32, 121]⟩)] g71 hg71.symm
  obtain ⟨wc1, hwwc1⟩ : ∃ z, (w0.alloc (.cells #[.string ⟨#[97]⟩, .string ⟨#[49]⟩, .string ⟨#[98]⟩, .string ⟨#[120, 32, 121]⟩] 39)).drew = z := ⟨_, rfl⟩
  have Hb3 := Lib.hid hb3
  have HHT2 := Lib.hid HT2
  clear hb3 HT2
  rw [hwwc1] at Hb3 HHT2
  rw [hwwc1, hg71]
  have hb3 := Hb3.out
  have HT2 := HHT2.out
  clear hwwc1 Hb3 HHT2 hg71
  have Sc1 := HS.out _ _ (by assumption) hb3
  refine hK.out _ _ Sc1 (fun _ => ?_)
  clear hK K hb3
  try simp only [Act.put, List.setIfInBounds_toArray, List.set_cons_zero, List.set_cons_succ]
  refine wpAnyH_ready (rs := [72]) (by kernel_rfl) (by simp) ?_
  refine AllReadyH.cons (o := { dst := some 84, op := Go.Op.call { callee := Go.Callee.value (Go.Operand.func 16), args := #[Go.Operand.tmp 83], argTypes := #[26] }, type := 9, pos := "law.go:62", after := #[{ on := 71, ground := Go.Ground.data }, { on := 64, ground := Go.Ground.chain }, { on := 64, ground := Go.Ground.guard }], guard := some (64, true) }) rfl (fun K hK => ?_) AllReadyH.nil
  go_simp
  go_at_call 16
  refine (PU.out _ _ _ HT2).mono ?_
  rintro e wc2 ⟨rfl, hb3⟩
  have HT2_ := HT2.below hb3
  clear HT2
  have HT2 := HT2_
  clear HT2_
  have Sc2 := HS.out _ _ (by assumption) hb3
  refine hK.out _ _ Sc2 (fun _ => ?_)
  clear hK K hb3
  try simp only [Act.put, List.setIfInBounds_toArray, List.set_cons_zero, List.set_cons_succ]
  refine wpAnyH_take (i := 73) (oi := { dst := some 85, op := Go.Op.binOp Go.BinOp.eql 9 (Go.Operand.tmp 84) (Go.Operand.const (Go.Value.string { data := #[97, 61, 34, 49, 34, 32, 98, 61, 34, 120, 32, 121, 34] })) 9, type := 4, pos := "law.go:62", after := #[{ on := 72, ground := Go.Ground.data }, { on := 64, ground := Go.Ground.guard }], guard := some (64, true) }) (v := ?_) rfl (by kernel_rfl) (by kernel_rfl) (by kernel_rfl) (fun _ _ _ h => h) (Or.inl ⟨by kernel_rfl, ?_⟩) (by assumption) ?_
  rotate_left
  · intro w _
    first | (go_simp; done) | (go_simp; with_reducible rfl)
  try simp only [Act.put, List.setIfInBounds_toArray, List.set_cons_zero, List.set_cons_succ]
  refine wpAnyH_take (i := 74) (oi := { dst := some 86, op := Go.Op.pick (Go.Operand.tmp 76) (Go.Operand.tmp 85) (Go.Operand.const (Go.Value.bool false)), type := 4, pos := "law.go:62", after := #[{ on := 64, ground := Go.Ground.data }, { on := 73, ground := Go.Ground.data }], guard := none }) (v := ?_) rfl (by kernel_rfl) (by kernel_rfl) (by kernel_rfl) (fun _ _ _ h => h) (Or.inl ⟨by kernel_rfl, ?_⟩) (by assumption) ?_
  rotate_left
  · intro w _
    first | (go_simp; done) | (go_simp; with_reducible rfl)
  try simp only [Act.put, List.setIfInBounds_toArray, List.set_cons_zero, List.set_cons_succ]
  refine wpAnyH_take (i := 75) (oi := { dst := some 0, op := Go.Op.assign (Go.Operand.tmp 86), type := 4, pos := "law.go:62", after := ([{ on := 74, ground := Go.Ground.data }, { on := 72, ground := Go.Ground.chain }, { on := 0, ground := Go.Ground.phase }, { on := 1, ground := Go.Ground.phase }, { on := 2, ground := Go.Ground.phase }, { on := 3, ground := Go.Ground.phase }, { on := 4, ground := Go.Ground.phase }, { on := 5, ground := Go.Ground.phase }, { on := 6, ground := Go.Ground.phase }, { on := 7, ground := Go.Ground.phase }, { on := 8, ground := Go.Ground.phase }, { on := 9, ground := Go.Ground.phase }, { on := 10, ground := Go.Ground.phase }, { on := 11, ground := Go.Ground.phase }, { on := 12, ground := Go.Ground.phase }, { on := 13, ground := Go.Ground.phase }, { on := 14, ground := Go.Ground.phase }, { on := 15, ground := Go.Ground.phase }, { on := 16, ground := Go.Ground.phase }, { on := 17, ground := Go.Ground.phase }, { on := 18, ground := Go.Ground.phase }, { on := 19, ground := Go.Ground.phase }, { on := 20, ground := Go.Ground.phase }, { on := 21, ground := Go.Ground.phase }, { on := 22, ground := Go.Ground.phase }, { on := 23, ground := Go.Ground.phase }, { on := 24, ground := Go.Ground.phase }, { on := 25, ground := Go.Ground.phase }, { on := 26, ground := Go.Ground.phase }, { on := 27, ground := Go.Ground.phase }, { on := 28, ground := Go.Ground.phase }, { on := 29, ground := Go.Ground.phase }, { on := 30, ground := Go.Ground.phase }, { on := 31, ground := Go.Ground.phase }, { on := 32, ground := Go.Ground.phase }, { on := 33, ground := Go.Ground.phase }, { on := 34, ground := Go.Ground.phase }, { on := 35, ground := Go.Ground.phase }].append [{ on := 36, ground := Go.Ground.phase }, { on := 37, ground := Go.Ground.phase }, { on := 38, ground := Go.Ground.phase }, { on := 39, ground := Go.Ground.phase }, { on := 40, ground := Go.Ground.phase }, { on := 41, ground := Go.Ground.phase }, { on := 42, ground := Go.Ground.phase }, { on := 43, ground := Go.Ground.phase }, { on := 44, ground := Go.Ground.phase }, { on := 45, ground := Go.Ground.phase }, { on := 46, ground := Go.Ground.phase }, { on := 47, ground := Go.Ground.phase }, { on := 48, ground := Go.Ground.phase }, { on := 49, ground := Go.Ground.phase }, { on := 50, ground := Go.Ground.phase }, { on := 51, ground := Go.Ground.phase }, { on := 52, ground := Go.Ground.phase }, { on := 53, ground := Go.Ground.phase }, { on := 54, ground := Go.Ground.phase }, { on := 55, ground := Go.Ground.phase }, { on := 56, ground := Go.Ground.phase }, { on := 57, ground := Go.Ground.phase }, { on := 58, ground := Go.Ground.phase }, { on := 59, ground := Go.Ground.phase }, { on := 60, ground := Go.Ground.phase }, { on := 61, ground := Go.Ground.phase }, { on := 62, ground := Go.Ground.phase }, { on := 63, ground := Go.Ground.phase }, { on := 64, ground := Go.Ground.phase }, { on := 65, ground := Go.Ground.phase }, { on := 66, ground := Go.Ground.phase }, { on := 67, ground := Go.Ground.phase }, { on := 68, ground := Go.Ground.phase }, { on := 69, ground := Go.Ground.phase }, { on := 70, ground := Go.Ground.phase }, { on := 71, ground := Go.Ground.phase }, { on := 72, ground := Go.Ground.phase }, { on := 73, ground := Go.Ground.phase }, { on := 74, ground := Go.Ground.phase }]).toArray, guard := none }) (v := ?_) rfl (by kernel_rfl) (by kernel_rfl) (by kernel_rfl) (fun _ _ _ h => h) (Or.inl ⟨by kernel_rfl, ?_⟩) (by assumption) ?_
  rotate_left
  · intro w _
    first | (go_simp; done) | (go_simp; with_reducible rfl)
  try simp only [Act.put, List.setIfInBounds_toArray, List.set_cons_zero, List.set_cons_succ]
  refine wpAnyH_done (by kernel_rfl) ?_ _
  have HZ := Lib.hid (hop HB0.out h0 Sc2.1)
  go_wp2
  go_ret
  exact ⟨by first | rfl | decide | simp, HZ.out⟩
end Go.Proofs.Ytimmfmgnjpcdoaa
