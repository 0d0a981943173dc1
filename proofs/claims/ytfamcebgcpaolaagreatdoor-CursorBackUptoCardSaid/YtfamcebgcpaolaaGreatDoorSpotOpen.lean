/- A cursor by its parts, opened out of what comes in. -/
import Derived.Test.YtfamcebgcpaolaaGreatDoorSpot
namespace Go.Proofs.YtfamcebgcpaolaaGreatDoor
open Go.RowKit Go.ChangeShapes Go.WideShapes Go.Deep
set_option linter.unusedVariables false
set_option linter.unusedSimpArgs false

theorem cells_cur : Tryz.prog.cellsOf 29 = 6 := by kernel_rfl
theorem cells_spot : Tryz.prog.cellsOf 35 = 14 := by kernel_rfl
theorem cells_u64 : Tryz.prog.cellsOf 22 = 1 := by kernel_rfl
theorem cells_int : Tryz.prog.cellsOf 3 = 1 := by kernel_rfl
theorem bdu64' {x : Int} (h : (Lit.int .u64 x).wf = true) : 0 ≤ x ∧ x ≤ 18446744073709551615 := by
  simpa [Lit.wf, IntKind.min, IntKind.max, IntKind.signed, IntKind.bits] using h
theorem six_of {α : Type} {l : List α} (h : l.length = 6) : ∃ a b c d e f, l = [a, b, c, d, e, f] := by
  match l, h with
  | [a, b, c, d, e, f], _ => exact ⟨a, b, c, d, e, f, rfl⟩
theorem fourteen_of {α : Type} {l : List α} (h : l.length = 14) : ∃ a b c d e f g i j k m n o p, l = [a, b, c, d, e, f, g, i, j, k, m, n, o, p] := by
  match l, h with
  | [a, b, c, d, e, f, g, i, j, k, m, n, o, p], _ => exact ⟨a, b, c, d, e, f, g, i, j, k, m, n, o, p, rfl⟩
def CurX.V (x : CurX) : List Value := [.int .u64 (x.dg : Int), .int .i64 x.ln, .int .i64 x.by_, .int .i64 x.e.ts, .slice x.e.A x.e.n x.e.c, .string x.e.ln]
def spotK (x : SpotX) : Nat := entK x.c.e + itemK x.e
section
variable {H : Type} {enc : TypeId × Value → H} {w : World} {base : Nat} {spare : Nat → Bool} {held : Bool}
theorem one_cur {n : Nat} {cs : List Value} {y : DataW H × List MemPlace} (h : DataW.trod enc Tryz.prog w base spare held n 29 cs = some y) : ∃ x : CurX, (Good w.heap.size w x.e ∧ x.dg < 18446744073709551616 ∧ -9223372036854775808 ≤ x.ln ∧ x.ln ≤ 9223372036854775807 ∧ -9223372036854775808 ≤ x.by_ ∧ x.by_ ≤ 9223372036854775807) ∧ cs = x.V ∧ entK x.e + 1 ≤ Rows.uptoBulk y.1 := by
  obtain ⟨xs, m, _, hy, hl, hlen, hf⟩ := DataW.trod_struct Tryz.underlying29 h
  rw [cells_cur] at hl
  obtain ⟨c0, c1, c2, c3, c4, c5, rfl⟩ : ∃ a b c d e f, cs = [a, b, c, d, e, f] := six_of hl
  obtain ⟨y0, y1, y2, y3, rfl⟩ : ∃ a b c d, xs = [a, b, c, d] := four_of hlen
  have f0 : DataW.trod enc Tryz.prog w base spare held m 22 [c0] = some y0 := by
    have h : DataW.trod enc Tryz.prog w base spare held m 22 (List.take (Tryz.prog.cellsOf 22) (List.drop 0 [c0, c1, c2, c3, c4, c5])) = some y0 := hf 0 _ rfl
    rw [cells_u64] at h
    exact h
  have f1 : DataW.trod enc Tryz.prog w base spare held m 3 [c1] = some y1 := by
    have h : DataW.trod enc Tryz.prog w base spare held m 3 (List.take (Tryz.prog.cellsOf 3) (List.drop 1 [c0, c1, c2, c3, c4, c5])) = some y1 := hf 1 _ rfl
    rw [cells_int] at h
    exact h
  have f2 : DataW.trod enc Tryz.prog w base spare held m 2 [c2] = some y2 := by
    have h : DataW.trod enc Tryz.prog w base spare held m 2 (List.take (Tryz.prog.cellsOf 2) (List.drop 2 [c0, c1, c2, c3, c4, c5])) = some y2 := hf 2 _ rfl
    rw [cells_i64] at h
    exact h
  have f3 : DataW.trod enc Tryz.prog w base spare held m 27 [c3, c4, c5] = some y3 := by
    have h : DataW.trod enc Tryz.prog w base spare held m 27 (List.take (Tryz.prog.cellsOf 27) (List.drop 3 [c0, c1, c2, c3, c4, c5])) = some y3 := hf 3 _ rfl
    rw [cells_ent] at h
    exact h
  obtain ⟨dg, e0, d0, w0⟩ := DataW.trod_int Tryz.underlying22 f0
  obtain ⟨ln, e1, d1, w1⟩ := DataW.trod_int Tryz.underlying3 f1
  obtain ⟨by_, e2, d2, w2⟩ := DataW.trod_int Tryz.underlying2 f2
  obtain ⟨e, he, e3, hk⟩ := one_ent f3
  obtain ⟨g0, g1⟩ := bdu64' w0
  obtain ⟨l0, l1⟩ := bdi64 (show (Lit.int .i64 ln).wf = true from w1)
  obtain ⟨b0, b1⟩ := bdi64 (show (Lit.int .i64 by_).wf = true from w2)
  obtain ⟨ets, eA, en, ec, els, eln⟩ := e
  simp only [EntX.V, List.cons.injEq, and_true] at e3
  obtain ⟨q0, q1, q2⟩ := e3
  injection e0 with e0
  injection e1 with e1
  injection e2 with e2
  subst q0 q1 q2 e0 e1 e2 hy
  refine ⟨⟨dg.toNat, ln, by_, ⟨ets, eA, en, ec, els, eln⟩⟩, ⟨he, by show dg.toNat < _; omega, l0, l1, b0, b1⟩, ?_, ?_⟩
  · show _ = [Value.int .u64 (dg.toNat : Int), .int .i64 ln, .int .i64 by_, .int .i64 ets, .slice eA en ec, .string eln]
    rw [show (dg.toNat : Int) = dg by omega]
  · simp only [List.map_cons, List.map_nil, Rows.uptoBulk, Rows.uptoBulkAll]
    omega
theorem one_spot {n : Nat} {cs : List Value} {y : DataW H × List MemPlace} (h : DataW.trod enc Tryz.prog w base spare held n 35 cs = some y) : ∃ x : SpotX, GoodS w.heap.size w x ∧ cs = x.V ∧ spotK x + 1 ≤ Rows.uptoBulk y.1 := by
  obtain ⟨xs, m, _, hy, hl, hlen, hf⟩ := DataW.trod_struct Tryz.underlying35 h
  rw [cells_spot] at hl
  obtain ⟨c0, c1, c2, c3, c4, c5, c6, c7, c8, c9, c10, c11, c12, c13, rfl⟩ : ∃ a b c d e f g i j k m n o p, cs = [a, b, c, d, e, f, g, i, j, k, m, n, o, p] := fourteen_of hl
  obtain ⟨y0, y1, y2, rfl⟩ : ∃ a b c, xs = [a, b, c] := three_of hlen
  have f0 : DataW.trod enc Tryz.prog w base spare held m 29 [c0, c1, c2, c3, c4, c5] = some y0 := by
    have h : DataW.trod enc Tryz.prog w base spare held m 29 (List.take (Tryz.prog.cellsOf 29) (List.drop 0 [c0, c1, c2, c3, c4, c5, c6, c7, c8, c9, c10, c11, c12, c13])) = some y0 := hf 0 _ rfl
    rw [cells_cur] at h
    exact h
  have f1 : DataW.trod enc Tryz.prog w base spare held m 4 [c6] = some y1 := by
    have h : DataW.trod enc Tryz.prog w base spare held m 4 (List.take (Tryz.prog.cellsOf 4) (List.drop 6 [c0, c1, c2, c3, c4, c5, c6, c7, c8, c9, c10, c11, c12, c13])) = some y1 := hf 1 _ rfl
    rw [cells_bool] at h
    exact h
  have f2 : DataW.trod enc Tryz.prog w base spare held m 33 [c7, c8, c9, c10, c11, c12, c13] = some y2 := by
    have h : DataW.trod enc Tryz.prog w base spare held m 33 (List.take (Tryz.prog.cellsOf 33) (List.drop 7 [c0, c1, c2, c3, c4, c5, c6, c7, c8, c9, c10, c11, c12, c13])) = some y2 := hf 2 _ rfl
    rw [cells_item] at h
    exact h
  obtain ⟨c, ⟨hc, h1, h2, h3, h4, h5⟩, e0, hk0⟩ := one_cur f0
  obtain ⟨ow, e1, d1⟩ := DataW.trod_bool Tryz.underlying4 f1
  obtain ⟨i, hi, e2, hk2⟩ := one_item f2
  simp only [CurX.V, List.cons.injEq, and_true] at e0
  simp only [ItemX.V, List.cons.injEq, and_true] at e2
  obtain ⟨p0, p1, p2, p3, p4, p5⟩ := e0
  obtain ⟨q0, q1, q2, q3, q4, q5, q6⟩ := e2
  injection e1 with e1
  subst p0 p1 p2 p3 p4 p5 q0 q1 q2 q3 q4 q5 q6 e1 hy
  refine ⟨⟨c, ow, i⟩, ⟨hc, hi, h1, h2, h3, h4, h5⟩, rfl, ?_⟩
  simp only [spotK, List.map_cons, List.map_nil, Rows.uptoBulk, Rows.uptoBulkAll]
  omega
end
end Go.Proofs.YtfamcebgcpaolaaGreatDoor
