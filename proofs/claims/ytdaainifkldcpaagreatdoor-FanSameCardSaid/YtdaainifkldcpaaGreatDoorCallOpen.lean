-- shaken
import Derived.Test.YtdaainifkldcpaaGreatDoorEntBackMath
import Derived.Test.YtdaainifkldcpaaGreatDoorStoRange
namespace Go.Proofs.YtdaainifkldcpaaGreatDoor
open Go.ChangeShapes Go.WideShapes Go.RowKit
set_option linter.unusedVariables false
set_option linter.unusedSimpArgs false
structure CallX where
  a : AskX
  own : Bool
  fr : Int
  lg : Int
  lm : Int
  e : ItemX
def CallX.V (c : CallX) : List Value := c.a.V ++ [.bool c.own, .int .i8 c.fr, .int .u8 c.lg, .int .u8 c.lm] ++ c.e.V
structure GoodAsk (B : Nat) (w : World) (a : AskX) : Prop where
  af : Good B w a.af
  lo : -9223372036854775808 ≤ a.lo ∧ a.lo ≤ 9223372036854775807
  hi : -9223372036854775808 ≤ a.hi ∧ a.hi ≤ 9223372036854775807
  lim : -9223372036854775808 ≤ a.lim ∧ a.lim ≤ 9223372036854775807
structure GoodC (B : Nat) (w : World) (c : CallX) : Prop where
  a : GoodAsk B w c.a
  fr : -128 ≤ c.fr ∧ c.fr ≤ 127
  lg : 0 ≤ c.lg ∧ c.lg ≤ 255
  lm : 0 ≤ c.lm ∧ c.lm ≤ 255
  e : GoodI B w c.e
theorem GoodC.below {B : Nat} {w w' : World} {c : CallX} (h : GoodC B w c) (hb : Below w.heap.size w w') : GoodC B w' c := ⟨⟨h.a.af.below hb, h.a.lo, h.a.hi, h.a.lim⟩, h.fr, h.lg, h.lm, h.e.below hb⟩
theorem of_8c {α : Type} {l : List α} (h : l.length = 8) : ∃ a0 a1 a2 a3 a4 a5 a6 a7, l = [a0, a1, a2, a3, a4, a5, a6, a7] := by
  match l, h with
  | [a0, a1, a2, a3, a4, a5, a6, a7], _ => exact ⟨a0, a1, a2, a3, a4, a5, a6, a7, rfl⟩
theorem of_19c {α : Type} {l : List α} (h : l.length = 19) : ∃ a0 a1 a2 a3 a4 a5 a6 a7 a8 a9 a10 a11 a12 a13 a14 a15 a16 a17 a18, l = [a0, a1, a2, a3, a4, a5, a6, a7, a8, a9, a10, a11, a12, a13, a14, a15, a16, a17, a18] := by
  match l, h with
  | [a0, a1, a2, a3, a4, a5, a6, a7, a8, a9, a10, a11, a12, a13, a14, a15, a16, a17, a18], _ => exact ⟨a0, a1, a2, a3, a4, a5, a6, a7, a8, a9, a10, a11, a12, a13, a14, a15, a16, a17, a18, rfl⟩
theorem of_6c {α : Type} {l : List α} (h : l.length = 6) : ∃ a0 a1 a2 a3 a4 a5, l = [a0, a1, a2, a3, a4, a5] := by
  match l, h with
  | [a0, a1, a2, a3, a4, a5], _ => exact ⟨a0, a1, a2, a3, a4, a5, rfl⟩
theorem cells_askS : Tryz.prog.cellsOf 49 = 8 := by kernel_rfl
theorem cells_call : Tryz.prog.cellsOf 55 = 19 := by kernel_rfl
theorem cells_intC : Tryz.prog.cellsOf 3 = 1 := by kernel_rfl
section
variable {H : Type} {enc : TypeId × Value → H} {w : World} {base : Nat} {spare : Nat → Bool} {held : Bool}
theorem one_askS {n : Nat} {cs : List Value} {y : DataW H × List MemPlace} (h : DataW.trod enc Tryz.prog w base spare held n 49 cs = some y) : ∃ a : AskX, GoodAsk w.heap.size w a ∧ cs = a.V := by
  obtain ⟨xs, m, _, hy, hl, hlen, hf⟩ := DataW.trod_struct Tryz.underlying49 h
  rw [cells_askS] at hl
  obtain ⟨c0, c1, c2, c3, c4, c5, c6, c7, rfl⟩ := of_8c hl
  obtain ⟨y0, y1, y2, y3, y4, y5, rfl⟩ := of_6c hlen
  have f0 : DataW.trod enc Tryz.prog w base spare held m 2 [c0] = some y0 := by
    have h : DataW.trod enc Tryz.prog w base spare held m 2 (List.take (Tryz.prog.cellsOf 2) (List.drop 0 [c0, c1, c2, c3, c4, c5, c6, c7])) = some y0 := hf 0 _ rfl
    rw [cells_i64] at h
    exact h
  have f1 : DataW.trod enc Tryz.prog w base spare held m 2 [c1] = some y1 := by
    have h : DataW.trod enc Tryz.prog w base spare held m 2 (List.take (Tryz.prog.cellsOf 2) (List.drop 1 [c0, c1, c2, c3, c4, c5, c6, c7])) = some y1 := hf 1 _ rfl
    rw [cells_i64] at h
    exact h
  have f2 : DataW.trod enc Tryz.prog w base spare held m 4 [c2] = some y2 := by
    have h : DataW.trod enc Tryz.prog w base spare held m 4 (List.take (Tryz.prog.cellsOf 4) (List.drop 2 [c0, c1, c2, c3, c4, c5, c6, c7])) = some y2 := hf 2 _ rfl
    rw [cells_bool] at h
    exact h
  have f3 : DataW.trod enc Tryz.prog w base spare held m 3 [c3] = some y3 := by
    have h : DataW.trod enc Tryz.prog w base spare held m 3 (List.take (Tryz.prog.cellsOf 3) (List.drop 3 [c0, c1, c2, c3, c4, c5, c6, c7])) = some y3 := hf 3 _ rfl
    rw [cells_intC] at h
    exact h
  have f4 : DataW.trod enc Tryz.prog w base spare held m 4 [c4] = some y4 := by
    have h : DataW.trod enc Tryz.prog w base spare held m 4 (List.take (Tryz.prog.cellsOf 4) (List.drop 4 [c0, c1, c2, c3, c4, c5, c6, c7])) = some y4 := hf 4 _ rfl
    rw [cells_bool] at h
    exact h
  have f5 : DataW.trod enc Tryz.prog w base spare held m 47 [c5, c6, c7] = some y5 := by
    have h : DataW.trod enc Tryz.prog w base spare held m 47 (List.take (Tryz.prog.cellsOf 47) (List.drop 5 [c0, c1, c2, c3, c4, c5, c6, c7])) = some y5 := hf 5 _ rfl
    rw [cells_ent] at h
    exact h
  obtain ⟨lo, e0, _, w0⟩ := DataW.trod_int Tryz.underlying2 f0
  obtain ⟨hi, e1, _, w1⟩ := DataW.trod_int Tryz.underlying2 f1
  obtain ⟨asc, e2, _⟩ := DataW.trod_bool Tryz.underlying4 f2
  obtain ⟨lim, e3, _, w3⟩ := DataW.trod_int Tryz.underlying3 f3
  obtain ⟨has, e4, _⟩ := DataW.trod_bool Tryz.underlying4 f4
  obtain ⟨e, he, e5, _⟩ := one_ent f5
  have v0 : (Lit.int .i64 lo).wf = true := w0
  have v1 : (Lit.int .i64 hi).wf = true := w1
  have v3 : (Lit.int .i64 lim).wf = true := w3
  have b0 := bdi64 v0
  have b1 := bdi64 v1
  have b3 := bdi64 v3
  obtain ⟨ets, eA, en, ec, els, eln⟩ := e
  simp only [EntX.V, List.cons.injEq, and_true] at e5
  obtain ⟨q0, q1, q2⟩ := e5
  injection e0 with e0
  injection e1 with e1
  injection e2 with e2
  injection e3 with e3
  injection e4 with e4
  subst q0 q1 q2 e0 e1 e2 e3 e4
  exact ⟨⟨lo, hi, asc, lim, has, ⟨ets, eA, en, ec, els, eln⟩⟩, ⟨he, b0, b1, b3⟩, rfl⟩
theorem one_call {n : Nat} {cs : List Value} {y : DataW H × List MemPlace} (h : DataW.trod enc Tryz.prog w base spare held n 55 cs = some y) : ∃ c : CallX, GoodC w.heap.size w c ∧ cs = c.V := by
  obtain ⟨xs, m, _, hy, hl, hlen, hf⟩ := DataW.trod_struct Tryz.underlying55 h
  rw [cells_call] at hl
  obtain ⟨c0, c1, c2, c3, c4, c5, c6, c7, c8, c9, c10, c11, c12, c13, c14, c15, c16, c17, c18, rfl⟩ := of_19c hl
  obtain ⟨y0, y1, y2, y3, y4, y5, rfl⟩ := of_6c hlen
  have f0 : DataW.trod enc Tryz.prog w base spare held m 49 [c0, c1, c2, c3, c4, c5, c6, c7] = some y0 := by
    have h : DataW.trod enc Tryz.prog w base spare held m 49 (List.take (Tryz.prog.cellsOf 49) (List.drop 0 [c0, c1, c2, c3, c4, c5, c6, c7, c8, c9, c10, c11, c12, c13, c14, c15, c16, c17, c18])) = some y0 := hf 0 _ rfl
    rw [cells_askS] at h
    exact h
  have f1 : DataW.trod enc Tryz.prog w base spare held m 4 [c8] = some y1 := by
    have h : DataW.trod enc Tryz.prog w base spare held m 4 (List.take (Tryz.prog.cellsOf 4) (List.drop 8 [c0, c1, c2, c3, c4, c5, c6, c7, c8, c9, c10, c11, c12, c13, c14, c15, c16, c17, c18])) = some y1 := hf 1 _ rfl
    rw [cells_bool] at h
    exact h
  have f2 : DataW.trod enc Tryz.prog w base spare held m 50 [c9] = some y2 := by
    have h : DataW.trod enc Tryz.prog w base spare held m 50 (List.take (Tryz.prog.cellsOf 50) (List.drop 9 [c0, c1, c2, c3, c4, c5, c6, c7, c8, c9, c10, c11, c12, c13, c14, c15, c16, c17, c18])) = some y2 := hf 2 _ rfl
    rw [cells_i8] at h
    exact h
  have f3 : DataW.trod enc Tryz.prog w base spare held m 5 [c10] = some y3 := by
    have h : DataW.trod enc Tryz.prog w base spare held m 5 (List.take (Tryz.prog.cellsOf 5) (List.drop 10 [c0, c1, c2, c3, c4, c5, c6, c7, c8, c9, c10, c11, c12, c13, c14, c15, c16, c17, c18])) = some y3 := hf 3 _ rfl
    rw [cells_u8] at h
    exact h
  have f4 : DataW.trod enc Tryz.prog w base spare held m 5 [c11] = some y4 := by
    have h : DataW.trod enc Tryz.prog w base spare held m 5 (List.take (Tryz.prog.cellsOf 5) (List.drop 11 [c0, c1, c2, c3, c4, c5, c6, c7, c8, c9, c10, c11, c12, c13, c14, c15, c16, c17, c18])) = some y4 := hf 4 _ rfl
    rw [cells_u8] at h
    exact h
  have f5 : DataW.trod enc Tryz.prog w base spare held m 53 [c12, c13, c14, c15, c16, c17, c18] = some y5 := by
    have h : DataW.trod enc Tryz.prog w base spare held m 53 (List.take (Tryz.prog.cellsOf 53) (List.drop 12 [c0, c1, c2, c3, c4, c5, c6, c7, c8, c9, c10, c11, c12, c13, c14, c15, c16, c17, c18])) = some y5 := hf 5 _ rfl
    rw [cells_item] at h
    exact h
  obtain ⟨a, ha, e0⟩ := one_askS f0
  obtain ⟨own, e1, _⟩ := DataW.trod_bool Tryz.underlying4 f1
  obtain ⟨fr, e2, _, w2⟩ := DataW.trod_int Tryz.underlying50 f2
  obtain ⟨lg, e3, _, w3⟩ := DataW.trod_int Tryz.underlying5 f3
  obtain ⟨lm, e4, _, w4⟩ := DataW.trod_int Tryz.underlying5 f4
  obtain ⟨x, hx, e5, _⟩ := one_item f5
  have v2 : (Lit.int .i8 fr).wf = true := w2
  have v3 : (Lit.int .u8 lg).wf = true := w3
  have v4 : (Lit.int .u8 lm).wf = true := w4
  have b2 : -128 ≤ fr ∧ fr ≤ 127 := by
    obtain ⟨b1, b2⟩ := bdi8 v2
    omega
  have b3 : 0 ≤ lg ∧ lg ≤ 255 := by
    obtain ⟨b1, b2⟩ := bdu8 v3
    omega
  have b4 : 0 ≤ lm ∧ lm ≤ 255 := by
    obtain ⟨b1, b2⟩ := bdu8 v4
    omega
  injection e1 with e1
  injection e2 with e2
  injection e3 with e3
  injection e4 with e4
  subst e1 e2 e3 e4
  refine ⟨⟨a, own, fr, lg, lm, x⟩, ⟨ha, b2, b3, b4, hx⟩, ?_⟩
  have h1 : [c0, c1, c2, c3, c4, c5, c6, c7] ++ [Value.bool own, .int .i8 fr, .int .u8 lg, .int .u8 lm] ++ [c12, c13, c14, c15, c16, c17, c18] = a.V ++ [.bool own, .int .i8 fr, .int .u8 lg, .int .u8 lm] ++ x.V := by rw [e0, e5]
  exact h1
end
end Go.Proofs.YtdaainifkldcpaaGreatDoor
