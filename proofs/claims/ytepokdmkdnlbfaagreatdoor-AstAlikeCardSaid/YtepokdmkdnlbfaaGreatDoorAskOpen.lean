-- shaken
import Derived.Test.YtepokdmkdnlbfaaGreatDoorAstAsk
import Derived.Test.YtepokdmkdnlbfaaGreatDoorChecked
import Derived.Deep.Slices
import Derived.ChangeSame
import Derived.ChangeSlices
namespace Go.Proofs.YtepokdmkdnlbfaaGreatDoor
open Go.RowKit Go.ChangeShapes Go.WideShapes Go.Deep
set_option linter.unusedVariables false
set_option linter.unusedSimpArgs false
theorem cq_str : Tryz.prog.cellsOf 9 = 1 := by kernel_rfl
theorem cq_bool : Tryz.prog.cellsOf 4 = 1 := by kernel_rfl
theorem cq_u8 : Tryz.prog.cellsOf 5 = 1 := by kernel_rfl
theorem cq_int : Tryz.prog.cellsOf 3 = 1 := by kernel_rfl
theorem cq_i64 : Tryz.prog.cellsOf 2 = 1 := by kernel_rfl
theorem cq_mat : Tryz.prog.cellsOf 43 = 3 := by kernel_rfl
theorem cq_stg : Tryz.prog.cellsOf 27 = 6 := by kernel_rfl
theorem cq_half : Tryz.prog.cellsOf 54 = 5 := by kernel_rfl
theorem cq_part : Tryz.prog.cellsOf 29 = 9 := by kernel_rfl
theorem cq_ask : Tryz.prog.cellsOf 25 = 2 := by kernel_rfl
theorem cq_halves : Tryz.prog.cellsOf 22 = 1 := by kernel_rfl
theorem cq_parts : Tryz.prog.cellsOf 23 = 1 := by kernel_rfl
theorem of2Q {α : Type} {l : List α} (h : l.length = 2) : ∃ a b, l = [a, b] := by
  match l, h with
  | [a, b], _ => exact ⟨a, b, rfl⟩
theorem of3Q {α : Type} {l : List α} (h : l.length = 3) : ∃ a b c, l = [a, b, c] := by
  match l, h with
  | [a, b, c], _ => exact ⟨a, b, c, rfl⟩
theorem of4Q {α : Type} {l : List α} (h : l.length = 4) : ∃ a b c d, l = [a, b, c, d] := by
  match l, h with
  | [a, b, c, d], _ => exact ⟨a, b, c, d, rfl⟩
theorem of5Q {α : Type} {l : List α} (h : l.length = 5) : ∃ a b c d e, l = [a, b, c, d, e] := by
  match l, h with
  | [a, b, c, d, e], _ => exact ⟨a, b, c, d, e, rfl⟩
theorem of6Q {α : Type} {l : List α} (h : l.length = 6) : ∃ a b c d e f, l = [a, b, c, d, e, f] := by
  match l, h with
  | [a, b, c, d, e, f], _ => exact ⟨a, b, c, d, e, f, rfl⟩
theorem of9Q {α : Type} {l : List α} (h : l.length = 9) : ∃ a b c d e f g i j, l = [a, b, c, d, e, f, g, i, j] := by
  match l, h with
  | [a, b, c, d, e, f, g, i, j], _ => exact ⟨a, b, c, d, e, f, g, i, j, rfl⟩
theorem bq8 {x : Int} (h : (Lit.int .u8 x).wf = true) : 0 ≤ x ∧ x ≤ 255 := by
  simpa [Lit.wf, IntKind.min, IntKind.max, IntKind.signed, IntKind.bits] using h
theorem bq64 {x : Int} (h : (Lit.int .i64 x).wf = true) : Num64 x := by
  unfold Num64
  simpa [Lit.wf, IntKind.min, IntKind.max, IntKind.signed, IntKind.bits] using h
section
variable {H : Type} {enc : TypeId × Value → H} {w : World} {base : Nat} {held : Bool}
theorem one_matQ {n : Nat} {cs : List Value} {y : DataW H × List MemPlace} (h : DataW.trod enc Tryz.prog w base (fun _ => true) held n 43 cs = some y) : ∃ x : MatB, cs = matV x := by
  obtain ⟨xs, m, _, hy, hl, hlen, hf⟩ := DataW.trod_struct Tryz.underlying43 h
  rw [cq_mat] at hl
  obtain ⟨c0, c1, c2, rfl⟩ : ∃ a b c, cs = [a, b, c] := of3Q hl
  obtain ⟨y0, y1, y2, rfl⟩ : ∃ a b c, xs = [a, b, c] := of3Q hlen
  have f0 : DataW.trod enc Tryz.prog w base (fun _ => true) held m 9 [c0] = some y0 := by
    have h : DataW.trod enc Tryz.prog w base (fun _ => true) held m 9 (List.take (Tryz.prog.cellsOf 9) (List.drop 0 [c0, c1, c2])) = some y0 := hf 0 _ rfl
    rw [cq_str] at h
    exact h
  have f1 : DataW.trod enc Tryz.prog w base (fun _ => true) held m 9 [c1] = some y1 := by
    have h : DataW.trod enc Tryz.prog w base (fun _ => true) held m 9 (List.take (Tryz.prog.cellsOf 9) (List.drop 1 [c0, c1, c2])) = some y1 := hf 1 _ rfl
    rw [cq_str] at h
    exact h
  have f2 : DataW.trod enc Tryz.prog w base (fun _ => true) held m 9 [c2] = some y2 := by
    have h : DataW.trod enc Tryz.prog w base (fun _ => true) held m 9 (List.take (Tryz.prog.cellsOf 9) (List.drop 2 [c0, c1, c2])) = some y2 := hf 2 _ rfl
    rw [cq_str] at h
    exact h
  obtain ⟨s0, e0, _⟩ := DataW.trod_string Tryz.underlying9 f0
  obtain ⟨s1, e1, _⟩ := DataW.trod_string Tryz.underlying9 f1
  obtain ⟨s2, e2, _⟩ := DataW.trod_string Tryz.underlying9 f2
  injection e0 with e0
  injection e1 with e1
  injection e2 with e2
  subst e0 e1 e2
  exact ⟨⟨s0, s1, s2⟩, rfl⟩
theorem one_stgQ {n : Nat} {cs : List Value} {y : DataW H × List MemPlace} (h : DataW.trod enc Tryz.prog w base (fun _ => true) held n 27 cs = some y) : ∃ x : StgB, Num64 x.num ∧ cs = stgV x := by
  obtain ⟨xs, m, _, hy, hl, hlen, hf⟩ := DataW.trod_struct Tryz.underlying27 h
  rw [cq_stg] at hl
  obtain ⟨c0, c1, c2, c3, c4, c5, rfl⟩ : ∃ a b c d e f, cs = [a, b, c, d, e, f] := of6Q hl
  obtain ⟨y0, y1, y2, y3, y4, y5, rfl⟩ : ∃ a b c d e f, xs = [a, b, c, d, e, f] := of6Q hlen
  have f0 : DataW.trod enc Tryz.prog w base (fun _ => true) held m 3 [c0] = some y0 := by
    have h : DataW.trod enc Tryz.prog w base (fun _ => true) held m 3 (List.take (Tryz.prog.cellsOf 3) (List.drop 0 [c0, c1, c2, c3, c4, c5])) = some y0 := hf 0 _ rfl
    rw [cq_int] at h
    exact h
  have f1 : DataW.trod enc Tryz.prog w base (fun _ => true) held m 9 [c1] = some y1 := by
    have h : DataW.trod enc Tryz.prog w base (fun _ => true) held m 9 (List.take (Tryz.prog.cellsOf 9) (List.drop 1 [c0, c1, c2, c3, c4, c5])) = some y1 := hf 1 _ rfl
    rw [cq_str] at h
    exact h
  have f2 : DataW.trod enc Tryz.prog w base (fun _ => true) held m 9 [c2] = some y2 := by
    have h : DataW.trod enc Tryz.prog w base (fun _ => true) held m 9 (List.take (Tryz.prog.cellsOf 9) (List.drop 2 [c0, c1, c2, c3, c4, c5])) = some y2 := hf 2 _ rfl
    rw [cq_str] at h
    exact h
  have f3 : DataW.trod enc Tryz.prog w base (fun _ => true) held m 9 [c3] = some y3 := by
    have h : DataW.trod enc Tryz.prog w base (fun _ => true) held m 9 (List.take (Tryz.prog.cellsOf 9) (List.drop 3 [c0, c1, c2, c3, c4, c5])) = some y3 := hf 3 _ rfl
    rw [cq_str] at h
    exact h
  have f4 : DataW.trod enc Tryz.prog w base (fun _ => true) held m 2 [c4] = some y4 := by
    have h : DataW.trod enc Tryz.prog w base (fun _ => true) held m 2 (List.take (Tryz.prog.cellsOf 2) (List.drop 4 [c0, c1, c2, c3, c4, c5])) = some y4 := hf 4 _ rfl
    rw [cq_i64] at h
    exact h
  have f5 : DataW.trod enc Tryz.prog w base (fun _ => true) held m 3 [c5] = some y5 := by
    have h : DataW.trod enc Tryz.prog w base (fun _ => true) held m 3 (List.take (Tryz.prog.cellsOf 3) (List.drop 5 [c0, c1, c2, c3, c4, c5])) = some y5 := hf 5 _ rfl
    rw [cq_int] at h
    exact h
  obtain ⟨s0, e0, _, _⟩ := DataW.trod_int Tryz.underlying3 f0
  obtain ⟨s1, e1, _⟩ := DataW.trod_string Tryz.underlying9 f1
  obtain ⟨s2, e2, _⟩ := DataW.trod_string Tryz.underlying9 f2
  obtain ⟨s3, e3, _⟩ := DataW.trod_string Tryz.underlying9 f3
  obtain ⟨s4, e4, _, w4⟩ := DataW.trod_int Tryz.underlying2 f4
  obtain ⟨s5, e5, _, _⟩ := DataW.trod_int Tryz.underlying3 f5
  injection e0 with e0
  injection e1 with e1
  injection e2 with e2
  injection e3 with e3
  injection e4 with e4
  injection e5 with e5
  subst e0 e1 e2 e3 e4 e5
  exact ⟨⟨s0, s1, s2, s3, s4, s5⟩, bq64 w4, rfl⟩
theorem one_halfQ {n : Nat} {cs : List Value} {y : DataW H × List MemPlace} (h : DataW.trod enc Tryz.prog w base (fun _ => true) held n 54 cs = some y) : ∃ x : HalfB, HalfOk x ∧ cs = x.V := by
  obtain ⟨xs, m, _, hy, hl, hlen, hf⟩ := DataW.trod_struct Tryz.underlying54 h
  rw [cq_half] at hl
  obtain ⟨c0, c1, c2, c3, c4, rfl⟩ : ∃ a b c d e, cs = [a, b, c, d, e] := of5Q hl
  obtain ⟨y0, y1, y2, rfl⟩ : ∃ a b c, xs = [a, b, c] := of3Q hlen
  have f0 : DataW.trod enc Tryz.prog w base (fun _ => true) held m 43 [c0, c1, c2] = some y0 := by
    have h : DataW.trod enc Tryz.prog w base (fun _ => true) held m 43 (List.take (Tryz.prog.cellsOf 43) (List.drop 0 [c0, c1, c2, c3, c4])) = some y0 := hf 0 _ rfl
    rw [cq_mat] at h
    exact h
  have f1 : DataW.trod enc Tryz.prog w base (fun _ => true) held m 4 [c3] = some y1 := by
    have h : DataW.trod enc Tryz.prog w base (fun _ => true) held m 4 (List.take (Tryz.prog.cellsOf 4) (List.drop 3 [c0, c1, c2, c3, c4])) = some y1 := hf 1 _ rfl
    rw [cq_bool] at h
    exact h
  have f2 : DataW.trod enc Tryz.prog w base (fun _ => true) held m 5 [c4] = some y2 := by
    have h : DataW.trod enc Tryz.prog w base (fun _ => true) held m 5 (List.take (Tryz.prog.cellsOf 5) (List.drop 4 [c0, c1, c2, c3, c4])) = some y2 := hf 2 _ rfl
    rw [cq_u8] at h
    exact h
  obtain ⟨⟨s0, s1, s2⟩, e0⟩ := one_matQ f0
  obtain ⟨ow, e1, _⟩ := DataW.trod_bool Tryz.underlying4 f1
  obtain ⟨k, e2, _, hk⟩ := DataW.trod_int Tryz.underlying5 f2
  obtain ⟨k0, k1⟩ := bq8 hk
  simp only [matV, List.cons.injEq, and_true] at e0
  obtain ⟨q0, q1, q2⟩ := e0
  injection e1 with e1
  injection e2 with e2
  subst q0 q1 q2 e1 e2
  refine ⟨⟨⟨s0, s1, s2⟩, ow, k.toNat⟩, ⟨by show k.toNat < 256; omega⟩, ?_⟩
  show _ = [Value.string s0, .string s1, .string s2, .bool ow, .int .u8 (k.toNat : Int)]
  rw [show (k.toNat : Int) = k by omega]
theorem one_partQ {n : Nat} {cs : List Value} {y : DataW H × List MemPlace} (h : DataW.trod enc Tryz.prog w base (fun _ => true) held n 29 cs = some y) : ∃ x : PartB, PartOk x ∧ cs = x.V := by
  obtain ⟨xs, m, _, hy, hl, hlen, hf⟩ := DataW.trod_struct Tryz.underlying29 h
  rw [cq_part] at hl
  obtain ⟨c0, c1, c2, c3, c4, c5, c6, c7, c8, rfl⟩ : ∃ a b c d e f g i j, cs = [a, b, c, d, e, f, g, i, j] := of9Q hl
  obtain ⟨y0, y1, y2, y3, rfl⟩ : ∃ a b c d, xs = [a, b, c, d] := of4Q hlen
  have f0 : DataW.trod enc Tryz.prog w base (fun _ => true) held m 27 [c0, c1, c2, c3, c4, c5] = some y0 := by
    have h : DataW.trod enc Tryz.prog w base (fun _ => true) held m 27 (List.take (Tryz.prog.cellsOf 27) (List.drop 0 [c0, c1, c2, c3, c4, c5, c6, c7, c8])) = some y0 := hf 0 _ rfl
    rw [cq_stg] at h
    exact h
  have f1 : DataW.trod enc Tryz.prog w base (fun _ => true) held m 4 [c6] = some y1 := by
    have h : DataW.trod enc Tryz.prog w base (fun _ => true) held m 4 (List.take (Tryz.prog.cellsOf 4) (List.drop 6 [c0, c1, c2, c3, c4, c5, c6, c7, c8])) = some y1 := hf 1 _ rfl
    rw [cq_bool] at h
    exact h
  have f2 : DataW.trod enc Tryz.prog w base (fun _ => true) held m 5 [c7] = some y2 := by
    have h : DataW.trod enc Tryz.prog w base (fun _ => true) held m 5 (List.take (Tryz.prog.cellsOf 5) (List.drop 7 [c0, c1, c2, c3, c4, c5, c6, c7, c8])) = some y2 := hf 2 _ rfl
    rw [cq_u8] at h
    exact h
  have f3 : DataW.trod enc Tryz.prog w base (fun _ => true) held m 2 [c8] = some y3 := by
    have h : DataW.trod enc Tryz.prog w base (fun _ => true) held m 2 (List.take (Tryz.prog.cellsOf 2) (List.drop 8 [c0, c1, c2, c3, c4, c5, c6, c7, c8])) = some y3 := hf 3 _ rfl
    rw [cq_i64] at h
    exact h
  obtain ⟨⟨s0, s1, s2, s3, s4, s5⟩, hs, e0⟩ := one_stgQ f0
  obtain ⟨ow, e1, _⟩ := DataW.trod_bool Tryz.underlying4 f1
  obtain ⟨k, e2, _, hk⟩ := DataW.trod_int Tryz.underlying5 f2
  obtain ⟨nn, e3, _, hn⟩ := DataW.trod_int Tryz.underlying2 f3
  obtain ⟨k0, k1⟩ := bq8 hk
  simp only [stgV, List.cons.injEq, and_true] at e0
  obtain ⟨q0, q1, q2, q3, q4, q5⟩ := e0
  injection e1 with e1
  injection e2 with e2
  injection e3 with e3
  subst q0 q1 q2 q3 q4 q5 e1 e2 e3
  refine ⟨⟨⟨s0, s1, s2, s3, s4, s5⟩, ow, k.toNat, nn⟩, ⟨by show k.toNat < 256; omega, hs, bq64 hn⟩, ?_⟩
  show _ = [Value.int .i64 s0, .string s1, .string s2, .string s3, .int .i64 s4, .int .i64 s5, .bool ow, .int .u8 (k.toNat : Int), .int .i64 nn]
  rw [show (k.toNat : Int) = k by omega]
theorem rowQ_open {α : Type} [Inhabited α] {V : α → List Value} {s : Nat} {G : α → Prop} (hs : 0 < s) (hv : ∀ a, ∃ v r, V a = v :: r) {t e : TypeId} (ht : Tryz.prog.underlying t = some (.slice e)) (hc : Tryz.prog.cellsOf e = s)
    (one : ∀ {n : Nat} {cs : List Value} {y : DataW H × List MemPlace}, DataW.trod enc Tryz.prog w base (fun _ => true) held n e cs = some y → ∃ a, G a ∧ cs = V a)
    {fuel : Nat} {cs : List Value} {x : DataW H × List MemPlace} (h : DataW.trod enc Tryz.prog w base (fun _ => true) held fuel t cs = some x) :
    ∃ A len cap l, cs = [.slice A len cap] ∧ RowR V s w A len l ∧ (∀ a ∈ l, G a) ∧ len ≤ cap ∧ cap ≤ maxLen := by
  rcases open_slice ht h with ⟨rfl, rfl⟩ | ⟨a, len, cap, m, n, D, Pl, rfl, _, hl, hm, hmm, hxx, hx⟩
  · exact ⟨none, 0, 0, [], rfl, RowR.none w, (fun _ h => by cases h), Nat.le_refl _, Nat.zero_le _⟩
  · have hlm : len ≤ m := by rw [hmm]; split <;> omega
    obtain ⟨T, hT⟩ := choose_lt (α := α) (n := len) (p := fun i t => G t ∧ w.cells? base (a.add (i * s)) s = some (V t)) (fun i hi => by
      obtain ⟨cs', h1, h2⟩ := hx i (by omega)
      rw [hc] at h1
      obtain ⟨t, hk, rfl⟩ := one h2
      exact ⟨t, hk, h1⟩)
    refine ⟨some a, len, cap, (List.range len).map T, rfl, ⟨by simp, ?_⟩, ?_, hl, hm⟩
    · intro hn
      obtain ⟨b, off, spot⟩ := a
      have h0 := (World.cells?_some (hT 0 hn).2).2.2 0 hs
      obtain ⟨v, r, hvr⟩ := hv (T 0)
      rw [hvr] at h0
      have h00 : w.cell? (((⟨b, off, spot⟩ : Addr).add (0 * s)).add 0) = some v := h0
      rw [Nat.zero_mul] at h00
      have hspot : spot = none := by simpa [Addr.add] using World.cell?_spot h00
      subst hspot
      have hlt := block_lt_of_cell h00
      rw [ints_add, ints_add] at hlt
      refine ⟨b, off, rfl, hlt, fun j i t hj hi => ?_⟩
      have hjl : j < len := by
        rcases Nat.lt_or_ge j len with h1 | h1
        · exact h1
        · rw [List.getElem?_eq_none (by simpa using h1)] at hj; cases hj
      have e : T j = t := by
        rw [List.getElem?_map, List.getElem?_range hjl] at hj
        exact Option.some.inj hj
      have hcc := (World.cells?_some (hT j hjl).2).2.2 i hi
      rw [ints_add, ints_add, e] at hcc
      exact hcc
    · intro t ht
      obtain ⟨i, hi, rfl⟩ := List.mem_map.1 ht
      exact (hT i (List.mem_range.1 hi)).1
structure AskX where
  A : Option Addr
  n : Nat
  c : Nat
  hs : List HalfB
  B : Option Addr
  m : Nat
  d : Nat
  ps : List PartB
def AskX.V (x : AskX) : List Value := [.slice x.A x.n x.c, .slice x.B x.m x.d]
structure GoodA (w : World) (x : AskX) : Prop where
  rh : RowR HalfB.V 5 w x.A x.n x.hs
  gh : ∀ h ∈ x.hs, HalfOk h
  hn : x.n ≤ maxLen
  rp : RowR PartB.V 9 w x.B x.m x.ps
  gp : ∀ p ∈ x.ps, PartOk p
  hm : x.m ≤ maxLen
theorem one_askQ {n : Nat} {cs : List Value} {y : DataW H × List MemPlace} (h : DataW.trod enc Tryz.prog w base (fun _ => true) held n 25 cs = some y) : ∃ x : AskX, GoodA w x ∧ cs = x.V := by
  obtain ⟨xs, m, _, hy, hl, hlen, hf⟩ := DataW.trod_struct Tryz.underlying25 h
  rw [cq_ask] at hl
  obtain ⟨c0, c1, rfl⟩ : ∃ a b, cs = [a, b] := of2Q hl
  obtain ⟨y0, y1, rfl⟩ : ∃ a b, xs = [a, b] := of2Q hlen
  have f0 : DataW.trod enc Tryz.prog w base (fun _ => true) held m 22 [c0] = some y0 := by
    have h : DataW.trod enc Tryz.prog w base (fun _ => true) held m 22 (List.take (Tryz.prog.cellsOf 22) (List.drop 0 [c0, c1])) = some y0 := hf 0 _ rfl
    rw [cq_halves] at h
    exact h
  have f1 : DataW.trod enc Tryz.prog w base (fun _ => true) held m 23 [c1] = some y1 := by
    have h : DataW.trod enc Tryz.prog w base (fun _ => true) held m 23 (List.take (Tryz.prog.cellsOf 23) (List.drop 1 [c0, c1])) = some y1 := hf 1 _ rfl
    rw [cq_parts] at h
    exact h
  obtain ⟨A, n1, c1, l, e0, r0, g0, l0, m0⟩ := rowQ_open (V := HalfB.V) (s := 5) (G := HalfOk) (by decide) (fun _ => ⟨_, _, rfl⟩) Tryz.underlying22 cq_half (fun h => one_halfQ h) f0
  obtain ⟨B, n2, c2, k, e1, r1, g1, l1, m1⟩ := rowQ_open (V := PartB.V) (s := 9) (G := PartOk) (by decide) (fun _ => ⟨_, _, rfl⟩) Tryz.underlying23 cq_part (fun h => one_partQ h) f1
  injection e0 with e0
  injection e1 with e1
  subst e0 e1
  exact ⟨⟨A, n1, c1, l, B, n2, c2, k⟩, ⟨r0, g0, Nat.le_trans l0 m0, r1, g1, Nat.le_trans l1 m1⟩, rfl⟩
end
theorem GoodA.below {w w' : World} {x : AskX} (h : GoodA w x) (hb : Below w.heap.size w w') : GoodA w' x := ⟨h.rh.below hb, h.gh, h.hn, h.rp.below hb, h.gp, h.hm⟩
end Go.Proofs.YtepokdmkdnlbfaaGreatDoor
