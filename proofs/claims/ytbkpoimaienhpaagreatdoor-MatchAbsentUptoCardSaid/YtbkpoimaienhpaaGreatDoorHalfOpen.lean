-- shaken
import Derived.Test.YtbkpoimaienhpaaGreatDoorAstHalf
import Derived.Test.YtbkpoimaienhpaaGreatDoorChecked
import Derived.Deep.Slices
import Derived.ChangeSame
import Derived.ChangeSlices
namespace Go.Proofs.YtbkpoimaienhpaaGreatDoor
open Go.RowKit
set_option linter.unusedVariables false
set_option linter.unusedSimpArgs false
structure HalfB where
  m : MatB
  own : Bool
  k : Nat
instance : Inhabited HalfB := ⟨⟨⟨.empty, .empty, .empty⟩, false, 0⟩⟩
def HalfB.f (x : HalfB) : MatB := halfF x.m x.own x.k
def HalfB.V (x : HalfB) : List Value := [.string x.m.nm, .string x.m.op, .string x.m.v, .bool x.own, .int .u8 (x.k : Int)]
structure HalfOk (x : HalfB) : Prop where
  k : x.k < 256

open Go.ChangeShapes Go.WideShapes Go.Deep
theorem cq_str : Tryz.prog.cellsOf 9 = 1 := by kernel_rfl
theorem cq_bool : Tryz.prog.cellsOf 4 = 1 := by kernel_rfl
theorem cq_u8 : Tryz.prog.cellsOf 5 = 1 := by kernel_rfl
theorem cq_mat : Tryz.prog.cellsOf 30 = 3 := by kernel_rfl
theorem cq_half : Tryz.prog.cellsOf 44 = 5 := by kernel_rfl
theorem of3Q {α : Type} {l : List α} (h : l.length = 3) : ∃ a b c, l = [a, b, c] := by
  match l, h with
  | [a, b, c], _ => exact ⟨a, b, c, rfl⟩
theorem of5Q {α : Type} {l : List α} (h : l.length = 5) : ∃ a b c d e, l = [a, b, c, d, e] := by
  match l, h with
  | [a, b, c, d, e], _ => exact ⟨a, b, c, d, e, rfl⟩
theorem bq8 {x : Int} (h : (Lit.int .u8 x).wf = true) : 0 ≤ x ∧ x ≤ 255 := by
  simpa [Lit.wf, IntKind.min, IntKind.max, IntKind.signed, IntKind.bits] using h
section
variable {H : Type} {enc : TypeId × Value → H} {w : World} {base : Nat} {held : Bool}
theorem one_matQ {n : Nat} {cs : List Value} {y : DataW H × List MemPlace} (h : DataW.trod enc Tryz.prog w base (fun _ => true) held n 30 cs = some y) : ∃ x : MatB, cs = matV x := by
  obtain ⟨xs, m, _, hy, hl, hlen, hf⟩ := DataW.trod_struct Tryz.underlying30 h
  rw [cq_mat] at hl
  obtain ⟨c0, c1, c2, rfl⟩ : ∃ a b c, cs = [a, b, c] := of3Q hl
  obtain ⟨y0, y1, y2, rfl⟩ : ∃ a b c, xs = [a, b, c] := of3Q hlen
  have f0 : DataW.trod enc Tryz.prog w base (fun _ => true) held m 9 [c0] = some y0 := by
    have h : DataW.trod enc Tryz.prog w base (fun _ => true) held m 9 (List.take (Tryz.prog.cellsOf 9) (List.drop 0 [c0, c1, c2])) = some y0 := hf 0 _ rfl
    rw [cq_str] at h
    exact h
  have f1 : DataW.trod enc Tryz.prog w base (fun _ => true) held m 9 [c1] = some y1 := by
    have h : DataW.trod enc Tryz.prog w base (fun _ => true) held m 9 (List.take (Tryz.prog.cellsOf 9) (List.drop 1 [c0, c1, c2])) = some y1 := hf 1 _ rfl
    rw [cq_str] at h
    exact h
  have f2 : DataW.trod enc Tryz.prog w base (fun _ => true) held m 9 [c2] = some y2 := by
    have h : DataW.trod enc Tryz.prog w base (fun _ => true) held m 9 (List.take (Tryz.prog.cellsOf 9) (List.drop 2 [c0, c1, c2])) = some y2 := hf 2 _ rfl
    rw [cq_str] at h
    exact h
  obtain ⟨s0, e0, _⟩ := DataW.trod_string Tryz.underlying9 f0
  obtain ⟨s1, e1, _⟩ := DataW.trod_string Tryz.underlying9 f1
  obtain ⟨s2, e2, _⟩ := DataW.trod_string Tryz.underlying9 f2
  injection e0 with e0
  injection e1 with e1
  injection e2 with e2
  subst e0 e1 e2
  exact ⟨⟨s0, s1, s2⟩, rfl⟩
theorem one_halfQ {n : Nat} {cs : List Value} {y : DataW H × List MemPlace} (h : DataW.trod enc Tryz.prog w base (fun _ => true) held n 44 cs = some y) : ∃ x : HalfB, HalfOk x ∧ cs = x.V := by
  obtain ⟨xs, m, _, hy, hl, hlen, hf⟩ := DataW.trod_struct Tryz.underlying44 h
  rw [cq_half] at hl
  obtain ⟨c0, c1, c2, c3, c4, rfl⟩ : ∃ a b c d e, cs = [a, b, c, d, e] := of5Q hl
  obtain ⟨y0, y1, y2, rfl⟩ : ∃ a b c, xs = [a, b, c] := of3Q hlen
  have f0 : DataW.trod enc Tryz.prog w base (fun _ => true) held m 30 [c0, c1, c2] = some y0 := by
    have h : DataW.trod enc Tryz.prog w base (fun _ => true) held m 30 (List.take (Tryz.prog.cellsOf 30) (List.drop 0 [c0, c1, c2, c3, c4])) = some y0 := hf 0 _ rfl
    rw [cq_mat] at h
    exact h
  have f1 : DataW.trod enc Tryz.prog w base (fun _ => true) held m 4 [c3] = some y1 := by
    have h : DataW.trod enc Tryz.prog w base (fun _ => true) held m 4 (List.take (Tryz.prog.cellsOf 4) (List.drop 3 [c0, c1, c2, c3, c4])) = some y1 := hf 1 _ rfl
    rw [cq_bool] at h
    exact h
  have f2 : DataW.trod enc Tryz.prog w base (fun _ => true) held m 5 [c4] = some y2 := by
    have h : DataW.trod enc Tryz.prog w base (fun _ => true) held m 5 (List.take (Tryz.prog.cellsOf 5) (List.drop 4 [c0, c1, c2, c3, c4])) = some y2 := hf 2 _ rfl
    rw [cq_u8] at h
    exact h
  obtain ⟨⟨s0, s1, s2⟩, e0⟩ := one_matQ f0
  obtain ⟨ow, e1, _⟩ := DataW.trod_bool Tryz.underlying4 f1
  obtain ⟨k, e2, _, hk⟩ := DataW.trod_int Tryz.underlying5 f2
  obtain ⟨k0, k1⟩ := bq8 hk
  simp only [matV, List.cons.injEq, and_true] at e0
  obtain ⟨q0, q1, q2⟩ := e0
  injection e1 with e1
  injection e2 with e2
  subst q0 q1 q2 e1 e2
  refine ⟨⟨⟨s0, s1, s2⟩, ow, k.toNat⟩, ⟨by show k.toNat < 256; omega⟩, ?_⟩
  show _ = [Value.string s0, .string s1, .string s2, .bool ow, .int .u8 (k.toNat : Int)]
  rw [show (k.toNat : Int) = k by omega]
theorem rowQ_open {α : Type} [Inhabited α] {V : α → List Value} {s : Nat} {G : α → Prop} (hs : 0 < s) (hv : ∀ a, ∃ v r, V a = v :: r) {t e : TypeId} (ht : Tryz.prog.underlying t = some (.slice e)) (hc : Tryz.prog.cellsOf e = s)
    (one : ∀ {n : Nat} {cs : List Value} {y : DataW H × List MemPlace}, DataW.trod enc Tryz.prog w base (fun _ => true) held n e cs = some y → ∃ a, G a ∧ cs = V a)
    {fuel : Nat} {cs : List Value} {x : DataW H × List MemPlace} (h : DataW.trod enc Tryz.prog w base (fun _ => true) held fuel t cs = some x) :
    ∃ A len cap l, cs = [.slice A len cap] ∧ RowR V s w A len l ∧ (∀ a ∈ l, G a) ∧ len ≤ cap ∧ cap ≤ maxLen := by
  rcases open_slice ht h with ⟨rfl, rfl⟩ | ⟨a, len, cap, m, n, D, Pl, rfl, _, hl, hm, hmm, hxx, hx⟩
  · exact ⟨none, 0, 0, [], rfl, RowR.none w, (fun _ h => by cases h), Nat.le_refl _, Nat.zero_le _⟩
  · have hlm : len ≤ m := by rw [hmm]; split <;> omega
    obtain ⟨T, hT⟩ := choose_lt (α := α) (n := len) (p := fun i t => G t ∧ w.cells? base (a.add (i * s)) s = some (V t)) (fun i hi => by
      obtain ⟨cs', h1, h2⟩ := hx i (by omega)
      rw [hc] at h1
      obtain ⟨t, hk, rfl⟩ := one h2
      exact ⟨t, hk, h1⟩)
    refine ⟨some a, len, cap, (List.range len).map T, rfl, ⟨by simp, ?_⟩, ?_, hl, hm⟩
    · intro hn
      obtain ⟨b, off, spot⟩ := a
      have h0 := (World.cells?_some (hT 0 hn).2).2.2 0 hs
      obtain ⟨v, r, hvr⟩ := hv (T 0)
      rw [hvr] at h0
      have h00 : w.cell? (((⟨b, off, spot⟩ : Addr).add (0 * s)).add 0) = some v := h0
      rw [Nat.zero_mul] at h00
      have hspot : spot = none := by simpa [Addr.add] using World.cell?_spot h00
      subst hspot
      have hlt := block_lt_of_cell h00
      rw [ints_add, ints_add] at hlt
      refine ⟨b, off, rfl, hlt, fun j i t hj hi => ?_⟩
      have hjl : j < len := by
        rcases Nat.lt_or_ge j len with h1 | h1
        · exact h1
        · rw [List.getElem?_eq_none (by simpa using h1)] at hj; cases hj
      have e : T j = t := by
        rw [List.getElem?_map, List.getElem?_range hjl] at hj
        exact Option.some.inj hj
      have hcc := (World.cells?_some (hT j hjl).2).2.2 i hi
      rw [ints_add, ints_add, e] at hcc
      exact hcc
    · intro t ht
      obtain ⟨i, hi, rfl⟩ := List.mem_map.1 ht
      exact (hT i (List.mem_range.1 hi)).1
theorem halves_openQ {fuel : Nat} {cs : List Value} {x : DataW H × List MemPlace} (h : DataW.trod enc Tryz.prog w base (fun _ => true) held fuel 38 cs = some x) : ∃ A len cap l, cs = [.slice A len cap] ∧ (RowR HalfB.V 5 w A len l ∧ ∀ a ∈ l, HalfOk a) ∧ len ≤ cap ∧ cap ≤ maxLen := by
  obtain ⟨A, len, cap, l, h0, r, g, h1, h2⟩ := rowQ_open (V := HalfB.V) (s := 5) (G := HalfOk) (by decide) (fun _ => ⟨_, _, rfl⟩) Tryz.underlying38 cq_half (fun h => one_halfQ h) h
  exact ⟨A, len, cap, l, h0, ⟨r, g⟩, h1, h2⟩
end
end Go.Proofs.YtbkpoimaienhpaaGreatDoor
