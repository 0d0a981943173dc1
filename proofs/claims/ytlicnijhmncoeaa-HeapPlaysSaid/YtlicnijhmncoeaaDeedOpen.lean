/- Deeds that come in, opened. No walk. -/
import Derived.Test.YtlicnijhmncoeaaHeapBox
import Derived.Test.YtlicnijhmncoeaaChecked
import Derived.Deep.Slices
import Derived.ChangeSame
import Derived.ChangeSlices
namespace Go.Proofs.Ytlicnijhmncoeaa
open Go.RowKit Go.ChangeShapes Go.WideShapes Go.Deep
set_option linter.unusedVariables false
set_option linter.unusedSimpArgs false

structure DeedX where
  k : Int
  A : Option Addr
  n : Nat
  c : Nat
  xs : List Int
instance : Inhabited DeedX := ⟨⟨0, none, 0, 0, []⟩⟩
def DeedX.V (x : DeedX) : List Value := [.int .u8 x.k, .slice x.A x.n x.c]
structure GoodD (w : World) (x : DeedX) : Prop where
  k0 : 0 ≤ x.k
  k1 : x.k ≤ 255
  ints : Ints .i64 w x.A x.n x.xs
  le : x.n ≤ x.c
  max : x.c ≤ maxLen
  nil : x.A = none → x.c = 0
def DeedsP (w : World) (A : Option Addr) (n : Nat) (l : List DeedX) : Prop := RowR DeedX.V 2 w A n l ∧ ∀ x ∈ l, GoodD w x
theorem cells_deed : Try.prog.cellsOf 33 = 2 := by kernel_rfl
theorem cells_byteD : Try.prog.cellsOf 5 = 1 := by kernel_rfl
theorem cells_intsD : Try.prog.cellsOf 22 = 1 := by kernel_rfl
theorem cells_intD : Try.prog.cellsOf 3 = 1 := by kernel_rfl
theorem two_ofD {α : Type} {l : List α} (h : l.length = 2) : ∃ a b, l = [a, b] := by
  match l, h with
  | [a, b], _ => exact ⟨a, b, rfl⟩
section
variable {H : Type} {enc : TypeId × Value → H} {w : World} {base : Nat} {held : Bool}
theorem rowD_open {α : Type} [Inhabited α] {V : α → List Value} {s : Nat} {G : α → Prop} (hs : 0 < s) (hv : ∀ a, ∃ v r, V a = v :: r) {t e : TypeId} (ht : Try.prog.underlying t = some (.slice e)) (hc : Try.prog.cellsOf e = s)
    (one : ∀ {n : Nat} {cs : List Value} {y : DataW H × List MemPlace}, DataW.trod enc Try.prog w base (fun _ => true) held n e cs = some y → ∃ a, G a ∧ cs = V a)
    {fuel : Nat} {cs : List Value} {x : DataW H × List MemPlace} (h : DataW.trod enc Try.prog w base (fun _ => true) held fuel t cs = some x) :
    ∃ A len cap l, cs = [.slice A len cap] ∧ RowR V s w A len l ∧ (∀ a ∈ l, G a) ∧ len ≤ cap ∧ cap ≤ maxLen := by
  rcases open_slice ht h with ⟨rfl, rfl⟩ | ⟨a, len, cap, m, n, D, Pl, rfl, _, hl, hm, hmm, hxx, hx⟩
  · exact ⟨none, 0, 0, [], rfl, RowR.none w, (fun _ h => by cases h), Nat.le_refl _, Nat.zero_le _⟩
  · have hlm : len ≤ m := by rw [hmm]; split <;> omega
    obtain ⟨T, hT⟩ := choose_lt (α := α) (n := len) (p := fun i t => G t ∧ w.cells? base (a.add (i * s)) s = some (V t)) (fun i hi => by
      obtain ⟨cs', h1, h2⟩ := hx i (by omega)
      rw [hc] at h1
      obtain ⟨t, hk, rfl⟩ := one h2
      exact ⟨t, hk, h1⟩)
    refine ⟨some a, len, cap, (List.range len).map T, rfl, ⟨by simp, ?_⟩, ?_, hl, hm⟩
    · intro hn
      obtain ⟨b, off, spot⟩ := a
      have h0 := (World.cells?_some (hT 0 hn).2).2.2 0 hs
      obtain ⟨v, r, hvr⟩ := hv (T 0)
      rw [hvr] at h0
      have h00 : w.cell? (((⟨b, off, spot⟩ : Addr).add (0 * s)).add 0) = some v := h0
      rw [Nat.zero_mul] at h00
      have hspot : spot = none := by simpa [Addr.add] using World.cell?_spot h00
      subst hspot
      have hlt := block_lt_of_cell h00
      rw [ints_add, ints_add] at hlt
      refine ⟨b, off, rfl, hlt, fun j i t hj hi => ?_⟩
      have hjl : j < len := by
        rcases Nat.lt_or_ge j len with h1 | h1
        · exact h1
        · rw [List.getElem?_eq_none (by simpa using h1)] at hj; cases hj
      have e : T j = t := by
        rw [List.getElem?_map, List.getElem?_range hjl] at hj
        exact Option.some.inj hj
      have hcc := (World.cells?_some (hT j hjl).2).2.2 i hi
      rw [ints_add, ints_add, e] at hcc
      exact hcc
    · intro t ht
      obtain ⟨i, hi, rfl⟩ := List.mem_map.1 ht
      exact (hT i (List.mem_range.1 hi)).1
theorem one_deed {n : Nat} {cs : List Value} {y : DataW H × List MemPlace} (h : DataW.trod enc Try.prog w base (fun _ => true) held n 33 cs = some y) : ∃ x : DeedX, GoodD w x ∧ cs = x.V := by
  obtain ⟨xs, m, _, hy, hl, hlen, hf⟩ := DataW.trod_struct Try.underlying33 h
  rw [cells_deed] at hl
  obtain ⟨c0, c1, rfl⟩ : ∃ a b, cs = [a, b] := two_ofD hl
  obtain ⟨y0, y1, rfl⟩ : ∃ a b, xs = [a, b] := two_ofD hlen
  have f0 : DataW.trod enc Try.prog w base (fun _ => true) held m 5 [c0] = some y0 := by
    have h : DataW.trod enc Try.prog w base (fun _ => true) held m 5 (List.take (Try.prog.cellsOf 5) (List.drop 0 [c0, c1])) = some y0 := hf 0 _ rfl
    rw [cells_byteD] at h
    exact h
  have f1 : DataW.trod enc Try.prog w base (fun _ => true) held m 22 [c1] = some y1 := by
    have h : DataW.trod enc Try.prog w base (fun _ => true) held m 22 (List.take (Try.prog.cellsOf 22) (List.drop 1 [c0, c1])) = some y1 := hf 1 _ rfl
    rw [cells_intsD] at h
    exact h
  obtain ⟨k, e0, d0, hk8⟩ := DataW.trod_int Try.underlying5 f0
  obtain ⟨k0, k1⟩ := bdu8 hk8
  injection e0 with e0
  subst e0
  rcases ChangeShapes.open_ints Try.underlying22 Try.underlying3 (by kernel_rfl) f1 with ⟨hcs, _⟩ | ⟨x, l, c, zs, hcs, _, hl1, hm1, hz, hx, hcell, hwz⟩
  · injection hcs with hcs
    subst hcs
    exact ⟨⟨k, none, 0, 0, []⟩, ⟨k0, k1, ints_none _ w, Nat.le_refl _, Nat.zero_le _, fun _ => rfl⟩, rfl⟩
  · injection hcs with hcs
    subst hcs
    exact ⟨⟨k, some x, l, c, zs.take l⟩, ⟨k0, k1, ints_open hl1 (by simpa using hz) hcell hwz, hl1, hm1, fun e => by cases e⟩, rfl⟩
theorem deeds_open {n : Nat} {cs : List Value} {y : DataW H × List MemPlace} (h : DataW.trod enc Try.prog w base (fun _ => true) held n 23 cs = some y) : ∃ A len cap l, cs = [.slice A len cap] ∧ DeedsP w A len l ∧ len ≤ cap ∧ cap ≤ maxLen := by
  obtain ⟨A, len, cap, l, rfl, hr, hg, h1, h2⟩ := rowD_open (V := DeedX.V) (s := 2) (G := fun x => GoodD w x) (by decide) (fun _ => ⟨_, _, rfl⟩) Try.underlying23 cells_deed (fun h => one_deed h) h
  exact ⟨A, len, cap, l, rfl, ⟨hr, hg⟩, h1, h2⟩
end
theorem GoodD.below {w w' : World} {x : DeedX} (h : GoodD w x) (hb : Below w.heap.size w w') : GoodD w' x := ⟨h.k0, h.k1, h.ints.below hb, h.le, h.max, h.nil⟩
theorem DeedsP.below {w w' : World} {A : Option Addr} {n : Nat} {l : List DeedX} (h : DeedsP w A n l) (hb : Below w.heap.size w w') : DeedsP w' A n l := ⟨h.1.below hb, fun x hx => (h.2 x hx).below hb⟩
end Go.Proofs.Ytlicnijhmncoeaa
