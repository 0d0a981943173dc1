/- A slice of labels by their parts, opened.
   A slice of labels by their parts, opened, with how much it has. -/
import Derived.Test.YtimmfmgnjpcdoaaLabTags
import Derived.Test.YtimmfmgnjpcdoaaUpto
import Derived.Deep.Slices
import Derived.ChangeSame
namespace Go.Proofs.Ytimmfmgnjpcdoaa
open Go.RowKit Go.ChangeShapes Go.WideShapes Go.Deep
set_option linter.unusedVariables false
set_option linter.unusedSimpArgs false

theorem cells_tag : Try.prog.cellsOf 41 = 4 := by kernel_rfl
theorem cells_pair : Try.prog.cellsOf 39 = 2 := by kernel_rfl
theorem cells_string : Try.prog.cellsOf 9 = 1 := by kernel_rfl
theorem cells_bool : Try.prog.cellsOf 4 = 1 := by kernel_rfl
theorem cells_u8 : Try.prog.cellsOf 5 = 1 := by kernel_rfl

theorem two_of {α : Type} {l : List α} (h : l.length = 2) : ∃ a b, l = [a, b] := by
  match l, h with
  | [a, b], _ => exact ⟨a, b, rfl⟩
theorem three_of {α : Type} {l : List α} (h : l.length = 3) : ∃ a b c, l = [a, b, c] := by
  match l, h with
  | [a, b, c], _ => exact ⟨a, b, c, rfl⟩
theorem four_of {α : Type} {l : List α} (h : l.length = 4) : ∃ a b c d, l = [a, b, c, d] := by
  match l, h with
  | [a, b, c, d], _ => exact ⟨a, b, c, d, rfl⟩

section
variable {H : Type} {enc : TypeId × Value → H} {w : World} {base : Nat} {spare : Nat → Bool} {held : Bool}

theorem one_tag {n : Nat} {cs : List Value} {y : DataW H × List MemPlace} (h : DataW.trod enc Try.prog w base spare held n 41 cs = some y) : ∃ t : TagB, t.k < 256 ∧ cs = [.string t.nm, .string t.vl, .bool t.own, .int .u8 (t.k : Int)] := by
  obtain ⟨xs, m, _, _, hl, hlen, hf⟩ := DataW.trod_struct Try.underlying41 h
  rw [cells_tag] at hl
  obtain ⟨c0, c1, c2, c3, rfl⟩ : ∃ a b c d, cs = [a, b, c, d] := four_of hl
  obtain ⟨y0, y1, y2, rfl⟩ : ∃ a b c, xs = [a, b, c] := three_of hlen
  have f0 : DataW.trod enc Try.prog w base spare held m 39 [c0, c1] = some y0 := by
    have h : DataW.trod enc Try.prog w base spare held m 39 (List.take (Try.prog.cellsOf 39) (List.drop 0 [c0, c1, c2, c3])) = some y0 := hf 0 _ rfl
    rw [cells_pair] at h
    exact h
  have f1 : DataW.trod enc Try.prog w base spare held m 4 [c2] = some y1 := by
    have h : DataW.trod enc Try.prog w base spare held m 4 (List.take (Try.prog.cellsOf 4) (List.drop 2 [c0, c1, c2, c3])) = some y1 := hf 1 _ rfl
    rw [cells_bool] at h
    exact h
  have f2 : DataW.trod enc Try.prog w base spare held m 5 [c3] = some y2 := by
    have h : DataW.trod enc Try.prog w base spare held m 5 (List.take (Try.prog.cellsOf 5) (List.drop 3 [c0, c1, c2, c3])) = some y2 := hf 2 _ rfl
    rw [cells_u8] at h
    exact h
  obtain ⟨ow, e1, _⟩ := DataW.trod_bool Try.underlying4 f1
  obtain ⟨k, e2, _, hk⟩ := DataW.trod_int Try.underlying5 f2
  obtain ⟨k0, k1⟩ := bdu8 hk
  obtain ⟨xs, m, _, _, _, hlen, hf⟩ := DataW.trod_struct Try.underlying39 f0
  obtain ⟨y3, y4, rfl⟩ : ∃ a b, xs = [a, b] := two_of hlen
  have g0 : DataW.trod enc Try.prog w base spare held m 9 [c0] = some y3 := by
    have h : DataW.trod enc Try.prog w base spare held m 9 (List.take (Try.prog.cellsOf 9) (List.drop 0 [c0, c1])) = some y3 := hf 0 _ rfl
    rw [cells_string] at h
    exact h
  have g1 : DataW.trod enc Try.prog w base spare held m 9 [c1] = some y4 := by
    have h : DataW.trod enc Try.prog w base spare held m 9 (List.take (Try.prog.cellsOf 9) (List.drop 1 [c0, c1])) = some y4 := hf 1 _ rfl
    rw [cells_string] at h
    exact h
  obtain ⟨s0, e3, _⟩ := DataW.trod_string Try.underlying9 g0
  obtain ⟨s1, e4, _⟩ := DataW.trod_string Try.underlying9 g1
  injection e1 with e1
  injection e2 with e2
  injection e3 with e3
  injection e4 with e4
  subst e1 e2 e3 e4
  refine ⟨⟨s0, s1, ow, k.toNat⟩, by show k.toNat < 256; omega, ?_⟩
  show _ = [Value.string s0, .string s1, .bool ow, .int .u8 (k.toNat : Int)]
  rw [show (k.toNat : Int) = k by omega]

theorem tags_open {fuel : Nat} {cs : List Value} {x : DataW H × List MemPlace} (h : DataW.trod enc Try.prog w base spare held fuel 23 cs = some x) : ∃ A len cap ts, cs = [.slice A len cap] ∧ TagsP w A len ts ∧ len ≤ cap ∧ cap ≤ maxLen := by
  rcases open_slice Try.underlying23 h with ⟨rfl, _⟩ | ⟨a, len, cap, m, n, D, Pl, rfl, _, hl, hm, hmm, _, hx⟩
  · exact ⟨none, 0, 0, [], rfl, tags_none w, Nat.le_refl _, Nat.zero_le _⟩
  · have hlm : len ≤ m := by rw [hmm]; split <;> omega
    obtain ⟨T, hT⟩ := choose_lt (α := TagB) (n := len) (p := fun i t => t.k < 256 ∧ w.cells? base (a.add (i * 4)) 4 = some [.string t.nm, .string t.vl, .bool t.own, .int .u8 (t.k : Int)]) (fun i hi => by
      obtain ⟨cs', h1, h2⟩ := hx i (by omega)
      rw [cells_tag] at h1
      obtain ⟨t, hk, rfl⟩ := one_tag h2
      exact ⟨t, hk, h1⟩)
    refine ⟨some a, len, cap, (List.range len).map T, rfl, ⟨by simp, ?_, ?_⟩, hl, hm⟩
    · intro t ht
      obtain ⟨i, hi, rfl⟩ := List.mem_map.1 ht
      exact (hT i (List.mem_range.1 hi)).1
    · intro hn
      obtain ⟨b, off, spot⟩ := a
      have h0 := (World.cells?_some (hT 0 hn).2).2.2 0 (by omega)
      have h00 : w.cell? (((⟨b, off, spot⟩ : Addr).add (0 * 4)).add 0) = some (.string (T 0).nm) := h0
      have hspot : spot = none := by simpa [Addr.add] using World.cell?_spot h00
      subst hspot
      have hlt := block_lt_of_cell h00
      rw [ints_add, ints_add] at hlt
      refine ⟨b, off, rfl, hlt, fun j hj => ?_⟩
      have hc := (World.cells?_some (hT j hj).2).2.2
      have e : ((List.range len).map T).getD j default = T j := by
        rw [List.getD_eq_getElem?_getD, List.getElem?_map, List.getElem?_range hj]
        rfl
      rw [e]
      have c0 := hc 0 (by omega)
      have c1 := hc 1 (by omega)
      have c2 := hc 2 (by omega)
      have c3 := hc 3 (by omega)
      rw [ints_add, ints_add] at c0 c1 c2 c3
      exact ⟨c0, c1, c2, c3⟩
end
end Go.Proofs.Ytimmfmgnjpcdoaa
namespace Go.Proofs.Ytimmfmgnjpcdoaa
open Go.RowKit Go.ChangeShapes Go.WideShapes Go.Deep
set_option linter.unusedVariables false
set_option linter.unusedSimpArgs false

def bulkG : List TagB → Nat
  | [] => 0
  | t :: ts => t.nm.size + t.vl.size + 6 + bulkG ts
theorem bulkG_mem {t : TagB} {ts : List TagB} (h : t ∈ ts) : t.nm.size + t.vl.size + 6 ≤ bulkG ts := by
  induction ts with
  | nil => cases h
  | cons x ts ih =>
    rw [bulkG]
    rcases List.mem_cons.1 h with rfl | h
    · omega
    · have := ih h; omega

section
variable {H : Type} {enc : TypeId × Value → H} {w : World} {base : Nat} {spare : Nat → Bool} {held : Bool}

theorem one_tag_bulk {n : Nat} {cs : List Value} {y : DataW H × List MemPlace} (h : DataW.trod enc Try.prog w base spare held n 41 cs = some y) : ∃ t : TagB, t.k < 256 ∧ cs = [.string t.nm, .string t.vl, .bool t.own, .int .u8 (t.k : Int)] ∧ Rows.uptoBulk y.1 = t.nm.size + t.vl.size + 6 := by
  obtain ⟨xs, m, _, hy, hl, hlen, hf⟩ := DataW.trod_struct Try.underlying41 h
  rw [cells_tag] at hl
  obtain ⟨c0, c1, c2, c3, rfl⟩ : ∃ a b c d, cs = [a, b, c, d] := four_of hl
  obtain ⟨y0, y1, y2, rfl⟩ : ∃ a b c, xs = [a, b, c] := three_of hlen
  have f0 : DataW.trod enc Try.prog w base spare held m 39 [c0, c1] = some y0 := by
    have h : DataW.trod enc Try.prog w base spare held m 39 (List.take (Try.prog.cellsOf 39) (List.drop 0 [c0, c1, c2, c3])) = some y0 := hf 0 _ rfl
    rw [cells_pair] at h
    exact h
  have f1 : DataW.trod enc Try.prog w base spare held m 4 [c2] = some y1 := by
    have h : DataW.trod enc Try.prog w base spare held m 4 (List.take (Try.prog.cellsOf 4) (List.drop 2 [c0, c1, c2, c3])) = some y1 := hf 1 _ rfl
    rw [cells_bool] at h
    exact h
  have f2 : DataW.trod enc Try.prog w base spare held m 5 [c3] = some y2 := by
    have h : DataW.trod enc Try.prog w base spare held m 5 (List.take (Try.prog.cellsOf 5) (List.drop 3 [c0, c1, c2, c3])) = some y2 := hf 2 _ rfl
    rw [cells_u8] at h
    exact h
  obtain ⟨ow, e1, d1⟩ := DataW.trod_bool Try.underlying4 f1
  obtain ⟨k, e2, d2, hk⟩ := DataW.trod_int Try.underlying5 f2
  obtain ⟨k0, k1⟩ := bdu8 hk
  obtain ⟨xs, m, _, d0, _, hlen, hf⟩ := DataW.trod_struct Try.underlying39 f0
  obtain ⟨y3, y4, rfl⟩ : ∃ a b, xs = [a, b] := two_of hlen
  have g0 : DataW.trod enc Try.prog w base spare held m 9 [c0] = some y3 := by
    have h : DataW.trod enc Try.prog w base spare held m 9 (List.take (Try.prog.cellsOf 9) (List.drop 0 [c0, c1])) = some y3 := hf 0 _ rfl
    rw [cells_string] at h
    exact h
  have g1 : DataW.trod enc Try.prog w base spare held m 9 [c1] = some y4 := by
    have h : DataW.trod enc Try.prog w base spare held m 9 (List.take (Try.prog.cellsOf 9) (List.drop 1 [c0, c1])) = some y4 := hf 1 _ rfl
    rw [cells_string] at h
    exact h
  obtain ⟨s0, e3, d3, _⟩ := DataW.trod_string Try.underlying9 g0
  obtain ⟨s1, e4, d4, _⟩ := DataW.trod_string Try.underlying9 g1
  injection e1 with e1
  injection e2 with e2
  injection e3 with e3
  injection e4 with e4
  subst e1 e2 e3 e4 d3 d4 d0 d1 d2 hy
  refine ⟨⟨s0, s1, ow, k.toNat⟩, by show k.toNat < 256; omega, ?_, ?_⟩
  · show _ = [Value.string s0, .string s1, .bool ow, .int .u8 (k.toNat : Int)]
    rw [show (k.toNat : Int) = k by omega]
  · simp only [List.map_cons, List.map_nil, Rows.uptoBulk, Rows.uptoBulkAll, size_toList]
    omega
theorem bulk_range (T : Nat → TagB) (D : Nat → DataW H) : ∀ (len : Nat), (∀ i, i < len → Rows.uptoBulk (D i) = (T i).nm.size + (T i).vl.size + 6) → ∀ o, (∀ i, i < len → o + i < len + o) → bulkG ((List.range len).map T) = Rows.uptoBulkAll ((List.range len).map D) := by
  have key : ∀ (l : List Nat), (∀ i ∈ l, Rows.uptoBulk (D i) = (T i).nm.size + (T i).vl.size + 6) → bulkG (l.map T) = Rows.uptoBulkAll (l.map D) := by
    intro l
    induction l with
    | nil => intro _; rfl
    | cons i l ih =>
      intro h
      rw [List.map_cons, List.map_cons, bulkG, Rows.uptoBulkAll, ih (fun j hj => h j (List.mem_cons_of_mem _ hj)), h i List.mem_cons_self]
  intro len h o _
  exact key _ fun i hi => h i (List.mem_range.1 hi)

theorem tags_open_bulk {fuel : Nat} {cs : List Value} {x : DataW H × List MemPlace} (h : DataW.trod enc Try.prog w base spare held fuel 23 cs = some x) (hb : Rows.uptoBulk x.1 ≤ 1048576) : ∃ A len cap ts, cs = [.slice A len cap] ∧ TagsP w A len ts ∧ bulkG ts ≤ 1048576 ∧ len ≤ cap ∧ cap ≤ maxLen := by
  rcases open_slice Try.underlying23 h with ⟨rfl, _⟩ | ⟨a, len, cap, m, n, D, Pl, rfl, _, hl, hm, hmm, hxx, hx⟩
  · exact ⟨none, 0, 0, [], rfl, tags_none w, Nat.zero_le _, Nat.le_refl _, Nat.zero_le _⟩
  · have hlm : len ≤ m := by rw [hmm]; split <;> omega
    obtain ⟨T, hT⟩ := choose_lt (α := TagB) (n := len) (p := fun i t => t.k < 256 ∧ w.cells? base (a.add (i * 4)) 4 = some [.string t.nm, .string t.vl, .bool t.own, .int .u8 (t.k : Int)] ∧ Rows.uptoBulk (D i) = t.nm.size + t.vl.size + 6) (fun i hi => by
      obtain ⟨cs', h1, h2⟩ := hx i (by omega)
      rw [cells_tag] at h1
      obtain ⟨t, hk, rfl, hq⟩ := one_tag_bulk h2
      exact ⟨t, hk, h1, hq⟩)
    have hbulk : bulkG ((List.range len).map T) ≤ 1048576 := by
      rw [bulk_range T D len (fun i hi => (hT i hi).2.2) 0 (fun i hi => by omega)]
      rw [hxx] at hb
      simp only [Rows.uptoBulk] at hb
      omega
    refine ⟨some a, len, cap, (List.range len).map T, rfl, ⟨by simp, ?_, ?_⟩, hbulk, hl, hm⟩
    · intro t ht
      obtain ⟨i, hi, rfl⟩ := List.mem_map.1 ht
      exact (hT i (List.mem_range.1 hi)).1
    · intro hn
      obtain ⟨b, off, spot⟩ := a
      have h0 := (World.cells?_some (hT 0 hn).2.1).2.2 0 (by omega)
      have h00 : w.cell? (((⟨b, off, spot⟩ : Addr).add (0 * 4)).add 0) = some (.string (T 0).nm) := h0
      have hspot : spot = none := by simpa [Addr.add] using World.cell?_spot h00
      subst hspot
      have hlt := block_lt_of_cell h00
      rw [ints_add, ints_add] at hlt
      refine ⟨b, off, rfl, hlt, fun j hj => ?_⟩
      have hc := (World.cells?_some (hT j hj).2.1).2.2
      have e : ((List.range len).map T).getD j default = T j := by
        rw [List.getD_eq_getElem?_getD, List.getElem?_map, List.getElem?_range hj]
        rfl
      rw [e]
      have c0 := hc 0 (by omega)
      have c1 := hc 1 (by omega)
      have c2 := hc 2 (by omega)
      have c3 := hc 3 (by omega)
      rw [ints_add, ints_add] at c0 c1 c2 c3
      exact ⟨c0, c1, c2, c3⟩
end
end Go.Proofs.Ytimmfmgnjpcdoaa
