/- Entries that a call holds in blocks of its own; the order of three, by one step.
   The chapter's examples of entries are so.
   An entry by its parts that comes in, opened, with how much it has; a slice of them.
   Entries of few: they are right, small, and put one behind the other. No walk but one.
   An entry whose parts are not many: it can be put; what it is put as is read again, or cut is none. -/
import Derived.Test.YtilcanblgdmecaaItems
import Derived.Test.YtilcanblgdmecaaEntParse
import Derived.Test.YtilcanblgdmecaaEntPut
import Derived.Test.YtilcanblgdmecaaTagsOpen
import Derived.Test.YtilcanblgdmecaaLabBackMath
namespace Go.Proofs.Ytilcanblgdmecaa
open Go.RowKit
set_option linter.unusedVariables false
set_option linter.unusedSimpArgs false

def EntX.arr (x : EntX) : Array Value := #[.int .i64 x.ts, .slice x.A x.n x.c, .string x.ln]
structure Held (W w : World) (l : List (Nat × EntX)) : Prop where
  below : Below W.heap.size W w
  blk : ∀ p ∈ l, Blk w p.1 26 p.2.arr ∧ Good W.heap.size w p.2
section
variable {W w w' : World} {l : List (Nat × EntX)}
theorem Held.nil (h : Below W.heap.size W w) : Held W w [] := ⟨h, fun p hp => by cases hp⟩
theorem Held.next (h : Held W w l) (hx : Below w.heap.size w w') : Held W w' l :=
  ⟨hop h.below (Nat.le_refl _) hx, fun p hp => ⟨(h.blk p hp).1.below hx (h.blk p hp).1.lt, (h.blk p hp).2.below hx⟩⟩
theorem Held.alloc (h : Held W w l) (o : Obj) : Held W (w.alloc o) l := h.next ((Below.refl _ _).alloc (Nat.le_refl _) o)
theorem Held.drewN (h : Held W w l) (q : Nat) : Held W (w.drewN q) l := h.next (below_drewN (Below.refl _ _) q)
theorem Held.push (h : Held W w l) {x : EntX} {g : Nat} (hg : w.heap.size = g) (hx : Good W.heap.size w x) : Held W (w.alloc (.cells x.arr 26)) ((g, x) :: l) :=
  ⟨(h.alloc _).below, fun p hp => by
    rcases List.mem_cons.1 hp with rfl | hp
    · exact ⟨by rw [← hg]; exact Blk.new w _ _, hx.below ((Below.refl _ _).alloc (Nat.le_refl _) _)⟩
    · exact (h.alloc _).blk p hp⟩
theorem Held.cells (h : Held W w l) {g : Nat} {x : EntX} (hm : (g, x) ∈ l) : w.cell? ⟨g, 0, none⟩ = some (.int .i64 x.ts) ∧ w.cell? ⟨g, 1, none⟩ = some (.slice x.A x.n x.c) ∧ w.cell? ⟨g, 2, none⟩ = some (.string x.ln) := by
  obtain ⟨hb, _⟩ := h.blk _ hm
  exact ⟨(hb.cell 0).trans rfl, (hb.cell 1).trans rfl, (hb.cell 2).trans rfl⟩
theorem Held.good (h : Held W w l) {g : Nat} {x : EntX} (hm : (g, x) ∈ l) : Good W.heap.size w x := (h.blk _ hm).2
end
theorem ord_good (a b : EntX) {B1 B2 : Nat} (w : World) (ha : Good B1 w a) (hb : Good B2 w b) :
    Calls Try.prog 36 #[.agg #[.int .i64 a.ts, .slice a.A a.n a.c, .string a.ln], .agg #[.int .i64 b.ts, .slice b.A b.n b.c, .string b.ln]] w fun e w' => e = .returned (.int .i64 (entC a.b b.b)) ∧ Below w.heap.size w w' :=
  entOrder_any a.ts b.ts a.A b.A a.n b.n a.c b.c a.ls b.ls a.ln b.ln ha.len hb.len w ha.set.1 hb.set.1
theorem same_good (a b : EntX) {B1 B2 : Nat} (w : World) (ha : Good B1 w a) (hb : Good B2 w b) :
    Calls Try.prog 22 #[.agg #[.int .i64 a.ts, .slice a.A a.n a.c, .string a.ln], .agg #[.int .i64 b.ts, .slice b.A b.n b.c, .string b.ln]] w fun e w' => e = .returned (.bool (sameE a.b b.b)) ∧ Below w.heap.size w w' :=
  entSame_any a.ts b.ts a.A b.A a.n b.n a.c b.c a.ls b.ls a.ln b.ln ha.len hb.len w ha.set.1 hb.set.1
theorem ahead_good (a b : EntX) (asc : Bool) {B1 B2 : Nat} (w : World) (ha : Good B1 w a) (hb : Good B2 w b) :
    Calls Try.prog 23 #[.agg #[.int .i64 a.ts, .slice a.A a.n a.c, .string a.ln], .agg #[.int .i64 b.ts, .slice b.A b.n b.c, .string b.ln], .bool asc] w fun e w' => e = .returned (.bool (aheadB a.b b.b asc)) ∧ Below w.heap.size w w' :=
  entAhead_any a.ts b.ts a.A b.A a.n b.n a.c b.c a.ls b.ls a.ln b.ln asc ha.len hb.len w ha.set.1 hb.set.1
/-- what the order says of two, by one step: less, the same, more -/
theorem ord_two (a b : EntB) : ∃ o r : Int, ∃ s p q : Bool, entC a b = o ∧ entC b a = r ∧ sameE a b = s ∧ aheadB a b true = p ∧ aheadB a b false = q ∧
    ((o = 1 ∧ r = -1 ∧ s = false ∧ p = false ∧ q = true ∧ ¬ a.ts < b.ts) ∨ (o = 0 ∧ r = 0 ∧ s = true ∧ p = false ∧ q = false ∧ a.ts = b.ts) ∨ (o = -1 ∧ r = 1 ∧ s = false ∧ p = true ∧ q = false ∧ ¬ b.ts < a.ts)) := by
  refine ⟨_, _, _, _, _, rfl, rfl, rfl, rfl, rfl, ?_⟩
  have h1 := entC_ord.anti a b
  have h2 := entC_vals a b
  have h3 : ∀ x y : EntB, 0 ≤ entC x y → ¬ x.ts < y.ts := fun x y h hlt => by
    have h4 : cmpZ x.ts y.ts = -1 := by unfold cmpZ; rw [if_pos hlt]
    unfold entC at h
    rw [h4, if_neg (by decide)] at h
    omega
  unfold aheadB
  rw [if_pos rfl, if_neg (by decide), sameE_ord]
  rcases h2 with h2 | h2 | h2
  · refine .inr (.inr ⟨h2, by omega, decide_eq_false (by omega), decide_eq_true (by omega), decide_eq_false (by omega), h3 b a (by omega)⟩)
  · have h5 := entC_zero.1 h2
    refine .inr (.inl ⟨h2, by omega, decide_eq_true h2, decide_eq_false (by omega), decide_eq_false (by omega), by rw [h5]⟩)
  · exact .inl ⟨h2, by omega, decide_eq_false (by omega), decide_eq_false (by omega), decide_eq_true (by omega), h3 a b (by omega)⟩
theorem ord_three (a b c : EntB) : ∃ s t : Int, entC b c = s ∧ entC a c = t ∧ ((s ≤ 0 ∧ decide (0 < s) = false ∧ (entC a b ≤ 0 → t ≤ 0)) ∨ decide (s ≤ 0) = false) := by
  refine ⟨_, _, rfl, rfl, ?_⟩
  by_cases h : entC b c ≤ 0
  · exact .inl ⟨h, decide_eq_false (by omega), fun h2 => entC_ord.trans _ _ _ h2 h⟩
  · exact .inr (decide_eq_false h)
end Go.Proofs.Ytilcanblgdmecaa
namespace Go.Proofs.Ytilcanblgdmecaa
open Go.RowKit
set_option linter.unusedVariables false
set_option linter.unusedSimpArgs false

def exA : EntB := ⟨-5, [(⟨#[97]⟩, ⟨#[49]⟩)], ⟨#[120]⟩⟩
def exB : EntB := ⟨-5, [(⟨#[97]⟩, ⟨#[49]⟩)], ⟨#[121]⟩⟩
def tx12 : ByteArray := ⟨#[45, 53, 123, 97, 61, 34, 49, 34, 125, 34, 120, 34]⟩
theorem ex_put : entT exA = tx12 := by decide +kernel
theorem ex_right : rightE exA = true := by decide +kernel
theorem ex_size : (entL exA).length = 12 := by rw [← entT_size, ex_put]; rfl
theorem ex_parse : entP (tx12 ++ (⟨#[122]⟩ : ByteArray)) = some (exA, 12) := by
  rw [entP_text _ exA [122] (by decide) (by decide) ex_right (by rw [text_joined, ← ex_put, entT_list]), ex_size]
theorem ex_bad : entP ⟨#[53, 123, 125]⟩ = none := by
  have e : (⟨#[53, 123, 125]⟩ : ByteArray).data.toList = (entL ⟨5, [], .empty⟩).take 3 := by decide +kernel
  exact entP_short _ ⟨5, [], .empty⟩ 3 (by decide) (by decide) (by decide +kernel) (by decide +kernel) e
theorem ex_order : entC exA exB = -1 := by decide +kernel
theorem ex_ahead1 : aheadB exA exB true = true := by decide +kernel
theorem ex_ahead2 : aheadB exB exA false = true := by decide +kernel
theorem ex_same : sameE exA exA = true := by decide +kernel
theorem ex_sorted (a b : EntX) (ha : a.b = exA) (hb : b.b = exB) : sortedE true [a, a, b] = true ∧ sortedE false [a, b] = false := by
  simp only [sortedE, sortedGo, ha, hb]
  exact ⟨by decide +kernel, by decide +kernel⟩
theorem ents_lit (w : World) (l : List EntX) (B : Nat) (T : TypeId) (h : ∀ x ∈ l, Good B w x) (g : Nat) (hg : w.heap.size = g) : Ents B (w.alloc (.cells (rowV EntX.V l).toArray T)) (some ⟨g, 0, none⟩) l.length l := by
  refine ⟨⟨rfl, fun hn => ⟨g, 0, rfl, by simp [← hg], fun j i a hj hi => ?_⟩⟩, fun x hx => (h x hx).below ((Below.refl _ _).alloc (Nat.le_refl _) _)⟩
  have hb := Blk.new w T (rowV EntX.V l).toArray
  rw [hg] at hb
  rw [show 0 + j * 3 + i = j * 3 + i by omega, hb.cell, List.getElem?_toArray, rowV_at entV_len l j i a hj hi]
theorem entX_b (x : EntX) (e : EntB) (h : x.b = e) : x.ts = e.ts ∧ x.ls = e.ls ∧ x.ln = e.ln := by rw [← h]; exact ⟨rfl, rfl, rfl⟩

theorem set_lit (w : World) (ps : List PairB) (B g : Nat) (hg : w.heap.size = g) : SetAt B (w.alloc (.cells (pVs ps).toArray 92)) (some ⟨g, 0, none⟩) ps.length ps :=
  ⟨pairs_lit w ps g hg.symm, fun _ a ha => .inr ⟨(pVs ps).toArray, by
    obtain rfl : a = ⟨g, 0, none⟩ := (Option.some.inj ha).symm
    subst hg
    exact Blk.new w _ _⟩⟩
end Go.Proofs.Ytilcanblgdmecaa
namespace Go.Proofs.Ytilcanblgdmecaa
open Go.RowKit Go.ChangeShapes Go.WideShapes Go.Deep
set_option linter.unusedVariables false
set_option linter.unusedSimpArgs false

theorem cells_set : Try.prog.cellsOf 24 = 1 := by kernel_rfl
theorem cells_ent : Try.prog.cellsOf 26 = 3 := by kernel_rfl
theorem cells_item : Try.prog.cellsOf 30 = 7 := by kernel_rfl
theorem cells_i64 : Try.prog.cellsOf 2 = 1 := by kernel_rfl
theorem cells_i8 : Try.prog.cellsOf 27 = 1 := by kernel_rfl
theorem cells_tags : Try.prog.cellsOf 28 = 1 := by kernel_rfl
theorem bdi8 {x : Int} (h : (Lit.int .i8 x).wf = true) : -128 ≤ x ∧ x ≤ 127 := by
  simpa [Lit.wf, IntKind.min, IntKind.max, IntKind.signed, IntKind.bits] using h
def sumN : List Nat → Nat
  | [] => 0
  | n :: l => n + sumN l
theorem sumN_le {α : Type} (K J : α → Nat) (l : List α) (h : ∀ a ∈ l, K a ≤ J a) : sumN (l.map K) ≤ sumN (l.map J) := by
  induction l with
  | nil => exact Nat.le_refl _
  | cons a l ih =>
    rw [List.map_cons, List.map_cons, sumN, sumN]
    have h1 := h a List.mem_cons_self
    have h2 := ih fun b hb => h b (List.mem_cons_of_mem _ hb)
    omega
theorem sumN_mem {n : Nat} {l : List Nat} (h : n ∈ l) : n ≤ sumN l := by
  induction l with
  | nil => cases h
  | cons a l ih =>
    rw [sumN]
    rcases List.mem_cons.1 h with rfl | h
    · omega
    · have := ih h; omega
theorem five_of {α : Type} {l : List α} (h : l.length = 5) : ∃ a b c d e, l = [a, b, c, d, e] := by
  match l, h with
  | [a, b, c, d, e], _ => exact ⟨a, b, c, d, e, rfl⟩
theorem seven_of {α : Type} {l : List α} (h : l.length = 7) : ∃ a b c d e f g, l = [a, b, c, d, e, f, g] := by
  match l, h with
  | [a, b, c, d, e, f, g], _ => exact ⟨a, b, c, d, e, f, g, rfl⟩
def tagV (t : TagB) : List Value := [.string t.nm, .string t.vl, .bool t.own, .int .u8 (t.k : Int)]
def entK (x : EntX) : Nat := x.ln.size + sumN (x.ls.map fun p => p.1.size + p.2.size + 3)
def itemK (x : ItemX) : Nat := entK x.e + bulkG x.lt

theorem pairs_row {w : World} {A : Option Addr} {n : Nat} {l : List PairB} (h : RowR pairV 2 w A n l) : Pairs w A n l := by
  refine ⟨h.1, fun hn => ?_⟩
  obtain ⟨b, off, e, hlt, hc⟩ := h.2 hn
  refine ⟨b, off, e, hlt, fun j hj => ?_⟩
  have hg : l[j]? = some (l.getD j pnil) := by
    have := h.1
    rw [List.getD_eq_getElem?_getD, List.getElem?_eq_getElem (by omega)]
    rfl
  exact ⟨hc j 0 _ hg (by decide), hc j 1 _ hg (by decide)⟩
theorem tags_row {w : World} {A : Option Addr} {n : Nat} {l : List TagB} (h : RowR tagV 4 w A n l) (hk : ∀ t ∈ l, t.k < 256) : TagsP w A n l := by
  refine ⟨h.1, hk, fun hn => ?_⟩
  obtain ⟨b, off, e, hlt, hc⟩ := h.2 hn
  refine ⟨b, off, e, hlt, fun j hj => ?_⟩
  have hg : l[j]? = some (l.getD j default) := by
    have := h.1
    rw [List.getD_eq_getElem?_getD, List.getElem?_eq_getElem (by omega)]
    rfl
  exact ⟨hc j 0 _ hg (by decide), hc j 1 _ hg (by decide), hc j 2 _ hg (by decide), hc j 3 _ hg (by decide)⟩
theorem bulkG_sum (l : List TagB) : sumN (l.map fun t => t.nm.size + t.vl.size + 6) = bulkG l := by
  induction l with
  | nil => rfl
  | cons t l ih => rw [List.map_cons, sumN, ih, bulkG]

section
variable {H : Type} {enc : TypeId × Value → H} {w : World} {base : Nat} {spare : Nat → Bool} {held : Bool}

theorem row_all {α : Type} (K : α → Nat) (T : Nat → α) (D : Nat → DataW H) : ∀ (l : List Nat), (∀ i ∈ l, K (T i) ≤ Rows.uptoBulk (D i)) → sumN ((l.map T).map K) ≤ Rows.uptoBulkAll (l.map D)
  | [], _ => Nat.le_refl _
  | i :: l, h => by
    have h1 := h i List.mem_cons_self
    have h2 := row_all K T D l fun j hj => h j (List.mem_cons_of_mem _ hj)
    simp only [List.map_cons, sumN, Rows.uptoBulkAll]
    omega
/-- a slice of things of s cells each, opened -/
theorem row_open {α : Type} [Inhabited α] {V : α → List Value} {s : Nat} {G : α → Prop} {K : α → Nat} (hV : ∀ a, (V a).length = s) (hs : 0 < s) (hv : ∀ a, ∃ v r, V a = v :: r) {t e : TypeId} (ht : Try.prog.underlying t = some (.slice e)) (hc : Try.prog.cellsOf e = s)
    (one : ∀ {n : Nat} {cs : List Value} {y : DataW H × List MemPlace}, DataW.trod enc Try.prog w base spare held n e cs = some y → ∃ a, G a ∧ cs = V a ∧ K a ≤ Rows.uptoBulk y.1)
    {fuel : Nat} {cs : List Value} {x : DataW H × List MemPlace} (h : DataW.trod enc Try.prog w base spare held fuel t cs = some x) :
    ∃ A len cap l, cs = [.slice A len cap] ∧ RowR V s w A len l ∧ (∀ a ∈ l, G a) ∧ sumN (l.map K) + 1 ≤ Rows.uptoBulk x.1 ∧ len ≤ cap ∧ cap ≤ maxLen ∧ (A = none → len = 0 ∧ cap = 0) := by
  rcases open_slice ht h with ⟨rfl, rfl⟩ | ⟨a, len, cap, m, n, D, Pl, rfl, _, hl, hm, hmm, hxx, hx⟩
  · exact ⟨none, 0, 0, [], rfl, RowR.none w, (fun _ h => by cases h), by simp [sumN, Rows.uptoBulk], Nat.le_refl _, Nat.zero_le _, fun _ => ⟨rfl, rfl⟩⟩
  · have hlm : len ≤ m := by rw [hmm]; split <;> omega
    obtain ⟨T, hT⟩ := choose_lt (α := α) (n := len) (p := fun i t => G t ∧ w.cells? base (a.add (i * s)) s = some (V t) ∧ K t ≤ Rows.uptoBulk (D i)) (fun i hi => by
      obtain ⟨cs', h1, h2⟩ := hx i (by omega)
      rw [hc] at h1
      obtain ⟨t, hk, rfl, hq⟩ := one h2
      exact ⟨t, hk, h1, hq⟩)
    refine ⟨some a, len, cap, (List.range len).map T, rfl, ⟨by simp, ?_⟩, ?_, ?_, hl, hm, fun e => by cases e⟩
    · intro hn
      obtain ⟨b, off, spot⟩ := a
      have h0 := (World.cells?_some (hT 0 hn).2.1).2.2 0 hs
      obtain ⟨v, r, hvr⟩ := hv (T 0)
      rw [hvr] at h0
      have h00 : w.cell? (((⟨b, off, spot⟩ : Addr).add (0 * s)).add 0) = some v := h0
      rw [Nat.zero_mul] at h00
      have hspot : spot = none := by simpa [Addr.add] using World.cell?_spot h00
      subst hspot
      have hlt := block_lt_of_cell h00
      rw [ints_add, ints_add] at hlt
      refine ⟨b, off, rfl, hlt, fun j i t hj hi => ?_⟩
      have hjl : j < len := by
        rcases Nat.lt_or_ge j len with h1 | h1
        · exact h1
        · rw [List.getElem?_eq_none (by simpa using h1)] at hj; cases hj
      have e : T j = t := by
        rw [List.getElem?_map, List.getElem?_range hjl] at hj
        exact Option.some.inj hj
      have hcc := (World.cells?_some (hT j hjl).2.1).2.2 i hi
      rw [ints_add, ints_add, e] at hcc
      exact hcc
    · intro t ht
      obtain ⟨i, hi, rfl⟩ := List.mem_map.1 ht
      exact (hT i (List.mem_range.1 hi)).1
    · have h1 := row_all K T D (List.range len) fun i hi => (hT i (List.mem_range.1 hi)).2.2
      rw [hxx]
      simp only [Rows.uptoBulk]
      omega

theorem one_pair {n : Nat} {cs : List Value} {y : DataW H × List MemPlace} (h : DataW.trod enc Try.prog w base spare held n 92 cs = some y) : ∃ p : PairB, True ∧ cs = pairV p ∧ p.1.size + p.2.size + 3 ≤ Rows.uptoBulk y.1 := by
  obtain ⟨xs, m, _, hy, hl, hlen, hf⟩ := DataW.trod_struct Try.underlying92 h
  rw [cells_pair] at hl
  obtain ⟨c0, c1, rfl⟩ : ∃ a b, cs = [a, b] := two_of hl
  obtain ⟨y3, y4, rfl⟩ : ∃ a b, xs = [a, b] := two_of hlen
  have g0 : DataW.trod enc Try.prog w base spare held m 9 [c0] = some y3 := by
    have h : DataW.trod enc Try.prog w base spare held m 9 (List.take (Try.prog.cellsOf 9) (List.drop 0 [c0, c1])) = some y3 := hf 0 _ rfl
    rw [cells_string] at h
    exact h
  have g1 : DataW.trod enc Try.prog w base spare held m 9 [c1] = some y4 := by
    have h : DataW.trod enc Try.prog w base spare held m 9 (List.take (Try.prog.cellsOf 9) (List.drop 1 [c0, c1])) = some y4 := hf 1 _ rfl
    rw [cells_string] at h
    exact h
  obtain ⟨s0, e3, d3, _⟩ := DataW.trod_string Try.underlying9 g0
  obtain ⟨s1, e4, d4, _⟩ := DataW.trod_string Try.underlying9 g1
  injection e3 with e3
  injection e4 with e4
  subst e3 e4 d3 d4 hy
  refine ⟨(s0, s1), trivial, rfl, ?_⟩
  simp only [List.map_cons, List.map_nil, Rows.uptoBulk, Rows.uptoBulkAll, size_toList]
  omega
theorem one_set {n : Nat} {cs : List Value} {y : DataW H × List MemPlace} (h : DataW.trod enc Try.prog w base spare held n 24 cs = some y) : ∃ A len cap l, cs = [.slice A len cap] ∧ SetAt w.heap.size w A len l ∧ len ≤ cap ∧ cap ≤ maxLen ∧ sumN (l.map fun p => p.1.size + p.2.size + 3) + 1 ≤ Rows.uptoBulk y.1 := by
  obtain ⟨A, len, cap, l, rfl, hr, _, hk, h1, h2, _⟩ := row_open (V := pairV) (s := 2) (G := fun _ => True) (K := fun p : PairB => p.1.size + p.2.size + 3) (fun _ => rfl) (by decide) (fun _ => ⟨_, _, rfl⟩) Try.underlying24 cells_pair (fun h => one_pair h) h
  refine ⟨A, len, cap, l, rfl, ⟨pairs_row hr, fun hn a ha => ?_⟩, h1, h2, hk⟩
  obtain ⟨b, off, e, hlt, _⟩ := hr.2 hn
  rw [ha] at e
  injection e with e
  subst e
  exact .inl hlt
theorem some_tags {n : Nat} {cs : List Value} {y : DataW H × List MemPlace} (h : DataW.trod enc Try.prog w base spare held n 28 cs = some y) : ∃ A len cap l, cs = [.slice A len cap] ∧ TagsP w A len l ∧ len ≤ cap ∧ cap ≤ maxLen ∧ bulkG l + 1 ≤ Rows.uptoBulk y.1 := by
  obtain ⟨A, len, cap, l, rfl, hr, hg, hk, h1, h2, _⟩ := row_open (V := tagV) (s := 4) (G := fun t : TagB => t.k < 256) (K := fun t : TagB => t.nm.size + t.vl.size + 6) (fun _ => rfl) (by decide) (fun _ => ⟨_, _, rfl⟩) Try.underlying28 cells_tag (fun h => by
    obtain ⟨t, h1, h2, h3⟩ := one_tag_bulk h
    exact ⟨t, h1, h2, Nat.le_of_eq h3.symm⟩) h
  rw [bulkG_sum] at hk
  exact ⟨A, len, cap, l, rfl, tags_row hr hg, h1, h2, hk⟩
theorem one_ent {n : Nat} {cs : List Value} {y : DataW H × List MemPlace} (h : DataW.trod enc Try.prog w base spare held n 26 cs = some y) : ∃ x : EntX, Good w.heap.size w x ∧ cs = x.V ∧ entK x + 4 ≤ Rows.uptoBulk y.1 := by
  obtain ⟨xs, m, _, hy, hl, hlen, hf⟩ := DataW.trod_struct Try.underlying26 h
  rw [cells_ent] at hl
  obtain ⟨c0, c1, c2, rfl⟩ : ∃ a b c, cs = [a, b, c] := three_of hl
  obtain ⟨y0, y1, y2, rfl⟩ : ∃ a b c, xs = [a, b, c] := three_of hlen
  have f0 : DataW.trod enc Try.prog w base spare held m 2 [c0] = some y0 := by
    have h : DataW.trod enc Try.prog w base spare held m 2 (List.take (Try.prog.cellsOf 2) (List.drop 0 [c0, c1, c2])) = some y0 := hf 0 _ rfl
    rw [cells_i64] at h
    exact h
  have f1 : DataW.trod enc Try.prog w base spare held m 24 [c1] = some y1 := by
    have h : DataW.trod enc Try.prog w base spare held m 24 (List.take (Try.prog.cellsOf 24) (List.drop 1 [c0, c1, c2])) = some y1 := hf 1 _ rfl
    rw [cells_set] at h
    exact h
  have f2 : DataW.trod enc Try.prog w base spare held m 9 [c2] = some y2 := by
    have h : DataW.trod enc Try.prog w base spare held m 9 (List.take (Try.prog.cellsOf 9) (List.drop 2 [c0, c1, c2])) = some y2 := hf 2 _ rfl
    rw [cells_string] at h
    exact h
  obtain ⟨z, e0, d0, hz⟩ := DataW.trod_int Try.underlying2 f0
  obtain ⟨A, len, cap, l, e1, hs, hlc, hcm, hk⟩ := one_set f1
  obtain ⟨s, e2, d2, _⟩ := DataW.trod_string Try.underlying9 f2
  injection e0 with e0
  injection e1 with e1
  injection e2 with e2
  subst e0 e1 e2 d0 d2 hy
  have hz2 : (Lit.int .i64 z).wf = true := hz
  obtain ⟨h1, h2⟩ := bdi64 hz2
  refine ⟨⟨z, A, len, cap, l, s⟩, ⟨hs, ?_, h1, h2⟩, rfl, ?_⟩
  · show len ≤ _
    unfold maxLen at hcm
    omega
  · simp only [entK, List.map_cons, List.map_nil, Rows.uptoBulk, Rows.uptoBulkAll, size_toList]
    omega
theorem one_item {n : Nat} {cs : List Value} {y : DataW H × List MemPlace} (h : DataW.trod enc Try.prog w base spare held n 30 cs = some y) : ∃ x : ItemX, GoodI w.heap.size w x ∧ cs = x.V ∧ itemK x + 1 ≤ Rows.uptoBulk y.1 := by
  obtain ⟨xs, m, _, hy, hl, hlen, hf⟩ := DataW.trod_struct Try.underlying30 h
  rw [cells_item] at hl
  obtain ⟨c0, c1, c2, c3, c4, c5, c6, rfl⟩ : ∃ a b c d e f g, cs = [a, b, c, d, e, f, g] := seven_of hl
  obtain ⟨y0, y1, y2, y3, y4, rfl⟩ : ∃ a b c d e, xs = [a, b, c, d, e] := five_of hlen
  have f0 : DataW.trod enc Try.prog w base spare held m 26 [c0, c1, c2] = some y0 := by
    have h : DataW.trod enc Try.prog w base spare held m 26 (List.take (Try.prog.cellsOf 26) (List.drop 0 [c0, c1, c2, c3, c4, c5, c6])) = some y0 := hf 0 _ rfl
    rw [cells_ent] at h
    exact h
  have f1 : DataW.trod enc Try.prog w base spare held m 4 [c3] = some y1 := by
    have h : DataW.trod enc Try.prog w base spare held m 4 (List.take (Try.prog.cellsOf 4) (List.drop 3 [c0, c1, c2, c3, c4, c5, c6])) = some y1 := hf 1 _ rfl
    rw [cells_bool] at h
    exact h
  have f2 : DataW.trod enc Try.prog w base spare held m 27 [c4] = some y2 := by
    have h : DataW.trod enc Try.prog w base spare held m 27 (List.take (Try.prog.cellsOf 27) (List.drop 4 [c0, c1, c2, c3, c4, c5, c6])) = some y2 := hf 2 _ rfl
    rw [cells_i8] at h
    exact h
  have f3 : DataW.trod enc Try.prog w base spare held m 28 [c5] = some y3 := by
    have h : DataW.trod enc Try.prog w base spare held m 28 (List.take (Try.prog.cellsOf 28) (List.drop 5 [c0, c1, c2, c3, c4, c5, c6])) = some y3 := hf 3 _ rfl
    rw [cells_tags] at h
    exact h
  have f4 : DataW.trod enc Try.prog w base spare held m 5 [c6] = some y4 := by
    have h : DataW.trod enc Try.prog w base spare held m 5 (List.take (Try.prog.cellsOf 5) (List.drop 6 [c0, c1, c2, c3, c4, c5, c6])) = some y4 := hf 4 _ rfl
    rw [cells_u8] at h
    exact h
  obtain ⟨e, he, e0, hk⟩ := one_ent f0
  obtain ⟨ow, e1, d1⟩ := DataW.trod_bool Try.underlying4 f1
  obtain ⟨t, e2, d2, ht⟩ := DataW.trod_int Try.underlying27 f2
  obtain ⟨A, len, cap, l, e3, hts, hlc, hcm, hg⟩ := some_tags f3
  obtain ⟨k, e4, d4, hk8⟩ := DataW.trod_int Try.underlying5 f4
  obtain ⟨k0, k1⟩ := bdu8 hk8
  have ht2 : (Lit.int .i8 t).wf = true := ht
  have ht3 : -128 ≤ t ∧ t ≤ 127 := by
    obtain ⟨b1, b2⟩ := bdi8 ht2
    omega
  obtain ⟨ets, eA, en, ec, els, eln⟩ := e
  simp only [EntX.V, List.cons.injEq, and_true] at e0
  obtain ⟨q0, q1, q2⟩ := e0
  injection e1 with e1
  injection e2 with e2
  injection e3 with e3
  injection e4 with e4
  subst q0 q1 q2 e1 e2 e3 e4 hy
  refine ⟨⟨⟨ets, eA, en, ec, els, eln⟩, ow, t, A, len, cap, l, k.toNat⟩, ⟨he, hts, ?_, ht3.1, ht3.2, ?_⟩, ?_, ?_⟩
  · show len ≤ _
    unfold maxLen at hcm
    omega
  · show k.toNat < 256
    omega
  · show _ = [Value.int .i64 ets, .slice eA en ec, .string eln, .bool ow, .int .i8 t, .slice A len cap, .int .u8 (k.toNat : Int)]
    rw [show (k.toNat : Int) = k by omega]
  · simp only [itemK, List.map_cons, List.map_nil, Rows.uptoBulk, Rows.uptoBulkAll]
    omega
instance : Inhabited ItemX := ⟨inil⟩
theorem items_open {n : Nat} {cs : List Value} {y : DataW H × List MemPlace} (h : DataW.trod enc Try.prog w base spare held n 37 cs = some y) : ∃ A len cap l, cs = [.slice A len cap] ∧ ItemsP w.heap.size w A len l ∧ sumN (l.map itemK) + 1 ≤ Rows.uptoBulk y.1 ∧ len ≤ cap ∧ cap ≤ maxLen := by
  obtain ⟨A, len, cap, l, rfl, hr, hg, hk, h1, h2, _⟩ := row_open (V := ItemX.V) (s := 7) (G := fun x => GoodI w.heap.size w x) (K := itemK) (fun _ => rfl) (by decide) (fun _ => ⟨_, _, rfl⟩) Try.underlying37 cells_item (fun h => by
    obtain ⟨x, h1, h2, h3⟩ := one_item h
    exact ⟨x, h1, h2, by omega⟩) h
  exact ⟨A, len, cap, l, rfl, ⟨hr, hg⟩, hk, h1, h2⟩
end
end Go.Proofs.Ytilcanblgdmecaa
namespace Go.Proofs.Ytilcanblgdmecaa
open Go.RowKit
set_option linter.unusedVariables false
set_option linter.unusedSimpArgs false

theorem rightGo_of : ∀ (l : List PairB) (prev : Option ByteArray), (∀ p ∈ l, nameB p.1 = true ∧ p.2.size ≤ 256) → l.Pairwise RiseP → (∀ q, prev = some q → ∀ p ∈ l, txtC q p.1 < 0) → rightGo prev l = true
  | [], _, _, _, _ => rfl
  | p :: l, prev, h1, h2, h3 => by
    rw [rightGo, Bool.and_eq_true]
    have hp := h1 p List.mem_cons_self
    rw [List.pairwise_cons] at h2
    refine ⟨?_, rightGo_of l (some p.1) (fun q hq => h1 q (List.mem_cons_of_mem _ hq)) h2.2 (fun q hq r hr => by injection hq with hq; subst hq; exact h2.1 r hr)⟩
    unfold okAt
    rw [hp.1, decide_eq_true hp.2]
    cases prev with
    | none => rfl
    | some q =>
      have := h3 q rfl p List.mem_cons_self
      simp [this]
theorem few_mem (lt : List TagB) : ∀ p ∈ fewL lt, nameB p.1 = true ∧ p.1.size ≤ 3 ∧ p.2.size ≤ 3 := by
  intro p hp
  have hs := ofL_set (few2L lt)
  refine ⟨hs.named p hp, ?_⟩
  have h2 : p ∈ few2L lt := by
    unfold fewL at hp
    rw [ofL_mem] at hp
    have := List.mem_of_getLast? hp
    rw [List.mem_filter] at this
    unfold namedL at this
    exact (List.mem_filter.1 this.1).1
  unfold few2L tagsL at h2
  obtain ⟨t, ht, rfl⟩ := List.mem_map.1 h2
  obtain ⟨u, _, rfl⟩ := List.mem_map.1 (List.mem_of_mem_take ht)
  unfold tagP ownT
  dsimp only
  rw [if_pos rfl]
  have hn : ∀ i, i < 5 → (tagNs.getD i .empty).size ≤ 3 := by decide
  have hv : ∀ i, i < 8 → (tagVs.getD i .empty).size ≤ 3 := by decide
  exact ⟨hn _ (by omega), hv _ (by omega)⟩
theorem few_right (lt : List TagB) : rightB (fewL lt) = true := by
  unfold rightB
  rw [decide_eq_true (by have := fewL_len lt; omega), Bool.true_and]
  exact rightGo_of _ _ (fun p hp => ⟨(few_mem lt p hp).1, by have := (few_mem lt p hp).2.2; omega⟩) (ofL_set (few2L lt)).rise (fun q hq => by cases hq)
theorem few_bulk (lt : List TagB) : bulkP (fewL lt) ≤ 10 * (fewL lt).length := by
  have h := few_mem lt
  generalize fewL lt = l at h
  induction l with
  | nil => exact Nat.le_refl _
  | cons p l ih =>
    have h1 := h p List.mem_cons_self
    have h2 := ih fun q hq => h q (List.mem_cons_of_mem _ hq)
    rw [bulkP, List.length_cons]
    omega
theorem line_size (k : Nat) : (lineTs.getD (k % 8) .empty).size ≤ 9 := by
  have h : ∀ i, i < 8 → (lineTs.getD i .empty).size ≤ 9 := by decide
  exact h _ (by omega)
def ownI (x : ItemX) : ItemX := ⟨x.e, true, x.t, x.LA, x.Ln, x.Lc, x.lt, x.k⟩
theorem ownI_good {B : Nat} {w : World} {x : ItemX} (h : GoodI B w x) : GoodI B w (ownI x) := ⟨h.ent, h.tags, h.len, h.lo, h.hi, h.line⟩
/-- what is put of an entry of few, and what that is read as -/
structure FewE (e : EntB) : Prop where
  right : rightE e = true
  lo : -9223372036854775808 ≤ e.ts
  hi : e.ts ≤ 9223372036854775807
  len : e.ls.length ≤ 2
  set : ∀ p ∈ e.ls, p.1.size ≤ 1048576 ∧ p.2.size ≤ 1048576
  join : (joinB ⟨#[44]⟩ (e.ls.map partT)).length ≤ 700000000
  line : e.ln.size ≤ 4000000
  size : (entT e).size ≤ 200
theorem textT_join (ps : List PairB) : (joinB ⟨#[44]⟩ (ps.map partT)).length ≤ (textT ps).size := by
  unfold textT
  rw [ByteArray.size_append, ByteArray.size_append]
  have s3 : (⟨(joinB ⟨#[44]⟩ (ps.map partT)).toArray⟩ : ByteArray).size = (joinB ⟨#[44]⟩ (ps.map partT)).length := by simp [ByteArray.size]
  omega
theorem own_few {B : Nat} {w : World} {x : ItemX} (h : GoodI B w x) : FewE (itemB (ownI x)) := by
  have e : itemB (ownI x) = ⟨x.t.tmod 12, fewL x.lt, lineTs.getD (x.k % 8) .empty⟩ := rfl
  rw [e]
  have h1 := h.lo
  have h2 := h.hi
  have hz : -11 ≤ x.t.tmod 12 ∧ x.t.tmod 12 ≤ 11 := by
    rcases Int.le_total 0 x.t with g | g
    · rw [Int.tmod_eq_emod_of_nonneg g]; omega
    · have e : x.t.tmod 12 = -((-x.t) % 12) := by
        rw [← Int.tmod_eq_emod_of_nonneg (by omega), Int.neg_tmod, Int.neg_neg]
      rw [e]; omega
  have hl := fewL_len x.lt
  have hb := few_bulk x.lt
  have hn := line_size x.k
  have ht := text_size (fewL x.lt)
  have hp := putS_size (lineTs.getD (x.k % 8) .empty)
  have hi := itoaS_size (x.t.tmod 12) (by omega) (by omega)
  refine ⟨?_, by show _ ≤ x.t.tmod 12; omega, by show x.t.tmod 12 ≤ _; omega, hl, fun p hp => ?_, ?_, by show (lineTs.getD (x.k % 8) .empty).size ≤ _; omega, ?_⟩
  · unfold rightE
    dsimp only
    rw [few_right, decide_eq_true (by omega)]
    rfl
  · have := (few_mem x.lt p hp).2
    omega
  · have := textT_join (fewL x.lt)
    dsimp only
    omega
  · unfold entT
    rw [ByteArray.size_append, ByteArray.size_append]
    dsimp only
    omega
/-- what entries are put, one behind the other -/
def putsT : List EntB → ByteArray
  | [] => .empty
  | e :: l => entT e ++ putsT l
theorem putsT_app (l m : List EntB) : putsT (l ++ m) = putsT l ++ putsT m := by
  induction l with
  | nil => show putsT m = ByteArray.empty ++ putsT m; rw [ByteArray.empty_append]
  | cons e l ih => show entT e ++ putsT (l ++ m) = (entT e ++ putsT l) ++ putsT m; rw [ih, ByteArray.append_assoc]
theorem putsT_size (l : List EntB) (h : ∀ e ∈ l, FewE e) : (putsT l).size ≤ 200 * l.length := by
  induction l with
  | nil => exact Nat.le_refl _
  | cons e l ih =>
    rw [putsT, ByteArray.size_append, List.length_cons]
    have h1 := (h e List.mem_cons_self).size
    have h2 := ih fun x hx => h x (List.mem_cons_of_mem _ hx)
    omega
theorem putsT_one (e : EntB) : putsT [e] = entT e := by show entT e ++ ByteArray.empty = _; rw [ByteArray.append_empty]
theorem ent_some (e : EntB) : 1 ≤ (entT e).size := by
  rw [entT_size]
  unfold entL
  obtain ⟨r, h⟩ := textL_head e.ls
  rw [h]
  simp only [List.length_append, List.length_cons]
  omega
theorem entP_puts (e : EntB) (r : ByteArray) (h : FewE e) : entP (entT e ++ r) = some (e, (entT e).size) := by
  rw [entP_text (entT e ++ r) e r.data.toList h.lo h.hi h.right (by rw [text_joined, entT_list]), entT_size]
theorem tail_text (a r : ByteArray) : (a ++ r).extract a.size (a ++ r).size = r := by
  refine text_ext1 ?_
  rw [rest_list]
  unfold atL
  rw [text_joined, ← size_toList, List.drop_left]
def ownL (l : List ItemX) (j : Nat) : List EntB := (l.take j).map fun x => itemB (ownI x)
theorem ownL_next (l : List ItemX) (j : Nat) (hj : j < l.length) : ownL l (j + 1) = ownL l j ++ [itemB (ownI (l.getD j inil))] := by
  unfold ownL
  rw [List.take_succ_eq_append_getElem hj, List.map_append, List.getD_eq_getElem?_getD, List.getElem?_eq_getElem hj]
  rfl
theorem ownL_few {B : Nat} {w : World} {l : List ItemX} (h : ∀ x ∈ l, GoodI B w x) (j : Nat) : ∀ e ∈ ownL l j, FewE e := by
  intro e he
  obtain ⟨x, hx, rfl⟩ := List.mem_map.1 he
  exact own_few (h x (List.mem_of_mem_take hx))
theorem ownL_len (l : List ItemX) (j : Nat) : (ownL l j).length ≤ j := by
  unfold ownL
  rw [List.length_map, List.length_take]
  omega
end Go.Proofs.Ytilcanblgdmecaa
namespace Go.Proofs.Ytilcanblgdmecaa
open Go.RowKit
set_option linter.unusedVariables false
set_option linter.unusedSimpArgs false

structure PutE (e : EntB) : Prop where
  lo : -9223372036854775808 ≤ e.ts
  hi : e.ts ≤ 9223372036854775807
  len : e.ls.length ≤ 1048576
  set : ∀ p ∈ e.ls, p.1.size ≤ 1048576 ∧ p.2.size ≤ 1048576
  join : (joinB ⟨#[44]⟩ (e.ls.map partT)).length ≤ 700000000
  line : e.ln.size ≤ 4000000
  size : (entT e).size ≤ 9000000
theorem FewE.put {e : EntB} (h : FewE e) : PutE e := ⟨h.lo, h.hi, by have := h.len; omega, h.set, h.join, h.line, by have := h.size; omega⟩
theorem sum_bulk (ps : List PairB) : bulkP ps + 2 * ps.length ≤ sumN (ps.map fun p => p.1.size + p.2.size + 3) := by
  induction ps with
  | nil => exact Nat.le_refl _
  | cons p ps ih =>
    rw [bulkP, List.map_cons, sumN, List.length_cons]
    omega
theorem item_put {B : Nat} {w : World} {x : ItemX} (h : GoodI B w x) (hk : itemK x ≤ 1048576) : PutE (itemB x) := by
  cases ho : x.own with
  | true =>
    have e : itemB x = itemB (ownI x) := by unfold itemB ownI; rw [ho]
    rw [e]
    exact (own_few h).put
  | false =>
    have e : itemB x = x.e.b := by unfold itemB; rw [ho]; rfl
    rw [e]
    have hb := sum_bulk x.e.ls
    have h1 : x.e.ln.size + sumN (x.e.ls.map fun p => p.1.size + p.2.size + 3) ≤ 1048576 := by
      unfold itemK entK at hk
      omega
    have ht := text_size x.e.ls
    have hj := textT_join x.e.ls
    have hp := putS_size x.e.ln
    have hi := itoaS_size x.e.ts h.ent.lo h.ent.hi
    refine ⟨h.ent.lo, h.ent.hi, by show x.e.ls.length ≤ _; omega, fun p hp => ?_, by show (joinB ⟨#[44]⟩ (x.e.ls.map partT)).length ≤ _; omega, by show x.e.ln.size ≤ _; omega, ?_⟩
    · have := sumN_mem (List.mem_map.2 ⟨p, hp, rfl⟩ : _ ∈ x.e.ls.map fun p => p.1.size + p.2.size + 3)
      omega
    · unfold entT
      rw [ByteArray.size_append, ByteArray.size_append]
      show (itoaS x.e.ts).size + (textT x.e.ls).size + (putS x.e.ln).size ≤ _
      omega
/-- what is read of what was put, with something behind; of what is cut -/
theorem back_some (e : EntB) (be : ByteArray) (h : PutE e) : ∃ (o : Option (EntB × Nat)) (n : Nat) (ok : Bool), entP (entT e ++ be) = o ∧ (o.map (·.2)).getD 0 = n ∧ o.isSome = ok ∧ (rightE e = true → n = (entT e).size ∧ ok = true ∧ entOf o = e) := by
  refine ⟨_, _, _, rfl, rfl, rfl, fun hr => ?_⟩
  rw [entP_text (entT e ++ be) e be.data.toList h.lo h.hi hr (by rw [text_joined, entT_list]), entT_size]
  exact ⟨rfl, rfl, rfl⟩
theorem back_less (e : EntB) (k : Nat) (h : PutE e) (hk : k < (entT e).size) : ∃ (o : Option (EntB × Nat)) (n : Nat) (ok : Bool), entP ((entT e).extract 0 k) = o ∧ (o.map (·.2)).getD 0 = n ∧ o.isSome = ok ∧ (rightE e = true → ok = false) := by
  refine ⟨_, _, _, rfl, rfl, rfl, fun hr => ?_⟩
  rw [entP_short _ e k h.lo h.hi hr (by rw [← entT_size]; exact hk) (by rw [mid_list, List.drop_zero, entT_list])]
  rfl
end Go.Proofs.Ytilcanblgdmecaa
