-- shaken
import Derived.Test.YtdaainifkldcpaaGreatDoorLabTag
import Derived.Test.YtdaainifkldcpaaGreatDoorUpto
import Derived.Deep.Slices
import Derived.ChangeSame
import Derived.Lib.ItoaNum
import Derived.Lib.ItoaLen
import Derived.Lib.ItoaMem
import Derived.Lib.ParseIntBTie
import Derived.Test.YtdaainifkldcpaaGreatDoorShelf
import Derived.Lib.AppendIntMem
import Derived.Lib.AtoiErrMem
import Derived.Lib.SmallJoins
import Derived.Test.YtdaainifkldcpaaGreatDoorRows
import Derived.Test.YtdaainifkldcpaaGreatDoorBase
import Derived.RowKit
import Derived.WalkLawsBesides
import Derived.Test.YtdaainifkldcpaaGreatDoorLabParse
import Derived.Test.YtdaainifkldcpaaGreatDoorLabText
import Derived.Test.YtdaainifkldcpaaGreatDoorGet
import Derived.Test.YtdaainifkldcpaaGreatDoorLabSets
import Derived.Test.YtdaainifkldcpaaGreatDoorScanQuo
import Derived.Deep.RegionHeld3
import Derived.Test.YtdaainifkldcpaaGreatDoorEntRow
import Derived.Test.YtdaainifkldcpaaGreatDoorScan
import Derived.Test.YtdaainifkldcpaaGreatDoorItems
import Derived.Test.YtdaainifkldcpaaGreatDoorMem
namespace Go.Proofs.YtdaainifkldcpaaGreatDoor
open Go.RowKit Go.ChangeShapes Go.WideShapes Go.Deep
set_option linter.unusedVariables false
set_option linter.unusedSimpArgs false
theorem cells_tag : Tryz.prog.cellsOf 189 = 4 := by kernel_rfl
theorem cells_pair : Tryz.prog.cellsOf 165 = 2 := by kernel_rfl
theorem cells_string : Tryz.prog.cellsOf 9 = 1 := by kernel_rfl
theorem cells_bool : Tryz.prog.cellsOf 4 = 1 := by kernel_rfl
theorem cells_u8 : Tryz.prog.cellsOf 5 = 1 := by kernel_rfl
theorem two_of {α : Type} {l : List α} (h : l.length = 2) : ∃ a b, l = [a, b] := by
  match l, h with
  | [a, b], _ => exact ⟨a, b, rfl⟩
theorem three_of {α : Type} {l : List α} (h : l.length = 3) : ∃ a b c, l = [a, b, c] := by
  match l, h with
  | [a, b, c], _ => exact ⟨a, b, c, rfl⟩
theorem four_of {α : Type} {l : List α} (h : l.length = 4) : ∃ a b c d, l = [a, b, c, d] := by
  match l, h with
  | [a, b, c, d], _ => exact ⟨a, b, c, d, rfl⟩
section
variable {H : Type} {enc : TypeId × Value → H} {w : World} {base : Nat} {spare : Nat → Bool} {held : Bool}
end

end Go.Proofs.YtdaainifkldcpaaGreatDoor
namespace Go.Proofs.YtdaainifkldcpaaGreatDoor
open Go.RowKit Go.ChangeShapes Go.WideShapes Go.Deep
set_option linter.unusedVariables false
set_option linter.unusedSimpArgs false
def bulkG : List TagB → Nat
  | [] => 0
  | t :: ts => t.nm.size + t.vl.size + 6 + bulkG ts
section
variable {H : Type} {enc : TypeId × Value → H} {w : World} {base : Nat} {spare : Nat → Bool} {held : Bool}
theorem one_tag_bulk {n : Nat} {cs : List Value} {y : DataW H × List MemPlace} (h : DataW.trod enc Tryz.prog w base spare held n 189 cs = some y) : ∃ t : TagB, t.k < 256 ∧ cs = [.string t.nm, .string t.vl, .bool t.own, .int .u8 (t.k : Int)] ∧ Rows.uptoBulk y.1 = t.nm.size + t.vl.size + 6 := by
  obtain ⟨xs, m, _, hy, hl, hlen, hf⟩ := DataW.trod_struct Tryz.underlying189 h
  rw [cells_tag] at hl
  obtain ⟨c0, c1, c2, c3, rfl⟩ : ∃ a b c d, cs = [a, b, c, d] := four_of hl
  obtain ⟨y0, y1, y2, rfl⟩ : ∃ a b c, xs = [a, b, c] := three_of hlen
  have f0 : DataW.trod enc Tryz.prog w base spare held m 165 [c0, c1] = some y0 := by
    have h : DataW.trod enc Tryz.prog w base spare held m 165 (List.take (Tryz.prog.cellsOf 165) (List.drop 0 [c0, c1, c2, c3])) = some y0 := hf 0 _ rfl
    rw [cells_pair] at h
    exact h
  have f1 : DataW.trod enc Tryz.prog w base spare held m 4 [c2] = some y1 := by
    have h : DataW.trod enc Tryz.prog w base spare held m 4 (List.take (Tryz.prog.cellsOf 4) (List.drop 2 [c0, c1, c2, c3])) = some y1 := hf 1 _ rfl
    rw [cells_bool] at h
    exact h
  have f2 : DataW.trod enc Tryz.prog w base spare held m 5 [c3] = some y2 := by
    have h : DataW.trod enc Tryz.prog w base spare held m 5 (List.take (Tryz.prog.cellsOf 5) (List.drop 3 [c0, c1, c2, c3])) = some y2 := hf 2 _ rfl
    rw [cells_u8] at h
    exact h
  obtain ⟨ow, e1, d1⟩ := DataW.trod_bool Tryz.underlying4 f1
  obtain ⟨k, e2, d2, hk⟩ := DataW.trod_int Tryz.underlying5 f2
  obtain ⟨k0, k1⟩ := bdu8 hk
  obtain ⟨xs, m, _, d0, _, hlen, hf⟩ := DataW.trod_struct Tryz.underlying165 f0
  obtain ⟨y3, y4, rfl⟩ : ∃ a b, xs = [a, b] := two_of hlen
  have g0 : DataW.trod enc Tryz.prog w base spare held m 9 [c0] = some y3 := by
    have h : DataW.trod enc Tryz.prog w base spare held m 9 (List.take (Tryz.prog.cellsOf 9) (List.drop 0 [c0, c1])) = some y3 := hf 0 _ rfl
    rw [cells_string] at h
    exact h
  have g1 : DataW.trod enc Tryz.prog w base spare held m 9 [c1] = some y4 := by
    have h : DataW.trod enc Tryz.prog w base spare held m 9 (List.take (Tryz.prog.cellsOf 9) (List.drop 1 [c0, c1])) = some y4 := hf 1 _ rfl
    rw [cells_string] at h
    exact h
  obtain ⟨s0, e3, d3, _⟩ := DataW.trod_string Tryz.underlying9 g0
  obtain ⟨s1, e4, d4, _⟩ := DataW.trod_string Tryz.underlying9 g1
  injection e1 with e1
  injection e2 with e2
  injection e3 with e3
  injection e4 with e4
  subst e1 e2 e3 e4 d3 d4 d0 d1 d2 hy
  refine ⟨⟨s0, s1, ow, k.toNat⟩, by show k.toNat < 256; omega, ?_, ?_⟩
  · show _ = [Value.string s0, .string s1, .bool ow, .int .u8 (k.toNat : Int)]
    rw [show (k.toNat : Int) = k by omega]
  · simp only [List.map_cons, List.map_nil, Rows.uptoBulk, Rows.uptoBulkAll, size_toList]
    omega
end

end Go.Proofs.YtdaainifkldcpaaGreatDoor
namespace Go.Proofs.YtdaainifkldcpaaGreatDoor
set_option linter.unusedVariables false
set_option linter.unusedSimpArgs false
open Go.Lib
def itoaS (v : Int) : ByteArray := ⟨(itoa v).toArray⟩

open Go.RowKit
structure LibIs (w : World) : Prop where
  tab : Lib.TabIs Tryz.prog w "internal/strconv.uint64pow10" .u64 Lib.pow10Tab
  syn : ∃ tp p, w.var? Tryz.prog "strconv.ErrSyntax" = some #[.iface tp p]
  rng : ∃ tp p, w.var? Tryz.prog "strconv.ErrRange" = some #[.iface tp p]
theorem libVar {w w' : World} {n : String} {cs : Array Value} (h : w.var? Tryz.prog n = some cs) (hb : Below w.heap.size w w') : w'.var? Tryz.prog n = some cs := by
  unfold World.var? at *
  cases hg : Tryz.prog.globalNamed n with
  | none => simp [hg] at h
  | some g =>
    simp only [hg, Option.bind_some] at h ⊢
    have hlt : g < w.heap.size := by
      rcases Nat.lt_or_ge g w.heap.size with h' | h'
      · exact h'
      · rw [Array.getElem?_eq_none h'] at h; simp at h
    rw [hb.block g hlt]
    exact h
theorem LibIs.below {w w' : World} (h : LibIs w) (hb : Below w.heap.size w w') : LibIs w' :=
  ⟨libVar h.tab hb, by obtain ⟨tp, p, e⟩ := h.syn; exact ⟨tp, p, libVar e hb⟩, by obtain ⟨tp, p, e⟩ := h.rng; exact ⟨tp, p, libVar e hb⟩⟩
theorem LibIs.alloc {w : World} (h : LibIs w) (o : Obj) : LibIs (w.alloc o) := h.below ((Below.refl _ _).alloc (Nat.le_refl _) o)
theorem LibIs.drewN {w : World} (h : LibIs w) (q : Nat) : LibIs (w.drewN q) := h.below (below_drewN (Below.refl _ _) q)
theorem LibIs.drew {w : World} (h : LibIs w) : LibIs w.drew := h.below (below_drewN (Below.refl _ _) 1)
section
variable (W : World) (g : Nat)
variable (hl : LibIs W)
include hl
end

end Go.Proofs.YtdaainifkldcpaaGreatDoor
namespace Go.Proofs.YtdaainifkldcpaaGreatDoor
open Go.RowKit
set_option linter.unusedVariables false
set_option linter.unusedSimpArgs false
def textT (ps : List PairB) : ByteArray := (⟨#[123]⟩ : ByteArray) ++ (⟨(joinB ⟨#[44]⟩ (ps.map partT)).toArray⟩ : ByteArray) ++ (⟨#[125]⟩ : ByteArray)

open Go.Lib
def entT (e : EntB) : ByteArray := itoaS e.ts ++ textT e.ls ++ putS e.ln
theorem good_nil (B : Nat) (w : World) : Good B w xnil := ⟨⟨pairs_none w, fun h => absurd h (by decide)⟩, by decide, by decide, by decide⟩
def EntX.arr (x : EntX) : Array Value := #[.int .i64 x.ts, .slice x.A x.n x.c, .string x.ln]
structure Held (W w : World) (l : List (Nat × EntX)) : Prop where
  below : Below W.heap.size W w
  blk : ∀ p ∈ l, Blk w p.1 47 p.2.arr ∧ Good W.heap.size w p.2
section
variable {W w w' : World} {l : List (Nat × EntX)}
theorem Held.nil (h : Below W.heap.size W w) : Held W w [] := ⟨h, fun p hp => by cases hp⟩
theorem Held.next (h : Held W w l) (hx : Below w.heap.size w w') : Held W w' l :=
  ⟨hop h.below (Nat.le_refl _) hx, fun p hp => ⟨(h.blk p hp).1.below hx (h.blk p hp).1.lt, (h.blk p hp).2.below hx⟩⟩
theorem Held.alloc (h : Held W w l) (o : Obj) : Held W (w.alloc o) l := h.next ((Below.refl _ _).alloc (Nat.le_refl _) o)
theorem Held.drewN (h : Held W w l) (q : Nat) : Held W (w.drewN q) l := h.next (below_drewN (Below.refl _ _) q)
theorem Held.cells (h : Held W w l) {g : Nat} {x : EntX} (hm : (g, x) ∈ l) : w.cell? ⟨g, 0, none⟩ = some (.int .i64 x.ts) ∧ w.cell? ⟨g, 1, none⟩ = some (.slice x.A x.n x.c) ∧ w.cell? ⟨g, 2, none⟩ = some (.string x.ln) := by
  obtain ⟨hb, _⟩ := h.blk _ hm
  exact ⟨(hb.cell 0).trans rfl, (hb.cell 1).trans rfl, (hb.cell 2).trans rfl⟩
theorem Held.good (h : Held W w l) {g : Nat} {x : EntX} (hm : (g, x) ∈ l) : Good W.heap.size w x := (h.blk _ hm).2
end
theorem same_good (a b : EntX) {B1 B2 : Nat} (w : World) (ha : Good B1 w a) (hb : Good B2 w b) :
    Calls Tryz.prog 26 #[.agg #[.int .i64 a.ts, .slice a.A a.n a.c, .string a.ln], .agg #[.int .i64 b.ts, .slice b.A b.n b.c, .string b.ln]] w fun e w' => e = .returned (.bool (sameE a.b b.b)) ∧ Below w.heap.size w w' :=
  entSame_any a.ts b.ts a.A b.A a.n b.n a.c b.c a.ls b.ls a.ln b.ln ha.len hb.len w ha.set.1 hb.set.1
theorem ahead_good (a b : EntX) (asc : Bool) {B1 B2 : Nat} (w : World) (ha : Good B1 w a) (hb : Good B2 w b) :
    Calls Tryz.prog 25 #[.agg #[.int .i64 a.ts, .slice a.A a.n a.c, .string a.ln], .agg #[.int .i64 b.ts, .slice b.A b.n b.c, .string b.ln], .bool asc] w fun e w' => e = .returned (.bool (aheadB a.b b.b asc)) ∧ Below w.heap.size w w' :=
  entAhead_any a.ts b.ts a.A b.A a.n b.n a.c b.c a.ls b.ls a.ln b.ln asc ha.len hb.len w ha.set.1 hb.set.1

end Go.Proofs.YtdaainifkldcpaaGreatDoor
namespace Go.Proofs.YtdaainifkldcpaaGreatDoor
open Go.RowKit
set_option linter.unusedVariables false
set_option linter.unusedSimpArgs false

open Go.ChangeShapes Go.WideShapes Go.Deep
theorem cells_set : Tryz.prog.cellsOf 45 = 1 := by kernel_rfl
theorem cells_ent : Tryz.prog.cellsOf 47 = 3 := by kernel_rfl
theorem cells_item : Tryz.prog.cellsOf 53 = 7 := by kernel_rfl
theorem cells_i64 : Tryz.prog.cellsOf 2 = 1 := by kernel_rfl
theorem cells_i8 : Tryz.prog.cellsOf 50 = 1 := by kernel_rfl
theorem cells_tags : Tryz.prog.cellsOf 51 = 1 := by kernel_rfl
theorem bdi8 {x : Int} (h : (Lit.int .i8 x).wf = true) : -128 ≤ x ∧ x ≤ 127 := by
  simpa [Lit.wf, IntKind.min, IntKind.max, IntKind.signed, IntKind.bits] using h
def sumN : List Nat → Nat
  | [] => 0
  | n :: l => n + sumN l
theorem five_of {α : Type} {l : List α} (h : l.length = 5) : ∃ a b c d e, l = [a, b, c, d, e] := by
  match l, h with
  | [a, b, c, d, e], _ => exact ⟨a, b, c, d, e, rfl⟩
theorem seven_of {α : Type} {l : List α} (h : l.length = 7) : ∃ a b c d e f g, l = [a, b, c, d, e, f, g] := by
  match l, h with
  | [a, b, c, d, e, f, g], _ => exact ⟨a, b, c, d, e, f, g, rfl⟩
def tagV (t : TagB) : List Value := [.string t.nm, .string t.vl, .bool t.own, .int .u8 (t.k : Int)]
def entK (x : EntX) : Nat := x.ln.size + sumN (x.ls.map fun p => p.1.size + p.2.size + 3)
def itemK (x : ItemX) : Nat := entK x.e + bulkG x.lt
theorem pairs_row {w : World} {A : Option Addr} {n : Nat} {l : List PairB} (h : RowR pairV 2 w A n l) : Pairs w A n l := by
  refine ⟨h.1, fun hn => ?_⟩
  obtain ⟨b, off, e, hlt, hc⟩ := h.2 hn
  refine ⟨b, off, e, hlt, fun j hj => ?_⟩
  have hg : l[j]? = some (l.getD j pnil) := by
    have := h.1
    rw [List.getD_eq_getElem?_getD, List.getElem?_eq_getElem (by omega)]
    rfl
  exact ⟨hc j 0 _ hg (by decide), hc j 1 _ hg (by decide)⟩
theorem tags_row {w : World} {A : Option Addr} {n : Nat} {l : List TagB} (h : RowR tagV 4 w A n l) (hk : ∀ t ∈ l, t.k < 256) : TagsP w A n l := by
  refine ⟨h.1, hk, fun hn => ?_⟩
  obtain ⟨b, off, e, hlt, hc⟩ := h.2 hn
  refine ⟨b, off, e, hlt, fun j hj => ?_⟩
  have hg : l[j]? = some (l.getD j default) := by
    have := h.1
    rw [List.getD_eq_getElem?_getD, List.getElem?_eq_getElem (by omega)]
    rfl
  exact ⟨hc j 0 _ hg (by decide), hc j 1 _ hg (by decide), hc j 2 _ hg (by decide), hc j 3 _ hg (by decide)⟩
theorem bulkG_sum (l : List TagB) : sumN (l.map fun t => t.nm.size + t.vl.size + 6) = bulkG l := by
  induction l with
  | nil => rfl
  | cons t l ih => rw [List.map_cons, sumN, ih, bulkG]
section
variable {H : Type} {enc : TypeId × Value → H} {w : World} {base : Nat} {spare : Nat → Bool} {held : Bool}
theorem row_all {α : Type} (K : α → Nat) (T : Nat → α) (D : Nat → DataW H) : ∀ (l : List Nat), (∀ i ∈ l, K (T i) ≤ Rows.uptoBulk (D i)) → sumN ((l.map T).map K) ≤ Rows.uptoBulkAll (l.map D)
  | [], _ => Nat.le_refl _
  | i :: l, h => by
    have h1 := h i List.mem_cons_self
    have h2 := row_all K T D l fun j hj => h j (List.mem_cons_of_mem _ hj)
    simp only [List.map_cons, sumN, Rows.uptoBulkAll]
    omega
theorem row_open {α : Type} [Inhabited α] {V : α → List Value} {s : Nat} {G : α → Prop} {K : α → Nat} (hV : ∀ a, (V a).length = s) (hs : 0 < s) (hv : ∀ a, ∃ v r, V a = v :: r) {t e : TypeId} (ht : Tryz.prog.underlying t = some (.slice e)) (hc : Tryz.prog.cellsOf e = s)
    (one : ∀ {n : Nat} {cs : List Value} {y : DataW H × List MemPlace}, DataW.trod enc Tryz.prog w base spare held n e cs = some y → ∃ a, G a ∧ cs = V a ∧ K a ≤ Rows.uptoBulk y.1)
    {fuel : Nat} {cs : List Value} {x : DataW H × List MemPlace} (h : DataW.trod enc Tryz.prog w base spare held fuel t cs = some x) :
    ∃ A len cap l, cs = [.slice A len cap] ∧ RowR V s w A len l ∧ (∀ a ∈ l, G a) ∧ sumN (l.map K) + 1 ≤ Rows.uptoBulk x.1 ∧ len ≤ cap ∧ cap ≤ maxLen ∧ (A = none → len = 0 ∧ cap = 0) := by
  rcases open_slice ht h with ⟨rfl, rfl⟩ | ⟨a, len, cap, m, n, D, Pl, rfl, _, hl, hm, hmm, hxx, hx⟩
  · exact ⟨none, 0, 0, [], rfl, RowR.none w, (fun _ h => by cases h), by simp [sumN, Rows.uptoBulk], Nat.le_refl _, Nat.zero_le _, fun _ => ⟨rfl, rfl⟩⟩
  · have hlm : len ≤ m := by rw [hmm]; split <;> omega
    obtain ⟨T, hT⟩ := choose_lt (α := α) (n := len) (p := fun i t => G t ∧ w.cells? base (a.add (i * s)) s = some (V t) ∧ K t ≤ Rows.uptoBulk (D i)) (fun i hi => by
      obtain ⟨cs', h1, h2⟩ := hx i (by omega)
      rw [hc] at h1
      obtain ⟨t, hk, rfl, hq⟩ := one h2
      exact ⟨t, hk, h1, hq⟩)
    refine ⟨some a, len, cap, (List.range len).map T, rfl, ⟨by simp, ?_⟩, ?_, ?_, hl, hm, fun e => by cases e⟩
    · intro hn
      obtain ⟨b, off, spot⟩ := a
      have h0 := (World.cells?_some (hT 0 hn).2.1).2.2 0 hs
      obtain ⟨v, r, hvr⟩ := hv (T 0)
      rw [hvr] at h0
      have h00 : w.cell? (((⟨b, off, spot⟩ : Addr).add (0 * s)).add 0) = some v := h0
      rw [Nat.zero_mul] at h00
      have hspot : spot = none := by simpa [Addr.add] using World.cell?_spot h00
      subst hspot
      have hlt := block_lt_of_cell h00
      rw [ints_add, ints_add] at hlt
      refine ⟨b, off, rfl, hlt, fun j i t hj hi => ?_⟩
      have hjl : j < len := by
        rcases Nat.lt_or_ge j len with h1 | h1
        · exact h1
        · rw [List.getElem?_eq_none (by simpa using h1)] at hj; cases hj
      have e : T j = t := by
        rw [List.getElem?_map, List.getElem?_range hjl] at hj
        exact Option.some.inj hj
      have hcc := (World.cells?_some (hT j hjl).2.1).2.2 i hi
      rw [ints_add, ints_add, e] at hcc
      exact hcc
    · intro t ht
      obtain ⟨i, hi, rfl⟩ := List.mem_map.1 ht
      exact (hT i (List.mem_range.1 hi)).1
    · have h1 := row_all K T D (List.range len) fun i hi => (hT i (List.mem_range.1 hi)).2.2
      rw [hxx]
      simp only [Rows.uptoBulk]
      omega
theorem one_pair {n : Nat} {cs : List Value} {y : DataW H × List MemPlace} (h : DataW.trod enc Tryz.prog w base spare held n 165 cs = some y) : ∃ p : PairB, True ∧ cs = pairV p ∧ p.1.size + p.2.size + 3 ≤ Rows.uptoBulk y.1 := by
  obtain ⟨xs, m, _, hy, hl, hlen, hf⟩ := DataW.trod_struct Tryz.underlying165 h
  rw [cells_pair] at hl
  obtain ⟨c0, c1, rfl⟩ : ∃ a b, cs = [a, b] := two_of hl
  obtain ⟨y3, y4, rfl⟩ : ∃ a b, xs = [a, b] := two_of hlen
  have g0 : DataW.trod enc Tryz.prog w base spare held m 9 [c0] = some y3 := by
    have h : DataW.trod enc Tryz.prog w base spare held m 9 (List.take (Tryz.prog.cellsOf 9) (List.drop 0 [c0, c1])) = some y3 := hf 0 _ rfl
    rw [cells_string] at h
    exact h
  have g1 : DataW.trod enc Tryz.prog w base spare held m 9 [c1] = some y4 := by
    have h : DataW.trod enc Tryz.prog w base spare held m 9 (List.take (Tryz.prog.cellsOf 9) (List.drop 1 [c0, c1])) = some y4 := hf 1 _ rfl
    rw [cells_string] at h
    exact h
  obtain ⟨s0, e3, d3, _⟩ := DataW.trod_string Tryz.underlying9 g0
  obtain ⟨s1, e4, d4, _⟩ := DataW.trod_string Tryz.underlying9 g1
  injection e3 with e3
  injection e4 with e4
  subst e3 e4 d3 d4 hy
  refine ⟨(s0, s1), trivial, rfl, ?_⟩
  simp only [List.map_cons, List.map_nil, Rows.uptoBulk, Rows.uptoBulkAll, size_toList]
  omega
theorem one_set {n : Nat} {cs : List Value} {y : DataW H × List MemPlace} (h : DataW.trod enc Tryz.prog w base spare held n 45 cs = some y) : ∃ A len cap l, cs = [.slice A len cap] ∧ SetAt w.heap.size w A len l ∧ len ≤ cap ∧ cap ≤ maxLen ∧ sumN (l.map fun p => p.1.size + p.2.size + 3) + 1 ≤ Rows.uptoBulk y.1 := by
  obtain ⟨A, len, cap, l, rfl, hr, _, hk, h1, h2, _⟩ := row_open (V := pairV) (s := 2) (G := fun _ => True) (K := fun p : PairB => p.1.size + p.2.size + 3) (fun _ => rfl) (by decide) (fun _ => ⟨_, _, rfl⟩) Tryz.underlying45 cells_pair (fun h => one_pair h) h
  refine ⟨A, len, cap, l, rfl, ⟨pairs_row hr, fun hn a ha => ?_⟩, h1, h2, hk⟩
  obtain ⟨b, off, e, hlt, _⟩ := hr.2 hn
  rw [ha] at e
  injection e with e
  subst e
  exact .inl hlt
theorem some_tags {n : Nat} {cs : List Value} {y : DataW H × List MemPlace} (h : DataW.trod enc Tryz.prog w base spare held n 51 cs = some y) : ∃ A len cap l, cs = [.slice A len cap] ∧ TagsP w A len l ∧ len ≤ cap ∧ cap ≤ maxLen ∧ bulkG l + 1 ≤ Rows.uptoBulk y.1 := by
  obtain ⟨A, len, cap, l, rfl, hr, hg, hk, h1, h2, _⟩ := row_open (V := tagV) (s := 4) (G := fun t : TagB => t.k < 256) (K := fun t : TagB => t.nm.size + t.vl.size + 6) (fun _ => rfl) (by decide) (fun _ => ⟨_, _, rfl⟩) Tryz.underlying51 cells_tag (fun h => by
    obtain ⟨t, h1, h2, h3⟩ := one_tag_bulk h
    exact ⟨t, h1, h2, Nat.le_of_eq h3.symm⟩) h
  rw [bulkG_sum] at hk
  exact ⟨A, len, cap, l, rfl, tags_row hr hg, h1, h2, hk⟩
theorem one_ent {n : Nat} {cs : List Value} {y : DataW H × List MemPlace} (h : DataW.trod enc Tryz.prog w base spare held n 47 cs = some y) : ∃ x : EntX, Good w.heap.size w x ∧ cs = x.V ∧ entK x + 4 ≤ Rows.uptoBulk y.1 := by
  obtain ⟨xs, m, _, hy, hl, hlen, hf⟩ := DataW.trod_struct Tryz.underlying47 h
  rw [cells_ent] at hl
  obtain ⟨c0, c1, c2, rfl⟩ : ∃ a b c, cs = [a, b, c] := three_of hl
  obtain ⟨y0, y1, y2, rfl⟩ : ∃ a b c, xs = [a, b, c] := three_of hlen
  have f0 : DataW.trod enc Tryz.prog w base spare held m 2 [c0] = some y0 := by
    have h : DataW.trod enc Tryz.prog w base spare held m 2 (List.take (Tryz.prog.cellsOf 2) (List.drop 0 [c0, c1, c2])) = some y0 := hf 0 _ rfl
    rw [cells_i64] at h
    exact h
  have f1 : DataW.trod enc Tryz.prog w base spare held m 45 [c1] = some y1 := by
    have h : DataW.trod enc Tryz.prog w base spare held m 45 (List.take (Tryz.prog.cellsOf 45) (List.drop 1 [c0, c1, c2])) = some y1 := hf 1 _ rfl
    rw [cells_set] at h
    exact h
  have f2 : DataW.trod enc Tryz.prog w base spare held m 9 [c2] = some y2 := by
    have h : DataW.trod enc Tryz.prog w base spare held m 9 (List.take (Tryz.prog.cellsOf 9) (List.drop 2 [c0, c1, c2])) = some y2 := hf 2 _ rfl
    rw [cells_string] at h
    exact h
  obtain ⟨z, e0, d0, hz⟩ := DataW.trod_int Tryz.underlying2 f0
  obtain ⟨A, len, cap, l, e1, hs, hlc, hcm, hk⟩ := one_set f1
  obtain ⟨s, e2, d2, _⟩ := DataW.trod_string Tryz.underlying9 f2
  injection e0 with e0
  injection e1 with e1
  injection e2 with e2
  subst e0 e1 e2 d0 d2 hy
  have hz2 : (Lit.int .i64 z).wf = true := hz
  obtain ⟨h1, h2⟩ := bdi64 hz2
  refine ⟨⟨z, A, len, cap, l, s⟩, ⟨hs, ?_, h1, h2⟩, rfl, ?_⟩
  · show len ≤ _
    unfold maxLen at hcm
    omega
  · simp only [entK, List.map_cons, List.map_nil, Rows.uptoBulk, Rows.uptoBulkAll, size_toList]
    omega
theorem one_item {n : Nat} {cs : List Value} {y : DataW H × List MemPlace} (h : DataW.trod enc Tryz.prog w base spare held n 53 cs = some y) : ∃ x : ItemX, GoodI w.heap.size w x ∧ cs = x.V ∧ itemK x + 1 ≤ Rows.uptoBulk y.1 := by
  obtain ⟨xs, m, _, hy, hl, hlen, hf⟩ := DataW.trod_struct Tryz.underlying53 h
  rw [cells_item] at hl
  obtain ⟨c0, c1, c2, c3, c4, c5, c6, rfl⟩ : ∃ a b c d e f g, cs = [a, b, c, d, e, f, g] := seven_of hl
  obtain ⟨y0, y1, y2, y3, y4, rfl⟩ : ∃ a b c d e, xs = [a, b, c, d, e] := five_of hlen
  have f0 : DataW.trod enc Tryz.prog w base spare held m 47 [c0, c1, c2] = some y0 := by
    have h : DataW.trod enc Tryz.prog w base spare held m 47 (List.take (Tryz.prog.cellsOf 47) (List.drop 0 [c0, c1, c2, c3, c4, c5, c6])) = some y0 := hf 0 _ rfl
    rw [cells_ent] at h
    exact h
  have f1 : DataW.trod enc Tryz.prog w base spare held m 4 [c3] = some y1 := by
    have h : DataW.trod enc Tryz.prog w base spare held m 4 (List.take (Tryz.prog.cellsOf 4) (List.drop 3 [c0, c1, c2, c3, c4, c5, c6])) = some y1 := hf 1 _ rfl
    rw [cells_bool] at h
    exact h
  have f2 : DataW.trod enc Tryz.prog w base spare held m 50 [c4] = some y2 := by
    have h : DataW.trod enc Tryz.prog w base spare held m 50 (List.take (Tryz.prog.cellsOf 50) (List.drop 4 [c0, c1, c2, c3, c4, c5, c6])) = some y2 := hf 2 _ rfl
    rw [cells_i8] at h
    exact h
  have f3 : DataW.trod enc Tryz.prog w base spare held m 51 [c5] = some y3 := by
    have h : DataW.trod enc Tryz.prog w base spare held m 51 (List.take (Tryz.prog.cellsOf 51) (List.drop 5 [c0, c1, c2, c3, c4, c5, c6])) = some y3 := hf 3 _ rfl
    rw [cells_tags] at h
    exact h
  have f4 : DataW.trod enc Tryz.prog w base spare held m 5 [c6] = some y4 := by
    have h : DataW.trod enc Tryz.prog w base spare held m 5 (List.take (Tryz.prog.cellsOf 5) (List.drop 6 [c0, c1, c2, c3, c4, c5, c6])) = some y4 := hf 4 _ rfl
    rw [cells_u8] at h
    exact h
  obtain ⟨e, he, e0, hk⟩ := one_ent f0
  obtain ⟨ow, e1, d1⟩ := DataW.trod_bool Tryz.underlying4 f1
  obtain ⟨t, e2, d2, ht⟩ := DataW.trod_int Tryz.underlying50 f2
  obtain ⟨A, len, cap, l, e3, hts, hlc, hcm, hg⟩ := some_tags f3
  obtain ⟨k, e4, d4, hk8⟩ := DataW.trod_int Tryz.underlying5 f4
  obtain ⟨k0, k1⟩ := bdu8 hk8
  have ht2 : (Lit.int .i8 t).wf = true := ht
  have ht3 : -128 ≤ t ∧ t ≤ 127 := by
    obtain ⟨b1, b2⟩ := bdi8 ht2
    omega
  obtain ⟨ets, eA, en, ec, els, eln⟩ := e
  simp only [EntX.V, List.cons.injEq, and_true] at e0
  obtain ⟨q0, q1, q2⟩ := e0
  injection e1 with e1
  injection e2 with e2
  injection e3 with e3
  injection e4 with e4
  subst q0 q1 q2 e1 e2 e3 e4 hy
  refine ⟨⟨⟨ets, eA, en, ec, els, eln⟩, ow, t, A, len, cap, l, k.toNat⟩, ⟨he, hts, ?_, ht3.1, ht3.2, ?_⟩, ?_, ?_⟩
  · show len ≤ _
    unfold maxLen at hcm
    omega
  · show k.toNat < 256
    omega
  · show _ = [Value.int .i64 ets, .slice eA en ec, .string eln, .bool ow, .int .i8 t, .slice A len cap, .int .u8 (k.toNat : Int)]
    rw [show (k.toNat : Int) = k by omega]
  · simp only [itemK, List.map_cons, List.map_nil, Rows.uptoBulk, Rows.uptoBulkAll]
    omega
instance : Inhabited ItemX := ⟨inil⟩
end

end Go.Proofs.YtdaainifkldcpaaGreatDoor
namespace Go.Proofs.YtdaainifkldcpaaGreatDoor
open Go.RowKit
set_option linter.unusedVariables false
set_option linter.unusedSimpArgs false
theorem rightGo_of : ∀ (l : List PairB) (prev : Option ByteArray), (∀ p ∈ l, nameB p.1 = true ∧ p.2.size ≤ 256) → l.Pairwise RiseP → (∀ q, prev = some q → ∀ p ∈ l, txtC q p.1 < 0) → rightGo prev l = true
  | [], _, _, _, _ => rfl
  | p :: l, prev, h1, h2, h3 => by
    rw [rightGo, Bool.and_eq_true]
    have hp := h1 p List.mem_cons_self
    rw [List.pairwise_cons] at h2
    refine ⟨?_, rightGo_of l (some p.1) (fun q hq => h1 q (List.mem_cons_of_mem _ hq)) h2.2 (fun q hq r hr => by injection hq with hq; subst hq; exact h2.1 r hr)⟩
    unfold okAt
    rw [hp.1, decide_eq_true hp.2]
    cases prev with
    | none => rfl
    | some q =>
      have := h3 q rfl p List.mem_cons_self
      simp [this]
theorem few_mem (lt : List TagB) : ∀ p ∈ fewL lt, nameB p.1 = true ∧ p.1.size ≤ 3 ∧ p.2.size ≤ 3 := by
  intro p hp
  have hs := ofL_set (few2L lt)
  refine ⟨hs.named p hp, ?_⟩
  have h2 : p ∈ few2L lt := by
    unfold fewL at hp
    rw [ofL_mem] at hp
    have := List.mem_of_getLast? hp
    rw [List.mem_filter] at this
    unfold namedL at this
    exact (List.mem_filter.1 this.1).1
  unfold few2L tagsL at h2
  obtain ⟨t, ht, rfl⟩ := List.mem_map.1 h2
  obtain ⟨u, _, rfl⟩ := List.mem_map.1 (List.mem_of_mem_take ht)
  unfold tagP ownT
  dsimp only
  rw [if_pos rfl]
  have hn : ∀ i, i < 5 → (tagNs.getD i .empty).size ≤ 3 := by decide
  have hv : ∀ i, i < 8 → (tagVs.getD i .empty).size ≤ 3 := by decide
  exact ⟨hn _ (by omega), hv _ (by omega)⟩
theorem few_right (lt : List TagB) : rightB (fewL lt) = true := by
  unfold rightB
  rw [decide_eq_true (by have := fewL_len lt; omega), Bool.true_and]
  exact rightGo_of _ _ (fun p hp => ⟨(few_mem lt p hp).1, by have := (few_mem lt p hp).2.2; omega⟩) (ofL_set (few2L lt)).rise (fun q hq => by cases hq)
theorem line_size (k : Nat) : (lineTs.getD (k % 8) .empty).size ≤ 9 := by
  have h : ∀ i, i < 8 → (lineTs.getD i .empty).size ≤ 9 := by decide
  exact h _ (by omega)
def ownI (x : ItemX) : ItemX := ⟨x.e, true, x.t, x.LA, x.Ln, x.Lc, x.lt, x.k⟩
theorem ownI_good {B : Nat} {w : World} {x : ItemX} (h : GoodI B w x) : GoodI B w (ownI x) := ⟨h.ent, h.tags, h.len, h.lo, h.hi, h.line⟩
structure FewE (e : EntB) : Prop where
  right : rightE e = true
  lo : -9223372036854775808 ≤ e.ts
  hi : e.ts ≤ 9223372036854775807
  len : e.ls.length ≤ 2
  set : ∀ p ∈ e.ls, p.1.size ≤ 1048576 ∧ p.2.size ≤ 1048576
  join : (joinB ⟨#[44]⟩ (e.ls.map partT)).length ≤ 700000000
  line : e.ln.size ≤ 4000000
  size : (entT e).size ≤ 200
structure PutE (e : EntB) : Prop where
  lo : -9223372036854775808 ≤ e.ts
  hi : e.ts ≤ 9223372036854775807
  len : e.ls.length ≤ 1048576
  set : ∀ p ∈ e.ls, p.1.size ≤ 1048576 ∧ p.2.size ≤ 1048576
  join : (joinB ⟨#[44]⟩ (e.ls.map partT)).length ≤ 700000000
  line : e.ln.size ≤ 4000000
  size : (entT e).size ≤ 9000000
theorem FewE.put {e : EntB} (h : FewE e) : PutE e := ⟨h.lo, h.hi, by have := h.len; omega, h.set, h.join, h.line, by have := h.size; omega⟩
end Go.Proofs.YtdaainifkldcpaaGreatDoor
