/- Labels of few, an entry by its parts.
   An entry by its parts.
   An entry by its parts, whichever; some of them. -/
import Derived.Test.YtfamcebgcpaolaaDoorEntRow
import Derived.Test.YtfamcebgcpaolaaDoorLabTags
import Derived.Deep.RegionHeld3
namespace Go.Proofs.YtfamcebgcpaolaaDoor
open Go.RowKit
set_option linter.unusedVariables false
set_option linter.unusedSimpArgs false

def ownT (t : TagB) : TagB := ⟨t.nm, t.vl, true, t.k⟩
def few2L (ts : List TagB) : List PairB := tagsL (ts.map ownT) 2
def fewL (ts : List TagB) : List PairB := ofL (few2L ts)
theorem few2_next (ts : List TagB) (j : Nat) (hj : j < ts.length) : tagsL (ts.map ownT) (j + 1) = tagsL (ts.map ownT) j ++ [tagP (ownT (ts.getD j default))] := by
  rw [tagsL_next _ j (by rw [List.length_map]; exact hj)]
  congr 2
  rw [List.getD_eq_getElem?_getD, List.getD_eq_getElem?_getD, List.getElem?_map, List.getElem?_eq_getElem hj]
  rfl
theorem SetAt.ofP {B B' : Nat} {w : World} {v : Value} {l : List PairB} (h : OwnP w B' v l) : ∃ A n c, v = .slice A n c ∧ n = l.length ∧ SetAt B w A n l := by
  obtain ⟨A, cap, rfl, _, hp⟩ := h.pairs
  refine ⟨A, _, cap, rfl, rfl, hp, fun h0 a ha => ?_⟩
  rcases h.2 with ⟨e, h1⟩ | ⟨g, cap2, cur, e, _, hh, _⟩
  · omega
  · injection e with e1 _ _
    rw [ha] at e1
    injection e1 with e1
    subst e1
    exact .inr ⟨cur, hh⟩

end Go.Proofs.YtfamcebgcpaolaaDoor
namespace Go.Proofs.YtfamcebgcpaolaaDoor
open Go.RowKit
set_option linter.unusedVariables false
set_option linter.unusedSimpArgs false

section
variable {P : Program} {md : Region.Mode} {ops : Array Oper} {Q : Exit → Act → World → Prop} {S S2 : World → Prop}
/-- more may be held from here on -/
theorem wpAnyH_mono (h : ∀ w, S2 w → S w) : ∀ (fuel : Nat) (listed : Array Bool) (a : Act) (w : World), wpAnyH P md ops Q S2 fuel listed a w → wpAnyH P md ops Q S fuel listed a w
  | 0, _, _, _, hw => hw
  | fuel + 1, _, _, _, hw => ⟨hw.1, fun i hi => wpOp_mono (fun a' w' h' => ⟨h _ h'.1, wpAnyH_mono h fuel _ a' w' h'.2⟩) (hw.2 i hi)⟩
end
/-- an entry by its parts, as it lies in memory -/
structure ItemX where
  e : EntX
  own : Bool
  t : Int
  LA : Option Addr
  Ln : Nat
  Lc : Nat
  lt : List TagB
  k : Nat
def lineTs : List ByteArray := [⟨#[97]⟩, ⟨#[98]⟩, ⟨#[110, 61, 55]⟩, ⟨#[108, 118, 108, 61, 98, 32, 110, 61, 51]⟩, ⟨#[120, 49]⟩, ⟨#[]⟩, ⟨#[100, 117, 114, 61, 53, 109]⟩, ⟨#[101, 114, 114, 111, 114, 58, 32, 97]⟩]
def itemB (x : ItemX) : EntB := if x.own then ⟨x.t.tmod 12, fewL x.lt, lineTs.getD (x.k % 8) .empty⟩ else x.e.b
def ItemX.val (x : ItemX) : Value := .agg #[.int .i64 x.e.ts, .slice x.e.A x.e.n x.e.c, .string x.e.ln, .bool x.own, .int .i8 x.t, .slice x.LA x.Ln x.Lc, .int .u8 (x.k : Int)]
structure GoodI (B : Nat) (w : World) (x : ItemX) : Prop where
  ent : Good B w x.e
  tags : TagsP w x.LA x.Ln x.lt
  len : x.Ln ≤ 9223372036854775807
  lo : -128 ≤ x.t
  hi : x.t ≤ 127
  line : x.k < 256
theorem GoodI.below {B : Nat} {w w' : World} {x : ItemX} (h : GoodI B w x) (hb : Below w.heap.size w w') : GoodI B w' x := ⟨h.ent.below hb, h.tags.below hb, h.len, h.lo, h.hi, h.line⟩
theorem GoodI.mono {B B' : Nat} {w : World} {x : ItemX} (h : GoodI B w x) (hB : B ≤ B') : GoodI B' w x := ⟨h.ent.mono hB, h.tags, h.len, h.lo, h.hi, h.line⟩

end Go.Proofs.YtfamcebgcpaolaaDoor
namespace Go.Proofs.YtfamcebgcpaolaaDoor
open Go.RowKit
set_option linter.unusedVariables false
set_option linter.unusedSimpArgs false

theorem fewL_len (lt : List TagB) : (fewL lt).length ≤ 2 := by
  have h1 : (ofL (few2L lt)).length ≤ (few2L lt).length := by
    unfold ofL lastsL
    refine Nat.le_trans (keptTo_len _ _) ?_
    rw [sortL_length]
    exact List.length_filter_le _ _
  have h2 := tagsL_len (lt.map ownT) 2
  unfold fewL
  unfold few2L at h1 ⊢
  omega
theorem wrap_i8' (n : Int) : IntKind.i8.wrap n = (n + 128) % 256 - 128 := by
  simp [IntKind.wrap, IntKind.bits, IntKind.signed]
  split <;> omega
def ItemX.V (x : ItemX) : List Value := [.int .i64 x.e.ts, .slice x.e.A x.e.n x.e.c, .string x.e.ln, .bool x.own, .int .i8 x.t, .slice x.LA x.Ln x.Lc, .int .u8 (x.k : Int)]
def inil : ItemX := ⟨xnil, false, 0, none, 0, 0, [], 0⟩
/-- a slice of entries by their parts that can be read -/
def ItemsP (B : Nat) (w : World) (A : Option Addr) (n : Nat) (l : List ItemX) : Prop := RowR ItemX.V 7 w A n l ∧ ∀ x ∈ l, GoodI B w x
theorem ItemsP.below {B : Nat} {w w' : World} {A : Option Addr} {n : Nat} {l : List ItemX} (h : ItemsP B w A n l) (hb : Below w.heap.size w w') : ItemsP B w' A n l := ⟨h.1.below hb, fun x hx => (h.2 x hx).below hb⟩
theorem ItemsP.mono {B B' : Nat} {w : World} {A : Option Addr} {n : Nat} {l : List ItemX} (h : ItemsP B w A n l) (hB : B ≤ B') : ItemsP B' w A n l := ⟨h.1, fun x hx => (h.2 x hx).mono hB⟩
theorem ItemsP.at_ {B : Nat} {w : World} {A : Option Addr} {n : Nat} {l : List ItemX} (h : ItemsP B w A n l) (hn : 0 < n) : ∃ b off, A = some ⟨b, off, none⟩ ∧ b < w.heap.size ∧ ∀ j, j < n →
    (w.cell? ⟨b, off + j * 7, none⟩ = some (.int .i64 (l.getD j inil).e.ts) ∧ w.cell? ⟨b, off + j * 7 + 1, none⟩ = some (.slice (l.getD j inil).e.A (l.getD j inil).e.n (l.getD j inil).e.c) ∧ w.cell? ⟨b, off + j * 7 + 2, none⟩ = some (.string (l.getD j inil).e.ln) ∧
     w.cell? ⟨b, off + j * 7 + 3, none⟩ = some (.bool (l.getD j inil).own) ∧ w.cell? ⟨b, off + j * 7 + 4, none⟩ = some (.int .i8 (l.getD j inil).t) ∧ w.cell? ⟨b, off + j * 7 + 5, none⟩ = some (.slice (l.getD j inil).LA (l.getD j inil).Ln (l.getD j inil).Lc) ∧ w.cell? ⟨b, off + j * 7 + 6, none⟩ = some (.int .u8 ((l.getD j inil).k : Int))) ∧ GoodI B w (l.getD j inil) := by
  obtain ⟨b, off, e, hlt, hc⟩ := h.1.2 hn
  refine ⟨b, off, e, hlt, fun j hj => ?_⟩
  have hg : l[j]? = some (l.getD j inil) := by
    have := h.1.1
    rw [List.getD_eq_getElem?_getD, List.getElem?_eq_getElem (by omega)]
    rfl
  exact ⟨⟨hc j 0 _ hg (by decide), hc j 1 _ hg (by decide), hc j 2 _ hg (by decide), hc j 3 _ hg (by decide), hc j 4 _ hg (by decide), hc j 5 _ hg (by decide), hc j 6 _ hg (by decide)⟩, h.2 _ (List.mem_of_getElem? hg)⟩
def itemsB (l : List ItemX) (most : Nat) : List EntB := (l.take most).map itemB
theorem itemsB_next (l : List ItemX) (j : Nat) (hj : j < l.length) : itemsB l (j + 1) = itemsB l j ++ [itemB (l.getD j inil)] := by
  unfold itemsB
  rw [List.take_succ_eq_append_getElem hj, List.map_append, List.getD_eq_getElem?_getD, List.getElem?_eq_getElem hj]
  rfl
theorem itemsB_len (l : List ItemX) (most : Nat) : (itemsB l most).length ≤ most := by
  unfold itemsB
  rw [List.length_map, List.length_take]
  omega
theorem infoEnt : (Tryd.prog.info? 36).map (fun i => (i.zero, i.size, i.bytes)) = some (some (.agg #[.int .i64 0, .slice none 0 0, .string ⟨#[]⟩]), 3, 48) := by kernel_rfl

end Go.Proofs.YtfamcebgcpaolaaDoor
