/- Labels by their parts, as the law takes them.
   Some labels by their parts, at most so many. -/
import Derived.Test.YtfamcebgcpaolaaDoorLabNames
import Derived.BigRegion
namespace Go.Proofs.YtfamcebgcpaolaaDoor
open Go.RowKit
set_option linter.unusedVariables false
set_option linter.unusedSimpArgs false

structure TagB where
  nm : ByteArray
  vl : ByteArray
  own : Bool
  k : Nat
  deriving Inhabited
def tagNs : List ByteArray := [⟨#[97, 112, 112]⟩, ⟨#[101, 110, 118]⟩, ⟨#[108, 118, 108]⟩, ⟨#[100, 117, 114]⟩, ⟨#[110]⟩]
def tagVs : List ByteArray := [⟨#[97]⟩, ⟨#[98]⟩, ⟨#[120, 49]⟩, ⟨#[53, 109]⟩, ⟨#[55]⟩, ⟨#[]⟩, ⟨#[50, 75, 66]⟩, ⟨#[97, 98]⟩]
def tagP (t : TagB) : PairB := if t.own then (tagNs.getD (t.k % 5) .empty, tagVs.getD (t.k / 5 % 8) .empty) else (t.nm, t.vl)
def tagC (t : TagB) : Array Value := #[.string t.nm, .string t.vl, .bool t.own, .int .u8 (t.k : Int)]

theorem tlit (w : World) (l : List ByteArray) (g : Nat) (hg : g = w.heap.size) (i : Nat) (hi : i < l.length) : (w.alloc (.cells (l.map Value.string).toArray 9)).cell? ⟨g, i, none⟩ = some (.string (l.getD i .empty)) := by
  subst hg
  rw [(Blk.new w 9 (l.map Value.string).toArray).cell i, List.getElem?_toArray, List.getElem?_map, List.getElem?_eq_getElem hi, List.getD_eq_getElem?_getD, List.getElem?_eq_getElem hi]
  rfl
theorem told (w : World) (o : Obj) (b i : Nat) (hb : b < w.heap.size) {v : Value} (h : w.cell? ⟨b, i, none⟩ = some v) : (w.alloc o).cell? ⟨b, i, none⟩ = some v := (World.cell?_of_block (heap_alloc_old w o hb)).trans h
theorem blk_next (w : World) (o : Obj) (t : TypeId) (cs : Array Value) : Blk ((w.alloc o).alloc (.cells cs t)) (w.heap.size + 1) t cs := by
  have h := Blk.new (w.alloc o) t cs
  rwa [show (w.alloc o).heap.size = w.heap.size + 1 by simp] at h

end Go.Proofs.YtfamcebgcpaolaaDoor
namespace Go.Proofs.YtfamcebgcpaolaaDoor
open Go.RowKit
set_option linter.unusedVariables false
set_option linter.unusedSimpArgs false

/-- a slice of labels by their parts that can be read -/
def TagsP (w : World) (A : Option Addr) (n : Nat) (ts : List TagB) : Prop :=
  ts.length = n ∧ (∀ t ∈ ts, t.k < 256) ∧ (0 < n → ∃ b off, A = some ⟨b, off, none⟩ ∧ b < w.heap.size ∧ ∀ j, j < n →
    w.cell? ⟨b, off + j * 4, none⟩ = some (.string (ts.getD j default).nm) ∧ w.cell? ⟨b, off + j * 4 + 1, none⟩ = some (.string (ts.getD j default).vl) ∧
    w.cell? ⟨b, off + j * 4 + 2, none⟩ = some (.bool (ts.getD j default).own) ∧ w.cell? ⟨b, off + j * 4 + 3, none⟩ = some (.int .u8 ((ts.getD j default).k : Int)))
theorem TagsP.below {w w' : World} {A : Option Addr} {n : Nat} {ts : List TagB} (h : TagsP w A n ts) (hb : Below w.heap.size w w') : TagsP w' A n ts :=
  ⟨h.1, h.2.1, fun hn => by
    obtain ⟨b, off, e, hlt, hc⟩ := h.2.2 hn
    exact ⟨b, off, e, Nat.lt_of_lt_of_le hlt hb.size, fun j hj => ⟨(hb.cell (p := ⟨b, off + j * 4, none⟩) hlt).trans (hc j hj).1, (hb.cell (p := ⟨b, off + j * 4 + 1, none⟩) hlt).trans (hc j hj).2.1, (hb.cell (p := ⟨b, off + j * 4 + 2, none⟩) hlt).trans (hc j hj).2.2.1, (hb.cell (p := ⟨b, off + j * 4 + 3, none⟩) hlt).trans (hc j hj).2.2.2⟩⟩⟩
theorem tags_none (w : World) : TagsP w none 0 [] := ⟨rfl, fun _ h => by (cases h), fun h => absurd h (by omega)⟩
def tagsL (ts : List TagB) (most : Nat) : List PairB := (ts.take most).map tagP
theorem tagsL_len (ts : List TagB) (most : Nat) : (tagsL ts most).length ≤ most := by
  unfold tagsL
  rw [List.length_map, List.length_take]
  omega
theorem tagsL_next (ts : List TagB) (j : Nat) (hj : j < ts.length) : tagsL ts (j + 1) = tagsL ts j ++ [tagP (ts.getD j default)] := by
  unfold tagsL
  rw [List.take_succ_eq_append_getElem hj, List.map_append, List.getD_eq_getElem?_getD, List.getElem?_eq_getElem hj]
  rfl

end Go.Proofs.YtfamcebgcpaolaaDoor
