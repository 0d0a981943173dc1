-- shaken
import Derived.Test.YtdaainifkldcpaaGreatDoorMem
import Derived.Test.YtdaainifkldcpaaGreatDoorBase
import Derived.Test.YtdaainifkldcpaaGreatDoorRows
import Derived.Test.YtdaainifkldcpaaGreatDoorLabMath
import Derived.Deep.RegionHeld3
import Derived.BigRegion
namespace Go.Proofs.YtdaainifkldcpaaGreatDoor
open Go.RowKit
set_option linter.unusedVariables false
theorem tlit (w : World) (l : List ByteArray) (g : Nat) (hg : g = w.heap.size) (i : Nat) (hi : i < l.length) : (w.alloc (.cells (l.map Value.string).toArray 9)).cell? ⟨g, i, none⟩ = some (.string (l.getD i .empty)) := by
  subst hg
  rw [(Blk.new w 9 (l.map Value.string).toArray).cell i, List.getElem?_toArray, List.getElem?_map, List.getElem?_eq_getElem hi, List.getD_eq_getElem?_getD, List.getElem?_eq_getElem hi]
  rfl
theorem told (w : World) (o : Obj) (b i : Nat) (hb : b < w.heap.size) {v : Value} (h : w.cell? ⟨b, i, none⟩ = some v) : (w.alloc o).cell? ⟨b, i, none⟩ = some v := (World.cell?_of_block (heap_alloc_old w o hb)).trans h
theorem blk_next (w : World) (o : Obj) (t : TypeId) (cs : Array Value) : Blk ((w.alloc o).alloc (.cells cs t)) (w.heap.size + 1) t cs := by
  have h := Blk.new (w.alloc o) t cs
  rwa [show (w.alloc o).heap.size = w.heap.size + 1 by simp] at h

set_option linter.unusedSimpArgs false
structure TagB where
  nm : ByteArray
  vl : ByteArray
  own : Bool
  k : Nat
  deriving Inhabited
def tagNs : List ByteArray := [⟨#[97, 112, 112]⟩, ⟨#[101, 110, 118]⟩, ⟨#[108, 118, 108]⟩, ⟨#[100, 117, 114]⟩, ⟨#[110]⟩]
def tagVs : List ByteArray := [⟨#[97]⟩, ⟨#[98]⟩, ⟨#[120, 49]⟩, ⟨#[53, 109]⟩, ⟨#[55]⟩, ⟨#[]⟩, ⟨#[50, 75, 66]⟩, ⟨#[97, 98]⟩]
def tagP (t : TagB) : PairB := if t.own then (tagNs.getD (t.k % 5) .empty, tagVs.getD (t.k / 5 % 8) .empty) else (t.nm, t.vl)
set_option maxRecDepth 100000 in
set_option maxHeartbeats 800000 in
theorem tag_as (nm vl : ByteArray) (k : Nat) (W : World) :
    Calls Tryz.prog 88 #[.agg #[.string nm, .string vl, .bool false, .int .u8 (k : Int)]] W fun e w' => e = .returned (.agg #[.string nm, .string vl]) ∧ Below W.heap.size W w' := by
  go_enter Tryz.func88, Tryz.ntmps88
  go_wp2
  refine bodyPost_ret (results_cell_row rfl _ _ (W.heap.size + 1) 165 #[.string nm, .string vl] (0, 0) _ rfl (blk_next W _ _ _) Tryz.underlying165 rfl (by kernel_rfl)) rfl ?_
  exact ⟨rfl, ((Below.refl _ _).alloc (Nat.le_refl _) _).alloc (by simp) _⟩
set_option maxRecDepth 100000 in
set_option maxHeartbeats 1600000 in
theorem tag_own (nm vl : ByteArray) (k q i j : Nat) (hi : i < 5) (hj : j < 8) (h5 : (k : Int).tmod 5 = (i : Int)) (hq : (k : Int) / 5 = (q : Int)) (hw : IntKind.u8.wrap (q : Int) = (q : Int)) (h8 : (q : Int).tmod 8 = (j : Int)) (W : World) :
    Calls Tryz.prog 88 #[.agg #[.string nm, .string vl, .bool true, .int .u8 (k : Int)]] W fun e w' => e = .returned (.agg #[.string (tagNs.getD i .empty), .string (tagVs.getD j .empty)]) ∧ Below W.heap.size W w' := by
  have iI : (i : Int) < 5 := by omega
  have jI : (j : Int) < 8 := by omega
  have hwi : IntKind.u8.wrap (i : Int) = (i : Int) := by rw [IntKind.wrap_u8]; omega
  have hwj : IntKind.u8.wrap (j : Int) = (j : Int) := by rw [IntKind.wrap_u8]; omega
  have H : ∀ (w2 : World) (g : Nat) (hg : g = w2.heap.size),
      (w2.alloc (.cells (tagNs.map Value.string).toArray 9)).cell? ⟨g, i, none⟩ = some (.string (tagNs.getD i .empty)) ∧
      ((w2.alloc (.cells (tagNs.map Value.string).toArray 9)).alloc (.cells (tagVs.map Value.string).toArray 9)).cell? ⟨g, i, none⟩ = some (.string (tagNs.getD i .empty)) ∧
      ((w2.alloc (.cells (tagVs.map Value.string).toArray 9)).alloc (.cells (tagNs.map Value.string).toArray 9)).cell? ⟨g + 1, i, none⟩ = some (.string (tagNs.getD i .empty)) ∧
      (w2.alloc (.cells (tagVs.map Value.string).toArray 9)).cell? ⟨g, j, none⟩ = some (.string (tagVs.getD j .empty)) ∧
      ((w2.alloc (.cells (tagVs.map Value.string).toArray 9)).alloc (.cells (tagNs.map Value.string).toArray 9)).cell? ⟨g, j, none⟩ = some (.string (tagVs.getD j .empty)) ∧
      ((w2.alloc (.cells (tagNs.map Value.string).toArray 9)).alloc (.cells (tagVs.map Value.string).toArray 9)).cell? ⟨g + 1, j, none⟩ = some (.string (tagVs.getD j .empty)) := by
    intro w2 g hg
    have a1 := tlit w2 tagNs g hg i hi
    have a2 := tlit w2 tagVs g hg j hj
    exact ⟨a1, told _ _ g i (by rw [hg]; simp) a1, tlit _ tagNs (g + 1) (by rw [hg]; simp) i hi, a2, told _ _ g j (by rw [hg]; simp) a2, tlit _ tagVs (g + 1) (by rw [hg]; simp) j hj⟩
  have H2 := H ((W.alloc (.cells #[.string nm, .string vl, .bool true, .int .u8 (k : Int)] 189)).alloc (.cells #[.string ⟨#[]⟩, .string ⟨#[]⟩] 165)) (W.heap.size + 1 + 1) (by simp)
  obtain ⟨y, hy⟩ : ∃ y, tagNs.getD i .empty = y := ⟨_, rfl⟩
  obtain ⟨z, hz⟩ : ∃ y, tagVs.getD j .empty = y := ⟨_, rfl⟩
  rw [hy, hz] at H2 ⊢
  obtain ⟨c1, c2, c3, c4, c5, c6⟩ := H2
  simp only [tagNs, tagVs, List.map_cons, List.map_nil] at c1 c2 c3 c4 c5 c6
  clear hy hz H hi hj
  go_enter Tryz.func88, Tryz.ntmps88
  go_wp2
  go_region
  all_goals
    go_wp2
    refine bodyPost_ret (results_cell_row rfl _ _ (W.heap.size + 1) 165 #[.string y, .string z] (0, 0) _ rfl (((blk_next W _ _ _).alloc _).alloc _) Tryz.underlying165 rfl (by kernel_rfl)) rfl ?_
    exact ⟨rfl, below_drewN (((((Below.refl _ _).alloc (Nat.le_refl _) _).alloc (by simp) _).alloc (by simp; omega) _).alloc (by simp; omega) _) 1⟩
theorem tag_any (t : TagB) (hk : t.k < 256) (W : World) :
    Calls Tryz.prog 88 #[.agg #[.string t.nm, .string t.vl, .bool t.own, .int .u8 (t.k : Int)]] W fun e w' => e = .returned (.agg #[.string (tagP t).1, .string (tagP t).2]) ∧ Below W.heap.size W w' := by
  obtain ⟨nm, vl, own, k⟩ := t
  cases own with
  | false => exact tag_as nm vl k W
  | true =>
    have hk' : k < 256 := hk
    exact tag_own nm vl k (k / 5) (k % 5) (k / 5 % 8) (by omega) (by omega) (by rw [Int.tmod_eq_emod_of_nonneg (by omega)]; omega) (by omega) (by rw [IntKind.wrap_u8]; omega) (by rw [Int.tmod_eq_emod_of_nonneg (by omega)]; omega) W
def TagsP (w : World) (A : Option Addr) (n : Nat) (ts : List TagB) : Prop :=
  ts.length = n ∧ (∀ t ∈ ts, t.k < 256) ∧ (0 < n → ∃ b off, A = some ⟨b, off, none⟩ ∧ b < w.heap.size ∧ ∀ j, j < n →
    w.cell? ⟨b, off + j * 4, none⟩ = some (.string (ts.getD j default).nm) ∧ w.cell? ⟨b, off + j * 4 + 1, none⟩ = some (.string (ts.getD j default).vl) ∧
    w.cell? ⟨b, off + j * 4 + 2, none⟩ = some (.bool (ts.getD j default).own) ∧ w.cell? ⟨b, off + j * 4 + 3, none⟩ = some (.int .u8 ((ts.getD j default).k : Int)))
theorem TagsP.below {w w' : World} {A : Option Addr} {n : Nat} {ts : List TagB} (h : TagsP w A n ts) (hb : Below w.heap.size w w') : TagsP w' A n ts :=
  ⟨h.1, h.2.1, fun hn => by
    obtain ⟨b, off, e, hlt, hc⟩ := h.2.2 hn
    exact ⟨b, off, e, Nat.lt_of_lt_of_le hlt hb.size, fun j hj => ⟨(hb.cell (p := ⟨b, off + j * 4, none⟩) hlt).trans (hc j hj).1, (hb.cell (p := ⟨b, off + j * 4 + 1, none⟩) hlt).trans (hc j hj).2.1, (hb.cell (p := ⟨b, off + j * 4 + 2, none⟩) hlt).trans (hc j hj).2.2.1, (hb.cell (p := ⟨b, off + j * 4 + 3, none⟩) hlt).trans (hc j hj).2.2.2⟩⟩⟩
def tagsL (ts : List TagB) (most : Nat) : List PairB := (ts.take most).map tagP
theorem tagsL_len (ts : List TagB) (most : Nat) : (tagsL ts most).length ≤ most := by
  unfold tagsL
  rw [List.length_map, List.length_take]
  omega
theorem tagsL_next (ts : List TagB) (j : Nat) (hj : j < ts.length) : tagsL ts (j + 1) = tagsL ts j ++ [tagP (ts.getD j default)] := by
  unfold tagsL
  rw [List.take_succ_eq_append_getElem hj, List.map_append, List.getD_eq_getElem?_getD, List.getElem?_eq_getElem hj]
  rfl
end Go.Proofs.YtdaainifkldcpaaGreatDoor
