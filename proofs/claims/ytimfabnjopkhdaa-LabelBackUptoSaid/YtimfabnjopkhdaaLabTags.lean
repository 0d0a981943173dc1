/- Labels by their parts, as the law takes them. -/
import Derived.Test.YtimfabnjopkhdaaLabNames
import Derived.BigRegion
namespace Go.Proofs.Ytimfabnjopkhdaa
open Go.RowKit
set_option linter.unusedVariables false

structure TagB where
  nm : ByteArray
  vl : ByteArray
  own : Bool
  k : Nat
  deriving Inhabited
def tagNs : List ByteArray := [⟨#[97, 112, 112]⟩, ⟨#[101, 110, 118]⟩, ⟨#[108, 118, 108]⟩, ⟨#[100, 117, 114]⟩, ⟨#[110]⟩]
def tagVs : List ByteArray := [⟨#[97]⟩, ⟨#[98]⟩, ⟨#[120, 49]⟩, ⟨#[53, 109]⟩, ⟨#[55]⟩, ⟨#[]⟩, ⟨#[50, 75, 66]⟩, ⟨#[97, 98]⟩]
def tagP (t : TagB) : PairB := if t.own then (tagNs.getD (t.k % 5) .empty, tagVs.getD (t.k / 5 % 8) .empty) else (t.nm, t.vl)
def tagC (t : TagB) : Array Value := #[.string t.nm, .string t.vl, .bool t.own, .int .u8 (t.k : Int)]

theorem tlit (w : World) (l : List ByteArray) (g : Nat) (hg : g = w.heap.size) (i : Nat) (hi : i < l.length) : (w.alloc (.cells (l.map Value.string).toArray 9)).cell? ⟨g, i, none⟩ = some (.string (l.getD i .empty)) := by
  subst hg
  rw [(Blk.new w 9 (l.map Value.string).toArray).cell i, List.getElem?_toArray, List.getElem?_map, List.getElem?_eq_getElem hi, List.getD_eq_getElem?_getD, List.getElem?_eq_getElem hi]
  rfl
theorem told (w : World) (o : Obj) (b i : Nat) (hb : b < w.heap.size) {v : Value} (h : w.cell? ⟨b, i, none⟩ = some v) : (w.alloc o).cell? ⟨b, i, none⟩ = some v := (World.cell?_of_block (heap_alloc_old w o hb)).trans h
theorem blk_next (w : World) (o : Obj) (t : TypeId) (cs : Array Value) : Blk ((w.alloc o).alloc (.cells cs t)) (w.heap.size + 1) t cs := by
  have h := Blk.new (w.alloc o) t cs
  rwa [show (w.alloc o).heap.size = w.heap.size + 1 by simp] at h

set_option maxRecDepth 100000 in
set_option maxHeartbeats 800000 in
theorem tag_as (nm vl : ByteArray) (k : Nat) (W : World) :
    Calls Try.prog 32 #[.agg #[.string nm, .string vl, .bool false, .int .u8 (k : Int)]] W fun e w' => e = .returned (.agg #[.string nm, .string vl]) ∧ Below W.heap.size W w' := by
  go_enter Try.func32, Try.ntmps32
  go_wp2
  refine bodyPost_ret (results_cell_row rfl _ _ (W.heap.size + 1) 29 #[.string nm, .string vl] (0, 0) _ rfl (blk_next W _ _ _) Try.underlying29 rfl (by kernel_rfl)) rfl ?_
  exact ⟨rfl, ((Below.refl _ _).alloc (Nat.le_refl _) _).alloc (by simp) _⟩

set_option maxRecDepth 100000 in
set_option maxHeartbeats 1600000 in
theorem tag_own (nm vl : ByteArray) (k q i j : Nat) (hi : i < 5) (hj : j < 8) (h5 : (k : Int).tmod 5 = (i : Int)) (hq : (k : Int) / 5 = (q : Int)) (hw : IntKind.u8.wrap (q : Int) = (q : Int)) (h8 : (q : Int).tmod 8 = (j : Int)) (W : World) :
    Calls Try.prog 32 #[.agg #[.string nm, .string vl, .bool true, .int .u8 (k : Int)]] W fun e w' => e = .returned (.agg #[.string (tagNs.getD i .empty), .string (tagVs.getD j .empty)]) ∧ Below W.heap.size W w' := by
  have iI : (i : Int) < 5 := by omega
  have jI : (j : Int) < 8 := by omega
  have hwi : IntKind.u8.wrap (i : Int) = (i : Int) := by rw [IntKind.wrap_u8]; omega
  have hwj : IntKind.u8.wrap (j : Int) = (j : Int) := by rw [IntKind.wrap_u8]; omega
  have H : ∀ (w2 : World) (g : Nat) (hg : g = w2.heap.size),
      (w2.alloc (.cells (tagNs.map Value.string).toArray 9)).cell? ⟨g, i, none⟩ = some (.string (tagNs.getD i .empty)) ∧
      ((w2.alloc (.cells (tagNs.map Value.string).toArray 9)).alloc (.cells (tagVs.map Value.string).toArray 9)).cell? ⟨g, i, none⟩ = some (.string (tagNs.getD i .empty)) ∧
      ((w2.alloc (.cells (tagVs.map Value.string).toArray 9)).alloc (.cells (tagNs.map Value.string).toArray 9)).cell? ⟨g + 1, i, none⟩ = some (.string (tagNs.getD i .empty)) ∧
      (w2.alloc (.cells (tagVs.map Value.string).toArray 9)).cell? ⟨g, j, none⟩ = some (.string (tagVs.getD j .empty)) ∧
      ((w2.alloc (.cells (tagVs.map Value.string).toArray 9)).alloc (.cells (tagNs.map Value.string).toArray 9)).cell? ⟨g, j, none⟩ = some (.string (tagVs.getD j .empty)) ∧
      ((w2.alloc (.cells (tagNs.map Value.string).toArray 9)).alloc (.cells (tagVs.map Value.string).toArray 9)).cell? ⟨g + 1, j, none⟩ = some (.string (tagVs.getD j .empty)) := by
    intro w2 g hg
    have a1 := tlit w2 tagNs g hg i hi
    have a2 := tlit w2 tagVs g hg j hj
    exact ⟨a1, told _ _ g i (by rw [hg]; simp) a1, tlit _ tagNs (g + 1) (by rw [hg]; simp) i hi, a2, told _ _ g j (by rw [hg]; simp) a2, tlit _ tagVs (g + 1) (by rw [hg]; simp) j hj⟩
  have H2 := H ((W.alloc (.cells #[.string nm, .string vl, .bool true, .int .u8 (k : Int)] 62)).alloc (.cells #[.string ⟨#[]⟩, .string ⟨#[]⟩] 29)) (W.heap.size + 1 + 1) (by simp)
  obtain ⟨y, hy⟩ : ∃ y, tagNs.getD i .empty = y := ⟨_, rfl⟩
  obtain ⟨z, hz⟩ : ∃ y, tagVs.getD j .empty = y := ⟨_, rfl⟩
  rw [hy, hz] at H2 ⊢
  obtain ⟨c1, c2, c3, c4, c5, c6⟩ := H2
  simp only [tagNs, tagVs, List.map_cons, List.map_nil] at c1 c2 c3 c4 c5 c6
  clear hy hz H hi hj
  go_enter Try.func32, Try.ntmps32
  go_wp2
  go_region
  all_goals
    go_wp2
    refine bodyPost_ret (results_cell_row rfl _ _ (W.heap.size + 1) 29 #[.string y, .string z] (0, 0) _ rfl (((blk_next W _ _ _).alloc _).alloc _) Try.underlying29 rfl (by kernel_rfl)) rfl ?_
    exact ⟨rfl, below_drewN (((((Below.refl _ _).alloc (Nat.le_refl _) _).alloc (by simp) _).alloc (by simp; omega) _).alloc (by simp; omega) _) 1⟩
end Go.Proofs.Ytimfabnjopkhdaa
