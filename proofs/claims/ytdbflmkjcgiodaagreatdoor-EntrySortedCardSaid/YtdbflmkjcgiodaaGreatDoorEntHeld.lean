/- Entries that a call holds in blocks of its own; the order of three, by one step. -/
import Derived.Test.YtdbflmkjcgiodaaGreatDoorItems
namespace Go.Proofs.YtdbflmkjcgiodaaGreatDoor
open Go.RowKit
set_option linter.unusedVariables false
set_option linter.unusedSimpArgs false

def EntX.arr (x : EntX) : Array Value := #[.int .i64 x.ts, .slice x.A x.n x.c, .string x.ln]
structure Held (W w : World) (l : List (Nat × EntX)) : Prop where
  below : Below W.heap.size W w
  blk : ∀ p ∈ l, Blk w p.1 25 p.2.arr ∧ Good W.heap.size w p.2
section
variable {W w w' : World} {l : List (Nat × EntX)}
theorem Held.nil (h : Below W.heap.size W w) : Held W w [] := ⟨h, fun p hp => by cases hp⟩
theorem Held.next (h : Held W w l) (hx : Below w.heap.size w w') : Held W w' l :=
  ⟨hop h.below (Nat.le_refl _) hx, fun p hp => ⟨(h.blk p hp).1.below hx (h.blk p hp).1.lt, (h.blk p hp).2.below hx⟩⟩
theorem Held.alloc (h : Held W w l) (o : Obj) : Held W (w.alloc o) l := h.next ((Below.refl _ _).alloc (Nat.le_refl _) o)
theorem Held.drewN (h : Held W w l) (q : Nat) : Held W (w.drewN q) l := h.next (below_drewN (Below.refl _ _) q)
theorem Held.push (h : Held W w l) {x : EntX} {g : Nat} (hg : w.heap.size = g) (hx : Good W.heap.size w x) : Held W (w.alloc (.cells x.arr 25)) ((g, x) :: l) :=
  ⟨(h.alloc _).below, fun p hp => by
    rcases List.mem_cons.1 hp with rfl | hp
    · exact ⟨by rw [← hg]; exact Blk.new w _ _, hx.below ((Below.refl _ _).alloc (Nat.le_refl _) _)⟩
    · exact (h.alloc _).blk p hp⟩
theorem Held.cells (h : Held W w l) {g : Nat} {x : EntX} (hm : (g, x) ∈ l) : w.cell? ⟨g, 0, none⟩ = some (.int .i64 x.ts) ∧ w.cell? ⟨g, 1, none⟩ = some (.slice x.A x.n x.c) ∧ w.cell? ⟨g, 2, none⟩ = some (.string x.ln) := by
  obtain ⟨hb, _⟩ := h.blk _ hm
  exact ⟨(hb.cell 0).trans rfl, (hb.cell 1).trans rfl, (hb.cell 2).trans rfl⟩
theorem Held.good (h : Held W w l) {g : Nat} {x : EntX} (hm : (g, x) ∈ l) : Good W.heap.size w x := (h.blk _ hm).2
end
theorem ord_good (a b : EntX) {B1 B2 : Nat} (w : World) (ha : Good B1 w a) (hb : Good B2 w b) :
    Calls Tryz.prog 15 #[.agg #[.int .i64 a.ts, .slice a.A a.n a.c, .string a.ln], .agg #[.int .i64 b.ts, .slice b.A b.n b.c, .string b.ln]] w fun e w' => e = .returned (.int .i64 (entC a.b b.b)) ∧ Below w.heap.size w w' :=
  entOrder_any a.ts b.ts a.A b.A a.n b.n a.c b.c a.ls b.ls a.ln b.ln ha.len hb.len w ha.set.1 hb.set.1
theorem same_good (a b : EntX) {B1 B2 : Nat} (w : World) (ha : Good B1 w a) (hb : Good B2 w b) :
    Calls Tryz.prog 17 #[.agg #[.int .i64 a.ts, .slice a.A a.n a.c, .string a.ln], .agg #[.int .i64 b.ts, .slice b.A b.n b.c, .string b.ln]] w fun e w' => e = .returned (.bool (sameE a.b b.b)) ∧ Below w.heap.size w w' :=
  entSame_any a.ts b.ts a.A b.A a.n b.n a.c b.c a.ls b.ls a.ln b.ln ha.len hb.len w ha.set.1 hb.set.1
theorem ahead_good (a b : EntX) (asc : Bool) {B1 B2 : Nat} (w : World) (ha : Good B1 w a) (hb : Good B2 w b) :
    Calls Tryz.prog 18 #[.agg #[.int .i64 a.ts, .slice a.A a.n a.c, .string a.ln], .agg #[.int .i64 b.ts, .slice b.A b.n b.c, .string b.ln], .bool asc] w fun e w' => e = .returned (.bool (aheadB a.b b.b asc)) ∧ Below w.heap.size w w' :=
  entAhead_any a.ts b.ts a.A b.A a.n b.n a.c b.c a.ls b.ls a.ln b.ln asc ha.len hb.len w ha.set.1 hb.set.1
theorem right_good_ent (a : EntX) {B1 : Nat} (w : World) (ha : Good B1 w a) :
    Calls Tryz.prog 13 #[.agg #[.int .i64 a.ts, .slice a.A a.n a.c, .string a.ln]] w fun e w' => e = .returned (.bool (rightE a.b)) ∧ Below w.heap.size w w' :=
  entRight_any a.ts a.A a.n a.c a.ls a.ln ha.len w ha.set.1

/-- what the order says of two, by one step: less, the same, more -/
theorem ord_two (a b : EntB) : ∃ o r : Int, ∃ s p q : Bool, entC a b = o ∧ entC b a = r ∧ sameE a b = s ∧ aheadB a b true = p ∧ aheadB a b false = q ∧
    ((o = 1 ∧ r = -1 ∧ s = false ∧ p = false ∧ q = true ∧ ¬ a.ts < b.ts) ∨ (o = 0 ∧ r = 0 ∧ s = true ∧ p = false ∧ q = false ∧ a.ts = b.ts) ∨ (o = -1 ∧ r = 1 ∧ s = false ∧ p = true ∧ q = false ∧ ¬ b.ts < a.ts)) := by
  refine ⟨_, _, _, _, _, rfl, rfl, rfl, rfl, rfl, ?_⟩
  have h1 := entC_ord.anti a b
  have h2 := entC_vals a b
  have h3 : ∀ x y : EntB, 0 ≤ entC x y → ¬ x.ts < y.ts := fun x y h hlt => by
    have h4 : cmpZ x.ts y.ts = -1 := by unfold cmpZ; rw [if_pos hlt]
    unfold entC at h
    rw [h4, if_neg (by decide)] at h
    omega
  unfold aheadB
  rw [if_pos rfl, if_neg (by decide), sameE_ord]
  rcases h2 with h2 | h2 | h2
  · refine .inr (.inr ⟨h2, by omega, decide_eq_false (by omega), decide_eq_true (by omega), decide_eq_false (by omega), h3 b a (by omega)⟩)
  · have h5 := entC_zero.1 h2
    refine .inr (.inl ⟨h2, by omega, decide_eq_true h2, decide_eq_false (by omega), decide_eq_false (by omega), by rw [h5]⟩)
  · exact .inl ⟨h2, by omega, decide_eq_false (by omega), decide_eq_false (by omega), decide_eq_true (by omega), h3 a b (by omega)⟩
theorem ord_three (a b c : EntB) : ∃ s t : Int, entC b c = s ∧ entC a c = t ∧ ((s ≤ 0 ∧ decide (0 < s) = false ∧ (entC a b ≤ 0 → t ≤ 0)) ∨ decide (s ≤ 0) = false) := by
  refine ⟨_, _, rfl, rfl, ?_⟩
  by_cases h : entC b c ≤ 0
  · exact .inl ⟨h, decide_eq_false (by omega), fun h2 => entC_ord.trans _ _ _ h2 h⟩
  · exact .inr (decide_eq_false h)
end Go.Proofs.YtdbflmkjcgiodaaGreatDoor
