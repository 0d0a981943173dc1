/- The document's own Right of an entry; that its entries outlive a store elsewhere. -/
import Derived.Test.YtfamcebgcpaolaaGreatDoorRefEntW
namespace Go.Proofs.YtfamcebgcpaolaaGreatDoor
open Go.RowKit
set_option linter.unusedVariables false
set_option linter.unusedSimpArgs false

set_option maxRecDepth 100000 in
set_option maxHeartbeats 1600000 in
theorem refEntRight_any (t1 : Int) (A : Option Addr) (n c : Nat) (ps : List PairB) (l1 : ByteArray) (hn : n ≤ 9223372036854775806) (W : World) (h1 : Pairs W A n ps) :
    Calls Tryz.prog 35 #[.agg #[.int .i64 t1, .slice A n c, .string l1]] W fun e w' => e = .returned (.bool (rightE ⟨t1, ps, l1⟩)) ∧ Below W.heap.size W w' := by
  have hb1 : Below W.heap.size W (W.alloc (.cells #[.int .i64 t1, .slice A n c, .string l1] 43)) := (Below.refl _ _).alloc (Nat.le_refl _) _
  have B1 := Blk.new W 43 #[.int .i64 t1, .slice A n c, .string l1]
  have RT := fun w h => refRight_any A n c ps hn w (h1.below h)
  obtain ⟨T, hT⟩ : ∃ T, rightE ⟨t1, ps, l1⟩ = T := ⟨_, rfl⟩
  rw [hT]
  have hT2 : (rightB ps && decide (l1.size ≤ 256)) = T := hT
  obtain ⟨x, hx⟩ : ∃ x, rightB ps = x := ⟨_, rfl⟩
  simp only [hx] at RT
  rw [hx] at hT2
  replace RT := Lib.hid RT
  have hz : decide ((l1.size : Int) ≤ 256) = decide (l1.size ≤ 256) := by rw [decide_eq_decide]; omega
  obtain ⟨y, hy⟩ : ∃ x, decide (l1.size ≤ 256) = x := ⟨_, rfl⟩
  rw [hy] at hT2 hz
  have E := Lib.hid hT2
  have HY := Lib.hid hy
  clear h1 hT hx hT2 hy
  go_enter Tryz.func35, Tryz.ntmps35
  go_wp2_with fail
  obtain ⟨w1, hw1⟩ : ∃ w, W.alloc (.cells #[.int .i64 t1, .slice A n c, .string l1] 43) = w := ⟨_, rfl⟩
  rw [hw1] at hb1 B1 ⊢
  clear hw1
  refine (RT.out _ hb1).mono ?_
  rintro e w2 ⟨rfl, hx⟩
  have B2 := B1.below hx B1.lt
  have k1 : w2.cell? ⟨W.heap.size, 2, none⟩ = some (.string l1) := (B2.cell 2).trans rfl
  have HB := Lib.hid (hop hb1 (Nat.le_refl _) hx)
  clear hx B1 B2 RT hb1
  cases x with
  | false =>
    have E := Lib.hid (show false = T from E.out)
    go_wp2
    go_ret
    exact ⟨ret_bool E.out, HB.out⟩
  | true =>
    have E := Lib.hid (show y = T from E.out)
    go_wp2
    go_ret
    exact ⟨ret_bool (by first | exact E.out | (rw [← E.out]; first | exact hz | (rw [← HY.out]; simp; done))), HB.out⟩

theorem entQ_not_pair : 43 ≠ 117 := by decide
theorem GoodQ.grown {w w' : World} {x : EntX} {r : Option Nat} (h : GoodQ w x) (hg : w.grownBy w' r)
    (hr : ∀ b, r = some b → ∃ cur t, t ≠ 117 ∧ w.heap[b]? = some (.cells cur t (0, 0))) : GoodQ w' x := by
  have key : 0 < x.n → ∀ a, x.A = some a → a.block < w.heap.size → w'.heap[a.block]? = w.heap[a.block]? := fun hn a ha hlt => by
    refine hg.block _ hlt fun e => ?_
    obtain ⟨cur, t, ht, h2⟩ := hr _ e.symm
    obtain ⟨cur', h3⟩ := h.own hn a ha
    rw [h2] at h3
    injection h3 with h3
    injection h3 with _ h3 _
    exact ht h3
  refine ⟨⟨h.set.1, fun hn => ?_⟩, fun hn a ha => ?_⟩
  · obtain ⟨b, off, e, hlt, hc⟩ := h.set.2 hn
    have hk := key hn _ e hlt
    have hcell : ∀ i, w'.cell? ⟨b, i, none⟩ = w.cell? ⟨b, i, none⟩ := fun i => by
      unfold World.cell?
      rw [show w'.heap[b]? = w.heap[b]? from hk]
    exact ⟨b, off, e, Nat.lt_of_lt_of_le hlt hg.size, fun j hj => ⟨(hcell _).trans (hc j hj).1, (hcell _).trans (hc j hj).2⟩⟩
  · obtain ⟨cur, h1⟩ := h.own hn a ha
    exact ⟨cur, (key hn a ha (lt_of_block h1)).trans h1⟩
end Go.Proofs.YtfamcebgcpaolaaGreatDoor
