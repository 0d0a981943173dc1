/- The chapter's examples are so. -/
import Derived.Test.YthmbgnjbmkmajaaCut
namespace Go.Proofs.Ythmbgnjbmkmajaa
open Go.RowKit
set_option linter.unusedVariables false

theorem texts_new (w : World) (t : TypeId) (ss : List ByteArray) (g : Nat) (hg : g = w.heap.size) : Texts (w.alloc (.cells (ss.map Value.string).toArray t)) (some ⟨g, 0, none⟩) ss.length ss := by
  subst hg
  refine ⟨rfl, fun hn => ⟨_, _, rfl, by simp, fun j hj => ?_⟩⟩
  rw [Nat.zero_add, (Blk.new w t _).cell j]
  simp [hj, List.getD_eq_getElem?_getD]
theorem max_of {W : World} (h : W.ShapedOpen Try.prog) : MaxIs W :=
  cell_of_shapedOpen_int (zero := #[.int .i64 0]) (t := 3) h (of_decide_eq_true (by kernel_rfl)) (by kernel_rfl) rfl (by kernel_rfl) (by kernel_rfl) Try.underlying3
theorem MaxIs.alloc {w : World} (h : MaxIs w) (o : Obj) : MaxIs (w.alloc o) := h.below ((Below.refl _ _).alloc (Nat.le_refl _) o)
theorem MaxIs.drewN {w : World} (h : MaxIs w) (q : Nat) : MaxIs (w.drewN q) := h.below (below_drewN (Below.refl _ _) q)

theorem ex_get1 (W : World) : Calls Try.prog 13 #[.string ⟨#[34, 97, 92, 34, 98, 34, 120]⟩] W fun e w' => e = .returned (.tuple #[.string ⟨#[97, 34, 98]⟩, .int .i64 6, .bool true]) ∧ Below W.heap.size W w' :=
  get_any ⟨#[34, 97, 92, 34, 98, 34, 120]⟩ (by decide) W
theorem ex_get2 (W : World) : Calls Try.prog 13 #[.string ⟨#[34, 97]⟩] W fun e w' => e = .returned (.tuple #[.string ⟨#[]⟩, .int .i64 0, .bool false]) ∧ Below W.heap.size W w' :=
  get_any ⟨#[34, 97]⟩ (by decide) W
theorem ex_put1 (W : World) : Calls Try.prog 15 #[.string ⟨#[97, 10, 34]⟩] W fun e w' => e = .returned (.string ⟨#[34, 97, 92, 110, 92, 34, 34]⟩) ∧ Below W.heap.size W w' :=
  put_any ⟨#[97, 10, 34]⟩ (by decide) W
theorem ex_put2 (W : World) : Calls Try.prog 15 #[.string ⟨#[0]⟩] W fun e w' => e = .returned (.string ⟨#[34, 92, 120, 48, 48, 34]⟩) ∧ Below W.heap.size W w' :=
  put_any ⟨#[0]⟩ (by decide) W
theorem ex_cut (W : World) (hm : MaxIs W) (g : Nat) (h : Texts W (some ⟨g, 0, none⟩) 2 [⟨#[61]⟩, ⟨#[61, 62]⟩]) : Calls Try.prog 16 #[.string ⟨#[120, 61, 62, 121]⟩, .slice (some ⟨g, 0, none⟩) 2 2] W fun e w' => e = .returned (.tuple #[.string ⟨#[120]⟩, .string ⟨#[61]⟩, .string ⟨#[62, 121]⟩]) ∧ ∃ q, w' = W.drewN q := by
  have h2 : cutR ⟨#[120, 61, 62, 121]⟩ [⟨#[61]⟩, ⟨#[61, 62]⟩] = (⟨#[120]⟩, ⟨#[61]⟩, ⟨#[62, 121]⟩) := by decide +kernel
  have := cut_any ⟨#[120, 61, 62, 121]⟩ (by decide) (some ⟨g, 0, none⟩) 2 2 [⟨#[61]⟩, ⟨#[61, 62]⟩] (by decide) W h hm
  rw [h2] at this
  exact this
theorem ex_join (W : World) (g : Nat) (h : Texts W (some ⟨g, 0, none⟩) 2 [⟨#[97]⟩, ⟨#[98]⟩]) : Calls Try.prog 18 #[.string ⟨#[44]⟩, .slice (some ⟨g, 0, none⟩) 2 2] W fun e w' => e = .returned (.string ⟨#[97, 44, 98]⟩) ∧ Below W.heap.size W w' :=
  join_any ⟨#[44]⟩ _ 2 2 [⟨#[97]⟩, ⟨#[98]⟩] (by decide) (by decide) (by decide) W h
theorem ex_join0 (W : World) : Calls Try.prog 18 #[.string ⟨#[44]⟩, .slice none 0 0] W fun e w' => e = .returned (.string ⟨#[]⟩) ∧ Below W.heap.size W w' :=
  join_any ⟨#[44]⟩ none 0 0 [] (by decide) (by decide) (by decide) W (texts_none W)
theorem ex_among (W : World) (g : Nat) (h : Texts W (some ⟨g, 0, none⟩) 2 [⟨#[97]⟩, ⟨#[98]⟩]) : Calls Try.prog 20 #[.string ⟨#[98]⟩, .slice (some ⟨g, 0, none⟩) 2 2] W fun e w' => e = .returned (.int .i64 1) ∧ W = w' := by
  have h2 : amongI ⟨#[98]⟩ [⟨#[97]⟩, ⟨#[98]⟩] = 1 := by decide +kernel
  have := among_any ⟨#[98]⟩ (some ⟨g, 0, none⟩) 2 2 [⟨#[97]⟩, ⟨#[98]⟩] (by decide) W h
  rw [h2] at this
  exact this
theorem ex_among0 (W : World) : Calls Try.prog 20 #[.string ⟨#[99]⟩, .slice none 0 0] W fun e w' => e = .returned (.int .i64 (-1)) ∧ W = w' :=
  among_any ⟨#[99]⟩ none 0 0 [] (by decide) W (texts_none W)

set_option maxHeartbeats 800000 in
theorem examples_any (W : World) (hm : MaxIs W) : Calls Try.prog 10 #[] W fun e w' => e = .returned (.bool true) ∧ Below W.heap.size W w' := by
  go_enter Try.func10, Try.ntmps10
  go_wp2_with fail
  refine (ex_get1 _).mono ?_
  rintro e w1 ⟨rfl, hb1⟩
  go_wp2_with fail
  refine (ex_get2 _).mono ?_
  rintro e w2 ⟨rfl, hb2⟩
  have hm2 : MaxIs w2 := (hm.below hb1).below hb2
  go_wp2_with fail
  refine (ex_cut _ (hm2.alloc _) _ (texts_new _ _ [⟨#[61]⟩, ⟨#[61, 62]⟩] _ rfl)).mono ?_
  rintro e w3 ⟨rfl, q, rfl⟩
  have hb3 : Below W.heap.size W w2 := hb1.trans (hb2.mono hb1.size)
  clear hb1 hb2 hm2
  go_wp2_with fail
  refine (ex_put1 _).mono ?_
  rintro e w4 ⟨rfl, hb4⟩
  have hb5 : Below W.heap.size W w4 := (below_drewN (hb3.alloc hb3.size _) q).trans (hb4.mono (by have := hb3.size; simp; omega))
  clear hb3 hb4
  go_wp2_with fail
  refine (ex_put2 _).mono ?_
  rintro e w5 ⟨rfl, hb6⟩
  have hb7 : Below W.heap.size W w5 := hb5.trans (hb6.mono hb5.size)
  clear hb5 hb6
  go_wp2_with fail
  refine (ex_join _ _ (texts_new _ _ [⟨#[97]⟩, ⟨#[98]⟩] _ rfl)).mono ?_
  rintro e w6 ⟨rfl, hb8⟩
  have hb9 : Below W.heap.size W w6 := (hb7.alloc hb7.size _).trans (hb8.mono (by have := hb7.size; simp; omega))
  clear hb7 hb8
  go_wp2_with fail
  refine (ex_join0 _).mono ?_
  rintro e w7 ⟨rfl, hb10⟩
  have hb11 : Below W.heap.size W w7 := hb9.trans (hb10.mono hb9.size)
  clear hb9 hb10
  go_wp2_with fail
  refine (ex_among _ _ (texts_new _ _ [⟨#[97]⟩, ⟨#[98]⟩] _ rfl)).mono ?_
  rintro e w8 ⟨rfl, rfl⟩
  go_wp2_with fail
  refine (ex_among0 _).mono ?_
  rintro e w9 ⟨rfl, rfl⟩
  go_wp2
  go_ret
  exact ⟨rfl, hb11.alloc hb11.size _⟩
end Go.Proofs.Ythmbgnjbmkmajaa
