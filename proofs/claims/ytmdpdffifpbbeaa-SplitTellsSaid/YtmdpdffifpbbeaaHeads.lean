import Derived.Test.YtmdpdffifpbbeaaBehind
namespace Go.Proofs.Ytmdpdffifpbbeaa
open Go.RowKit

set_option maxHeartbeats 400000 in
theorem all_none (asc : Bool) (f t w : Int) (h : t ≤ f ∨ w < 1) (W : World) :
    Calls Try.prog 11 #[.int .i64 f, .int .i64 t, .int .i64 w, .bool asc] W fun e w' => e = .returned (.tuple #[.slice none 0 0, .int .i64 3]) ∧ W = w' := by
  go_enter Try.func11, Try.ntmps11
  go_wp2_with (go_at_call 9; refine (many_none f t w h _).mono ?_; rintro e w' ⟨rfl, rfl⟩)
  go_ret2
  exact ⟨rfl, rfl⟩
set_option maxHeartbeats 400000 in
theorem all_much (asc : Bool) (f t w : Int) (hf : -9223372036854775808 ≤ f) (ht : t ≤ 9223372036854775807) (hlt : f < t) (hw : 1 ≤ w) (hw2 : w ≤ 9223372036854775807) (hn : 64 < (t - f - 1) / w + 1) (W : World) :
    Calls Try.prog 11 #[.int .i64 f, .int .i64 t, .int .i64 w, .bool asc] W fun e w' => e = .returned (.tuple #[.slice none 0 0, .int .i64 3]) ∧ W = w' := by
  go_enter Try.func11, Try.ntmps11
  go_wp2_with (go_at_call 9; refine (many_much f t w hf ht hlt hw hw2 hn _).mono ?_; rintro e w' ⟨rfl, rfl⟩)
  go_ret2
  exact ⟨rfl, rfl⟩

theorem own_at {w : World} {B e size : Nat} {v : Value} {n : Nat} {xs : List Value} (h : w.ownsRow B e size v n xs) (hn : 0 < n) :
    ∃ g cap, v = .slice (some ⟨g, 0, none⟩) n cap ∧ B ≤ g ∧ g < w.heap.size ∧ ∀ j, j < n * size → w.cell? ⟨g, j, none⟩ = xs[j]? := by
  rcases h.2 with ⟨_, h0⟩ | ⟨g, cap, cur, rfl, hg, hh, _⟩
  · omega
  · exact ⟨g, cap, rfl, hg, lt_of_block hh, fun j hj => h.cellAt j hj⟩

set_option maxHeartbeats 400000 in
theorem examples_any (W : World) : Calls Try.prog 8 #[] W fun e w' => e = .returned (.bool true) ∧ Below W.heap.size W w' := by
  go_enter Try.func8, Try.ntmps8
  go_wp2_with fail
  refine (many_ok 0 10 4 (by decide) (by decide) (by decide) (by decide) (by decide) (by decide) _).mono ?_
  rintro e w' ⟨rfl, rfl⟩
  go_wp2_with fail
  refine (all_any false 0 10 4 (by decide) (by decide) (by decide) (by decide) (by decide) 3 (Lib.hid (by decide)) (by decide) _).mono ?_
  rintro e w1 ⟨g1, rfl, hg1, hb1, hbel1⟩
  have hlt1 := hb1.lt
  go_wp2_with fail
  refine (all_none true 5 5 1 (by decide) _).mono ?_
  rintro e w' ⟨rfl, rfl⟩
  go_wp2_with fail
  refine (many_much 0 100 1 (by decide) (by decide) (by decide) (by decide) (by decide) (by decide) _).mono ?_
  rintro e w' ⟨rfl, rfl⟩
  go_wp2_with fail
  refine (all_any true (-9223372036854775808) 9223372036854775807 4611686018427387904 (by decide) (by decide) (by decide) (by decide) (by decide) 4 (Lib.hid (by decide)) (by decide) _).mono ?_
  rintro e w2 ⟨g2, rfl, hg2, hb2, hbel2⟩
  go_wp2_with fail
  have hb1' := hb1.below hbel2 hlt1
  refine (behind_any true 4 _ g1 3 3 (told 0 10 4 3 false) (by decide) (by decide) _ (fun _ => ⟨rfl, hb1'.lt, RowOf.blk hb1'⟩)).mono ?_
  rintro e w3 ⟨v, rfl, hown, hbel3⟩
  have e1 : (told 0 10 4 3 false).filter (may true 4) = [(8, 10), (4, 8)] := by decide
  rw [e1] at hown
  obtain ⟨g3, cap, rfl, hg3, hlt3, hc3⟩ := own_at hown (by decide)
  have hb1'' := hb1'.below hbel3 hb1'.lt
  have x1 : w3.cell? ⟨g1, 0, none⟩ = some (.int .i64 8) := (hb1''.cell 0).trans rfl
  have x2 : w3.cell? ⟨g1, 1, none⟩ = some (.int .i64 10) := (hb1''.cell 1).trans rfl
  have x3 : w3.cell? ⟨g3, 2, none⟩ = some (.int .i64 4) := (hc3 2 (by decide)).trans rfl
  have e3 : [((8 : Int), (10 : Int)), (4, 8)].length = 2 := rfl
  clear e1 hc3 hown hb1 hb1' hb1''
  go_wp2
  go_ret
  exact ⟨rfl, (hbel1.trans (hbel2.mono hbel1.size)).trans (hbel3.mono (Nat.le_trans hbel1.size hbel2.size))⟩
end Go.Proofs.Ytmdpdffifpbbeaa
