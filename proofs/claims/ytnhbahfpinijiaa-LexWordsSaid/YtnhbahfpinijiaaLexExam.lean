/- The chapter's examples of words are so. -/
import Derived.Test.YtnhbahfpinijiaaLexAll
namespace Go.Proofs.Ytnhbahfpinijiaa
open Go.RowKit
set_option linter.unusedVariables false

def q1T : ByteArray := ⟨#[123, 97, 61, 126, 34, 120, 34, 125, 32, 124, 61, 32, 53, 109, 32, 45, 51]⟩
def q1L : List TokB := [⟨4, ⟨#[123]⟩, 0⟩, ⟨1, ⟨#[97]⟩, 1⟩, ⟨4, ⟨#[61, 126]⟩, 2⟩, ⟨2, ⟨#[120]⟩, 4⟩, ⟨4, ⟨#[125]⟩, 7⟩, ⟨4, ⟨#[124, 61]⟩, 9⟩, ⟨3, ⟨#[53, 109]⟩, 12⟩, ⟨3, ⟨#[45, 51]⟩, 15⟩]
theorem q1_is : lexL q1T.data.toList = (q1L, 17, 0) := by kernel_rfl
theorem q2_is : lexL (⟨#[97, 32, 59]⟩ : ByteArray).data.toList = ([], 2, 2) := by kernel_rfl
theorem q3_is : lexL (⟨#[]⟩ : ByteArray).data.toList = ([], 0, 0) := by kernel_rfl
theorem all_q1 (W : World) : Calls Try.prog 10 #[.string q1T] W fun e w' => ∃ g cap, e = .returned (.tuple #[.slice (some ⟨g, 0, none⟩) 8 cap, .int .i64 17, .int .i64 0]) ∧ 8 ≤ cap ∧ g < w'.heap.size ∧ Hid (∀ (j i : Nat) (a : TokB), q1L[j]? = some a → i < 3 → w'.cell? ⟨g, j * 3 + i, none⟩ = (tokV a)[i]?) ∧ Below W.heap.size W w' := by
  have h := all_any q1T W
  rw [q1_is] at h
  refine h.mono ?_
  rintro e w' ⟨v, rfl, hown, hb⟩
  obtain ⟨g, cap, rfl, hB, hlt, hc, hcell⟩ := hown.at_ tokV_len (by decide)
  exact ⟨g, cap, rfl, hc, hlt, Lib.hid hcell, hb⟩
theorem all_none (t : ByteArray) (k : Nat) (z : Int) (ht : lexL t.data.toList = ([], k, z)) (W : World) : Calls Try.prog 10 #[.string t] W fun e w' => ∃ A c, e = .returned (.tuple #[.slice A 0 c, .int .i64 (k : Int), .int .i64 z]) ∧ Below W.heap.size W w' := by
  have h := all_any t W
  rw [ht] at h
  refine h.mono ?_
  rintro e w' ⟨v, rfl, hown, hb⟩
  obtain ⟨A, cap, rfl, _⟩ := hown.open tokV_len
  exact ⟨A, cap, rfl, hb⟩
set_option maxRecDepth 100000 in
set_option maxHeartbeats 1600000 in
theorem lexExamples_any (W : World) : Calls Try.prog 8 #[] W fun e w' => e = .returned (.bool true) ∧ Below W.heap.size W w' := by
  have h0 : W.heap.size ≤ W.heap.size := Nat.le_refl _
  have C1 := Lib.hid all_q1
  have C2 := Lib.hid (fun w => all_none ⟨#[97, 32, 59]⟩ 2 2 q2_is w)
  have C3 := Lib.hid (fun w => all_none ⟨#[]⟩ 0 0 q3_is w)
  go_enter Try.func8, Try.ntmps8
  go_wp2_with fail
  refine (C1.out _).mono ?_
  rintro e w1 ⟨g, cap, rfl, hc, hg, HC, hb⟩
  go_wp2_with fail
  refine (C2.out _).mono ?_
  rintro e w2 ⟨A2, c2, rfl, hx⟩
  have hb2 := hop hb h0 hx
  have HC2 := Lib.hid (fun (j i : Nat) (a : TokB) h1 h2 => (hx.cell (p := ⟨g, j * 3 + i, none⟩) hg).trans (HC.out j i a h1 h2))
  have hg2 : g < w2.heap.size := Nat.lt_of_lt_of_le hg hx.size
  clear hx hb HC
  go_wp2_with fail
  refine (C3.out _).mono ?_
  rintro e w3 ⟨A3, c3, rfl, hx⟩
  have hb3 := hop hb2 h0 hx
  have HC3 := Lib.hid (fun (j i : Nat) (a : TokB) h1 h2 => (hx.cell (p := ⟨g, j * 3 + i, none⟩) hg2).trans (HC2.out j i a h1 h2))
  have hg3 : g < w3.heap.size := Nat.lt_of_lt_of_le hg2 hx.size
  clear hx hb2 HC2 hg hg2
  go_wp2_with fail
  refine (ops_any _).mono ?_
  rintro e w4 ⟨rfl, rfl⟩
  have hb4 := hb3.alloc hb3.size (.cells (opsT.map Value.string).toArray 9)
  have B4 := Blk.new w3 9 (opsT.map Value.string).toArray
  have o0 := (B4.cell 0).trans (rfl : _ = some (Value.string ⟨#[61, 126]⟩))
  have HC4 := Lib.hid (fun (j i : Nat) (a : TokB) h1 h2 => (World.cell?_of_block (a := ⟨g, j * 3 + i, none⟩) (heap_alloc_old w3 (.cells (opsT.map Value.string).toArray 9) hg3)).trans (HC3.out j i a h1 h2))
  obtain ⟨w4, hw4⟩ : ∃ w, w3.alloc (.cells (opsT.map Value.string).toArray 9) = w := ⟨_, rfl⟩
  rw [hw4] at hb4 o0 HC4
  rw [hw4]
  have k20 : w4.cell? ⟨g, 6, none⟩ = some (.int .i64 4) := HC4.out 2 0 _ rfl (by decide)
  have k21 : w4.cell? ⟨g, 7, none⟩ = some (.string ⟨#[61, 126]⟩) := HC4.out 2 1 _ rfl (by decide)
  have k30 : w4.cell? ⟨g, 9, none⟩ = some (.int .i64 2) := HC4.out 3 0 _ rfl (by decide)
  have k31 : w4.cell? ⟨g, 10, none⟩ = some (.string ⟨#[120]⟩) := HC4.out 3 1 _ rfl (by decide)
  have k32 : w4.cell? ⟨g, 11, none⟩ = some (.int .i64 4) := HC4.out 3 2 _ rfl (by decide)
  have k60 : w4.cell? ⟨g, 18, none⟩ = some (.int .i64 3) := HC4.out 6 0 _ rfl (by decide)
  have k61 : w4.cell? ⟨g, 19, none⟩ = some (.string ⟨#[53, 109]⟩) := HC4.out 6 1 _ rfl (by decide)
  have k71 : w4.cell? ⟨g, 22, none⟩ = some (.string ⟨#[45, 51]⟩) := HC4.out 7 1 _ rfl (by decide)
  have HB4 := Lib.hid hb4
  clear hw4 HC3 HC4 hb3 hb4 B4 C1 C2 C3
  go_wp2
  go_ret
  exact ⟨rfl, HB4.out⟩
end Go.Proofs.Ytnhbahfpinijiaa
