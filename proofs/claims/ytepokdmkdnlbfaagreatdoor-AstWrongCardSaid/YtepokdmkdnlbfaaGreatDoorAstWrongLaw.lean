-- shaken
import Derived.Test.YtepokdmkdnlbfaaGreatDoorAstPartZ
namespace Go.Proofs.YtepokdmkdnlbfaaGreatDoor
open Go.RowKit
set_option linter.unusedVariables false
set_option linter.unusedSimpArgs false
theorem row_blk {α : Type} {V : α → List Value} {s : Nat} (hV : ∀ a, (V a).length = s) {w : World} {g : Nat} {ty : TypeId} {cs : Array Value} (l : List α) (h : Blk w g ty cs) (hc : cs = (rowV V l).toArray) : RowR V s w (some ⟨g, 0, none⟩) l.length l := by
  subst hc
  refine ⟨rfl, fun _ => ⟨_, 0, rfl, h.lt, fun j i a hj hi => ?_⟩⟩
  rw [show 0 + j * s + i = j * s + i by omega, h.cell, List.getElem?_toArray, rowV_at hV l j i a hj hi]
def m0W : MatB := ⟨⟨#[97, 112, 112]⟩, ⟨#[61]⟩, ⟨#[97]⟩⟩
def s0W : StgB := ⟨1, ⟨#[]⟩, ⟨#[124, 61]⟩, ⟨#[98]⟩, 0, 0⟩
def bad3 : List ByteArray := [⟨#[61, 61]⟩, ⟨#[124, 61]⟩, ⟨#[]⟩, ⟨#[62]⟩]
def bad4 : List ByteArray := [⟨#[]⟩, ⟨#[57, 97]⟩, ⟨#[97, 45, 98]⟩, ⟨#[97, 32, 98]⟩]
def bad5 : List ByteArray := [⟨#[40]⟩, ⟨#[97, 42, 42]⟩, ⟨#[91]⟩, ⟨#[120, 123]⟩]
theorem w_fine : rightQ [m0W] [s0W] = true := by decide +kernel
theorem w_zero : rightQ [] [s0W] = false := by decide +kernel
theorem w_one : rightQ (List.replicate 9 m0W) [s0W] = false := by decide +kernel
theorem w_two : rightQ [m0W] (List.replicate 17 s0W) = false := by decide +kernel
theorem w_three : ∀ i, i < 4 → rightQ [⟨⟨#[97, 112, 112]⟩, bad3.getD i .empty, ⟨#[97]⟩⟩] [s0W] = false := by decide +kernel
theorem w_four : ∀ i, i < 4 → rightQ [⟨bad4.getD i .empty, ⟨#[61]⟩, ⟨#[97]⟩⟩] [s0W] = false := by decide +kernel
theorem w_five : ∀ i, i < 4 → rightQ [⟨⟨#[97, 112, 112]⟩, ⟨#[61, 126]⟩, bad5.getD i .empty⟩] [s0W] = false := by decide +kernel
theorem w_eight : rightQ [m0W] [⟨1, ⟨#[110]⟩, ⟨#[124, 61]⟩, ⟨#[98]⟩, 0, 0⟩] = false := by decide +kernel
theorem w_kind {x : StgB} (h1 : ¬ x.kind = 1) (h2 : ¬ x.kind = 2) (h3 : ¬ x.kind = 3) (h4 : ¬ x.kind = 4) : rightQ [m0W] [s0W, x] = false := by
  have hx : rightS x = false := by unfold rightS; simp only [h1, h2, h3, h4, if_false]
  unfold rightQ
  simp only [List.all_cons, List.all_nil, hx, Bool.and_false, Bool.false_and]
theorem w_seven {n : Int} (h : ¬ n = 0) : rightQ [m0W] [⟨1, ⟨#[]⟩, ⟨#[124, 61]⟩, ⟨#[98]⟩, n, 0⟩] = false := by
  have hx : rightS ⟨1, ⟨#[]⟩, ⟨#[124, 61]⟩, ⟨#[98]⟩, n, 0⟩ = false := by
    unfold rightS
    simp only [if_true]
    rw [eqStg_no (fun e => h (congrArg StgB.num e))]; rfl
  unfold rightQ
  simp only [List.all_cons, List.all_nil, hx, Bool.and_false, Bool.false_and]
theorem own_store {α : Type} {V : α → List Value} {s : Nat} {w : World} {B ty : Nat} {v : Value} {l : List α} (h : OwnR V s w B ty v l) (p : Addr) (u : Value) (hne : ∀ g, v.ownBlock = some g → g ≠ p.block) : OwnR V s (w.setCell p u) B ty v l := by
  refine ⟨h.1, ?_⟩
  rcases h.2 with h0 | ⟨g, cap, cur, hv, hg, hh, hx⟩
  · exact .inl h0
  · refine .inr ⟨g, cap, cur, hv, hg, ?_, hx⟩
    subst hv
    exact (Below.heap_setCell w p u g (hne g rfl)).trans hh
theorem own_row {α : Type} {V : α → List Value} {s : Nat} (hV : ∀ a, (V a).length = s) {w : World} {B ty : Nat} {A : Option Addr} {n c : Nat} {l : List α} (h : OwnR V s w B ty (.slice A n c) l) : RowR V s w A n l := by
  obtain ⟨A2, c2, e, _, _, hr⟩ := OwnR.open hV h
  injection e with e1 e2 e3
  subst e1 e2
  exact hr
theorem own_cell {α : Type} {V : α → List Value} {s : Nat} (hV : ∀ a, (V a).length = s) {w : World} {B ty g n c : Nat} {l : List α} {a : α} (h : OwnR V s w B ty (.slice (some ⟨g, 0, none⟩) n c) l) (h0 : l[0]? = some a) (i : Nat) (hi : i < s) : w.cell? ⟨g, i, none⟩ = (V a)[i]? := by
  have hr := own_row hV h
  have hn : 0 < n := by rw [← hr.1]; exact (List.getElem?_eq_some_iff.1 h0).1
  obtain ⟨b, off, e, _, hc⟩ := hr.2 hn
  injection e with e
  injection e with e1 e2
  subst e1 e2
  have := hc 0 i a h0 hi
  simpa using this
theorem infoMat : (Tryz.prog.info? 43).map (fun i => (i.zero, i.size, i.bytes)) = some (some (.agg #[.string ⟨#[]⟩, .string ⟨#[]⟩, .string ⟨#[]⟩]), 3, 48) := by kernel_rfl
theorem infoStg : (Tryz.prog.info? 27).map (fun i => (i.zero, i.size, i.bytes)) = some (some (.agg #[.int .i64 0, .string ⟨#[]⟩, .string ⟨#[]⟩, .string ⟨#[]⟩, .int .i64 0, .int .i64 0]), 6, 72) := by kernel_rfl
theorem matV_one (m : MatB) : ∀ u ∈ matV m, u.oneCell' = true := by
  intro u hu
  simp only [matV, List.mem_cons, List.not_mem_nil, or_false] at hu
  rcases hu with rfl | rfl | rfl <;> rfl
theorem stgV_one (x : StgB) : ∀ u ∈ stgV x, u.oneCell' = true := by
  intro u hu
  simp only [stgV, List.mem_cons, List.not_mem_nil, or_false] at hu
  rcases hu with rfl | rfl | rfl | rfl | rfl | rfl <;> rfl
theorem kinds_at : ∀ i, i < 4 → ∃ y : Int, (#[.int .i64 0, .int .i64 5, .int .i64 (-1), .int .i64 9] : Array Value)[i]? = some (.int .i64 y) ∧ ¬ y = 1 ∧ ¬ y = 2 ∧ ¬ y = 3 ∧ ¬ y = 4
  | 0, _ => ⟨0, rfl, by decide, by decide, by decide, by decide⟩
  | 1, _ => ⟨5, rfl, by decide, by decide, by decide, by decide⟩
  | 2, _ => ⟨-1, rfl, by decide, by decide, by decide, by decide⟩
  | 3, _ => ⟨9, rfl, by decide, by decide, by decide, by decide⟩
  | n + 4, h => absurd h (by omega)
theorem part_some (K : Nat) (hK : K < 256) (W : World) :
    Calls Tryz.prog 9 #[.agg #[.int .i64 0, .string ⟨#[]⟩, .string ⟨#[]⟩, .string ⟨#[]⟩, .int .i64 0, .int .i64 0, .bool true, .int .u8 (K : Int), .int .i64 0]] W fun e w' => (∃ (x1 : Int) (x2 x3 x4 : ByteArray) (x5 x6 : Int), e = .returned (.agg #[.int .i64 x1, .string x2, .string x3, .string x4, .int .i64 x5, .int .i64 x6]) ∧ Num64 x5) ∧ Below W.heap.size W w' := by
  have n0 : Num64 0 := by unfold Num64; decide
  rcases (show K % 4 = 0 ∨ K % 4 = 1 ∨ K % 4 = 2 ∨ K % 4 = 3 by omega) with h | h | h | h
  · refine (part0_own 0 ⟨#[]⟩ ⟨#[]⟩ ⟨#[]⟩ 0 0 K (K / 4) (K / 4 / 4) (K / 4 % 4) 0 (by omega) (by rw [Int.tmod_eq_emod_of_nonneg (by omega)]; omega) (by omega) (by rw [IntKind.wrap_u8]; omega) (by rw [Int.tmod_eq_emod_of_nonneg (by omega)]; omega) (by omega) (by rw [IntKind.wrap_u8]; omega) (by omega) W).mono ?_
    rintro e w ⟨h1, h2⟩
    exact ⟨⟨_, _, _, _, _, _, h1, n0⟩, h2⟩
  · refine (part1_own 0 ⟨#[]⟩ ⟨#[]⟩ ⟨#[]⟩ 0 0 K (K / 4) 0 (by rw [Int.tmod_eq_emod_of_nonneg (by omega)]; omega) (by omega) (by rw [IntKind.wrap_u8]; omega) W).mono ?_
    rintro e w ⟨h1, h2⟩
    exact ⟨⟨_, _, _, _, _, _, h1, n0⟩, h2⟩
  · refine (part2_own 0 ⟨#[]⟩ ⟨#[]⟩ ⟨#[]⟩ 0 0 K (K / 4) (K / 4 / 3) (K / 4 / 12) (K / 4 % 3) (K / 4 / 3 % 4) 0 (by omega) (by omega) (by rw [Int.tmod_eq_emod_of_nonneg (by omega)]; omega) (by omega) (by rw [IntKind.wrap_u8]; omega) (by rw [Int.tmod_eq_emod_of_nonneg (by omega)]; omega) (by omega) (by rw [IntKind.wrap_u8]; omega) (by rw [Int.tmod_eq_emod_of_nonneg (by omega)]; omega) (by omega) (by rw [IntKind.wrap_u8]; omega) (by omega) W).mono ?_
    rintro e w ⟨h1, h2⟩
    exact ⟨⟨_, _, _, _, _, _, h1, n0⟩, h2⟩
  · refine (part3_zero 0 ⟨#[]⟩ ⟨#[]⟩ ⟨#[]⟩ 0 0 K (K / 4) (K / 4 / 2) (K / 4 / 12) (K / 4 % 2) (K / 4 / 2 % 6) (K / 4 % 4) (K / 4 / 12 % 3) (by omega) (by omega) (by omega) (by omega) (by rw [Int.tmod_eq_emod_of_nonneg (by omega)]; omega) (by omega) (by rw [IntKind.wrap_u8]; omega) (by rw [Int.tmod_eq_emod_of_nonneg (by omega)]; omega) (by omega) (by rw [IntKind.wrap_u8]; omega) (by rw [Int.tmod_eq_emod_of_nonneg (by omega)]; omega) (by omega) (by rw [IntKind.wrap_u8]; omega) (by rw [Int.tmod_eq_emod_of_nonneg (by omega)]; omega) (by rw [Int.tmod_eq_emod_of_nonneg (by omega)]; omega) W).mono ?_
    rintro e w ⟨h1, h2⟩
    exact ⟨⟨_, _, _, _, _, _, h1, n0⟩, h2⟩
abbrev wa0 : Oper := { dst := some 61, op := Go.Op.fieldAddr 34 (Go.Operand.tmp 6) 0, type := 0, pos := "keeps.go:42", after := #[], guard := none }
abbrev wa1 : Oper := { dst := some 62, op := Go.Op.load 31 (Go.Operand.tmp 61), type := 31, pos := "keeps.go:42", after := #[{ on := 0, ground := Go.Ground.data }], guard := none }
abbrev wa2 : Oper := { dst := some 63, op := Go.Op.buildSlice 44 4 #[(0, Go.Operand.const (Go.Value.string { data := #[61, 61] })), (1, Go.Operand.const (Go.Value.string { data := #[124, 61] })), (2, Go.Operand.const (Go.Value.string { data := #[] })), (3, Go.Operand.const (Go.Value.string { data := #[62] }))], type := 44, pos := "keeps.go:42", after := #[], guard := none }
abbrev wa3 : Oper := { dst := some 64, op := Go.Op.move (Go.Operand.tmp 1), type := 5, pos := "keeps.go:42", after := #[], guard := none }
abbrev wa4 : Oper := { dst := some 65, op := Go.Op.binOp Go.BinOp.rem 5 (Go.Operand.tmp 64) (Go.Operand.const (Go.Value.int Go.IntKind.u8 4)) 5, type := 5, pos := "keeps.go:42", after := #[{ on := 3, ground := Go.Ground.data }], guard := none }
abbrev wa5 : Oper := { dst := some 66, op := Go.Op.indexAddr 44 (Go.Operand.tmp 63) (Go.Operand.tmp 65), type := 0, pos := "keeps.go:42", after := #[{ on := 2, ground := Go.Ground.data }, { on := 4, ground := Go.Ground.data }], guard := none }
abbrev wa6 : Oper := { dst := some 67, op := Go.Op.load 9 (Go.Operand.tmp 66), type := 9, pos := "keeps.go:42", after := #[{ on := 5, ground := Go.Ground.data }], guard := none }
abbrev wa7 : Oper := { dst := some 68, op := Go.Op.indexAddr 31 (Go.Operand.tmp 62) (Go.Operand.const (Go.Value.int Go.IntKind.i64 0)), type := 0, pos := "keeps.go:42", after := #[{ on := 1, ground := Go.Ground.data }, { on := 0, ground := Go.Ground.phase }, { on := 1, ground := Go.Ground.phase }, { on := 2, ground := Go.Ground.phase }, { on := 3, ground := Go.Ground.phase }, { on := 4, ground := Go.Ground.phase }, { on := 5, ground := Go.Ground.phase }, { on := 6, ground := Go.Ground.phase }], guard := none }
abbrev wa8 : Oper := { dst := some 69, op := Go.Op.fieldAddr 43 (Go.Operand.tmp 68) 1, type := 0, pos := "keeps.go:42", after := #[{ on := 7, ground := Go.Ground.data }, { on := 0, ground := Go.Ground.phase }, { on := 1, ground := Go.Ground.phase }, { on := 2, ground := Go.Ground.phase }, { on := 3, ground := Go.Ground.phase }, { on := 4, ground := Go.Ground.phase }, { on := 5, ground := Go.Ground.phase }, { on := 6, ground := Go.Ground.phase }], guard := none }
abbrev wa9 : Oper := { dst := none, op := Go.Op.store 9 (Go.Operand.tmp 69) (Go.Operand.tmp 67), type := 0, pos := "keeps.go:42", after := #[{ on := 8, ground := Go.Ground.data }, { on := 6, ground := Go.Ground.data }, { on := 0, ground := Go.Ground.phase }, { on := 1, ground := Go.Ground.phase }, { on := 2, ground := Go.Ground.phase }, { on := 3, ground := Go.Ground.phase }, { on := 4, ground := Go.Ground.phase }, { on := 5, ground := Go.Ground.phase }, { on := 6, ground := Go.Ground.phase }], guard := none }
abbrev wb0 : Oper := { dst := some 72, op := Go.Op.fieldAddr 34 (Go.Operand.tmp 6) 0, type := 0, pos := "keeps.go:44", after := #[], guard := none }
abbrev wb1 : Oper := { dst := some 73, op := Go.Op.load 31 (Go.Operand.tmp 72), type := 31, pos := "keeps.go:44", after := #[{ on := 0, ground := Go.Ground.data }], guard := none }
abbrev wb2 : Oper := { dst := some 74, op := Go.Op.buildSlice 44 4 #[(0, Go.Operand.const (Go.Value.string { data := #[] })), (1, Go.Operand.const (Go.Value.string { data := #[57, 97] })), (2, Go.Operand.const (Go.Value.string { data := #[97, 45, 98] })), (3, Go.Operand.const (Go.Value.string { data := #[97, 32, 98] }))], type := 44, pos := "keeps.go:44", after := #[], guard := none }
abbrev wb3 : Oper := { dst := some 75, op := Go.Op.move (Go.Operand.tmp 1), type := 5, pos := "keeps.go:44", after := #[], guard := none }
abbrev wb4 : Oper := { dst := some 76, op := Go.Op.binOp Go.BinOp.rem 5 (Go.Operand.tmp 75) (Go.Operand.const (Go.Value.int Go.IntKind.u8 4)) 5, type := 5, pos := "keeps.go:44", after := #[{ on := 3, ground := Go.Ground.data }], guard := none }
abbrev wb5 : Oper := { dst := some 77, op := Go.Op.indexAddr 44 (Go.Operand.tmp 74) (Go.Operand.tmp 76), type := 0, pos := "keeps.go:44", after := #[{ on := 2, ground := Go.Ground.data }, { on := 4, ground := Go.Ground.data }], guard := none }
abbrev wb6 : Oper := { dst := some 78, op := Go.Op.load 9 (Go.Operand.tmp 77), type := 9, pos := "keeps.go:44", after := #[{ on := 5, ground := Go.Ground.data }], guard := none }
abbrev wb7 : Oper := { dst := some 79, op := Go.Op.indexAddr 31 (Go.Operand.tmp 73) (Go.Operand.const (Go.Value.int Go.IntKind.i64 0)), type := 0, pos := "keeps.go:44", after := #[{ on := 1, ground := Go.Ground.data }, { on := 0, ground := Go.Ground.phase }, { on := 1, ground := Go.Ground.phase }, { on := 2, ground := Go.Ground.phase }, { on := 3, ground := Go.Ground.phase }, { on := 4, ground := Go.Ground.phase }, { on := 5, ground := Go.Ground.phase }, { on := 6, ground := Go.Ground.phase }], guard := none }
abbrev wb8 : Oper := { dst := some 80, op := Go.Op.fieldAddr 43 (Go.Operand.tmp 79) 0, type := 0, pos := "keeps.go:44", after := #[{ on := 7, ground := Go.Ground.data }, { on := 0, ground := Go.Ground.phase }, { on := 1, ground := Go.Ground.phase }, { on := 2, ground := Go.Ground.phase }, { on := 3, ground := Go.Ground.phase }, { on := 4, ground := Go.Ground.phase }, { on := 5, ground := Go.Ground.phase }, { on := 6, ground := Go.Ground.phase }], guard := none }
abbrev wb9 : Oper := { dst := none, op := Go.Op.store 9 (Go.Operand.tmp 80) (Go.Operand.tmp 78), type := 0, pos := "keeps.go:44", after := #[{ on := 8, ground := Go.Ground.data }, { on := 6, ground := Go.Ground.data }, { on := 0, ground := Go.Ground.phase }, { on := 1, ground := Go.Ground.phase }, { on := 2, ground := Go.Ground.phase }, { on := 3, ground := Go.Ground.phase }, { on := 4, ground := Go.Ground.phase }, { on := 5, ground := Go.Ground.phase }, { on := 6, ground := Go.Ground.phase }], guard := none }
abbrev wc0 : Oper := { dst := some 87, op := Go.Op.fieldAddr 34 (Go.Operand.tmp 6) 0, type := 0, pos := "keeps.go:47", after := #[], guard := none }
abbrev wc1 : Oper := { dst := some 88, op := Go.Op.load 31 (Go.Operand.tmp 87), type := 31, pos := "keeps.go:47", after := #[{ on := 0, ground := Go.Ground.data }], guard := none }
abbrev wc2 : Oper := { dst := some 89, op := Go.Op.buildSlice 44 4 #[(0, Go.Operand.const (Go.Value.string { data := #[40] })), (1, Go.Operand.const (Go.Value.string { data := #[97, 42, 42] })), (2, Go.Operand.const (Go.Value.string { data := #[91] })), (3, Go.Operand.const (Go.Value.string { data := #[120, 123] }))], type := 44, pos := "keeps.go:47", after := #[], guard := none }
abbrev wc3 : Oper := { dst := some 90, op := Go.Op.move (Go.Operand.tmp 1), type := 5, pos := "keeps.go:47", after := #[], guard := none }
abbrev wc4 : Oper := { dst := some 91, op := Go.Op.binOp Go.BinOp.rem 5 (Go.Operand.tmp 90) (Go.Operand.const (Go.Value.int Go.IntKind.u8 4)) 5, type := 5, pos := "keeps.go:47", after := #[{ on := 3, ground := Go.Ground.data }], guard := none }
abbrev wc5 : Oper := { dst := some 92, op := Go.Op.indexAddr 44 (Go.Operand.tmp 89) (Go.Operand.tmp 91), type := 0, pos := "keeps.go:47", after := #[{ on := 2, ground := Go.Ground.data }, { on := 4, ground := Go.Ground.data }], guard := none }
abbrev wc6 : Oper := { dst := some 93, op := Go.Op.load 9 (Go.Operand.tmp 92), type := 9, pos := "keeps.go:47", after := #[{ on := 5, ground := Go.Ground.data }], guard := none }
abbrev wc7 : Oper := { dst := some 94, op := Go.Op.indexAddr 31 (Go.Operand.tmp 88) (Go.Operand.const (Go.Value.int Go.IntKind.i64 0)), type := 0, pos := "keeps.go:47", after := #[{ on := 1, ground := Go.Ground.data }, { on := 0, ground := Go.Ground.phase }, { on := 1, ground := Go.Ground.phase }, { on := 2, ground := Go.Ground.phase }, { on := 3, ground := Go.Ground.phase }, { on := 4, ground := Go.Ground.phase }, { on := 5, ground := Go.Ground.phase }, { on := 6, ground := Go.Ground.phase }], guard := none }
abbrev wc8 : Oper := { dst := some 95, op := Go.Op.fieldAddr 43 (Go.Operand.tmp 94) 2, type := 0, pos := "keeps.go:47", after := #[{ on := 7, ground := Go.Ground.data }, { on := 0, ground := Go.Ground.phase }, { on := 1, ground := Go.Ground.phase }, { on := 2, ground := Go.Ground.phase }, { on := 3, ground := Go.Ground.phase }, { on := 4, ground := Go.Ground.phase }, { on := 5, ground := Go.Ground.phase }, { on := 6, ground := Go.Ground.phase }], guard := none }
abbrev wc9 : Oper := { dst := none, op := Go.Op.store 9 (Go.Operand.tmp 95) (Go.Operand.tmp 93), type := 0, pos := "keeps.go:47", after := #[{ on := 8, ground := Go.Ground.data }, { on := 6, ground := Go.Ground.data }, { on := 0, ground := Go.Ground.phase }, { on := 1, ground := Go.Ground.phase }, { on := 2, ground := Go.Ground.phase }, { on := 3, ground := Go.Ground.phase }, { on := 4, ground := Go.Ground.phase }, { on := 5, ground := Go.Ground.phase }, { on := 6, ground := Go.Ground.phase }], guard := none }
abbrev wd0 : Oper := { dst := some 35, op := Go.Op.fieldAddr 34 (Go.Operand.tmp 6) 0, type := 0, pos := "keeps.go:35", after := #[], guard := none }
abbrev wd1 : Oper := { dst := some 36, op := Go.Op.load 31 (Go.Operand.tmp 35), type := 31, pos := "keeps.go:35", after := #[{ on := 0, ground := Go.Ground.data }], guard := none }
abbrev wd2 : Oper := { dst := some 37, op := Go.Op.fieldAddr 34 (Go.Operand.tmp 6) 0, type := 0, pos := "keeps.go:35", after := #[], guard := none }
abbrev wd3 : Oper := { dst := some 38, op := Go.Op.load 31 (Go.Operand.tmp 37), type := 31, pos := "keeps.go:35", after := #[{ on := 2, ground := Go.Ground.data }], guard := none }
abbrev wd4 : Oper := { dst := some 39, op := Go.Op.indexAddr 31 (Go.Operand.tmp 38) (Go.Operand.const (Go.Value.int Go.IntKind.i64 0)), type := 0, pos := "keeps.go:35", after := #[{ on := 3, ground := Go.Ground.data }], guard := none }
abbrev wd5 : Oper := { dst := some 40, op := Go.Op.load 43 (Go.Operand.tmp 39), type := 43, pos := "keeps.go:35", after := #[{ on := 4, ground := Go.Ground.data }], guard := none }
abbrev wd6 : Oper := { dst := some 41, op := Go.Op.buildSlice 31 1 #[(0, Go.Operand.tmp 40)], type := 31, pos := "keeps.go:35", after := #[{ on := 5, ground := Go.Ground.data }], guard := none }
abbrev wd7 : Oper := { dst := some 42, op := Go.Op.call { callee := Go.Callee.builtin Go.Builtin.append, args := #[Go.Operand.tmp 36, Go.Operand.tmp 41], argTypes := #[31, 31] }, type := 31, pos := "keeps.go:35", after := #[{ on := 1, ground := Go.Ground.data }, { on := 6, ground := Go.Ground.data }], guard := none }
abbrev wd8 : Oper := { dst := some 43, op := Go.Op.fieldAddr 34 (Go.Operand.tmp 6) 0, type := 0, pos := "keeps.go:35", after := #[{ on := 0, ground := Go.Ground.phase }, { on := 1, ground := Go.Ground.phase }, { on := 2, ground := Go.Ground.phase }, { on := 3, ground := Go.Ground.phase }, { on := 4, ground := Go.Ground.phase }, { on := 5, ground := Go.Ground.phase }, { on := 6, ground := Go.Ground.phase }, { on := 7, ground := Go.Ground.phase }], guard := none }
abbrev wd9 : Oper := { dst := none, op := Go.Op.store 31 (Go.Operand.tmp 43) (Go.Operand.tmp 42), type := 0, pos := "keeps.go:35", after := #[{ on := 8, ground := Go.Ground.data }, { on := 7, ground := Go.Ground.data }, { on := 7, ground := Go.Ground.chain }, { on := 0, ground := Go.Ground.phase }, { on := 1, ground := Go.Ground.phase }, { on := 2, ground := Go.Ground.phase }, { on := 3, ground := Go.Ground.phase }, { on := 4, ground := Go.Ground.phase }, { on := 5, ground := Go.Ground.phase }, { on := 6, ground := Go.Ground.phase }, { on := 7, ground := Go.Ground.phase }], guard := none }
abbrev we0 : Oper := { dst := some 50, op := Go.Op.fieldAddr 34 (Go.Operand.tmp 6) 1, type := 0, pos := "keeps.go:39", after := #[], guard := none }
abbrev we1 : Oper := { dst := some 51, op := Go.Op.load 32 (Go.Operand.tmp 50), type := 32, pos := "keeps.go:39", after := #[{ on := 0, ground := Go.Ground.data }], guard := none }
abbrev we2 : Oper := { dst := some 52, op := Go.Op.fieldAddr 34 (Go.Operand.tmp 6) 1, type := 0, pos := "keeps.go:39", after := #[], guard := none }
abbrev we3 : Oper := { dst := some 53, op := Go.Op.load 32 (Go.Operand.tmp 52), type := 32, pos := "keeps.go:39", after := #[{ on := 2, ground := Go.Ground.data }], guard := none }
abbrev we4 : Oper := { dst := some 54, op := Go.Op.indexAddr 32 (Go.Operand.tmp 53) (Go.Operand.const (Go.Value.int Go.IntKind.i64 0)), type := 0, pos := "keeps.go:39", after := #[{ on := 3, ground := Go.Ground.data }], guard := none }
abbrev we5 : Oper := { dst := some 55, op := Go.Op.load 27 (Go.Operand.tmp 54), type := 27, pos := "keeps.go:39", after := #[{ on := 4, ground := Go.Ground.data }], guard := none }
abbrev we6 : Oper := { dst := some 56, op := Go.Op.buildSlice 32 1 #[(0, Go.Operand.tmp 55)], type := 32, pos := "keeps.go:39", after := #[{ on := 5, ground := Go.Ground.data }], guard := none }
abbrev we7 : Oper := { dst := some 57, op := Go.Op.call { callee := Go.Callee.builtin Go.Builtin.append, args := #[Go.Operand.tmp 51, Go.Operand.tmp 56], argTypes := #[32, 32] }, type := 32, pos := "keeps.go:39", after := #[{ on := 1, ground := Go.Ground.data }, { on := 6, ground := Go.Ground.data }], guard := none }
abbrev we8 : Oper := { dst := some 58, op := Go.Op.fieldAddr 34 (Go.Operand.tmp 6) 1, type := 0, pos := "keeps.go:39", after := #[{ on := 0, ground := Go.Ground.phase }, { on := 1, ground := Go.Ground.phase }, { on := 2, ground := Go.Ground.phase }, { on := 3, ground := Go.Ground.phase }, { on := 4, ground := Go.Ground.phase }, { on := 5, ground := Go.Ground.phase }, { on := 6, ground := Go.Ground.phase }, { on := 7, ground := Go.Ground.phase }], guard := none }
abbrev we9 : Oper := { dst := none, op := Go.Op.store 32 (Go.Operand.tmp 58) (Go.Operand.tmp 57), type := 0, pos := "keeps.go:39", after := #[{ on := 8, ground := Go.Ground.data }, { on := 7, ground := Go.Ground.data }, { on := 7, ground := Go.Ground.chain }, { on := 0, ground := Go.Ground.phase }, { on := 1, ground := Go.Ground.phase }, { on := 2, ground := Go.Ground.phase }, { on := 3, ground := Go.Ground.phase }, { on := 4, ground := Go.Ground.phase }, { on := 5, ground := Go.Ground.phase }, { on := 6, ground := Go.Ground.phase }, { on := 7, ground := Go.Ground.phase }], guard := none }
theorem BlkH.far_ {B : Nat} {w : World} {g : Nat} {t : TypeId} {cs : Array Value} (h : BlkH B w g t cs) (p : Addr) (hp : g ≠ p.block) (u : Value) : BlkH B (w.setCell p u) g t cs := ⟨h.blk.far hp u, h.le⟩
set_option maxRecDepth 100000 in
set_option maxHeartbeats 12800000 in
theorem astWrong_walk {W : World} (how k : Int) (wh : (Lit.int .u8 how).wf = true) (wk : (Lit.int .u8 k).wf = true) (hl : LibIs W) :
    Calls Tryz.prog 4 #[.int .u8 how, .int .u8 k] W fun e w' => e = .returned (.bool true) ∧ Below W.heap.size W w' := by
  have HEX := Lib.hid (fun w h => examples8_any w h)
  have HL := Lib.hid hl
  obtain ⟨k0, k1⟩ := bdu8 wk
  obtain ⟨h0, h1⟩ := bdu8 wh
  obtain ⟨K, rfl⟩ : ∃ n : Nat, k = n := ⟨k.toNat, by omega⟩
  obtain ⟨i, hki⟩ : ∃ i, K % 4 = i := ⟨_, rfl⟩
  have hi : i < 4 := by omega
  have iI : (i : Int) < 4 := by omega
  have hkm : (K : Int).tmod 4 = (i : Int) := by rw [Int.tmod_eq_emod_of_nonneg (by omega)]; omega
  have hkm' : (K : Int) % 4 = (i : Int) := by omega
  have wi : IntKind.u8.wrap (i : Int) = (i : Int) := by rw [IntKind.wrap_u8]; omega
  have wK : IntKind.i64.wrap (K : Int) = (K : Int) := by rw [IntKind.wrap_i64]; omega
  have wK1 : IntKind.i64.wrap ((K : Int) + 1) = (K : Int) + 1 := by rw [IntKind.wrap_i64]; omega
  have PS := Lib.hid (fun w => part_some K (by omega) w)
  obtain ⟨h, hh, h9⟩ : ∃ n : Nat, how.tmod 9 = (n : Int) ∧ n < 9 := ⟨(how.tmod 9).toNat, by rw [Int.tmod_eq_emod_of_nonneg h0]; omega, by rw [Int.tmod_eq_emod_of_nonneg h0]; omega⟩
  have hh' : how % 9 = (h : Int) := by rw [← hh, Int.tmod_eq_emod_of_nonneg h0]
  have wh9 : IntKind.u8.wrap (h : Int) = (h : Int) := by rw [IntKind.wrap_u8]; omega
  have HKI := Lib.hid hki
  clear hl wk wh hki
  go_enter Tryz.func4, Tryz.ntmps4
  go_wp2_with fail
  refine (HEX.out W HL.out).mono ?_
  rintro e w1 ⟨rfl, hb_⟩
  have HB_ := Lib.hid hb_
  clear hb_ HEX
  have hs1 := HB_.out.size
  have HC := Lib.hid (((HB_.out.alloc hs1 (.cells #[.string ⟨#[97, 112, 112]⟩, .string ⟨#[61]⟩, .string ⟨#[97]⟩] 43)).alloc (by simp; omega) (.cells #[.int .i64 1, .string ⟨#[]⟩, .string ⟨#[124, 61]⟩, .string ⟨#[98]⟩, .int .i64 0, .int .i64 0] 27)).alloc (by simp; omega) (.cells #[.slice (some ⟨w1.heap.size, 0, none⟩) 1 1, .slice (some ⟨w1.heap.size + 1, 0, none⟩) 1 1] 34))
  have K1 := Lib.hid (((Blk.new w1 43 #[.string ⟨#[97, 112, 112]⟩, .string ⟨#[61]⟩, .string ⟨#[97]⟩]).alloc (.cells #[.int .i64 1, .string ⟨#[]⟩, .string ⟨#[124, 61]⟩, .string ⟨#[98]⟩, .int .i64 0, .int .i64 0] 27)).alloc (.cells #[.slice (some ⟨w1.heap.size, 0, none⟩) 1 1, .slice (some ⟨w1.heap.size + 1, 0, none⟩) 1 1] 34))
  have K2 := Lib.hid (show Blk (((w1.alloc (.cells #[.string ⟨#[97, 112, 112]⟩, .string ⟨#[61]⟩, .string ⟨#[97]⟩] 43)).alloc (.cells #[.int .i64 1, .string ⟨#[]⟩, .string ⟨#[124, 61]⟩, .string ⟨#[98]⟩, .int .i64 0, .int .i64 0] 27)).alloc (.cells #[.slice (some ⟨w1.heap.size, 0, none⟩) 1 1, .slice (some ⟨w1.heap.size + 1, 0, none⟩) 1 1] 34)) (w1.heap.size + 1) 27 #[.int .i64 1, .string ⟨#[]⟩, .string ⟨#[124, 61]⟩, .string ⟨#[98]⟩, .int .i64 0, .int .i64 0] from by
    have h := Blk.new (w1.alloc (.cells #[.string ⟨#[97, 112, 112]⟩, .string ⟨#[61]⟩, .string ⟨#[97]⟩] 43)) 27 #[.int .i64 1, .string ⟨#[]⟩, .string ⟨#[124, 61]⟩, .string ⟨#[98]⟩, .int .i64 0, .int .i64 0]
    rw [show (w1.alloc (.cells #[.string ⟨#[97, 112, 112]⟩, .string ⟨#[61]⟩, .string ⟨#[97]⟩] 43)).heap.size = w1.heap.size + 1 by simp] at h
    exact h.alloc (.cells #[.slice (some ⟨w1.heap.size, 0, none⟩) 1 1, .slice (some ⟨w1.heap.size + 1, 0, none⟩) 1 1] 34))
  have K3 := Lib.hid (show Blk (((w1.alloc (.cells #[.string ⟨#[97, 112, 112]⟩, .string ⟨#[61]⟩, .string ⟨#[97]⟩] 43)).alloc (.cells #[.int .i64 1, .string ⟨#[]⟩, .string ⟨#[124, 61]⟩, .string ⟨#[98]⟩, .int .i64 0, .int .i64 0] 27)).alloc (.cells #[.slice (some ⟨w1.heap.size, 0, none⟩) 1 1, .slice (some ⟨w1.heap.size + 1, 0, none⟩) 1 1] 34)) (w1.heap.size + 1 + 1) 34 #[.slice (some ⟨w1.heap.size, 0, none⟩) 1 1, .slice (some ⟨w1.heap.size + 1, 0, none⟩) 1 1] from by
    have h := Blk.new ((w1.alloc (.cells #[.string ⟨#[97, 112, 112]⟩, .string ⟨#[61]⟩, .string ⟨#[97]⟩] 43)).alloc (.cells #[.int .i64 1, .string ⟨#[]⟩, .string ⟨#[124, 61]⟩, .string ⟨#[98]⟩, .int .i64 0, .int .i64 0] 27)) 34 #[.slice (some ⟨w1.heap.size, 0, none⟩) 1 1, .slice (some ⟨w1.heap.size + 1, 0, none⟩) 1 1]
    rwa [show ((w1.alloc (.cells #[.string ⟨#[97, 112, 112]⟩, .string ⟨#[61]⟩, .string ⟨#[97]⟩] 43)).alloc (.cells #[.int .i64 1, .string ⟨#[]⟩, .string ⟨#[124, 61]⟩, .string ⟨#[98]⟩, .int .i64 0, .int .i64 0] 27)).heap.size = w1.heap.size + 1 + 1 by simp] at h)
  have O1 := Lib.hid (show OwnR matV 3 (((w1.alloc (.cells #[.string ⟨#[97, 112, 112]⟩, .string ⟨#[61]⟩, .string ⟨#[97]⟩] 43)).alloc (.cells #[.int .i64 1, .string ⟨#[]⟩, .string ⟨#[124, 61]⟩, .string ⟨#[98]⟩, .int .i64 0, .int .i64 0] 27)).alloc (.cells #[.slice (some ⟨w1.heap.size, 0, none⟩) 1 1, .slice (some ⟨w1.heap.size + 1, 0, none⟩) 1 1] 34)) W.heap.size 43 (.slice (some ⟨w1.heap.size, 0, none⟩) 1 1) [m0W] from ((World.ownsRow_lit (base := W.heap.size) (e := 43) (size := 3) w1 #[.string ⟨#[97, 112, 112]⟩, .string ⟨#[61]⟩, .string ⟨#[97]⟩] 1 hs1 (by unfold maxLen; omega) (by simp)).alloc (.cells #[.int .i64 1, .string ⟨#[]⟩, .string ⟨#[124, 61]⟩, .string ⟨#[98]⟩, .int .i64 0, .int .i64 0] 27)).alloc (.cells #[.slice (some ⟨w1.heap.size, 0, none⟩) 1 1, .slice (some ⟨w1.heap.size + 1, 0, none⟩) 1 1] 34))
  have O2 := Lib.hid (show OwnR stgV 6 (((w1.alloc (.cells #[.string ⟨#[97, 112, 112]⟩, .string ⟨#[61]⟩, .string ⟨#[97]⟩] 43)).alloc (.cells #[.int .i64 1, .string ⟨#[]⟩, .string ⟨#[124, 61]⟩, .string ⟨#[98]⟩, .int .i64 0, .int .i64 0] 27)).alloc (.cells #[.slice (some ⟨w1.heap.size, 0, none⟩) 1 1, .slice (some ⟨w1.heap.size + 1, 0, none⟩) 1 1] 34)) W.heap.size 27 (.slice (some ⟨w1.heap.size + 1, 0, none⟩) 1 1) [s0W] from by
    have h := World.ownsRow_lit (base := W.heap.size) (e := 27) (size := 6) (w1.alloc (.cells #[.string ⟨#[97, 112, 112]⟩, .string ⟨#[61]⟩, .string ⟨#[97]⟩] 43)) #[.int .i64 1, .string ⟨#[]⟩, .string ⟨#[124, 61]⟩, .string ⟨#[98]⟩, .int .i64 0, .int .i64 0] 1 (by simp; omega) (by unfold maxLen; omega) (by simp)
    rw [show (w1.alloc (.cells #[.string ⟨#[97, 112, 112]⟩, .string ⟨#[61]⟩, .string ⟨#[97]⟩] 43)).heap.size = w1.heap.size + 1 by simp] at h
    exact h.alloc (.cells #[.slice (some ⟨w1.heap.size, 0, none⟩) 1 1, .slice (some ⟨w1.heap.size + 1, 0, none⟩) 1 1] 34))
  obtain ⟨wA, hwA⟩ : ∃ w, (((w1.alloc (.cells #[.string ⟨#[97, 112, 112]⟩, .string ⟨#[61]⟩, .string ⟨#[97]⟩] 43)).alloc (.cells #[.int .i64 1, .string ⟨#[]⟩, .string ⟨#[124, 61]⟩, .string ⟨#[98]⟩, .int .i64 0, .int .i64 0] 27)).alloc (.cells #[.slice (some ⟨w1.heap.size, 0, none⟩) 1 1, .slice (some ⟨w1.heap.size + 1, 0, none⟩) 1 1] 34)) = w := ⟨_, rfl⟩
  have HWA := Lib.hid hwA
  rw [hwA] at HC K1 K2 K3 O1 O2
  clear hwA HB_
  go_wp2_with fail
  rw [HWA.out]
  have cq := astRight_any (some ⟨w1.heap.size, 0, none⟩) 1 1 (some ⟨w1.heap.size + 1, 0, none⟩) 1 1 [m0W] [s0W] wA (row_blk matV_len [m0W] K1.out rfl) (row_blk stgV_len [s0W] K2.out rfl) (fun s hs => by rw [List.mem_singleton] at hs; subst hs; show Num64 0; unfold Num64; decide) (HL.out.below HC.out)
  rw [w_fine] at cq
  refine cq.mono ?_
  rintro e w2 ⟨rfl, hb_⟩
  have k_ := K1.out.below hb_ K1.out.lt
  clear K1
  have K1 := Lib.hid k_
  clear k_
  have k_ := K2.out.below hb_ K2.out.lt
  clear K2
  have K2 := Lib.hid k_
  clear k_
  have k_ := K3.out.below hb_ K3.out.lt
  clear K3
  have K3 := Lib.hid k_
  clear k_
  have k_ := OwnR.below O1.out hb_
  clear O1
  have O1 := Lib.hid k_
  clear k_
  have k_ := OwnR.below O2.out hb_
  clear O2
  have O2 := Lib.hid k_
  clear k_
  have hbb_ := hop HC.out (Nat.le_refl _) hb_
  clear HC
  have HC := Lib.hid hbb_
  clear hbb_ hb_
  clear cq HWA
  go_wp2_with fail
  refine (PS.out _).mono ?_
  rintro e w3 ⟨⟨x1, x2, x3, x4, x5, x6, rfl, hx5⟩, hb_⟩
  have k_ := K1.out.below hb_ K1.out.lt
  clear K1
  have K1 := Lib.hid k_
  clear k_
  have k_ := K2.out.below hb_ K2.out.lt
  clear K2
  have K2 := Lib.hid k_
  clear k_
  have k_ := K3.out.below hb_ K3.out.lt
  clear K3
  have K3 := Lib.hid k_
  clear k_
  have k_ := OwnR.below O1.out hb_
  clear O1
  have O1 := Lib.hid k_
  clear k_
  have k_ := OwnR.below O2.out hb_
  clear O2
  have O2 := Lib.hid k_
  clear k_
  have hbb_ := hop HC.out (Nat.le_refl _) hb_
  clear HC
  have HC := Lib.hid hbb_
  clear hbb_ hb_
  have hs3 := HC.out.size
  have hlt3 := K3.out.lt
  have HC8 := Lib.hid (HC.out.alloc hs3 (.cells #[.int .i64 x1, .string x2, .string x3, .string x4, .int .i64 x5, .int .i64 x6] 27))
  have J1 := Lib.hid (K1.out.alloc (.cells #[.int .i64 x1, .string x2, .string x3, .string x4, .int .i64 x5, .int .i64 x6] 27))
  have J2 := Lib.hid (K2.out.alloc (.cells #[.int .i64 x1, .string x2, .string x3, .string x4, .int .i64 x5, .int .i64 x6] 27))
  have J3 := Lib.hid (K3.out.alloc (.cells #[.int .i64 x1, .string x2, .string x3, .string x4, .int .i64 x5, .int .i64 x6] 27))
  have J8 := Lib.hid (Blk.new w3 27 #[.int .i64 x1, .string x2, .string x3, .string x4, .int .i64 x5, .int .i64 x6])
  have HX5 := Lib.hid hx5
  have hs1b : W.heap.size ≤ w1.heap.size := hs1
  clear PS hx5
  rcases (show h = 0 ∨ h = 1 ∨ h = 2 ∨ h = 3 ∨ h = 4 ∨ h = 5 ∨ h = 6 ∨ h = 7 ∨ h = 8 by omega) with rfl | rfl | rfl | rfl | rfl | rfl | rfl | rfl | rfl
  ·
    have fr_ := J3.out.frozen 0
    have co_ := J3.out.cell 0
    have q0_ := J3.out.cell 0
    have q1_ := J3.out.cell 1
    have N1 := Lib.hid ((K1.out.far (p := ⟨w1.heap.size + 1 + 1, 0, none⟩) (by show w1.heap.size ≠ w1.heap.size + 1 + 1; omega) (.slice none 0 0)).alloc (.cells #[.int .i64 x1, .string x2, .string x3, .string x4, .int .i64 x5, .int .i64 x6] 27))
    have N2 := Lib.hid ((K2.out.far (p := ⟨w1.heap.size + 1 + 1, 0, none⟩) (by show w1.heap.size + 1 ≠ w1.heap.size + 1 + 1; omega) (.slice none 0 0)).alloc (.cells #[.int .i64 x1, .string x2, .string x3, .string x4, .int .i64 x5, .int .i64 x6] 27))
    have N3 := Lib.hid ((K3.out.set_ 0 (.slice none 0 0)).alloc (.cells #[.int .i64 x1, .string x2, .string x3, .string x4, .int .i64 x5, .int .i64 x6] 27))
    have HD := Lib.hid ((HC.out.setCell (p := ⟨w1.heap.size + 1 + 1, 0, none⟩) (by show W.heap.size ≤ w1.heap.size + 1 + 1; omega) (.slice none 0 0)).alloc (by simp; omega) (.cells #[.int .i64 x1, .string x2, .string x3, .string x4, .int .i64 x5, .int .i64 x6] 27))
    have p0_ := (N3.out.cell 0).trans (show _ = some (.slice none 0 0) from rfl)
    have p1_ := (N3.out.cell 1).trans (show _ = some (.slice (some ⟨w1.heap.size + 1, 0, none⟩) 1 1) from rfl)
    go_wp2_with fail
    have cq := astRight_any none 0 0 (some ⟨w1.heap.size + 1, 0, none⟩) 1 1 [] [s0W] _ (RowR.none _) (row_blk stgV_len [s0W] N2.out rfl) (fun s hs => by rw [List.mem_singleton] at hs; subst hs; show Num64 0; unfold Num64; decide) (HL.out.below HD.out)
    rw [w_zero] at cq
    refine cq.mono ?_
    rintro e w9 ⟨rfl, hb_⟩
    have HE := Lib.hid (hop HD.out (Nat.le_refl _) hb_)
    clear hb_ cq
    go_wp2
    go_ret
    exact ⟨rfl, HE.out⟩
  ·
    obtain ⟨i0, hi_, hz0, hz1, hz2⟩ := info_parts infoMat
    have OW := Lib.hid (OwnR.alloc O1.out (.cells #[.int .i64 x1, .string x2, .string x3, .string x4, .int .i64 x5, .int .i64 x6] 27))
    go_wp2
    go_loopw [9] (fun iv wr => ∃ (j g cap : Nat), j ≤ 8 ∧ iv = .int .i64 (j : Nat) ∧ Hid (OwnR matV 3 wr W.heap.size 43 (.slice (some ⟨g, 0, none⟩) (j + 1) cap) (List.replicate (j + 1) m0W)) ∧ Hid (g ≠ w1.heap.size + 1 ∧ g ≠ w1.heap.size + 1 + 1) ∧ Hid (Blk wr (w1.heap.size + 1 + 1) 34 #[.slice (some ⟨g, 0, none⟩) (j + 1) cap, .slice (some ⟨w1.heap.size + 1, 0, none⟩) 1 1]) ∧ Hid (Blk wr (w1.heap.size + 1) 27 #[.int .i64 1, .string ⟨#[]⟩, .string ⟨#[124, 61]⟩, .string ⟨#[98]⟩, .int .i64 0, .int .i64 0]) ∧ Hid (Below W.heap.size W wr)) (fun iv _ => 8 - (intOf iv).toNat)
    case atStart => exact ⟨0, w1.heap.size, 1, by decide, rfl, OW, Lib.hid ⟨by omega, by omega⟩, J3, J2, HC8⟩
    case round =>
      obtain ⟨j, g, cap, hj, rfl, HOx, HG, H3x, H2x, HBx⟩ := hrel
      by_cases h : j < 8
      · have hI : (j : Int) < 8 := by omega
        have HB0 : Below W.heap.size W wr.drew := below_drewN HBx.out 1
        have HO : OwnR matV 3 wr.drew W.heap.size 43 (.slice (some ⟨g, 0, none⟩) (j + 1) cap) (List.replicate (j + 1) m0W) := HOx.out
        have H2 : BlkH W.heap.size wr.drew (w1.heap.size + 1) 27 #[.int .i64 1, .string ⟨#[]⟩, .string ⟨#[124, 61]⟩, .string ⟨#[98]⟩, .int .i64 0, .int .i64 0] := ⟨H2x.out, by omega⟩
        have H3 : BlkH W.heap.size wr.drew (w1.heap.size + 1 + 1) 34 #[.slice (some ⟨g, 0, none⟩) (j + 1) cap, .slice (some ⟨w1.heap.size + 1, 0, none⟩) 1 1] := ⟨H3x.out, by omega⟩
        go_wp2
        refine wp_region_held_drew (S := fun w' => True) (by kernel_rfl) trivial (fun hS => ?_)
        obtain ⟨w0, hw0⟩ : ∃ z, wr.drew = z := ⟨_, rfl⟩
        rw [hw0] at HB0 HO H2 H3 ⊢
        clear hw0
        refine takeH 0 wd0 hS ?_
        try simp only [Act.put, pz1, pz2, pz3]
        refine takeH 2 wd2 hS ?_
        try simp only [Act.put, pz1, pz2, pz3]
        refine wpAnyH_ready (rs := [1, 3]) (by kernel_rfl) (by simp) ?_
        refine AllReadyH.cons (o := wd1) rfl (fun K hK => ?_) ?_
        focus
          have c_ : w0.cell? ⟨w1.heap.size + 1 + 1, 0, none⟩ = some (.slice (some ⟨g, 0, none⟩) (j + 1) cap) := (H3.blk.cell 0).trans rfl
          go_simp
          clear c_
          refine hK.out _ _ trivial (fun _ => ?_)
          clear hK K
          try simp only [Act.put, pz1, pz2, pz3]
          refine wpAnyH_ready (rs := [3]) (by kernel_rfl) (by simp) ?_
          refine AllReadyH.cons (o := wd3) rfl (fun K hK => ?_) AllReadyH.nil
          have c_ : w0.cell? ⟨w1.heap.size + 1 + 1, 0, none⟩ = some (.slice (some ⟨g, 0, none⟩) (j + 1) cap) := (H3.blk.cell 0).trans rfl
          go_simp
          clear c_
          refine hK.out _ _ trivial (fun _ => ?_)
          clear hK K
          try simp only [Act.put, pz1, pz2, pz3]
          refine takeH 4 wd4 hS ?_
          try simp only [Act.put, pz1, pz2, pz3]
          refine wpAnyH_ready (rs := [5]) (by kernel_rfl) (by simp) ?_
          refine AllReadyH.cons (o := wd5) rfl (fun K hK => ?_) AllReadyH.nil
          have r0_ : w0.cell? ⟨g, 0, none⟩ = some (.string ⟨#[97, 112, 112]⟩) := (own_cell matV_len HO (a := m0W) (by simp) 0 (by decide)).trans rfl
          have r1_ : w0.cell? ⟨g, 1, none⟩ = some (.string ⟨#[61]⟩) := (own_cell matV_len HO (a := m0W) (by simp) 1 (by decide)).trans rfl
          have r2_ : w0.cell? ⟨g, 2, none⟩ = some (.string ⟨#[97]⟩) := (own_cell matV_len HO (a := m0W) (by simp) 2 (by decide)).trans rfl
          go_simp
          clear r0_ r1_ r2_
          refine hK.out _ _ trivial (fun _ => ?_)
          clear hK K
          try simp only [Act.put, pz1, pz2, pz3]
          refine wpAnyH_ready (rs := [6]) (by kernel_rfl) (by simp) ?_
          refine AllReadyH.cons (o := wd6) rfl (fun K hK => ?_) AllReadyH.nil
          go_simp
          have hb3 : Below w0.heap.size w0 (w0.alloc (.cells #[.string ⟨#[97, 112, 112]⟩, .string ⟨#[61]⟩, .string ⟨#[97]⟩] 43)) := (Below.refl _ _).alloc (Nat.le_refl _) _
          obtain ⟨g6, hg6⟩ : ∃ g, w0.heap.size = g := ⟨_, rfl⟩
          have HN : Blk (w0.alloc (.cells #[.string ⟨#[97, 112, 112]⟩, .string ⟨#[61]⟩, .string ⟨#[97]⟩] 43)) g6 43 #[.string ⟨#[97, 112, 112]⟩, .string ⟨#[61]⟩, .string ⟨#[97]⟩] := by rw [← hg6]; exact Blk.new _ _ _
          obtain ⟨wT, hwc⟩ : ∃ z, w0.alloc (.cells #[.string ⟨#[97, 112, 112]⟩, .string ⟨#[61]⟩, .string ⟨#[97]⟩] 43) = z := ⟨_, rfl⟩
          rw [hwc] at hb3 HN
          rw [hwc, hg6]
          clear hwc hg6
          replace H2 := H2.below_ hb3
          replace H3 := H3.below_ hb3
          replace HO := OwnR.below HO hb3
          replace HB0 := hop HB0 (Nat.le_refl _) hb3
          clear hb3
          refine hK.out _ _ trivial (fun _ => ?_)
          clear hK K
          try simp only [Act.put, pz1, pz2, pz3]
        rotate_left 1
        refine AllReadyH.cons (o := wd3) rfl (fun K hK => ?_) AllReadyH.nil
        focus
          have c_ : w0.cell? ⟨w1.heap.size + 1 + 1, 0, none⟩ = some (.slice (some ⟨g, 0, none⟩) (j + 1) cap) := (H3.blk.cell 0).trans rfl
          go_simp
          clear c_
          refine hK.out _ _ trivial (fun _ => ?_)
          clear hK K
          try simp only [Act.put, pz1, pz2, pz3]
          refine takeH 4 wd4 hS ?_
          try simp only [Act.put, pz1, pz2, pz3]
          refine wpAnyH_ready (rs := [1, 5]) (by kernel_rfl) (by simp) ?_
          refine AllReadyH.cons (o := wd1) rfl (fun K hK => ?_) ?_
          focus
            have c_ : w0.cell? ⟨w1.heap.size + 1 + 1, 0, none⟩ = some (.slice (some ⟨g, 0, none⟩) (j + 1) cap) := (H3.blk.cell 0).trans rfl
            go_simp
            clear c_
            refine hK.out _ _ trivial (fun _ => ?_)
            clear hK K
            try simp only [Act.put, pz1, pz2, pz3]
            refine wpAnyH_ready (rs := [5]) (by kernel_rfl) (by simp) ?_
            refine AllReadyH.cons (o := wd5) rfl (fun K hK => ?_) AllReadyH.nil
            have r0_ : w0.cell? ⟨g, 0, none⟩ = some (.string ⟨#[97, 112, 112]⟩) := (own_cell matV_len HO (a := m0W) (by simp) 0 (by decide)).trans rfl
            have r1_ : w0.cell? ⟨g, 1, none⟩ = some (.string ⟨#[61]⟩) := (own_cell matV_len HO (a := m0W) (by simp) 1 (by decide)).trans rfl
            have r2_ : w0.cell? ⟨g, 2, none⟩ = some (.string ⟨#[97]⟩) := (own_cell matV_len HO (a := m0W) (by simp) 2 (by decide)).trans rfl
            go_simp
            clear r0_ r1_ r2_
            refine hK.out _ _ trivial (fun _ => ?_)
            clear hK K
            try simp only [Act.put, pz1, pz2, pz3]
            refine wpAnyH_ready (rs := [6]) (by kernel_rfl) (by simp) ?_
            refine AllReadyH.cons (o := wd6) rfl (fun K hK => ?_) AllReadyH.nil
            go_simp
            have hb3 : Below w0.heap.size w0 (w0.alloc (.cells #[.string ⟨#[97, 112, 112]⟩, .string ⟨#[61]⟩, .string ⟨#[97]⟩] 43)) := (Below.refl _ _).alloc (Nat.le_refl _) _
            obtain ⟨g6, hg6⟩ : ∃ g, w0.heap.size = g := ⟨_, rfl⟩
            have HN : Blk (w0.alloc (.cells #[.string ⟨#[97, 112, 112]⟩, .string ⟨#[61]⟩, .string ⟨#[97]⟩] 43)) g6 43 #[.string ⟨#[97, 112, 112]⟩, .string ⟨#[61]⟩, .string ⟨#[97]⟩] := by rw [← hg6]; exact Blk.new _ _ _
            obtain ⟨wT, hwc⟩ : ∃ z, w0.alloc (.cells #[.string ⟨#[97, 112, 112]⟩, .string ⟨#[61]⟩, .string ⟨#[97]⟩] 43) = z := ⟨_, rfl⟩
            rw [hwc] at hb3 HN
            rw [hwc, hg6]
            clear hwc hg6
            replace H2 := H2.below_ hb3
            replace H3 := H3.below_ hb3
            replace HO := OwnR.below HO hb3
            replace HB0 := hop HB0 (Nat.le_refl _) hb3
            clear hb3
            refine hK.out _ _ trivial (fun _ => ?_)
            clear hK K
            try simp only [Act.put, pz1, pz2, pz3]
          rotate_left 1
          refine AllReadyH.cons (o := wd5) rfl (fun K hK => ?_) AllReadyH.nil
          focus
            have r0_ : w0.cell? ⟨g, 0, none⟩ = some (.string ⟨#[97, 112, 112]⟩) := (own_cell matV_len HO (a := m0W) (by simp) 0 (by decide)).trans rfl
            have r1_ : w0.cell? ⟨g, 1, none⟩ = some (.string ⟨#[61]⟩) := (own_cell matV_len HO (a := m0W) (by simp) 1 (by decide)).trans rfl
            have r2_ : w0.cell? ⟨g, 2, none⟩ = some (.string ⟨#[97]⟩) := (own_cell matV_len HO (a := m0W) (by simp) 2 (by decide)).trans rfl
            go_simp
            clear r0_ r1_ r2_
            refine hK.out _ _ trivial (fun _ => ?_)
            clear hK K
            try simp only [Act.put, pz1, pz2, pz3]
            refine wpAnyH_ready (rs := [1, 6]) (by kernel_rfl) (by simp) ?_
            refine AllReadyH.cons (o := wd1) rfl (fun K hK => ?_) ?_
            focus
              have c_ : w0.cell? ⟨w1.heap.size + 1 + 1, 0, none⟩ = some (.slice (some ⟨g, 0, none⟩) (j + 1) cap) := (H3.blk.cell 0).trans rfl
              go_simp
              clear c_
              refine hK.out _ _ trivial (fun _ => ?_)
              clear hK K
              try simp only [Act.put, pz1, pz2, pz3]
              refine wpAnyH_ready (rs := [6]) (by kernel_rfl) (by simp) ?_
              refine AllReadyH.cons (o := wd6) rfl (fun K hK => ?_) AllReadyH.nil
              go_simp
              have hb3 : Below w0.heap.size w0 (w0.alloc (.cells #[.string ⟨#[97, 112, 112]⟩, .string ⟨#[61]⟩, .string ⟨#[97]⟩] 43)) := (Below.refl _ _).alloc (Nat.le_refl _) _
              obtain ⟨g6, hg6⟩ : ∃ g, w0.heap.size = g := ⟨_, rfl⟩
              have HN : Blk (w0.alloc (.cells #[.string ⟨#[97, 112, 112]⟩, .string ⟨#[61]⟩, .string ⟨#[97]⟩] 43)) g6 43 #[.string ⟨#[97, 112, 112]⟩, .string ⟨#[61]⟩, .string ⟨#[97]⟩] := by rw [← hg6]; exact Blk.new _ _ _
              obtain ⟨wT, hwc⟩ : ∃ z, w0.alloc (.cells #[.string ⟨#[97, 112, 112]⟩, .string ⟨#[61]⟩, .string ⟨#[97]⟩] 43) = z := ⟨_, rfl⟩
              rw [hwc] at hb3 HN
              rw [hwc, hg6]
              clear hwc hg6
              replace H2 := H2.below_ hb3
              replace H3 := H3.below_ hb3
              replace HO := OwnR.below HO hb3
              replace HB0 := hop HB0 (Nat.le_refl _) hb3
              clear hb3
              refine hK.out _ _ trivial (fun _ => ?_)
              clear hK K
              try simp only [Act.put, pz1, pz2, pz3]
            rotate_left 1
            refine AllReadyH.cons (o := wd6) rfl (fun K hK => ?_) AllReadyH.nil
            focus
              go_simp
              have hb3 : Below w0.heap.size w0 (w0.alloc (.cells #[.string ⟨#[97, 112, 112]⟩, .string ⟨#[61]⟩, .string ⟨#[97]⟩] 43)) := (Below.refl _ _).alloc (Nat.le_refl _) _
              obtain ⟨g6, hg6⟩ : ∃ g, w0.heap.size = g := ⟨_, rfl⟩
              have HN : Blk (w0.alloc (.cells #[.string ⟨#[97, 112, 112]⟩, .string ⟨#[61]⟩, .string ⟨#[97]⟩] 43)) g6 43 #[.string ⟨#[97, 112, 112]⟩, .string ⟨#[61]⟩, .string ⟨#[97]⟩] := by rw [← hg6]; exact Blk.new _ _ _
              obtain ⟨wT, hwc⟩ : ∃ z, w0.alloc (.cells #[.string ⟨#[97, 112, 112]⟩, .string ⟨#[61]⟩, .string ⟨#[97]⟩] 43) = z := ⟨_, rfl⟩
              rw [hwc] at hb3 HN
              rw [hwc, hg6]
              clear hwc hg6
              replace H2 := H2.below_ hb3
              replace H3 := H3.below_ hb3
              replace HO := OwnR.below HO hb3
              replace HB0 := hop HB0 (Nat.le_refl _) hb3
              clear hb3
              refine hK.out _ _ trivial (fun _ => ?_)
              clear hK K
              try simp only [Act.put, pz1, pz2, pz3]
              refine wpAnyH_ready (rs := [1]) (by kernel_rfl) (by simp) ?_
              refine AllReadyH.cons (o := wd1) rfl (fun K hK => ?_) AllReadyH.nil
              have c_ : wT.cell? ⟨w1.heap.size + 1 + 1, 0, none⟩ = some (.slice (some ⟨g, 0, none⟩) (j + 1) cap) := (H3.blk.cell 0).trans rfl
              go_simp
              clear c_
              refine hK.out _ _ trivial (fun _ => ?_)
              clear hK K
              try simp only [Act.put, pz1, pz2, pz3]
        all_goals
          refine wpAnyH_ready (rs := [7]) (by kernel_rfl) (by simp) ?_
          refine AllReadyH.cons (o := wd7) rfl (fun K hK => ?_) AllReadyH.nil
          have HOl : wT.ownsRow W.heap.size 43 3 (.slice (some ⟨g, 0, none⟩) (j + 1) cap) (j + 1) (rowV matV (List.replicate (j + 1) m0W)) := by
            have h := HO
            unfold OwnR at h
            rwa [List.length_replicate] at h
          refine step_append_lies _ (by rfl) (.tmp 36) (.tmp 41) 31 (by rfl) W.heap.size 43 i0 (.agg #[.string ⟨#[]⟩, .string ⟨#[]⟩, .string ⟨#[]⟩]) 3 48 Tryz.underlying31 hi_ hz0 hz1 hz2 rfl (by decide) _ _ _ (by rfl) HOl ⟨_, 0, none⟩ 1 1 (matV m0W) (by rfl) rfl (World.news_of_block HN) (matV_one _) (by decide) (by unfold maxLen; omega) (by omega) HB0.size _ rfl ?_
          intro g2 cap2 e14 hown' hgrow hg' hlt2
          have HOn : OwnR matV 3 e14 W.heap.size 43 (.slice (some ⟨g2, 0, none⟩) (j + 1 + 1) cap2) (List.replicate (j + 1 + 1) m0W) := by
            rw [List.replicate_succ']
            refine OwnR.snoc ?_
            rw [List.length_replicate]
            exact hown'
          have hl3 := H3.lt
          have hne2 : g2 ≠ w1.heap.size + 1 ∧ g2 ≠ w1.heap.size + 1 + 1 := by
            rcases hg' with h | h
            · have h2 : g = g2 := Option.some.inj h
              rw [← h2]; exact HG.out
            · exact ⟨by omega, by omega⟩
          have H2n : BlkH W.heap.size e14 (w1.heap.size + 1) 27 #[.int .i64 1, .string ⟨#[]⟩, .string ⟨#[124, 61]⟩, .string ⟨#[98]⟩, .int .i64 0, .int .i64 0] := ⟨(hgrow.block _ H2.blk.lt (fun e => by have h2 : w1.heap.size + 1 = g := Option.some.inj e; exact HG.out.1 h2.symm)).trans H2.blk, H2.le⟩
          have H3n : BlkH W.heap.size e14 (w1.heap.size + 1 + 1) 34 #[.slice (some ⟨g, 0, none⟩) (j + 1) cap, .slice (some ⟨w1.heap.size + 1, 0, none⟩) 1 1] := ⟨(hgrow.block _ H3.blk.lt (fun e => by have h2 : w1.heap.size + 1 + 1 = g := Option.some.inj e; exact HG.out.2 h2.symm)).trans H3.blk, H3.le⟩
          have HBn := HB0.grown hgrow HB0.size (fun k hk => (World.ownsRow.lt HOl k hk).1)
          refine hK.out _ _ trivial (fun _ => ?_)
          clear hown' hgrow hg' hlt2 HOl hl3
          clear hK K
          try simp only [Act.put, pz1, pz2, pz3]
          refine takeH 8 wd8 hS ?_
          try simp only [Act.put, pz1, pz2, pz3]
          refine wpAnyH_ready (rs := [9]) (by kernel_rfl) (by simp) ?_
          refine AllReadyH.cons (o := wd9) rfl (fun K hK => ?_) AllReadyH.nil
          have c_ := H3n.blk.cell 0
          have f_ := H3n.blk.frozen 0
          go_simp
          refine hK.out _ _ trivial (fun _ => ?_)
          clear hK K
          try simp only [Act.put, pz1, pz2, pz3]
          refine wpAnyH_done (by kernel_rfl) ?_ _
          have HOs := Lib.hid (own_store HOn ⟨w1.heap.size + 1 + 1, 0, none⟩ (.slice (some ⟨g2, 0, none⟩) (j + 1 + 1) cap2) (fun k hk => by have h2 : g2 = k := Option.some.inj hk; rw [← h2]; exact hne2.2))
          have HGs := Lib.hid hne2
          have H3s := Lib.hid (H3n.blk.set_ 0 (.slice (some ⟨g2, 0, none⟩) (j + 1 + 1) cap2))
          have H2s := Lib.hid (H2n.blk.far (p := ⟨w1.heap.size + 1 + 1, 0, none⟩) (by show w1.heap.size + 1 ≠ w1.heap.size + 1 + 1; omega) (.slice (some ⟨g2, 0, none⟩) (j + 1 + 1) cap2))
          have HBs := Lib.hid (HBn.setCell (p := ⟨w1.heap.size + 1 + 1, 0, none⟩) (by show W.heap.size ≤ w1.heap.size + 1 + 1; omega) (.slice (some ⟨g2, 0, none⟩) (j + 1 + 1) cap2))
          clear HO H2 H3 HB0 H2n H3n HBn HOn hne2 HN
          go_wp2
          go_round
          case rel => exact ⟨j + 1, g2, cap2, by omega, by go_num, HOs, HGs, H3s, H2s, HBs⟩
          case measure => first | (simp [intOf]; done) | (simp [intOf]; omega)
      · have hjc : j = 8 := by omega
        have hI : ¬ (j : Int) < 8 := by omega
        have YK := Lib.hid (show rightQ (List.replicate (j + 1) m0W) [s0W] = false by rw [hjc]; exact w_one)
        have p0_ := (H3x.out.cell 0).trans (show _ = some (.slice (some ⟨g, 0, none⟩) (j + 1) cap) from rfl)
        have p1_ := (H3x.out.cell 1).trans (show _ = some (.slice (some ⟨w1.heap.size + 1, 0, none⟩) 1 1) from rfl)
        clear hjc
        go_wp2_with fail
        have cq := astRight_any (some ⟨g, 0, none⟩) (j + 1) cap (some ⟨w1.heap.size + 1, 0, none⟩) 1 1 (List.replicate (j + 1) m0W) [s0W] _ (own_row matV_len HOx.out) (row_blk stgV_len [s0W] H2x.out rfl) (fun s hs => by rw [List.mem_singleton] at hs; subst hs; show Num64 0; unfold Num64; decide) (HL.out.below HBx.out)
        rw [YK.out] at cq
        refine cq.mono ?_
        rintro e w9 ⟨rfl, hb_⟩
        have HE := Lib.hid (hop HBx.out (Nat.le_refl _) hb_)
        clear hb_ cq
        go_wp2
        go_ret
        exact ⟨rfl, HE.out⟩
  ·
    obtain ⟨i0, hi_, hz0, hz1, hz2⟩ := info_parts infoStg
    have OW := Lib.hid (OwnR.alloc O2.out (.cells #[.int .i64 x1, .string x2, .string x3, .string x4, .int .i64 x5, .int .i64 x6] 27))
    go_wp2
    go_loopw [10] (fun iv wr => ∃ (j g cap : Nat), j ≤ 16 ∧ iv = .int .i64 (j : Nat) ∧ Hid (OwnR stgV 6 wr W.heap.size 27 (.slice (some ⟨g, 0, none⟩) (j + 1) cap) (List.replicate (j + 1) s0W)) ∧ Hid (g ≠ w1.heap.size ∧ g ≠ w1.heap.size + 1 + 1) ∧ Hid (Blk wr (w1.heap.size + 1 + 1) 34 #[.slice (some ⟨w1.heap.size, 0, none⟩) 1 1, .slice (some ⟨g, 0, none⟩) (j + 1) cap]) ∧ Hid (Blk wr (w1.heap.size) 43 #[.string ⟨#[97, 112, 112]⟩, .string ⟨#[61]⟩, .string ⟨#[97]⟩]) ∧ Hid (Below W.heap.size W wr)) (fun iv _ => 16 - (intOf iv).toNat)
    case atStart => exact ⟨0, w1.heap.size + 1, 1, by decide, rfl, OW, Lib.hid ⟨by omega, by omega⟩, J3, J1, HC8⟩
    case round =>
      obtain ⟨j, g, cap, hj, rfl, HOx, HG, H3x, H2x, HBx⟩ := hrel
      by_cases h : j < 16
      · have hI : (j : Int) < 16 := by omega
        have HB0 : Below W.heap.size W wr.drew := below_drewN HBx.out 1
        have HO : OwnR stgV 6 wr.drew W.heap.size 27 (.slice (some ⟨g, 0, none⟩) (j + 1) cap) (List.replicate (j + 1) s0W) := HOx.out
        have H2 : BlkH W.heap.size wr.drew (w1.heap.size) 43 #[.string ⟨#[97, 112, 112]⟩, .string ⟨#[61]⟩, .string ⟨#[97]⟩] := ⟨H2x.out, by omega⟩
        have H3 : BlkH W.heap.size wr.drew (w1.heap.size + 1 + 1) 34 #[.slice (some ⟨w1.heap.size, 0, none⟩) 1 1, .slice (some ⟨g, 0, none⟩) (j + 1) cap] := ⟨H3x.out, by omega⟩
        go_wp2
        refine wp_region_held_drew (S := fun w' => True) (by kernel_rfl) trivial (fun hS => ?_)
        obtain ⟨w0, hw0⟩ : ∃ z, wr.drew = z := ⟨_, rfl⟩
        rw [hw0] at HB0 HO H2 H3 ⊢
        clear hw0
        refine takeH 0 we0 hS ?_
        try simp only [Act.put, pz1, pz2, pz3]
        refine takeH 2 we2 hS ?_
        try simp only [Act.put, pz1, pz2, pz3]
        refine wpAnyH_ready (rs := [1, 3]) (by kernel_rfl) (by simp) ?_
        refine AllReadyH.cons (o := we1) rfl (fun K hK => ?_) ?_
        focus
          have c_ : w0.cell? ⟨w1.heap.size + 1 + 1, 1, none⟩ = some (.slice (some ⟨g, 0, none⟩) (j + 1) cap) := (H3.blk.cell 1).trans rfl
          go_simp
          clear c_
          refine hK.out _ _ trivial (fun _ => ?_)
          clear hK K
          try simp only [Act.put, pz1, pz2, pz3]
          refine wpAnyH_ready (rs := [3]) (by kernel_rfl) (by simp) ?_
          refine AllReadyH.cons (o := we3) rfl (fun K hK => ?_) AllReadyH.nil
          have c_ : w0.cell? ⟨w1.heap.size + 1 + 1, 1, none⟩ = some (.slice (some ⟨g, 0, none⟩) (j + 1) cap) := (H3.blk.cell 1).trans rfl
          go_simp
          clear c_
          refine hK.out _ _ trivial (fun _ => ?_)
          clear hK K
          try simp only [Act.put, pz1, pz2, pz3]
          refine takeH 4 we4 hS ?_
          try simp only [Act.put, pz1, pz2, pz3]
          refine wpAnyH_ready (rs := [5]) (by kernel_rfl) (by simp) ?_
          refine AllReadyH.cons (o := we5) rfl (fun K hK => ?_) AllReadyH.nil
          have r0_ : w0.cell? ⟨g, 0, none⟩ = some (.int .i64 1) := (own_cell stgV_len HO (a := s0W) (by simp) 0 (by decide)).trans rfl
          have r1_ : w0.cell? ⟨g, 1, none⟩ = some (.string ⟨#[]⟩) := (own_cell stgV_len HO (a := s0W) (by simp) 1 (by decide)).trans rfl
          have r2_ : w0.cell? ⟨g, 2, none⟩ = some (.string ⟨#[124, 61]⟩) := (own_cell stgV_len HO (a := s0W) (by simp) 2 (by decide)).trans rfl
          have r3_ : w0.cell? ⟨g, 3, none⟩ = some (.string ⟨#[98]⟩) := (own_cell stgV_len HO (a := s0W) (by simp) 3 (by decide)).trans rfl
          have r4_ : w0.cell? ⟨g, 4, none⟩ = some (.int .i64 0) := (own_cell stgV_len HO (a := s0W) (by simp) 4 (by decide)).trans rfl
          have r5_ : w0.cell? ⟨g, 5, none⟩ = some (.int .i64 0) := (own_cell stgV_len HO (a := s0W) (by simp) 5 (by decide)).trans rfl
          go_simp
          clear r0_ r1_ r2_ r3_ r4_ r5_
          refine hK.out _ _ trivial (fun _ => ?_)
          clear hK K
          try simp only [Act.put, pz1, pz2, pz3]
          refine wpAnyH_ready (rs := [6]) (by kernel_rfl) (by simp) ?_
          refine AllReadyH.cons (o := we6) rfl (fun K hK => ?_) AllReadyH.nil
          go_simp
          have hb3 : Below w0.heap.size w0 (w0.alloc (.cells #[.int .i64 1, .string ⟨#[]⟩, .string ⟨#[124, 61]⟩, .string ⟨#[98]⟩, .int .i64 0, .int .i64 0] 27)) := (Below.refl _ _).alloc (Nat.le_refl _) _
          obtain ⟨g6, hg6⟩ : ∃ g, w0.heap.size = g := ⟨_, rfl⟩
          have HN : Blk (w0.alloc (.cells #[.int .i64 1, .string ⟨#[]⟩, .string ⟨#[124, 61]⟩, .string ⟨#[98]⟩, .int .i64 0, .int .i64 0] 27)) g6 27 #[.int .i64 1, .string ⟨#[]⟩, .string ⟨#[124, 61]⟩, .string ⟨#[98]⟩, .int .i64 0, .int .i64 0] := by rw [← hg6]; exact Blk.new _ _ _
          obtain ⟨wT, hwc⟩ : ∃ z, w0.alloc (.cells #[.int .i64 1, .string ⟨#[]⟩, .string ⟨#[124, 61]⟩, .string ⟨#[98]⟩, .int .i64 0, .int .i64 0] 27) = z := ⟨_, rfl⟩
          rw [hwc] at hb3 HN
          rw [hwc, hg6]
          clear hwc hg6
          replace H2 := H2.below_ hb3
          replace H3 := H3.below_ hb3
          replace HO := OwnR.below HO hb3
          replace HB0 := hop HB0 (Nat.le_refl _) hb3
          clear hb3
          refine hK.out _ _ trivial (fun _ => ?_)
          clear hK K
          try simp only [Act.put, pz1, pz2, pz3]
        rotate_left 1
        refine AllReadyH.cons (o := we3) rfl (fun K hK => ?_) AllReadyH.nil
        focus
          have c_ : w0.cell? ⟨w1.heap.size + 1 + 1, 1, none⟩ = some (.slice (some ⟨g, 0, none⟩) (j + 1) cap) := (H3.blk.cell 1).trans rfl
          go_simp
          clear c_
          refine hK.out _ _ trivial (fun _ => ?_)
          clear hK K
          try simp only [Act.put, pz1, pz2, pz3]
          refine takeH 4 we4 hS ?_
          try simp only [Act.put, pz1, pz2, pz3]
          refine wpAnyH_ready (rs := [1, 5]) (by kernel_rfl) (by simp) ?_
          refine AllReadyH.cons (o := we1) rfl (fun K hK => ?_) ?_
          focus
            have c_ : w0.cell? ⟨w1.heap.size + 1 + 1, 1, none⟩ = some (.slice (some ⟨g, 0, none⟩) (j + 1) cap) := (H3.blk.cell 1).trans rfl
            go_simp
            clear c_
            refine hK.out _ _ trivial (fun _ => ?_)
            clear hK K
            try simp only [Act.put, pz1, pz2, pz3]
            refine wpAnyH_ready (rs := [5]) (by kernel_rfl) (by simp) ?_
            refine AllReadyH.cons (o := we5) rfl (fun K hK => ?_) AllReadyH.nil
            have r0_ : w0.cell? ⟨g, 0, none⟩ = some (.int .i64 1) := (own_cell stgV_len HO (a := s0W) (by simp) 0 (by decide)).trans rfl
            have r1_ : w0.cell? ⟨g, 1, none⟩ = some (.string ⟨#[]⟩) := (own_cell stgV_len HO (a := s0W) (by simp) 1 (by decide)).trans rfl
            have r2_ : w0.cell? ⟨g, 2, none⟩ = some (.string ⟨#[124, 61]⟩) := (own_cell stgV_len HO (a := s0W) (by simp) 2 (by decide)).trans rfl
            have r3_ : w0.cell? ⟨g, 3, none⟩ = some (.string ⟨#[98]⟩) := (own_cell stgV_len HO (a := s0W) (by simp) 3 (by decide)).trans rfl
            have r4_ : w0.cell? ⟨g, 4, none⟩ = some (.int .i64 0) := (own_cell stgV_len HO (a := s0W) (by simp) 4 (by decide)).trans rfl
            have r5_ : w0.cell? ⟨g, 5, none⟩ = some (.int .i64 0) := (own_cell stgV_len HO (a := s0W) (by simp) 5 (by decide)).trans rfl
            go_simp
            clear r0_ r1_ r2_ r3_ r4_ r5_
            refine hK.out _ _ trivial (fun _ => ?_)
            clear hK K
            try simp only [Act.put, pz1, pz2, pz3]
            refine wpAnyH_ready (rs := [6]) (by kernel_rfl) (by simp) ?_
            refine AllReadyH.cons (o := we6) rfl (fun K hK => ?_) AllReadyH.nil
            go_simp
            have hb3 : Below w0.heap.size w0 (w0.alloc (.cells #[.int .i64 1, .string ⟨#[]⟩, .string ⟨#[124, 61]⟩, .string ⟨#[98]⟩, .int .i64 0, .int .i64 0] 27)) := (Below.refl _ _).alloc (Nat.le_refl _) _
            obtain ⟨g6, hg6⟩ : ∃ g, w0.heap.size = g := ⟨_, rfl⟩
            have HN : Blk (w0.alloc (.cells #[.int .i64 1, .string ⟨#[]⟩, .string ⟨#[124, 61]⟩, .string ⟨#[98]⟩, .int .i64 0, .int .i64 0] 27)) g6 27 #[.int .i64 1, .string ⟨#[]⟩, .string ⟨#[124, 61]⟩, .string ⟨#[98]⟩, .int .i64 0, .int .i64 0] := by rw [← hg6]; exact Blk.new _ _ _
            obtain ⟨wT, hwc⟩ : ∃ z, w0.alloc (.cells #[.int .i64 1, .string ⟨#[]⟩, .string ⟨#[124, 61]⟩, .string ⟨#[98]⟩, .int .i64 0, .int .i64 0] 27) = z := ⟨_, rfl⟩
            rw [hwc] at hb3 HN
            rw [hwc, hg6]
            clear hwc hg6
            replace H2 := H2.below_ hb3
            replace H3 := H3.below_ hb3
            replace HO := OwnR.below HO hb3
            replace HB0 := hop HB0 (Nat.le_refl _) hb3
            clear hb3
            refine hK.out _ _ trivial (fun _ => ?_)
            clear hK K
            try simp only [Act.put, pz1, pz2, pz3]
          rotate_left 1
          refine AllReadyH.cons (o := we5) rfl (fun K hK => ?_) AllReadyH.nil
          focus
            have r0_ : w0.cell? ⟨g, 0, none⟩ = some (.int .i64 1) := (own_cell stgV_len HO (a := s0W) (by simp) 0 (by decide)).trans rfl
            have r1_ : w0.cell? ⟨g, 1, none⟩ = some (.string ⟨#[]⟩) := (own_cell stgV_len HO (a := s0W) (by simp) 1 (by decide)).trans rfl
            have r2_ : w0.cell? ⟨g, 2, none⟩ = some (.string ⟨#[124, 61]⟩) := (own_cell stgV_len HO (a := s0W) (by simp) 2 (by decide)).trans rfl
            have r3_ : w0.cell? ⟨g, 3, none⟩ = some (.string ⟨#[98]⟩) := (own_cell stgV_len HO (a := s0W) (by simp) 3 (by decide)).trans rfl
            have r4_ : w0.cell? ⟨g, 4, none⟩ = some (.int .i64 0) := (own_cell stgV_len HO (a := s0W) (by simp) 4 (by decide)).trans rfl
            have r5_ : w0.cell? ⟨g, 5, none⟩ = some (.int .i64 0) := (own_cell stgV_len HO (a := s0W) (by simp) 5 (by decide)).trans rfl
            go_simp
            clear r0_ r1_ r2_ r3_ r4_ r5_
            refine hK.out _ _ trivial (fun _ => ?_)
            clear hK K
            try simp only [Act.put, pz1, pz2, pz3]
            refine wpAnyH_ready (rs := [1, 6]) (by kernel_rfl) (by simp) ?_
            refine AllReadyH.cons (o := we1) rfl (fun K hK => ?_) ?_
            focus
              have c_ : w0.cell? ⟨w1.heap.size + 1 + 1, 1, none⟩ = some (.slice (some ⟨g, 0, none⟩) (j + 1) cap) := (H3.blk.cell 1).trans rfl
              go_simp
              clear c_
              refine hK.out _ _ trivial (fun _ => ?_)
              clear hK K
              try simp only [Act.put, pz1, pz2, pz3]
              refine wpAnyH_ready (rs := [6]) (by kernel_rfl) (by simp) ?_
              refine AllReadyH.cons (o := we6) rfl (fun K hK => ?_) AllReadyH.nil
              go_simp
              have hb3 : Below w0.heap.size w0 (w0.alloc (.cells #[.int .i64 1, .string ⟨#[]⟩, .string ⟨#[124, 61]⟩, .string ⟨#[98]⟩, .int .i64 0, .int .i64 0] 27)) := (Below.refl _ _).alloc (Nat.le_refl _) _
              obtain ⟨g6, hg6⟩ : ∃ g, w0.heap.size = g := ⟨_, rfl⟩
              have HN : Blk (w0.alloc (.cells #[.int .i64 1, .string ⟨#[]⟩, .string ⟨#[124, 61]⟩, .string ⟨#[98]⟩, .int .i64 0, .int .i64 0] 27)) g6 27 #[.int .i64 1, .string ⟨#[]⟩, .string ⟨#[124, 61]⟩, .string ⟨#[98]⟩, .int .i64 0, .int .i64 0] := by rw [← hg6]; exact Blk.new _ _ _
              obtain ⟨wT, hwc⟩ : ∃ z, w0.alloc (.cells #[.int .i64 1, .string ⟨#[]⟩, .string ⟨#[124, 61]⟩, .string ⟨#[98]⟩, .int .i64 0, .int .i64 0] 27) = z := ⟨_, rfl⟩
              rw [hwc] at hb3 HN
              rw [hwc, hg6]
              clear hwc hg6
              replace H2 := H2.below_ hb3
              replace H3 := H3.below_ hb3
              replace HO := OwnR.below HO hb3
              replace HB0 := hop HB0 (Nat.le_refl _) hb3
              clear hb3
              refine hK.out _ _ trivial (fun _ => ?_)
              clear hK K
              try simp only [Act.put, pz1, pz2, pz3]
            rotate_left 1
            refine AllReadyH.cons (o := we6) rfl (fun K hK => ?_) AllReadyH.nil
            focus
              go_simp
              have hb3 : Below w0.heap.size w0 (w0.alloc (.cells #[.int .i64 1, .string ⟨#[]⟩, .string ⟨#[124, 61]⟩, .string ⟨#[98]⟩, .int .i64 0, .int .i64 0] 27)) := (Below.refl _ _).alloc (Nat.le_refl _) _
              obtain ⟨g6, hg6⟩ : ∃ g, w0.heap.size = g := ⟨_, rfl⟩
              have HN : Blk (w0.alloc (.cells #[.int .i64 1, .string ⟨#[]⟩, .string ⟨#[124, 61]⟩, .string ⟨#[98]⟩, .int .i64 0, .int .i64 0] 27)) g6 27 #[.int .i64 1, .string ⟨#[]⟩, .string ⟨#[124, 61]⟩, .string ⟨#[98]⟩, .int .i64 0, .int .i64 0] := by rw [← hg6]; exact Blk.new _ _ _
              obtain ⟨wT, hwc⟩ : ∃ z, w0.alloc (.cells #[.int .i64 1, .string ⟨#[]⟩, .string ⟨#[124, 61]⟩, .string ⟨#[98]⟩, .int .i64 0, .int .i64 0] 27) = z := ⟨_, rfl⟩
              rw [hwc] at hb3 HN
              rw [hwc, hg6]
              clear hwc hg6
              replace H2 := H2.below_ hb3
              replace H3 := H3.below_ hb3
              replace HO := OwnR.below HO hb3
              replace HB0 := hop HB0 (Nat.le_refl _) hb3
              clear hb3
              refine hK.out _ _ trivial (fun _ => ?_)
              clear hK K
              try simp only [Act.put, pz1, pz2, pz3]
              refine wpAnyH_ready (rs := [1]) (by kernel_rfl) (by simp) ?_
              refine AllReadyH.cons (o := we1) rfl (fun K hK => ?_) AllReadyH.nil
              have c_ : wT.cell? ⟨w1.heap.size + 1 + 1, 1, none⟩ = some (.slice (some ⟨g, 0, none⟩) (j + 1) cap) := (H3.blk.cell 1).trans rfl
              go_simp
              clear c_
              refine hK.out _ _ trivial (fun _ => ?_)
              clear hK K
              try simp only [Act.put, pz1, pz2, pz3]
        all_goals
          refine wpAnyH_ready (rs := [7]) (by kernel_rfl) (by simp) ?_
          refine AllReadyH.cons (o := we7) rfl (fun K hK => ?_) AllReadyH.nil
          have HOl : wT.ownsRow W.heap.size 27 6 (.slice (some ⟨g, 0, none⟩) (j + 1) cap) (j + 1) (rowV stgV (List.replicate (j + 1) s0W)) := by
            have h := HO
            unfold OwnR at h
            rwa [List.length_replicate] at h
          refine step_append_lies _ (by rfl) (.tmp 51) (.tmp 56) 32 (by rfl) W.heap.size 27 i0 (.agg #[.int .i64 0, .string ⟨#[]⟩, .string ⟨#[]⟩, .string ⟨#[]⟩, .int .i64 0, .int .i64 0]) 6 72 Tryz.underlying32 hi_ hz0 hz1 hz2 rfl (by decide) _ _ _ (by rfl) HOl ⟨_, 0, none⟩ 1 1 (stgV s0W) (by rfl) rfl (World.news_of_block HN) (stgV_one _) (by decide) (by unfold maxLen; omega) (by omega) HB0.size _ rfl ?_
          intro g2 cap2 e14 hown' hgrow hg' hlt2
          have HOn : OwnR stgV 6 e14 W.heap.size 27 (.slice (some ⟨g2, 0, none⟩) (j + 1 + 1) cap2) (List.replicate (j + 1 + 1) s0W) := by
            rw [List.replicate_succ']
            refine OwnR.snoc ?_
            rw [List.length_replicate]
            exact hown'
          have hl3 := H3.lt
          have hne2 : g2 ≠ w1.heap.size ∧ g2 ≠ w1.heap.size + 1 + 1 := by
            rcases hg' with h | h
            · have h2 : g = g2 := Option.some.inj h
              rw [← h2]; exact HG.out
            · exact ⟨by omega, by omega⟩
          have H2n : BlkH W.heap.size e14 (w1.heap.size) 43 #[.string ⟨#[97, 112, 112]⟩, .string ⟨#[61]⟩, .string ⟨#[97]⟩] := ⟨(hgrow.block _ H2.blk.lt (fun e => by have h2 : w1.heap.size = g := Option.some.inj e; exact HG.out.1 h2.symm)).trans H2.blk, H2.le⟩
          have H3n : BlkH W.heap.size e14 (w1.heap.size + 1 + 1) 34 #[.slice (some ⟨w1.heap.size, 0, none⟩) 1 1, .slice (some ⟨g, 0, none⟩) (j + 1) cap] := ⟨(hgrow.block _ H3.blk.lt (fun e => by have h2 : w1.heap.size + 1 + 1 = g := Option.some.inj e; exact HG.out.2 h2.symm)).trans H3.blk, H3.le⟩
          have HBn := HB0.grown hgrow HB0.size (fun k hk => (World.ownsRow.lt HOl k hk).1)
          refine hK.out _ _ trivial (fun _ => ?_)
          clear hown' hgrow hg' hlt2 HOl hl3
          clear hK K
          try simp only [Act.put, pz1, pz2, pz3]
          refine takeH 8 we8 hS ?_
          try simp only [Act.put, pz1, pz2, pz3]
          refine wpAnyH_ready (rs := [9]) (by kernel_rfl) (by simp) ?_
          refine AllReadyH.cons (o := we9) rfl (fun K hK => ?_) AllReadyH.nil
          have c_ := H3n.blk.cell 1
          have f_ := H3n.blk.frozen 1
          go_simp
          refine hK.out _ _ trivial (fun _ => ?_)
          clear hK K
          try simp only [Act.put, pz1, pz2, pz3]
          refine wpAnyH_done (by kernel_rfl) ?_ _
          have HOs := Lib.hid (own_store HOn ⟨w1.heap.size + 1 + 1, 1, none⟩ (.slice (some ⟨g2, 0, none⟩) (j + 1 + 1) cap2) (fun k hk => by have h2 : g2 = k := Option.some.inj hk; rw [← h2]; exact hne2.2))
          have HGs := Lib.hid hne2
          have H3s := Lib.hid (H3n.blk.set_ 1 (.slice (some ⟨g2, 0, none⟩) (j + 1 + 1) cap2))
          have H2s := Lib.hid (H2n.blk.far (p := ⟨w1.heap.size + 1 + 1, 1, none⟩) (by show w1.heap.size ≠ w1.heap.size + 1 + 1; omega) (.slice (some ⟨g2, 0, none⟩) (j + 1 + 1) cap2))
          have HBs := Lib.hid (HBn.setCell (p := ⟨w1.heap.size + 1 + 1, 1, none⟩) (by show W.heap.size ≤ w1.heap.size + 1 + 1; omega) (.slice (some ⟨g2, 0, none⟩) (j + 1 + 1) cap2))
          clear HO H2 H3 HB0 H2n H3n HBn HOn hne2 HN
          go_wp2
          go_round
          case rel => exact ⟨j + 1, g2, cap2, by omega, by go_num, HOs, HGs, H3s, H2s, HBs⟩
          case measure => first | (simp [intOf]; done) | (simp [intOf]; omega)
      · have hjc : j = 16 := by omega
        have hI : ¬ (j : Int) < 16 := by omega
        have YK := Lib.hid (show rightQ [m0W] (List.replicate (j + 1) s0W) = false by rw [hjc]; exact w_two)
        have p0_ := (H3x.out.cell 0).trans (show _ = some (.slice (some ⟨w1.heap.size, 0, none⟩) 1 1) from rfl)
        have p1_ := (H3x.out.cell 1).trans (show _ = some (.slice (some ⟨g, 0, none⟩) (j + 1) cap) from rfl)
        clear hjc
        go_wp2_with fail
        have cq := astRight_any (some ⟨w1.heap.size, 0, none⟩) 1 1 (some ⟨g, 0, none⟩) (j + 1) cap [m0W] (List.replicate (j + 1) s0W) _ (row_blk matV_len [m0W] H2x.out rfl) (own_row stgV_len HOx.out) (fun s hs => by rw [List.mem_replicate] at hs; rw [hs.2]; show Num64 0; unfold Num64; decide) (HL.out.below HBx.out)
        rw [YK.out] at cq
        refine cq.mono ?_
        rintro e w9 ⟨rfl, hb_⟩
        have HE := Lib.hid (hop HBx.out (Nat.le_refl _) hb_)
        clear hb_ cq
        go_wp2
        go_ret
        exact ⟨rfl, HE.out⟩
  ·
    have fr_ := J1.out.frozen 1
    have q0_ : (w3.alloc (.cells #[.int .i64 x1, .string x2, .string x3, .string x4, .int .i64 x5, .int .i64 x6] 27)).cell? ⟨w1.heap.size + 1 + 1, 0, none⟩ = some (.slice (some ⟨w1.heap.size, 0, none⟩) 1 1) := (J3.out.cell 0).trans rfl
    obtain ⟨y, hy⟩ : ∃ y, bad3.getD i .empty = y := ⟨_, rfl⟩
    have hfin := w_three i hi
    rw [hy] at hfin
    have HFIN := Lib.hid hfin
    have HB0 : Below W.heap.size W (w3.alloc (.cells #[.int .i64 x1, .string x2, .string x3, .string x4, .int .i64 x5, .int .i64 x6] 27)).drew := below_drewN (HC8.out) 1
    have HM : BlkH W.heap.size (w3.alloc (.cells #[.int .i64 x1, .string x2, .string x3, .string x4, .int .i64 x5, .int .i64 x6] 27)).drew (w1.heap.size) 43 #[.string ⟨#[97, 112, 112]⟩, .string ⟨#[61]⟩, .string ⟨#[97]⟩] := ⟨J1.out, by omega⟩
    have H2 : BlkH W.heap.size (w3.alloc (.cells #[.int .i64 x1, .string x2, .string x3, .string x4, .int .i64 x5, .int .i64 x6] 27)).drew (w1.heap.size + 1) 27 #[.int .i64 1, .string ⟨#[]⟩, .string ⟨#[124, 61]⟩, .string ⟨#[98]⟩, .int .i64 0, .int .i64 0] := ⟨J2.out, by omega⟩
    have H3 : BlkH W.heap.size (w3.alloc (.cells #[.int .i64 x1, .string x2, .string x3, .string x4, .int .i64 x5, .int .i64 x6] 27)).drew (w1.heap.size + 1 + 1) 34 #[.slice (some ⟨w1.heap.size, 0, none⟩) 1 1, .slice (some ⟨w1.heap.size + 1, 0, none⟩) 1 1] := ⟨J3.out, by omega⟩
    clear hfin
    go_wp2
    refine wp_region_held_drew (S := fun w' => w'.cell? ⟨w1.heap.size + 1 + 1, 0, none⟩ = some (.slice (some ⟨w1.heap.size, 0, none⟩) 1 1) ∧ True) (by kernel_rfl) ⟨q0_, trivial⟩ (fun hS => ?_)
    obtain ⟨w0, hw0⟩ : ∃ z, (w3.alloc (.cells #[.int .i64 x1, .string x2, .string x3, .string x4, .int .i64 x5, .int .i64 x6] 27)).drew = z := ⟨_, rfl⟩
    rw [hw0] at hS HB0 HM H2 H3 ⊢
    clear hw0
    refine takeH 0 wa0 hS ?_
    try simp only [Act.put, pz1, pz2, pz3]
    refine takeH 1 wa1 hS ?_
    try simp only [Act.put, pz1, pz2, pz3]
    refine takeH 3 wa3 hS ?_
    try simp only [Act.put, pz1, pz2, pz3]
    refine takeH 4 wa4 hS ?_
    try simp only [Act.put, pz1, pz2, pz3]
    refine wpAnyH_ready (rs := [2]) (by kernel_rfl) (by simp) ?_
    refine AllReadyH.cons (o := wa2) rfl (fun K hK => ?_) AllReadyH.nil
    go_simp
    have hb3 : Below w0.heap.size w0 (w0.alloc (.cells #[.string ⟨#[61, 61]⟩, .string ⟨#[124, 61]⟩, .string ⟨#[]⟩, .string ⟨#[62]⟩] 9)) := (Below.refl _ _).alloc (Nat.le_refl _) _
    obtain ⟨g2, hg2⟩ : ∃ g, w0.heap.size = g := ⟨_, rfl⟩
    have n0_ := tlit w0 bad3 g2 hg2.symm i hi
    rw [hy] at n0_
    (try simp only [bad3, List.map_cons, List.map_nil] at n0_)
    have lg2 : w1.heap.size < g2 := by rw [← hg2]; exact HM.lt
    obtain ⟨d1, hwc⟩ : ∃ z, w0.alloc (.cells #[.string ⟨#[61, 61]⟩, .string ⟨#[124, 61]⟩, .string ⟨#[]⟩, .string ⟨#[62]⟩] 9) = z := ⟨_, rfl⟩
    rw [hwc] at hb3 n0_
    rw [hwc, hg2]
    clear hwc hg2
    have hSn : (fun w' => w'.cell? ⟨w1.heap.size + 1 + 1, 0, none⟩ = some (.slice (some ⟨w1.heap.size, 0, none⟩) 1 1) ∧ True) d1 := ⟨cell_keep hb3 hS.1, trivial⟩
    refine hK.out _ _ hSn (fun _ => ?_)
    clear hK K
    try simp only [Act.put, pz1, pz2, pz3]
    have HB0_ := hop HB0 (Nat.le_refl _) hb3
    clear HB0
    have HB0 := HB0_
    clear HB0_
    have HM_ := HM.below_ hb3
    clear HM
    have HM := HM_
    clear HM_
    have H2_ := H2.below_ hb3
    clear H2
    have H2 := H2_
    clear H2_
    have H3_ := H3.below_ hb3
    clear H3
    have H3 := H3_
    clear H3_
    refine wpAnyH_grow (S' := fun w' => w'.cell? ⟨g2, i, none⟩ = some (.string y) ∧ w'.cell? ⟨w1.heap.size + 1 + 1, 0, none⟩ = some (.slice (some ⟨w1.heap.size, 0, none⟩) 1 1) ∧ True) (fun _ h => h.2) ?_
    have hSm : (fun w' => w'.cell? ⟨g2, i, none⟩ = some (.string y) ∧ w'.cell? ⟨w1.heap.size + 1 + 1, 0, none⟩ = some (.slice (some ⟨w1.heap.size, 0, none⟩) 1 1) ∧ True) d1 := ⟨n0_, hSn⟩
    clear hS hSn hb3 n0_
    have hS := hSm
    clear hSm
    refine takeH 5 wa5 hS ?_
    try simp only [Act.put, pz1, pz2, pz3]
    refine takeH 6 wa6 hS ?_
    try simp only [Act.put, pz1, pz2, pz3]
    refine takeH 7 wa7 hS ?_
    try simp only [Act.put, pz1, pz2, pz3]
    refine takeH 8 wa8 hS ?_
    try simp only [Act.put, pz1, pz2, pz3]
    refine wpAnyH_ready (rs := [9]) (by kernel_rfl) (by simp) ?_
    refine AllReadyH.cons (o := wa9) rfl (fun K hK => ?_) AllReadyH.nil
    have m0_ := HM.1.cell 1
    have f0_ := HM.1.frozen 1
    go_simp
    have hSn : (fun w' => w'.cell? ⟨g2, i, none⟩ = some (.string y) ∧ w'.cell? ⟨w1.heap.size + 1 + 1, 0, none⟩ = some (.slice (some ⟨w1.heap.size, 0, none⟩) 1 1) ∧ True) (d1.setCell ⟨w1.heap.size, 1, none⟩ (.string y)) := ⟨(cell_far hS.1 (p := ⟨w1.heap.size, 1, none⟩) (by show w1.heap.size ≠ g2; omega)), (cell_far hS.2.1 (p := ⟨w1.heap.size, 1, none⟩) (by show w1.heap.size ≠ w1.heap.size + 1 + 1; omega)), trivial⟩
    have HMn := (HM.1.set_ 1 (.string y))
    have HBn := (HB0.setCell (p := ⟨w1.heap.size, 1, none⟩) HM.2 (.string y))
    refine hK.out _ _ hSn (fun _ => ?_)
    clear hK K
    try simp only [Act.put, pz1, pz2, pz3]
    refine wpAnyH_done (by kernel_rfl) ?_ _
    have n2 := H2.blk.far (p := ⟨w1.heap.size, 1, none⟩) (by show w1.heap.size + 1 ≠ w1.heap.size; omega) (.string y)
    have n3 := H3.blk.far (p := ⟨w1.heap.size, 1, none⟩) (by show w1.heap.size + 1 + 1 ≠ w1.heap.size; omega) (.string y)
    have p0_ := (n3.cell 0).trans (show _ = some (.slice (some ⟨w1.heap.size, 0, none⟩) 1 1) from rfl)
    have p1_ := (n3.cell 1).trans (show _ = some (.slice (some ⟨w1.heap.size + 1, 0, none⟩) 1 1) from rfl)
    have N1 := Lib.hid HMn
    have N2 := Lib.hid n2
    have HD := Lib.hid HBn
    clear hS HMn n2 n3 HBn HM H2 H3 HB0
    go_wp2_with fail
    have cq := astRight_any (some ⟨w1.heap.size, 0, none⟩) 1 1 (some ⟨w1.heap.size + 1, 0, none⟩) 1 1 [⟨⟨#[97, 112, 112]⟩, y, ⟨#[97]⟩⟩] [s0W] _ (row_blk matV_len [⟨⟨#[97, 112, 112]⟩, y, ⟨#[97]⟩⟩] N1.out rfl) (row_blk stgV_len [s0W] N2.out rfl) (fun s hs => by rw [List.mem_singleton] at hs; subst hs; show Num64 0; unfold Num64; decide) (HL.out.below HD.out)
    rw [HFIN.out] at cq
    refine cq.mono ?_
    rintro e w9 ⟨rfl, hb_⟩
    have HE := Lib.hid (hop HD.out (Nat.le_refl _) hb_)
    clear hb_ cq
    go_wp2
    go_ret
    exact ⟨rfl, HE.out⟩
  ·
    have fr_ := J1.out.frozen 0
    have q0_ : (w3.alloc (.cells #[.int .i64 x1, .string x2, .string x3, .string x4, .int .i64 x5, .int .i64 x6] 27)).cell? ⟨w1.heap.size + 1 + 1, 0, none⟩ = some (.slice (some ⟨w1.heap.size, 0, none⟩) 1 1) := (J3.out.cell 0).trans rfl
    obtain ⟨y, hy⟩ : ∃ y, bad4.getD i .empty = y := ⟨_, rfl⟩
    have hfin := w_four i hi
    rw [hy] at hfin
    have HFIN := Lib.hid hfin
    have HB0 : Below W.heap.size W (w3.alloc (.cells #[.int .i64 x1, .string x2, .string x3, .string x4, .int .i64 x5, .int .i64 x6] 27)).drew := below_drewN (HC8.out) 1
    have HM : BlkH W.heap.size (w3.alloc (.cells #[.int .i64 x1, .string x2, .string x3, .string x4, .int .i64 x5, .int .i64 x6] 27)).drew (w1.heap.size) 43 #[.string ⟨#[97, 112, 112]⟩, .string ⟨#[61]⟩, .string ⟨#[97]⟩] := ⟨J1.out, by omega⟩
    have H2 : BlkH W.heap.size (w3.alloc (.cells #[.int .i64 x1, .string x2, .string x3, .string x4, .int .i64 x5, .int .i64 x6] 27)).drew (w1.heap.size + 1) 27 #[.int .i64 1, .string ⟨#[]⟩, .string ⟨#[124, 61]⟩, .string ⟨#[98]⟩, .int .i64 0, .int .i64 0] := ⟨J2.out, by omega⟩
    have H3 : BlkH W.heap.size (w3.alloc (.cells #[.int .i64 x1, .string x2, .string x3, .string x4, .int .i64 x5, .int .i64 x6] 27)).drew (w1.heap.size + 1 + 1) 34 #[.slice (some ⟨w1.heap.size, 0, none⟩) 1 1, .slice (some ⟨w1.heap.size + 1, 0, none⟩) 1 1] := ⟨J3.out, by omega⟩
    clear hfin
    go_wp2
    refine wp_region_held_drew (S := fun w' => w'.cell? ⟨w1.heap.size + 1 + 1, 0, none⟩ = some (.slice (some ⟨w1.heap.size, 0, none⟩) 1 1) ∧ True) (by kernel_rfl) ⟨q0_, trivial⟩ (fun hS => ?_)
    obtain ⟨w0, hw0⟩ : ∃ z, (w3.alloc (.cells #[.int .i64 x1, .string x2, .string x3, .string x4, .int .i64 x5, .int .i64 x6] 27)).drew = z := ⟨_, rfl⟩
    rw [hw0] at hS HB0 HM H2 H3 ⊢
    clear hw0
    refine takeH 0 wb0 hS ?_
    try simp only [Act.put, pz1, pz2, pz3]
    refine takeH 1 wb1 hS ?_
    try simp only [Act.put, pz1, pz2, pz3]
    refine takeH 3 wb3 hS ?_
    try simp only [Act.put, pz1, pz2, pz3]
    refine takeH 4 wb4 hS ?_
    try simp only [Act.put, pz1, pz2, pz3]
    refine wpAnyH_ready (rs := [2]) (by kernel_rfl) (by simp) ?_
    refine AllReadyH.cons (o := wb2) rfl (fun K hK => ?_) AllReadyH.nil
    go_simp
    have hb3 : Below w0.heap.size w0 (w0.alloc (.cells #[.string ⟨#[]⟩, .string ⟨#[57, 97]⟩, .string ⟨#[97, 45, 98]⟩, .string ⟨#[97, 32, 98]⟩] 9)) := (Below.refl _ _).alloc (Nat.le_refl _) _
    obtain ⟨g2, hg2⟩ : ∃ g, w0.heap.size = g := ⟨_, rfl⟩
    have n0_ := tlit w0 bad4 g2 hg2.symm i hi
    rw [hy] at n0_
    (try simp only [bad4, List.map_cons, List.map_nil] at n0_)
    have lg2 : w1.heap.size < g2 := by rw [← hg2]; exact HM.lt
    obtain ⟨d1, hwc⟩ : ∃ z, w0.alloc (.cells #[.string ⟨#[]⟩, .string ⟨#[57, 97]⟩, .string ⟨#[97, 45, 98]⟩, .string ⟨#[97, 32, 98]⟩] 9) = z := ⟨_, rfl⟩
    rw [hwc] at hb3 n0_
    rw [hwc, hg2]
    clear hwc hg2
    have hSn : (fun w' => w'.cell? ⟨w1.heap.size + 1 + 1, 0, none⟩ = some (.slice (some ⟨w1.heap.size, 0, none⟩) 1 1) ∧ True) d1 := ⟨cell_keep hb3 hS.1, trivial⟩
    refine hK.out _ _ hSn (fun _ => ?_)
    clear hK K
    try simp only [Act.put, pz1, pz2, pz3]
    have HB0_ := hop HB0 (Nat.le_refl _) hb3
    clear HB0
    have HB0 := HB0_
    clear HB0_
    have HM_ := HM.below_ hb3
    clear HM
    have HM := HM_
    clear HM_
    have H2_ := H2.below_ hb3
    clear H2
    have H2 := H2_
    clear H2_
    have H3_ := H3.below_ hb3
    clear H3
    have H3 := H3_
    clear H3_
    refine wpAnyH_grow (S' := fun w' => w'.cell? ⟨g2, i, none⟩ = some (.string y) ∧ w'.cell? ⟨w1.heap.size + 1 + 1, 0, none⟩ = some (.slice (some ⟨w1.heap.size, 0, none⟩) 1 1) ∧ True) (fun _ h => h.2) ?_
    have hSm : (fun w' => w'.cell? ⟨g2, i, none⟩ = some (.string y) ∧ w'.cell? ⟨w1.heap.size + 1 + 1, 0, none⟩ = some (.slice (some ⟨w1.heap.size, 0, none⟩) 1 1) ∧ True) d1 := ⟨n0_, hSn⟩
    clear hS hSn hb3 n0_
    have hS := hSm
    clear hSm
    refine takeH 5 wb5 hS ?_
    try simp only [Act.put, pz1, pz2, pz3]
    refine takeH 6 wb6 hS ?_
    try simp only [Act.put, pz1, pz2, pz3]
    refine takeH 7 wb7 hS ?_
    try simp only [Act.put, pz1, pz2, pz3]
    refine takeH 8 wb8 hS ?_
    try simp only [Act.put, pz1, pz2, pz3]
    refine wpAnyH_ready (rs := [9]) (by kernel_rfl) (by simp) ?_
    refine AllReadyH.cons (o := wb9) rfl (fun K hK => ?_) AllReadyH.nil
    have m0_ := HM.1.cell 0
    have f0_ := HM.1.frozen 0
    go_simp
    have hSn : (fun w' => w'.cell? ⟨g2, i, none⟩ = some (.string y) ∧ w'.cell? ⟨w1.heap.size + 1 + 1, 0, none⟩ = some (.slice (some ⟨w1.heap.size, 0, none⟩) 1 1) ∧ True) (d1.setCell ⟨w1.heap.size, 0, none⟩ (.string y)) := ⟨(cell_far hS.1 (p := ⟨w1.heap.size, 0, none⟩) (by show w1.heap.size ≠ g2; omega)), (cell_far hS.2.1 (p := ⟨w1.heap.size, 0, none⟩) (by show w1.heap.size ≠ w1.heap.size + 1 + 1; omega)), trivial⟩
    have HMn := (HM.1.set_ 0 (.string y))
    have HBn := (HB0.setCell (p := ⟨w1.heap.size, 0, none⟩) HM.2 (.string y))
    refine hK.out _ _ hSn (fun _ => ?_)
    clear hK K
    try simp only [Act.put, pz1, pz2, pz3]
    refine wpAnyH_done (by kernel_rfl) ?_ _
    have n2 := H2.blk.far (p := ⟨w1.heap.size, 0, none⟩) (by show w1.heap.size + 1 ≠ w1.heap.size; omega) (.string y)
    have n3 := H3.blk.far (p := ⟨w1.heap.size, 0, none⟩) (by show w1.heap.size + 1 + 1 ≠ w1.heap.size; omega) (.string y)
    have p0_ := (n3.cell 0).trans (show _ = some (.slice (some ⟨w1.heap.size, 0, none⟩) 1 1) from rfl)
    have p1_ := (n3.cell 1).trans (show _ = some (.slice (some ⟨w1.heap.size + 1, 0, none⟩) 1 1) from rfl)
    have N1 := Lib.hid HMn
    have N2 := Lib.hid n2
    have HD := Lib.hid HBn
    clear hS HMn n2 n3 HBn HM H2 H3 HB0
    go_wp2_with fail
    have cq := astRight_any (some ⟨w1.heap.size, 0, none⟩) 1 1 (some ⟨w1.heap.size + 1, 0, none⟩) 1 1 [⟨y, ⟨#[61]⟩, ⟨#[97]⟩⟩] [s0W] _ (row_blk matV_len [⟨y, ⟨#[61]⟩, ⟨#[97]⟩⟩] N1.out rfl) (row_blk stgV_len [s0W] N2.out rfl) (fun s hs => by rw [List.mem_singleton] at hs; subst hs; show Num64 0; unfold Num64; decide) (HL.out.below HD.out)
    rw [HFIN.out] at cq
    refine cq.mono ?_
    rintro e w9 ⟨rfl, hb_⟩
    have HE := Lib.hid (hop HD.out (Nat.le_refl _) hb_)
    clear hb_ cq
    go_wp2
    go_ret
    exact ⟨rfl, HE.out⟩
  ·
    have fr1_ := J1.out.frozen 1
    have co1_ := J1.out.cell 1
    have qq_ := (J3.out.cell 0).trans (show _ = some (.slice (some ⟨w1.heap.size, 0, none⟩) 1 1) from rfl)
    have E1 := Lib.hid (show Blk ((w3.alloc (.cells #[.int .i64 x1, .string x2, .string x3, .string x4, .int .i64 x5, .int .i64 x6] 27)).setCell ⟨w1.heap.size, 1, none⟩ (.string ⟨#[61, 126]⟩)) (w1.heap.size) 43 #[.string ⟨#[97, 112, 112]⟩, .string ⟨#[61, 126]⟩, .string ⟨#[97]⟩] from J1.out.set_ 1 (.string ⟨#[61, 126]⟩))
    have E2 := Lib.hid (J2.out.far (p := ⟨w1.heap.size, 1, none⟩) (by show w1.heap.size + 1 ≠ w1.heap.size; omega) (.string ⟨#[61, 126]⟩))
    have E3 := Lib.hid (J3.out.far (p := ⟨w1.heap.size, 1, none⟩) (by show w1.heap.size + 1 + 1 ≠ w1.heap.size; omega) (.string ⟨#[61, 126]⟩))
    have HC5 := Lib.hid (HC8.out.setCell (p := ⟨w1.heap.size, 1, none⟩) (by show W.heap.size ≤ w1.heap.size; omega) (.string ⟨#[61, 126]⟩))
    have q0_ : ((w3.alloc (.cells #[.int .i64 x1, .string x2, .string x3, .string x4, .int .i64 x5, .int .i64 x6] 27)).setCell ⟨w1.heap.size, 1, none⟩ (.string ⟨#[61, 126]⟩)).cell? ⟨w1.heap.size + 1 + 1, 0, none⟩ = some (.slice (some ⟨w1.heap.size, 0, none⟩) 1 1) := (E3.out.cell 0).trans rfl
    obtain ⟨y, hy⟩ : ∃ y, bad5.getD i .empty = y := ⟨_, rfl⟩
    have hfin := w_five i hi
    rw [hy] at hfin
    have HFIN := Lib.hid hfin
    have HB0 : Below W.heap.size W ((w3.alloc (.cells #[.int .i64 x1, .string x2, .string x3, .string x4, .int .i64 x5, .int .i64 x6] 27)).setCell ⟨w1.heap.size, 1, none⟩ (.string ⟨#[61, 126]⟩)).drew := below_drewN (HC5.out) 1
    have HM : BlkH W.heap.size ((w3.alloc (.cells #[.int .i64 x1, .string x2, .string x3, .string x4, .int .i64 x5, .int .i64 x6] 27)).setCell ⟨w1.heap.size, 1, none⟩ (.string ⟨#[61, 126]⟩)).drew (w1.heap.size) 43 #[.string ⟨#[97, 112, 112]⟩, .string ⟨#[61, 126]⟩, .string ⟨#[97]⟩] := ⟨E1.out, by omega⟩
    have H2 : BlkH W.heap.size ((w3.alloc (.cells #[.int .i64 x1, .string x2, .string x3, .string x4, .int .i64 x5, .int .i64 x6] 27)).setCell ⟨w1.heap.size, 1, none⟩ (.string ⟨#[61, 126]⟩)).drew (w1.heap.size + 1) 27 #[.int .i64 1, .string ⟨#[]⟩, .string ⟨#[124, 61]⟩, .string ⟨#[98]⟩, .int .i64 0, .int .i64 0] := ⟨E2.out, by omega⟩
    have H3 : BlkH W.heap.size ((w3.alloc (.cells #[.int .i64 x1, .string x2, .string x3, .string x4, .int .i64 x5, .int .i64 x6] 27)).setCell ⟨w1.heap.size, 1, none⟩ (.string ⟨#[61, 126]⟩)).drew (w1.heap.size + 1 + 1) 34 #[.slice (some ⟨w1.heap.size, 0, none⟩) 1 1, .slice (some ⟨w1.heap.size + 1, 0, none⟩) 1 1] := ⟨E3.out, by omega⟩
    clear hfin
    go_wp2
    refine wp_region_held_drew (S := fun w' => w'.cell? ⟨w1.heap.size + 1 + 1, 0, none⟩ = some (.slice (some ⟨w1.heap.size, 0, none⟩) 1 1) ∧ True) (by kernel_rfl) ⟨q0_, trivial⟩ (fun hS => ?_)
    obtain ⟨w0, hw0⟩ : ∃ z, ((w3.alloc (.cells #[.int .i64 x1, .string x2, .string x3, .string x4, .int .i64 x5, .int .i64 x6] 27)).setCell ⟨w1.heap.size, 1, none⟩ (.string ⟨#[61, 126]⟩)).drew = z := ⟨_, rfl⟩
    rw [hw0] at hS HB0 HM H2 H3 ⊢
    clear hw0
    refine takeH 0 wc0 hS ?_
    try simp only [Act.put, pz1, pz2, pz3]
    refine takeH 1 wc1 hS ?_
    try simp only [Act.put, pz1, pz2, pz3]
    refine takeH 3 wc3 hS ?_
    try simp only [Act.put, pz1, pz2, pz3]
    refine takeH 4 wc4 hS ?_
    try simp only [Act.put, pz1, pz2, pz3]
    refine wpAnyH_ready (rs := [2]) (by kernel_rfl) (by simp) ?_
    refine AllReadyH.cons (o := wc2) rfl (fun K hK => ?_) AllReadyH.nil
    go_simp
    have hb3 : Below w0.heap.size w0 (w0.alloc (.cells #[.string ⟨#[40]⟩, .string ⟨#[97, 42, 42]⟩, .string ⟨#[91]⟩, .string ⟨#[120, 123]⟩] 9)) := (Below.refl _ _).alloc (Nat.le_refl _) _
    obtain ⟨g2, hg2⟩ : ∃ g, w0.heap.size = g := ⟨_, rfl⟩
    have n0_ := tlit w0 bad5 g2 hg2.symm i hi
    rw [hy] at n0_
    (try simp only [bad5, List.map_cons, List.map_nil] at n0_)
    have lg2 : w1.heap.size < g2 := by rw [← hg2]; exact HM.lt
    obtain ⟨d1, hwc⟩ : ∃ z, w0.alloc (.cells #[.string ⟨#[40]⟩, .string ⟨#[97, 42, 42]⟩, .string ⟨#[91]⟩, .string ⟨#[120, 123]⟩] 9) = z := ⟨_, rfl⟩
    rw [hwc] at hb3 n0_
    rw [hwc, hg2]
    clear hwc hg2
    have hSn : (fun w' => w'.cell? ⟨w1.heap.size + 1 + 1, 0, none⟩ = some (.slice (some ⟨w1.heap.size, 0, none⟩) 1 1) ∧ True) d1 := ⟨cell_keep hb3 hS.1, trivial⟩
    refine hK.out _ _ hSn (fun _ => ?_)
    clear hK K
    try simp only [Act.put, pz1, pz2, pz3]
    have HB0_ := hop HB0 (Nat.le_refl _) hb3
    clear HB0
    have HB0 := HB0_
    clear HB0_
    have HM_ := HM.below_ hb3
    clear HM
    have HM := HM_
    clear HM_
    have H2_ := H2.below_ hb3
    clear H2
    have H2 := H2_
    clear H2_
    have H3_ := H3.below_ hb3
    clear H3
    have H3 := H3_
    clear H3_
    refine wpAnyH_grow (S' := fun w' => w'.cell? ⟨g2, i, none⟩ = some (.string y) ∧ w'.cell? ⟨w1.heap.size + 1 + 1, 0, none⟩ = some (.slice (some ⟨w1.heap.size, 0, none⟩) 1 1) ∧ True) (fun _ h => h.2) ?_
    have hSm : (fun w' => w'.cell? ⟨g2, i, none⟩ = some (.string y) ∧ w'.cell? ⟨w1.heap.size + 1 + 1, 0, none⟩ = some (.slice (some ⟨w1.heap.size, 0, none⟩) 1 1) ∧ True) d1 := ⟨n0_, hSn⟩
    clear hS hSn hb3 n0_
    have hS := hSm
    clear hSm
    refine takeH 5 wc5 hS ?_
    try simp only [Act.put, pz1, pz2, pz3]
    refine takeH 6 wc6 hS ?_
    try simp only [Act.put, pz1, pz2, pz3]
    refine takeH 7 wc7 hS ?_
    try simp only [Act.put, pz1, pz2, pz3]
    refine takeH 8 wc8 hS ?_
    try simp only [Act.put, pz1, pz2, pz3]
    refine wpAnyH_ready (rs := [9]) (by kernel_rfl) (by simp) ?_
    refine AllReadyH.cons (o := wc9) rfl (fun K hK => ?_) AllReadyH.nil
    have m0_ := HM.1.cell 2
    have f0_ := HM.1.frozen 2
    go_simp
    have hSn : (fun w' => w'.cell? ⟨g2, i, none⟩ = some (.string y) ∧ w'.cell? ⟨w1.heap.size + 1 + 1, 0, none⟩ = some (.slice (some ⟨w1.heap.size, 0, none⟩) 1 1) ∧ True) (d1.setCell ⟨w1.heap.size, 2, none⟩ (.string y)) := ⟨(cell_far hS.1 (p := ⟨w1.heap.size, 2, none⟩) (by show w1.heap.size ≠ g2; omega)), (cell_far hS.2.1 (p := ⟨w1.heap.size, 2, none⟩) (by show w1.heap.size ≠ w1.heap.size + 1 + 1; omega)), trivial⟩
    have HMn := (HM.1.set_ 2 (.string y))
    have HBn := (HB0.setCell (p := ⟨w1.heap.size, 2, none⟩) HM.2 (.string y))
    refine hK.out _ _ hSn (fun _ => ?_)
    clear hK K
    try simp only [Act.put, pz1, pz2, pz3]
    refine wpAnyH_done (by kernel_rfl) ?_ _
    have n2 := H2.blk.far (p := ⟨w1.heap.size, 2, none⟩) (by show w1.heap.size + 1 ≠ w1.heap.size; omega) (.string y)
    have n3 := H3.blk.far (p := ⟨w1.heap.size, 2, none⟩) (by show w1.heap.size + 1 + 1 ≠ w1.heap.size; omega) (.string y)
    have p0_ := (n3.cell 0).trans (show _ = some (.slice (some ⟨w1.heap.size, 0, none⟩) 1 1) from rfl)
    have p1_ := (n3.cell 1).trans (show _ = some (.slice (some ⟨w1.heap.size + 1, 0, none⟩) 1 1) from rfl)
    have N1 := Lib.hid HMn
    have N2 := Lib.hid n2
    have HD := Lib.hid HBn
    clear hS HMn n2 n3 HBn HM H2 H3 HB0
    go_wp2_with fail
    have cq := astRight_any (some ⟨w1.heap.size, 0, none⟩) 1 1 (some ⟨w1.heap.size + 1, 0, none⟩) 1 1 [⟨⟨#[97, 112, 112]⟩, ⟨#[61, 126]⟩, y⟩] [s0W] _ (row_blk matV_len [⟨⟨#[97, 112, 112]⟩, ⟨#[61, 126]⟩, y⟩] N1.out rfl) (row_blk stgV_len [s0W] N2.out rfl) (fun s hs => by rw [List.mem_singleton] at hs; subst hs; show Num64 0; unfold Num64; decide) (HL.out.below HD.out)
    rw [HFIN.out] at cq
    refine cq.mono ?_
    rintro e w9 ⟨rfl, hb_⟩
    have HE := Lib.hid (hop HD.out (Nat.le_refl _) hb_)
    clear hb_ cq
    go_wp2
    go_ret
    exact ⟨rfl, HE.out⟩
  ·
    obtain ⟨y, hy, y1, y2, y3, y4⟩ := kinds_at i hi
    obtain ⟨i0, hi_, hz0, hz1, hz2⟩ := info_parts infoStg
    have ic_ : ((w3.alloc (.cells #[.int .i64 x1, .string x2, .string x3, .string x4, .int .i64 x5, .int .i64 x6] 27)).alloc (.cells #[.int .i64 0, .int .i64 5, .int .i64 (-1), .int .i64 9] 3)).cell? ⟨w3.heap.size + 1, i, none⟩ = some (.int .i64 y) := by
      have h := (Blk.new (w3.alloc (.cells #[.int .i64 x1, .string x2, .string x3, .string x4, .int .i64 x5, .int .i64 x6] 27)) 3 #[.int .i64 0, .int .i64 5, .int .i64 (-1), .int .i64 9]).cell i
      rw [show (w3.alloc (.cells #[.int .i64 x1, .string x2, .string x3, .string x4, .int .i64 x5, .int .i64 x6] 27)).heap.size = w3.heap.size + 1 by simp] at h
      exact h.trans hy
    have L1 := Lib.hid ((K1.out.alloc (.cells #[.int .i64 y, .string x2, .string x3, .string x4, .int .i64 x5, .int .i64 x6] 27)).alloc (.cells #[.int .i64 0, .int .i64 5, .int .i64 (-1), .int .i64 9] 3))
    have L3 := Lib.hid ((K3.out.alloc (.cells #[.int .i64 y, .string x2, .string x3, .string x4, .int .i64 x5, .int .i64 x6] 27)).alloc (.cells #[.int .i64 0, .int .i64 5, .int .i64 (-1), .int .i64 9] 3))
    have LO := Lib.hid (OwnR.alloc (OwnR.alloc O2.out (.cells #[.int .i64 y, .string x2, .string x3, .string x4, .int .i64 x5, .int .i64 x6] 27)) (.cells #[.int .i64 0, .int .i64 5, .int .i64 (-1), .int .i64 9] 3))
    have HC6 := Lib.hid ((HC.out.alloc hs3 (.cells #[.int .i64 y, .string x2, .string x3, .string x4, .int .i64 x5, .int .i64 x6] 27)).alloc (by simp; omega) (.cells #[.int .i64 0, .int .i64 5, .int .i64 (-1), .int .i64 9] 3))
    have q1_ := (L3.out.cell 1).trans (show _ = some (.slice (some ⟨w1.heap.size + 1, 0, none⟩) 1 1) from rfl)
    have YK := Lib.hid (show rightQ [m0W] [s0W, ⟨y, x2, x3, x4, x5, x6⟩] = false from w_kind y1 y2 y3 y4)
    have HI0 := Lib.hid hlt3
    clear y1 y2 y3 y4 hy
    go_wp2_with (at_builtin; refine wpList_append_lies _ rfl (.tmp 105) (.tmp 107) 32 rfl W.heap.size 27 i0 (.agg #[.int .i64 0, .string ⟨#[]⟩, .string ⟨#[]⟩, .string ⟨#[]⟩, .int .i64 0, .int .i64 0]) 6 72 Tryz.underlying32 hi_ hz0 hz1 hz2 rfl (by decide) _ _ _ rfl (OwnR.alloc LO.out (.cells #[.int .i64 y, .string x2, .string x3, .string x4, .int .i64 x5, .int .i64 x6] 27)) ⟨w3.heap.size + 1 + 1, 0, none⟩ 1 1 (stgV ⟨y, x2, x3, x4, x5, x6⟩) rfl rfl (new_cells_at _ _ _ _ (by simp)) (stgV_one _) (by decide) (by unfold maxLen; decide) (by decide) (by simp; omega) _ rfl ?_)
    intro g cap w7 hown hgrow hat hlt
    have hown2 : OwnR stgV 6 w7 W.heap.size 27 (.slice (some ⟨g, 0, none⟩) 2 cap) [s0W, ⟨y, x2, x3, x4, x5, x6⟩] := hown
    have hne3 : g ≠ w1.heap.size + 1 + 1 := by
      rcases hat with h | h
      · have h2 : w1.heap.size + 1 = g := Option.some.inj h
        omega
      · omega
    have hne0 : g ≠ w1.heap.size := by
      rcases hat with h | h
      · have h2 : w1.heap.size + 1 = g := Option.some.inj h
        omega
      · omega
    have B1_ := (L1.out.alloc (.cells #[.int .i64 y, .string x2, .string x3, .string x4, .int .i64 x5, .int .i64 x6] 27))
    have B3_ := (L3.out.alloc (.cells #[.int .i64 y, .string x2, .string x3, .string x4, .int .i64 x5, .int .i64 x6] 27))
    have b1 : Blk w7 (w1.heap.size) 43 #[.string ⟨#[97, 112, 112]⟩, .string ⟨#[61]⟩, .string ⟨#[97]⟩] := (hgrow.block _ B1_.lt (fun e => by have h2 : w1.heap.size + 1 = w1.heap.size := Option.some.inj e.symm; omega)).trans B1_
    have b3 : Blk w7 (w1.heap.size + 1 + 1) 34 #[.slice (some ⟨w1.heap.size, 0, none⟩) 1 1, .slice (some ⟨w1.heap.size + 1, 0, none⟩) 1 1] := (hgrow.block _ B3_.lt (fun e => by have h2 : w1.heap.size + 1 = w1.heap.size + 1 + 1 := Option.some.inj e.symm; omega)).trans B3_
    have hB7 : Below W.heap.size W w7 := (HC6.out.alloc (by simp; omega) (.cells #[.int .i64 y, .string x2, .string x3, .string x4, .int .i64 x5, .int .i64 x6] 27)).grown hgrow (by simp; omega) (fun k hk => by have h2 : w1.heap.size + 1 = k := Option.some.inj hk; omega)
    have f3_ := b3.frozen 1
    have c3_ := b3.cell 1
    have n3 := b3.set_ 1 (.slice (some ⟨g, 0, none⟩) 2 cap)
    have p0_ := (n3.cell 0).trans (show _ = some (.slice (some ⟨w1.heap.size, 0, none⟩) 1 1) from rfl)
    have p1_ := (n3.cell 1).trans (show _ = some (.slice (some ⟨g, 0, none⟩) 2 cap) from rfl)
    have N1 := Lib.hid (b1.far (p := ⟨w1.heap.size + 1 + 1, 1, none⟩) (by show w1.heap.size ≠ w1.heap.size + 1 + 1; omega) (.slice (some ⟨g, 0, none⟩) 2 cap))
    have NO := Lib.hid (own_row stgV_len (own_store hown2 ⟨w1.heap.size + 1 + 1, 1, none⟩ (.slice (some ⟨g, 0, none⟩) 2 cap) (fun k hk => by have h2 : g = k := Option.some.inj hk; rw [← h2]; exact hne3)))
    have HD := Lib.hid (hB7.setCell (p := ⟨w1.heap.size + 1 + 1, 1, none⟩) (by show W.heap.size ≤ w1.heap.size + 1 + 1; omega) (.slice (some ⟨g, 0, none⟩) 2 cap))
    clear hown hgrow hat hown2 b1 b3 hB7 B1_ B3_ n3 hne3 hne0
    go_wp2_with fail
    have cq := astRight_any (some ⟨w1.heap.size, 0, none⟩) 1 1 (some ⟨g, 0, none⟩) 2 cap [m0W] [s0W, ⟨y, x2, x3, x4, x5, x6⟩] _ (row_blk matV_len [m0W] N1.out rfl) NO.out (fun s hs => by rcases List.mem_cons.1 hs with rfl | hs; (show Num64 0; unfold Num64; decide); rw [List.mem_singleton] at hs; subst hs; exact HX5.out) (HL.out.below HD.out)
    rw [YK.out] at cq
    refine cq.mono ?_
    rintro e w9 ⟨rfl, hb_⟩
    have HE := Lib.hid (hop HD.out (Nat.le_refl _) hb_)
    clear hb_ cq
    go_wp2
    go_ret
    exact ⟨rfl, HE.out⟩
  ·
    have fr_ := J2.out.frozen 4
    have co_ := J2.out.cell 4
    have q0_ := J3.out.cell 0
    have q1_ := J3.out.cell 1
    have N1 := Lib.hid (J1.out.far (p := ⟨w1.heap.size + 1, 4, none⟩) (by show w1.heap.size ≠ w1.heap.size + 1; omega) (.int .i64 ((K : Int) + 1)))
    have N2 := Lib.hid (J2.out.set_ 4 (.int .i64 ((K : Int) + 1)))
    have N3 := Lib.hid (J3.out.far (p := ⟨w1.heap.size + 1, 4, none⟩) (by show w1.heap.size + 1 + 1 ≠ w1.heap.size + 1; omega) (.int .i64 ((K : Int) + 1)))
    have HD := Lib.hid (HC8.out.setCell (p := ⟨w1.heap.size + 1, 4, none⟩) (by show W.heap.size ≤ w1.heap.size + 1; omega) (.int .i64 ((K : Int) + 1)))
    have p0_ := (N3.out.cell 0).trans (show _ = some (.slice (some ⟨w1.heap.size, 0, none⟩) 1 1) from rfl)
    have p1_ := (N3.out.cell 1).trans (show _ = some (.slice (some ⟨w1.heap.size + 1, 0, none⟩) 1 1) from rfl)
    go_wp2_with fail
    have cq := astRight_any (some ⟨w1.heap.size, 0, none⟩) 1 1 (some ⟨w1.heap.size + 1, 0, none⟩) 1 1 [m0W] [⟨1, ⟨#[]⟩, ⟨#[124, 61]⟩, ⟨#[98]⟩, (K : Int) + 1, 0⟩] _ (row_blk matV_len [m0W] N1.out rfl) (row_blk stgV_len [⟨1, ⟨#[]⟩, ⟨#[124, 61]⟩, ⟨#[98]⟩, (K : Int) + 1, 0⟩] N2.out rfl) (fun s hs => by rw [List.mem_singleton] at hs; subst hs; show Num64 ((K : Int) + 1); unfold Num64; omega) (HL.out.below HD.out)
    rw [w_seven (by omega)] at cq
    refine cq.mono ?_
    rintro e w9 ⟨rfl, hb_⟩
    have HE := Lib.hid (hop HD.out (Nat.le_refl _) hb_)
    clear hb_ cq
    go_wp2
    go_ret
    exact ⟨rfl, HE.out⟩
  ·
    have fr_ := J2.out.frozen 1
    have co_ := J2.out.cell 1
    have q0_ := J3.out.cell 0
    have q1_ := J3.out.cell 1
    have N1 := Lib.hid (J1.out.far (p := ⟨w1.heap.size + 1, 1, none⟩) (by show w1.heap.size ≠ w1.heap.size + 1; omega) (.string ⟨#[110]⟩))
    have N2 := Lib.hid (J2.out.set_ 1 (.string ⟨#[110]⟩))
    have N3 := Lib.hid (J3.out.far (p := ⟨w1.heap.size + 1, 1, none⟩) (by show w1.heap.size + 1 + 1 ≠ w1.heap.size + 1; omega) (.string ⟨#[110]⟩))
    have HD := Lib.hid (HC8.out.setCell (p := ⟨w1.heap.size + 1, 1, none⟩) (by show W.heap.size ≤ w1.heap.size + 1; omega) (.string ⟨#[110]⟩))
    have p0_ := (N3.out.cell 0).trans (show _ = some (.slice (some ⟨w1.heap.size, 0, none⟩) 1 1) from rfl)
    have p1_ := (N3.out.cell 1).trans (show _ = some (.slice (some ⟨w1.heap.size + 1, 0, none⟩) 1 1) from rfl)
    go_wp2_with fail
    have cq := astRight_any (some ⟨w1.heap.size, 0, none⟩) 1 1 (some ⟨w1.heap.size + 1, 0, none⟩) 1 1 [m0W] [⟨1, ⟨#[110]⟩, ⟨#[124, 61]⟩, ⟨#[98]⟩, 0, 0⟩] _ (row_blk matV_len [m0W] N1.out rfl) (row_blk stgV_len [⟨1, ⟨#[110]⟩, ⟨#[124, 61]⟩, ⟨#[98]⟩, 0, 0⟩] N2.out rfl) (fun s hs => by rw [List.mem_singleton] at hs; subst hs; show Num64 0; unfold Num64; decide) (HL.out.below HD.out)
    rw [w_eight] at cq
    refine cq.mono ?_
    rintro e w9 ⟨rfl, hb_⟩
    have HE := Lib.hid (hop HD.out (Nat.le_refl _) hb_)
    clear hb_ cq
    go_wp2
    go_ret
    exact ⟨rfl, HE.out⟩
end Go.Proofs.YtepokdmkdnlbfaaGreatDoor
