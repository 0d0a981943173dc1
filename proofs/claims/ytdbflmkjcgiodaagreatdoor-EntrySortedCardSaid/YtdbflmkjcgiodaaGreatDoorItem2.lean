/- An entry by its parts. -/
import Derived.Test.YtdbflmkjcgiodaaGreatDoorItem
import Derived.Deep.RegionHeld3
namespace Go.Proofs.YtdbflmkjcgiodaaGreatDoor
open Go.RowKit
set_option linter.unusedVariables false
set_option linter.unusedSimpArgs false

section
variable {P : Program} {md : Region.Mode} {ops : Array Oper} {Q : Exit → Act → World → Prop} {S S2 : World → Prop}
/-- more may be held from here on -/
theorem wpAnyH_mono (h : ∀ w, S2 w → S w) : ∀ (fuel : Nat) (listed : Array Bool) (a : Act) (w : World), wpAnyH P md ops Q S2 fuel listed a w → wpAnyH P md ops Q S fuel listed a w
  | 0, _, _, _, hw => hw
  | fuel + 1, _, _, _, hw => ⟨hw.1, fun i hi => wpOp_mono (fun a' w' h' => ⟨h _ h'.1, wpAnyH_mono h fuel _ a' w' h'.2⟩) (hw.2 i hi)⟩
end
/-- an entry by its parts, as it lies in memory -/
structure ItemX where
  e : EntX
  own : Bool
  t : Int
  LA : Option Addr
  Ln : Nat
  Lc : Nat
  lt : List TagB
  k : Nat
def lineTs : List ByteArray := [⟨#[97]⟩, ⟨#[98]⟩, ⟨#[110, 61, 55]⟩, ⟨#[108, 118, 108, 61, 98, 32, 110, 61, 51]⟩, ⟨#[120, 49]⟩, ⟨#[]⟩, ⟨#[100, 117, 114, 61, 53, 109]⟩, ⟨#[101, 114, 114, 111, 114, 58, 32, 97]⟩]
def itemB (x : ItemX) : EntB := if x.own then ⟨x.t.tmod 12, fewL x.lt, lineTs.getD (x.k % 8) .empty⟩ else x.e.b
def ItemX.val (x : ItemX) : Value := .agg #[.int .i64 x.e.ts, .slice x.e.A x.e.n x.e.c, .string x.e.ln, .bool x.own, .int .i8 x.t, .slice x.LA x.Ln x.Lc, .int .u8 (x.k : Int)]
structure GoodI (B : Nat) (w : World) (x : ItemX) : Prop where
  ent : Good B w x.e
  tags : TagsP w x.LA x.Ln x.lt
  len : x.Ln ≤ 9223372036854775807
  lo : -128 ≤ x.t
  hi : x.t ≤ 127
  line : x.k < 256
theorem GoodI.below {B : Nat} {w w' : World} {x : ItemX} (h : GoodI B w x) (hb : Below w.heap.size w w') : GoodI B w' x := ⟨h.ent.below hb, h.tags.below hb, h.len, h.lo, h.hi, h.line⟩
theorem GoodI.mono {B B' : Nat} {w : World} {x : ItemX} (h : GoodI B w x) (hB : B ≤ B') : GoodI B' w x := ⟨h.ent.mono hB, h.tags, h.len, h.lo, h.hi, h.line⟩

theorem few2_some (A : Option Addr) (n c : Nat) (ts : List TagB) (hn : n ≤ 9223372036854775807) (W : World) (h1 : TagsP W A n ts) :
    Calls Tryz.prog 30 #[.slice A n c] W fun e w' => ∃ A' n' c', e = .returned (.slice A' n' c') ∧ n' = (fewL ts).length ∧ (∀ B, SetAt B w' A' n' (fewL ts)) ∧ Below W.heap.size W w' := by
  refine (few2_any A n c ts hn W h1).mono ?_
  rintro e w' ⟨v, rfl, ho, hb⟩
  obtain ⟨A', n', c', rfl, hn', hs⟩ := SetAt.ofP (B := 0) ho
  exact ⟨A', n', c', rfl, hn', fun B => hs.mono (Nat.zero_le _), hb⟩
set_option maxRecDepth 100000 in
set_option maxHeartbeats 800000 in
theorem item_as (ts : Int) (A : Option Addr) (n c : Nat) (ln : ByteArray) (t : Int) (LA : Option Addr) (Ln Lc k : Nat) (W : World) :
    Calls Tryz.prog 10 #[.agg #[.int .i64 ts, .slice A n c, .string ln, .bool false, .int .i8 t, .slice LA Ln Lc, .int .u8 (k : Int)]] W fun e w' => e = .returned (.agg #[.int .i64 ts, .slice A n c, .string ln]) ∧ Below W.heap.size W w' := by
  go_enter Tryz.func10, Tryz.ntmps10
  go_wp2
  refine bodyPost_ret (results_cell_row rfl _ _ (W.heap.size + 1) 25 #[.int .i64 ts, .slice A n c, .string ln] (0, 0) _ rfl (blk_next W _ _ _) Tryz.underlying25 rfl (by kernel_rfl)) rfl ?_
  exact ⟨rfl, ((Below.refl _ _).alloc (Nat.le_refl _) _).alloc (by simp) _⟩

set_option maxRecDepth 100000 in
set_option maxHeartbeats 1600000 in
theorem item_own (ts : Int) (A : Option Addr) (n c : Nat) (ln : ByteArray) (t : Int) (LA : Option Addr) (Ln Lc k i : Nat) (lt : List TagB) (z : Int) (W : World) (hz : t.tmod 12 = z) (hz1 : IntKind.i8.wrap z = z) (hz2 : IntKind.i64.wrap z = z)
    (hi : i < 8) (hk : (k : Int).tmod 8 = (i : Int)) (h1 : TagsP W LA Ln lt) (hn : Ln ≤ 9223372036854775807) :
    Calls Tryz.prog 10 #[.agg #[.int .i64 ts, .slice A n c, .string ln, .bool true, .int .i8 t, .slice LA Ln Lc, .int .u8 (k : Int)]] W fun e w' => ∃ A' n' c', e = .returned (.agg #[.int .i64 z, .slice A' n' c', .string (lineTs.getD i .empty)]) ∧ n' = (fewL lt).length ∧ (∀ B, SetAt B w' A' n' (fewL lt)) ∧ Below W.heap.size W w' := by
  have FW := Lib.hid (fun w h => few2_some LA Ln Lc lt hn w (h1.below h))
  have iI : (i : Int) < 8 := by omega
  have hwi : IntKind.u8.wrap (i : Int) = (i : Int) := by rw [IntKind.wrap_u8]; omega
  have HL0 : ∀ (w : World), (w.alloc (.cells #[.string ⟨#[97]⟩, .string ⟨#[98]⟩, .string ⟨#[110, 61, 55]⟩, .string ⟨#[108, 118, 108, 61, 98, 32, 110, 61, 51]⟩, .string ⟨#[120, 49]⟩, .string ⟨#[]⟩, .string ⟨#[100, 117, 114, 61, 53, 109]⟩, .string ⟨#[101, 114, 114, 111, 114, 58, 32, 97]⟩] 9)).cell? ⟨w.heap.size, i, none⟩ = some (.string (lineTs.getD i .empty)) := fun w => tlit w lineTs w.heap.size rfl i hi
  have HL1 : ∀ (w w3 : World), Below (w.alloc (.cells #[.string ⟨#[97]⟩, .string ⟨#[98]⟩, .string ⟨#[110, 61, 55]⟩, .string ⟨#[108, 118, 108, 61, 98, 32, 110, 61, 51]⟩, .string ⟨#[120, 49]⟩, .string ⟨#[]⟩, .string ⟨#[100, 117, 114, 61, 53, 109]⟩, .string ⟨#[101, 114, 114, 111, 114, 58, 32, 97]⟩] 9)).heap.size (w.alloc (.cells #[.string ⟨#[97]⟩, .string ⟨#[98]⟩, .string ⟨#[110, 61, 55]⟩, .string ⟨#[108, 118, 108, 61, 98, 32, 110, 61, 51]⟩, .string ⟨#[120, 49]⟩, .string ⟨#[]⟩, .string ⟨#[100, 117, 114, 61, 53, 109]⟩, .string ⟨#[101, 114, 114, 111, 114, 58, 32, 97]⟩] 9)) w3 → w3.cell? ⟨w.heap.size, i, none⟩ = some (.string (lineTs.getD i .empty)) := fun w w3 hb => (hb.cell (p := ⟨w.heap.size, i, none⟩) (by simp)).trans (HL0 w)
  have HL2 : ∀ (w w3 : World), Below (w.alloc (.cells #[.string ⟨#[97]⟩, .string ⟨#[98]⟩, .string ⟨#[110, 61, 55]⟩, .string ⟨#[108, 118, 108, 61, 98, 32, 110, 61, 51]⟩, .string ⟨#[120, 49]⟩, .string ⟨#[]⟩, .string ⟨#[100, 117, 114, 61, 53, 109]⟩, .string ⟨#[101, 114, 114, 111, 114, 58, 32, 97]⟩] 9)).drew.heap.size (w.alloc (.cells #[.string ⟨#[97]⟩, .string ⟨#[98]⟩, .string ⟨#[110, 61, 55]⟩, .string ⟨#[108, 118, 108, 61, 98, 32, 110, 61, 51]⟩, .string ⟨#[120, 49]⟩, .string ⟨#[]⟩, .string ⟨#[100, 117, 114, 61, 53, 109]⟩, .string ⟨#[101, 114, 114, 111, 114, 58, 32, 97]⟩] 9)).drew w3 → w3.cell? ⟨w.heap.size, i, none⟩ = some (.string (lineTs.getD i .empty)) := fun w w3 hb => HL1 w w3 ⟨hb.os, hb.tape, hb.output, hb.size, hb.block⟩
  obtain ⟨y, hy⟩ : ∃ y, lineTs.getD i .empty = y := ⟨_, rfl⟩
  simp only [hy] at HL0 HL1 HL2
  have HL := Lib.hid HL1
  have HLD := Lib.hid HL2
  clear HL1 HL2
  rw [hy]
  clear hy h1
  go_enter Tryz.func10, Tryz.ntmps10
  go_wp2
  obtain ⟨w1, hw1⟩ : ∃ w, (W.alloc (.cells #[.int .i64 ts, .slice A n c, .string ln, .bool true, .int .i8 t, .slice LA Ln Lc, .int .u8 (k : Int)] 29)).alloc (.cells #[.int .i64 0, .slice none 0 0, .string ⟨#[]⟩] 25) = w := ⟨_, rfl⟩
  have B1 : Blk w1 W.heap.size 29 #[.int .i64 ts, .slice A n c, .string ln, .bool true, .int .i8 t, .slice LA Ln Lc, .int .u8 (k : Int)] := by rw [← hw1]; exact (Blk.new W _ _).alloc _
  have B2 : Blk w1 (W.heap.size + 1) 25 #[.int .i64 0, .slice none 0 0, .string ⟨#[]⟩] := by rw [← hw1]; exact blk_next W _ _ _
  have hb1 : Below W.heap.size W w1 := by rw [← hw1]; exact ((Below.refl _ _).alloc (Nat.le_refl _) _).alloc (by simp) _
  rw [hw1]
  clear hw1
  have k4 : w1.cell? ⟨W.heap.size, 4, none⟩ = some (.int .i8 t) := (B1.cell 4).trans rfl
  have k5 : w1.cell? ⟨W.heap.size, 5, none⟩ = some (.slice LA Ln Lc) := (B1.cell 5).trans rfl
  have k6 : w1.cell? ⟨W.heap.size, 6, none⟩ = some (.int .u8 (k : Int)) := (B1.cell 6).trans rfl
  have lt1 := B1.lt
  have lt2 := B2.lt
  have HS := Lib.hid (fun (w w' : World) (hS : Below W.heap.size W w ∧ w.cell? ⟨W.heap.size, 4, none⟩ = some (.int .i8 t) ∧ w.cell? ⟨W.heap.size, 5, none⟩ = some (.slice LA Ln Lc) ∧ w.cell? ⟨W.heap.size, 6, none⟩ = some (.int .u8 (k : Int)) ∧ ∃ c0 c1 c2, Blk w (W.heap.size + 1) 25 #[c0, c1, c2]) (hx : Below w.heap.size w w') =>
    show Below W.heap.size W w' ∧ w'.cell? ⟨W.heap.size, 4, none⟩ = some (.int .i8 t) ∧ w'.cell? ⟨W.heap.size, 5, none⟩ = some (.slice LA Ln Lc) ∧ w'.cell? ⟨W.heap.size, 6, none⟩ = some (.int .u8 (k : Int)) ∧ ∃ c0 c1 c2, Blk w' (W.heap.size + 1) 25 #[c0, c1, c2] from by
      obtain ⟨hb, c1, c2, c3, v0, v1, v2, hB⟩ := hS
      have z1 := block_lt_of_cell c1
      exact ⟨hop hb (Nat.le_refl _) hx, (hx.cell (p := ⟨_, 4, none⟩) z1).trans c1, (hx.cell (p := ⟨_, 5, none⟩) z1).trans c2, (hx.cell (p := ⟨_, 6, none⟩) z1).trans c3, v0, v1, v2, hB.below hx hB.lt⟩)
  have HST := Lib.hid (fun (w : World) (u v x : Value) (hS : Below W.heap.size W w ∧ w.cell? ⟨W.heap.size, 4, none⟩ = some (.int .i8 t) ∧ w.cell? ⟨W.heap.size, 5, none⟩ = some (.slice LA Ln Lc) ∧ w.cell? ⟨W.heap.size, 6, none⟩ = some (.int .u8 (k : Int)) ∧ ∃ c0 c1 c2, Blk w (W.heap.size + 1) 25 #[c0, c1, c2]) =>
    show Below W.heap.size W (((w.setCell ⟨W.heap.size + 1, 0, none⟩ u).setCell ⟨W.heap.size + 1, 1, none⟩ v).setCell ⟨W.heap.size + 1, 2, none⟩ x) ∧ (((w.setCell ⟨W.heap.size + 1, 0, none⟩ u).setCell ⟨W.heap.size + 1, 1, none⟩ v).setCell ⟨W.heap.size + 1, 2, none⟩ x).cell? ⟨W.heap.size, 4, none⟩ = some (.int .i8 t) ∧ (((w.setCell ⟨W.heap.size + 1, 0, none⟩ u).setCell ⟨W.heap.size + 1, 1, none⟩ v).setCell ⟨W.heap.size + 1, 2, none⟩ x).cell? ⟨W.heap.size, 5, none⟩ = some (.slice LA Ln Lc) ∧ (((w.setCell ⟨W.heap.size + 1, 0, none⟩ u).setCell ⟨W.heap.size + 1, 1, none⟩ v).setCell ⟨W.heap.size + 1, 2, none⟩ x).cell? ⟨W.heap.size, 6, none⟩ = some (.int .u8 (k : Int)) ∧ ∃ c0 c1 c2, Blk (((w.setCell ⟨W.heap.size + 1, 0, none⟩ u).setCell ⟨W.heap.size + 1, 1, none⟩ v).setCell ⟨W.heap.size + 1, 2, none⟩ x) (W.heap.size + 1) 25 #[c0, c1, c2] from by
      obtain ⟨hb, c1, c2, c3, v0, v1, v2, hB⟩ := hS
      have far : ∀ (w : World) (i j : Nat) (u y : Value), w.cell? ⟨W.heap.size, i, none⟩ = some y → (w.setCell ⟨W.heap.size + 1, j, none⟩ u).cell? ⟨W.heap.size, i, none⟩ = some y := fun w i j u y h => by
        refine (World.cell?_of_block (Below.heap_setCell w ⟨W.heap.size + 1, j, none⟩ u W.heap.size ?_)).trans h
        simp
      refine ⟨((hb.setCell (by simp) _).setCell (by simp) _).setCell (by simp) _, far _ _ _ _ _ (far _ _ _ _ _ (far _ _ _ _ _ c1)), far _ _ _ _ _ (far _ _ _ _ _ (far _ _ _ _ _ c2)), far _ _ _ _ _ (far _ _ _ _ _ (far _ _ _ _ _ c3)), u, v, x, ((hB.set_ 0 u).set_ 1 v).set_ 2 x⟩)
  have HR := Lib.hid (fun (w3 : World) (c0 c1 c2 : Value) (B3 : Blk w3 (W.heap.size + 1) 25 #[c0, c1, c2]) => show w3.cell? ⟨W.heap.size + 1, 0, none⟩ = some c0 ∧ w3.cell? ⟨W.heap.size + 1, 1, none⟩ = some c1 ∧ w3.cell? ⟨W.heap.size + 1, 2, none⟩ = some c2 ∧ w3.frozen? ⟨W.heap.size + 1, 0, none⟩ = false ∧ w3.frozen? ⟨W.heap.size + 1, 1, none⟩ = false ∧ w3.frozen? ⟨W.heap.size + 1, 2, none⟩ = false ∧ ∀ o : Obj, (w3.alloc o).cell? ⟨W.heap.size + 1, 0, none⟩ = some c0 ∧ (w3.alloc o).cell? ⟨W.heap.size + 1, 1, none⟩ = some c1 ∧ (w3.alloc o).cell? ⟨W.heap.size + 1, 2, none⟩ = some c2 ∧ (w3.alloc o).frozen? ⟨W.heap.size + 1, 0, none⟩ = false ∧ (w3.alloc o).frozen? ⟨W.heap.size + 1, 1, none⟩ = false ∧ (w3.alloc o).frozen? ⟨W.heap.size + 1, 2, none⟩ = false from
    ⟨(B3.cell 0).trans rfl, (B3.cell 1).trans rfl, (B3.cell 2).trans rfl, B3.frozen 0, B3.frozen 1, B3.frozen 2, fun o => ⟨((B3.alloc o).cell 0).trans rfl, ((B3.alloc o).cell 1).trans rfl, ((B3.alloc o).cell 2).trans rfl, (B3.alloc o).frozen 0, (B3.alloc o).frozen 1, (B3.alloc o).frozen 2⟩⟩)
  have hS1 : Below W.heap.size W w1 ∧ w1.cell? ⟨W.heap.size, 4, none⟩ = some (.int .i8 t) ∧ w1.cell? ⟨W.heap.size, 5, none⟩ = some (.slice LA Ln Lc) ∧ w1.cell? ⟨W.heap.size, 6, none⟩ = some (.int .u8 (k : Int)) ∧ ∃ c0 c1 c2, Blk w1 (W.heap.size + 1) 25 #[c0, c1, c2] := ⟨hb1, k4, k5, k6, _, _, _, B2⟩
  have hS0 := HS.out w1 w1.drew hS1 ((Below.refl _ _).drew)
  clear B1 B2 lt1 lt2
  refine wp_region_held_drew (S := fun w' => Below W.heap.size W w' ∧ w'.cell? ⟨W.heap.size, 4, none⟩ = some (.int .i8 t) ∧ w'.cell? ⟨W.heap.size, 5, none⟩ = some (.slice LA Ln Lc) ∧ w'.cell? ⟨W.heap.size, 6, none⟩ = some (.int .u8 (k : Int)) ∧ ∃ c0 c1 c2, Blk w' (W.heap.size + 1) 25 #[c0, c1, c2]) (by kernel_rfl) hS0 (fun hHeld => ?_)
  refine wpAnyH_take (i := 0) (v := ?_) rfl (by kernel_rfl) (by kernel_rfl) (by kernel_rfl) (fun _ _ _ h => h) (Or.inl ⟨by rfl, ?_⟩) (by assumption) ?_
  rotate_left
  · intro w hSw
    (try dsimp only at hSw)
    go_split_ands
    first | (go_simp; done) | (go_simp; with_reducible rfl)
  try simp only [Act.put, List.setIfInBounds_toArray, List.set_cons_zero, List.set_cons_succ]
  refine wpAnyH_take (i := 1) (v := ?_) rfl (by kernel_rfl) (by kernel_rfl) (by kernel_rfl) (fun _ _ _ h => h) (Or.inl ⟨by rfl, ?_⟩) (by assumption) ?_
  rotate_left
  · intro w hSw
    (try dsimp only at hSw)
    go_split_ands
    first | (go_simp; done) | (go_simp; with_reducible rfl)
  try simp only [Act.put, List.setIfInBounds_toArray, List.set_cons_zero, List.set_cons_succ]
  refine wpAnyH_take (i := 2) (v := ?_) rfl (by kernel_rfl) (by kernel_rfl) (by kernel_rfl) (fun _ _ _ h => h) (Or.inl ⟨by rfl, ?_⟩) (by assumption) ?_
  rotate_left
  · intro w hSw
    (try dsimp only at hSw)
    go_split_ands
    first | (go_simp; done) | (go_simp; with_reducible rfl)
  try simp only [Act.put, List.setIfInBounds_toArray, List.set_cons_zero, List.set_cons_succ]
  refine wpAnyH_take (i := 3) (v := ?_) rfl (by kernel_rfl) (by kernel_rfl) (by kernel_rfl) (fun _ _ _ h => h) (Or.inl ⟨by rfl, ?_⟩) (by assumption) ?_
  rotate_left
  · intro w hSw
    (try dsimp only at hSw)
    go_split_ands
    first | (go_simp; done) | (go_simp; with_reducible rfl)
  try simp only [Act.put, List.setIfInBounds_toArray, List.set_cons_zero, List.set_cons_succ]
  refine wpAnyH_take (i := 4) (v := ?_) rfl (by kernel_rfl) (by kernel_rfl) (by kernel_rfl) (fun _ _ _ h => h) (Or.inl ⟨by rfl, ?_⟩) (by assumption) ?_
  rotate_left
  · intro w hSw
    (try dsimp only at hSw)
    go_split_ands
    first | (go_simp; done) | (go_simp; with_reducible rfl)
  try simp only [Act.put, List.setIfInBounds_toArray, List.set_cons_zero, List.set_cons_succ]
  refine wpAnyH_take (i := 5) (v := ?_) rfl (by kernel_rfl) (by kernel_rfl) (by kernel_rfl) (fun _ _ _ h => h) (Or.inl ⟨by rfl, ?_⟩) (by assumption) ?_
  rotate_left
  · intro w hSw
    (try dsimp only at hSw)
    go_split_ands
    first | (go_simp; done) | (go_simp; with_reducible rfl)
  try simp only [Act.put, List.setIfInBounds_toArray, List.set_cons_zero, List.set_cons_succ]
  refine wpAnyH_take (i := 8) (v := ?_) rfl (by kernel_rfl) (by kernel_rfl) (by kernel_rfl) (fun _ _ _ h => h) (Or.inl ⟨by rfl, ?_⟩) (by assumption) ?_
  rotate_left
  · intro w hSw
    (try dsimp only at hSw)
    go_split_ands
    first | (go_simp; done) | (go_simp; with_reducible rfl)
  try simp only [Act.put, List.setIfInBounds_toArray, List.set_cons_zero, List.set_cons_succ]
  refine wpAnyH_take (i := 9) (v := ?_) rfl (by kernel_rfl) (by kernel_rfl) (by kernel_rfl) (fun _ _ _ h => h) (Or.inl ⟨by rfl, ?_⟩) (by assumption) ?_
  rotate_left
  · intro w hSw
    (try dsimp only at hSw)
    go_split_ands
    first | (go_simp; done) | (go_simp; with_reducible rfl)
  try simp only [Act.put, List.setIfInBounds_toArray, List.set_cons_zero, List.set_cons_succ]
  refine wpAnyH_take (i := 10) (v := ?_) rfl (by kernel_rfl) (by kernel_rfl) (by kernel_rfl) (fun _ _ _ h => h) (Or.inl ⟨by rfl, ?_⟩) (by assumption) ?_
  rotate_left
  · intro w hSw
    (try dsimp only at hSw)
    go_split_ands
    first | (go_simp; done) | (go_simp; with_reducible rfl)
  try simp only [Act.put, List.setIfInBounds_toArray, List.set_cons_zero, List.set_cons_succ]
  refine wpAnyH_ready (rs := [6, 7]) (by kernel_rfl) (by simp) ?_
  refine AllReadyH.cons rfl (fun K hK => ?_) ?_
  · go_simp
    go_at_call 30
    refine (FW.out _ hS0.1).mono ?_
    rintro e w3 ⟨A', n', c', rfl, hn3, hs3, hb3⟩
    have HN3 := Lib.hid hn3
    clear hn3
    have S3 := HS.out _ _ hS0 hb3
    refine hK.out _ _ S3 (fun _ => ?_)
    clear hK K
    try simp only [Act.put, List.setIfInBounds_toArray, List.set_cons_zero, List.set_cons_succ]
    refine wpAnyH_ready (rs := [7]) (by kernel_rfl) (by simp) ?_
    refine AllReadyH.cons rfl (fun K hK => ?_) ?_
    · go_simp
      have S4 := HS.out _ _ S3 ((Below.refl w3.heap.size w3).alloc (Nat.le_refl _) (.cells #[.string ⟨#[97]⟩, .string ⟨#[98]⟩, .string ⟨#[110, 61, 55]⟩, .string ⟨#[108, 118, 108, 61, 98, 32, 110, 61, 51]⟩, .string ⟨#[120, 49]⟩, .string ⟨#[]⟩, .string ⟨#[100, 117, 114, 61, 53, 109]⟩, .string ⟨#[101, 114, 114, 111, 114, 58, 32, 97]⟩] 9))
      refine hK.out _ _ S4 (fun _ => ?_)
      clear hK K
      try simp only [Act.put, List.setIfInBounds_toArray, List.set_cons_zero, List.set_cons_succ]
      refine wpAnyH_mono (S2 := fun w' => (Below W.heap.size W w' ∧ w'.cell? ⟨W.heap.size, 4, none⟩ = some (.int .i8 t) ∧ w'.cell? ⟨W.heap.size, 5, none⟩ = some (.slice LA Ln Lc) ∧ w'.cell? ⟨W.heap.size, 6, none⟩ = some (.int .u8 (k : Int)) ∧ ∃ c0 c1 c2, Blk w' (W.heap.size + 1) 25 #[c0, c1, c2]) ∧ w'.cell? ⟨w3.heap.size, i, none⟩ = some (.string y)) (fun w h => h.1) _ _ _ _ ?_
      have S6 : (Below W.heap.size W (w3.alloc (.cells #[.string ⟨#[97]⟩, .string ⟨#[98]⟩, .string ⟨#[110, 61, 55]⟩, .string ⟨#[108, 118, 108, 61, 98, 32, 110, 61, 51]⟩, .string ⟨#[120, 49]⟩, .string ⟨#[]⟩, .string ⟨#[100, 117, 114, 61, 53, 109]⟩, .string ⟨#[101, 114, 114, 111, 114, 58, 32, 97]⟩] 9)) ∧ (w3.alloc (.cells #[.string ⟨#[97]⟩, .string ⟨#[98]⟩, .string ⟨#[110, 61, 55]⟩, .string ⟨#[108, 118, 108, 61, 98, 32, 110, 61, 51]⟩, .string ⟨#[120, 49]⟩, .string ⟨#[]⟩, .string ⟨#[100, 117, 114, 61, 53, 109]⟩, .string ⟨#[101, 114, 114, 111, 114, 58, 32, 97]⟩] 9)).cell? ⟨W.heap.size, 4, none⟩ = some (.int .i8 t) ∧ (w3.alloc (.cells #[.string ⟨#[97]⟩, .string ⟨#[98]⟩, .string ⟨#[110, 61, 55]⟩, .string ⟨#[108, 118, 108, 61, 98, 32, 110, 61, 51]⟩, .string ⟨#[120, 49]⟩, .string ⟨#[]⟩, .string ⟨#[100, 117, 114, 61, 53, 109]⟩, .string ⟨#[101, 114, 114, 111, 114, 58, 32, 97]⟩] 9)).cell? ⟨W.heap.size, 5, none⟩ = some (.slice LA Ln Lc) ∧ (w3.alloc (.cells #[.string ⟨#[97]⟩, .string ⟨#[98]⟩, .string ⟨#[110, 61, 55]⟩, .string ⟨#[108, 118, 108, 61, 98, 32, 110, 61, 51]⟩, .string ⟨#[120, 49]⟩, .string ⟨#[]⟩, .string ⟨#[100, 117, 114, 61, 53, 109]⟩, .string ⟨#[101, 114, 114, 111, 114, 58, 32, 97]⟩] 9)).cell? ⟨W.heap.size, 6, none⟩ = some (.int .u8 (k : Int)) ∧ ∃ c0 c1 c2, Blk (w3.alloc (.cells #[.string ⟨#[97]⟩, .string ⟨#[98]⟩, .string ⟨#[110, 61, 55]⟩, .string ⟨#[108, 118, 108, 61, 98, 32, 110, 61, 51]⟩, .string ⟨#[120, 49]⟩, .string ⟨#[]⟩, .string ⟨#[100, 117, 114, 61, 53, 109]⟩, .string ⟨#[101, 114, 114, 111, 114, 58, 32, 97]⟩] 9)) (W.heap.size + 1) 25 #[c0, c1, c2]) ∧ (w3.alloc (.cells #[.string ⟨#[97]⟩, .string ⟨#[98]⟩, .string ⟨#[110, 61, 55]⟩, .string ⟨#[108, 118, 108, 61, 98, 32, 110, 61, 51]⟩, .string ⟨#[120, 49]⟩, .string ⟨#[]⟩, .string ⟨#[100, 117, 114, 61, 53, 109]⟩, .string ⟨#[101, 114, 114, 111, 114, 58, 32, 97]⟩] 9)).cell? ⟨w3.heap.size, i, none⟩ = some (.string y) := ⟨S4, HL0 w3⟩
      refine wpAnyH_take (i := 11) (v := ?_) rfl (by kernel_rfl) (by kernel_rfl) (by kernel_rfl) (fun _ _ _ h => h) (Or.inl ⟨by rfl, ?_⟩) (by assumption) ?_
      rotate_left
      · intro w hSw
        (try dsimp only at hSw)
        go_split_ands
        first | (go_simp; done) | (go_simp; with_reducible rfl)
      try simp only [Act.put, List.setIfInBounds_toArray, List.set_cons_zero, List.set_cons_succ]
      refine wpAnyH_take (i := 12) (v := ?_) rfl (by kernel_rfl) (by kernel_rfl) (by kernel_rfl) (fun _ _ _ h => h) (Or.inl ⟨by rfl, ?_⟩) (by assumption) ?_
      rotate_left
      · intro w hSw
        (try dsimp only at hSw)
        go_split_ands
        first | (go_simp; done) | (go_simp; with_reducible rfl)
      try simp only [Act.put, List.setIfInBounds_toArray, List.set_cons_zero, List.set_cons_succ]
      refine wpAnyH_take (i := 13) (v := ?_) rfl (by kernel_rfl) (by kernel_rfl) (by kernel_rfl) (fun _ _ _ h => h) (Or.inl ⟨by rfl, ?_⟩) (by assumption) ?_
      rotate_left
      · intro w hSw
        (try dsimp only at hSw)
        go_split_ands
        first | (go_simp; done) | (go_simp; with_reducible rfl)
      try simp only [Act.put, List.setIfInBounds_toArray, List.set_cons_zero, List.set_cons_succ]
      obtain ⟨⟨sb, s4, s5, s6, c0, c1, c2, B3⟩, sl⟩ := S6
      obtain ⟨q0, q1, q2, f0, f1, f2, _⟩ := HR.out _ _ _ _ B3
      have B4 := ((B3.set_ 0 (.int .i64 z)).set_ 1 (.slice A' n' c')).set_ 2 (.string y)
      have hb4 : Below W.heap.size W _ := ((sb.setCell (p := ⟨W.heap.size + 1, 0, none⟩) (by simp) (.int .i64 z)).setCell (p := ⟨W.heap.size + 1, 1, none⟩) (by simp) (.slice A' n' c')).setCell (p := ⟨W.heap.size + 1, 2, none⟩) (by simp) (.string y)
      have hs4 : ∀ B, SetAt B (w3.alloc (.cells #[.string ⟨#[97]⟩, .string ⟨#[98]⟩, .string ⟨#[110, 61, 55]⟩, .string ⟨#[108, 118, 108, 61, 98, 32, 110, 61, 51]⟩, .string ⟨#[120, 49]⟩, .string ⟨#[]⟩, .string ⟨#[100, 117, 114, 61, 53, 109]⟩, .string ⟨#[101, 114, 114, 111, 114, 58, 32, 97]⟩] 9)) A' n' (fewL lt) := fun B => (hs3 B).below ((Below.refl w3.heap.size w3).alloc (Nat.le_refl _) _)
      have hs5 : ∀ B, SetAt B ((((w3.alloc (.cells #[.string ⟨#[97]⟩, .string ⟨#[98]⟩, .string ⟨#[110, 61, 55]⟩, .string ⟨#[108, 118, 108, 61, 98, 32, 110, 61, 51]⟩, .string ⟨#[120, 49]⟩, .string ⟨#[]⟩, .string ⟨#[100, 117, 114, 61, 53, 109]⟩, .string ⟨#[101, 114, 114, 111, 114, 58, 32, 97]⟩] 9)).setCell ⟨W.heap.size + 1, 0, none⟩ (.int .i64 z)).setCell ⟨W.heap.size + 1, 1, none⟩ (.slice A' n' c')).setCell ⟨W.heap.size + 1, 2, none⟩ (.string y)) A' n' (fewL lt) := fun B => by
        have gr : ∀ (w : World) (i : Nat) (u : Value), w.grownBy (w.setCell ⟨W.heap.size + 1, i, none⟩ u) (some (W.heap.size + 1)) := fun w i u => ⟨rfl, rfl, rfl, by simp, fun k hk hne => Below.heap_setCell w ⟨W.heap.size + 1, i, none⟩ u k (fun e => hne (by rw [e]))⟩
        have hB := B3
        refine ((((hs4 0).grown (gr _ 0 _) ?_).grown (gr _ 1 _) ?_).grown (gr _ 2 _) ?_).mono (Nat.zero_le _)
        · intro b hb; injection hb with hb; subst hb; exact ⟨Nat.zero_le _, _, _, ent_not_pair, B3⟩
        · intro b hb; injection hb with hb; subst hb; exact ⟨Nat.zero_le _, _, _, ent_not_pair, B3.set_ 0 _⟩
        · intro b hb; injection hb with hb; subst hb; exact ⟨Nat.zero_le _, _, _, ent_not_pair, (B3.set_ 0 _).set_ 1 _⟩
      have S7 := HST.out _ (.int .i64 z) (.slice A' n' c') (.string y) ⟨sb, s4, s5, s6, c0, c1, c2, B3⟩
      have far : ∀ (w : World) (i j : Nat) (u y : Value), w.cell? ⟨w3.heap.size, i, none⟩ = some y → (w.setCell ⟨W.heap.size + 1, j, none⟩ u).cell? ⟨w3.heap.size, i, none⟩ = some y := fun w i j u y h => by
        refine (World.cell?_of_block (Below.heap_setCell w ⟨W.heap.size + 1, j, none⟩ u (w3.heap.size) ?_)).trans h
        have hlt : W.heap.size + 1 < w3.heap.size := (by obtain ⟨_, _, _, _, _, _, _, B⟩ := S3; exact B.lt)
        show w3.heap.size ≠ W.heap.size + 1
        omega
      have HLS := Lib.hid (far _ _ 2 (.string y) _ (far _ _ 1 (.slice A' n' c') _ (far _ _ 0 (.int .i64 z) _ sl)))
      have HB4 := Lib.hid B4
      have Hb4 := Lib.hid hb4
      have HS5 := Lib.hid hs5
      clear B4 hb4 hs4 hs5 far sl
      refine wpAnyH_ready (rs := [14]) (by kernel_rfl) (by simp) ?_
      refine AllReadyH.cons rfl (fun K hK => ?_) ?_
      · go_simp
        refine hK.out _ _ ⟨S7, HLS.out⟩ (fun _ => ?_)
        clear hK K
        try simp only [Act.put, List.setIfInBounds_toArray, List.set_cons_zero, List.set_cons_succ]
        refine wpAnyH_done (by kernel_rfl) ?_ _
        go_wp2
        refine bodyPost_ret (results_cell_row rfl _ _ (W.heap.size + 1) 25 #[.int .i64 z, .slice A' n' c', .string y] (0, 0) _ rfl HB4.out Tryz.underlying25 rfl (by kernel_rfl)) rfl ?_
        exact ⟨A', n', c', rfl, HN3.out, HS5.out, Hb4.out⟩
      · exact AllReadyH.nil
    · exact AllReadyH.nil
  · refine AllReadyH.cons rfl (fun K hK => ?_) ?_
    · go_simp
      have S3 := HS.out _ _ hS1 (((Below.refl w1.heap.size w1).alloc (Nat.le_refl _) (.cells #[.string ⟨#[97]⟩, .string ⟨#[98]⟩, .string ⟨#[110, 61, 55]⟩, .string ⟨#[108, 118, 108, 61, 98, 32, 110, 61, 51]⟩, .string ⟨#[120, 49]⟩, .string ⟨#[]⟩, .string ⟨#[100, 117, 114, 61, 53, 109]⟩, .string ⟨#[101, 114, 114, 111, 114, 58, 32, 97]⟩] 9)).drew)
      refine hK.out _ _ S3 (fun _ => ?_)
      clear hK K
      try simp only [Act.put, List.setIfInBounds_toArray, List.set_cons_zero, List.set_cons_succ]
      refine wpAnyH_mono (S2 := fun w' => (Below W.heap.size W w' ∧ w'.cell? ⟨W.heap.size, 4, none⟩ = some (.int .i8 t) ∧ w'.cell? ⟨W.heap.size, 5, none⟩ = some (.slice LA Ln Lc) ∧ w'.cell? ⟨W.heap.size, 6, none⟩ = some (.int .u8 (k : Int)) ∧ ∃ c0 c1 c2, Blk w' (W.heap.size + 1) 25 #[c0, c1, c2]) ∧ w'.cell? ⟨w1.heap.size, i, none⟩ = some (.string y)) (fun w h => h.1) _ _ _ _ ?_
      have S6 : (Below W.heap.size W ((w1.alloc (.cells #[.string ⟨#[97]⟩, .string ⟨#[98]⟩, .string ⟨#[110, 61, 55]⟩, .string ⟨#[108, 118, 108, 61, 98, 32, 110, 61, 51]⟩, .string ⟨#[120, 49]⟩, .string ⟨#[]⟩, .string ⟨#[100, 117, 114, 61, 53, 109]⟩, .string ⟨#[101, 114, 114, 111, 114, 58, 32, 97]⟩] 9)).drew) ∧ ((w1.alloc (.cells #[.string ⟨#[97]⟩, .string ⟨#[98]⟩, .string ⟨#[110, 61, 55]⟩, .string ⟨#[108, 118, 108, 61, 98, 32, 110, 61, 51]⟩, .string ⟨#[120, 49]⟩, .string ⟨#[]⟩, .string ⟨#[100, 117, 114, 61, 53, 109]⟩, .string ⟨#[101, 114, 114, 111, 114, 58, 32, 97]⟩] 9)).drew).cell? ⟨W.heap.size, 4, none⟩ = some (.int .i8 t) ∧ ((w1.alloc (.cells #[.string ⟨#[97]⟩, .string ⟨#[98]⟩, .string ⟨#[110, 61, 55]⟩, .string ⟨#[108, 118, 108, 61, 98, 32, 110, 61, 51]⟩, .string ⟨#[120, 49]⟩, .string ⟨#[]⟩, .string ⟨#[100, 117, 114, 61, 53, 109]⟩, .string ⟨#[101, 114, 114, 111, 114, 58, 32, 97]⟩] 9)).drew).cell? ⟨W.heap.size, 5, none⟩ = some (.slice LA Ln Lc) ∧ ((w1.alloc (.cells #[.string ⟨#[97]⟩, .string ⟨#[98]⟩, .string ⟨#[110, 61, 55]⟩, .string ⟨#[108, 118, 108, 61, 98, 32, 110, 61, 51]⟩, .string ⟨#[120, 49]⟩, .string ⟨#[]⟩, .string ⟨#[100, 117, 114, 61, 53, 109]⟩, .string ⟨#[101, 114, 114, 111, 114, 58, 32, 97]⟩] 9)).drew).cell? ⟨W.heap.size, 6, none⟩ = some (.int .u8 (k : Int)) ∧ ∃ c0 c1 c2, Blk ((w1.alloc (.cells #[.string ⟨#[97]⟩, .string ⟨#[98]⟩, .string ⟨#[110, 61, 55]⟩, .string ⟨#[108, 118, 108, 61, 98, 32, 110, 61, 51]⟩, .string ⟨#[120, 49]⟩, .string ⟨#[]⟩, .string ⟨#[100, 117, 114, 61, 53, 109]⟩, .string ⟨#[101, 114, 114, 111, 114, 58, 32, 97]⟩] 9)).drew) (W.heap.size + 1) 25 #[c0, c1, c2]) ∧ ((w1.alloc (.cells #[.string ⟨#[97]⟩, .string ⟨#[98]⟩, .string ⟨#[110, 61, 55]⟩, .string ⟨#[108, 118, 108, 61, 98, 32, 110, 61, 51]⟩, .string ⟨#[120, 49]⟩, .string ⟨#[]⟩, .string ⟨#[100, 117, 114, 61, 53, 109]⟩, .string ⟨#[101, 114, 114, 111, 114, 58, 32, 97]⟩] 9)).drew).cell? ⟨w1.heap.size, i, none⟩ = some (.string y) := ⟨S3, HL0 w1⟩
      refine wpAnyH_take (i := 11) (v := ?_) rfl (by kernel_rfl) (by kernel_rfl) (by kernel_rfl) (fun _ _ _ h => h) (Or.inl ⟨by rfl, ?_⟩) (by assumption) ?_
      rotate_left
      · intro w hSw
        (try dsimp only at hSw)
        go_split_ands
        first | (go_simp; done) | (go_simp; with_reducible rfl)
      try simp only [Act.put, List.setIfInBounds_toArray, List.set_cons_zero, List.set_cons_succ]
      refine wpAnyH_take (i := 12) (v := ?_) rfl (by kernel_rfl) (by kernel_rfl) (by kernel_rfl) (fun _ _ _ h => h) (Or.inl ⟨by rfl, ?_⟩) (by assumption) ?_
      rotate_left
      · intro w hSw
        (try dsimp only at hSw)
        go_split_ands
        first | (go_simp; done) | (go_simp; with_reducible rfl)
      try simp only [Act.put, List.setIfInBounds_toArray, List.set_cons_zero, List.set_cons_succ]
      refine wpAnyH_ready (rs := [6]) (by kernel_rfl) (by simp) ?_
      refine AllReadyH.cons rfl (fun K hK => ?_) AllReadyH.nil
      go_simp
      go_at_call 30
      refine (FW.out _ S3.1).mono ?_
      rintro e w3 ⟨A', n', c', rfl, hn3, hs3, hb3⟩
      have HN3 := Lib.hid hn3
      clear hn3
      have S4 := HS.out _ _ S3 hb3
      have l4 := HLD.out _ _ hb3
      clear S6
      have S6 : (Below W.heap.size W w3 ∧ w3.cell? ⟨W.heap.size, 4, none⟩ = some (.int .i8 t) ∧ w3.cell? ⟨W.heap.size, 5, none⟩ = some (.slice LA Ln Lc) ∧ w3.cell? ⟨W.heap.size, 6, none⟩ = some (.int .u8 (k : Int)) ∧ ∃ c0 c1 c2, Blk w3 (W.heap.size + 1) 25 #[c0, c1, c2]) ∧ w3.cell? ⟨w1.heap.size, i, none⟩ = some (.string y) := ⟨S4, l4⟩
      refine hK.out _ _ S6 (fun _ => ?_)
      clear hK K
      try simp only [Act.put, List.setIfInBounds_toArray, List.set_cons_zero, List.set_cons_succ]
      refine wpAnyH_take (i := 13) (v := ?_) rfl (by kernel_rfl) (by kernel_rfl) (by kernel_rfl) (fun _ _ _ h => h) (Or.inl ⟨by rfl, ?_⟩) (by assumption) ?_
      rotate_left
      · intro w hSw
        (try dsimp only at hSw)
        go_split_ands
        first | (go_simp; done) | (go_simp; with_reducible rfl)
      try simp only [Act.put, List.setIfInBounds_toArray, List.set_cons_zero, List.set_cons_succ]
      obtain ⟨⟨sb, s4, s5, s6, c0, c1, c2, B3⟩, sl⟩ := S6
      obtain ⟨q0, q1, q2, f0, f1, f2, _⟩ := HR.out _ _ _ _ B3
      have B4 := ((B3.set_ 0 (.int .i64 z)).set_ 1 (.slice A' n' c')).set_ 2 (.string y)
      have hb4 : Below W.heap.size W _ := ((sb.setCell (p := ⟨W.heap.size + 1, 0, none⟩) (by simp) (.int .i64 z)).setCell (p := ⟨W.heap.size + 1, 1, none⟩) (by simp) (.slice A' n' c')).setCell (p := ⟨W.heap.size + 1, 2, none⟩) (by simp) (.string y)
      have hs4 : ∀ B, SetAt B w3 A' n' (fewL lt) := hs3
      have hs5 : ∀ B, SetAt B (((w3.setCell ⟨W.heap.size + 1, 0, none⟩ (.int .i64 z)).setCell ⟨W.heap.size + 1, 1, none⟩ (.slice A' n' c')).setCell ⟨W.heap.size + 1, 2, none⟩ (.string y)) A' n' (fewL lt) := fun B => by
        have gr : ∀ (w : World) (i : Nat) (u : Value), w.grownBy (w.setCell ⟨W.heap.size + 1, i, none⟩ u) (some (W.heap.size + 1)) := fun w i u => ⟨rfl, rfl, rfl, by simp, fun k hk hne => Below.heap_setCell w ⟨W.heap.size + 1, i, none⟩ u k (fun e => hne (by rw [e]))⟩
        have hB := B3
        refine ((((hs4 0).grown (gr _ 0 _) ?_).grown (gr _ 1 _) ?_).grown (gr _ 2 _) ?_).mono (Nat.zero_le _)
        · intro b hb; injection hb with hb; subst hb; exact ⟨Nat.zero_le _, _, _, ent_not_pair, B3⟩
        · intro b hb; injection hb with hb; subst hb; exact ⟨Nat.zero_le _, _, _, ent_not_pair, B3.set_ 0 _⟩
        · intro b hb; injection hb with hb; subst hb; exact ⟨Nat.zero_le _, _, _, ent_not_pair, (B3.set_ 0 _).set_ 1 _⟩
      have S7 := HST.out _ (.int .i64 z) (.slice A' n' c') (.string y) ⟨sb, s4, s5, s6, c0, c1, c2, B3⟩
      have far : ∀ (w : World) (i j : Nat) (u y : Value), w.cell? ⟨w1.heap.size, i, none⟩ = some y → (w.setCell ⟨W.heap.size + 1, j, none⟩ u).cell? ⟨w1.heap.size, i, none⟩ = some y := fun w i j u y h => by
        refine (World.cell?_of_block (Below.heap_setCell w ⟨W.heap.size + 1, j, none⟩ u (w1.heap.size) ?_)).trans h
        have hlt : W.heap.size + 1 < w1.heap.size := (by obtain ⟨_, _, _, _, _, _, _, B⟩ := hS1; exact B.lt)
        show w1.heap.size ≠ W.heap.size + 1
        omega
      have HLS := Lib.hid (far _ _ 2 (.string y) _ (far _ _ 1 (.slice A' n' c') _ (far _ _ 0 (.int .i64 z) _ sl)))
      have HB4 := Lib.hid B4
      have Hb4 := Lib.hid hb4
      have HS5 := Lib.hid hs5
      clear B4 hb4 hs4 hs5 far sl
      refine wpAnyH_ready (rs := [14]) (by kernel_rfl) (by simp) ?_
      refine AllReadyH.cons rfl (fun K hK => ?_) ?_
      · go_simp
        refine hK.out _ _ ⟨S7, HLS.out⟩ (fun _ => ?_)
        clear hK K
        try simp only [Act.put, List.setIfInBounds_toArray, List.set_cons_zero, List.set_cons_succ]
        refine wpAnyH_done (by kernel_rfl) ?_ _
        go_wp2
        refine bodyPost_ret (results_cell_row rfl _ _ (W.heap.size + 1) 25 #[.int .i64 z, .slice A' n' c', .string y] (0, 0) _ rfl HB4.out Tryz.underlying25 rfl (by kernel_rfl)) rfl ?_
        exact ⟨A', n', c', rfl, HN3.out, HS5.out, Hb4.out⟩
      · exact AllReadyH.nil
    · exact AllReadyH.nil
end Go.Proofs.YtdbflmkjcgiodaaGreatDoor
