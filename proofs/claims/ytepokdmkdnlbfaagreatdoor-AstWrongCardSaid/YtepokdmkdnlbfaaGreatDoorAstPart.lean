-- shaken
import Derived.Test.YtepokdmkdnlbfaaGreatDoorMem
import Derived.Test.YtepokdmkdnlbfaaGreatDoorBase
import Derived.Test.YtepokdmkdnlbfaaGreatDoorRows
import Derived.Test.YtepokdmkdnlbfaaGreatDoorAstExam
import Derived.Deep.RegionWith
import Derived.Deep.RegionHeld3
import Derived.BigRegion
namespace Go.Proofs.YtepokdmkdnlbfaaGreatDoor
open Go.RowKit
set_option linter.unusedVariables false
theorem tlit (w : World) (l : List ByteArray) (g : Nat) (hg : g = w.heap.size) (i : Nat) (hi : i < l.length) : (w.alloc (.cells (l.map Value.string).toArray 9)).cell? ⟨g, i, none⟩ = some (.string (l.getD i .empty)) := by
  subst hg
  rw [(Blk.new w 9 (l.map Value.string).toArray).cell i, List.getElem?_toArray, List.getElem?_map, List.getElem?_eq_getElem hi, List.getD_eq_getElem?_getD, List.getElem?_eq_getElem hi]
  rfl
theorem blk_next (w : World) (o : Obj) (t : TypeId) (cs : Array Value) : Blk ((w.alloc o).alloc (.cells cs t)) (w.heap.size + 1) t cs := by
  have h := Blk.new (w.alloc o) t cs
  rwa [show (w.alloc o).heap.size = w.heap.size + 1 by simp] at h

set_option linter.unusedSimpArgs false
def vals8 : List ByteArray := [⟨#[97]⟩, ⟨#[98]⟩, ⟨#[120, 49]⟩, ⟨#[]⟩, ⟨#[97, 124, 98]⟩, ⟨#[120, 46, 42]⟩, ⟨#[91, 97, 98, 93, 43]⟩, ⟨#[53, 109]⟩]
def ops8 : List ByteArray := [⟨#[61]⟩, ⟨#[33, 61]⟩, ⟨#[61, 126]⟩, ⟨#[33, 126]⟩]
def valA (k : Nat) : ByteArray := vals8.getD (k % 8) .empty
theorem value8_any (k : Nat) (hk : k < 256) (W : World) :
    Calls Tryz.prog 18 #[.int .u8 (k : Int)] W fun e w' => e = .returned (.string (valA k)) ∧ w' = W.alloc (.cells (vals8.map Value.string).toArray 9) := by
  obtain ⟨i, hi⟩ : ∃ i, k % 8 = i := ⟨_, rfl⟩
  have hi8 : i < 8 := by omega
  have h8 : (k : Int).tmod 8 = (i : Int) := by rw [Int.tmod_eq_emod_of_nonneg (by omega)]; omega
  have h8' : (k : Int) % 8 = (i : Int) := by omega
  have wi : IntKind.u8.wrap (i : Int) = (i : Int) := by rw [IntKind.wrap_u8]; omega
  have iI : (i : Int) < 8 := by omega
  have c1 := tlit W vals8 W.heap.size rfl i hi8
  obtain ⟨y, hy⟩ : ∃ y, vals8.getD i .empty = y := ⟨_, rfl⟩
  unfold valA
  rw [hi, hy]
  rw [hy] at c1
  simp only [vals8, List.map_cons, List.map_nil] at c1 ⊢
  clear hy hi
  go_enter Tryz.func18, Tryz.ntmps18
  go_wp2
  go_ret
  exact ⟨rfl, rfl⟩
structure BlkH (B : Nat) (w : World) (g : Nat) (t : TypeId) (cs : Array Value) : Prop where
  blk : Blk w g t cs
  le : B ≤ g
theorem BlkH.below_ {B : Nat} {w w' : World} {g : Nat} {t : TypeId} {cs : Array Value} (h : BlkH B w g t cs) (hb : Below w.heap.size w w') : BlkH B w' g t cs := ⟨h.blk.below hb h.blk.lt, h.le⟩
theorem BlkH.lt {B : Nat} {w : World} {g : Nat} {t : TypeId} {cs : Array Value} (h : BlkH B w g t cs) : g < w.heap.size := h.blk.lt
theorem cell_keep {w w' : World} {p : Addr} {v : Value} (hb : Below w.heap.size w w') (h : w.cell? p = some v) : w'.cell? p = some v := (hb.cell (World.block_lt_of_cell? w p h)).trans h
theorem cell_far {w : World} {a p : Addr} {v u : Value} (h : w.cell? a = some v) (hne : p.block ≠ a.block) : (w.setCell p u).cell? a = some v := (World.cell?_setCell_far w p a u hne).trans h
theorem wpAnyH_grow {P : Program} {md : Region.Mode} {ops : Array Oper} {Q : Exit → Act → World → Prop} {S S' : World → Prop} (hS : ∀ w, S' w → S w) : ∀ {fuel : Nat} {listed : Array Bool} {a : Act} {w : World}, wpAnyH P md ops Q S' fuel listed a w → wpAnyH P md ops Q S fuel listed a w
  | 0, _, _, _, h => h
  | fuel + 1, _, _, _, h => ⟨h.1, fun i hi => wpOp_mono (fun a' w' h' => ⟨hS w' h'.1, wpAnyH_grow hS h'.2⟩) (h.2 i hi)⟩
section
variable {P : Program} {md : Region.Mode} {ops : Array Oper} {Q : Exit → Act → World → Prop} {S : World → Prop}
theorem takeH (i : Nat) (oi : Oper) {v : Value} {fuel : Nat} {listed : Array Bool} {a : Act} {w : World} (hS : S w) (h : wpAnyH P md ops Q S fuel (listed.setIfInBounds i true) (a.put oi.dst v) w) (hy : ∀ w, S w → (execOp a.eval oi).run P w = .ok (.value v) w := by (intro w hSw; (try dsimp only at hSw); go_split_ands; first | (go_simp; done) | (go_simp; with_reducible rfl))) (hi : ops[i]? = some oi := by rfl) (hs : Region.noSelect ops = true := by kernel_rfl) (hf : Region.free md ops listed i = true := by kernel_rfl) (hr : (Region.ready md ops listed).contains i = true := by kernel_rfl) (hQ : ∀ c a w, Q (.panic c) (a.put oi.dst v) w → Q (.panic c) a w := by exact fun _ _ _ h => h) (hw : Region.wanted oi (yielded ops a.tmps) = true := by kernel_rfl) : wpAnyH P md ops Q S (fuel + 1) listed a w :=
  wpAnyH_take hi hs hf hr hQ (.inl ⟨hw, hy⟩) hS h
end
theorem pz1 {α : Type} {l : List α} {i : Nat} {a : α} : l.toArray.setIfInBounds i a = (l.set i a).toArray := List.setIfInBounds_toArray ..
theorem pz2 {α : Type} {a b : α} {l : List α} : (a :: l).set 0 b = b :: l := rfl
theorem pz3 {α : Type} {a b : α} {l : List α} {n : Nat} : (a :: l).set (n + 1) b = a :: l.set n b := rfl
theorem value8_let (k : Nat) (hk : k < 256) (W : World) :
    Calls Tryz.prog 18 #[.int .u8 (k : Int)] W fun e w' => e = .returned (.string (valA k)) ∧ Below W.heap.size W w' :=
  (value8_any k hk W).mono fun _ _ ⟨h1, h2⟩ => ⟨h1, by subst h2; exact (Below.refl _ _).alloc (Nat.le_refl _) _⟩
abbrev hf0 : Oper := { dst := some 8, op := Go.Op.buildSlice 44 3 #[(0, Go.Operand.const (Go.Value.string { data := #[97, 112, 112] })), (1, Go.Operand.const (Go.Value.string { data := #[101, 110, 118] })), (2, Go.Operand.const (Go.Value.string { data := #[108, 118, 108] }))], type := 44, pos := "law.go:26", after := #[], guard := none }
abbrev hf2 : Oper := { dst := some 10, op := Go.Op.load 5 (Go.Operand.tmp 9), type := 5, pos := "law.go:26", after := #[{ on := 1, ground := Go.Ground.data }], guard := none }

end Go.Proofs.YtepokdmkdnlbfaaGreatDoor
namespace Go.Proofs.YtepokdmkdnlbfaaGreatDoor
open Go.RowKit
set_option linter.unusedVariables false
set_option linter.unusedSimpArgs false
def lops8 : List ByteArray := [⟨#[124, 61]⟩, ⟨#[33, 61]⟩, ⟨#[124, 126]⟩, ⟨#[33, 126]⟩]
def nms3 : List ByteArray := [⟨#[97, 112, 112]⟩, ⟨#[108, 118, 108]⟩, ⟨#[110]⟩]
def nms4 : List ByteArray := [⟨#[110]⟩, ⟨#[100, 117, 114]⟩]
def nops8 : List ByteArray := [⟨#[61, 61]⟩, ⟨#[33, 61]⟩, ⟨#[62]⟩, ⟨#[62, 61]⟩, ⟨#[60]⟩, ⟨#[60, 61]⟩]
theorem part1_own (sk : Int) (snm sop sv : ByteArray) (sn su : Int) (K k : Nat) (N : Int) (hK : (K : Int).tmod 4 = 1) (hk : (K : Int) / 4 = (k : Int)) (wk : IntKind.u8.wrap (k : Int) = (k : Int)) (W : World) :
    Calls Tryz.prog 9 #[.agg #[.int .i64 sk, .string snm, .string sop, .string sv, .int .i64 sn, .int .i64 su, .bool true, .int .u8 (K : Int), .int .i64 N]] W fun r_ w' => r_ = .returned (.agg #[.int .i64 2, .string ⟨#[]⟩, .string ⟨#[]⟩, .string ⟨#[]⟩, .int .i64 0, .int .i64 0]) ∧ Below W.heap.size W w' := by
  go_enter Tryz.func9, Tryz.ntmps9
  go_wp2
  refine bodyPost_ret (results_cell_row rfl _ _ (W.heap.size + 1) 27 #[.int .i64 2, .string ⟨#[]⟩, .string ⟨#[]⟩, .string ⟨#[]⟩, .int .i64 0, .int .i64 0] (0, 0) _ rfl (blk_next W _ _ _) Tryz.underlying27 rfl (by kernel_rfl)) rfl ?_
  exact ⟨rfl, ((Below.refl _ _).alloc (Nat.le_refl _) _).alloc (by simp) _⟩
abbrev pa0 : Oper := { dst := some 18, op := Go.Op.buildSlice 44 4 #[(0, Go.Operand.const (Go.Value.string { data := #[124, 61] })), (1, Go.Operand.const (Go.Value.string { data := #[33, 61] })), (2, Go.Operand.const (Go.Value.string { data := #[124, 126] })), (3, Go.Operand.const (Go.Value.string { data := #[33, 126] }))], type := 44, pos := "law.go:45", after := #[], guard := none }
abbrev pa1 : Oper := { dst := some 19, op := Go.Op.move (Go.Operand.tmp 3), type := 5, pos := "law.go:45", after := #[], guard := none }
abbrev pa2 : Oper := { dst := some 20, op := Go.Op.binOp Go.BinOp.rem 5 (Go.Operand.tmp 19) (Go.Operand.const (Go.Value.int Go.IntKind.u8 4)) 5, type := 5, pos := "law.go:45", after := #[{ on := 1, ground := Go.Ground.data }], guard := none }
abbrev pa3 : Oper := { dst := some 21, op := Go.Op.indexAddr 44 (Go.Operand.tmp 18) (Go.Operand.tmp 20), type := 0, pos := "law.go:45", after := #[{ on := 0, ground := Go.Ground.data }, { on := 2, ground := Go.Ground.data }], guard := none }
abbrev pa4 : Oper := { dst := some 22, op := Go.Op.load 9 (Go.Operand.tmp 21), type := 9, pos := "law.go:45", after := #[{ on := 3, ground := Go.Ground.data }], guard := none }
abbrev pa5 : Oper := { dst := some 23, op := Go.Op.move (Go.Operand.tmp 3), type := 5, pos := "law.go:45", after := #[], guard := none }
abbrev pa6 : Oper := { dst := some 24, op := Go.Op.binOp Go.BinOp.quo 5 (Go.Operand.tmp 23) (Go.Operand.const (Go.Value.int Go.IntKind.u8 4)) 5, type := 5, pos := "law.go:45", after := #[{ on := 5, ground := Go.Ground.data }], guard := none }
abbrev pa7 : Oper := { dst := some 25, op := Go.Op.call { callee := Go.Callee.value (Go.Operand.func 18), args := #[Go.Operand.tmp 24], argTypes := #[5] }, type := 9, pos := "law.go:45", after := #[{ on := 6, ground := Go.Ground.data }], guard := none }
abbrev pa8 : Oper := { dst := some 26, op := Go.Op.build 27 #[(0, Go.Operand.const (Go.Value.int Go.IntKind.i64 1)), (2, Go.Operand.tmp 22), (3, Go.Operand.tmp 25)], type := 27, pos := "law.go:45", after := #[{ on := 4, ground := Go.Ground.data }, { on := 7, ground := Go.Ground.data }], guard := none }
abbrev pa9 : Oper := { dst := none, op := Go.Op.store 27 (Go.Operand.tmp 2) (Go.Operand.tmp 26), type := 0, pos := "law.go:45", after := #[{ on := 8, ground := Go.Ground.data }, { on := 7, ground := Go.Ground.chain }, { on := 0, ground := Go.Ground.phase }, { on := 1, ground := Go.Ground.phase }, { on := 2, ground := Go.Ground.phase }, { on := 3, ground := Go.Ground.phase }, { on := 4, ground := Go.Ground.phase }, { on := 5, ground := Go.Ground.phase }, { on := 6, ground := Go.Ground.phase }, { on := 7, ground := Go.Ground.phase }, { on := 8, ground := Go.Ground.phase }], guard := none }
set_option maxRecDepth 100000 in
set_option maxHeartbeats 3200000 in
theorem part0_own (sk : Int) (snm sop sv : ByteArray) (sn su : Int) (K k e i : Nat) (N : Int) (hi : i < 4) (hK : (K : Int).tmod 4 = 0) (hk : (K : Int) / 4 = (k : Int)) (wk : IntKind.u8.wrap (k : Int) = (k : Int)) (hki : (k : Int).tmod 4 = (i : Int)) (he : (k : Int) / 4 = (e : Int)) (hwe : IntKind.u8.wrap (e : Int) = (e : Int)) (he2 : e < 256) (W : World) :
    Calls Tryz.prog 9 #[.agg #[.int .i64 sk, .string snm, .string sop, .string sv, .int .i64 sn, .int .i64 su, .bool true, .int .u8 (K : Int), .int .i64 N]] W fun r_ w' => r_ = .returned (.agg #[.int .i64 1, .string ⟨#[]⟩, .string (lops8.getD i .empty), .string (valA e), .int .i64 0, .int .i64 0]) ∧ Below W.heap.size W w' := by
  have iI : (i : Int) < 4 := by omega
  have hwi : IntKind.u8.wrap (i : Int) = (i : Int) := by rw [IntKind.wrap_u8]; omega
  have VA := Lib.hid (fun w => value8_let e he2 w)
  obtain ⟨y, hy⟩ : ∃ y, lops8.getD i .empty = y := ⟨_, rfl⟩
  obtain ⟨x, hx⟩ : ∃ y, valA e = y := ⟨_, rfl⟩
  rw [hx] at VA
  rw [hy, hx]
  have HB0 : Below W.heap.size W ((W.alloc (.cells #[.int .i64 sk, .string snm, .string sop, .string sv, .int .i64 sn, .int .i64 su, .bool true, .int .u8 (K : Int), .int .i64 N] 29)).alloc (.cells #[.int .i64 0, .string ⟨#[]⟩, .string ⟨#[]⟩, .string ⟨#[]⟩, .int .i64 0, .int .i64 0] 27)).drew := below_drewN (((Below.refl W.heap.size W).alloc (Nat.le_refl _) (.cells #[.int .i64 sk, .string snm, .string sop, .string sv, .int .i64 sn, .int .i64 su, .bool true, .int .u8 (K : Int), .int .i64 N] 29)).alloc (by simp) (.cells #[.int .i64 0, .string ⟨#[]⟩, .string ⟨#[]⟩, .string ⟨#[]⟩, .int .i64 0, .int .i64 0] 27)) 1
  have HM : BlkH W.heap.size ((W.alloc (.cells #[.int .i64 sk, .string snm, .string sop, .string sv, .int .i64 sn, .int .i64 su, .bool true, .int .u8 (K : Int), .int .i64 N] 29)).alloc (.cells #[.int .i64 0, .string ⟨#[]⟩, .string ⟨#[]⟩, .string ⟨#[]⟩, .int .i64 0, .int .i64 0] 27)).drew (W.heap.size + 1) 27 #[.int .i64 0, .string ⟨#[]⟩, .string ⟨#[]⟩, .string ⟨#[]⟩, .int .i64 0, .int .i64 0] := ⟨blk_next W _ _ _, by omega⟩
  clear hx
  go_enter Tryz.func9, Tryz.ntmps9
  go_wp2
  refine wp_region_held_drew (S := fun w' => True) (by kernel_rfl) trivial (fun hS => ?_)
  obtain ⟨w0, hw0⟩ : ∃ z, ((W.alloc (.cells #[.int .i64 sk, .string snm, .string sop, .string sv, .int .i64 sn, .int .i64 su, .bool true, .int .u8 (K : Int), .int .i64 N] 29)).alloc (.cells #[.int .i64 0, .string ⟨#[]⟩, .string ⟨#[]⟩, .string ⟨#[]⟩, .int .i64 0, .int .i64 0] 27)).drew = z := ⟨_, rfl⟩
  rw [hw0] at HB0 HM ⊢
  clear hw0
  refine takeH 1 pa1 hS ?_
  try simp only [Act.put, pz1, pz2, pz3]
  refine takeH 2 pa2 hS ?_
  try simp only [Act.put, pz1, pz2, pz3]
  refine takeH 5 pa5 hS ?_
  try simp only [Act.put, pz1, pz2, pz3]
  refine takeH 6 pa6 hS ?_
  try simp only [Act.put, pz1, pz2, pz3]
  refine wpAnyH_ready (rs := [0, 7]) (by kernel_rfl) (by simp) ?_
  refine AllReadyH.cons (o := pa0) rfl (fun K hK => ?_) ?_
  ·
    go_simp
    have hb3 : Below w0.heap.size w0 (w0.alloc (.cells #[.string ⟨#[124, 61]⟩, .string ⟨#[33, 61]⟩, .string ⟨#[124, 126]⟩, .string ⟨#[33, 126]⟩] 9)) := (Below.refl _ _).alloc (Nat.le_refl _) _
    obtain ⟨g0, hg0⟩ : ∃ g, w0.heap.size = g := ⟨_, rfl⟩
    have n0_ := tlit w0 lops8 g0 hg0.symm i hi
    rw [hy] at n0_
    (try simp only [lops8, List.map_cons, List.map_nil] at n0_)
    have lg0 : W.heap.size + 1 < g0 := by rw [← hg0]; exact HM.lt
    obtain ⟨d1, hwc⟩ : ∃ z, w0.alloc (.cells #[.string ⟨#[124, 61]⟩, .string ⟨#[33, 61]⟩, .string ⟨#[124, 126]⟩, .string ⟨#[33, 126]⟩] 9) = z := ⟨_, rfl⟩
    rw [hwc] at hb3 n0_
    rw [hwc, hg0]
    clear hwc hg0
    have hSn : (fun w' => True) d1 := trivial
    refine hK.out _ _ hSn (fun _ => ?_)
    clear hK K
    try simp only [Act.put, pz1, pz2, pz3]
    have HB0_ := hop HB0 (Nat.le_refl _) hb3
    clear HB0
    have HB0 := HB0_
    clear HB0_
    have HM_ := HM.below_ hb3
    clear HM
    have HM := HM_
    clear HM_
    refine wpAnyH_grow (S' := fun w' => w'.cell? ⟨g0, i, none⟩ = some (.string y) ∧ True) (fun _ h => h.2) ?_
    have hSm : (fun w' => w'.cell? ⟨g0, i, none⟩ = some (.string y) ∧ True) d1 := ⟨n0_, hSn⟩
    clear hS hSn hb3 n0_
    have hS := hSm
    clear hSm
    refine takeH 3 pa3 hS ?_
    try simp only [Act.put, pz1, pz2, pz3]
    refine takeH 4 pa4 hS ?_
    try simp only [Act.put, pz1, pz2, pz3]
    refine wpAnyH_ready (rs := [7]) (by kernel_rfl) (by simp) ?_
    refine AllReadyH.cons (o := pa7) rfl (fun K hK => ?_) AllReadyH.nil
    go_simp
    go_at_call 18
    refine (VA.out d1).mono ?_
    rintro _ d2 ⟨rfl, hb3⟩
    have hSn : (fun w' => w'.cell? ⟨g0, i, none⟩ = some (.string y) ∧ True) d2 := ⟨cell_keep hb3 hS.1, trivial⟩
    refine hK.out _ _ hSn (fun _ => ?_)
    clear hK K
    try simp only [Act.put, pz1, pz2, pz3]
    have HB0_ := hop HB0 (Nat.le_refl _) hb3
    clear HB0
    have HB0 := HB0_
    clear HB0_
    have HM_ := HM.below_ hb3
    clear HM
    have HM := HM_
    clear HM_
    clear hS hb3
    have hS := hSn
    clear hSn
    refine takeH 8 pa8 hS ?_
    try simp only [Act.put, pz1, pz2, pz3]
    refine wpAnyH_ready (rs := [9]) (by kernel_rfl) (by simp) ?_
    refine AllReadyH.cons (o := pa9) rfl (fun K hK => ?_) AllReadyH.nil
    have m0_ := HM.1.cell 0
    have f0_ := HM.1.frozen 0
    have m1_ := HM.1.cell 1
    have f1_ := HM.1.frozen 1
    have m2_ := HM.1.cell 2
    have f2_ := HM.1.frozen 2
    have m3_ := HM.1.cell 3
    have f3_ := HM.1.frozen 3
    have m4_ := HM.1.cell 4
    have f4_ := HM.1.frozen 4
    have m5_ := HM.1.cell 5
    have f5_ := HM.1.frozen 5
    go_simp
    have hSn : (fun w' => w'.cell? ⟨g0, i, none⟩ = some (.string y) ∧ True) ((((((d2.setCell ⟨W.heap.size + 1, 0, none⟩ (.int .i64 1)).setCell ⟨W.heap.size + 1, 1, none⟩ (.string ⟨#[]⟩)).setCell ⟨W.heap.size + 1, 2, none⟩ (.string y)).setCell ⟨W.heap.size + 1, 3, none⟩ (.string x)).setCell ⟨W.heap.size + 1, 4, none⟩ (.int .i64 0)).setCell ⟨W.heap.size + 1, 5, none⟩ (.int .i64 0)) := ⟨(cell_far (cell_far (cell_far (cell_far (cell_far (cell_far hS.1 (p := ⟨W.heap.size + 1, 0, none⟩) (by show W.heap.size + 1 ≠ g0; omega)) (p := ⟨W.heap.size + 1, 1, none⟩) (by show W.heap.size + 1 ≠ g0; omega)) (p := ⟨W.heap.size + 1, 2, none⟩) (by show W.heap.size + 1 ≠ g0; omega)) (p := ⟨W.heap.size + 1, 3, none⟩) (by show W.heap.size + 1 ≠ g0; omega)) (p := ⟨W.heap.size + 1, 4, none⟩) (by show W.heap.size + 1 ≠ g0; omega)) (p := ⟨W.heap.size + 1, 5, none⟩) (by show W.heap.size + 1 ≠ g0; omega)), trivial⟩
    have HMn := ((((((HM.1.set_ 0 (.int .i64 1)).set_ 1 (.string ⟨#[]⟩)).set_ 2 (.string y)).set_ 3 (.string x)).set_ 4 (.int .i64 0)).set_ 5 (.int .i64 0))
    have HBn := ((((((HB0.setCell (p := ⟨W.heap.size + 1, 0, none⟩) HM.2 (.int .i64 1)).setCell (p := ⟨W.heap.size + 1, 1, none⟩) HM.2 (.string ⟨#[]⟩)).setCell (p := ⟨W.heap.size + 1, 2, none⟩) HM.2 (.string y)).setCell (p := ⟨W.heap.size + 1, 3, none⟩) HM.2 (.string x)).setCell (p := ⟨W.heap.size + 1, 4, none⟩) HM.2 (.int .i64 0)).setCell (p := ⟨W.heap.size + 1, 5, none⟩) HM.2 (.int .i64 0))
    refine hK.out _ _ hSn (fun _ => ?_)
    clear hK K
    try simp only [Act.put, pz1, pz2, pz3]
    refine wpAnyH_done (by kernel_rfl) ?_ _
    go_wp2
    refine bodyPost_ret (results_cell_row rfl _ _ (W.heap.size + 1) 27 #[.int .i64 1, .string ⟨#[]⟩, .string y, .string x, .int .i64 0, .int .i64 0] (0, 0) _ rfl HMn Tryz.underlying27 rfl (by kernel_rfl)) rfl ?_
    exact ⟨rfl, HBn⟩
  refine AllReadyH.cons (o := pa7) rfl (fun K hK => ?_) AllReadyH.nil
  ·
    go_simp
    go_at_call 18
    refine (VA.out w0).mono ?_
    rintro _ d4 ⟨rfl, hb3⟩
    have hSn : (fun w' => True) d4 := trivial
    refine hK.out _ _ hSn (fun _ => ?_)
    clear hK K
    try simp only [Act.put, pz1, pz2, pz3]
    have HB0_ := hop HB0 (Nat.le_refl _) hb3
    clear HB0
    have HB0 := HB0_
    clear HB0_
    have HM_ := HM.below_ hb3
    clear HM
    have HM := HM_
    clear HM_
    clear hS hb3
    have hS := hSn
    clear hSn
    refine wpAnyH_ready (rs := [0]) (by kernel_rfl) (by simp) ?_
    refine AllReadyH.cons (o := pa0) rfl (fun K hK => ?_) AllReadyH.nil
    go_simp
    have hb3 : Below d4.heap.size d4 (d4.alloc (.cells #[.string ⟨#[124, 61]⟩, .string ⟨#[33, 61]⟩, .string ⟨#[124, 126]⟩, .string ⟨#[33, 126]⟩] 9)) := (Below.refl _ _).alloc (Nat.le_refl _) _
    obtain ⟨g0, hg0⟩ : ∃ g, d4.heap.size = g := ⟨_, rfl⟩
    have n0_ := tlit d4 lops8 g0 hg0.symm i hi
    rw [hy] at n0_
    (try simp only [lops8, List.map_cons, List.map_nil] at n0_)
    have lg0 : W.heap.size + 1 < g0 := by rw [← hg0]; exact HM.lt
    obtain ⟨d5, hwc⟩ : ∃ z, d4.alloc (.cells #[.string ⟨#[124, 61]⟩, .string ⟨#[33, 61]⟩, .string ⟨#[124, 126]⟩, .string ⟨#[33, 126]⟩] 9) = z := ⟨_, rfl⟩
    rw [hwc] at hb3 n0_
    rw [hwc, hg0]
    clear hwc hg0
    have hSn : (fun w' => True) d5 := trivial
    refine hK.out _ _ hSn (fun _ => ?_)
    clear hK K
    try simp only [Act.put, pz1, pz2, pz3]
    have HB0_ := hop HB0 (Nat.le_refl _) hb3
    clear HB0
    have HB0 := HB0_
    clear HB0_
    have HM_ := HM.below_ hb3
    clear HM
    have HM := HM_
    clear HM_
    refine wpAnyH_grow (S' := fun w' => w'.cell? ⟨g0, i, none⟩ = some (.string y) ∧ True) (fun _ h => h.2) ?_
    have hSm : (fun w' => w'.cell? ⟨g0, i, none⟩ = some (.string y) ∧ True) d5 := ⟨n0_, hSn⟩
    clear hS hSn hb3 n0_
    have hS := hSm
    clear hSm
    refine takeH 3 pa3 hS ?_
    try simp only [Act.put, pz1, pz2, pz3]
    refine takeH 4 pa4 hS ?_
    try simp only [Act.put, pz1, pz2, pz3]
    refine takeH 8 pa8 hS ?_
    try simp only [Act.put, pz1, pz2, pz3]
    refine wpAnyH_ready (rs := [9]) (by kernel_rfl) (by simp) ?_
    refine AllReadyH.cons (o := pa9) rfl (fun K hK => ?_) AllReadyH.nil
    have m0_ := HM.1.cell 0
    have f0_ := HM.1.frozen 0
    have m1_ := HM.1.cell 1
    have f1_ := HM.1.frozen 1
    have m2_ := HM.1.cell 2
    have f2_ := HM.1.frozen 2
    have m3_ := HM.1.cell 3
    have f3_ := HM.1.frozen 3
    have m4_ := HM.1.cell 4
    have f4_ := HM.1.frozen 4
    have m5_ := HM.1.cell 5
    have f5_ := HM.1.frozen 5
    go_simp
    have hSn : (fun w' => w'.cell? ⟨g0, i, none⟩ = some (.string y) ∧ True) ((((((d5.setCell ⟨W.heap.size + 1, 0, none⟩ (.int .i64 1)).setCell ⟨W.heap.size + 1, 1, none⟩ (.string ⟨#[]⟩)).setCell ⟨W.heap.size + 1, 2, none⟩ (.string y)).setCell ⟨W.heap.size + 1, 3, none⟩ (.string x)).setCell ⟨W.heap.size + 1, 4, none⟩ (.int .i64 0)).setCell ⟨W.heap.size + 1, 5, none⟩ (.int .i64 0)) := ⟨(cell_far (cell_far (cell_far (cell_far (cell_far (cell_far hS.1 (p := ⟨W.heap.size + 1, 0, none⟩) (by show W.heap.size + 1 ≠ g0; omega)) (p := ⟨W.heap.size + 1, 1, none⟩) (by show W.heap.size + 1 ≠ g0; omega)) (p := ⟨W.heap.size + 1, 2, none⟩) (by show W.heap.size + 1 ≠ g0; omega)) (p := ⟨W.heap.size + 1, 3, none⟩) (by show W.heap.size + 1 ≠ g0; omega)) (p := ⟨W.heap.size + 1, 4, none⟩) (by show W.heap.size + 1 ≠ g0; omega)) (p := ⟨W.heap.size + 1, 5, none⟩) (by show W.heap.size + 1 ≠ g0; omega)), trivial⟩
    have HMn := ((((((HM.1.set_ 0 (.int .i64 1)).set_ 1 (.string ⟨#[]⟩)).set_ 2 (.string y)).set_ 3 (.string x)).set_ 4 (.int .i64 0)).set_ 5 (.int .i64 0))
    have HBn := ((((((HB0.setCell (p := ⟨W.heap.size + 1, 0, none⟩) HM.2 (.int .i64 1)).setCell (p := ⟨W.heap.size + 1, 1, none⟩) HM.2 (.string ⟨#[]⟩)).setCell (p := ⟨W.heap.size + 1, 2, none⟩) HM.2 (.string y)).setCell (p := ⟨W.heap.size + 1, 3, none⟩) HM.2 (.string x)).setCell (p := ⟨W.heap.size + 1, 4, none⟩) HM.2 (.int .i64 0)).setCell (p := ⟨W.heap.size + 1, 5, none⟩) HM.2 (.int .i64 0))
    refine hK.out _ _ hSn (fun _ => ?_)
    clear hK K
    try simp only [Act.put, pz1, pz2, pz3]
    refine wpAnyH_done (by kernel_rfl) ?_ _
    go_wp2
    refine bodyPost_ret (results_cell_row rfl _ _ (W.heap.size + 1) 27 #[.int .i64 1, .string ⟨#[]⟩, .string y, .string x, .int .i64 0, .int .i64 0] (0, 0) _ rfl HMn Tryz.underlying27 rfl (by kernel_rfl)) rfl ?_
    exact ⟨rfl, HBn⟩
abbrev pb0 : Oper := { dst := some 32, op := Go.Op.buildSlice 44 3 #[(0, Go.Operand.const (Go.Value.string { data := #[97, 112, 112] })), (1, Go.Operand.const (Go.Value.string { data := #[108, 118, 108] })), (2, Go.Operand.const (Go.Value.string { data := #[110] }))], type := 44, pos := "law.go:49", after := #[], guard := none }
abbrev pb1 : Oper := { dst := some 33, op := Go.Op.move (Go.Operand.tmp 3), type := 5, pos := "law.go:49", after := #[], guard := none }
abbrev pb2 : Oper := { dst := some 34, op := Go.Op.binOp Go.BinOp.rem 5 (Go.Operand.tmp 33) (Go.Operand.const (Go.Value.int Go.IntKind.u8 3)) 5, type := 5, pos := "law.go:49", after := #[{ on := 1, ground := Go.Ground.data }], guard := none }
abbrev pb3 : Oper := { dst := some 35, op := Go.Op.indexAddr 44 (Go.Operand.tmp 32) (Go.Operand.tmp 34), type := 0, pos := "law.go:49", after := #[{ on := 0, ground := Go.Ground.data }, { on := 2, ground := Go.Ground.data }], guard := none }
abbrev pb4 : Oper := { dst := some 36, op := Go.Op.load 9 (Go.Operand.tmp 35), type := 9, pos := "law.go:49", after := #[{ on := 3, ground := Go.Ground.data }], guard := none }
abbrev pb5 : Oper := { dst := some 37, op := Go.Op.buildSlice 44 4 #[(0, Go.Operand.const (Go.Value.string { data := #[61] })), (1, Go.Operand.const (Go.Value.string { data := #[33, 61] })), (2, Go.Operand.const (Go.Value.string { data := #[61, 126] })), (3, Go.Operand.const (Go.Value.string { data := #[33, 126] }))], type := 44, pos := "law.go:49", after := #[], guard := none }
abbrev pb6 : Oper := { dst := some 38, op := Go.Op.move (Go.Operand.tmp 3), type := 5, pos := "law.go:49", after := #[], guard := none }
abbrev pb7 : Oper := { dst := some 39, op := Go.Op.binOp Go.BinOp.quo 5 (Go.Operand.tmp 38) (Go.Operand.const (Go.Value.int Go.IntKind.u8 3)) 5, type := 5, pos := "law.go:49", after := #[{ on := 6, ground := Go.Ground.data }], guard := none }
abbrev pb8 : Oper := { dst := some 40, op := Go.Op.binOp Go.BinOp.rem 5 (Go.Operand.tmp 39) (Go.Operand.const (Go.Value.int Go.IntKind.u8 4)) 5, type := 5, pos := "law.go:49", after := #[{ on := 7, ground := Go.Ground.data }], guard := none }
abbrev pb9 : Oper := { dst := some 41, op := Go.Op.indexAddr 44 (Go.Operand.tmp 37) (Go.Operand.tmp 40), type := 0, pos := "law.go:49", after := #[{ on := 5, ground := Go.Ground.data }, { on := 8, ground := Go.Ground.data }], guard := none }
abbrev pb10 : Oper := { dst := some 42, op := Go.Op.load 9 (Go.Operand.tmp 41), type := 9, pos := "law.go:49", after := #[{ on := 9, ground := Go.Ground.data }], guard := none }
abbrev pb11 : Oper := { dst := some 43, op := Go.Op.move (Go.Operand.tmp 3), type := 5, pos := "law.go:49", after := #[], guard := none }
abbrev pb12 : Oper := { dst := some 44, op := Go.Op.binOp Go.BinOp.quo 5 (Go.Operand.tmp 43) (Go.Operand.const (Go.Value.int Go.IntKind.u8 12)) 5, type := 5, pos := "law.go:49", after := #[{ on := 11, ground := Go.Ground.data }], guard := none }
abbrev pb13 : Oper := { dst := some 45, op := Go.Op.call { callee := Go.Callee.value (Go.Operand.func 18), args := #[Go.Operand.tmp 44], argTypes := #[5] }, type := 9, pos := "law.go:49", after := #[{ on := 12, ground := Go.Ground.data }], guard := none }
abbrev pb14 : Oper := { dst := some 46, op := Go.Op.build 27 #[(0, Go.Operand.const (Go.Value.int Go.IntKind.i64 3)), (1, Go.Operand.tmp 36), (2, Go.Operand.tmp 42), (3, Go.Operand.tmp 45)], type := 27, pos := "law.go:49", after := #[{ on := 4, ground := Go.Ground.data }, { on := 10, ground := Go.Ground.data }, { on := 13, ground := Go.Ground.data }], guard := none }
abbrev pb15 : Oper := { dst := none, op := Go.Op.store 27 (Go.Operand.tmp 2) (Go.Operand.tmp 46), type := 0, pos := "law.go:49", after := #[{ on := 14, ground := Go.Ground.data }, { on := 13, ground := Go.Ground.chain }, { on := 0, ground := Go.Ground.phase }, { on := 1, ground := Go.Ground.phase }, { on := 2, ground := Go.Ground.phase }, { on := 3, ground := Go.Ground.phase }, { on := 4, ground := Go.Ground.phase }, { on := 5, ground := Go.Ground.phase }, { on := 6, ground := Go.Ground.phase }, { on := 7, ground := Go.Ground.phase }, { on := 8, ground := Go.Ground.phase }, { on := 9, ground := Go.Ground.phase }, { on := 10, ground := Go.Ground.phase }, { on := 11, ground := Go.Ground.phase }, { on := 12, ground := Go.Ground.phase }, { on := 13, ground := Go.Ground.phase }, { on := 14, ground := Go.Ground.phase }], guard := none }
set_option maxRecDepth 100000 in
set_option maxHeartbeats 3200000 in
theorem part2_own (sk : Int) (snm sop sv : ByteArray) (sn su : Int) (K k q e i j : Nat) (N : Int) (hi : i < 3) (hj : j < 4) (hK : (K : Int).tmod 4 = 2) (hk : (K : Int) / 4 = (k : Int)) (wk : IntKind.u8.wrap (k : Int) = (k : Int)) (hki : (k : Int).tmod 3 = (i : Int)) (hq : (k : Int) / 3 = (q : Int)) (wq : IntKind.u8.wrap (q : Int) = (q : Int)) (hqj : (q : Int).tmod 4 = (j : Int)) (he : (k : Int) / 12 = (e : Int)) (hwe : IntKind.u8.wrap (e : Int) = (e : Int)) (he2 : e < 256) (W : World) :
    Calls Tryz.prog 9 #[.agg #[.int .i64 sk, .string snm, .string sop, .string sv, .int .i64 sn, .int .i64 su, .bool true, .int .u8 (K : Int), .int .i64 N]] W fun r_ w' => r_ = .returned (.agg #[.int .i64 3, .string (nms3.getD i .empty), .string (ops8.getD j .empty), .string (valA e), .int .i64 0, .int .i64 0]) ∧ Below W.heap.size W w' := by
  have iI : (i : Int) < 3 := by omega
  have hwi : IntKind.u8.wrap (i : Int) = (i : Int) := by rw [IntKind.wrap_u8]; omega
  have jI : (j : Int) < 4 := by omega
  have hwj : IntKind.u8.wrap (j : Int) = (j : Int) := by rw [IntKind.wrap_u8]; omega
  have VA := Lib.hid (fun w => value8_let e he2 w)
  obtain ⟨y, hy⟩ : ∃ y, nms3.getD i .empty = y := ⟨_, rfl⟩
  obtain ⟨z, hz⟩ : ∃ y, ops8.getD j .empty = y := ⟨_, rfl⟩
  obtain ⟨x, hx⟩ : ∃ y, valA e = y := ⟨_, rfl⟩
  rw [hx] at VA
  rw [hy, hz, hx]
  have HB0 : Below W.heap.size W ((W.alloc (.cells #[.int .i64 sk, .string snm, .string sop, .string sv, .int .i64 sn, .int .i64 su, .bool true, .int .u8 (K : Int), .int .i64 N] 29)).alloc (.cells #[.int .i64 0, .string ⟨#[]⟩, .string ⟨#[]⟩, .string ⟨#[]⟩, .int .i64 0, .int .i64 0] 27)).drew := below_drewN (((Below.refl W.heap.size W).alloc (Nat.le_refl _) (.cells #[.int .i64 sk, .string snm, .string sop, .string sv, .int .i64 sn, .int .i64 su, .bool true, .int .u8 (K : Int), .int .i64 N] 29)).alloc (by simp) (.cells #[.int .i64 0, .string ⟨#[]⟩, .string ⟨#[]⟩, .string ⟨#[]⟩, .int .i64 0, .int .i64 0] 27)) 1
  have HM : BlkH W.heap.size ((W.alloc (.cells #[.int .i64 sk, .string snm, .string sop, .string sv, .int .i64 sn, .int .i64 su, .bool true, .int .u8 (K : Int), .int .i64 N] 29)).alloc (.cells #[.int .i64 0, .string ⟨#[]⟩, .string ⟨#[]⟩, .string ⟨#[]⟩, .int .i64 0, .int .i64 0] 27)).drew (W.heap.size + 1) 27 #[.int .i64 0, .string ⟨#[]⟩, .string ⟨#[]⟩, .string ⟨#[]⟩, .int .i64 0, .int .i64 0] := ⟨blk_next W _ _ _, by omega⟩
  clear hx
  go_enter Tryz.func9, Tryz.ntmps9
  go_wp2
  refine wp_region_held_drew (S := fun w' => True) (by kernel_rfl) trivial (fun hS => ?_)
  obtain ⟨w0, hw0⟩ : ∃ z, ((W.alloc (.cells #[.int .i64 sk, .string snm, .string sop, .string sv, .int .i64 sn, .int .i64 su, .bool true, .int .u8 (K : Int), .int .i64 N] 29)).alloc (.cells #[.int .i64 0, .string ⟨#[]⟩, .string ⟨#[]⟩, .string ⟨#[]⟩, .int .i64 0, .int .i64 0] 27)).drew = z := ⟨_, rfl⟩
  rw [hw0] at HB0 HM ⊢
  clear hw0
  refine takeH 1 pb1 hS ?_
  try simp only [Act.put, pz1, pz2, pz3]
  refine takeH 2 pb2 hS ?_
  try simp only [Act.put, pz1, pz2, pz3]
  refine takeH 6 pb6 hS ?_
  try simp only [Act.put, pz1, pz2, pz3]
  refine takeH 7 pb7 hS ?_
  try simp only [Act.put, pz1, pz2, pz3]
  refine takeH 8 pb8 hS ?_
  try simp only [Act.put, pz1, pz2, pz3]
  refine takeH 11 pb11 hS ?_
  try simp only [Act.put, pz1, pz2, pz3]
  refine takeH 12 pb12 hS ?_
  try simp only [Act.put, pz1, pz2, pz3]
  refine wpAnyH_ready (rs := [0, 5, 13]) (by kernel_rfl) (by simp) ?_
  refine AllReadyH.cons (o := pb0) rfl (fun K hK => ?_) ?_
  ·
    go_simp
    have hb3 : Below w0.heap.size w0 (w0.alloc (.cells #[.string ⟨#[97, 112, 112]⟩, .string ⟨#[108, 118, 108]⟩, .string ⟨#[110]⟩] 9)) := (Below.refl _ _).alloc (Nat.le_refl _) _
    obtain ⟨g0, hg0⟩ : ∃ g, w0.heap.size = g := ⟨_, rfl⟩
    have n0_ := tlit w0 nms3 g0 hg0.symm i hi
    rw [hy] at n0_
    (try simp only [nms3, List.map_cons, List.map_nil] at n0_)
    have lg0 : W.heap.size + 1 < g0 := by rw [← hg0]; exact HM.lt
    obtain ⟨d1, hwc⟩ : ∃ z, w0.alloc (.cells #[.string ⟨#[97, 112, 112]⟩, .string ⟨#[108, 118, 108]⟩, .string ⟨#[110]⟩] 9) = z := ⟨_, rfl⟩
    rw [hwc] at hb3 n0_
    rw [hwc, hg0]
    clear hwc hg0
    have hSn : (fun w' => True) d1 := trivial
    refine hK.out _ _ hSn (fun _ => ?_)
    clear hK K
    try simp only [Act.put, pz1, pz2, pz3]
    have HB0_ := hop HB0 (Nat.le_refl _) hb3
    clear HB0
    have HB0 := HB0_
    clear HB0_
    have HM_ := HM.below_ hb3
    clear HM
    have HM := HM_
    clear HM_
    refine wpAnyH_grow (S' := fun w' => w'.cell? ⟨g0, i, none⟩ = some (.string y) ∧ True) (fun _ h => h.2) ?_
    have hSm : (fun w' => w'.cell? ⟨g0, i, none⟩ = some (.string y) ∧ True) d1 := ⟨n0_, hSn⟩
    clear hS hSn hb3 n0_
    have hS := hSm
    clear hSm
    refine takeH 3 pb3 hS ?_
    try simp only [Act.put, pz1, pz2, pz3]
    refine takeH 4 pb4 hS ?_
    try simp only [Act.put, pz1, pz2, pz3]
    refine wpAnyH_ready (rs := [5, 13]) (by kernel_rfl) (by simp) ?_
    refine AllReadyH.cons (o := pb5) rfl (fun K hK => ?_) ?_
    ·
      go_simp
      have hb3 : Below d1.heap.size d1 (d1.alloc (.cells #[.string ⟨#[61]⟩, .string ⟨#[33, 61]⟩, .string ⟨#[61, 126]⟩, .string ⟨#[33, 126]⟩] 9)) := (Below.refl _ _).alloc (Nat.le_refl _) _
      obtain ⟨g5, hg5⟩ : ∃ g, d1.heap.size = g := ⟨_, rfl⟩
      have n0_ := tlit d1 ops8 g5 hg5.symm j hj
      rw [hz] at n0_
      (try simp only [ops8, List.map_cons, List.map_nil] at n0_)
      have lg5 : W.heap.size + 1 < g5 := by rw [← hg5]; exact HM.lt
      obtain ⟨d2, hwc⟩ : ∃ z, d1.alloc (.cells #[.string ⟨#[61]⟩, .string ⟨#[33, 61]⟩, .string ⟨#[61, 126]⟩, .string ⟨#[33, 126]⟩] 9) = z := ⟨_, rfl⟩
      rw [hwc] at hb3 n0_
      rw [hwc, hg5]
      clear hwc hg5
      have hSn : (fun w' => w'.cell? ⟨g0, i, none⟩ = some (.string y) ∧ True) d2 := ⟨cell_keep hb3 hS.1, trivial⟩
      refine hK.out _ _ hSn (fun _ => ?_)
      clear hK K
      try simp only [Act.put, pz1, pz2, pz3]
      have HB0_ := hop HB0 (Nat.le_refl _) hb3
      clear HB0
      have HB0 := HB0_
      clear HB0_
      have HM_ := HM.below_ hb3
      clear HM
      have HM := HM_
      clear HM_
      refine wpAnyH_grow (S' := fun w' => w'.cell? ⟨g5, j, none⟩ = some (.string z) ∧ w'.cell? ⟨g0, i, none⟩ = some (.string y) ∧ True) (fun _ h => h.2) ?_
      have hSm : (fun w' => w'.cell? ⟨g5, j, none⟩ = some (.string z) ∧ w'.cell? ⟨g0, i, none⟩ = some (.string y) ∧ True) d2 := ⟨n0_, hSn⟩
      clear hS hSn hb3 n0_
      have hS := hSm
      clear hSm
      refine takeH 9 pb9 hS ?_
      try simp only [Act.put, pz1, pz2, pz3]
      refine takeH 10 pb10 hS ?_
      try simp only [Act.put, pz1, pz2, pz3]
      refine wpAnyH_ready (rs := [13]) (by kernel_rfl) (by simp) ?_
      refine AllReadyH.cons (o := pb13) rfl (fun K hK => ?_) AllReadyH.nil
      go_simp
      go_at_call 18
      refine (VA.out d2).mono ?_
      rintro _ d3 ⟨rfl, hb3⟩
      have hSn : (fun w' => w'.cell? ⟨g5, j, none⟩ = some (.string z) ∧ w'.cell? ⟨g0, i, none⟩ = some (.string y) ∧ True) d3 := ⟨cell_keep hb3 hS.1, cell_keep hb3 hS.2.1, trivial⟩
      refine hK.out _ _ hSn (fun _ => ?_)
      clear hK K
      try simp only [Act.put, pz1, pz2, pz3]
      have HB0_ := hop HB0 (Nat.le_refl _) hb3
      clear HB0
      have HB0 := HB0_
      clear HB0_
      have HM_ := HM.below_ hb3
      clear HM
      have HM := HM_
      clear HM_
      clear hS hb3
      have hS := hSn
      clear hSn
      refine takeH 14 pb14 hS ?_
      try simp only [Act.put, pz1, pz2, pz3]
      refine wpAnyH_ready (rs := [15]) (by kernel_rfl) (by simp) ?_
      refine AllReadyH.cons (o := pb15) rfl (fun K hK => ?_) AllReadyH.nil
      have m0_ := HM.1.cell 0
      have f0_ := HM.1.frozen 0
      have m1_ := HM.1.cell 1
      have f1_ := HM.1.frozen 1
      have m2_ := HM.1.cell 2
      have f2_ := HM.1.frozen 2
      have m3_ := HM.1.cell 3
      have f3_ := HM.1.frozen 3
      have m4_ := HM.1.cell 4
      have f4_ := HM.1.frozen 4
      have m5_ := HM.1.cell 5
      have f5_ := HM.1.frozen 5
      go_simp
      have hSn : (fun w' => w'.cell? ⟨g5, j, none⟩ = some (.string z) ∧ w'.cell? ⟨g0, i, none⟩ = some (.string y) ∧ True) ((((((d3.setCell ⟨W.heap.size + 1, 0, none⟩ (.int .i64 3)).setCell ⟨W.heap.size + 1, 1, none⟩ (.string y)).setCell ⟨W.heap.size + 1, 2, none⟩ (.string z)).setCell ⟨W.heap.size + 1, 3, none⟩ (.string x)).setCell ⟨W.heap.size + 1, 4, none⟩ (.int .i64 0)).setCell ⟨W.heap.size + 1, 5, none⟩ (.int .i64 0)) := ⟨(cell_far (cell_far (cell_far (cell_far (cell_far (cell_far hS.1 (p := ⟨W.heap.size + 1, 0, none⟩) (by show W.heap.size + 1 ≠ g5; omega)) (p := ⟨W.heap.size + 1, 1, none⟩) (by show W.heap.size + 1 ≠ g5; omega)) (p := ⟨W.heap.size + 1, 2, none⟩) (by show W.heap.size + 1 ≠ g5; omega)) (p := ⟨W.heap.size + 1, 3, none⟩) (by show W.heap.size + 1 ≠ g5; omega)) (p := ⟨W.heap.size + 1, 4, none⟩) (by show W.heap.size + 1 ≠ g5; omega)) (p := ⟨W.heap.size + 1, 5, none⟩) (by show W.heap.size + 1 ≠ g5; omega)), (cell_far (cell_far (cell_far (cell_far (cell_far (cell_far hS.2.1 (p := ⟨W.heap.size + 1, 0, none⟩) (by show W.heap.size + 1 ≠ g0; omega)) (p := ⟨W.heap.size + 1, 1, none⟩) (by show W.heap.size + 1 ≠ g0; omega)) (p := ⟨W.heap.size + 1, 2, none⟩) (by show W.heap.size + 1 ≠ g0; omega)) (p := ⟨W.heap.size + 1, 3, none⟩) (by show W.heap.size + 1 ≠ g0; omega)) (p := ⟨W.heap.size + 1, 4, none⟩) (by show W.heap.size + 1 ≠ g0; omega)) (p := ⟨W.heap.size + 1, 5, none⟩) (by show W.heap.size + 1 ≠ g0; omega)), trivial⟩
      have HMn := ((((((HM.1.set_ 0 (.int .i64 3)).set_ 1 (.string y)).set_ 2 (.string z)).set_ 3 (.string x)).set_ 4 (.int .i64 0)).set_ 5 (.int .i64 0))
      have HBn := ((((((HB0.setCell (p := ⟨W.heap.size + 1, 0, none⟩) HM.2 (.int .i64 3)).setCell (p := ⟨W.heap.size + 1, 1, none⟩) HM.2 (.string y)).setCell (p := ⟨W.heap.size + 1, 2, none⟩) HM.2 (.string z)).setCell (p := ⟨W.heap.size + 1, 3, none⟩) HM.2 (.string x)).setCell (p := ⟨W.heap.size + 1, 4, none⟩) HM.2 (.int .i64 0)).setCell (p := ⟨W.heap.size + 1, 5, none⟩) HM.2 (.int .i64 0))
      refine hK.out _ _ hSn (fun _ => ?_)
      clear hK K
      try simp only [Act.put, pz1, pz2, pz3]
      refine wpAnyH_done (by kernel_rfl) ?_ _
      go_wp2
      refine bodyPost_ret (results_cell_row rfl _ _ (W.heap.size + 1) 27 #[.int .i64 3, .string y, .string z, .string x, .int .i64 0, .int .i64 0] (0, 0) _ rfl HMn Tryz.underlying27 rfl (by kernel_rfl)) rfl ?_
      exact ⟨rfl, HBn⟩
    refine AllReadyH.cons (o := pb13) rfl (fun K hK => ?_) AllReadyH.nil
    ·
      go_simp
      go_at_call 18
      refine (VA.out d1).mono ?_
      rintro _ d5 ⟨rfl, hb3⟩
      have hSn : (fun w' => w'.cell? ⟨g0, i, none⟩ = some (.string y) ∧ True) d5 := ⟨cell_keep hb3 hS.1, trivial⟩
      refine hK.out _ _ hSn (fun _ => ?_)
      clear hK K
      try simp only [Act.put, pz1, pz2, pz3]
      have HB0_ := hop HB0 (Nat.le_refl _) hb3
      clear HB0
      have HB0 := HB0_
      clear HB0_
      have HM_ := HM.below_ hb3
      clear HM
      have HM := HM_
      clear HM_
      clear hS hb3
      have hS := hSn
      clear hSn
      refine wpAnyH_ready (rs := [5]) (by kernel_rfl) (by simp) ?_
      refine AllReadyH.cons (o := pb5) rfl (fun K hK => ?_) AllReadyH.nil
      go_simp
      have hb3 : Below d5.heap.size d5 (d5.alloc (.cells #[.string ⟨#[61]⟩, .string ⟨#[33, 61]⟩, .string ⟨#[61, 126]⟩, .string ⟨#[33, 126]⟩] 9)) := (Below.refl _ _).alloc (Nat.le_refl _) _
      obtain ⟨g5, hg5⟩ : ∃ g, d5.heap.size = g := ⟨_, rfl⟩
      have n0_ := tlit d5 ops8 g5 hg5.symm j hj
      rw [hz] at n0_
      (try simp only [ops8, List.map_cons, List.map_nil] at n0_)
      have lg5 : W.heap.size + 1 < g5 := by rw [← hg5]; exact HM.lt
      obtain ⟨d6, hwc⟩ : ∃ z, d5.alloc (.cells #[.string ⟨#[61]⟩, .string ⟨#[33, 61]⟩, .string ⟨#[61, 126]⟩, .string ⟨#[33, 126]⟩] 9) = z := ⟨_, rfl⟩
      rw [hwc] at hb3 n0_
      rw [hwc, hg5]
      clear hwc hg5
      have hSn : (fun w' => w'.cell? ⟨g0, i, none⟩ = some (.string y) ∧ True) d6 := ⟨cell_keep hb3 hS.1, trivial⟩
      refine hK.out _ _ hSn (fun _ => ?_)
      clear hK K
      try simp only [Act.put, pz1, pz2, pz3]
      have HB0_ := hop HB0 (Nat.le_refl _) hb3
      clear HB0
      have HB0 := HB0_
      clear HB0_
      have HM_ := HM.below_ hb3
      clear HM
      have HM := HM_
      clear HM_
      refine wpAnyH_grow (S' := fun w' => w'.cell? ⟨g5, j, none⟩ = some (.string z) ∧ w'.cell? ⟨g0, i, none⟩ = some (.string y) ∧ True) (fun _ h => h.2) ?_
      have hSm : (fun w' => w'.cell? ⟨g5, j, none⟩ = some (.string z) ∧ w'.cell? ⟨g0, i, none⟩ = some (.string y) ∧ True) d6 := ⟨n0_, hSn⟩
      clear hS hSn hb3 n0_
      have hS := hSm
      clear hSm
      refine takeH 9 pb9 hS ?_
      try simp only [Act.put, pz1, pz2, pz3]
      refine takeH 10 pb10 hS ?_
      try simp only [Act.put, pz1, pz2, pz3]
      refine takeH 14 pb14 hS ?_
      try simp only [Act.put, pz1, pz2, pz3]
      refine wpAnyH_ready (rs := [15]) (by kernel_rfl) (by simp) ?_
      refine AllReadyH.cons (o := pb15) rfl (fun K hK => ?_) AllReadyH.nil
      have m0_ := HM.1.cell 0
      have f0_ := HM.1.frozen 0
      have m1_ := HM.1.cell 1
      have f1_ := HM.1.frozen 1
      have m2_ := HM.1.cell 2
      have f2_ := HM.1.frozen 2
      have m3_ := HM.1.cell 3
      have f3_ := HM.1.frozen 3
      have m4_ := HM.1.cell 4
      have f4_ := HM.1.frozen 4
      have m5_ := HM.1.cell 5
      have f5_ := HM.1.frozen 5
      go_simp
      have hSn : (fun w' => w'.cell? ⟨g5, j, none⟩ = some (.string z) ∧ w'.cell? ⟨g0, i, none⟩ = some (.string y) ∧ True) ((((((d6.setCell ⟨W.heap.size + 1, 0, none⟩ (.int .i64 3)).setCell ⟨W.heap.size + 1, 1, none⟩ (.string y)).setCell ⟨W.heap.size + 1, 2, none⟩ (.string z)).setCell ⟨W.heap.size + 1, 3, none⟩ (.string x)).setCell ⟨W.heap.size + 1, 4, none⟩ (.int .i64 0)).setCell ⟨W.heap.size + 1, 5, none⟩ (.int .i64 0)) := ⟨(cell_far (cell_far (cell_far (cell_far (cell_far (cell_far hS.1 (p := ⟨W.heap.size + 1, 0, none⟩) (by show W.heap.size + 1 ≠ g5; omega)) (p := ⟨W.heap.size + 1, 1, none⟩) (by show W.heap.size + 1 ≠ g5; omega)) (p := ⟨W.heap.size + 1, 2, none⟩) (by show W.heap.size + 1 ≠ g5; omega)) (p := ⟨W.heap.size + 1, 3, none⟩) (by show W.heap.size + 1 ≠ g5; omega)) (p := ⟨W.heap.size + 1, 4, none⟩) (by show W.heap.size + 1 ≠ g5; omega)) (p := ⟨W.heap.size + 1, 5, none⟩) (by show W.heap.size + 1 ≠ g5; omega)), (cell_far (cell_far (cell_far (cell_far (cell_far (cell_far hS.2.1 (p := ⟨W.heap.size + 1, 0, none⟩) (by show W.heap.size + 1 ≠ g0; omega)) (p := ⟨W.heap.size + 1, 1, none⟩) (by show W.heap.size + 1 ≠ g0; omega)) (p := ⟨W.heap.size + 1, 2, none⟩) (by show W.heap.size + 1 ≠ g0; omega)) (p := ⟨W.heap.size + 1, 3, none⟩) (by show W.heap.size + 1 ≠ g0; omega)) (p := ⟨W.heap.size + 1, 4, none⟩) (by show W.heap.size + 1 ≠ g0; omega)) (p := ⟨W.heap.size + 1, 5, none⟩) (by show W.heap.size + 1 ≠ g0; omega)), trivial⟩
      have HMn := ((((((HM.1.set_ 0 (.int .i64 3)).set_ 1 (.string y)).set_ 2 (.string z)).set_ 3 (.string x)).set_ 4 (.int .i64 0)).set_ 5 (.int .i64 0))
      have HBn := ((((((HB0.setCell (p := ⟨W.heap.size + 1, 0, none⟩) HM.2 (.int .i64 3)).setCell (p := ⟨W.heap.size + 1, 1, none⟩) HM.2 (.string y)).setCell (p := ⟨W.heap.size + 1, 2, none⟩) HM.2 (.string z)).setCell (p := ⟨W.heap.size + 1, 3, none⟩) HM.2 (.string x)).setCell (p := ⟨W.heap.size + 1, 4, none⟩) HM.2 (.int .i64 0)).setCell (p := ⟨W.heap.size + 1, 5, none⟩) HM.2 (.int .i64 0))
      refine hK.out _ _ hSn (fun _ => ?_)
      clear hK K
      try simp only [Act.put, pz1, pz2, pz3]
      refine wpAnyH_done (by kernel_rfl) ?_ _
      go_wp2
      refine bodyPost_ret (results_cell_row rfl _ _ (W.heap.size + 1) 27 #[.int .i64 3, .string y, .string z, .string x, .int .i64 0, .int .i64 0] (0, 0) _ rfl HMn Tryz.underlying27 rfl (by kernel_rfl)) rfl ?_
      exact ⟨rfl, HBn⟩
  refine AllReadyH.cons (o := pb5) rfl (fun K hK => ?_) ?_
  ·
    go_simp
    have hb3 : Below w0.heap.size w0 (w0.alloc (.cells #[.string ⟨#[61]⟩, .string ⟨#[33, 61]⟩, .string ⟨#[61, 126]⟩, .string ⟨#[33, 126]⟩] 9)) := (Below.refl _ _).alloc (Nat.le_refl _) _
    obtain ⟨g5, hg5⟩ : ∃ g, w0.heap.size = g := ⟨_, rfl⟩
    have n0_ := tlit w0 ops8 g5 hg5.symm j hj
    rw [hz] at n0_
    (try simp only [ops8, List.map_cons, List.map_nil] at n0_)
    have lg5 : W.heap.size + 1 < g5 := by rw [← hg5]; exact HM.lt
    obtain ⟨d8, hwc⟩ : ∃ z, w0.alloc (.cells #[.string ⟨#[61]⟩, .string ⟨#[33, 61]⟩, .string ⟨#[61, 126]⟩, .string ⟨#[33, 126]⟩] 9) = z := ⟨_, rfl⟩
    rw [hwc] at hb3 n0_
    rw [hwc, hg5]
    clear hwc hg5
    have hSn : (fun w' => True) d8 := trivial
    refine hK.out _ _ hSn (fun _ => ?_)
    clear hK K
    try simp only [Act.put, pz1, pz2, pz3]
    have HB0_ := hop HB0 (Nat.le_refl _) hb3
    clear HB0
    have HB0 := HB0_
    clear HB0_
    have HM_ := HM.below_ hb3
    clear HM
    have HM := HM_
    clear HM_
    refine wpAnyH_grow (S' := fun w' => w'.cell? ⟨g5, j, none⟩ = some (.string z) ∧ True) (fun _ h => h.2) ?_
    have hSm : (fun w' => w'.cell? ⟨g5, j, none⟩ = some (.string z) ∧ True) d8 := ⟨n0_, hSn⟩
    clear hS hSn hb3 n0_
    have hS := hSm
    clear hSm
    refine takeH 9 pb9 hS ?_
    try simp only [Act.put, pz1, pz2, pz3]
    refine takeH 10 pb10 hS ?_
    try simp only [Act.put, pz1, pz2, pz3]
    refine wpAnyH_ready (rs := [0, 13]) (by kernel_rfl) (by simp) ?_
    refine AllReadyH.cons (o := pb0) rfl (fun K hK => ?_) ?_
    ·
      go_simp
      have hb3 : Below d8.heap.size d8 (d8.alloc (.cells #[.string ⟨#[97, 112, 112]⟩, .string ⟨#[108, 118, 108]⟩, .string ⟨#[110]⟩] 9)) := (Below.refl _ _).alloc (Nat.le_refl _) _
      obtain ⟨g0, hg0⟩ : ∃ g, d8.heap.size = g := ⟨_, rfl⟩
      have n0_ := tlit d8 nms3 g0 hg0.symm i hi
      rw [hy] at n0_
      (try simp only [nms3, List.map_cons, List.map_nil] at n0_)
      have lg0 : W.heap.size + 1 < g0 := by rw [← hg0]; exact HM.lt
      obtain ⟨d9, hwc⟩ : ∃ z, d8.alloc (.cells #[.string ⟨#[97, 112, 112]⟩, .string ⟨#[108, 118, 108]⟩, .string ⟨#[110]⟩] 9) = z := ⟨_, rfl⟩
      rw [hwc] at hb3 n0_
      rw [hwc, hg0]
      clear hwc hg0
      have hSn : (fun w' => w'.cell? ⟨g5, j, none⟩ = some (.string z) ∧ True) d9 := ⟨cell_keep hb3 hS.1, trivial⟩
      refine hK.out _ _ hSn (fun _ => ?_)
      clear hK K
      try simp only [Act.put, pz1, pz2, pz3]
      have HB0_ := hop HB0 (Nat.le_refl _) hb3
      clear HB0
      have HB0 := HB0_
      clear HB0_
      have HM_ := HM.below_ hb3
      clear HM
      have HM := HM_
      clear HM_
      refine wpAnyH_grow (S' := fun w' => w'.cell? ⟨g0, i, none⟩ = some (.string y) ∧ w'.cell? ⟨g5, j, none⟩ = some (.string z) ∧ True) (fun _ h => h.2) ?_
      have hSm : (fun w' => w'.cell? ⟨g0, i, none⟩ = some (.string y) ∧ w'.cell? ⟨g5, j, none⟩ = some (.string z) ∧ True) d9 := ⟨n0_, hSn⟩
      clear hS hSn hb3 n0_
      have hS := hSm
      clear hSm
      refine takeH 3 pb3 hS ?_
      try simp only [Act.put, pz1, pz2, pz3]
      refine takeH 4 pb4 hS ?_
      try simp only [Act.put, pz1, pz2, pz3]
      refine wpAnyH_ready (rs := [13]) (by kernel_rfl) (by simp) ?_
      refine AllReadyH.cons (o := pb13) rfl (fun K hK => ?_) AllReadyH.nil
      go_simp
      go_at_call 18
      refine (VA.out d9).mono ?_
      rintro _ d10 ⟨rfl, hb3⟩
      have hSn : (fun w' => w'.cell? ⟨g0, i, none⟩ = some (.string y) ∧ w'.cell? ⟨g5, j, none⟩ = some (.string z) ∧ True) d10 := ⟨cell_keep hb3 hS.1, cell_keep hb3 hS.2.1, trivial⟩
      refine hK.out _ _ hSn (fun _ => ?_)
      clear hK K
      try simp only [Act.put, pz1, pz2, pz3]
      have HB0_ := hop HB0 (Nat.le_refl _) hb3
      clear HB0
      have HB0 := HB0_
      clear HB0_
      have HM_ := HM.below_ hb3
      clear HM
      have HM := HM_
      clear HM_
      clear hS hb3
      have hS := hSn
      clear hSn
      refine takeH 14 pb14 hS ?_
      try simp only [Act.put, pz1, pz2, pz3]
      refine wpAnyH_ready (rs := [15]) (by kernel_rfl) (by simp) ?_
      refine AllReadyH.cons (o := pb15) rfl (fun K hK => ?_) AllReadyH.nil
      have m0_ := HM.1.cell 0
      have f0_ := HM.1.frozen 0
      have m1_ := HM.1.cell 1
      have f1_ := HM.1.frozen 1
      have m2_ := HM.1.cell 2
      have f2_ := HM.1.frozen 2
      have m3_ := HM.1.cell 3
      have f3_ := HM.1.frozen 3
      have m4_ := HM.1.cell 4
      have f4_ := HM.1.frozen 4
      have m5_ := HM.1.cell 5
      have f5_ := HM.1.frozen 5
      go_simp
      have hSn : (fun w' => w'.cell? ⟨g0, i, none⟩ = some (.string y) ∧ w'.cell? ⟨g5, j, none⟩ = some (.string z) ∧ True) ((((((d10.setCell ⟨W.heap.size + 1, 0, none⟩ (.int .i64 3)).setCell ⟨W.heap.size + 1, 1, none⟩ (.string y)).setCell ⟨W.heap.size + 1, 2, none⟩ (.string z)).setCell ⟨W.heap.size + 1, 3, none⟩ (.string x)).setCell ⟨W.heap.size + 1, 4, none⟩ (.int .i64 0)).setCell ⟨W.heap.size + 1, 5, none⟩ (.int .i64 0)) := ⟨(cell_far (cell_far (cell_far (cell_far (cell_far (cell_far hS.1 (p := ⟨W.heap.size + 1, 0, none⟩) (by show W.heap.size + 1 ≠ g0; omega)) (p := ⟨W.heap.size + 1, 1, none⟩) (by show W.heap.size + 1 ≠ g0; omega)) (p := ⟨W.heap.size + 1, 2, none⟩) (by show W.heap.size + 1 ≠ g0; omega)) (p := ⟨W.heap.size + 1, 3, none⟩) (by show W.heap.size + 1 ≠ g0; omega)) (p := ⟨W.heap.size + 1, 4, none⟩) (by show W.heap.size + 1 ≠ g0; omega)) (p := ⟨W.heap.size + 1, 5, none⟩) (by show W.heap.size + 1 ≠ g0; omega)), (cell_far (cell_far (cell_far (cell_far (cell_far (cell_far hS.2.1 (p := ⟨W.heap.size + 1, 0, none⟩) (by show W.heap.size + 1 ≠ g5; omega)) (p := ⟨W.heap.size + 1, 1, none⟩) (by show W.heap.size + 1 ≠ g5; omega)) (p := ⟨W.heap.size + 1, 2, none⟩) (by show W.heap.size + 1 ≠ g5; omega)) (p := ⟨W.heap.size + 1, 3, none⟩) (by show W.heap.size + 1 ≠ g5; omega)) (p := ⟨W.heap.size + 1, 4, none⟩) (by show W.heap.size + 1 ≠ g5; omega)) (p := ⟨W.heap.size + 1, 5, none⟩) (by show W.heap.size + 1 ≠ g5; omega)), trivial⟩
      have HMn := ((((((HM.1.set_ 0 (.int .i64 3)).set_ 1 (.string y)).set_ 2 (.string z)).set_ 3 (.string x)).set_ 4 (.int .i64 0)).set_ 5 (.int .i64 0))
      have HBn := ((((((HB0.setCell (p := ⟨W.heap.size + 1, 0, none⟩) HM.2 (.int .i64 3)).setCell (p := ⟨W.heap.size + 1, 1, none⟩) HM.2 (.string y)).setCell (p := ⟨W.heap.size + 1, 2, none⟩) HM.2 (.string z)).setCell (p := ⟨W.heap.size + 1, 3, none⟩) HM.2 (.string x)).setCell (p := ⟨W.heap.size + 1, 4, none⟩) HM.2 (.int .i64 0)).setCell (p := ⟨W.heap.size + 1, 5, none⟩) HM.2 (.int .i64 0))
      refine hK.out _ _ hSn (fun _ => ?_)
      clear hK K
      try simp only [Act.put, pz1, pz2, pz3]
      refine wpAnyH_done (by kernel_rfl) ?_ _
      go_wp2
      refine bodyPost_ret (results_cell_row rfl _ _ (W.heap.size + 1) 27 #[.int .i64 3, .string y, .string z, .string x, .int .i64 0, .int .i64 0] (0, 0) _ rfl HMn Tryz.underlying27 rfl (by kernel_rfl)) rfl ?_
      exact ⟨rfl, HBn⟩
    refine AllReadyH.cons (o := pb13) rfl (fun K hK => ?_) AllReadyH.nil
    ·
      go_simp
      go_at_call 18
      refine (VA.out d8).mono ?_
      rintro _ d12 ⟨rfl, hb3⟩
      have hSn : (fun w' => w'.cell? ⟨g5, j, none⟩ = some (.string z) ∧ True) d12 := ⟨cell_keep hb3 hS.1, trivial⟩
      refine hK.out _ _ hSn (fun _ => ?_)
      clear hK K
      try simp only [Act.put, pz1, pz2, pz3]
      have HB0_ := hop HB0 (Nat.le_refl _) hb3
      clear HB0
      have HB0 := HB0_
      clear HB0_
      have HM_ := HM.below_ hb3
      clear HM
      have HM := HM_
      clear HM_
      clear hS hb3
      have hS := hSn
      clear hSn
      refine wpAnyH_ready (rs := [0]) (by kernel_rfl) (by simp) ?_
      refine AllReadyH.cons (o := pb0) rfl (fun K hK => ?_) AllReadyH.nil
      go_simp
      have hb3 : Below d12.heap.size d12 (d12.alloc (.cells #[.string ⟨#[97, 112, 112]⟩, .string ⟨#[108, 118, 108]⟩, .string ⟨#[110]⟩] 9)) := (Below.refl _ _).alloc (Nat.le_refl _) _
      obtain ⟨g0, hg0⟩ : ∃ g, d12.heap.size = g := ⟨_, rfl⟩
      have n0_ := tlit d12 nms3 g0 hg0.symm i hi
      rw [hy] at n0_
      (try simp only [nms3, List.map_cons, List.map_nil] at n0_)
      have lg0 : W.heap.size + 1 < g0 := by rw [← hg0]; exact HM.lt
      obtain ⟨d13, hwc⟩ : ∃ z, d12.alloc (.cells #[.string ⟨#[97, 112, 112]⟩, .string ⟨#[108, 118, 108]⟩, .string ⟨#[110]⟩] 9) = z := ⟨_, rfl⟩
      rw [hwc] at hb3 n0_
      rw [hwc, hg0]
      clear hwc hg0
      have hSn : (fun w' => w'.cell? ⟨g5, j, none⟩ = some (.string z) ∧ True) d13 := ⟨cell_keep hb3 hS.1, trivial⟩
      refine hK.out _ _ hSn (fun _ => ?_)
      clear hK K
      try simp only [Act.put, pz1, pz2, pz3]
      have HB0_ := hop HB0 (Nat.le_refl _) hb3
      clear HB0
      have HB0 := HB0_
      clear HB0_
      have HM_ := HM.below_ hb3
      clear HM
      have HM := HM_
      clear HM_
      refine wpAnyH_grow (S' := fun w' => w'.cell? ⟨g0, i, none⟩ = some (.string y) ∧ w'.cell? ⟨g5, j, none⟩ = some (.string z) ∧ True) (fun _ h => h.2) ?_
      have hSm : (fun w' => w'.cell? ⟨g0, i, none⟩ = some (.string y) ∧ w'.cell? ⟨g5, j, none⟩ = some (.string z) ∧ True) d13 := ⟨n0_, hSn⟩
      clear hS hSn hb3 n0_
      have hS := hSm
      clear hSm
      refine takeH 3 pb3 hS ?_
      try simp only [Act.put, pz1, pz2, pz3]
      refine takeH 4 pb4 hS ?_
      try simp only [Act.put, pz1, pz2, pz3]
      refine takeH 14 pb14 hS ?_
      try simp only [Act.put, pz1, pz2, pz3]
      refine wpAnyH_ready (rs := [15]) (by kernel_rfl) (by simp) ?_
      refine AllReadyH.cons (o := pb15) rfl (fun K hK => ?_) AllReadyH.nil
      have m0_ := HM.1.cell 0
      have f0_ := HM.1.frozen 0
      have m1_ := HM.1.cell 1
      have f1_ := HM.1.frozen 1
      have m2_ := HM.1.cell 2
      have f2_ := HM.1.frozen 2
      have m3_ := HM.1.cell 3
      have f3_ := HM.1.frozen 3
      have m4_ := HM.1.cell 4
      have f4_ := HM.1.frozen 4
      have m5_ := HM.1.cell 5
      have f5_ := HM.1.frozen 5
      go_simp
      have hSn : (fun w' => w'.cell? ⟨g0, i, none⟩ = some (.string y) ∧ w'.cell? ⟨g5, j, none⟩ = some (.string z) ∧ True) ((((((d13.setCell ⟨W.heap.size + 1, 0, none⟩ (.int .i64 3)).setCell ⟨W.heap.size + 1, 1, none⟩ (.string y)).setCell ⟨W.heap.size + 1, 2, none⟩ (.string z)).setCell ⟨W.heap.size + 1, 3, none⟩ (.string x)).setCell ⟨W.heap.size + 1, 4, none⟩ (.int .i64 0)).setCell ⟨W.heap.size + 1, 5, none⟩ (.int .i64 0)) := ⟨(cell_far (cell_far (cell_far (cell_far (cell_far (cell_far hS.1 (p := ⟨W.heap.size + 1, 0, none⟩) (by show W.heap.size + 1 ≠ g0; omega)) (p := ⟨W.heap.size + 1, 1, none⟩) (by show W.heap.size + 1 ≠ g0; omega)) (p := ⟨W.heap.size + 1, 2, none⟩) (by show W.heap.size + 1 ≠ g0; omega)) (p := ⟨W.heap.size + 1, 3, none⟩) (by show W.heap.size + 1 ≠ g0; omega)) (p := ⟨W.heap.size + 1, 4, none⟩) (by show W.heap.size + 1 ≠ g0; omega)) (p := ⟨W.heap.size + 1, 5, none⟩) (by show W.heap.size + 1 ≠ g0; omega)), (cell_far (cell_far (cell_far (cell_far (cell_far (cell_far hS.2.1 (p := ⟨W.heap.size + 1, 0, none⟩) (by show W.heap.size + 1 ≠ g5; omega)) (p := ⟨W.heap.size + 1, 1, none⟩) (by show W.heap.size + 1 ≠ g5; omega)) (p := ⟨W.heap.size + 1, 2, none⟩) (by show W.heap.size + 1 ≠ g5; omega)) (p := ⟨W.heap.size + 1, 3, none⟩) (by show W.heap.size + 1 ≠ g5; omega)) (p := ⟨W.heap.size + 1, 4, none⟩) (by show W.heap.size + 1 ≠ g5; omega)) (p := ⟨W.heap.size + 1, 5, none⟩) (by show W.heap.size + 1 ≠ g5; omega)), trivial⟩
      have HMn := ((((((HM.1.set_ 0 (.int .i64 3)).set_ 1 (.string y)).set_ 2 (.string z)).set_ 3 (.string x)).set_ 4 (.int .i64 0)).set_ 5 (.int .i64 0))
      have HBn := ((((((HB0.setCell (p := ⟨W.heap.size + 1, 0, none⟩) HM.2 (.int .i64 3)).setCell (p := ⟨W.heap.size + 1, 1, none⟩) HM.2 (.string y)).setCell (p := ⟨W.heap.size + 1, 2, none⟩) HM.2 (.string z)).setCell (p := ⟨W.heap.size + 1, 3, none⟩) HM.2 (.string x)).setCell (p := ⟨W.heap.size + 1, 4, none⟩) HM.2 (.int .i64 0)).setCell (p := ⟨W.heap.size + 1, 5, none⟩) HM.2 (.int .i64 0))
      refine hK.out _ _ hSn (fun _ => ?_)
      clear hK K
      try simp only [Act.put, pz1, pz2, pz3]
      refine wpAnyH_done (by kernel_rfl) ?_ _
      go_wp2
      refine bodyPost_ret (results_cell_row rfl _ _ (W.heap.size + 1) 27 #[.int .i64 3, .string y, .string z, .string x, .int .i64 0, .int .i64 0] (0, 0) _ rfl HMn Tryz.underlying27 rfl (by kernel_rfl)) rfl ?_
      exact ⟨rfl, HBn⟩
  refine AllReadyH.cons (o := pb13) rfl (fun K hK => ?_) AllReadyH.nil
  ·
    go_simp
    go_at_call 18
    refine (VA.out w0).mono ?_
    rintro _ d15 ⟨rfl, hb3⟩
    have hSn : (fun w' => True) d15 := trivial
    refine hK.out _ _ hSn (fun _ => ?_)
    clear hK K
    try simp only [Act.put, pz1, pz2, pz3]
    have HB0_ := hop HB0 (Nat.le_refl _) hb3
    clear HB0
    have HB0 := HB0_
    clear HB0_
    have HM_ := HM.below_ hb3
    clear HM
    have HM := HM_
    clear HM_
    clear hS hb3
    have hS := hSn
    clear hSn
    refine wpAnyH_ready (rs := [0, 5]) (by kernel_rfl) (by simp) ?_
    refine AllReadyH.cons (o := pb0) rfl (fun K hK => ?_) ?_
    ·
      go_simp
      have hb3 : Below d15.heap.size d15 (d15.alloc (.cells #[.string ⟨#[97, 112, 112]⟩, .string ⟨#[108, 118, 108]⟩, .string ⟨#[110]⟩] 9)) := (Below.refl _ _).alloc (Nat.le_refl _) _
      obtain ⟨g0, hg0⟩ : ∃ g, d15.heap.size = g := ⟨_, rfl⟩
      have n0_ := tlit d15 nms3 g0 hg0.symm i hi
      rw [hy] at n0_
      (try simp only [nms3, List.map_cons, List.map_nil] at n0_)
      have lg0 : W.heap.size + 1 < g0 := by rw [← hg0]; exact HM.lt
      obtain ⟨d16, hwc⟩ : ∃ z, d15.alloc (.cells #[.string ⟨#[97, 112, 112]⟩, .string ⟨#[108, 118, 108]⟩, .string ⟨#[110]⟩] 9) = z := ⟨_, rfl⟩
      rw [hwc] at hb3 n0_
      rw [hwc, hg0]
      clear hwc hg0
      have hSn : (fun w' => True) d16 := trivial
      refine hK.out _ _ hSn (fun _ => ?_)
      clear hK K
      try simp only [Act.put, pz1, pz2, pz3]
      have HB0_ := hop HB0 (Nat.le_refl _) hb3
      clear HB0
      have HB0 := HB0_
      clear HB0_
      have HM_ := HM.below_ hb3
      clear HM
      have HM := HM_
      clear HM_
      refine wpAnyH_grow (S' := fun w' => w'.cell? ⟨g0, i, none⟩ = some (.string y) ∧ True) (fun _ h => h.2) ?_
      have hSm : (fun w' => w'.cell? ⟨g0, i, none⟩ = some (.string y) ∧ True) d16 := ⟨n0_, hSn⟩
      clear hS hSn hb3 n0_
      have hS := hSm
      clear hSm
      refine takeH 3 pb3 hS ?_
      try simp only [Act.put, pz1, pz2, pz3]
      refine takeH 4 pb4 hS ?_
      try simp only [Act.put, pz1, pz2, pz3]
      refine wpAnyH_ready (rs := [5]) (by kernel_rfl) (by simp) ?_
      refine AllReadyH.cons (o := pb5) rfl (fun K hK => ?_) AllReadyH.nil
      go_simp
      have hb3 : Below d16.heap.size d16 (d16.alloc (.cells #[.string ⟨#[61]⟩, .string ⟨#[33, 61]⟩, .string ⟨#[61, 126]⟩, .string ⟨#[33, 126]⟩] 9)) := (Below.refl _ _).alloc (Nat.le_refl _) _
      obtain ⟨g5, hg5⟩ : ∃ g, d16.heap.size = g := ⟨_, rfl⟩
      have n0_ := tlit d16 ops8 g5 hg5.symm j hj
      rw [hz] at n0_
      (try simp only [ops8, List.map_cons, List.map_nil] at n0_)
      have lg5 : W.heap.size + 1 < g5 := by rw [← hg5]; exact HM.lt
      obtain ⟨d17, hwc⟩ : ∃ z, d16.alloc (.cells #[.string ⟨#[61]⟩, .string ⟨#[33, 61]⟩, .string ⟨#[61, 126]⟩, .string ⟨#[33, 126]⟩] 9) = z := ⟨_, rfl⟩
      rw [hwc] at hb3 n0_
      rw [hwc, hg5]
      clear hwc hg5
      have hSn : (fun w' => w'.cell? ⟨g0, i, none⟩ = some (.string y) ∧ True) d17 := ⟨cell_keep hb3 hS.1, trivial⟩
      refine hK.out _ _ hSn (fun _ => ?_)
      clear hK K
      try simp only [Act.put, pz1, pz2, pz3]
      have HB0_ := hop HB0 (Nat.le_refl _) hb3
      clear HB0
      have HB0 := HB0_
      clear HB0_
      have HM_ := HM.below_ hb3
      clear HM
      have HM := HM_
      clear HM_
      refine wpAnyH_grow (S' := fun w' => w'.cell? ⟨g5, j, none⟩ = some (.string z) ∧ w'.cell? ⟨g0, i, none⟩ = some (.string y) ∧ True) (fun _ h => h.2) ?_
      have hSm : (fun w' => w'.cell? ⟨g5, j, none⟩ = some (.string z) ∧ w'.cell? ⟨g0, i, none⟩ = some (.string y) ∧ True) d17 := ⟨n0_, hSn⟩
      clear hS hSn hb3 n0_
      have hS := hSm
      clear hSm
      refine takeH 9 pb9 hS ?_
      try simp only [Act.put, pz1, pz2, pz3]
      refine takeH 10 pb10 hS ?_
      try simp only [Act.put, pz1, pz2, pz3]
      refine takeH 14 pb14 hS ?_
      try simp only [Act.put, pz1, pz2, pz3]
      refine wpAnyH_ready (rs := [15]) (by kernel_rfl) (by simp) ?_
      refine AllReadyH.cons (o := pb15) rfl (fun K hK => ?_) AllReadyH.nil
      have m0_ := HM.1.cell 0
      have f0_ := HM.1.frozen 0
      have m1_ := HM.1.cell 1
      have f1_ := HM.1.frozen 1
      have m2_ := HM.1.cell 2
      have f2_ := HM.1.frozen 2
      have m3_ := HM.1.cell 3
      have f3_ := HM.1.frozen 3
      have m4_ := HM.1.cell 4
      have f4_ := HM.1.frozen 4
      have m5_ := HM.1.cell 5
      have f5_ := HM.1.frozen 5
      go_simp
      have hSn : (fun w' => w'.cell? ⟨g5, j, none⟩ = some (.string z) ∧ w'.cell? ⟨g0, i, none⟩ = some (.string y) ∧ True) ((((((d17.setCell ⟨W.heap.size + 1, 0, none⟩ (.int .i64 3)).setCell ⟨W.heap.size + 1, 1, none⟩ (.string y)).setCell ⟨W.heap.size + 1, 2, none⟩ (.string z)).setCell ⟨W.heap.size + 1, 3, none⟩ (.string x)).setCell ⟨W.heap.size + 1, 4, none⟩ (.int .i64 0)).setCell ⟨W.heap.size + 1, 5, none⟩ (.int .i64 0)) := ⟨(cell_far (cell_far (cell_far (cell_far (cell_far (cell_far hS.1 (p := ⟨W.heap.size + 1, 0, none⟩) (by show W.heap.size + 1 ≠ g5; omega)) (p := ⟨W.heap.size + 1, 1, none⟩) (by show W.heap.size + 1 ≠ g5; omega)) (p := ⟨W.heap.size + 1, 2, none⟩) (by show W.heap.size + 1 ≠ g5; omega)) (p := ⟨W.heap.size + 1, 3, none⟩) (by show W.heap.size + 1 ≠ g5; omega)) (p := ⟨W.heap.size + 1, 4, none⟩) (by show W.heap.size + 1 ≠ g5; omega)) (p := ⟨W.heap.size + 1, 5, none⟩) (by show W.heap.size + 1 ≠ g5; omega)), (cell_far (cell_far (cell_far (cell_far (cell_far (cell_far hS.2.1 (p := ⟨W.heap.size + 1, 0, none⟩) (by show W.heap.size + 1 ≠ g0; omega)) (p := ⟨W.heap.size + 1, 1, none⟩) (by show W.heap.size + 1 ≠ g0; omega)) (p := ⟨W.heap.size + 1, 2, none⟩) (by show W.heap.size + 1 ≠ g0; omega)) (p := ⟨W.heap.size + 1, 3, none⟩) (by show W.heap.size + 1 ≠ g0; omega)) (p := ⟨W.heap.size + 1, 4, none⟩) (by show W.heap.size + 1 ≠ g0; omega)) (p := ⟨W.heap.size + 1, 5, none⟩) (by show W.heap.size + 1 ≠ g0; omega)), trivial⟩
      have HMn := ((((((HM.1.set_ 0 (.int .i64 3)).set_ 1 (.string y)).set_ 2 (.string z)).set_ 3 (.string x)).set_ 4 (.int .i64 0)).set_ 5 (.int .i64 0))
      have HBn := ((((((HB0.setCell (p := ⟨W.heap.size + 1, 0, none⟩) HM.2 (.int .i64 3)).setCell (p := ⟨W.heap.size + 1, 1, none⟩) HM.2 (.string y)).setCell (p := ⟨W.heap.size + 1, 2, none⟩) HM.2 (.string z)).setCell (p := ⟨W.heap.size + 1, 3, none⟩) HM.2 (.string x)).setCell (p := ⟨W.heap.size + 1, 4, none⟩) HM.2 (.int .i64 0)).setCell (p := ⟨W.heap.size + 1, 5, none⟩) HM.2 (.int .i64 0))
      refine hK.out _ _ hSn (fun _ => ?_)
      clear hK K
      try simp only [Act.put, pz1, pz2, pz3]
      refine wpAnyH_done (by kernel_rfl) ?_ _
      go_wp2
      refine bodyPost_ret (results_cell_row rfl _ _ (W.heap.size + 1) 27 #[.int .i64 3, .string y, .string z, .string x, .int .i64 0, .int .i64 0] (0, 0) _ rfl HMn Tryz.underlying27 rfl (by kernel_rfl)) rfl ?_
      exact ⟨rfl, HBn⟩
    refine AllReadyH.cons (o := pb5) rfl (fun K hK => ?_) AllReadyH.nil
    ·
      go_simp
      have hb3 : Below d15.heap.size d15 (d15.alloc (.cells #[.string ⟨#[61]⟩, .string ⟨#[33, 61]⟩, .string ⟨#[61, 126]⟩, .string ⟨#[33, 126]⟩] 9)) := (Below.refl _ _).alloc (Nat.le_refl _) _
      obtain ⟨g5, hg5⟩ : ∃ g, d15.heap.size = g := ⟨_, rfl⟩
      have n0_ := tlit d15 ops8 g5 hg5.symm j hj
      rw [hz] at n0_
      (try simp only [ops8, List.map_cons, List.map_nil] at n0_)
      have lg5 : W.heap.size + 1 < g5 := by rw [← hg5]; exact HM.lt
      obtain ⟨d19, hwc⟩ : ∃ z, d15.alloc (.cells #[.string ⟨#[61]⟩, .string ⟨#[33, 61]⟩, .string ⟨#[61, 126]⟩, .string ⟨#[33, 126]⟩] 9) = z := ⟨_, rfl⟩
      rw [hwc] at hb3 n0_
      rw [hwc, hg5]
      clear hwc hg5
      have hSn : (fun w' => True) d19 := trivial
      refine hK.out _ _ hSn (fun _ => ?_)
      clear hK K
      try simp only [Act.put, pz1, pz2, pz3]
      have HB0_ := hop HB0 (Nat.le_refl _) hb3
      clear HB0
      have HB0 := HB0_
      clear HB0_
      have HM_ := HM.below_ hb3
      clear HM
      have HM := HM_
      clear HM_
      refine wpAnyH_grow (S' := fun w' => w'.cell? ⟨g5, j, none⟩ = some (.string z) ∧ True) (fun _ h => h.2) ?_
      have hSm : (fun w' => w'.cell? ⟨g5, j, none⟩ = some (.string z) ∧ True) d19 := ⟨n0_, hSn⟩
      clear hS hSn hb3 n0_
      have hS := hSm
      clear hSm
      refine takeH 9 pb9 hS ?_
      try simp only [Act.put, pz1, pz2, pz3]
      refine takeH 10 pb10 hS ?_
      try simp only [Act.put, pz1, pz2, pz3]
      refine wpAnyH_ready (rs := [0]) (by kernel_rfl) (by simp) ?_
      refine AllReadyH.cons (o := pb0) rfl (fun K hK => ?_) AllReadyH.nil
      go_simp
      have hb3 : Below d19.heap.size d19 (d19.alloc (.cells #[.string ⟨#[97, 112, 112]⟩, .string ⟨#[108, 118, 108]⟩, .string ⟨#[110]⟩] 9)) := (Below.refl _ _).alloc (Nat.le_refl _) _
      obtain ⟨g0, hg0⟩ : ∃ g, d19.heap.size = g := ⟨_, rfl⟩
      have n0_ := tlit d19 nms3 g0 hg0.symm i hi
      rw [hy] at n0_
      (try simp only [nms3, List.map_cons, List.map_nil] at n0_)
      have lg0 : W.heap.size + 1 < g0 := by rw [← hg0]; exact HM.lt
      obtain ⟨d20, hwc⟩ : ∃ z, d19.alloc (.cells #[.string ⟨#[97, 112, 112]⟩, .string ⟨#[108, 118, 108]⟩, .string ⟨#[110]⟩] 9) = z := ⟨_, rfl⟩
      rw [hwc] at hb3 n0_
      rw [hwc, hg0]
      clear hwc hg0
      have hSn : (fun w' => w'.cell? ⟨g5, j, none⟩ = some (.string z) ∧ True) d20 := ⟨cell_keep hb3 hS.1, trivial⟩
      refine hK.out _ _ hSn (fun _ => ?_)
      clear hK K
      try simp only [Act.put, pz1, pz2, pz3]
      have HB0_ := hop HB0 (Nat.le_refl _) hb3
      clear HB0
      have HB0 := HB0_
      clear HB0_
      have HM_ := HM.below_ hb3
      clear HM
      have HM := HM_
      clear HM_
      refine wpAnyH_grow (S' := fun w' => w'.cell? ⟨g0, i, none⟩ = some (.string y) ∧ w'.cell? ⟨g5, j, none⟩ = some (.string z) ∧ True) (fun _ h => h.2) ?_
      have hSm : (fun w' => w'.cell? ⟨g0, i, none⟩ = some (.string y) ∧ w'.cell? ⟨g5, j, none⟩ = some (.string z) ∧ True) d20 := ⟨n0_, hSn⟩
      clear hS hSn hb3 n0_
      have hS := hSm
      clear hSm
      refine takeH 3 pb3 hS ?_
      try simp only [Act.put, pz1, pz2, pz3]
      refine takeH 4 pb4 hS ?_
      try simp only [Act.put, pz1, pz2, pz3]
      refine takeH 14 pb14 hS ?_
      try simp only [Act.put, pz1, pz2, pz3]
      refine wpAnyH_ready (rs := [15]) (by kernel_rfl) (by simp) ?_
      refine AllReadyH.cons (o := pb15) rfl (fun K hK => ?_) AllReadyH.nil
      have m0_ := HM.1.cell 0
      have f0_ := HM.1.frozen 0
      have m1_ := HM.1.cell 1
      have f1_ := HM.1.frozen 1
      have m2_ := HM.1.cell 2
      have f2_ := HM.1.frozen 2
      have m3_ := HM.1.cell 3
      have f3_ := HM.1.frozen 3
      have m4_ := HM.1.cell 4
      have f4_ := HM.1.frozen 4
      have m5_ := HM.1.cell 5
      have f5_ := HM.1.frozen 5
      go_simp
      have hSn : (fun w' => w'.cell? ⟨g0, i, none⟩ = some (.string y) ∧ w'.cell? ⟨g5, j, none⟩ = some (.string z) ∧ True) ((((((d20.setCell ⟨W.heap.size + 1, 0, none⟩ (.int .i64 3)).setCell ⟨W.heap.size + 1, 1, none⟩ (.string y)).setCell ⟨W.heap.size + 1, 2, none⟩ (.string z)).setCell ⟨W.heap.size + 1, 3, none⟩ (.string x)).setCell ⟨W.heap.size + 1, 4, none⟩ (.int .i64 0)).setCell ⟨W.heap.size + 1, 5, none⟩ (.int .i64 0)) := ⟨(cell_far (cell_far (cell_far (cell_far (cell_far (cell_far hS.1 (p := ⟨W.heap.size + 1, 0, none⟩) (by show W.heap.size + 1 ≠ g0; omega)) (p := ⟨W.heap.size + 1, 1, none⟩) (by show W.heap.size + 1 ≠ g0; omega)) (p := ⟨W.heap.size + 1, 2, none⟩) (by show W.heap.size + 1 ≠ g0; omega)) (p := ⟨W.heap.size + 1, 3, none⟩) (by show W.heap.size + 1 ≠ g0; omega)) (p := ⟨W.heap.size + 1, 4, none⟩) (by show W.heap.size + 1 ≠ g0; omega)) (p := ⟨W.heap.size + 1, 5, none⟩) (by show W.heap.size + 1 ≠ g0; omega)), (cell_far (cell_far (cell_far (cell_far (cell_far (cell_far hS.2.1 (p := ⟨W.heap.size + 1, 0, none⟩) (by show W.heap.size + 1 ≠ g5; omega)) (p := ⟨W.heap.size + 1, 1, none⟩) (by show W.heap.size + 1 ≠ g5; omega)) (p := ⟨W.heap.size + 1, 2, none⟩) (by show W.heap.size + 1 ≠ g5; omega)) (p := ⟨W.heap.size + 1, 3, none⟩) (by show W.heap.size + 1 ≠ g5; omega)) (p := ⟨W.heap.size + 1, 4, none⟩) (by show W.heap.size + 1 ≠ g5; omega)) (p := ⟨W.heap.size + 1, 5, none⟩) (by show W.heap.size + 1 ≠ g5; omega)), trivial⟩
      have HMn := ((((((HM.1.set_ 0 (.int .i64 3)).set_ 1 (.string y)).set_ 2 (.string z)).set_ 3 (.string x)).set_ 4 (.int .i64 0)).set_ 5 (.int .i64 0))
      have HBn := ((((((HB0.setCell (p := ⟨W.heap.size + 1, 0, none⟩) HM.2 (.int .i64 3)).setCell (p := ⟨W.heap.size + 1, 1, none⟩) HM.2 (.string y)).setCell (p := ⟨W.heap.size + 1, 2, none⟩) HM.2 (.string z)).setCell (p := ⟨W.heap.size + 1, 3, none⟩) HM.2 (.string x)).setCell (p := ⟨W.heap.size + 1, 4, none⟩) HM.2 (.int .i64 0)).setCell (p := ⟨W.heap.size + 1, 5, none⟩) HM.2 (.int .i64 0))
      refine hK.out _ _ hSn (fun _ => ?_)
      clear hK K
      try simp only [Act.put, pz1, pz2, pz3]
      refine wpAnyH_done (by kernel_rfl) ?_ _
      go_wp2
      refine bodyPost_ret (results_cell_row rfl _ _ (W.heap.size + 1) 27 #[.int .i64 3, .string y, .string z, .string x, .int .i64 0, .int .i64 0] (0, 0) _ rfl HMn Tryz.underlying27 rfl (by kernel_rfl)) rfl ?_
      exact ⟨rfl, HBn⟩
abbrev pc0 : Oper := { dst := some 64, op := Go.Op.buildSlice 44 2 #[(0, Go.Operand.const (Go.Value.string { data := #[110] })), (1, Go.Operand.const (Go.Value.string { data := #[100, 117, 114] }))], type := 44, pos := "law.go:61", after := #[], guard := none }
abbrev pc1 : Oper := { dst := some 65, op := Go.Op.move (Go.Operand.tmp 3), type := 5, pos := "law.go:61", after := #[], guard := none }
abbrev pc2 : Oper := { dst := some 66, op := Go.Op.binOp Go.BinOp.rem 5 (Go.Operand.tmp 65) (Go.Operand.const (Go.Value.int Go.IntKind.u8 2)) 5, type := 5, pos := "law.go:61", after := #[{ on := 1, ground := Go.Ground.data }], guard := none }
abbrev pc3 : Oper := { dst := some 67, op := Go.Op.indexAddr 44 (Go.Operand.tmp 64) (Go.Operand.tmp 66), type := 0, pos := "law.go:61", after := #[{ on := 0, ground := Go.Ground.data }, { on := 2, ground := Go.Ground.data }], guard := none }
abbrev pc4 : Oper := { dst := some 68, op := Go.Op.load 9 (Go.Operand.tmp 67), type := 9, pos := "law.go:61", after := #[{ on := 3, ground := Go.Ground.data }], guard := none }
abbrev pc5 : Oper := { dst := some 69, op := Go.Op.buildSlice 44 6 #[(0, Go.Operand.const (Go.Value.string { data := #[61, 61] })), (1, Go.Operand.const (Go.Value.string { data := #[33, 61] })), (2, Go.Operand.const (Go.Value.string { data := #[62] })), (3, Go.Operand.const (Go.Value.string { data := #[62, 61] })), (4, Go.Operand.const (Go.Value.string { data := #[60] })), (5, Go.Operand.const (Go.Value.string { data := #[60, 61] }))], type := 44, pos := "law.go:61", after := #[], guard := none }
abbrev pc6 : Oper := { dst := some 70, op := Go.Op.move (Go.Operand.tmp 3), type := 5, pos := "law.go:61", after := #[], guard := none }
abbrev pc7 : Oper := { dst := some 71, op := Go.Op.binOp Go.BinOp.quo 5 (Go.Operand.tmp 70) (Go.Operand.const (Go.Value.int Go.IntKind.u8 2)) 5, type := 5, pos := "law.go:61", after := #[{ on := 6, ground := Go.Ground.data }], guard := none }
abbrev pc8 : Oper := { dst := some 72, op := Go.Op.binOp Go.BinOp.rem 5 (Go.Operand.tmp 71) (Go.Operand.const (Go.Value.int Go.IntKind.u8 6)) 5, type := 5, pos := "law.go:61", after := #[{ on := 7, ground := Go.Ground.data }], guard := none }
abbrev pc9 : Oper := { dst := some 73, op := Go.Op.indexAddr 44 (Go.Operand.tmp 69) (Go.Operand.tmp 72), type := 0, pos := "law.go:61", after := #[{ on := 5, ground := Go.Ground.data }, { on := 8, ground := Go.Ground.data }], guard := none }
abbrev pc10 : Oper := { dst := some 74, op := Go.Op.load 9 (Go.Operand.tmp 73), type := 9, pos := "law.go:61", after := #[{ on := 9, ground := Go.Ground.data }], guard := none }
abbrev pc11 : Oper := { dst := some 75, op := Go.Op.move (Go.Operand.tmp 4), type := 2, pos := "law.go:61", after := #[], guard := none }
abbrev pc12 : Oper := { dst := some 76, op := Go.Op.move (Go.Operand.tmp 3), type := 5, pos := "law.go:61", after := #[], guard := none }
abbrev pc13 : Oper := { dst := some 77, op := Go.Op.binOp Go.BinOp.quo 5 (Go.Operand.tmp 76) (Go.Operand.const (Go.Value.int Go.IntKind.u8 12)) 5, type := 5, pos := "law.go:61", after := #[{ on := 12, ground := Go.Ground.data }], guard := none }
abbrev pc14 : Oper := { dst := some 78, op := Go.Op.binOp Go.BinOp.rem 5 (Go.Operand.tmp 77) (Go.Operand.const (Go.Value.int Go.IntKind.u8 3)) 5, type := 5, pos := "law.go:61", after := #[{ on := 13, ground := Go.Ground.data }], guard := none }
abbrev pc15 : Oper := { dst := some 79, op := Go.Op.convert 5 3 (Go.Operand.tmp 78), type := 3, pos := "law.go:61", after := #[{ on := 14, ground := Go.Ground.data }], guard := none }
abbrev pc16 : Oper := { dst := some 80, op := Go.Op.build 27 #[(0, Go.Operand.const (Go.Value.int Go.IntKind.i64 4)), (1, Go.Operand.tmp 68), (2, Go.Operand.tmp 74), (4, Go.Operand.tmp 75), (5, Go.Operand.tmp 79)], type := 27, pos := "law.go:61", after := #[{ on := 4, ground := Go.Ground.data }, { on := 10, ground := Go.Ground.data }, { on := 11, ground := Go.Ground.data }, { on := 15, ground := Go.Ground.data }], guard := none }
abbrev pc17 : Oper := { dst := none, op := Go.Op.store 27 (Go.Operand.tmp 2) (Go.Operand.tmp 80), type := 0, pos := "law.go:61", after := #[{ on := 16, ground := Go.Ground.data }, { on := 0, ground := Go.Ground.phase }, { on := 1, ground := Go.Ground.phase }, { on := 2, ground := Go.Ground.phase }, { on := 3, ground := Go.Ground.phase }, { on := 4, ground := Go.Ground.phase }, { on := 5, ground := Go.Ground.phase }, { on := 6, ground := Go.Ground.phase }, { on := 7, ground := Go.Ground.phase }, { on := 8, ground := Go.Ground.phase }, { on := 9, ground := Go.Ground.phase }, { on := 10, ground := Go.Ground.phase }, { on := 11, ground := Go.Ground.phase }, { on := 12, ground := Go.Ground.phase }, { on := 13, ground := Go.Ground.phase }, { on := 14, ground := Go.Ground.phase }, { on := 15, ground := Go.Ground.phase }, { on := 16, ground := Go.Ground.phase }], guard := none }
end Go.Proofs.YtepokdmkdnlbfaaGreatDoor
