-- shaken
import Derived.Test.YtepokdmkdnlbfaaGreatDoorAstHalf
import Derived.Test.YtepokdmkdnlbfaaGreatDoorMem
namespace Go.Proofs.YtepokdmkdnlbfaaGreatDoor
open Go.RowKit
set_option linter.unusedVariables false
set_option linter.unusedSimpArgs false
def lops8 : List ByteArray := [⟨#[124, 61]⟩, ⟨#[33, 61]⟩, ⟨#[124, 126]⟩, ⟨#[33, 126]⟩]
def nms3 : List ByteArray := [⟨#[97, 112, 112]⟩, ⟨#[108, 118, 108]⟩, ⟨#[110]⟩]
def nms4 : List ByteArray := [⟨#[110]⟩, ⟨#[100, 117, 114]⟩]
def nops8 : List ByteArray := [⟨#[61, 61]⟩, ⟨#[33, 61]⟩, ⟨#[62]⟩, ⟨#[62, 61]⟩, ⟨#[60]⟩, ⟨#[60, 61]⟩]
theorem part_as (sk : Int) (snm sop sv : ByteArray) (sn su : Int) (K : Nat) (N : Int) (W : World) :
    Calls Tryz.prog 9 #[.agg #[.int .i64 sk, .string snm, .string sop, .string sv, .int .i64 sn, .int .i64 su, .bool false, .int .u8 (K : Int), .int .i64 N]] W fun r_ w' => r_ = .returned (.agg #[.int .i64 sk, .string snm, .string sop, .string sv, .int .i64 sn, .int .i64 su]) ∧ Below W.heap.size W w' := by
  go_enter Tryz.func9, Tryz.ntmps9
  go_wp2
  refine bodyPost_ret (results_cell_row rfl _ _ (W.heap.size + 1) 27 #[.int .i64 sk, .string snm, .string sop, .string sv, .int .i64 sn, .int .i64 su] (0, 0) _ rfl (blk_next W _ _ _) Tryz.underlying27 rfl (by kernel_rfl)) rfl ?_
  exact ⟨rfl, ((Below.refl _ _).alloc (Nat.le_refl _) _).alloc (by simp) _⟩
theorem part1_own (sk : Int) (snm sop sv : ByteArray) (sn su : Int) (K k : Nat) (N : Int) (hK : (K : Int).tmod 4 = 1) (hk : (K : Int) / 4 = (k : Int)) (wk : IntKind.u8.wrap (k : Int) = (k : Int)) (W : World) :
    Calls Tryz.prog 9 #[.agg #[.int .i64 sk, .string snm, .string sop, .string sv, .int .i64 sn, .int .i64 su, .bool true, .int .u8 (K : Int), .int .i64 N]] W fun r_ w' => r_ = .returned (.agg #[.int .i64 2, .string ⟨#[]⟩, .string ⟨#[]⟩, .string ⟨#[]⟩, .int .i64 0, .int .i64 0]) ∧ Below W.heap.size W w' := by
  go_enter Tryz.func9, Tryz.ntmps9
  go_wp2
  refine bodyPost_ret (results_cell_row rfl _ _ (W.heap.size + 1) 27 #[.int .i64 2, .string ⟨#[]⟩, .string ⟨#[]⟩, .string ⟨#[]⟩, .int .i64 0, .int .i64 0] (0, 0) _ rfl (blk_next W _ _ _) Tryz.underlying27 rfl (by kernel_rfl)) rfl ?_
  exact ⟨rfl, ((Below.refl _ _).alloc (Nat.le_refl _) _).alloc (by simp) _⟩
set_option maxRecDepth 100000 in
set_option maxHeartbeats 3200000 in
theorem part0_own (sk : Int) (snm sop sv : ByteArray) (sn su : Int) (K k e i : Nat) (N : Int) (hi : i < 4) (hK : (K : Int).tmod 4 = 0) (hk : (K : Int) / 4 = (k : Int)) (wk : IntKind.u8.wrap (k : Int) = (k : Int)) (hki : (k : Int).tmod 4 = (i : Int)) (he : (k : Int) / 4 = (e : Int)) (hwe : IntKind.u8.wrap (e : Int) = (e : Int)) (he2 : e < 256) (W : World) :
    Calls Tryz.prog 9 #[.agg #[.int .i64 sk, .string snm, .string sop, .string sv, .int .i64 sn, .int .i64 su, .bool true, .int .u8 (K : Int), .int .i64 N]] W fun r_ w' => r_ = .returned (.agg #[.int .i64 1, .string ⟨#[]⟩, .string (lops8.getD i .empty), .string (valA e), .int .i64 0, .int .i64 0]) ∧ Below W.heap.size W w' := by
  have iI : (i : Int) < 4 := by omega
  have hwi : IntKind.u8.wrap (i : Int) = (i : Int) := by rw [IntKind.wrap_u8]; omega
  have VA := Lib.hid (fun w => value8_let e he2 w)
  obtain ⟨y, hy⟩ : ∃ y, lops8.getD i .empty = y := ⟨_, rfl⟩
  obtain ⟨x, hx⟩ : ∃ y, valA e = y := ⟨_, rfl⟩
  rw [hx] at VA
  rw [hy, hx]
  have HB0 : Below W.heap.size W ((W.alloc (.cells #[.int .i64 sk, .string snm, .string sop, .string sv, .int .i64 sn, .int .i64 su, .bool true, .int .u8 (K : Int), .int .i64 N] 29)).alloc (.cells #[.int .i64 0, .string ⟨#[]⟩, .string ⟨#[]⟩, .string ⟨#[]⟩, .int .i64 0, .int .i64 0] 27)).drew := below_drewN (((Below.refl W.heap.size W).alloc (Nat.le_refl _) (.cells #[.int .i64 sk, .string snm, .string sop, .string sv, .int .i64 sn, .int .i64 su, .bool true, .int .u8 (K : Int), .int .i64 N] 29)).alloc (by simp) (.cells #[.int .i64 0, .string ⟨#[]⟩, .string ⟨#[]⟩, .string ⟨#[]⟩, .int .i64 0, .int .i64 0] 27)) 1
  have HM : BlkH W.heap.size ((W.alloc (.cells #[.int .i64 sk, .string snm, .string sop, .string sv, .int .i64 sn, .int .i64 su, .bool true, .int .u8 (K : Int), .int .i64 N] 29)).alloc (.cells #[.int .i64 0, .string ⟨#[]⟩, .string ⟨#[]⟩, .string ⟨#[]⟩, .int .i64 0, .int .i64 0] 27)).drew (W.heap.size + 1) 27 #[.int .i64 0, .string ⟨#[]⟩, .string ⟨#[]⟩, .string ⟨#[]⟩, .int .i64 0, .int .i64 0] := ⟨blk_next W _ _ _, by omega⟩
  clear hx
  go_enter Tryz.func9, Tryz.ntmps9
  go_wp2
  refine wp_region_held_drew (S := fun w' => True) (by kernel_rfl) trivial (fun hS => ?_)
  obtain ⟨w0, hw0⟩ : ∃ z, ((W.alloc (.cells #[.int .i64 sk, .string snm, .string sop, .string sv, .int .i64 sn, .int .i64 su, .bool true, .int .u8 (K : Int), .int .i64 N] 29)).alloc (.cells #[.int .i64 0, .string ⟨#[]⟩, .string ⟨#[]⟩, .string ⟨#[]⟩, .int .i64 0, .int .i64 0] 27)).drew = z := ⟨_, rfl⟩
  rw [hw0] at HB0 HM ⊢
  clear hw0
  refine tV 1 ?_; refine tV 2 ?_; refine tV 5 ?_; refine tV 6 ?_
  refine rdy [0, 7] ?_
  refine rdC (fun K hK => ?_) ?_
  ·
    go_simp
    have hb3 : Below w0.heap.size w0 (w0.alloc (.cells #[.string ⟨#[124, 61]⟩, .string ⟨#[33, 61]⟩, .string ⟨#[124, 126]⟩, .string ⟨#[33, 126]⟩] 9)) := (Below.refl _ _).alloc (Nat.le_refl _) _
    obtain ⟨g0, hg0⟩ : ∃ g, w0.heap.size = g := ⟨_, rfl⟩
    have n0_ := tlit w0 lops8 g0 hg0.symm i hi
    rw [hy] at n0_
    (try simp only [lops8, List.map_cons, List.map_nil] at n0_)
    have lg0 : W.heap.size + 1 < g0 := by rw [← hg0]; exact HM.lt
    obtain ⟨d1, hwc⟩ : ∃ z, w0.alloc (.cells #[.string ⟨#[124, 61]⟩, .string ⟨#[33, 61]⟩, .string ⟨#[124, 126]⟩, .string ⟨#[33, 126]⟩] 9) = z := ⟨_, rfl⟩
    rw [hwc] at hb3 n0_
    rw [hwc, hg0]
    clear hwc hg0
    have hSn : (fun w' => True) d1 := trivial
    refine hK.out _ _ hSn (fun _ => ?_)
    clear hK K
    try simp only [Act.put, pz1, pz2, pz3]
    have HB0_ := hop HB0 (Nat.le_refl _) hb3
    clear HB0
    have HB0 := HB0_
    clear HB0_
    have HM_ := HM.below_ hb3
    clear HM
    have HM := HM_
    clear HM_
    refine wpAnyH_grow (S' := fun w' => w'.cell? ⟨g0, i, none⟩ = some (.string y) ∧ True) (fun _ h => h.2) ?_
    have hSm : (fun w' => w'.cell? ⟨g0, i, none⟩ = some (.string y) ∧ True) d1 := ⟨n0_, hSn⟩
    clear hS hSn hb3 n0_
    have hS := hSm
    clear hSm
    refine tV 3 ?_; refine tH 4 ?_
    refine rdy [7] ?_
    refine rdC (fun K hK => ?_) AllReadyH.nil
    go_simp
    go_at_call 18
    refine (VA.out d1).mono ?_
    rintro _ d2 ⟨rfl, hb3⟩
    have hSn : (fun w' => w'.cell? ⟨g0, i, none⟩ = some (.string y) ∧ True) d2 := ⟨cell_keep hb3 hS.1, trivial⟩
    refine hK.out _ _ hSn (fun _ => ?_)
    clear hK K
    try simp only [Act.put, pz1, pz2, pz3]
    have HB0_ := hop HB0 (Nat.le_refl _) hb3
    clear HB0
    have HB0 := HB0_
    clear HB0_
    have HM_ := HM.below_ hb3
    clear HM
    have HM := HM_
    clear HM_
    clear hS hb3
    have hS := hSn
    clear hSn
    refine tV 8 ?_
    refine rdy [9] ?_
    refine rdC (fun K hK => ?_) AllReadyH.nil
    have m0_ := HM.1.cell 0
    have f0_ := HM.1.frozen 0
    have m1_ := HM.1.cell 1
    have f1_ := HM.1.frozen 1
    have m2_ := HM.1.cell 2
    have f2_ := HM.1.frozen 2
    have m3_ := HM.1.cell 3
    have f3_ := HM.1.frozen 3
    have m4_ := HM.1.cell 4
    have f4_ := HM.1.frozen 4
    have m5_ := HM.1.cell 5
    have f5_ := HM.1.frozen 5
    go_simp
    have hSn : (fun w' => w'.cell? ⟨g0, i, none⟩ = some (.string y) ∧ True) ((((((d2.setCell ⟨W.heap.size + 1, 0, none⟩ (.int .i64 1)).setCell ⟨W.heap.size + 1, 1, none⟩ (.string ⟨#[]⟩)).setCell ⟨W.heap.size + 1, 2, none⟩ (.string y)).setCell ⟨W.heap.size + 1, 3, none⟩ (.string x)).setCell ⟨W.heap.size + 1, 4, none⟩ (.int .i64 0)).setCell ⟨W.heap.size + 1, 5, none⟩ (.int .i64 0)) := ⟨(cell_far (cell_far (cell_far (cell_far (cell_far (cell_far hS.1 (p := ⟨W.heap.size + 1, 0, none⟩) (by show W.heap.size + 1 ≠ g0; omega)) (p := ⟨W.heap.size + 1, 1, none⟩) (by show W.heap.size + 1 ≠ g0; omega)) (p := ⟨W.heap.size + 1, 2, none⟩) (by show W.heap.size + 1 ≠ g0; omega)) (p := ⟨W.heap.size + 1, 3, none⟩) (by show W.heap.size + 1 ≠ g0; omega)) (p := ⟨W.heap.size + 1, 4, none⟩) (by show W.heap.size + 1 ≠ g0; omega)) (p := ⟨W.heap.size + 1, 5, none⟩) (by show W.heap.size + 1 ≠ g0; omega)), trivial⟩
    have HMn := ((((((HM.1.set_ 0 (.int .i64 1)).set_ 1 (.string ⟨#[]⟩)).set_ 2 (.string y)).set_ 3 (.string x)).set_ 4 (.int .i64 0)).set_ 5 (.int .i64 0))
    have HBn := ((((((HB0.setCell (p := ⟨W.heap.size + 1, 0, none⟩) HM.2 (.int .i64 1)).setCell (p := ⟨W.heap.size + 1, 1, none⟩) HM.2 (.string ⟨#[]⟩)).setCell (p := ⟨W.heap.size + 1, 2, none⟩) HM.2 (.string y)).setCell (p := ⟨W.heap.size + 1, 3, none⟩) HM.2 (.string x)).setCell (p := ⟨W.heap.size + 1, 4, none⟩) HM.2 (.int .i64 0)).setCell (p := ⟨W.heap.size + 1, 5, none⟩) HM.2 (.int .i64 0))
    refine hK.out _ _ hSn (fun _ => ?_)
    clear hK K
    try simp only [Act.put, pz1, pz2, pz3]
    refine wpAnyH_done (by kernel_rfl) ?_ _
    go_wp2
    refine bodyPost_ret (results_cell_row rfl _ _ (W.heap.size + 1) 27 #[.int .i64 1, .string ⟨#[]⟩, .string y, .string x, .int .i64 0, .int .i64 0] (0, 0) _ rfl HMn Tryz.underlying27 rfl (by kernel_rfl)) rfl ?_
    exact ⟨rfl, HBn⟩
  refine rdC (fun K hK => ?_) AllReadyH.nil
  ·
    go_simp
    go_at_call 18
    refine (VA.out w0).mono ?_
    rintro _ d4 ⟨rfl, hb3⟩
    have hSn : (fun w' => True) d4 := trivial
    refine hK.out _ _ hSn (fun _ => ?_)
    clear hK K
    try simp only [Act.put, pz1, pz2, pz3]
    have HB0_ := hop HB0 (Nat.le_refl _) hb3
    clear HB0
    have HB0 := HB0_
    clear HB0_
    have HM_ := HM.below_ hb3
    clear HM
    have HM := HM_
    clear HM_
    clear hS hb3
    have hS := hSn
    clear hSn
    refine rdy [0] ?_
    refine rdC (fun K hK => ?_) AllReadyH.nil
    go_simp
    have hb3 : Below d4.heap.size d4 (d4.alloc (.cells #[.string ⟨#[124, 61]⟩, .string ⟨#[33, 61]⟩, .string ⟨#[124, 126]⟩, .string ⟨#[33, 126]⟩] 9)) := (Below.refl _ _).alloc (Nat.le_refl _) _
    obtain ⟨g0, hg0⟩ : ∃ g, d4.heap.size = g := ⟨_, rfl⟩
    have n0_ := tlit d4 lops8 g0 hg0.symm i hi
    rw [hy] at n0_
    (try simp only [lops8, List.map_cons, List.map_nil] at n0_)
    have lg0 : W.heap.size + 1 < g0 := by rw [← hg0]; exact HM.lt
    obtain ⟨d5, hwc⟩ : ∃ z, d4.alloc (.cells #[.string ⟨#[124, 61]⟩, .string ⟨#[33, 61]⟩, .string ⟨#[124, 126]⟩, .string ⟨#[33, 126]⟩] 9) = z := ⟨_, rfl⟩
    rw [hwc] at hb3 n0_
    rw [hwc, hg0]
    clear hwc hg0
    have hSn : (fun w' => True) d5 := trivial
    refine hK.out _ _ hSn (fun _ => ?_)
    clear hK K
    try simp only [Act.put, pz1, pz2, pz3]
    have HB0_ := hop HB0 (Nat.le_refl _) hb3
    clear HB0
    have HB0 := HB0_
    clear HB0_
    have HM_ := HM.below_ hb3
    clear HM
    have HM := HM_
    clear HM_
    refine wpAnyH_grow (S' := fun w' => w'.cell? ⟨g0, i, none⟩ = some (.string y) ∧ True) (fun _ h => h.2) ?_
    have hSm : (fun w' => w'.cell? ⟨g0, i, none⟩ = some (.string y) ∧ True) d5 := ⟨n0_, hSn⟩
    clear hS hSn hb3 n0_
    have hS := hSm
    clear hSm
    refine tV 3 ?_; refine tH 4 ?_; refine tV 8 ?_
    refine rdy [9] ?_
    refine rdC (fun K hK => ?_) AllReadyH.nil
    have m0_ := HM.1.cell 0
    have f0_ := HM.1.frozen 0
    have m1_ := HM.1.cell 1
    have f1_ := HM.1.frozen 1
    have m2_ := HM.1.cell 2
    have f2_ := HM.1.frozen 2
    have m3_ := HM.1.cell 3
    have f3_ := HM.1.frozen 3
    have m4_ := HM.1.cell 4
    have f4_ := HM.1.frozen 4
    have m5_ := HM.1.cell 5
    have f5_ := HM.1.frozen 5
    go_simp
    have hSn : (fun w' => w'.cell? ⟨g0, i, none⟩ = some (.string y) ∧ True) ((((((d5.setCell ⟨W.heap.size + 1, 0, none⟩ (.int .i64 1)).setCell ⟨W.heap.size + 1, 1, none⟩ (.string ⟨#[]⟩)).setCell ⟨W.heap.size + 1, 2, none⟩ (.string y)).setCell ⟨W.heap.size + 1, 3, none⟩ (.string x)).setCell ⟨W.heap.size + 1, 4, none⟩ (.int .i64 0)).setCell ⟨W.heap.size + 1, 5, none⟩ (.int .i64 0)) := ⟨(cell_far (cell_far (cell_far (cell_far (cell_far (cell_far hS.1 (p := ⟨W.heap.size + 1, 0, none⟩) (by show W.heap.size + 1 ≠ g0; omega)) (p := ⟨W.heap.size + 1, 1, none⟩) (by show W.heap.size + 1 ≠ g0; omega)) (p := ⟨W.heap.size + 1, 2, none⟩) (by show W.heap.size + 1 ≠ g0; omega)) (p := ⟨W.heap.size + 1, 3, none⟩) (by show W.heap.size + 1 ≠ g0; omega)) (p := ⟨W.heap.size + 1, 4, none⟩) (by show W.heap.size + 1 ≠ g0; omega)) (p := ⟨W.heap.size + 1, 5, none⟩) (by show W.heap.size + 1 ≠ g0; omega)), trivial⟩
    have HMn := ((((((HM.1.set_ 0 (.int .i64 1)).set_ 1 (.string ⟨#[]⟩)).set_ 2 (.string y)).set_ 3 (.string x)).set_ 4 (.int .i64 0)).set_ 5 (.int .i64 0))
    have HBn := ((((((HB0.setCell (p := ⟨W.heap.size + 1, 0, none⟩) HM.2 (.int .i64 1)).setCell (p := ⟨W.heap.size + 1, 1, none⟩) HM.2 (.string ⟨#[]⟩)).setCell (p := ⟨W.heap.size + 1, 2, none⟩) HM.2 (.string y)).setCell (p := ⟨W.heap.size + 1, 3, none⟩) HM.2 (.string x)).setCell (p := ⟨W.heap.size + 1, 4, none⟩) HM.2 (.int .i64 0)).setCell (p := ⟨W.heap.size + 1, 5, none⟩) HM.2 (.int .i64 0))
    refine hK.out _ _ hSn (fun _ => ?_)
    clear hK K
    try simp only [Act.put, pz1, pz2, pz3]
    refine wpAnyH_done (by kernel_rfl) ?_ _
    go_wp2
    refine bodyPost_ret (results_cell_row rfl _ _ (W.heap.size + 1) 27 #[.int .i64 1, .string ⟨#[]⟩, .string y, .string x, .int .i64 0, .int .i64 0] (0, 0) _ rfl HMn Tryz.underlying27 rfl (by kernel_rfl)) rfl ?_
    exact ⟨rfl, HBn⟩
set_option maxRecDepth 100000 in
set_option maxHeartbeats 3200000 in
theorem part2_own (sk : Int) (snm sop sv : ByteArray) (sn su : Int) (K k q e i j : Nat) (N : Int) (hi : i < 3) (hj : j < 4) (hK : (K : Int).tmod 4 = 2) (hk : (K : Int) / 4 = (k : Int)) (wk : IntKind.u8.wrap (k : Int) = (k : Int)) (hki : (k : Int).tmod 3 = (i : Int)) (hq : (k : Int) / 3 = (q : Int)) (wq : IntKind.u8.wrap (q : Int) = (q : Int)) (hqj : (q : Int).tmod 4 = (j : Int)) (he : (k : Int) / 12 = (e : Int)) (hwe : IntKind.u8.wrap (e : Int) = (e : Int)) (he2 : e < 256) (W : World) :
    Calls Tryz.prog 9 #[.agg #[.int .i64 sk, .string snm, .string sop, .string sv, .int .i64 sn, .int .i64 su, .bool true, .int .u8 (K : Int), .int .i64 N]] W fun r_ w' => r_ = .returned (.agg #[.int .i64 3, .string (nms3.getD i .empty), .string (ops8.getD j .empty), .string (valA e), .int .i64 0, .int .i64 0]) ∧ Below W.heap.size W w' := by
  have iI : (i : Int) < 3 := by omega
  have hwi : IntKind.u8.wrap (i : Int) = (i : Int) := by rw [IntKind.wrap_u8]; omega
  have jI : (j : Int) < 4 := by omega
  have hwj : IntKind.u8.wrap (j : Int) = (j : Int) := by rw [IntKind.wrap_u8]; omega
  have VA := Lib.hid (fun w => value8_let e he2 w)
  obtain ⟨y, hy⟩ : ∃ y, nms3.getD i .empty = y := ⟨_, rfl⟩
  obtain ⟨z, hz⟩ : ∃ y, ops8.getD j .empty = y := ⟨_, rfl⟩
  obtain ⟨x, hx⟩ : ∃ y, valA e = y := ⟨_, rfl⟩
  rw [hx] at VA
  rw [hy, hz, hx]
  have HB0 : Below W.heap.size W ((W.alloc (.cells #[.int .i64 sk, .string snm, .string sop, .string sv, .int .i64 sn, .int .i64 su, .bool true, .int .u8 (K : Int), .int .i64 N] 29)).alloc (.cells #[.int .i64 0, .string ⟨#[]⟩, .string ⟨#[]⟩, .string ⟨#[]⟩, .int .i64 0, .int .i64 0] 27)).drew := below_drewN (((Below.refl W.heap.size W).alloc (Nat.le_refl _) (.cells #[.int .i64 sk, .string snm, .string sop, .string sv, .int .i64 sn, .int .i64 su, .bool true, .int .u8 (K : Int), .int .i64 N] 29)).alloc (by simp) (.cells #[.int .i64 0, .string ⟨#[]⟩, .string ⟨#[]⟩, .string ⟨#[]⟩, .int .i64 0, .int .i64 0] 27)) 1
  have HM : BlkH W.heap.size ((W.alloc (.cells #[.int .i64 sk, .string snm, .string sop, .string sv, .int .i64 sn, .int .i64 su, .bool true, .int .u8 (K : Int), .int .i64 N] 29)).alloc (.cells #[.int .i64 0, .string ⟨#[]⟩, .string ⟨#[]⟩, .string ⟨#[]⟩, .int .i64 0, .int .i64 0] 27)).drew (W.heap.size + 1) 27 #[.int .i64 0, .string ⟨#[]⟩, .string ⟨#[]⟩, .string ⟨#[]⟩, .int .i64 0, .int .i64 0] := ⟨blk_next W _ _ _, by omega⟩
  clear hx
  go_enter Tryz.func9, Tryz.ntmps9
  go_wp2
  refine wp_region_held_drew (S := fun w' => True) (by kernel_rfl) trivial (fun hS => ?_)
  obtain ⟨w0, hw0⟩ : ∃ z, ((W.alloc (.cells #[.int .i64 sk, .string snm, .string sop, .string sv, .int .i64 sn, .int .i64 su, .bool true, .int .u8 (K : Int), .int .i64 N] 29)).alloc (.cells #[.int .i64 0, .string ⟨#[]⟩, .string ⟨#[]⟩, .string ⟨#[]⟩, .int .i64 0, .int .i64 0] 27)).drew = z := ⟨_, rfl⟩
  rw [hw0] at HB0 HM ⊢
  clear hw0
  refine tV 1 ?_; refine tV 2 ?_; refine tV 6 ?_; refine tV 7 ?_; refine tV 8 ?_; refine tV 11 ?_; refine tV 12 ?_
  refine rdy [0, 5, 13] ?_
  refine rdC (fun K hK => ?_) ?_
  ·
    go_simp
    have hb3 : Below w0.heap.size w0 (w0.alloc (.cells #[.string ⟨#[97, 112, 112]⟩, .string ⟨#[108, 118, 108]⟩, .string ⟨#[110]⟩] 9)) := (Below.refl _ _).alloc (Nat.le_refl _) _
    obtain ⟨g0, hg0⟩ : ∃ g, w0.heap.size = g := ⟨_, rfl⟩
    have n0_ := tlit w0 nms3 g0 hg0.symm i hi
    rw [hy] at n0_
    (try simp only [nms3, List.map_cons, List.map_nil] at n0_)
    have lg0 : W.heap.size + 1 < g0 := by rw [← hg0]; exact HM.lt
    obtain ⟨d1, hwc⟩ : ∃ z, w0.alloc (.cells #[.string ⟨#[97, 112, 112]⟩, .string ⟨#[108, 118, 108]⟩, .string ⟨#[110]⟩] 9) = z := ⟨_, rfl⟩
    rw [hwc] at hb3 n0_
    rw [hwc, hg0]
    clear hwc hg0
    have hSn : (fun w' => True) d1 := trivial
    refine hK.out _ _ hSn (fun _ => ?_)
    clear hK K
    try simp only [Act.put, pz1, pz2, pz3]
    have HB0_ := hop HB0 (Nat.le_refl _) hb3
    clear HB0
    have HB0 := HB0_
    clear HB0_
    have HM_ := HM.below_ hb3
    clear HM
    have HM := HM_
    clear HM_
    refine wpAnyH_grow (S' := fun w' => w'.cell? ⟨g0, i, none⟩ = some (.string y) ∧ True) (fun _ h => h.2) ?_
    have hSm : (fun w' => w'.cell? ⟨g0, i, none⟩ = some (.string y) ∧ True) d1 := ⟨n0_, hSn⟩
    clear hS hSn hb3 n0_
    have hS := hSm
    clear hSm
    refine tV 3 ?_; refine tH 4 ?_
    refine rdy [5, 13] ?_
    refine rdC (fun K hK => ?_) ?_
    ·
      go_simp
      have hb3 : Below d1.heap.size d1 (d1.alloc (.cells #[.string ⟨#[61]⟩, .string ⟨#[33, 61]⟩, .string ⟨#[61, 126]⟩, .string ⟨#[33, 126]⟩] 9)) := (Below.refl _ _).alloc (Nat.le_refl _) _
      obtain ⟨g5, hg5⟩ : ∃ g, d1.heap.size = g := ⟨_, rfl⟩
      have n0_ := tlit d1 ops8 g5 hg5.symm j hj
      rw [hz] at n0_
      (try simp only [ops8, List.map_cons, List.map_nil] at n0_)
      have lg5 : W.heap.size + 1 < g5 := by rw [← hg5]; exact HM.lt
      obtain ⟨d2, hwc⟩ : ∃ z, d1.alloc (.cells #[.string ⟨#[61]⟩, .string ⟨#[33, 61]⟩, .string ⟨#[61, 126]⟩, .string ⟨#[33, 126]⟩] 9) = z := ⟨_, rfl⟩
      rw [hwc] at hb3 n0_
      rw [hwc, hg5]
      clear hwc hg5
      have hSn : (fun w' => w'.cell? ⟨g0, i, none⟩ = some (.string y) ∧ True) d2 := ⟨cell_keep hb3 hS.1, trivial⟩
      refine hK.out _ _ hSn (fun _ => ?_)
      clear hK K
      try simp only [Act.put, pz1, pz2, pz3]
      have HB0_ := hop HB0 (Nat.le_refl _) hb3
      clear HB0
      have HB0 := HB0_
      clear HB0_
      have HM_ := HM.below_ hb3
      clear HM
      have HM := HM_
      clear HM_
      refine wpAnyH_grow (S' := fun w' => w'.cell? ⟨g5, j, none⟩ = some (.string z) ∧ w'.cell? ⟨g0, i, none⟩ = some (.string y) ∧ True) (fun _ h => h.2) ?_
      have hSm : (fun w' => w'.cell? ⟨g5, j, none⟩ = some (.string z) ∧ w'.cell? ⟨g0, i, none⟩ = some (.string y) ∧ True) d2 := ⟨n0_, hSn⟩
      clear hS hSn hb3 n0_
      have hS := hSm
      clear hSm
      refine tV 9 ?_; refine tH 10 ?_
      refine rdy [13] ?_
      refine rdC (fun K hK => ?_) AllReadyH.nil
      go_simp
      go_at_call 18
      refine (VA.out d2).mono ?_
      rintro _ d3 ⟨rfl, hb3⟩
      have hSn : (fun w' => w'.cell? ⟨g5, j, none⟩ = some (.string z) ∧ w'.cell? ⟨g0, i, none⟩ = some (.string y) ∧ True) d3 := ⟨cell_keep hb3 hS.1, cell_keep hb3 hS.2.1, trivial⟩
      refine hK.out _ _ hSn (fun _ => ?_)
      clear hK K
      try simp only [Act.put, pz1, pz2, pz3]
      have HB0_ := hop HB0 (Nat.le_refl _) hb3
      clear HB0
      have HB0 := HB0_
      clear HB0_
      have HM_ := HM.below_ hb3
      clear HM
      have HM := HM_
      clear HM_
      clear hS hb3
      have hS := hSn
      clear hSn
      refine tV 14 ?_
      refine rdy [15] ?_
      refine rdC (fun K hK => ?_) AllReadyH.nil
      have m0_ := HM.1.cell 0
      have f0_ := HM.1.frozen 0
      have m1_ := HM.1.cell 1
      have f1_ := HM.1.frozen 1
      have m2_ := HM.1.cell 2
      have f2_ := HM.1.frozen 2
      have m3_ := HM.1.cell 3
      have f3_ := HM.1.frozen 3
      have m4_ := HM.1.cell 4
      have f4_ := HM.1.frozen 4
      have m5_ := HM.1.cell 5
      have f5_ := HM.1.frozen 5
      go_simp
      have hSn : (fun w' => w'.cell? ⟨g5, j, none⟩ = some (.string z) ∧ w'.cell? ⟨g0, i, none⟩ = some (.string y) ∧ True) ((((((d3.setCell ⟨W.heap.size + 1, 0, none⟩ (.int .i64 3)).setCell ⟨W.heap.size + 1, 1, none⟩ (.string y)).setCell ⟨W.heap.size + 1, 2, none⟩ (.string z)).setCell ⟨W.heap.size + 1, 3, none⟩ (.string x)).setCell ⟨W.heap.size + 1, 4, none⟩ (.int .i64 0)).setCell ⟨W.heap.size + 1, 5, none⟩ (.int .i64 0)) := ⟨(cell_far (cell_far (cell_far (cell_far (cell_far (cell_far hS.1 (p := ⟨W.heap.size + 1, 0, none⟩) (by show W.heap.size + 1 ≠ g5; omega)) (p := ⟨W.heap.size + 1, 1, none⟩) (by show W.heap.size + 1 ≠ g5; omega)) (p := ⟨W.heap.size + 1, 2, none⟩) (by show W.heap.size + 1 ≠ g5; omega)) (p := ⟨W.heap.size + 1, 3, none⟩) (by show W.heap.size + 1 ≠ g5; omega)) (p := ⟨W.heap.size + 1, 4, none⟩) (by show W.heap.size + 1 ≠ g5; omega)) (p := ⟨W.heap.size + 1, 5, none⟩) (by show W.heap.size + 1 ≠ g5; omega)), (cell_far (cell_far (cell_far (cell_far (cell_far (cell_far hS.2.1 (p := ⟨W.heap.size + 1, 0, none⟩) (by show W.heap.size + 1 ≠ g0; omega)) (p := ⟨W.heap.size + 1, 1, none⟩) (by show W.heap.size + 1 ≠ g0; omega)) (p := ⟨W.heap.size + 1, 2, none⟩) (by show W.heap.size + 1 ≠ g0; omega)) (p := ⟨W.heap.size + 1, 3, none⟩) (by show W.heap.size + 1 ≠ g0; omega)) (p := ⟨W.heap.size + 1, 4, none⟩) (by show W.heap.size + 1 ≠ g0; omega)) (p := ⟨W.heap.size + 1, 5, none⟩) (by show W.heap.size + 1 ≠ g0; omega)), trivial⟩
      have HMn := ((((((HM.1.set_ 0 (.int .i64 3)).set_ 1 (.string y)).set_ 2 (.string z)).set_ 3 (.string x)).set_ 4 (.int .i64 0)).set_ 5 (.int .i64 0))
      have HBn := ((((((HB0.setCell (p := ⟨W.heap.size + 1, 0, none⟩) HM.2 (.int .i64 3)).setCell (p := ⟨W.heap.size + 1, 1, none⟩) HM.2 (.string y)).setCell (p := ⟨W.heap.size + 1, 2, none⟩) HM.2 (.string z)).setCell (p := ⟨W.heap.size + 1, 3, none⟩) HM.2 (.string x)).setCell (p := ⟨W.heap.size + 1, 4, none⟩) HM.2 (.int .i64 0)).setCell (p := ⟨W.heap.size + 1, 5, none⟩) HM.2 (.int .i64 0))
      refine hK.out _ _ hSn (fun _ => ?_)
      clear hK K
      try simp only [Act.put, pz1, pz2, pz3]
      refine wpAnyH_done (by kernel_rfl) ?_ _
      go_wp2
      refine bodyPost_ret (results_cell_row rfl _ _ (W.heap.size + 1) 27 #[.int .i64 3, .string y, .string z, .string x, .int .i64 0, .int .i64 0] (0, 0) _ rfl HMn Tryz.underlying27 rfl (by kernel_rfl)) rfl ?_
      exact ⟨rfl, HBn⟩
    refine rdC (fun K hK => ?_) AllReadyH.nil
    ·
      go_simp
      go_at_call 18
      refine (VA.out d1).mono ?_
      rintro _ d5 ⟨rfl, hb3⟩
      have hSn : (fun w' => w'.cell? ⟨g0, i, none⟩ = some (.string y) ∧ True) d5 := ⟨cell_keep hb3 hS.1, trivial⟩
      refine hK.out _ _ hSn (fun _ => ?_)
      clear hK K
      try simp only [Act.put, pz1, pz2, pz3]
      have HB0_ := hop HB0 (Nat.le_refl _) hb3
      clear HB0
      have HB0 := HB0_
      clear HB0_
      have HM_ := HM.below_ hb3
      clear HM
      have HM := HM_
      clear HM_
      clear hS hb3
      have hS := hSn
      clear hSn
      refine rdy [5] ?_
      refine rdC (fun K hK => ?_) AllReadyH.nil
      go_simp
      have hb3 : Below d5.heap.size d5 (d5.alloc (.cells #[.string ⟨#[61]⟩, .string ⟨#[33, 61]⟩, .string ⟨#[61, 126]⟩, .string ⟨#[33, 126]⟩] 9)) := (Below.refl _ _).alloc (Nat.le_refl _) _
      obtain ⟨g5, hg5⟩ : ∃ g, d5.heap.size = g := ⟨_, rfl⟩
      have n0_ := tlit d5 ops8 g5 hg5.symm j hj
      rw [hz] at n0_
      (try simp only [ops8, List.map_cons, List.map_nil] at n0_)
      have lg5 : W.heap.size + 1 < g5 := by rw [← hg5]; exact HM.lt
      obtain ⟨d6, hwc⟩ : ∃ z, d5.alloc (.cells #[.string ⟨#[61]⟩, .string ⟨#[33, 61]⟩, .string ⟨#[61, 126]⟩, .string ⟨#[33, 126]⟩] 9) = z := ⟨_, rfl⟩
      rw [hwc] at hb3 n0_
      rw [hwc, hg5]
      clear hwc hg5
      have hSn : (fun w' => w'.cell? ⟨g0, i, none⟩ = some (.string y) ∧ True) d6 := ⟨cell_keep hb3 hS.1, trivial⟩
      refine hK.out _ _ hSn (fun _ => ?_)
      clear hK K
      try simp only [Act.put, pz1, pz2, pz3]
      have HB0_ := hop HB0 (Nat.le_refl _) hb3
      clear HB0
      have HB0 := HB0_
      clear HB0_
      have HM_ := HM.below_ hb3
      clear HM
      have HM := HM_
      clear HM_
      refine wpAnyH_grow (S' := fun w' => w'.cell? ⟨g5, j, none⟩ = some (.string z) ∧ w'.cell? ⟨g0, i, none⟩ = some (.string y) ∧ True) (fun _ h => h.2) ?_
      have hSm : (fun w' => w'.cell? ⟨g5, j, none⟩ = some (.string z) ∧ w'.cell? ⟨g0, i, none⟩ = some (.string y) ∧ True) d6 := ⟨n0_, hSn⟩
      clear hS hSn hb3 n0_
      have hS := hSm
      clear hSm
      refine tV 9 ?_; refine tH 10 ?_; refine tV 14 ?_
      refine rdy [15] ?_
      refine rdC (fun K hK => ?_) AllReadyH.nil
      have m0_ := HM.1.cell 0
      have f0_ := HM.1.frozen 0
      have m1_ := HM.1.cell 1
      have f1_ := HM.1.frozen 1
      have m2_ := HM.1.cell 2
      have f2_ := HM.1.frozen 2
      have m3_ := HM.1.cell 3
      have f3_ := HM.1.frozen 3
      have m4_ := HM.1.cell 4
      have f4_ := HM.1.frozen 4
      have m5_ := HM.1.cell 5
      have f5_ := HM.1.frozen 5
      go_simp
      have hSn : (fun w' => w'.cell? ⟨g5, j, none⟩ = some (.string z) ∧ w'.cell? ⟨g0, i, none⟩ = some (.string y) ∧ True) ((((((d6.setCell ⟨W.heap.size + 1, 0, none⟩ (.int .i64 3)).setCell ⟨W.heap.size + 1, 1, none⟩ (.string y)).setCell ⟨W.heap.size + 1, 2, none⟩ (.string z)).setCell ⟨W.heap.size + 1, 3, none⟩ (.string x)).setCell ⟨W.heap.size + 1, 4, none⟩ (.int .i64 0)).setCell ⟨W.heap.size + 1, 5, none⟩ (.int .i64 0)) := ⟨(cell_far (cell_far (cell_far (cell_far (cell_far (cell_far hS.1 (p := ⟨W.heap.size + 1, 0, none⟩) (by show W.heap.size + 1 ≠ g5; omega)) (p := ⟨W.heap.size + 1, 1, none⟩) (by show W.heap.size + 1 ≠ g5; omega)) (p := ⟨W.heap.size + 1, 2, none⟩) (by show W.heap.size + 1 ≠ g5; omega)) (p := ⟨W.heap.size + 1, 3, none⟩) (by show W.heap.size + 1 ≠ g5; omega)) (p := ⟨W.heap.size + 1, 4, none⟩) (by show W.heap.size + 1 ≠ g5; omega)) (p := ⟨W.heap.size + 1, 5, none⟩) (by show W.heap.size + 1 ≠ g5; omega)), (cell_far (cell_far (cell_far (cell_far (cell_far (cell_far hS.2.1 (p := ⟨W.heap.size + 1, 0, none⟩) (by show W.heap.size + 1 ≠ g0; omega)) (p := ⟨W.heap.size + 1, 1, none⟩) (by show W.heap.size + 1 ≠ g0; omega)) (p := ⟨W.heap.size + 1, 2, none⟩) (by show W.heap.size + 1 ≠ g0; omega)) (p := ⟨W.heap.size + 1, 3, none⟩) (by show W.heap.size + 1 ≠ g0; omega)) (p := ⟨W.heap.size + 1, 4, none⟩) (by show W.heap.size + 1 ≠ g0; omega)) (p := ⟨W.heap.size + 1, 5, none⟩) (by show W.heap.size + 1 ≠ g0; omega)), trivial⟩
      have HMn := ((((((HM.1.set_ 0 (.int .i64 3)).set_ 1 (.string y)).set_ 2 (.string z)).set_ 3 (.string x)).set_ 4 (.int .i64 0)).set_ 5 (.int .i64 0))
      have HBn := ((((((HB0.setCell (p := ⟨W.heap.size + 1, 0, none⟩) HM.2 (.int .i64 3)).setCell (p := ⟨W.heap.size + 1, 1, none⟩) HM.2 (.string y)).setCell (p := ⟨W.heap.size + 1, 2, none⟩) HM.2 (.string z)).setCell (p := ⟨W.heap.size + 1, 3, none⟩) HM.2 (.string x)).setCell (p := ⟨W.heap.size + 1, 4, none⟩) HM.2 (.int .i64 0)).setCell (p := ⟨W.heap.size + 1, 5, none⟩) HM.2 (.int .i64 0))
      refine hK.out _ _ hSn (fun _ => ?_)
      clear hK K
      try simp only [Act.put, pz1, pz2, pz3]
      refine wpAnyH_done (by kernel_rfl) ?_ _
      go_wp2
      refine bodyPost_ret (results_cell_row rfl _ _ (W.heap.size + 1) 27 #[.int .i64 3, .string y, .string z, .string x, .int .i64 0, .int .i64 0] (0, 0) _ rfl HMn Tryz.underlying27 rfl (by kernel_rfl)) rfl ?_
      exact ⟨rfl, HBn⟩
  refine rdC (fun K hK => ?_) ?_
  ·
    go_simp
    have hb3 : Below w0.heap.size w0 (w0.alloc (.cells #[.string ⟨#[61]⟩, .string ⟨#[33, 61]⟩, .string ⟨#[61, 126]⟩, .string ⟨#[33, 126]⟩] 9)) := (Below.refl _ _).alloc (Nat.le_refl _) _
    obtain ⟨g5, hg5⟩ : ∃ g, w0.heap.size = g := ⟨_, rfl⟩
    have n0_ := tlit w0 ops8 g5 hg5.symm j hj
    rw [hz] at n0_
    (try simp only [ops8, List.map_cons, List.map_nil] at n0_)
    have lg5 : W.heap.size + 1 < g5 := by rw [← hg5]; exact HM.lt
    obtain ⟨d8, hwc⟩ : ∃ z, w0.alloc (.cells #[.string ⟨#[61]⟩, .string ⟨#[33, 61]⟩, .string ⟨#[61, 126]⟩, .string ⟨#[33, 126]⟩] 9) = z := ⟨_, rfl⟩
    rw [hwc] at hb3 n0_
    rw [hwc, hg5]
    clear hwc hg5
    have hSn : (fun w' => True) d8 := trivial
    refine hK.out _ _ hSn (fun _ => ?_)
    clear hK K
    try simp only [Act.put, pz1, pz2, pz3]
    have HB0_ := hop HB0 (Nat.le_refl _) hb3
    clear HB0
    have HB0 := HB0_
    clear HB0_
    have HM_ := HM.below_ hb3
    clear HM
    have HM := HM_
    clear HM_
    refine wpAnyH_grow (S' := fun w' => w'.cell? ⟨g5, j, none⟩ = some (.string z) ∧ True) (fun _ h => h.2) ?_
    have hSm : (fun w' => w'.cell? ⟨g5, j, none⟩ = some (.string z) ∧ True) d8 := ⟨n0_, hSn⟩
    clear hS hSn hb3 n0_
    have hS := hSm
    clear hSm
    refine tV 9 ?_; refine tH 10 ?_
    refine rdy [0, 13] ?_
    refine rdC (fun K hK => ?_) ?_
    ·
      go_simp
      have hb3 : Below d8.heap.size d8 (d8.alloc (.cells #[.string ⟨#[97, 112, 112]⟩, .string ⟨#[108, 118, 108]⟩, .string ⟨#[110]⟩] 9)) := (Below.refl _ _).alloc (Nat.le_refl _) _
      obtain ⟨g0, hg0⟩ : ∃ g, d8.heap.size = g := ⟨_, rfl⟩
      have n0_ := tlit d8 nms3 g0 hg0.symm i hi
      rw [hy] at n0_
      (try simp only [nms3, List.map_cons, List.map_nil] at n0_)
      have lg0 : W.heap.size + 1 < g0 := by rw [← hg0]; exact HM.lt
      obtain ⟨d9, hwc⟩ : ∃ z, d8.alloc (.cells #[.string ⟨#[97, 112, 112]⟩, .string ⟨#[108, 118, 108]⟩, .string ⟨#[110]⟩] 9) = z := ⟨_, rfl⟩
      rw [hwc] at hb3 n0_
      rw [hwc, hg0]
      clear hwc hg0
      have hSn : (fun w' => w'.cell? ⟨g5, j, none⟩ = some (.string z) ∧ True) d9 := ⟨cell_keep hb3 hS.1, trivial⟩
      refine hK.out _ _ hSn (fun _ => ?_)
      clear hK K
      try simp only [Act.put, pz1, pz2, pz3]
      have HB0_ := hop HB0 (Nat.le_refl _) hb3
      clear HB0
      have HB0 := HB0_
      clear HB0_
      have HM_ := HM.below_ hb3
      clear HM
      have HM := HM_
      clear HM_
      refine wpAnyH_grow (S' := fun w' => w'.cell? ⟨g0, i, none⟩ = some (.string y) ∧ w'.cell? ⟨g5, j, none⟩ = some (.string z) ∧ True) (fun _ h => h.2) ?_
      have hSm : (fun w' => w'.cell? ⟨g0, i, none⟩ = some (.string y) ∧ w'.cell? ⟨g5, j, none⟩ = some (.string z) ∧ True) d9 := ⟨n0_, hSn⟩
      clear hS hSn hb3 n0_
      have hS := hSm
      clear hSm
      refine tV 3 ?_; refine tH 4 ?_
      refine rdy [13] ?_
      refine rdC (fun K hK => ?_) AllReadyH.nil
      go_simp
      go_at_call 18
      refine (VA.out d9).mono ?_
      rintro _ d10 ⟨rfl, hb3⟩
      have hSn : (fun w' => w'.cell? ⟨g0, i, none⟩ = some (.string y) ∧ w'.cell? ⟨g5, j, none⟩ = some (.string z) ∧ True) d10 := ⟨cell_keep hb3 hS.1, cell_keep hb3 hS.2.1, trivial⟩
      refine hK.out _ _ hSn (fun _ => ?_)
      clear hK K
      try simp only [Act.put, pz1, pz2, pz3]
      have HB0_ := hop HB0 (Nat.le_refl _) hb3
      clear HB0
      have HB0 := HB0_
      clear HB0_
      have HM_ := HM.below_ hb3
      clear HM
      have HM := HM_
      clear HM_
      clear hS hb3
      have hS := hSn
      clear hSn
      refine tV 14 ?_
      refine rdy [15] ?_
      refine rdC (fun K hK => ?_) AllReadyH.nil
      have m0_ := HM.1.cell 0
      have f0_ := HM.1.frozen 0
      have m1_ := HM.1.cell 1
      have f1_ := HM.1.frozen 1
      have m2_ := HM.1.cell 2
      have f2_ := HM.1.frozen 2
      have m3_ := HM.1.cell 3
      have f3_ := HM.1.frozen 3
      have m4_ := HM.1.cell 4
      have f4_ := HM.1.frozen 4
      have m5_ := HM.1.cell 5
      have f5_ := HM.1.frozen 5
      go_simp
      have hSn : (fun w' => w'.cell? ⟨g0, i, none⟩ = some (.string y) ∧ w'.cell? ⟨g5, j, none⟩ = some (.string z) ∧ True) ((((((d10.setCell ⟨W.heap.size + 1, 0, none⟩ (.int .i64 3)).setCell ⟨W.heap.size + 1, 1, none⟩ (.string y)).setCell ⟨W.heap.size + 1, 2, none⟩ (.string z)).setCell ⟨W.heap.size + 1, 3, none⟩ (.string x)).setCell ⟨W.heap.size + 1, 4, none⟩ (.int .i64 0)).setCell ⟨W.heap.size + 1, 5, none⟩ (.int .i64 0)) := ⟨(cell_far (cell_far (cell_far (cell_far (cell_far (cell_far hS.1 (p := ⟨W.heap.size + 1, 0, none⟩) (by show W.heap.size + 1 ≠ g0; omega)) (p := ⟨W.heap.size + 1, 1, none⟩) (by show W.heap.size + 1 ≠ g0; omega)) (p := ⟨W.heap.size + 1, 2, none⟩) (by show W.heap.size + 1 ≠ g0; omega)) (p := ⟨W.heap.size + 1, 3, none⟩) (by show W.heap.size + 1 ≠ g0; omega)) (p := ⟨W.heap.size + 1, 4, none⟩) (by show W.heap.size + 1 ≠ g0; omega)) (p := ⟨W.heap.size + 1, 5, none⟩) (by show W.heap.size + 1 ≠ g0; omega)), (cell_far (cell_far (cell_far (cell_far (cell_far (cell_far hS.2.1 (p := ⟨W.heap.size + 1, 0, none⟩) (by show W.heap.size + 1 ≠ g5; omega)) (p := ⟨W.heap.size + 1, 1, none⟩) (by show W.heap.size + 1 ≠ g5; omega)) (p := ⟨W.heap.size + 1, 2, none⟩) (by show W.heap.size + 1 ≠ g5; omega)) (p := ⟨W.heap.size + 1, 3, none⟩) (by show W.heap.size + 1 ≠ g5; omega)) (p := ⟨W.heap.size + 1, 4, none⟩) (by show W.heap.size + 1 ≠ g5; omega)) (p := ⟨W.heap.size + 1, 5, none⟩) (by show W.heap.size + 1 ≠ g5; omega)), trivial⟩
      have HMn := ((((((HM.1.set_ 0 (.int .i64 3)).set_ 1 (.string y)).set_ 2 (.string z)).set_ 3 (.string x)).set_ 4 (.int .i64 0)).set_ 5 (.int .i64 0))
      have HBn := ((((((HB0.setCell (p := ⟨W.heap.size + 1, 0, none⟩) HM.2 (.int .i64 3)).setCell (p := ⟨W.heap.size + 1, 1, none⟩) HM.2 (.string y)).setCell (p := ⟨W.heap.size + 1, 2, none⟩) HM.2 (.string z)).setCell (p := ⟨W.heap.size + 1, 3, none⟩) HM.2 (.string x)).setCell (p := ⟨W.heap.size + 1, 4, none⟩) HM.2 (.int .i64 0)).setCell (p := ⟨W.heap.size + 1, 5, none⟩) HM.2 (.int .i64 0))
      refine hK.out _ _ hSn (fun _ => ?_)
      clear hK K
      try simp only [Act.put, pz1, pz2, pz3]
      refine wpAnyH_done (by kernel_rfl) ?_ _
      go_wp2
      refine bodyPost_ret (results_cell_row rfl _ _ (W.heap.size + 1) 27 #[.int .i64 3, .string y, .string z, .string x, .int .i64 0, .int .i64 0] (0, 0) _ rfl HMn Tryz.underlying27 rfl (by kernel_rfl)) rfl ?_
      exact ⟨rfl, HBn⟩
    refine rdC (fun K hK => ?_) AllReadyH.nil
    ·
      go_simp
      go_at_call 18
      refine (VA.out d8).mono ?_
      rintro _ d12 ⟨rfl, hb3⟩
      have hSn : (fun w' => w'.cell? ⟨g5, j, none⟩ = some (.string z) ∧ True) d12 := ⟨cell_keep hb3 hS.1, trivial⟩
      refine hK.out _ _ hSn (fun _ => ?_)
      clear hK K
      try simp only [Act.put, pz1, pz2, pz3]
      have HB0_ := hop HB0 (Nat.le_refl _) hb3
      clear HB0
      have HB0 := HB0_
      clear HB0_
      have HM_ := HM.below_ hb3
      clear HM
      have HM := HM_
      clear HM_
      clear hS hb3
      have hS := hSn
      clear hSn
      refine rdy [0] ?_
      refine rdC (fun K hK => ?_) AllReadyH.nil
      go_simp
      have hb3 : Below d12.heap.size d12 (d12.alloc (.cells #[.string ⟨#[97, 112, 112]⟩, .string ⟨#[108, 118, 108]⟩, .string ⟨#[110]⟩] 9)) := (Below.refl _ _).alloc (Nat.le_refl _) _
      obtain ⟨g0, hg0⟩ : ∃ g, d12.heap.size = g := ⟨_, rfl⟩
      have n0_ := tlit d12 nms3 g0 hg0.symm i hi
      rw [hy] at n0_
      (try simp only [nms3, List.map_cons, List.map_nil] at n0_)
      have lg0 : W.heap.size + 1 < g0 := by rw [← hg0]; exact HM.lt
      obtain ⟨d13, hwc⟩ : ∃ z, d12.alloc (.cells #[.string ⟨#[97, 112, 112]⟩, .string ⟨#[108, 118, 108]⟩, .string ⟨#[110]⟩] 9) = z := ⟨_, rfl⟩
      rw [hwc] at hb3 n0_
      rw [hwc, hg0]
      clear hwc hg0
      have hSn : (fun w' => w'.cell? ⟨g5, j, none⟩ = some (.string z) ∧ True) d13 := ⟨cell_keep hb3 hS.1, trivial⟩
      refine hK.out _ _ hSn (fun _ => ?_)
      clear hK K
      try simp only [Act.put, pz1, pz2, pz3]
      have HB0_ := hop HB0 (Nat.le_refl _) hb3
      clear HB0
      have HB0 := HB0_
      clear HB0_
      have HM_ := HM.below_ hb3
      clear HM
      have HM := HM_
      clear HM_
      refine wpAnyH_grow (S' := fun w' => w'.cell? ⟨g0, i, none⟩ = some (.string y) ∧ w'.cell? ⟨g5, j, none⟩ = some (.string z) ∧ True) (fun _ h => h.2) ?_
      have hSm : (fun w' => w'.cell? ⟨g0, i, none⟩ = some (.string y) ∧ w'.cell? ⟨g5, j, none⟩ = some (.string z) ∧ True) d13 := ⟨n0_, hSn⟩
      clear hS hSn hb3 n0_
      have hS := hSm
      clear hSm
      refine tV 3 ?_; refine tH 4 ?_; refine tV 14 ?_
      refine rdy [15] ?_
      refine rdC (fun K hK => ?_) AllReadyH.nil
      have m0_ := HM.1.cell 0
      have f0_ := HM.1.frozen 0
      have m1_ := HM.1.cell 1
      have f1_ := HM.1.frozen 1
      have m2_ := HM.1.cell 2
      have f2_ := HM.1.frozen 2
      have m3_ := HM.1.cell 3
      have f3_ := HM.1.frozen 3
      have m4_ := HM.1.cell 4
      have f4_ := HM.1.frozen 4
      have m5_ := HM.1.cell 5
      have f5_ := HM.1.frozen 5
      go_simp
      have hSn : (fun w' => w'.cell? ⟨g0, i, none⟩ = some (.string y) ∧ w'.cell? ⟨g5, j, none⟩ = some (.string z) ∧ True) ((((((d13.setCell ⟨W.heap.size + 1, 0, none⟩ (.int .i64 3)).setCell ⟨W.heap.size + 1, 1, none⟩ (.string y)).setCell ⟨W.heap.size + 1, 2, none⟩ (.string z)).setCell ⟨W.heap.size + 1, 3, none⟩ (.string x)).setCell ⟨W.heap.size + 1, 4, none⟩ (.int .i64 0)).setCell ⟨W.heap.size + 1, 5, none⟩ (.int .i64 0)) := ⟨(cell_far (cell_far (cell_far (cell_far (cell_far (cell_far hS.1 (p := ⟨W.heap.size + 1, 0, none⟩) (by show W.heap.size + 1 ≠ g0; omega)) (p := ⟨W.heap.size + 1, 1, none⟩) (by show W.heap.size + 1 ≠ g0; omega)) (p := ⟨W.heap.size + 1, 2, none⟩) (by show W.heap.size + 1 ≠ g0; omega)) (p := ⟨W.heap.size + 1, 3, none⟩) (by show W.heap.size + 1 ≠ g0; omega)) (p := ⟨W.heap.size + 1, 4, none⟩) (by show W.heap.size + 1 ≠ g0; omega)) (p := ⟨W.heap.size + 1, 5, none⟩) (by show W.heap.size + 1 ≠ g0; omega)), (cell_far (cell_far (cell_far (cell_far (cell_far (cell_far hS.2.1 (p := ⟨W.heap.size + 1, 0, none⟩) (by show W.heap.size + 1 ≠ g5; omega)) (p := ⟨W.heap.size + 1, 1, none⟩) (by show W.heap.size + 1 ≠ g5; omega)) (p := ⟨W.heap.size + 1, 2, none⟩) (by show W.heap.size + 1 ≠ g5; omega)) (p := ⟨W.heap.size + 1, 3, none⟩) (by show W.heap.size + 1 ≠ g5; omega)) (p := ⟨W.heap.size + 1, 4, none⟩) (by show W.heap.size + 1 ≠ g5; omega)) (p := ⟨W.heap.size + 1, 5, none⟩) (by show W.heap.size + 1 ≠ g5; omega)), trivial⟩
      have HMn := ((((((HM.1.set_ 0 (.int .i64 3)).set_ 1 (.string y)).set_ 2 (.string z)).set_ 3 (.string x)).set_ 4 (.int .i64 0)).set_ 5 (.int .i64 0))
      have HBn := ((((((HB0.setCell (p := ⟨W.heap.size + 1, 0, none⟩) HM.2 (.int .i64 3)).setCell (p := ⟨W.heap.size + 1, 1, none⟩) HM.2 (.string y)).setCell (p := ⟨W.heap.size + 1, 2, none⟩) HM.2 (.string z)).setCell (p := ⟨W.heap.size + 1, 3, none⟩) HM.2 (.string x)).setCell (p := ⟨W.heap.size + 1, 4, none⟩) HM.2 (.int .i64 0)).setCell (p := ⟨W.heap.size + 1, 5, none⟩) HM.2 (.int .i64 0))
      refine hK.out _ _ hSn (fun _ => ?_)
      clear hK K
      try simp only [Act.put, pz1, pz2, pz3]
      refine wpAnyH_done (by kernel_rfl) ?_ _
      go_wp2
      refine bodyPost_ret (results_cell_row rfl _ _ (W.heap.size + 1) 27 #[.int .i64 3, .string y, .string z, .string x, .int .i64 0, .int .i64 0] (0, 0) _ rfl HMn Tryz.underlying27 rfl (by kernel_rfl)) rfl ?_
      exact ⟨rfl, HBn⟩
  refine rdC (fun K hK => ?_) AllReadyH.nil
  ·
    go_simp
    go_at_call 18
    refine (VA.out w0).mono ?_
    rintro _ d15 ⟨rfl, hb3⟩
    have hSn : (fun w' => True) d15 := trivial
    refine hK.out _ _ hSn (fun _ => ?_)
    clear hK K
    try simp only [Act.put, pz1, pz2, pz3]
    have HB0_ := hop HB0 (Nat.le_refl _) hb3
    clear HB0
    have HB0 := HB0_
    clear HB0_
    have HM_ := HM.below_ hb3
    clear HM
    have HM := HM_
    clear HM_
    clear hS hb3
    have hS := hSn
    clear hSn
    refine rdy [0, 5] ?_
    refine rdC (fun K hK => ?_) ?_
    ·
      go_simp
      have hb3 : Below d15.heap.size d15 (d15.alloc (.cells #[.string ⟨#[97, 112, 112]⟩, .string ⟨#[108, 118, 108]⟩, .string ⟨#[110]⟩] 9)) := (Below.refl _ _).alloc (Nat.le_refl _) _
      obtain ⟨g0, hg0⟩ : ∃ g, d15.heap.size = g := ⟨_, rfl⟩
      have n0_ := tlit d15 nms3 g0 hg0.symm i hi
      rw [hy] at n0_
      (try simp only [nms3, List.map_cons, List.map_nil] at n0_)
      have lg0 : W.heap.size + 1 < g0 := by rw [← hg0]; exact HM.lt
      obtain ⟨d16, hwc⟩ : ∃ z, d15.alloc (.cells #[.string ⟨#[97, 112, 112]⟩, .string ⟨#[108, 118, 108]⟩, .string ⟨#[110]⟩] 9) = z := ⟨_, rfl⟩
      rw [hwc] at hb3 n0_
      rw [hwc, hg0]
      clear hwc hg0
      have hSn : (fun w' => True) d16 := trivial
      refine hK.out _ _ hSn (fun _ => ?_)
      clear hK K
      try simp only [Act.put, pz1, pz2, pz3]
      have HB0_ := hop HB0 (Nat.le_refl _) hb3
      clear HB0
      have HB0 := HB0_
      clear HB0_
      have HM_ := HM.below_ hb3
      clear HM
      have HM := HM_
      clear HM_
      refine wpAnyH_grow (S' := fun w' => w'.cell? ⟨g0, i, none⟩ = some (.string y) ∧ True) (fun _ h => h.2) ?_
      have hSm : (fun w' => w'.cell? ⟨g0, i, none⟩ = some (.string y) ∧ True) d16 := ⟨n0_, hSn⟩
      clear hS hSn hb3 n0_
      have hS := hSm
      clear hSm
      refine tV 3 ?_; refine tH 4 ?_
      refine rdy [5] ?_
      refine rdC (fun K hK => ?_) AllReadyH.nil
      go_simp
      have hb3 : Below d16.heap.size d16 (d16.alloc (.cells #[.string ⟨#[61]⟩, .string ⟨#[33, 61]⟩, .string ⟨#[61, 126]⟩, .string ⟨#[33, 126]⟩] 9)) := (Below.refl _ _).alloc (Nat.le_refl _) _
      obtain ⟨g5, hg5⟩ : ∃ g, d16.heap.size = g := ⟨_, rfl⟩
      have n0_ := tlit d16 ops8 g5 hg5.symm j hj
      rw [hz] at n0_
      (try simp only [ops8, List.map_cons, List.map_nil] at n0_)
      have lg5 : W.heap.size + 1 < g5 := by rw [← hg5]; exact HM.lt
      obtain ⟨d17, hwc⟩ : ∃ z, d16.alloc (.cells #[.string ⟨#[61]⟩, .string ⟨#[33, 61]⟩, .string ⟨#[61, 126]⟩, .string ⟨#[33, 126]⟩] 9) = z := ⟨_, rfl⟩
      rw [hwc] at hb3 n0_
      rw [hwc, hg5]
      clear hwc hg5
      have hSn : (fun w' => w'.cell? ⟨g0, i, none⟩ = some (.string y) ∧ True) d17 := ⟨cell_keep hb3 hS.1, trivial⟩
      refine hK.out _ _ hSn (fun _ => ?_)
      clear hK K
      try simp only [Act.put, pz1, pz2, pz3]
      have HB0_ := hop HB0 (Nat.le_refl _) hb3
      clear HB0
      have HB0 := HB0_
      clear HB0_
      have HM_ := HM.below_ hb3
      clear HM
      have HM := HM_
      clear HM_
      refine wpAnyH_grow (S' := fun w' => w'.cell? ⟨g5, j, none⟩ = some (.string z) ∧ w'.cell? ⟨g0, i, none⟩ = some (.string y) ∧ True) (fun _ h => h.2) ?_
      have hSm : (fun w' => w'.cell? ⟨g5, j, none⟩ = some (.string z) ∧ w'.cell? ⟨g0, i, none⟩ = some (.string y) ∧ True) d17 := ⟨n0_, hSn⟩
      clear hS hSn hb3 n0_
      have hS := hSm
      clear hSm
      refine tV 9 ?_; refine tH 10 ?_; refine tV 14 ?_
      refine rdy [15] ?_
      refine rdC (fun K hK => ?_) AllReadyH.nil
      have m0_ := HM.1.cell 0
      have f0_ := HM.1.frozen 0
      have m1_ := HM.1.cell 1
      have f1_ := HM.1.frozen 1
      have m2_ := HM.1.cell 2
      have f2_ := HM.1.frozen 2
      have m3_ := HM.1.cell 3
      have f3_ := HM.1.frozen 3
      have m4_ := HM.1.cell 4
      have f4_ := HM.1.frozen 4
      have m5_ := HM.1.cell 5
      have f5_ := HM.1.frozen 5
      go_simp
      have hSn : (fun w' => w'.cell? ⟨g5, j, none⟩ = some (.string z) ∧ w'.cell? ⟨g0, i, none⟩ = some (.string y) ∧ True) ((((((d17.setCell ⟨W.heap.size + 1, 0, none⟩ (.int .i64 3)).setCell ⟨W.heap.size + 1, 1, none⟩ (.string y)).setCell ⟨W.heap.size + 1, 2, none⟩ (.string z)).setCell ⟨W.heap.size + 1, 3, none⟩ (.string x)).setCell ⟨W.heap.size + 1, 4, none⟩ (.int .i64 0)).setCell ⟨W.heap.size + 1, 5, none⟩ (.int .i64 0)) := ⟨(cell_far (cell_far (cell_far (cell_far (cell_far (cell_far hS.1 (p := ⟨W.heap.size + 1, 0, none⟩) (by show W.heap.size + 1 ≠ g5; omega)) (p := ⟨W.heap.size + 1, 1, none⟩) (by show W.heap.size + 1 ≠ g5; omega)) (p := ⟨W.heap.size + 1, 2, none⟩) (by show W.heap.size + 1 ≠ g5; omega)) (p := ⟨W.heap.size + 1, 3, none⟩) (by show W.heap.size + 1 ≠ g5; omega)) (p := ⟨W.heap.size + 1, 4, none⟩) (by show W.heap.size + 1 ≠ g5; omega)) (p := ⟨W.heap.size + 1, 5, none⟩) (by show W.heap.size + 1 ≠ g5; omega)), (cell_far (cell_far (cell_far (cell_far (cell_far (cell_far hS.2.1 (p := ⟨W.heap.size + 1, 0, none⟩) (by show W.heap.size + 1 ≠ g0; omega)) (p := ⟨W.heap.size + 1, 1, none⟩) (by show W.heap.size + 1 ≠ g0; omega)) (p := ⟨W.heap.size + 1, 2, none⟩) (by show W.heap.size + 1 ≠ g0; omega)) (p := ⟨W.heap.size + 1, 3, none⟩) (by show W.heap.size + 1 ≠ g0; omega)) (p := ⟨W.heap.size + 1, 4, none⟩) (by show W.heap.size + 1 ≠ g0; omega)) (p := ⟨W.heap.size + 1, 5, none⟩) (by show W.heap.size + 1 ≠ g0; omega)), trivial⟩
      have HMn := ((((((HM.1.set_ 0 (.int .i64 3)).set_ 1 (.string y)).set_ 2 (.string z)).set_ 3 (.string x)).set_ 4 (.int .i64 0)).set_ 5 (.int .i64 0))
      have HBn := ((((((HB0.setCell (p := ⟨W.heap.size + 1, 0, none⟩) HM.2 (.int .i64 3)).setCell (p := ⟨W.heap.size + 1, 1, none⟩) HM.2 (.string y)).setCell (p := ⟨W.heap.size + 1, 2, none⟩) HM.2 (.string z)).setCell (p := ⟨W.heap.size + 1, 3, none⟩) HM.2 (.string x)).setCell (p := ⟨W.heap.size + 1, 4, none⟩) HM.2 (.int .i64 0)).setCell (p := ⟨W.heap.size + 1, 5, none⟩) HM.2 (.int .i64 0))
      refine hK.out _ _ hSn (fun _ => ?_)
      clear hK K
      try simp only [Act.put, pz1, pz2, pz3]
      refine wpAnyH_done (by kernel_rfl) ?_ _
      go_wp2
      refine bodyPost_ret (results_cell_row rfl _ _ (W.heap.size + 1) 27 #[.int .i64 3, .string y, .string z, .string x, .int .i64 0, .int .i64 0] (0, 0) _ rfl HMn Tryz.underlying27 rfl (by kernel_rfl)) rfl ?_
      exact ⟨rfl, HBn⟩
    refine rdC (fun K hK => ?_) AllReadyH.nil
    ·
      go_simp
      have hb3 : Below d15.heap.size d15 (d15.alloc (.cells #[.string ⟨#[61]⟩, .string ⟨#[33, 61]⟩, .string ⟨#[61, 126]⟩, .string ⟨#[33, 126]⟩] 9)) := (Below.refl _ _).alloc (Nat.le_refl _) _
      obtain ⟨g5, hg5⟩ : ∃ g, d15.heap.size = g := ⟨_, rfl⟩
      have n0_ := tlit d15 ops8 g5 hg5.symm j hj
      rw [hz] at n0_
      (try simp only [ops8, List.map_cons, List.map_nil] at n0_)
      have lg5 : W.heap.size + 1 < g5 := by rw [← hg5]; exact HM.lt
      obtain ⟨d19, hwc⟩ : ∃ z, d15.alloc (.cells #[.string ⟨#[61]⟩, .string ⟨#[33, 61]⟩, .string ⟨#[61, 126]⟩, .string ⟨#[33, 126]⟩] 9) = z := ⟨_, rfl⟩
      rw [hwc] at hb3 n0_
      rw [hwc, hg5]
      clear hwc hg5
      have hSn : (fun w' => True) d19 := trivial
      refine hK.out _ _ hSn (fun _ => ?_)
      clear hK K
      try simp only [Act.put, pz1, pz2, pz3]
      have HB0_ := hop HB0 (Nat.le_refl _) hb3
      clear HB0
      have HB0 := HB0_
      clear HB0_
      have HM_ := HM.below_ hb3
      clear HM
      have HM := HM_
      clear HM_
      refine wpAnyH_grow (S' := fun w' => w'.cell? ⟨g5, j, none⟩ = some (.string z) ∧ True) (fun _ h => h.2) ?_
      have hSm : (fun w' => w'.cell? ⟨g5, j, none⟩ = some (.string z) ∧ True) d19 := ⟨n0_, hSn⟩
      clear hS hSn hb3 n0_
      have hS := hSm
      clear hSm
      refine tV 9 ?_; refine tH 10 ?_
      refine rdy [0] ?_
      refine rdC (fun K hK => ?_) AllReadyH.nil
      go_simp
      have hb3 : Below d19.heap.size d19 (d19.alloc (.cells #[.string ⟨#[97, 112, 112]⟩, .string ⟨#[108, 118, 108]⟩, .string ⟨#[110]⟩] 9)) := (Below.refl _ _).alloc (Nat.le_refl _) _
      obtain ⟨g0, hg0⟩ : ∃ g, d19.heap.size = g := ⟨_, rfl⟩
      have n0_ := tlit d19 nms3 g0 hg0.symm i hi
      rw [hy] at n0_
      (try simp only [nms3, List.map_cons, List.map_nil] at n0_)
      have lg0 : W.heap.size + 1 < g0 := by rw [← hg0]; exact HM.lt
      obtain ⟨d20, hwc⟩ : ∃ z, d19.alloc (.cells #[.string ⟨#[97, 112, 112]⟩, .string ⟨#[108, 118, 108]⟩, .string ⟨#[110]⟩] 9) = z := ⟨_, rfl⟩
      rw [hwc] at hb3 n0_
      rw [hwc, hg0]
      clear hwc hg0
      have hSn : (fun w' => w'.cell? ⟨g5, j, none⟩ = some (.string z) ∧ True) d20 := ⟨cell_keep hb3 hS.1, trivial⟩
      refine hK.out _ _ hSn (fun _ => ?_)
      clear hK K
      try simp only [Act.put, pz1, pz2, pz3]
      have HB0_ := hop HB0 (Nat.le_refl _) hb3
      clear HB0
      have HB0 := HB0_
      clear HB0_
      have HM_ := HM.below_ hb3
      clear HM
      have HM := HM_
      clear HM_
      refine wpAnyH_grow (S' := fun w' => w'.cell? ⟨g0, i, none⟩ = some (.string y) ∧ w'.cell? ⟨g5, j, none⟩ = some (.string z) ∧ True) (fun _ h => h.2) ?_
      have hSm : (fun w' => w'.cell? ⟨g0, i, none⟩ = some (.string y) ∧ w'.cell? ⟨g5, j, none⟩ = some (.string z) ∧ True) d20 := ⟨n0_, hSn⟩
      clear hS hSn hb3 n0_
      have hS := hSm
      clear hSm
      refine tV 3 ?_; refine tH 4 ?_; refine tV 14 ?_
      refine rdy [15] ?_
      refine rdC (fun K hK => ?_) AllReadyH.nil
      have m0_ := HM.1.cell 0
      have f0_ := HM.1.frozen 0
      have m1_ := HM.1.cell 1
      have f1_ := HM.1.frozen 1
      have m2_ := HM.1.cell 2
      have f2_ := HM.1.frozen 2
      have m3_ := HM.1.cell 3
      have f3_ := HM.1.frozen 3
      have m4_ := HM.1.cell 4
      have f4_ := HM.1.frozen 4
      have m5_ := HM.1.cell 5
      have f5_ := HM.1.frozen 5
      go_simp
      have hSn : (fun w' => w'.cell? ⟨g0, i, none⟩ = some (.string y) ∧ w'.cell? ⟨g5, j, none⟩ = some (.string z) ∧ True) ((((((d20.setCell ⟨W.heap.size + 1, 0, none⟩ (.int .i64 3)).setCell ⟨W.heap.size + 1, 1, none⟩ (.string y)).setCell ⟨W.heap.size + 1, 2, none⟩ (.string z)).setCell ⟨W.heap.size + 1, 3, none⟩ (.string x)).setCell ⟨W.heap.size + 1, 4, none⟩ (.int .i64 0)).setCell ⟨W.heap.size + 1, 5, none⟩ (.int .i64 0)) := ⟨(cell_far (cell_far (cell_far (cell_far (cell_far (cell_far hS.1 (p := ⟨W.heap.size + 1, 0, none⟩) (by show W.heap.size + 1 ≠ g0; omega)) (p := ⟨W.heap.size + 1, 1, none⟩) (by show W.heap.size + 1 ≠ g0; omega)) (p := ⟨W.heap.size + 1, 2, none⟩) (by show W.heap.size + 1 ≠ g0; omega)) (p := ⟨W.heap.size + 1, 3, none⟩) (by show W.heap.size + 1 ≠ g0; omega)) (p := ⟨W.heap.size + 1, 4, none⟩) (by show W.heap.size + 1 ≠ g0; omega)) (p := ⟨W.heap.size + 1, 5, none⟩) (by show W.heap.size + 1 ≠ g0; omega)), (cell_far (cell_far (cell_far (cell_far (cell_far (cell_far hS.2.1 (p := ⟨W.heap.size + 1, 0, none⟩) (by show W.heap.size + 1 ≠ g5; omega)) (p := ⟨W.heap.size + 1, 1, none⟩) (by show W.heap.size + 1 ≠ g5; omega)) (p := ⟨W.heap.size + 1, 2, none⟩) (by show W.heap.size + 1 ≠ g5; omega)) (p := ⟨W.heap.size + 1, 3, none⟩) (by show W.heap.size + 1 ≠ g5; omega)) (p := ⟨W.heap.size + 1, 4, none⟩) (by show W.heap.size + 1 ≠ g5; omega)) (p := ⟨W.heap.size + 1, 5, none⟩) (by show W.heap.size + 1 ≠ g5; omega)), trivial⟩
      have HMn := ((((((HM.1.set_ 0 (.int .i64 3)).set_ 1 (.string y)).set_ 2 (.string z)).set_ 3 (.string x)).set_ 4 (.int .i64 0)).set_ 5 (.int .i64 0))
      have HBn := ((((((HB0.setCell (p := ⟨W.heap.size + 1, 0, none⟩) HM.2 (.int .i64 3)).setCell (p := ⟨W.heap.size + 1, 1, none⟩) HM.2 (.string y)).setCell (p := ⟨W.heap.size + 1, 2, none⟩) HM.2 (.string z)).setCell (p := ⟨W.heap.size + 1, 3, none⟩) HM.2 (.string x)).setCell (p := ⟨W.heap.size + 1, 4, none⟩) HM.2 (.int .i64 0)).setCell (p := ⟨W.heap.size + 1, 5, none⟩) HM.2 (.int .i64 0))
      refine hK.out _ _ hSn (fun _ => ?_)
      clear hK K
      try simp only [Act.put, pz1, pz2, pz3]
      refine wpAnyH_done (by kernel_rfl) ?_ _
      go_wp2
      refine bodyPost_ret (results_cell_row rfl _ _ (W.heap.size + 1) 27 #[.int .i64 3, .string y, .string z, .string x, .int .i64 0, .int .i64 0] (0, 0) _ rfl HMn Tryz.underlying27 rfl (by kernel_rfl)) rfl ?_
      exact ⟨rfl, HBn⟩
def numF (r : Nat) (N : Int) : Int :=
  if r = 0 then (if N < 0 then -(N + 1) else N) else if r = 3 then (if N < 0 then -(N + 1) else N).tmod 10 * 60000000000 else (if N < 0 then -(N + 1) else N).tmod 10
end Go.Proofs.YtepokdmkdnlbfaaGreatDoor
