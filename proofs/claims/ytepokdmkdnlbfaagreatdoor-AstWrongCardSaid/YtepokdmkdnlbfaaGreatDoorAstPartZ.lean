-- shaken
import Derived.Test.YtepokdmkdnlbfaaGreatDoorAstPart
namespace Go.Proofs.YtepokdmkdnlbfaaGreatDoor
open Go.RowKit
set_option linter.unusedVariables false
set_option linter.unusedSimpArgs false
set_option maxRecDepth 100000 in
set_option maxHeartbeats 6400000 in
theorem part3_zero (sk : Int) (snm sop sv : ByteArray) (sn su : Int) (K k q e i j r u : Nat) (hi : i < 2) (hj : j < 6) (hr4 : r < 4) (hu3 : u < 3) (hK : (K : Int).tmod 4 = 3) (hk : (K : Int) / 4 = (k : Int)) (wk : IntKind.u8.wrap (k : Int) = (k : Int)) (hki : (k : Int).tmod 2 = (i : Int)) (hq : (k : Int) / 2 = (q : Int)) (wq : IntKind.u8.wrap (q : Int) = (q : Int)) (hqj : (q : Int).tmod 6 = (j : Int)) (he : (k : Int) / 12 = (e : Int)) (hwe : IntKind.u8.wrap (e : Int) = (e : Int)) (heu : (e : Int).tmod 3 = (u : Int)) (hkr : (k : Int).tmod 4 = (r : Int)) (W : World) :
    Calls Tryz.prog 9 #[.agg #[.int .i64 sk, .string snm, .string sop, .string sv, .int .i64 sn, .int .i64 su, .bool true, .int .u8 (K : Int), .int .i64 0]] W fun r_ w' => r_ = .returned (.agg #[.int .i64 4, .string (nms4.getD i .empty), .string (nops8.getD j .empty), .string ⟨#[]⟩, .int .i64 0, .int .i64 (u : Int)]) ∧ Below W.heap.size W w' := by
  have iI : (i : Int) < 2 := by omega
  have hwi : IntKind.u8.wrap (i : Int) = (i : Int) := by rw [IntKind.wrap_u8]; omega
  have jI : (j : Int) < 6 := by omega
  have hwj : IntKind.u8.wrap (j : Int) = (j : Int) := by rw [IntKind.wrap_u8]; omega
  have wu : IntKind.u8.wrap (u : Int) = (u : Int) := by rw [IntKind.wrap_u8]; omega
  have wu2 : IntKind.i64.wrap (u : Int) = (u : Int) := by rw [IntKind.wrap_i64]; omega
  have wr : IntKind.u8.wrap (r : Int) = (r : Int) := by rw [IntKind.wrap_u8]; omega
  obtain ⟨y, hy⟩ : ∃ y, nms4.getD i .empty = y := ⟨_, rfl⟩
  obtain ⟨x, hx⟩ : ∃ y, nops8.getD j .empty = y := ⟨_, rfl⟩
  rw [hy, hx]
  have HB00 := Lib.hid (show Below W.heap.size W ((W.alloc (.cells #[.int .i64 sk, .string snm, .string sop, .string sv, .int .i64 sn, .int .i64 su, .bool true, .int .u8 (K : Int), .int .i64 0] 29)).alloc (.cells #[.int .i64 0, .string ⟨#[]⟩, .string ⟨#[]⟩, .string ⟨#[]⟩, .int .i64 0, .int .i64 0] 27)).drew from below_drewN (((Below.refl W.heap.size W).alloc (Nat.le_refl _) (.cells #[.int .i64 sk, .string snm, .string sop, .string sv, .int .i64 sn, .int .i64 su, .bool true, .int .u8 (K : Int), .int .i64 0] 29)).alloc (by simp) (.cells #[.int .i64 0, .string ⟨#[]⟩, .string ⟨#[]⟩, .string ⟨#[]⟩, .int .i64 0, .int .i64 0] 27)) 1)
  have HM0 := Lib.hid (show BlkH W.heap.size ((W.alloc (.cells #[.int .i64 sk, .string snm, .string sop, .string sv, .int .i64 sn, .int .i64 su, .bool true, .int .u8 (K : Int), .int .i64 0] 29)).alloc (.cells #[.int .i64 0, .string ⟨#[]⟩, .string ⟨#[]⟩, .string ⟨#[]⟩, .int .i64 0, .int .i64 0] 27)).drew (W.heap.size + 1) 27 #[.int .i64 0, .string ⟨#[]⟩, .string ⟨#[]⟩, .string ⟨#[]⟩, .int .i64 0, .int .i64 0] from ⟨blk_next W _ _ _, by omega⟩)
  obtain ⟨WD, hwd⟩ : ∃ w, ((W.alloc (.cells #[.int .i64 sk, .string snm, .string sop, .string sv, .int .i64 sn, .int .i64 su, .bool true, .int .u8 (K : Int), .int .i64 0] 29)).alloc (.cells #[.int .i64 0, .string ⟨#[]⟩, .string ⟨#[]⟩, .string ⟨#[]⟩, .int .i64 0, .int .i64 0] 27)).drew = w := ⟨_, rfl⟩
  have HWD := Lib.hid hwd
  rw [hwd] at HB00 HM0
  clear hwd
  have HI := Lib.hid hi
  have HJ := Lib.hid hj
  have HY := Lib.hid hy
  have HX := Lib.hid hx
  clear hi hj hy hx
  rcases (show r = 0 ∨ r = 3 ∨ (r ≠ 0 ∧ r ≠ 3) by omega) with r0 | r0 | ⟨r0, r1⟩
  all_goals
    first
    | subst r0
    | (have q0 : ¬ (r : Int) = 0 := by omega
       have q1 : (0 : Int) < (r : Int) := by omega
       have q2 : ((r : Int) == 3) = false := beq_eq_false_iff_ne.2 (by omega)
       have q3 : ¬ r = 0 := r0
       have q4 : 0 < r := by omega
       have q5 : ¬ r = 3 := r1)
  all_goals
    go_enter Tryz.func9, Tryz.ntmps9
    go_wp2
    have HB0 := HB00.out
    have HM := HM0.out
    have hi := HI.out
    have hj := HJ.out
    have hy := HY.out
    have hx := HX.out
    clear HB00 HM0 HI HJ HY HX
    refine wp_region_held_drew (S := fun w' => True) (by kernel_rfl) trivial (fun hS => ?_)
    rw [HWD.out]
    (try rw [HNZ.out])
    refine takeH 1 pc1 hS ?_
    try simp only [Act.put, pz1, pz2, pz3]
    refine takeH 2 pc2 hS ?_
    try simp only [Act.put, pz1, pz2, pz3]
    refine takeH 6 pc6 hS ?_
    try simp only [Act.put, pz1, pz2, pz3]
    refine takeH 7 pc7 hS ?_
    try simp only [Act.put, pz1, pz2, pz3]
    refine takeH 8 pc8 hS ?_
    try simp only [Act.put, pz1, pz2, pz3]
    refine takeH 11 pc11 hS ?_
    try simp only [Act.put, pz1, pz2, pz3]
    refine takeH 12 pc12 hS ?_
    try simp only [Act.put, pz1, pz2, pz3]
    refine takeH 13 pc13 hS ?_
    try simp only [Act.put, pz1, pz2, pz3]
    refine takeH 14 pc14 hS ?_
    try simp only [Act.put, pz1, pz2, pz3]
    refine takeH 15 pc15 hS ?_
    try simp only [Act.put, pz1, pz2, pz3]
    refine wpAnyH_ready (rs := [0, 5]) (by kernel_rfl) (by simp) ?_
    refine AllReadyH.cons (o := pc0) rfl (fun K hK => ?_) ?_
    ·
      go_simp
      have hb3 : Below WD.heap.size WD (WD.alloc (.cells #[.string ⟨#[110]⟩, .string ⟨#[100, 117, 114]⟩] 9)) := (Below.refl _ _).alloc (Nat.le_refl _) _
      obtain ⟨g0, hg0⟩ : ∃ g, WD.heap.size = g := ⟨_, rfl⟩
      have n0_ := tlit WD nms4 g0 hg0.symm i hi
      rw [hy] at n0_
      (try simp only [nms4, List.map_cons, List.map_nil] at n0_)
      have lg0 : W.heap.size + 1 < g0 := by rw [← hg0]; exact HM.lt
      obtain ⟨d1, hwc⟩ : ∃ z, WD.alloc (.cells #[.string ⟨#[110]⟩, .string ⟨#[100, 117, 114]⟩] 9) = z := ⟨_, rfl⟩
      rw [hwc] at hb3 n0_
      rw [hwc, hg0]
      clear hwc hg0
      have hSn : (fun w' => True) d1 := trivial
      refine hK.out _ _ hSn (fun _ => ?_)
      clear hK K
      try simp only [Act.put, pz1, pz2, pz3]
      have HB0_ := hop HB0 (Nat.le_refl _) hb3
      clear HB0
      have HB0 := HB0_
      clear HB0_
      have HM_ := HM.below_ hb3
      clear HM
      have HM := HM_
      clear HM_
      refine wpAnyH_grow (S' := fun w' => w'.cell? ⟨g0, i, none⟩ = some (.string y) ∧ True) (fun _ h => h.2) ?_
      have hSm : (fun w' => w'.cell? ⟨g0, i, none⟩ = some (.string y) ∧ True) d1 := ⟨n0_, hSn⟩
      clear hS hSn hb3 n0_
      have hS := hSm
      clear hSm
      refine takeH 3 pc3 hS ?_
      try simp only [Act.put, pz1, pz2, pz3]
      refine takeH 4 pc4 hS ?_
      try simp only [Act.put, pz1, pz2, pz3]
      refine wpAnyH_ready (rs := [5]) (by kernel_rfl) (by simp) ?_
      refine AllReadyH.cons (o := pc5) rfl (fun K hK => ?_) AllReadyH.nil
      go_simp
      have hb3 : Below d1.heap.size d1 (d1.alloc (.cells #[.string ⟨#[61, 61]⟩, .string ⟨#[33, 61]⟩, .string ⟨#[62]⟩, .string ⟨#[62, 61]⟩, .string ⟨#[60]⟩, .string ⟨#[60, 61]⟩] 9)) := (Below.refl _ _).alloc (Nat.le_refl _) _
      obtain ⟨g5, hg5⟩ : ∃ g, d1.heap.size = g := ⟨_, rfl⟩
      have n0_ := tlit d1 nops8 g5 hg5.symm j hj
      rw [hx] at n0_
      (try simp only [nops8, List.map_cons, List.map_nil] at n0_)
      have lg5 : W.heap.size + 1 < g5 := by rw [← hg5]; exact HM.lt
      obtain ⟨d2, hwc⟩ : ∃ z, d1.alloc (.cells #[.string ⟨#[61, 61]⟩, .string ⟨#[33, 61]⟩, .string ⟨#[62]⟩, .string ⟨#[62, 61]⟩, .string ⟨#[60]⟩, .string ⟨#[60, 61]⟩] 9) = z := ⟨_, rfl⟩
      rw [hwc] at hb3 n0_
      rw [hwc, hg5]
      clear hwc hg5
      have hSn : (fun w' => w'.cell? ⟨g0, i, none⟩ = some (.string y) ∧ True) d2 := ⟨cell_keep hb3 hS.1, trivial⟩
      refine hK.out _ _ hSn (fun _ => ?_)
      clear hK K
      try simp only [Act.put, pz1, pz2, pz3]
      have HB0_ := hop HB0 (Nat.le_refl _) hb3
      clear HB0
      have HB0 := HB0_
      clear HB0_
      have HM_ := HM.below_ hb3
      clear HM
      have HM := HM_
      clear HM_
      refine wpAnyH_grow (S' := fun w' => w'.cell? ⟨g5, j, none⟩ = some (.string x) ∧ w'.cell? ⟨g0, i, none⟩ = some (.string y) ∧ True) (fun _ h => h.2) ?_
      have hSm : (fun w' => w'.cell? ⟨g5, j, none⟩ = some (.string x) ∧ w'.cell? ⟨g0, i, none⟩ = some (.string y) ∧ True) d2 := ⟨n0_, hSn⟩
      clear hS hSn hb3 n0_
      have hS := hSm
      clear hSm
      refine takeH 9 pc9 hS ?_
      try simp only [Act.put, pz1, pz2, pz3]
      refine takeH 10 pc10 hS ?_
      try simp only [Act.put, pz1, pz2, pz3]
      refine takeH 16 pc16 hS ?_
      try simp only [Act.put, pz1, pz2, pz3]
      refine wpAnyH_ready (rs := [17]) (by kernel_rfl) (by simp) ?_
      refine AllReadyH.cons (o := pc17) rfl (fun K hK => ?_) AllReadyH.nil
      have m0_ := HM.1.cell 0
      have f0_ := HM.1.frozen 0
      have m1_ := HM.1.cell 1
      have f1_ := HM.1.frozen 1
      have m2_ := HM.1.cell 2
      have f2_ := HM.1.frozen 2
      have m3_ := HM.1.cell 3
      have f3_ := HM.1.frozen 3
      have m4_ := HM.1.cell 4
      have f4_ := HM.1.frozen 4
      have m5_ := HM.1.cell 5
      have f5_ := HM.1.frozen 5
      go_simp
      have hSn : (fun w' => w'.cell? ⟨g5, j, none⟩ = some (.string x) ∧ w'.cell? ⟨g0, i, none⟩ = some (.string y) ∧ True) ((((((d2.setCell ⟨W.heap.size + 1, 0, none⟩ (.int .i64 4)).setCell ⟨W.heap.size + 1, 1, none⟩ (.string y)).setCell ⟨W.heap.size + 1, 2, none⟩ (.string x)).setCell ⟨W.heap.size + 1, 3, none⟩ (.string ⟨#[]⟩)).setCell ⟨W.heap.size + 1, 4, none⟩ (.int .i64 0)).setCell ⟨W.heap.size + 1, 5, none⟩ (.int .i64 (u : Int))) := ⟨(cell_far (cell_far (cell_far (cell_far (cell_far (cell_far hS.1 (p := ⟨W.heap.size + 1, 0, none⟩) (by show W.heap.size + 1 ≠ g5; omega)) (p := ⟨W.heap.size + 1, 1, none⟩) (by show W.heap.size + 1 ≠ g5; omega)) (p := ⟨W.heap.size + 1, 2, none⟩) (by show W.heap.size + 1 ≠ g5; omega)) (p := ⟨W.heap.size + 1, 3, none⟩) (by show W.heap.size + 1 ≠ g5; omega)) (p := ⟨W.heap.size + 1, 4, none⟩) (by show W.heap.size + 1 ≠ g5; omega)) (p := ⟨W.heap.size + 1, 5, none⟩) (by show W.heap.size + 1 ≠ g5; omega)), (cell_far (cell_far (cell_far (cell_far (cell_far (cell_far hS.2.1 (p := ⟨W.heap.size + 1, 0, none⟩) (by show W.heap.size + 1 ≠ g0; omega)) (p := ⟨W.heap.size + 1, 1, none⟩) (by show W.heap.size + 1 ≠ g0; omega)) (p := ⟨W.heap.size + 1, 2, none⟩) (by show W.heap.size + 1 ≠ g0; omega)) (p := ⟨W.heap.size + 1, 3, none⟩) (by show W.heap.size + 1 ≠ g0; omega)) (p := ⟨W.heap.size + 1, 4, none⟩) (by show W.heap.size + 1 ≠ g0; omega)) (p := ⟨W.heap.size + 1, 5, none⟩) (by show W.heap.size + 1 ≠ g0; omega)), trivial⟩
      have HMn := ((((((HM.1.set_ 0 (.int .i64 4)).set_ 1 (.string y)).set_ 2 (.string x)).set_ 3 (.string ⟨#[]⟩)).set_ 4 (.int .i64 0)).set_ 5 (.int .i64 (u : Int)))
      have HBn := ((((((HB0.setCell (p := ⟨W.heap.size + 1, 0, none⟩) HM.2 (.int .i64 4)).setCell (p := ⟨W.heap.size + 1, 1, none⟩) HM.2 (.string y)).setCell (p := ⟨W.heap.size + 1, 2, none⟩) HM.2 (.string x)).setCell (p := ⟨W.heap.size + 1, 3, none⟩) HM.2 (.string ⟨#[]⟩)).setCell (p := ⟨W.heap.size + 1, 4, none⟩) HM.2 (.int .i64 0)).setCell (p := ⟨W.heap.size + 1, 5, none⟩) HM.2 (.int .i64 (u : Int)))
      refine hK.out _ _ hSn (fun _ => ?_)
      clear hK K
      try simp only [Act.put, pz1, pz2, pz3]
      refine wpAnyH_done (by kernel_rfl) ?_ _
      go_wp2
      refine bodyPost_ret (results_cell_row rfl _ _ (W.heap.size + 1) 27 #[.int .i64 4, .string y, .string x, .string ⟨#[]⟩, .int .i64 0, .int .i64 (u : Int)] (0, 0) _ rfl HMn Tryz.underlying27 rfl (by kernel_rfl)) rfl ?_
      exact ⟨rfl, HBn⟩
    refine AllReadyH.cons (o := pc5) rfl (fun K hK => ?_) AllReadyH.nil
    ·
      go_simp
      have hb3 : Below WD.heap.size WD (WD.alloc (.cells #[.string ⟨#[61, 61]⟩, .string ⟨#[33, 61]⟩, .string ⟨#[62]⟩, .string ⟨#[62, 61]⟩, .string ⟨#[60]⟩, .string ⟨#[60, 61]⟩] 9)) := (Below.refl _ _).alloc (Nat.le_refl _) _
      obtain ⟨g5, hg5⟩ : ∃ g, WD.heap.size = g := ⟨_, rfl⟩
      have n0_ := tlit WD nops8 g5 hg5.symm j hj
      rw [hx] at n0_
      (try simp only [nops8, List.map_cons, List.map_nil] at n0_)
      have lg5 : W.heap.size + 1 < g5 := by rw [← hg5]; exact HM.lt
      obtain ⟨d4, hwc⟩ : ∃ z, WD.alloc (.cells #[.string ⟨#[61, 61]⟩, .string ⟨#[33, 61]⟩, .string ⟨#[62]⟩, .string ⟨#[62, 61]⟩, .string ⟨#[60]⟩, .string ⟨#[60, 61]⟩] 9) = z := ⟨_, rfl⟩
      rw [hwc] at hb3 n0_
      rw [hwc, hg5]
      clear hwc hg5
      have hSn : (fun w' => True) d4 := trivial
      refine hK.out _ _ hSn (fun _ => ?_)
      clear hK K
      try simp only [Act.put, pz1, pz2, pz3]
      have HB0_ := hop HB0 (Nat.le_refl _) hb3
      clear HB0
      have HB0 := HB0_
      clear HB0_
      have HM_ := HM.below_ hb3
      clear HM
      have HM := HM_
      clear HM_
      refine wpAnyH_grow (S' := fun w' => w'.cell? ⟨g5, j, none⟩ = some (.string x) ∧ True) (fun _ h => h.2) ?_
      have hSm : (fun w' => w'.cell? ⟨g5, j, none⟩ = some (.string x) ∧ True) d4 := ⟨n0_, hSn⟩
      clear hS hSn hb3 n0_
      have hS := hSm
      clear hSm
      refine takeH 9 pc9 hS ?_
      try simp only [Act.put, pz1, pz2, pz3]
      refine takeH 10 pc10 hS ?_
      try simp only [Act.put, pz1, pz2, pz3]
      refine wpAnyH_ready (rs := [0]) (by kernel_rfl) (by simp) ?_
      refine AllReadyH.cons (o := pc0) rfl (fun K hK => ?_) AllReadyH.nil
      go_simp
      have hb3 : Below d4.heap.size d4 (d4.alloc (.cells #[.string ⟨#[110]⟩, .string ⟨#[100, 117, 114]⟩] 9)) := (Below.refl _ _).alloc (Nat.le_refl _) _
      obtain ⟨g0, hg0⟩ : ∃ g, d4.heap.size = g := ⟨_, rfl⟩
      have n0_ := tlit d4 nms4 g0 hg0.symm i hi
      rw [hy] at n0_
      (try simp only [nms4, List.map_cons, List.map_nil] at n0_)
      have lg0 : W.heap.size + 1 < g0 := by rw [← hg0]; exact HM.lt
      obtain ⟨d5, hwc⟩ : ∃ z, d4.alloc (.cells #[.string ⟨#[110]⟩, .string ⟨#[100, 117, 114]⟩] 9) = z := ⟨_, rfl⟩
      rw [hwc] at hb3 n0_
      rw [hwc, hg0]
      clear hwc hg0
      have hSn : (fun w' => w'.cell? ⟨g5, j, none⟩ = some (.string x) ∧ True) d5 := ⟨cell_keep hb3 hS.1, trivial⟩
      refine hK.out _ _ hSn (fun _ => ?_)
      clear hK K
      try simp only [Act.put, pz1, pz2, pz3]
      have HB0_ := hop HB0 (Nat.le_refl _) hb3
      clear HB0
      have HB0 := HB0_
      clear HB0_
      have HM_ := HM.below_ hb3
      clear HM
      have HM := HM_
      clear HM_
      refine wpAnyH_grow (S' := fun w' => w'.cell? ⟨g0, i, none⟩ = some (.string y) ∧ w'.cell? ⟨g5, j, none⟩ = some (.string x) ∧ True) (fun _ h => h.2) ?_
      have hSm : (fun w' => w'.cell? ⟨g0, i, none⟩ = some (.string y) ∧ w'.cell? ⟨g5, j, none⟩ = some (.string x) ∧ True) d5 := ⟨n0_, hSn⟩
      clear hS hSn hb3 n0_
      have hS := hSm
      clear hSm
      refine takeH 3 pc3 hS ?_
      try simp only [Act.put, pz1, pz2, pz3]
      refine takeH 4 pc4 hS ?_
      try simp only [Act.put, pz1, pz2, pz3]
      refine takeH 16 pc16 hS ?_
      try simp only [Act.put, pz1, pz2, pz3]
      refine wpAnyH_ready (rs := [17]) (by kernel_rfl) (by simp) ?_
      refine AllReadyH.cons (o := pc17) rfl (fun K hK => ?_) AllReadyH.nil
      have m0_ := HM.1.cell 0
      have f0_ := HM.1.frozen 0
      have m1_ := HM.1.cell 1
      have f1_ := HM.1.frozen 1
      have m2_ := HM.1.cell 2
      have f2_ := HM.1.frozen 2
      have m3_ := HM.1.cell 3
      have f3_ := HM.1.frozen 3
      have m4_ := HM.1.cell 4
      have f4_ := HM.1.frozen 4
      have m5_ := HM.1.cell 5
      have f5_ := HM.1.frozen 5
      go_simp
      have hSn : (fun w' => w'.cell? ⟨g0, i, none⟩ = some (.string y) ∧ w'.cell? ⟨g5, j, none⟩ = some (.string x) ∧ True) ((((((d5.setCell ⟨W.heap.size + 1, 0, none⟩ (.int .i64 4)).setCell ⟨W.heap.size + 1, 1, none⟩ (.string y)).setCell ⟨W.heap.size + 1, 2, none⟩ (.string x)).setCell ⟨W.heap.size + 1, 3, none⟩ (.string ⟨#[]⟩)).setCell ⟨W.heap.size + 1, 4, none⟩ (.int .i64 0)).setCell ⟨W.heap.size + 1, 5, none⟩ (.int .i64 (u : Int))) := ⟨(cell_far (cell_far (cell_far (cell_far (cell_far (cell_far hS.1 (p := ⟨W.heap.size + 1, 0, none⟩) (by show W.heap.size + 1 ≠ g0; omega)) (p := ⟨W.heap.size + 1, 1, none⟩) (by show W.heap.size + 1 ≠ g0; omega)) (p := ⟨W.heap.size + 1, 2, none⟩) (by show W.heap.size + 1 ≠ g0; omega)) (p := ⟨W.heap.size + 1, 3, none⟩) (by show W.heap.size + 1 ≠ g0; omega)) (p := ⟨W.heap.size + 1, 4, none⟩) (by show W.heap.size + 1 ≠ g0; omega)) (p := ⟨W.heap.size + 1, 5, none⟩) (by show W.heap.size + 1 ≠ g0; omega)), (cell_far (cell_far (cell_far (cell_far (cell_far (cell_far hS.2.1 (p := ⟨W.heap.size + 1, 0, none⟩) (by show W.heap.size + 1 ≠ g5; omega)) (p := ⟨W.heap.size + 1, 1, none⟩) (by show W.heap.size + 1 ≠ g5; omega)) (p := ⟨W.heap.size + 1, 2, none⟩) (by show W.heap.size + 1 ≠ g5; omega)) (p := ⟨W.heap.size + 1, 3, none⟩) (by show W.heap.size + 1 ≠ g5; omega)) (p := ⟨W.heap.size + 1, 4, none⟩) (by show W.heap.size + 1 ≠ g5; omega)) (p := ⟨W.heap.size + 1, 5, none⟩) (by show W.heap.size + 1 ≠ g5; omega)), trivial⟩
      have HMn := ((((((HM.1.set_ 0 (.int .i64 4)).set_ 1 (.string y)).set_ 2 (.string x)).set_ 3 (.string ⟨#[]⟩)).set_ 4 (.int .i64 0)).set_ 5 (.int .i64 (u : Int)))
      have HBn := ((((((HB0.setCell (p := ⟨W.heap.size + 1, 0, none⟩) HM.2 (.int .i64 4)).setCell (p := ⟨W.heap.size + 1, 1, none⟩) HM.2 (.string y)).setCell (p := ⟨W.heap.size + 1, 2, none⟩) HM.2 (.string x)).setCell (p := ⟨W.heap.size + 1, 3, none⟩) HM.2 (.string ⟨#[]⟩)).setCell (p := ⟨W.heap.size + 1, 4, none⟩) HM.2 (.int .i64 0)).setCell (p := ⟨W.heap.size + 1, 5, none⟩) HM.2 (.int .i64 (u : Int)))
      refine hK.out _ _ hSn (fun _ => ?_)
      clear hK K
      try simp only [Act.put, pz1, pz2, pz3]
      refine wpAnyH_done (by kernel_rfl) ?_ _
      go_wp2
      refine bodyPost_ret (results_cell_row rfl _ _ (W.heap.size + 1) 27 #[.int .i64 4, .string y, .string x, .string ⟨#[]⟩, .int .i64 0, .int .i64 (u : Int)] (0, 0) _ rfl HMn Tryz.underlying27 rfl (by kernel_rfl)) rfl ?_
      exact ⟨rfl, HBn⟩
end Go.Proofs.YtepokdmkdnlbfaaGreatDoor
