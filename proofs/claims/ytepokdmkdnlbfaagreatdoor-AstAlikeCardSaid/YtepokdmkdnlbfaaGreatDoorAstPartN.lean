-- shaken
import Derived.Test.YtepokdmkdnlbfaaGreatDoorAstPart
import Derived.Deep.CutRange
import Derived.Test.YtepokdmkdnlbfaaGreatDoorMem
namespace Go.Proofs.YtepokdmkdnlbfaaGreatDoor
open Go.RowKit
set_option linter.unusedVariables false
set_option linter.unusedSimpArgs false
set_option maxRecDepth 100000 in
set_option maxHeartbeats 16000000 in
theorem part3_own (sk : Int) (snm sop sv : ByteArray) (sn su : Int) (K k q e i j r u : Nat) (N : Int) (hN : Num64 N) (hi : i < 2) (hj : j < 6) (hr4 : r < 4) (hu3 : u < 3) (hK : (K : Int).tmod 4 = 3) (hk : (K : Int) / 4 = (k : Int)) (wk : IntKind.u8.wrap (k : Int) = (k : Int)) (hki : (k : Int).tmod 2 = (i : Int)) (hq : (k : Int) / 2 = (q : Int)) (wq : IntKind.u8.wrap (q : Int) = (q : Int)) (hqj : (q : Int).tmod 6 = (j : Int)) (he : (k : Int) / 12 = (e : Int)) (hwe : IntKind.u8.wrap (e : Int) = (e : Int)) (heu : (e : Int).tmod 3 = (u : Int)) (hkr : (k : Int).tmod 4 = (r : Int)) (W : World) :
    Calls Tryz.prog 9 #[.agg #[.int .i64 sk, .string snm, .string sop, .string sv, .int .i64 sn, .int .i64 su, .bool true, .int .u8 (K : Int), .int .i64 N]] W fun r_ w' => r_ = .returned (.agg #[.int .i64 4, .string (nms4.getD i .empty), .string (nops8.getD j .empty), .string ⟨#[]⟩, .int .i64 (numF r N), .int .i64 (u : Int)]) ∧ Below W.heap.size W w' := by
  have iI : (i : Int) < 2 := by omega
  have hwi : IntKind.u8.wrap (i : Int) = (i : Int) := by rw [IntKind.wrap_u8]; omega
  have jI : (j : Int) < 6 := by omega
  have hwj : IntKind.u8.wrap (j : Int) = (j : Int) := by rw [IntKind.wrap_u8]; omega
  have wu : IntKind.u8.wrap (u : Int) = (u : Int) := by rw [IntKind.wrap_u8]; omega
  have wu2 : IntKind.i64.wrap (u : Int) = (u : Int) := by rw [IntKind.wrap_i64]; omega
  have wr : IntKind.u8.wrap (r : Int) = (r : Int) := by rw [IntKind.wrap_u8]; omega
  obtain ⟨y, hy⟩ : ∃ y, nms4.getD i .empty = y := ⟨_, rfl⟩
  obtain ⟨x, hx⟩ : ∃ y, nops8.getD j .empty = y := ⟨_, rfl⟩
  obtain ⟨b, hb⟩ : ∃ b : Int, (if N < 0 then -(N + 1) else N) = b := ⟨_, rfl⟩
  obtain ⟨z, hz⟩ : ∃ z, numF r N = z := ⟨_, rfl⟩
  rw [hy, hx, hz]
  unfold numF at hz
  rw [hb] at hz
  unfold Num64 at hN
  have b0 : 0 ≤ b ∧ b ≤ 9223372036854775807 := by rw [← hb]; split <;> omega
  obtain ⟨d, hd⟩ : ∃ d : Int, b.tmod 10 = d := ⟨_, rfl⟩
  have d0 : 0 ≤ d ∧ d ≤ 9 := by rw [← hd, Int.tmod_eq_emod_of_nonneg b0.1]; omega
  have hd' : b % 10 = d := by rw [← hd, Int.tmod_eq_emod_of_nonneg b0.1]
  have wd : IntKind.i64.wrap d = d := by rw [IntKind.wrap_i64]; omega
  have wdm : IntKind.i64.wrap (d * 60000000000) = d * 60000000000 := by rw [IntKind.wrap_i64]; omega
  rw [hd] at hz
  have HB00 := Lib.hid (show Below W.heap.size W ((W.alloc (.cells #[.int .i64 sk, .string snm, .string sop, .string sv, .int .i64 sn, .int .i64 su, .bool true, .int .u8 (K : Int), .int .i64 N] 29)).alloc (.cells #[.int .i64 0, .string ⟨#[]⟩, .string ⟨#[]⟩, .string ⟨#[]⟩, .int .i64 0, .int .i64 0] 27)).drew from below_drewN (((Below.refl W.heap.size W).alloc (Nat.le_refl _) (.cells #[.int .i64 sk, .string snm, .string sop, .string sv, .int .i64 sn, .int .i64 su, .bool true, .int .u8 (K : Int), .int .i64 N] 29)).alloc (by simp) (.cells #[.int .i64 0, .string ⟨#[]⟩, .string ⟨#[]⟩, .string ⟨#[]⟩, .int .i64 0, .int .i64 0] 27)) 1)
  have HM0 := Lib.hid (show BlkH W.heap.size ((W.alloc (.cells #[.int .i64 sk, .string snm, .string sop, .string sv, .int .i64 sn, .int .i64 su, .bool true, .int .u8 (K : Int), .int .i64 N] 29)).alloc (.cells #[.int .i64 0, .string ⟨#[]⟩, .string ⟨#[]⟩, .string ⟨#[]⟩, .int .i64 0, .int .i64 0] 27)).drew (W.heap.size + 1) 27 #[.int .i64 0, .string ⟨#[]⟩, .string ⟨#[]⟩, .string ⟨#[]⟩, .int .i64 0, .int .i64 0] from ⟨blk_next W _ _ _, by omega⟩)
  obtain ⟨WD, hwd⟩ : ∃ w, ((W.alloc (.cells #[.int .i64 sk, .string snm, .string sop, .string sv, .int .i64 sn, .int .i64 su, .bool true, .int .u8 (K : Int), .int .i64 N] 29)).alloc (.cells #[.int .i64 0, .string ⟨#[]⟩, .string ⟨#[]⟩, .string ⟨#[]⟩, .int .i64 0, .int .i64 0] 27)).drew = w := ⟨_, rfl⟩
  have HWD := Lib.hid hwd
  rw [hwd] at HB00 HM0
  clear hwd
  have HI := Lib.hid hi
  have HJ := Lib.hid hj
  have HY := Lib.hid hy
  have HX := Lib.hid hx
  have HD := Lib.hid hd
  have HE := Lib.hid hd'
  have HW := Lib.hid wd
  have HV := Lib.hid wdm
  have HZ := Lib.hid hz
  clear hi hj hy hx
  obtain ⟨a, ha⟩ : ∃ a : Int, N + 1 = a := ⟨_, rfl⟩
  have hcase : (N < 0 ∧ IntKind.i64.wrap (N + 1) = a ∧ IntKind.i64.wrap (-a) = b) ∨ (¬ N < 0 ∧ Hid (N = b)) := by
    by_cases h : N < 0
    · rw [if_pos h, ha] at hb
      exact .inl ⟨h, by rw [← ha, IntKind.wrap_i64]; omega, by rw [hb, IntKind.wrap_i64]; omega⟩
    · rw [if_neg h] at hb
      exact .inr ⟨h, Lib.hid hb⟩
  have b00 := b0.1
  clear hb ha hd hd' wd wdm hz b0 d0 hN
  go_enter Tryz.func9, Tryz.ntmps9
  go_upto_if 50 with fail
  go_cut [4] from 5 (fun s wc => s = .int .i64 b ∧ wc = ((W.alloc (.cells #[.int .i64 sk, .string snm, .string sop, .string sv, .int .i64 sn, .int .i64 su, .bool true, .int .u8 (K : Int), .int .i64 N] 29)).alloc (.cells #[.int .i64 0, .string ⟨#[]⟩, .string ⟨#[]⟩, .string ⟨#[]⟩, .int .i64 0, .int .i64 0] 27)))
  case first =>
    rcases hcase with ⟨n1, n3, n4⟩ | ⟨n1, n2⟩
    · go_wp2_with fail
      go_meet
      exact ⟨rfl, rfl⟩
    · go_wp2_with fail
      go_meet
      exact ⟨congrArg _ n2.out, rfl⟩
  case rest =>
    obtain ⟨rfl, rfl⟩ := hcut
    clear hcase
    go_upto_if 56 with fail
    go_cut [4] from 5 (fun s wc => s = .int .i64 z ∧ wc = ((W.alloc (.cells #[.int .i64 sk, .string snm, .string sop, .string sv, .int .i64 sn, .int .i64 su, .bool true, .int .u8 (K : Int), .int .i64 N] 29)).alloc (.cells #[.int .i64 0, .string ⟨#[]⟩, .string ⟨#[]⟩, .string ⟨#[]⟩, .int .i64 0, .int .i64 0] 27)))
    case first =>
      rcases (show r = 0 ∨ r = 3 ∨ (r ≠ 0 ∧ r ≠ 3) by omega) with r0 | r0 | ⟨r0, r1⟩
      · subst r0
        have hz := HZ.out
        rw [if_pos rfl] at hz
        have hz2 := Lib.hid hz
        clear hz
        go_wp2_with fail
        go_meet
        exact ⟨congrArg _ hz2.out, rfl⟩
      · subst r0
        have hz := HZ.out
        rw [if_neg (by decide), if_pos rfl] at hz
        have hz2 := Lib.hid hz
        have hd := HD.out
        have hd' := HE.out
        have wd := HW.out
        have wdm := HV.out
        clear hz
        go_wp2_with fail
        go_meet
        exact ⟨congrArg _ hz2.out, rfl⟩
      · have q0 : ¬ (r : Int) = 0 := by omega
        have q1 : (0 : Int) < (r : Int) := by omega
        have q2 : ((r : Int) == 3) = false := beq_eq_false_iff_ne.2 (by omega)
        have q3 : ¬ r = 0 := r0
        have q4 : 0 < r := by omega
        have q5 : ¬ r = 3 := r1
        have hz := HZ.out
        rw [if_neg r0, if_neg r1] at hz
        have hz2 := Lib.hid hz
        have hd := HD.out
        have hd' := HE.out
        have wd := HW.out
        clear hz
        go_wp2_with fail
        go_meet
        exact ⟨congrArg _ hz2.out, rfl⟩
    case rest =>
      obtain ⟨rfl, rfl⟩ := hcut
      have HB0 := HB00.out
      have HM := HM0.out
      have hi := HI.out
      have hj := HJ.out
      have hy := HY.out
      have hx := HX.out
      clear HB00 HM0 HI HJ HY HX HD HE HW HV HZ
      go_wp2
      refine wp_region_held_drew (S := fun w' => True) (by kernel_rfl) trivial (fun hS => ?_)
      rw [HWD.out]
      (try rw [HNZ.out])
      refine tV 1 ?_; refine tV 2 ?_; refine tV 6 ?_; refine tV 7 ?_; refine tV 8 ?_; refine tV 11 ?_; refine tV 12 ?_; refine tV 13 ?_; refine tV 14 ?_; refine tV 15 ?_
      refine rdy [0, 5] ?_
      refine rdC (fun K hK => ?_) ?_
      ·
        go_simp
        have hb3 : Below WD.heap.size WD (WD.alloc (.cells #[.string ⟨#[110]⟩, .string ⟨#[100, 117, 114]⟩] 9)) := (Below.refl _ _).alloc (Nat.le_refl _) _
        obtain ⟨g0, hg0⟩ : ∃ g, WD.heap.size = g := ⟨_, rfl⟩
        have n0_ := tlit WD nms4 g0 hg0.symm i hi
        rw [hy] at n0_
        (try simp only [nms4, List.map_cons, List.map_nil] at n0_)
        have lg0 : W.heap.size + 1 < g0 := by rw [← hg0]; exact HM.lt
        obtain ⟨d1, hwc⟩ : ∃ z, WD.alloc (.cells #[.string ⟨#[110]⟩, .string ⟨#[100, 117, 114]⟩] 9) = z := ⟨_, rfl⟩
        rw [hwc] at hb3 n0_
        rw [hwc, hg0]
        clear hwc hg0
        have hSn : (fun w' => True) d1 := trivial
        refine hK.out _ _ hSn (fun _ => ?_)
        clear hK K
        try simp only [Act.put, pz1, pz2, pz3]
        have HB0_ := hop HB0 (Nat.le_refl _) hb3
        clear HB0
        have HB0 := HB0_
        clear HB0_
        have HM_ := HM.below_ hb3
        clear HM
        have HM := HM_
        clear HM_
        refine wpAnyH_grow (S' := fun w' => w'.cell? ⟨g0, i, none⟩ = some (.string y) ∧ True) (fun _ h => h.2) ?_
        have hSm : (fun w' => w'.cell? ⟨g0, i, none⟩ = some (.string y) ∧ True) d1 := ⟨n0_, hSn⟩
        clear hS hSn hb3 n0_
        have hS := hSm
        clear hSm
        refine tV 3 ?_; refine tH 4 ?_
        refine rdy [5] ?_
        refine rdC (fun K hK => ?_) AllReadyH.nil
        go_simp
        have hb3 : Below d1.heap.size d1 (d1.alloc (.cells #[.string ⟨#[61, 61]⟩, .string ⟨#[33, 61]⟩, .string ⟨#[62]⟩, .string ⟨#[62, 61]⟩, .string ⟨#[60]⟩, .string ⟨#[60, 61]⟩] 9)) := (Below.refl _ _).alloc (Nat.le_refl _) _
        obtain ⟨g5, hg5⟩ : ∃ g, d1.heap.size = g := ⟨_, rfl⟩
        have n0_ := tlit d1 nops8 g5 hg5.symm j hj
        rw [hx] at n0_
        (try simp only [nops8, List.map_cons, List.map_nil] at n0_)
        have lg5 : W.heap.size + 1 < g5 := by rw [← hg5]; exact HM.lt
        obtain ⟨d2, hwc⟩ : ∃ z, d1.alloc (.cells #[.string ⟨#[61, 61]⟩, .string ⟨#[33, 61]⟩, .string ⟨#[62]⟩, .string ⟨#[62, 61]⟩, .string ⟨#[60]⟩, .string ⟨#[60, 61]⟩] 9) = z := ⟨_, rfl⟩
        rw [hwc] at hb3 n0_
        rw [hwc, hg5]
        clear hwc hg5
        have hSn : (fun w' => w'.cell? ⟨g0, i, none⟩ = some (.string y) ∧ True) d2 := ⟨cell_keep hb3 hS.1, trivial⟩
        refine hK.out _ _ hSn (fun _ => ?_)
        clear hK K
        try simp only [Act.put, pz1, pz2, pz3]
        have HB0_ := hop HB0 (Nat.le_refl _) hb3
        clear HB0
        have HB0 := HB0_
        clear HB0_
        have HM_ := HM.below_ hb3
        clear HM
        have HM := HM_
        clear HM_
        refine wpAnyH_grow (S' := fun w' => w'.cell? ⟨g5, j, none⟩ = some (.string x) ∧ w'.cell? ⟨g0, i, none⟩ = some (.string y) ∧ True) (fun _ h => h.2) ?_
        have hSm : (fun w' => w'.cell? ⟨g5, j, none⟩ = some (.string x) ∧ w'.cell? ⟨g0, i, none⟩ = some (.string y) ∧ True) d2 := ⟨n0_, hSn⟩
        clear hS hSn hb3 n0_
        have hS := hSm
        clear hSm
        refine tV 9 ?_; refine tH 10 ?_; refine tV 16 ?_
        refine rdy [17] ?_
        refine rdC (fun K hK => ?_) AllReadyH.nil
        have m0_ := HM.1.cell 0
        have f0_ := HM.1.frozen 0
        have m1_ := HM.1.cell 1
        have f1_ := HM.1.frozen 1
        have m2_ := HM.1.cell 2
        have f2_ := HM.1.frozen 2
        have m3_ := HM.1.cell 3
        have f3_ := HM.1.frozen 3
        have m4_ := HM.1.cell 4
        have f4_ := HM.1.frozen 4
        have m5_ := HM.1.cell 5
        have f5_ := HM.1.frozen 5
        go_simp
        have hSn : (fun w' => w'.cell? ⟨g5, j, none⟩ = some (.string x) ∧ w'.cell? ⟨g0, i, none⟩ = some (.string y) ∧ True) ((((((d2.setCell ⟨W.heap.size + 1, 0, none⟩ (.int .i64 4)).setCell ⟨W.heap.size + 1, 1, none⟩ (.string y)).setCell ⟨W.heap.size + 1, 2, none⟩ (.string x)).setCell ⟨W.heap.size + 1, 3, none⟩ (.string ⟨#[]⟩)).setCell ⟨W.heap.size + 1, 4, none⟩ (.int .i64 z)).setCell ⟨W.heap.size + 1, 5, none⟩ (.int .i64 (u : Int))) := ⟨(cell_far (cell_far (cell_far (cell_far (cell_far (cell_far hS.1 (p := ⟨W.heap.size + 1, 0, none⟩) (by show W.heap.size + 1 ≠ g5; omega)) (p := ⟨W.heap.size + 1, 1, none⟩) (by show W.heap.size + 1 ≠ g5; omega)) (p := ⟨W.heap.size + 1, 2, none⟩) (by show W.heap.size + 1 ≠ g5; omega)) (p := ⟨W.heap.size + 1, 3, none⟩) (by show W.heap.size + 1 ≠ g5; omega)) (p := ⟨W.heap.size + 1, 4, none⟩) (by show W.heap.size + 1 ≠ g5; omega)) (p := ⟨W.heap.size + 1, 5, none⟩) (by show W.heap.size + 1 ≠ g5; omega)), (cell_far (cell_far (cell_far (cell_far (cell_far (cell_far hS.2.1 (p := ⟨W.heap.size + 1, 0, none⟩) (by show W.heap.size + 1 ≠ g0; omega)) (p := ⟨W.heap.size + 1, 1, none⟩) (by show W.heap.size + 1 ≠ g0; omega)) (p := ⟨W.heap.size + 1, 2, none⟩) (by show W.heap.size + 1 ≠ g0; omega)) (p := ⟨W.heap.size + 1, 3, none⟩) (by show W.heap.size + 1 ≠ g0; omega)) (p := ⟨W.heap.size + 1, 4, none⟩) (by show W.heap.size + 1 ≠ g0; omega)) (p := ⟨W.heap.size + 1, 5, none⟩) (by show W.heap.size + 1 ≠ g0; omega)), trivial⟩
        have HMn := ((((((HM.1.set_ 0 (.int .i64 4)).set_ 1 (.string y)).set_ 2 (.string x)).set_ 3 (.string ⟨#[]⟩)).set_ 4 (.int .i64 z)).set_ 5 (.int .i64 (u : Int)))
        have HBn := ((((((HB0.setCell (p := ⟨W.heap.size + 1, 0, none⟩) HM.2 (.int .i64 4)).setCell (p := ⟨W.heap.size + 1, 1, none⟩) HM.2 (.string y)).setCell (p := ⟨W.heap.size + 1, 2, none⟩) HM.2 (.string x)).setCell (p := ⟨W.heap.size + 1, 3, none⟩) HM.2 (.string ⟨#[]⟩)).setCell (p := ⟨W.heap.size + 1, 4, none⟩) HM.2 (.int .i64 z)).setCell (p := ⟨W.heap.size + 1, 5, none⟩) HM.2 (.int .i64 (u : Int)))
        refine hK.out _ _ hSn (fun _ => ?_)
        clear hK K
        try simp only [Act.put, pz1, pz2, pz3]
        refine wpAnyH_done (by kernel_rfl) ?_ _
        go_wp2
        refine bodyPost_ret (results_cell_row rfl _ _ (W.heap.size + 1) 27 #[.int .i64 4, .string y, .string x, .string ⟨#[]⟩, .int .i64 z, .int .i64 (u : Int)] (0, 0) _ rfl HMn Tryz.underlying27 rfl (by kernel_rfl)) rfl ?_
        exact ⟨rfl, HBn⟩
      refine rdC (fun K hK => ?_) AllReadyH.nil
      ·
        go_simp
        have hb3 : Below WD.heap.size WD (WD.alloc (.cells #[.string ⟨#[61, 61]⟩, .string ⟨#[33, 61]⟩, .string ⟨#[62]⟩, .string ⟨#[62, 61]⟩, .string ⟨#[60]⟩, .string ⟨#[60, 61]⟩] 9)) := (Below.refl _ _).alloc (Nat.le_refl _) _
        obtain ⟨g5, hg5⟩ : ∃ g, WD.heap.size = g := ⟨_, rfl⟩
        have n0_ := tlit WD nops8 g5 hg5.symm j hj
        rw [hx] at n0_
        (try simp only [nops8, List.map_cons, List.map_nil] at n0_)
        have lg5 : W.heap.size + 1 < g5 := by rw [← hg5]; exact HM.lt
        obtain ⟨d4, hwc⟩ : ∃ z, WD.alloc (.cells #[.string ⟨#[61, 61]⟩, .string ⟨#[33, 61]⟩, .string ⟨#[62]⟩, .string ⟨#[62, 61]⟩, .string ⟨#[60]⟩, .string ⟨#[60, 61]⟩] 9) = z := ⟨_, rfl⟩
        rw [hwc] at hb3 n0_
        rw [hwc, hg5]
        clear hwc hg5
        have hSn : (fun w' => True) d4 := trivial
        refine hK.out _ _ hSn (fun _ => ?_)
        clear hK K
        try simp only [Act.put, pz1, pz2, pz3]
        have HB0_ := hop HB0 (Nat.le_refl _) hb3
        clear HB0
        have HB0 := HB0_
        clear HB0_
        have HM_ := HM.below_ hb3
        clear HM
        have HM := HM_
        clear HM_
        refine wpAnyH_grow (S' := fun w' => w'.cell? ⟨g5, j, none⟩ = some (.string x) ∧ True) (fun _ h => h.2) ?_
        have hSm : (fun w' => w'.cell? ⟨g5, j, none⟩ = some (.string x) ∧ True) d4 := ⟨n0_, hSn⟩
        clear hS hSn hb3 n0_
        have hS := hSm
        clear hSm
        refine tV 9 ?_; refine tH 10 ?_
        refine rdy [0] ?_
        refine rdC (fun K hK => ?_) AllReadyH.nil
        go_simp
        have hb3 : Below d4.heap.size d4 (d4.alloc (.cells #[.string ⟨#[110]⟩, .string ⟨#[100, 117, 114]⟩] 9)) := (Below.refl _ _).alloc (Nat.le_refl _) _
        obtain ⟨g0, hg0⟩ : ∃ g, d4.heap.size = g := ⟨_, rfl⟩
        have n0_ := tlit d4 nms4 g0 hg0.symm i hi
        rw [hy] at n0_
        (try simp only [nms4, List.map_cons, List.map_nil] at n0_)
        have lg0 : W.heap.size + 1 < g0 := by rw [← hg0]; exact HM.lt
        obtain ⟨d5, hwc⟩ : ∃ z, d4.alloc (.cells #[.string ⟨#[110]⟩, .string ⟨#[100, 117, 114]⟩] 9) = z := ⟨_, rfl⟩
        rw [hwc] at hb3 n0_
        rw [hwc, hg0]
        clear hwc hg0
        have hSn : (fun w' => w'.cell? ⟨g5, j, none⟩ = some (.string x) ∧ True) d5 := ⟨cell_keep hb3 hS.1, trivial⟩
        refine hK.out _ _ hSn (fun _ => ?_)
        clear hK K
        try simp only [Act.put, pz1, pz2, pz3]
        have HB0_ := hop HB0 (Nat.le_refl _) hb3
        clear HB0
        have HB0 := HB0_
        clear HB0_
        have HM_ := HM.below_ hb3
        clear HM
        have HM := HM_
        clear HM_
        refine wpAnyH_grow (S' := fun w' => w'.cell? ⟨g0, i, none⟩ = some (.string y) ∧ w'.cell? ⟨g5, j, none⟩ = some (.string x) ∧ True) (fun _ h => h.2) ?_
        have hSm : (fun w' => w'.cell? ⟨g0, i, none⟩ = some (.string y) ∧ w'.cell? ⟨g5, j, none⟩ = some (.string x) ∧ True) d5 := ⟨n0_, hSn⟩
        clear hS hSn hb3 n0_
        have hS := hSm
        clear hSm
        refine tV 3 ?_; refine tH 4 ?_; refine tV 16 ?_
        refine rdy [17] ?_
        refine rdC (fun K hK => ?_) AllReadyH.nil
        have m0_ := HM.1.cell 0
        have f0_ := HM.1.frozen 0
        have m1_ := HM.1.cell 1
        have f1_ := HM.1.frozen 1
        have m2_ := HM.1.cell 2
        have f2_ := HM.1.frozen 2
        have m3_ := HM.1.cell 3
        have f3_ := HM.1.frozen 3
        have m4_ := HM.1.cell 4
        have f4_ := HM.1.frozen 4
        have m5_ := HM.1.cell 5
        have f5_ := HM.1.frozen 5
        go_simp
        have hSn : (fun w' => w'.cell? ⟨g0, i, none⟩ = some (.string y) ∧ w'.cell? ⟨g5, j, none⟩ = some (.string x) ∧ True) ((((((d5.setCell ⟨W.heap.size + 1, 0, none⟩ (.int .i64 4)).setCell ⟨W.heap.size + 1, 1, none⟩ (.string y)).setCell ⟨W.heap.size + 1, 2, none⟩ (.string x)).setCell ⟨W.heap.size + 1, 3, none⟩ (.string ⟨#[]⟩)).setCell ⟨W.heap.size + 1, 4, none⟩ (.int .i64 z)).setCell ⟨W.heap.size + 1, 5, none⟩ (.int .i64 (u : Int))) := ⟨(cell_far (cell_far (cell_far (cell_far (cell_far (cell_far hS.1 (p := ⟨W.heap.size + 1, 0, none⟩) (by show W.heap.size + 1 ≠ g0; omega)) (p := ⟨W.heap.size + 1, 1, none⟩) (by show W.heap.size + 1 ≠ g0; omega)) (p := ⟨W.heap.size + 1, 2, none⟩) (by show W.heap.size + 1 ≠ g0; omega)) (p := ⟨W.heap.size + 1, 3, none⟩) (by show W.heap.size + 1 ≠ g0; omega)) (p := ⟨W.heap.size + 1, 4, none⟩) (by show W.heap.size + 1 ≠ g0; omega)) (p := ⟨W.heap.size + 1, 5, none⟩) (by show W.heap.size + 1 ≠ g0; omega)), (cell_far (cell_far (cell_far (cell_far (cell_far (cell_far hS.2.1 (p := ⟨W.heap.size + 1, 0, none⟩) (by show W.heap.size + 1 ≠ g5; omega)) (p := ⟨W.heap.size + 1, 1, none⟩) (by show W.heap.size + 1 ≠ g5; omega)) (p := ⟨W.heap.size + 1, 2, none⟩) (by show W.heap.size + 1 ≠ g5; omega)) (p := ⟨W.heap.size + 1, 3, none⟩) (by show W.heap.size + 1 ≠ g5; omega)) (p := ⟨W.heap.size + 1, 4, none⟩) (by show W.heap.size + 1 ≠ g5; omega)) (p := ⟨W.heap.size + 1, 5, none⟩) (by show W.heap.size + 1 ≠ g5; omega)), trivial⟩
        have HMn := ((((((HM.1.set_ 0 (.int .i64 4)).set_ 1 (.string y)).set_ 2 (.string x)).set_ 3 (.string ⟨#[]⟩)).set_ 4 (.int .i64 z)).set_ 5 (.int .i64 (u : Int)))
        have HBn := ((((((HB0.setCell (p := ⟨W.heap.size + 1, 0, none⟩) HM.2 (.int .i64 4)).setCell (p := ⟨W.heap.size + 1, 1, none⟩) HM.2 (.string y)).setCell (p := ⟨W.heap.size + 1, 2, none⟩) HM.2 (.string x)).setCell (p := ⟨W.heap.size + 1, 3, none⟩) HM.2 (.string ⟨#[]⟩)).setCell (p := ⟨W.heap.size + 1, 4, none⟩) HM.2 (.int .i64 z)).setCell (p := ⟨W.heap.size + 1, 5, none⟩) HM.2 (.int .i64 (u : Int)))
        refine hK.out _ _ hSn (fun _ => ?_)
        clear hK K
        try simp only [Act.put, pz1, pz2, pz3]
        refine wpAnyH_done (by kernel_rfl) ?_ _
        go_wp2
        refine bodyPost_ret (results_cell_row rfl _ _ (W.heap.size + 1) 27 #[.int .i64 4, .string y, .string x, .string ⟨#[]⟩, .int .i64 z, .int .i64 (u : Int)] (0, 0) _ rfl HMn Tryz.underlying27 rfl (by kernel_rfl)) rfl ?_
        exact ⟨rfl, HBn⟩
end Go.Proofs.YtepokdmkdnlbfaaGreatDoor
