/- The document's own cursors: the walks of its Right, its Put and its Digest, and of a cursor's copy as the document's.
   The document's own Get of a cursor: the walk. -/
import Derived.Test.YtfamcebgcpaolaaGreatDoorRefEntR
import Derived.Test.YtfamcebgcpaolaaGreatDoorCurGet
import Derived.Test.YtfamcebgcpaolaaGreatDoorCurExam
import Derived.Test.YtfamcebgcpaolaaGreatDoorRefCut
namespace Go.Proofs.YtfamcebgcpaolaaGreatDoor
open Go.RowKit
set_option linter.unusedVariables false
set_option linter.unusedSimpArgs false

set_option maxRecDepth 100000 in
set_option maxHeartbeats 800000 in
theorem refRightC_any (dg : Nat) (ln by_ t1 : Int) (A : Option Addr) (n c : Nat) (ps : List PairB) (l1 : ByteArray) (hn : n ≤ 9223372036854775806) (W : World) (h1 : Pairs W A n ps) :
    Calls Tryz.prog 18 #[.agg #[.int .u64 (dg : Int), .int .i64 ln, .int .i64 by_, .int .i64 t1, .slice A n c, .string l1]] W fun e w' => e = .returned (.bool (rightC ln by_ ⟨t1, ps, l1⟩)) ∧ Below W.heap.size W w' := by
  have h0 : W.heap.size ≤ W.heap.size := Nat.le_refl _
  have RT := fun w h => refEntRight_any t1 A n c ps l1 hn w (h1.below h)
  obtain ⟨T, hT⟩ : ∃ T, rightC ln by_ ⟨t1, ps, l1⟩ = T := ⟨_, rfl⟩
  rw [hT]
  have hT2 : (decide (0 ≤ ln) && (decide (0 ≤ by_) && rightE ⟨t1, ps, l1⟩)) = T := hT
  obtain ⟨x, hx⟩ : ∃ x, rightE ⟨t1, ps, l1⟩ = x := ⟨_, rfl⟩
  simp only [hx] at RT
  rw [hx] at hT2
  replace RT := Lib.hid RT
  obtain ⟨w1, hw1⟩ : ∃ w, W.alloc (.cells #[.int .u64 (dg : Int), .int .i64 ln, .int .i64 by_, .int .i64 t1, .slice A n c, .string l1] 45) = w := ⟨_, rfl⟩
  have B1 : Blk w1 W.heap.size 45 #[.int .u64 (dg : Int), .int .i64 ln, .int .i64 by_, .int .i64 t1, .slice A n c, .string l1] := by rw [← hw1]; exact Blk.new W _ _
  have hb0 : Below W.heap.size W w1 := by rw [← hw1]; exact (Below.refl _ _).alloc h0 _
  have HB := Lib.hid hb0
  have q1 : w1.cell? ⟨W.heap.size, 1, none⟩ = some (.int .i64 ln) := (B1.cell 1).trans rfl
  have q2 : w1.cell? ⟨W.heap.size, 2, none⟩ = some (.int .i64 by_) := (B1.cell 2).trans rfl
  have q3 : w1.cell? ⟨W.heap.size, 3, none⟩ = some (.int .i64 t1) := (B1.cell 3).trans rfl
  have q4 : w1.cell? ⟨W.heap.size, 4, none⟩ = some (.slice A n c) := (B1.cell 4).trans rfl
  have q5 : w1.cell? ⟨W.heap.size, 5, none⟩ = some (.string l1) := (B1.cell 5).trans rfl
  clear h1 hT hx hb0 B1
  by_cases g1 : 0 ≤ ln
  · by_cases g2 : 0 ≤ by_
    · have E := Lib.hid (show x = T by rw [← hT2, decide_eq_true g1, decide_eq_true g2]; rfl)
      clear hT2
      go_enter Tryz.func18, Tryz.ntmps18
      go_wp2_with fail
      clear hw1
      refine (RT.out _ HB.out).mono ?_
      rintro e w2 ⟨rfl, hx⟩
      have HB2 := Lib.hid (hop HB.out h0 hx)
      clear hx HB RT q1 q2 q3 q4 q5
      go_wp2
      go_ret
      exact ⟨ret_bool E.out, HB2.out⟩
    · have E := Lib.hid (show false = T by rw [← hT2, decide_eq_true g1, decide_eq_false g2]; rfl)
      have g3 : decide (0 ≤ by_) = false := decide_eq_false g2
      clear hT2 RT
      go_enter Tryz.func18, Tryz.ntmps18
      go_wp2
      go_ret
      exact ⟨ret_bool E.out, HB.out⟩
  · have E := Lib.hid (show false = T by rw [← hT2, decide_eq_false g1]; rfl)
    have g3 : decide (0 ≤ ln) = false := decide_eq_false g1
    clear hT2 RT
    go_enter Tryz.func18, Tryz.ntmps18
    go_wp2
    go_ret
    exact ⟨ret_bool E.out, HB.out⟩

theorem body_flat (x1 x2 x3 x4 : ByteArray) : headC ++ (⟨(joinB cutC [x1, x2, x3, x4]).toArray⟩ : ByteArray) ++ cutC = (⟨#[99, 49, 58]⟩ : ByteArray) ++ x1 ++ (⟨#[58]⟩ : ByteArray) ++ x2 ++ (⟨#[58]⟩ : ByteArray) ++ x3 ++ (⟨#[58]⟩ : ByteArray) ++ x4 ++ (⟨#[58]⟩ : ByteArray) := by
  refine text_ext1 ?_
  simp only [text_joined]
  show [99, 49, 58] ++ joinB cutC [x1, x2, x3, x4] ++ [58] = _
  unfold joinB
  simp [Lib.join, cutC]

set_option maxRecDepth 100000 in
set_option maxHeartbeats 3200000 in
theorem refPutC_any (dg : Nat) (ln by_ t1 : Int) (A : Option Addr) (n c : Nat) (ps : List PairB) (l1 : ByteArray) (hdg : dg < 18446744073709551616) (hl0 : -9223372036854775808 ≤ ln) (hl1 : ln ≤ 9223372036854775807) (hb0 : -9223372036854775808 ≤ by_) (hb1 : by_ ≤ 9223372036854775807)
    (hp : PutE ⟨t1, ps, l1⟩) (hn : n ≤ 1048576) (W : World) (h1 : Pairs W A n ps) :
    Calls Tryz.prog 9 #[.agg #[.int .u64 (dg : Int), .int .i64 ln, .int .i64 by_, .int .i64 t1, .slice A n c, .string l1]] W fun e w' => e = .returned (.tuple #[.string (if rightC ln by_ ⟨t1, ps, l1⟩ = true then putC dg ln by_ ⟨t1, ps, l1⟩ else .empty), .bool (rightC ln by_ ⟨t1, ps, l1⟩)]) ∧ Below W.heap.size W w' := by
  have h0 : W.heap.size ≤ W.heap.size := Nat.le_refl _
  have RT := fun w h => refRightC_any dg ln by_ t1 A n c ps l1 (by omega) w (h1.below h)
  have C1 := Lib.hid (fun w => show Calls Tryz.prog 14 #[.int .u64 (dg : Int)] w fun e w' => e = .returned (.string (hexS dg)) ∧ Below w.heap.size w w' from (refHex_any dg hdg w).mono (by rintro e w' ⟨rfl, rfl⟩; exact ⟨rfl, Below.refl _ _⟩))
  have C2 := Lib.hid (fun w => refText_any ln hl0 hl1 w)
  have C3 := Lib.hid (fun w => refText_any by_ hb0 hb1 w)
  have C4 := fun w h => refEntPut_any t1 A n c ps l1 hp hn w (h1.below h)
  have s1 := hexS_size dg
  have s2 := itoaS_size ln hl0 hl1
  have s3 := itoaS_size by_ hb0 hb1
  have hT := hp.size
  have hP : putC dg ln by_ ⟨t1, ps, l1⟩ = bodyC dg ln by_ ⟨t1, ps, l1⟩ ++ hexS (sumS (bodyC dg ln by_ ⟨t1, ps, l1⟩)) := rfl
  have hB : bodyC dg ln by_ ⟨t1, ps, l1⟩ = headC ++ (⟨(joinB cutC [hexS dg, itoaS ln, itoaS by_, entT ⟨t1, ps, l1⟩]).toArray⟩ : ByteArray) ++ cutC := rfl
  rw [body_flat] at hB
  obtain ⟨P, hPP⟩ : ∃ P, putC dg ln by_ ⟨t1, ps, l1⟩ = P := ⟨_, rfl⟩
  obtain ⟨B, hBB⟩ : ∃ P, bodyC dg ln by_ ⟨t1, ps, l1⟩ = P := ⟨_, rfl⟩
  rw [hPP, hBB] at hP
  rw [hBB] at hB
  rw [hPP]
  obtain ⟨R, hR⟩ : ∃ b, rightC ln by_ ⟨t1, ps, l1⟩ = b := ⟨_, rfl⟩
  simp only [hR] at RT
  rw [hR]
  obtain ⟨x1, hx1⟩ : ∃ x, hexS dg = x := ⟨_, rfl⟩
  obtain ⟨x2, hx2⟩ : ∃ x, itoaS ln = x := ⟨_, rfl⟩
  obtain ⟨x3, hx3⟩ : ∃ x, itoaS by_ = x := ⟨_, rfl⟩
  obtain ⟨x4, hx4⟩ : ∃ x, entT ⟨t1, ps, l1⟩ = x := ⟨_, rfl⟩
  rw [hx1] at C1 s1 hB
  rw [hx2] at C2 s2 hB
  rw [hx3] at C3 s3 hB
  simp only [hx4] at C4
  rw [hx4] at hT hB
  replace C4 := Lib.hid C4
  have c58 : (⟨#[58]⟩ : ByteArray).size = 1 := rfl
  have c99 : (⟨#[99, 49, 58]⟩ : ByteArray).size = 3 := rfl
  have hBs : B.size = 3 + x1.size + 1 + x2.size + 1 + x3.size + 1 + x4.size + 1 := by
    rw [hB]
    simp only [ByteArray.size_append, c58, c99]
  have hBb : B.size ≤ 9000200 := by omega
  have CS := Lib.hid (fun w => refFnv_any B (by omega) w)
  have CH := Lib.hid (fun w => refHex_any (sumS B) (fnv_lt _ _ fnv0_lt) w)
  have sh := hexS_size (sumS B)
  obtain ⟨x5, hx5⟩ : ∃ x, hexS (sumS B) = x := ⟨_, rfl⟩
  rw [hx5] at CH sh hP
  have k1 : ¬ 9223372036854775807 < 3 + x1.size := by omega
  have k2 : ¬ 9223372036854775807 < 3 + x1.size + 1 := by omega
  have k3 : ¬ 9223372036854775807 < 3 + x1.size + 1 + x2.size := by omega
  have k4 : ¬ 9223372036854775807 < 3 + x1.size + 1 + x2.size + 1 := by omega
  have k5 : ¬ 9223372036854775807 < 3 + x1.size + 1 + x2.size + 1 + x3.size := by omega
  have k6 : ¬ 9223372036854775807 < 3 + x1.size + 1 + x2.size + 1 + x3.size + 1 := by omega
  have k7 : ¬ 9223372036854775807 < 3 + x1.size + 1 + x2.size + 1 + x3.size + 1 + x4.size := by omega
  have k8 : ¬ 9223372036854775807 < 3 + x1.size + 1 + x2.size + 1 + x3.size + 1 + x4.size + 1 := by omega
  have k9 : ¬ 9223372036854775807 < B.size + x5.size := by omega
  have k10 : ¬ 9223372036854775807 < 3 + x1.size + 1 + x2.size + 1 + x3.size + 1 + x4.size + 1 + x5.size := by omega
  have EP := Lib.hid (show B ++ x5 = P from hP.symm)
  have EB := Lib.hid (show (⟨#[99, 49, 58]⟩ : ByteArray) ++ x1 ++ (⟨#[58]⟩ : ByteArray) ++ x2 ++ (⟨#[58]⟩ : ByteArray) ++ x3 ++ (⟨#[58]⟩ : ByteArray) ++ x4 ++ (⟨#[58]⟩ : ByteArray) = B from hB.symm)
  replace RT := Lib.hid RT
  clear hP hB hPP hBB hR hx1 hx2 hx3 hx4 hx5 hBs s1 s2 s3 hT h1 hp c58 c99
  obtain ⟨w1, hw1⟩ : ∃ w, W.alloc (.cells #[.int .u64 (dg : Int), .int .i64 ln, .int .i64 by_, .int .i64 t1, .slice A n c, .string l1] 45) = w := ⟨_, rfl⟩
  have B1 : Blk w1 W.heap.size 45 #[.int .u64 (dg : Int), .int .i64 ln, .int .i64 by_, .int .i64 t1, .slice A n c, .string l1] := by rw [← hw1]; exact Blk.new W _ _
  have hbb : Below W.heap.size W w1 := by rw [← hw1]; exact (Below.refl _ _).alloc h0 _
  have q0 : w1.cell? ⟨W.heap.size, 0, none⟩ = some (.int .u64 (dg : Int)) := (B1.cell 0).trans rfl
  have q1 : w1.cell? ⟨W.heap.size, 1, none⟩ = some (.int .i64 ln) := (B1.cell 1).trans rfl
  have q2 : w1.cell? ⟨W.heap.size, 2, none⟩ = some (.int .i64 by_) := (B1.cell 2).trans rfl
  have q3 : w1.cell? ⟨W.heap.size, 3, none⟩ = some (.int .i64 t1) := (B1.cell 3).trans rfl
  have q4 : w1.cell? ⟨W.heap.size, 4, none⟩ = some (.slice A n c) := (B1.cell 4).trans rfl
  have q5 : w1.cell? ⟨W.heap.size, 5, none⟩ = some (.string l1) := (B1.cell 5).trans rfl
  go_enter Tryz.func9, Tryz.ntmps9
  go_wp2_with fail
  clear hw1 q0 q1 q2 q3 q4 q5
  refine (RT.out _ hbb).mono ?_
  rintro e w2 ⟨rfl, hx⟩
  have B2 := B1.below hx B1.lt
  have hb2 := hop hbb h0 hx
  clear hx hbb B1 RT
  cases R with
  | false =>
    have HB2 := Lib.hid hb2
    clear B2 hb2
    go_wp2
    go_ret2
    exact ⟨by first | rfl | (simp; done), HB2.out⟩
  | true =>
    have HS := Lib.hid (fun (w w' : World) (hS : Below W.heap.size W w ∧ w.cell? ⟨W.heap.size, 0, none⟩ = some (.int .u64 (dg : Int)) ∧ w.cell? ⟨W.heap.size, 1, none⟩ = some (.int .i64 ln) ∧ w.cell? ⟨W.heap.size, 2, none⟩ = some (.int .i64 by_) ∧ w.cell? ⟨W.heap.size, 3, none⟩ = some (.int .i64 t1) ∧ w.cell? ⟨W.heap.size, 4, none⟩ = some (.slice A n c) ∧ w.cell? ⟨W.heap.size, 5, none⟩ = some (.string l1)) (hx : Below w.heap.size w w') =>
      show Below W.heap.size W w' ∧ w'.cell? ⟨W.heap.size, 0, none⟩ = some (.int .u64 (dg : Int)) ∧ w'.cell? ⟨W.heap.size, 1, none⟩ = some (.int .i64 ln) ∧ w'.cell? ⟨W.heap.size, 2, none⟩ = some (.int .i64 by_) ∧ w'.cell? ⟨W.heap.size, 3, none⟩ = some (.int .i64 t1) ∧ w'.cell? ⟨W.heap.size, 4, none⟩ = some (.slice A n c) ∧ w'.cell? ⟨W.heap.size, 5, none⟩ = some (.string l1) from by
        obtain ⟨hb, a0, a1, a2, a3, a4, a5⟩ := hS
        have z1 := block_lt_of_cell a0
        exact ⟨hop hb (Nat.le_refl _) hx, (hx.cell (p := ⟨_, 0, none⟩) z1).trans a0, (hx.cell (p := ⟨_, 1, none⟩) z1).trans a1, (hx.cell (p := ⟨_, 2, none⟩) z1).trans a2, (hx.cell (p := ⟨_, 3, none⟩) z1).trans a3, (hx.cell (p := ⟨_, 4, none⟩) z1).trans a4, (hx.cell (p := ⟨_, 5, none⟩) z1).trans a5⟩)
    have hS0 := HS.out w2 w2.drew ⟨hb2, (B2.cell 0).trans rfl, (B2.cell 1).trans rfl, (B2.cell 2).trans rfl, (B2.cell 3).trans rfl, (B2.cell 4).trans rfl, (B2.cell 5).trans rfl⟩ ((Below.refl _ _).drew)
    clear B2 hb2
    go_wp2
    refine wp_region_held_drew (S := fun w' => Below W.heap.size W w' ∧ w'.cell? ⟨W.heap.size, 0, none⟩ = some (.int .u64 (dg : Int)) ∧ w'.cell? ⟨W.heap.size, 1, none⟩ = some (.int .i64 ln) ∧ w'.cell? ⟨W.heap.size, 2, none⟩ = some (.int .i64 by_) ∧ w'.cell? ⟨W.heap.size, 3, none⟩ = some (.int .i64 t1) ∧ w'.cell? ⟨W.heap.size, 4, none⟩ = some (.slice A n c) ∧ w'.cell? ⟨W.heap.size, 5, none⟩ = some (.string l1)) (by kernel_rfl) hS0 (fun hHeld => ?_)
    refine wpAnyH_take (i := 0) (oi := { dst := some 8, op := Go.Op.fieldAddr 45 (Go.Operand.tmp 1) 0, type := 0, pos := "ref.go:58", after := #[], guard := none }) (v := ?_) rfl (by kernel_rfl) (by kernel_rfl) (by kernel_rfl) (fun _ _ _ h => h) (Or.inl ⟨by kernel_rfl, ?_⟩) (by assumption) ?_
    rotate_left
    · intro w _
      first | (go_simp; done) | (go_simp; with_reducible rfl)
    try simp only [Act.put, List.setIfInBounds_toArray, List.set_cons_zero, List.set_cons_succ]
    refine wpAnyH_take (i := 1) (oi := { dst := some 9, op := Go.Op.load 22 (Go.Operand.tmp 8), type := 22, pos := "ref.go:58", after := #[{ on := 0, ground := Go.Ground.data }], guard := none }) (v := ?_) rfl (by kernel_rfl) (by kernel_rfl) (by kernel_rfl) (fun _ _ _ h => h) (Or.inl ⟨by kernel_rfl, ?_⟩) (by assumption) ?_
    rotate_left
    · intro w hSw
      (try dsimp only at hSw)
      go_split_ands
      first | (go_simp; done) | (go_simp; with_reducible rfl)
    try simp only [Act.put, List.setIfInBounds_toArray, List.set_cons_zero, List.set_cons_succ]
    refine wpAnyH_take (i := 5) (oi := { dst := some 13, op := Go.Op.fieldAddr 45 (Go.Operand.tmp 1) 1, type := 0, pos := "ref.go:58", after := #[], guard := none }) (v := ?_) rfl (by kernel_rfl) (by kernel_rfl) (by kernel_rfl) (fun _ _ _ h => h) (Or.inl ⟨by kernel_rfl, ?_⟩) (by assumption) ?_
    rotate_left
    · intro w _
      first | (go_simp; done) | (go_simp; with_reducible rfl)
    try simp only [Act.put, List.setIfInBounds_toArray, List.set_cons_zero, List.set_cons_succ]
    refine wpAnyH_take (i := 6) (oi := { dst := some 14, op := Go.Op.load 3 (Go.Operand.tmp 13), type := 3, pos := "ref.go:58", after := #[{ on := 5, ground := Go.Ground.data }], guard := none }) (v := ?_) rfl (by kernel_rfl) (by kernel_rfl) (by kernel_rfl) (fun _ _ _ h => h) (Or.inl ⟨by kernel_rfl, ?_⟩) (by assumption) ?_
    rotate_left
    · intro w hSw
      (try dsimp only at hSw)
      go_split_ands
      first | (go_simp; done) | (go_simp; with_reducible rfl)
    try simp only [Act.put, List.setIfInBounds_toArray, List.set_cons_zero, List.set_cons_succ]
    refine wpAnyH_take (i := 10) (oi := { dst := some 18, op := Go.Op.fieldAddr 45 (Go.Operand.tmp 1) 2, type := 0, pos := "ref.go:58", after := #[], guard := none }) (v := ?_) rfl (by kernel_rfl) (by kernel_rfl) (by kernel_rfl) (fun _ _ _ h => h) (Or.inl ⟨by kernel_rfl, ?_⟩) (by assumption) ?_
    rotate_left
    · intro w _
      first | (go_simp; done) | (go_simp; with_reducible rfl)
    try simp only [Act.put, List.setIfInBounds_toArray, List.set_cons_zero, List.set_cons_succ]
    refine wpAnyH_take (i := 11) (oi := { dst := some 19, op := Go.Op.load 2 (Go.Operand.tmp 18), type := 2, pos := "ref.go:58", after := #[{ on := 10, ground := Go.Ground.data }], guard := none }) (v := ?_) rfl (by kernel_rfl) (by kernel_rfl) (by kernel_rfl) (fun _ _ _ h => h) (Or.inl ⟨by kernel_rfl, ?_⟩) (by assumption) ?_
    rotate_left
    · intro w hSw
      (try dsimp only at hSw)
      go_split_ands
      first | (go_simp; done) | (go_simp; with_reducible rfl)
    try simp only [Act.put, List.setIfInBounds_toArray, List.set_cons_zero, List.set_cons_succ]
    refine wpAnyH_take (i := 15) (oi := { dst := some 23, op := Go.Op.fieldAddr 45 (Go.Operand.tmp 1) 3, type := 0, pos := "ref.go:58", after := #[], guard := none }) (v := ?_) rfl (by kernel_rfl) (by kernel_rfl) (by kernel_rfl) (fun _ _ _ h => h) (Or.inl ⟨by kernel_rfl, ?_⟩) (by assumption) ?_
    rotate_left
    · intro w _
      first | (go_simp; done) | (go_simp; with_reducible rfl)
    try simp only [Act.put, List.setIfInBounds_toArray, List.set_cons_zero, List.set_cons_succ]
    refine wpAnyH_take (i := 16) (oi := { dst := some 24, op := Go.Op.load 43 (Go.Operand.tmp 23), type := 43, pos := "ref.go:58", after := #[{ on := 15, ground := Go.Ground.data }], guard := none }) (v := ?_) rfl (by kernel_rfl) (by kernel_rfl) (by kernel_rfl) (fun _ _ _ h => h) (Or.inl ⟨by kernel_rfl, ?_⟩) (by assumption) ?_
    rotate_left
    · intro w hSw
      (try dsimp only at hSw)
      go_split_ands
      first | (go_simp; done) | (go_simp; with_reducible rfl)
    try simp only [Act.put, List.setIfInBounds_toArray, List.set_cons_zero, List.set_cons_succ]
    refine wpAnyH_ready (rs := [2]) (by kernel_rfl) (by simp) ?_
    refine AllReadyH.cons (o := { dst := some 10, op := Go.Op.call { callee := Go.Callee.value (Go.Operand.func 14), args := #[Go.Operand.tmp 9], argTypes := #[22] }, type := 9, pos := "ref.go:58", after := #[{ on := 1, ground := Go.Ground.data }], guard := none }) rfl (fun K hK => ?_) AllReadyH.nil
    go_simp
    go_at_call 14
    refine (C1.out _).mono ?_
    rintro e wk1 ⟨rfl, hb3⟩
    have Sk1 := HS.out _ _ (by assumption) hb3
    refine hK.out _ _ Sk1 (fun _ => ?_)
    clear hK K hb3
    try simp only [Act.put, List.setIfInBounds_toArray, List.set_cons_zero, List.set_cons_succ]
    refine wpAnyH_take (i := 3) (oi := { dst := some 11, op := Go.Op.binOp Go.BinOp.add 9 (Go.Operand.const (Go.Value.string { data := #[99, 49, 58] })) (Go.Operand.tmp 10) 9, type := 9, pos := "ref.go:58", after := #[{ on := 2, ground := Go.Ground.data }], guard := none }) (v := ?_) rfl (by kernel_rfl) (by kernel_rfl) (by kernel_rfl) (fun _ _ _ h => h) (Or.inl ⟨by kernel_rfl, ?_⟩) (by assumption) ?_
    rotate_left
    · intro w _
      first | (go_simp; done) | (go_simp; with_reducible rfl)
    try simp only [Act.put, List.setIfInBounds_toArray, List.set_cons_zero, List.set_cons_succ]
    refine wpAnyH_take (i := 4) (oi := { dst := some 12, op := Go.Op.binOp Go.BinOp.add 9 (Go.Operand.tmp 11) (Go.Operand.const (Go.Value.string { data := #[58] })) 9, type := 9, pos := "ref.go:58", after := #[{ on := 3, ground := Go.Ground.data }], guard := none }) (v := ?_) rfl (by kernel_rfl) (by kernel_rfl) (by kernel_rfl) (fun _ _ _ h => h) (Or.inl ⟨by kernel_rfl, ?_⟩) (by assumption) ?_
    rotate_left
    · intro w _
      first | (go_simp; done) | (go_simp; with_reducible rfl)
    try simp only [Act.put, List.setIfInBounds_toArray, List.set_cons_zero, List.set_cons_succ]
    refine wpAnyH_ready (rs := [7]) (by kernel_rfl) (by simp) ?_
    refine AllReadyH.cons (o := { dst := some 15, op := Go.Op.call { callee := Go.Callee.value (Go.Operand.func 28), args := #[Go.Operand.tmp 14], argTypes := #[2] }, type := 9, pos := "ref.go:58", after := #[{ on := 6, ground := Go.Ground.data }, { on := 2, ground := Go.Ground.chain }], guard := none }) rfl (fun K hK => ?_) AllReadyH.nil
    go_simp
    go_at_call 28
    refine (C2.out _).mono ?_
    rintro e wk2 ⟨rfl, hb3⟩
    have Sk2 := HS.out _ _ (by assumption) hb3
    refine hK.out _ _ Sk2 (fun _ => ?_)
    clear hK K hb3
    try simp only [Act.put, List.setIfInBounds_toArray, List.set_cons_zero, List.set_cons_succ]
    refine wpAnyH_take (i := 8) (oi := { dst := some 16, op := Go.Op.binOp Go.BinOp.add 9 (Go.Operand.tmp 12) (Go.Operand.tmp 15) 9, type := 9, pos := "ref.go:58", after := #[{ on := 4, ground := Go.Ground.data }, { on := 7, ground := Go.Ground.data }], guard := none }) (v := ?_) rfl (by kernel_rfl) (by kernel_rfl) (by kernel_rfl) (fun _ _ _ h => h) (Or.inl ⟨by kernel_rfl, ?_⟩) (by assumption) ?_
    rotate_left
    · intro w _
      first | (go_simp; done) | (go_simp; with_reducible rfl)
    try simp only [Act.put, List.setIfInBounds_toArray, List.set_cons_zero, List.set_cons_succ]
    refine wpAnyH_take (i := 9) (oi := { dst := some 17, op := Go.Op.binOp Go.BinOp.add 9 (Go.Operand.tmp 16) (Go.Operand.const (Go.Value.string { data := #[58] })) 9, type := 9, pos := "ref.go:58", after := #[{ on := 8, ground := Go.Ground.data }], guard := none }) (v := ?_) rfl (by kernel_rfl) (by kernel_rfl) (by kernel_rfl) (fun _ _ _ h => h) (Or.inl ⟨by kernel_rfl, ?_⟩) (by assumption) ?_
    rotate_left
    · intro w _
      first | (go_simp; done) | (go_simp; with_reducible rfl)
    try simp only [Act.put, List.setIfInBounds_toArray, List.set_cons_zero, List.set_cons_succ]
    refine wpAnyH_ready (rs := [12]) (by kernel_rfl) (by simp) ?_
    refine AllReadyH.cons (o := { dst := some 20, op := Go.Op.call { callee := Go.Callee.value (Go.Operand.func 28), args := #[Go.Operand.tmp 19], argTypes := #[2] }, type := 9, pos := "ref.go:58", after := #[{ on := 11, ground := Go.Ground.data }, { on := 7, ground := Go.Ground.chain }], guard := none }) rfl (fun K hK => ?_) AllReadyH.nil
    go_simp
    go_at_call 28
    refine (C3.out _).mono ?_
    rintro e wk3 ⟨rfl, hb3⟩
    have Sk3 := HS.out _ _ (by assumption) hb3
    refine hK.out _ _ Sk3 (fun _ => ?_)
    clear hK K hb3
    try simp only [Act.put, List.setIfInBounds_toArray, List.set_cons_zero, List.set_cons_succ]
    refine wpAnyH_take (i := 13) (oi := { dst := some 21, op := Go.Op.binOp Go.BinOp.add 9 (Go.Operand.tmp 17) (Go.Operand.tmp 20) 9, type := 9, pos := "ref.go:58", after := #[{ on := 9, ground := Go.Ground.data }, { on := 12, ground := Go.Ground.data }], guard := none }) (v := ?_) rfl (by kernel_rfl) (by kernel_rfl) (by kernel_rfl) (fun _ _ _ h => h) (Or.inl ⟨by kernel_rfl, ?_⟩) (by assumption) ?_
    rotate_left
    · intro w _
      first | (go_simp; done) | (go_simp; with_reducible rfl)
    try simp only [Act.put, List.setIfInBounds_toArray, List.set_cons_zero, List.set_cons_succ]
    refine wpAnyH_take (i := 14) (oi := { dst := some 22, op := Go.Op.binOp Go.BinOp.add 9 (Go.Operand.tmp 21) (Go.Operand.const (Go.Value.string { data := #[58] })) 9, type := 9, pos := "ref.go:58", after := #[{ on := 13, ground := Go.Ground.data }], guard := none }) (v := ?_) rfl (by kernel_rfl) (by kernel_rfl) (by kernel_rfl) (fun _ _ _ h => h) (Or.inl ⟨by kernel_rfl, ?_⟩) (by assumption) ?_
    rotate_left
    · intro w _
      first | (go_simp; done) | (go_simp; with_reducible rfl)
    try simp only [Act.put, List.setIfInBounds_toArray, List.set_cons_zero, List.set_cons_succ]
    refine wpAnyH_ready (rs := [17]) (by kernel_rfl) (by simp) ?_
    refine AllReadyH.cons (o := { dst := some 25, op := Go.Op.call { callee := Go.Callee.value (Go.Operand.func 29), args := #[Go.Operand.tmp 24], argTypes := #[43] }, type := 9, pos := "ref.go:58", after := #[{ on := 16, ground := Go.Ground.data }, { on := 12, ground := Go.Ground.chain }], guard := none }) rfl (fun K hK => ?_) AllReadyH.nil
    go_simp
    go_at_call 29
    refine (C4.out _ (by go_split_ands; assumption)).mono ?_
    rintro e wk4 ⟨rfl, hb3⟩
    have Sk4 := HS.out _ _ (by assumption) hb3
    refine hK.out _ _ Sk4 (fun _ => ?_)
    clear hK K hb3
    try simp only [Act.put, List.setIfInBounds_toArray, List.set_cons_zero, List.set_cons_succ]
    refine wpAnyH_take (i := 18) (oi := { dst := some 26, op := Go.Op.binOp Go.BinOp.add 9 (Go.Operand.tmp 22) (Go.Operand.tmp 25) 9, type := 9, pos := "ref.go:58", after := #[{ on := 14, ground := Go.Ground.data }, { on := 17, ground := Go.Ground.data }], guard := none }) (v := ?_) rfl (by kernel_rfl) (by kernel_rfl) (by kernel_rfl) (fun _ _ _ h => h) (Or.inl ⟨by kernel_rfl, ?_⟩) (by assumption) ?_
    rotate_left
    · intro w _
      first | (go_simp; done) | (go_simp; with_reducible rfl)
    try simp only [Act.put, List.setIfInBounds_toArray, List.set_cons_zero, List.set_cons_succ]
    refine wpAnyH_take (i := 19) (oi := { dst := some 27, op := Go.Op.binOp Go.BinOp.add 9 (Go.Operand.tmp 26) (Go.Operand.const (Go.Value.string { data := #[58] })) 9, type := 9, pos := "ref.go:58", after := #[{ on := 18, ground := Go.Ground.data }], guard := none }) (v := ?_) rfl (by kernel_rfl) (by kernel_rfl) (by kernel_rfl) (fun _ _ _ h => h) (Or.inl ⟨by kernel_rfl, ?_⟩) (by assumption) ?_
    rotate_left
    · intro w _
      first | (go_simp; done) | (go_simp; with_reducible rfl)
    try simp only [Act.put, List.setIfInBounds_toArray, List.set_cons_zero, List.set_cons_succ]
    refine wpAnyH_take (i := 20) (oi := { dst := some 4, op := Go.Op.assign (Go.Operand.tmp 27), type := 9, pos := "ref.go:58", after := #[{ on := 19, ground := Go.Ground.data }, { on := 17, ground := Go.Ground.chain }, { on := 0, ground := Go.Ground.phase }, { on := 1, ground := Go.Ground.phase }, { on := 2, ground := Go.Ground.phase }, { on := 3, ground := Go.Ground.phase }, { on := 4, ground := Go.Ground.phase }, { on := 5, ground := Go.Ground.phase }, { on := 6, ground := Go.Ground.phase }, { on := 7, ground := Go.Ground.phase }, { on := 8, ground := Go.Ground.phase }, { on := 9, ground := Go.Ground.phase }, { on := 10, ground := Go.Ground.phase }, { on := 11, ground := Go.Ground.phase }, { on := 12, ground := Go.Ground.phase }, { on := 13, ground := Go.Ground.phase }, { on := 14, ground := Go.Ground.phase }, { on := 15, ground := Go.Ground.phase }, { on := 16, ground := Go.Ground.phase }, { on := 17, ground := Go.Ground.phase }, { on := 18, ground := Go.Ground.phase }, { on := 19, ground := Go.Ground.phase }], guard := none }) (v := ?_) rfl (by kernel_rfl) (by kernel_rfl) (by kernel_rfl) (fun _ _ _ h => h) (Or.inl ⟨by kernel_rfl, ?_⟩) (by assumption) ?_
    rotate_left
    · intro w _
      first | (go_simp; done) | (go_simp; with_reducible rfl)
    try simp only [Act.put, List.setIfInBounds_toArray, List.set_cons_zero, List.set_cons_succ]
    refine wpAnyH_done (by kernel_rfl) ?_ _
    go_wp2_with fail
    simp only [EB.out]
    refine (CS.out _).mono ?_
    rintro e w8 ⟨rfl, rfl⟩
    go_wp2_with fail
    refine (CH.out _).mono ?_
    rintro e w9 ⟨rfl, rfl⟩
    go_wp2
    go_ret2
    exact ⟨by rw [← EP.out]; rfl, by go_split_ands; assumption⟩

theorem pairQ_of_cur : 45 ≠ 117 := by decide
theorem goodQ_set {w : World} {x : EntX} {g : Nat} {t : TypeId} {cs : Array Value} (h : GoodQ w x) (hb : Blk w g t cs) (ht : t ≠ 117) (i : Nat) (u : Value) : GoodQ (w.setCell ⟨g, i, none⟩ u) x :=
  h.grown (r := some g) ⟨rfl, rfl, rfl, by simp, fun k hk hne => Below.heap_setCell w ⟨g, i, none⟩ u k (fun e => hne (by rw [e]))⟩ (fun b hb' => by injection hb' with hb'; subst hb'; exact ⟨_, _, ht, hb⟩)
/-- a cursor of the document's, held in a block of its own -/
structure CurQ (W0 w : World) (g : Nat) (cs : Array Value) (x : EntX) : Prop where
  blk : Blk w g 45 cs
  good : GoodQ w x
  below : Below W0.heap.size W0 w
  far : W0.heap.size ≤ g
theorem CurQ.set {W0 w : World} {g : Nat} {cs : Array Value} {x : EntX} (h : CurQ W0 w g cs x) (i : Nat) (u : Value) : CurQ W0 (w.setCell ⟨g, i, none⟩ u) g (cs.setIfInBounds i u) x :=
  ⟨h.blk.set_ i u, goodQ_set h.good h.blk pairQ_of_cur i u, h.below.setCell (p := ⟨g, i, none⟩) h.far _, h.far⟩

set_option maxRecDepth 100000 in
set_option maxHeartbeats 3200000 in
theorem refCursor_any (dg : Nat) (ln by_ : Int) (a : EntX) (hdg : dg < 18446744073709551616) (hn : a.n ≤ 1048576) (W : World) (h1 : Pairs W a.A a.n a.ls) :
    Calls Tryz.prog 10 #[.agg #[.int .u64 (dg : Int), .int .i64 ln, .int .i64 by_, .int .i64 a.ts, .slice a.A a.n a.c, .string a.ln]] W fun e w' => ∃ q : EntX, e = .returned (.agg #[.int .u64 (dg : Int), .int .i64 ln, .int .i64 by_, .int .i64 q.ts, .slice q.A q.n q.c, .string q.ln]) ∧ q.b = a.b ∧ q.n = a.n ∧ GoodQ w' q ∧ Below W.heap.size W w' := by
  have h0 : W.heap.size ≤ W.heap.size := Nat.le_refl _
  have RE := Lib.hid (fun w h => refEntry_any a hn w (h1.below h))
  obtain ⟨t1, A, n, c, ps, l1⟩ := a
  dsimp only at RE ⊢
  clear h1 hn
  have hdgI : (dg : Int) < 18446744073709551616 := by omega
  go_enter Tryz.func10, Tryz.ntmps10
  go_wp2
  obtain ⟨w1, hw1⟩ : ∃ w, (W.alloc (.cells #[.int .u64 (dg : Int), .int .i64 ln, .int .i64 by_, .int .i64 t1, .slice A n c, .string l1] 29)).alloc (.cells #[.int .u64 0, .int .i64 0, .int .i64 0, .int .i64 0, .slice none 0 0, .string ⟨#[]⟩] 45) = w := ⟨_, rfl⟩
  have B1 : Blk w1 W.heap.size 29 #[.int .u64 (dg : Int), .int .i64 ln, .int .i64 by_, .int .i64 t1, .slice A n c, .string l1] := by rw [← hw1]; exact (Blk.new W _ _).alloc _
  have B2 : Blk w1 (W.heap.size + 1) 45 #[.int .u64 0, .int .i64 0, .int .i64 0, .int .i64 0, .slice none 0 0, .string ⟨#[]⟩] := by rw [← hw1]; exact blk_next W _ _ _
  have hb1 : Below W.heap.size W w1 := by rw [← hw1]; exact ((Below.refl _ _).alloc (Nat.le_refl _) _).alloc (by simp) _
  rw [hw1]
  clear hw1
  have HS := Lib.hid (fun (w w' : World) (hS : Below W.heap.size W w ∧ w.cell? ⟨W.heap.size, 0, none⟩ = some (.int .u64 (dg : Int)) ∧ w.cell? ⟨W.heap.size, 1, none⟩ = some (.int .i64 ln) ∧ w.cell? ⟨W.heap.size, 2, none⟩ = some (.int .i64 by_) ∧ w.cell? ⟨W.heap.size, 3, none⟩ = some (.int .i64 t1) ∧ w.cell? ⟨W.heap.size, 4, none⟩ = some (.slice A n c) ∧ w.cell? ⟨W.heap.size, 5, none⟩ = some (.string l1) ∧ Blk w W.heap.size 29 #[.int .u64 (dg : Int), .int .i64 ln, .int .i64 by_, .int .i64 t1, .slice A n c, .string l1] ∧ ∃ c0 c1 c2 c3 c4 c5, Blk w (W.heap.size + 1) 45 #[c0, c1, c2, c3, c4, c5]) (hx : Below w.heap.size w w') =>
    show Below W.heap.size W w' ∧ w'.cell? ⟨W.heap.size, 0, none⟩ = some (.int .u64 (dg : Int)) ∧ w'.cell? ⟨W.heap.size, 1, none⟩ = some (.int .i64 ln) ∧ w'.cell? ⟨W.heap.size, 2, none⟩ = some (.int .i64 by_) ∧ w'.cell? ⟨W.heap.size, 3, none⟩ = some (.int .i64 t1) ∧ w'.cell? ⟨W.heap.size, 4, none⟩ = some (.slice A n c) ∧ w'.cell? ⟨W.heap.size, 5, none⟩ = some (.string l1) ∧ Blk w' W.heap.size 29 #[.int .u64 (dg : Int), .int .i64 ln, .int .i64 by_, .int .i64 t1, .slice A n c, .string l1] ∧ ∃ c0 c1 c2 c3 c4 c5, Blk w' (W.heap.size + 1) 45 #[c0, c1, c2, c3, c4, c5] from by
      obtain ⟨hb, a0, a1, a2, a3, a4, a5, hA, v0, v1, v2, v3, v4, v5, hB⟩ := hS
      have z1 := block_lt_of_cell a0
      exact ⟨hop hb (Nat.le_refl _) hx, (hx.cell (p := ⟨_, 0, none⟩) z1).trans a0, (hx.cell (p := ⟨_, 1, none⟩) z1).trans a1, (hx.cell (p := ⟨_, 2, none⟩) z1).trans a2, (hx.cell (p := ⟨_, 3, none⟩) z1).trans a3, (hx.cell (p := ⟨_, 4, none⟩) z1).trans a4, (hx.cell (p := ⟨_, 5, none⟩) z1).trans a5, hA.below hx hA.lt, v0, v1, v2, v3, v4, v5, hB.below hx hB.lt⟩)
  have S0 := HS.out w1 w1.drew ⟨hb1, (B1.cell 0).trans rfl, (B1.cell 1).trans rfl, (B1.cell 2).trans rfl, (B1.cell 3).trans rfl, (B1.cell 4).trans rfl, (B1.cell 5).trans rfl, B1, _, _, _, _, _, _, B2⟩ ((Below.refl _ _).drew)
  clear B1 B2 hb1
  refine wp_region_held_drew (S := fun w' => Below W.heap.size W w' ∧ w'.cell? ⟨W.heap.size, 0, none⟩ = some (.int .u64 (dg : Int)) ∧ w'.cell? ⟨W.heap.size, 1, none⟩ = some (.int .i64 ln) ∧ w'.cell? ⟨W.heap.size, 2, none⟩ = some (.int .i64 by_) ∧ w'.cell? ⟨W.heap.size, 3, none⟩ = some (.int .i64 t1) ∧ w'.cell? ⟨W.heap.size, 4, none⟩ = some (.slice A n c) ∧ w'.cell? ⟨W.heap.size, 5, none⟩ = some (.string l1) ∧ Blk w' W.heap.size 29 #[.int .u64 (dg : Int), .int .i64 ln, .int .i64 by_, .int .i64 t1, .slice A n c, .string l1] ∧ ∃ c0 c1 c2 c3 c4 c5, Blk w' (W.heap.size + 1) 45 #[c0, c1, c2, c3, c4, c5]) (by kernel_rfl) S0 (fun hHeld => ?_)
  refine wpAnyH_take (i := 0) (oi := { dst := some 3, op := Go.Op.fieldAddr 29 (Go.Operand.tmp 1) 0, type := 0, pos := "law.go:141", after := #[], guard := none }) (v := ?_) rfl (by kernel_rfl) (by kernel_rfl) (by kernel_rfl) (fun _ _ _ h => h) (Or.inl ⟨by kernel_rfl, ?_⟩) (by assumption) ?_
  rotate_left
  · intro w _
    first | (go_simp; done) | (go_simp; with_reducible rfl)
  try simp only [Act.put, List.setIfInBounds_toArray, List.set_cons_zero, List.set_cons_succ]
  refine wpAnyH_take (i := 1) (oi := { dst := some 4, op := Go.Op.load 22 (Go.Operand.tmp 3), type := 22, pos := "law.go:141", after := #[{ on := 0, ground := Go.Ground.data }], guard := none }) (v := ?_) rfl (by kernel_rfl) (by kernel_rfl) (by kernel_rfl) (fun _ _ _ h => h) (Or.inl ⟨by kernel_rfl, ?_⟩) (by assumption) ?_
  rotate_left
  · intro w hSw
    (try dsimp only at hSw)
    go_split_ands
    first | (go_simp; done) | (go_simp; with_reducible rfl)
  try simp only [Act.put, List.setIfInBounds_toArray, List.set_cons_zero, List.set_cons_succ]
  refine wpAnyH_take (i := 2) (oi := { dst := some 5, op := Go.Op.fieldAddr 29 (Go.Operand.tmp 1) 1, type := 0, pos := "law.go:141", after := #[], guard := none }) (v := ?_) rfl (by kernel_rfl) (by kernel_rfl) (by kernel_rfl) (fun _ _ _ h => h) (Or.inl ⟨by kernel_rfl, ?_⟩) (by assumption) ?_
  rotate_left
  · intro w _
    first | (go_simp; done) | (go_simp; with_reducible rfl)
  try simp only [Act.put, List.setIfInBounds_toArray, List.set_cons_zero, List.set_cons_succ]
  refine wpAnyH_take (i := 3) (oi := { dst := some 6, op := Go.Op.load 3 (Go.Operand.tmp 5), type := 3, pos := "law.go:141", after := #[{ on := 2, ground := Go.Ground.data }], guard := none }) (v := ?_) rfl (by kernel_rfl) (by kernel_rfl) (by kernel_rfl) (fun _ _ _ h => h) (Or.inl ⟨by kernel_rfl, ?_⟩) (by assumption) ?_
  rotate_left
  · intro w hSw
    (try dsimp only at hSw)
    go_split_ands
    first | (go_simp; done) | (go_simp; with_reducible rfl)
  try simp only [Act.put, List.setIfInBounds_toArray, List.set_cons_zero, List.set_cons_succ]
  refine wpAnyH_take (i := 4) (oi := { dst := some 7, op := Go.Op.fieldAddr 29 (Go.Operand.tmp 1) 2, type := 0, pos := "law.go:141", after := #[], guard := none }) (v := ?_) rfl (by kernel_rfl) (by kernel_rfl) (by kernel_rfl) (fun _ _ _ h => h) (Or.inl ⟨by kernel_rfl, ?_⟩) (by assumption) ?_
  rotate_left
  · intro w _
    first | (go_simp; done) | (go_simp; with_reducible rfl)
  try simp only [Act.put, List.setIfInBounds_toArray, List.set_cons_zero, List.set_cons_succ]
  refine wpAnyH_take (i := 5) (oi := { dst := some 8, op := Go.Op.load 2 (Go.Operand.tmp 7), type := 2, pos := "law.go:141", after := #[{ on := 4, ground := Go.Ground.data }], guard := none }) (v := ?_) rfl (by kernel_rfl) (by kernel_rfl) (by kernel_rfl) (fun _ _ _ h => h) (Or.inl ⟨by kernel_rfl, ?_⟩) (by assumption) ?_
  rotate_left
  · intro w hSw
    (try dsimp only at hSw)
    go_split_ands
    first | (go_simp; done) | (go_simp; with_reducible rfl)
  try simp only [Act.put, List.setIfInBounds_toArray, List.set_cons_zero, List.set_cons_succ]
  refine wpAnyH_take (i := 6) (oi := { dst := some 9, op := Go.Op.fieldAddr 29 (Go.Operand.tmp 1) 3, type := 0, pos := "law.go:141", after := #[], guard := none }) (v := ?_) rfl (by kernel_rfl) (by kernel_rfl) (by kernel_rfl) (fun _ _ _ h => h) (Or.inl ⟨by kernel_rfl, ?_⟩) (by assumption) ?_
  rotate_left
  · intro w _
    first | (go_simp; done) | (go_simp; with_reducible rfl)
  try simp only [Act.put, List.setIfInBounds_toArray, List.set_cons_zero, List.set_cons_succ]
  refine wpAnyH_take (i := 7) (oi := { dst := some 10, op := Go.Op.load 27 (Go.Operand.tmp 9), type := 27, pos := "law.go:141", after := #[{ on := 6, ground := Go.Ground.data }], guard := none }) (v := ?_) rfl (by kernel_rfl) (by kernel_rfl) (by kernel_rfl) (fun _ _ _ h => h) (Or.inl ⟨by kernel_rfl, ?_⟩) (by assumption) ?_
  rotate_left
  · intro w hSw
    (try dsimp only at hSw)
    go_split_ands
    first | (go_simp; done) | (go_simp; with_reducible rfl)
  try simp only [Act.put, List.setIfInBounds_toArray, List.set_cons_zero, List.set_cons_succ]
  refine wpAnyH_ready (rs := [8]) (by kernel_rfl) (by simp) ?_
  refine AllReadyH.cons (o := { dst := some 11, op := Go.Op.call { callee := Go.Callee.value (Go.Operand.func 30), args := #[Go.Operand.tmp 10], argTypes := #[27] }, type := 43, pos := "law.go:141", after := #[{ on := 7, ground := Go.Ground.data }], guard := none }) rfl (fun K hK => ?_) AllReadyH.nil
  go_simp
  go_at_call 30
  refine (RE.out _ S0.1).mono ?_
  rintro e w3 ⟨q, rfl, hq, hqn, gq, hb3⟩
  obtain ⟨qt, qA, qn, qc, qs, ql⟩ := q
  have S3 := HS.out _ _ S0 hb3
  refine hK.out _ _ S3 (fun _ => ?_)
  clear hK K hb3
  try simp only [Act.put, List.setIfInBounds_toArray, List.set_cons_zero, List.set_cons_succ]
  refine wpAnyH_take (i := 9) (oi := { dst := some 12, op := Go.Op.build 45 #[(0, Go.Operand.tmp 4), (1, Go.Operand.tmp 6), (2, Go.Operand.tmp 8), (3, Go.Operand.tmp 11)], type := 45, pos := "law.go:141", after := #[{ on := 1, ground := Go.Ground.data }, { on := 3, ground := Go.Ground.data }, { on := 5, ground := Go.Ground.data }, { on := 8, ground := Go.Ground.data }], guard := none }) (v := ?_) rfl (by kernel_rfl) (by kernel_rfl) (by kernel_rfl) (fun _ _ _ h => h) (Or.inl ⟨by kernel_rfl, ?_⟩) (by assumption) ?_
  rotate_left
  · intro w _
    first | (go_simp; done) | (go_simp; with_reducible rfl)
  try simp only [Act.put, List.setIfInBounds_toArray, List.set_cons_zero, List.set_cons_succ]
  obtain ⟨sb, a0, a1, a2, a3, a4, a5, A3, c0, c1, c2, c3, c4, c5, B3⟩ := S3
  have r0 : w3.cell? ⟨W.heap.size + 1, 0, none⟩ = some c0 := (B3.cell 0).trans rfl
  have f0 := B3.frozen 0
  have r1 : w3.cell? ⟨W.heap.size + 1, 1, none⟩ = some c1 := (B3.cell 1).trans rfl
  have f1 := B3.frozen 1
  have r2 : w3.cell? ⟨W.heap.size + 1, 2, none⟩ = some c2 := (B3.cell 2).trans rfl
  have f2 := B3.frozen 2
  have r3 : w3.cell? ⟨W.heap.size + 1, 3, none⟩ = some c3 := (B3.cell 3).trans rfl
  have f3 := B3.frozen 3
  have r4 : w3.cell? ⟨W.heap.size + 1, 4, none⟩ = some c4 := (B3.cell 4).trans rfl
  have f4 := B3.frozen 4
  have r5 : w3.cell? ⟨W.heap.size + 1, 5, none⟩ = some c5 := (B3.cell 5).trans rfl
  have f5 := B3.frozen 5
  have H := ((((((CurQ.mk B3 gq sb (Nat.le_succ _)).set 0 (.int .u64 (dg : Int))).set 1 (.int .i64 ln)).set 2 (.int .i64 by_)).set 3 (.int .i64 qt)).set 4 (.slice qA qn qc)).set 5 (.string ql)
  simp only [List.setIfInBounds_toArray, List.set_cons_zero, List.set_cons_succ] at H
  have HH := Lib.hid H
  have HQ := Lib.hid hq
  have HQN := Lib.hid hqn
  have A9 := (((((A3.far (p := ⟨W.heap.size + 1, 0, none⟩) (Nat.ne_of_lt (Nat.lt_succ_self _)) (.int .u64 (dg : Int))).far (p := ⟨W.heap.size + 1, 1, none⟩) (Nat.ne_of_lt (Nat.lt_succ_self _)) (.int .i64 ln)).far (p := ⟨W.heap.size + 1, 2, none⟩) (Nat.ne_of_lt (Nat.lt_succ_self _)) (.int .i64 by_)).far (p := ⟨W.heap.size + 1, 3, none⟩) (Nat.ne_of_lt (Nat.lt_succ_self _)) (.int .i64 qt)).far (p := ⟨W.heap.size + 1, 4, none⟩) (Nat.ne_of_lt (Nat.lt_succ_self _)) (.slice qA qn qc)).far (p := ⟨W.heap.size + 1, 5, none⟩) (Nat.ne_of_lt (Nat.lt_succ_self _)) (.string ql)
  have S9 := Lib.hid (show Below W.heap.size W ((((((w3.setCell ⟨W.heap.size + 1, 0, none⟩ (.int .u64 (dg : Int))).setCell ⟨W.heap.size + 1, 1, none⟩ (.int .i64 ln)).setCell ⟨W.heap.size + 1, 2, none⟩ (.int .i64 by_)).setCell ⟨W.heap.size + 1, 3, none⟩ (.int .i64 qt)).setCell ⟨W.heap.size + 1, 4, none⟩ (.slice qA qn qc)).setCell ⟨W.heap.size + 1, 5, none⟩ (.string ql)) ∧ ((((((w3.setCell ⟨W.heap.size + 1, 0, none⟩ (.int .u64 (dg : Int))).setCell ⟨W.heap.size + 1, 1, none⟩ (.int .i64 ln)).setCell ⟨W.heap.size + 1, 2, none⟩ (.int .i64 by_)).setCell ⟨W.heap.size + 1, 3, none⟩ (.int .i64 qt)).setCell ⟨W.heap.size + 1, 4, none⟩ (.slice qA qn qc)).setCell ⟨W.heap.size + 1, 5, none⟩ (.string ql)).cell? ⟨W.heap.size, 0, none⟩ = some (.int .u64 (dg : Int)) ∧ ((((((w3.setCell ⟨W.heap.size + 1, 0, none⟩ (.int .u64 (dg : Int))).setCell ⟨W.heap.size + 1, 1, none⟩ (.int .i64 ln)).setCell ⟨W.heap.size + 1, 2, none⟩ (.int .i64 by_)).setCell ⟨W.heap.size + 1, 3, none⟩ (.int .i64 qt)).setCell ⟨W.heap.size + 1, 4, none⟩ (.slice qA qn qc)).setCell ⟨W.heap.size + 1, 5, none⟩ (.string ql)).cell? ⟨W.heap.size, 1, none⟩ = some (.int .i64 ln) ∧ ((((((w3.setCell ⟨W.heap.size + 1, 0, none⟩ (.int .u64 (dg : Int))).setCell ⟨W.heap.size + 1, 1, none⟩ (.int .i64 ln)).setCell ⟨W.heap.size + 1, 2, none⟩ (.int .i64 by_)).setCell ⟨W.heap.size + 1, 3, none⟩ (.int .i64 qt)).setCell ⟨W.heap.size + 1, 4, none⟩ (.slice qA qn qc)).setCell ⟨W.heap.size + 1, 5, none⟩ (.string ql)).cell? ⟨W.heap.size, 2, none⟩ = some (.int .i64 by_) ∧ ((((((w3.setCell ⟨W.heap.size + 1, 0, none⟩ (.int .u64 (dg : Int))).setCell ⟨W.heap.size + 1, 1, none⟩ (.int .i64 ln)).setCell ⟨W.heap.size + 1, 2, none⟩ (.int .i64 by_)).setCell ⟨W.heap.size + 1, 3, none⟩ (.int .i64 qt)).setCell ⟨W.heap.size + 1, 4, none⟩ (.slice qA qn qc)).setCell ⟨W.heap.size + 1, 5, none⟩ (.string ql)).cell? ⟨W.heap.size, 3, none⟩ = some (.int .i64 t1) ∧ ((((((w3.setCell ⟨W.heap.size + 1, 0, none⟩ (.int .u64 (dg : Int))).setCell ⟨W.heap.size + 1, 1, none⟩ (.int .i64 ln)).setCell ⟨W.heap.size + 1, 2, none⟩ (.int .i64 by_)).setCell ⟨W.heap.size + 1, 3, none⟩ (.int .i64 qt)).setCell ⟨W.heap.size + 1, 4, none⟩ (.slice qA qn qc)).setCell ⟨W.heap.size + 1, 5, none⟩ (.string ql)).cell? ⟨W.heap.size, 4, none⟩ = some (.slice A n c) ∧ ((((((w3.setCell ⟨W.heap.size + 1, 0, none⟩ (.int .u64 (dg : Int))).setCell ⟨W.heap.size + 1, 1, none⟩ (.int .i64 ln)).setCell ⟨W.heap.size + 1, 2, none⟩ (.int .i64 by_)).setCell ⟨W.heap.size + 1, 3, none⟩ (.int .i64 qt)).setCell ⟨W.heap.size + 1, 4, none⟩ (.slice qA qn qc)).setCell ⟨W.heap.size + 1, 5, none⟩ (.string ql)).cell? ⟨W.heap.size, 5, none⟩ = some (.string l1) ∧ Blk ((((((w3.setCell ⟨W.heap.size + 1, 0, none⟩ (.int .u64 (dg : Int))).setCell ⟨W.heap.size + 1, 1, none⟩ (.int .i64 ln)).setCell ⟨W.heap.size + 1, 2, none⟩ (.int .i64 by_)).setCell ⟨W.heap.size + 1, 3, none⟩ (.int .i64 qt)).setCell ⟨W.heap.size + 1, 4, none⟩ (.slice qA qn qc)).setCell ⟨W.heap.size + 1, 5, none⟩ (.string ql)) W.heap.size 29 #[.int .u64 (dg : Int), .int .i64 ln, .int .i64 by_, .int .i64 t1, .slice A n c, .string l1] ∧ ∃ c0 c1 c2 c3 c4 c5, Blk ((((((w3.setCell ⟨W.heap.size + 1, 0, none⟩ (.int .u64 (dg : Int))).setCell ⟨W.heap.size + 1, 1, none⟩ (.int .i64 ln)).setCell ⟨W.heap.size + 1, 2, none⟩ (.int .i64 by_)).setCell ⟨W.heap.size + 1, 3, none⟩ (.int .i64 qt)).setCell ⟨W.heap.size + 1, 4, none⟩ (.slice qA qn qc)).setCell ⟨W.heap.size + 1, 5, none⟩ (.string ql)) (W.heap.size + 1) 45 #[c0, c1, c2, c3, c4, c5] from ⟨H.below, (A9.cell 0).trans rfl, (A9.cell 1).trans rfl, (A9.cell 2).trans rfl, (A9.cell 3).trans rfl, (A9.cell 4).trans rfl, (A9.cell 5).trans rfl, A9, _, _, _, _, _, _, H.blk⟩)
  clear hq hqn gq H A9
  refine wpAnyH_ready (rs := [10]) (by kernel_rfl) (by simp) ?_
  refine AllReadyH.cons (o := { dst := none, op := Go.Op.store 45 (Go.Operand.tmp 2) (Go.Operand.tmp 12), type := 0, pos := "law.go:141", after := #[{ on := 9, ground := Go.Ground.data }, { on := 8, ground := Go.Ground.chain }, { on := 0, ground := Go.Ground.phase }, { on := 1, ground := Go.Ground.phase }, { on := 2, ground := Go.Ground.phase }, { on := 3, ground := Go.Ground.phase }, { on := 4, ground := Go.Ground.phase }, { on := 5, ground := Go.Ground.phase }, { on := 6, ground := Go.Ground.phase }, { on := 7, ground := Go.Ground.phase }, { on := 8, ground := Go.Ground.phase }, { on := 9, ground := Go.Ground.phase }], guard := none }) rfl (fun K hK => ?_) AllReadyH.nil
  go_simp
  refine hK.out _ _ S9.out (fun _ => ?_)
  clear hK K
  try simp only [Act.put, List.setIfInBounds_toArray, List.set_cons_zero, List.set_cons_succ]
  refine wpAnyH_done (by kernel_rfl) ?_ _
  go_wp2
  refine bodyPost_ret (results_cell_row rfl _ _ (W.heap.size + 1) 45 _ (0, 0) _ rfl HH.out.blk Tryz.underlying45 rfl (by kernel_rfl)) rfl ?_
  exact ⟨⟨qt, qA, qn, qc, qs, ql⟩, rfl, HQ.out, HQN.out, HH.out.good, HH.out.below⟩
end Go.Proofs.YtfamcebgcpaolaaGreatDoor
namespace Go.Proofs.YtfamcebgcpaolaaGreatDoor
open Go.RowKit
set_option linter.unusedVariables false
set_option linter.unusedSimpArgs false

def dgQ (t : ByteArray) : Nat := unhexS (t.extract 3 t.size)
def cutA (t : ByteArray) : ByteArray × ByteArray × ByteArray := cutR (t.extract 20 t.size) [colS]
def lnQ (t : ByteArray) : Option Int := parseZ (cutA t).1
def cutB (t : ByteArray) : ByteArray × ByteArray × ByteArray := cutR (cutA t).2.2 [colS]
def byQ (t : ByteArray) : Option Int := parseZ (cutB t).1
def enQ (t : ByteArray) : Option (EntB × Nat) := entP (cutB t).2.2
def candQ (t : ByteArray) : CurB := ⟨dgQ t, (lnQ t).getD 0, (byQ t).getD 0, entOf (enQ t)⟩
structure OkQ (t : ByteArray) : Prop where
  ln : (lnQ t).isSome = true
  by_ : (byQ t).isSome = true
  en : (enQ t).isSome = true
  right : (candQ t).right = true
  put : (candQ t).put = t
theorem unhexS_lt (t : ByteArray) : unhexS t < 18446744073709551616 := by
  have key : ∀ (l : List UInt8) (n : Nat), n < 18446744073709551616 → l.foldl unF n < 18446744073709551616 := by
    intro l
    induction l with
    | nil => intro n h; exact h
    | cons c l ih => intro n h; exact ih _ (unF_lt n c h)
  exact key _ 0 (by decide)
theorem fold_hx (m : Nat) : ∀ (i n : Nat), (n + 1) * 16 ^ i ≤ 18446744073709551616 → (hx i m).foldl unF n = n * 16 ^ i + m % 16 ^ i
  | 0, n, _ => by
    show n = _
    rw [Nat.pow_zero, Nat.mod_one, Nat.mul_one, Nat.add_zero]
  | i + 1, n, h => by
    have hd : m / 16 ^ i % 16 < 16 := Nat.mod_lt _ (by decide)
    have hp : 0 < 16 ^ i := Nat.pow_pos (by decide)
    rw [Nat.pow_succ] at h
    have h2 : ((n * 16 + m / 16 ^ i % 16) + 1) * 16 ^ i ≤ ((n + 1) * 16) * 16 ^ i := Nat.mul_le_mul_right _ (by omega)
    have e0 : ((n + 1) * 16) * 16 ^ i = (n + 1) * (16 ^ i * 16) := by rw [Nat.mul_assoc, Nat.mul_comm 16]
    rw [hx, List.foldl_cons]
    have hu : unF n (hexC0 (m / 16 ^ i % 16)) = n * 16 + m / 16 ^ i % 16 := by
      unfold unF
      rw [dv_hexC0 _ hd, if_pos hd]
      refine Nat.mod_eq_of_lt ?_
      have h3 : (n * 16 + m / 16 ^ i % 16 + 1) * 1 ≤ (n * 16 + m / 16 ^ i % 16 + 1) * 16 ^ i := Nat.mul_le_mul_left _ hp
      omega
    rw [hu, fold_hx m i _ (by omega), Nat.pow_succ, Nat.mod_mul]
    generalize m / 16 ^ i % 16 = d
    generalize m % 16 ^ i = u
    generalize 16 ^ i = p
    have e1 : (n * 16 + d) * p = n * (p * 16) + p * d := by rw [Nat.add_mul, Nat.mul_assoc, Nat.mul_comm 16 p, Nat.mul_comm d p]
    omega
theorem unhex_hx (t : ByteArray) (m : Nat) (r : List UInt8) (hm : m < 18446744073709551616) (h : t.data.toList = hx 16 m ++ r) : unhexS t = m := by
  unfold unhexS
  rw [h, List.take_append_of_le_length (by rw [hx_len]; exact Nat.le_refl _), List.take_of_length_le (by rw [hx_len]; exact Nat.le_refl _), fold_hx m 16 0 (by decide), Nat.zero_mul, Nat.zero_add]
  exact Nat.mod_eq_of_lt hm
theorem itoa_no (z : Int) : ∀ c ∈ Lib.itoa z, c ≠ 58 := by
  obtain ⟨s, d, e, hs, _, hd⟩ := itoa_parts z
  intro c hc h
  subst h
  rw [e] at hc
  rcases List.mem_append.1 hc with h | h
  · rcases hs with rfl | rfl
    · cases h
    · simp at h
  · have := (hd _ h).2
    have k : (58 : UInt8).toNat = 58 := rfl
    omega
theorem cut_colon (s : ByteArray) (z : Int) (r : List UInt8) (h : s.data.toList = Lib.itoa z ++ 58 :: r) : cutR s [colS] = (itoaS z, colS, tx r) := by
  have hsz : s.size = (Lib.itoa z).length + (r.length + 1) := by rw [← size_toList, h]; simp
  have hcs : colS.size = 1 := rfl
  have ho : occ s colS (Lib.itoa z).length = true := by
    unfold occ Lib.occAt
    rw [h, List.drop_left]
    rfl
  have hno : ∀ j, j < (Lib.itoa z).length → ∀ y ∈ [colS], y.size ≠ 0 → occ s y j = false := fun j hj y hy _ => by
    obtain rfl := List.mem_singleton.1 hy
    unfold occ Lib.occAt
    rw [h, List.drop_append_of_le_length (Nat.le_of_lt hj), List.drop_eq_getElem_cons hj]
    have hne := itoa_no z _ (List.getElem_mem hj)
    show ((58 == (Lib.itoa z)[j]) && true) = false
    rw [Bool.and_true, beq_eq_false_iff_ne]
    exact fun e => hne e.symm
  rw [cut_found s [colS] 0 (Lib.itoa z).length colS (by decide) rfl (by decide) (by omega) ho hno (fun i hi => absurd hi (by omega))]
  have e1 : s.extract 0 (Lib.itoa z).length = itoaS z := by
    refine text_ext1 ?_
    rw [mid_list, List.drop_zero, h, List.take_left, itoaS_list]
  have e2 : s.extract ((Lib.itoa z).length + colS.size) s.size = tx r := by
    refine text_ext1 ?_
    rw [rest_list, tx_list, hcs]
    exact at_next s _ 58 r (by unfold atL; rw [h, List.drop_left])
  rw [e1, e2]
theorem okQ_put (c : CurB) (hc : OkC c) (hr : c.right = true) : OkQ c.put ∧ candQ c.put = c := by
  obtain ⟨t, ht⟩ : ∃ t, c.put = t := ⟨_, rfl⟩
  have e0 : atL t 0 = [99, 49, 58] ++ (hx 16 c.dg ++ 58 :: (Lib.itoa c.ln ++ 58 :: (Lib.itoa c.by_ ++ 58 :: (entL c.e ++ 58 :: hx 16 (sumS c.body))))) := by
    unfold atL
    rw [List.drop_zero, ← ht, put_list]
    unfold bodyL
    simp
  have e1 : atL t 3 = _ := at_add t 0 [99, 49, 58] _ e0
  have e2 : atL t 20 = _ := at_next t 19 _ _ (by have := at_add t 3 _ _ e1; rwa [hx_len] at this)
  have d1 : dgQ t = c.dg := unhex_hx _ _ _ hc.dg (by rw [rest_list, e1])
  have d2 : cutA t = (itoaS c.ln, colS, tx (Lib.itoa c.by_ ++ 58 :: (entL c.e ++ 58 :: hx 16 (sumS c.body)))) := cut_colon _ c.ln _ (by rw [rest_list, e2])
  have d3 : lnQ t = some c.ln := by unfold lnQ; rw [d2]; exact (parseZ_iff _ _).2 ⟨⟨hc.l0, hc.l1⟩, rfl⟩
  have d4 : cutB t = (itoaS c.by_, colS, tx (entL c.e ++ 58 :: hx 16 (sumS c.body))) := by unfold cutB; rw [d2]; exact cut_colon _ c.by_ _ (by rw [tx_list])
  have d5 : byQ t = some c.by_ := by unfold byQ; rw [d4]; exact (parseZ_iff _ _).2 ⟨⟨hc.b0, hc.b1⟩, rfl⟩
  have d6 : enQ t = some (c.e, (entL c.e).length) := by unfold enQ; rw [d4]; exact entP_text _ c.e _ hc.t0 hc.t1 hc.right (by rw [tx_list])
  have d7 : candQ t = c := by unfold candQ; rw [d1, d3, d5, d6]; rfl
  rw [ht]
  exact ⟨⟨by rw [d3]; rfl, by rw [d5]; rfl, by rw [d6]; rfl, by rw [d7]; exact hr, by rw [d7]; exact ht⟩, d7⟩
theorem some_of {α : Type} {o : Option α} (h : o.isSome = true) : ∃ v, o = some v := by
  cases o with
  | none => cases h
  | some v => exact ⟨v, rfl⟩
theorem candQ_ok {t : ByteArray} (h : OkQ t) : OkC (candQ t) := by
  obtain ⟨v1, h1⟩ := some_of h.ln
  obtain ⟨v2, h2⟩ := some_of h.by_
  obtain ⟨x, h3⟩ := some_of h.en
  have k1 := ((parseZ_iff _ _).1 h1).1
  have k2 := ((parseZ_iff _ _).1 h2).1
  have k3 := entP_right h3
  have e : candQ t = ⟨dgQ t, v1, v2, x.1⟩ := by unfold candQ; rw [h1, h2, h3]; rfl
  rw [e]
  exact ⟨unhexS_lt _, k1.1, k1.2, k2.1, k2.2, k3.1, k3.2.1, k3.2.2⟩
theorem getC_yes {t : ByteArray} (h : OkQ t) : getC t = some (candQ t) := (getC_iff _ _).2 ⟨candQ_ok h, h.right, h.put⟩
theorem getC_no {t : ByteArray} (h : ¬ OkQ t) : getC t = none := by
  cases hg : getC t with
  | none => rfl
  | some c =>
    obtain ⟨h1, h2, h3⟩ := (getC_iff _ _).1 hg
    have := (okQ_put c h1 h2).1
    rw [h3] at this
    exact absurd this h
theorem getC_short {t : ByteArray} (h : t.size < 20) : getC t = none := by
  cases hg : getC t with
  | none => rfl
  | some c =>
    obtain ⟨h1, h2, h3⟩ := (getC_iff _ _).1 hg
    have hs : t.size = (bodyL c).length + 16 := by rw [← h3, ← size_toList, put_list, List.length_append, hx_len]
    unfold bodyL at hs
    simp only [List.length_append, List.length_cons, hx_len] at hs
    omega
theorem right_putE (e : EntB) (hr : rightE e = true) (h0 : -9223372036854775808 ≤ e.ts) (h1 : e.ts ≤ 9223372036854775807) : PutE e := by
  obtain ⟨r1, r2, r3, r4, r5⟩ := right_small e hr h0 h1
  exact ⟨h0, h1, by omega, r2, by omega, by omega, by omega⟩
theorem entOf_put (o : Option (EntB × Nat)) (t : ByteArray) (h : entP t = o) : PutE (entOf o) := by
  cases o with
  | none => exact right_putE _ (by decide +kernel) (by decide) (by decide)
  | some x => exact right_putE _ (entP_right h).1 (entP_right h).2.1 (entP_right h).2.2
theorem cutR_size (s : ByteArray) (ss : List ByteArray) : (cutR s ss).1.size ≤ s.size ∧ (cutR s ss).2.2.size ≤ s.size := by
  unfold cutR
  split
  · exact ⟨Nat.le_refl _, Nat.zero_le _⟩
  · rw [ByteArray.size_extract, ByteArray.size_extract]
    constructor <;> omega
structure CurTwoQ (W0 w : World) (g : Nat) (cs : Array Value) (g' : Nat) (cs' : Array Value) (x : EntX) : Prop where
  b1 : Blk w g 45 cs
  b2 : Blk w g' 45 cs'
  good : GoodQ w x
  below : Below W0.heap.size W0 w
  f1 : W0.heap.size ≤ g
  f2 : W0.heap.size ≤ g'
  ne : g ≠ g'
theorem CurTwoQ.set {W0 w : World} {g : Nat} {cs : Array Value} {g' : Nat} {cs' : Array Value} {x : EntX} (h : CurTwoQ W0 w g cs g' cs' x) (i : Nat) (u : Value) : CurTwoQ W0 (w.setCell ⟨g, i, none⟩ u) g (cs.setIfInBounds i u) g' cs' x :=
  ⟨h.b1.set_ i u, h.b2.far (p := ⟨g, i, none⟩) h.ne.symm u, goodQ_set h.good h.b1 pairQ_of_cur i u, h.below.setCell (p := ⟨g, i, none⟩) h.f1 _, h.f1, h.f2, h.ne⟩
theorem CurTwoQ.set' {W0 w : World} {g : Nat} {cs : Array Value} {g' : Nat} {cs' : Array Value} {x : EntX} (h : CurTwoQ W0 w g cs g' cs' x) (i : Nat) (u : Value) : CurTwoQ W0 (w.setCell ⟨g', i, none⟩ u) g cs g' (cs'.setIfInBounds i u) x :=
  ⟨h.b1.far (p := ⟨g', i, none⟩) h.ne u, h.b2.set_ i u, goodQ_set h.good h.b2 pairQ_of_cur i u, h.below.setCell (p := ⟨g', i, none⟩) h.f2 _, h.f1, h.f2, h.ne⟩
theorem CurTwoQ.next {W0 w w' : World} {g : Nat} {cs : Array Value} {g' : Nat} {cs' : Array Value} {x : EntX} (h : CurTwoQ W0 w g cs g' cs' x) (hx : Below w.heap.size w w') : CurTwoQ W0 w' g cs g' cs' x :=
  ⟨h.b1.below hx h.b1.lt, h.b2.below hx h.b2.lt, h.good.below hx, hop h.below (Nat.le_refl _) hx, h.f1, h.f2, h.ne⟩
theorem goodQ_nil (w : World) : GoodQ w xnil := ⟨pairs_none w, fun h => absurd h (by decide)⟩

set_option maxRecDepth 100000 in
set_option maxHeartbeats 3200000 in
theorem refGetC_any (t : ByteArray) (hs : t.size ≤ 16000000) (W : World) :
    Calls Tryz.prog 21 #[.string t] W fun e w' => ∃ x : CurX, e = .returned (.tuple #[x.val, .int .i64 (getE t)]) ∧ x.b = (getC t).getD cnil.b ∧ GoodQ w' x.e ∧ Below W.heap.size W w' := by
  have h0 : W.heap.size ≤ W.heap.size := Nat.le_refl _
  have hu := Tryz.underlying45
  have HU := Lib.hid hu
  have hEE : getE t = if (getC t).isSome = true then 0 else 5 := rfl
  obtain ⟨g0, hg0⟩ : ∃ g, W.heap.size = g := ⟨_, rfl⟩
  obtain ⟨w0, hw0⟩ : ∃ w, W.alloc (.cells #[.int .u64 0, .int .i64 0, .int .i64 0, .int .i64 0, .slice none 0 0, .string ⟨#[]⟩] 45) = w := ⟨_, rfl⟩
  have B0 : Blk w0 g0 45 #[.int .u64 0, .int .i64 0, .int .i64 0, .int .i64 0, .slice none 0 0, .string ⟨#[]⟩] := by rw [← hw0, ← hg0]; exact Blk.new W _ _
  have hb0 : Below W.heap.size W w0 := by rw [← hw0]; exact (Below.refl _ _).alloc h0 _
  have hgW : W.heap.size ≤ g0 := by omega
  have HGW := Lib.hid hgW
  have q0 : w0.cell? ⟨g0, 0, none⟩ = some (.int .u64 0) := (B0.cell 0).trans rfl
  have q1 : w0.cell? ⟨g0, 1, none⟩ = some (.int .i64 0) := (B0.cell 1).trans rfl
  have q2 : w0.cell? ⟨g0, 2, none⟩ = some (.int .i64 0) := (B0.cell 2).trans rfl
  have q3 : w0.cell? ⟨g0, 3, none⟩ = some (.int .i64 0) := (B0.cell 3).trans rfl
  have q4 : w0.cell? ⟨g0, 4, none⟩ = some (.slice none 0 0) := (B0.cell 4).trans rfl
  have q5 : w0.cell? ⟨g0, 5, none⟩ = some (.string ⟨#[]⟩) := (B0.cell 5).trans rfl
  have f0 := B0.frozen 0
  have f1 := B0.frozen 1
  have f2 := B0.frozen 2
  have f3 := B0.frozen 3
  have f4 := B0.frozen 4
  have f5 := B0.frozen 5
  by_cases h20 : t.size < 20
  · have hI : (t.size : Int) < 20 := by omega
    have hgn := getC_short h20
    rw [hgn] at hEE
    have E := Lib.hid (show getE t = 5 from hEE)
    rw [hgn]
    have HH := Lib.hid (CurQ.mk B0 (goodQ_nil _) hb0 HGW.out)
    clear hu hEE hgn h20 B0 hb0 hgW
    go_enter Tryz.func21, Tryz.ntmps21
    go_wp2
    have H := ((((((HH.out.set 0 (.int .u64 0)).set 1 (.int .i64 0)).set 2 (.int .i64 0)).set 3 (.int .i64 0)).set 4 (.slice none 0 0)).set 5 (.string ⟨#[]⟩))
    refine bodyPost_ret (results_row_tmp rfl _ _ g0 45 _ (0, 0) _ rfl H.blk HU.out rfl (by kernel_rfl)) rfl ?_
    exact ⟨cnil, by rw [E.out]; rfl, rfl, H.good, H.below⟩
  · have hI : ¬ (t.size : Int) < 20 := by omega
    have hI3 : (3 : Int) ≤ (t.size : Int) := by omega
    have hI20 : (20 : Int) ≤ (t.size : Int) := by omega
    have sA := cutR_size (t.extract 20 t.size) [colS]
    have sB := cutR_size (cutR (t.extract 20 t.size) [colS]).2.2 [colS]
    have x3 : (t.extract 3 t.size).size ≤ 16000000 := by rw [ByteArray.size_extract]; omega
    have x20 : (t.extract 20 t.size).size ≤ 16000000 := by rw [ByteArray.size_extract]; omega
    have UH := Lib.hid (fun w => unhex_any (t.extract 3 t.size) (by omega) w)
    have CT := fun w A h => refCut_any (t.extract 20 t.size) (by omega) A 1 1 [colS] (by decide) (by decide) w h
    have hyes := fun (h : OkQ t) => getC_yes h
    have hno := fun (h : ¬ OkQ t) => getC_no h
    have hok : OkQ t ↔ (lnQ t).isSome = true ∧ (byQ t).isSome = true ∧ (enQ t).isSome = true ∧ (candQ t).right = true ∧ (candQ t).put = t := ⟨fun h => ⟨h.ln, h.by_, h.en, h.right, h.put⟩, fun h => ⟨h.1, h.2.1, h.2.2.1, h.2.2.2.1, h.2.2.2.2⟩⟩
    have hcand : candQ t = ⟨dgQ t, (lnQ t).getD 0, (byQ t).getD 0, entOf (enQ t)⟩ := rfl
    have hD : unhexS (t.extract 3 t.size) = dgQ t := rfl
    have hDl : dgQ t < 18446744073709551616 := unhexS_lt _
    have hA : cutR (t.extract 20 t.size) [colS] = cutA t := rfl
    rw [hA] at sA sB
    simp only [hA] at CT
    have hBB : cutR (cutA t).2.2 [colS] = cutB t := rfl
    rw [hBB] at sB
    obtain ⟨⟨a1, a2, a3⟩, haa⟩ : ∃ a, cutA t = a := ⟨_, rfl⟩
    have hln : lnQ t = parseZ a1 := by unfold lnQ; rw [haa]
    rw [haa] at sA hBB sB
    simp only [haa] at CT
    (try dsimp only at sA)
    (try dsimp only at hBB)
    (try dsimp only at sB)
    (try dsimp only at CT)
    obtain ⟨⟨b1, b2, b3⟩, hbb⟩ : ∃ a, cutB t = a := ⟨_, rfl⟩
    have hby : byQ t = parseZ b1 := by unfold byQ; rw [hbb]
    have hen : enQ t = entP b3 := by unfold enQ; rw [hbb]
    rw [hbb] at hBB sB
    (try dsimp only at sB)
    have CU := fun w A h => refCut_any a3 (by omega) A 1 1 [colS] (by decide) (by decide) w h
    simp only [hBB] at CU
    (try dsimp only at CU)
    have P1 := fun w => refParse_any a1 (by omega) w
    have P2 := fun w => refParse_any b1 (by omega) w
    have PE := fun w => refEntParse_any b3 (by omega) w
    have hpe := entOf_put (enQ t) b3 hen.symm
    have r1 : ∀ v, lnQ t = some v → -9223372036854775808 ≤ v ∧ v ≤ 9223372036854775807 := fun v h => ((parseZ_iff _ _).1 (hln.symm.trans h)).1
    have r2 : ∀ v, byQ t = some v → -9223372036854775808 ≤ v ∧ v ≤ 9223372036854775807 := fun v h => ((parseZ_iff _ _).1 (hby.symm.trans h)).1
    rw [← hln] at P1
    rw [← hby] at P2
    rw [← hen] at PE
    have v1r : -9223372036854775808 ≤ (lnQ t).getD 0 ∧ (lnQ t).getD 0 ≤ 9223372036854775807 := by
      cases h : lnQ t with
      | none => exact ⟨by decide, by decide⟩
      | some v => exact r1 v h
    have v2r : -9223372036854775808 ≤ (byQ t).getD 0 ∧ (byQ t).getD 0 ≤ 9223372036854775807 := by
      cases h : byQ t with
      | none => exact ⟨by decide, by decide⟩
      | some v => exact r2 v h
    obtain ⟨D, hDD⟩ : ∃ d, dgQ t = d := ⟨_, rfl⟩
    obtain ⟨v1, hv1⟩ : ∃ d, (lnQ t).getD 0 = d := ⟨_, rfl⟩
    obtain ⟨v2, hv2⟩ : ∃ d, (byQ t).getD 0 = d := ⟨_, rfl⟩
    obtain ⟨eb, heb⟩ : ∃ d, entOf (enQ t) = d := ⟨_, rfl⟩
    obtain ⟨o1, ho1⟩ : ∃ d, (lnQ t).isSome = d := ⟨_, rfl⟩
    obtain ⟨o2, ho2⟩ : ∃ d, (byQ t).isSome = d := ⟨_, rfl⟩
    obtain ⟨o3, ho3⟩ : ∃ d, (enQ t).isSome = d := ⟨_, rfl⟩
    obtain ⟨on, hon⟩ : ∃ d, ((enQ t).map (·.2)).getD 0 = d := ⟨_, rfl⟩
    rw [hDD, hv1, hv2, heb] at hcand
    rw [hDD] at hD hDl
    rw [hv1] at v1r
    rw [hv2] at v2r
    rw [heb] at hpe
    rw [ho1, ho2, ho3, hcand] at hok
    simp only [hv1, ho1] at P1
    simp only [hv2, ho2] at P2
    have PE2 := Lib.hid (fun w => show Calls Tryz.prog 41 #[.string b3] w fun e w' => ∃ x : EntX, e = .returned (.tuple #[.agg #[.int .i64 x.ts, .slice x.A x.n x.c, .string x.ln], .int .i64 (on : Int), .bool o3]) ∧ x.b = eb ∧ GoodQ w' x ∧ Below w.heap.size w w' from (PE w).mono (by
      rintro e w' ⟨x, rfl, hx, gx, hb⟩
      refine ⟨x, ?_, by rw [hx, heb], gx, hb⟩
      unfold entV
      rw [hon, ho3]
      rfl))
    have UH2 := Lib.hid (fun w => show Calls Tryz.prog 38 #[.string (t.extract 3 t.size)] w fun e w' => e = .returned (.int .u64 (D : Int)) ∧ Below w.heap.size w w' from by rw [← hD]; exact UH.out w)
    have PT := Lib.hid (fun (x : EntX) (w : World) (hx : x.b = eb) (gx : GoodQ w x) => show Calls Tryz.prog 9 #[.agg #[.int .u64 (D : Int), .int .i64 v1, .int .i64 v2, .int .i64 x.ts, .slice x.A x.n x.c, .string x.ln]] w fun e w' => e = .returned (.tuple #[.string (if (CurB.mk D v1 v2 eb).right = true then (CurB.mk D v1 v2 eb).put else .empty), .bool (CurB.mk D v1 v2 eb).right]) ∧ Below w.heap.size w w' from by
      have hn : x.n ≤ 1048576 := by
        have k1 : x.ls.length = x.n := gx.set.1
        have k2 : x.b.ls.length ≤ 1048576 := by rw [hx]; exact hpe.len
        have k3 : x.ls.length ≤ 1048576 := k2
        omega
      have h := refPutC_any D v1 v2 x.ts x.A x.n x.c x.ls x.ln hDl v1r.1 v1r.2 v2r.1 v2r.2 (by have := hpe; rw [← hx] at this; exact this) hn w gx.set
      rw [← hx]
      exact h)
    obtain ⟨R, hR⟩ : ∃ r, (CurB.mk D v1 v2 eb).right = r := ⟨_, rfl⟩
    obtain ⟨S, hS⟩ : ∃ r, (CurB.mk D v1 v2 eb).put = r := ⟨_, rfl⟩
    replace PT := PT.out
    simp only [hR, hS] at PT
    rw [hR, hS] at hok
    replace PT := Lib.hid PT
    replace P1 := Lib.hid P1
    replace P2 := Lib.hid P2
    replace CT := Lib.hid CT
    replace CU := Lib.hid CU
    obtain ⟨GC, hGC⟩ : ∃ z, getC t = z := ⟨_, rfl⟩
    obtain ⟨GE, hGE⟩ : ∃ z, getE t = z := ⟨_, rfl⟩
    rw [hGE, hGC] at hEE
    rw [hGC] at hyes hno
    rw [hGC, hGE]
    rw [hcand] at hyes
    have HYES := Lib.hid (show (o1 = true ∧ o2 = true ∧ o3 = true ∧ R = true ∧ S = t) → GC = some (CurB.mk D v1 v2 eb) from fun h => hyes (hok.2 h))
    have HNO := Lib.hid (show ¬ (o1 = true ∧ o2 = true ∧ o3 = true ∧ R = true ∧ S = t) → GC = none from fun h => hno (fun k => h (hok.1 k)))
    have HEE := Lib.hid hEE
    have e20 : t.extract 20 t.size = t.extract 20 t.size := rfl
    clear hu hEE hyes hno hok hcand hD hDl hA haa hbb hBB hln hby hen r1 r2 v1r v2r hDD hv1 hv2 heb ho1 ho2 ho3 hon hR hS hGC hGE PE UH hpe sA sB e20 hgW h20
    go_enter Tryz.func21, Tryz.ntmps21
    go_wp2_with fail
    clear hw0 hg0 q0 q1 q2 q3 q4 q5 f0 f1 f2 f3 f4 f5
    refine (UH2.out _).mono ?_
    rintro e w1 ⟨rfl, hx⟩
    have B1 := B0.below hx B0.lt
    have hb1 := hop hb0 h0 hx
    obtain ⟨g1, hg1⟩ : ∃ g, w1.heap.size = g := ⟨_, rfl⟩
    obtain ⟨w2, hw2⟩ : ∃ w, w1.alloc (.cells #[.int .u64 (D : Int), .int .i64 0, .int .i64 0, .int .i64 0, .slice none 0 0, .string ⟨#[]⟩] 45) = w := ⟨_, rfl⟩
    have hlt := B1.lt
    have C2 : Blk w2 g1 45 #[.int .u64 (D : Int), .int .i64 0, .int .i64 0, .int .i64 0, .slice none 0 0, .string ⟨#[]⟩] := by rw [← hw2, ← hg1]; exact Blk.new _ _ _
    have B2 : Blk w2 g0 45 #[.int .u64 0, .int .i64 0, .int .i64 0, .int .i64 0, .slice none 0 0, .string ⟨#[]⟩] := by rw [← hw2]; exact B1.alloc _
    have hb2 : Below W.heap.size W w2 := by rw [← hw2]; exact hb1.alloc hb1.size _
    have HH := Lib.hid (CurTwoQ.mk B2 C2 (goodQ_nil _) hb2 HGW.out (by have := HGW.out; omega) (by omega))
    clear hx B0 hb0 B1 hb1 hlt C2 B2 hb2
    obtain ⟨g2, hg2⟩ : ∃ g, g1 + 1 = g := ⟨_, rfl⟩
    have hz2 : w2.heap.size = g2 := by rw [← hw2, ← hg2, ← hg1]; simp
    have T2 := texts_one w2 colS g2 hz2
    have HH3 := Lib.hid (HH.out.next ((Below.refl _ _).alloc (Nat.le_refl _) (.cells #[.string colS] 9)))
    replace T2 := Lib.hid T2
    clear HH
    have hcol : colS = (⟨#[58]⟩ : ByteArray) := rfl
    obtain ⟨w3, hw3⟩ : ∃ w, w2.alloc (.cells #[.string ⟨#[58]⟩] 9) = w := ⟨_, rfl⟩
    replace T2 := T2.out
    replace HH3 := HH3.out
    rw [hcol, hw3] at HH3
    rw [hcol, hw3, ← hcol] at T2
    replace T2 := Lib.hid T2
    replace HH3 := Lib.hid HH3
    rw [← hw2] at hw3
    clear hcol hz2 hw2
    go_wp2_with fail
    clear hg1 hg2 hw3
    refine (CT.out _ _ T2.out).mono ?_
    rintro e w4 ⟨rfl, q, rfl⟩
    have HH4 := HH3.out.next (below_drewN (Below.refl _ _) q)
    obtain ⟨w4, hw4⟩ : ∃ w, w3.drewN q = w := ⟨_, rfl⟩
    rw [hw4] at HH4 ⊢
    clear hw4 HH3 T2 CT
    obtain ⟨g3, hg3⟩ : ∃ g, w4.heap.size = g := ⟨_, rfl⟩
    have T2 := texts_one w4 colS g3 hg3
    have HH5 := HH4.next ((Below.refl _ _).alloc (Nat.le_refl _) (.cells #[.string colS] 9))
    have hcol : colS = (⟨#[58]⟩ : ByteArray) := rfl
    obtain ⟨w5, hw5⟩ : ∃ w, w4.alloc (.cells #[.string ⟨#[58]⟩] 9) = w := ⟨_, rfl⟩
    rw [hcol, hw5] at HH5
    rw [hcol, hw5, ← hcol] at T2
    replace T2 := Lib.hid T2
    replace HH5 := Lib.hid HH5
    clear hcol HH4
    go_wp2_with fail
    clear hw5 hg3
    refine (CU.out _ _ T2.out).mono ?_
    rintro e w6 ⟨rfl, q, rfl⟩
    have HH6 := HH5.out.next (below_drewN (Below.refl _ _) q)
    obtain ⟨w6, hw6⟩ : ∃ w, w5.drewN q = w := ⟨_, rfl⟩
    rw [hw6] at HH6 ⊢
    replace HH6 := Lib.hid HH6
    clear hw6 HH5 T2 CU
    go_wp2_with fail
    refine (P1.out _).mono ?_
    rintro e w7 ⟨rfl, hx⟩
    have HH7 := Lib.hid (HH6.out.next hx)
    clear hx HH6 P1
    go_wp2_with fail
    refine (P2.out _).mono ?_
    rintro e w8 ⟨rfl, hx⟩
    have HH8 := Lib.hid (HH7.out.next hx)
    clear hx HH7 P2
    go_wp2_with fail
    refine (PE2.out _).mono ?_
    rintro e w9 ⟨x, rfl, hxb, gx, hx⟩
    have H9 := HH8.out.next hx
    have H9x := CurTwoQ.mk H9.b1 H9.b2 gx H9.below H9.f1 H9.f2 H9.ne
    have HA := H9x.next ((Below.refl _ _).alloc (Nat.le_refl _) (.cells #[.int .i64 x.ts, .slice x.A x.n x.c, .string x.ln] 43))
    have E10 := Blk.new w9 43 #[.int .i64 x.ts, .slice x.A x.n x.c, .string x.ln]
    have hne4 : w9.heap.size ≠ g1 := by have := H9.b2.lt; omega
    obtain ⟨g4, hg4⟩ : ∃ g, w9.heap.size = g := ⟨_, rfl⟩
    obtain ⟨w10, hw10⟩ : ∃ w, w9.alloc (.cells #[.int .i64 x.ts, .slice x.A x.n x.c, .string x.ln] 43) = w := ⟨_, rfl⟩
    rw [hw10] at HA E10
    rw [hg4] at E10 hne4
    have HXB := Lib.hid hxb
    have HHA := Lib.hid HA
    obtain ⟨ts, A, n, c, ls, l1⟩ := x
    dsimp only at E10 ⊢
    have Cc := HHA.out.b2
    have q0 : w10.cell? ⟨g1, 0, none⟩ = some (.int .u64 (D : Int)) := (Cc.cell 0).trans rfl
    have q1 : w10.cell? ⟨g1, 1, none⟩ = some (.int .i64 0) := (Cc.cell 1).trans rfl
    have q2 : w10.cell? ⟨g1, 2, none⟩ = some (.int .i64 0) := (Cc.cell 2).trans rfl
    have q3 : w10.cell? ⟨g1, 3, none⟩ = some (.int .i64 0) := (Cc.cell 3).trans rfl
    have q4 : w10.cell? ⟨g1, 4, none⟩ = some (.slice none 0 0) := (Cc.cell 4).trans rfl
    have q5 : w10.cell? ⟨g1, 5, none⟩ = some (.string ⟨#[]⟩) := (Cc.cell 5).trans rfl
    have f0 := Cc.frozen 0
    have f1 := Cc.frozen 1
    have f2 := Cc.frozen 2
    have f3 := Cc.frozen 3
    have f4 := Cc.frozen 4
    have f5 := Cc.frozen 5
    have p0 : w10.cell? ⟨g4, 0, none⟩ = some (.int .i64 ts) := (E10.cell 0).trans rfl
    have p1 : w10.cell? ⟨g4, 1, none⟩ = some (.slice A n c) := (E10.cell 1).trans rfl
    have p2 : w10.cell? ⟨g4, 2, none⟩ = some (.string l1) := (E10.cell 2).trans rfl
    have HS := (((((HHA.out.set' 1 (.int .i64 v1)).set' 2 (.int .i64 v2)).set' 3 (.int .i64 ts)).set' 4 (.slice A n c)).set' 5 (.string l1))
    simp only [List.setIfInBounds_toArray, List.set_cons_zero, List.set_cons_succ] at HS
    have HHS := Lib.hid HS
    clear hx HH8 PE2 gx H9 H9x HA E10 Cc HS hxb
    have hne5 : ¬ g1 = g4 := fun h => hne4 h.symm
    go_wp2_with fail
    clear hw10 hg4 q0 q1 q2 q3 q4 q5 f0 f1 f2 f3 f4 f5 p0 p1 p2
    refine (PT.out ⟨ts, A, n, c, ls, l1⟩ _ HXB.out HHS.out.good).mono ?_
    rintro e w12 ⟨rfl, hx⟩
    obtain ⟨X, hX⟩ : ∃ X, (if R = true then S else ByteArray.empty) = X := ⟨_, rfl⟩
    rw [hX]
    have HXX := Lib.hid (show R = true → X = S from fun h => by rw [← hX, if_pos h])
    clear hX
    have HHP := Lib.hid (HHS.out.next hx)
    clear hx HHS HHA PT
    have Bc := HHP.out.b1
    have Cc := HHP.out.b2
    have q0 : w12.cell? ⟨g0, 0, none⟩ = some (.int .u64 0) := (Bc.cell 0).trans rfl
    have q1 : w12.cell? ⟨g0, 1, none⟩ = some (.int .i64 0) := (Bc.cell 1).trans rfl
    have q2 : w12.cell? ⟨g0, 2, none⟩ = some (.int .i64 0) := (Bc.cell 2).trans rfl
    have q3 : w12.cell? ⟨g0, 3, none⟩ = some (.int .i64 0) := (Bc.cell 3).trans rfl
    have q4 : w12.cell? ⟨g0, 4, none⟩ = some (.slice none 0 0) := (Bc.cell 4).trans rfl
    have q5 : w12.cell? ⟨g0, 5, none⟩ = some (.string ⟨#[]⟩) := (Bc.cell 5).trans rfl
    have f0 := Bc.frozen 0
    have f1 := Bc.frozen 1
    have f2 := Bc.frozen 2
    have f3 := Bc.frozen 3
    have f4 := Bc.frozen 4
    have f5 := Bc.frozen 5
    have p0 : w12.cell? ⟨g1, 0, none⟩ = some (.int .u64 (D : Int)) := (Cc.cell 0).trans rfl
    have p1 : w12.cell? ⟨g1, 1, none⟩ = some (.int .i64 v1) := (Cc.cell 1).trans rfl
    have p2 : w12.cell? ⟨g1, 2, none⟩ = some (.int .i64 v2) := (Cc.cell 2).trans rfl
    have p3 : w12.cell? ⟨g1, 3, none⟩ = some (.int .i64 ts) := (Cc.cell 3).trans rfl
    have p4 : w12.cell? ⟨g1, 4, none⟩ = some (.slice A n c) := (Cc.cell 4).trans rfl
    have p5 : w12.cell? ⟨g1, 5, none⟩ = some (.string l1) := (Cc.cell 5).trans rfl
    clear Bc Cc
    by_cases hall : o1 = true ∧ o2 = true ∧ o3 = true ∧ R = true ∧ S = t
    · have hg := HYES.out hall
      obtain rfl := HXX.out hall.2.2.2.1
      obtain ⟨rfl, rfl, rfl, rfl, rfl⟩ := hall
      have EE := Lib.hid (show GE = 0 from by rw [HEE.out, hg]; rfl)
      have HG := Lib.hid hg
      clear HYES HNO HEE hg
      clear HXX
      go_wp2
      have H := ((((((HHP.out.set 0 (.int .u64 (D : Int))).set 1 (.int .i64 v1)).set 2 (.int .i64 v2)).set 3 (.int .i64 ts)).set 4 (.slice A n c)).set 5 (.string l1))
      simp only [List.setIfInBounds_toArray, List.set_cons_zero, List.set_cons_succ] at H
      refine bodyPost_ret (results_row_tmp rfl _ _ g0 45 _ (0, 0) _ rfl H.b1 HU.out rfl (by kernel_rfl)) rfl ?_
      exact ⟨⟨D, v1, v2, ⟨ts, A, n, c, ls, l1⟩⟩, by rw [EE.out]; rfl, by rw [HG.out, ← HXB.out]; rfl, H.good, H.below⟩
    · have hg := HNO.out hall
      have EE := Lib.hid (show GE = 5 from by rw [HEE.out, hg]; rfl)
      have HG := Lib.hid hg
      have HN := Lib.hid (CurTwoQ.mk HHP.out.b1 HHP.out.b2 (goodQ_nil _) HHP.out.below HHP.out.f1 HHP.out.f2 HHP.out.ne)
      have hways : (o1 = false) ∨ (o1 = true ∧ o2 = false) ∨ (o1 = true ∧ o2 = true ∧ o3 = false) ∨ (o1 = true ∧ o2 = true ∧ o3 = true ∧ R = false) ∨ (o1 = true ∧ o2 = true ∧ o3 = true ∧ R = true ∧ (X.toList == t.toList) = false) := by
        cases o1 with
        | false => exact .inl rfl
        | true =>
          cases o2 with
          | false => exact .inr (.inl ⟨rfl, rfl⟩)
          | true =>
            cases o3 with
            | false => exact .inr (.inr (.inl ⟨rfl, rfl, rfl⟩))
            | true =>
              cases R with
              | false => exact .inr (.inr (.inr (.inl ⟨rfl, rfl, rfl, rfl⟩)))
              | true => exact .inr (.inr (.inr (.inr ⟨rfl, rfl, rfl, rfl, by rw [beq_eq_false_iff_ne, HXX.out rfl]; exact fun h => hall ⟨rfl, rfl, rfl, rfl, text_ext1 (by rw [← Lib.toList_data, ← Lib.toList_data, h])⟩⟩)))
      clear HYES HNO HEE hg hall HHP p0 p1 p2 p3 p4 p5
      rcases hways with rfl | ⟨rfl, rfl⟩ | ⟨rfl, rfl, rfl⟩ | ⟨rfl, rfl, rfl, rfl⟩ | ⟨rfl, rfl, rfl, rfl, hst3⟩
      all_goals
        try (have hst4 : (!(X.toList == t.toList)) = true := by rw [hst3]; rfl)
        try clear HXX
        go_wp2
        have H := ((((((HN.out.set 0 (.int .u64 0)).set 1 (.int .i64 0)).set 2 (.int .i64 0)).set 3 (.int .i64 0)).set 4 (.slice none 0 0)).set 5 (.string ⟨#[]⟩))
        refine bodyPost_ret (results_row_tmp rfl _ _ g0 45 _ (0, 0) _ rfl H.b1 HU.out rfl (by kernel_rfl)) rfl ?_
        exact ⟨cnil, by rw [EE.out]; rfl, by rw [HG.out]; rfl, H.good, H.below⟩
end Go.Proofs.YtfamcebgcpaolaaGreatDoor
