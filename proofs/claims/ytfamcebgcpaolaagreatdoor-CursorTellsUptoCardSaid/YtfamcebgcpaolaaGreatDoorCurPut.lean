/- What a cursor may be: the walk of Right.
   What a cursor is put as: the walk of Put. -/
import Derived.Test.YtfamcebgcpaolaaGreatDoorEntRow
import Derived.Test.YtfamcebgcpaolaaGreatDoorCurHex
import Derived.Test.YtfamcebgcpaolaaGreatDoorEntPut
namespace Go.Proofs.YtfamcebgcpaolaaGreatDoor
open Go.RowKit
set_option linter.unusedVariables false
set_option linter.unusedSimpArgs false

def rightC (ln by_ : Int) (e : EntB) : Bool := decide (0 ≤ ln) && (decide (0 ≤ by_) && rightE e)

set_option maxRecDepth 100000 in
set_option maxHeartbeats 800000 in
theorem curRight_any (dg ln by_ t1 : Int) (A : Option Addr) (n c : Nat) (ps : List PairB) (l1 : ByteArray) (hn : n ≤ 9223372036854775807) (W : World) (h1 : Pairs W A n ps) :
    Calls Tryz.prog 17 #[.agg #[.int .u64 dg, .int .i64 ln, .int .i64 by_, .int .i64 t1, .slice A n c, .string l1]] W fun e w' => e = .returned (.bool (rightC ln by_ ⟨t1, ps, l1⟩)) ∧ Below W.heap.size W w' := by
  have h0 : W.heap.size ≤ W.heap.size := Nat.le_refl _
  have hb0 : Below W.heap.size W (W.alloc (.cells #[.int .u64 dg, .int .i64 ln, .int .i64 by_, .int .i64 t1, .slice A n c, .string l1] 29)) := (Below.refl _ _).alloc h0 _
  have RT := fun w h => entRight_any t1 A n c ps l1 hn w (h1.below h)
  obtain ⟨T, hT⟩ : ∃ T, rightC ln by_ ⟨t1, ps, l1⟩ = T := ⟨_, rfl⟩
  rw [hT]
  have hT2 : (decide (0 ≤ ln) && (decide (0 ≤ by_) && rightE ⟨t1, ps, l1⟩)) = T := hT
  obtain ⟨x, hx⟩ : ∃ x, rightE ⟨t1, ps, l1⟩ = x := ⟨_, rfl⟩
  simp only [hx] at RT
  rw [hx] at hT2
  replace RT := Lib.hid RT
  have HB := Lib.hid hb0
  clear h1 hT hx hb0
  by_cases g1 : 0 ≤ ln
  · by_cases g2 : 0 ≤ by_
    · have E := Lib.hid (show x = T by rw [← hT2, decide_eq_true g1, decide_eq_true g2]; rfl)
      clear hT2
      go_enter Tryz.func17, Tryz.ntmps17
      go_wp2_with fail
      obtain ⟨w1, hw1⟩ : ∃ w, W.alloc (.cells #[.int .u64 dg, .int .i64 ln, .int .i64 by_, .int .i64 t1, .slice A n c, .string l1] 29) = w := ⟨_, rfl⟩
      replace HB := HB.out
      rw [hw1] at HB
      rw [hw1]
      clear hw1
      refine (RT.out _ HB).mono ?_
      rintro e w2 ⟨rfl, hx⟩
      have HB2 := Lib.hid (hop HB h0 hx)
      clear hx HB RT
      go_wp2
      go_ret
      exact ⟨ret_bool E.out, HB2.out⟩
    · have E := Lib.hid (show false = T by rw [← hT2, decide_eq_true g1, decide_eq_false g2]; rfl)
      have g3 : decide (0 ≤ by_) = false := decide_eq_false g2
      clear hT2 RT
      go_enter Tryz.func17, Tryz.ntmps17
      go_wp2
      go_ret
      exact ⟨ret_bool E.out, HB.out⟩
  · have E := Lib.hid (show false = T by rw [← hT2, decide_eq_false g1]; rfl)
    have g3 : decide (0 ≤ ln) = false := decide_eq_false g1
    clear hT2 RT
    go_enter Tryz.func17, Tryz.ntmps17
    go_wp2
    go_ret
    exact ⟨ret_bool E.out, HB.out⟩
end Go.Proofs.YtfamcebgcpaolaaGreatDoor
namespace Go.Proofs.YtfamcebgcpaolaaGreatDoor
open Go.RowKit
set_option linter.unusedVariables false
set_option linter.unusedSimpArgs false

def cutC : ByteArray := ⟨#[58]⟩
def headC : ByteArray := ⟨#[99, 49, 58]⟩
def bodyC (dg : Nat) (ln by_ : Int) (e : EntB) : ByteArray := headC ++ (⟨(joinB cutC [hexS dg, itoaS ln, itoaS by_, entT e]).toArray⟩ : ByteArray) ++ cutC
def putC (dg : Nat) (ln by_ : Int) (e : EntB) : ByteArray := bodyC dg ln by_ e ++ hexS (sumS (bodyC dg ln by_ e))
theorem hexS_size (n : Nat) : (hexS n).size = 16 := hx_len 16 n
theorem join4 (s a b c d : ByteArray) : (joinB s [a, b, c, d]).length = a.size + b.size + c.size + d.size + 3 * s.size := by
  unfold joinB
  simp [Lib.join, size_toList]
  omega

set_option maxRecDepth 100000 in
set_option maxHeartbeats 1600000 in
theorem curPut_any (dg : Nat) (ln by_ t1 : Int) (A : Option Addr) (n c : Nat) (ps : List PairB) (l1 : ByteArray) (hdg : dg < 18446744073709551616) (hl0 : -9223372036854775808 ≤ ln) (hl1 : ln ≤ 9223372036854775807) (hb0 : -9223372036854775808 ≤ by_) (hb1 : by_ ≤ 9223372036854775807)
    (hn : n ≤ 1048576) (hj : (joinB ⟨#[44]⟩ (ps.map partT)).length ≤ 700000000) (hps : ∀ p ∈ ps, p.1.size ≤ 1048576 ∧ p.2.size ≤ 1048576) (hl : l1.size ≤ 4000000)
    (h0t : -9223372036854775808 ≤ t1) (h1t : t1 ≤ 9223372036854775807) (hT : (entT ⟨t1, ps, l1⟩).size ≤ 9000000) (W : World) (h1 : Pairs W A n ps) (hlib : LibIs W) :
    Calls Tryz.prog 8 #[.agg #[.int .u64 (dg : Int), .int .i64 ln, .int .i64 by_, .int .i64 t1, .slice A n c, .string l1]] W fun e w' => e = .returned (.tuple #[.string (if rightC ln by_ ⟨t1, ps, l1⟩ = true then putC dg ln by_ ⟨t1, ps, l1⟩ else .empty), .bool (rightC ln by_ ⟨t1, ps, l1⟩)]) ∧ Below W.heap.size W w' := by
  have h0 : W.heap.size ≤ W.heap.size := Nat.le_refl _
  have RT := fun w h => curRight_any dg ln by_ t1 A n c ps l1 (by omega) w (h1.below h)
  have C1 := Lib.hid (fun w => hex_any dg hdg w)
  have C2 := Lib.hid (fun w h => text_any ln hl0 hl1 w (hlib.below h))
  have C3 := Lib.hid (fun w h => text_any by_ hb0 hb1 w (hlib.below h))
  have C4 := fun w h => entPut_any t1 A n c ps l1 hn hj hps hl h0t h1t w (h1.below h) (hlib.below h)
  have s1 := hexS_size dg
  have s2 := itoaS_size ln hl0 hl1
  have s3 := itoaS_size by_ hb0 hb1
  have hP : putC dg ln by_ ⟨t1, ps, l1⟩ = bodyC dg ln by_ ⟨t1, ps, l1⟩ ++ hexS (sumS (bodyC dg ln by_ ⟨t1, ps, l1⟩)) := rfl
  have hB : bodyC dg ln by_ ⟨t1, ps, l1⟩ = headC ++ (⟨(joinB cutC [hexS dg, itoaS ln, itoaS by_, entT ⟨t1, ps, l1⟩]).toArray⟩ : ByteArray) ++ cutC := rfl
  obtain ⟨P, hPP⟩ : ∃ P, putC dg ln by_ ⟨t1, ps, l1⟩ = P := ⟨_, rfl⟩
  obtain ⟨B, hBB⟩ : ∃ P, bodyC dg ln by_ ⟨t1, ps, l1⟩ = P := ⟨_, rfl⟩
  rw [hPP, hBB] at hP
  rw [hBB] at hB
  rw [hPP]
  obtain ⟨R, hR⟩ : ∃ b, rightC ln by_ ⟨t1, ps, l1⟩ = b := ⟨_, rfl⟩
  simp only [hR] at RT
  rw [hR]
  obtain ⟨x1, hx1⟩ : ∃ x, hexS dg = x := ⟨_, rfl⟩
  obtain ⟨x2, hx2⟩ : ∃ x, itoaS ln = x := ⟨_, rfl⟩
  obtain ⟨x3, hx3⟩ : ∃ x, itoaS by_ = x := ⟨_, rfl⟩
  obtain ⟨x4, hx4⟩ : ∃ x, entT ⟨t1, ps, l1⟩ = x := ⟨_, rfl⟩
  rw [hx1] at C1 s1 hB
  rw [hx2] at C2 s2 hB
  rw [hx3] at C3 s3 hB
  simp only [hx4] at C4
  rw [hx4] at hT hB
  replace C4 := Lib.hid C4
  have hjl := join4 cutC x1 x2 x3 x4
  have hc1 : cutC.size = 1 := rfl
  have JN := fun (w : World) g (hg : g = w.heap.size) => join_any cutC (some ⟨g, 0, none⟩) 4 4 [x1, x2, x3, x4] (by decide) (by decide) (by omega) (w.alloc (.cells #[.string x1, .string x2, .string x3, .string x4] 9)) ⟨rfl, fun _ => ⟨g, 0, rfl, by simp [hg], fun j hj => by
    have hb := Blk.new w 9 #[.string x1, .string x2, .string x3, .string x4]
    rw [← hg] at hb
    rcases (by omega : j = 0 ∨ j = 1 ∨ j = 2 ∨ j = 3) with rfl | rfl | rfl | rfl
    · exact (hb.cell 0).trans rfl
    · exact (hb.cell 1).trans rfl
    · exact (hb.cell 2).trans rfl
    · exact (hb.cell 3).trans rfl⟩⟩
  obtain ⟨J, hJ⟩ : ∃ J : ByteArray, (⟨(joinB cutC [x1, x2, x3, x4]).toArray⟩ : ByteArray) = J := ⟨_, rfl⟩
  have hJs : J.size = (joinB cutC [x1, x2, x3, x4]).length := by rw [← hJ]; rfl
  simp only [hJ] at JN
  rw [hJ] at hB
  replace JN := Lib.hid JN
  have hJ2 : J.size ≤ 9000100 := by omega
  have hBs : B.size ≤ 9000200 := by
    rw [hB, ByteArray.size_append, ByteArray.size_append]
    have : headC.size = 3 := rfl
    omega
  have CS := Lib.hid (fun w => sum_any B (by omega) w)
  have CH := Lib.hid (fun w => hex_any (sumS B) (fnv_lt _ _ fnv0_lt) w)
  have sh := hexS_size (sumS B)
  have hB2 : (⟨#[99, 49, 58]⟩ : ByteArray) ++ J ++ (⟨#[58]⟩ : ByteArray) = B := hB.symm
  have CS2 := Lib.hid (fun w => show Calls Tryz.prog 11 #[.string ((⟨#[99, 49, 58]⟩ : ByteArray) ++ J ++ (⟨#[58]⟩ : ByteArray))] w fun e w' => e = .returned (.int .u64 (sumS B : Int)) ∧ w' = w from by rw [hB2]; exact CS.out w)
  obtain ⟨x5, hx5⟩ : ∃ x, hexS (sumS B) = x := ⟨_, rfl⟩
  rw [hx5] at CH sh hP
  have EP := Lib.hid (show (⟨#[99, 49, 58]⟩ : ByteArray) ++ J ++ (⟨#[58]⟩ : ByteArray) ++ x5 = P from by rw [hB2]; exact hP.symm)
  have t1' : ¬ 9223372036854775807 < 3 + J.size := by omega
  have t2' : ¬ 9223372036854775807 < 3 + J.size + 1 := by omega
  have t3' : ¬ 9223372036854775807 < 3 + J.size + 1 + x5.size := by omega
  replace RT := Lib.hid RT
  clear hP hB hB2 hPP hBB hR hx1 hx2 hx3 hx4 hx5 hjl hJ hJs hBs CS s1 s2 s3 hT hc1 h1 hj hps hlib
  have hb0' : Below W.heap.size W (W.alloc (.cells #[.int .u64 (dg : Int), .int .i64 ln, .int .i64 by_, .int .i64 t1, .slice A n c, .string l1] 29)) := (Below.refl _ _).alloc h0 _
  have B1 := Blk.new W 29 #[.int .u64 (dg : Int), .int .i64 ln, .int .i64 by_, .int .i64 t1, .slice A n c, .string l1]
  cases R with
  | false =>
    have HB := Lib.hid hb0'
    clear hb0' B1 C1 C2 C3 C4 JN CS2 CH EP
    go_enter Tryz.func8, Tryz.ntmps8
    go_wp2_with fail
    refine (RT.out _ HB.out).mono ?_
    rintro e w2 ⟨rfl, hx⟩
    have HB2 := Lib.hid (hop HB.out h0 hx)
    clear hx HB RT
    go_wp2
    go_ret2
    exact ⟨by first | rfl | (simp; done), HB2.out⟩
  | true =>
    go_enter Tryz.func8, Tryz.ntmps8
    go_wp2_with fail
    obtain ⟨w1, hw1⟩ : ∃ w, W.alloc (.cells #[.int .u64 (dg : Int), .int .i64 ln, .int .i64 by_, .int .i64 t1, .slice A n c, .string l1] 29) = w := ⟨_, rfl⟩
    rw [hw1] at hb0' B1
    rw [hw1]
    clear hw1
    refine (RT.out _ hb0').mono ?_
    rintro e w2 ⟨rfl, hx⟩
    replace B1 := B1.below hx B1.lt
    have hb2 := hop hb0' h0 hx
    clear hx hb0' RT
    have k0 : w2.cell? ⟨W.heap.size, 0, none⟩ = some (.int .u64 (dg : Int)) := (B1.cell 0).trans rfl
    have k1 : w2.cell? ⟨W.heap.size, 1, none⟩ = some (.int .i64 ln) := (B1.cell 1).trans rfl
    have k2 : w2.cell? ⟨W.heap.size, 2, none⟩ = some (.int .i64 by_) := (B1.cell 2).trans rfl
    have k3 : w2.cell? ⟨W.heap.size, 3, none⟩ = some (.int .i64 t1) := (B1.cell 3).trans rfl
    have k4 : w2.cell? ⟨W.heap.size, 4, none⟩ = some (.slice A n c) := (B1.cell 4).trans rfl
    have k5 : w2.cell? ⟨W.heap.size, 5, none⟩ = some (.string l1) := (B1.cell 5).trans rfl
    have HS := Lib.hid (fun (w w' : World) (hS : Below W.heap.size W w ∧ w.cell? ⟨W.heap.size, 0, none⟩ = some (.int .u64 (dg : Int)) ∧ w.cell? ⟨W.heap.size, 1, none⟩ = some (.int .i64 ln) ∧ w.cell? ⟨W.heap.size, 2, none⟩ = some (.int .i64 by_) ∧ w.cell? ⟨W.heap.size, 3, none⟩ = some (.int .i64 t1) ∧ w.cell? ⟨W.heap.size, 4, none⟩ = some (.slice A n c) ∧ w.cell? ⟨W.heap.size, 5, none⟩ = some (.string l1)) (hx : Below w.heap.size w w') =>
      show Below W.heap.size W w' ∧ w'.cell? ⟨W.heap.size, 0, none⟩ = some (.int .u64 (dg : Int)) ∧ w'.cell? ⟨W.heap.size, 1, none⟩ = some (.int .i64 ln) ∧ w'.cell? ⟨W.heap.size, 2, none⟩ = some (.int .i64 by_) ∧ w'.cell? ⟨W.heap.size, 3, none⟩ = some (.int .i64 t1) ∧ w'.cell? ⟨W.heap.size, 4, none⟩ = some (.slice A n c) ∧ w'.cell? ⟨W.heap.size, 5, none⟩ = some (.string l1) from by
        obtain ⟨hb, a0, a1, a2, a3, a4, a5⟩ := hS
        have z1 := block_lt_of_cell a0
        exact ⟨hop hb (Nat.le_refl _) hx, (hx.cell (p := ⟨_, 0, none⟩) z1).trans a0, (hx.cell (p := ⟨_, 1, none⟩) z1).trans a1, (hx.cell (p := ⟨_, 2, none⟩) z1).trans a2, (hx.cell (p := ⟨_, 3, none⟩) z1).trans a3, (hx.cell (p := ⟨_, 4, none⟩) z1).trans a4, (hx.cell (p := ⟨_, 5, none⟩) z1).trans a5⟩)
    have hS0 := HS.out w2 w2.drew ⟨hb2, k0, k1, k2, k3, k4, k5⟩ ((Below.refl _ _).drew)
    clear B1
    go_wp2
    go_region_held3 (fun w' => Below W.heap.size W w' ∧ w'.cell? ⟨W.heap.size, 0, none⟩ = some (.int .u64 (dg : Int)) ∧ w'.cell? ⟨W.heap.size, 1, none⟩ = some (.int .i64 ln) ∧ w'.cell? ⟨W.heap.size, 2, none⟩ = some (.int .i64 by_) ∧ w'.cell? ⟨W.heap.size, 3, none⟩ = some (.int .i64 t1) ∧ w'.cell? ⟨W.heap.size, 4, none⟩ = some (.slice A n c) ∧ w'.cell? ⟨W.heap.size, 5, none⟩ = some (.string l1))
      (first | assumption | exact ⟨by assumption, by assumption, by assumption, by assumption, by assumption, by assumption, by assumption⟩ | exact HS.out _ _ (by assumption) (by assumption) | exact HS.out _ _ (by assumption) ((Below.refl _ _).drew) | exact HS.out _ _ (by assumption) ((Below.refl _ _).alloc (Nat.le_refl _) _))
      (first | (go_at_call 13; refine (C1.out _).mono ?_; rintro e w3 ⟨rfl, hb3⟩) | (go_at_call 26; refine (C2.out _ (by go_split_ands; assumption)).mono ?_; rintro e w3 ⟨rfl, hb3⟩) | (go_at_call 26; refine (C3.out _ (by go_split_ands; assumption)).mono ?_; rintro e w3 ⟨rfl, hb3⟩) | (go_at_call 27; refine (C4.out _ (by go_split_ands; assumption)).mono ?_; rintro e w3 ⟨rfl, hb3⟩) | (go_at_call 25; refine (JN.out _ _ ?_).mono ?_; rfl; rintro e w3 ⟨rfl, hb3⟩))
    all_goals
      go_wp2_with fail
      refine (CS2.out _).mono ?_
      rintro e w8 ⟨rfl, rfl⟩
      go_wp2_with fail
      refine (CH.out _).mono ?_
      rintro e w9 ⟨rfl, hx9⟩
      go_wp2
      go_ret2
      exact ⟨by rw [← EP.out]; rfl, hop (by go_split_ands; assumption) h0 hx9⟩
end Go.Proofs.YtfamcebgcpaolaaGreatDoor
