/- The digest of texts: the walk of Digest.
   The chapter's examples of cursors are so. -/
import Derived.Test.YtfamcebgcpaolaaGreatDoorCurHex
import Derived.Test.YtfamcebgcpaolaaGreatDoorLabText
import Derived.Test.YtfamcebgcpaolaaGreatDoorCurGet
namespace Go.Proofs.YtfamcebgcpaolaaGreatDoor
open Go.RowKit Go.Sort
set_option linter.unusedVariables false
set_option linter.unusedSimpArgs false

def quotedT (ss : List ByteArray) : ByteArray := ⟨(joinB ⟨#[44]⟩ (ss.map putS)).toArray⟩
def digestS (ss : List ByteArray) : Nat := sumS (quotedT ss)

set_option maxRecDepth 100000 in
set_option maxHeartbeats 800000 in
theorem digest_any (A : Option Addr) (n c : Nat) (ss : List ByteArray) (hn : n ≤ 100) (hss : ∀ s ∈ ss, s.size ≤ 1048576) (W : World) (h1 : Texts W A n ss) :
    Calls Tryz.prog 15 #[.slice A n c] W fun e w' => e = .returned (.int .u64 (digestS ss : Int)) ∧ Below W.heap.size W w' := by
  have h0 : W.heap.size ≤ W.heap.size := Nat.le_refl _
  obtain ⟨i0, hi, hz0, hz1, hz2⟩ := info_parts infoStr
  have hmk : ∀ u : World, (Instr.makeSlice 23 (.int .i64 (n : Int)) (.int .i64 (n : Int))).run Tryz.prog u =
      .ok (.slice (some ⟨u.heap.size, 0, none⟩) n n) (u.alloc (.cells (madeCells #[.string ⟨#[]⟩] n) 9)) := fun u => by
    have h := run_make (P := Tryz.prog) u 23 9 i0 (.string ⟨#[]⟩) Tryz.underlying23 hi hz0 .i64 .i64 (n : Int) (n : Int) (by omega) (by omega) (by rw [hz2]; omega) (by omega)
    rw [Int.toNat_natCast] at h
    simpa [hz1, Value.cells] using h
  have H1 := Lib.hid h1
  have hl := h1.1
  have HL := Lib.hid hl
  have HSS := Lib.hid hss
  have HGD := Lib.hid (show ∀ j, j < n → (ss.map putS).getD j .empty = putS (ss.getD j .empty) from fun j hj => by
    rw [List.getD_eq_getElem?_getD, List.getElem?_map, List.getD_eq_getElem?_getD, List.getElem?_eq_getElem (by omega)]
    rfl)
  have hjl := join_le (ss.map putS) ⟨#[44]⟩ 6000000 (fun x hx => by
    obtain ⟨p, hp, rfl⟩ := List.mem_map.1 hx
    have h1 := hss p hp
    have h2 := putS_size p
    omega)
  rw [List.length_map, hl] at hjl
  have one : (⟨#[44]⟩ : ByteArray).size = 1 := rfl
  rw [one] at hjl
  have hj7 : n * (6000000 + 1) ≤ 100 * 6000001 := Nat.mul_le_mul hn (Nat.le_refl _)
  have HJ := Lib.hid (show (joinB ⟨#[44]⟩ (ss.map putS)).length ≤ 700000000 by omega)
  have hR0 : RowT (W.alloc (.cells (madeCells #[.string ⟨#[]⟩] n) 9)) W.heap.size n 0 (ss.map putS) (madeCells #[.string ⟨#[]⟩] n) := ⟨Blk.new _ _ _, by simp [madeCells], fun i hi => absurd hi (by omega), fun i hi => ⟨⟨#[]⟩, made_cell n i hi⟩⟩
  have HR0 := Lib.hid hR0
  clear h1 hl hss hR0 hjl one hj7
  go_enter Tryz.func15, Tryz.ntmps15
  go_wp2
  go_loopw [11] (fun iv wr => ∃ (j : Nat) (cs : Array Value), j ≤ n ∧ iv = .int .i64 j ∧ RowT wr W.heap.size n j (ss.map putS) cs ∧ Below W.heap.size W wr) (fun iv _ => n - (intOf iv).toNat)
  case atStart => exact ⟨0, _, Nat.zero_le _, rfl, HR0.out, (Below.refl _ _).alloc (Nat.le_refl _) _⟩
  case round =>
    obtain ⟨j, cs, hjn, rfl, hR, hb⟩ := hrel
    have hsz := hb.size
    by_cases hj : j < n
    · obtain ⟨b1, o1, rfl, hlt1, hc1⟩ := (H1.out.below hb).2 (by omega)
      have c1 := hc1 j hj
      have hg := HGD.out j hj
      have hmem := HSS.out (ss.getD j .empty) (by
        rw [List.getD_eq_getElem?_getD, List.getElem?_eq_getElem (by rw [HL.out]; exact hj)]
        exact List.getElem_mem _)
      obtain ⟨p, hp⟩ : ∃ p, ss.getD j .empty = p := ⟨_, rfl⟩
      rw [hp] at c1 hg hmem
      have hjI : (j : Int) < (n : Int) := by omega
      have PT := Lib.hid (fun w => put_any p (by omega) w)
      obtain ⟨x, hx⟩ : ∃ x, putS p = x := ⟨_, rfl⟩
      have hx2 : (⟨(putB p.data.toList).toArray⟩ : ByteArray) = x := hx
      replace PT := PT.out
      simp only [hx2] at PT
      replace PT := Lib.hid PT
      rw [hx] at hg
      have HG := Lib.hid hg
      have HRR := Lib.hid hR
      have HBB := Lib.hid hb
      obtain ⟨old, hold⟩ := hR.all_ j hj
      have HO := Lib.hid hold
      clear hp hg hmem hc1 hx hx2 hR hb hold
      go_wp2_with fail
      refine (PT.out _).mono ?_
      rintro e w3 ⟨rfl, hb3⟩
      have hR3 := HRR.out.below hb3
      have hb4 := hop HBB.out h0 hb3
      have q1 : w3.cell? ⟨W.heap.size, j, none⟩ = some (.string old) := (hR3.blk.cell j).trans HO.out
      have f1 := hR3.blk.frozen j
      have hR4 := hR3.store hj
      rw [HG.out] at hR4
      have hb5 := hb4.setCell (p := ⟨W.heap.size, j, none⟩) (Nat.le_refl _) (.string x)
      have HR4 := Lib.hid hR4
      have HB5 := Lib.hid hb5
      clear hb3 hR3 hb4 hR4 hb5 c1
      go_wp2
      go_round
      case rel => exact ⟨j + 1, _, by omega, by go_num, HR4.out, HB5.out⟩
      case measure => simp [intOf]; omega
    · obtain rfl : j = n := by omega
      have hT := hR.texts (by rw [List.length_map]; exact HL.out)
      have C := join_any ⟨#[44]⟩ (some ⟨W.heap.size, 0, none⟩) j j (ss.map putS) (by omega) (Nat.le_refl _) (Nat.le_trans HJ.out (by decide)) wr hT
      have hE : digestS ss = sumS (⟨(joinB ⟨#[44]⟩ (ss.map putS)).toArray⟩ : ByteArray) := rfl
      obtain ⟨J, hJJ⟩ : ∃ J, (⟨(joinB ⟨#[44]⟩ (ss.map putS)).toArray⟩ : ByteArray) = J := ⟨_, rfl⟩
      have hJs : J.size = (joinB ⟨#[44]⟩ (ss.map putS)).length := by rw [← hJJ]; simp [ByteArray.size]
      have hJ9 := HJ.out
      rw [hJJ] at C hE
      have CS := Lib.hid (fun w => sum_any J (by omega) w)
      replace C := Lib.hid C
      have E := Lib.hid hE
      clear hT hJJ hJs hR hE HJ hJ9
      go_wp2_with fail
      refine C.out.mono ?_
      rintro e w3 ⟨rfl, hx⟩
      have hfin := hop hb h0 hx
      clear hx
      go_wp2_with fail
      refine (CS.out _).mono ?_
      rintro e w4 ⟨rfl, rfl⟩
      go_wp2
      go_ret
      exact ⟨by rw [E.out]; rfl, hfin⟩
end Go.Proofs.YtfamcebgcpaolaaGreatDoor
namespace Go.Proofs.YtfamcebgcpaolaaGreatDoor
open Go.RowKit
set_option linter.unusedVariables false
set_option linter.unusedSimpArgs false

def exE : EntB := ⟨5, [], ⟨#[120]⟩⟩
def exC : CurB := ⟨255, 3, 9, exE⟩
theorem exC_ok : OkC exC := ⟨by decide, by decide, by decide, by decide, by decide, by decide +kernel, by decide, by decide⟩
theorem exC_right : exC.right = true := by decide +kernel
theorem exC_size : exC.put.size = 47 := by decide +kernel
theorem exC_get : getC exC.put = some exC := (getC_iff _ _).2 ⟨exC_ok, exC_right, rfl⟩
theorem exC_getE : getE exC.put = 0 := by unfold getE; rw [exC_get]; rfl
theorem exC_more : getC (exC.put ++ (⟨#[120]⟩ : ByteArray)) = none := getC_more exC _ exC_ok (by decide)
theorem exC_moreE : getE (exC.put ++ (⟨#[120]⟩ : ByteArray)) = 5 := by unfold getE; rw [exC_more]; rfl
theorem ex_sum1 : sumS ⟨#[97]⟩ = 12638187200555641996 := by decide +kernel
theorem ex_hex : hexS 255 = ⟨#[48, 48, 48, 48, 48, 48, 48, 48, 48, 48, 48, 48, 48, 48, 102, 102]⟩ := by decide +kernel
theorem ex_dig : digestS [⟨#[97]⟩, ⟨#[98]⟩] ≠ digestS [⟨#[97, 98]⟩] := by decide +kernel
theorem put_exC (w : World) (hl : LibIs w) : Calls Tryz.prog 8 #[.agg #[.int .u64 255, .int .i64 3, .int .i64 9, .int .i64 5, .slice none 0 0, .string ⟨#[120]⟩]] w fun e w' => e = .returned (.tuple #[.string exC.put, .bool true]) ∧ Below w.heap.size w w' := by
  refine (curPut_any 255 3 9 5 none 0 0 [] ⟨#[120]⟩ (by decide) (by decide) (by decide) (by decide) (by decide) (by decide) (by decide +kernel) (fun p hp => by cases hp) (by decide) (by decide) (by decide) (by decide +kernel) w (pairs_none w) hl).mono ?_
  rintro e w' ⟨rfl, hb⟩
  refine ⟨?_, hb⟩
  rw [if_pos (show rightC 3 9 ⟨5, [], ⟨#[120]⟩⟩ = true from exC_right), show rightC 3 9 ⟨5, [], ⟨#[120]⟩⟩ = true from exC_right]
  rfl
theorem put_none (w : World) (hl : LibIs w) : Calls Tryz.prog 8 #[.agg #[.int .u64 0, .int .i64 (-1), .int .i64 0, .int .i64 0, .slice none 0 0, .string ⟨#[]⟩]] w fun e w' => e = .returned (.tuple #[.string .empty, .bool false]) ∧ Below w.heap.size w w' := by
  refine (curPut_any 0 (-1) 0 0 none 0 0 [] ⟨#[]⟩ (by decide) (by decide) (by decide) (by decide) (by decide) (by decide) (by decide +kernel) (fun p hp => by cases hp) (by decide) (by decide) (by decide) (by decide +kernel) w (pairs_none w) hl).mono ?_
  rintro e w' ⟨rfl, hb⟩
  refine ⟨?_, hb⟩
  have h : rightC (-1) 0 ⟨0, [], ⟨#[]⟩⟩ = false := by decide +kernel
  rw [h]
  rfl
theorem right_exC (w : World) : Calls Tryz.prog 17 #[.agg #[.int .u64 255, .int .i64 3, .int .i64 9, .int .i64 5, .slice none 0 0, .string ⟨#[120]⟩]] w fun e w' => e = .returned (.bool true) ∧ Below w.heap.size w w' := by
  refine (curRight_any 255 3 9 5 none 0 0 [] ⟨#[120]⟩ (by decide) w (pairs_none w)).mono ?_
  rintro e w' ⟨rfl, hb⟩
  exact ⟨by rw [show rightC 3 9 ⟨5, [], ⟨#[120]⟩⟩ = true from exC_right], hb⟩
theorem get_exC (w : World) (hl : LibIs w) : Calls Tryz.prog 20 #[.string exC.put] w fun e w' => ∃ (A : Option Addr) (n c : Nat), e = .returned (.tuple #[.agg #[.int .u64 255, .int .i64 3, .int .i64 9, .int .i64 5, .slice A n c, .string ⟨#[120]⟩], .int .i64 0]) ∧ Below w.heap.size w w' := by
  refine (curGet_any exC.put (by rw [exC_size]; decide) w hl).mono ?_
  rintro e w' ⟨⟨dg, ln, by_, ⟨ts, A, n, c, ls, l1⟩⟩, rfl, hx, _, hb⟩
  rw [exC_get] at hx
  rw [exC_getE]
  have h1 : dg = 255 := congrArg CurB.dg hx
  have h2 : ln = 3 := congrArg CurB.ln hx
  have h3 : by_ = 9 := congrArg CurB.by_ hx
  have h4 : ts = 5 := congrArg (fun x : CurB => x.e.ts) hx
  have h5 : l1 = ⟨#[120]⟩ := congrArg (fun x : CurB => x.e.ln) hx
  subst h1 h2 h3 h4 h5
  exact ⟨A, n, c, rfl, hb⟩
theorem get_exM (w : World) (hl : LibIs w) : Calls Tryz.prog 20 #[.string (exC.put ++ (⟨#[120]⟩ : ByteArray))] w fun e w' => ∃ (dg3 : Nat) (ln3 by3 ts3 : Int) (A3 : Option Addr) (n3 c3 : Nat) (l3 : ByteArray), e = .returned (.tuple #[.agg #[.int .u64 (dg3 : Int), .int .i64 ln3, .int .i64 by3, .int .i64 ts3, .slice A3 n3 c3, .string l3], .int .i64 5]) ∧ Below w.heap.size w w' := by
  refine (curGet_any (exC.put ++ (⟨#[120]⟩ : ByteArray)) (by rw [ByteArray.size_append, exC_size]; decide) w hl).mono ?_
  rintro e w' ⟨⟨dg3, ln3, by3, ⟨ts3, A3, n3, c3, ls3, l3⟩⟩, rfl, hx, _, hb⟩
  rw [exC_moreE]
  exact ⟨dg3, ln3, by3, ts3, A3, n3, c3, l3, rfl, hb⟩
theorem texts_two (w : World) (a b : ByteArray) (g : Nat) (hg : w.heap.size = g) : Texts (w.alloc (.cells #[.string a, .string b] 9)) (some ⟨g, 0, none⟩) 2 [a, b] := ⟨rfl, fun _ => ⟨g, 0, rfl, by simp [← hg], fun j hj => by
  have hb := Blk.new w 9 #[.string a, .string b]
  rw [hg] at hb
  rcases (by omega : j = 0 ∨ j = 1) with rfl | rfl
  · exact (hb.cell 0).trans rfl
  · exact (hb.cell 1).trans rfl⟩⟩
theorem texts_one (w : World) (a : ByteArray) (g : Nat) (hg : w.heap.size = g) : Texts (w.alloc (.cells #[.string a] 9)) (some ⟨g, 0, none⟩) 1 [a] := ⟨rfl, fun _ => ⟨g, 0, rfl, by simp [← hg], fun j hj => by
  have hb := Blk.new w 9 #[.string a]
  rw [hg] at hb
  obtain rfl : j = 0 := by omega
  exact (hb.cell 0).trans rfl⟩⟩

set_option maxRecDepth 100000 in
set_option maxHeartbeats 3200000 in
theorem curExamples_any (W : World) (hl : LibIs W) : Calls Tryz.prog 6 #[] W fun e w' => e = .returned (.bool true) ∧ Below W.heap.size W w' := by
  have h0 : W.heap.size ≤ W.heap.size := Nat.le_refl _
  have HL := Lib.hid hl
  have P1 := fun w h => put_exC w h
  have P2 := Lib.hid (fun w h => put_none w h)
  have G1 := fun w h => get_exC w h
  have G2 := fun w h => get_exM w h
  have hz : exC.put.size = 47 := exC_size
  obtain ⟨T, hT⟩ : ∃ T, exC.put = T := ⟨_, rfl⟩
  simp only [hT] at P1 G1 G2
  rw [hT] at hz
  have hz2 : (T.size : Int) = 47 := by omega
  have hcat : ¬ 9223372036854775807 < T.size + (⟨#[120]⟩ : ByteArray).size := by rw [hz]; decide
  have hcat2 : ¬ 9223372036854775807 < T.size + 1 := by omega
  have f1 : T.toList.isEmpty = false := by
    rw [Lib.toList_data, List.isEmpty_eq_false_iff]
    intro h
    have : T.data.toList.length = 0 := by rw [h]; rfl
    rw [size_toList] at this
    omega
  replace P1 := Lib.hid P1
  replace G1 := Lib.hid G1
  replace G2 := Lib.hid G2
  have SM0 := Lib.hid (fun w => show Calls Tryz.prog 11 #[.string ⟨#[]⟩] w fun e w' => e = .returned (.int .u64 14695981039346656037) ∧ Below w.heap.size w w' from (sum_any ⟨#[]⟩ (by decide) w).mono (by rintro e w' ⟨rfl, rfl⟩; exact ⟨rfl, Below.refl _ _⟩))
  have SM1 := Lib.hid (fun w => show Calls Tryz.prog 11 #[.string ⟨#[97]⟩] w fun e w' => e = .returned (.int .u64 12638187200555641996) ∧ Below w.heap.size w w' from (sum_any ⟨#[97]⟩ (by decide) w).mono (by rintro e w' ⟨rfl, rfl⟩; exact ⟨by rw [ex_sum1]; rfl, Below.refl _ _⟩))
  have HX := Lib.hid (fun w => show Calls Tryz.prog 13 #[.int .u64 255] w fun e w' => e = .returned (.string ⟨#[48, 48, 48, 48, 48, 48, 48, 48, 48, 48, 48, 48, 48, 48, 102, 102]⟩) ∧ Below w.heap.size w w' from by rw [← ex_hex]; exact hex_any 255 (by decide) w)
  have D2 := fun w A h => digest_any A 2 2 [⟨#[97]⟩, ⟨#[98]⟩] (by decide) (by intro s hs; simp only [List.mem_cons, List.mem_nil_iff, or_false] at hs; rcases hs with rfl | rfl <;> decide) w h
  have D1 := fun w A h => digest_any A 1 1 [⟨#[97, 98]⟩] (by decide) (by intro s hs; simp only [List.mem_cons, List.mem_nil_iff, or_false] at hs; rcases hs with rfl; decide) w h
  have hdd := ex_dig
  obtain ⟨d2, hd2⟩ : ∃ d, digestS [⟨#[97]⟩, ⟨#[98]⟩] = d := ⟨_, rfl⟩
  obtain ⟨d1, hd1⟩ : ∃ d, digestS [⟨#[97, 98]⟩] = d := ⟨_, rfl⟩
  simp only [hd2] at D2
  simp only [hd1] at D1
  rw [hd2, hd1] at hdd
  have hde : ((d2 : Int) == (d1 : Int)) = false := by rw [beq_eq_false_iff_ne]; omega
  have hde2 : ((d2 : Int) != (d1 : Int)) = true := by rw [bne, hde]; rfl
  have hde3 : ¬ (d2 : Int) = (d1 : Int) := by omega
  have hde4 : ¬ d2 = d1 := hdd
  replace D2 := Lib.hid D2
  replace D1 := Lib.hid D1
  have RX := Lib.hid (fun w => right_exC w)
  clear hl hT hz hd2 hd1 hdd
  go_enter Tryz.func6, Tryz.ntmps6
  go_wp2_with fail
  obtain ⟨g1, hg1⟩ : ∃ g, W.heap.size = g := ⟨_, rfl⟩
  obtain ⟨w1, hw1⟩ : ∃ w, W.alloc (.cells #[.int .u64 255, .int .i64 3, .int .i64 9, .int .i64 5, .slice none 0 0, .string ⟨#[120]⟩] 29) = w := ⟨_, rfl⟩
  have B1 : Blk w1 g1 29 #[.int .u64 255, .int .i64 3, .int .i64 9, .int .i64 5, .slice none 0 0, .string ⟨#[120]⟩] := by rw [← hw1, ← hg1]; exact Blk.new W _ _
  have hb1 : Below W.heap.size W w1 := by rw [← hw1]; exact (Below.refl _ _).alloc h0 _
  rw [hw1, hg1]
  clear hw1 hg1
  refine (P1.out _ (HL.out.below hb1)).mono ?_
  rintro e w2 ⟨rfl, hx⟩
  have B2 := B1.below hx B1.lt
  have hb2 := hop hb1 h0 hx
  clear hx hb1 B1
  go_wp2_with fail
  refine (G1.out _ (HL.out.below hb2)).mono ?_
  rintro e w3 ⟨A, n, c, rfl, hx⟩
  have B3 := B2.below hx B2.lt
  have hb3 := hop hb2 h0 hx
  obtain ⟨g2, hg2⟩ : ∃ g, w3.heap.size = g := ⟨_, rfl⟩
  obtain ⟨w4, hw4⟩ : ∃ w, w3.alloc (.cells #[.int .u64 255, .int .i64 3, .int .i64 9, .int .i64 5, .slice A n c, .string ⟨#[120]⟩] 29) = w := ⟨_, rfl⟩
  have D4 : Blk w4 g2 29 #[.int .u64 255, .int .i64 3, .int .i64 9, .int .i64 5, .slice A n c, .string ⟨#[120]⟩] := by rw [← hw4, ← hg2]; exact Blk.new _ _ _
  have B4 : Blk w4 g1 29 #[.int .u64 255, .int .i64 3, .int .i64 9, .int .i64 5, .slice none 0 0, .string ⟨#[120]⟩] := by rw [← hw4]; exact B3.alloc _
  have hb4 : Below W.heap.size W w4 := by rw [← hw4]; exact hb3.alloc hb3.size _
  clear hx hb2 B2 B3 hb3
  go_wp2_with fail
  clear hw4 hg2
  refine (G2.out _ (HL.out.below hb4)).mono ?_
  rintro e w5 ⟨dg3, ln3, by3, ts3, A3, n3, c3, l3, rfl, hx⟩
  have B6 := (B4.below hx B4.lt).alloc (.cells #[.int .u64 (dg3 : Int), .int .i64 ln3, .int .i64 by3, .int .i64 ts3, .slice A3 n3 c3, .string l3] 29)
  have D6 := (D4.below hx D4.lt).alloc (.cells #[.int .u64 (dg3 : Int), .int .i64 ln3, .int .i64 by3, .int .i64 ts3, .slice A3 n3 c3, .string l3] 29)
  have hb6 := (hop hb4 h0 hx).alloc (hop hb4 h0 hx).size (.cells #[.int .u64 (dg3 : Int), .int .i64 ln3, .int .i64 by3, .int .i64 ts3, .slice A3 n3 c3, .string l3] 29)
  obtain ⟨g3, hg3⟩ : ∃ g, w5.heap.size = g := ⟨_, rfl⟩
  obtain ⟨w6, hw6⟩ : ∃ w, w5.alloc (.cells #[.int .u64 (dg3 : Int), .int .i64 ln3, .int .i64 by3, .int .i64 ts3, .slice A3 n3 c3, .string l3] 29) = w := ⟨_, rfl⟩
  rw [hw6] at B6 D6 hb6
  clear hx B4 D4 hb4
  go_wp2_with fail
  clear hw6 hg3
  refine (P2.out _ (HL.out.below hb6)).mono ?_
  rintro e w0 ⟨rfl, hx⟩
  have B7 := B6.below hx B6.lt
  have D7 := D6.below hx D6.lt
  have HB := Lib.hid (hop hb6 h0 hx)
  have HS := Lib.hid (fun (w w' : World) (hS : Below w0.heap.size w0 w ∧ w.cell? ⟨g1, 0, none⟩ = some (.int .u64 255) ∧ w.cell? ⟨g1, 1, none⟩ = some (.int .i64 3) ∧ w.cell? ⟨g1, 2, none⟩ = some (.int .i64 9) ∧ w.cell? ⟨g1, 3, none⟩ = some (.int .i64 5) ∧ w.cell? ⟨g1, 4, none⟩ = some (.slice none 0 0) ∧ w.cell? ⟨g1, 5, none⟩ = some (.string ⟨#[120]⟩) ∧ w.cell? ⟨g2, 0, none⟩ = some (.int .u64 255) ∧ w.cell? ⟨g2, 1, none⟩ = some (.int .i64 3) ∧ w.cell? ⟨g2, 2, none⟩ = some (.int .i64 9) ∧ w.cell? ⟨g2, 3, none⟩ = some (.int .i64 5) ∧ w.cell? ⟨g2, 4, none⟩ = some (.slice A n c) ∧ w.cell? ⟨g2, 5, none⟩ = some (.string ⟨#[120]⟩)) (hx : Below w.heap.size w w') => show Below w0.heap.size w0 w' ∧ w'.cell? ⟨g1, 0, none⟩ = some (.int .u64 255) ∧ w'.cell? ⟨g1, 1, none⟩ = some (.int .i64 3) ∧ w'.cell? ⟨g1, 2, none⟩ = some (.int .i64 9) ∧ w'.cell? ⟨g1, 3, none⟩ = some (.int .i64 5) ∧ w'.cell? ⟨g1, 4, none⟩ = some (.slice none 0 0) ∧ w'.cell? ⟨g1, 5, none⟩ = some (.string ⟨#[120]⟩) ∧ w'.cell? ⟨g2, 0, none⟩ = some (.int .u64 255) ∧ w'.cell? ⟨g2, 1, none⟩ = some (.int .i64 3) ∧ w'.cell? ⟨g2, 2, none⟩ = some (.int .i64 9) ∧ w'.cell? ⟨g2, 3, none⟩ = some (.int .i64 5) ∧ w'.cell? ⟨g2, 4, none⟩ = some (.slice A n c) ∧ w'.cell? ⟨g2, 5, none⟩ = some (.string ⟨#[120]⟩) from by
    obtain ⟨hb, a0, a1, a2, a3, a4, a5, b0, b1, b2, b3, b4, b5⟩ := hS
    have z1 := block_lt_of_cell a0
    have z2 := block_lt_of_cell b0
    exact ⟨hop hb (Nat.le_refl _) hx, (hx.cell (p := ⟨_, 0, none⟩) z1).trans a0, (hx.cell (p := ⟨_, 1, none⟩) z1).trans a1, (hx.cell (p := ⟨_, 2, none⟩) z1).trans a2, (hx.cell (p := ⟨_, 3, none⟩) z1).trans a3, (hx.cell (p := ⟨_, 4, none⟩) z1).trans a4, (hx.cell (p := ⟨_, 5, none⟩) z1).trans a5, (hx.cell (p := ⟨_, 0, none⟩) z2).trans b0, (hx.cell (p := ⟨_, 1, none⟩) z2).trans b1, (hx.cell (p := ⟨_, 2, none⟩) z2).trans b2, (hx.cell (p := ⟨_, 3, none⟩) z2).trans b3, (hx.cell (p := ⟨_, 4, none⟩) z2).trans b4, (hx.cell (p := ⟨_, 5, none⟩) z2).trans b5⟩)
  have S0 : Below w0.heap.size w0 w0 ∧ w0.cell? ⟨g1, 0, none⟩ = some (.int .u64 255) ∧ w0.cell? ⟨g1, 1, none⟩ = some (.int .i64 3) ∧ w0.cell? ⟨g1, 2, none⟩ = some (.int .i64 9) ∧ w0.cell? ⟨g1, 3, none⟩ = some (.int .i64 5) ∧ w0.cell? ⟨g1, 4, none⟩ = some (.slice none 0 0) ∧ w0.cell? ⟨g1, 5, none⟩ = some (.string ⟨#[120]⟩) ∧ w0.cell? ⟨g2, 0, none⟩ = some (.int .u64 255) ∧ w0.cell? ⟨g2, 1, none⟩ = some (.int .i64 3) ∧ w0.cell? ⟨g2, 2, none⟩ = some (.int .i64 9) ∧ w0.cell? ⟨g2, 3, none⟩ = some (.int .i64 5) ∧ w0.cell? ⟨g2, 4, none⟩ = some (.slice A n c) ∧ w0.cell? ⟨g2, 5, none⟩ = some (.string ⟨#[120]⟩) := ⟨Below.refl _ _, (B7.cell 0).trans rfl, (B7.cell 1).trans rfl, (B7.cell 2).trans rfl, (B7.cell 3).trans rfl, (B7.cell 4).trans rfl, (B7.cell 5).trans rfl, (D7.cell 0).trans rfl, (D7.cell 1).trans rfl, (D7.cell 2).trans rfl, (D7.cell 3).trans rfl, (D7.cell 4).trans rfl, (D7.cell 5).trans rfl⟩
  clear hx B6 D6 hb6 B7 D7
  have HS0 := Lib.hid S0
  obtain ⟨_, a0, a1, a2, a3, a4, a5, b0, b1, b2, b3, b4, b5⟩ := S0
  go_wp2_with fail
  refine (SM0.out _).mono ?_
  rintro e u1 ⟨rfl, hx⟩
  have S1 := HS.out _ _ HS0.out hx
  clear hx HS0 a0 a1 a2 a3 a4 a5 b0 b1 b2 b3 b4 b5
  have HS0 := Lib.hid S1
  obtain ⟨_, a0, a1, a2, a3, a4, a5, b0, b1, b2, b3, b4, b5⟩ := S1
  go_wp2_with fail
  refine (SM1.out _).mono ?_
  rintro e u2 ⟨rfl, hx⟩
  have S1 := HS.out _ _ HS0.out hx
  clear hx HS0 a0 a1 a2 a3 a4 a5 b0 b1 b2 b3 b4 b5
  have HS0 := Lib.hid S1
  obtain ⟨_, a0, a1, a2, a3, a4, a5, b0, b1, b2, b3, b4, b5⟩ := S1
  go_wp2_with fail
  refine (HX.out _).mono ?_
  rintro e u3 ⟨rfl, hx⟩
  have S1 := HS.out _ _ HS0.out hx
  clear hx HS0 a0 a1 a2 a3 a4 a5 b0 b1 b2 b3 b4 b5
  have HS0 := Lib.hid S1
  obtain ⟨_, a0, a1, a2, a3, a4, a5, b0, b1, b2, b3, b4, b5⟩ := S1
  obtain ⟨gg4, hg⟩ : ∃ g, u3.heap.size = g := ⟨_, rfl⟩
  have T := texts_two u3 ⟨#[97]⟩ ⟨#[98]⟩ gg4 hg
  have S1 := HS.out _ _ HS0.out ((Below.refl _ u3).alloc (Nat.le_refl _) (.cells #[.string ⟨#[97]⟩, .string ⟨#[98]⟩] 9))
  obtain ⟨v4, hw⟩ : ∃ z, u3.alloc (.cells #[.string ⟨#[97]⟩, .string ⟨#[98]⟩] 9) = z := ⟨_, rfl⟩
  rw [hw] at T S1
  have HS1 := Lib.hid S1
  obtain ⟨_, c0, c1, c2, c3, c4, c5, d0, d1, d2, d3, d4, d5⟩ := S1
  clear HS0
  have HS0 := HS1
  clear HS1
  have HT := Lib.hid T
  clear T
  go_wp2_with fail
  clear hw hg
  have T := HT.out
  refine (D2.out _ _ T).mono ?_
  rintro e u4 ⟨rfl, hx⟩
  have S1 := HS.out _ _ HS0.out hx
  clear hx HS0 a0 a1 a2 a3 a4 a5 b0 b1 b2 b3 b4 b5 T HT c0 c1 c2 c3 c4 c5 d0 d1 d2 d3 d4 d5
  have HS0 := Lib.hid S1
  obtain ⟨_, a0, a1, a2, a3, a4, a5, b0, b1, b2, b3, b4, b5⟩ := S1
  obtain ⟨gg5, hg⟩ : ∃ g, u4.heap.size = g := ⟨_, rfl⟩
  have T := texts_one u4 ⟨#[97, 98]⟩ gg5 hg
  have S1 := HS.out _ _ HS0.out ((Below.refl _ u4).alloc (Nat.le_refl _) (.cells #[.string ⟨#[97, 98]⟩] 9))
  obtain ⟨v5, hw⟩ : ∃ z, u4.alloc (.cells #[.string ⟨#[97, 98]⟩] 9) = z := ⟨_, rfl⟩
  rw [hw] at T S1
  have HS1 := Lib.hid S1
  obtain ⟨_, c0, c1, c2, c3, c4, c5, d0, d1, d2, d3, d4, d5⟩ := S1
  clear HS0
  have HS0 := HS1
  clear HS1
  have HT := Lib.hid T
  clear T
  go_wp2_with fail
  clear hw hg
  have T := HT.out
  refine (D1.out _ _ T).mono ?_
  rintro e u5 ⟨rfl, hx⟩
  have S1 := HS.out _ _ HS0.out hx
  clear hx HS0 a0 a1 a2 a3 a4 a5 b0 b1 b2 b3 b4 b5 T HT c0 c1 c2 c3 c4 c5 d0 d1 d2 d3 d4 d5
  have HS0 := Lib.hid S1
  obtain ⟨_, a0, a1, a2, a3, a4, a5, b0, b1, b2, b3, b4, b5⟩ := S1
  go_wp2_with fail
  refine (RX.out _).mono ?_
  rintro e u6 ⟨rfl, hx⟩
  have S1 := HS.out _ _ HS0.out hx
  clear hx HS0 a0 a1 a2 a3 a4 a5 b0 b1 b2 b3 b4 b5
  have HS0 := Lib.hid S1
  obtain ⟨_, a0, a1, a2, a3, a4, a5, b0, b1, b2, b3, b4, b5⟩ := S1
  go_wp2
  go_ret
  exact ⟨by first | rfl | (simp; done), hop HB.out h0 HS0.out.1⟩
end Go.Proofs.YtfamcebgcpaolaaGreatDoor
