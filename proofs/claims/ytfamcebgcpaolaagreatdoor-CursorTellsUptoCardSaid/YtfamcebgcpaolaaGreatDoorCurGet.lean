/- What a cursor's text is read as: the walk of the reader's cursor.
   The cursor whose Put a text is: the walk of Get. -/
import Derived.Test.YtfamcebgcpaolaaGreatDoorCurBack
import Derived.Test.YtfamcebgcpaolaaGreatDoorEntParse
namespace Go.Proofs.YtfamcebgcpaolaaGreatDoor
open Go.RowKit
set_option linter.unusedVariables false
set_option linter.unusedSimpArgs false

structure CurX where
  dg : Nat
  ln : Int
  by_ : Int
  e : EntX
def CurX.b (x : CurX) : CurB := ⟨x.dg, x.ln, x.by_, x.e.b⟩
def CurX.arr (x : CurX) : Array Value := #[.int .u64 (x.dg : Int), .int .i64 x.ln, .int .i64 x.by_, .int .i64 x.e.ts, .slice x.e.A x.e.n x.e.c, .string x.e.ln]
def CurX.val (x : CurX) : Value := .agg #[.int .u64 (x.dg : Int), .int .i64 x.ln, .int .i64 x.by_, .int .i64 x.e.ts, .slice x.e.A x.e.n x.e.c, .string x.e.ln]
def cnil : CurX := ⟨0, 0, 0, xnil⟩
def cursT : TypeId := 29
theorem take_head (b : Nat) (ty : TypeId) (cs : Array Value) (t : ByteArray) (k : Nat) (W : World) (hR : Rd W b ty cs t k) :
    Calls Tryz.prog 55 #[.pointer (some ⟨b, 0, none⟩), .slice (some ⟨W.heap.size, 0, none⟩) 1 1] (W.alloc (.cells #[.string ⟨#[99, 49, 58]⟩] 9)) fun e w' => e = .returned (.tuple #[.string ((takeR t k [headC]).getD .empty), .bool (takeR t k [headC]).isSome]) ∧ Rd w' b ty (cs.setIfInBounds 1 (.int .i64 (takeTo t k [headC] : Nat))) t (takeTo t k [headC]) ∧ (W.alloc (.cells #[.string ⟨#[99, 49, 58]⟩] 9)).grownBy w' (some b) :=
  have hlt := hR.lt
  take_any b ty cs t k (some ⟨W.heap.size, 0, none⟩) 1 1 [headC] (by decide) (by intro s hs; rw [List.mem_singleton.1 hs]; decide) (W.alloc (.cells #[.string ⟨#[99, 49, 58]⟩] 9)) (hR.alloc _) ⟨rfl, fun _ => ⟨_, 0, rfl, by simp, fun j hj => by
    obtain rfl : j = 0 := by omega
    rw [(Blk.new W _ #[.string ⟨#[99, 49, 58]⟩]).cell 0]; rfl⟩⟩ (by intro a h; injection h with h; rw [← h]; show W.heap.size ≠ b; omega)
structure CurHeld (W0 w : World) (g : Nat) (cs : Array Value) (x : EntX) : Prop where
  blk : Blk w g 29 cs
  good : Good 0 w x
  below : Below W0.heap.size W0 w
  far : W0.heap.size ≤ g
theorem cur_not_pair : 29 ≠ 116 := by decide
theorem CurHeld.set {W0 w : World} {g : Nat} {cs : Array Value} {x : EntX} (h : CurHeld W0 w g cs x) (i : Nat) (u : Value) : CurHeld W0 (w.setCell ⟨g, i, none⟩ u) g (cs.setIfInBounds i u) x :=
  ⟨h.blk.set_ i u, ⟨set_by h.good.set h.blk cur_not_pair (Nat.zero_le _) u, h.good.len, h.good.lo, h.good.hi⟩, h.below.setCell (p := ⟨g, i, none⟩) h.far _, h.far⟩

set_option maxRecDepth 100000 in
set_option maxHeartbeats 3200000 in
theorem curR_any (b : Nat) (ty : TypeId) (cs : Array Value) (t : ByteArray) (hs : t.size ≤ 16000000) (W0 W : World) (h00 : Below W0.heap.size W0 W) (hbb : W0.heap.size ≤ b) (hR : Rd W b ty cs t 0) (hl : LibIs W0) :
    Calls Tryz.prog 37 #[.pointer (some ⟨b, 0, none⟩)] W fun e w' => ∃ (x : CurX) (ok : Bool), e = .returned (.tuple #[x.val, .bool ok]) ∧ Hid (curP t = if ok = true then some x.b else none) ∧ Good 0 w' x.e ∧ Below W0.heap.size W0 w' := by
  have h0 : W0.heap.size ≤ W0.heap.size := Nat.le_refl _
  have hsz := h00.size
  have hu := Tryz.underlying29
  have HU := Lib.hid hu
  have HL := Lib.hid hl
  have hlt := hR.lt
  have HG := Lib.hid (fun (w w' : World) (h : Below W0.heap.size W0 w) (hg : w.grownBy w' (some b)) => show Below W0.heap.size W0 w' from h.grown hg h.size (fun r hr => by cases hr; exact hbb))
  have HLG := Lib.hid (fun (w w' : World) (h : Below W0.heap.size W0 w) (hg : w.grownBy w' (some b)) => show LibIs w' from hl.below (HG.out _ _ h hg))
  have HTK := Lib.hid (fun w h => take_head b ty cs t 0 w h)
  have hP : curP t = if (takeR t 0 [headC]).isSome = true then curH t (hexC t (takeTo t 0 [headC])) else none := rfl
  obtain ⟨Z, hZ⟩ : ∃ Z, curP t = Z := ⟨_, rfl⟩
  rw [hZ] at hP ⊢
  obtain ⟨k0, hk0⟩ : ∃ k, takeTo t 0 [headC] = k := ⟨_, rfl⟩
  obtain ⟨o, ho⟩ : ∃ o, takeR t 0 [headC] = o := ⟨_, rfl⟩
  replace HTK := HTK.out
  rw [hk0, ho] at hP
  simp only [hk0, ho] at HTK
  obtain ⟨ok, hok⟩ : ∃ x, o.isSome = x := ⟨_, rfl⟩
  obtain ⟨tk, htk⟩ : ∃ x : ByteArray, o.getD .empty = x := ⟨_, rfl⟩
  rw [hok] at hP
  simp only [hok, htk] at HTK
  have HP := Lib.hid hP
  replace HTK := Lib.hid HTK
  have HR := Lib.hid hR
  have H00 := Lib.hid h00
  clear hu hl hZ hk0 ho hok htk hP hR h00
  go_enter Tryz.func37, Tryz.ntmps37
  go_wp2_with fail
  obtain ⟨g, hg⟩ : ∃ g, W.heap.size = g := ⟨_, rfl⟩
  obtain ⟨w0, hw0⟩ : ∃ w, W.alloc (.cells #[.int .u64 0, .int .i64 0, .int .i64 0, .int .i64 0, .slice none 0 0, .string ⟨#[]⟩] 29) = w := ⟨_, rfl⟩
  have B0 : Blk w0 g 29 #[.int .u64 0, .int .i64 0, .int .i64 0, .int .i64 0, .slice none 0 0, .string ⟨#[]⟩] := by rw [← hw0, ← hg]; exact Blk.new W _ _
  have hb0 : Below W0.heap.size W0 w0 := by rw [← hw0]; exact H00.out.alloc hsz _
  have hR0 : Rd w0 b ty cs t 0 := by rw [← hw0]; exact HR.out.alloc _
  have hgb : g ≠ b := by omega
  have hg0 : W0.heap.size ≤ g := by omega
  have hz0 : w0.heap.size = W.heap.size + 1 := by rw [← hw0]; simp
  rw [hg] at hz0
  rw [hw0, hg, ← hz0]
  have HG0 := Lib.hid hg0
  have HGB := Lib.hid hgb
  clear hw0 hg hz0 HR H00 hlt hsz hgb hg0
  refine (HTK.out _ hR0).mono ?_
  rintro e w1 ⟨rfl, hR1, hg1⟩
  have hb1 := HG.out _ _ (hb0.alloc hb0.size _) hg1
  have B1 := (B0.alloc (.cells #[.string ⟨#[99, 49, 58]⟩] 9)).kept hg1 HGB.out
  obtain ⟨cs1, hcs1⟩ : ∃ c, cs.setIfInBounds 1 (.int .i64 (k0 : Nat)) = c := ⟨_, rfl⟩
  rw [hcs1] at hR1
  have HR1 := Lib.hid hR1
  have HB1 := Lib.hid hb1
  have HK1 := Lib.hid B1
  have q0 : w1.cell? ⟨g, 0, none⟩ = some (.int .u64 0) := (B1.cell 0).trans rfl
  have q1 : w1.cell? ⟨g, 1, none⟩ = some (.int .i64 0) := (B1.cell 1).trans rfl
  have q2 : w1.cell? ⟨g, 2, none⟩ = some (.int .i64 0) := (B1.cell 2).trans rfl
  have q3 : w1.cell? ⟨g, 3, none⟩ = some (.int .i64 0) := (B1.cell 3).trans rfl
  have q4 : w1.cell? ⟨g, 4, none⟩ = some (.slice none 0 0) := (B1.cell 4).trans rfl
  have q5 : w1.cell? ⟨g, 5, none⟩ = some (.string ⟨#[]⟩) := (B1.cell 5).trans rfl
  have f0 := B1.frozen 0
  have f1 := B1.frozen 1
  have f2 := B1.frozen 2
  have f3 := B1.frozen 3
  have f4 := B1.frozen 4
  have f5 := B1.frozen 5
  clear hR0 hg1 hb0 B0 hcs1 hR1 hb1 B1 HTK
  cases ok with
  | false =>
    have E := Lib.hid (show Z = none from HP.out)
    clear HP
    go_wp2
    refine bodyPost_ret (results_row_tmp rfl _ _ g 29 _ (0, 0) _ rfl ((((((HK1.out.set_ 0 (.int .u64 0)).set_ 1 (.int .i64 0)).set_ 2 (.int .i64 0)).set_ 3 (.int .i64 0)).set_ 4 (.slice none 0 0)).set_ 5 (.string ⟨#[]⟩)) HU.out rfl (by kernel_rfl)) rfl ?_
    exact ⟨cnil, false, rfl, Lib.hid E.out, good_nil _ _, (((((HB1.out.setCell (p := ⟨g, 0, none⟩) HG0.out _).setCell (p := ⟨g, 1, none⟩) HG0.out _).setCell (p := ⟨g, 2, none⟩) HG0.out _).setCell (p := ⟨g, 3, none⟩) HG0.out _).setCell (p := ⟨g, 4, none⟩) HG0.out _).setCell (p := ⟨g, 5, none⟩) HG0.out _⟩
  | true =>
    have HP2 := Lib.hid (show Z = curH t (hexC t k0) from HP.out)
    have HX := Lib.hid (hexC_any b ty cs1 t k0 w1 HR1.out)
    clear HP
    go_wp2_with fail
    refine HX.out.mono ?_
    rintro e w2 ⟨dg, ok, k1, rfl, hdg, hR2, hg2, hX⟩
    have hP := HP2.out
    rw [hX.out] at hP
    have B2 := HK1.out.kept hg2 HGB.out
    have hb2 := HG.out _ _ HB1.out hg2
    have HB2 := Lib.hid hb2
    have HK2 := Lib.hid B2
    have HP3 := Lib.hid hP
    clear q0 q1 q2 q3 q4 q5 f0 f1 f2 f3 f4 f5
    have q0 : w2.cell? ⟨g, 0, none⟩ = some (.int .u64 0) := (B2.cell 0).trans rfl
    have q1 : w2.cell? ⟨g, 1, none⟩ = some (.int .i64 0) := (B2.cell 1).trans rfl
    have q2 : w2.cell? ⟨g, 2, none⟩ = some (.int .i64 0) := (B2.cell 2).trans rfl
    have q3 : w2.cell? ⟨g, 3, none⟩ = some (.int .i64 0) := (B2.cell 3).trans rfl
    have q4 : w2.cell? ⟨g, 4, none⟩ = some (.slice none 0 0) := (B2.cell 4).trans rfl
    have q5 : w2.cell? ⟨g, 5, none⟩ = some (.string ⟨#[]⟩) := (B2.cell 5).trans rfl
    have f0 := B2.frozen 0
    have f1 := B2.frozen 1
    have f2 := B2.frozen 2
    have f3 := B2.frozen 3
    have f4 := B2.frozen 4
    have f5 := B2.frozen 5
    clear hX hg2 hb2 B2 hP HP2 HX HR1 HB1 HK1
    cases ok with
    | false =>
      have E := Lib.hid (show Z = none from HP3.out)
      clear HP3 hR2
      go_wp2
      refine bodyPost_ret (results_row_tmp rfl _ _ g 29 _ (0, 0) _ rfl (((((((HK2.out.set_ 0 (.int .u64 (dg : Int))).set_ 0 (.int .u64 0)).set_ 1 (.int .i64 0)).set_ 2 (.int .i64 0)).set_ 3 (.int .i64 0)).set_ 4 (.slice none 0 0)).set_ 5 (.string ⟨#[]⟩)) HU.out rfl (by kernel_rfl)) rfl ?_
      exact ⟨cnil, false, rfl, Lib.hid E.out, good_nil _ _, ((((((HB2.out.setCell (p := ⟨g, 0, none⟩) HG0.out _).setCell (p := ⟨g, 0, none⟩) HG0.out _).setCell (p := ⟨g, 1, none⟩) HG0.out _).setCell (p := ⟨g, 2, none⟩) HG0.out _).setCell (p := ⟨g, 3, none⟩) HG0.out _).setCell (p := ⟨g, 4, none⟩) HG0.out _).setCell (p := ⟨g, 5, none⟩) HG0.out _⟩
    | true =>
      have HP4 := Lib.hid (show Z = curN1 t dg (numC t k1) from HP3.out)
      have hR3 := hR2.out rfl
      obtain ⟨cs2, hcs2⟩ : ∃ c, cs1.setIfInBounds 1 (.int .i64 (k1 : Nat)) = c := ⟨_, rfl⟩
      rw [hcs2] at hR3
      have HN := Lib.hid (fun w (hR : Rd w b ty cs2 t k1) (h : Below W0.heap.size W0 w) => numC_any b ty cs2 t k1 w hR (HL.out.below h) (fun w' hg => HLG.out w w' h hg) (by omega))
      have HR3 := Lib.hid hR3
      have hdgI : (dg : Int) < 18446744073709551616 := by omega
      clear HP3 hR2 hcs2 hR3
      go_wp2_with fail
      have hR4 := HR3.out.far (p := ⟨g, 0, none⟩) (fun h => HGB.out h.symm) (.int .u64 (dg : Int))
      have B4 := HK2.out.set_ 0 (.int .u64 (dg : Int))
      have hb4 : Below W0.heap.size W0 (w2.setCell ⟨g, 0, none⟩ (.int .u64 (dg : Int))) := HB2.out.setCell (p := ⟨g, 0, none⟩) HG0.out _
      obtain ⟨w3, hw3⟩ : ∃ w, w2.setCell ⟨g, 0, none⟩ (.int .u64 (dg : Int)) = w := ⟨_, rfl⟩
      rw [hw3] at hR4 B4 hb4 ⊢
      clear hw3 q0 q1 q2 q3 q4 q5 f0 f1 f2 f3 f4 f5 HB2 HK2 HR3
      refine (HN.out _ hR4 hb4).mono ?_
      rintro e w4 ⟨ln, ok, k2, rfl, hR5, hg5, hX⟩
      have HIN := Lib.hid (fun (h : ok = true) => numC_in (show numC t k1 = some (ln, k2) from by rw [hX.out, if_pos h]))
      have hP := HP4.out
      rw [hX.out] at hP
      have B5 := B4.kept hg5 HGB.out
      have hb5 := HG.out _ _ hb4 hg5
      have HB5 := Lib.hid hb5
      have HK5 := Lib.hid B5
      have HP5 := Lib.hid hP
      have HR5 := Lib.hid hR5
      have q0 : w4.cell? ⟨g, 0, none⟩ = some (.int .u64 (dg : Int)) := (B5.cell 0).trans rfl
      have q1 : w4.cell? ⟨g, 1, none⟩ = some (.int .i64 0) := (B5.cell 1).trans rfl
      have q2 : w4.cell? ⟨g, 2, none⟩ = some (.int .i64 0) := (B5.cell 2).trans rfl
      have q3 : w4.cell? ⟨g, 3, none⟩ = some (.int .i64 0) := (B5.cell 3).trans rfl
      have q4 : w4.cell? ⟨g, 4, none⟩ = some (.slice none 0 0) := (B5.cell 4).trans rfl
      have q5 : w4.cell? ⟨g, 5, none⟩ = some (.string ⟨#[]⟩) := (B5.cell 5).trans rfl
      have f0 := B5.frozen 0
      have f1 := B5.frozen 1
      have f2 := B5.frozen 2
      have f3 := B5.frozen 3
      have f4 := B5.frozen 4
      have f5 := B5.frozen 5
      clear hX hg5 hb4 hb5 B4 B5 hP HP4 hR4 hR5 HN
      cases ok with
      | false =>
        have E := Lib.hid (show Z = none from HP5.out)
        clear HP5 HR5
        go_wp2
        refine bodyPost_ret (results_row_tmp rfl _ _ g 29 _ (0, 0) _ rfl ((((((HK5.out.set_ 0 (.int .u64 0)).set_ 1 (.int .i64 0)).set_ 2 (.int .i64 0)).set_ 3 (.int .i64 0)).set_ 4 (.slice none 0 0)).set_ 5 (.string ⟨#[]⟩)) HU.out rfl (by kernel_rfl)) rfl ?_
        exact ⟨cnil, false, rfl, Lib.hid E.out, good_nil _ _, (((((HB5.out.setCell (p := ⟨g, 0, none⟩) HG0.out _).setCell (p := ⟨g, 1, none⟩) HG0.out _).setCell (p := ⟨g, 2, none⟩) HG0.out _).setCell (p := ⟨g, 3, none⟩) HG0.out _).setCell (p := ⟨g, 4, none⟩) HG0.out _).setCell (p := ⟨g, 5, none⟩) HG0.out _⟩
      | true =>
        have HP6 := Lib.hid (show Z = curN2 t dg ln (numC t k2) from HP5.out)
        obtain ⟨hln0, hln1⟩ := HIN.out rfl
        obtain ⟨cs3, hcs3⟩ : ∃ c, cs2.setIfInBounds 1 (.int .i64 (k2 : Nat)) = c := ⟨_, rfl⟩
        have hR6 := HR5.out
        rw [hcs3] at hR6
        have HN := Lib.hid (fun w (hR : Rd w b ty cs3 t k2) (h : Below W0.heap.size W0 w) => numC_any b ty cs3 t k2 w hR (HL.out.below h) (fun w' hg => HLG.out w w' h hg) (by omega))
        have HR6 := Lib.hid hR6
        clear HP5 HR5 hcs3 hR6 HIN
        go_wp2_with fail
        have hR7 := HR6.out.far (p := ⟨g, 1, none⟩) (fun h => HGB.out h.symm) (.int .i64 ln)
        have B7 := HK5.out.set_ 1 (.int .i64 ln)
        have hb7 : Below W0.heap.size W0 (w4.setCell ⟨g, 1, none⟩ (.int .i64 ln)) := HB5.out.setCell (p := ⟨g, 1, none⟩) HG0.out _
        obtain ⟨w6, hw6⟩ : ∃ w, w4.setCell ⟨g, 1, none⟩ (.int .i64 ln) = w := ⟨_, rfl⟩
        rw [hw6] at hR7 B7 hb7 ⊢
        clear hw6 q0 q1 q2 q3 q4 q5 f0 f1 f2 f3 f4 f5 HB5 HK5 HR6
        refine (HN.out _ hR7 hb7).mono ?_
        rintro e w7 ⟨by_, ok, k3, rfl, hR8, hg8, hX⟩
        have HIN := Lib.hid (fun (h : ok = true) => numC_in (show numC t k2 = some (by_, k3) from by rw [hX.out, if_pos h]))
        have hP := HP6.out
        rw [hX.out] at hP
        have B8 := B7.kept hg8 HGB.out
        have hb8 := HG.out _ _ hb7 hg8
        have HB8 := Lib.hid hb8
        have HK8 := Lib.hid B8
        have HP7 := Lib.hid hP
        have HR8 := Lib.hid hR8
        have q0 : w7.cell? ⟨g, 0, none⟩ = some (.int .u64 (dg : Int)) := (B8.cell 0).trans rfl
        have q1 : w7.cell? ⟨g, 1, none⟩ = some (.int .i64 ln) := (B8.cell 1).trans rfl
        have q2 : w7.cell? ⟨g, 2, none⟩ = some (.int .i64 0) := (B8.cell 2).trans rfl
        have q3 : w7.cell? ⟨g, 3, none⟩ = some (.int .i64 0) := (B8.cell 3).trans rfl
        have q4 : w7.cell? ⟨g, 4, none⟩ = some (.slice none 0 0) := (B8.cell 4).trans rfl
        have q5 : w7.cell? ⟨g, 5, none⟩ = some (.string ⟨#[]⟩) := (B8.cell 5).trans rfl
        have f0 := B8.frozen 0
        have f1 := B8.frozen 1
        have f2 := B8.frozen 2
        have f3 := B8.frozen 3
        have f4 := B8.frozen 4
        have f5 := B8.frozen 5
        clear hX hg8 hb7 hb8 B7 B8 hP HP6 hR7 hR8 HN
        cases ok with
        | false =>
          have E := Lib.hid (show Z = none from HP7.out)
          have HH := Lib.hid (CurHeld.mk (x := xnil) HK8.out (good_nil _ _) HB8.out HG0.out)
          clear HP7 HR8
          go_wp2
          have H := ((((((HH.out.set 2 (.int .i64 by_)).set 0 (.int .u64 0)).set 1 (.int .i64 0)).set 2 (.int .i64 0)).set 3 (.int .i64 0)).set 4 (.slice none 0 0)).set 5 (.string ⟨#[]⟩)
          refine bodyPost_ret (results_row_tmp rfl _ _ g 29 _ (0, 0) _ rfl H.blk HU.out rfl (by kernel_rfl)) rfl ?_
          exact ⟨cnil, false, rfl, Lib.hid E.out, H.good, H.below⟩
        | true =>
          have HP8 := Lib.hid (show Z = (entP (t.extract k3 t.size)).map (fun x => (⟨dg, ln, by_, x.1⟩ : CurB)) from HP7.out)
          obtain ⟨hby0, hby1⟩ := HIN.out rfl
          obtain ⟨cs4, hcs4⟩ : ∃ c, cs3.setIfInBounds 1 (.int .i64 (k3 : Nat)) = c := ⟨_, rfl⟩
          have hR9 := HR8.out
          rw [hcs4] at hR9
          have HRS := Lib.hid (fun w h => rest_any b ty cs4 t k3 w h)
          have HPA := Lib.hid (fun w h => entParse_any (t.extract k3 t.size) (by rw [ByteArray.size_extract]; omega) w h)
          have HR9 := Lib.hid hR9
          clear HP7 HR8 hcs4 hR9 HIN
          go_wp2_with fail
          have hR10 := HR9.out.far (p := ⟨g, 2, none⟩) (fun h => HGB.out h.symm) (.int .i64 by_)
          have B10 := HK8.out.set_ 2 (.int .i64 by_)
          have hb10 : Below W0.heap.size W0 (w7.setCell ⟨g, 2, none⟩ (.int .i64 by_)) := HB8.out.setCell (p := ⟨g, 2, none⟩) HG0.out _
          obtain ⟨w9, hw9⟩ : ∃ w, w7.setCell ⟨g, 2, none⟩ (.int .i64 by_) = w := ⟨_, rfl⟩
          rw [hw9] at hR10 B10 hb10 ⊢
          clear hw9 q0 q1 q2 q3 q4 q5 f0 f1 f2 f3 f4 f5 HB8 HK8 HR9
          refine (HRS.out _ hR10).mono ?_
          rintro e w10 ⟨rfl, q, rfl⟩
          have B11 := B10.drewN q
          have hb11 := below_drewN hb10 q
          obtain ⟨w11, hw11⟩ : ∃ w, w9.drewN q = w := ⟨_, rfl⟩
          rw [hw11] at B11 hb11 ⊢
          clear hw11 hR10 B10 hb10 HRS
          go_wp2_with fail
          refine (HPA.out _ (HL.out.below hb11)).mono ?_
          rintro e w12 ⟨x, rfl, hx, gx, hxb⟩
          have B12 := B11.below hxb B11.lt
          have hb12 := hop hb11 h0 hxb
          have HH := Lib.hid (CurHeld.mk B12 gx hb12 HG0.out)
          have hP := HP8.out
          have q0 : w12.cell? ⟨g, 0, none⟩ = some (.int .u64 (dg : Int)) := (B12.cell 0).trans rfl
          have q1 : w12.cell? ⟨g, 1, none⟩ = some (.int .i64 ln) := (B12.cell 1).trans rfl
          have q2 : w12.cell? ⟨g, 2, none⟩ = some (.int .i64 by_) := (B12.cell 2).trans rfl
          have q3 : w12.cell? ⟨g, 3, none⟩ = some (.int .i64 0) := (B12.cell 3).trans rfl
          have q4 : w12.cell? ⟨g, 4, none⟩ = some (.slice none 0 0) := (B12.cell 4).trans rfl
          have q5 : w12.cell? ⟨g, 5, none⟩ = some (.string ⟨#[]⟩) := (B12.cell 5).trans rfl
          have f0 := B12.frozen 0
          have f1 := B12.frozen 1
          have f2 := B12.frozen 2
          have f3 := B12.frozen 3
          have f4 := B12.frozen 4
          have f5 := B12.frozen 5
          dsimp only [entV, EntX.val]
          obtain ⟨o, ho⟩ : ∃ o, entP (t.extract k3 t.size) = o := ⟨_, rfl⟩
          rw [ho] at hP hx ⊢
          obtain ⟨n, hn⟩ : ∃ n, (o.map (·.2)).getD 0 = n := ⟨_, rfl⟩
          obtain ⟨ok, hok⟩ : ∃ n, o.isSome = n := ⟨_, rfl⟩
          rw [hn, hok]
          have HE := Lib.hid (show Z = if ok = true then some ⟨dg, ln, by_, x.b⟩ else none from by
            rw [hP, hx, ← hok]
            cases o with
            | none => rfl
            | some y => rfl)
          clear hP ho hn hok hx gx hxb B11 B12 hb11 hb12 HPA HP8
          go_wp2
          have H := ((((((((HH.out.set 3 (.int .i64 x.ts)).set 4 (.slice x.A x.n x.c)).set 5 (.string x.ln)).set 0 (.int .u64 (dg : Int))).set 1 (.int .i64 ln)).set 2 (.int .i64 by_)).set 3 (.int .i64 x.ts)).set 4 (.slice x.A x.n x.c)).set 5 (.string x.ln)
          simp only [List.setIfInBounds_toArray, List.set_cons_zero, List.set_cons_succ] at H
          refine bodyPost_ret (results_row_tmp rfl _ _ g 29 _ (0, 0) _ rfl H.blk HU.out rfl (by kernel_rfl)) rfl ?_
          exact ⟨⟨dg, ln, by_, x⟩, ok, rfl, Lib.hid HE.out, H.good, H.below⟩
end Go.Proofs.YtfamcebgcpaolaaGreatDoor
namespace Go.Proofs.YtfamcebgcpaolaaGreatDoor
open Go.RowKit
set_option linter.unusedVariables false
set_option linter.unusedSimpArgs false

theorem name_size {s : ByteArray} (h : nameB s = true) : s.size ≤ 32 := by
  unfold nameB at h
  simp only [Bool.and_eq_true, decide_eq_true_iff] at h
  exact h.2.1
theorem right_vals {a : List PairB} (h : rightB a = true) : ∀ p ∈ a, p.2.size ≤ 256 := by
  have key : ∀ (l : List PairB) (o : Option ByteArray), rightGo o l = true → ∀ p ∈ l, p.2.size ≤ 256 := by
    intro l
    induction l with
    | nil => intro o _ p hp; cases hp
    | cons x l ih =>
      intro o h p hp
      rw [rightGo, Bool.and_eq_true] at h
      rcases List.mem_cons.1 hp with rfl | hp
      · have := h.1
        unfold okAt at this
        rw [Bool.and_eq_true, Bool.and_eq_true] at this
        exact of_decide_eq_true this.2.1
      · exact ih _ h.2 p hp
  unfold rightB at h
  rw [Bool.and_eq_true] at h
  exact key a none h.2
theorem bulk_le (M : Nat) (l : List PairB) (h : ∀ p ∈ l, p.1.size + p.2.size + 1 ≤ M) : bulkP l ≤ M * l.length := by
  induction l with
  | nil => exact Nat.zero_le _
  | cons p l ih =>
    have h1 := h p List.mem_cons_self
    have h2 := ih fun q hq => h q (List.mem_cons_of_mem _ hq)
    rw [bulkP, List.length_cons, Nat.mul_succ]
    omega
/-- what a right entry is put as is no great text -/
theorem right_small (e : EntB) (h : rightE e = true) (h0 : -9223372036854775808 ≤ e.ts) (h1 : e.ts ≤ 9223372036854775807) : e.ls.length ≤ 16 ∧ (∀ p ∈ e.ls, p.1.size ≤ 1048576 ∧ p.2.size ≤ 1048576) ∧ (joinB ⟨#[44]⟩ (e.ls.map partT)).length ≤ 20000 ∧ e.ln.size ≤ 256 ∧ (entT e).size ≤ 30000 := by
  unfold rightE at h
  rw [Bool.and_eq_true, decide_eq_true_iff] at h
  obtain ⟨hr, hl⟩ := h
  have k1 := right_len hr
  have k2 : ∀ p ∈ e.ls, p.1.size ≤ 32 ∧ p.2.size ≤ 256 := fun p hp => ⟨name_size (right_names hr p hp), right_vals hr p hp⟩
  have k3 := bulk_le 289 e.ls (fun p hp => by have := k2 p hp; omega)
  have k4 := text_size e.ls
  have k5 := putS_size e.ln
  have k6 := itoaS_size e.ts h0 h1
  have k7 : (joinB ⟨#[44]⟩ (e.ls.map partT)).length ≤ (textT e.ls).size := by
    unfold textT
    rw [ByteArray.size_append, ByteArray.size_append]
    have s3 : (⟨(joinB ⟨#[44]⟩ (e.ls.map partT)).toArray⟩ : ByteArray).size = (joinB ⟨#[44]⟩ (e.ls.map partT)).length := by simp [ByteArray.size]
    omega
  refine ⟨k1, fun p hp => by have := k2 p hp; omega, by omega, hl, ?_⟩
  unfold entT
  rw [ByteArray.size_append, ByteArray.size_append]
  omega
def getE (t : ByteArray) : Int := if (getC t).isSome = true then 0 else 5

set_option maxRecDepth 100000 in
set_option maxHeartbeats 1600000 in
theorem curGet_any (t : ByteArray) (hs : t.size ≤ 16000000) (W : World) (hl : LibIs W) :
    Calls Tryz.prog 20 #[.string t] W fun e w' => ∃ x : CurX, e = .returned (.tuple #[x.val, .int .i64 (getE t)]) ∧ x.b = (getC t).getD cnil.b ∧ Good 0 w' x.e ∧ Below W.heap.size W w' := by
  have h0 : W.heap.size ≤ W.heap.size := Nat.le_refl _
  have hu := Tryz.underlying29
  have HU := Lib.hid hu
  have HL := Lib.hid hl
  have HOF := Lib.hid (fun w => of_any t w)
  have hZE : getC t = getC1 t (curP t) := rfl
  have hEE : getE t = if (getC t).isSome = true then 0 else 5 := rfl
  have HOK := Lib.hid (fun c (h : curP t = some c) => curP_ok h)
  obtain ⟨E, hE⟩ : ∃ z, getE t = z := ⟨_, rfl⟩
  obtain ⟨Z, hZ⟩ : ∃ z, getC t = z := ⟨_, rfl⟩
  obtain ⟨P, hP⟩ : ∃ z, curP t = z := ⟨_, rfl⟩
  rw [hE, hZ] at hEE
  rw [hZ, hP] at hZE
  replace HOK := HOK.out
  simp only [hP] at HOK
  replace HOK := Lib.hid HOK
  rw [hE, hZ]
  have HEE := Lib.hid hEE
  have HZE := Lib.hid hZE
  have HP := Lib.hid hP
  clear hu hl hZE hEE hE hZ hP
  go_enter Tryz.func20, Tryz.ntmps20
  go_wp2_with fail
  obtain ⟨g0, hg0⟩ : ∃ g, W.heap.size = g := ⟨_, rfl⟩
  obtain ⟨w0, hw0⟩ : ∃ w, W.alloc (.cells #[.int .u64 0, .int .i64 0, .int .i64 0, .int .i64 0, .slice none 0 0, .string ⟨#[]⟩] 29) = w := ⟨_, rfl⟩
  have B0 : Blk w0 g0 29 #[.int .u64 0, .int .i64 0, .int .i64 0, .int .i64 0, .slice none 0 0, .string ⟨#[]⟩] := by rw [← hw0, ← hg0]; exact Blk.new W _ _
  have hb0 : Below W.heap.size W w0 := by rw [← hw0]; exact (Below.refl _ _).alloc h0 _
  have hz0 : w0.heap.size = g0 + 1 := by rw [← hw0, ← hg0]; simp
  rw [hw0, hg0]
  have HG0 := Lib.hid hg0
  clear hw0 hg0
  refine (HOF.out _).mono ?_
  rintro e w1 ⟨rfl, hx⟩
  have hsz1 := hx.size
  go_wp2_with fail
  obtain ⟨b, hb⟩ : ∃ b, w1.heap.size = b := ⟨_, rfl⟩
  obtain ⟨w2, hw2⟩ : ∃ w, w1.alloc (.cells #[.string t, .int .i64 0] 82) = w := ⟨_, rfl⟩
  have hR : Rd w2 b 82 #[.string t, .int .i64 0] t 0 := by
    rw [← hw2, ← hb]
    exact ⟨Blk.new w1 _ _, rfl, rfl, Nat.zero_le _, by omega⟩
  have hb2 : Below w0.heap.size w0 w2 := by rw [← hw2]; exact hx.alloc hsz1 _
  have hbW : w0.heap.size ≤ b := by omega
  have CR := Lib.hid (curR_any b 82 #[.string t, .int .i64 0] t hs w0 w2 hb2 hbW hR (HL.out.below hb0))
  rw [hw2, hb]
  have HB0 := Lib.hid B0
  have Hb0 := Lib.hid hb0
  have HZ0 := Lib.hid hz0
  clear hw2 hb hR hb2 hbW hx hsz1 B0 hb0 hz0 HOF
  refine CR.out.mono ?_
  rintro e w3 ⟨x, ok, rfl, hcp, gx, hx⟩
  obtain ⟨dg, ln, by_, ⟨ts, A, n, c, ls, l1⟩⟩ := x
  have B3 := HB0.out.below hx (by rw [HZ0.out]; exact Nat.lt_succ_self _)
  have hb3 := hop Hb0.out h0 hx
  have hcp2 := hcp.out
  rw [HP.out] at hcp2
  have HCP := Lib.hid hcp2
  clear hcp hx HB0 Hb0 CR hcp2
  dsimp only [CurX.val]
  dsimp only at gx
  have hg3 : g0 < w3.heap.size := B3.lt
  obtain ⟨g1, hg1⟩ : ∃ g, w3.heap.size = g := ⟨_, rfl⟩
  obtain ⟨w4, hw4⟩ : ∃ w, w3.alloc (.cells #[.int .u64 (dg : Int), .int .i64 ln, .int .i64 by_, .int .i64 ts, .slice A n c, .string l1] 29) = w := ⟨_, rfl⟩
  have B4 : Blk w4 g0 29 #[.int .u64 0, .int .i64 0, .int .i64 0, .int .i64 0, .slice none 0 0, .string ⟨#[]⟩] := by rw [← hw4]; exact B3.alloc _
  have C4 : Blk w4 g1 29 #[.int .u64 (dg : Int), .int .i64 ln, .int .i64 by_, .int .i64 ts, .slice A n c, .string l1] := by rw [← hw4, ← hg1]; exact Blk.new _ _ _
  have hb4 : Below W.heap.size W w4 := by rw [← hw4]; exact hb3.alloc hb3.size _
  have g4 : Good 0 w4 ⟨ts, A, n, c, ls, l1⟩ := by rw [← hw4]; exact gx.below ((Below.refl _ _).alloc (Nat.le_refl _) _)
  have hgg : g0 ≠ g1 := by omega
  have HGG := Lib.hid hgg
  have hgW : W.heap.size ≤ g0 := by rw [HG0.out]; exact Nat.le_refl _
  have HGW := Lib.hid hgW
  clear B3 hb3 gx hg3 hgg hgW
  have q0 : w4.cell? ⟨g0, 0, none⟩ = some (.int .u64 0) := (B4.cell 0).trans rfl
  have q1 : w4.cell? ⟨g0, 1, none⟩ = some (.int .i64 0) := (B4.cell 1).trans rfl
  have q2 : w4.cell? ⟨g0, 2, none⟩ = some (.int .i64 0) := (B4.cell 2).trans rfl
  have q3 : w4.cell? ⟨g0, 3, none⟩ = some (.int .i64 0) := (B4.cell 3).trans rfl
  have q4 : w4.cell? ⟨g0, 4, none⟩ = some (.slice none 0 0) := (B4.cell 4).trans rfl
  have q5 : w4.cell? ⟨g0, 5, none⟩ = some (.string ⟨#[]⟩) := (B4.cell 5).trans rfl
  have f0 := B4.frozen 0
  have f1 := B4.frozen 1
  have f2 := B4.frozen 2
  have f3 := B4.frozen 3
  have f4 := B4.frozen 4
  have f5 := B4.frozen 5
  cases ok with
  | false =>
    have hzn : Z = none := by rw [HZE.out, HCP.out]; rfl
    have EE := Lib.hid (show E = 5 from by rw [HEE.out, hzn]; rfl)
    have HZN := Lib.hid hzn
    have HH := Lib.hid (CurHeld.mk (x := xnil) B4 (good_nil _ _) hb4 HGW.out)
    clear HZE HEE HCP HOK hzn B4 C4 hb4 g4
    go_wp2
    have H := ((((((HH.out.set 0 (.int .u64 0)).set 1 (.int .i64 0)).set 2 (.int .i64 0)).set 3 (.int .i64 0)).set 4 (.slice none 0 0)).set 5 (.string ⟨#[]⟩))
    refine bodyPost_ret (results_row_tmp rfl _ _ g0 29 _ (0, 0) _ rfl H.blk HU.out rfl (by kernel_rfl)) rfl ?_
    exact ⟨cnil, by rw [EE.out]; rfl, by rw [HZN.out]; rfl, H.good, H.below⟩
  | true =>
    have hcp := HCP.out
    rw [if_pos rfl] at hcp
    have hok := HOK.out _ hcp
    have hzz : Z = if rightC ln by_ ⟨ts, ls, l1⟩ = true then (if putC dg ln by_ ⟨ts, ls, l1⟩ = t then some ⟨dg, ln, by_, ⟨ts, ls, l1⟩⟩ else none) else none := by rw [HZE.out, hcp]; rfl
    obtain ⟨r1, r2, r3, r4, r5⟩ := right_small ⟨ts, ls, l1⟩ hok.right hok.t0 hok.t1
    dsimp only at r1 r2 r3 r4
    have hn : n ≤ 1048576 := by
      have : ls.length = n := g4.set.1.1
      omega
    have PT := fun w (h : Pairs w A n ls) (hl : LibIs w) => curPut_any dg ln by_ ts A n c ls l1 hok.dg hok.l0 hok.l1 hok.b0 hok.b1 hn (by omega) r2 (by omega) hok.t0 hok.t1 (by omega) w h hl
    obtain ⟨R, hR⟩ : ∃ z, rightC ln by_ ⟨ts, ls, l1⟩ = z := ⟨_, rfl⟩
    obtain ⟨S, hS⟩ : ∃ z, putC dg ln by_ ⟨ts, ls, l1⟩ = z := ⟨_, rfl⟩
    simp only [hR, hS] at PT
    rw [hR, hS] at hzz
    have HZZ := Lib.hid hzz
    have HPT := Lib.hid PT
    have HB4 := Lib.hid B4
    have HC4 := Lib.hid C4
    have Hb4 := Lib.hid hb4
    have Hg4 := Lib.hid g4
    have k0 : w4.cell? ⟨g1, 0, none⟩ = some (.int .u64 (dg : Int)) := (C4.cell 0).trans rfl
    have k1 : w4.cell? ⟨g1, 1, none⟩ = some (.int .i64 ln) := (C4.cell 1).trans rfl
    have k2 : w4.cell? ⟨g1, 2, none⟩ = some (.int .i64 by_) := (C4.cell 2).trans rfl
    have k3 : w4.cell? ⟨g1, 3, none⟩ = some (.int .i64 ts) := (C4.cell 3).trans rfl
    have k4 : w4.cell? ⟨g1, 4, none⟩ = some (.slice A n c) := (C4.cell 4).trans rfl
    have k5 : w4.cell? ⟨g1, 5, none⟩ = some (.string l1) := (C4.cell 5).trans rfl
    clear hcp hok hzz r1 r2 r3 r4 r5 PT hR hS HCP HOK HZE B4 C4 hb4 g4 hn
    go_wp2_with fail
    clear hw4 hg1
    refine (HPT.out _ Hg4.out.set.1 (HL.out.below Hb4.out)).mono ?_
    rintro e w5 ⟨rfl, hx⟩
    have B5 := HB4.out.below hx HB4.out.lt
    have C5 := HC4.out.below hx HC4.out.lt
    have hb5 := hop Hb4.out h0 hx
    have g5 := Hg4.out.below hx
    clear hx q0 q1 q2 q3 q4 q5 f0 f1 f2 f3 f4 f5 k0 k1 k2 k3 k4 k5 HB4 HC4 Hb4 Hg4 HPT
    have q0 : w5.cell? ⟨g0, 0, none⟩ = some (.int .u64 0) := (B5.cell 0).trans rfl
    have q1 : w5.cell? ⟨g0, 1, none⟩ = some (.int .i64 0) := (B5.cell 1).trans rfl
    have q2 : w5.cell? ⟨g0, 2, none⟩ = some (.int .i64 0) := (B5.cell 2).trans rfl
    have q3 : w5.cell? ⟨g0, 3, none⟩ = some (.int .i64 0) := (B5.cell 3).trans rfl
    have q4 : w5.cell? ⟨g0, 4, none⟩ = some (.slice none 0 0) := (B5.cell 4).trans rfl
    have q5 : w5.cell? ⟨g0, 5, none⟩ = some (.string ⟨#[]⟩) := (B5.cell 5).trans rfl
    have f0 := B5.frozen 0
    have f1 := B5.frozen 1
    have f2 := B5.frozen 2
    have f3 := B5.frozen 3
    have f4 := B5.frozen 4
    have f5 := B5.frozen 5
    have k0 : w5.cell? ⟨g1, 0, none⟩ = some (.int .u64 (dg : Int)) := (C5.cell 0).trans rfl
    have k1 : w5.cell? ⟨g1, 1, none⟩ = some (.int .i64 ln) := (C5.cell 1).trans rfl
    have k2 : w5.cell? ⟨g1, 2, none⟩ = some (.int .i64 by_) := (C5.cell 2).trans rfl
    have k3 : w5.cell? ⟨g1, 3, none⟩ = some (.int .i64 ts) := (C5.cell 3).trans rfl
    have k4 : w5.cell? ⟨g1, 4, none⟩ = some (.slice A n c) := (C5.cell 4).trans rfl
    have k5 : w5.cell? ⟨g1, 5, none⟩ = some (.string l1) := (C5.cell 5).trans rfl
    have HN := Lib.hid (CurHeld.mk (x := xnil) B5 (good_nil _ _) hb5 HGW.out)
    have HH := Lib.hid (CurHeld.mk B5 g5 hb5 HGW.out)
    clear B5 C5 hb5 g5
    cases R with
    | false =>
      have hzn : Z = none := by rw [HZZ.out]; rfl
      have EE := Lib.hid (show E = 5 from by rw [HEE.out, hzn]; rfl)
      have HZN := Lib.hid hzn
      clear hzn HZZ HEE HH
      simp only [if_neg (show ¬ (false = true) by decide)]
      go_wp2
      have H := ((((((HN.out.set 0 (.int .u64 0)).set 1 (.int .i64 0)).set 2 (.int .i64 0)).set 3 (.int .i64 0)).set 4 (.slice none 0 0)).set 5 (.string ⟨#[]⟩))
      refine bodyPost_ret (results_row_tmp rfl _ _ g0 29 _ (0, 0) _ rfl H.blk HU.out rfl (by kernel_rfl)) rfl ?_
      exact ⟨cnil, by rw [EE.out]; rfl, by rw [HZN.out]; rfl, H.good, H.below⟩
    | true =>
      simp only [if_true]
      by_cases hst : S = t
      · subst hst
        have hzn : Z = some ⟨dg, ln, by_, ⟨ts, ls, l1⟩⟩ := by rw [HZZ.out, if_pos rfl, if_pos rfl]
        have EE := Lib.hid (show E = 0 from by rw [HEE.out, hzn]; rfl)
        have HZN := Lib.hid hzn
        clear hzn HZZ HEE HN
        go_wp2
        have H := ((((((HH.out.set 0 (.int .u64 (dg : Int))).set 1 (.int .i64 ln)).set 2 (.int .i64 by_)).set 3 (.int .i64 ts)).set 4 (.slice A n c)).set 5 (.string l1))
        simp only [List.setIfInBounds_toArray, List.set_cons_zero, List.set_cons_succ] at H
        refine bodyPost_ret (results_row_tmp rfl _ _ g0 29 _ (0, 0) _ rfl H.blk HU.out rfl (by kernel_rfl)) rfl ?_
        exact ⟨⟨dg, ln, by_, ⟨ts, A, n, c, ls, l1⟩⟩, by rw [EE.out]; rfl, by rw [HZN.out]; rfl, H.good, H.below⟩
      · have hst2 : ¬ S.toList = t.toList := fun h => hst (text_ext1 (by rw [← Lib.toList_data, ← Lib.toList_data, h]))
        have hst3 : (S.toList == t.toList) = false := by rw [beq_eq_false_iff_ne]; exact hst2
        have hst4 : (!(S.toList == t.toList)) = true := by rw [hst3]; rfl
        have hzn : Z = none := by rw [HZZ.out, if_pos rfl, if_neg hst]
        have EE := Lib.hid (show E = 5 from by rw [HEE.out, hzn]; rfl)
        have HZN := Lib.hid hzn
        clear hzn HZZ HEE HH hst
        go_wp2
        have H := ((((((HN.out.set 0 (.int .u64 0)).set 1 (.int .i64 0)).set 2 (.int .i64 0)).set 3 (.int .i64 0)).set 4 (.slice none 0 0)).set 5 (.string ⟨#[]⟩))
        refine bodyPost_ret (results_row_tmp rfl _ _ g0 29 _ (0, 0) _ rfl H.blk HU.out rfl (by kernel_rfl)) rfl ?_
        exact ⟨cnil, by rw [EE.out]; rfl, by rw [HZN.out]; rfl, H.good, H.below⟩
end Go.Proofs.YtfamcebgcpaolaaGreatDoor
