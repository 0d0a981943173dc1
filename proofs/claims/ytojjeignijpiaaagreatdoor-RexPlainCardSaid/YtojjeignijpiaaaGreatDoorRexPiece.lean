/- One piece: the walk of piece. -/
import Derived.Test.YtojjeignijpiaaaGreatDoorRexAtom
namespace Go.Proofs.YtojjeignijpiaaaGreatDoor
open Go.RowKit
set_option linter.unusedVariables false
set_option linter.unusedSimpArgs false

theorem pieceP_bad {E : List UInt8 → Res NodeT} {l : List UInt8} {k : Nat} (h : atomP E l = .bad k) : pieceP E l = .bad k := by unfold pieceP; rw [h]
theorem pieceP_is {E : List UInt8 → Res NodeT} {l r : List UInt8} {n : NodeT} (h : atomP E l = .ok n r) : pieceP E l = timesP n r := by unfold pieceP; rw [h]
theorem timesP_nil (n : NodeT) : timesP n [] = .ok n [] := rfl
set_option maxRecDepth 100000 in
set_option maxHeartbeats 6400000 in
theorem piece_any (fuel : Nat) (HE : ExprC fuel) (b : Nat) (t : ByteArray) (k o : Nat) (e0 : Int) (c : UInt8) (r : List UInt8) (W : World) (h : Ps W b t k o false e0) (hl : LibF W b) (ho : o ≤ k) (hf : (atL t k).length < fuel + 1) (hat : atL t k = c :: r) :
    Calls Tryz.prog 51 #[.pointer (some ⟨b, 0, none⟩)] W fun e w' => ∃ x j f e1, e = .returned (.agg (nodeC x)) ∧ Ps w' b t j o f e1 ∧ W.grownBy w' (some b) ∧ NodeRes w' W.heap.size t k j (pieceP (exprP fuel true) (atL t k)) x f e1 := by
  have hlt := h.lt
  have hbn : W.heap.size ≠ b := by omega
  have htz := h.sz
  have hkt := h.le
  have hG0 := World.grownBy_alloc W (.cells #[.int .i64 0, .int .u64 0, .int .u64 0, .int .u64 0, .int .u64 0, .int .i64 0, .int .i64 0, .slice none 0 0] 36) (some b)
  have AM := atom_any fuel HE b t k o e0 c r _ (h.alloc (.cells #[.int .i64 0, .int .u64 0, .int .u64 0, .int .u64 0, .int .u64 0, .int .i64 0, .int .i64 0, .slice none 0 0] 36)) (hl.next hG0) ho hf hat
  have hsz0 : (W.alloc (.cells #[.int .i64 0, .int .u64 0, .int .u64 0, .int .u64 0, .int .u64 0, .int .i64 0, .int .i64 0, .slice none 0 0] 36)).heap.size = W.heap.size + 1 := by simp
  rw [hsz0] at AM
  have HK0 := Lib.hid (Blk.new W 36 #[.int .i64 0, .int .u64 0, .int .u64 0, .int .u64 0, .int .u64 0, .int .i64 0, .int .i64 0, .slice none 0 0])
  have HG0 := Lib.hid hG0
  have HS0 := Lib.hid hsz0
  have HL := Lib.hid hl
  obtain ⟨I, hI⟩ : ∃ I, atomP (exprP fuel true) (atL t k) = I := ⟨_, rfl⟩
  rw [hI] at AM
  obtain ⟨J, hJ⟩ : ∃ J, pieceP (exprP fuel true) (atL t k) = J := ⟨_, rfl⟩
  rw [hJ]
  have HI := Lib.hid hI
  have HJ := Lib.hid hJ
  replace AM := Lib.hid AM
  clear h hl hI hJ hG0 hsz0 hf hat HE ho
  go_enter Tryz.func51, Tryz.ntmps51
  go_wp2_with fail
  refine AM.out.mono ?_
  rintro e w1 ⟨x, j, f, e1, rfl, hp, hg, ⟨⟨hgood, hwf⟩, hres⟩⟩
  have hb1 := hp.lt
  have hs1 : W.heap.size < w1.heap.size := by have := hg.size; have := HS0.out; omega
  have hjt := hp.le
  have hxb : w1.heap.size ≠ b := by omega
  have hx0 : W.heap.size ≠ w1.heap.size := by omega
  have HP1 := Lib.hid (hp.alloc (.cells (nodeC x) 36))
  have HG1 := Lib.hid (grown_alloc (World.grownBy.trans HG0.out hg) (.cells (nodeC x) 36))
  have HK1 := Lib.hid ((HK0.out.kept hg hbn).alloc (.cells (nodeC x) 36))
  have HX1 := Lib.hid (new_at w1 36 (nodeC x) w1.heap.size rfl)
  have HGD1 := Lib.hid (hgood.alloc (.cells (nodeC x) 36))
  have AT := Lib.hid (place_any b t j o f e1 _ HP1.out)
  have HWF := Lib.hid hwf
  have HRES := Lib.hid hres
  have hxs : (w1.alloc (.cells (nodeC x) 36)).heap.size = w1.heap.size + 1 := by simp
  have HXS := Lib.hid hxs
  clear hp hg hgood hwf hres AM HG0 HK0 HS0 hxs
  cases I with
  | bad m =>
    obtain ⟨rfl, he1, hkb⟩ := HRES.out
    have HJ2 := Lib.hid (HJ.out.symm.trans (pieceP_bad HI.out))
    have HE1 := Lib.hid he1
    clear HRES he1
    cases hq : atL t j with
    | nil =>
      have PK := Lib.hid (peek0 b t j o true e1 hq _ HP1.out)
      clear hq
      unfold nodeC nodeV
      go_wp2_with fail
      refine AT.out.mono ?_
      rintro e w0 ⟨rfl, rfl⟩
      go_wp2_with fail
      refine PK.out.mono ?_
      rintro e w2 ⟨rfl, qd, hw2⟩
      have VP := Lib.hid (by rw [hw2]; exact HP1.out.drewN qd : Ps w2 b t j o true e1)
      have VG := Lib.hid (by rw [hw2]; exact World.grownBy.trans HG1.out (grown_drew _ _ qd) : W.grownBy w2 (some b))
      have VK := Lib.hid (by rw [hw2]; exact HK1.out.drewN qd : Blk w2 W.heap.size 36 #[.int .i64 0, .int .u64 0, .int .u64 0, .int .u64 0, .int .u64 0, .int .i64 0, .int .i64 0, .slice none 0 0])
      have VX := Lib.hid (by rw [hw2]; exact HX1.out.drewN qd : Blk w2 w1.heap.size 36 (nodeC x))
      have VD := Lib.hid (by rw [hw2]; exact HGD1.out.later (below_drewN (Below.refl _ _) qd) : GoodN w2 (fun g => W.heap.size + 1 ≤ g) x)
      have hs2 : w1.heap.size + 1 ≤ w2.heap.size := by rw [hw2]; have := HXS.out; show w1.heap.size + 1 ≤ (w1.alloc _).heap.size; omega
      clear hw2 AT PK HP1 HG1 HK1 HX1 HGD1
      obtain ⟨⟨a0, a1, a2, a3, a4, a5, a6, a7⟩, _⟩ := node_cells VX.out
      have hk9 := VK.out
      obtain ⟨⟨d0, d1, d2, d3, d4, d5, d6, d7⟩, f0, f1, f2, f3, f4, f5, f6, f7⟩ := nil_cells hk9
      clear hk9
      go_wp2
      refine bodyPost_ret (results_cell_row rfl _ _ W.heap.size 36 (nodeC x) (0, 0) _ rfl (blk_eight VK.out nilX_lit _ _ _ _ _ _ _ _) Tryz.underlying36 rfl (by kernel_rfl)) rfl ?_
      refine ⟨x, _, true, e1, rfl, ps_eight VP.out (Ne.symm hbn) _ _ _ _ _ _ _ _, grown_eight VG.out (Nat.le_refl _) _ _ _ _ _ _ _ _, ?_⟩
      exact ⟨⟨(good_eight2 VD.out (fun q hq e => by omega) _ _ _ _ _ _ _ _).weaken (fun q hq _ => Nat.le_of_succ_le hq), HWF.out⟩, by rw [HJ2.out]; exact ⟨rfl, HE1.out, hkb⟩⟩
    | cons d q =>
      have PK := Lib.hid (peek1 b t j o true e1 d q hq _ HP1.out)
      clear hq
      unfold nodeC nodeV
      go_wp2_with fail
      refine AT.out.mono ?_
      rintro e w0 ⟨rfl, rfl⟩
      go_wp2_with fail
      refine PK.out.mono ?_
      rintro e w2 ⟨rfl, qd, hw2⟩
      have VP := Lib.hid (by rw [hw2]; exact HP1.out.drewN qd : Ps w2 b t j o true e1)
      have VG := Lib.hid (by rw [hw2]; exact World.grownBy.trans HG1.out (grown_drew _ _ qd) : W.grownBy w2 (some b))
      have VK := Lib.hid (by rw [hw2]; exact HK1.out.drewN qd : Blk w2 W.heap.size 36 #[.int .i64 0, .int .u64 0, .int .u64 0, .int .u64 0, .int .u64 0, .int .i64 0, .int .i64 0, .slice none 0 0])
      have VX := Lib.hid (by rw [hw2]; exact HX1.out.drewN qd : Blk w2 w1.heap.size 36 (nodeC x))
      have VD := Lib.hid (by rw [hw2]; exact HGD1.out.later (below_drewN (Below.refl _ _) qd) : GoodN w2 (fun g => W.heap.size + 1 ≤ g) x)
      have hs2 : w1.heap.size + 1 ≤ w2.heap.size := by rw [hw2]; have := HXS.out; show w1.heap.size + 1 ≤ (w1.alloc _).heap.size; omega
      clear hw2 AT PK HP1 HG1 HK1 HX1 HGD1
      have q3 := VP.out.fault
      obtain ⟨⟨a0, a1, a2, a3, a4, a5, a6, a7⟩, _⟩ := node_cells VX.out
      have hk9 := VK.out
      obtain ⟨⟨d0, d1, d2, d3, d4, d5, d6, d7⟩, f0, f1, f2, f3, f4, f5, f6, f7⟩ := nil_cells hk9
      clear hk9
      go_wp2
      refine bodyPost_ret (results_cell_row rfl _ _ W.heap.size 36 (nodeC x) (0, 0) _ rfl (blk_eight VK.out nilX_lit _ _ _ _ _ _ _ _) Tryz.underlying36 rfl (by kernel_rfl)) rfl ?_
      refine ⟨x, _, true, e1, rfl, ps_eight VP.out (Ne.symm hbn) _ _ _ _ _ _ _ _, grown_eight VG.out (Nat.le_refl _) _ _ _ _ _ _ _ _, ?_⟩
      exact ⟨⟨(good_eight2 VD.out (fun q hq e => by omega) _ _ _ _ _ _ _ _).weaken (fun q hq _ => Nat.le_of_succ_le hq), HWF.out⟩, by rw [HJ2.out]; exact ⟨rfl, HE1.out, hkb⟩⟩
  | ok n q0 =>
    obtain ⟨rfl, hxt, hr⟩ := HRES.out
    have HJ1 := Lib.hid (HJ.out.symm.trans (pieceP_is HI.out))
    have HXT := Lib.hid hxt
    clear HRES hxt
    cases q0 with
    | nil =>
      have HJ2 := Lib.hid (HJ1.out.trans (timesP_nil n))
      have HR := Lib.hid hr
      have PK := Lib.hid (peek0 b t j o false e1 hr _ HP1.out)
      clear hr
      unfold nodeC nodeV
      go_wp2_with fail
      refine AT.out.mono ?_
      rintro e w0 ⟨rfl, rfl⟩
      go_wp2_with fail
      refine PK.out.mono ?_
      rintro e w2 ⟨rfl, qd, hw2⟩
      have VP := Lib.hid (by rw [hw2]; exact HP1.out.drewN qd : Ps w2 b t j o false e1)
      have VG := Lib.hid (by rw [hw2]; exact World.grownBy.trans HG1.out (grown_drew _ _ qd) : W.grownBy w2 (some b))
      have VK := Lib.hid (by rw [hw2]; exact HK1.out.drewN qd : Blk w2 W.heap.size 36 #[.int .i64 0, .int .u64 0, .int .u64 0, .int .u64 0, .int .u64 0, .int .i64 0, .int .i64 0, .slice none 0 0])
      have VX := Lib.hid (by rw [hw2]; exact HX1.out.drewN qd : Blk w2 w1.heap.size 36 (nodeC x))
      have VD := Lib.hid (by rw [hw2]; exact HGD1.out.later (below_drewN (Below.refl _ _) qd) : GoodN w2 (fun g => W.heap.size + 1 ≤ g) x)
      have hs2 : w1.heap.size + 1 ≤ w2.heap.size := by rw [hw2]; have := HXS.out; show w1.heap.size + 1 ≤ (w1.alloc _).heap.size; omega
      clear hw2 AT PK HP1 HG1 HK1 HX1 HGD1
      obtain ⟨⟨a0, a1, a2, a3, a4, a5, a6, a7⟩, _⟩ := node_cells VX.out
      have hk9 := VK.out
      obtain ⟨⟨d0, d1, d2, d3, d4, d5, d6, d7⟩, f0, f1, f2, f3, f4, f5, f6, f7⟩ := nil_cells hk9
      clear hk9
      go_wp2
      refine bodyPost_ret (results_cell_row rfl _ _ W.heap.size 36 (nodeC x) (0, 0) _ rfl (blk_eight VK.out nilX_lit _ _ _ _ _ _ _ _) Tryz.underlying36 rfl (by kernel_rfl)) rfl ?_
      refine ⟨x, _, false, e1, rfl, ps_eight VP.out (Ne.symm hbn) _ _ _ _ _ _ _ _, grown_eight VG.out (Nat.le_refl _) _ _ _ _ _ _ _ _, ?_⟩
      exact ⟨⟨(good_eight2 VD.out (fun q hq e => by omega) _ _ _ _ _ _ _ _).weaken (fun q hq _ => Nat.le_of_succ_le hq), HWF.out⟩, by rw [HJ2.out]; exact ⟨rfl, HXT.out, HR.out⟩⟩
    | cons d q =>
      have hj2 := HJ1.out
      rw [timesP_cons] at hj2
      have HR := Lib.hid hr
      have PK := peek1 b t j o false e1 d q hr _ HP1.out
      have NXF := fun w (hp : Ps w b t j o false e1) => next1 b t j o false e1 d q hr w hp
      have hlen : (q.length : Int) + 1 = (t.size : Int) - (j : Int) := by
        have := at_len t j
        rw [hr, List.length_cons] at this
        omega
      have HLEN := Lib.hid hlen
      obtain ⟨m, hm⟩ : ∃ m, d.toNat = m := ⟨_, rfl⟩
      simp only [hm] at PK NXF
      replace PK := Lib.hid PK
      have HNX := Lib.hid NXF
      clear hr NXF hlen
      by_cases h42 : d = 42
      · obtain rfl : m = 42 := by rw [← hm, h42]; rfl
        rw [if_pos h42] at hj2
        have HJ2 := Lib.hid hj2
        clear hm hj2
        unfold nodeC nodeV
        go_wp2_with fail
        refine AT.out.mono ?_
        rintro e w0 ⟨rfl, rfl⟩
        go_wp2_with fail
        refine PK.out.mono ?_
        rintro e w2 ⟨rfl, qd, hw2⟩
        have VP := Lib.hid (by rw [hw2]; exact HP1.out.drewN qd : Ps w2 b t j o false e1)
        have VG := Lib.hid (by rw [hw2]; exact World.grownBy.trans HG1.out (grown_drew _ _ qd) : W.grownBy w2 (some b))
        have VK := Lib.hid (by rw [hw2]; exact HK1.out.drewN qd : Blk w2 W.heap.size 36 #[.int .i64 0, .int .u64 0, .int .u64 0, .int .u64 0, .int .u64 0, .int .i64 0, .int .i64 0, .slice none 0 0])
        have VX := Lib.hid (by rw [hw2]; exact HX1.out.drewN qd : Blk w2 w1.heap.size 36 (nodeC x))
        have VD := Lib.hid (by rw [hw2]; exact HGD1.out.later (below_drewN (Below.refl _ _) qd) : GoodN w2 (fun g => W.heap.size + 1 ≤ g) x)
        have hs2 : w1.heap.size + 1 ≤ w2.heap.size := by rw [hw2]; have := HXS.out; show w1.heap.size + 1 ≤ (w1.alloc _).heap.size; omega
        clear hw2 AT PK HP1 HG1 HK1 HX1 HGD1
        have q3 := VP.out.fault
        have NX := Lib.hid (HNX.out w2 VP.out)
        clear HNX
        go_wp2_with fail
        refine NX.out.mono ?_
        rintro e w3 ⟨rfl, ⟨hp, hr⟩, hg⟩
        have UP := Lib.hid hp
        have UR := Lib.hid hr
        have UG := Lib.hid (World.grownBy.trans VG.out hg)
        have UK := Lib.hid (VK.out.kept hg hbn)
        have UX := Lib.hid (VX.out.kept hg hxb)
        have UD := Lib.hid (VD.out.grown hg (fun q hq e => by injection e with e; omega))
        have UL := Lib.hid (HL.out.next UG.out)
        have hs3 : w1.heap.size < w3.heap.size := by have := hg.size; omega
        clear hp hr hg NX VP VG VK VX VD q3
        have RP := Lib.hid (repeatOf_any x 0 (-1) (fun g => W.heap.size + 1 ≤ g) w3 UD.out)
        unfold nodeC nodeV at RP
        obtain ⟨⟨a0, a1, a2, a3, a4, a5, a6, a7⟩, _⟩ := node_cells UX.out
        go_wp2_with fail
        refine RP.out.mono ?_
        rintro e w4 ⟨y, rfl, hy, hyn, hgy, hx⟩
        have YP := Lib.hid (UP.out.belowS hx)
        have YG := Lib.hid (grown_hop UG.out hx)
        have YK := Lib.hid (UK.out.below hx UK.out.lt)
        have YT := Lib.hid hy
        have YD := Lib.hid hgy
        clear hx hy hyn hgy RP UP UG UK a0 a1 a2 a3 a4 a5 a6 a7
        have hk9 := YK.out
        obtain ⟨⟨d0, d1, d2, d3, d4, d5, d6, d7⟩, f0, f1, f2, f3, f4, f5, f6, f7⟩ := nil_cells hk9
        clear hk9
        go_wp2
        refine bodyPost_ret (results_cell_row rfl _ _ W.heap.size 36 (nodeC y) (0, 0) _ rfl (blk_eight YK.out nilX_lit _ _ _ _ _ _ _ _) Tryz.underlying36 rfl (by kernel_rfl)) rfl ?_
        refine ⟨y, _, false, _, rfl, ps_eight YP.out (Ne.symm hbn) _ _ _ _ _ _ _ _, grown_eight YG.out (Nat.le_refl _) _ _ _ _ _ _ _ _, ?_⟩
        exact ⟨⟨(good_eight2 YD.out (fun q hq e => by omega) _ _ _ _ _ _ _ _).weaken (fun q hq _ => by omega), by rw [YT.out]; exact wf_rep _ _ _⟩, by rw [HJ2.out]; exact ⟨rfl, by rw [YT.out, HXT.out], UR.out⟩⟩
      · rw [if_neg h42] at hj2
        have g42 : ((m : Int) == 42) = false := by
          rw [beq_eq_false_iff_ne]
          intro e
          exact h42 (UInt8.toNat_inj.1 (by rw [hm]; exact Int.ofNat.inj e))
        by_cases h43 : d = 43
        · obtain rfl : m = 43 := by rw [← hm, h43]; rfl
          rw [if_pos h43] at hj2
          have HJ2 := Lib.hid hj2
          clear hm hj2
          unfold nodeC nodeV
          go_wp2_with fail
          refine AT.out.mono ?_
          rintro e w0 ⟨rfl, rfl⟩
          go_wp2_with fail
          refine PK.out.mono ?_
          rintro e w2 ⟨rfl, qd, hw2⟩
          have VP := Lib.hid (by rw [hw2]; exact HP1.out.drewN qd : Ps w2 b t j o false e1)
          have VG := Lib.hid (by rw [hw2]; exact World.grownBy.trans HG1.out (grown_drew _ _ qd) : W.grownBy w2 (some b))
          have VK := Lib.hid (by rw [hw2]; exact HK1.out.drewN qd : Blk w2 W.heap.size 36 #[.int .i64 0, .int .u64 0, .int .u64 0, .int .u64 0, .int .u64 0, .int .i64 0, .int .i64 0, .slice none 0 0])
          have VX := Lib.hid (by rw [hw2]; exact HX1.out.drewN qd : Blk w2 w1.heap.size 36 (nodeC x))
          have VD := Lib.hid (by rw [hw2]; exact HGD1.out.later (below_drewN (Below.refl _ _) qd) : GoodN w2 (fun g => W.heap.size + 1 ≤ g) x)
          have hs2 : w1.heap.size + 1 ≤ w2.heap.size := by rw [hw2]; have := HXS.out; show w1.heap.size + 1 ≤ (w1.alloc _).heap.size; omega
          clear hw2 AT PK HP1 HG1 HK1 HX1 HGD1
          have q3 := VP.out.fault
          have NX := Lib.hid (HNX.out w2 VP.out)
          clear HNX
          go_wp2_with fail
          refine NX.out.mono ?_
          rintro e w3 ⟨rfl, ⟨hp, hr⟩, hg⟩
          have UP := Lib.hid hp
          have UR := Lib.hid hr
          have UG := Lib.hid (World.grownBy.trans VG.out hg)
          have UK := Lib.hid (VK.out.kept hg hbn)
          have UX := Lib.hid (VX.out.kept hg hxb)
          have UD := Lib.hid (VD.out.grown hg (fun q hq e => by injection e with e; omega))
          have UL := Lib.hid (HL.out.next UG.out)
          have hs3 : w1.heap.size < w3.heap.size := by have := hg.size; omega
          clear hp hr hg NX VP VG VK VX VD q3
          have RP := Lib.hid (repeatOf_any x 1 (-1) (fun g => W.heap.size + 1 ≤ g) w3 UD.out)
          unfold nodeC nodeV at RP
          obtain ⟨⟨a0, a1, a2, a3, a4, a5, a6, a7⟩, _⟩ := node_cells UX.out
          go_wp2_with fail
          refine RP.out.mono ?_
          rintro e w4 ⟨y, rfl, hy, hyn, hgy, hx⟩
          have YP := Lib.hid (UP.out.belowS hx)
          have YG := Lib.hid (grown_hop UG.out hx)
          have YK := Lib.hid (UK.out.below hx UK.out.lt)
          have YT := Lib.hid hy
          have YD := Lib.hid hgy
          clear hx hy hyn hgy RP UP UG UK a0 a1 a2 a3 a4 a5 a6 a7
          have hk9 := YK.out
          obtain ⟨⟨d0, d1, d2, d3, d4, d5, d6, d7⟩, f0, f1, f2, f3, f4, f5, f6, f7⟩ := nil_cells hk9
          clear hk9
          go_wp2
          refine bodyPost_ret (results_cell_row rfl _ _ W.heap.size 36 (nodeC y) (0, 0) _ rfl (blk_eight YK.out nilX_lit _ _ _ _ _ _ _ _) Tryz.underlying36 rfl (by kernel_rfl)) rfl ?_
          refine ⟨y, _, false, _, rfl, ps_eight YP.out (Ne.symm hbn) _ _ _ _ _ _ _ _, grown_eight YG.out (Nat.le_refl _) _ _ _ _ _ _ _ _, ?_⟩
          exact ⟨⟨(good_eight2 YD.out (fun q hq e => by omega) _ _ _ _ _ _ _ _).weaken (fun q hq _ => by omega), by rw [YT.out]; exact wf_rep _ _ _⟩, by rw [HJ2.out]; exact ⟨rfl, by rw [YT.out, HXT.out], UR.out⟩⟩
        · rw [if_neg h43] at hj2
          have g43 : ((m : Int) == 43) = false := by
            rw [beq_eq_false_iff_ne]
            intro e
            exact h43 (UInt8.toNat_inj.1 (by rw [hm]; exact Int.ofNat.inj e))
          by_cases h63 : d = 63
          · obtain rfl : m = 63 := by rw [← hm, h63]; rfl
            rw [if_pos h63] at hj2
            have HJ2 := Lib.hid hj2
            clear hm hj2
            unfold nodeC nodeV
            go_wp2_with fail
            refine AT.out.mono ?_
            rintro e w0 ⟨rfl, rfl⟩
            go_wp2_with fail
            refine PK.out.mono ?_
            rintro e w2 ⟨rfl, qd, hw2⟩
            have VP := Lib.hid (by rw [hw2]; exact HP1.out.drewN qd : Ps w2 b t j o false e1)
            have VG := Lib.hid (by rw [hw2]; exact World.grownBy.trans HG1.out (grown_drew _ _ qd) : W.grownBy w2 (some b))
            have VK := Lib.hid (by rw [hw2]; exact HK1.out.drewN qd : Blk w2 W.heap.size 36 #[.int .i64 0, .int .u64 0, .int .u64 0, .int .u64 0, .int .u64 0, .int .i64 0, .int .i64 0, .slice none 0 0])
            have VX := Lib.hid (by rw [hw2]; exact HX1.out.drewN qd : Blk w2 w1.heap.size 36 (nodeC x))
            have VD := Lib.hid (by rw [hw2]; exact HGD1.out.later (below_drewN (Below.refl _ _) qd) : GoodN w2 (fun g => W.heap.size + 1 ≤ g) x)
            have hs2 : w1.heap.size + 1 ≤ w2.heap.size := by rw [hw2]; have := HXS.out; show w1.heap.size + 1 ≤ (w1.alloc _).heap.size; omega
            clear hw2 AT PK HP1 HG1 HK1 HX1 HGD1
            have q3 := VP.out.fault
            have NX := Lib.hid (HNX.out w2 VP.out)
            clear HNX
            go_wp2_with fail
            refine NX.out.mono ?_
            rintro e w3 ⟨rfl, ⟨hp, hr⟩, hg⟩
            have UP := Lib.hid hp
            have UR := Lib.hid hr
            have UG := Lib.hid (World.grownBy.trans VG.out hg)
            have UK := Lib.hid (VK.out.kept hg hbn)
            have UX := Lib.hid (VX.out.kept hg hxb)
            have UD := Lib.hid (VD.out.grown hg (fun q hq e => by injection e with e; omega))
            have UL := Lib.hid (HL.out.next UG.out)
            have hs3 : w1.heap.size < w3.heap.size := by have := hg.size; omega
            clear hp hr hg NX VP VG VK VX VD q3
            have RP := Lib.hid (repeatOf_any x 0 1 (fun g => W.heap.size + 1 ≤ g) w3 UD.out)
            unfold nodeC nodeV at RP
            obtain ⟨⟨a0, a1, a2, a3, a4, a5, a6, a7⟩, _⟩ := node_cells UX.out
            go_wp2_with fail
            refine RP.out.mono ?_
            rintro e w4 ⟨y, rfl, hy, hyn, hgy, hx⟩
            have YP := Lib.hid (UP.out.belowS hx)
            have YG := Lib.hid (grown_hop UG.out hx)
            have YK := Lib.hid (UK.out.below hx UK.out.lt)
            have YT := Lib.hid hy
            have YD := Lib.hid hgy
            clear hx hy hyn hgy RP UP UG UK a0 a1 a2 a3 a4 a5 a6 a7
            have hk9 := YK.out
            obtain ⟨⟨d0, d1, d2, d3, d4, d5, d6, d7⟩, f0, f1, f2, f3, f4, f5, f6, f7⟩ := nil_cells hk9
            clear hk9
            go_wp2
            refine bodyPost_ret (results_cell_row rfl _ _ W.heap.size 36 (nodeC y) (0, 0) _ rfl (blk_eight YK.out nilX_lit _ _ _ _ _ _ _ _) Tryz.underlying36 rfl (by kernel_rfl)) rfl ?_
            refine ⟨y, _, false, _, rfl, ps_eight YP.out (Ne.symm hbn) _ _ _ _ _ _ _ _, grown_eight YG.out (Nat.le_refl _) _ _ _ _ _ _ _ _, ?_⟩
            exact ⟨⟨(good_eight2 YD.out (fun q hq e => by omega) _ _ _ _ _ _ _ _).weaken (fun q hq _ => by omega), by rw [YT.out]; exact wf_rep _ _ _⟩, by rw [HJ2.out]; exact ⟨rfl, by rw [YT.out, HXT.out], UR.out⟩⟩
          · rw [if_neg h63] at hj2
            have g63 : ((m : Int) == 63) = false := by
              rw [beq_eq_false_iff_ne]
              intro e
              exact h63 (UInt8.toNat_inj.1 (by rw [hm]; exact Int.ofNat.inj e))
            by_cases h123 : d = 123
            · obtain rfl : m = 123 := by rw [← hm, h123]; rfl
              rw [if_pos h123] at hj2
              clear hm
              unfold nodeC nodeV
              go_wp2_with fail
              refine AT.out.mono ?_
              rintro e w0 ⟨rfl, rfl⟩
              go_wp2_with fail
              refine PK.out.mono ?_
              rintro e w2 ⟨rfl, qd, hw2⟩
              have VP := Lib.hid (by rw [hw2]; exact HP1.out.drewN qd : Ps w2 b t j o false e1)
              have VG := Lib.hid (by rw [hw2]; exact World.grownBy.trans HG1.out (grown_drew _ _ qd) : W.grownBy w2 (some b))
              have VK := Lib.hid (by rw [hw2]; exact HK1.out.drewN qd : Blk w2 W.heap.size 36 #[.int .i64 0, .int .u64 0, .int .u64 0, .int .u64 0, .int .u64 0, .int .i64 0, .int .i64 0, .slice none 0 0])
              have VX := Lib.hid (by rw [hw2]; exact HX1.out.drewN qd : Blk w2 w1.heap.size 36 (nodeC x))
              have VD := Lib.hid (by rw [hw2]; exact HGD1.out.later (below_drewN (Below.refl _ _) qd) : GoodN w2 (fun g => W.heap.size + 1 ≤ g) x)
              have hs2 : w1.heap.size + 1 ≤ w2.heap.size := by rw [hw2]; have := HXS.out; show w1.heap.size + 1 ≤ (w1.alloc _).heap.size; omega
              clear hw2 AT PK HP1 HG1 HK1 HX1 HGD1
              have q3 := VP.out.fault
              have NX := Lib.hid (HNX.out w2 VP.out)
              clear HNX
              go_wp2_with fail
              refine NX.out.mono ?_
              rintro e w3 ⟨rfl, ⟨hp, hr⟩, hg⟩
              have UP := Lib.hid hp
              have UR := Lib.hid hr
              have UG := Lib.hid (World.grownBy.trans VG.out hg)
              have UK := Lib.hid (VK.out.kept hg hbn)
              have UX := Lib.hid (VX.out.kept hg hxb)
              have UD := Lib.hid (VD.out.grown hg (fun q hq e => by injection e with e; omega))
              have UL := Lib.hid (HL.out.next UG.out)
              have hs3 : w1.heap.size < w3.heap.size := by have := hg.size; omega
              clear hp hr hg NX VP VG VK VX VD q3
              have BD := bounds_any b t (j + 1) o false e1 w3 UP.out UL.out
              rw [UR.out] at BD
              replace BD := Lib.hid BD
              go_wp2_with fail
              refine BD.out.mono ?_
              rintro e w4 ⟨lo, hi, ok, j4, rfl, hp, hg, hpost⟩
              have XP := Lib.hid hp
              have XG := Lib.hid (World.grownBy.trans UG.out hg)
              have XK := Lib.hid (UK.out.kept hg hbn)
              have XX := Lib.hid (UX.out.kept hg hxb)
              have XD := Lib.hid (UD.out.grown hg (fun q hq e => by injection e with e; omega))
              have HPO := Lib.hid hpost
              have hs4 : w1.heap.size < w4.heap.size := by have := hg.size; omega
              clear hp hg hpost BD UP UG UK UX UD UL
              cases hbd : boundsP q with
              | none =>
                have hpost := HPO.out
                rw [hbd] at hpost hj2
                obtain rfl : ok = false := hpost
                have HJ2 := Lib.hid hj2
                have FL := Lib.hid (fail_any b (j : Int) t j4 o false e1 w4 XP.out)
                clear hbd HPO hj2
                go_wp2_with fail
                refine FL.out.mono ?_
                rintro e w5 ⟨rfl, hp, hg⟩
                have YP := Lib.hid (show Ps w5 b t j4 o true (j : Int) from hp)
                have YG := Lib.hid (World.grownBy.trans XG.out hg)
                have YK := Lib.hid (XK.out.kept hg hbn)
                clear hp hg FL XP XG XK XX XD
                try unfold nilC
                have hk9 := YK.out
                obtain ⟨⟨d0, d1, d2, d3, d4, d5, d6, d7⟩, f0, f1, f2, f3, f4, f5, f6, f7⟩ := nil_cells hk9
                clear hk9
                go_wp2
                refine bodyPost_ret (results_cell_row rfl _ _ W.heap.size 36 nilC (0, 0) _ rfl (blk_eight YK.out nilX_lit _ _ _ _ _ _ _ _) Tryz.underlying36 rfl (by kernel_rfl)) rfl ?_
                refine ⟨nilX, _, true, _, rfl, ps_eight YP.out (Ne.symm hbn) _ _ _ _ _ _ _ _, grown_eight YG.out (Nat.le_refl _) _ _ _ _ _ _ _ _, ?_⟩
                exact ⟨⟨GoodN.nil _ _, wf_nil⟩, by rw [HJ2.out]; exact ⟨rfl, by rw [List.length_cons]; have := HLEN.out; omega, by show 0 + k ≤ t.size; omega⟩⟩
              | some y0 =>
                obtain ⟨a', b', r'⟩ := y0
                have hpost := HPO.out
                rw [hbd] at hpost hj2
                obtain ⟨rfl, rfl, rfl, hr'⟩ := hpost
                have HJ2 := Lib.hid hj2
                have XR := Lib.hid hr'
                clear hbd HPO hj2 hr'
                have RP := Lib.hid (repeatOf_any x lo hi (fun g => W.heap.size + 1 ≤ g) w4 XD.out)
                unfold nodeC nodeV at RP
                obtain ⟨⟨a0, a1, a2, a3, a4, a5, a6, a7⟩, _⟩ := node_cells XX.out
                go_wp2_with fail
                refine RP.out.mono ?_
                rintro e w5 ⟨y, rfl, hy, hyn, hgy, hx⟩
                have YP := Lib.hid (XP.out.belowS hx)
                have YG := Lib.hid (grown_hop XG.out hx)
                have YK := Lib.hid (XK.out.below hx XK.out.lt)
                have YT := Lib.hid hy
                have YD := Lib.hid hgy
                clear hx hy hyn hgy RP XP XG XK a0 a1 a2 a3 a4 a5 a6 a7
                have hk9 := YK.out
                obtain ⟨⟨d0, d1, d2, d3, d4, d5, d6, d7⟩, f0, f1, f2, f3, f4, f5, f6, f7⟩ := nil_cells hk9
                clear hk9
                go_wp2
                refine bodyPost_ret (results_cell_row rfl _ _ W.heap.size 36 (nodeC y) (0, 0) _ rfl (blk_eight YK.out nilX_lit _ _ _ _ _ _ _ _) Tryz.underlying36 rfl (by kernel_rfl)) rfl ?_
                refine ⟨y, _, false, _, rfl, ps_eight YP.out (Ne.symm hbn) _ _ _ _ _ _ _ _, grown_eight YG.out (Nat.le_refl _) _ _ _ _ _ _ _ _, ?_⟩
                exact ⟨⟨(good_eight2 YD.out (fun q hq e => by omega) _ _ _ _ _ _ _ _).weaken (fun q hq _ => by omega), by rw [YT.out]; exact wf_rep _ _ _⟩, by rw [HJ2.out]; exact ⟨rfl, by rw [YT.out, HXT.out], XR.out⟩⟩
            · rw [if_neg h123] at hj2
              have g123 : ((m : Int) == 123) = false := by
                rw [beq_eq_false_iff_ne]
                intro e
                exact h123 (UInt8.toNat_inj.1 (by rw [hm]; exact Int.ofNat.inj e))
              have HJ2 := Lib.hid hj2
              clear hm hj2 HNX
              unfold nodeC nodeV
              go_wp2_with fail
              refine AT.out.mono ?_
              rintro e w0 ⟨rfl, rfl⟩
              go_wp2_with fail
              refine PK.out.mono ?_
              rintro e w2 ⟨rfl, qd, hw2⟩
              have VP := Lib.hid (by rw [hw2]; exact HP1.out.drewN qd : Ps w2 b t j o false e1)
              have VG := Lib.hid (by rw [hw2]; exact World.grownBy.trans HG1.out (grown_drew _ _ qd) : W.grownBy w2 (some b))
              have VK := Lib.hid (by rw [hw2]; exact HK1.out.drewN qd : Blk w2 W.heap.size 36 #[.int .i64 0, .int .u64 0, .int .u64 0, .int .u64 0, .int .u64 0, .int .i64 0, .int .i64 0, .slice none 0 0])
              have VX := Lib.hid (by rw [hw2]; exact HX1.out.drewN qd : Blk w2 w1.heap.size 36 (nodeC x))
              have VD := Lib.hid (by rw [hw2]; exact HGD1.out.later (below_drewN (Below.refl _ _) qd) : GoodN w2 (fun g => W.heap.size + 1 ≤ g) x)
              have hs2 : w1.heap.size + 1 ≤ w2.heap.size := by rw [hw2]; have := HXS.out; show w1.heap.size + 1 ≤ (w1.alloc _).heap.size; omega
              clear hw2 AT PK HP1 HG1 HK1 HX1 HGD1
              have q3 := VP.out.fault
              obtain ⟨⟨a0, a1, a2, a3, a4, a5, a6, a7⟩, _⟩ := node_cells VX.out
              have hk9 := VK.out
              obtain ⟨⟨d0, d1, d2, d3, d4, d5, d6, d7⟩, f0, f1, f2, f3, f4, f5, f6, f7⟩ := nil_cells hk9
              clear hk9
              go_wp2
              refine bodyPost_ret (results_cell_row rfl _ _ W.heap.size 36 (nodeC x) (0, 0) _ rfl (blk_eight VK.out nilX_lit _ _ _ _ _ _ _ _) Tryz.underlying36 rfl (by kernel_rfl)) rfl ?_
              refine ⟨x, _, false, e1, rfl, ps_eight VP.out (Ne.symm hbn) _ _ _ _ _ _ _ _, grown_eight VG.out (Nat.le_refl _) _ _ _ _ _ _ _ _, ?_⟩
              exact ⟨⟨(good_eight2 VD.out (fun q hq e => by omega) _ _ _ _ _ _ _ _).weaken (fun q hq _ => Nat.le_of_succ_le hq), HWF.out⟩, by rw [HJ2.out]; exact ⟨rfl, HXT.out, HR.out⟩⟩
end Go.Proofs.YtojjeignijpiaaaGreatDoor
