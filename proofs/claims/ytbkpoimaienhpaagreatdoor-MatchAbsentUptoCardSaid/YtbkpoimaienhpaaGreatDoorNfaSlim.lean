-- shaken
import Derived.Test.YtbkpoimaienhpaaGreatDoorNfaStep
import Derived.Test.YtbkpoimaienhpaaGreatDoorRexParse
import Derived.Laws.MakeOwn
namespace Go.Proofs.YtbkpoimaienhpaaGreatDoor
open Go.RowKit
set_option linter.unusedVariables false
set_option linter.unusedSimpArgs false
def SlimC (x : NodeX) : Prop := ∀ (P : Nat → Prop) (W : World), GoodN W P x → WF x.t → Calls Tryz.prog 60 #[.agg (nodeC x)] W fun e w' => ∃ y, e = .returned (.agg (nodeC y)) ∧ y.t = slimT x.t ∧ GoodN w' (fun q => P q ∨ W.heap.size ≤ q) y ∧ Below W.heap.size W w'
def GoodR (P : Nat → Prop) (B : Nat) (w : World) (v : Value) (l : List NodeX) : Prop := ∀ x, x ∈ l → GoodN w (fun g => ((P g ∧ g < B) ∨ B + 2 ≤ g) ∧ ¬ some g = v.ownBlock) x
theorem goodR_next {P : Nat → Prop} {B : Nat} {wr w0 w1 w2 w4 : World} {v v' : Value} {l : List NodeX} {y : NodeX} {o : Obj} {tt : TypeId} (h : GoodR P B wr v l) (ho : OwnR nodeV 8 wr (B + 2) tt v l) (hB : B + 2 ≤ wr.heap.size) (h01 : w0.heap.size = wr.heap.size + 1) (hb : Below wr.heap.size wr w1) (hs1 : w0.heap.size ≤ w1.heap.size) (hy : GoodN w1 (fun g => (P g ∧ g < B) ∨ w0.heap.size ≤ g) y)
    (h12 : ∀ g, g ≠ wr.heap.size → w2.heap[g]? = w1.heap[g]?) (hs2 : w2.heap.size = w1.heap.size) (hgrow : (w2.alloc o).grownBy w4 v.ownBlock) (hw : v'.ownBlock = v.ownBlock ∨ v'.ownBlock = some (w2.heap.size + 1)) : GoodR P B w4 v' (l ++ [y]) := by
  have hlt : ∀ r, v.ownBlock = some r → B + 2 ≤ r ∧ r < wr.heap.size := fun r hr => World.ownsRow.lt ho r hr
  have key : ∀ z, GoodN w2 (fun g => ((P g ∧ g < B) ∨ B + 2 ≤ g) ∧ ¬ some g = v.ownBlock) z → GoodN w4 (fun g => ((P g ∧ g < B) ∨ B + 2 ≤ g) ∧ ¬ some g = v'.ownBlock) z := fun z hz => by
    have h1 : GoodN w2 (fun g => (((P g ∧ g < B) ∨ B + 2 ≤ g) ∧ ¬ some g = v.ownBlock) ∧ g < w2.heap.size) z := hz.weaken (fun g hq hl => ⟨hq, hl⟩)
    have h2 := (h1.alloc o).grown hgrow (fun g hq => hq.1.2)
    refine h2.weaken (fun g hq _ => ⟨hq.1.1, fun e => ?_⟩)
    rcases hw with h3 | h3
    · rw [h3] at e; exact hq.1.2 e
    · rw [h3] at e
      injection e with e
      have := hq.2
      omega
  intro z hz
  rcases List.mem_append.1 hz with h1 | h1
  · refine key z ((h z h1).frame (by rw [hs2]; exact hb.size) (fun g _ hg => ?_))
    rw [h12 g (by omega)]
    exact hb.block g hg
  · rw [List.mem_singleton] at h1
    subst h1
    have h3 : GoodN w1 (fun g => ((P g ∧ g < B) ∨ w0.heap.size ≤ g) ∧ g < w1.heap.size) z := hy.weaken (fun g hq hl => ⟨hq, hl⟩)
    have h4 : GoodN w2 (fun g => ((P g ∧ g < B) ∨ w0.heap.size ≤ g) ∧ g < w1.heap.size) z := h3.frame (by omega) (fun g hq hg => h12 g (by
      rcases hq.1 with h5 | h5
      · have := h5.2; omega
      · omega))
    refine key z (h4.weaken (fun g hq _ => ⟨?_, fun e => ?_⟩))
    · rcases hq.1 with h5 | h5
      · exact .inl h5
      · exact .inr (by omega)
    · have h6 := hlt g e.symm
      rcases hq.1 with h5 | h5
      · have := h5.2; omega
      · omega
theorem GoodR.row {P : Nat → Prop} {B : Nat} {w w2 : World} {v : Value} {l : List NodeX} (h : GoodR P B w v l) (hs : w.heap.size ≤ w2.heap.size) (hb : ∀ g, g ≠ B + 1 → w2.heap[g]? = w.heap[g]?) : ∀ x, x ∈ l → GoodN w2 (fun q => P q ∨ B ≤ q) x := fun x hx =>
  ((h x hx).frame hs (fun g hq _ => hb g (by
    rcases hq.1 with h1 | h1
    · have := h1.2; omega
    · omega))).weaken (fun g hq _ => by
    rcases hq.1 with h1 | h1
    · exact .inl h1.1
    · exact .inr (by omega))
theorem slimK_map {l : List NodeX} {L : List NodeX} {j : Nat} {x y : NodeX} (hj : l[j]? = some x) (hy : y.t = slimT x.t) (hL : L.map NodeX.t = slimK (l.map NodeX.t) j) : (if y.kind = 0 then L else L ++ [y]).map NodeX.t = slimK (l.map NodeX.t) (j + 1) := by
  have hlt : j < l.length := (List.getElem?_eq_some_iff.1 hj).1
  have hx : (l.map NodeX.t)[j]'(by simpa using hlt) = x.t := by
    rw [List.getElem_map]
    congr 1
    rw [List.getElem?_eq_getElem hlt] at hj
    exact Option.some.inj hj
  rw [slimK_succ (by simpa using hlt), hx, ← hy, ← hL]
  have e : nilK y.t = (y.kind == 0) := by unfold nilK; rw [NodeX.t_kind]
  rw [e]
  by_cases h0 : y.kind = 0
  · simp [h0]
  · simp [h0, beq_eq_false_iff_ne.2 h0]
theorem slimA_map {l : List NodeX} {L : List NodeX} {j : Nat} {x y : NodeX} (hj : l[j]? = some x) (hy : y.t = slimT x.t) (hL : L.map NodeX.t = slimA (l.map NodeX.t) j) : (L ++ [y]).map NodeX.t = slimA (l.map NodeX.t) (j + 1) := by
  have hlt : j < l.length := (List.getElem?_eq_some_iff.1 hj).1
  have hx : (l.map NodeX.t)[j]'(by simpa using hlt) = x.t := by
    rw [List.getElem_map]
    congr 1
    rw [List.getElem?_eq_getElem hlt] at hj
    exact Option.some.inj hj
  rw [slimA_succ (by simpa using hlt), hx, ← hy, ← hL, List.map_append]
  rfl
theorem map_len {L : List NodeX} {M : List NodeT} (h : L.map NodeX.t = M) : L.length = M.length := by rw [← h, List.length_map]
theorem blk_far8 {w : World} {g q : Nat} {t : TypeId} {cs : Array Value} (h : Blk w q t cs) (hq : q ≠ g) (x0 x1 x2 x3 x4 x5 x6 x7 : Value) : Blk ((((((((w.setCell ⟨g, 0, none⟩ x0).setCell ⟨g, 1, none⟩ x1).setCell ⟨g, 2, none⟩ x2).setCell ⟨g, 3, none⟩ x3).setCell ⟨g, 4, none⟩ x4).setCell ⟨g, 5, none⟩ x5).setCell ⟨g, 6, none⟩ x6).setCell ⟨g, 7, none⟩ x7) q t cs := (far_eight hq _ _ _ _ _ _ _ _).trans h
theorem own_far8 {w : World} {g B ty : Nat} {v : Value} {l : List NodeX} (h : OwnR nodeV 8 w B ty v l) (hq : ∀ k, v.ownBlock = some k → k ≠ g) (x0 x1 x2 x3 x4 x5 x6 x7 : Value) : OwnR nodeV 8 ((((((((w.setCell ⟨g, 0, none⟩ x0).setCell ⟨g, 1, none⟩ x1).setCell ⟨g, 2, none⟩ x2).setCell ⟨g, 3, none⟩ x3).setCell ⟨g, 4, none⟩ x4).setCell ⟨g, 5, none⟩ x5).setCell ⟨g, 6, none⟩ x6).setCell ⟨g, 7, none⟩ x7) B ty v l := by
  refine ⟨h.1, ?_⟩
  rcases h.2 with h0 | ⟨g2, cap, cur, rfl, hg, hh, x⟩
  · exact .inl h0
  · exact .inr ⟨g2, cap, cur, rfl, hg, (far_eight (hq g2 rfl) _ _ _ _ _ _ _ _).trans hh, x⟩
theorem nodeC_is (y : NodeX) : nodeC y = #[.int .i64 y.kind, .int .u64 (word y.set 0 : Nat), .int .u64 (word y.set 1 : Nat), .int .u64 (word y.set 2 : Nat), .int .u64 (word y.set 3 : Nat), .int .i64 y.mn, .int .i64 y.mx, .slice y.A y.n y.c] := rfl
def eight (w : World) (g : Nat) (y : NodeX) : World := ((((((((w.setCell ⟨g, 0, none⟩ (.int .i64 y.kind)).setCell ⟨g, 1, none⟩ (.int .u64 (word y.set 0 : Nat))).setCell ⟨g, 2, none⟩ (.int .u64 (word y.set 1 : Nat))).setCell ⟨g, 3, none⟩ (.int .u64 (word y.set 2 : Nat))).setCell ⟨g, 4, none⟩ (.int .u64 (word y.set 3 : Nat))).setCell ⟨g, 5, none⟩ (.int .i64 y.mn)).setCell ⟨g, 6, none⟩ (.int .i64 y.mx)).setCell ⟨g, 7, none⟩ (.slice y.A y.n y.c))
theorem eight_size (w : World) (g : Nat) (y : NodeX) : (eight w g y).heap.size = w.heap.size := by unfold eight; simp
theorem eight_far {w : World} {g q : Nat} (hq : q ≠ g) (y : NodeX) : (eight w g y).heap[q]? = w.heap[q]? := far_eight hq _ _ _ _ _ _ _ _
theorem eight_blk {w : World} {g : Nat} {t : TypeId} {z : NodeX} (h : Blk w g t (nodeC z)) (y : NodeX) : Blk (eight w g y) g t (nodeC y) := put8_blk h y
def CatR (P : Nat → Prop) (W : World) (X : NodeX) (xl : List NodeX) (j : Nat) (v : Value) (wr : World) : Prop := ∃ L : List NodeX, OwnR nodeV 8 wr (W.heap.size + 2) 97 v L ∧ GoodR P W.heap.size wr v L ∧ L.map NodeX.t = slimK (xl.map NodeX.t) j ∧ Below W.heap.size W wr ∧ W.heap.size + 2 ≤ wr.heap.size ∧ Blk wr W.heap.size 97 (nodeC X) ∧ Blk wr (W.heap.size + 1) 97 (nodeC nilX)
set_option maxRecDepth 100000 in
set_option maxHeartbeats 1600000 in
theorem slimCat_any (x : NodeX) (hkind : x.kind = 4) (HS : ∀ y, y ∈ x.kids → SlimC y) (P : Nat → Prop) (W : World) (hx : GoodN W P x) (hwf : ∀ y, y ∈ x.kids → WF y.t) :
    Calls Tryz.prog 83 #[.agg (nodeC x)] W fun e w' => ∃ y, e = .returned (.agg (nodeC y)) ∧ y.t = slimT (.mk 4 0 0 0 (x.kids.map NodeX.t)) ∧ GoodN w' (fun q => P q ∨ W.heap.size ≤ q) y ∧ Below W.heap.size W w' := by
  obtain ⟨i0, hi, hz0, hz1, hz2⟩ := info_parts infoNode
  have K0 := (Blk.new W 97 (nodeC x)).alloc (.cells #[.int .i64 0, .int .u64 0, .int .u64 0, .int .u64 0, .int .u64 0, .int .i64 0, .int .i64 0, .slice none 0 0] 97)
  have K1 : Blk ((W.alloc (.cells (nodeC x) 97)).alloc (.cells #[.int .i64 0, .int .u64 0, .int .u64 0, .int .u64 0, .int .u64 0, .int .i64 0, .int .i64 0, .slice none 0 0] 97)) (W.heap.size + 1) 97 (nodeC nilX) := new_at _ _ _ _ (by simp)
  obtain ⟨⟨a0, a1, a2, a3, a4, a5, a6, a7⟩, _⟩ := node_cells K0
  have hPP : GoodN W (fun g => P g ∧ g < W.heap.size) x := hx.weaken (fun g h1 h2 => ⟨h1, h2⟩)
  have hrow := hPP.row
  have hkid := fun z hz => hPP.kid (y := z) hz
  have hmx := hx.lenM
  have hBB : Below W.heap.size W ((W.alloc (.cells (nodeC x) 97)).alloc (.cells #[.int .i64 0, .int .u64 0, .int .u64 0, .int .u64 0, .int .u64 0, .int .i64 0, .int .i64 0, .slice none 0 0] 97)) := ((Below.refl _ _).alloc (Nat.le_refl _) _).alloc (by simp) _
  have hSZ : ((W.alloc (.cells (nodeC x) 97)).alloc (.cells #[.int .i64 0, .int .u64 0, .int .u64 0, .int .u64 0, .int .u64 0, .int .i64 0, .int .i64 0, .slice none 0 0] 97)).heap.size = W.heap.size + 2 := by simp
  have HK0 := Lib.hid K0
  have HK1 := Lib.hid K1
  have HBB := Lib.hid hBB
  have HSZ := Lib.hid hSZ
  clear K0 K1 hPP hBB hSZ hx
  obtain ⟨xk, xs, xm, xx, xA, xn, xc, xl⟩ := x
  simp only [NodeX.kind, NodeX.set, NodeX.mn, NodeX.mx, NodeX.A, NodeX.n, NodeX.c, NodeX.kids] at hrow hkid a0 a1 a2 a3 a4 a5 a6 a7 hmx HS hwf hkind ⊢
  subst hkind
  have hl := hrow.1
  have HR := Lib.hid hrow
  have HKID := Lib.hid hkid
  have HSS := Lib.hid HS
  have HWF := Lib.hid hwf
  clear hrow hkid HS hwf
  have HSC := Lib.hid (slim_cat (xl.map NodeX.t))
  have hll : (xl.map NodeX.t).length = xn := by rw [List.length_map]; exact hl
  go_enter Tryz.func83, Tryz.ntmps83
  go_wp2
  go_loopw [3, 9] (fun v iv wr => ∃ (j : Nat), j ≤ xn ∧ iv = .int .i64 (j : Nat) ∧ CatR P W (NodeX.mk 4 xs xm xx xA xn xc xl) xl j v wr) (fun _ iv _ => xn - (intOf iv).toNat)
  case atStart =>
    exact ⟨0, Nat.zero_le _, rfl, [], OwnR.nil _ _ _, (fun x hx => by cases hx), rfl, HBB.out, by rw [HSZ.out]; exact Nat.le_refl _, HK0.out, HK1.out⟩
  case round =>
    obtain ⟨j, hj, rfl, L, ho, hgr, hm, hb, hS, hk⟩ := hrel
    have HO := Lib.hid ho
    have HGR := Lib.hid hgr
    have HM := Lib.hid hm
    have HB := Lib.hid hb
    have HK := Lib.hid hk
    have hLl : L.length ≤ j := by rw [map_len hm]; exact slimK_len _ _
    clear ho hgr hm hb hk HK0 HK1 HBB HSZ
    by_cases h : j < xn
    · obtain ⟨Av, cv, hv⟩ := own_shape HO.out
      subst hv
      have hWr : W.heap.size ≤ wr.heap.size := by omega
      clear a0 a1 a2 a3 a4 a5 a6 a7
      have hI : (j : Int) < xn := by omega
      obtain ⟨b, off, rfl, hlt, hc⟩ := HR.out.2 (by omega)
      obtain ⟨z, hp⟩ : ∃ z, xl[j]? = some z := ⟨xl[j], List.getElem?_eq_getElem (by omega)⟩
      have hzm := List.mem_of_getElem? hp
      have c0 := (HB.out.cell (p := ⟨b, off + j * 8 + 0, none⟩) hlt).trans (hc j 0 _ hp (by decide))
      have c1 := (HB.out.cell (p := ⟨b, off + j * 8 + 1, none⟩) hlt).trans (hc j 1 _ hp (by decide))
      have c2 := (HB.out.cell (p := ⟨b, off + j * 8 + 2, none⟩) hlt).trans (hc j 2 _ hp (by decide))
      have c3 := (HB.out.cell (p := ⟨b, off + j * 8 + 3, none⟩) hlt).trans (hc j 3 _ hp (by decide))
      have c4 := (HB.out.cell (p := ⟨b, off + j * 8 + 4, none⟩) hlt).trans (hc j 4 _ hp (by decide))
      have c5 := (HB.out.cell (p := ⟨b, off + j * 8 + 5, none⟩) hlt).trans (hc j 5 _ hp (by decide))
      have c6 := (HB.out.cell (p := ⟨b, off + j * 8 + 6, none⟩) hlt).trans (hc j 6 _ hp (by decide))
      have c7 := (HB.out.cell (p := ⟨b, off + j * 8 + 7, none⟩) hlt).trans (hc j 7 _ hp (by decide))
      rw [Nat.add_zero] at c0
      simp only [nodeV, List.getElem?_cons_zero, List.getElem?_cons_succ] at c0 c1 c2 c3 c4 c5 c6 c7
      have hgz : GoodN wr (fun g => P g ∧ g < W.heap.size) z := (HKID.out z hzm).frame HB.out.size (fun g hq hg => HB.out.block g hg)
      have KC := Blk.new wr 97 (nodeC z)
      have SC := Lib.hid (HSS.out z hzm (fun g => P g ∧ g < W.heap.size) (wr.alloc (.cells (nodeC z) 97)) (hgz.alloc _) (HWF.out z hzm))
      obtain ⟨⟨d0, d1, d2, d3, d4, d5, d6, d7⟩, _⟩ := node_cells KC
      have HKC := Lib.hid KC
      have HP := Lib.hid hp
      clear KC hc hgz hzm
      go_wp2_with fail
      refine SC.out.mono ?_
      rintro e w1 ⟨y, rfl, hyt, hyg, hb1⟩
      rw [nodeC_is y]
      clear SC d0 d1 d2 d3 d4 d5 d6 d7 c0 c1 c2 c3 c4 c5 c6 c7
      have hs0 : (wr.alloc (.cells (nodeC z) 97)).heap.size = wr.heap.size + 1 := World.size_alloc _ _
      have hs1 := hb1.size
      have hbw : Below wr.heap.size wr w1 := ((Below.refl _ _).alloc (Nat.le_refl _) (.cells (nodeC z) 97)).trans (hb1.mono (by omega))
      have K1 : Blk w1 wr.heap.size 97 (nodeC z) := HKC.out.below hb1 (by omega)
      obtain ⟨⟨d0, d1, d2, d3, d4, d5, d6, d7⟩, z0, z1, z2, z3, z4, z5, z6, z7⟩ := node_cells K1
      have K2 := eight_blk K1 y
      obtain ⟨⟨e0, e1, e2, e3, e4, e5, e6, e7⟩, _⟩ := node_cells K2
      have HHS0 := Lib.hid hs0
      have HBW := Lib.hid hbw
      have HYT := Lib.hid hyt
      have HYG := Lib.hid hyg
      have hHS1 := hs1
      obtain ⟨w2, hw2⟩ : ∃ w2, eight w1 wr.heap.size y = w2 := ⟨_, rfl⟩
      have HF2 := Lib.hid (show (∀ g, g ≠ wr.heap.size → w2.heap[g]? = w1.heap[g]?) ∧ w2.heap.size = w1.heap.size from ⟨fun g hg => by rw [← hw2]; exact eight_far hg y, by rw [← hw2]; exact eight_size _ _ _⟩)
      rw [hw2] at e0 e1 e2 e3 e4 e5 e6 e7
      unfold eight at hw2
      have HO2 := Lib.hid (show OwnR nodeV 8 w2 (W.heap.size + 2) 97 (.slice Av L.length cv) L by
        rw [← hw2]
        exact own_far8 (OwnR.below HO.out hbw) (fun k hk => by have := (World.ownsRow.lt HO.out k hk).2; omega) _ _ _ _ _ _ _ _)
      have HB2 := Lib.hid (show Below W.heap.size W w2 by rw [← hw2]; exact below_eight (HB.out.trans (hbw.mono hWr)) hWr _ _ _ _ _ _ _ _)
      have HK2 := Lib.hid (show Blk w2 W.heap.size 97 (nodeC (NodeX.mk _ xs xm xx (some ⟨b, off, none⟩) xn xc xl)) ∧ Blk w2 (W.heap.size + 1) 97 (nodeC nilX) from ⟨by rw [← hw2]; exact blk_far8 (HK.out.1.below hbw (by omega)) (by omega) _ _ _ _ _ _ _ _, by rw [← hw2]; exact blk_far8 (HK.out.2.below hbw (by omega)) (by omega) _ _ _ _ _ _ _ _⟩)
      have hS2 : W.heap.size + 2 ≤ w2.heap.size := by have := HF2.out.2; have := HHS0.out; omega
      clear K1 K2 hbw hyt hyg hb1 hs0 hs1
      by_cases hk0 : y.kind = 0
      · have g0 : (y.kind == 0) = true := by rw [hk0]; rfl
        have HM2 := Lib.hid (by have := slimK_map HP.out HYT.out HM.out; rwa [if_pos hk0] at this)
        have HGR2 := Lib.hid (show GoodR P W.heap.size w2 (.slice Av L.length cv) L from fun q hq => (HGR.out q hq).frame (by rw [HF2.out.2]; exact HBW.out.size) (fun g _ hg => by rw [HF2.out.1 g (by omega)]; exact HBW.out.block g hg))
        have HKY := Lib.hid hk0
        have g1 : (y.kind != 0) = false := by rw [hk0]; rfl
        clear hk0
        go_wp2
        go_round
        case rel => exact ⟨j + 1, by omega, by go_num, L, HO2.out, HGR2.out, HM2.out, HB2.out, hS2, HK2.out⟩
        case measure => simp [intOf]; omega
      · have g0 : (y.kind == 0) = false := beq_eq_false_iff_ne.2 hk0
        have g1 : (y.kind != 0) = true := by rw [bne, g0]; rfl
        have HM2 := Lib.hid (by have := slimK_map HP.out HYT.out HM.out; rwa [if_neg hk0] at this)
        go_wp2_with (at_builtin; refine wpList_append_lies _ rfl (.tmp 18) (.tmp 20) 95 rfl (W.heap.size + 2) 97 i0 (.agg #[.int .i64 0, .int .u64 0, .int .u64 0, .int .u64 0, .int .u64 0, .int .i64 0, .int .i64 0, .slice none 0 0]) 8 80 Tryz.underlying95 hi hz0 hz1 hz2 rfl (by decide) _ _ _ rfl (OwnR.alloc HO2.out _) ⟨w2.heap.size, 0, none⟩ 1 1 (nodeV y) rfl rfl (new_cells_at _ _ _ _ (by simp)) (nodeV_one _) (by decide) (by unfold maxLen; omega) (by omega) (by simp; omega) _ rfl ?_)
        intro g3 cap3 w4 hown hgrow hat hlt4
        have HGR4 := Lib.hid (goodR_next (o := .cells (nodeV y).toArray 97) (v' := .slice (some ⟨g3, 0, none⟩) (L.length + 1) cap3) HGR.out HO.out hS HHS0.out HBW.out hHS1 HYG.out HF2.out.1 HF2.out.2 hgrow (by
          rcases hat with h1 | h1
          · left; rw [h1]; rfl
          · right; rw [h1]; simp [Value.ownBlock]))
        have hrw : ∀ r, Value.ownBlock (.slice Av L.length cv) = some r → W.heap.size + 2 ≤ r ∧ r < wr.heap.size := fun r hr => World.ownsRow.lt HO.out r hr
        have HB4 := Lib.hid ((HB2.out.alloc (by omega) _).grown hgrow (by simp; omega) (fun r hr => by have := hrw r hr; omega))
        have HO4 := Lib.hid (show OwnR nodeV 8 w4 (W.heap.size + 2) 97 (.slice (some ⟨g3, 0, none⟩) (L.length + 1) cap3) (L ++ [y]) from OwnR.snoc hown)
        have HK4 := Lib.hid (show Blk w4 W.heap.size 97 (nodeC (NodeX.mk _ xs xm xx (some ⟨b, off, none⟩) xn xc xl)) ∧ Blk w4 (W.heap.size + 1) 97 (nodeC nilX) from ⟨(HK2.out.1.alloc _).stays hgrow (fun e => by have := (hrw _ e).1; omega), (HK2.out.2.alloc _).stays hgrow (fun e => by have := (hrw _ e).1; omega)⟩)
        have hS4 : W.heap.size + 2 ≤ w4.heap.size := by have := hgrow.size; rw [World.size_alloc] at this; omega
        clear hown hgrow hrw hat
        go_wp2
        go_round
        case rel => exact ⟨j + 1, by omega, by go_num, L ++ [y], HO4.out, HGR4.out, HM2.out, HB4.out, hS4, HK4.out⟩
        case measure => simp [intOf]; omega
    · obtain rfl : j = xn := by omega
      have hI : ¬ (j : Int) < (j : Int) := by omega
      obtain ⟨A2, c2, rfl, hc2, hn2, hrow⟩ := OwnR.open nodeV_len HO.out
      have HROW := Lib.hid hrow
      have HLT := Lib.hid (fun (h0 : 0 < L.length) => OwnR.at_ nodeV_len HO.out h0)
      have HN2 := Lib.hid hn2
      have HMM := Lib.hid (show L.map NodeX.t = slimK (xl.map NodeX.t) (xl.map NodeX.t).length by rw [hll]; exact HM.out)
      obtain ⟨⟨d0, d1, d2, d3, d4, d5, d6, d7⟩, f0, f1, f2, f3, f4, f5, f6, f7⟩ := node_cells HK.out.2
      have HL2 := Lib.hid hll
      clear hrow HR HKID HSS HWF hn2 h hl hll
      rcases (show L.length = 0 ∨ L.length = 1 ∨ 2 ≤ L.length by omega) with h0 | h0 | h0
      · have hz := HSC.out.1 (by rw [← HMM.out, List.eq_nil_of_length_eq_zero h0]; rfl)
        have HZ := Lib.hid hz
        have HB8 := Lib.hid (eight_blk HK.out.2 nilX)
        unfold eight at HB8
        clear hz
        rw [h0]
        go_wp2
        refine bodyPost_ret (results_cell_row rfl _ _ (W.heap.size + 1) 97 nilC (0, 0) _ rfl HB8.out Tryz.underlying97 rfl (by kernel_rfl)) rfl ?_
        exact ⟨nilX, rfl, HZ.out.symm, GoodN.nil _ _, below_eight HB.out (by omega) _ _ _ _ _ _ _ _⟩
      · obtain ⟨y, rfl⟩ : ∃ y, L = [y] := by
          match L, h0 with
          | [y], _ => exact ⟨y, rfl⟩
        have HZ := Lib.hid (HSC.out.2.1 y.t (by rw [← HMM.out]; rfl))
        obtain ⟨g, cp, he, hge, hglt, _, hc⟩ := HLT.out (by simp)
        injection he with he he2 he3
        subst he
        clear he2 he3
        have q0 := hc 0 0 y rfl (by decide)
        have q1 := hc 0 1 y rfl (by decide)
        have q2 := hc 0 2 y rfl (by decide)
        have q3 := hc 0 3 y rfl (by decide)
        have q4 := hc 0 4 y rfl (by decide)
        have q5 := hc 0 5 y rfl (by decide)
        have q6 := hc 0 6 y rfl (by decide)
        have q7 := hc 0 7 y rfl (by decide)
        simp only [nodeV, List.getElem?_cons_zero, List.getElem?_cons_succ, Nat.zero_mul, Nat.zero_add] at q0 q1 q2 q3 q4 q5 q6 q7
        have HB8 := Lib.hid (eight_blk HK.out.2 y)
        have HX := Lib.hid (GoodR.row (w2 := eight wr (W.heap.size + 1) y) HGR.out (by rw [eight_size]; exact Nat.le_refl _) (fun g hg => eight_far hg y) y (by simp))
        unfold eight at HB8 HX
        have hone : ([y] : List NodeX).length = 1 := rfl
        clear hc HLT HROW HGR
        rw [hone]
        go_wp2
        refine bodyPost_ret (results_cell_row rfl _ _ (W.heap.size + 1) 97 (nodeC y) (0, 0) _ rfl HB8.out Tryz.underlying97 rfl (by kernel_rfl)) rfl ?_
        exact ⟨y, rfl, HZ.out.symm, HX.out, below_eight HB.out (by omega) _ _ _ _ _ _ _ _⟩
      · have HZ := Lib.hid (HSC.out.2.2 (by rw [← HMM.out, List.length_map]; exact h0))
        have g0 : ((L.length : Int) == 0) = false := by rw [beq_eq_false_iff_ne]; omega
        have g1 : ((L.length : Int) == 1) = false := by rw [beq_eq_false_iff_ne]; omega
        have g2 : ¬ L.length = 0 := by omega
        have g3 : ¬ L.length = 1 := by omega
        obtain ⟨y, hy⟩ : ∃ y, NodeX.mk 4 0 0 0 A2 L.length c2 L = y := ⟨_, rfl⟩
        have hyC : nodeC y = #[.int .i64 4, .int .u64 0, .int .u64 0, .int .u64 0, .int .u64 0, .int .i64 0, .int .i64 0, .slice A2 L.length c2] := by rw [← hy]; exact (mkX_c 4 0 0 A2 L.length c2 L).symm
        have hb8 := set8 (y0 := .int .i64 0) (y1 := .int .u64 (word 0 0 : Nat)) (y2 := .int .u64 (word 0 1 : Nat)) (y3 := .int .u64 (word 0 2 : Nat)) (y4 := .int .u64 (word 0 3 : Nat)) (y5 := .int .i64 0) (y6 := .int .i64 0) (y7 := .slice none 0 0) HK.out.2 (.int .i64 4) (.int .u64 0) (.int .u64 0) (.int .u64 0) (.int .u64 0) (.int .i64 0) (.int .i64 0) (.slice A2 L.length c2)
        rw [← hyC] at hb8
        have HB8 := Lib.hid hb8
        have HY := Lib.hid hy
        clear hb8 hyC hy
        go_wp2
        refine bodyPost_ret (results_cell_row rfl _ _ (W.heap.size + 1) 97 (nodeC y) (0, 0) _ rfl HB8.out Tryz.underlying97 rfl (by kernel_rfl)) rfl ?_
        refine ⟨y, rfl, ?_, ?_, below_eight HB.out (by omega) _ _ _ _ _ _ _ _⟩
        · rw [← HY.out]
          show NodeT.mk 4 0 0 0 (NodeX.ts L) = _
          rw [NodeX.ts_map, HMM.out]
          exact HZ.out.symm
        · rw [← HY.out]
          refine GoodN.mk (by decide) (fun e => HN2.out e) ⟨hc2, by omega⟩ (HROW.out.frame (by simp) (fun h0 a ha hlt => far_eight (by
            obtain ⟨g, cp, he, hge, _⟩ := HLT.out h0
            injection he with he _ _
            rw [he] at ha
            injection ha with ha
            subst ha
            show g ≠ W.heap.size + 1
            omega) _ _ _ _ _ _ _ _)) (fun h0 a ha => by
            obtain ⟨g, cp, he, hge, _⟩ := HLT.out h0
            injection he with he _ _
            rw [he] at ha
            injection ha with ha
            subst ha
            right
            show W.heap.size ≤ g
            omega) (fun z hz => GoodR.row HGR.out (by simp) (fun g hg => far_eight hg _ _ _ _ _ _ _ _) z hz)
def AltR (P : Nat → Prop) (W : World) (X : NodeX) (xl : List NodeX) (j : Nat) (v bv : Value) (wr : World) : Prop := ∃ (L : List NodeX) (bl : Bool), bv = .bool bl ∧ OwnR nodeV 8 wr (W.heap.size + 2) 97 v L ∧ GoodR P W.heap.size wr v L ∧ L.map NodeX.t = slimA (xl.map NodeX.t) j ∧ bl = (L.map NodeX.t).all nilK ∧ Below W.heap.size W wr ∧ W.heap.size + 2 ≤ wr.heap.size ∧ Blk wr W.heap.size 97 (nodeC X) ∧ Blk wr (W.heap.size + 1) 97 (nodeC nilX)
theorem all_next {L : List NodeX} {y : NodeX} : ((L ++ [y]).map NodeX.t).all nilK = ((L.map NodeX.t).all nilK && (y.kind == 0)) := by
  rw [List.map_append, List.all_append]
  simp [nilK, NodeX.t_kind]
theorem slimA_len (l : List NodeT) (k : Nat) : (slimA l k).length ≤ k := by
  unfold slimA
  rw [List.length_map, List.length_take]
  omega
set_option maxRecDepth 100000 in
set_option maxHeartbeats 1600000 in
theorem slimAlt_any (x : NodeX) (hkind : x.kind = 5) (HS : ∀ y, y ∈ x.kids → SlimC y) (P : Nat → Prop) (W : World) (hx : GoodN W P x) (hwf : ∀ y, y ∈ x.kids → WF y.t) :
    Calls Tryz.prog 84 #[.agg (nodeC x)] W fun e w' => ∃ y, e = .returned (.agg (nodeC y)) ∧ y.t = slimT (.mk 5 0 0 0 (x.kids.map NodeX.t)) ∧ GoodN w' (fun q => P q ∨ W.heap.size ≤ q) y ∧ Below W.heap.size W w' := by
  obtain ⟨i0, hi, hz0, hz1, hz2⟩ := info_parts infoNode
  have K0 := (Blk.new W 97 (nodeC x)).alloc (.cells #[.int .i64 0, .int .u64 0, .int .u64 0, .int .u64 0, .int .u64 0, .int .i64 0, .int .i64 0, .slice none 0 0] 97)
  have K1 : Blk ((W.alloc (.cells (nodeC x) 97)).alloc (.cells #[.int .i64 0, .int .u64 0, .int .u64 0, .int .u64 0, .int .u64 0, .int .i64 0, .int .i64 0, .slice none 0 0] 97)) (W.heap.size + 1) 97 (nodeC nilX) := new_at _ _ _ _ (by simp)
  obtain ⟨⟨a0, a1, a2, a3, a4, a5, a6, a7⟩, _⟩ := node_cells K0
  have hPP : GoodN W (fun g => P g ∧ g < W.heap.size) x := hx.weaken (fun g h1 h2 => ⟨h1, h2⟩)
  have hrow := hPP.row
  have hkid := fun z hz => hPP.kid (y := z) hz
  have hmx := hx.lenM
  have hBB : Below W.heap.size W ((W.alloc (.cells (nodeC x) 97)).alloc (.cells #[.int .i64 0, .int .u64 0, .int .u64 0, .int .u64 0, .int .u64 0, .int .i64 0, .int .i64 0, .slice none 0 0] 97)) := ((Below.refl _ _).alloc (Nat.le_refl _) _).alloc (by simp) _
  have hSZ : ((W.alloc (.cells (nodeC x) 97)).alloc (.cells #[.int .i64 0, .int .u64 0, .int .u64 0, .int .u64 0, .int .u64 0, .int .i64 0, .int .i64 0, .slice none 0 0] 97)).heap.size = W.heap.size + 2 := by simp
  have HK0 := Lib.hid K0
  have HK1 := Lib.hid K1
  have HBB := Lib.hid hBB
  have HSZ := Lib.hid hSZ
  clear K0 K1 hPP hBB hSZ hx
  obtain ⟨xk, xs, xm, xx, xA, xn, xc, xl⟩ := x
  simp only [NodeX.kind, NodeX.set, NodeX.mn, NodeX.mx, NodeX.A, NodeX.n, NodeX.c, NodeX.kids] at hrow hkid a0 a1 a2 a3 a4 a5 a6 a7 hmx HS hwf hkind ⊢
  subst hkind
  have hl := hrow.1
  have HR := Lib.hid hrow
  have HKID := Lib.hid hkid
  have HSS := Lib.hid HS
  have HWF := Lib.hid hwf
  clear hrow hkid HS hwf
  have HSC := Lib.hid (slim_alt (xl.map NodeX.t))
  have hll : (xl.map NodeX.t).length = xn := by rw [List.length_map]; exact hl
  have hmk : ∀ u : World, (Instr.makeSlice 95 (.int .i64 0) (.int .i64 (xn : Int))).run Tryz.prog u =
      .ok (.slice (some ⟨u.heap.size, 0, none⟩) 0 xn) (u.alloc (.cells (madeCells #[.int .i64 0, .int .u64 0, .int .u64 0, .int .u64 0, .int .u64 0, .int .i64 0, .int .i64 0, .slice none 0 0] (xn * 8)) 97)) := fun u => by
    have h := run_make (P := Tryz.prog) u 95 97 i0 (.agg #[.int .i64 0, .int .u64 0, .int .u64 0, .int .u64 0, .int .u64 0, .int .i64 0, .int .i64 0, .slice none 0 0]) Tryz.underlying95 hi hz0 .i64 .i64 0 (xn : Int) (by omega) (by omega) (by rw [hz2]; omega) (by omega)
    rw [Int.toNat_natCast] at h
    simpa [hz1, Value.cells] using h
  obtain ⟨MC, hMC⟩ : ∃ z, madeCells #[.int .i64 0, .int .u64 0, .int .u64 0, .int .u64 0, .int .u64 0, .int .i64 0, .int .i64 0, .slice none 0 0] (xn * 8) = z := ⟨_, rfl⟩
  have HMO := Lib.hid (fun (w : World) (hw : W.heap.size + 2 ≤ w.heap.size) => show OwnR nodeV 8 (w.alloc (.cells MC 97)) (W.heap.size + 2) 97 (.slice (some ⟨w.heap.size, 0, none⟩) 0 xn) [] from by
    rw [← hMC]
    exact World.ownsRow_made w _ xn hw (by unfold maxLen; omega) (by simp [madeCells]))
  rw [hMC] at hmk
  clear hMC
  obtain ⟨W2, hW2⟩ : ∃ z, (W.alloc (.cells (nodeC (NodeX.mk 5 xs xm xx xA xn xc xl)) 97)).alloc (.cells #[.int .i64 0, .int .u64 0, .int .u64 0, .int .u64 0, .int .u64 0, .int .i64 0, .int .i64 0, .slice none 0 0] 97) = z := ⟨_, rfl⟩
  rw [hW2] at HK0 HK1 HBB HSZ a0 a1 a2 a3 a4 a5 a6 a7
  have hsz2 := HSZ.out
  have o7 : (W2.alloc (.cells MC 97)).cell? ⟨W.heap.size, 7, none⟩ = some (.slice xA xn xc) := (HK0.out.alloc (.cells MC 97)).cell 7
  go_enter Tryz.func84, Tryz.ntmps84
  go_wp2
  clear hW2
  go_loopw [3, 4, 14] (fun v bv iv wr => ∃ (j : Nat), j ≤ xn ∧ iv = .int .i64 (j : Nat) ∧ AltR P W (NodeX.mk 5 xs xm xx xA xn xc xl) xl j v bv wr) (fun _ _ iv _ => xn - (intOf iv).toNat)
  case atStart =>
    refine ⟨0, Nat.zero_le _, rfl, [], true, rfl, ?_, (fun x hx => by cases hx), rfl, rfl, HBB.out.alloc (by omega) _, by rw [World.size_alloc]; omega, HK0.out.alloc _, HK1.out.alloc _⟩
    have := HMO.out W2 (by omega)
    first | exact this | (rw [hsz2] at this; exact this)
  case round =>
    obtain ⟨j, hj, rfl, L, bl, rfl, ho, hgr, hm, hbl, hb, hS, hk⟩ := hrel
    have HO := Lib.hid ho
    have HGR := Lib.hid hgr
    have HM := Lib.hid hm
    have HB := Lib.hid hb
    have HK := Lib.hid hk
    have HBL := Lib.hid hbl
    have hLl : L.length ≤ j := by rw [map_len hm]; exact slimA_len _ _
    clear ho hgr hm hb hk hbl HK0 HK1 HBB HSZ HMO hmk hsz2 o7
    by_cases h : j < xn
    · obtain ⟨Av, cv, hv⟩ := own_shape HO.out
      subst hv
      have hWr : W.heap.size ≤ wr.heap.size := by omega
      clear a0 a1 a2 a3 a4 a5 a6 a7
      have hI : (j : Int) < xn := by omega
      obtain ⟨b, off, rfl, hlt, hc⟩ := HR.out.2 (by omega)
      obtain ⟨z, hp⟩ : ∃ z, xl[j]? = some z := ⟨xl[j], List.getElem?_eq_getElem (by omega)⟩
      have hzm := List.mem_of_getElem? hp
      have c0 := (HB.out.cell (p := ⟨b, off + j * 8 + 0, none⟩) hlt).trans (hc j 0 _ hp (by decide))
      have c1 := (HB.out.cell (p := ⟨b, off + j * 8 + 1, none⟩) hlt).trans (hc j 1 _ hp (by decide))
      have c2 := (HB.out.cell (p := ⟨b, off + j * 8 + 2, none⟩) hlt).trans (hc j 2 _ hp (by decide))
      have c3 := (HB.out.cell (p := ⟨b, off + j * 8 + 3, none⟩) hlt).trans (hc j 3 _ hp (by decide))
      have c4 := (HB.out.cell (p := ⟨b, off + j * 8 + 4, none⟩) hlt).trans (hc j 4 _ hp (by decide))
      have c5 := (HB.out.cell (p := ⟨b, off + j * 8 + 5, none⟩) hlt).trans (hc j 5 _ hp (by decide))
      have c6 := (HB.out.cell (p := ⟨b, off + j * 8 + 6, none⟩) hlt).trans (hc j 6 _ hp (by decide))
      have c7 := (HB.out.cell (p := ⟨b, off + j * 8 + 7, none⟩) hlt).trans (hc j 7 _ hp (by decide))
      rw [Nat.add_zero] at c0
      simp only [nodeV, List.getElem?_cons_zero, List.getElem?_cons_succ] at c0 c1 c2 c3 c4 c5 c6 c7
      have hgz : GoodN wr (fun g => P g ∧ g < W.heap.size) z := (HKID.out z hzm).frame HB.out.size (fun g hq hg => HB.out.block g hg)
      have KC := Blk.new wr 97 (nodeC z)
      have SC := Lib.hid (HSS.out z hzm (fun g => P g ∧ g < W.heap.size) (wr.alloc (.cells (nodeC z) 97)) (hgz.alloc _) (HWF.out z hzm))
      obtain ⟨⟨d0, d1, d2, d3, d4, d5, d6, d7⟩, _⟩ := node_cells KC
      have HKC := Lib.hid KC
      have HP := Lib.hid hp
      clear KC hc hgz hzm
      go_wp2_with fail
      refine SC.out.mono ?_
      rintro e w1 ⟨y, rfl, hyt, hyg, hb1⟩
      rw [nodeC_is y]
      clear SC d0 d1 d2 d3 d4 d5 d6 d7 c0 c1 c2 c3 c4 c5 c6 c7
      have hs0 : (wr.alloc (.cells (nodeC z) 97)).heap.size = wr.heap.size + 1 := World.size_alloc _ _
      have hs1 := hb1.size
      have hbw : Below wr.heap.size wr w1 := ((Below.refl _ _).alloc (Nat.le_refl _) (.cells (nodeC z) 97)).trans (hb1.mono (by omega))
      have K1 : Blk w1 wr.heap.size 97 (nodeC z) := HKC.out.below hb1 (by omega)
      obtain ⟨⟨d0, d1, d2, d3, d4, d5, d6, d7⟩, z0, z1, z2, z3, z4, z5, z6, z7⟩ := node_cells K1
      have K2 := eight_blk K1 y
      have KK := Lib.hid K1
      obtain ⟨⟨e0, e1, e2, e3, e4, e5, e6, e7⟩, _⟩ := node_cells K2
      have HHS0 := Lib.hid hs0
      have HBW := Lib.hid hbw
      have HYT := Lib.hid hyt
      have HYG := Lib.hid hyg
      have hHS1 := hs1
      obtain ⟨w2, hw2⟩ : ∃ w2, eight w1 wr.heap.size y = w2 := ⟨_, rfl⟩
      have HF2 := Lib.hid (show (∀ g, g ≠ wr.heap.size → w2.heap[g]? = w1.heap[g]?) ∧ w2.heap.size = w1.heap.size from ⟨fun g hg => by rw [← hw2]; exact eight_far hg y, by rw [← hw2]; exact eight_size _ _ _⟩)
      rw [hw2] at e0 e1 e2 e3 e4 e5 e6 e7
      unfold eight at hw2
      have HO2 := Lib.hid (show OwnR nodeV 8 w2 (W.heap.size + 2) 97 (.slice Av L.length cv) L by
        rw [← hw2]
        exact own_far8 (OwnR.below HO.out hbw) (fun k hk => by have := (World.ownsRow.lt HO.out k hk).2; omega) _ _ _ _ _ _ _ _)
      have HB2 := Lib.hid (show Below W.heap.size W w2 by rw [← hw2]; exact below_eight (HB.out.trans (hbw.mono hWr)) hWr _ _ _ _ _ _ _ _)
      have HK2 := Lib.hid (show Blk w2 W.heap.size 97 (nodeC (NodeX.mk _ xs xm xx (some ⟨b, off, none⟩) xn xc xl)) ∧ Blk w2 (W.heap.size + 1) 97 (nodeC nilX) from ⟨by rw [← hw2]; exact blk_far8 (HK.out.1.below hbw (by omega)) (by omega) _ _ _ _ _ _ _ _, by rw [← hw2]; exact blk_far8 (HK.out.2.below hbw (by omega)) (by omega) _ _ _ _ _ _ _ _⟩)
      have hS2 : W.heap.size + 2 ≤ w2.heap.size := by have := HF2.out.2; have := HHS0.out; omega
      clear K1 K2 hbw hyt hyg hb1 hs0 hs1
      have HM2 := Lib.hid (slimA_map HP.out HYT.out HM.out)
      have HK2c := Lib.hid (show Blk w2 wr.heap.size 97 (nodeC y) from by rw [← hw2]; exact eight_blk KK.out y)
      cases bl with
      | false =>
        go_wp2_with (at_builtin; refine wpList_append_lies _ rfl (.tmp 20) (.tmp 22) 95 rfl (W.heap.size + 2) 97 i0 (.agg #[.int .i64 0, .int .u64 0, .int .u64 0, .int .u64 0, .int .u64 0, .int .i64 0, .int .i64 0, .slice none 0 0]) 8 80 Tryz.underlying95 hi hz0 hz1 hz2 rfl (by decide) _ _ _ rfl (OwnR.alloc HO2.out _) ⟨w2.heap.size, 0, none⟩ 1 1 (nodeV y) rfl rfl (new_cells_at _ _ _ _ (by simp)) (nodeV_one _) (by decide) (by unfold maxLen; omega) (by omega) (by simp; omega) _ rfl ?_)
        intro g3 cap3 w4 hown hgrow hat hlt4
        have HGR4 := Lib.hid (goodR_next (o := .cells (nodeV y).toArray 97) (v' := .slice (some ⟨g3, 0, none⟩) (L.length + 1) cap3) HGR.out HO.out hS HHS0.out HBW.out hHS1 HYG.out HF2.out.1 HF2.out.2 hgrow (by
          rcases hat with h1 | h1
          · left; rw [h1]; rfl
          · right; rw [h1]; simp [Value.ownBlock]))
        have hrw : ∀ r, Value.ownBlock (.slice Av L.length cv) = some r → W.heap.size + 2 ≤ r ∧ r < wr.heap.size := fun r hr => World.ownsRow.lt HO.out r hr
        have HB4 := Lib.hid ((HB2.out.alloc (by omega) _).grown hgrow (by simp; omega) (fun r hr => by have := hrw r hr; omega))
        have HO4 := Lib.hid (show OwnR nodeV 8 w4 (W.heap.size + 2) 97 (.slice (some ⟨g3, 0, none⟩) (L.length + 1) cap3) (L ++ [y]) from OwnR.snoc hown)
        have HK4 := Lib.hid (show Blk w4 W.heap.size 97 (nodeC (NodeX.mk _ xs xm xx (some ⟨b, off, none⟩) xn xc xl)) ∧ Blk w4 (W.heap.size + 1) 97 (nodeC nilX) from ⟨(HK2.out.1.alloc _).stays hgrow (fun e => by have := (hrw _ e).1; omega), (HK2.out.2.alloc _).stays hgrow (fun e => by have := (hrw _ e).1; omega)⟩)
        have hS4 : W.heap.size + 2 ≤ w4.heap.size := by have := hgrow.size; rw [World.size_alloc] at this; omega
        clear hown hgrow hrw hat
        have HBL4 := Lib.hid (show false = ((L ++ [y]).map NodeX.t).all nilK by rw [all_next, ← HBL.out]; rfl)
        clear e0 e1 e2 e3 e4 e5 e6 e7
        go_wp2
        go_round
        case rel => exact ⟨j + 1, by omega, by go_num, L ++ [y], false, rfl, HO4.out, HGR4.out, HM2.out, HBL4.out, HB4.out, hS4, HK4.out⟩
        case measure => simp [intOf]; omega
      | true =>
        go_wp2_with (at_builtin; refine wpList_append_lies _ rfl (.tmp 20) (.tmp 22) 95 rfl (W.heap.size + 2) 97 i0 (.agg #[.int .i64 0, .int .u64 0, .int .u64 0, .int .u64 0, .int .u64 0, .int .i64 0, .int .i64 0, .slice none 0 0]) 8 80 Tryz.underlying95 hi hz0 hz1 hz2 rfl (by decide) _ _ _ rfl (OwnR.alloc HO2.out _) ⟨w2.heap.size, 0, none⟩ 1 1 (nodeV y) rfl rfl (new_cells_at _ _ _ _ (by simp)) (nodeV_one _) (by decide) (by unfold maxLen; omega) (by omega) (by simp; omega) _ rfl ?_)
        intro g3 cap3 w4 hown hgrow hat hlt4
        have HGR4 := Lib.hid (goodR_next (o := .cells (nodeV y).toArray 97) (v' := .slice (some ⟨g3, 0, none⟩) (L.length + 1) cap3) HGR.out HO.out hS HHS0.out HBW.out hHS1 HYG.out HF2.out.1 HF2.out.2 hgrow (by
          rcases hat with h1 | h1
          · left; rw [h1]; rfl
          · right; rw [h1]; simp [Value.ownBlock]))
        have hrw : ∀ r, Value.ownBlock (.slice Av L.length cv) = some r → W.heap.size + 2 ≤ r ∧ r < wr.heap.size := fun r hr => World.ownsRow.lt HO.out r hr
        have HB4 := Lib.hid ((HB2.out.alloc (by omega) _).grown hgrow (by simp; omega) (fun r hr => by have := hrw r hr; omega))
        have HO4 := Lib.hid (show OwnR nodeV 8 w4 (W.heap.size + 2) 97 (.slice (some ⟨g3, 0, none⟩) (L.length + 1) cap3) (L ++ [y]) from OwnR.snoc hown)
        have HK4 := Lib.hid (show Blk w4 W.heap.size 97 (nodeC (NodeX.mk _ xs xm xx (some ⟨b, off, none⟩) xn xc xl)) ∧ Blk w4 (W.heap.size + 1) 97 (nodeC nilX) from ⟨(HK2.out.1.alloc _).stays hgrow (fun e => by have := (hrw _ e).1; omega), (HK2.out.2.alloc _).stays hgrow (fun e => by have := (hrw _ e).1; omega)⟩)
        have hS4 : W.heap.size + 2 ≤ w4.heap.size := by have := hgrow.size; rw [World.size_alloc] at this; omega
        have HGW := Lib.hid hgrow
        have HRW := Lib.hid hrw
        clear hown hgrow hrw hat
        have hkc : w4.cell? ⟨wr.heap.size, 0, none⟩ = some (.int .i64 y.kind) := by
          have h1 := ((HK2c.out.alloc (.cells (nodeV y).toArray 97)).stays HGW.out (fun e => by have := HRW.out _ e; omega)).cell 0
          exact h1
        clear e0 e1 e2 e3 e4 e5 e6 e7
        by_cases hk0 : y.kind = 0
        · have g0 : (y.kind == 0) = true := by rw [hk0]; rfl
          have HBL4 := Lib.hid (show true = ((L ++ [y]).map NodeX.t).all nilK by rw [all_next, ← HBL.out, g0]; rfl)
          rw [hk0] at hkc
          clear hk0 g0
          go_wp2
          go_round
          case rel => exact ⟨j + 1, by omega, by go_num, L ++ [y], true, rfl, HO4.out, HGR4.out, HM2.out, HBL4.out, HB4.out, hS4, HK4.out⟩
          case measure => simp [intOf]; omega
        · have g0 : (y.kind == 0) = false := beq_eq_false_iff_ne.2 hk0
          have HBL4 := Lib.hid (show false = ((L ++ [y]).map NodeX.t).all nilK by rw [all_next, ← HBL.out, g0]; rfl)
          go_wp2
          go_round
          case rel => exact ⟨j + 1, by omega, by go_num, L ++ [y], false, rfl, HO4.out, HGR4.out, HM2.out, HBL4.out, HB4.out, hS4, HK4.out⟩
          case measure => simp [intOf]; omega
    · obtain rfl : j = xn := by omega
      have hI : ¬ (j : Int) < (j : Int) := by omega
      obtain ⟨A2, c2, rfl, hc2, hn2, hrow⟩ := OwnR.open nodeV_len HO.out
      have HROW := Lib.hid hrow
      have HLT := Lib.hid (fun (h0 : 0 < L.length) => OwnR.at_ nodeV_len HO.out h0)
      have HN2 := Lib.hid hn2
      have HMM := Lib.hid (show L.map NodeX.t = slimA (xl.map NodeX.t) (xl.map NodeX.t).length by rw [hll]; exact HM.out)
      obtain ⟨⟨d0, d1, d2, d3, d4, d5, d6, d7⟩, f0, f1, f2, f3, f4, f5, f6, f7⟩ := node_cells HK.out.2
      have HL2 := Lib.hid hll
      clear hrow HR HKID HSS HWF hn2 h hl hll
      cases bl with
      | true =>
        have hz : slimT (.mk 5 0 0 0 (xl.map NodeX.t)) = .nil := by rw [HSC.out, ← HMM.out, ← HBL.out]; rfl
        have HZ := Lib.hid hz
        have HB8 := Lib.hid (eight_blk HK.out.2 nilX)
        unfold eight at HB8
        clear hz
        go_wp2
        refine bodyPost_ret (results_cell_row rfl _ _ (W.heap.size + 1) 97 nilC (0, 0) _ rfl HB8.out Tryz.underlying97 rfl (by kernel_rfl)) rfl ?_
        exact ⟨nilX, rfl, HZ.out.symm, GoodN.nil _ _, below_eight HB.out (by omega) _ _ _ _ _ _ _ _⟩
      | false =>
        have HZ := Lib.hid (show slimT (.mk 5 0 0 0 (xl.map NodeX.t)) = .mk 5 0 0 0 (L.map NodeX.t) by rw [HSC.out, ← HMM.out, ← HBL.out]; rfl)
        obtain ⟨y, hy⟩ : ∃ y, NodeX.mk 5 0 0 0 A2 L.length c2 L = y := ⟨_, rfl⟩
        have hyC : nodeC y = #[.int .i64 5, .int .u64 0, .int .u64 0, .int .u64 0, .int .u64 0, .int .i64 0, .int .i64 0, .slice A2 L.length c2] := by rw [← hy]; exact (mkX_c 5 0 0 A2 L.length c2 L).symm
        have hb8 := set8 (y0 := .int .i64 0) (y1 := .int .u64 (word 0 0 : Nat)) (y2 := .int .u64 (word 0 1 : Nat)) (y3 := .int .u64 (word 0 2 : Nat)) (y4 := .int .u64 (word 0 3 : Nat)) (y5 := .int .i64 0) (y6 := .int .i64 0) (y7 := .slice none 0 0) HK.out.2 (.int .i64 5) (.int .u64 0) (.int .u64 0) (.int .u64 0) (.int .u64 0) (.int .i64 0) (.int .i64 0) (.slice A2 L.length c2)
        rw [← hyC] at hb8
        have HB8 := Lib.hid hb8
        have HY := Lib.hid hy
        clear hb8 hyC hy
        go_wp2
        refine bodyPost_ret (results_cell_row rfl _ _ (W.heap.size + 1) 97 (nodeC y) (0, 0) _ rfl HB8.out Tryz.underlying97 rfl (by kernel_rfl)) rfl ?_
        refine ⟨y, rfl, ?_, ?_, below_eight HB.out (by omega) _ _ _ _ _ _ _ _⟩
        · rw [← HY.out, HZ.out]
          show NodeT.mk 5 0 0 0 (NodeX.ts L) = _
          rw [NodeX.ts_map]
        · rw [← HY.out]
          refine GoodN.mk (by decide) (fun e => HN2.out e) ⟨hc2, by omega⟩ (HROW.out.frame (by simp) (fun h0 a ha hlt => far_eight (by
            obtain ⟨g, cp, he, hge, _⟩ := HLT.out h0
            injection he with he _ _
            rw [he] at ha
            injection ha with ha
            subst ha
            show g ≠ W.heap.size + 1
            omega) _ _ _ _ _ _ _ _)) (fun h0 a ha => by
            obtain ⟨g, cp, he, hge, _⟩ := HLT.out h0
            injection he with he _ _
            rw [he] at ha
            injection ha with ha
            subst ha
            right
            show W.heap.size ≤ g
            omega) (fun z hz => GoodR.row HGR.out (by simp) (fun g hg => far_eight hg _ _ _ _ _ _ _ _) z hz)
set_option maxRecDepth 100000 in
set_option maxHeartbeats 1600000 in
theorem slimRepeat_any (x k : NodeX) (hkind : x.kind = 6) (hkids : x.kids = [k]) (HS : SlimC k) (P : Nat → Prop) (W : World) (hx : GoodN W P x) (hwf : WF k.t) :
    Calls Tryz.prog 85 #[.agg (nodeC x)] W fun e w' => ∃ y, e = .returned (.agg (nodeC y)) ∧ y.t = slimT (.rep k.t x.mn x.mx) ∧ GoodN w' (fun q => P q ∨ W.heap.size ≤ q) y ∧ Below W.heap.size W w' := by
  have K0 := (Blk.new W 97 (nodeC x)).alloc (.cells #[.int .i64 0, .int .u64 0, .int .u64 0, .int .u64 0, .int .u64 0, .int .i64 0, .int .i64 0, .slice none 0 0] 97)
  have K1 : Blk ((W.alloc (.cells (nodeC x) 97)).alloc (.cells #[.int .i64 0, .int .u64 0, .int .u64 0, .int .u64 0, .int .u64 0, .int .i64 0, .int .i64 0, .slice none 0 0] 97)) (W.heap.size + 1) 97 (nodeC nilX) := new_at _ _ _ _ (by simp)
  obtain ⟨⟨a0, a1, a2, a3, a4, a5, a6, a7⟩, _⟩ := node_cells K0
  obtain ⟨⟨d0, d1, d2, d3, d4, d5, d6, d7⟩, f0, f1, f2, f3, f4, f5, f6, f7⟩ := node_cells K1
  have hPP : GoodN W (fun g => P g ∧ g < W.heap.size) x := hx.weaken (fun g h1 h2 => ⟨h1, h2⟩)
  have hrow := hPP.row
  have hkid := hPP.kid (y := k) (by rw [hkids]; simp)
  have hBB : Below W.heap.size W ((W.alloc (.cells (nodeC x) 97)).alloc (.cells #[.int .i64 0, .int .u64 0, .int .u64 0, .int .u64 0, .int .u64 0, .int .i64 0, .int .i64 0, .slice none 0 0] 97)) := ((Below.refl _ _).alloc (Nat.le_refl _) _).alloc (by simp) _
  have hSZ : ((W.alloc (.cells (nodeC x) 97)).alloc (.cells #[.int .i64 0, .int .u64 0, .int .u64 0, .int .u64 0, .int .u64 0, .int .i64 0, .int .i64 0, .slice none 0 0] 97)).heap.size = W.heap.size + 2 := by simp
  have HK0 := Lib.hid K0
  have HK1 := Lib.hid K1
  have HBB := Lib.hid hBB
  have HSZ := Lib.hid hSZ
  obtain ⟨W2, hW2⟩ : ∃ z, (W.alloc (.cells (nodeC x) 97)).alloc (.cells #[.int .i64 0, .int .u64 0, .int .u64 0, .int .u64 0, .int .u64 0, .int .i64 0, .int .i64 0, .slice none 0 0] 97) = z := ⟨_, rfl⟩
  rw [hW2] at HK0 HK1 HBB HSZ hSZ a0 a1 a2 a3 a4 a5 a6 a7 d0 d1 d2 d3 d4 d5 d6 d7 f0 f1 f2 f3 f4 f5 f6 f7
  have HW2 := Lib.hid hW2
  clear K0 K1 hPP hBB hx hW2
  obtain ⟨xk, xs, xm, xx, xA, xn, xc, xl⟩ := x
  simp only [NodeX.kind, NodeX.set, NodeX.mn, NodeX.mx, NodeX.A, NodeX.n, NodeX.c, NodeX.kids] at hrow hkid a0 a1 a2 a3 a4 a5 a6 a7 hkind hkids ⊢
  subst hkind hkids
  have hl := hrow.1
  simp only [List.length_cons, List.length_nil, Nat.zero_add] at hl
  subst hl
  have SR := slim_rep k.t xm xx
  by_cases h0 : xx = 0
  · rw [if_pos h0] at SR
    have HSR := Lib.hid SR
    have HB8 := Lib.hid (eight_blk HK1.out nilX)
    unfold eight at HB8
    have g0 : (xx == 0) = true := by rw [h0]; rfl
    clear h0 SR hrow hkid hSZ HS hwf
    have hW2 := HW2.out
    go_enter Tryz.func85, Tryz.ntmps85
    go_wp2
    refine bodyPost_ret (results_cell_row rfl _ _ (W.heap.size + 1) 97 nilC (0, 0) _ rfl HB8.out Tryz.underlying97 rfl (by kernel_rfl)) rfl ?_
    exact ⟨nilX, rfl, HSR.out.symm, GoodN.nil _ _, below_eight HBB.out (by omega) _ _ _ _ _ _ _ _⟩
  · rw [if_neg h0] at SR
    have g0 : (xx == 0) = false := beq_eq_false_iff_ne.2 h0
    obtain ⟨b, off, rfl, hlt, hc⟩ := hrow.2 (by decide)
    have c0 := (HBB.out.cell (p := ⟨b, off + 0 * 8 + 0, none⟩) hlt).trans (hc 0 0 k rfl (by decide))
    have c1 := (HBB.out.cell (p := ⟨b, off + 0 * 8 + 1, none⟩) hlt).trans (hc 0 1 k rfl (by decide))
    have c2 := (HBB.out.cell (p := ⟨b, off + 0 * 8 + 2, none⟩) hlt).trans (hc 0 2 k rfl (by decide))
    have c3 := (HBB.out.cell (p := ⟨b, off + 0 * 8 + 3, none⟩) hlt).trans (hc 0 3 k rfl (by decide))
    have c4 := (HBB.out.cell (p := ⟨b, off + 0 * 8 + 4, none⟩) hlt).trans (hc 0 4 k rfl (by decide))
    have c5 := (HBB.out.cell (p := ⟨b, off + 0 * 8 + 5, none⟩) hlt).trans (hc 0 5 k rfl (by decide))
    have c6 := (HBB.out.cell (p := ⟨b, off + 0 * 8 + 6, none⟩) hlt).trans (hc 0 6 k rfl (by decide))
    have c7 := (HBB.out.cell (p := ⟨b, off + 0 * 8 + 7, none⟩) hlt).trans (hc 0 7 k rfl (by decide))
    simp only [nodeV, List.getElem?_cons_zero, List.getElem?_cons_succ, Nat.zero_mul, Nat.add_zero] at c0 c1 c2 c3 c4 c5 c6 c7
    have SC := Lib.hid (HS (fun g => P g ∧ g < W.heap.size) W2 (hkid.frame (by rw [hSZ]; omega) (fun g hq hg => HBB.out.block g hg)) hwf)
    have HSR := Lib.hid SR
    clear hc SR hrow hkid HS hSZ hwf
    have hW2 := HW2.out
    go_enter Tryz.func85, Tryz.ntmps85
    go_wp2_with fail
    clear hW2
    refine SC.out.mono ?_
    rintro e w1 ⟨y, rfl, hyt, hyg, hb1⟩
    rw [HSZ.out] at hyg hb1
    clear SC a0 a1 a2 a3 a4 a5 a6 a7 c0 c1 c2 c3 c4 c5 c6 c7 d0 d1 d2 d3 d4 d5 d6 d7 f0 f1 f2 f3 f4 f5 f6 f7
    have hs1 := hb1.size
    rw [HSZ.out] at hs1
    have hSZ := HSZ.out
    have hB1 : Below W.heap.size W w1 := HBB.out.trans (hb1.mono (by omega))
    have k0 := HK0.out.below hb1 (by omega)
    have k1 := HK1.out.below hb1 (by omega)
    obtain ⟨w2, hw2⟩ : ∃ w2, w1.alloc (.cells #[.int .i64 y.kind, .int .u64 (word y.set 0 : Nat), .int .u64 (word y.set 1 : Nat), .int .u64 (word y.set 2 : Nat), .int .u64 (word y.set 3 : Nat), .int .i64 y.mn, .int .i64 y.mx, .slice y.A y.n y.c] 97) = w2 := ⟨_, rfl⟩
    have hsz2 : w2.heap.size = w1.heap.size + 1 := by rw [← hw2]; simp
    have hfar : ∀ g, g < w1.heap.size → w2.heap[g]? = w1.heap[g]? := fun g hg => by rw [← hw2]; exact ((Below.refl w1.heap.size w1).alloc (Nat.le_refl _) _).block g hg
    have KY : Blk w2 w1.heap.size 97 (nodeC y) := by rw [← hw2]; exact Blk.new _ _ _
    have j0 : Blk w2 W.heap.size 97 _ := (hfar _ (by omega)).trans k0
    have j1 : Blk w2 (W.heap.size + 1) 97 _ := (hfar _ (by omega)).trans k1
    have hyg2 : GoodN w2 (fun g => (P g ∧ g < W.heap.size) ∨ W.heap.size + 2 ≤ g) y := hyg.frame (by omega) (fun g _ hg => hfar g hg)
    have hB2 : Below W.heap.size W w2 := by rw [← hw2]; exact hB1.alloc (by omega) _
    obtain ⟨⟨e0, e1, e2, e3, e4, e5, e6, e7⟩, _⟩ := node_cells KY
    obtain ⟨⟨a0, a1, a2, a3, a4, a5, a6, a7⟩, _⟩ := node_cells j0
    obtain ⟨⟨r0, r1, r2, r3, r4, r5, r6, r7⟩, f0, f1, f2, f3, f4, f5, f6, f7⟩ := node_cells j1
    simp only [NodeX.kind, NodeX.set, NodeX.mn, NodeX.mx, NodeX.A, NodeX.n, NodeX.c, NodeX.kids] at a0 a1 a2 a3 a4 a5 a6 a7
    have HYT := Lib.hid hyt
    have HYG := Lib.hid hyg2
    have HB2 := Lib.hid hB2
    have HJ1 := Lib.hid j1
    have HS2 := Lib.hid hsz2
    have HKY := Lib.hid KY
    have hsz3 : W.heap.size + 2 ≤ w2.heap.size := by omega
    have hnk : nilK y.t = (y.kind == 0) := by unfold nilK; rw [NodeX.t_kind]
    rw [← hyt, hnk] at HSR
    rw [nodeC_is y]
    clear k0 k1 hyt hyg hb1 hB1 hfar KY j0 j1 hyg2 hB2 hnk hSZ hsz2
    by_cases hk0 : y.kind = 0
    · have g1 : (y.kind == 0) = true := by rw [hk0]; rfl
      rw [if_pos (.inl g1)] at HSR
      clear hk0
      have HX := Lib.hid (show GoodN (eight w2 (W.heap.size + 1) y) (fun q => P q ∨ W.heap.size ≤ q) y from (HYG.out.frame (by rw [eight_size]; exact Nat.le_refl _) (fun g hq _ => eight_far (by
        rcases hq with h1 | h1
        · have := h1.2; omega
        · omega) y)).weaken (fun g hq _ => by
        rcases hq with h1 | h1
        · exact .inl h1.1
        · exact .inr (by omega)))
      have HB8 := Lib.hid (eight_blk HJ1.out y)
      unfold eight at HB8 HX
      go_wp2
      refine bodyPost_ret (results_cell_row rfl _ _ (W.heap.size + 1) 97 (nodeC y) (0, 0) _ rfl HB8.out Tryz.underlying97 rfl (by kernel_rfl)) rfl ?_
      exact ⟨y, rfl, HSR.out.symm, HX.out, below_eight HB2.out (by omega) _ _ _ _ _ _ _ _⟩
    · have g1 : (y.kind == 0) = false := beq_eq_false_iff_ne.2 hk0
      by_cases hm : xm = 1
      · have g2 : (xm == 1) = true := by rw [hm]; rfl
        by_cases hxx : xx = 1
        · have g3 : (xx == 1) = true := by rw [hxx]; rfl
          rw [if_pos (.inr ⟨hm, hxx⟩)] at HSR
          clear hm hxx
          have HX := Lib.hid (show GoodN (eight w2 (W.heap.size + 1) y) (fun q => P q ∨ W.heap.size ≤ q) y from (HYG.out.frame (by rw [eight_size]; exact Nat.le_refl _) (fun g hq _ => eight_far (by
            rcases hq with h1 | h1
            · have := h1.2; omega
            · omega) y)).weaken (fun g hq _ => by
            rcases hq with h1 | h1
            · exact .inl h1.1
            · exact .inr (by omega)))
          have HB8 := Lib.hid (eight_blk HJ1.out y)
          unfold eight at HB8 HX
          go_wp2
          refine bodyPost_ret (results_cell_row rfl _ _ (W.heap.size + 1) 97 (nodeC y) (0, 0) _ rfl HB8.out Tryz.underlying97 rfl (by kernel_rfl)) rfl ?_
          exact ⟨y, rfl, HSR.out.symm, HX.out, below_eight HB2.out (by omega) _ _ _ _ _ _ _ _⟩
        · have g3 : (xx == 1) = false := beq_eq_false_iff_ne.2 hxx
          rw [if_neg (by rintro (h1 | ⟨h1, h2⟩); exact absurd h1 (by rw [g1]; decide); exact hxx h2)] at HSR
          clear hm hxx
          obtain ⟨v, hv⟩ : ∃ v, NodeX.mk 6 0 xm xx (some ⟨w2.heap.size, 0, none⟩) 1 1 [y] = v := ⟨_, rfl⟩
          have hvC : nodeC v = #[.int .i64 6, .int .u64 0, .int .u64 0, .int .u64 0, .int .u64 0, .int .i64 xm, .int .i64 xx, .slice (some ⟨w2.heap.size, 0, none⟩) 1 1] := by rw [← hv]; exact (mkX_c 6 xm xx (some ⟨w2.heap.size, 0, none⟩) 1 1 [y]).symm
          obtain ⟨w3, hw3⟩ : ∃ z, w2.alloc (.cells #[.int .i64 y.kind, .int .u64 (word y.set 0 : Nat), .int .u64 (word y.set 1 : Nat), .int .u64 (word y.set 2 : Nat), .int .u64 (word y.set 3 : Nat), .int .i64 y.mn, .int .i64 y.mx, .slice y.A y.n y.c] 97) = z := ⟨_, rfl⟩
          have hj1 : Blk w3 (W.heap.size + 1) 97 (nodeC nilX) := by rw [← hw3]; exact HJ1.out.alloc _
          obtain ⟨⟨_, _, _, _, _, _, _, _⟩, t0, t1, t2, t3, t4, t5, t6, t7⟩ := node_cells hj1
          have HOW := Lib.hid (show OwnR nodeV 8 w3 (W.heap.size + 2) 97 (.slice (some ⟨w2.heap.size, 0, none⟩) 1 1) [y] by rw [← hw3]; exact own_one w2 (W.heap.size + 2) y hsz3 w2.heap.size rfl)
          have HGY := Lib.hid (show GoodN w3 (fun g => (P g ∧ g < W.heap.size) ∨ W.heap.size + 2 ≤ g) y by rw [← hw3]; exact HYG.out.alloc _)
          have HBA := Lib.hid (show Below W.heap.size W w3 by rw [← hw3]; exact HB2.out.alloc (by omega) _)
          have hb8 := set8 (y0 := .int .i64 0) (y1 := .int .u64 (word 0 0 : Nat)) (y2 := .int .u64 (word 0 1 : Nat)) (y3 := .int .u64 (word 0 2 : Nat)) (y4 := .int .u64 (word 0 3 : Nat)) (y5 := .int .i64 0) (y6 := .int .i64 0) (y7 := .slice none 0 0) hj1 (.int .i64 6) (.int .u64 0) (.int .u64 0) (.int .u64 0) (.int .u64 0) (.int .i64 xm) (.int .i64 xx) (.slice (some ⟨w2.heap.size, 0, none⟩) 1 1)
          rw [← hvC] at hb8
          have HB8 := Lib.hid hb8
          have HV := Lib.hid hv
          clear hb8 hvC hv hj1
          go_wp2
          refine bodyPost_ret (results_cell_row rfl _ _ (W.heap.size + 1) 97 (nodeC v) (0, 0) _ rfl HB8.out Tryz.underlying97 rfl (by kernel_rfl)) rfl ?_
          refine ⟨v, rfl, ?_, ?_, below_eight HBA.out (by omega) _ _ _ _ _ _ _ _⟩
          · rw [← HV.out, HSR.out]
            rfl
          · rw [← HV.out]
            have hrow : RowR nodeV 8 w3 (some ⟨w2.heap.size, 0, none⟩) 1 [y] := by
              obtain ⟨A9, c9, e9, _, _, r9⟩ := OwnR.open nodeV_len HOW.out
              injection e9 with e9 _ _
              rw [e9]
              exact r9
            refine GoodN.mk (by decide) (fun e => by cases e) ⟨Nat.le_refl _, by decide⟩ (hrow.frame (by simp) (fun h0 a ha hlt => far_eight (by
              injection ha with ha
              subst ha
              show w2.heap.size ≠ W.heap.size + 1
              omega) _ _ _ _ _ _ _ _)) (fun h0 a ha => by
              injection ha with ha
              subst ha
              right
              show W.heap.size ≤ w2.heap.size
              omega) (fun z hz => ?_)
            rw [List.mem_singleton] at hz
            subst hz
            refine (HGY.out.frame (by simp) (fun g hq _ => far_eight (by
              rcases hq with h1 | h1
              · have := h1.2; omega
              · omega) _ _ _ _ _ _ _ _)).weaken (fun g hq _ => by
              rcases hq with h1 | h1
              · exact .inl h1.1
              · exact .inr (by omega))
      · have g2 : (xm == 1) = false := beq_eq_false_iff_ne.2 hm
        rw [if_neg (by rintro (h1 | ⟨h1, h2⟩); exact absurd h1 (by rw [g1]; decide); exact hm h1)] at HSR
        obtain ⟨v, hv⟩ : ∃ v, NodeX.mk 6 0 xm xx (some ⟨w2.heap.size, 0, none⟩) 1 1 [y] = v := ⟨_, rfl⟩
        have hvC : nodeC v = #[.int .i64 6, .int .u64 0, .int .u64 0, .int .u64 0, .int .u64 0, .int .i64 xm, .int .i64 xx, .slice (some ⟨w2.heap.size, 0, none⟩) 1 1] := by rw [← hv]; exact (mkX_c 6 xm xx (some ⟨w2.heap.size, 0, none⟩) 1 1 [y]).symm
        obtain ⟨w3, hw3⟩ : ∃ z, w2.alloc (.cells #[.int .i64 y.kind, .int .u64 (word y.set 0 : Nat), .int .u64 (word y.set 1 : Nat), .int .u64 (word y.set 2 : Nat), .int .u64 (word y.set 3 : Nat), .int .i64 y.mn, .int .i64 y.mx, .slice y.A y.n y.c] 97) = z := ⟨_, rfl⟩
        have hj1 : Blk w3 (W.heap.size + 1) 97 (nodeC nilX) := by rw [← hw3]; exact HJ1.out.alloc _
        obtain ⟨⟨_, _, _, _, _, _, _, _⟩, t0, t1, t2, t3, t4, t5, t6, t7⟩ := node_cells hj1
        have HOW := Lib.hid (show OwnR nodeV 8 w3 (W.heap.size + 2) 97 (.slice (some ⟨w2.heap.size, 0, none⟩) 1 1) [y] by rw [← hw3]; exact own_one w2 (W.heap.size + 2) y hsz3 w2.heap.size rfl)
        have HGY := Lib.hid (show GoodN w3 (fun g => (P g ∧ g < W.heap.size) ∨ W.heap.size + 2 ≤ g) y by rw [← hw3]; exact HYG.out.alloc _)
        have HBA := Lib.hid (show Below W.heap.size W w3 by rw [← hw3]; exact HB2.out.alloc (by omega) _)
        have hb8 := set8 (y0 := .int .i64 0) (y1 := .int .u64 (word 0 0 : Nat)) (y2 := .int .u64 (word 0 1 : Nat)) (y3 := .int .u64 (word 0 2 : Nat)) (y4 := .int .u64 (word 0 3 : Nat)) (y5 := .int .i64 0) (y6 := .int .i64 0) (y7 := .slice none 0 0) hj1 (.int .i64 6) (.int .u64 0) (.int .u64 0) (.int .u64 0) (.int .u64 0) (.int .i64 xm) (.int .i64 xx) (.slice (some ⟨w2.heap.size, 0, none⟩) 1 1)
        rw [← hvC] at hb8
        have HB8 := Lib.hid hb8
        have HV := Lib.hid hv
        clear hb8 hvC hv hj1
        go_wp2
        refine bodyPost_ret (results_cell_row rfl _ _ (W.heap.size + 1) 97 (nodeC v) (0, 0) _ rfl HB8.out Tryz.underlying97 rfl (by kernel_rfl)) rfl ?_
        refine ⟨v, rfl, ?_, ?_, below_eight HBA.out (by omega) _ _ _ _ _ _ _ _⟩
        · rw [← HV.out, HSR.out]
          rfl
        · rw [← HV.out]
          have hrow : RowR nodeV 8 w3 (some ⟨w2.heap.size, 0, none⟩) 1 [y] := by
            obtain ⟨A9, c9, e9, _, _, r9⟩ := OwnR.open nodeV_len HOW.out
            injection e9 with e9 _ _
            rw [e9]
            exact r9
          refine GoodN.mk (by decide) (fun e => by cases e) ⟨Nat.le_refl _, by decide⟩ (hrow.frame (by simp) (fun h0 a ha hlt => far_eight (by
            injection ha with ha
            subst ha
            show w2.heap.size ≠ W.heap.size + 1
            omega) _ _ _ _ _ _ _ _)) (fun h0 a ha => by
            injection ha with ha
            subst ha
            right
            show W.heap.size ≤ w2.heap.size
            omega) (fun z hz => ?_)
          rw [List.mem_singleton] at hz
          subst hz
          refine (HGY.out.frame (by simp) (fun g hq _ => far_eight (by
            rcases hq with h1 | h1
            · have := h1.2; omega
            · omega) _ _ _ _ _ _ _ _)).weaken (fun g hq _ => by
            rcases hq with h1 | h1
            · exact .inl h1.1
            · exact .inr (by omega))
theorem wf_parts {x : NodeX} (h : WF x.t) : (x.kind ≤ 3 ∧ 0 ≤ x.kind ∧ slimT x.t = x.t) ∨ (x.kind = 4 ∧ x.t = .mk 4 0 0 0 (x.kids.map NodeX.t) ∧ ∀ y, y ∈ x.kids → WF y.t) ∨ (x.kind = 5 ∧ x.t = .mk 5 0 0 0 (x.kids.map NodeX.t) ∧ ∀ y, y ∈ x.kids → WF y.t) ∨ (x.kind = 6 ∧ ∃ k, x.kids = [k] ∧ x.t = .rep k.t x.mn x.mx ∧ WF k.t) := by
  obtain ⟨xk, xs, xm, xx, xA, xn, xc, xl⟩ := x
  simp only [NodeX.kind, NodeX.set, NodeX.mn, NodeX.mx, NodeX.A, NodeX.n, NodeX.c, NodeX.kids]
  have e : (NodeX.mk xk xs xm xx xA xn xc xl).t = .mk xk xs xm xx (xl.map NodeX.t) := by rw [NodeX.t, NodeX.ts_map]
  rw [e] at h ⊢
  generalize hl : xl.map NodeX.t = l at h ⊢
  cases h with
  | nil => left; exact ⟨by decide, by decide, by rw [slimT]; rfl⟩
  | one S => left; exact ⟨by decide, by decide, by rw [slimT]; rfl⟩
  | beg => left; exact ⟨by decide, by decide, by rw [slimT]; rfl⟩
  | fin => left; exact ⟨by decide, by decide, by rw [slimT]; rfl⟩
  | cat h => right; left; exact ⟨rfl, rfl, fun y hy => h _ (by rw [← hl]; exact List.mem_map.2 ⟨y, hy, rfl⟩)⟩
  | alt h0 h => right; right; left; exact ⟨rfl, rfl, fun y hy => h _ (by rw [← hl]; exact List.mem_map.2 ⟨y, hy, rfl⟩)⟩
  | rep hx h0 hn =>
    right; right; right
    refine ⟨rfl, ?_⟩
    match xl, hl with
    | [k], hl =>
      rw [List.map_cons, List.map_nil] at hl
      injection hl with hl
      exact ⟨k, rfl, by rw [NodeT.rep, hl], by rw [hl]; exact hx⟩
set_option maxRecDepth 100000 in
set_option maxHeartbeats 1600000 in
theorem slim_step (x : NodeX) (HS : ∀ y, y ∈ x.kids → SlimC y) : SlimC x := by
  intro P W hx hwf
  have K0 := (Blk.new W 97 (nodeC x)).alloc (.cells #[.int .i64 0, .int .u64 0, .int .u64 0, .int .u64 0, .int .u64 0, .int .i64 0, .int .i64 0, .slice none 0 0] 97)
  have K1 : Blk ((W.alloc (.cells (nodeC x) 97)).alloc (.cells #[.int .i64 0, .int .u64 0, .int .u64 0, .int .u64 0, .int .u64 0, .int .i64 0, .int .i64 0, .slice none 0 0] 97)) (W.heap.size + 1) 97 (nodeC nilX) := new_at _ _ _ _ (by simp)
  obtain ⟨⟨a0, a1, a2, a3, a4, a5, a6, a7⟩, _⟩ := node_cells K0
  have hBB : Below W.heap.size W ((W.alloc (.cells (nodeC x) 97)).alloc (.cells #[.int .i64 0, .int .u64 0, .int .u64 0, .int .u64 0, .int .u64 0, .int .i64 0, .int .i64 0, .slice none 0 0] 97)) := ((Below.refl _ _).alloc (Nat.le_refl _) _).alloc (by simp) _
  have hSZ : ((W.alloc (.cells (nodeC x) 97)).alloc (.cells #[.int .i64 0, .int .u64 0, .int .u64 0, .int .u64 0, .int .u64 0, .int .i64 0, .int .i64 0, .slice none 0 0] 97)).heap.size = W.heap.size + 2 := by simp
  have hgx : GoodN ((W.alloc (.cells (nodeC x) 97)).alloc (.cells #[.int .i64 0, .int .u64 0, .int .u64 0, .int .u64 0, .int .u64 0, .int .i64 0, .int .i64 0, .slice none 0 0] 97)) (fun g => P g ∧ g < W.heap.size) x := (hx.weaken (fun g h1 h2 => ⟨h1, h2⟩)).later hBB
  obtain ⟨W2, hW2⟩ : ∃ z, (W.alloc (.cells (nodeC x) 97)).alloc (.cells #[.int .i64 0, .int .u64 0, .int .u64 0, .int .u64 0, .int .u64 0, .int .i64 0, .int .i64 0, .slice none 0 0] 97) = z := ⟨_, rfl⟩
  rw [hW2] at K0 K1 hBB hSZ hgx a0 a1 a2 a3 a4 a5 a6 a7
  have HK1 := Lib.hid K1
  have HBB := Lib.hid hBB
  have HSZ := Lib.hid hSZ
  rcases wf_parts hwf with ⟨h3, h0, hs⟩ | ⟨h4, ht, hk⟩ | ⟨h5, ht, hk⟩ | ⟨h6, k, hkk, ht, hk⟩
  · have g4 : (x.kind == 4) = false := beq_eq_false_iff_ne.2 (by omega)
    have g5 : (x.kind == 5) = false := beq_eq_false_iff_ne.2 (by omega)
    have g6 : (x.kind == 6) = false := beq_eq_false_iff_ne.2 (by omega)
    obtain ⟨⟨r0, r1, r2, r3, r4, r5, r6, r7⟩, f0, f1, f2, f3, f4, f5, f6, f7⟩ := node_cells K1
    have HB8 := Lib.hid (eight_blk K1 x)
    have HX := Lib.hid (show GoodN (eight W2 (W.heap.size + 1) x) (fun q => P q ∨ W.heap.size ≤ q) x from (hgx.frame (by rw [eight_size]; exact Nat.le_refl _) (fun g hq _ => eight_far (by have := hq.2; omega) x)).weaken (fun g hq _ => .inl hq.1))
    have HST := Lib.hid hs
    unfold eight at HB8 HX
    clear hgx hBB hSZ K0 K1 hs hwf hx HS h3 h0
    go_enter Tryz.func60, Tryz.ntmps60
    go_wp2
    refine bodyPost_ret (results_cell_row rfl _ _ (W.heap.size + 1) 97 (nodeC x) (0, 0) _ rfl HB8.out Tryz.underlying97 rfl (by kernel_rfl)) rfl ?_
    exact ⟨x, rfl, HST.out.symm, HX.out, below_eight HBB.out (by omega) _ _ _ _ _ _ _ _⟩
  · rw [ht]
    have L1 := slimCat_any x h4 HS (fun g => P g ∧ g < W.heap.size) W2 hgx hk
    have g4 : (x.kind == 4) = true := by rw [h4]; rfl
    have g5 : (x.kind == 5) = false := by rw [h4]; rfl
    have g6 : (x.kind == 6) = false := by rw [h4]; rfl
    clear hgx hBB hSZ K0 K1 hwf hx HS hk ht h4
    have C1 := Lib.hid (L1)
    clear L1
    go_enter Tryz.func60, Tryz.ntmps60
    go_wp2_with fail
    clear hW2
    refine C1.out.mono ?_
    rintro e w1 ⟨y, rfl, hyt, hyg, hb1⟩
    rw [nodeC_is y]
    have hs1 := hb1.size
    rw [HSZ.out] at hs1
    have k1 := HK1.out.below hb1 (by have := HSZ.out; omega)
    obtain ⟨⟨r0, r1, r2, r3, r4, r5, r6, r7⟩, f0, f1, f2, f3, f4, f5, f6, f7⟩ := node_cells k1
    have HB8 := Lib.hid (eight_blk k1 y)
    have HBW := Lib.hid (HBB.out.trans (hb1.mono (by have := HSZ.out; omega)))
    have HX := Lib.hid (show GoodN (eight w1 (W.heap.size + 1) y) (fun q => P q ∨ W.heap.size ≤ q) y from (hyg.frame (by rw [eight_size]; exact Nat.le_refl _) (fun g hq _ => eight_far (by
      have h9 := HSZ.out
      rcases hq with h1 | h1
      · have := h1.2; omega
      · omega) y)).weaken (fun g hq _ => by
      have h9 := HSZ.out
      rcases hq with h1 | h1
      · exact .inl h1.1
      · exact .inr (by omega)))
    have HYT := Lib.hid hyt
    unfold eight at HB8 HX
    clear hyg hb1 k1 hyt C1
    go_wp2
    refine bodyPost_ret (results_cell_row rfl _ _ (W.heap.size + 1) 97 (nodeC y) (0, 0) _ rfl HB8.out Tryz.underlying97 rfl (by kernel_rfl)) rfl ?_
    exact ⟨y, rfl, HYT.out, HX.out, below_eight HBW.out (by omega) _ _ _ _ _ _ _ _⟩
  · rw [ht]
    have L1 := slimAlt_any x h5 HS (fun g => P g ∧ g < W.heap.size) W2 hgx hk
    have g4 : (x.kind == 4) = false := by rw [h5]; rfl
    have g5 : (x.kind == 5) = true := by rw [h5]; rfl
    have g6 : (x.kind == 6) = false := by rw [h5]; rfl
    clear hgx hBB hSZ K0 K1 hwf hx HS hk ht h5
    have C1 := Lib.hid (L1)
    clear L1
    go_enter Tryz.func60, Tryz.ntmps60
    go_wp2_with fail
    clear hW2
    refine C1.out.mono ?_
    rintro e w1 ⟨y, rfl, hyt, hyg, hb1⟩
    rw [nodeC_is y]
    have hs1 := hb1.size
    rw [HSZ.out] at hs1
    have k1 := HK1.out.below hb1 (by have := HSZ.out; omega)
    obtain ⟨⟨r0, r1, r2, r3, r4, r5, r6, r7⟩, f0, f1, f2, f3, f4, f5, f6, f7⟩ := node_cells k1
    have HB8 := Lib.hid (eight_blk k1 y)
    have HBW := Lib.hid (HBB.out.trans (hb1.mono (by have := HSZ.out; omega)))
    have HX := Lib.hid (show GoodN (eight w1 (W.heap.size + 1) y) (fun q => P q ∨ W.heap.size ≤ q) y from (hyg.frame (by rw [eight_size]; exact Nat.le_refl _) (fun g hq _ => eight_far (by
      have h9 := HSZ.out
      rcases hq with h1 | h1
      · have := h1.2; omega
      · omega) y)).weaken (fun g hq _ => by
      have h9 := HSZ.out
      rcases hq with h1 | h1
      · exact .inl h1.1
      · exact .inr (by omega)))
    have HYT := Lib.hid hyt
    unfold eight at HB8 HX
    clear hyg hb1 k1 hyt C1
    go_wp2
    refine bodyPost_ret (results_cell_row rfl _ _ (W.heap.size + 1) 97 (nodeC y) (0, 0) _ rfl HB8.out Tryz.underlying97 rfl (by kernel_rfl)) rfl ?_
    exact ⟨y, rfl, HYT.out, HX.out, below_eight HBW.out (by omega) _ _ _ _ _ _ _ _⟩
  · rw [ht]
    have L1 := slimRepeat_any x k h6 hkk (HS k (by rw [hkk]; simp)) (fun g => P g ∧ g < W.heap.size) W2 hgx hk
    have g4 : (x.kind == 4) = false := by rw [h6]; rfl
    have g5 : (x.kind == 5) = false := by rw [h6]; rfl
    have g6 : (x.kind == 6) = true := by rw [h6]; rfl
    clear hgx hBB hSZ K0 K1 hwf hx HS hk hkk ht h6
    have C1 := Lib.hid (L1)
    clear L1
    go_enter Tryz.func60, Tryz.ntmps60
    go_wp2_with fail
    clear hW2
    refine C1.out.mono ?_
    rintro e w1 ⟨y, rfl, hyt, hyg, hb1⟩
    rw [nodeC_is y]
    have hs1 := hb1.size
    rw [HSZ.out] at hs1
    have k1 := HK1.out.below hb1 (by have := HSZ.out; omega)
    obtain ⟨⟨r0, r1, r2, r3, r4, r5, r6, r7⟩, f0, f1, f2, f3, f4, f5, f6, f7⟩ := node_cells k1
    have HB8 := Lib.hid (eight_blk k1 y)
    have HBW := Lib.hid (HBB.out.trans (hb1.mono (by have := HSZ.out; omega)))
    have HX := Lib.hid (show GoodN (eight w1 (W.heap.size + 1) y) (fun q => P q ∨ W.heap.size ≤ q) y from (hyg.frame (by rw [eight_size]; exact Nat.le_refl _) (fun g hq _ => eight_far (by
      have h9 := HSZ.out
      rcases hq with h1 | h1
      · have := h1.2; omega
      · omega) y)).weaken (fun g hq _ => by
      have h9 := HSZ.out
      rcases hq with h1 | h1
      · exact .inl h1.1
      · exact .inr (by omega)))
    have HYT := Lib.hid hyt
    unfold eight at HB8 HX
    clear hyg hb1 k1 hyt C1
    go_wp2
    refine bodyPost_ret (results_cell_row rfl _ _ (W.heap.size + 1) 97 (nodeC y) (0, 0) _ rfl HB8.out Tryz.underlying97 rfl (by kernel_rfl)) rfl ?_
    exact ⟨y, rfl, HYT.out, HX.out, below_eight HBW.out (by omega) _ _ _ _ _ _ _ _⟩
theorem slim_all : ∀ (m : Nat) (x : NodeX), SizeOf.sizeOf x < m → SlimC x := by
  intro m
  induction m with
  | zero => exact fun x h => absurd h (Nat.not_lt_zero _)
  | succ m ih =>
    intro x h
    refine slim_step x (fun y hy => ih y ?_)
    have h1 := List.sizeOf_lt_of_mem hy
    cases x
    simp [NodeX.kids] at h1 h
    omega
theorem slim_any (x : NodeX) : SlimC x := slim_all _ x (Nat.lt_succ_self _)
end Go.Proofs.YtbkpoimaienhpaaGreatDoor
