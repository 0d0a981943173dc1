-- shaken
import Derived.Test.YtbkpoimaienhpaaGreatDoorNfaFind
import Derived.Test.YtbkpoimaienhpaaGreatDoorNfaBuild
import Derived.Test.YtbkpoimaienhpaaGreatDoorRexRight
import Derived.Test.YtbkpoimaienhpaaGreatDoorRexTellD
import Derived.Test.YtbkpoimaienhpaaGreatDoorRexSize
import Derived.Test.YtbkpoimaienhpaaGreatDoorRexParse
import Derived.Test.YtbkpoimaienhpaaGreatDoorRexLaws
import Derived.Test.YtbkpoimaienhpaaGreatDoorMem
namespace Go.Proofs.YtbkpoimaienhpaaGreatDoor
open Go.RowKit
set_option linter.unusedVariables false
set_option linter.unusedSimpArgs false
theorem parseB_nf {l : List UInt8} {n : NodeT} {a e : Int} (h : parseB l = (n, a, e)) : NF n := by
  unfold parseB at h
  split at h
  · cases h; exact .nil
  · cases hx : exprP (l.length + 1) false l with
    | bad k => rw [hx] at h; cases h; exact .nil
    | ok m r =>
      rw [hx] at h
      replace h : (if 200 < sizeT m then (NodeT.nil, (l.length : Int) - (r.length : Int), (4 : Int)) else (m, (l.length : Int) - (r.length : Int), 0)) = (n, a, e) := h
      split at h
      · cases h; exact .nil
      · cases h; exact exprP_nf _ _ _ _ _ hx
set_option maxRecDepth 100000 in
set_option maxHeartbeats 3200000 in
theorem compile_any (x : NodeX) (P : Nat → Prop) (W : World) (hg : GoodN W P x) (hn : NF x.t) (hl : LibIs W) (h200 : sizeT x.t ≤ 200) (hlen : (putT x.t).length ≤ 1000000) :
    Calls Tryz.prog 43 #[.agg (nodeC x)] W fun e w' => ∃ b, e = .returned (.tuple #[.pointer (some ⟨b, 0, none⟩), .int .i64 0]) ∧ PrgAt w' b x.t ∧ W.heap.size ≤ b ∧ Below W.heap.size W w' := by
  have hgP : GoodN W (fun g => g < W.heap.size) x := hg.weaken (fun g _ h => h)
  have K0 := Blk.new W 97 (nodeC x)
  have hb0 : Below W.heap.size W (W.alloc (.cells (nodeC x) 97)) := (Below.refl _ _).alloc (Nat.le_refl _) _
  have hsz0 : (W.alloc (.cells (nodeC x) 97)).heap.size = W.heap.size + 1 := by simp
  obtain ⟨W1, hW1⟩ : ∃ z, W.alloc (.cells (nodeC x) 97) = z := ⟨_, rfl⟩
  rw [hW1] at K0 hb0 hsz0
  obtain ⟨⟨a0, a1, a2, a3, a4, a5, a6, a7⟩, _⟩ := node_cells K0
  have hg1 := hgP.later hb0
  have RT := Lib.hid (right_rex x (fun g => g < W.heap.size) W1 hg1)
  rw [right_nf hn] at RT
  have HBW1 := Lib.hid hb0
  have HSZ := Lib.hid hsz0
  have HK := Lib.hid K0
  have HG1 := Lib.hid hg1
  have hN := Lib.hid hn
  have HL := Lib.hid (hl.below hb0)
  have HLEN := Lib.hid hlen
  have h201 : ¬ 200 < sizeT x.t := by omega
  have h202 : ¬ sizeT x.t > 200 := by omega
  clear K0 hb0 hsz0 hg1 hgP hg hn hl hlen
  go_enter Tryz.func43, Tryz.ntmps43
  go_wp2_with fail
  clear hW1
  refine RT.out.mono ?_
  rintro e w1 ⟨rfl, hb1⟩
  have k1 := HK.out.below hb1 HK.out.lt
  have SZ := Lib.hid (size_any x (fun g => g < W.heap.size) w1 (HG1.out.later hb1))
  have HB1 := Lib.hid hb1
  have HK1 := Lib.hid k1
  clear a0 a1 a2 a3 a4 a5 a6 a7 RT
  obtain ⟨⟨a0, a1, a2, a3, a4, a5, a6, a7⟩, _⟩ := node_cells k1
  clear hb1 k1
  go_wp2_with fail
  refine SZ.out.mono ?_
  rintro e w2 ⟨rfl, hb2⟩
  have k2 := HK1.out.below hb2 HK1.out.lt
  have hb12 := hop HB1.out (Nat.le_refl _) hb2
  have PT := Lib.hid (put_rex x (fun g => g < W.heap.size) w2 (HG1.out.later hb12) hN.out (HL.out.below hb12) (by have := HLEN.out; omega))
  have HB2 := Lib.hid hb12
  have HK2 := Lib.hid k2
  clear a0 a1 a2 a3 a4 a5 a6 a7 SZ hb12 hb2
  obtain ⟨⟨a0, a1, a2, a3, a4, a5, a6, a7⟩, _⟩ := node_cells k2
  clear k2
  go_wp2_with fail
  refine PT.out.mono ?_
  rintro e w3 ⟨⟨tx, rfl, htx⟩, hb3⟩
  have HTX := Lib.hid htx
  have hb13 := hop HB2.out (Nat.le_refl _) hb3
  have k3 := HK2.out.below hb3 HK2.out.lt
  obtain ⟨b, hb⟩ : ∃ b, w3.heap.size = b := ⟨_, rfl⟩
  obtain ⟨wq, hw0⟩ : ∃ z, w3.alloc (.cells #[.slice none 0 0, .int .i64 0, .int .i64 (sizeT x.t), .string tx] 110) = z := ⟨_, rfl⟩
  have hBN : W.heap.size < b := by have := hb13.size; have := HSZ.out; omega
  have HBN := Lib.hid hBN
  have HPG0 := Lib.hid (show PG W1.heap.size wq.drew b (.slice none 0 0) (.int .i64 0) (.int .i64 (sizeT x.t)) (.string tx) [] from ⟨by rw [← hw0, ← hb]; exact (Blk.new w3 _ _).drew, by rw [← hw0]; exact OwnR.nil _ _ _⟩)
  have HC0 := Lib.hid (show Below W1.heap.size W1 wq.drew by rw [← hw0]; exact (hb13.alloc (by have := hb13.size; exact this) _).drew)
  have HSB := Lib.hid (show Blk wq.drew W.heap.size 97 (nodeC x) by rw [← hw0]; exact (k3.alloc _).drew)
  have SL := Lib.hid (fun w (h : Below W1.heap.size W1 w) => slim_any x (fun g => g < W.heap.size) w (HG1.out.later h) hN.out.canB)
  clear a0 a1 a2 a3 a4 a5 a6 a7 PT htx hb13 k3 hb3
  go_wp2
  try rw [hb]
  try rw [hw0]
  clear hb hw0
  have S0 := HSB.out
  refine wp_region_held_drew (S := fun w' => Blk w' W.heap.size 97 (nodeC x)) (by kernel_rfl) S0 (fun hHeld => ?_)
  refine tV 0 ?_; refine tV 1 ?_; refine tV 2 ?_; refine tV 3 ?_
  refine tC 4 rfl (by intro w hSw; obtain ⟨⟨u0, u1, u2, u3, u4, u5, u6, u7⟩, _⟩ := node_cells hSw; first | (go_simp; done) | (go_simp; with_reducible rfl)) ?_
  refine tV 6 ?_; refine tV 7 ?_; refine tV 8 ?_; refine tV 9 ?_
  refine rdy [5, 10] ?_
  refine rdC (fun K hK => ?_) ?_
  · go_simp
    go_at_call 60
    refine (SL.out _ (by first | exact HC0.out | exact HCA.out)).mono ?_
    rintro e ws ⟨y, rfl, hyt, hyg, hyb⟩
    have HSK1 : Blk ws W.heap.size 97 (nodeC x) := HSB.out.below hyb (by have := HSB.out.lt; exact this)
    refine hK.out _ _ HSK1 (fun _ => ?_)
    clear hK K
    try simp only [Act.put, pz1, pz2, pz3]
    refine rdy [10] ?_
    refine rdC (fun K hK => ?_) AllReadyH.nil
    go_simp
    have hA : Below ws.heap.size ws (ws.alloc (.cells #[.int .i64 0, .int .u64 0, .int .u64 0, .int .u64 0, .int .u64 0, .int .i64 0, .int .i64 0] 131)) := (Below.refl _ _).alloc (Nat.le_refl _) _
    have hcells : ∀ (j : Nat) (u : Value), (stV doneS)[j]? = some u → (ws.alloc (.cells #[.int .i64 0, .int .u64 0, .int .u64 0, .int .u64 0, .int .u64 0, .int .i64 0, .int .i64 0] 131)).cell? ((⟨ws.heap.size, 0, none⟩ : Addr).add j) = some u := by
      have e0 : stV doneS = [.int .i64 0, .int .u64 0, .int .u64 0, .int .u64 0, .int .u64 0, .int .i64 0, .int .i64 0] := by simp [stV, doneS, word]
      rw [e0]
      exact new_cells ws 131 [.int .i64 0, .int .u64 0, .int .u64 0, .int .u64 0, .int .u64 0, .int .i64 0, .int .i64 0]
    obtain ⟨ga, hga⟩ : ∃ g, ws.heap.size = g := ⟨_, rfl⟩
    obtain ⟨wz, hwz⟩ : ∃ z, ws.alloc (.cells #[.int .i64 0, .int .u64 0, .int .u64 0, .int .u64 0, .int .u64 0, .int .i64 0, .int .i64 0] 131) = z := ⟨_, rfl⟩
    have HYT := Lib.hid hyt
    have HC := Lib.hid (show Below W1.heap.size W1 wz by rw [← hwz]; exact (hop HC0.out (Nat.le_refl _) hyb).alloc (by have := HC0.out.size; have := hyb.size; omega) _)
    have HPG := Lib.hid (show PG W1.heap.size wz b (.slice none 0 0) (.int .i64 0) (.int .i64 (sizeT x.t)) (.string tx) [] by rw [← hwz]; exact (HPG0.out.below hyb).below hA)
    have HGY := Lib.hid (show GoodN wz (fun g => g ≠ b ∧ ¬ some g = (Value.slice none 0 0).ownBlock) y by
      rw [← hwz]
      refine (hyg.alloc _).weaken (fun g hg _ => ⟨?_, fun e => by cases e⟩)
      have h1 := HBN.out
      have h2 := HPG0.out.lt
      rcases hg with h3 | h3 <;> omega)
    have HSK2 : Blk wz W.heap.size 97 (nodeC x) := by rw [← hwz]; exact HSK1.alloc _
    rw [hga, hwz] at hcells
    rw [hga, hwz]
    refine hK.out _ _ HSK2 (fun _ => ?_)
    clear hK K hA hyt hyg hyb hga hwz
    try simp only [Act.put, pz1, pz2, pz3]
    have hw := hN.out
    have AD := Lib.hid (nfaAdd_any W1.heap.size b (.slice none 0 0) (.int .i64 0) (.int .i64 (sizeT x.t)) (.string tx) [] doneS ⟨ga, 0, none⟩ 1 wz HPG.out hcells (by decide) (by have := HC.out.size; exact this))
    refine rdy [11] ?_
    refine rdC (fun K hK => ?_) AllReadyH.nil
    go_simp
    go_at_call 61
    refine (AD.out).mono ?_
    rintro e w3 ⟨v3, rfl, hp3, hk3⟩
    have HSK : Blk w3 W.heap.size 97 (nodeC x) := hk3.kept (by assumption) (fun e => by have := HBN.out; omega) (fun e => by cases e)
    refine hK.out _ _ HSK (fun _ => ?_)
    clear hK K
    try simp only [Act.put, pz1, pz2, pz3]
    have hgy3 := hk3.good HGY.out
    have hcn : cntT y.t ≤ 200 := by
      have h1 := slim_cnt hw.canB
      have h2 := size_cnt hw
      rw [HYT.out]
      omega
    have BD := Lib.hid (build_any y W1.heap.size b v3 (.int .i64 0) (.int .i64 (sizeT x.t)) (.string tx) [doneS] 0 w3 hgy3 (by rw [HYT.out]; exact (slimT_spec [] hw.canB).1) (by rw [HYT.out]; exact hw.low.slim) hp3 (by simp only [List.length_singleton]; omega) (by decide) (Nat.le_trans HC.out.size hk3.size))
    refine rdy [12] ?_
    refine rdC (fun K hK => ?_) AllReadyH.nil
    go_simp
    go_at_call 59
    refine (BD.out).mono ?_
    rintro e w4 ⟨v4, rfl, hp4, hk4⟩
    have HSK4 : Blk w4 W.heap.size 97 (nodeC x) := (hk3.trans hk4).kept (by assumption) (fun e => by have := HBN.out; omega) (fun e => by cases e)
    refine hK.out _ _ HSK4 (fun _ => ?_)
    clear hK K
    try simp only [Act.put, pz1, pz2, pz3]
    refine tV 13 ?_; refine tV 14 ?_
    refine rdy [15] ?_
    refine rdC (fun K hK => ?_) AllReadyH.nil
    have d1 := hp4.blk.cell 1
    have z1 := hp4.blk.frozen 1
    go_simp
    have HSK5 : Blk (w4.setCell ⟨b, 1, none⟩ (.int .i64 ((bldT y.t [doneS] 0).2 : Nat))) W.heap.size 97 (nodeC x) := HSK4.far (p := ⟨b, 1, none⟩) (by have := HBN.out; show W.heap.size ≠ b; omega) _
    refine hK.out _ _ HSK5 (fun _ => ?_)
    clear hK K
    try simp only [Act.put, pz1, pz2, pz3]
    refine wpAnyH_done (by kernel_rfl) ?_ _
    have hprog : bldT y.t [doneS] 0 = progT x.t := by unfold progT; rw [HYT.out]
    have hKG := hk3.trans hk4
    have hB4 : Below W.heap.size W w4 := KG.over (hop HBW1.out (Nat.le_refl _) HC.out) (Nat.le_refl _) hKG (fun k hk => by rw [hk]; have := HBN.out; omega) (fun k hk => by cases hk)
    have hPR : PrgAt (w4.setCell ⟨b, 1, none⟩ (.int .i64 ((bldT y.t [doneS] 0).2 : Nat))) b x.t := by
      refine ⟨hw, h200, W1.heap.size, v4, tx, ⟨?_, ?_⟩, HTX.out⟩
      · have := hp4.blk.set_ 1 (.int .i64 ((bldT y.t [doneS] 0).2 : Nat))
        rw [hprog] at this
        rw [hprog]
        exact this
      · have k9 : KG (fun k => k = b) w4 (.slice none 0 0) (w4.setCell ⟨b, 1, none⟩ (.int .i64 ((bldT y.t [doneS] 0).2 : Nat))) (.slice none 0 0) := KG.set (S := fun k => k = b) (p := ⟨b, 1, none⟩) (KG.refl _ _ _) rfl _
        have := k9.row hp4.row (fun k hk => ⟨fun e => hp4.nb (by rw [hk, e]), fun e => by cases e⟩)
        rw [← hprog]
        exact this
    have HPR := Lib.hid hPR
    have HB5 := Lib.hid (hB4.setCell (p := ⟨b, 1, none⟩) (by have := HBN.out; show W.heap.size ≤ b; omega) (.int .i64 ((bldT y.t [doneS] 0).2 : Nat)))
    have hbb : W.heap.size ≤ b := by have := HBN.out; omega
    clear hPR hB4 hKG hprog hp4 hk4 hp3 hk3 hHeld
    go_wp2
    go_ret2
    exact ⟨b, rfl, HPR.out, hbb, HB5.out⟩
  refine rdC (fun K hK => ?_) AllReadyH.nil
  · go_simp
    have hA : Below wq.drew.heap.size wq.drew (wq.alloc (.cells #[.int .i64 0, .int .u64 0, .int .u64 0, .int .u64 0, .int .u64 0, .int .i64 0, .int .i64 0] 131)).drew := by
      have h := (Below.refl wq.heap.size wq).alloc (Nat.le_refl _) (.cells #[.int .i64 0, .int .u64 0, .int .u64 0, .int .u64 0, .int .u64 0, .int .i64 0, .int .i64 0] 131)
      exact ⟨h.os, h.tape, h.output, h.size, h.block⟩
    have hcells0 : ∀ (j : Nat) (u : Value), (stV doneS)[j]? = some u → ((wq.alloc (.cells #[.int .i64 0, .int .u64 0, .int .u64 0, .int .u64 0, .int .u64 0, .int .i64 0, .int .i64 0] 131)).drew).cell? ((⟨wq.heap.size, 0, none⟩ : Addr).add j) = some u := by
      have e0 : stV doneS = [.int .i64 0, .int .u64 0, .int .u64 0, .int .u64 0, .int .u64 0, .int .i64 0, .int .i64 0] := by simp [stV, doneS, word]
      rw [e0]
      exact new_cells wq 131 [.int .i64 0, .int .u64 0, .int .u64 0, .int .u64 0, .int .u64 0, .int .i64 0, .int .i64 0]
    obtain ⟨ga, hga⟩ : ∃ g, wq.heap.size = g := ⟨_, rfl⟩
    obtain ⟨wz, hwz⟩ : ∃ z, (wq.alloc (.cells #[.int .i64 0, .int .u64 0, .int .u64 0, .int .u64 0, .int .u64 0, .int .i64 0, .int .i64 0] 131)).drew = z := ⟨_, rfl⟩
    have HCA := Lib.hid (show Below W1.heap.size W1 wz by rw [← hwz]; exact (show Below W1.heap.size W1 ((wq.alloc (.cells #[.int .i64 0, .int .u64 0, .int .u64 0, .int .u64 0, .int .u64 0, .int .i64 0, .int .i64 0] 131)).drew) from (show Below W1.heap.size W1 wq.drew from HC0.out).trans (hA.mono (by have := HC0.out.size; exact this))))
    have HPGA := Lib.hid (show PG W1.heap.size wz b (.slice none 0 0) (.int .i64 0) (.int .i64 (sizeT x.t)) (.string tx) [] by rw [← hwz]; exact HPG0.out.below hA)
    have HSK2 : Blk wz W.heap.size 97 (nodeC x) := by rw [← hwz]; exact (show Blk wq W.heap.size 97 (nodeC x) from HSB.out).alloc _
    have hgz : ga < wz.heap.size := by rw [← hwz]; show ga < (wq.alloc (.cells #[.int .i64 0, .int .u64 0, .int .u64 0, .int .u64 0, .int .u64 0, .int .i64 0, .int .i64 0] 131)).heap.size; rw [World.size_alloc]; omega
    rw [hga, hwz] at hcells0
    first | rw [hga, hwz] | (rw [hwz, hga]) | rw [hwz]
    refine hK.out _ _ HSK2 (fun _ => ?_)
    clear hK K hA hga hwz HC0
    try simp only [Act.put, pz1, pz2, pz3]
    refine rdy [5] ?_
    refine rdC (fun K hK => ?_) AllReadyH.nil
    go_simp
    go_at_call 60
    refine (SL.out _ (by first | exact HC0.out | exact HCA.out)).mono ?_
    rintro e ws ⟨y, rfl, hyt, hyg, hyb⟩
    have HSK1 : Blk ws W.heap.size 97 (nodeC x) := HSK2.below hyb (by have := HSK2.lt; exact this)
    have hcells : ∀ (j : Nat) (u : Value), (stV doneS)[j]? = some u → ws.cell? ((⟨ga, 0, none⟩ : Addr).add j) = some u := fun j u hj => (hyb.cell (p := (⟨ga, 0, none⟩ : Addr).add j) (by rw [ints_add]; exact hgz)).trans (hcells0 j u hj)
    have HYT := Lib.hid hyt
    have HC := Lib.hid (show Below W1.heap.size W1 ws from hop HCA.out (Nat.le_refl _) hyb)
    have HPG := Lib.hid (HPGA.out.below hyb)
    have HGY := Lib.hid (show GoodN ws (fun g => g ≠ b ∧ ¬ some g = (Value.slice none 0 0).ownBlock) y from hyg.weaken (fun g hg _ => ⟨by
      have h1 := HBN.out
      have h2 := HPGA.out.lt
      rcases hg with h3 | h3 <;> omega, fun e => by cases e⟩))
    refine hK.out _ _ HSK1 (fun _ => ?_)
    clear hK K hyt hyg hyb
    try simp only [Act.put, pz1, pz2, pz3]
    have hw := hN.out
    have AD := Lib.hid (nfaAdd_any W1.heap.size b (.slice none 0 0) (.int .i64 0) (.int .i64 (sizeT x.t)) (.string tx) [] doneS ⟨ga, 0, none⟩ 1 ws HPG.out hcells (by decide) (by have := HC.out.size; exact this))
    refine rdy [11] ?_
    refine rdC (fun K hK => ?_) AllReadyH.nil
    go_simp
    go_at_call 61
    refine (AD.out).mono ?_
    rintro e w3 ⟨v3, rfl, hp3, hk3⟩
    have HSK : Blk w3 W.heap.size 97 (nodeC x) := hk3.kept (by assumption) (fun e => by have := HBN.out; omega) (fun e => by cases e)
    refine hK.out _ _ HSK (fun _ => ?_)
    clear hK K
    try simp only [Act.put, pz1, pz2, pz3]
    have hgy3 := hk3.good HGY.out
    have hcn : cntT y.t ≤ 200 := by
      have h1 := slim_cnt hw.canB
      have h2 := size_cnt hw
      rw [HYT.out]
      omega
    have BD := Lib.hid (build_any y W1.heap.size b v3 (.int .i64 0) (.int .i64 (sizeT x.t)) (.string tx) [doneS] 0 w3 hgy3 (by rw [HYT.out]; exact (slimT_spec [] hw.canB).1) (by rw [HYT.out]; exact hw.low.slim) hp3 (by simp only [List.length_singleton]; omega) (by decide) (Nat.le_trans HC.out.size hk3.size))
    refine rdy [12] ?_
    refine rdC (fun K hK => ?_) AllReadyH.nil
    go_simp
    go_at_call 59
    refine (BD.out).mono ?_
    rintro e w4 ⟨v4, rfl, hp4, hk4⟩
    have HSK4 : Blk w4 W.heap.size 97 (nodeC x) := (hk3.trans hk4).kept (by assumption) (fun e => by have := HBN.out; omega) (fun e => by cases e)
    refine hK.out _ _ HSK4 (fun _ => ?_)
    clear hK K
    try simp only [Act.put, pz1, pz2, pz3]
    refine tV 13 ?_; refine tV 14 ?_
    refine rdy [15] ?_
    refine rdC (fun K hK => ?_) AllReadyH.nil
    have d1 := hp4.blk.cell 1
    have z1 := hp4.blk.frozen 1
    go_simp
    have HSK5 : Blk (w4.setCell ⟨b, 1, none⟩ (.int .i64 ((bldT y.t [doneS] 0).2 : Nat))) W.heap.size 97 (nodeC x) := HSK4.far (p := ⟨b, 1, none⟩) (by have := HBN.out; show W.heap.size ≠ b; omega) _
    refine hK.out _ _ HSK5 (fun _ => ?_)
    clear hK K
    try simp only [Act.put, pz1, pz2, pz3]
    refine wpAnyH_done (by kernel_rfl) ?_ _
    have hprog : bldT y.t [doneS] 0 = progT x.t := by unfold progT; rw [HYT.out]
    have hKG := hk3.trans hk4
    have hB4 : Below W.heap.size W w4 := KG.over (hop HBW1.out (Nat.le_refl _) HC.out) (Nat.le_refl _) hKG (fun k hk => by rw [hk]; have := HBN.out; omega) (fun k hk => by cases hk)
    have hPR : PrgAt (w4.setCell ⟨b, 1, none⟩ (.int .i64 ((bldT y.t [doneS] 0).2 : Nat))) b x.t := by
      refine ⟨hw, h200, W1.heap.size, v4, tx, ⟨?_, ?_⟩, HTX.out⟩
      · have := hp4.blk.set_ 1 (.int .i64 ((bldT y.t [doneS] 0).2 : Nat))
        rw [hprog] at this
        rw [hprog]
        exact this
      · have k9 : KG (fun k => k = b) w4 (.slice none 0 0) (w4.setCell ⟨b, 1, none⟩ (.int .i64 ((bldT y.t [doneS] 0).2 : Nat))) (.slice none 0 0) := KG.set (S := fun k => k = b) (p := ⟨b, 1, none⟩) (KG.refl _ _ _) rfl _
        have := k9.row hp4.row (fun k hk => ⟨fun e => hp4.nb (by rw [hk, e]), fun e => by cases e⟩)
        rw [← hprog]
        exact this
    have HPR := Lib.hid hPR
    have HB5 := Lib.hid (hB4.setCell (p := ⟨b, 1, none⟩) (by have := HBN.out; show W.heap.size ≤ b; omega) (.int .i64 ((bldT y.t [doneS] 0).2 : Nat)))
    have hbb : W.heap.size ≤ b := by have := HBN.out; omega
    clear hPR hB4 hKG hprog hp4 hk4 hp3 hk3 hHeld
    go_wp2
    go_ret2
    exact ⟨b, rfl, HPR.out, hbb, HB5.out⟩
theorem parseB_ok {l : List UInt8} {n : NodeT} {a : Int} (h : parseB l = (n, a, 0)) : NF n ∧ sizeT n ≤ 200 := by
  refine ⟨parseB_nf h, ?_⟩
  unfold parseB at h
  split at h
  · injection h with _ h; injection h with _ h; exact absurd h (by decide)
  · split at h
    · injection h with _ h; injection h with _ h; exact absurd h (by decide)
    · split at h
      · injection h with _ h; injection h with _ h; exact absurd h (by decide)
      · rename_i hs
        injection h with h _
        rw [← h]
        omega
theorem node_lit (w : World) (x : NodeX) : Blk (w.alloc (.cells #[.int .i64 x.kind, .int .u64 (word x.set 0 : Nat), .int .u64 (word x.set 1 : Nat), .int .u64 (word x.set 2 : Nat), .int .u64 (word x.set 3 : Nat), .int .i64 x.mn, .int .i64 x.mx, .slice x.A x.n x.c] 97)) w.heap.size 97 (nodeC x) := Blk.new w _ (nodeC x)
set_option maxRecDepth 100000 in
set_option maxHeartbeats 1600000 in
theorem of_ok (t : ByteArray) (X : NodeT) (a : Int) (W : World) (hl : LibIs W) (hp : parseB t.data.toList = (X, a, 0)) :
    Calls Tryz.prog 33 #[.string t] W fun e w' => ∃ b, e = .returned (.tuple #[.pointer (some ⟨b, 0, none⟩), .int .i64 a, .int .i64 0]) ∧ PrgAt w' b X ∧ W.heap.size ≤ b ∧ Below W.heap.size W w' := by
  have PR := Lib.hid (parse_rex t W hl)
  have HPB := Lib.hid hp
  obtain ⟨hn, h2⟩ := parseB_ok hp
  have HLN := Lib.hid (parse_putlen hp)
  have HN := Lib.hid hn
  have H2 := Lib.hid h2
  have HL := Lib.hid hl
  clear hl hp hn h2
  go_enter Tryz.func33, Tryz.ntmps33
  go_wp2_with fail
  refine PR.out.mono ?_
  rintro e w1 ⟨x, at', er, rfl, hpb, hg, hb⟩
  rw [HPB.out] at hpb
  injection hpb with hx hpb
  injection hpb with ha he
  subst ha he
  rw [nodeC_is x]
  have K1 := node_lit w1 x
  have hbA : Below w1.heap.size w1 (w1.alloc (.cells #[.int .i64 x.kind, .int .u64 (word x.set 0 : Nat), .int .u64 (word x.set 1 : Nat), .int .u64 (word x.set 2 : Nat), .int .u64 (word x.set 3 : Nat), .int .i64 x.mn, .int .i64 x.mx, .slice x.A x.n x.c] 97)) := (Below.refl _ _).alloc (Nat.le_refl _) _
  have hb2 := hop hb (Nat.le_refl _) hbA
  have CP := Lib.hid (compile_any x (fun g => W.heap.size ≤ g) _ (hg.later hbA) (by rw [← hx]; exact HN.out) (HL.out.below hb2) (by rw [← hx]; exact H2.out) (by rw [← hx]; have := HLN.out; omega))
  obtain ⟨⟨a0, a1, a2, a3, a4, a5, a6, a7⟩, _⟩ := node_cells K1
  have HB2 := Lib.hid hb2
  have HX := Lib.hid hx
  clear K1 hbA hb2 hg hb hx PR
  go_wp2_with fail
  refine CP.out.mono ?_
  rintro e w2 ⟨b, rfl, hpa, hbb, hb3⟩
  have HPA := Lib.hid hpa
  have HB3 := Lib.hid (hop HB2.out (Nat.le_refl _) hb3)
  have hbw : W.heap.size ≤ b := Nat.le_trans HB2.out.size hbb
  clear hpa hb3 CP a0 a1 a2 a3 a4 a5 a6 a7 hbb
  go_wp2
  go_ret3
  exact ⟨b, rfl, by rw [HX.out]; exact HPA.out, hbw, HB3.out⟩
set_option maxRecDepth 100000 in
set_option maxHeartbeats 1600000 in
theorem of_no (t : ByteArray) (X : NodeT) (a er : Int) (W : World) (hl : LibIs W) (hp : parseB t.data.toList = (X, a, er)) (he : er ≠ 0) :
    Calls Tryz.prog 33 #[.string t] W fun e w' => e = .returned (.tuple #[.pointer none, .int .i64 a, .int .i64 er]) ∧ Below W.heap.size W w' := by
  have PR := Lib.hid (parse_rex t W hl)
  have HPB := Lib.hid hp
  have g1 : (er == 0) = false := beq_eq_false_iff_ne.2 he
  have g2 : (er != 0) = true := by rw [bne, g1]; rfl
  clear hl hp
  go_enter Tryz.func33, Tryz.ntmps33
  go_wp2_with fail
  refine PR.out.mono ?_
  rintro e w1 ⟨x, at', er', rfl, hpb, hg, hb⟩
  rw [HPB.out] at hpb
  injection hpb with hx hpb
  injection hpb with ha he'
  subst ha he'
  rw [nodeC_is x]
  have HB := Lib.hid hb
  clear hg hb hx PR
  go_wp2
  go_ret3
  exact ⟨rfl, HB.out.alloc (by have := HB.out.size; exact this) _⟩
end Go.Proofs.YtbkpoimaienhpaaGreatDoor
