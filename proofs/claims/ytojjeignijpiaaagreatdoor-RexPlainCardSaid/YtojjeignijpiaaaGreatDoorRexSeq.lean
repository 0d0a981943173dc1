/- Pieces one behind the other: the walk of sequence. -/
import Derived.Test.YtojjeignijpiaaaGreatDoorRexPiece
import Derived.Maps.AppendAt
namespace Go.Proofs.YtojjeignijpiaaaGreatDoor
open Go.RowKit
set_option linter.unusedVariables false
set_option linter.unusedSimpArgs false

/-- how far a parser has still to go -/
def seqM (t : ByteArray) (b : Nat) (w : World) : Nat := match w.cell? ⟨b, 3, none⟩ with | some (.bool false) => t.size + 1 - posOf w b | _ => 0
theorem seqM_go {w : World} {b : Nat} {t : ByteArray} {k o : Nat} {e : Int} (h : Ps w b t k o false e) : seqM t b w = t.size + 1 - k := by
  unfold seqM
  rw [h.fault, h.pos]
theorem seqM_stop {w : World} {b : Nat} {t : ByteArray} {k o : Nat} {e : Int} (h : Ps w b t k o true e) : seqM t b w = 0 := by
  unfold seqM
  rw [h.fault]
/-- expressions of a row that the call owns, none of whose parts lie in the row itself -/
def GoodRow (w : World) (B : Nat) (v : Value) (l : List NodeX) : Prop := ∀ x, x ∈ l → GoodN w (fun g => B ≤ g ∧ ¬ some g = v.ownBlock) x
theorem goodRow_next {wr w1 w4 : World} {B b : Nat} {v v' : Value} {l : List NodeX} {x : NodeX} {o : Obj} (h : GoodRow wr B v l) (ho : OwnR nodeV 8 wr B 36 v l) (hb : b < B) (hB : B ≤ wr.heap.size) (hg : wr.grownBy w1 (some b)) (hx : GoodN w1 (fun g => wr.heap.size ≤ g) x) (hgrow : (w1.alloc o).grownBy w4 v.ownBlock) (hw : v'.ownBlock = v.ownBlock ∨ v'.ownBlock = some (w1.heap.size + 1)) : GoodRow w4 B v' (l ++ [x]) := by
  have hlt : ∀ r, v.ownBlock = some r → r < wr.heap.size := fun r hr => (World.ownsRow.lt ho r hr).2
  have key : ∀ y, GoodN w1 (fun g => B ≤ g ∧ ¬ some g = v.ownBlock) y → GoodN w4 (fun g => B ≤ g ∧ ¬ some g = v'.ownBlock) y := fun y hy => by
    have h1 : GoodN w1 (fun g => (B ≤ g ∧ ¬ some g = v.ownBlock) ∧ g < w1.heap.size) y := hy.weaken (fun g hq hl => ⟨hq, hl⟩)
    have h2 := (h1.alloc o).grown hgrow (fun g hq => hq.1.2)
    refine h2.weaken (fun g hq _ => ⟨hq.1.1, fun e => ?_⟩)
    rcases hw with h3 | h3
    · rw [h3] at e; exact hq.1.2 e
    · rw [h3] at e
      injection e with e
      have := hq.2
      omega
  intro y hy
  rcases List.mem_append.1 hy with h1 | h1
  · exact key y ((h y h1).grown hg (fun g hq e => by injection e with e; have := hq.1; omega))
  · rw [List.mem_singleton] at h1
    subst h1
    exact key y (hx.weaken (fun g hq _ => ⟨Nat.le_trans hB hq, fun e => by have := hlt g e.symm; omega⟩))
/-- how far a sequence is read -/
structure SeqSt (E : List UInt8 → Res NodeT) (g : Bool) (R : Res NodeT) (t : ByteArray) (k j : Nat) (l : List NodeT) (f : Bool) (e : Int) : Prop where
  go : f = false → k ≤ j ∧ j ≤ t.size ∧ KInv catK l (j - k) (j - k) ∧ l.length ≤ j - k ∧ ∃ n, (atL t j).length < n ∧ seqP E g n l (atL t j) = R
  stop : f = true → ∃ m : Nat, R = .bad m ∧ e = (t.size : Int) - (m : Int) ∧ KInv catK l (t.size - k) (t.size - k) ∧ l.length ≤ t.size - k ∧ k ≤ t.size
theorem SeqSt.kinv {E : List UInt8 → Res NodeT} {g : Bool} {R : Res NodeT} {t : ByteArray} {k j : Nat} {l : List NodeT} {f : Bool} {e : Int} (h : SeqSt E g R t k j l f e) (htz : t.size ≤ 256) : ∃ C, C ≤ 256 ∧ KInv catK l C C ∧ l.length ≤ C ∧ C + k ≤ t.size := by
  cases f with
  | false =>
    obtain ⟨h1, h2, h3, h4, _⟩ := h.go rfl
    exact ⟨j - k, by omega, h3, h4, by omega⟩
  | true =>
    obtain ⟨m, _, _, h3, h4, h5⟩ := h.stop rfl
    exact ⟨t.size - k, by omega, h3, h4, by omega⟩
theorem seqSt_end {E : List UInt8 → Res NodeT} {g : Bool} {R : Res NodeT} {t : ByteArray} {k j : Nat} {l : List NodeT} {e : Int} (h : SeqSt E g R t k j l false e) (hs : stopP g (atL t j) = true) : R = .ok (catT l) (atL t j) := by
  obtain ⟨_, _, _, _, n, h1, h2⟩ := h.go rfl
  obtain ⟨m, rfl⟩ : ∃ m, n = m + 1 := ⟨n - 1, by omega⟩
  rw [seqP_next, if_pos hs] at h2
  exact h2.symm
theorem seqSt_next {E : List UInt8 → Res NodeT} (hE : EOk E) {g : Bool} {R : Res NodeT} {t : ByteArray} {k j j2 : Nat} {l : List NodeT} {x : NodeT} {f : Bool} {e e2 : Int} (h : SeqSt E g R t k j l false e) (hs : stopP g (atL t j) = false) (hw : WfT x) (hj2 : j2 ≤ t.size)
    (hres : match pieceP E (atL t j) with
      | .ok n r => f = false ∧ x = n ∧ atL t j2 = r
      | .bad m => f = true ∧ e2 = (t.size : Int) - (m : Int) ∧ x.kids.length + j ≤ t.size) : SeqSt E g R t k j2 (l ++ [x]) f e2 ∧ (f = false → j < j2) := by
  obtain ⟨hkj, hjt, hK, hL, n, h1, h2⟩ := h.go rfl
  obtain ⟨m, rfl⟩ : ∃ m, n = m + 1 := ⟨n - 1, by omega⟩
  rw [seqP_next, if_neg (by rw [hs]; decide)] at h2
  have hlen := at_len t j
  have hne : 0 < (atL t j).length := by
    cases hq : atL t j with
    | nil => rw [hq] at hs; cases hs
    | cons c q => simp
  cases hp : pieceP E (atL t j) with
  | bad mm =>
    rw [hp] at hres h2
    obtain ⟨rfl, he, hb⟩ := hres
    refine ⟨⟨(fun e => by cases e), fun _ => ⟨mm, h2.symm, he, ?_, ?_, by omega⟩⟩, (fun e => by cases e)⟩
    · have := kinv_cat hK (c := t.size - j) (x := x) (by omega) (by omega) hw
      rw [show j - k + (t.size - j) = t.size - k by omega] at this
      exact this
    · rw [List.length_append, List.length_singleton]; omega
  | ok nn r =>
    rw [hp] at hres h2
    obtain ⟨rfl, rfl, hr⟩ := hres
    obtain ⟨p1, p2, p3⟩ := pieceP_ok hE hp
    have hlen2 := at_len t j2
    rw [hr] at hlen2
    refine ⟨⟨fun _ => ⟨by omega, hj2, ?_, ?_, m, by rw [hr]; omega, by rw [hr]; exact h2⟩, (fun e => by cases e)⟩, fun _ => by omega⟩
    · have := kinv_cat hK (c := j2 - j) (x := x) (by omega) (by omega) hw
      rw [show j - k + (j2 - j) = j2 - k by omega] at this
      exact this
    · rw [List.length_append, List.length_singleton]; omega
theorem grown_own {W w w' : World} {r q : Option Nat} (h : W.grownBy w r) (hg : w.grownBy w' q) (hq : ∀ b, q = some b → W.heap.size ≤ b) : W.grownBy w' r :=
  ⟨hg.os.trans h.os, hg.tape.trans h.tape, hg.output.trans h.output, Nat.le_trans h.size hg.size, fun k hk hr => (hg.block k (Nat.lt_of_lt_of_le hk h.size) (fun e => by have := hq k e.symm; omega)).trans (h.block k hk hr)⟩
theorem wf_kids {w : World} {P : Nat → Prop} {x : NodeX} (h : GoodN w P x) (hw : WfT x.t) : x.kind = 4 ∨ x.kind = 5 → 0 < x.n := fun hk => by
  have h1 := hw (by rw [NodeX.t_kind]; exact hk)
  rw [NodeX.t_kids, List.length_map] at h1
  have h2 := h.row.1
  omega
set_option maxRecDepth 100000 in
set_option maxHeartbeats 6400000 in
theorem sequence_any (fuel : Nat) (HE : ExprC fuel) (b : Nat) (t : ByteArray) (k o : Nat) (e0 : Int) (W : World) (h : Ps W b t k o false e0) (hl : LibF W b) (ho : o ≤ k) (hf : (atL t k).length < fuel + 1) :
    Calls Tryz.prog 40 #[.pointer (some ⟨b, 0, none⟩)] W fun e w' => ∃ x j f e1, e = .returned (.agg (nodeC x)) ∧ Ps w' b t j o f e1 ∧ W.grownBy w' (some b) ∧ NodeRes w' W.heap.size t k j (seqP (exprP fuel true) (decide (0 < o)) ((atL t k).length + 1) [] (atL t k)) x f e1 := by
  obtain ⟨i0, hi, hz0, hz1, hz2⟩ := info_parts infoNode
  have hlt := h.lt
  have hbn : W.heap.size ≠ b := by omega
  have htz := h.sz
  have hkt := h.le
  have hE := exprP_ok fuel true
  obtain ⟨E, hEE⟩ : ∃ E, exprP fuel true = E := ⟨_, rfl⟩
  have PC := fun (j : Nat) (e1 : Int) (c : UInt8) (r : List UInt8) (w : World) (hp : Ps w b t j o false e1) (hl2 : LibF w b) (h1 : o ≤ j) (h2 : (atL t j).length < fuel + 1) (h3 : atL t j = c :: r) => piece_any fuel HE b t j o e1 c r w hp hl2 h1 h2 h3
  simp only [hEE] at PC ⊢
  rw [hEE] at hE
  obtain ⟨g, hg0⟩ : ∃ g, decide (0 < o) = g := ⟨_, rfl⟩
  rw [hg0]
  obtain ⟨R, hR⟩ : ∃ R, seqP E g ((atL t k).length + 1) [] (atL t k) = R := ⟨_, rfl⟩
  rw [hR]
  have HST0 := Lib.hid (show SeqSt E g R t k k [] false e0 from ⟨fun _ => ⟨Nat.le_refl _, hkt, by rw [Nat.sub_self]; exact kinv_nil catK rfl, Nat.zero_le _, _, Nat.lt_succ_self _, hR⟩, (fun e => by cases e)⟩)
  have HPC := Lib.hid PC
  have HEK := Lib.hid hE
  have HL := Lib.hid hl
  have HF := Lib.hid hf
  have HO := Lib.hid ho
  have HGG := Lib.hid hg0
  have HP0 := Lib.hid (h.alloc (.cells #[.int .i64 0, .int .u64 0, .int .u64 0, .int .u64 0, .int .u64 0, .int .i64 0, .int .i64 0, .slice none 0 0] 36))
  have HG0 := Lib.hid (World.grownBy_alloc W (.cells #[.int .i64 0, .int .u64 0, .int .u64 0, .int .u64 0, .int .u64 0, .int .i64 0, .int .i64 0, .slice none 0 0] 36) (some b))
  have HK0 := Lib.hid (Blk.new W 36 #[.int .i64 0, .int .u64 0, .int .u64 0, .int .u64 0, .int .u64 0, .int .i64 0, .int .i64 0, .slice none 0 0])
  have hatk := at_len t k
  clear h hl hE hEE PC hR hf ho hg0 HE
  go_enter Tryz.func40, Tryz.ntmps40
  go_wp2
  obtain ⟨v0, hv0⟩ : ∃ v, v = W := ⟨_, rfl⟩
  go_loopw [3] (fun v wr => ∃ (l : List NodeX) (j : Nat) (f : Bool) (e1 : Int), Hid (Ps wr b t j o f e1) ∧ Hid (W.grownBy wr (some b)) ∧ Hid (OwnR nodeV 8 wr (W.heap.size + 1) 36 v l) ∧ Hid (GoodRow wr (W.heap.size + 1) v l) ∧ Hid (Blk wr W.heap.size 36 #[.int .i64 0, .int .u64 0, .int .u64 0, .int .u64 0, .int .u64 0, .int .i64 0, .int .i64 0, .slice none 0 0]) ∧ Hid (W.heap.size + 1 ≤ wr.heap.size) ∧ Hid (SeqSt E g R t k j (l.map NodeX.t) f e1)) (fun _ w => seqM t b w)
  case atStart => exact ⟨[], k, false, e0, HP0, HG0, Lib.hid (OwnR.nil _ _ _), Lib.hid (fun _ h => by cases h), HK0, Lib.hid (by rw [World.size_alloc]; exact Nat.le_refl _), HST0⟩
  case round =>
    obtain ⟨l, j, f, e1, HP, HG, HO1, HGR, HK, HS, HST⟩ := hrel
    have q3 := HP.out.fault
    have q2 := HP.out.opened
    have hjt := HP.out.le
    have hbr := HP.out.lt
    have hS := HS.out
    obtain ⟨C, hC1, hC2, hC3, hC4⟩ := HST.out.kinv htz
    have hcl : l.length ≤ 256 := by rw [List.length_map] at hC3; omega
    have HCI := Lib.hid (catT_inv hC2)
    have hcx : (catX l).length ≤ 100000 := by
      have h1 := hC2.len
      rw [← catX_t, List.length_map] at h1
      omega
    have hwf : ∀ x, x ∈ l → x.kind = 4 → 0 < x.n := fun x hx hk => wf_kids (HGR.out x hx) (hC2.all x.t (List.mem_map_of_mem hx)).2 (.inl hk)
    have HWF := Lib.hid hwf
    have HC4 := Lib.hid hC4
    clear hC1 hC2 hC3 hwf
    cases f with
    | true =>
      obtain ⟨m, hRm, he1, _⟩ := HST.out.stop rfl
      have HRM := Lib.hid hRm
      have HE1 := Lib.hid he1
      clear hRm he1
      obtain ⟨A2, c2, hv2, hc2, hn2, hrow⟩ := OwnR.open nodeV_len HO1.out
      have CO := Lib.hid (catOf_any A2 l.length c2 l (fun g => W.heap.size + 1 ≤ g) wr hrow (fun x hx => (HGR.out x hx).weaken (fun g hq _ => hq.1)) (by omega) hcx HWF.out)
      rw [hv2]
      clear hrow hn2 hc2 hv2
      go_wp2_with fail
      refine CO.out.mono ?_
      rintro e w9 ⟨y, rfl, hy, hgy, hx⟩
      have YP := Lib.hid (HP.out.belowS hx)
      have YG := Lib.hid (grown_hop HG.out hx)
      have hk9 := HK.out.below hx HK.out.lt
      have YK := Lib.hid hk9
      have YT := Lib.hid hy
      have YD := Lib.hid hgy
      obtain ⟨⟨d0, d1, d2, d3, d4, d5, d6, d7⟩, f0, f1, f2, f3, f4, f5, f6, f7⟩ := nil_cells hk9
      clear hx hy hgy hk9 CO
      unfold nodeC nodeV
      go_wp2
      refine bodyPost_ret (results_cell_row rfl _ _ W.heap.size 36 (nodeC y) (0, 0) _ rfl (blk_eight YK.out nilX_lit _ _ _ _ _ _ _ _) Tryz.underlying36 rfl (by kernel_rfl)) rfl ?_
      refine ⟨y, j, true, e1, rfl, ps_eight YP.out (Ne.symm hbn) _ _ _ _ _ _ _ _, grown_eight YG.out (Nat.le_refl _) _ _ _ _ _ _ _ _, ⟨(good_eight2 YD.out (fun q hq e => by omega) _ _ _ _ _ _ _ _).weaken (fun q hq _ => by omega), by rw [YT.out]; exact HCI.out.2⟩, ?_⟩
      rw [HRM.out]
      exact ⟨rfl, HE1.out, by rw [YT.out]; have := HCI.out.1; have := HC4.out; omega⟩
    | false =>
      have hkj := (HST.out.go rfl).1
      cases hq : atL t j with
      | nil =>
        have HRM := Lib.hid (seqSt_end HST.out (by rw [hq]; rfl))
        have PK := Lib.hid (peek0 b t j o false e1 hq _ HP.out)
        clear hq
        go_wp2_with fail
        refine PK.out.mono ?_
        rintro e w2 ⟨rfl, qd, hw2⟩
        have VP := Lib.hid (by rw [hw2]; exact HP.out.drewN qd : Ps w2 b t j o false e1)
        have VG := Lib.hid (by rw [hw2]; exact World.grownBy.trans HG.out (grown_drew _ _ qd) : W.grownBy w2 (some b))
        have VO := Lib.hid (by rw [hw2]; exact HO1.out.drewN qd : OwnR nodeV 8 w2 (W.heap.size + 1) 36 _ l)
        have VR := Lib.hid (by rw [hw2]; exact fun x hx => (HGR.out x hx).later (below_drewN (Below.refl _ _) qd) : GoodRow w2 (W.heap.size + 1) _ l)
        have VK := Lib.hid (by rw [hw2]; exact HK.out.drewN qd : Blk w2 W.heap.size 36 #[.int .i64 0, .int .u64 0, .int .u64 0, .int .u64 0, .int .u64 0, .int .i64 0, .int .i64 0, .slice none 0 0])
        have VS := Lib.hid (by rw [hw2]; exact HS.out : W.heap.size + 1 ≤ w2.heap.size)
        have p2 := VP.out.opened
        have hVS := VS.out
        clear hw2 PK HG HO1 HGR HK HS q2 q3
        obtain ⟨A2, c2, hv2, hc2, hn2, hrow⟩ := OwnR.open nodeV_len VO.out
        have CO := Lib.hid (catOf_any A2 l.length c2 l (fun g => W.heap.size + 1 ≤ g) w2 hrow (fun x hx => (VR.out x hx).weaken (fun g hq _ => hq.1)) (by omega) hcx HWF.out)
        rw [hv2]
        clear hrow hn2 hc2 hv2
        go_wp2_with fail
        refine CO.out.mono ?_
        rintro e w9 ⟨y, rfl, hy, hgy, hx⟩
        have YP := Lib.hid (VP.out.belowS hx)
        have YG := Lib.hid (grown_hop VG.out hx)
        have hk9 := VK.out.below hx VK.out.lt
        have YK := Lib.hid hk9
        have YT := Lib.hid hy
        have YD := Lib.hid hgy
        obtain ⟨⟨d0, d1, d2, d3, d4, d5, d6, d7⟩, f0, f1, f2, f3, f4, f5, f6, f7⟩ := nil_cells hk9
        clear hx hy hgy hk9 CO
        unfold nodeC nodeV
        go_wp2
        refine bodyPost_ret (results_cell_row rfl _ _ W.heap.size 36 (nodeC y) (0, 0) _ rfl (blk_eight YK.out nilX_lit _ _ _ _ _ _ _ _) Tryz.underlying36 rfl (by kernel_rfl)) rfl ?_
        refine ⟨y, j, false, e1, rfl, ps_eight YP.out (Ne.symm hbn) _ _ _ _ _ _ _ _, grown_eight YG.out (Nat.le_refl _) _ _ _ _ _ _ _ _, ⟨(good_eight2 YD.out (fun q hq e => by omega) _ _ _ _ _ _ _ _).weaken (fun q hq _ => by omega), by rw [YT.out]; exact HCI.out.2⟩, ?_⟩
        rw [HRM.out]
        exact ⟨rfl, YT.out, rfl⟩
      | cons d q =>
        have PK := peek1 b t j o false e1 d q hq _ HP.out
        obtain ⟨m, hm⟩ : ∃ m, d.toNat = m := ⟨_, rfl⟩
        rw [hm] at PK
        replace PK := Lib.hid PK
        by_cases h124 : d = 124
        · have HRM := Lib.hid (seqSt_end HST.out (by rw [hq, h124]; rfl))
          obtain rfl : m = 124 := by rw [← hm, h124]; rfl
          clear hm hq h124
          go_wp2_with fail
          refine PK.out.mono ?_
          rintro e w2 ⟨rfl, qd, hw2⟩
          have VP := Lib.hid (by rw [hw2]; exact HP.out.drewN qd : Ps w2 b t j o false e1)
          have VG := Lib.hid (by rw [hw2]; exact World.grownBy.trans HG.out (grown_drew _ _ qd) : W.grownBy w2 (some b))
          have VO := Lib.hid (by rw [hw2]; exact HO1.out.drewN qd : OwnR nodeV 8 w2 (W.heap.size + 1) 36 _ l)
          have VR := Lib.hid (by rw [hw2]; exact fun x hx => (HGR.out x hx).later (below_drewN (Below.refl _ _) qd) : GoodRow w2 (W.heap.size + 1) _ l)
          have VK := Lib.hid (by rw [hw2]; exact HK.out.drewN qd : Blk w2 W.heap.size 36 #[.int .i64 0, .int .u64 0, .int .u64 0, .int .u64 0, .int .u64 0, .int .i64 0, .int .i64 0, .slice none 0 0])
          have VS := Lib.hid (by rw [hw2]; exact HS.out : W.heap.size + 1 ≤ w2.heap.size)
          have p2 := VP.out.opened
          have hVS := VS.out
          clear hw2 PK HG HO1 HGR HK HS q2 q3
          obtain ⟨A2, c2, hv2, hc2, hn2, hrow⟩ := OwnR.open nodeV_len VO.out
          have CO := Lib.hid (catOf_any A2 l.length c2 l (fun g => W.heap.size + 1 ≤ g) w2 hrow (fun x hx => (VR.out x hx).weaken (fun g hq _ => hq.1)) (by omega) hcx HWF.out)
          rw [hv2]
          clear hrow hn2 hc2 hv2
          go_wp2_with fail
          refine CO.out.mono ?_
          rintro e w9 ⟨y, rfl, hy, hgy, hx⟩
          have YP := Lib.hid (VP.out.belowS hx)
          have YG := Lib.hid (grown_hop VG.out hx)
          have hk9 := VK.out.below hx VK.out.lt
          have YK := Lib.hid hk9
          have YT := Lib.hid hy
          have YD := Lib.hid hgy
          obtain ⟨⟨d0, d1, d2, d3, d4, d5, d6, d7⟩, f0, f1, f2, f3, f4, f5, f6, f7⟩ := nil_cells hk9
          clear hx hy hgy hk9 CO
          unfold nodeC nodeV
          go_wp2
          refine bodyPost_ret (results_cell_row rfl _ _ W.heap.size 36 (nodeC y) (0, 0) _ rfl (blk_eight YK.out nilX_lit _ _ _ _ _ _ _ _) Tryz.underlying36 rfl (by kernel_rfl)) rfl ?_
          refine ⟨y, j, false, e1, rfl, ps_eight YP.out (Ne.symm hbn) _ _ _ _ _ _ _ _, grown_eight YG.out (Nat.le_refl _) _ _ _ _ _ _ _ _, ⟨(good_eight2 YD.out (fun q hq e => by omega) _ _ _ _ _ _ _ _).weaken (fun q hq _ => by omega), by rw [YT.out]; exact HCI.out.2⟩, ?_⟩
          rw [HRM.out]
          exact ⟨rfl, YT.out, rfl⟩
        · have g124 : ((m : Int) == 124) = false := by
            rw [beq_eq_false_iff_ne]
            intro e
            exact h124 (UInt8.toNat_inj.1 (by rw [hm]; exact Int.ofNat.inj e))
          by_cases h41 : d = 41 ∧ 0 < o
          · obtain ⟨h41, hoo⟩ := h41
            have hooI : (o : Int) > 0 := by omega
            have hooI2 : (0 : Int) < (o : Int) := by omega
            have HRM := Lib.hid (seqSt_end HST.out (by rw [hq, h41, ← HGG.out, decide_eq_true hoo]; rfl))
            obtain rfl : m = 41 := by rw [← hm, h41]; rfl
            clear hm hq h41 h124
            go_wp2_with fail
            refine PK.out.mono ?_
            rintro e w2 ⟨rfl, qd, hw2⟩
            have VP := Lib.hid (by rw [hw2]; exact HP.out.drewN qd : Ps w2 b t j o false e1)
            have VG := Lib.hid (by rw [hw2]; exact World.grownBy.trans HG.out (grown_drew _ _ qd) : W.grownBy w2 (some b))
            have VO := Lib.hid (by rw [hw2]; exact HO1.out.drewN qd : OwnR nodeV 8 w2 (W.heap.size + 1) 36 _ l)
            have VR := Lib.hid (by rw [hw2]; exact fun x hx => (HGR.out x hx).later (below_drewN (Below.refl _ _) qd) : GoodRow w2 (W.heap.size + 1) _ l)
            have VK := Lib.hid (by rw [hw2]; exact HK.out.drewN qd : Blk w2 W.heap.size 36 #[.int .i64 0, .int .u64 0, .int .u64 0, .int .u64 0, .int .u64 0, .int .i64 0, .int .i64 0, .slice none 0 0])
            have VS := Lib.hid (by rw [hw2]; exact HS.out : W.heap.size + 1 ≤ w2.heap.size)
            have p2 := VP.out.opened
            have hVS := VS.out
            clear hw2 PK HG HO1 HGR HK HS q2 q3
            obtain ⟨A2, c2, hv2, hc2, hn2, hrow⟩ := OwnR.open nodeV_len VO.out
            have CO := Lib.hid (catOf_any A2 l.length c2 l (fun g => W.heap.size + 1 ≤ g) w2 hrow (fun x hx => (VR.out x hx).weaken (fun g hq _ => hq.1)) (by omega) hcx HWF.out)
            rw [hv2]
            clear hrow hn2 hc2 hv2
            go_wp2_with fail
            refine CO.out.mono ?_
            rintro e w9 ⟨y, rfl, hy, hgy, hx⟩
            have YP := Lib.hid (VP.out.belowS hx)
            have YG := Lib.hid (grown_hop VG.out hx)
            have hk9 := VK.out.below hx VK.out.lt
            have YK := Lib.hid hk9
            have YT := Lib.hid hy
            have YD := Lib.hid hgy
            obtain ⟨⟨d0, d1, d2, d3, d4, d5, d6, d7⟩, f0, f1, f2, f3, f4, f5, f6, f7⟩ := nil_cells hk9
            clear hx hy hgy hk9 CO
            unfold nodeC nodeV
            go_wp2
            refine bodyPost_ret (results_cell_row rfl _ _ W.heap.size 36 (nodeC y) (0, 0) _ rfl (blk_eight YK.out nilX_lit _ _ _ _ _ _ _ _) Tryz.underlying36 rfl (by kernel_rfl)) rfl ?_
            refine ⟨y, j, false, e1, rfl, ps_eight YP.out (Ne.symm hbn) _ _ _ _ _ _ _ _, grown_eight YG.out (Nat.le_refl _) _ _ _ _ _ _ _ _, ⟨(good_eight2 YD.out (fun q hq e => by omega) _ _ _ _ _ _ _ _).weaken (fun q hq _ => by omega), by rw [YT.out]; exact HCI.out.2⟩, ?_⟩
            rw [HRM.out]
            exact ⟨rfl, YT.out, rfl⟩
          · have hst : stopP g (atL t j) = false := by
              rw [hq]
              show (d == 124 || (d == 41 && g)) = false
              rw [beq_eq_false_iff_ne.2 h124, Bool.false_or, ← HGG.out]
              by_cases h1 : d = 41
              · rw [decide_eq_false (fun h2 => h41 ⟨h1, h2⟩), Bool.and_false]
              · rw [beq_eq_false_iff_ne.2 h1, Bool.false_and]
            have HSTP := Lib.hid hst
            have HAT := Lib.hid hq
            have h41' : ((m : Int) == 41) = false ∨ ((m : Int) = 41 ∧ ¬ (o : Int) > 0) := by
              by_cases h1 : d = 41
              · right
                refine ⟨by rw [← hm, h1]; rfl, fun h2 => h41 ⟨h1, by omega⟩⟩
              · left
                rw [beq_eq_false_iff_ne]
                intro e
                exact h1 (UInt8.toNat_inj.1 (by rw [hm]; exact Int.ofNat.inj e))
            clear hst hq h41 hm h124
            rcases h41' with h41' | ⟨hm41, hoo⟩
            · go_wp2_with fail
              refine PK.out.mono ?_
              rintro e w2 ⟨rfl, qd, hw2⟩
              have VP := Lib.hid (by rw [hw2]; exact HP.out.drewN qd : Ps w2 b t j o false e1)
              have VG := Lib.hid (by rw [hw2]; exact World.grownBy.trans HG.out (grown_drew _ _ qd) : W.grownBy w2 (some b))
              have VO := Lib.hid (by rw [hw2]; exact HO1.out.drewN qd : OwnR nodeV 8 w2 (W.heap.size + 1) 36 _ l)
              have VR := Lib.hid (by rw [hw2]; exact fun x hx => (HGR.out x hx).later (below_drewN (Below.refl _ _) qd) : GoodRow w2 (W.heap.size + 1) _ l)
              have VK := Lib.hid (by rw [hw2]; exact HK.out.drewN qd : Blk w2 W.heap.size 36 #[.int .i64 0, .int .u64 0, .int .u64 0, .int .u64 0, .int .u64 0, .int .i64 0, .int .i64 0, .slice none 0 0])
              have VS := Lib.hid (by rw [hw2]; exact HS.out : W.heap.size + 1 ≤ w2.heap.size)
              have p2 := VP.out.opened
              have hVS := VS.out
              clear hw2 PK HG HO1 HGR HK HS q2 q3
              have hj2len : (atL t j).length < fuel + 1 := by have := at_len t j; have := HF.out; omega
              have PE := Lib.hid (HPC.out j e1 d q w2 VP.out (HL.out.next VG.out) (by have := HO.out; omega) hj2len HAT.out)
              go_wp2_with fail
              refine PE.out.mono ?_
              rintro e w3 ⟨x, j3, f3, e3, rfl, hp, hg, ⟨⟨hgood, hwfx⟩, hres⟩⟩
              have hnx := seqSt_next HEK.out HST.out HSTP.out hwfx hp.le hres
              have ZP := Lib.hid hp
              have ZG := Lib.hid (World.grownBy.trans VG.out hg)
              have ZO := Lib.hid (VO.out.kept hg (fun r hr => by injection hr with hr; omega))
              have ZK := Lib.hid (VK.out.kept hg hbn)
              have ZGG := Lib.hid hg
              have ZX := Lib.hid hgood
              have ZST := Lib.hid hnx.1
              have ZM := Lib.hid hnx.2
              have hz3 := hg.size
              have hb3 := hp.lt
              clear hp hg hgood hwfx hres hnx PE
              unfold nodeC nodeV
              go_wp2_with (at_builtin; refine wpList_append_own_at _ rfl (.tmp 35) (.tmp 38) 34 rfl (W.heap.size + 1) 36 i0 (.agg #[.int .i64 0, .int .u64 0, .int .u64 0, .int .u64 0, .int .u64 0, .int .i64 0, .int .i64 0, .slice none 0 0]) 8 80 Tryz.underlying34 hi hz0 hz1 hz2 rfl (by decide) _ _ _ rfl (OwnR.alloc ZO.out _) ⟨w3.heap.size, 0, none⟩ 1 1 (nodeV x) rfl rfl (new_cells_at _ _ _ _ (by simp)) (nodeV_one _) (by unfold maxLen; omega) (by omega) (by simp; omega) ?_)
              intro v' w4 hown' hgrow _ hwhere
              have hrow := fun r (hr : _ = some r) => World.ownsRow.lt ZO.out r hr
              have HO4 := Lib.hid (OwnR.snoc hown')
              have HR4 := Lib.hid (goodRow_next VR.out VO.out (by omega) VS.out ZGG.out ZX.out hgrow hwhere)
              have HP4 := Lib.hid ((ZP.out.alloc (.cells (nodeV x).toArray 36)).stays hgrow (fun e => by have := (hrow _ e).1; omega))
              have HG4 := Lib.hid (grown_own (grown_alloc ZG.out (.cells (nodeV x).toArray 36)) hgrow (fun r hr => Nat.le_of_succ_le (hrow r hr).1))
              have HK4 := Lib.hid ((ZK.out.alloc (.cells (nodeV x).toArray 36)).stays hgrow (fun e => by have := (hrow _ e).1; omega))
              have HS4 := Lib.hid (show W.heap.size + 1 ≤ w4.heap.size by have := hgrow.size; rw [World.size_alloc] at this; omega)
              have HST4 := Lib.hid (show SeqSt E g R t k j3 ((l ++ [x]).map NodeX.t) f3 e3 by rw [List.map_append]; exact ZST.out)
              clear hown' hgrow hwhere hrow
              go_wp2
              go_roundw
              case rel => exact ⟨l ++ [x], j3, f3, e3, HP4, HG4, HO4, HR4, HK4, HS4, HST4⟩
              case measure =>
                rw [seqM_go HP.out]
                cases f3 with
                | true => rw [seqM_stop HP4.out]; omega
                | false =>
                  have := ZM.out rfl
                  have := HP4.out.le
                  rw [seqM_go HP4.out]
                  omega
            · have hm41b : ((m : Int) == 41) = true := by rw [beq_iff_eq]; exact hm41
              have hooI2 : ¬ (0 : Int) < (o : Int) := by omega
              go_wp2_with fail
              refine PK.out.mono ?_
              rintro e w2 ⟨rfl, qd, hw2⟩
              have VP := Lib.hid (by rw [hw2]; exact HP.out.drewN qd : Ps w2 b t j o false e1)
              have VG := Lib.hid (by rw [hw2]; exact World.grownBy.trans HG.out (grown_drew _ _ qd) : W.grownBy w2 (some b))
              have VO := Lib.hid (by rw [hw2]; exact HO1.out.drewN qd : OwnR nodeV 8 w2 (W.heap.size + 1) 36 _ l)
              have VR := Lib.hid (by rw [hw2]; exact fun x hx => (HGR.out x hx).later (below_drewN (Below.refl _ _) qd) : GoodRow w2 (W.heap.size + 1) _ l)
              have VK := Lib.hid (by rw [hw2]; exact HK.out.drewN qd : Blk w2 W.heap.size 36 #[.int .i64 0, .int .u64 0, .int .u64 0, .int .u64 0, .int .u64 0, .int .i64 0, .int .i64 0, .slice none 0 0])
              have VS := Lib.hid (by rw [hw2]; exact HS.out : W.heap.size + 1 ≤ w2.heap.size)
              have p2 := VP.out.opened
              have hVS := VS.out
              clear hw2 PK HG HO1 HGR HK HS q2 q3
              have hj2len : (atL t j).length < fuel + 1 := by have := at_len t j; have := HF.out; omega
              have PE := Lib.hid (HPC.out j e1 d q w2 VP.out (HL.out.next VG.out) (by have := HO.out; omega) hj2len HAT.out)
              go_wp2_with fail
              refine PE.out.mono ?_
              rintro e w3 ⟨x, j3, f3, e3, rfl, hp, hg, ⟨⟨hgood, hwfx⟩, hres⟩⟩
              have hnx := seqSt_next HEK.out HST.out HSTP.out hwfx hp.le hres
              have ZP := Lib.hid hp
              have ZG := Lib.hid (World.grownBy.trans VG.out hg)
              have ZO := Lib.hid (VO.out.kept hg (fun r hr => by injection hr with hr; omega))
              have ZK := Lib.hid (VK.out.kept hg hbn)
              have ZGG := Lib.hid hg
              have ZX := Lib.hid hgood
              have ZST := Lib.hid hnx.1
              have ZM := Lib.hid hnx.2
              have hz3 := hg.size
              have hb3 := hp.lt
              clear hp hg hgood hwfx hres hnx PE
              unfold nodeC nodeV
              go_wp2_with (at_builtin; refine wpList_append_own_at _ rfl (.tmp 35) (.tmp 38) 34 rfl (W.heap.size + 1) 36 i0 (.agg #[.int .i64 0, .int .u64 0, .int .u64 0, .int .u64 0, .int .u64 0, .int .i64 0, .int .i64 0, .slice none 0 0]) 8 80 Tryz.underlying34 hi hz0 hz1 hz2 rfl (by decide) _ _ _ rfl (OwnR.alloc ZO.out _) ⟨w3.heap.size, 0, none⟩ 1 1 (nodeV x) rfl rfl (new_cells_at _ _ _ _ (by simp)) (nodeV_one _) (by unfold maxLen; omega) (by omega) (by simp; omega) ?_)
              intro v' w4 hown' hgrow _ hwhere
              have hrow := fun r (hr : _ = some r) => World.ownsRow.lt ZO.out r hr
              have HO4 := Lib.hid (OwnR.snoc hown')
              have HR4 := Lib.hid (goodRow_next VR.out VO.out (by omega) VS.out ZGG.out ZX.out hgrow hwhere)
              have HP4 := Lib.hid ((ZP.out.alloc (.cells (nodeV x).toArray 36)).stays hgrow (fun e => by have := (hrow _ e).1; omega))
              have HG4 := Lib.hid (grown_own (grown_alloc ZG.out (.cells (nodeV x).toArray 36)) hgrow (fun r hr => Nat.le_of_succ_le (hrow r hr).1))
              have HK4 := Lib.hid ((ZK.out.alloc (.cells (nodeV x).toArray 36)).stays hgrow (fun e => by have := (hrow _ e).1; omega))
              have HS4 := Lib.hid (show W.heap.size + 1 ≤ w4.heap.size by have := hgrow.size; rw [World.size_alloc] at this; omega)
              have HST4 := Lib.hid (show SeqSt E g R t k j3 ((l ++ [x]).map NodeX.t) f3 e3 by rw [List.map_append]; exact ZST.out)
              clear hown' hgrow hwhere hrow
              go_wp2
              go_roundw
              case rel => exact ⟨l ++ [x], j3, f3, e3, HP4, HG4, HO4, HR4, HK4, HS4, HST4⟩
              case measure =>
                rw [seqM_go HP.out]
                cases f3 with
                | true => rw [seqM_stop HP4.out]; omega
                | false =>
                  have := ZM.out rfl
                  have := HP4.out.le
                  rw [seqM_go HP4.out]
                  omega
end Go.Proofs.YtojjeignijpiaaaGreatDoor
