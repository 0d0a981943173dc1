/- One or another: the walk of expression. -/
import Derived.Test.YtojjeignijpiaaaGreatDoorRexSeq
namespace Go.Proofs.YtojjeignijpiaaaGreatDoor
open Go.RowKit
set_option linter.unusedVariables false
set_option linter.unusedSimpArgs false

theorem own_one (w : World) (B : Nat) (x : NodeX) (hB : B ≤ w.heap.size) (g : Nat) (hg : g = w.heap.size) : OwnR nodeV 8 (w.alloc (.cells (nodeC x) 36)) B 36 (.slice (some ⟨g, 0, none⟩) 1 1) [x] := by
  subst hg
  exact ⟨rowV_len nodeV_len [x], .inr ⟨w.heap.size, 1, nodeC x, rfl, hB, heap_alloc_new w _, Nat.le_refl _, by decide, rfl, rfl⟩⟩
structure AltSt (E : List UInt8 → Res NodeT) (g : Bool) (R : Res NodeT) (t : ByteArray) (k j : Nat) (l : List NodeT) (f : Bool) (e : Int) : Prop where
  some : 1 ≤ l.length
  go : f = false → k ≤ j ∧ j ≤ t.size ∧ KInv altK l (j - k) (j - k + 1) ∧ l.length ≤ j - k + 1 ∧ ∃ n, (atL t j).length < n ∧ altsP E g n l (atL t j) = R
  stop : f = true → ∃ m : Nat, R = .bad m ∧ e = (t.size : Int) - (m : Int) ∧ KInv altK l (t.size - k) (t.size - k) ∧ l.length ≤ t.size - k + 1 ∧ k ≤ t.size
theorem seqP_bad {E : List UInt8 → Res NodeT} {g : Bool} {n m : Nat} {l : List UInt8} (h : seqP E g (n + 1) [] l = .bad m) : 0 < l.length := by
  cases l with
  | nil => cases h
  | cons c q => simp
theorem altSt_first {E : List UInt8 → Res NodeT} (hE : EOk E) {g : Bool} {t : ByteArray} {k j : Nat} {x : NodeT} {f : Bool} {e : Int} {R : Res NodeT} (hk : k ≤ t.size) (hj : j ≤ t.size) (hw : WfT x)
    (hR : (match seqP E g ((atL t k).length + 1) [] (atL t k) with
      | .bad m => .bad m
      | .ok n r => altsP E g (r.length + 1) [n] r) = R)
    (hres : match seqP E g ((atL t k).length + 1) [] (atL t k) with
      | .ok n r => f = false ∧ x = n ∧ atL t j = r
      | .bad m => f = true ∧ e = (t.size : Int) - (m : Int) ∧ x.kids.length + k ≤ t.size) : AltSt E g R t k j [x] f e := by
  have hlen := at_len t k
  cases hs : seqP E g ((atL t k).length + 1) [] (atL t k) with
  | bad m =>
    rw [hs] at hres hR
    obtain ⟨rfl, he, hb⟩ := hres
    have h0 := seqP_bad hs
    refine ⟨Nat.le_refl _, (fun e => by cases e), fun _ => ⟨m, hR.symm, he, ⟨?_, fun y hy => ?_⟩, by simp, hk⟩⟩
    · have := altK_one x; omega
    · rw [List.mem_singleton] at hy; subst hy; exact ⟨by omega, hw⟩
  | ok n r =>
    rw [hs] at hres hR
    obtain ⟨rfl, rfl, hr⟩ := hres
    obtain ⟨p1, p2, p3⟩ := seqP_ok hE _ _ _ 0 _ _ (kinv_nil catK rfl) hs
    have hlen2 := at_len t j
    rw [hr] at hlen2
    refine ⟨Nat.le_refl _, fun _ => ⟨by omega, hj, kinv_first (by omega) hw, by simp, r.length + 1, by rw [hr]; omega, by rw [hr]; exact hR⟩, (fun e => by cases e)⟩
theorem altSt_end {E : List UInt8 → Res NodeT} {g : Bool} {R : Res NodeT} {t : ByteArray} {k j : Nat} {l : List NodeT} {e : Int} (h : AltSt E g R t k j l false e) (hs : ∀ q, atL t j ≠ 124 :: q) : R = .ok (choiceT l) (atL t j) := by
  obtain ⟨_, _, _, _, n, h1, h2⟩ := h.go rfl
  obtain ⟨m, rfl⟩ : ∃ m, n = m + 1 := ⟨n - 1, by omega⟩
  rw [altsP_end hs] at h2
  exact h2.symm
theorem altSt_next {E : List UInt8 → Res NodeT} (hE : EOk E) {g : Bool} {R : Res NodeT} {t : ByteArray} {k j j2 : Nat} {l : List NodeT} {x : NodeT} {f : Bool} {e e2 : Int} {q : List UInt8} (h : AltSt E g R t k j l false e) (hq : atL t j = 124 :: q) (hq2 : atL t (j + 1) = q) (hw : WfT x) (hj2 : j2 ≤ t.size)
    (hres : match seqP E g ((atL t (j + 1)).length + 1) [] (atL t (j + 1)) with
      | .ok n r => f = false ∧ x = n ∧ atL t j2 = r
      | .bad m => f = true ∧ e2 = (t.size : Int) - (m : Int) ∧ x.kids.length + (j + 1) ≤ t.size) : AltSt E g R t k j2 (l ++ [x]) f e2 ∧ (f = false → j < j2) := by
  obtain ⟨hkj, hjt, hK, hL, n, h1, h2⟩ := h.go rfl
  obtain ⟨m, rfl⟩ : ∃ m, n = m + 1 := ⟨n - 1, by omega⟩
  rw [hq, altsP_bar] at h2
  rw [hq2] at hres
  have hlen := at_len t (j + 1)
  have hlen0 := at_len t j
  rw [hq, List.length_cons] at hlen0 h1
  rw [hq2] at hlen
  have hs1 : 1 ≤ (l ++ [x]).length := by rw [List.length_append]; simp
  cases hp : seqP E g (q.length + 1) [] q with
  | bad mm =>
    rw [hp] at hres h2
    obtain ⟨rfl, he, hb⟩ := hres
    have h0 := seqP_bad hp
    refine ⟨⟨hs1, (fun e => by cases e), fun _ => ⟨mm, h2.symm, he, ⟨?_, fun y hy => ?_⟩, ?_, by omega⟩⟩, (fun e => by cases e)⟩
    · rw [altK_app, List.length_append]
      have := altK_one x
      have := hK.len
      omega
    · rcases List.mem_append.1 hy with h3 | h3
      · have := hK.all y h3
        exact ⟨by omega, this.2⟩
      · rw [List.mem_singleton] at h3
        subst h3
        exact ⟨by omega, hw⟩
    · rw [List.length_append, List.length_singleton]; omega
  | ok nn r =>
    rw [hp] at hres h2
    obtain ⟨rfl, rfl, hr⟩ := hres
    obtain ⟨p1, p2, p3⟩ := seqP_ok hE _ _ _ 0 _ _ (kinv_nil catK rfl) hp
    have hlen2 := at_len t j2
    rw [hr] at hlen2
    refine ⟨⟨hs1, fun _ => ⟨by omega, hj2, ?_, ?_, m, by rw [hr]; omega, by rw [hr]; exact h2⟩, (fun e => by cases e)⟩, fun _ => by omega⟩
    · have := kinv_alt hK (c := j2 - j - 1) (x := x) (by omega) hw
      rw [show j - k + (j2 - j - 1 + 1) = j2 - k by omega] at this
      exact this
    · rw [List.length_append, List.length_singleton]; omega
/-- what is told at the end -/
theorem altSt_tell {E : List UInt8 → Res NodeT} {g : Bool} {R : Res NodeT} {t : ByteArray} {k j : Nat} {l : List NodeT} {f : Bool} {e : Int} (h : AltSt E g R t k j l f e) : WfT (choiceT l) ∧ (altK l).length ≤ t.size + 1 ∧ l.length ≤ t.size + 1 ∧ (f = true → (choiceT l).kids.length + k ≤ t.size) ∧ ∀ x, x ∈ l → WfT x := by
  cases f with
  | false =>
    obtain ⟨h1, h2, h3, h4, _⟩ := h.go rfl
    exact ⟨(choice_inv h3 h.some).2, by have := h3.len; omega, by omega, (fun e => by cases e), fun x hx => (h3.all x hx).2⟩
  | true =>
    obtain ⟨m, _, _, h3, h4, h5⟩ := h.stop rfl
    have hge := altK_ge (fun n hn => (h3.all n hn).2)
    refine ⟨?_, by have := h3.len; omega, by omega, fun _ => ?_, fun x hx => (h3.all x hx).2⟩
    · by_cases h1 : l.length = 1
      · obtain ⟨x, rfl⟩ : ∃ x, l = [x] := by
          match l, h1 with
          | [x], _ => exact ⟨x, rfl⟩
        exact (h3.all x (by simp)).2
      · rw [choice_more h1]
        intro _
        have := h.some
        show 2 ≤ (altK l).length
        omega
    · by_cases h1 : l.length = 1
      · obtain ⟨x, rfl⟩ : ∃ x, l = [x] := by
          match l, h1 with
          | [x], _ => exact ⟨x, rfl⟩
        have := (h3.all x (by simp)).1
        rw [choice_one]
        omega
      · rw [choice_more h1]
        have := h3.len
        show (altK l).length + k ≤ t.size
        omega
set_option maxRecDepth 100000 in
set_option maxHeartbeats 6400000 in
theorem expression_any (fuel : Nat) (HE : ExprC fuel) : ExprC (fuel + 1) := by
  intro b t k o e0 W h hl ho hf
  obtain ⟨i0, hi, hz0, hz1, hz2⟩ := info_parts infoNode
  have hlt := h.lt
  have hbn : W.heap.size ≠ b := by omega
  have htz := h.sz
  have hkt := h.le
  have hE := exprP_ok fuel true
  obtain ⟨g, hg0⟩ : ∃ g, decide (0 < o) = g := ⟨_, rfl⟩
  obtain ⟨R, hR⟩ : ∃ R, exprP (fuel + 1) (decide (0 < o)) (atL t k) = R := ⟨_, rfl⟩
  rw [hR]
  rw [hg0, exprP] at hR
  have hG0 := World.grownBy_alloc W (.cells #[.int .i64 0, .int .u64 0, .int .u64 0, .int .u64 0, .int .u64 0, .int .i64 0, .int .i64 0, .slice none 0 0] 36) (some b)
  have SQ := sequence_any fuel HE b t k o e0 _ (h.alloc (.cells #[.int .i64 0, .int .u64 0, .int .u64 0, .int .u64 0, .int .u64 0, .int .i64 0, .int .i64 0, .slice none 0 0] 36)) (hl.next hG0) ho hf
  have SQF := fun (j : Nat) (e1 : Int) (w : World) (hp : Ps w b t j o false e1) (hl2 : LibF w b) (h1 : o ≤ j) (h2 : (atL t j).length < fuel + 1) => sequence_any fuel HE b t j o e1 w hp hl2 h1 h2
  have hsz0 : (W.alloc (.cells #[.int .i64 0, .int .u64 0, .int .u64 0, .int .u64 0, .int .u64 0, .int .i64 0, .int .i64 0, .slice none 0 0] 36)).heap.size = W.heap.size + 1 := by simp
  rw [hsz0] at SQ
  rw [hg0] at SQ
  simp only [hg0] at SQF
  obtain ⟨E, hEE⟩ : ∃ E, exprP fuel true = E := ⟨_, rfl⟩
  simp only [hEE] at SQ SQF
  rw [hEE] at hE hR
  have HSQF := Lib.hid SQF
  have HEK := Lib.hid hE
  have HL := Lib.hid hl
  have HF := Lib.hid hf
  have HO := Lib.hid ho
  have HRR := Lib.hid hR
  have HG0 := Lib.hid hG0
  have HS0 := Lib.hid hsz0
  have HK0 := Lib.hid (Blk.new W 36 #[.int .i64 0, .int .u64 0, .int .u64 0, .int .u64 0, .int .u64 0, .int .i64 0, .int .i64 0, .slice none 0 0])
  replace SQ := Lib.hid SQ
  clear h hl hE hEE SQF hR hf ho hg0 HE hG0 hsz0
  go_enter Tryz.func34, Tryz.ntmps34
  go_wp2_with fail
  refine SQ.out.mono ?_
  rintro e w1 ⟨x, j, f, e1, rfl, hp, hg, ⟨⟨hgood, hwf⟩, hres⟩⟩
  have hs1 : W.heap.size + 1 ≤ w1.heap.size := by have := hg.size; have := HS0.out; omega
  have HST0 := Lib.hid (altSt_first HEK.out hkt hp.le hwf HRR.out hres)
  have HP0 := Lib.hid (hp.alloc (.cells (nodeC x) 36))
  have HGG0 := Lib.hid (grown_alloc (World.grownBy.trans HG0.out hg) (.cells (nodeC x) 36))
  have HKK0 := Lib.hid ((HK0.out.kept hg hbn).alloc (.cells (nodeC x) 36))
  have HOO0 := Lib.hid (own_one w1 (W.heap.size + 1) x hs1 w1.heap.size rfl)
  have HRW0 := Lib.hid (show GoodRow (w1.alloc (.cells (nodeC x) 36)) (W.heap.size + 1) (.slice (some ⟨w1.heap.size, 0, none⟩) 1 1) [x] from fun y hy => by
    rw [List.mem_singleton] at hy
    subst hy
    exact (hgood.weaken (fun q hq hl => ⟨hq, hl⟩) : GoodN w1 (fun q => W.heap.size + 1 ≤ q ∧ q < w1.heap.size) y).alloc _ |>.weaken (fun q hq _ => ⟨hq.1, fun e => by
      injection e with e
      have h1 := hq.2
      have h2 : q = w1.heap.size := e
      omega⟩))
  have HSS0 := Lib.hid (show W.heap.size + 1 ≤ (w1.alloc (.cells (nodeC x) 36)).heap.size by rw [World.size_alloc]; omega)
  clear hp hg hgood hwf hres SQ HG0 HK0 HS0 HRR
  unfold nodeC nodeV
  go_wp2
  obtain ⟨v0, hv0⟩ : ∃ v, v = W := ⟨_, rfl⟩
  go_loopw [3] (fun v wr => ∃ (l : List NodeX) (j : Nat) (f : Bool) (e1 : Int), Hid (Ps wr b t j o f e1) ∧ Hid (W.grownBy wr (some b)) ∧ Hid (OwnR nodeV 8 wr (W.heap.size + 1) 36 v l) ∧ Hid (GoodRow wr (W.heap.size + 1) v l) ∧ Hid (Blk wr W.heap.size 36 #[.int .i64 0, .int .u64 0, .int .u64 0, .int .u64 0, .int .u64 0, .int .i64 0, .int .i64 0, .slice none 0 0]) ∧ Hid (W.heap.size + 1 ≤ wr.heap.size) ∧ Hid (AltSt E g R t k j (l.map NodeX.t) f e1)) (fun _ w => seqM t b w)
  case atStart => exact ⟨[x], j, f, e1, HP0, HGG0, HOO0, HRW0, HKK0, HSS0, HST0⟩
  case round =>
    clear HP0 HGG0 HOO0 HRW0 HKK0 HSS0 HST0
    obtain ⟨l, j, f, e1, HP, HG, HO1, HGR, HK, HS, HST⟩ := hrel
    have q3 := HP.out.fault
    have hjt := HP.out.le
    have hbr := HP.out.lt
    have hS := HS.out
    obtain ⟨t1, t2, t3, t4, t5⟩ := altSt_tell HST.out
    have hcl : l.length ≤ 257 := by rw [List.length_map] at t3; omega
    have hl1 : 1 ≤ l.length := by have := HST.out.some; rw [List.length_map] at this; exact this
    have hcx : (altX l).length ≤ 100000 := by
      rw [← altX_t, List.length_map] at t2
      omega
    have hwf : ∀ x, x ∈ l → x.kind = 5 → 0 < x.n := fun x hx hk => wf_kids (HGR.out x hx) (t5 x.t (List.mem_map_of_mem hx)) (.inr hk)
    have HWF := Lib.hid hwf
    have HT1 := Lib.hid t1
    have HT4 := Lib.hid t4
    clear t1 t2 t3 t4 t5 hwf
    cases f with
    | true =>
      obtain ⟨m, hRm, he1, _⟩ := HST.out.stop rfl
      have HRM := Lib.hid hRm
      have HE1 := Lib.hid he1
      have HT5 := Lib.hid (HT4.out rfl)
      clear hRm he1 HT4
      by_cases h1l : l.length = 1
      · obtain ⟨x, rfl⟩ : ∃ x, l = [x] := by
          match l, h1l with
          | [x], _ => exact ⟨x, rfl⟩
        obtain ⟨gg, cp, hv2, hge, hgl, _, hc⟩ := OwnR.at_ nodeV_len HO1.out (by simp)
        have a0 := hc 0 0 x rfl (by decide)
        have a1 := hc 0 1 x rfl (by decide)
        have a2 := hc 0 2 x rfl (by decide)
        have a3 := hc 0 3 x rfl (by decide)
        have a4 := hc 0 4 x rfl (by decide)
        have a5 := hc 0 5 x rfl (by decide)
        have a6 := hc 0 6 x rfl (by decide)
        have a7 := hc 0 7 x rfl (by decide)
        simp only [nodeV, List.getElem?_cons_zero, List.getElem?_cons_succ, Nat.zero_mul, Nat.zero_add] at a0 a1 a2 a3 a4 a5 a6 a7
        obtain ⟨⟨d0, d1, d2, d3, d4, d5, d6, d7⟩, f0, f1, f2, f3, f4, f5, f6, f7⟩ := nil_cells HK.out
        have hone : ([x] : List NodeX).length = 1 := rfl
        rw [hone] at hv2
        rw [hv2]
        clear hc hv2 hge
        go_wp2
        refine bodyPost_ret (results_cell_row rfl _ _ W.heap.size 36 (nodeC x) (0, 0) _ rfl (blk_eight HK.out nilX_lit _ _ _ _ _ _ _ _) Tryz.underlying36 rfl (by kernel_rfl)) rfl ?_
        refine ⟨x, j, true, e1, rfl, ps_eight HP.out (Ne.symm hbn) _ _ _ _ _ _ _ _, grown_eight HG.out (Nat.le_refl _) _ _ _ _ _ _ _ _, ⟨(good_eight2 (HGR.out x (by simp)) (fun q hq e => by have := hq.1; omega) _ _ _ _ _ _ _ _).weaken (fun q hq _ => Nat.le_of_succ_le hq.1), HT1.out⟩, ?_⟩
        rw [HRM.out]
        exact ⟨rfl, HE1.out, by rw [(rfl : x.t = choiceT [x.t])]; exact HT5.out⟩
      · obtain ⟨A2, c2, hv2, hc2, hn2, hrow⟩ := OwnR.open nodeV_len HO1.out
        have CO := Lib.hid (altOf_any A2 l.length c2 l (fun g => W.heap.size + 1 ≤ g) wr hrow (fun x hx => (HGR.out x hx).weaken (fun g hq _ => hq.1)) (by omega) hcx HWF.out)
        have hne1 : ((l.length : Int) == 1) = false := by rw [beq_eq_false_iff_ne]; omega
        have hne2 : ¬ l.length = 1 := h1l
        rw [hv2]
        clear hrow hn2 hc2 hv2
        go_wp2_with fail
        refine CO.out.mono ?_
        rintro e w9 ⟨y, rfl, hy, hgy, hx⟩
        have YP := Lib.hid (HP.out.belowS hx)
        have YG := Lib.hid (grown_hop HG.out hx)
        have hk9 := HK.out.below hx HK.out.lt
        have YK := Lib.hid hk9
        have YT := Lib.hid (hy.trans (choice_more (l := l.map NodeX.t) (by rw [List.length_map]; exact h1l)).symm)
        have YD := Lib.hid hgy
        obtain ⟨⟨d0, d1, d2, d3, d4, d5, d6, d7⟩, f0, f1, f2, f3, f4, f5, f6, f7⟩ := nil_cells hk9
        clear hx hy hgy hk9 CO
        unfold nodeC nodeV
        go_wp2
        refine bodyPost_ret (results_cell_row rfl _ _ W.heap.size 36 (nodeC y) (0, 0) _ rfl (blk_eight YK.out nilX_lit _ _ _ _ _ _ _ _) Tryz.underlying36 rfl (by kernel_rfl)) rfl ?_
        refine ⟨y, j, true, e1, rfl, ps_eight YP.out (Ne.symm hbn) _ _ _ _ _ _ _ _, grown_eight YG.out (Nat.le_refl _) _ _ _ _ _ _ _ _, ⟨(good_eight2 YD.out (fun q hq e => by omega) _ _ _ _ _ _ _ _).weaken (fun q hq _ => by omega), by rw [YT.out]; exact HT1.out⟩, ?_⟩
        rw [HRM.out]
        exact ⟨rfl, HE1.out, by rw [YT.out]; exact HT5.out⟩
    | false =>
      have hkj := (HST.out.go rfl).1
      clear HT4
      by_cases h124 : ∃ q, atL t j = 124 :: q
      · obtain ⟨q, hq⟩ := h124
        have TK := Lib.hid (take_yes2 b ⟨#[124]⟩ (by decide) q t j o false e1 hq _ HP.out wr.heap.size rfl)
        have HQ := Lib.hid hq
        clear hq
        go_wp2_with fail
        refine TK.out.mono ?_
        rintro e w2 ⟨⟨xx, rfl⟩, ⟨hp, hr⟩, hg⟩
        have VP := Lib.hid (show Ps w2 b t (j + 1) o false e1 from hp)
        have VQ := Lib.hid (show atL t (j + 1) = q from hr)
        have VG := Lib.hid (World.grownBy.trans HG.out hg)
        have VO := Lib.hid (HO1.out.kept hg (fun r hr => by injection hr with hr; omega))
        have VR := Lib.hid (show GoodRow w2 (W.heap.size + 1) _ l from fun x hx => (HGR.out x hx).grown hg (fun g hq e => by injection e with e; have := hq.1; omega))
        have VK := Lib.hid (HK.out.kept hg hbn)
        have VS := Lib.hid (show W.heap.size + 1 ≤ w2.heap.size from Nat.le_trans HS.out hg.size)
        have hVS := VS.out
        have hj2len : (atL t (j + 1)).length < fuel + 1 := by have h1 := at_len t (j + 1); have h2 := at_len t k; have := HF.out; omega
        have SE := Lib.hid (HSQF.out (j + 1) e1 w2 VP.out (HL.out.next VG.out) (by have := HO.out; omega) hj2len)
        clear hp hr hg TK HG HO1 HGR HK HS q3
        go_wp2_with fail
        refine SE.out.mono ?_
        rintro e w3 ⟨x, j3, f3, e3, rfl, hp, hg, ⟨⟨hgood, hwfx⟩, hres⟩⟩
        have hnx := altSt_next HEK.out HST.out HQ.out VQ.out hwfx hp.le hres
        have ZP := Lib.hid hp
        have ZG := Lib.hid (World.grownBy.trans VG.out hg)
        have ZO := Lib.hid (VO.out.kept hg (fun r hr => by injection hr with hr; omega))
        have ZK := Lib.hid (VK.out.kept hg hbn)
        have ZGG := Lib.hid hg
        have ZX := Lib.hid hgood
        have ZST := Lib.hid hnx.1
        have ZM := Lib.hid hnx.2
        have hz3 := hg.size
        have hb3 := hp.lt
        clear hp hg hgood hwfx hres hnx SE
        unfold nodeC nodeV
        go_wp2_with (at_builtin; refine wpList_append_own_at _ rfl (.tmp 24) (.tmp 27) 34 rfl (W.heap.size + 1) 36 i0 (.agg #[.int .i64 0, .int .u64 0, .int .u64 0, .int .u64 0, .int .u64 0, .int .i64 0, .int .i64 0, .slice none 0 0]) 8 80 Tryz.underlying34 hi hz0 hz1 hz2 rfl (by decide) _ _ _ rfl (OwnR.alloc ZO.out _) ⟨w3.heap.size, 0, none⟩ 1 1 (nodeV x) rfl rfl (new_cells_at _ _ _ _ (by simp)) (nodeV_one _) (by unfold maxLen; omega) (by omega) (by simp; omega) ?_)
        intro v' w4 hown' hgrow _ hwhere
        have hrow := fun r (hr : _ = some r) => World.ownsRow.lt ZO.out r hr
        have HO4 := Lib.hid (OwnR.snoc hown')
        have HR4 := Lib.hid (goodRow_next VR.out VO.out (by omega) VS.out ZGG.out ZX.out hgrow hwhere)
        have HP4 := Lib.hid ((ZP.out.alloc (.cells (nodeV x).toArray 36)).stays hgrow (fun e => by have := (hrow _ e).1; omega))
        have HG4 := Lib.hid (grown_own (grown_alloc ZG.out (.cells (nodeV x).toArray 36)) hgrow (fun r hr => Nat.le_of_succ_le (hrow r hr).1))
        have HK4 := Lib.hid ((ZK.out.alloc (.cells (nodeV x).toArray 36)).stays hgrow (fun e => by have := (hrow _ e).1; omega))
        have HS4 := Lib.hid (show W.heap.size + 1 ≤ w4.heap.size by have := hgrow.size; rw [World.size_alloc] at this; omega)
        have HST4 := Lib.hid (show AltSt E g R t k j3 ((l ++ [x]).map NodeX.t) f3 e3 by rw [List.map_append]; exact ZST.out)
        clear hown' hgrow hwhere hrow
        go_wp2
        go_roundw
        case rel => exact ⟨l ++ [x], j3, f3, e3, HP4, HG4, HO4, HR4, HK4, HS4, HST4⟩
        case measure =>
          rw [seqM_go HP.out]
          cases f3 with
          | true => rw [seqM_stop HP4.out]; omega
          | false =>
            have := ZM.out rfl
            have := HP4.out.le
            rw [seqM_go HP4.out]
            omega
      · have h124' : ∀ q, atL t j ≠ 124 :: q := fun q e => h124 ⟨q, e⟩
        have TK := Lib.hid (take_no2 b ⟨#[124]⟩ (by decide) t j o false e1 (head_no 124 _ h124') _ HP.out wr.heap.size rfl)
        have HRM := Lib.hid (altSt_end HST.out h124')
        clear h124 h124'
        go_wp2_with fail
        refine TK.out.mono ?_
        rintro e w2 ⟨⟨xx, rfl⟩, hp, hg⟩
        have VP := Lib.hid hp
        have VG := Lib.hid (World.grownBy.trans HG.out hg)
        have VO := Lib.hid (HO1.out.kept hg (fun r hr => by injection hr with hr; omega))
        have VR := Lib.hid (show GoodRow w2 (W.heap.size + 1) _ l from fun x hx => (HGR.out x hx).grown hg (fun g hq e => by injection e with e; have := hq.1; omega))
        have VK := Lib.hid (HK.out.kept hg hbn)
        have hVS : W.heap.size + 1 ≤ w2.heap.size := Nat.le_trans HS.out hg.size
        clear hp hg TK HG HO1 HGR HK HS q3
        by_cases h1l : l.length = 1
        · obtain ⟨x, rfl⟩ : ∃ x, l = [x] := by
            match l, h1l with
            | [x], _ => exact ⟨x, rfl⟩
          obtain ⟨gg, cp, hv2, hge, hgl, _, hc⟩ := OwnR.at_ nodeV_len VO.out (by simp)
          have a0 := hc 0 0 x rfl (by decide)
          have a1 := hc 0 1 x rfl (by decide)
          have a2 := hc 0 2 x rfl (by decide)
          have a3 := hc 0 3 x rfl (by decide)
          have a4 := hc 0 4 x rfl (by decide)
          have a5 := hc 0 5 x rfl (by decide)
          have a6 := hc 0 6 x rfl (by decide)
          have a7 := hc 0 7 x rfl (by decide)
          simp only [nodeV, List.getElem?_cons_zero, List.getElem?_cons_succ, Nat.zero_mul, Nat.zero_add] at a0 a1 a2 a3 a4 a5 a6 a7
          obtain ⟨⟨d0, d1, d2, d3, d4, d5, d6, d7⟩, f0, f1, f2, f3, f4, f5, f6, f7⟩ := nil_cells VK.out
          have hone : ([x] : List NodeX).length = 1 := rfl
          rw [hone] at hv2
          rw [hv2]
          clear hc hv2 hge
          go_wp2
          refine bodyPost_ret (results_cell_row rfl _ _ W.heap.size 36 (nodeC x) (0, 0) _ rfl (blk_eight VK.out nilX_lit _ _ _ _ _ _ _ _) Tryz.underlying36 rfl (by kernel_rfl)) rfl ?_
          refine ⟨x, j, false, e1, rfl, ps_eight VP.out (Ne.symm hbn) _ _ _ _ _ _ _ _, grown_eight VG.out (Nat.le_refl _) _ _ _ _ _ _ _ _, ⟨(good_eight2 (VR.out x (by simp)) (fun q hq e => by have := hq.1; omega) _ _ _ _ _ _ _ _).weaken (fun q hq _ => Nat.le_of_succ_le hq.1), HT1.out⟩, ?_⟩
          rw [HRM.out]
          exact ⟨rfl, (rfl : x.t = choiceT [x.t]), rfl⟩
        · obtain ⟨A2, c2, hv2, hc2, hn2, hrow⟩ := OwnR.open nodeV_len VO.out
          have CO := Lib.hid (altOf_any A2 l.length c2 l (fun g => W.heap.size + 1 ≤ g) w2 hrow (fun x hx => (VR.out x hx).weaken (fun g hq _ => hq.1)) (by omega) hcx HWF.out)
          have hne1 : ((l.length : Int) == 1) = false := by rw [beq_eq_false_iff_ne]; omega
          have hne2 : ¬ l.length = 1 := h1l
          rw [hv2]
          clear hrow hn2 hc2 hv2
          go_wp2_with fail
          refine CO.out.mono ?_
          rintro e w9 ⟨y, rfl, hy, hgy, hx⟩
          have YP := Lib.hid (VP.out.belowS hx)
          have YG := Lib.hid (grown_hop VG.out hx)
          have hk9 := VK.out.below hx VK.out.lt
          have YK := Lib.hid hk9
          have YT := Lib.hid (hy.trans (choice_more (l := l.map NodeX.t) (by rw [List.length_map]; exact h1l)).symm)
          have YD := Lib.hid hgy
          obtain ⟨⟨d0, d1, d2, d3, d4, d5, d6, d7⟩, f0, f1, f2, f3, f4, f5, f6, f7⟩ := nil_cells hk9
          clear hx hy hgy hk9 CO
          unfold nodeC nodeV
          go_wp2
          refine bodyPost_ret (results_cell_row rfl _ _ W.heap.size 36 (nodeC y) (0, 0) _ rfl (blk_eight YK.out nilX_lit _ _ _ _ _ _ _ _) Tryz.underlying36 rfl (by kernel_rfl)) rfl ?_
          refine ⟨y, j, false, e1, rfl, ps_eight YP.out (Ne.symm hbn) _ _ _ _ _ _ _ _, grown_eight YG.out (Nat.le_refl _) _ _ _ _ _ _ _ _, ⟨(good_eight2 YD.out (fun q hq e => by omega) _ _ _ _ _ _ _ _).weaken (fun q hq _ => by omega), by rw [YT.out]; exact HT1.out⟩, ?_⟩
          rw [HRM.out]
          exact ⟨rfl, YT.out, rfl⟩
theorem expression_all : ∀ fuel, ExprC fuel
  | 0 => fun _ _ _ _ _ _ _ _ _ h => absurd h (Nat.not_lt_zero _)
  | fuel + 1 => expression_any fuel (expression_all fuel)
end Go.Proofs.YtojjeignijpiaaaGreatDoor
