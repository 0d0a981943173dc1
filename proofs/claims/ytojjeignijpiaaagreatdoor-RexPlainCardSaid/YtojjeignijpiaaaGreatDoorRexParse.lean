/- A text read as an expression: the walk of Parse. -/
import Derived.Test.YtojjeignijpiaaaGreatDoorRexWhole
import Derived.Test.YtojjeignijpiaaaGreatDoorRexSize2
namespace Go.Proofs.YtojjeignijpiaaaGreatDoor
open Go.RowKit
set_option linter.unusedVariables false
set_option linter.unusedSimpArgs false

theorem parseB_is (l : List UInt8) (h : ¬ 256 < l.length) : parseB l = (match exprP (l.length + 1) false l with
    | .bad k => (.nil, (l.length : Int) - (k : Int), 2)
    | .ok n r => if 200 < sizeT n then (.nil, (l.length : Int) - (r.length : Int), 4) else (n, (l.length : Int) - (r.length : Int), 0)) := by
  unfold parseB
  rw [if_neg h]
  cases exprP (l.length + 1) false l <;> rfl
set_option maxRecDepth 100000 in
set_option maxHeartbeats 3200000 in
theorem parse_rex (t : ByteArray) (W : World) (hl : LibIs W) :
    Calls Tryz.prog 18 #[.string t] W fun e w' => ∃ x at' er, e = .returned (.tuple #[.agg (nodeC x), .int .i64 at', .int .i64 er]) ∧ parseB t.data.toList = (x.t, at', er) ∧ GoodN w' (fun g => W.heap.size ≤ g) x ∧ Below W.heap.size W w' := by
  have HK0 := Lib.hid (Blk.new W 36 #[.int .i64 0, .int .u64 0, .int .u64 0, .int .u64 0, .int .u64 0, .int .i64 0, .int .i64 0, .slice none 0 0])
  have HB0 := Lib.hid ((Below.refl W.heap.size W).alloc (Nat.le_refl _) (.cells #[.int .i64 0, .int .u64 0, .int .u64 0, .int .u64 0, .int .u64 0, .int .i64 0, .int .i64 0, .slice none 0 0] 36))
  have hts : t.data.toList.length = t.size := size_toList t
  by_cases hbig : 256 < t.size
  · have E : parseB t.data.toList = (.nil, 256, 4) := by unfold parseB; rw [if_pos (by omega)]
    rw [E]
    have hI : (256 : Int) < (t.size : Int) := by omega
    have hI2 : (t.size : Int) > 256 := by omega
    obtain ⟨⟨d0, d1, d2, d3, d4, d5, d6, d7⟩, f0, f1, f2, f3, f4, f5, f6, f7⟩ := nil_cells HK0.out
    clear E hts
    go_enter Tryz.func18, Tryz.ntmps18
    go_wp2
    refine bodyPost_ret (results_row_tmp2 rfl _ _ W.heap.size 36 nilC (0, 0) _ rfl (by first | exact (Blk.new W 36 nilC) | exact (blk_eight HK0.out nilX_lit _ _ _ _ _ _ _ _)) Tryz.underlying36 rfl (by kernel_rfl)) rfl ?_
    refine ⟨nilX, 256, 4, rfl, rfl, GoodN.nil _ _, ?_⟩
    first | exact HB0.out | exact below_eight HB0.out (Nat.le_refl _) _ _ _ _ _ _ _ _
  · have hI : ¬ (256 : Int) < (t.size : Int) := by omega
    have hI2 : ¬ (t.size : Int) > 256 := by omega
    have NP := Lib.hid (newParser_any t (by omega) (W.alloc (.cells #[.int .i64 0, .int .u64 0, .int .u64 0, .int .u64 0, .int .u64 0, .int .i64 0, .int .i64 0, .slice none 0 0] 36)))
    have hpb := parseB_is t.data.toList (by omega)
    rw [hts] at hpb
    have hW1 : (W.alloc (.cells #[.int .i64 0, .int .u64 0, .int .u64 0, .int .u64 0, .int .u64 0, .int .i64 0, .int .i64 0, .slice none 0 0] 36)).heap.size = W.heap.size + 1 := by simp
    have WH := fun b w (h : Ps w b t 0 0 false 0) (h2 : LibF w b) => whole_any b t 0 w h h2
    have hat0 : atL t 0 = t.data.toList := rfl
    rw [hat0] at WH
    obtain ⟨R, hR⟩ : ∃ R, exprP (t.size + 1) false t.data.toList = R := ⟨_, rfl⟩
    rw [hR] at WH hpb
    have HPB := Lib.hid hpb
    have HWH := Lib.hid WH
    have HL := Lib.hid hl
    have HW1 := Lib.hid hW1
    clear hbig hpb WH hR hl hat0 hts hW1
    go_enter Tryz.func18, Tryz.ntmps18
    go_wp2_with fail
    refine NP.out.mono ?_
    rintro e w1 ⟨b, rfl, hp, hb, hx⟩
    have hbW : W.heap.size + 1 ≤ b := by have := HW1.out; omega
    have hB1 := hop HB0.out (Nat.le_refl _) hx
    have hk1 := HK0.out.below hx HK0.out.lt
    have WX := Lib.hid (HWH.out b w1 hp (fun w hg => HL.out.below (hB1.grown hg (by have := hB1.size; exact this) (fun r hr => by injection hr with hr; omega))))
    have HB1 := Lib.hid hB1
    have HK1 := Lib.hid hk1
    have hs1 := hx.size
    clear hp hx hB1 hk1 NP HK0 HB0 HWH
    go_wp2_with fail
    refine WX.out.mono ?_
    rintro e w2 ⟨x, at', ok, rfl, hg, hpost⟩
    have hk2 := HK1.out.kept hg (by omega)
    have HK2 := Lib.hid hk2
    have HB2 := Lib.hid (HB1.out.grown hg (by have := HB1.out.size; exact this) (fun r hr => by injection hr with hr; omega))
    have HPO := Lib.hid hpost
    have hw1s : W.heap.size + 1 ≤ w1.heap.size := by have := HW1.out; omega
    obtain ⟨⟨d0, d1, d2, d3, d4, d5, d6, d7⟩, f0, f1, f2, f3, f4, f5, f6, f7⟩ := nil_cells hk2
    obtain ⟨w3, hw3⟩ : ∃ z, ((((((((w2.setCell ⟨W.heap.size, 0, none⟩ (.int .i64 x.kind)).setCell ⟨W.heap.size, 1, none⟩ (.int .u64 (word x.set 0 : Nat))).setCell ⟨W.heap.size, 2, none⟩ (.int .u64 (word x.set 1 : Nat))).setCell ⟨W.heap.size, 3, none⟩ (.int .u64 (word x.set 2 : Nat))).setCell ⟨W.heap.size, 4, none⟩ (.int .u64 (word x.set 3 : Nat))).setCell ⟨W.heap.size, 5, none⟩ (.int .i64 x.mn)).setCell ⟨W.heap.size, 6, none⟩ (.int .i64 x.mx)).setCell ⟨W.heap.size, 7, none⟩ (.slice x.A x.n x.c)) = z := ⟨_, rfl⟩
    have HK3 := Lib.hid (show Blk w3 W.heap.size 36 (nodeC x) by rw [← hw3]; exact blk_eight hk2 nilX_lit _ _ _ _ _ _ _ _)
    have HB3 := Lib.hid (show Below W.heap.size W w3 by rw [← hw3]; exact below_eight HB2.out (Nat.le_refl _) _ _ _ _ _ _ _ _)
    have HW3 := Lib.hid hw3
    obtain ⟨⟨a0, a1, a2, a3, a4, a5, a6, a7⟩, z0, z1, z2, z3, z4, z5, z6, z7⟩ := node_cells HK3.out
    clear hg hpost hk2 WX HK1 HB1 hw3
    unfold nodeC nodeV
    cases R with
    | bad m =>
      obtain ⟨rfl, rfl, rfl⟩ := HPO.out
      go_wp2
      rw [HW3.out]
      refine bodyPost_ret (results_row_tmp2 rfl _ _ W.heap.size 36 nilC (0, 0) _ rfl (blk_eight HK3.out rfl _ _ _ _ _ _ _ _) Tryz.underlying36 rfl (by kernel_rfl)) rfl ?_
      exact ⟨nilX, _, 2, rfl, HPB.out, GoodN.nil _ _, below_eight HB3.out (Nat.le_refl _) _ _ _ _ _ _ _ _⟩
    | ok n r =>
      obtain ⟨rfl, hxt, hat, hgd⟩ := HPO.out
      have HGD3 := Lib.hid (show GoodN w3 (fun g => w1.heap.size ≤ g) x by rw [← HW3.out]; exact good_eight2 hgd (fun q hq e => by omega) _ _ _ _ _ _ _ _)
      have SZ := Lib.hid (size_any x _ w3 HGD3.out)
      have HXT := Lib.hid hxt
      have HAT := Lib.hid hat
      have hpb := HPB.out
      dsimp only at hpb
      rw [← hxt, ← hat] at hpb
      obtain ⟨s, hs⟩ : ∃ s, sizeT x.t = s := ⟨_, rfl⟩
      rw [hs] at hpb SZ
      have HPB2 := Lib.hid hpb
      unfold nodeC nodeV at SZ
      have hsd := (show 0 ≤ s ∧ s ≤ 1000000 by rw [← hs]; exact sizeT_bd _)
      clear hxt hat hgd hpb hs HPB HPO
      go_wp2_with fail
      rw [HW3.out]
      refine SZ.out.mono ?_
      rintro e w4 ⟨rfl, hx⟩
      have hk4 := HK3.out.below hx HK3.out.lt
      have HK4 := Lib.hid hk4
      have HB4 := Lib.hid (hop HB3.out (Nat.le_refl _) hx)
      have HGD4 := Lib.hid (HGD3.out.later hx)
      clear a0 a1 a2 a3 a4 a5 a6 a7 z0 z1 z2 z3 z4 z5 z6 z7 d0 d1 d2 d3 d4 d5 d6 d7 f0 f1 f2 f3 f4 f5 f6 f7
      obtain ⟨⟨a0, a1, a2, a3, a4, a5, a6, a7⟩, z0, z1, z2, z3, z4, z5, z6, z7⟩ := node_cells hk4
      clear hx hk4 SZ HK3 HB3 HGD3 HK2 HB2
      by_cases h200 : 200 < s
      · have h200' : s > 200 := h200
        have hpb := HPB2.out
        rw [if_pos h200] at hpb
        have HPB3 := Lib.hid hpb
        clear hpb
        go_wp2
        refine bodyPost_ret (results_row_tmp2 rfl _ _ W.heap.size 36 nilC (0, 0) _ rfl (blk_eight HK4.out rfl _ _ _ _ _ _ _ _) Tryz.underlying36 rfl (by kernel_rfl)) rfl ?_
        exact ⟨nilX, _, 4, rfl, HPB3.out, GoodN.nil _ _, below_eight HB4.out (Nat.le_refl _) _ _ _ _ _ _ _ _⟩
      · have h200' : ¬ s > 200 := h200
        have hpb := HPB2.out
        rw [if_neg h200] at hpb
        have HPB3 := Lib.hid hpb
        clear hpb
        go_wp2
        refine bodyPost_ret (results_row_tmp2 rfl _ _ W.heap.size 36 (nodeC x) (0, 0) _ rfl (blk_eight HK4.out rfl _ _ _ _ _ _ _ _) Tryz.underlying36 rfl (by kernel_rfl)) rfl ?_
        exact ⟨x, _, 0, rfl, HPB3.out, (good_eight2 HGD4.out (fun q hq e => by omega) _ _ _ _ _ _ _ _).weaken (fun q hq _ => by omega), below_eight HB4.out (Nat.le_refl _) _ _ _ _ _ _ _ _⟩
end Go.Proofs.YtojjeignijpiaaaGreatDoor
