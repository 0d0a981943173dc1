-- shaken
import Derived.Test.YtbkpoimaienhpaaGreatDoorRexNode
import Derived.Test.YtbkpoimaienhpaaGreatDoorRexClass
import Derived.Test.YtbkpoimaienhpaaGreatDoorMem
namespace Go.Proofs.YtbkpoimaienhpaaGreatDoor
open Go.RowKit
set_option linter.unusedVariables false
set_option linter.unusedSimpArgs false
theorem boundS_bd (n : Int) : 0 ≤ boundS n ∧ boundS n ≤ 1000000 := by unfold boundS; omega
theorem sizeT_bd (n : NodeT) : 0 ≤ sizeT n ∧ sizeT n ≤ 1000000 := by
  cases n
  rw [sizeT]
  exact boundS_bd _
theorem sizesT_nil (s : Int) : sizesT s [] = s := by rw [sizesT]
theorem sizesT_cons (s : Int) (x : NodeT) (l : List NodeT) : sizesT s (x :: l) = if 1000000 ≤ s then s else sizesT (s + sizeT x) l := by rw [sizesT]
theorem sizesT_bd : ∀ (l : List NodeT) (s : Int), 0 ≤ s → s ≤ 2000000 → 0 ≤ sizesT s l ∧ sizesT s l ≤ 2000000
  | [], s, h1, h2 => by rw [sizesT_nil]; exact ⟨h1, h2⟩
  | x :: l, s, h1, h2 => by
    rw [sizesT_cons]
    split
    · exact ⟨h1, h2⟩
    · have := sizeT_bd x
      exact sizesT_bd l _ (by omega) (by omega)
set_option maxHeartbeats 800000 in
theorem bound_any (n : Int) (W : World) : Calls Tryz.prog 76 #[.int .i64 n] W fun e w' => e = .returned (.int .i64 (boundS n)) ∧ W = w' := by
  go_enter Tryz.func76, Tryz.ntmps76
  go_wp2
  go_ret
  exact ⟨rfl, rfl⟩
def SizeC (x : NodeX) : Prop := ∀ (P : Nat → Prop) (W : World), GoodN W P x → Calls Tryz.prog 56 #[.agg (nodeC x)] W fun e w' => e = .returned (.int .i64 (sizeT x.t)) ∧ Below W.heap.size W w'
set_option maxRecDepth 100000 in
set_option maxHeartbeats 1600000 in
theorem sizes_any (A : Option Addr) (n c : Nat) (l : List NodeX) (P : Nat → Prop) (HS : ∀ x, x ∈ l → SizeC x) (W : World) (hR : RowR nodeV 8 W A n l) (hG : ∀ x, x ∈ l → GoodN W P x) (hn : n ≤ maxLen) :
    Calls Tryz.prog 74 #[.slice A n c] W fun e w' => e = .returned (.int .i64 (sizesT 0 (l.map NodeX.t))) ∧ Below W.heap.size W w' := by
  have HHS := Lib.hid HS
  have HR := Lib.hid hR
  have HG := Lib.hid hG
  have hl := hR.1
  unfold maxLen at hn
  obtain ⟨F, hF⟩ : ∃ F, sizesT 0 (l.map NodeX.t) = F := ⟨_, rfl⟩
  have hFb := sizesT_bd (l.map NodeX.t) 0 (by decide) (by decide)
  rw [hF] at hFb ⊢
  have HF := Lib.hid hF
  clear HS hR hG hF
  go_enter Tryz.func74, Tryz.ntmps74
  go_wp2
  go_loopw [3, 8] (fun sv iv wr => ∃ (j : Nat) (s : Int), j ≤ n ∧ iv = .int .i64 (j : Nat) ∧ sv = .int .i64 s ∧ 0 ≤ s ∧ s ≤ 2000000 ∧ Hid (sizesT s ((l.drop j).map NodeX.t) = F) ∧ Hid (Below W.heap.size W wr)) (fun _ iv _ => n - (intOf iv).toNat)
  case atStart => exact ⟨0, 0, Nat.zero_le _, rfl, rfl, by decide, by decide, HF, Lib.hid (Below.refl _ _)⟩
  case round =>
    obtain ⟨j, s, hj, rfl, rfl, hs0, hs2, HT, HB⟩ := hrel
    by_cases h : j < n
    · have hI : (j : Int) < n := by omega
      obtain ⟨b, off, rfl, hlt, hc⟩ := HR.out.2 (by omega)
      have hjl : j < l.length := by omega
      obtain ⟨x, hp⟩ : ∃ x, l[j]? = some x := ⟨l[j], List.getElem?_eq_getElem hjl⟩
      have hxl : x ∈ l := List.mem_of_getElem? hp
      have hdr : l.drop j = x :: l.drop (j + 1) := by
        rw [List.drop_eq_getElem_cons hjl]
        congr 1
        rw [List.getElem?_eq_getElem hjl] at hp
        injection hp
      have c0 := (HB.out.cell (p := ⟨b, off + j * 8 + 0, none⟩) hlt).trans (hc j 0 x hp (by decide))
      have c1 := (HB.out.cell (p := ⟨b, off + j * 8 + 1, none⟩) hlt).trans (hc j 1 x hp (by decide))
      have c2 := (HB.out.cell (p := ⟨b, off + j * 8 + 2, none⟩) hlt).trans (hc j 2 x hp (by decide))
      have c3 := (HB.out.cell (p := ⟨b, off + j * 8 + 3, none⟩) hlt).trans (hc j 3 x hp (by decide))
      have c4 := (HB.out.cell (p := ⟨b, off + j * 8 + 4, none⟩) hlt).trans (hc j 4 x hp (by decide))
      have c5 := (HB.out.cell (p := ⟨b, off + j * 8 + 5, none⟩) hlt).trans (hc j 5 x hp (by decide))
      have c6 := (HB.out.cell (p := ⟨b, off + j * 8 + 6, none⟩) hlt).trans (hc j 6 x hp (by decide))
      have c7 := (HB.out.cell (p := ⟨b, off + j * 8 + 7, none⟩) hlt).trans (hc j 7 x hp (by decide))
      rw [Nat.add_zero] at c0
      simp only [nodeV, List.getElem?_cons_zero, List.getElem?_cons_succ] at c0 c1 c2 c3 c4 c5 c6 c7
      have ht := HT.out
      rw [hdr, List.map_cons, sizesT_cons] at ht
      have hWs := HB.out.size
      clear hc hp hdr
      by_cases hbig : 1000000 ≤ s
      · rw [if_pos hbig] at ht
        subst ht
        have HB2 := Lib.hid (HB.out.alloc hWs (.cells (nodeC x) 97))
        go_wp2
        go_ret
        exact ⟨rfl, HB2.out⟩
      · rw [if_neg hbig] at ht
        have HT2 := Lib.hid ht
        have hbd := sizeT_bd x.t
        have SX := HHS.out x hxl P (wr.alloc (.cells (nodeC x) 97)) (((HG.out x hxl).later HB.out).alloc _)
        obtain ⟨z, hz⟩ : ∃ z, sizeT x.t = z := ⟨_, rfl⟩
        rw [hz] at SX hbd HT2
        replace SX := Lib.hid SX
        have hw : IntKind.i64.wrap (s + z) = s + z := by rw [IntKind.wrap_i64]; omega
        have K1 := Blk.new wr 97 (nodeC x)
        obtain ⟨⟨a0, a1, a2, a3, a4, a5, a6, a7⟩, _⟩ := node_cells K1
        clear ht hz K1
        go_wp2_with fail
        refine SX.out.mono ?_
        rintro e w2 ⟨rfl, hx⟩
        have HB2 := Lib.hid (hop (HB.out.alloc hWs (.cells (nodeC x) 97)) (Nat.le_refl _) hx)
        clear hx
        go_wp2
        go_round
        case rel => exact ⟨j + 1, s + z, by omega, by go_num, rfl, by omega, by omega, HT2, HB2⟩
        case measure => simp [intOf]; omega
    · obtain rfl : j = n := by omega
      have hI : ¬ (j : Int) < (j : Int) := by omega
      have ht := HT.out
      rw [List.drop_of_length_le (by omega), List.map_nil, sizesT_nil] at ht
      subst ht
      go_wp2
      go_ret
      exact ⟨rfl, HB.out⟩
def repS (x : NodeX) : Int := if x.mx < 0 then firstT (x.kids.map NodeX.t) * max (boundS x.mn) 1 + 1 else firstT (x.kids.map NodeX.t) * boundS x.mx + boundS x.mx - boundS x.mn
theorem firstT_bd (l : List NodeT) : 0 ≤ firstT l ∧ firstT l ≤ 1000000 := by
  cases l with
  | nil => rw [firstT]; decide
  | cons x l => rw [firstT]; exact sizeT_bd x
theorem mul_bd {a b : Int} (h1 : 0 ≤ a ∧ a ≤ 1000000) (h2 : 0 ≤ b ∧ b ≤ 1000000) : 0 ≤ a * b ∧ a * b ≤ 1000000000000 := by
  refine ⟨Int.mul_nonneg h1.1 h2.1, ?_⟩
  have := Int.mul_le_mul h1.2 h2.2 h2.1 (by decide)
  omega
set_option maxRecDepth 100000 in
set_option maxHeartbeats 3200000 in
theorem repeated_any (x : NodeX) (P : Nat → Prop) (HS : ∀ y, y ∈ x.kids → SizeC y) (W : World) (h : GoodN W P x) :
    Calls Tryz.prog 75 #[.agg (nodeC x)] W fun e w' => e = .returned (.int .i64 (repS x)) ∧ Below W.heap.size W w' := by
  have HK0 := Lib.hid (Blk.new W 97 (nodeC x))
  have HB0 := Lib.hid ((Below.refl W.heap.size W).alloc (Nat.le_refl _) (.cells (nodeC x) 97))
  obtain ⟨⟨a0, a1, a2, a3, a4, a5, a6, a7⟩, _⟩ := node_cells HK0.out
  have hrow := h.row
  have hkid := fun y hy => h.kid (y := y) hy
  obtain ⟨xk, xs, xm, xx, xA, xn, xc, xl⟩ := x
  obtain ⟨T, hT⟩ : ∃ T, repS (.mk xk xs xm xx xA xn xc xl) = T := ⟨_, rfl⟩
  rw [hT]
  unfold repS at hT
  simp only [NodeX.kind, NodeX.set, NodeX.mn, NodeX.mx, NodeX.A, NodeX.n, NodeX.c, NodeX.kids] at hT hrow hkid HS a0 a1 a2 a3 a4 a5 a6 a7
  have hf := firstT_bd (xl.map NodeX.t)
  have hlo := boundS_bd xm
  have hhi := boundS_bd xx
  have BL := Lib.hid (bound_any xm)
  have BH := Lib.hid (bound_any xx)
  obtain ⟨lo, hlo2⟩ : ∃ z, boundS xm = z := ⟨_, rfl⟩
  obtain ⟨hi, hhi2⟩ : ∃ z, boundS xx = z := ⟨_, rfl⟩
  rw [hlo2] at hlo BL hT
  rw [hhi2] at hhi BH hT
  have hrl := hrow.1
  unfold nodeC nodeV
  simp only [NodeX.kind, NodeX.set, NodeX.mn, NodeX.mx, NodeX.A, NodeX.n, NodeX.c, NodeX.kids]
  by_cases hn : 0 < xn
  · obtain ⟨b, off, rfl, hlt, hc⟩ := hrow.2 hn
    obtain ⟨y, yl, rfl⟩ : ∃ y yl, xl = y :: yl := by
      cases xl with
      | nil => rw [List.length_nil] at hrl; omega
      | cons y yl => exact ⟨y, yl, rfl⟩
    have SX := HS y List.mem_cons_self P _ ((hkid y List.mem_cons_self).alloc (.cells (nodeC (NodeX.mk xk xs xm xx (some ⟨b, off, none⟩) xn xc (y :: yl))) 97))
    obtain ⟨a, ha⟩ : ∃ a, sizeT y.t = a := ⟨_, rfl⟩
    have hfe : firstT ((y :: yl).map NodeX.t) = a := by rw [List.map_cons, firstT, ha]
    rw [ha] at SX
    rw [hfe] at hf hT
    replace SX := Lib.hid SX
    have z0 := hc 0 0 y rfl (by decide)
    have c0 := z0
    have z1 := hc 0 1 y rfl (by decide)
    have c1 := z1
    have z2 := hc 0 2 y rfl (by decide)
    have c2 := z2
    have z3 := hc 0 3 y rfl (by decide)
    have c3 := z3
    have z4 := hc 0 4 y rfl (by decide)
    have c4 := z4
    have z5 := hc 0 5 y rfl (by decide)
    have c5 := z5
    have z6 := hc 0 6 y rfl (by decide)
    have c6 := z6
    have z7 := hc 0 7 y rfl (by decide)
    have c7 := z7
    clear z0 z1 z2 z3 z4 z5 z6 z7
    simp only [nodeV, List.getElem?_cons_zero, List.getElem?_cons_succ, Nat.add_zero, Nat.zero_mul] at c0 c1 c2 c3 c4 c5 c6 c7
    have p1 := mul_bd hf (b := max lo 1) (by omega)
    have p2 := mul_bd hf hhi
    obtain ⟨m1, hm1⟩ : ∃ z, a * max lo 1 = z := ⟨_, rfl⟩
    obtain ⟨m2, hm2⟩ : ∃ z, a * hi = z := ⟨_, rfl⟩
    rw [hm1] at hT p1
    rw [hm2] at hT p2
    have w1 : IntKind.i64.wrap m1 = m1 := by rw [IntKind.wrap_i64]; omega
    have w1' : IntKind.i64.wrap (m1 + 1) = m1 + 1 := by rw [IntKind.wrap_i64]; omega
    have w3 : IntKind.i64.wrap m2 = m2 := by rw [IntKind.wrap_i64]; omega
    have w4 : IntKind.i64.wrap (m2 + hi) = m2 + hi := by rw [IntKind.wrap_i64]; omega
    have w5 : IntKind.i64.wrap (m2 + hi - lo) = m2 + hi - lo := by rw [IntKind.wrap_i64]; omega
    have HT := Lib.hid hT
    clear hT ha hfe hc hrow hkid HS hlo2 hhi2
    go_enter Tryz.func75, Tryz.ntmps75
    have q0 : (0 : Int) < (xn : Int) := by omega
    have q0' : (0 : Int) < (xn : Int) := q0
    go_wp2_with fail
    refine SX.out.mono ?_
    rintro e w2 ⟨rfl, hx⟩
    have HB2 := Lib.hid (hop HB0.out (Nat.le_refl _) hx)
    have K2 := HK0.out.below hx HK0.out.lt
    clear hx SX a0 a1 a2 a3 a4 a5 a6 a7 c0 c1 c2 c3 c4 c5 c6 c7
    obtain ⟨⟨a0, a1, a2, a3, a4, a5, a6, a7⟩, _⟩ := node_cells K2
    have HK2 := Lib.hid K2
    clear K2
    go_wp2
    have S0 : Blk (w2.drew) W.heap.size 97 (nodeC (NodeX.mk xk xs xm xx (some ⟨b, off, none⟩) xn xc (y :: yl))) := HK2.out.drew
    refine wp_region_held_drew (S := fun w' => Blk w' W.heap.size 97 (nodeC (NodeX.mk xk xs xm xx (some ⟨b, off, none⟩) xn xc (y :: yl)))) (by kernel_rfl) S0 (fun hHeld => ?_)
    refine tV 0 ?_; refine tV 3 ?_
    refine tC 1 rfl (by intro w hSw; obtain ⟨⟨u0, u1, u2, u3, u4, u5, u6, u7⟩, _⟩ := node_cells hSw; simp only [NodeX.kind, NodeX.set, NodeX.mn, NodeX.mx, NodeX.A, NodeX.n, NodeX.c, NodeX.kids] at u0 u1 u2 u3 u4 u5 u6 u7; first | (go_simp; done) | (go_simp; with_reducible rfl)) ?_
    refine tC 4 rfl (by intro w hSw; obtain ⟨⟨u0, u1, u2, u3, u4, u5, u6, u7⟩, _⟩ := node_cells hSw; simp only [NodeX.kind, NodeX.set, NodeX.mn, NodeX.mx, NodeX.A, NodeX.n, NodeX.c, NodeX.kids] at u0 u1 u2 u3 u4 u5 u6 u7; first | (go_simp; done) | (go_simp; with_reducible rfl)) ?_
    refine rdy [2] ?_
    refine rdC (fun K hK => ?_) AllReadyH.nil
    go_simp
    go_at_call 76
    refine (BL.out _).mono ?_
    rintro e w9 ⟨rfl, rfl⟩
    refine hK.out _ _ S0 (fun _ => ?_)
    clear hK K
    try simp only [Act.put, pz1, pz2, pz3]
    refine rdy [5] ?_
    refine rdC (fun K hK => ?_) AllReadyH.nil
    go_simp
    go_at_call 76
    refine (BH.out _).mono ?_
    rintro e w9 ⟨rfl, rfl⟩
    refine hK.out _ _ S0 (fun _ => ?_)
    clear hK K
    try simp only [Act.put, pz1, pz2, pz3]
    refine tV 6 ?_; refine tV 7 ?_
    refine wpAnyH_done (by kernel_rfl) ?_ _
    obtain ⟨⟨u0, u1, u2, u3, u4, u5, u6, u7⟩, _⟩ := node_cells S0
    simp only [NodeX.kind, NodeX.set, NodeX.mn, NodeX.mx, NodeX.A, NodeX.n, NodeX.c, NodeX.kids] at u0 u1 u2 u3 u4 u5 u6 u7
    have HB3 := Lib.hid (below_drewN HB2.out 1)
    clear S0 hHeld BL BH a0 a1 a2 a3 a4 a5 a6 a7
    by_cases hmx : xx < 0
    · have ht := HT.out
      split at ht
      · have HT2 := Lib.hid ht
        clear ht
        go_wp2
        go_ret
        exact ⟨by rw [← HT2.out]; first | rfl | (simp [hmx]; done) | (simp; first | (exact (if_neg hmx).symm) | (exact (if_neg (Int.not_lt.2 hmx)).symm) | (exact (if_pos hmx).symm) | (rw [eq_comm]; exact if_neg (by omega))), HB3.out⟩
      · exact absurd hmx (by assumption)
    · have ht := HT.out
      split at ht
      · exact absurd (by assumption) hmx
      · have HT2 := Lib.hid ht
        clear ht
        go_wp2
        go_ret
        exact ⟨by rw [← HT2.out]; first | rfl | (simp [hmx]; done) | (simp; first | (exact (if_neg hmx).symm) | (exact (if_neg (Int.not_lt.2 hmx)).symm) | (exact (if_pos hmx).symm) | (rw [eq_comm]; exact if_neg (by omega))), HB3.out⟩
  · obtain rfl : xl = [] := List.eq_nil_of_length_eq_zero (by omega)
    have hfe : firstT (([] : List NodeX).map NodeX.t) = 0 := by rw [List.map_nil, firstT]
    rw [hfe] at hf hT
    have w1 : IntKind.i64.wrap ((0 : Int) * max lo 1 + 1) = 0 * max lo 1 + 1 := by rw [IntKind.wrap_i64]; omega
    have w3 : IntKind.i64.wrap ((0 : Int) * hi + hi - lo) = 0 * hi + hi - lo := by rw [IntKind.wrap_i64]; omega
    have w4 : IntKind.i64.wrap (hi - lo) = hi - lo := by rw [IntKind.wrap_i64]; omega
    simp only [Int.zero_mul, Int.zero_add] at hT
    clear w1 w3
    have HT := Lib.hid hT
    clear hT hfe hrow hkid HS hlo2 hhi2
    go_enter Tryz.func75, Tryz.ntmps75
    have q0 : ¬ (0 : Int) < (xn : Int) := by omega
    have HB2 := HB0
    have HK2 := HK0
    go_wp2
    have S0 : Blk ((W.alloc (.cells (nodeC (NodeX.mk xk xs xm xx xA xn xc [])) 97)).drew) W.heap.size 97 (nodeC (NodeX.mk xk xs xm xx xA xn xc [])) := HK2.out.drew
    refine wp_region_held_drew (S := fun w' => Blk w' W.heap.size 97 (nodeC (NodeX.mk xk xs xm xx xA xn xc []))) (by kernel_rfl) S0 (fun hHeld => ?_)
    refine tV 0 ?_; refine tV 3 ?_
    refine tC 1 rfl (by intro w hSw; obtain ⟨⟨u0, u1, u2, u3, u4, u5, u6, u7⟩, _⟩ := node_cells hSw; simp only [NodeX.kind, NodeX.set, NodeX.mn, NodeX.mx, NodeX.A, NodeX.n, NodeX.c, NodeX.kids] at u0 u1 u2 u3 u4 u5 u6 u7; first | (go_simp; done) | (go_simp; with_reducible rfl)) ?_
    refine tC 4 rfl (by intro w hSw; obtain ⟨⟨u0, u1, u2, u3, u4, u5, u6, u7⟩, _⟩ := node_cells hSw; simp only [NodeX.kind, NodeX.set, NodeX.mn, NodeX.mx, NodeX.A, NodeX.n, NodeX.c, NodeX.kids] at u0 u1 u2 u3 u4 u5 u6 u7; first | (go_simp; done) | (go_simp; with_reducible rfl)) ?_
    refine rdy [2] ?_
    refine rdC (fun K hK => ?_) AllReadyH.nil
    go_simp
    go_at_call 76
    refine (BL.out _).mono ?_
    rintro e w9 ⟨rfl, rfl⟩
    refine hK.out _ _ S0 (fun _ => ?_)
    clear hK K
    try simp only [Act.put, pz1, pz2, pz3]
    refine rdy [5] ?_
    refine rdC (fun K hK => ?_) AllReadyH.nil
    go_simp
    go_at_call 76
    refine (BH.out _).mono ?_
    rintro e w9 ⟨rfl, rfl⟩
    refine hK.out _ _ S0 (fun _ => ?_)
    clear hK K
    try simp only [Act.put, pz1, pz2, pz3]
    refine tV 6 ?_; refine tV 7 ?_
    refine wpAnyH_done (by kernel_rfl) ?_ _
    obtain ⟨⟨u0, u1, u2, u3, u4, u5, u6, u7⟩, _⟩ := node_cells S0
    simp only [NodeX.kind, NodeX.set, NodeX.mn, NodeX.mx, NodeX.A, NodeX.n, NodeX.c, NodeX.kids] at u0 u1 u2 u3 u4 u5 u6 u7
    have HB3 := Lib.hid (below_drewN HB2.out 1)
    clear S0 hHeld BL BH a0 a1 a2 a3 a4 a5 a6 a7
    by_cases hmx : xx < 0
    · have ht := HT.out
      split at ht
      · have HT2 := Lib.hid ht
        clear ht
        go_wp2
        go_ret
        exact ⟨by rw [← HT2.out]; first | rfl | (simp [hmx]; done) | (simp; first | (exact (if_neg hmx).symm) | (exact (if_neg (Int.not_lt.2 hmx)).symm) | (exact (if_pos hmx).symm) | (rw [eq_comm]; exact if_neg (by omega))), HB3.out⟩
      · exact absurd hmx (by assumption)
    · have ht := HT.out
      split at ht
      · exact absurd (by assumption) hmx
      · have HT2 := Lib.hid ht
        clear ht
        go_wp2
        go_ret
        exact ⟨by rw [← HT2.out]; first | rfl | (simp [hmx]; done) | (simp; first | (exact (if_neg hmx).symm) | (exact (if_neg (Int.not_lt.2 hmx)).symm) | (exact (if_pos hmx).symm) | (rw [eq_comm]; exact if_neg (by omega))), HB3.out⟩
theorem sizeX (k : Int) (s : Nat) (mn mx : Int) (A : Option Addr) (n c : Nat) (l : List NodeX) : sizeT (NodeX.mk k s mn mx A n c l).t = boundS (if k = 1 ∨ k = 2 ∨ k = 3 then 1 else if k = 4 then sizesT 0 (l.map NodeX.t) else if k = 5 then sizesT 0 (l.map NodeX.t) + l.length - 1
      else if k = 6 then repS (NodeX.mk k s mn mx A n c l) else 0) := by
  rw [NodeX.t, sizeT, NodeX.ts_map, List.length_map]
  rfl
set_option maxRecDepth 100000 in
set_option maxHeartbeats 3200000 in
theorem size_step (x : NodeX) (HS : ∀ y, y ∈ x.kids → SizeC y) : SizeC x := by
  intro P W h
  have HK0 := Lib.hid (Blk.new W 97 (nodeC x))
  have HB0 := Lib.hid ((Below.refl W.heap.size W).alloc (Nat.le_refl _) (.cells (nodeC x) 97))
  obtain ⟨⟨a0, a1, a2, a3, a4, a5, a6, a7⟩, _⟩ := node_cells HK0.out
  have hrow := h.row
  have hm := h.lenM
  have HH := Lib.hid h
  have RP := Lib.hid (repeated_any x P HS)
  have hkid := fun y hy => h.kid (y := y) hy
  obtain ⟨xk, xs, xm, xx, xA, xn, xc, xl⟩ := x
  rw [sizeX]
  simp only [NodeX.kind, NodeX.set, NodeX.mn, NodeX.mx, NodeX.A, NodeX.n, NodeX.c, NodeX.kids] at hrow hkid HS a0 a1 a2 a3 a4 a5 a6 a7 hm
  have hrl := hrow.1
  have SZF := fun w (hb : Below W.heap.size W w) => sizes_any xA xn xc xl P HS w (hrow.below hb) (fun y hy => (hkid y hy).later hb) (by unfold maxLen; omega)
  have SZ := SZF _ HB0.out
  have SZD := SZF (W.alloc (.cells (nodeC (NodeX.mk xk xs xm xx xA xn xc xl)) 97)).drew (below_drewN HB0.out 1)
  have hSb := sizesT_bd (xl.map NodeX.t) 0 (by decide) (by decide)
  have BN := Lib.hid bound_any
  clear hrow hkid HS h SZF
  by_cases h1 : xk = 1
  · subst h1
    rw [if_pos (by decide)]
    clear SZ SZD RP
    unfold nodeC nodeV
    simp only [NodeX.kind, NodeX.set, NodeX.mn, NodeX.mx, NodeX.A, NodeX.n, NodeX.c, NodeX.kids]
    go_enter Tryz.func56, Tryz.ntmps56
    go_wp2_with fail
    refine (BN.out _ _).mono ?_
    rintro e w9 ⟨rfl, rfl⟩
    go_wp2
    go_ret
    exact ⟨rfl, HB0.out⟩
  · have g1 : (xk == 1) = false := by rw [beq_eq_false_iff_ne]; exact h1
    by_cases h2 : xk = 2
    · subst h2
      rw [if_pos (by decide)]
      clear SZ SZD RP
      unfold nodeC nodeV
      simp only [NodeX.kind, NodeX.set, NodeX.mn, NodeX.mx, NodeX.A, NodeX.n, NodeX.c, NodeX.kids]
      go_enter Tryz.func56, Tryz.ntmps56
      go_wp2_with fail
      refine (BN.out _ _).mono ?_
      rintro e w9 ⟨rfl, rfl⟩
      go_wp2
      go_ret
      exact ⟨rfl, HB0.out⟩
    · have g2 : (xk == 2) = false := by rw [beq_eq_false_iff_ne]; exact h2
      by_cases h3 : xk = 3
      · subst h3
        rw [if_pos (by decide)]
        clear SZ SZD RP
        unfold nodeC nodeV
        simp only [NodeX.kind, NodeX.set, NodeX.mn, NodeX.mx, NodeX.A, NodeX.n, NodeX.c, NodeX.kids]
        go_enter Tryz.func56, Tryz.ntmps56
        go_wp2_with fail
        refine (BN.out _ _).mono ?_
        rintro e w9 ⟨rfl, rfl⟩
        go_wp2
        go_ret
        exact ⟨rfl, HB0.out⟩
      · have g3 : (xk == 3) = false := by rw [beq_eq_false_iff_ne]; exact h3
        rw [if_neg (by rintro (q | q | q); exact h1 q; exact h2 q; exact h3 q)]
        by_cases h4 : xk = 4
        · subst h4
          rw [if_pos rfl]
          obtain ⟨F, hF⟩ : ∃ F, sizesT 0 (xl.map NodeX.t) = F := ⟨_, rfl⟩
          rw [hF] at SZ SZD hSb ⊢
          replace SZ := Lib.hid SZ
          replace SZD := Lib.hid SZD
          clear hF RP
          unfold nodeC nodeV
          simp only [NodeX.kind, NodeX.set, NodeX.mn, NodeX.mx, NodeX.A, NodeX.n, NodeX.c, NodeX.kids]
          go_enter Tryz.func56, Tryz.ntmps56
          go_wp2_with fail
          refine SZ.out.mono ?_
          rintro e w2 ⟨rfl, hx⟩
          have HB2 := Lib.hid (hop HB0.out (Nat.le_refl _) hx)
          clear hx SZ SZD
          go_wp2_with fail
          refine (BN.out _ _).mono ?_
          rintro e w9 ⟨rfl, rfl⟩
          go_wp2
          go_ret
          exact ⟨rfl, HB2.out⟩
        · have g4 : (xk == 4) = false := by rw [beq_eq_false_iff_ne]; exact h4
          rw [if_neg h4]
          by_cases h5 : xk = 5
          · subst h5
            rw [if_pos rfl]
            obtain ⟨F, hF⟩ : ∃ F, sizesT 0 (xl.map NodeX.t) = F := ⟨_, rfl⟩
            rw [hF] at SZ SZD hSb ⊢
            replace SZ := Lib.hid SZ
            replace SZD := Lib.hid SZD
            clear hF RP
            rw [hrl]
            have hwr : boundS (IntKind.i64.wrap (IntKind.i64.wrap (F + (xn : Int)) - 1)) = boundS (F + (xn : Int) - 1) := by
              rw [show IntKind.i64.wrap (F + (xn : Int)) = F + (xn : Int) by rw [IntKind.wrap_i64]; omega, show IntKind.i64.wrap (F + (xn : Int) - 1) = F + (xn : Int) - 1 by rw [IntKind.wrap_i64]; omega]
            obtain ⟨q, hq⟩ : ∃ q, boundS (F + (xn : Int) - 1) = q := ⟨_, rfl⟩
            have HQ := Lib.hid hq
            rw [hq]
            clear hq
            unfold nodeC nodeV
            simp only [NodeX.kind, NodeX.set, NodeX.mn, NodeX.mx, NodeX.A, NodeX.n, NodeX.c, NodeX.kids]
            go_enter Tryz.func56, Tryz.ntmps56
            go_wp2
            have S0 : Blk ((W.alloc (.cells (nodeC (NodeX.mk 5 xs xm xx xA xn xc xl)) 97)).drew) W.heap.size 97 (nodeC (NodeX.mk 5 xs xm xx xA xn xc xl)) := HK0.out.drew
            refine wp_region_held_drew (S := fun w' => Blk w' W.heap.size 97 (nodeC (NodeX.mk 5 xs xm xx xA xn xc xl))) (by kernel_rfl) S0 (fun hHeld => ?_)
            refine tV 0 ?_
            refine tC 1 rfl (by intro w hSw; obtain ⟨⟨u0, u1, u2, u3, u4, u5, u6, u7⟩, _⟩ := node_cells hSw; simp only [NodeX.kind, NodeX.set, NodeX.mn, NodeX.mx, NodeX.A, NodeX.n, NodeX.c, NodeX.kids] at u0 u1 u2 u3 u4 u5 u6 u7; first | (go_simp; done) | (go_simp; with_reducible rfl)) ?_
            refine tV 3 ?_
            refine tC 4 rfl (by intro w hSw; obtain ⟨⟨u0, u1, u2, u3, u4, u5, u6, u7⟩, _⟩ := node_cells hSw; simp only [NodeX.kind, NodeX.set, NodeX.mn, NodeX.mx, NodeX.A, NodeX.n, NodeX.c, NodeX.kids] at u0 u1 u2 u3 u4 u5 u6 u7; first | (go_simp; done) | (go_simp; with_reducible rfl)) ?_
            refine tV 5 ?_
            refine rdy [2] ?_
            refine rdC (fun K hK => ?_) AllReadyH.nil
            go_simp
            go_at_call 74
            refine SZD.out.mono ?_
            rintro e w2 ⟨rfl, hx⟩
            have S1 : Blk w2 W.heap.size 97 (nodeC (NodeX.mk 5 xs xm xx xA xn xc xl)) := S0.below hx S0.lt
            have HB2 := Lib.hid (hop (below_drewN HB0.out 1) (Nat.le_refl _) hx)
            refine hK.out _ _ S1 (fun _ => ?_)
            clear hx
            clear hK K
            try simp only [Act.put, pz1, pz2, pz3]
            refine tV 6 ?_; refine tV 7 ?_; refine tV 8 ?_
            refine wpAnyH_done (by kernel_rfl) ?_ _
            clear SZ SZD
            go_wp2_with fail
            refine (BN.out _ _).mono ?_
            rintro e w9 ⟨rfl, rfl⟩
            go_wp2
            go_ret
            exact ⟨by rw [← HQ.out]; rfl, HB2.out⟩
          · have g5 : (xk == 5) = false := by rw [beq_eq_false_iff_ne]; exact h5
            rw [if_neg h5]
            by_cases h6 : xk = 6
            · subst h6
              rw [if_pos rfl]
              have hxr : nodeC (NodeX.mk 6 xs xm xx xA xn xc xl) = nodeC (NodeX.mk 6 xs xm xx xA xn xc xl) := rfl
              obtain ⟨F, hF⟩ : ∃ F, repS (NodeX.mk 6 xs xm xx xA xn xc xl) = F := ⟨_, rfl⟩
              rw [hF] at RP ⊢
              have RQ := Lib.hid (RP.out _ (HH.out.alloc (.cells (nodeC (NodeX.mk 6 xs xm xx xA xn xc xl)) 97)))
              clear hF SZ SZD hxr RP
              unfold nodeC nodeV
              simp only [NodeX.kind, NodeX.set, NodeX.mn, NodeX.mx, NodeX.A, NodeX.n, NodeX.c, NodeX.kids]
              go_enter Tryz.func56, Tryz.ntmps56
              go_wp2_with fail
              refine RQ.out.mono ?_
              rintro e w2 ⟨rfl, hx⟩
              have HB2 := Lib.hid (hop HB0.out (Nat.le_refl _) hx)
              clear hx RQ
              go_wp2_with fail
              refine (BN.out _ _).mono ?_
              rintro e w9 ⟨rfl, rfl⟩
              go_wp2
              go_ret
              exact ⟨rfl, HB2.out⟩
            · have g6 : (xk == 6) = false := by rw [beq_eq_false_iff_ne]; exact h6
              rw [if_neg h6]
              clear SZ SZD RP
              unfold nodeC nodeV
              simp only [NodeX.kind, NodeX.set, NodeX.mn, NodeX.mx, NodeX.A, NodeX.n, NodeX.c, NodeX.kids]
              go_enter Tryz.func56, Tryz.ntmps56
              go_wp2_with fail
              refine (BN.out _ _).mono ?_
              rintro e w9 ⟨rfl, rfl⟩
              go_wp2
              go_ret
              exact ⟨rfl, HB0.out⟩
theorem size_all : ∀ (m : Nat) (x : NodeX), SizeOf.sizeOf x < m → SizeC x := by
  intro m
  induction m with
  | zero => exact fun x h => absurd h (Nat.not_lt_zero _)
  | succ m ih =>
    intro x h
    refine size_step x (fun y hy => ih y ?_)
    have h1 := List.sizeOf_lt_of_mem hy
    cases x
    simp [NodeX.kids] at h1 h
    omega
theorem size_any (x : NodeX) : SizeC x := size_all _ x (Nat.lt_succ_self _)
theorem set_words {S T : Nat} (hS : S < 2 ^ 256) (hT : T < 2 ^ 256) : ((word S 0 : Int) == (word T 0 : Int) && (word S 1 : Int) == (word T 1 : Int) && (word S 2 : Int) == (word T 2 : Int) && (word S 3 : Int) == (word T 3 : Int)) = decide (S = T) := by
  rw [Bool.eq_iff_iff, decide_eq_true_iff]
  constructor
  · intro e
    simp only [Bool.and_eq_true, beq_iff_eq] at e
    obtain ⟨⟨⟨e0, e1⟩, e2⟩, e3⟩ := e
    refine set_ext hS hT (fun i hi => ?_)
    match i, hi with
    | 0, _ => omega
    | 1, _ => omega
    | 2, _ => omega
    | 3, _ => omega
  · rintro rfl
    simp
theorem eq_words24 {S T : Nat} (hS : S < 2 ^ 256) (hT : T < 2 ^ 256) (w : World) : (Op.equalIn 10000 94 (.agg #[.int .u64 (word S 0 : Nat), .int .u64 (word S 1 : Nat), .int .u64 (word S 2 : Nat), .int .u64 (word S 3 : Nat)]) (.agg #[.int .u64 (word T 0 : Nat), .int .u64 (word T 1 : Nat), .int .u64 (word T 2 : Nat), .int .u64 (word T 3 : Nat)])).run Tryz.prog w = .ok (decide (S = T)) w := by
  rw [eq_sets24, set_words hS hT]
end Go.Proofs.YtbkpoimaienhpaaGreatDoor
