-- shaken
import Derived.Test.YtbkpoimaienhpaaGreatDoorRexSize
import Derived.Test.YtbkpoimaienhpaaGreatDoorMem
namespace Go.Proofs.YtbkpoimaienhpaaGreatDoor
open Go.RowKit
set_option linter.unusedVariables false
set_option linter.unusedSimpArgs false
def kidsR (k : Int) (n : Nat) : Bool := if k = 0 ∨ k = 1 ∨ k = 2 ∨ k = 3 then n == 0 else if k = 4 ∨ k = 5 then decide (2 ≤ n) else if k = 6 then n == 1 else false
def boundsR (k mn mx : Int) : Bool := if k ≠ 6 then mn == 0 && mx == 0 else if mn < 0 ∨ 20 < mn then false else mx == -1 || (decide (mn ≤ mx) && decide (mx ≤ 20))
set_option maxRecDepth 100000 in
set_option maxHeartbeats 1600000 in
theorem rightKids_any (x : NodeX) (W : World) : Calls Tryz.prog 78 #[.agg (nodeC x)] W fun e w' => e = .returned (.bool (kidsR x.kind x.n)) ∧ Below W.heap.size W w' := by
  have K0 := Blk.new W 97 (nodeC x)
  have HB0 := Lib.hid ((Below.refl W.heap.size W).alloc (Nat.le_refl _) (.cells (nodeC x) 97))
  obtain ⟨⟨a0, a1, a2, a3, a4, a5, a6, a7⟩, _⟩ := node_cells K0
  clear K0
  obtain ⟨xk, xs, xm, xx, xA, xn, xc, xl⟩ := x
  simp only [NodeX.kind, NodeX.set, NodeX.mn, NodeX.mx, NodeX.A, NodeX.n, NodeX.c, NodeX.kids] at a0 a1 a2 a3 a4 a5 a6 a7 ⊢
  by_cases h0 : xk = 0
  · subst h0
    unfold nodeC nodeV
    simp only [NodeX.kind, NodeX.set, NodeX.mn, NodeX.mx, NodeX.A, NodeX.n, NodeX.c, NodeX.kids]
    go_enter Tryz.func78, Tryz.ntmps78
    go_wp2
    go_ret
    refine ⟨congrArg (fun b => Ending.returned (Value.bool b)) (show ((xn : Int) == 0) = kidsR 0 xn from ?_), HB0.out⟩
    rw [kidsR, if_pos (by omega), Bool.eq_iff_iff]
    simp
  have b0 : (xk == 0) = false := by rw [beq_eq_false_iff_ne]; exact h0
  by_cases h1 : xk = 1
  · subst h1
    unfold nodeC nodeV
    simp only [NodeX.kind, NodeX.set, NodeX.mn, NodeX.mx, NodeX.A, NodeX.n, NodeX.c, NodeX.kids]
    go_enter Tryz.func78, Tryz.ntmps78
    go_wp2
    go_ret
    refine ⟨congrArg (fun b => Ending.returned (Value.bool b)) (show ((xn : Int) == 0) = kidsR 1 xn from ?_), HB0.out⟩
    rw [kidsR, if_pos (by omega), Bool.eq_iff_iff]
    simp
  have b1 : (xk == 1) = false := by rw [beq_eq_false_iff_ne]; exact h1
  by_cases h2 : xk = 2
  · subst h2
    unfold nodeC nodeV
    simp only [NodeX.kind, NodeX.set, NodeX.mn, NodeX.mx, NodeX.A, NodeX.n, NodeX.c, NodeX.kids]
    go_enter Tryz.func78, Tryz.ntmps78
    go_wp2
    go_ret
    refine ⟨congrArg (fun b => Ending.returned (Value.bool b)) (show ((xn : Int) == 0) = kidsR 2 xn from ?_), HB0.out⟩
    rw [kidsR, if_pos (by omega), Bool.eq_iff_iff]
    simp
  have b2 : (xk == 2) = false := by rw [beq_eq_false_iff_ne]; exact h2
  by_cases h3 : xk = 3
  · subst h3
    unfold nodeC nodeV
    simp only [NodeX.kind, NodeX.set, NodeX.mn, NodeX.mx, NodeX.A, NodeX.n, NodeX.c, NodeX.kids]
    go_enter Tryz.func78, Tryz.ntmps78
    go_wp2
    go_ret
    refine ⟨congrArg (fun b => Ending.returned (Value.bool b)) (show ((xn : Int) == 0) = kidsR 3 xn from ?_), HB0.out⟩
    rw [kidsR, if_pos (by omega), Bool.eq_iff_iff]
    simp
  have b3 : (xk == 3) = false := by rw [beq_eq_false_iff_ne]; exact h3
  by_cases h4 : xk = 4
  · subst h4
    unfold nodeC nodeV
    simp only [NodeX.kind, NodeX.set, NodeX.mn, NodeX.mx, NodeX.A, NodeX.n, NodeX.c, NodeX.kids]
    go_enter Tryz.func78, Tryz.ntmps78
    go_wp2
    go_ret
    refine ⟨congrArg (fun b => Ending.returned (Value.bool b)) (show decide ((2 : Int) ≤ (xn : Int)) = kidsR 4 xn from ?_), HB0.out⟩
    rw [kidsR, if_neg (by omega), if_pos (by omega), decide_eq_decide]
    omega
  have b4 : (xk == 4) = false := by rw [beq_eq_false_iff_ne]; exact h4
  by_cases h5 : xk = 5
  · subst h5
    unfold nodeC nodeV
    simp only [NodeX.kind, NodeX.set, NodeX.mn, NodeX.mx, NodeX.A, NodeX.n, NodeX.c, NodeX.kids]
    go_enter Tryz.func78, Tryz.ntmps78
    go_wp2
    go_ret
    refine ⟨congrArg (fun b => Ending.returned (Value.bool b)) (show decide ((2 : Int) ≤ (xn : Int)) = kidsR 5 xn from ?_), HB0.out⟩
    rw [kidsR, if_neg (by omega), if_pos (by omega), decide_eq_decide]
    omega
  have b5 : (xk == 5) = false := by rw [beq_eq_false_iff_ne]; exact h5
  by_cases h6 : xk = 6
  · subst h6
    unfold nodeC nodeV
    simp only [NodeX.kind, NodeX.set, NodeX.mn, NodeX.mx, NodeX.A, NodeX.n, NodeX.c, NodeX.kids]
    go_enter Tryz.func78, Tryz.ntmps78
    go_wp2
    go_ret
    refine ⟨congrArg (fun b => Ending.returned (Value.bool b)) (show ((xn : Int) == 1) = kidsR 6 xn from ?_), HB0.out⟩
    rw [kidsR, if_neg (by omega), if_neg (by omega), if_pos rfl, Bool.eq_iff_iff, beq_iff_eq, beq_iff_eq]
    omega
  have b6 : (xk == 6) = false := by rw [beq_eq_false_iff_ne]; exact h6
  rw [show kidsR xk xn = false by rw [kidsR, if_neg (by omega), if_neg (by omega), if_neg (by omega)]]
  unfold nodeC nodeV
  simp only [NodeX.kind, NodeX.set, NodeX.mn, NodeX.mx, NodeX.A, NodeX.n, NodeX.c, NodeX.kids]
  go_enter Tryz.func78, Tryz.ntmps78
  go_wp2
  go_ret
  exact ⟨rfl, HB0.out⟩
set_option maxRecDepth 100000 in
set_option maxHeartbeats 1600000 in
theorem rightBounds_any (x : NodeX) (W : World) : Calls Tryz.prog 77 #[.agg (nodeC x)] W fun e w' => e = .returned (.bool (boundsR x.kind x.mn x.mx)) ∧ Below W.heap.size W w' := by
  have K0 := Blk.new W 97 (nodeC x)
  have HB0 := Lib.hid ((Below.refl W.heap.size W).alloc (Nat.le_refl _) (.cells (nodeC x) 97))
  obtain ⟨⟨a0, a1, a2, a3, a4, a5, a6, a7⟩, _⟩ := node_cells K0
  clear K0
  obtain ⟨xk, xs, xm, xx, xA, xn, xc, xl⟩ := x
  simp only [NodeX.kind, NodeX.set, NodeX.mn, NodeX.mx, NodeX.A, NodeX.n, NodeX.c, NodeX.kids] at a0 a1 a2 a3 a4 a5 a6 a7 ⊢
  by_cases h6 : xk = 6
  · subst h6
    by_cases hm : xm < 0
    · rw [show boundsR 6 xm xx = false by rw [boundsR, if_neg (by decide), if_pos (.inl hm)]]
      unfold nodeC nodeV
      simp only [NodeX.kind, NodeX.set, NodeX.mn, NodeX.mx, NodeX.A, NodeX.n, NodeX.c, NodeX.kids]
      go_enter Tryz.func77, Tryz.ntmps77
      go_wp2
      go_ret
      exact ⟨rfl, HB0.out⟩
    by_cases hm2 : 20 < xm
    · rw [show boundsR 6 xm xx = false by rw [boundsR, if_neg (by decide), if_pos (.inr hm2)]]
      unfold nodeC nodeV
      simp only [NodeX.kind, NodeX.set, NodeX.mn, NodeX.mx, NodeX.A, NodeX.n, NodeX.c, NodeX.kids]
      go_enter Tryz.func77, Tryz.ntmps77
      go_wp2
      go_ret
      exact ⟨rfl, HB0.out⟩
    by_cases hx : xx = -1
    · rw [show boundsR 6 xm xx = true by rw [boundsR, if_neg (by decide), if_neg (by omega), hx]; rfl]
      have hx2 : (xx == -1) = true := by rw [hx]; rfl
      clear hx
      unfold nodeC nodeV
      simp only [NodeX.kind, NodeX.set, NodeX.mn, NodeX.mx, NodeX.A, NodeX.n, NodeX.c, NodeX.kids]
      go_enter Tryz.func77, Tryz.ntmps77
      go_wp2
      go_ret
      exact ⟨rfl, HB0.out⟩
    have hx2 : (xx == -1) = false := by rw [beq_eq_false_iff_ne]; exact hx
    by_cases hg : xm ≤ xx
    · rw [show boundsR 6 xm xx = decide (xx ≤ 20) by rw [boundsR, if_neg (by decide), if_neg (by omega), hx2, decide_eq_true hg, Bool.true_and, Bool.false_or]]
      unfold nodeC nodeV
      simp only [NodeX.kind, NodeX.set, NodeX.mn, NodeX.mx, NodeX.A, NodeX.n, NodeX.c, NodeX.kids]
      go_enter Tryz.func77, Tryz.ntmps77
      go_wp2
      go_ret
      exact ⟨rfl, HB0.out⟩
    · rw [show boundsR 6 xm xx = false by rw [boundsR, if_neg (by decide), if_neg (by omega), hx2, decide_eq_false hg]; rfl]
      unfold nodeC nodeV
      simp only [NodeX.kind, NodeX.set, NodeX.mn, NodeX.mx, NodeX.A, NodeX.n, NodeX.c, NodeX.kids]
      go_enter Tryz.func77, Tryz.ntmps77
      go_wp2
      go_ret
      exact ⟨rfl, HB0.out⟩
  · have h6' : (xk == 6) = false := by rw [beq_eq_false_iff_ne]; exact h6
    have h6n : (xk != 6) = true := by rw [bne, h6']; rfl
    by_cases hm : xm = 0
    · have hm2 : (xm == 0) = true := by rw [hm]; rfl
      rw [show boundsR xk xm xx = (xx == 0) by rw [boundsR, if_pos h6, hm2, Bool.true_and]]
      clear hm
      unfold nodeC nodeV
      simp only [NodeX.kind, NodeX.set, NodeX.mn, NodeX.mx, NodeX.A, NodeX.n, NodeX.c, NodeX.kids]
      go_enter Tryz.func77, Tryz.ntmps77
      go_wp2
      go_ret
      exact ⟨rfl, HB0.out⟩
    · have hm2 : (xm == 0) = false := by rw [beq_eq_false_iff_ne]; exact hm
      rw [show boundsR xk xm xx = false by rw [boundsR, if_pos h6, hm2, Bool.false_and]]
      unfold nodeC nodeV
      simp only [NodeX.kind, NodeX.set, NodeX.mn, NodeX.mx, NodeX.A, NodeX.n, NodeX.c, NodeX.kids]
      go_enter Tryz.func77, Tryz.ntmps77
      go_wp2
      go_ret
      exact ⟨rfl, HB0.out⟩
mutual
def rightT : NodeT → Bool
  | .mk k s mn mx l => (decide (s = 0) != decide (k = 1)) && (boundsR k mn mx && (kidsR k l.length && rightsT l))
def rightsT : List NodeT → Bool
  | [] => true
  | a :: l => rightT a && rightsT l
end
theorem rightX (k : Int) (s : Nat) (m1 m2 : Int) (A : Option Addr) (n c : Nat) (l : List NodeX) : rightT (NodeX.mk k s m1 m2 A n c l).t = ((decide (s = 0) != decide (k = 1)) && (boundsR k m1 m2 && (kidsR k (l.map NodeX.t).length && rightsT (l.map NodeX.t)))) := by
  rw [NodeX.t, rightT, NodeX.ts_map]
theorem rightsT_nil : rightsT [] = true := by rw [rightsT]
theorem rightsT_cons (a : NodeT) (l : List NodeT) : rightsT (a :: l) = (rightT a && rightsT l) := by rw [rightsT]
def RightC (x : NodeX) : Prop := ∀ (P : Nat → Prop) (W : World), GoodN W P x → Calls Tryz.prog 57 #[.agg (nodeC x)] W fun e w' => e = .returned (.bool (rightT x.t)) ∧ Below W.heap.size W w'
set_option maxRecDepth 100000 in
set_option maxHeartbeats 6400000 in
theorem right_step (x : NodeX) (HS : ∀ y, y ∈ x.kids → RightC y) : RightC x := by
  intro P W hx
  have HB0 := Lib.hid ((Below.refl W.heap.size W).alloc (Nat.le_refl _) (.cells (nodeC x) 97))
  have hrx := hx.row
  have hkx := fun z hz => hx.kid (y := z) hz
  have hsx := hx.set_lt
  have hmx := hx.lenM
  unfold maxLen at hmx
  have BO := Lib.hid (fun w => rightBounds_any x w)
  have KI := Lib.hid (fun w => rightKids_any x w)
  clear hx
  obtain ⟨xk, xs, xm, xx, xA, xn, xc, xl⟩ := x
  rw [rightX]
  simp only [NodeX.kind, NodeX.set, NodeX.mn, NodeX.mx, NodeX.A, NodeX.n, NodeX.c, NodeX.kids] at hrx hkx hsx hmx HS BO KI
  have hCQ := neq_zero24 hsx
  have hlx := hrx.1
  rw [List.length_map, hlx]
  have HRX := Lib.hid hrx
  have HKX := Lib.hid hkx
  have HSS := Lib.hid HS
  clear hrx hkx HS hsx
  obtain ⟨b, hb⟩ : ∃ b, boundsR xk xm xx = b := ⟨_, rfl⟩
  obtain ⟨c, hc⟩ : ∃ c, kidsR xk xn = c := ⟨_, rfl⟩
  rw [hb] at BO ⊢
  rw [hc] at KI ⊢
  clear hb hc
  obtain ⟨F, hF⟩ : ∃ F, rightsT (xl.map NodeX.t) = F := ⟨_, rfl⟩
  rw [hF]
  have HF := Lib.hid hF
  clear hF
  by_cases hs : xs = 0
  · have hs' : decide (xs = 0) = true := decide_eq_true hs
    rw [hs']
    simp only [hs'] at hCQ
    clear hs
    by_cases hk : xk = 1
    · subst hk
      rw [decide_eq_true rfl]
      rw [show (true != true) = false from rfl, Bool.false_and]
      have K0 : Blk (W.alloc (.cells (nodeC (NodeX.mk 1 xs xm xx xA xn xc xl)) 97)).drew W.heap.size 97 (nodeC (NodeX.mk 1 xs xm xx xA xn xc xl)) := (Blk.new W 97 (nodeC (NodeX.mk 1 xs xm xx xA xn xc xl))).drew
      have S0 : (Blk (W.alloc (.cells (nodeC (NodeX.mk 1 xs xm xx xA xn xc xl)) 97)).drew W.heap.size 97 (nodeC (NodeX.mk 1 xs xm xx xA xn xc xl)) ∧ ((W.alloc (.cells (nodeC (NodeX.mk 1 xs xm xx xA xn xc xl)) 97)).drew.cell? ⟨W.heap.size, 0, none⟩ = some (.int .i64 1) ∧ (W.alloc (.cells (nodeC (NodeX.mk 1 xs xm xx xA xn xc xl)) 97)).drew.cell? ⟨W.heap.size, 1, none⟩ = some (.int .u64 (word xs 0 : Nat)) ∧ (W.alloc (.cells (nodeC (NodeX.mk 1 xs xm xx xA xn xc xl)) 97)).drew.cell? ⟨W.heap.size, 2, none⟩ = some (.int .u64 (word xs 1 : Nat)) ∧ (W.alloc (.cells (nodeC (NodeX.mk 1 xs xm xx xA xn xc xl)) 97)).drew.cell? ⟨W.heap.size, 3, none⟩ = some (.int .u64 (word xs 2 : Nat)) ∧ (W.alloc (.cells (nodeC (NodeX.mk 1 xs xm xx xA xn xc xl)) 97)).drew.cell? ⟨W.heap.size, 4, none⟩ = some (.int .u64 (word xs 3 : Nat)) ∧ (W.alloc (.cells (nodeC (NodeX.mk 1 xs xm xx xA xn xc xl)) 97)).drew.cell? ⟨W.heap.size, 5, none⟩ = some (.int .i64 xm) ∧ (W.alloc (.cells (nodeC (NodeX.mk 1 xs xm xx xA xn xc xl)) 97)).drew.cell? ⟨W.heap.size, 6, none⟩ = some (.int .i64 xx) ∧ (W.alloc (.cells (nodeC (NodeX.mk 1 xs xm xx xA xn xc xl)) 97)).drew.cell? ⟨W.heap.size, 7, none⟩ = some (.slice xA xn xc)) ∧ Below W.heap.size W (W.alloc (.cells (nodeC (NodeX.mk 1 xs xm xx xA xn xc xl)) 97)).drew) := ⟨K0, (node_cells K0).1, below_drewN HB0.out 1⟩
      have HS := Lib.hid (show ∀ w w', (Blk w W.heap.size 97 (nodeC (NodeX.mk 1 xs xm xx xA xn xc xl)) ∧ (w.cell? ⟨W.heap.size, 0, none⟩ = some (.int .i64 1) ∧ w.cell? ⟨W.heap.size, 1, none⟩ = some (.int .u64 (word xs 0 : Nat)) ∧ w.cell? ⟨W.heap.size, 2, none⟩ = some (.int .u64 (word xs 1 : Nat)) ∧ w.cell? ⟨W.heap.size, 3, none⟩ = some (.int .u64 (word xs 2 : Nat)) ∧ w.cell? ⟨W.heap.size, 4, none⟩ = some (.int .u64 (word xs 3 : Nat)) ∧ w.cell? ⟨W.heap.size, 5, none⟩ = some (.int .i64 xm) ∧ w.cell? ⟨W.heap.size, 6, none⟩ = some (.int .i64 xx) ∧ w.cell? ⟨W.heap.size, 7, none⟩ = some (.slice xA xn xc)) ∧ Below W.heap.size W w) → Below w.heap.size w w' → (Blk w' W.heap.size 97 (nodeC (NodeX.mk 1 xs xm xx xA xn xc xl)) ∧ (w'.cell? ⟨W.heap.size, 0, none⟩ = some (.int .i64 1) ∧ w'.cell? ⟨W.heap.size, 1, none⟩ = some (.int .u64 (word xs 0 : Nat)) ∧ w'.cell? ⟨W.heap.size, 2, none⟩ = some (.int .u64 (word xs 1 : Nat)) ∧ w'.cell? ⟨W.heap.size, 3, none⟩ = some (.int .u64 (word xs 2 : Nat)) ∧ w'.cell? ⟨W.heap.size, 4, none⟩ = some (.int .u64 (word xs 3 : Nat)) ∧ w'.cell? ⟨W.heap.size, 5, none⟩ = some (.int .i64 xm) ∧ w'.cell? ⟨W.heap.size, 6, none⟩ = some (.int .i64 xx) ∧ w'.cell? ⟨W.heap.size, 7, none⟩ = some (.slice xA xn xc)) ∧ Below W.heap.size W w') from fun w w' h hb => ⟨h.1.below hb h.1.lt, (node_cells (h.1.below hb h.1.lt)).1, hop h.2.2 (Nat.le_refl _) hb⟩)
      clear K0
      unfold nodeC nodeV
      simp only [NodeX.kind, NodeX.set, NodeX.mn, NodeX.mx, NodeX.A, NodeX.n, NodeX.c, NodeX.kids]
      go_enter Tryz.func57, Tryz.ntmps57
      go_wp2
      refine wp_region_held_drew (S := fun w' => (Blk w' W.heap.size 97 (nodeC (NodeX.mk 1 xs xm xx xA xn xc xl)) ∧ (w'.cell? ⟨W.heap.size, 0, none⟩ = some (.int .i64 1) ∧ w'.cell? ⟨W.heap.size, 1, none⟩ = some (.int .u64 (word xs 0 : Nat)) ∧ w'.cell? ⟨W.heap.size, 2, none⟩ = some (.int .u64 (word xs 1 : Nat)) ∧ w'.cell? ⟨W.heap.size, 3, none⟩ = some (.int .u64 (word xs 2 : Nat)) ∧ w'.cell? ⟨W.heap.size, 4, none⟩ = some (.int .u64 (word xs 3 : Nat)) ∧ w'.cell? ⟨W.heap.size, 5, none⟩ = some (.int .i64 xm) ∧ w'.cell? ⟨W.heap.size, 6, none⟩ = some (.int .i64 xx) ∧ w'.cell? ⟨W.heap.size, 7, none⟩ = some (.slice xA xn xc)) ∧ Below W.heap.size W w')) (by kernel_rfl) S0 (fun hHeld => ?_)
      refine tV 0 ?_; refine tH 1 ?_; refine tV 2 ?_; refine tV 3 ?_; refine tV 4 ?_; refine tH 5 ?_; refine tV 6 ?_; refine tV 7 ?_; refine tV 8 ?_; refine tN 9 ?_
      refine tN 10 ?_; refine tN 11 ?_; refine tV 12 ?_; refine tV 13 ?_; refine tN 14 ?_; refine tN 15 ?_; refine tN 16 ?_; refine tV 17 ?_
      refine wpAnyH_done (by kernel_rfl) ?_ _
      clear HS hHeld
      go_wp2
      go_ret
      first | exact ⟨rfl, Sc2.2.2⟩ | exact ⟨rfl, Sc1.2.2⟩ | exact ⟨rfl, S0.2.2⟩
    · have hk' : (xk == 1) = false := by rw [beq_eq_false_iff_ne]; exact hk
      rw [decide_eq_false hk]
      rw [show (true != false) = true from rfl, Bool.true_and]
      cases b with
      | false =>
        rw [Bool.false_and]
        have K0 : Blk (W.alloc (.cells (nodeC (NodeX.mk xk xs xm xx xA xn xc xl)) 97)).drew W.heap.size 97 (nodeC (NodeX.mk xk xs xm xx xA xn xc xl)) := (Blk.new W 97 (nodeC (NodeX.mk xk xs xm xx xA xn xc xl))).drew
        have S0 : (Blk (W.alloc (.cells (nodeC (NodeX.mk xk xs xm xx xA xn xc xl)) 97)).drew W.heap.size 97 (nodeC (NodeX.mk xk xs xm xx xA xn xc xl)) ∧ ((W.alloc (.cells (nodeC (NodeX.mk xk xs xm xx xA xn xc xl)) 97)).drew.cell? ⟨W.heap.size, 0, none⟩ = some (.int .i64 xk) ∧ (W.alloc (.cells (nodeC (NodeX.mk xk xs xm xx xA xn xc xl)) 97)).drew.cell? ⟨W.heap.size, 1, none⟩ = some (.int .u64 (word xs 0 : Nat)) ∧ (W.alloc (.cells (nodeC (NodeX.mk xk xs xm xx xA xn xc xl)) 97)).drew.cell? ⟨W.heap.size, 2, none⟩ = some (.int .u64 (word xs 1 : Nat)) ∧ (W.alloc (.cells (nodeC (NodeX.mk xk xs xm xx xA xn xc xl)) 97)).drew.cell? ⟨W.heap.size, 3, none⟩ = some (.int .u64 (word xs 2 : Nat)) ∧ (W.alloc (.cells (nodeC (NodeX.mk xk xs xm xx xA xn xc xl)) 97)).drew.cell? ⟨W.heap.size, 4, none⟩ = some (.int .u64 (word xs 3 : Nat)) ∧ (W.alloc (.cells (nodeC (NodeX.mk xk xs xm xx xA xn xc xl)) 97)).drew.cell? ⟨W.heap.size, 5, none⟩ = some (.int .i64 xm) ∧ (W.alloc (.cells (nodeC (NodeX.mk xk xs xm xx xA xn xc xl)) 97)).drew.cell? ⟨W.heap.size, 6, none⟩ = some (.int .i64 xx) ∧ (W.alloc (.cells (nodeC (NodeX.mk xk xs xm xx xA xn xc xl)) 97)).drew.cell? ⟨W.heap.size, 7, none⟩ = some (.slice xA xn xc)) ∧ Below W.heap.size W (W.alloc (.cells (nodeC (NodeX.mk xk xs xm xx xA xn xc xl)) 97)).drew) := ⟨K0, (node_cells K0).1, below_drewN HB0.out 1⟩
        have HS := Lib.hid (show ∀ w w', (Blk w W.heap.size 97 (nodeC (NodeX.mk xk xs xm xx xA xn xc xl)) ∧ (w.cell? ⟨W.heap.size, 0, none⟩ = some (.int .i64 xk) ∧ w.cell? ⟨W.heap.size, 1, none⟩ = some (.int .u64 (word xs 0 : Nat)) ∧ w.cell? ⟨W.heap.size, 2, none⟩ = some (.int .u64 (word xs 1 : Nat)) ∧ w.cell? ⟨W.heap.size, 3, none⟩ = some (.int .u64 (word xs 2 : Nat)) ∧ w.cell? ⟨W.heap.size, 4, none⟩ = some (.int .u64 (word xs 3 : Nat)) ∧ w.cell? ⟨W.heap.size, 5, none⟩ = some (.int .i64 xm) ∧ w.cell? ⟨W.heap.size, 6, none⟩ = some (.int .i64 xx) ∧ w.cell? ⟨W.heap.size, 7, none⟩ = some (.slice xA xn xc)) ∧ Below W.heap.size W w) → Below w.heap.size w w' → (Blk w' W.heap.size 97 (nodeC (NodeX.mk xk xs xm xx xA xn xc xl)) ∧ (w'.cell? ⟨W.heap.size, 0, none⟩ = some (.int .i64 xk) ∧ w'.cell? ⟨W.heap.size, 1, none⟩ = some (.int .u64 (word xs 0 : Nat)) ∧ w'.cell? ⟨W.heap.size, 2, none⟩ = some (.int .u64 (word xs 1 : Nat)) ∧ w'.cell? ⟨W.heap.size, 3, none⟩ = some (.int .u64 (word xs 2 : Nat)) ∧ w'.cell? ⟨W.heap.size, 4, none⟩ = some (.int .u64 (word xs 3 : Nat)) ∧ w'.cell? ⟨W.heap.size, 5, none⟩ = some (.int .i64 xm) ∧ w'.cell? ⟨W.heap.size, 6, none⟩ = some (.int .i64 xx) ∧ w'.cell? ⟨W.heap.size, 7, none⟩ = some (.slice xA xn xc)) ∧ Below W.heap.size W w') from fun w w' h hb => ⟨h.1.below hb h.1.lt, (node_cells (h.1.below hb h.1.lt)).1, hop h.2.2 (Nat.le_refl _) hb⟩)
        clear K0
        unfold nodeC nodeV
        simp only [NodeX.kind, NodeX.set, NodeX.mn, NodeX.mx, NodeX.A, NodeX.n, NodeX.c, NodeX.kids]
        go_enter Tryz.func57, Tryz.ntmps57
        go_wp2
        refine wp_region_held_drew (S := fun w' => (Blk w' W.heap.size 97 (nodeC (NodeX.mk xk xs xm xx xA xn xc xl)) ∧ (w'.cell? ⟨W.heap.size, 0, none⟩ = some (.int .i64 xk) ∧ w'.cell? ⟨W.heap.size, 1, none⟩ = some (.int .u64 (word xs 0 : Nat)) ∧ w'.cell? ⟨W.heap.size, 2, none⟩ = some (.int .u64 (word xs 1 : Nat)) ∧ w'.cell? ⟨W.heap.size, 3, none⟩ = some (.int .u64 (word xs 2 : Nat)) ∧ w'.cell? ⟨W.heap.size, 4, none⟩ = some (.int .u64 (word xs 3 : Nat)) ∧ w'.cell? ⟨W.heap.size, 5, none⟩ = some (.int .i64 xm) ∧ w'.cell? ⟨W.heap.size, 6, none⟩ = some (.int .i64 xx) ∧ w'.cell? ⟨W.heap.size, 7, none⟩ = some (.slice xA xn xc)) ∧ Below W.heap.size W w')) (by kernel_rfl) S0 (fun hHeld => ?_)
        refine tV 0 ?_; refine tH 1 ?_; refine tV 2 ?_; refine tV 3 ?_; refine tV 4 ?_; refine tH 5 ?_; refine tV 6 ?_; refine tV 7 ?_; refine tV 8 ?_; refine tH 9 ?_
        refine rdy [10] ?_
        refine rdC (fun K hK => ?_) AllReadyH.nil
        go_simp
        go_at_call 77
        refine (BO.out _).mono ?_
        rintro e wc1 ⟨rfl, hb3⟩
        have Sc1 := HS.out _ _ (by assumption) hb3
        refine hK.out _ _ Sc1 (fun _ => ?_)
        clear hK K hb3
        try simp only [Act.put, pz1, pz2, pz3]
        refine tV 11 ?_; refine tV 12 ?_; refine tV 13 ?_; refine tN 14 ?_; refine tN 15 ?_; refine tN 16 ?_; refine tV 17 ?_
        refine wpAnyH_done (by kernel_rfl) ?_ _
        clear HS hHeld
        go_wp2
        go_ret
        first | exact ⟨rfl, Sc2.2.2⟩ | exact ⟨rfl, Sc1.2.2⟩ | exact ⟨rfl, S0.2.2⟩
      | true =>
        rw [Bool.true_and]
        cases c with
        | false =>
          rw [Bool.false_and]
          have K0 : Blk (W.alloc (.cells (nodeC (NodeX.mk xk xs xm xx xA xn xc xl)) 97)).drew W.heap.size 97 (nodeC (NodeX.mk xk xs xm xx xA xn xc xl)) := (Blk.new W 97 (nodeC (NodeX.mk xk xs xm xx xA xn xc xl))).drew
          have S0 : (Blk (W.alloc (.cells (nodeC (NodeX.mk xk xs xm xx xA xn xc xl)) 97)).drew W.heap.size 97 (nodeC (NodeX.mk xk xs xm xx xA xn xc xl)) ∧ ((W.alloc (.cells (nodeC (NodeX.mk xk xs xm xx xA xn xc xl)) 97)).drew.cell? ⟨W.heap.size, 0, none⟩ = some (.int .i64 xk) ∧ (W.alloc (.cells (nodeC (NodeX.mk xk xs xm xx xA xn xc xl)) 97)).drew.cell? ⟨W.heap.size, 1, none⟩ = some (.int .u64 (word xs 0 : Nat)) ∧ (W.alloc (.cells (nodeC (NodeX.mk xk xs xm xx xA xn xc xl)) 97)).drew.cell? ⟨W.heap.size, 2, none⟩ = some (.int .u64 (word xs 1 : Nat)) ∧ (W.alloc (.cells (nodeC (NodeX.mk xk xs xm xx xA xn xc xl)) 97)).drew.cell? ⟨W.heap.size, 3, none⟩ = some (.int .u64 (word xs 2 : Nat)) ∧ (W.alloc (.cells (nodeC (NodeX.mk xk xs xm xx xA xn xc xl)) 97)).drew.cell? ⟨W.heap.size, 4, none⟩ = some (.int .u64 (word xs 3 : Nat)) ∧ (W.alloc (.cells (nodeC (NodeX.mk xk xs xm xx xA xn xc xl)) 97)).drew.cell? ⟨W.heap.size, 5, none⟩ = some (.int .i64 xm) ∧ (W.alloc (.cells (nodeC (NodeX.mk xk xs xm xx xA xn xc xl)) 97)).drew.cell? ⟨W.heap.size, 6, none⟩ = some (.int .i64 xx) ∧ (W.alloc (.cells (nodeC (NodeX.mk xk xs xm xx xA xn xc xl)) 97)).drew.cell? ⟨W.heap.size, 7, none⟩ = some (.slice xA xn xc)) ∧ Below W.heap.size W (W.alloc (.cells (nodeC (NodeX.mk xk xs xm xx xA xn xc xl)) 97)).drew) := ⟨K0, (node_cells K0).1, below_drewN HB0.out 1⟩
          have HS := Lib.hid (show ∀ w w', (Blk w W.heap.size 97 (nodeC (NodeX.mk xk xs xm xx xA xn xc xl)) ∧ (w.cell? ⟨W.heap.size, 0, none⟩ = some (.int .i64 xk) ∧ w.cell? ⟨W.heap.size, 1, none⟩ = some (.int .u64 (word xs 0 : Nat)) ∧ w.cell? ⟨W.heap.size, 2, none⟩ = some (.int .u64 (word xs 1 : Nat)) ∧ w.cell? ⟨W.heap.size, 3, none⟩ = some (.int .u64 (word xs 2 : Nat)) ∧ w.cell? ⟨W.heap.size, 4, none⟩ = some (.int .u64 (word xs 3 : Nat)) ∧ w.cell? ⟨W.heap.size, 5, none⟩ = some (.int .i64 xm) ∧ w.cell? ⟨W.heap.size, 6, none⟩ = some (.int .i64 xx) ∧ w.cell? ⟨W.heap.size, 7, none⟩ = some (.slice xA xn xc)) ∧ Below W.heap.size W w) → Below w.heap.size w w' → (Blk w' W.heap.size 97 (nodeC (NodeX.mk xk xs xm xx xA xn xc xl)) ∧ (w'.cell? ⟨W.heap.size, 0, none⟩ = some (.int .i64 xk) ∧ w'.cell? ⟨W.heap.size, 1, none⟩ = some (.int .u64 (word xs 0 : Nat)) ∧ w'.cell? ⟨W.heap.size, 2, none⟩ = some (.int .u64 (word xs 1 : Nat)) ∧ w'.cell? ⟨W.heap.size, 3, none⟩ = some (.int .u64 (word xs 2 : Nat)) ∧ w'.cell? ⟨W.heap.size, 4, none⟩ = some (.int .u64 (word xs 3 : Nat)) ∧ w'.cell? ⟨W.heap.size, 5, none⟩ = some (.int .i64 xm) ∧ w'.cell? ⟨W.heap.size, 6, none⟩ = some (.int .i64 xx) ∧ w'.cell? ⟨W.heap.size, 7, none⟩ = some (.slice xA xn xc)) ∧ Below W.heap.size W w') from fun w w' h hb => ⟨h.1.below hb h.1.lt, (node_cells (h.1.below hb h.1.lt)).1, hop h.2.2 (Nat.le_refl _) hb⟩)
          clear K0
          unfold nodeC nodeV
          simp only [NodeX.kind, NodeX.set, NodeX.mn, NodeX.mx, NodeX.A, NodeX.n, NodeX.c, NodeX.kids]
          go_enter Tryz.func57, Tryz.ntmps57
          go_wp2
          refine wp_region_held_drew (S := fun w' => (Blk w' W.heap.size 97 (nodeC (NodeX.mk xk xs xm xx xA xn xc xl)) ∧ (w'.cell? ⟨W.heap.size, 0, none⟩ = some (.int .i64 xk) ∧ w'.cell? ⟨W.heap.size, 1, none⟩ = some (.int .u64 (word xs 0 : Nat)) ∧ w'.cell? ⟨W.heap.size, 2, none⟩ = some (.int .u64 (word xs 1 : Nat)) ∧ w'.cell? ⟨W.heap.size, 3, none⟩ = some (.int .u64 (word xs 2 : Nat)) ∧ w'.cell? ⟨W.heap.size, 4, none⟩ = some (.int .u64 (word xs 3 : Nat)) ∧ w'.cell? ⟨W.heap.size, 5, none⟩ = some (.int .i64 xm) ∧ w'.cell? ⟨W.heap.size, 6, none⟩ = some (.int .i64 xx) ∧ w'.cell? ⟨W.heap.size, 7, none⟩ = some (.slice xA xn xc)) ∧ Below W.heap.size W w')) (by kernel_rfl) S0 (fun hHeld => ?_)
          refine tV 0 ?_; refine tH 1 ?_; refine tV 2 ?_; refine tV 3 ?_; refine tV 4 ?_; refine tH 5 ?_; refine tV 6 ?_; refine tV 7 ?_; refine tV 8 ?_; refine tH 9 ?_
          refine rdy [10] ?_
          refine rdC (fun K hK => ?_) AllReadyH.nil
          go_simp
          go_at_call 77
          refine (BO.out _).mono ?_
          rintro e wc1 ⟨rfl, hb3⟩
          have Sc1 := HS.out _ _ (by assumption) hb3
          refine hK.out _ _ Sc1 (fun _ => ?_)
          clear hK K hb3
          try simp only [Act.put, pz1, pz2, pz3]
          refine tV 11 ?_; refine tV 12 ?_; refine tV 13 ?_; refine tH 14 ?_
          refine rdy [15] ?_
          refine rdC (fun K hK => ?_) AllReadyH.nil
          go_simp
          go_at_call 78
          refine (KI.out _).mono ?_
          rintro e wc2 ⟨rfl, hb3⟩
          have Sc2 := HS.out _ _ (by assumption) hb3
          refine hK.out _ _ Sc2 (fun _ => ?_)
          clear hK K hb3
          try simp only [Act.put, pz1, pz2, pz3]
          refine tV 16 ?_; refine tV 17 ?_
          refine wpAnyH_done (by kernel_rfl) ?_ _
          clear HS hHeld
          go_wp2
          go_ret
          first | exact ⟨rfl, Sc2.2.2⟩ | exact ⟨rfl, Sc1.2.2⟩ | exact ⟨rfl, S0.2.2⟩
        | true =>
          rw [Bool.true_and]
          have K0 : Blk (W.alloc (.cells (nodeC (NodeX.mk xk xs xm xx xA xn xc xl)) 97)).drew W.heap.size 97 (nodeC (NodeX.mk xk xs xm xx xA xn xc xl)) := (Blk.new W 97 (nodeC (NodeX.mk xk xs xm xx xA xn xc xl))).drew
          have S0 : (Blk (W.alloc (.cells (nodeC (NodeX.mk xk xs xm xx xA xn xc xl)) 97)).drew W.heap.size 97 (nodeC (NodeX.mk xk xs xm xx xA xn xc xl)) ∧ ((W.alloc (.cells (nodeC (NodeX.mk xk xs xm xx xA xn xc xl)) 97)).drew.cell? ⟨W.heap.size, 0, none⟩ = some (.int .i64 xk) ∧ (W.alloc (.cells (nodeC (NodeX.mk xk xs xm xx xA xn xc xl)) 97)).drew.cell? ⟨W.heap.size, 1, none⟩ = some (.int .u64 (word xs 0 : Nat)) ∧ (W.alloc (.cells (nodeC (NodeX.mk xk xs xm xx xA xn xc xl)) 97)).drew.cell? ⟨W.heap.size, 2, none⟩ = some (.int .u64 (word xs 1 : Nat)) ∧ (W.alloc (.cells (nodeC (NodeX.mk xk xs xm xx xA xn xc xl)) 97)).drew.cell? ⟨W.heap.size, 3, none⟩ = some (.int .u64 (word xs 2 : Nat)) ∧ (W.alloc (.cells (nodeC (NodeX.mk xk xs xm xx xA xn xc xl)) 97)).drew.cell? ⟨W.heap.size, 4, none⟩ = some (.int .u64 (word xs 3 : Nat)) ∧ (W.alloc (.cells (nodeC (NodeX.mk xk xs xm xx xA xn xc xl)) 97)).drew.cell? ⟨W.heap.size, 5, none⟩ = some (.int .i64 xm) ∧ (W.alloc (.cells (nodeC (NodeX.mk xk xs xm xx xA xn xc xl)) 97)).drew.cell? ⟨W.heap.size, 6, none⟩ = some (.int .i64 xx) ∧ (W.alloc (.cells (nodeC (NodeX.mk xk xs xm xx xA xn xc xl)) 97)).drew.cell? ⟨W.heap.size, 7, none⟩ = some (.slice xA xn xc)) ∧ Below W.heap.size W (W.alloc (.cells (nodeC (NodeX.mk xk xs xm xx xA xn xc xl)) 97)).drew) := ⟨K0, (node_cells K0).1, below_drewN HB0.out 1⟩
          have HS := Lib.hid (show ∀ w w', (Blk w W.heap.size 97 (nodeC (NodeX.mk xk xs xm xx xA xn xc xl)) ∧ (w.cell? ⟨W.heap.size, 0, none⟩ = some (.int .i64 xk) ∧ w.cell? ⟨W.heap.size, 1, none⟩ = some (.int .u64 (word xs 0 : Nat)) ∧ w.cell? ⟨W.heap.size, 2, none⟩ = some (.int .u64 (word xs 1 : Nat)) ∧ w.cell? ⟨W.heap.size, 3, none⟩ = some (.int .u64 (word xs 2 : Nat)) ∧ w.cell? ⟨W.heap.size, 4, none⟩ = some (.int .u64 (word xs 3 : Nat)) ∧ w.cell? ⟨W.heap.size, 5, none⟩ = some (.int .i64 xm) ∧ w.cell? ⟨W.heap.size, 6, none⟩ = some (.int .i64 xx) ∧ w.cell? ⟨W.heap.size, 7, none⟩ = some (.slice xA xn xc)) ∧ Below W.heap.size W w) → Below w.heap.size w w' → (Blk w' W.heap.size 97 (nodeC (NodeX.mk xk xs xm xx xA xn xc xl)) ∧ (w'.cell? ⟨W.heap.size, 0, none⟩ = some (.int .i64 xk) ∧ w'.cell? ⟨W.heap.size, 1, none⟩ = some (.int .u64 (word xs 0 : Nat)) ∧ w'.cell? ⟨W.heap.size, 2, none⟩ = some (.int .u64 (word xs 1 : Nat)) ∧ w'.cell? ⟨W.heap.size, 3, none⟩ = some (.int .u64 (word xs 2 : Nat)) ∧ w'.cell? ⟨W.heap.size, 4, none⟩ = some (.int .u64 (word xs 3 : Nat)) ∧ w'.cell? ⟨W.heap.size, 5, none⟩ = some (.int .i64 xm) ∧ w'.cell? ⟨W.heap.size, 6, none⟩ = some (.int .i64 xx) ∧ w'.cell? ⟨W.heap.size, 7, none⟩ = some (.slice xA xn xc)) ∧ Below W.heap.size W w') from fun w w' h hb => ⟨h.1.below hb h.1.lt, (node_cells (h.1.below hb h.1.lt)).1, hop h.2.2 (Nat.le_refl _) hb⟩)
          clear K0
          unfold nodeC nodeV
          simp only [NodeX.kind, NodeX.set, NodeX.mn, NodeX.mx, NodeX.A, NodeX.n, NodeX.c, NodeX.kids]
          go_enter Tryz.func57, Tryz.ntmps57
          go_wp2
          refine wp_region_held_drew (S := fun w' => (Blk w' W.heap.size 97 (nodeC (NodeX.mk xk xs xm xx xA xn xc xl)) ∧ (w'.cell? ⟨W.heap.size, 0, none⟩ = some (.int .i64 xk) ∧ w'.cell? ⟨W.heap.size, 1, none⟩ = some (.int .u64 (word xs 0 : Nat)) ∧ w'.cell? ⟨W.heap.size, 2, none⟩ = some (.int .u64 (word xs 1 : Nat)) ∧ w'.cell? ⟨W.heap.size, 3, none⟩ = some (.int .u64 (word xs 2 : Nat)) ∧ w'.cell? ⟨W.heap.size, 4, none⟩ = some (.int .u64 (word xs 3 : Nat)) ∧ w'.cell? ⟨W.heap.size, 5, none⟩ = some (.int .i64 xm) ∧ w'.cell? ⟨W.heap.size, 6, none⟩ = some (.int .i64 xx) ∧ w'.cell? ⟨W.heap.size, 7, none⟩ = some (.slice xA xn xc)) ∧ Below W.heap.size W w')) (by kernel_rfl) S0 (fun hHeld => ?_)
          refine tV 0 ?_; refine tH 1 ?_; refine tV 2 ?_; refine tV 3 ?_; refine tV 4 ?_; refine tH 5 ?_; refine tV 6 ?_; refine tV 7 ?_; refine tV 8 ?_; refine tH 9 ?_
          refine rdy [10] ?_
          refine rdC (fun K hK => ?_) AllReadyH.nil
          go_simp
          go_at_call 77
          refine (BO.out _).mono ?_
          rintro e wc1 ⟨rfl, hb3⟩
          have Sc1 := HS.out _ _ (by assumption) hb3
          refine hK.out _ _ Sc1 (fun _ => ?_)
          clear hK K hb3
          try simp only [Act.put, pz1, pz2, pz3]
          refine tV 11 ?_; refine tV 12 ?_; refine tV 13 ?_; refine tH 14 ?_
          refine rdy [15] ?_
          refine rdC (fun K hK => ?_) AllReadyH.nil
          go_simp
          go_at_call 78
          refine (KI.out _).mono ?_
          rintro e wc2 ⟨rfl, hb3⟩
          have Sc2 := HS.out _ _ (by assumption) hb3
          refine hK.out _ _ Sc2 (fun _ => ?_)
          clear hK K hb3
          try simp only [Act.put, pz1, pz2, pz3]
          refine tV 16 ?_; refine tV 17 ?_
          refine wpAnyH_done (by kernel_rfl) ?_ _
          have HB2 := Lib.hid Sc2.2.2
          have e7 := Sc2.2.1.2.2.2.2.2.2.2
          clear S0 Sc1 Sc2 HS hHeld BO KI
          go_wp2
          clear e7
          go_loopw [26] (fun iv wr => ∃ (j : Nat), j ≤ xn ∧ iv = .int .i64 (j : Nat) ∧ Hid (rightsT ((xl.drop j).map NodeX.t) = F) ∧ Hid (Below W.heap.size W wr)) (fun iv _ => xn - (intOf iv).toNat)
          case atStart => exact ⟨0, Nat.zero_le _, rfl, HF, HB2⟩
          case round =>
            obtain ⟨j, hj, rfl, HT, HB⟩ := hrel
            by_cases h : j < xn
            · have hI : (j : Int) < xn := by omega
              obtain ⟨b, off, rfl, hlt, hc⟩ := HRX.out.2 (by omega)
              have hjl : j < xl.length := by omega
              obtain ⟨p, hp⟩ : ∃ p, xl[j]? = some p := ⟨xl[j], List.getElem?_eq_getElem hjl⟩
              have hpl : p ∈ xl := List.mem_of_getElem? hp
              have hdr : xl.drop j = p :: xl.drop (j + 1) := by
                rw [List.drop_eq_getElem_cons hjl]
                congr 1
                rw [List.getElem?_eq_getElem hjl] at hp
                injection hp
              have c0 := (HB.out.cell (p := ⟨b, off + j * 8 + 0, none⟩) hlt).trans (hc j 0 p hp (by decide))
              have c1 := (HB.out.cell (p := ⟨b, off + j * 8 + 1, none⟩) hlt).trans (hc j 1 p hp (by decide))
              have c2 := (HB.out.cell (p := ⟨b, off + j * 8 + 2, none⟩) hlt).trans (hc j 2 p hp (by decide))
              have c3 := (HB.out.cell (p := ⟨b, off + j * 8 + 3, none⟩) hlt).trans (hc j 3 p hp (by decide))
              have c4 := (HB.out.cell (p := ⟨b, off + j * 8 + 4, none⟩) hlt).trans (hc j 4 p hp (by decide))
              have c5 := (HB.out.cell (p := ⟨b, off + j * 8 + 5, none⟩) hlt).trans (hc j 5 p hp (by decide))
              have c6 := (HB.out.cell (p := ⟨b, off + j * 8 + 6, none⟩) hlt).trans (hc j 6 p hp (by decide))
              have c7 := (HB.out.cell (p := ⟨b, off + j * 8 + 7, none⟩) hlt).trans (hc j 7 p hp (by decide))
              rw [Nat.add_zero] at c0
              simp only [nodeV, List.getElem?_cons_zero, List.getElem?_cons_succ] at c0 c1 c2 c3 c4 c5 c6 c7
              have ht := HT.out
              rw [hdr, List.map_cons, rightsT_cons] at ht
              have hWs := HB.out.size
              clear hc hp hdr
              have SX := HSS.out p hpl P (wr.alloc (.cells (nodeC p) 97)) (((HKX.out p hpl).later HB.out).alloc _)
              obtain ⟨r, hr⟩ : ∃ r, rightT p.t = r := ⟨_, rfl⟩
              rw [hr] at SX ht
              replace SX := Lib.hid SX
              have K1 := Blk.new wr 97 (nodeC p)
              obtain ⟨⟨a0, a1, a2, a3, a4, a5, a6, a7⟩, _⟩ := node_cells K1
              have HT2 := Lib.hid ht
              clear ht hr K1 HRX HKX HSS
              go_wp2_with fail
              refine SX.out.mono ?_
              rintro e w2 ⟨rfl, hx⟩
              have HB3 := Lib.hid (hop (HB.out.alloc hWs (.cells (nodeC p) 97)) (Nat.le_refl _) hx)
              clear hx
              cases r with
              | false =>
                have ht := HT2.out
                rw [Bool.false_and] at ht
                subst ht
                go_wp2
                go_ret
                exact ⟨rfl, HB3.out⟩
              | true =>
                have ht := HT2.out
                rw [Bool.true_and] at ht
                have HT3 := Lib.hid ht
                clear ht
                go_wp2
                go_round
                case rel => exact ⟨j + 1, by omega, by go_num, HT3, HB3⟩
                case measure => simp [intOf]; omega
            · obtain rfl : j = xn := by omega
              have hI : ¬ (j : Int) < (j : Int) := by omega
              have ht := HT.out
              rw [List.drop_of_length_le (by omega), List.map_nil, rightsT_nil] at ht
              subst ht
              go_wp2
              go_ret
              exact ⟨rfl, HB.out⟩
  · have hs' : decide (xs = 0) = false := decide_eq_false hs
    rw [hs']
    simp only [hs'] at hCQ
    clear hs
    by_cases hk : xk = 1
    · subst hk
      rw [decide_eq_true rfl]
      rw [show (false != true) = true from rfl, Bool.true_and]
      cases b with
      | false =>
        rw [Bool.false_and]
        have K0 : Blk (W.alloc (.cells (nodeC (NodeX.mk 1 xs xm xx xA xn xc xl)) 97)).drew W.heap.size 97 (nodeC (NodeX.mk 1 xs xm xx xA xn xc xl)) := (Blk.new W 97 (nodeC (NodeX.mk 1 xs xm xx xA xn xc xl))).drew
        have S0 : (Blk (W.alloc (.cells (nodeC (NodeX.mk 1 xs xm xx xA xn xc xl)) 97)).drew W.heap.size 97 (nodeC (NodeX.mk 1 xs xm xx xA xn xc xl)) ∧ ((W.alloc (.cells (nodeC (NodeX.mk 1 xs xm xx xA xn xc xl)) 97)).drew.cell? ⟨W.heap.size, 0, none⟩ = some (.int .i64 1) ∧ (W.alloc (.cells (nodeC (NodeX.mk 1 xs xm xx xA xn xc xl)) 97)).drew.cell? ⟨W.heap.size, 1, none⟩ = some (.int .u64 (word xs 0 : Nat)) ∧ (W.alloc (.cells (nodeC (NodeX.mk 1 xs xm xx xA xn xc xl)) 97)).drew.cell? ⟨W.heap.size, 2, none⟩ = some (.int .u64 (word xs 1 : Nat)) ∧ (W.alloc (.cells (nodeC (NodeX.mk 1 xs xm xx xA xn xc xl)) 97)).drew.cell? ⟨W.heap.size, 3, none⟩ = some (.int .u64 (word xs 2 : Nat)) ∧ (W.alloc (.cells (nodeC (NodeX.mk 1 xs xm xx xA xn xc xl)) 97)).drew.cell? ⟨W.heap.size, 4, none⟩ = some (.int .u64 (word xs 3 : Nat)) ∧ (W.alloc (.cells (nodeC (NodeX.mk 1 xs xm xx xA xn xc xl)) 97)).drew.cell? ⟨W.heap.size, 5, none⟩ = some (.int .i64 xm) ∧ (W.alloc (.cells (nodeC (NodeX.mk 1 xs xm xx xA xn xc xl)) 97)).drew.cell? ⟨W.heap.size, 6, none⟩ = some (.int .i64 xx) ∧ (W.alloc (.cells (nodeC (NodeX.mk 1 xs xm xx xA xn xc xl)) 97)).drew.cell? ⟨W.heap.size, 7, none⟩ = some (.slice xA xn xc)) ∧ Below W.heap.size W (W.alloc (.cells (nodeC (NodeX.mk 1 xs xm xx xA xn xc xl)) 97)).drew) := ⟨K0, (node_cells K0).1, below_drewN HB0.out 1⟩
        have HS := Lib.hid (show ∀ w w', (Blk w W.heap.size 97 (nodeC (NodeX.mk 1 xs xm xx xA xn xc xl)) ∧ (w.cell? ⟨W.heap.size, 0, none⟩ = some (.int .i64 1) ∧ w.cell? ⟨W.heap.size, 1, none⟩ = some (.int .u64 (word xs 0 : Nat)) ∧ w.cell? ⟨W.heap.size, 2, none⟩ = some (.int .u64 (word xs 1 : Nat)) ∧ w.cell? ⟨W.heap.size, 3, none⟩ = some (.int .u64 (word xs 2 : Nat)) ∧ w.cell? ⟨W.heap.size, 4, none⟩ = some (.int .u64 (word xs 3 : Nat)) ∧ w.cell? ⟨W.heap.size, 5, none⟩ = some (.int .i64 xm) ∧ w.cell? ⟨W.heap.size, 6, none⟩ = some (.int .i64 xx) ∧ w.cell? ⟨W.heap.size, 7, none⟩ = some (.slice xA xn xc)) ∧ Below W.heap.size W w) → Below w.heap.size w w' → (Blk w' W.heap.size 97 (nodeC (NodeX.mk 1 xs xm xx xA xn xc xl)) ∧ (w'.cell? ⟨W.heap.size, 0, none⟩ = some (.int .i64 1) ∧ w'.cell? ⟨W.heap.size, 1, none⟩ = some (.int .u64 (word xs 0 : Nat)) ∧ w'.cell? ⟨W.heap.size, 2, none⟩ = some (.int .u64 (word xs 1 : Nat)) ∧ w'.cell? ⟨W.heap.size, 3, none⟩ = some (.int .u64 (word xs 2 : Nat)) ∧ w'.cell? ⟨W.heap.size, 4, none⟩ = some (.int .u64 (word xs 3 : Nat)) ∧ w'.cell? ⟨W.heap.size, 5, none⟩ = some (.int .i64 xm) ∧ w'.cell? ⟨W.heap.size, 6, none⟩ = some (.int .i64 xx) ∧ w'.cell? ⟨W.heap.size, 7, none⟩ = some (.slice xA xn xc)) ∧ Below W.heap.size W w') from fun w w' h hb => ⟨h.1.below hb h.1.lt, (node_cells (h.1.below hb h.1.lt)).1, hop h.2.2 (Nat.le_refl _) hb⟩)
        clear K0
        unfold nodeC nodeV
        simp only [NodeX.kind, NodeX.set, NodeX.mn, NodeX.mx, NodeX.A, NodeX.n, NodeX.c, NodeX.kids]
        go_enter Tryz.func57, Tryz.ntmps57
        go_wp2
        refine wp_region_held_drew (S := fun w' => (Blk w' W.heap.size 97 (nodeC (NodeX.mk 1 xs xm xx xA xn xc xl)) ∧ (w'.cell? ⟨W.heap.size, 0, none⟩ = some (.int .i64 1) ∧ w'.cell? ⟨W.heap.size, 1, none⟩ = some (.int .u64 (word xs 0 : Nat)) ∧ w'.cell? ⟨W.heap.size, 2, none⟩ = some (.int .u64 (word xs 1 : Nat)) ∧ w'.cell? ⟨W.heap.size, 3, none⟩ = some (.int .u64 (word xs 2 : Nat)) ∧ w'.cell? ⟨W.heap.size, 4, none⟩ = some (.int .u64 (word xs 3 : Nat)) ∧ w'.cell? ⟨W.heap.size, 5, none⟩ = some (.int .i64 xm) ∧ w'.cell? ⟨W.heap.size, 6, none⟩ = some (.int .i64 xx) ∧ w'.cell? ⟨W.heap.size, 7, none⟩ = some (.slice xA xn xc)) ∧ Below W.heap.size W w')) (by kernel_rfl) S0 (fun hHeld => ?_)
        refine tV 0 ?_; refine tH 1 ?_; refine tV 2 ?_; refine tV 3 ?_; refine tV 4 ?_; refine tH 5 ?_; refine tV 6 ?_; refine tV 7 ?_; refine tV 8 ?_; refine tH 9 ?_
        refine rdy [10] ?_
        refine rdC (fun K hK => ?_) AllReadyH.nil
        go_simp
        go_at_call 77
        refine (BO.out _).mono ?_
        rintro e wc1 ⟨rfl, hb3⟩
        have Sc1 := HS.out _ _ (by assumption) hb3
        refine hK.out _ _ Sc1 (fun _ => ?_)
        clear hK K hb3
        try simp only [Act.put, pz1, pz2, pz3]
        refine tV 11 ?_; refine tV 12 ?_; refine tV 13 ?_; refine tN 14 ?_; refine tN 15 ?_; refine tN 16 ?_; refine tV 17 ?_
        refine wpAnyH_done (by kernel_rfl) ?_ _
        clear HS hHeld
        go_wp2
        go_ret
        first | exact ⟨rfl, Sc2.2.2⟩ | exact ⟨rfl, Sc1.2.2⟩ | exact ⟨rfl, S0.2.2⟩
      | true =>
        rw [Bool.true_and]
        cases c with
        | false =>
          rw [Bool.false_and]
          have K0 : Blk (W.alloc (.cells (nodeC (NodeX.mk 1 xs xm xx xA xn xc xl)) 97)).drew W.heap.size 97 (nodeC (NodeX.mk 1 xs xm xx xA xn xc xl)) := (Blk.new W 97 (nodeC (NodeX.mk 1 xs xm xx xA xn xc xl))).drew
          have S0 : (Blk (W.alloc (.cells (nodeC (NodeX.mk 1 xs xm xx xA xn xc xl)) 97)).drew W.heap.size 97 (nodeC (NodeX.mk 1 xs xm xx xA xn xc xl)) ∧ ((W.alloc (.cells (nodeC (NodeX.mk 1 xs xm xx xA xn xc xl)) 97)).drew.cell? ⟨W.heap.size, 0, none⟩ = some (.int .i64 1) ∧ (W.alloc (.cells (nodeC (NodeX.mk 1 xs xm xx xA xn xc xl)) 97)).drew.cell? ⟨W.heap.size, 1, none⟩ = some (.int .u64 (word xs 0 : Nat)) ∧ (W.alloc (.cells (nodeC (NodeX.mk 1 xs xm xx xA xn xc xl)) 97)).drew.cell? ⟨W.heap.size, 2, none⟩ = some (.int .u64 (word xs 1 : Nat)) ∧ (W.alloc (.cells (nodeC (NodeX.mk 1 xs xm xx xA xn xc xl)) 97)).drew.cell? ⟨W.heap.size, 3, none⟩ = some (.int .u64 (word xs 2 : Nat)) ∧ (W.alloc (.cells (nodeC (NodeX.mk 1 xs xm xx xA xn xc xl)) 97)).drew.cell? ⟨W.heap.size, 4, none⟩ = some (.int .u64 (word xs 3 : Nat)) ∧ (W.alloc (.cells (nodeC (NodeX.mk 1 xs xm xx xA xn xc xl)) 97)).drew.cell? ⟨W.heap.size, 5, none⟩ = some (.int .i64 xm) ∧ (W.alloc (.cells (nodeC (NodeX.mk 1 xs xm xx xA xn xc xl)) 97)).drew.cell? ⟨W.heap.size, 6, none⟩ = some (.int .i64 xx) ∧ (W.alloc (.cells (nodeC (NodeX.mk 1 xs xm xx xA xn xc xl)) 97)).drew.cell? ⟨W.heap.size, 7, none⟩ = some (.slice xA xn xc)) ∧ Below W.heap.size W (W.alloc (.cells (nodeC (NodeX.mk 1 xs xm xx xA xn xc xl)) 97)).drew) := ⟨K0, (node_cells K0).1, below_drewN HB0.out 1⟩
          have HS := Lib.hid (show ∀ w w', (Blk w W.heap.size 97 (nodeC (NodeX.mk 1 xs xm xx xA xn xc xl)) ∧ (w.cell? ⟨W.heap.size, 0, none⟩ = some (.int .i64 1) ∧ w.cell? ⟨W.heap.size, 1, none⟩ = some (.int .u64 (word xs 0 : Nat)) ∧ w.cell? ⟨W.heap.size, 2, none⟩ = some (.int .u64 (word xs 1 : Nat)) ∧ w.cell? ⟨W.heap.size, 3, none⟩ = some (.int .u64 (word xs 2 : Nat)) ∧ w.cell? ⟨W.heap.size, 4, none⟩ = some (.int .u64 (word xs 3 : Nat)) ∧ w.cell? ⟨W.heap.size, 5, none⟩ = some (.int .i64 xm) ∧ w.cell? ⟨W.heap.size, 6, none⟩ = some (.int .i64 xx) ∧ w.cell? ⟨W.heap.size, 7, none⟩ = some (.slice xA xn xc)) ∧ Below W.heap.size W w) → Below w.heap.size w w' → (Blk w' W.heap.size 97 (nodeC (NodeX.mk 1 xs xm xx xA xn xc xl)) ∧ (w'.cell? ⟨W.heap.size, 0, none⟩ = some (.int .i64 1) ∧ w'.cell? ⟨W.heap.size, 1, none⟩ = some (.int .u64 (word xs 0 : Nat)) ∧ w'.cell? ⟨W.heap.size, 2, none⟩ = some (.int .u64 (word xs 1 : Nat)) ∧ w'.cell? ⟨W.heap.size, 3, none⟩ = some (.int .u64 (word xs 2 : Nat)) ∧ w'.cell? ⟨W.heap.size, 4, none⟩ = some (.int .u64 (word xs 3 : Nat)) ∧ w'.cell? ⟨W.heap.size, 5, none⟩ = some (.int .i64 xm) ∧ w'.cell? ⟨W.heap.size, 6, none⟩ = some (.int .i64 xx) ∧ w'.cell? ⟨W.heap.size, 7, none⟩ = some (.slice xA xn xc)) ∧ Below W.heap.size W w') from fun w w' h hb => ⟨h.1.below hb h.1.lt, (node_cells (h.1.below hb h.1.lt)).1, hop h.2.2 (Nat.le_refl _) hb⟩)
          clear K0
          unfold nodeC nodeV
          simp only [NodeX.kind, NodeX.set, NodeX.mn, NodeX.mx, NodeX.A, NodeX.n, NodeX.c, NodeX.kids]
          go_enter Tryz.func57, Tryz.ntmps57
          go_wp2
          refine wp_region_held_drew (S := fun w' => (Blk w' W.heap.size 97 (nodeC (NodeX.mk 1 xs xm xx xA xn xc xl)) ∧ (w'.cell? ⟨W.heap.size, 0, none⟩ = some (.int .i64 1) ∧ w'.cell? ⟨W.heap.size, 1, none⟩ = some (.int .u64 (word xs 0 : Nat)) ∧ w'.cell? ⟨W.heap.size, 2, none⟩ = some (.int .u64 (word xs 1 : Nat)) ∧ w'.cell? ⟨W.heap.size, 3, none⟩ = some (.int .u64 (word xs 2 : Nat)) ∧ w'.cell? ⟨W.heap.size, 4, none⟩ = some (.int .u64 (word xs 3 : Nat)) ∧ w'.cell? ⟨W.heap.size, 5, none⟩ = some (.int .i64 xm) ∧ w'.cell? ⟨W.heap.size, 6, none⟩ = some (.int .i64 xx) ∧ w'.cell? ⟨W.heap.size, 7, none⟩ = some (.slice xA xn xc)) ∧ Below W.heap.size W w')) (by kernel_rfl) S0 (fun hHeld => ?_)
          refine tV 0 ?_; refine tH 1 ?_; refine tV 2 ?_; refine tV 3 ?_; refine tV 4 ?_; refine tH 5 ?_; refine tV 6 ?_; refine tV 7 ?_; refine tV 8 ?_; refine tH 9 ?_
          refine rdy [10] ?_
          refine rdC (fun K hK => ?_) AllReadyH.nil
          go_simp
          go_at_call 77
          refine (BO.out _).mono ?_
          rintro e wc1 ⟨rfl, hb3⟩
          have Sc1 := HS.out _ _ (by assumption) hb3
          refine hK.out _ _ Sc1 (fun _ => ?_)
          clear hK K hb3
          try simp only [Act.put, pz1, pz2, pz3]
          refine tV 11 ?_; refine tV 12 ?_; refine tV 13 ?_; refine tH 14 ?_
          refine rdy [15] ?_
          refine rdC (fun K hK => ?_) AllReadyH.nil
          go_simp
          go_at_call 78
          refine (KI.out _).mono ?_
          rintro e wc2 ⟨rfl, hb3⟩
          have Sc2 := HS.out _ _ (by assumption) hb3
          refine hK.out _ _ Sc2 (fun _ => ?_)
          clear hK K hb3
          try simp only [Act.put, pz1, pz2, pz3]
          refine tV 16 ?_; refine tV 17 ?_
          refine wpAnyH_done (by kernel_rfl) ?_ _
          clear HS hHeld
          go_wp2
          go_ret
          first | exact ⟨rfl, Sc2.2.2⟩ | exact ⟨rfl, Sc1.2.2⟩ | exact ⟨rfl, S0.2.2⟩
        | true =>
          rw [Bool.true_and]
          have K0 : Blk (W.alloc (.cells (nodeC (NodeX.mk 1 xs xm xx xA xn xc xl)) 97)).drew W.heap.size 97 (nodeC (NodeX.mk 1 xs xm xx xA xn xc xl)) := (Blk.new W 97 (nodeC (NodeX.mk 1 xs xm xx xA xn xc xl))).drew
          have S0 : (Blk (W.alloc (.cells (nodeC (NodeX.mk 1 xs xm xx xA xn xc xl)) 97)).drew W.heap.size 97 (nodeC (NodeX.mk 1 xs xm xx xA xn xc xl)) ∧ ((W.alloc (.cells (nodeC (NodeX.mk 1 xs xm xx xA xn xc xl)) 97)).drew.cell? ⟨W.heap.size, 0, none⟩ = some (.int .i64 1) ∧ (W.alloc (.cells (nodeC (NodeX.mk 1 xs xm xx xA xn xc xl)) 97)).drew.cell? ⟨W.heap.size, 1, none⟩ = some (.int .u64 (word xs 0 : Nat)) ∧ (W.alloc (.cells (nodeC (NodeX.mk 1 xs xm xx xA xn xc xl)) 97)).drew.cell? ⟨W.heap.size, 2, none⟩ = some (.int .u64 (word xs 1 : Nat)) ∧ (W.alloc (.cells (nodeC (NodeX.mk 1 xs xm xx xA xn xc xl)) 97)).drew.cell? ⟨W.heap.size, 3, none⟩ = some (.int .u64 (word xs 2 : Nat)) ∧ (W.alloc (.cells (nodeC (NodeX.mk 1 xs xm xx xA xn xc xl)) 97)).drew.cell? ⟨W.heap.size, 4, none⟩ = some (.int .u64 (word xs 3 : Nat)) ∧ (W.alloc (.cells (nodeC (NodeX.mk 1 xs xm xx xA xn xc xl)) 97)).drew.cell? ⟨W.heap.size, 5, none⟩ = some (.int .i64 xm) ∧ (W.alloc (.cells (nodeC (NodeX.mk 1 xs xm xx xA xn xc xl)) 97)).drew.cell? ⟨W.heap.size, 6, none⟩ = some (.int .i64 xx) ∧ (W.alloc (.cells (nodeC (NodeX.mk 1 xs xm xx xA xn xc xl)) 97)).drew.cell? ⟨W.heap.size, 7, none⟩ = some (.slice xA xn xc)) ∧ Below W.heap.size W (W.alloc (.cells (nodeC (NodeX.mk 1 xs xm xx xA xn xc xl)) 97)).drew) := ⟨K0, (node_cells K0).1, below_drewN HB0.out 1⟩
          have HS := Lib.hid (show ∀ w w', (Blk w W.heap.size 97 (nodeC (NodeX.mk 1 xs xm xx xA xn xc xl)) ∧ (w.cell? ⟨W.heap.size, 0, none⟩ = some (.int .i64 1) ∧ w.cell? ⟨W.heap.size, 1, none⟩ = some (.int .u64 (word xs 0 : Nat)) ∧ w.cell? ⟨W.heap.size, 2, none⟩ = some (.int .u64 (word xs 1 : Nat)) ∧ w.cell? ⟨W.heap.size, 3, none⟩ = some (.int .u64 (word xs 2 : Nat)) ∧ w.cell? ⟨W.heap.size, 4, none⟩ = some (.int .u64 (word xs 3 : Nat)) ∧ w.cell? ⟨W.heap.size, 5, none⟩ = some (.int .i64 xm) ∧ w.cell? ⟨W.heap.size, 6, none⟩ = some (.int .i64 xx) ∧ w.cell? ⟨W.heap.size, 7, none⟩ = some (.slice xA xn xc)) ∧ Below W.heap.size W w) → Below w.heap.size w w' → (Blk w' W.heap.size 97 (nodeC (NodeX.mk 1 xs xm xx xA xn xc xl)) ∧ (w'.cell? ⟨W.heap.size, 0, none⟩ = some (.int .i64 1) ∧ w'.cell? ⟨W.heap.size, 1, none⟩ = some (.int .u64 (word xs 0 : Nat)) ∧ w'.cell? ⟨W.heap.size, 2, none⟩ = some (.int .u64 (word xs 1 : Nat)) ∧ w'.cell? ⟨W.heap.size, 3, none⟩ = some (.int .u64 (word xs 2 : Nat)) ∧ w'.cell? ⟨W.heap.size, 4, none⟩ = some (.int .u64 (word xs 3 : Nat)) ∧ w'.cell? ⟨W.heap.size, 5, none⟩ = some (.int .i64 xm) ∧ w'.cell? ⟨W.heap.size, 6, none⟩ = some (.int .i64 xx) ∧ w'.cell? ⟨W.heap.size, 7, none⟩ = some (.slice xA xn xc)) ∧ Below W.heap.size W w') from fun w w' h hb => ⟨h.1.below hb h.1.lt, (node_cells (h.1.below hb h.1.lt)).1, hop h.2.2 (Nat.le_refl _) hb⟩)
          clear K0
          unfold nodeC nodeV
          simp only [NodeX.kind, NodeX.set, NodeX.mn, NodeX.mx, NodeX.A, NodeX.n, NodeX.c, NodeX.kids]
          go_enter Tryz.func57, Tryz.ntmps57
          go_wp2
          refine wp_region_held_drew (S := fun w' => (Blk w' W.heap.size 97 (nodeC (NodeX.mk 1 xs xm xx xA xn xc xl)) ∧ (w'.cell? ⟨W.heap.size, 0, none⟩ = some (.int .i64 1) ∧ w'.cell? ⟨W.heap.size, 1, none⟩ = some (.int .u64 (word xs 0 : Nat)) ∧ w'.cell? ⟨W.heap.size, 2, none⟩ = some (.int .u64 (word xs 1 : Nat)) ∧ w'.cell? ⟨W.heap.size, 3, none⟩ = some (.int .u64 (word xs 2 : Nat)) ∧ w'.cell? ⟨W.heap.size, 4, none⟩ = some (.int .u64 (word xs 3 : Nat)) ∧ w'.cell? ⟨W.heap.size, 5, none⟩ = some (.int .i64 xm) ∧ w'.cell? ⟨W.heap.size, 6, none⟩ = some (.int .i64 xx) ∧ w'.cell? ⟨W.heap.size, 7, none⟩ = some (.slice xA xn xc)) ∧ Below W.heap.size W w')) (by kernel_rfl) S0 (fun hHeld => ?_)
          refine tV 0 ?_; refine tH 1 ?_; refine tV 2 ?_; refine tV 3 ?_; refine tV 4 ?_; refine tH 5 ?_; refine tV 6 ?_; refine tV 7 ?_; refine tV 8 ?_; refine tH 9 ?_
          refine rdy [10] ?_
          refine rdC (fun K hK => ?_) AllReadyH.nil
          go_simp
          go_at_call 77
          refine (BO.out _).mono ?_
          rintro e wc1 ⟨rfl, hb3⟩
          have Sc1 := HS.out _ _ (by assumption) hb3
          refine hK.out _ _ Sc1 (fun _ => ?_)
          clear hK K hb3
          try simp only [Act.put, pz1, pz2, pz3]
          refine tV 11 ?_; refine tV 12 ?_; refine tV 13 ?_; refine tH 14 ?_
          refine rdy [15] ?_
          refine rdC (fun K hK => ?_) AllReadyH.nil
          go_simp
          go_at_call 78
          refine (KI.out _).mono ?_
          rintro e wc2 ⟨rfl, hb3⟩
          have Sc2 := HS.out _ _ (by assumption) hb3
          refine hK.out _ _ Sc2 (fun _ => ?_)
          clear hK K hb3
          try simp only [Act.put, pz1, pz2, pz3]
          refine tV 16 ?_; refine tV 17 ?_
          refine wpAnyH_done (by kernel_rfl) ?_ _
          have HB2 := Lib.hid Sc2.2.2
          have e7 := Sc2.2.1.2.2.2.2.2.2.2
          clear S0 Sc1 Sc2 HS hHeld BO KI
          go_wp2
          clear e7
          go_loopw [26] (fun iv wr => ∃ (j : Nat), j ≤ xn ∧ iv = .int .i64 (j : Nat) ∧ Hid (rightsT ((xl.drop j).map NodeX.t) = F) ∧ Hid (Below W.heap.size W wr)) (fun iv _ => xn - (intOf iv).toNat)
          case atStart => exact ⟨0, Nat.zero_le _, rfl, HF, HB2⟩
          case round =>
            obtain ⟨j, hj, rfl, HT, HB⟩ := hrel
            by_cases h : j < xn
            · have hI : (j : Int) < xn := by omega
              obtain ⟨b, off, rfl, hlt, hc⟩ := HRX.out.2 (by omega)
              have hjl : j < xl.length := by omega
              obtain ⟨p, hp⟩ : ∃ p, xl[j]? = some p := ⟨xl[j], List.getElem?_eq_getElem hjl⟩
              have hpl : p ∈ xl := List.mem_of_getElem? hp
              have hdr : xl.drop j = p :: xl.drop (j + 1) := by
                rw [List.drop_eq_getElem_cons hjl]
                congr 1
                rw [List.getElem?_eq_getElem hjl] at hp
                injection hp
              have c0 := (HB.out.cell (p := ⟨b, off + j * 8 + 0, none⟩) hlt).trans (hc j 0 p hp (by decide))
              have c1 := (HB.out.cell (p := ⟨b, off + j * 8 + 1, none⟩) hlt).trans (hc j 1 p hp (by decide))
              have c2 := (HB.out.cell (p := ⟨b, off + j * 8 + 2, none⟩) hlt).trans (hc j 2 p hp (by decide))
              have c3 := (HB.out.cell (p := ⟨b, off + j * 8 + 3, none⟩) hlt).trans (hc j 3 p hp (by decide))
              have c4 := (HB.out.cell (p := ⟨b, off + j * 8 + 4, none⟩) hlt).trans (hc j 4 p hp (by decide))
              have c5 := (HB.out.cell (p := ⟨b, off + j * 8 + 5, none⟩) hlt).trans (hc j 5 p hp (by decide))
              have c6 := (HB.out.cell (p := ⟨b, off + j * 8 + 6, none⟩) hlt).trans (hc j 6 p hp (by decide))
              have c7 := (HB.out.cell (p := ⟨b, off + j * 8 + 7, none⟩) hlt).trans (hc j 7 p hp (by decide))
              rw [Nat.add_zero] at c0
              simp only [nodeV, List.getElem?_cons_zero, List.getElem?_cons_succ] at c0 c1 c2 c3 c4 c5 c6 c7
              have ht := HT.out
              rw [hdr, List.map_cons, rightsT_cons] at ht
              have hWs := HB.out.size
              clear hc hp hdr
              have SX := HSS.out p hpl P (wr.alloc (.cells (nodeC p) 97)) (((HKX.out p hpl).later HB.out).alloc _)
              obtain ⟨r, hr⟩ : ∃ r, rightT p.t = r := ⟨_, rfl⟩
              rw [hr] at SX ht
              replace SX := Lib.hid SX
              have K1 := Blk.new wr 97 (nodeC p)
              obtain ⟨⟨a0, a1, a2, a3, a4, a5, a6, a7⟩, _⟩ := node_cells K1
              have HT2 := Lib.hid ht
              clear ht hr K1 HRX HKX HSS
              go_wp2_with fail
              refine SX.out.mono ?_
              rintro e w2 ⟨rfl, hx⟩
              have HB3 := Lib.hid (hop (HB.out.alloc hWs (.cells (nodeC p) 97)) (Nat.le_refl _) hx)
              clear hx
              cases r with
              | false =>
                have ht := HT2.out
                rw [Bool.false_and] at ht
                subst ht
                go_wp2
                go_ret
                exact ⟨rfl, HB3.out⟩
              | true =>
                have ht := HT2.out
                rw [Bool.true_and] at ht
                have HT3 := Lib.hid ht
                clear ht
                go_wp2
                go_round
                case rel => exact ⟨j + 1, by omega, by go_num, HT3, HB3⟩
                case measure => simp [intOf]; omega
            · obtain rfl : j = xn := by omega
              have hI : ¬ (j : Int) < (j : Int) := by omega
              have ht := HT.out
              rw [List.drop_of_length_le (by omega), List.map_nil, rightsT_nil] at ht
              subst ht
              go_wp2
              go_ret
              exact ⟨rfl, HB.out⟩
    · have hk' : (xk == 1) = false := by rw [beq_eq_false_iff_ne]; exact hk
      rw [decide_eq_false hk]
      rw [show (false != false) = false from rfl, Bool.false_and]
      have K0 : Blk (W.alloc (.cells (nodeC (NodeX.mk xk xs xm xx xA xn xc xl)) 97)).drew W.heap.size 97 (nodeC (NodeX.mk xk xs xm xx xA xn xc xl)) := (Blk.new W 97 (nodeC (NodeX.mk xk xs xm xx xA xn xc xl))).drew
      have S0 : (Blk (W.alloc (.cells (nodeC (NodeX.mk xk xs xm xx xA xn xc xl)) 97)).drew W.heap.size 97 (nodeC (NodeX.mk xk xs xm xx xA xn xc xl)) ∧ ((W.alloc (.cells (nodeC (NodeX.mk xk xs xm xx xA xn xc xl)) 97)).drew.cell? ⟨W.heap.size, 0, none⟩ = some (.int .i64 xk) ∧ (W.alloc (.cells (nodeC (NodeX.mk xk xs xm xx xA xn xc xl)) 97)).drew.cell? ⟨W.heap.size, 1, none⟩ = some (.int .u64 (word xs 0 : Nat)) ∧ (W.alloc (.cells (nodeC (NodeX.mk xk xs xm xx xA xn xc xl)) 97)).drew.cell? ⟨W.heap.size, 2, none⟩ = some (.int .u64 (word xs 1 : Nat)) ∧ (W.alloc (.cells (nodeC (NodeX.mk xk xs xm xx xA xn xc xl)) 97)).drew.cell? ⟨W.heap.size, 3, none⟩ = some (.int .u64 (word xs 2 : Nat)) ∧ (W.alloc (.cells (nodeC (NodeX.mk xk xs xm xx xA xn xc xl)) 97)).drew.cell? ⟨W.heap.size, 4, none⟩ = some (.int .u64 (word xs 3 : Nat)) ∧ (W.alloc (.cells (nodeC (NodeX.mk xk xs xm xx xA xn xc xl)) 97)).drew.cell? ⟨W.heap.size, 5, none⟩ = some (.int .i64 xm) ∧ (W.alloc (.cells (nodeC (NodeX.mk xk xs xm xx xA xn xc xl)) 97)).drew.cell? ⟨W.heap.size, 6, none⟩ = some (.int .i64 xx) ∧ (W.alloc (.cells (nodeC (NodeX.mk xk xs xm xx xA xn xc xl)) 97)).drew.cell? ⟨W.heap.size, 7, none⟩ = some (.slice xA xn xc)) ∧ Below W.heap.size W (W.alloc (.cells (nodeC (NodeX.mk xk xs xm xx xA xn xc xl)) 97)).drew) := ⟨K0, (node_cells K0).1, below_drewN HB0.out 1⟩
      have HS := Lib.hid (show ∀ w w', (Blk w W.heap.size 97 (nodeC (NodeX.mk xk xs xm xx xA xn xc xl)) ∧ (w.cell? ⟨W.heap.size, 0, none⟩ = some (.int .i64 xk) ∧ w.cell? ⟨W.heap.size, 1, none⟩ = some (.int .u64 (word xs 0 : Nat)) ∧ w.cell? ⟨W.heap.size, 2, none⟩ = some (.int .u64 (word xs 1 : Nat)) ∧ w.cell? ⟨W.heap.size, 3, none⟩ = some (.int .u64 (word xs 2 : Nat)) ∧ w.cell? ⟨W.heap.size, 4, none⟩ = some (.int .u64 (word xs 3 : Nat)) ∧ w.cell? ⟨W.heap.size, 5, none⟩ = some (.int .i64 xm) ∧ w.cell? ⟨W.heap.size, 6, none⟩ = some (.int .i64 xx) ∧ w.cell? ⟨W.heap.size, 7, none⟩ = some (.slice xA xn xc)) ∧ Below W.heap.size W w) → Below w.heap.size w w' → (Blk w' W.heap.size 97 (nodeC (NodeX.mk xk xs xm xx xA xn xc xl)) ∧ (w'.cell? ⟨W.heap.size, 0, none⟩ = some (.int .i64 xk) ∧ w'.cell? ⟨W.heap.size, 1, none⟩ = some (.int .u64 (word xs 0 : Nat)) ∧ w'.cell? ⟨W.heap.size, 2, none⟩ = some (.int .u64 (word xs 1 : Nat)) ∧ w'.cell? ⟨W.heap.size, 3, none⟩ = some (.int .u64 (word xs 2 : Nat)) ∧ w'.cell? ⟨W.heap.size, 4, none⟩ = some (.int .u64 (word xs 3 : Nat)) ∧ w'.cell? ⟨W.heap.size, 5, none⟩ = some (.int .i64 xm) ∧ w'.cell? ⟨W.heap.size, 6, none⟩ = some (.int .i64 xx) ∧ w'.cell? ⟨W.heap.size, 7, none⟩ = some (.slice xA xn xc)) ∧ Below W.heap.size W w') from fun w w' h hb => ⟨h.1.below hb h.1.lt, (node_cells (h.1.below hb h.1.lt)).1, hop h.2.2 (Nat.le_refl _) hb⟩)
      clear K0
      unfold nodeC nodeV
      simp only [NodeX.kind, NodeX.set, NodeX.mn, NodeX.mx, NodeX.A, NodeX.n, NodeX.c, NodeX.kids]
      go_enter Tryz.func57, Tryz.ntmps57
      go_wp2
      refine wp_region_held_drew (S := fun w' => (Blk w' W.heap.size 97 (nodeC (NodeX.mk xk xs xm xx xA xn xc xl)) ∧ (w'.cell? ⟨W.heap.size, 0, none⟩ = some (.int .i64 xk) ∧ w'.cell? ⟨W.heap.size, 1, none⟩ = some (.int .u64 (word xs 0 : Nat)) ∧ w'.cell? ⟨W.heap.size, 2, none⟩ = some (.int .u64 (word xs 1 : Nat)) ∧ w'.cell? ⟨W.heap.size, 3, none⟩ = some (.int .u64 (word xs 2 : Nat)) ∧ w'.cell? ⟨W.heap.size, 4, none⟩ = some (.int .u64 (word xs 3 : Nat)) ∧ w'.cell? ⟨W.heap.size, 5, none⟩ = some (.int .i64 xm) ∧ w'.cell? ⟨W.heap.size, 6, none⟩ = some (.int .i64 xx) ∧ w'.cell? ⟨W.heap.size, 7, none⟩ = some (.slice xA xn xc)) ∧ Below W.heap.size W w')) (by kernel_rfl) S0 (fun hHeld => ?_)
      refine tV 0 ?_; refine tH 1 ?_; refine tV 2 ?_; refine tV 3 ?_; refine tV 4 ?_; refine tH 5 ?_; refine tV 6 ?_; refine tV 7 ?_; refine tV 8 ?_; refine tN 9 ?_
      refine tN 10 ?_; refine tN 11 ?_; refine tV 12 ?_; refine tV 13 ?_; refine tN 14 ?_; refine tN 15 ?_; refine tN 16 ?_; refine tV 17 ?_
      refine wpAnyH_done (by kernel_rfl) ?_ _
      clear HS hHeld
      go_wp2
      go_ret
      first | exact ⟨rfl, Sc2.2.2⟩ | exact ⟨rfl, Sc1.2.2⟩ | exact ⟨rfl, S0.2.2⟩
theorem right_all : ∀ (m : Nat) (x : NodeX), SizeOf.sizeOf x < m → RightC x := by
  intro m
  induction m with
  | zero => exact fun x h => absurd h (Nat.not_lt_zero _)
  | succ m ih =>
    intro x h
    refine right_step x (fun y hy => ih y ?_)
    have h1 := List.sizeOf_lt_of_mem hy
    cases x
    simp [NodeX.kids] at h1 h
    omega
theorem right_rex (x : NodeX) : RightC x := right_all _ x (Nat.lt_succ_self _)
end Go.Proofs.YtbkpoimaienhpaaGreatDoor
