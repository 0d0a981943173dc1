/- Whether an expression is right: the bounds and the kids of one node. -/
import Derived.Test.YtojjeignijpiaaaGreatDoorRexSame
namespace Go.Proofs.YtojjeignijpiaaaGreatDoor
open Go.RowKit
set_option linter.unusedVariables false
set_option linter.unusedSimpArgs false

/-- whether a node of this kind may have so many kids -/
def kidsR (k : Int) (n : Nat) : Bool := if k = 0 ∨ k = 1 ∨ k = 2 ∨ k = 3 then n == 0 else if k = 4 ∨ k = 5 then decide (2 ≤ n) else if k = 6 then n == 1 else false
/-- whether a node of this kind may have these bounds -/
def boundsR (k mn mx : Int) : Bool := if k ≠ 6 then mn == 0 && mx == 0 else if mn < 0 ∨ 20 < mn then false else mx == -1 || (decide (mn ≤ mx) && decide (mx ≤ 20))
set_option maxRecDepth 100000 in
set_option maxHeartbeats 1600000 in
theorem rightKids_any (x : NodeX) (W : World) : Calls Tryz.prog 29 #[.agg (nodeC x)] W fun e w' => e = .returned (.bool (kidsR x.kind x.n)) ∧ Below W.heap.size W w' := by
  have K0 := Blk.new W 36 (nodeC x)
  have HB0 := Lib.hid ((Below.refl W.heap.size W).alloc (Nat.le_refl _) (.cells (nodeC x) 36))
  obtain ⟨⟨a0, a1, a2, a3, a4, a5, a6, a7⟩, _⟩ := node_cells K0
  clear K0
  obtain ⟨xk, xs, xm, xx, xA, xn, xc, xl⟩ := x
  simp only [NodeX.kind, NodeX.set, NodeX.mn, NodeX.mx, NodeX.A, NodeX.n, NodeX.c, NodeX.kids] at a0 a1 a2 a3 a4 a5 a6 a7 ⊢
  by_cases h0 : xk = 0
  · subst h0
    unfold nodeC nodeV
    simp only [NodeX.kind, NodeX.set, NodeX.mn, NodeX.mx, NodeX.A, NodeX.n, NodeX.c, NodeX.kids]
    go_enter Tryz.func29, Tryz.ntmps29
    go_wp2
    go_ret
    refine ⟨congrArg (fun b => Ending.returned (Value.bool b)) (show ((xn : Int) == 0) = kidsR 0 xn from ?_), HB0.out⟩
    rw [kidsR, if_pos (by omega), Bool.eq_iff_iff]
    simp
  have b0 : (xk == 0) = false := by rw [beq_eq_false_iff_ne]; exact h0
  by_cases h1 : xk = 1
  · subst h1
    unfold nodeC nodeV
    simp only [NodeX.kind, NodeX.set, NodeX.mn, NodeX.mx, NodeX.A, NodeX.n, NodeX.c, NodeX.kids]
    go_enter Tryz.func29, Tryz.ntmps29
    go_wp2
    go_ret
    refine ⟨congrArg (fun b => Ending.returned (Value.bool b)) (show ((xn : Int) == 0) = kidsR 1 xn from ?_), HB0.out⟩
    rw [kidsR, if_pos (by omega), Bool.eq_iff_iff]
    simp
  have b1 : (xk == 1) = false := by rw [beq_eq_false_iff_ne]; exact h1
  by_cases h2 : xk = 2
  · subst h2
    unfold nodeC nodeV
    simp only [NodeX.kind, NodeX.set, NodeX.mn, NodeX.mx, NodeX.A, NodeX.n, NodeX.c, NodeX.kids]
    go_enter Tryz.func29, Tryz.ntmps29
    go_wp2
    go_ret
    refine ⟨congrArg (fun b => Ending.returned (Value.bool b)) (show ((xn : Int) == 0) = kidsR 2 xn from ?_), HB0.out⟩
    rw [kidsR, if_pos (by omega), Bool.eq_iff_iff]
    simp
  have b2 : (xk == 2) = false := by rw [beq_eq_false_iff_ne]; exact h2
  by_cases h3 : xk = 3
  · subst h3
    unfold nodeC nodeV
    simp only [NodeX.kind, NodeX.set, NodeX.mn, NodeX.mx, NodeX.A, NodeX.n, NodeX.c, NodeX.kids]
    go_enter Tryz.func29, Tryz.ntmps29
    go_wp2
    go_ret
    refine ⟨congrArg (fun b => Ending.returned (Value.bool b)) (show ((xn : Int) == 0) = kidsR 3 xn from ?_), HB0.out⟩
    rw [kidsR, if_pos (by omega), Bool.eq_iff_iff]
    simp
  have b3 : (xk == 3) = false := by rw [beq_eq_false_iff_ne]; exact h3
  by_cases h4 : xk = 4
  · subst h4
    unfold nodeC nodeV
    simp only [NodeX.kind, NodeX.set, NodeX.mn, NodeX.mx, NodeX.A, NodeX.n, NodeX.c, NodeX.kids]
    go_enter Tryz.func29, Tryz.ntmps29
    go_wp2
    go_ret
    refine ⟨congrArg (fun b => Ending.returned (Value.bool b)) (show decide ((2 : Int) ≤ (xn : Int)) = kidsR 4 xn from ?_), HB0.out⟩
    rw [kidsR, if_neg (by omega), if_pos (by omega), decide_eq_decide]
    omega
  have b4 : (xk == 4) = false := by rw [beq_eq_false_iff_ne]; exact h4
  by_cases h5 : xk = 5
  · subst h5
    unfold nodeC nodeV
    simp only [NodeX.kind, NodeX.set, NodeX.mn, NodeX.mx, NodeX.A, NodeX.n, NodeX.c, NodeX.kids]
    go_enter Tryz.func29, Tryz.ntmps29
    go_wp2
    go_ret
    refine ⟨congrArg (fun b => Ending.returned (Value.bool b)) (show decide ((2 : Int) ≤ (xn : Int)) = kidsR 5 xn from ?_), HB0.out⟩
    rw [kidsR, if_neg (by omega), if_pos (by omega), decide_eq_decide]
    omega
  have b5 : (xk == 5) = false := by rw [beq_eq_false_iff_ne]; exact h5
  by_cases h6 : xk = 6
  · subst h6
    unfold nodeC nodeV
    simp only [NodeX.kind, NodeX.set, NodeX.mn, NodeX.mx, NodeX.A, NodeX.n, NodeX.c, NodeX.kids]
    go_enter Tryz.func29, Tryz.ntmps29
    go_wp2
    go_ret
    refine ⟨congrArg (fun b => Ending.returned (Value.bool b)) (show ((xn : Int) == 1) = kidsR 6 xn from ?_), HB0.out⟩
    rw [kidsR, if_neg (by omega), if_neg (by omega), if_pos rfl, Bool.eq_iff_iff, beq_iff_eq, beq_iff_eq]
    omega
  have b6 : (xk == 6) = false := by rw [beq_eq_false_iff_ne]; exact h6
  rw [show kidsR xk xn = false by rw [kidsR, if_neg (by omega), if_neg (by omega), if_neg (by omega)]]
  unfold nodeC nodeV
  simp only [NodeX.kind, NodeX.set, NodeX.mn, NodeX.mx, NodeX.A, NodeX.n, NodeX.c, NodeX.kids]
  go_enter Tryz.func29, Tryz.ntmps29
  go_wp2
  go_ret
  exact ⟨rfl, HB0.out⟩
set_option maxRecDepth 100000 in
set_option maxHeartbeats 1600000 in
theorem rightBounds_any (x : NodeX) (W : World) : Calls Tryz.prog 28 #[.agg (nodeC x)] W fun e w' => e = .returned (.bool (boundsR x.kind x.mn x.mx)) ∧ Below W.heap.size W w' := by
  have K0 := Blk.new W 36 (nodeC x)
  have HB0 := Lib.hid ((Below.refl W.heap.size W).alloc (Nat.le_refl _) (.cells (nodeC x) 36))
  obtain ⟨⟨a0, a1, a2, a3, a4, a5, a6, a7⟩, _⟩ := node_cells K0
  clear K0
  obtain ⟨xk, xs, xm, xx, xA, xn, xc, xl⟩ := x
  simp only [NodeX.kind, NodeX.set, NodeX.mn, NodeX.mx, NodeX.A, NodeX.n, NodeX.c, NodeX.kids] at a0 a1 a2 a3 a4 a5 a6 a7 ⊢
  by_cases h6 : xk = 6
  · subst h6
    by_cases hm : xm < 0
    · rw [show boundsR 6 xm xx = false by rw [boundsR, if_neg (by decide), if_pos (.inl hm)]]
      unfold nodeC nodeV
      simp only [NodeX.kind, NodeX.set, NodeX.mn, NodeX.mx, NodeX.A, NodeX.n, NodeX.c, NodeX.kids]
      go_enter Tryz.func28, Tryz.ntmps28
      go_wp2
      go_ret
      exact ⟨rfl, HB0.out⟩
    by_cases hm2 : 20 < xm
    · rw [show boundsR 6 xm xx = false by rw [boundsR, if_neg (by decide), if_pos (.inr hm2)]]
      unfold nodeC nodeV
      simp only [NodeX.kind, NodeX.set, NodeX.mn, NodeX.mx, NodeX.A, NodeX.n, NodeX.c, NodeX.kids]
      go_enter Tryz.func28, Tryz.ntmps28
      go_wp2
      go_ret
      exact ⟨rfl, HB0.out⟩
    by_cases hx : xx = -1
    · rw [show boundsR 6 xm xx = true by rw [boundsR, if_neg (by decide), if_neg (by omega), hx]; rfl]
      have hx2 : (xx == -1) = true := by rw [hx]; rfl
      clear hx
      unfold nodeC nodeV
      simp only [NodeX.kind, NodeX.set, NodeX.mn, NodeX.mx, NodeX.A, NodeX.n, NodeX.c, NodeX.kids]
      go_enter Tryz.func28, Tryz.ntmps28
      go_wp2
      go_ret
      exact ⟨rfl, HB0.out⟩
    have hx2 : (xx == -1) = false := by rw [beq_eq_false_iff_ne]; exact hx
    by_cases hg : xm ≤ xx
    · rw [show boundsR 6 xm xx = decide (xx ≤ 20) by rw [boundsR, if_neg (by decide), if_neg (by omega), hx2, decide_eq_true hg, Bool.true_and, Bool.false_or]]
      unfold nodeC nodeV
      simp only [NodeX.kind, NodeX.set, NodeX.mn, NodeX.mx, NodeX.A, NodeX.n, NodeX.c, NodeX.kids]
      go_enter Tryz.func28, Tryz.ntmps28
      go_wp2
      go_ret
      exact ⟨rfl, HB0.out⟩
    · rw [show boundsR 6 xm xx = false by rw [boundsR, if_neg (by decide), if_neg (by omega), hx2, decide_eq_false hg]; rfl]
      unfold nodeC nodeV
      simp only [NodeX.kind, NodeX.set, NodeX.mn, NodeX.mx, NodeX.A, NodeX.n, NodeX.c, NodeX.kids]
      go_enter Tryz.func28, Tryz.ntmps28
      go_wp2
      go_ret
      exact ⟨rfl, HB0.out⟩
  · have h6' : (xk == 6) = false := by rw [beq_eq_false_iff_ne]; exact h6
    have h6n : (xk != 6) = true := by rw [bne, h6']; rfl
    by_cases hm : xm = 0
    · have hm2 : (xm == 0) = true := by rw [hm]; rfl
      rw [show boundsR xk xm xx = (xx == 0) by rw [boundsR, if_pos h6, hm2, Bool.true_and]]
      clear hm
      unfold nodeC nodeV
      simp only [NodeX.kind, NodeX.set, NodeX.mn, NodeX.mx, NodeX.A, NodeX.n, NodeX.c, NodeX.kids]
      go_enter Tryz.func28, Tryz.ntmps28
      go_wp2
      go_ret
      exact ⟨rfl, HB0.out⟩
    · have hm2 : (xm == 0) = false := by rw [beq_eq_false_iff_ne]; exact hm
      rw [show boundsR xk xm xx = false by rw [boundsR, if_pos h6, hm2, Bool.false_and]]
      unfold nodeC nodeV
      simp only [NodeX.kind, NodeX.set, NodeX.mn, NodeX.mx, NodeX.A, NodeX.n, NodeX.c, NodeX.kids]
      go_enter Tryz.func28, Tryz.ntmps28
      go_wp2
      go_ret
      exact ⟨rfl, HB0.out⟩
end Go.Proofs.YtojjeignijpiaaaGreatDoor
