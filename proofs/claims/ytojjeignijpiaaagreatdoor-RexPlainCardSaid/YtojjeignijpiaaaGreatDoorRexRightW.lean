/- Whether an expression is right: the walk of Right. -/
import Derived.Test.YtojjeignijpiaaaGreatDoorRexRight
namespace Go.Proofs.YtojjeignijpiaaaGreatDoor
open Go.RowKit
set_option linter.unusedVariables false
set_option linter.unusedSimpArgs false

mutual
def rightT : NodeT → Bool
  | .mk k s mn mx l => (decide (s = 0) != decide (k = 1)) && (boundsR k mn mx && (kidsR k l.length && rightsT l))
def rightsT : List NodeT → Bool
  | [] => true
  | a :: l => rightT a && rightsT l
end
theorem rightX (k : Int) (s : Nat) (m1 m2 : Int) (A : Option Addr) (n c : Nat) (l : List NodeX) : rightT (NodeX.mk k s m1 m2 A n c l).t = ((decide (s = 0) != decide (k = 1)) && (boundsR k m1 m2 && (kidsR k (l.map NodeX.t).length && rightsT (l.map NodeX.t)))) := by
  rw [NodeX.t, rightT, NodeX.ts_map]
theorem rightsT_nil : rightsT [] = true := by rw [rightsT]
theorem rightsT_cons (a : NodeT) (l : List NodeT) : rightsT (a :: l) = (rightT a && rightsT l) := by rw [rightsT]
def RightC (x : NodeX) : Prop := ∀ (P : Nat → Prop) (W : World), GoodN W P x → Calls Tryz.prog 20 #[.agg (nodeC x)] W fun e w' => e = .returned (.bool (rightT x.t)) ∧ Below W.heap.size W w'
set_option maxRecDepth 100000 in
set_option maxHeartbeats 6400000 in
theorem right_step (x : NodeX) (HS : ∀ y, y ∈ x.kids → RightC y) : RightC x := by
  intro P W hx
  have HB0 := Lib.hid ((Below.refl W.heap.size W).alloc (Nat.le_refl _) (.cells (nodeC x) 36))
  have hrx := hx.row
  have hkx := fun z hz => hx.kid (y := z) hz
  have hsx := hx.set_lt
  have hmx := hx.lenM
  unfold maxLen at hmx
  have BO := Lib.hid (fun w => rightBounds_any x w)
  have KI := Lib.hid (fun w => rightKids_any x w)
  clear hx
  obtain ⟨xk, xs, xm, xx, xA, xn, xc, xl⟩ := x
  rw [rightX]
  simp only [NodeX.kind, NodeX.set, NodeX.mn, NodeX.mx, NodeX.A, NodeX.n, NodeX.c, NodeX.kids] at hrx hkx hsx hmx HS BO KI
  have hCQ := neq_zero24 hsx
  have hlx := hrx.1
  rw [List.length_map, hlx]
  have HRX := Lib.hid hrx
  have HKX := Lib.hid hkx
  have HSS := Lib.hid HS
  clear hrx hkx HS hsx
  obtain ⟨b, hb⟩ : ∃ b, boundsR xk xm xx = b := ⟨_, rfl⟩
  obtain ⟨c, hc⟩ : ∃ c, kidsR xk xn = c := ⟨_, rfl⟩
  rw [hb] at BO ⊢
  rw [hc] at KI ⊢
  clear hb hc
  obtain ⟨F, hF⟩ : ∃ F, rightsT (xl.map NodeX.t) = F := ⟨_, rfl⟩
  rw [hF]
  have HF := Lib.hid hF
  clear hF
  by_cases hs : xs = 0
  · have hs' : decide (xs = 0) = true := decide_eq_true hs
    rw [hs']
    simp only [hs'] at hCQ
    clear hs
    by_cases hk : xk = 1
    · subst hk
      rw [decide_eq_true rfl]
      rw [show (true != true) = false from rfl, Bool.false_and]
      have K0 : Blk (W.alloc (.cells (nodeC (NodeX.mk 1 xs xm xx xA xn xc xl)) 36)).drew W.heap.size 36 (nodeC (NodeX.mk 1 xs xm xx xA xn xc xl)) := (Blk.new W 36 (nodeC (NodeX.mk 1 xs xm xx xA xn xc xl))).drew
      have S0 : (Blk (W.alloc (.cells (nodeC (NodeX.mk 1 xs xm xx xA xn xc xl)) 36)).drew W.heap.size 36 (nodeC (NodeX.mk 1 xs xm xx xA xn xc xl)) ∧ ((W.alloc (.cells (nodeC (NodeX.mk 1 xs xm xx xA xn xc xl)) 36)).drew.cell? ⟨W.heap.size, 0, none⟩ = some (.int .i64 1) ∧ (W.alloc (.cells (nodeC (NodeX.mk 1 xs xm xx xA xn xc xl)) 36)).drew.cell? ⟨W.heap.size, 1, none⟩ = some (.int .u64 (word xs 0 : Nat)) ∧ (W.alloc (.cells (nodeC (NodeX.mk 1 xs xm xx xA xn xc xl)) 36)).drew.cell? ⟨W.heap.size, 2, none⟩ = some (.int .u64 (word xs 1 : Nat)) ∧ (W.alloc (.cells (nodeC (NodeX.mk 1 xs xm xx xA xn xc xl)) 36)).drew.cell? ⟨W.heap.size, 3, none⟩ = some (.int .u64 (word xs 2 : Nat)) ∧ (W.alloc (.cells (nodeC (NodeX.mk 1 xs xm xx xA xn xc xl)) 36)).drew.cell? ⟨W.heap.size, 4, none⟩ = some (.int .u64 (word xs 3 : Nat)) ∧ (W.alloc (.cells (nodeC (NodeX.mk 1 xs xm xx xA xn xc xl)) 36)).drew.cell? ⟨W.heap.size, 5, none⟩ = some (.int .i64 xm) ∧ (W.alloc (.cells (nodeC (NodeX.mk 1 xs xm xx xA xn xc xl)) 36)).drew.cell? ⟨W.heap.size, 6, none⟩ = some (.int .i64 xx) ∧ (W.alloc (.cells (nodeC (NodeX.mk 1 xs xm xx xA xn xc xl)) 36)).drew.cell? ⟨W.heap.size, 7, none⟩ = some (.slice xA xn xc)) ∧ Below W.heap.size W (W.alloc (.cells (nodeC (NodeX.mk 1 xs xm xx xA xn xc xl)) 36)).drew) := ⟨K0, (node_cells K0).1, below_drewN HB0.out 1⟩
      have HS := Lib.hid (show ∀ w w', (Blk w W.heap.size 36 (nodeC (NodeX.mk 1 xs xm xx xA xn xc xl)) ∧ (w.cell? ⟨W.heap.size, 0, none⟩ = some (.int .i64 1) ∧ w.cell? ⟨W.heap.size, 1, none⟩ = some (.int .u64 (word xs 0 : Nat)) ∧ w.cell? ⟨W.heap.size, 2, none⟩ = some (.int .u64 (word xs 1 : Nat)) ∧ w.cell? ⟨W.heap.size, 3, none⟩ = some (.int .u64 (word xs 2 : Nat)) ∧ w.cell? ⟨W.heap.size, 4, none⟩ = some (.int .u64 (word xs 3 : Nat)) ∧ w.cell? ⟨W.heap.size, 5, none⟩ = some (.int .i64 xm) ∧ w.cell? ⟨W.heap.size, 6, none⟩ = some (.int .i64 xx) ∧ w.cell? ⟨W.heap.size, 7, none⟩ = some (.slice xA xn xc)) ∧ Below W.heap.size W w) → Below w.heap.size w w' → (Blk w' W.heap.size 36 (nodeC (NodeX.mk 1 xs xm xx xA xn xc xl)) ∧ (w'.cell? ⟨W.heap.size, 0, none⟩ = some (.int .i64 1) ∧ w'.cell? ⟨W.heap.size, 1, none⟩ = some (.int .u64 (word xs 0 : Nat)) ∧ w'.cell? ⟨W.heap.size, 2, none⟩ = some (.int .u64 (word xs 1 : Nat)) ∧ w'.cell? ⟨W.heap.size, 3, none⟩ = some (.int .u64 (word xs 2 : Nat)) ∧ w'.cell? ⟨W.heap.size, 4, none⟩ = some (.int .u64 (word xs 3 : Nat)) ∧ w'.cell? ⟨W.heap.size, 5, none⟩ = some (.int .i64 xm) ∧ w'.cell? ⟨W.heap.size, 6, none⟩ = some (.int .i64 xx) ∧ w'.cell? ⟨W.heap.size, 7, none⟩ = some (.slice xA xn xc)) ∧ Below W.heap.size W w') from fun w w' h hb => ⟨h.1.below hb h.1.lt, (node_cells (h.1.below hb h.1.lt)).1, hop h.2.2 (Nat.le_refl _) hb⟩)
      clear K0
      unfold nodeC nodeV
      simp only [NodeX.kind, NodeX.set, NodeX.mn, NodeX.mx, NodeX.A, NodeX.n, NodeX.c, NodeX.kids]
      go_enter Tryz.func20, Tryz.ntmps20
      go_wp2
      refine wp_region_held_drew (S := fun w' => (Blk w' W.heap.size 36 (nodeC (NodeX.mk 1 xs xm xx xA xn xc xl)) ∧ (w'.cell? ⟨W.heap.size, 0, none⟩ = some (.int .i64 1) ∧ w'.cell? ⟨W.heap.size, 1, none⟩ = some (.int .u64 (word xs 0 : Nat)) ∧ w'.cell? ⟨W.heap.size, 2, none⟩ = some (.int .u64 (word xs 1 : Nat)) ∧ w'.cell? ⟨W.heap.size, 3, none⟩ = some (.int .u64 (word xs 2 : Nat)) ∧ w'.cell? ⟨W.heap.size, 4, none⟩ = some (.int .u64 (word xs 3 : Nat)) ∧ w'.cell? ⟨W.heap.size, 5, none⟩ = some (.int .i64 xm) ∧ w'.cell? ⟨W.heap.size, 6, none⟩ = some (.int .i64 xx) ∧ w'.cell? ⟨W.heap.size, 7, none⟩ = some (.slice xA xn xc)) ∧ Below W.heap.size W w')) (by kernel_rfl) S0 (fun hHeld => ?_)
      refine wpAnyH_take (i := 0) (oi := { dst := some 5, op := Go.Op.fieldAddr 36 (Go.Operand.tmp 1) 1, type := 0, pos := "rex.go:74", after := #[], guard := none }) (v := ?_) rfl (by kernel_rfl) (by kernel_rfl) (by kernel_rfl) (fun _ _ _ h => h) (Or.inl ⟨by kernel_rfl, ?_⟩) (by assumption) ?_
      rotate_left
      · intro w _
        first | (go_simp; done) | (go_simp; with_reducible rfl)
      try simp only [Act.put, List.setIfInBounds_toArray, List.set_cons_zero, List.set_cons_succ]
      refine wpAnyH_take (i := 1) (oi := { dst := some 6, op := Go.Op.load 24 (Go.Operand.tmp 5), type := 24, pos := "rex.go:74", after := #[{ on := 0, ground := Go.Ground.data }], guard := none }) (v := ?_) rfl (by kernel_rfl) (by kernel_rfl) (by kernel_rfl) (fun _ _ _ h => h) (Or.inl ⟨by kernel_rfl, ?_⟩) (by assumption) ?_
      rotate_left
      · intro w hSw
        (try dsimp only at hSw)
        go_split_ands
        first | (go_simp; done) | (go_simp; with_reducible rfl)
      try simp only [Act.put, List.setIfInBounds_toArray, List.set_cons_zero, List.set_cons_succ]
      refine wpAnyH_take (i := 2) (oi := { dst := some 7, op := Go.Op.build 24 #[], type := 24, pos := "rex.go:74", after := #[], guard := none }) (v := ?_) rfl (by kernel_rfl) (by kernel_rfl) (by kernel_rfl) (fun _ _ _ h => h) (Or.inl ⟨by kernel_rfl, ?_⟩) (by assumption) ?_
      rotate_left
      · intro w _
        first | (go_simp; done) | (go_simp; with_reducible rfl)
      try simp only [Act.put, List.setIfInBounds_toArray, List.set_cons_zero, List.set_cons_succ]
      refine wpAnyH_take (i := 3) (oi := { dst := some 8, op := Go.Op.binOp Go.BinOp.neq 24 (Go.Operand.tmp 6) (Go.Operand.tmp 7) 24, type := 4, pos := "rex.go:74", after := #[{ on := 1, ground := Go.Ground.data }, { on := 2, ground := Go.Ground.data }], guard := none }) (v := ?_) rfl (by kernel_rfl) (by kernel_rfl) (by kernel_rfl) (fun _ _ _ h => h) (Or.inl ⟨by kernel_rfl, ?_⟩) (by assumption) ?_
      rotate_left
      · intro w _
        first | (go_simp; done) | (go_simp; with_reducible rfl)
      try simp only [Act.put, List.setIfInBounds_toArray, List.set_cons_zero, List.set_cons_succ]
      refine wpAnyH_take (i := 4) (oi := { dst := some 9, op := Go.Op.fieldAddr 36 (Go.Operand.tmp 1) 0, type := 0, pos := "rex.go:74", after := #[], guard := none }) (v := ?_) rfl (by kernel_rfl) (by kernel_rfl) (by kernel_rfl) (fun _ _ _ h => h) (Or.inl ⟨by kernel_rfl, ?_⟩) (by assumption) ?_
      rotate_left
      · intro w _
        first | (go_simp; done) | (go_simp; with_reducible rfl)
      try simp only [Act.put, List.setIfInBounds_toArray, List.set_cons_zero, List.set_cons_succ]
      refine wpAnyH_take (i := 5) (oi := { dst := some 10, op := Go.Op.load 3 (Go.Operand.tmp 9), type := 3, pos := "rex.go:74", after := #[{ on := 4, ground := Go.Ground.data }], guard := none }) (v := ?_) rfl (by kernel_rfl) (by kernel_rfl) (by kernel_rfl) (fun _ _ _ h => h) (Or.inl ⟨by kernel_rfl, ?_⟩) (by assumption) ?_
      rotate_left
      · intro w hSw
        (try dsimp only at hSw)
        go_split_ands
        first | (go_simp; done) | (go_simp; with_reducible rfl)
      try simp only [Act.put, List.setIfInBounds_toArray, List.set_cons_zero, List.set_cons_succ]
      refine wpAnyH_take (i := 6) (oi := { dst := some 11, op := Go.Op.binOp Go.BinOp.eql 3 (Go.Operand.tmp 10) (Go.Operand.const (Go.Value.int Go.IntKind.i64 1)) 3, type := 4, pos := "rex.go:74", after := #[{ on := 5, ground := Go.Ground.data }], guard := none }) (v := ?_) rfl (by kernel_rfl) (by kernel_rfl) (by kernel_rfl) (fun _ _ _ h => h) (Or.inl ⟨by kernel_rfl, ?_⟩) (by assumption) ?_
      rotate_left
      · intro w _
        first | (go_simp; done) | (go_simp; with_reducible rfl)
      try simp only [Act.put, List.setIfInBounds_toArray, List.set_cons_zero, List.set_cons_succ]
      refine wpAnyH_take (i := 7) (oi := { dst := some 12, op := Go.Op.binOp Go.BinOp.neq 4 (Go.Operand.tmp 8) (Go.Operand.tmp 11) 4, type := 4, pos := "rex.go:74", after := #[{ on := 3, ground := Go.Ground.data }, { on := 6, ground := Go.Ground.data }], guard := none }) (v := ?_) rfl (by kernel_rfl) (by kernel_rfl) (by kernel_rfl) (fun _ _ _ h => h) (Or.inl ⟨by kernel_rfl, ?_⟩) (by assumption) ?_
      rotate_left
      · intro w _
        first | (go_simp; done) | (go_simp; with_reducible rfl)
      try simp only [Act.put, List.setIfInBounds_toArray, List.set_cons_zero, List.set_cons_succ]
      refine wpAnyH_take (i := 8) (oi := { dst := some 13, op := Go.Op.move (Go.Operand.tmp 12), type := 4, pos := "rex.go:74", after := #[{ on := 7, ground := Go.Ground.data }], guard := none }) (v := ?_) rfl (by kernel_rfl) (by kernel_rfl) (by kernel_rfl) (fun _ _ _ h => h) (Or.inl ⟨by kernel_rfl, ?_⟩) (by assumption) ?_
      rotate_left
      · intro w _
        first | (go_simp; done) | (go_simp; with_reducible rfl)
      try simp only [Act.put, List.setIfInBounds_toArray, List.set_cons_zero, List.set_cons_succ]
      refine wpAnyH_take (i := 9) (oi := { dst := some 14, op := Go.Op.load 36 (Go.Operand.tmp 1), type := 36, pos := "rex.go:74", after := #[{ on := 8, ground := Go.Ground.guard }], guard := some (8, false) }) (v := undef) rfl (by kernel_rfl) (by kernel_rfl) (by kernel_rfl) (fun _ _ _ h => h) (Or.inr ⟨by kernel_rfl, rfl⟩) (by assumption) ?_
      try simp only [Act.put, List.setIfInBounds_toArray, List.set_cons_zero, List.set_cons_succ]
      refine wpAnyH_take (i := 10) (oi := { dst := some 15, op := Go.Op.call { callee := Go.Callee.value (Go.Operand.func 28), args := #[Go.Operand.tmp 14], argTypes := #[36] }, type := 4, pos := "rex.go:74", after := #[{ on := 9, ground := Go.Ground.data }, { on := 8, ground := Go.Ground.chain }, { on := 8, ground := Go.Ground.guard }], guard := some (8, false) }) (v := undef) rfl (by kernel_rfl) (by kernel_rfl) (by kernel_rfl) (fun _ _ _ h => h) (Or.inr ⟨by kernel_rfl, rfl⟩) (by assumption) ?_
      try simp only [Act.put, List.setIfInBounds_toArray, List.set_cons_zero, List.set_cons_succ]
      refine wpAnyH_take (i := 11) (oi := { dst := some 16, op := Go.Op.unOp Go.UnOp.not 4 (Go.Operand.tmp 15), type := 4, pos := "rex.go:74", after := #[{ on := 10, ground := Go.Ground.data }, { on := 8, ground := Go.Ground.guard }], guard := some (8, false) }) (v := undef) rfl (by kernel_rfl) (by kernel_rfl) (by kernel_rfl) (fun _ _ _ h => h) (Or.inr ⟨by kernel_rfl, rfl⟩) (by assumption) ?_
      try simp only [Act.put, List.setIfInBounds_toArray, List.set_cons_zero, List.set_cons_succ]
      refine wpAnyH_take (i := 12) (oi := { dst := some 17, op := Go.Op.pick (Go.Operand.tmp 13) (Go.Operand.const (Go.Value.bool true)) (Go.Operand.tmp 16), type := 4, pos := "rex.go:74", after := #[{ on := 8, ground := Go.Ground.data }, { on := 11, ground := Go.Ground.data }], guard := none }) (v := ?_) rfl (by kernel_rfl) (by kernel_rfl) (by kernel_rfl) (fun _ _ _ h => h) (Or.inl ⟨by kernel_rfl, ?_⟩) (by assumption) ?_
      rotate_left
      · intro w _
        first | (go_simp; done) | (go_simp; with_reducible rfl)
      try simp only [Act.put, List.setIfInBounds_toArray, List.set_cons_zero, List.set_cons_succ]
      refine wpAnyH_take (i := 13) (oi := { dst := some 18, op := Go.Op.move (Go.Operand.tmp 17), type := 4, pos := "rex.go:74", after := #[{ on := 12, ground := Go.Ground.data }, { on := 10, ground := Go.Ground.chain }], guard := none }) (v := ?_) rfl (by kernel_rfl) (by kernel_rfl) (by kernel_rfl) (fun _ _ _ h => h) (Or.inl ⟨by kernel_rfl, ?_⟩) (by assumption) ?_
      rotate_left
      · intro w _
        first | (go_simp; done) | (go_simp; with_reducible rfl)
      try simp only [Act.put, List.setIfInBounds_toArray, List.set_cons_zero, List.set_cons_succ]
      refine wpAnyH_take (i := 14) (oi := { dst := some 19, op := Go.Op.load 36 (Go.Operand.tmp 1), type := 36, pos := "rex.go:74", after := #[{ on := 13, ground := Go.Ground.guard }], guard := some (13, false) }) (v := undef) rfl (by kernel_rfl) (by kernel_rfl) (by kernel_rfl) (fun _ _ _ h => h) (Or.inr ⟨by kernel_rfl, rfl⟩) (by assumption) ?_
      try simp only [Act.put, List.setIfInBounds_toArray, List.set_cons_zero, List.set_cons_succ]
      refine wpAnyH_take (i := 15) (oi := { dst := some 20, op := Go.Op.call { callee := Go.Callee.value (Go.Operand.func 29), args := #[Go.Operand.tmp 19], argTypes := #[36] }, type := 4, pos := "rex.go:74", after := #[{ on := 14, ground := Go.Ground.data }, { on := 13, ground := Go.Ground.chain }, { on := 13, ground := Go.Ground.guard }], guard := some (13, false) }) (v := undef) rfl (by kernel_rfl) (by kernel_rfl) (by kernel_rfl) (fun _ _ _ h => h) (Or.inr ⟨by kernel_rfl, rfl⟩) (by assumption) ?_
      try simp only [Act.put, List.setIfInBounds_toArray, List.set_cons_zero, List.set_cons_succ]
      refine wpAnyH_take (i := 16) (oi := { dst := some 21, op := Go.Op.unOp Go.UnOp.not 4 (Go.Operand.tmp 20), type := 4, pos := "rex.go:74", after := #[{ on := 15, ground := Go.Ground.data }, { on := 13, ground := Go.Ground.guard }], guard := some (13, false) }) (v := undef) rfl (by kernel_rfl) (by kernel_rfl) (by kernel_rfl) (fun _ _ _ h => h) (Or.inr ⟨by kernel_rfl, rfl⟩) (by assumption) ?_
      try simp only [Act.put, List.setIfInBounds_toArray, List.set_cons_zero, List.set_cons_succ]
      refine wpAnyH_take (i := 17) (oi := { dst := some 22, op := Go.Op.pick (Go.Operand.tmp 18) (Go.Operand.const (Go.Value.bool true)) (Go.Operand.tmp 21), type := 4, pos := "rex.go:74", after := #[{ on := 13, ground := Go.Ground.data }, { on := 16, ground := Go.Ground.data }], guard := none }) (v := ?_) rfl (by kernel_rfl) (by kernel_rfl) (by kernel_rfl) (fun _ _ _ h => h) (Or.inl ⟨by kernel_rfl, ?_⟩) (by assumption) ?_
      rotate_left
      · intro w _
        first | (go_simp; done) | (go_simp; with_reducible rfl)
      try simp only [Act.put, List.setIfInBounds_toArray, List.set_cons_zero, List.set_cons_succ]
      refine wpAnyH_done (by kernel_rfl) ?_ _
      clear HS hHeld
      go_wp2
      go_ret
      first | exact ⟨rfl, Sc2.2.2⟩ | exact ⟨rfl, Sc1.2.2⟩ | exact ⟨rfl, S0.2.2⟩
    · have hk' : (xk == 1) = false := by rw [beq_eq_false_iff_ne]; exact hk
      rw [decide_eq_false hk]
      rw [show (true != false) = true from rfl, Bool.true_and]
      cases b with
      | false =>
        rw [Bool.false_and]
        have K0 : Blk (W.alloc (.cells (nodeC (NodeX.mk xk xs xm xx xA xn xc xl)) 36)).drew W.heap.size 36 (nodeC (NodeX.mk xk xs xm xx xA xn xc xl)) := (Blk.new W 36 (nodeC (NodeX.mk xk xs xm xx xA xn xc xl))).drew
        have S0 : (Blk (W.alloc (.cells (nodeC (NodeX.mk xk xs xm xx xA xn xc xl)) 36)).drew W.heap.size 36 (nodeC (NodeX.mk xk xs xm xx xA xn xc xl)) ∧ ((W.alloc (.cells (nodeC (NodeX.mk xk xs xm xx xA xn xc xl)) 36)).drew.cell? ⟨W.heap.size, 0, none⟩ = some (.int .i64 xk) ∧ (W.alloc (.cells (nodeC (NodeX.mk xk xs xm xx xA xn xc xl)) 36)).drew.cell? ⟨W.heap.size, 1, none⟩ = some (.int .u64 (word xs 0 : Nat)) ∧ (W.alloc (.cells (nodeC (NodeX.mk xk xs xm xx xA xn xc xl)) 36)).drew.cell? ⟨W.heap.size, 2, none⟩ = some (.int .u64 (word xs 1 : Nat)) ∧ (W.alloc (.cells (nodeC (NodeX.mk xk xs xm xx xA xn xc xl)) 36)).drew.cell? ⟨W.heap.size, 3, none⟩ = some (.int .u64 (word xs 2 : Nat)) ∧ (W.alloc (.cells (nodeC (NodeX.mk xk xs xm xx xA xn xc xl)) 36)).drew.cell? ⟨W.heap.size, 4, none⟩ = some (.int .u64 (word xs 3 : Nat)) ∧ (W.alloc (.cells (nodeC (NodeX.mk xk xs xm xx xA xn xc xl)) 36)).drew.cell? ⟨W.heap.size, 5, none⟩ = some (.int .i64 xm) ∧ (W.alloc (.cells (nodeC (NodeX.mk xk xs xm xx xA xn xc xl)) 36)).drew.cell? ⟨W.heap.size, 6, none⟩ = some (.int .i64 xx) ∧ (W.alloc (.cells (nodeC (NodeX.mk xk xs xm xx xA xn xc xl)) 36)).drew.cell? ⟨W.heap.size, 7, none⟩ = some (.slice xA xn xc)) ∧ Below W.heap.size W (W.alloc (.cells (nodeC (NodeX.mk xk xs xm xx xA xn xc xl)) 36)).drew) := ⟨K0, (node_cells K0).1, below_drewN HB0.out 1⟩
        have HS := Lib.hid (show ∀ w w', (Blk w W.heap.size 36 (nodeC (NodeX.mk xk xs xm xx xA xn xc xl)) ∧ (w.cell? ⟨W.heap.size, 0, none⟩ = some (.int .i64 xk) ∧ w.cell? ⟨W.heap.size, 1, none⟩ = some (.int .u64 (word xs 0 : Nat)) ∧ w.cell? ⟨W.heap.size, 2, none⟩ = some (.int .u64 (word xs 1 : Nat)) ∧ w.cell? ⟨W.heap.size, 3, none⟩ = some (.int .u64 (word xs 2 : Nat)) ∧ w.cell? ⟨W.heap.size, 4, none⟩ = some (.int .u64 (word xs 3 : Nat)) ∧ w.cell? ⟨W.heap.size, 5, none⟩ = some (.int .i64 xm) ∧ w.cell? ⟨W.heap.size, 6, none⟩ = some (.int .i64 xx) ∧ w.cell? ⟨W.heap.size, 7, none⟩ = some (.slice xA xn xc)) ∧ Below W.heap.size W w) → Below w.heap.size w w' → (Blk w' W.heap.size 36 (nodeC (NodeX.mk xk xs xm xx xA xn xc xl)) ∧ (w'.cell? ⟨W.heap.size, 0, none⟩ = some (.int .i64 xk) ∧ w'.cell? ⟨W.heap.size, 1, none⟩ = some (.int .u64 (word xs 0 : Nat)) ∧ w'.cell? ⟨W.heap.size, 2, none⟩ = some (.int .u64 (word xs 1 : Nat)) ∧ w'.cell? ⟨W.heap.size, 3, none⟩ = some (.int .u64 (word xs 2 : Nat)) ∧ w'.cell? ⟨W.heap.size, 4, none⟩ = some (.int .u64 (word xs 3 : Nat)) ∧ w'.cell? ⟨W.heap.size, 5, none⟩ = some (.int .i64 xm) ∧ w'.cell? ⟨W.heap.size, 6, none⟩ = some (.int .i64 xx) ∧ w'.cell? ⟨W.heap.size, 7, none⟩ = some (.slice xA xn xc)) ∧ Below W.heap.size W w') from fun w w' h hb => ⟨h.1.below hb h.1.lt, (node_cells (h.1.below hb h.1.lt)).1, hop h.2.2 (Nat.le_refl _) hb⟩)
        clear K0
        unfold nodeC nodeV
        simp only [NodeX.kind, NodeX.set, NodeX.mn, NodeX.mx, NodeX.A, NodeX.n, NodeX.c, NodeX.kids]
        go_enter Tryz.func20, Tryz.ntmps20
        go_wp2
        refine wp_region_held_drew (S := fun w' => (Blk w' W.heap.size 36 (nodeC (NodeX.mk xk xs xm xx xA xn xc xl)) ∧ (w'.cell? ⟨W.heap.size, 0, none⟩ = some (.int .i64 xk) ∧ w'.cell? ⟨W.heap.size, 1, none⟩ = some (.int .u64 (word xs 0 : Nat)) ∧ w'.cell? ⟨W.heap.size, 2, none⟩ = some (.int .u64 (word xs 1 : Nat)) ∧ w'.cell? ⟨W.heap.size, 3, none⟩ = some (.int .u64 (word xs 2 : Nat)) ∧ w'.cell? ⟨W.heap.size, 4, none⟩ = some (.int .u64 (word xs 3 : Nat)) ∧ w'.cell? ⟨W.heap.size, 5, none⟩ = some (.int .i64 xm) ∧ w'.cell? ⟨W.heap.size, 6, none⟩ = some (.int .i64 xx) ∧ w'.cell? ⟨W.heap.size, 7, none⟩ = some (.slice xA xn xc)) ∧ Below W.heap.size W w')) (by kernel_rfl) S0 (fun hHeld => ?_)
        refine wpAnyH_take (i := 0) (oi := { dst := some 5, op := Go.Op.fieldAddr 36 (Go.Operand.tmp 1) 1, type := 0, pos := "rex.go:74", after := #[], guard := none }) (v := ?_) rfl (by kernel_rfl) (by kernel_rfl) (by kernel_rfl) (fun _ _ _ h => h) (Or.inl ⟨by kernel_rfl, ?_⟩) (by assumption) ?_
        rotate_left
        · intro w _
          first | (go_simp; done) | (go_simp; with_reducible rfl)
        try simp only [Act.put, List.setIfInBounds_toArray, List.set_cons_zero, List.set_cons_succ]
        refine wpAnyH_take (i := 1) (oi := { dst := some 6, op := Go.Op.load 24 (Go.Operand.tmp 5), type := 24, pos := "rex.go:74", after := #[{ on := 0, ground := Go.Ground.data }], guard := none }) (v := ?_) rfl (by kernel_rfl) (by kernel_rfl) (by kernel_rfl) (fun _ _ _ h => h) (Or.inl ⟨by kernel_rfl, ?_⟩) (by assumption) ?_
        rotate_left
        · intro w hSw
          (try dsimp only at hSw)
          go_split_ands
          first | (go_simp; done) | (go_simp; with_reducible rfl)
        try simp only [Act.put, List.setIfInBounds_toArray, List.set_cons_zero, List.set_cons_succ]
        refine wpAnyH_take (i := 2) (oi := { dst := some 7, op := Go.Op.build 24 #[], type := 24, pos := "rex.go:74", after := #[], guard := none }) (v := ?_) rfl (by kernel_rfl) (by kernel_rfl) (by kernel_rfl) (fun _ _ _ h => h) (Or.inl ⟨by kernel_rfl, ?_⟩) (by assumption) ?_
        rotate_left
        · intro w _
          first | (go_simp; done) | (go_simp; with_reducible rfl)
        try simp only [Act.put, List.setIfInBounds_toArray, List.set_cons_zero, List.set_cons_succ]
        refine wpAnyH_take (i := 3) (oi := { dst := some 8, op := Go.Op.binOp Go.BinOp.neq 24 (Go.Operand.tmp 6) (Go.Operand.tmp 7) 24, type := 4, pos := "rex.go:74", after := #[{ on := 1, ground := Go.Ground.data }, { on := 2, ground := Go.Ground.data }], guard := none }) (v := ?_) rfl (by kernel_rfl) (by kernel_rfl) (by kernel_rfl) (fun _ _ _ h => h) (Or.inl ⟨by kernel_rfl, ?_⟩) (by assumption) ?_
        rotate_left
        · intro w _
          first | (go_simp; done) | (go_simp; with_reducible rfl)
        try simp only [Act.put, List.setIfInBounds_toArray, List.set_cons_zero, List.set_cons_succ]
        refine wpAnyH_take (i := 4) (oi := { dst := some 9, op := Go.Op.fieldAddr 36 (Go.Operand.tmp 1) 0, type := 0, pos := "rex.go:74", after := #[], guard := none }) (v := ?_) rfl (by kernel_rfl) (by kernel_rfl) (by kernel_rfl) (fun _ _ _ h => h) (Or.inl ⟨by kernel_rfl, ?_⟩) (by assumption) ?_
        rotate_left
        · intro w _
          first | (go_simp; done) | (go_simp; with_reducible rfl)
        try simp only [Act.put, List.setIfInBounds_toArray, List.set_cons_zero, List.set_cons_succ]
        refine wpAnyH_take (i := 5) (oi := { dst := some 10, op := Go.Op.load 3 (Go.Operand.tmp 9), type := 3, pos := "rex.go:74", after := #[{ on := 4, ground := Go.Ground.data }], guard := none }) (v := ?_) rfl (by kernel_rfl) (by kernel_rfl) (by kernel_rfl) (fun _ _ _ h => h) (Or.inl ⟨by kernel_rfl, ?_⟩) (by assumption) ?_
        rotate_left
        · intro w hSw
          (try dsimp only at hSw)
          go_split_ands
          first | (go_simp; done) | (go_simp; with_reducible rfl)
        try simp only [Act.put, List.setIfInBounds_toArray, List.set_cons_zero, List.set_cons_succ]
        refine wpAnyH_take (i := 6) (oi := { dst := some 11, op := Go.Op.binOp Go.BinOp.eql 3 (Go.Operand.tmp 10) (Go.Operand.const (Go.Value.int Go.IntKind.i64 1)) 3, type := 4, pos := "rex.go:74", after := #[{ on := 5, ground := Go.Ground.data }], guard := none }) (v := ?_) rfl (by kernel_rfl) (by kernel_rfl) (by kernel_rfl) (fun _ _ _ h => h) (Or.inl ⟨by kernel_rfl, ?_⟩) (by assumption) ?_
        rotate_left
        · intro w _
          first | (go_simp; done) | (go_simp; with_reducible rfl)
        try simp only [Act.put, List.setIfInBounds_toArray, List.set_cons_zero, List.set_cons_succ]
        refine wpAnyH_take (i := 7) (oi := { dst := some 12, op := Go.Op.binOp Go.BinOp.neq 4 (Go.Operand.tmp 8) (Go.Operand.tmp 11) 4, type := 4, pos := "rex.go:74", after := #[{ on := 3, ground := Go.Ground.data }, { on := 6, ground := Go.Ground.data }], guard := none }) (v := ?_) rfl (by kernel_rfl) (by kernel_rfl) (by kernel_rfl) (fun _ _ _ h => h) (Or.inl ⟨by kernel_rfl, ?_⟩) (by assumption) ?_
        rotate_left
        · intro w _
          first | (go_simp; done) | (go_simp; with_reducible rfl)
        try simp only [Act.put, List.setIfInBounds_toArray, List.set_cons_zero, List.set_cons_succ]
        refine wpAnyH_take (i := 8) (oi := { dst := some 13, op := Go.Op.move (Go.Operand.tmp 12), type := 4, pos := "rex.go:74", after := #[{ on := 7, ground := Go.Ground.data }], guard := none }) (v := ?_) rfl (by kernel_rfl) (by kernel_rfl) (by kernel_rfl) (fun _ _ _ h => h) (Or.inl ⟨by kernel_rfl, ?_⟩) (by assumption) ?_
        rotate_left
        · intro w _
          first | (go_simp; done) | (go_simp; with_reducible rfl)
        try simp only [Act.put, List.setIfInBounds_toArray, List.set_cons_zero, List.set_cons_succ]
        refine wpAnyH_take (i := 9) (oi := { dst := some 14, op := Go.Op.load 36 (Go.Operand.tmp 1), type := 36, pos := "rex.go:74", after := #[{ on := 8, ground := Go.Ground.guard }], guard := some (8, false) }) (v := ?_) rfl (by kernel_rfl) (by kernel_rfl) (by kernel_rfl) (fun _ _ _ h => h) (Or.inl ⟨by kernel_rfl, ?_⟩) (by assumption) ?_
        rotate_left
        · intro w hSw
          (try dsimp only at hSw)
          go_split_ands
          first | (go_simp; done) | (go_simp; with_reducible rfl)
        try simp only [Act.put, List.setIfInBounds_toArray, List.set_cons_zero, List.set_cons_succ]
        refine wpAnyH_ready (rs := [10]) (by kernel_rfl) (by simp) ?_
        refine AllReadyH.cons (o := { dst := some 15, op := Go.Op.call { callee := Go.Callee.value (Go.Operand.func 28), args := #[Go.Operand.tmp 14], argTypes := #[36] }, type := 4, pos := "rex.go:74", after := #[{ on := 9, ground := Go.Ground.data }, { on := 8, ground := Go.Ground.chain }, { on := 8, ground := Go.Ground.guard }], guard := some (8, false) }) rfl (fun K hK => ?_) AllReadyH.nil
        go_simp
        go_at_call 28
        refine (BO.out _).mono ?_
        rintro e wc1 ⟨rfl, hb3⟩
        have Sc1 := HS.out _ _ (by assumption) hb3
        refine hK.out _ _ Sc1 (fun _ => ?_)
        clear hK K hb3
        try simp only [Act.put, List.setIfInBounds_toArray, List.set_cons_zero, List.set_cons_succ]
        refine wpAnyH_take (i := 11) (oi := { dst := some 16, op := Go.Op.unOp Go.UnOp.not 4 (Go.Operand.tmp 15), type := 4, pos := "rex.go:74", after := #[{ on := 10, ground := Go.Ground.data }, { on := 8, ground := Go.Ground.guard }], guard := some (8, false) }) (v := ?_) rfl (by kernel_rfl) (by kernel_rfl) (by kernel_rfl) (fun _ _ _ h => h) (Or.inl ⟨by kernel_rfl, ?_⟩) (by assumption) ?_
        rotate_left
        · intro w _
          first | (go_simp; done) | (go_simp; with_reducible rfl)
        try simp only [Act.put, List.setIfInBounds_toArray, List.set_cons_zero, List.set_cons_succ]
        refine wpAnyH_take (i := 12) (oi := { dst := some 17, op := Go.Op.pick (Go.Operand.tmp 13) (Go.Operand.const (Go.Value.bool true)) (Go.Operand.tmp 16), type := 4, pos := "rex.go:74", after := #[{ on := 8, ground := Go.Ground.data }, { on := 11, ground := Go.Ground.data }], guard := none }) (v := ?_) rfl (by kernel_rfl) (by kernel_rfl) (by kernel_rfl) (fun _ _ _ h => h) (Or.inl ⟨by kernel_rfl, ?_⟩) (by assumption) ?_
        rotate_left
        · intro w _
          first | (go_simp; done) | (go_simp; with_reducible rfl)
        try simp only [Act.put, List.setIfInBounds_toArray, List.set_cons_zero, List.set_cons_succ]
        refine wpAnyH_take (i := 13) (oi := { dst := some 18, op := Go.Op.move (Go.Operand.tmp 17), type := 4, pos := "rex.go:74", after := #[{ on := 12, ground := Go.Ground.data }, { on := 10, ground := Go.Ground.chain }], guard := none }) (v := ?_) rfl (by kernel_rfl) (by kernel_rfl) (by kernel_rfl) (fun _ _ _ h => h) (Or.inl ⟨by kernel_rfl, ?_⟩) (by assumption) ?_
        rotate_left
        · intro w _
          first | (go_simp; done) | (go_simp; with_reducible rfl)
        try simp only [Act.put, List.setIfInBounds_toArray, List.set_cons_zero, List.set_cons_succ]
        refine wpAnyH_take (i := 14) (oi := { dst := some 19, op := Go.Op.load 36 (Go.Operand.tmp 1), type := 36, pos := "rex.go:74", after := #[{ on := 13, ground := Go.Ground.guard }], guard := some (13, false) }) (v := undef) rfl (by kernel_rfl) (by kernel_rfl) (by kernel_rfl) (fun _ _ _ h => h) (Or.inr ⟨by kernel_rfl, rfl⟩) (by assumption) ?_
        try simp only [Act.put, List.setIfInBounds_toArray, List.set_cons_zero, List.set_cons_succ]
        refine wpAnyH_take (i := 15) (oi := { dst := some 20, op := Go.Op.call { callee := Go.Callee.value (Go.Operand.func 29), args := #[Go.Operand.tmp 19], argTypes := #[36] }, type := 4, pos := "rex.go:74", after := #[{ on := 14, ground := Go.Ground.data }, { on := 13, ground := Go.Ground.chain }, { on := 13, ground := Go.Ground.guard }], guard := some (13, false) }) (v := undef) rfl (by kernel_rfl) (by kernel_rfl) (by kernel_rfl) (fun _ _ _ h => h) (Or.inr ⟨by kernel_rfl, rfl⟩) (by assumption) ?_
        try simp only [Act.put, List.setIfInBounds_toArray, List.set_cons_zero, List.set_cons_succ]
        refine wpAnyH_take (i := 16) (oi := { dst := some 21, op := Go.Op.unOp Go.UnOp.not 4 (Go.Operand.tmp 20), type := 4, pos := "rex.go:74", after := #[{ on := 15, ground := Go.Ground.data }, { on := 13, ground := Go.Ground.guard }], guard := some (13, false) }) (v := undef) rfl (by kernel_rfl) (by kernel_rfl) (by kernel_rfl) (fun _ _ _ h => h) (Or.inr ⟨by kernel_rfl, rfl⟩) (by assumption) ?_
        try simp only [Act.put, List.setIfInBounds_toArray, List.set_cons_zero, List.set_cons_succ]
        refine wpAnyH_take (i := 17) (oi := { dst := some 22, op := Go.Op.pick (Go.Operand.tmp 18) (Go.Operand.const (Go.Value.bool true)) (Go.Operand.tmp 21), type := 4, pos := "rex.go:74", after := #[{ on := 13, ground := Go.Ground.data }, { on := 16, ground := Go.Ground.data }], guard := none }) (v := ?_) rfl (by kernel_rfl) (by kernel_rfl) (by kernel_rfl) (fun _ _ _ h => h) (Or.inl ⟨by kernel_rfl, ?_⟩) (by assumption) ?_
        rotate_left
        · intro w _
          first | (go_simp; done) | (go_simp; with_reducible rfl)
        try simp only [Act.put, List.setIfInBounds_toArray, List.set_cons_zero, List.set_cons_succ]
        refine wpAnyH_done (by kernel_rfl) ?_ _
        clear HS hHeld
        go_wp2
        go_ret
        first | exact ⟨rfl, Sc2.2.2⟩ | exact ⟨rfl, Sc1.2.2⟩ | exact ⟨rfl, S0.2.2⟩
      | true =>
        rw [Bool.true_and]
        cases c with
        | false =>
          rw [Bool.false_and]
          have K0 : Blk (W.alloc (.cells (nodeC (NodeX.mk xk xs xm xx xA xn xc xl)) 36)).drew W.heap.size 36 (nodeC (NodeX.mk xk xs xm xx xA xn xc xl)) := (Blk.new W 36 (nodeC (NodeX.mk xk xs xm xx xA xn xc xl))).drew
          have S0 : (Blk (W.alloc (.cells (nodeC (NodeX.mk xk xs xm xx xA xn xc xl)) 36)).drew W.heap.size 36 (nodeC (NodeX.mk xk xs xm xx xA xn xc xl)) ∧ ((W.alloc (.cells (nodeC (NodeX.mk xk xs xm xx xA xn xc xl)) 36)).drew.cell? ⟨W.heap.size, 0, none⟩ = some (.int .i64 xk) ∧ (W.alloc (.cells (nodeC (NodeX.mk xk xs xm xx xA xn xc xl)) 36)).drew.cell? ⟨W.heap.size, 1, none⟩ = some (.int .u64 (word xs 0 : Nat)) ∧ (W.alloc (.cells (nodeC (NodeX.mk xk xs xm xx xA xn xc xl)) 36)).drew.cell? ⟨W.heap.size, 2, none⟩ = some (.int .u64 (word xs 1 : Nat)) ∧ (W.alloc (.cells (nodeC (NodeX.mk xk xs xm xx xA xn xc xl)) 36)).drew.cell? ⟨W.heap.size, 3, none⟩ = some (.int .u64 (word xs 2 : Nat)) ∧ (W.alloc (.cells (nodeC (NodeX.mk xk xs xm xx xA xn xc xl)) 36)).drew.cell? ⟨W.heap.size, 4, none⟩ = some (.int .u64 (word xs 3 : Nat)) ∧ (W.alloc (.cells (nodeC (NodeX.mk xk xs xm xx xA xn xc xl)) 36)).drew.cell? ⟨W.heap.size, 5, none⟩ = some (.int .i64 xm) ∧ (W.alloc (.cells (nodeC (NodeX.mk xk xs xm xx xA xn xc xl)) 36)).drew.cell? ⟨W.heap.size, 6, none⟩ = some (.int .i64 xx) ∧ (W.alloc (.cells (nodeC (NodeX.mk xk xs xm xx xA xn xc xl)) 36)).drew.cell? ⟨W.heap.size, 7, none⟩ = some (.slice xA xn xc)) ∧ Below W.heap.size W (W.alloc (.cells (nodeC (NodeX.mk xk xs xm xx xA xn xc xl)) 36)).drew) := ⟨K0, (node_cells K0).1, below_drewN HB0.out 1⟩
          have HS := Lib.hid (show ∀ w w', (Blk w W.heap.size 36 (nodeC (NodeX.mk xk xs xm xx xA xn xc xl)) ∧ (w.cell? ⟨W.heap.size, 0, none⟩ = some (.int .i64 xk) ∧ w.cell? ⟨W.heap.size, 1, none⟩ = some (.int .u64 (word xs 0 : Nat)) ∧ w.cell? ⟨W.heap.size, 2, none⟩ = some (.int .u64 (word xs 1 : Nat)) ∧ w.cell? ⟨W.heap.size, 3, none⟩ = some (.int .u64 (word xs 2 : Nat)) ∧ w.cell? ⟨W.heap.size, 4, none⟩ = some (.int .u64 (word xs 3 : Nat)) ∧ w.cell? ⟨W.heap.size, 5, none⟩ = some (.int .i64 xm) ∧ w.cell? ⟨W.heap.size, 6, none⟩ = some (.int .i64 xx) ∧ w.cell? ⟨W.heap.size, 7, none⟩ = some (.slice xA xn xc)) ∧ Below W.heap.size W w) → Below w.heap.size w w' → (Blk w' W.heap.size 36 (nodeC (NodeX.mk xk xs xm xx xA xn xc xl)) ∧ (w'.cell? ⟨W.heap.size, 0, none⟩ = some (.int .i64 xk) ∧ w'.cell? ⟨W.heap.size, 1, none⟩ = some (.int .u64 (word xs 0 : Nat)) ∧ w'.cell? ⟨W.heap.size, 2, none⟩ = some (.int .u64 (word xs 1 : Nat)) ∧ w'.cell? ⟨W.heap.size, 3, none⟩ = some (.int .u64 (word xs 2 : Nat)) ∧ w'.cell? ⟨W.heap.size, 4, none⟩ = some (.int .u64 (word xs 3 : Nat)) ∧ w'.cell? ⟨W.heap.size, 5, none⟩ = some (.int .i64 xm) ∧ w'.cell? ⟨W.heap.size, 6, none⟩ = some (.int .i64 xx) ∧ w'.cell? ⟨W.heap.size, 7, none⟩ = some (.slice xA xn xc)) ∧ Below W.heap.size W w') from fun w w' h hb => ⟨h.1.below hb h.1.lt, (node_cells (h.1.below hb h.1.lt)).1, hop h.2.2 (Nat.le_refl _) hb⟩)
          clear K0
          unfold nodeC nodeV
          simp only [NodeX.kind, NodeX.set, NodeX.mn, NodeX.mx, NodeX.A, NodeX.n, NodeX.c, NodeX.kids]
          go_enter Tryz.func20, Tryz.ntmps20
          go_wp2
          refine wp_region_held_drew (S := fun w' => (Blk w' W.heap.size 36 (nodeC (NodeX.mk xk xs xm xx xA xn xc xl)) ∧ (w'.cell? ⟨W.heap.size, 0, none⟩ = some (.int .i64 xk) ∧ w'.cell? ⟨W.heap.size, 1, none⟩ = some (.int .u64 (word xs 0 : Nat)) ∧ w'.cell? ⟨W.heap.size, 2, none⟩ = some (.int .u64 (word xs 1 : Nat)) ∧ w'.cell? ⟨W.heap.size, 3, none⟩ = some (.int .u64 (word xs 2 : Nat)) ∧ w'.cell? ⟨W.heap.size, 4, none⟩ = some (.int .u64 (word xs 3 : Nat)) ∧ w'.cell? ⟨W.heap.size, 5, none⟩ = some (.int .i64 xm) ∧ w'.cell? ⟨W.heap.size, 6, none⟩ = some (.int .i64 xx) ∧ w'.cell? ⟨W.heap.size, 7, none⟩ = some (.slice xA xn xc)) ∧ Below W.heap.size W w')) (by kernel_rfl) S0 (fun hHeld => ?_)
          refine wpAnyH_take (i := 0) (oi := { dst := some 5, op := Go.Op.fieldAddr 36 (Go.Operand.tmp 1) 1, type := 0, pos := "rex.go:74", after := #[], guard := none }) (v := ?_) rfl (by kernel_rfl) (by kernel_rfl) (by kernel_rfl) (fun _ _ _ h => h) (Or.inl ⟨by kernel_rfl, ?_⟩) (by assumption) ?_
          rotate_left
          · intro w _
            first | (go_simp; done) | (go_simp; with_reducible rfl)
          try simp only [Act.put, List.setIfInBounds_toArray, List.set_cons_zero, List.set_cons_succ]
          refine wpAnyH_take (i := 1) (oi := { dst := some 6, op := Go.Op.load 24 (Go.Operand.tmp 5), type := 24, pos := "rex.go:74", after := #[{ on := 0, ground := Go.Ground.data }], guard := none }) (v := ?_) rfl (by kernel_rfl) (by kernel_rfl) (by kernel_rfl) (fun _ _ _ h => h) (Or.inl ⟨by kernel_rfl, ?_⟩) (by assumption) ?_
          rotate_left
          · intro w hSw
            (try dsimp only at hSw)
            go_split_ands
            first | (go_simp; done) | (go_simp; with_reducible rfl)
          try simp only [Act.put, List.setIfInBounds_toArray, List.set_cons_zero, List.set_cons_succ]
          refine wpAnyH_take (i := 2) (oi := { dst := some 7, op := Go.Op.build 24 #[], type := 24, pos := "rex.go:74", after := #[], guard := none }) (v := ?_) rfl (by kernel_rfl) (by kernel_rfl) (by kernel_rfl) (fun _ _ _ h => h) (Or.inl ⟨by kernel_rfl, ?_⟩) (by assumption) ?_
          rotate_left
          · intro w _
            first | (go_simp; done) | (go_simp; with_reducible rfl)
          try simp only [Act.put, List.setIfInBounds_toArray, List.set_cons_zero, List.set_cons_succ]
          refine wpAnyH_take (i := 3) (oi := { dst := some 8, op := Go.Op.binOp Go.BinOp.neq 24 (Go.Operand.tmp 6) (Go.Operand.tmp 7) 24, type := 4, pos := "rex.go:74", after := #[{ on := 1, ground := Go.Ground.data }, { on := 2, ground := Go.Ground.data }], guard := none }) (v := ?_) rfl (by kernel_rfl) (by kernel_rfl) (by kernel_rfl) (fun _ _ _ h => h) (Or.inl ⟨by kernel_rfl, ?_⟩) (by assumption) ?_
          rotate_left
          · intro w _
            first | (go_simp; done) | (go_simp; with_reducible rfl)
          try simp only [Act.put, List.setIfInBounds_toArray, List.set_cons_zero, List.set_cons_succ]
          refine wpAnyH_take (i := 4) (oi := { dst := some 9, op := Go.Op.fieldAddr 36 (Go.Operand.tmp 1) 0, type := 0, pos := "rex.go:74", after := #[], guard := none }) (v := ?_) rfl (by kernel_rfl) (by kernel_rfl) (by kernel_rfl) (fun _ _ _ h => h) (Or.inl ⟨by kernel_rfl, ?_⟩) (by assumption) ?_
          rotate_left
          · intro w _
            first | (go_simp; done) | (go_simp; with_reducible rfl)
          try simp only [Act.put, List.setIfInBounds_toArray, List.set_cons_zero, List.set_cons_succ]
          refine wpAnyH_take (i := 5) (oi := { dst := some 10, op := Go.Op.load 3 (Go.Operand.tmp 9), type := 3, pos := "rex.go:74", after := #[{ on := 4, ground := Go.Ground.data }], guard := none }) (v := ?_) rfl (by kernel_rfl) (by kernel_rfl) (by kernel_rfl) (fun _ _ _ h => h) (Or.inl ⟨by kernel_rfl, ?_⟩) (by assumption) ?_
          rotate_left
          · intro w hSw
            (try dsimp only at hSw)
            go_split_ands
            first | (go_simp; done) | (go_simp; with_reducible rfl)
          try simp only [Act.put, List.setIfInBounds_toArray, List.set_cons_zero, List.set_cons_succ]
          refine wpAnyH_take (i := 6) (oi := { dst := some 11, op := Go.Op.binOp Go.BinOp.eql 3 (Go.Operand.tmp 10) (Go.Operand.const (Go.Value.int Go.IntKind.i64 1)) 3, type := 4, pos := "rex.go:74", after := #[{ on := 5, ground := Go.Ground.data }], guard := none }) (v := ?_) rfl (by kernel_rfl) (by kernel_rfl) (by kernel_rfl) (fun _ _ _ h => h) (Or.inl ⟨by kernel_rfl, ?_⟩) (by assumption) ?_
          rotate_left
          · intro w _
            first | (go_simp; done) | (go_simp; with_reducible rfl)
          try simp only [Act.put, List.setIfInBounds_toArray, List.set_cons_zero, List.set_cons_succ]
          refine wpAnyH_take (i := 7) (oi := { dst := some 12, op := Go.Op.binOp Go.BinOp.neq 4 (Go.Operand.tmp 8) (Go.Operand.tmp 11) 4, type := 4, pos := "rex.go:74", after := #[{ on := 3, ground := Go.Ground.data }, { on := 6, ground := Go.Ground.data }], guard := none }) (v := ?_) rfl (by kernel_rfl) (by kernel_rfl) (by kernel_rfl) (fun _ _ _ h => h) (Or.inl ⟨by kernel_rfl, ?_⟩) (by assumption) ?_
          rotate_left
          · intro w _
            first | (go_simp; done) | (go_simp; with_reducible rfl)
          try simp only [Act.put, List.setIfInBounds_toArray, List.set_cons_zero, List.set_cons_succ]
          refine wpAnyH_take (i := 8) (oi := { dst := some 13, op := Go.Op.move (Go.Operand.tmp 12), type := 4, pos := "rex.go:74", after := #[{ on := 7, ground := Go.Ground.data }], guard := none }) (v := ?_) rfl (by kernel_rfl) (by kernel_rfl) (by kernel_rfl) (fun _ _ _ h => h) (Or.inl ⟨by kernel_rfl, ?_⟩) (by assumption) ?_
          rotate_left
          · intro w _
            first | (go_simp; done) | (go_simp; with_reducible rfl)
          try simp only [Act.put, List.setIfInBounds_toArray, List.set_cons_zero, List.set_cons_succ]
          refine wpAnyH_take (i := 9) (oi := { dst := some 14, op := Go.Op.load 36 (Go.Operand.tmp 1), type := 36, pos := "rex.go:74", after := #[{ on := 8, ground := Go.Ground.guard }], guard := some (8, false) }) (v := ?_) rfl (by kernel_rfl) (by kernel_rfl) (by kernel_rfl) (fun _ _ _ h => h) (Or.inl ⟨by kernel_rfl, ?_⟩) (by assumption) ?_
          rotate_left
          · intro w hSw
            (try dsimp only at hSw)
            go_split_ands
            first | (go_simp; done) | (go_simp; with_reducible rfl)
          try simp only [Act.put, List.setIfInBounds_toArray, List.set_cons_zero, List.set_cons_succ]
          refine wpAnyH_ready (rs := [10]) (by kernel_rfl) (by simp) ?_
          refine AllReadyH.cons (o := { dst := some 15, op := Go.Op.call { callee := Go.Callee.value (Go.Operand.func 28), args := #[Go.Operand.tmp 14], argTypes := #[36] }, type := 4, pos := "rex.go:74", after := #[{ on := 9, ground := Go.Ground.data }, { on := 8, ground := Go.Ground.chain }, { on := 8, ground := Go.Ground.guard }], guard := some (8, false) }) rfl (fun K hK => ?_) AllReadyH.nil
          go_simp
          go_at_call 28
          refine (BO.out _).mono ?_
          rintro e wc1 ⟨rfl, hb3⟩
          have Sc1 := HS.out _ _ (by assumption) hb3
          refine hK.out _ _ Sc1 (fun _ => ?_)
          clear hK K hb3
          try simp only [Act.put, List.setIfInBounds_toArray, List.set_cons_zero, List.set_cons_succ]
          refine wpAnyH_take (i := 11) (oi := { dst := some 16, op := Go.Op.unOp Go.UnOp.not 4 (Go.Operand.tmp 15), type := 4, pos := "rex.go:74", after := #[{ on := 10, ground := Go.Ground.data }, { on := 8, ground := Go.Ground.guard }], guard := some (8, false) }) (v := ?_) rfl (by kernel_rfl) (by kernel_rfl) (by kernel_rfl) (fun _ _ _ h => h) (Or.inl ⟨by kernel_rfl, ?_⟩) (by assumption) ?_
          rotate_left
          · intro w _
            first | (go_simp; done) | (go_simp; with_reducible rfl)
          try simp only [Act.put, List.setIfInBounds_toArray, List.set_cons_zero, List.set_cons_succ]
          refine wpAnyH_take (i := 12) (oi := { dst := some 17, op := Go.Op.pick (Go.Operand.tmp 13) (Go.Operand.const (Go.Value.bool true)) (Go.Operand.tmp 16), type := 4, pos := "rex.go:74", after := #[{ on := 8, ground := Go.Ground.data }, { on := 11, ground := Go.Ground.data }], guard := none }) (v := ?_) rfl (by kernel_rfl) (by kernel_rfl) (by kernel_rfl) (fun _ _ _ h => h) (Or.inl ⟨by kernel_rfl, ?_⟩) (by assumption) ?_
          rotate_left
          · intro w _
            first | (go_simp; done) | (go_simp; with_reducible rfl)
          try simp only [Act.put, List.setIfInBounds_toArray, List.set_cons_zero, List.set_cons_succ]
          refine wpAnyH_take (i := 13) (oi := { dst := some 18, op := Go.Op.move (Go.Operand.tmp 17), type := 4, pos := "rex.go:74", after := #[{ on := 12, ground := Go.Ground.data }, { on := 10, ground := Go.Ground.chain }], guard := none }) (v := ?_) rfl (by kernel_rfl) (by kernel_rfl) (by kernel_rfl) (fun _ _ _ h => h) (Or.inl ⟨by kernel_rfl, ?_⟩) (by assumption) ?_
          rotate_left
          · intro w _
            first | (go_simp; done) | (go_simp; with_reducible rfl)
          try simp only [Act.put, List.setIfInBounds_toArray, List.set_cons_zero, List.set_cons_succ]
          refine wpAnyH_take (i := 14) (oi := { dst := some 19, op := Go.Op.load 36 (Go.Operand.tmp 1), type := 36, pos := "rex.go:74", after := #[{ on := 13, ground := Go.Ground.guard }], guard := some (13, false) }) (v := ?_) rfl (by kernel_rfl) (by kernel_rfl) (by kernel_rfl) (fun _ _ _ h => h) (Or.inl ⟨by kernel_rfl, ?_⟩) (by assumption) ?_
          rotate_left
          · intro w hSw
            (try dsimp only at hSw)
            go_split_ands
            first | (go_simp; done) | (go_simp; with_reducible rfl)
          try simp only [Act.put, List.setIfInBounds_toArray, List.set_cons_zero, List.set_cons_succ]
          refine wpAnyH_ready (rs := [15]) (by kernel_rfl) (by simp) ?_
          refine AllReadyH.cons (o := { dst := some 20, op := Go.Op.call { callee := Go.Callee.value (Go.Operand.func 29), args := #[Go.Operand.tmp 19], argTypes := #[36] }, type := 4, pos := "rex.go:74", after := #[{ on := 14, ground := Go.Ground.data }, { on := 13, ground := Go.Ground.chain }, { on := 13, ground := Go.Ground.guard }], guard := some (13, false) }) rfl (fun K hK => ?_) AllReadyH.nil
          go_simp
          go_at_call 29
          refine (KI.out _).mono ?_
          rintro e wc2 ⟨rfl, hb3⟩
          have Sc2 := HS.out _ _ (by assumption) hb3
          refine hK.out _ _ Sc2 (fun _ => ?_)
          clear hK K hb3
          try simp only [Act.put, List.setIfInBounds_toArray, List.set_cons_zero, List.set_cons_succ]
          refine wpAnyH_take (i := 16) (oi := { dst := some 21, op := Go.Op.unOp Go.UnOp.not 4 (Go.Operand.tmp 20), type := 4, pos := "rex.go:74", after := #[{ on := 15, ground := Go.Ground.data }, { on := 13, ground := Go.Ground.guard }], guard := some (13, false) }) (v := ?_) rfl (by kernel_rfl) (by kernel_rfl) (by kernel_rfl) (fun _ _ _ h => h) (Or.inl ⟨by kernel_rfl, ?_⟩) (by assumption) ?_
          rotate_left
          · intro w _
            first | (go_simp; done) | (go_simp; with_reducible rfl)
          try simp only [Act.put, List.setIfInBounds_toArray, List.set_cons_zero, List.set_cons_succ]
          refine wpAnyH_take (i := 17) (oi := { dst := some 22, op := Go.Op.pick (Go.Operand.tmp 18) (Go.Operand.const (Go.Value.bool true)) (Go.Operand.tmp 21), type := 4, pos := "rex.go:74", after := #[{ on := 13, ground := Go.Ground.data }, { on := 16, ground := Go.Ground.data }], guard := none }) (v := ?_) rfl (by kernel_rfl) (by kernel_rfl) (by kernel_rfl) (fun _ _ _ h => h) (Or.inl ⟨by kernel_rfl, ?_⟩) (by assumption) ?_
          rotate_left
          · intro w _
            first | (go_simp; done) | (go_simp; with_reducible rfl)
          try simp only [Act.put, List.setIfInBounds_toArray, List.set_cons_zero, List.set_cons_succ]
          refine wpAnyH_done (by kernel_rfl) ?_ _
          clear HS hHeld
          go_wp2
          go_ret
          first | exact ⟨rfl, Sc2.2.2⟩ | exact ⟨rfl, Sc1.2.2⟩ | exact ⟨rfl, S0.2.2⟩
        | true =>
          rw [Bool.true_and]
          have K0 : Blk (W.alloc (.cells (nodeC (NodeX.mk xk xs xm xx xA xn xc xl)) 36)).drew W.heap.size 36 (nodeC (NodeX.mk xk xs xm xx xA xn xc xl)) := (Blk.new W 36 (nodeC (NodeX.mk xk xs xm xx xA xn xc xl))).drew
          have S0 : (Blk (W.alloc (.cells (nodeC (NodeX.mk xk xs xm xx xA xn xc xl)) 36)).drew W.heap.size 36 (nodeC (NodeX.mk xk xs xm xx xA xn xc xl)) ∧ ((W.alloc (.cells (nodeC (NodeX.mk xk xs xm xx xA xn xc xl)) 36)).drew.cell? ⟨W.heap.size, 0, none⟩ = some (.int .i64 xk) ∧ (W.alloc (.cells (nodeC (NodeX.mk xk xs xm xx xA xn xc xl)) 36)).drew.cell? ⟨W.heap.size, 1, none⟩ = some (.int .u64 (word xs 0 : Nat)) ∧ (W.alloc (.cells (nodeC (NodeX.mk xk xs xm xx xA xn xc xl)) 36)).drew.cell? ⟨W.heap.size, 2, none⟩ = some (.int .u64 (word xs 1 : Nat)) ∧ (W.alloc (.cells (nodeC (NodeX.mk xk xs xm xx xA xn xc xl)) 36)).drew.cell? ⟨W.heap.size, 3, none⟩ = some (.int .u64 (word xs 2 : Nat)) ∧ (W.alloc (.cells (nodeC (NodeX.mk xk xs xm xx xA xn xc xl)) 36)).drew.cell? ⟨W.heap.size, 4, none⟩ = some (.int .u64 (word xs 3 : Nat)) ∧ (W.alloc (.cells (nodeC (NodeX.mk xk xs xm xx xA xn xc xl)) 36)).drew.cell? ⟨W.heap.size, 5, none⟩ = some (.int .i64 xm) ∧ (W.alloc (.cells (nodeC (NodeX.mk xk xs xm xx xA xn xc xl)) 36)).drew.cell? ⟨W.heap.size, 6, none⟩ = some (.int .i64 xx) ∧ (W.alloc (.cells (nodeC (NodeX.mk xk xs xm xx xA xn xc xl)) 36)).drew.cell? ⟨W.heap.size, 7, none⟩ = some (.slice xA xn xc)) ∧ Below W.heap.size W (W.alloc (.cells (nodeC (NodeX.mk xk xs xm xx xA xn xc xl)) 36)).drew) := ⟨K0, (node_cells K0).1, below_drewN HB0.out 1⟩
          have HS := Lib.hid (show ∀ w w', (Blk w W.heap.size 36 (nodeC (NodeX.mk xk xs xm xx xA xn xc xl)) ∧ (w.cell? ⟨W.heap.size, 0, none⟩ = some (.int .i64 xk) ∧ w.cell? ⟨W.heap.size, 1, none⟩ = some (.int .u64 (word xs 0 : Nat)) ∧ w.cell? ⟨W.heap.size, 2, none⟩ = some (.int .u64 (word xs 1 : Nat)) ∧ w.cell? ⟨W.heap.size, 3, none⟩ = some (.int .u64 (word xs 2 : Nat)) ∧ w.cell? ⟨W.heap.size, 4, none⟩ = some (.int .u64 (word xs 3 : Nat)) ∧ w.cell? ⟨W.heap.size, 5, none⟩ = some (.int .i64 xm) ∧ w.cell? ⟨W.heap.size, 6, none⟩ = some (.int .i64 xx) ∧ w.cell? ⟨W.heap.size, 7, none⟩ = some (.slice xA xn xc)) ∧ Below W.heap.size W w) → Below w.heap.size w w' → (Blk w' W.heap.size 36 (nodeC (NodeX.mk xk xs xm xx xA xn xc xl)) ∧ (w'.cell? ⟨W.heap.size, 0, none⟩ = some (.int .i64 xk) ∧ w'.cell? ⟨W.heap.size, 1, none⟩ = some (.int .u64 (word xs 0 : Nat)) ∧ w'.cell? ⟨W.heap.size, 2, none⟩ = some (.int .u64 (word xs 1 : Nat)) ∧ w'.cell? ⟨W.heap.size, 3, none⟩ = some (.int .u64 (word xs 2 : Nat)) ∧ w'.cell? ⟨W.heap.size, 4, none⟩ = some (.int .u64 (word xs 3 : Nat)) ∧ w'.cell? ⟨W.heap.size, 5, none⟩ = some (.int .i64 xm) ∧ w'.cell? ⟨W.heap.size, 6, none⟩ = some (.int .i64 xx) ∧ w'.cell? ⟨W.heap.size, 7, none⟩ = some (.slice xA xn xc)) ∧ Below W.heap.size W w') from fun w w' h hb => ⟨h.1.below hb h.1.lt, (node_cells (h.1.below hb h.1.lt)).1, hop h.2.2 (Nat.le_refl _) hb⟩)
          clear K0
          unfold nodeC nodeV
          simp only [NodeX.kind, NodeX.set, NodeX.mn, NodeX.mx, NodeX.A, NodeX.n, NodeX.c, NodeX.kids]
          go_enter Tryz.func20, Tryz.ntmps20
          go_wp2
          refine wp_region_held_drew (S := fun w' => (Blk w' W.heap.size 36 (nodeC (NodeX.mk xk xs xm xx xA xn xc xl)) ∧ (w'.cell? ⟨W.heap.size, 0, none⟩ = some (.int .i64 xk) ∧ w'.cell? ⟨W.heap.size, 1, none⟩ = some (.int .u64 (word xs 0 : Nat)) ∧ w'.cell? ⟨W.heap.size, 2, none⟩ = some (.int .u64 (word xs 1 : Nat)) ∧ w'.cell? ⟨W.heap.size, 3, none⟩ = some (.int .u64 (word xs 2 : Nat)) ∧ w'.cell? ⟨W.heap.size, 4, none⟩ = some (.int .u64 (word xs 3 : Nat)) ∧ w'.cell? ⟨W.heap.size, 5, none⟩ = some (.int .i64 xm) ∧ w'.cell? ⟨W.heap.size, 6, none⟩ = some (.int .i64 xx) ∧ w'.cell? ⟨W.heap.size, 7, none⟩ = some (.slice xA xn xc)) ∧ Below W.heap.size W w')) (by kernel_rfl) S0 (fun hHeld => ?_)
          refine wpAnyH_take (i := 0) (oi := { dst := some 5, op := Go.Op.fieldAddr 36 (Go.Operand.tmp 1) 1, type := 0, pos := "rex.go:74", after := #[], guard := none }) (v := ?_) rfl (by kernel_rfl) (by kernel_rfl) (by kernel_rfl) (fun _ _ _ h => h) (Or.inl ⟨by kernel_rfl, ?_⟩) (by assumption) ?_
          rotate_left
          · intro w _
            first | (go_simp; done) | (go_simp; with_reducible rfl)
          try simp only [Act.put, List.setIfInBounds_toArray, List.set_cons_zero, List.set_cons_succ]
          refine wpAnyH_take (i := 1) (oi := { dst := some 6, op := Go.Op.load 24 (Go.Operand.tmp 5), type := 24, pos := "rex.go:74", after := #[{ on := 0, ground := Go.Ground.data }], guard := none }) (v := ?_) rfl (by kernel_rfl) (by kernel_rfl) (by kernel_rfl) (fun _ _ _ h => h) (Or.inl ⟨by kernel_rfl, ?_⟩) (by assumption) ?_
          rotate_left
          · intro w hSw
            (try dsimp only at hSw)
            go_split_ands
            first | (go_simp; done) | (go_simp; with_reducible rfl)
          try simp only [Act.put, List.setIfInBounds_toArray, List.set_cons_zero, List.set_cons_succ]
          refine wpAnyH_take (i := 2) (oi := { dst := some 7, op := Go.Op.build 24 #[], type := 24, pos := "rex.go:74", after := #[], guard := none }) (v := ?_) rfl (by kernel_rfl) (by kernel_rfl) (by kernel_rfl) (fun _ _ _ h => h) (Or.inl ⟨by kernel_rfl, ?_⟩) (by assumption) ?_
          rotate_left
          · intro w _
            first | (go_simp; done) | (go_simp; with_reducible rfl)
          try simp only [Act.put, List.setIfInBounds_toArray, List.set_cons_zero, List.set_cons_succ]
          refine wpAnyH_take (i := 3) (oi := { dst := some 8, op := Go.Op.binOp Go.BinOp.neq 24 (Go.Operand.tmp 6) (Go.Operand.tmp 7) 24, type := 4, pos := "rex.go:74", after := #[{ on := 1, ground := Go.Ground.data }, { on := 2, ground := Go.Ground.data }], guard := none }) (v := ?_) rfl (by kernel_rfl) (by kernel_rfl) (by kernel_rfl) (fun _ _ _ h => h) (Or.inl ⟨by kernel_rfl, ?_⟩) (by assumption) ?_
          rotate_left
          · intro w _
            first | (go_simp; done) | (go_simp; with_reducible rfl)
          try simp only [Act.put, List.setIfInBounds_toArray, List.set_cons_zero, List.set_cons_succ]
          refine wpAnyH_take (i := 4) (oi := { dst := some 9, op := Go.Op.fieldAddr 36 (Go.Operand.tmp 1) 0, type := 0, pos := "rex.go:74", after := #[], guard := none }) (v := ?_) rfl (by kernel_rfl) (by kernel_rfl) (by kernel_rfl) (fun _ _ _ h => h) (Or.inl ⟨by kernel_rfl, ?_⟩) (by assumption) ?_
          rotate_left
          · intro w _
            first | (go_simp; done) | (go_simp; with_reducible rfl)
          try simp only [Act.put, List.setIfInBounds_toArray, List.set_cons_zero, List.set_cons_succ]
          refine wpAnyH_take (i := 5) (oi := { dst := some 10, op := Go.Op.load 3 (Go.Operand.tmp 9), type := 3, pos := "rex.go:74", after := #[{ on := 4, ground := Go.Ground.data }], guard := none }) (v := ?_) rfl (by kernel_rfl) (by kernel_rfl) (by kernel_rfl) (fun _ _ _ h => h) (Or.inl ⟨by kernel_rfl, ?_⟩) (by assumption) ?_
          rotate_left
          · intro w hSw
            (try dsimp only at hSw)
            go_split_ands
            first | (go_simp; done) | (go_simp; with_reducible rfl)
          try simp only [Act.put, List.setIfInBounds_toArray, List.set_cons_zero, List.set_cons_succ]
          refine wpAnyH_take (i := 6) (oi := { dst := some 11, op := Go.Op.binOp Go.BinOp.eql 3 (Go.Operand.tmp 10) (Go.Operand.const (Go.Value.int Go.IntKind.i64 1)) 3, type := 4, pos := "rex.go:74", after := #[{ on := 5, ground := Go.Ground.data }], guard := none }) (v := ?_) rfl (by kernel_rfl) (by kernel_rfl) (by kernel_rfl) (fun _ _ _ h => h) (Or.inl ⟨by kernel_rfl, ?_⟩) (by assumption) ?_
          rotate_left
          · intro w _
            first | (go_simp; done) | (go_simp; with_reducible rfl)
          try simp only [Act.put, List.setIfInBounds_toArray, List.set_cons_zero, List.set_cons_succ]
          refine wpAnyH_take (i := 7) (oi := { dst := some 12, op := Go.Op.binOp Go.BinOp.neq 4 (Go.Operand.tmp 8) (Go.Operand.tmp 11) 4, type := 4, pos := "rex.go:74", after := #[{ on := 3, ground := Go.Ground.data }, { on := 6, ground := Go.Ground.data }], guard := none }) (v := ?_) rfl (by kernel_rfl) (by kernel_rfl) (by kernel_rfl) (fun _ _ _ h => h) (Or.inl ⟨by kernel_rfl, ?_⟩) (by assumption) ?_
          rotate_left
          · intro w _
            first | (go_simp; done) | (go_simp; with_reducible rfl)
          try simp only [Act.put, List.setIfInBounds_toArray, List.set_cons_zero, List.set_cons_succ]
          refine wpAnyH_take (i := 8) (oi := { dst := some 13, op := Go.Op.move (Go.Operand.tmp 12), type := 4, pos := "rex.go:74", after := #[{ on := 7, ground := Go.Ground.data }], guard := none }) (v := ?_) rfl (by kernel_rfl) (by kernel_rfl) (by kernel_rfl) (fun _ _ _ h => h) (Or.inl ⟨by kernel_rfl, ?_⟩) (by assumption) ?_
          rotate_left
          · intro w _
            first | (go_simp; done) | (go_simp; with_reducible rfl)
          try simp only [Act.put, List.setIfInBounds_toArray, List.set_cons_zero, List.set_cons_succ]
          refine wpAnyH_take (i := 9) (oi := { dst := some 14, op := Go.Op.load 36 (Go.Operand.tmp 1), type := 36, pos := "rex.go:74", after := #[{ on := 8, ground := Go.Ground.guard }], guard := some (8, false) }) (v := ?_) rfl (by kernel_rfl) (by kernel_rfl) (by kernel_rfl) (fun _ _ _ h => h) (Or.inl ⟨by kernel_rfl, ?_⟩) (by assumption) ?_
          rotate_left
          · intro w hSw
            (try dsimp only at hSw)
            go_split_ands
            first | (go_simp; done) | (go_simp; with_reducible rfl)
          try simp only [Act.put, List.setIfInBounds_toArray, List.set_cons_zero, List.set_cons_succ]
          refine wpAnyH_ready (rs := [10]) (by kernel_rfl) (by simp) ?_
          refine AllReadyH.cons (o := { dst := some 15, op := Go.Op.call { callee := Go.Callee.value (Go.Operand.func 28), args := #[Go.Operand.tmp 14], argTypes := #[36] }, type := 4, pos := "rex.go:74", after := #[{ on := 9, ground := Go.Ground.data }, { on := 8, ground := Go.Ground.chain }, { on := 8, ground := Go.Ground.guard }], guard := some (8, false) }) rfl (fun K hK => ?_) AllReadyH.nil
          go_simp
          go_at_call 28
          refine (BO.out _).mono ?_
          rintro e wc1 ⟨rfl, hb3⟩
          have Sc1 := HS.out _ _ (by assumption) hb3
          refine hK.out _ _ Sc1 (fun _ => ?_)
          clear hK K hb3
          try simp only [Act.put, List.setIfInBounds_toArray, List.set_cons_zero, List.set_cons_succ]
          refine wpAnyH_take (i := 11) (oi := { dst := some 16, op := Go.Op.unOp Go.UnOp.not 4 (Go.Operand.tmp 15), type := 4, pos := "rex.go:74", after := #[{ on := 10, ground := Go.Ground.data }, { on := 8, ground := Go.Ground.guard }], guard := some (8, false) }) (v := ?_) rfl (by kernel_rfl) (by kernel_rfl) (by kernel_rfl) (fun _ _ _ h => h) (Or.inl ⟨by kernel_rfl, ?_⟩) (by assumption) ?_
          rotate_left
          · intro w _
            first | (go_simp; done) | (go_simp; with_reducible rfl)
          try simp only [Act.put, List.setIfInBounds_toArray, List.set_cons_zero, List.set_cons_succ]
          refine wpAnyH_take (i := 12) (oi := { dst := some 17, op := Go.Op.pick (Go.Operand.tmp 13) (Go.Operand.const (Go.Value.bool true)) (Go.Operand.tmp 16), type := 4, pos := "rex.go:74", after := #[{ on := 8, ground := Go.Ground.data }, { on := 11, ground := Go.Ground.data }], guard := none }) (v := ?_) rfl (by kernel_rfl) (by kernel_rfl) (by kernel_rfl) (fun _ _ _ h => h) (Or.inl ⟨by kernel_rfl, ?_⟩) (by assumption) ?_
          rotate_left
          · intro w _
            first | (go_simp; done) | (go_simp; with_reducible rfl)
          try simp only [Act.put, List.setIfInBounds_toArray, List.set_cons_zero, List.set_cons_succ]
          refine wpAnyH_take (i := 13) (oi := { dst := some 18, op := Go.Op.move (Go.Operand.tmp 17), type := 4, pos := "rex.go:74", after := #[{ on := 12, ground := Go.Ground.data }, { on := 10, ground := Go.Ground.chain }], guard := none }) (v := ?_) rfl (by kernel_rfl) (by kernel_rfl) (by kernel_rfl) (fun _ _ _ h => h) (Or.inl ⟨by kernel_rfl, ?_⟩) (by assumption) ?_
          rotate_left
          · intro w _
            first | (go_simp; done) | (go_simp; with_reducible rfl)
          try simp only [Act.put, List.setIfInBounds_toArray, List.set_cons_zero, List.set_cons_succ]
          refine wpAnyH_take (i := 14) (oi := { dst := some 19, op := Go.Op.load 36 (Go.Operand.tmp 1), type := 36, pos := "rex.go:74", after := #[{ on := 13, ground := Go.Ground.guard }], guard := some (13, false) }) (v := ?_) rfl (by kernel_rfl) (by kernel_rfl) (by kernel_rfl) (fun _ _ _ h => h) (Or.inl ⟨by kernel_rfl, ?_⟩) (by assumption) ?_
          rotate_left
          · intro w hSw
            (try dsimp only at hSw)
            go_split_ands
            first | (go_simp; done) | (go_simp; with_reducible rfl)
          try simp only [Act.put, List.setIfInBounds_toArray, List.set_cons_zero, List.set_cons_succ]
          refine wpAnyH_ready (rs := [15]) (by kernel_rfl) (by simp) ?_
          refine AllReadyH.cons (o := { dst := some 20, op := Go.Op.call { callee := Go.Callee.value (Go.Operand.func 29), args := #[Go.Operand.tmp 19], argTypes := #[36] }, type := 4, pos := "rex.go:74", after := #[{ on := 14, ground := Go.Ground.data }, { on := 13, ground := Go.Ground.chain }, { on := 13, ground := Go.Ground.guard }], guard := some (13, false) }) rfl (fun K hK => ?_) AllReadyH.nil
          go_simp
          go_at_call 29
          refine (KI.out _).mono ?_
          rintro e wc2 ⟨rfl, hb3⟩
          have Sc2 := HS.out _ _ (by assumption) hb3
          refine hK.out _ _ Sc2 (fun _ => ?_)
          clear hK K hb3
          try simp only [Act.put, List.setIfInBounds_toArray, List.set_cons_zero, List.set_cons_succ]
          refine wpAnyH_take (i := 16) (oi := { dst := some 21, op := Go.Op.unOp Go.UnOp.not 4 (Go.Operand.tmp 20), type := 4, pos := "rex.go:74", after := #[{ on := 15, ground := Go.Ground.data }, { on := 13, ground := Go.Ground.guard }], guard := some (13, false) }) (v := ?_) rfl (by kernel_rfl) (by kernel_rfl) (by kernel_rfl) (fun _ _ _ h => h) (Or.inl ⟨by kernel_rfl, ?_⟩) (by assumption) ?_
          rotate_left
          · intro w _
            first | (go_simp; done) | (go_simp; with_reducible rfl)
          try simp only [Act.put, List.setIfInBounds_toArray, List.set_cons_zero, List.set_cons_succ]
          refine wpAnyH_take (i := 17) (oi := { dst := some 22, op := Go.Op.pick (Go.Operand.tmp 18) (Go.Operand.const (Go.Value.bool true)) (Go.Operand.tmp 21), type := 4, pos := "rex.go:74", after := #[{ on := 13, ground := Go.Ground.data }, { on := 16, ground := Go.Ground.data }], guard := none }) (v := ?_) rfl (by kernel_rfl) (by kernel_rfl) (by kernel_rfl) (fun _ _ _ h => h) (Or.inl ⟨by kernel_rfl, ?_⟩) (by assumption) ?_
          rotate_left
          · intro w _
            first | (go_simp; done) | (go_simp; with_reducible rfl)
          try simp only [Act.put, List.setIfInBounds_toArray, List.set_cons_zero, List.set_cons_succ]
          refine wpAnyH_done (by kernel_rfl) ?_ _
          have HB2 := Lib.hid Sc2.2.2
          have e7 := Sc2.2.1.2.2.2.2.2.2.2
          clear S0 Sc1 Sc2 HS hHeld BO KI
          go_wp2
          clear e7
          go_loopw [26] (fun iv wr => ∃ (j : Nat), j ≤ xn ∧ iv = .int .i64 (j : Nat) ∧ Hid (rightsT ((xl.drop j).map NodeX.t) = F) ∧ Hid (Below W.heap.size W wr)) (fun iv _ => xn - (intOf iv).toNat)
          case atStart => exact ⟨0, Nat.zero_le _, rfl, HF, HB2⟩
          case round =>
            obtain ⟨j, hj, rfl, HT, HB⟩ := hrel
            by_cases h : j < xn
            · have hI : (j : Int) < xn := by omega
              obtain ⟨b, off, rfl, hlt, hc⟩ := HRX.out.2 (by omega)
              have hjl : j < xl.length := by omega
              obtain ⟨p, hp⟩ : ∃ p, xl[j]? = some p := ⟨xl[j], List.getElem?_eq_getElem hjl⟩
              have hpl : p ∈ xl := List.mem_of_getElem? hp
              have hdr : xl.drop j = p :: xl.drop (j + 1) := by
                rw [List.drop_eq_getElem_cons hjl]
                congr 1
                rw [List.getElem?_eq_getElem hjl] at hp
                injection hp
              have c0 := (HB.out.cell (p := ⟨b, off + j * 8 + 0, none⟩) hlt).trans (hc j 0 p hp (by decide))
              have c1 := (HB.out.cell (p := ⟨b, off + j * 8 + 1, none⟩) hlt).trans (hc j 1 p hp (by decide))
              have c2 := (HB.out.cell (p := ⟨b, off + j * 8 + 2, none⟩) hlt).trans (hc j 2 p hp (by decide))
              have c3 := (HB.out.cell (p := ⟨b, off + j * 8 + 3, none⟩) hlt).trans (hc j 3 p hp (by decide))
              have c4 := (HB.out.cell (p := ⟨b, off + j * 8 + 4, none⟩) hlt).trans (hc j 4 p hp (by decide))
              have c5 := (HB.out.cell (p := ⟨b, off + j * 8 + 5, none⟩) hlt).trans (hc j 5 p hp (by decide))
              have c6 := (HB.out.cell (p := ⟨b, off + j * 8 + 6, none⟩) hlt).trans (hc j 6 p hp (by decide))
              have c7 := (HB.out.cell (p := ⟨b, off + j * 8 + 7, none⟩) hlt).trans (hc j 7 p hp (by decide))
              rw [Nat.add_zero] at c0
              simp only [nodeV, List.getElem?_cons_zero, List.getElem?_cons_succ] at c0 c1 c2 c3 c4 c5 c6 c7
              have ht := HT.out
              rw [hdr, List.map_cons, rightsT_cons] at ht
              have hWs := HB.out.size
              clear hc hp hdr
              have SX := HSS.out p hpl P (wr.alloc (.cells (nodeC p) 36)) (((HKX.out p hpl).later HB.out).alloc _)
              obtain ⟨r, hr⟩ : ∃ r, rightT p.t = r := ⟨_, rfl⟩
              rw [hr] at SX ht
              replace SX := Lib.hid SX
              have K1 := Blk.new wr 36 (nodeC p)
              obtain ⟨⟨a0, a1, a2, a3, a4, a5, a6, a7⟩, _⟩ := node_cells K1
              have HT2 := Lib.hid ht
              clear ht hr K1 HRX HKX HSS
              go_wp2_with fail
              refine SX.out.mono ?_
              rintro e w2 ⟨rfl, hx⟩
              have HB3 := Lib.hid (hop (HB.out.alloc hWs (.cells (nodeC p) 36)) (Nat.le_refl _) hx)
              clear hx
              cases r with
              | false =>
                have ht := HT2.out
                rw [Bool.false_and] at ht
                subst ht
                go_wp2
                go_ret
                exact ⟨rfl, HB3.out⟩
              | true =>
                have ht := HT2.out
                rw [Bool.true_and] at ht
                have HT3 := Lib.hid ht
                clear ht
                go_wp2
                go_round
                case rel => exact ⟨j + 1, by omega, by go_num, HT3, HB3⟩
                case measure => simp [intOf]; omega
            · obtain rfl : j = xn := by omega
              have hI : ¬ (j : Int) < (j : Int) := by omega
              have ht := HT.out
              rw [List.drop_of_length_le (by omega), List.map_nil, rightsT_nil] at ht
              subst ht
              go_wp2
              go_ret
              exact ⟨rfl, HB.out⟩
  · have hs' : decide (xs = 0) = false := decide_eq_false hs
    rw [hs']
    simp only [hs'] at hCQ
    clear hs
    by_cases hk : xk = 1
    · subst hk
      rw [decide_eq_true rfl]
      rw [show (false != true) = true from rfl, Bool.true_and]
      cases b with
      | false =>
        rw [Bool.false_and]
        have K0 : Blk (W.alloc (.cells (nodeC (NodeX.mk 1 xs xm xx xA xn xc xl)) 36)).drew W.heap.size 36 (nodeC (NodeX.mk 1 xs xm xx xA xn xc xl)) := (Blk.new W 36 (nodeC (NodeX.mk 1 xs xm xx xA xn xc xl))).drew
        have S0 : (Blk (W.alloc (.cells (nodeC (NodeX.mk 1 xs xm xx xA xn xc xl)) 36)).drew W.heap.size 36 (nodeC (NodeX.mk 1 xs xm xx xA xn xc xl)) ∧ ((W.alloc (.cells (nodeC (NodeX.mk 1 xs xm xx xA xn xc xl)) 36)).drew.cell? ⟨W.heap.size, 0, none⟩ = some (.int .i64 1) ∧ (W.alloc (.cells (nodeC (NodeX.mk 1 xs xm xx xA xn xc xl)) 36)).drew.cell? ⟨W.heap.size, 1, none⟩ = some (.int .u64 (word xs 0 : Nat)) ∧ (W.alloc (.cells (nodeC (NodeX.mk 1 xs xm xx xA xn xc xl)) 36)).drew.cell? ⟨W.heap.size, 2, none⟩ = some (.int .u64 (word xs 1 : Nat)) ∧ (W.alloc (.cells (nodeC (NodeX.mk 1 xs xm xx xA xn xc xl)) 36)).drew.cell? ⟨W.heap.size, 3, none⟩ = some (.int .u64 (word xs 2 : Nat)) ∧ (W.alloc (.cells (nodeC (NodeX.mk 1 xs xm xx xA xn xc xl)) 36)).drew.cell? ⟨W.heap.size, 4, none⟩ = some (.int .u64 (word xs 3 : Nat)) ∧ (W.alloc (.cells (nodeC (NodeX.mk 1 xs xm xx xA xn xc xl)) 36)).drew.cell? ⟨W.heap.size, 5, none⟩ = some (.int .i64 xm) ∧ (W.alloc (.cells (nodeC (NodeX.mk 1 xs xm xx xA xn xc xl)) 36)).drew.cell? ⟨W.heap.size, 6, none⟩ = some (.int .i64 xx) ∧ (W.alloc (.cells (nodeC (NodeX.mk 1 xs xm xx xA xn xc xl)) 36)).drew.cell? ⟨W.heap.size, 7, none⟩ = some (.slice xA xn xc)) ∧ Below W.heap.size W (W.alloc (.cells (nodeC (NodeX.mk 1 xs xm xx xA xn xc xl)) 36)).drew) := ⟨K0, (node_cells K0).1, below_drewN HB0.out 1⟩
        have HS := Lib.hid (show ∀ w w', (Blk w W.heap.size 36 (nodeC (NodeX.mk 1 xs xm xx xA xn xc xl)) ∧ (w.cell? ⟨W.heap.size, 0, none⟩ = some (.int .i64 1) ∧ w.cell? ⟨W.heap.size, 1, none⟩ = some (.int .u64 (word xs 0 : Nat)) ∧ w.cell? ⟨W.heap.size, 2, none⟩ = some (.int .u64 (word xs 1 : Nat)) ∧ w.cell? ⟨W.heap.size, 3, none⟩ = some (.int .u64 (word xs 2 : Nat)) ∧ w.cell? ⟨W.heap.size, 4, none⟩ = some (.int .u64 (word xs 3 : Nat)) ∧ w.cell? ⟨W.heap.size, 5, none⟩ = some (.int .i64 xm) ∧ w.cell? ⟨W.heap.size, 6, none⟩ = some (.int .i64 xx) ∧ w.cell? ⟨W.heap.size, 7, none⟩ = some (.slice xA xn xc)) ∧ Below W.heap.size W w) → Below w.heap.size w w' → (Blk w' W.heap.size 36 (nodeC (NodeX.mk 1 xs xm xx xA xn xc xl)) ∧ (w'.cell? ⟨W.heap.size, 0, none⟩ = some (.int .i64 1) ∧ w'.cell? ⟨W.heap.size, 1, none⟩ = some (.int .u64 (word xs 0 : Nat)) ∧ w'.cell? ⟨W.heap.size, 2, none⟩ = some (.int .u64 (word xs 1 : Nat)) ∧ w'.cell? ⟨W.heap.size, 3, none⟩ = some (.int .u64 (word xs 2 : Nat)) ∧ w'.cell? ⟨W.heap.size, 4, none⟩ = some (.int .u64 (word xs 3 : Nat)) ∧ w'.cell? ⟨W.heap.size, 5, none⟩ = some (.int .i64 xm) ∧ w'.cell? ⟨W.heap.size, 6, none⟩ = some (.int .i64 xx) ∧ w'.cell? ⟨W.heap.size, 7, none⟩ = some (.slice xA xn xc)) ∧ Below W.heap.size W w') from fun w w' h hb => ⟨h.1.below hb h.1.lt, (node_cells (h.1.below hb h.1.lt)).1, hop h.2.2 (Nat.le_refl _) hb⟩)
        clear K0
        unfold nodeC nodeV
        simp only [NodeX.kind, NodeX.set, NodeX.mn, NodeX.mx, NodeX.A, NodeX.n, NodeX.c, NodeX.kids]
        go_enter Tryz.func20, Tryz.ntmps20
        go_wp2
        refine wp_region_held_drew (S := fun w' => (Blk w' W.heap.size 36 (nodeC (NodeX.mk 1 xs xm xx xA xn xc xl)) ∧ (w'.cell? ⟨W.heap.size, 0, none⟩ = some (.int .i64 1) ∧ w'.cell? ⟨W.heap.size, 1, none⟩ = some (.int .u64 (word xs 0 : Nat)) ∧ w'.cell? ⟨W.heap.size, 2, none⟩ = some (.int .u64 (word xs 1 : Nat)) ∧ w'.cell? ⟨W.heap.size, 3, none⟩ = some (.int .u64 (word xs 2 : Nat)) ∧ w'.cell? ⟨W.heap.size, 4, none⟩ = some (.int .u64 (word xs 3 : Nat)) ∧ w'.cell? ⟨W.heap.size, 5, none⟩ = some (.int .i64 xm) ∧ w'.cell? ⟨W.heap.size, 6, none⟩ = some (.int .i64 xx) ∧ w'.cell? ⟨W.heap.size, 7, none⟩ = some (.slice xA xn xc)) ∧ Below W.heap.size W w')) (by kernel_rfl) S0 (fun hHeld => ?_)
        refine wpAnyH_take (i := 0) (oi := { dst := some 5, op := Go.Op.fieldAddr 36 (Go.Operand.tmp 1) 1, type := 0, pos := "rex.go:74", after := #[], guard := none }) (v := ?_) rfl (by kernel_rfl) (by kernel_rfl) (by kernel_rfl) (fun _ _ _ h => h) (Or.inl ⟨by kernel_rfl, ?_⟩) (by assumption) ?_
        rotate_left
        · intro w _
          first | (go_simp; done) | (go_simp; with_reducible rfl)
        try simp only [Act.put, List.setIfInBounds_toArray, List.set_cons_zero, List.set_cons_succ]
        refine wpAnyH_take (i := 1) (oi := { dst := some 6, op := Go.Op.load 24 (Go.Operand.tmp 5), type := 24, pos := "rex.go:74", after := #[{ on := 0, ground := Go.Ground.data }], guard := none }) (v := ?_) rfl (by kernel_rfl) (by kernel_rfl) (by kernel_rfl) (fun _ _ _ h => h) (Or.inl ⟨by kernel_rfl, ?_⟩) (by assumption) ?_
        rotate_left
        · intro w hSw
          (try dsimp only at hSw)
          go_split_ands
          first | (go_simp; done) | (go_simp; with_reducible rfl)
        try simp only [Act.put, List.setIfInBounds_toArray, List.set_cons_zero, List.set_cons_succ]
        refine wpAnyH_take (i := 2) (oi := { dst := some 7, op := Go.Op.build 24 #[], type := 24, pos := "rex.go:74", after := #[], guard := none }) (v := ?_) rfl (by kernel_rfl) (by kernel_rfl) (by kernel_rfl) (fun _ _ _ h => h) (Or.inl ⟨by kernel_rfl, ?_⟩) (by assumption) ?_
        rotate_left
        · intro w _
          first | (go_simp; done) | (go_simp; with_reducible rfl)
        try simp only [Act.put, List.setIfInBounds_toArray, List.set_cons_zero, List.set_cons_succ]
        refine wpAnyH_take (i := 3) (oi := { dst := some 8, op := Go.Op.binOp Go.BinOp.neq 24 (Go.Operand.tmp 6) (Go.Operand.tmp 7) 24, type := 4, pos := "rex.go:74", after := #[{ on := 1, ground := Go.Ground.data }, { on := 2, ground := Go.Ground.data }], guard := none }) (v := ?_) rfl (by kernel_rfl) (by kernel_rfl) (by kernel_rfl) (fun _ _ _ h => h) (Or.inl ⟨by kernel_rfl, ?_⟩) (by assumption) ?_
        rotate_left
        · intro w _
          first | (go_simp; done) | (go_simp; with_reducible rfl)
        try simp only [Act.put, List.setIfInBounds_toArray, List.set_cons_zero, List.set_cons_succ]
        refine wpAnyH_take (i := 4) (oi := { dst := some 9, op := Go.Op.fieldAddr 36 (Go.Operand.tmp 1) 0, type := 0, pos := "rex.go:74", after := #[], guard := none }) (v := ?_) rfl (by kernel_rfl) (by kernel_rfl) (by kernel_rfl) (fun _ _ _ h => h) (Or.inl ⟨by kernel_rfl, ?_⟩) (by assumption) ?_
        rotate_left
        · intro w _
          first | (go_simp; done) | (go_simp; with_reducible rfl)
        try simp only [Act.put, List.setIfInBounds_toArray, List.set_cons_zero, List.set_cons_succ]
        refine wpAnyH_take (i := 5) (oi := { dst := some 10, op := Go.Op.load 3 (Go.Operand.tmp 9), type := 3, pos := "rex.go:74", after := #[{ on := 4, ground := Go.Ground.data }], guard := none }) (v := ?_) rfl (by kernel_rfl) (by kernel_rfl) (by kernel_rfl) (fun _ _ _ h => h) (Or.inl ⟨by kernel_rfl, ?_⟩) (by assumption) ?_
        rotate_left
        · intro w hSw
          (try dsimp only at hSw)
          go_split_ands
          first | (go_simp; done) | (go_simp; with_reducible rfl)
        try simp only [Act.put, List.setIfInBounds_toArray, List.set_cons_zero, List.set_cons_succ]
        refine wpAnyH_take (i := 6) (oi := { dst := some 11, op := Go.Op.binOp Go.BinOp.eql 3 (Go.Operand.tmp 10) (Go.Operand.const (Go.Value.int Go.IntKind.i64 1)) 3, type := 4, pos := "rex.go:74", after := #[{ on := 5, ground := Go.Ground.data }], guard := none }) (v := ?_) rfl (by kernel_rfl) (by kernel_rfl) (by kernel_rfl) (fun _ _ _ h => h) (Or.inl ⟨by kernel_rfl, ?_⟩) (by assumption) ?_
        rotate_left
        · intro w _
          first | (go_simp; done) | (go_simp; with_reducible rfl)
        try simp only [Act.put, List.setIfInBounds_toArray, List.set_cons_zero, List.set_cons_succ]
        refine wpAnyH_take (i := 7) (oi := { dst := some 12, op := Go.Op.binOp Go.BinOp.neq 4 (Go.Operand.tmp 8) (Go.Operand.tmp 11) 4, type := 4, pos := "rex.go:74", after := #[{ on := 3, ground := Go.Ground.data }, { on := 6, ground := Go.Ground.data }], guard := none }) (v := ?_) rfl (by kernel_rfl) (by kernel_rfl) (by kernel_rfl) (fun _ _ _ h => h) (Or.inl ⟨by kernel_rfl, ?_⟩) (by assumption) ?_
        rotate_left
        · intro w _
          first | (go_simp; done) | (go_simp; with_reducible rfl)
        try simp only [Act.put, List.setIfInBounds_toArray, List.set_cons_zero, List.set_cons_succ]
        refine wpAnyH_take (i := 8) (oi := { dst := some 13, op := Go.Op.move (Go.Operand.tmp 12), type := 4, pos := "rex.go:74", after := #[{ on := 7, ground := Go.Ground.data }], guard := none }) (v := ?_) rfl (by kernel_rfl) (by kernel_rfl) (by kernel_rfl) (fun _ _ _ h => h) (Or.inl ⟨by kernel_rfl, ?_⟩) (by assumption) ?_
        rotate_left
        · intro w _
          first | (go_simp; done) | (go_simp; with_reducible rfl)
        try simp only [Act.put, List.setIfInBounds_toArray, List.set_cons_zero, List.set_cons_succ]
        refine wpAnyH_take (i := 9) (oi := { dst := some 14, op := Go.Op.load 36 (Go.Operand.tmp 1), type := 36, pos := "rex.go:74", after := #[{ on := 8, ground := Go.Ground.guard }], guard := some (8, false) }) (v := ?_) rfl (by kernel_rfl) (by kernel_rfl) (by kernel_rfl) (fun _ _ _ h => h) (Or.inl ⟨by kernel_rfl, ?_⟩) (by assumption) ?_
        rotate_left
        · intro w hSw
          (try dsimp only at hSw)
          go_split_ands
          first | (go_simp; done) | (go_simp; with_reducible rfl)
        try simp only [Act.put, List.setIfInBounds_toArray, List.set_cons_zero, List.set_cons_succ]
        refine wpAnyH_ready (rs := [10]) (by kernel_rfl) (by simp) ?_
        refine AllReadyH.cons (o := { dst := some 15, op := Go.Op.call { callee := Go.Callee.value (Go.Operand.func 28), args := #[Go.Operand.tmp 14], argTypes := #[36] }, type := 4, pos := "rex.go:74", after := #[{ on := 9, ground := Go.Ground.data }, { on := 8, ground := Go.Ground.chain }, { on := 8, ground := Go.Ground.guard }], guard := some (8, false) }) rfl (fun K hK => ?_) AllReadyH.nil
        go_simp
        go_at_call 28
        refine (BO.out _).mono ?_
        rintro e wc1 ⟨rfl, hb3⟩
        have Sc1 := HS.out _ _ (by assumption) hb3
        refine hK.out _ _ Sc1 (fun _ => ?_)
        clear hK K hb3
        try simp only [Act.put, List.setIfInBounds_toArray, List.set_cons_zero, List.set_cons_succ]
        refine wpAnyH_take (i := 11) (oi := { dst := some 16, op := Go.Op.unOp Go.UnOp.not 4 (Go.Operand.tmp 15), type := 4, pos := "rex.go:74", after := #[{ on := 10, ground := Go.Ground.data }, { on := 8, ground := Go.Ground.guard }], guard := some (8, false) }) (v := ?_) rfl (by kernel_rfl) (by kernel_rfl) (by kernel_rfl) (fun _ _ _ h => h) (Or.inl ⟨by kernel_rfl, ?_⟩) (by assumption) ?_
        rotate_left
        · intro w _
          first | (go_simp; done) | (go_simp; with_reducible rfl)
        try simp only [Act.put, List.setIfInBounds_toArray, List.set_cons_zero, List.set_cons_succ]
        refine wpAnyH_take (i := 12) (oi := { dst := some 17, op := Go.Op.pick (Go.Operand.tmp 13) (Go.Operand.const (Go.Value.bool true)) (Go.Operand.tmp 16), type := 4, pos := "rex.go:74", after := #[{ on := 8, ground := Go.Ground.data }, { on := 11, ground := Go.Ground.data }], guard := none }) (v := ?_) rfl (by kernel_rfl) (by kernel_rfl) (by kernel_rfl) (fun _ _ _ h => h) (Or.inl ⟨by kernel_rfl, ?_⟩) (by assumption) ?_
        rotate_left
        · intro w _
          first | (go_simp; done) | (go_simp; with_reducible rfl)
        try simp only [Act.put, List.setIfInBounds_toArray, List.set_cons_zero, List.set_cons_succ]
        refine wpAnyH_take (i := 13) (oi := { dst := some 18, op := Go.Op.move (Go.Operand.tmp 17), type := 4, pos := "rex.go:74", after := #[{ on := 12, ground := Go.Ground.data }, { on := 10, ground := Go.Ground.chain }], guard := none }) (v := ?_) rfl (by kernel_rfl) (by kernel_rfl) (by kernel_rfl) (fun _ _ _ h => h) (Or.inl ⟨by kernel_rfl, ?_⟩) (by assumption) ?_
        rotate_left
        · intro w _
          first | (go_simp; done) | (go_simp; with_reducible rfl)
        try simp only [Act.put, List.setIfInBounds_toArray, List.set_cons_zero, List.set_cons_succ]
        refine wpAnyH_take (i := 14) (oi := { dst := some 19, op := Go.Op.load 36 (Go.Operand.tmp 1), type := 36, pos := "rex.go:74", after := #[{ on := 13, ground := Go.Ground.guard }], guard := some (13, false) }) (v := undef) rfl (by kernel_rfl) (by kernel_rfl) (by kernel_rfl) (fun _ _ _ h => h) (Or.inr ⟨by kernel_rfl, rfl⟩) (by assumption) ?_
        try simp only [Act.put, List.setIfInBounds_toArray, List.set_cons_zero, List.set_cons_succ]
        refine wpAnyH_take (i := 15) (oi := { dst := some 20, op := Go.Op.call { callee := Go.Callee.value (Go.Operand.func 29), args := #[Go.Operand.tmp 19], argTypes := #[36] }, type := 4, pos := "rex.go:74", after := #[{ on := 14, ground := Go.Ground.data }, { on := 13, ground := Go.Ground.chain }, { on := 13, ground := Go.Ground.guard }], guard := some (13, false) }) (v := undef) rfl (by kernel_rfl) (by kernel_rfl) (by kernel_rfl) (fun _ _ _ h => h) (Or.inr ⟨by kernel_rfl, rfl⟩) (by assumption) ?_
        try simp only [Act.put, List.setIfInBounds_toArray, List.set_cons_zero, List.set_cons_succ]
        refine wpAnyH_take (i := 16) (oi := { dst := some 21, op := Go.Op.unOp Go.UnOp.not 4 (Go.Operand.tmp 20), type := 4, pos := "rex.go:74", after := #[{ on := 15, ground := Go.Ground.data }, { on := 13, ground := Go.Ground.guard }], guard := some (13, false) }) (v := undef) rfl (by kernel_rfl) (by kernel_rfl) (by kernel_rfl) (fun _ _ _ h => h) (Or.inr ⟨by kernel_rfl, rfl⟩) (by assumption) ?_
        try simp only [Act.put, List.setIfInBounds_toArray, List.set_cons_zero, List.set_cons_succ]
        refine wpAnyH_take (i := 17) (oi := { dst := some 22, op := Go.Op.pick (Go.Operand.tmp 18) (Go.Operand.const (Go.Value.bool true)) (Go.Operand.tmp 21), type := 4, pos := "rex.go:74", after := #[{ on := 13, ground := Go.Ground.data }, { on := 16, ground := Go.Ground.data }], guard := none }) (v := ?_) rfl (by kernel_rfl) (by kernel_rfl) (by kernel_rfl) (fun _ _ _ h => h) (Or.inl ⟨by kernel_rfl, ?_⟩) (by assumption) ?_
        rotate_left
        · intro w _
          first | (go_simp; done) | (go_simp; with_reducible rfl)
        try simp only [Act.put, List.setIfInBounds_toArray, List.set_cons_zero, List.set_cons_succ]
        refine wpAnyH_done (by kernel_rfl) ?_ _
        clear HS hHeld
        go_wp2
        go_ret
        first | exact ⟨rfl, Sc2.2.2⟩ | exact ⟨rfl, Sc1.2.2⟩ | exact ⟨rfl, S0.2.2⟩
      | true =>
        rw [Bool.true_and]
        cases c with
        | false =>
          rw [Bool.false_and]
          have K0 : Blk (W.alloc (.cells (nodeC (NodeX.mk 1 xs xm xx xA xn xc xl)) 36)).drew W.heap.size 36 (nodeC (NodeX.mk 1 xs xm xx xA xn xc xl)) := (Blk.new W 36 (nodeC (NodeX.mk 1 xs xm xx xA xn xc xl))).drew
          have S0 : (Blk (W.alloc (.cells (nodeC (NodeX.mk 1 xs xm xx xA xn xc xl)) 36)).drew W.heap.size 36 (nodeC (NodeX.mk 1 xs xm xx xA xn xc xl)) ∧ ((W.alloc (.cells (nodeC (NodeX.mk 1 xs xm xx xA xn xc xl)) 36)).drew.cell? ⟨W.heap.size, 0, none⟩ = some (.int .i64 1) ∧ (W.alloc (.cells (nodeC (NodeX.mk 1 xs xm xx xA xn xc xl)) 36)).drew.cell? ⟨W.heap.size, 1, none⟩ = some (.int .u64 (word xs 0 : Nat)) ∧ (W.alloc (.cells (nodeC (NodeX.mk 1 xs xm xx xA xn xc xl)) 36)).drew.cell? ⟨W.heap.size, 2, none⟩ = some (.int .u64 (word xs 1 : Nat)) ∧ (W.alloc (.cells (nodeC (NodeX.mk 1 xs xm xx xA xn xc xl)) 36)).drew.cell? ⟨W.heap.size, 3, none⟩ = some (.int .u64 (word xs 2 : Nat)) ∧ (W.alloc (.cells (nodeC (NodeX.mk 1 xs xm xx xA xn xc xl)) 36)).drew.cell? ⟨W.heap.size, 4, none⟩ = some (.int .u64 (word xs 3 : Nat)) ∧ (W.alloc (.cells (nodeC (NodeX.mk 1 xs xm xx xA xn xc xl)) 36)).drew.cell? ⟨W.heap.size, 5, none⟩ = some (.int .i64 xm) ∧ (W.alloc (.cells (nodeC (NodeX.mk 1 xs xm xx xA xn xc xl)) 36)).drew.cell? ⟨W.heap.size, 6, none⟩ = some (.int .i64 xx) ∧ (W.alloc (.cells (nodeC (NodeX.mk 1 xs xm xx xA xn xc xl)) 36)).drew.cell? ⟨W.heap.size, 7, none⟩ = some (.slice xA xn xc)) ∧ Below W.heap.size W (W.alloc (.cells (nodeC (NodeX.mk 1 xs xm xx xA xn xc xl)) 36)).drew) := ⟨K0, (node_cells K0).1, below_drewN HB0.out 1⟩
          have HS := Lib.hid (show ∀ w w', (Blk w W.heap.size 36 (nodeC (NodeX.mk 1 xs xm xx xA xn xc xl)) ∧ (w.cell? ⟨W.heap.size, 0, none⟩ = some (.int .i64 1) ∧ w.cell? ⟨W.heap.size, 1, none⟩ = some (.int .u64 (word xs 0 : Nat)) ∧ w.cell? ⟨W.heap.size, 2, none⟩ = some (.int .u64 (word xs 1 : Nat)) ∧ w.cell? ⟨W.heap.size, 3, none⟩ = some (.int .u64 (word xs 2 : Nat)) ∧ w.cell? ⟨W.heap.size, 4, none⟩ = some (.int .u64 (word xs 3 : Nat)) ∧ w.cell? ⟨W.heap.size, 5, none⟩ = some (.int .i64 xm) ∧ w.cell? ⟨W.heap.size, 6, none⟩ = some (.int .i64 xx) ∧ w.cell? ⟨W.heap.size, 7, none⟩ = some (.slice xA xn xc)) ∧ Below W.heap.size W w) → Below w.heap.size w w' → (Blk w' W.heap.size 36 (nodeC (NodeX.mk 1 xs xm xx xA xn xc xl)) ∧ (w'.cell? ⟨W.heap.size, 0, none⟩ = some (.int .i64 1) ∧ w'.cell? ⟨W.heap.size, 1, none⟩ = some (.int .u64 (word xs 0 : Nat)) ∧ w'.cell? ⟨W.heap.size, 2, none⟩ = some (.int .u64 (word xs 1 : Nat)) ∧ w'.cell? ⟨W.heap.size, 3, none⟩ = some (.int .u64 (word xs 2 : Nat)) ∧ w'.cell? ⟨W.heap.size, 4, none⟩ = some (.int .u64 (word xs 3 : Nat)) ∧ w'.cell? ⟨W.heap.size, 5, none⟩ = some (.int .i64 xm) ∧ w'.cell? ⟨W.heap.size, 6, none⟩ = some (.int .i64 xx) ∧ w'.cell? ⟨W.heap.size, 7, none⟩ = some (.slice xA xn xc)) ∧ Below W.heap.size W w') from fun w w' h hb => ⟨h.1.below hb h.1.lt, (node_cells (h.1.below hb h.1.lt)).1, hop h.2.2 (Nat.le_refl _) hb⟩)
          clear K0
          unfold nodeC nodeV
          simp only [NodeX.kind, NodeX.set, NodeX.mn, NodeX.mx, NodeX.A, NodeX.n, NodeX.c, NodeX.kids]
          go_enter Tryz.func20, Tryz.ntmps20
          go_wp2
          refine wp_region_held_drew (S := fun w' => (Blk w' W.heap.size 36 (nodeC (NodeX.mk 1 xs xm xx xA xn xc xl)) ∧ (w'.cell? ⟨W.heap.size, 0, none⟩ = some (.int .i64 1) ∧ w'.cell? ⟨W.heap.size, 1, none⟩ = some (.int .u64 (word xs 0 : Nat)) ∧ w'.cell? ⟨W.heap.size, 2, none⟩ = some (.int .u64 (word xs 1 : Nat)) ∧ w'.cell? ⟨W.heap.size, 3, none⟩ = some (.int .u64 (word xs 2 : Nat)) ∧ w'.cell? ⟨W.heap.size, 4, none⟩ = some (.int .u64 (word xs 3 : Nat)) ∧ w'.cell? ⟨W.heap.size, 5, none⟩ = some (.int .i64 xm) ∧ w'.cell? ⟨W.heap.size, 6, none⟩ = some (.int .i64 xx) ∧ w'.cell? ⟨W.heap.size, 7, none⟩ = some (.slice xA xn xc)) ∧ Below W.heap.size W w')) (by kernel_rfl) S0 (fun hHeld => ?_)
          refine wpAnyH_take (i := 0) (oi := { dst := some 5, op := Go.Op.fieldAddr 36 (Go.Operand.tmp 1) 1, type := 0, pos := "rex.go:74", after := #[], guard := none }) (v := ?_) rfl (by kernel_rfl) (by kernel_rfl) (by kernel_rfl) (fun _ _ _ h => h) (Or.inl ⟨by kernel_rfl, ?_⟩) (by assumption) ?_
          rotate_left
          · intro w _
            first | (go_simp; done) | (go_simp; with_reducible rfl)
          try simp only [Act.put, List.setIfInBounds_toArray, List.set_cons_zero, List.set_cons_succ]
          refine wpAnyH_take (i := 1) (oi := { dst := some 6, op := Go.Op.load 24 (Go.Operand.tmp 5), type := 24, pos := "rex.go:74", after := #[{ on := 0, ground := Go.Ground.data }], guard := none }) (v := ?_) rfl (by kernel_rfl) (by kernel_rfl) (by kernel_rfl) (fun _ _ _ h => h) (Or.inl ⟨by kernel_rfl, ?_⟩) (by assumption) ?_
          rotate_left
          · intro w hSw
            (try dsimp only at hSw)
            go_split_ands
            first | (go_simp; done) | (go_simp; with_reducible rfl)
          try simp only [Act.put, List.setIfInBounds_toArray, List.set_cons_zero, List.set_cons_succ]
          refine wpAnyH_take (i := 2) (oi := { dst := some 7, op := Go.Op.build 24 #[], type := 24, pos := "rex.go:74", after := #[], guard := none }) (v := ?_) rfl (by kernel_rfl) (by kernel_rfl) (by kernel_rfl) (fun _ _ _ h => h) (Or.inl ⟨by kernel_rfl, ?_⟩) (by assumption) ?_
          rotate_left
          · intro w _
            first | (go_simp; done) | (go_simp; with_reducible rfl)
          try simp only [Act.put, List.setIfInBounds_toArray, List.set_cons_zero, List.set_cons_succ]
          refine wpAnyH_take (i := 3) (oi := { dst := some 8, op := Go.Op.binOp Go.BinOp.neq 24 (Go.Operand.tmp 6) (Go.Operand.tmp 7) 24, type := 4, pos := "rex.go:74", after := #[{ on := 1, ground := Go.Ground.data }, { on := 2, ground := Go.Ground.data }], guard := none }) (v := ?_) rfl (by kernel_rfl) (by kernel_rfl) (by kernel_rfl) (fun _ _ _ h => h) (Or.inl ⟨by kernel_rfl, ?_⟩) (by assumption) ?_
          rotate_left
          · intro w _
            first | (go_simp; done) | (go_simp; with_reducible rfl)
          try simp only [Act.put, List.setIfInBounds_toArray, List.set_cons_zero, List.set_cons_succ]
          refine wpAnyH_take (i := 4) (oi := { dst := some 9, op := Go.Op.fieldAddr 36 (Go.Operand.tmp 1) 0, type := 0, pos := "rex.go:74", after := #[], guard := none }) (v := ?_) rfl (by kernel_rfl) (by kernel_rfl) (by kernel_rfl) (fun _ _ _ h => h) (Or.inl ⟨by kernel_rfl, ?_⟩) (by assumption) ?_
          rotate_left
          · intro w _
            first | (go_simp; done) | (go_simp; with_reducible rfl)
          try simp only [Act.put, List.setIfInBounds_toArray, List.set_cons_zero, List.set_cons_succ]
          refine wpAnyH_take (i := 5) (oi := { dst := some 10, op := Go.Op.load 3 (Go.Operand.tmp 9), type := 3, pos := "rex.go:74", after := #[{ on := 4, ground := Go.Ground.data }], guard := none }) (v := ?_) rfl (by kernel_rfl) (by kernel_rfl) (by kernel_rfl) (fun _ _ _ h => h) (Or.inl ⟨by kernel_rfl, ?_⟩) (by assumption) ?_
          rotate_left
          · intro w hSw
            (try dsimp only at hSw)
            go_split_ands
            first | (go_simp; done) | (go_simp; with_reducible rfl)
          try simp only [Act.put, List.setIfInBounds_toArray, List.set_cons_zero, List.set_cons_succ]
          refine wpAnyH_take (i := 6) (oi := { dst := some 11, op := Go.Op.binOp Go.BinOp.eql 3 (Go.Operand.tmp 10) (Go.Operand.const (Go.Value.int Go.IntKind.i64 1)) 3, type := 4, pos := "rex.go:74", after := #[{ on := 5, ground := Go.Ground.data }], guard := none }) (v := ?_) rfl (by kernel_rfl) (by kernel_rfl) (by kernel_rfl) (fun _ _ _ h => h) (Or.inl ⟨by kernel_rfl, ?_⟩) (by assumption) ?_
          rotate_left
          · intro w _
            first | (go_simp; done) | (go_simp; with_reducible rfl)
          try simp only [Act.put, List.setIfInBounds_toArray, List.set_cons_zero, List.set_cons_succ]
          refine wpAnyH_take (i := 7) (oi := { dst := some 12, op := Go.Op.binOp Go.BinOp.neq 4 (Go.Operand.tmp 8) (Go.Operand.tmp 11) 4, type := 4, pos := "rex.go:74", after := #[{ on := 3, ground := Go.Ground.data }, { on := 6, ground := Go.Ground.data }], guard := none }) (v := ?_) rfl (by kernel_rfl) (by kernel_rfl) (by kernel_rfl) (fun _ _ _ h => h) (Or.inl ⟨by kernel_rfl, ?_⟩) (by assumption) ?_
          rotate_left
          · intro w _
            first | (go_simp; done) | (go_simp; with_reducible rfl)
          try simp only [Act.put, List.setIfInBounds_toArray, List.set_cons_zero, List.set_cons_succ]
          refine wpAnyH_take (i := 8) (oi := { dst := some 13, op := Go.Op.move (Go.Operand.tmp 12), type := 4, pos := "rex.go:74", after := #[{ on := 7, ground := Go.Ground.data }], guard := none }) (v := ?_) rfl (by kernel_rfl) (by kernel_rfl) (by kernel_rfl) (fun _ _ _ h => h) (Or.inl ⟨by kernel_rfl, ?_⟩) (by assumption) ?_
          rotate_left
          · intro w _
            first | (go_simp; done) | (go_simp; with_reducible rfl)
          try simp only [Act.put, List.setIfInBounds_toArray, List.set_cons_zero, List.set_cons_succ]
          refine wpAnyH_take (i := 9) (oi := { dst := some 14, op := Go.Op.load 36 (Go.Operand.tmp 1), type := 36, pos := "rex.go:74", after := #[{ on := 8, ground := Go.Ground.guard }], guard := some (8, false) }) (v := ?_) rfl (by kernel_rfl) (by kernel_rfl) (by kernel_rfl) (fun _ _ _ h => h) (Or.inl ⟨by kernel_rfl, ?_⟩) (by assumption) ?_
          rotate_left
          · intro w hSw
            (try dsimp only at hSw)
            go_split_ands
            first | (go_simp; done) | (go_simp; with_reducible rfl)
          try simp only [Act.put, List.setIfInBounds_toArray, List.set_cons_zero, List.set_cons_succ]
          refine wpAnyH_ready (rs := [10]) (by kernel_rfl) (by simp) ?_
          refine AllReadyH.cons (o := { dst := some 15, op := Go.Op.call { callee := Go.Callee.value (Go.Operand.func 28), args := #[Go.Operand.tmp 14], argTypes := #[36] }, type := 4, pos := "rex.go:74", after := #[{ on := 9, ground := Go.Ground.data }, { on := 8, ground := Go.Ground.chain }, { on := 8, ground := Go.Ground.guard }], guard := some (8, false) }) rfl (fun K hK => ?_) AllReadyH.nil
          go_simp
          go_at_call 28
          refine (BO.out _).mono ?_
          rintro e wc1 ⟨rfl, hb3⟩
          have Sc1 := HS.out _ _ (by assumption) hb3
          refine hK.out _ _ Sc1 (fun _ => ?_)
          clear hK K hb3
          try simp only [Act.put, List.setIfInBounds_toArray, List.set_cons_zero, List.set_cons_succ]
          refine wpAnyH_take (i := 11) (oi := { dst := some 16, op := Go.Op.unOp Go.UnOp.not 4 (Go.Operand.tmp 15), type := 4, pos := "rex.go:74", after := #[{ on := 10, ground := Go.Ground.data }, { on := 8, ground := Go.Ground.guard }], guard := some (8, false) }) (v := ?_) rfl (by kernel_rfl) (by kernel_rfl) (by kernel_rfl) (fun _ _ _ h => h) (Or.inl ⟨by kernel_rfl, ?_⟩) (by assumption) ?_
          rotate_left
          · intro w _
            first | (go_simp; done) | (go_simp; with_reducible rfl)
          try simp only [Act.put, List.setIfInBounds_toArray, List.set_cons_zero, List.set_cons_succ]
          refine wpAnyH_take (i := 12) (oi := { dst := some 17, op := Go.Op.pick (Go.Operand.tmp 13) (Go.Operand.const (Go.Value.bool true)) (Go.Operand.tmp 16), type := 4, pos := "rex.go:74", after := #[{ on := 8, ground := Go.Ground.data }, { on := 11, ground := Go.Ground.data }], guard := none }) (v := ?_) rfl (by kernel_rfl) (by kernel_rfl) (by kernel_rfl) (fun _ _ _ h => h) (Or.inl ⟨by kernel_rfl, ?_⟩) (by assumption) ?_
          rotate_left
          · intro w _
            first | (go_simp; done) | (go_simp; with_reducible rfl)
          try simp only [Act.put, List.setIfInBounds_toArray, List.set_cons_zero, List.set_cons_succ]
          refine wpAnyH_take (i := 13) (oi := { dst := some 18, op := Go.Op.move (Go.Operand.tmp 17), type := 4, pos := "rex.go:74", after := #[{ on := 12, ground := Go.Ground.data }, { on := 10, ground := Go.Ground.chain }], guard := none }) (v := ?_) rfl (by kernel_rfl) (by kernel_rfl) (by kernel_rfl) (fun _ _ _ h => h) (Or.inl ⟨by kernel_rfl, ?_⟩) (by assumption) ?_
          rotate_left
          · intro w _
            first | (go_simp; done) | (go_simp; with_reducible rfl)
          try simp only [Act.put, List.setIfInBounds_toArray, List.set_cons_zero, List.set_cons_succ]
          refine wpAnyH_take (i := 14) (oi := { dst := some 19, op := Go.Op.load 36 (Go.Operand.tmp 1), type := 36, pos := "rex.go:74", after := #[{ on := 13, ground := Go.Ground.guard }], guard := some (13, false) }) (v := ?_) rfl (by kernel_rfl) (by kernel_rfl) (by kernel_rfl) (fun _ _ _ h => h) (Or.inl ⟨by kernel_rfl, ?_⟩) (by assumption) ?_
          rotate_left
          · intro w hSw
            (try dsimp only at hSw)
            go_split_ands
            first | (go_simp; done) | (go_simp; with_reducible rfl)
          try simp only [Act.put, List.setIfInBounds_toArray, List.set_cons_zero, List.set_cons_succ]
          refine wpAnyH_ready (rs := [15]) (by kernel_rfl) (by simp) ?_
          refine AllReadyH.cons (o := { dst := some 20, op := Go.Op.call { callee := Go.Callee.value (Go.Operand.func 29), args := #[Go.Operand.tmp 19], argTypes := #[36] }, type := 4, pos := "rex.go:74", after := #[{ on := 14, ground := Go.Ground.data }, { on := 13, ground := Go.Ground.chain }, { on := 13, ground := Go.Ground.guard }], guard := some (13, false) }) rfl (fun K hK => ?_) AllReadyH.nil
          go_simp
          go_at_call 29
          refine (KI.out _).mono ?_
          rintro e wc2 ⟨rfl, hb3⟩
          have Sc2 := HS.out _ _ (by assumption) hb3
          refine hK.out _ _ Sc2 (fun _ => ?_)
          clear hK K hb3
          try simp only [Act.put, List.setIfInBounds_toArray, List.set_cons_zero, List.set_cons_succ]
          refine wpAnyH_take (i := 16) (oi := { dst := some 21, op := Go.Op.unOp Go.UnOp.not 4 (Go.Operand.tmp 20), type := 4, pos := "rex.go:74", after := #[{ on := 15, ground := Go.Ground.data }, { on := 13, ground := Go.Ground.guard }], guard := some (13, false) }) (v := ?_) rfl (by kernel_rfl) (by kernel_rfl) (by kernel_rfl) (fun _ _ _ h => h) (Or.inl ⟨by kernel_rfl, ?_⟩) (by assumption) ?_
          rotate_left
          · intro w _
            first | (go_simp; done) | (go_simp; with_reducible rfl)
          try simp only [Act.put, List.setIfInBounds_toArray, List.set_cons_zero, List.set_cons_succ]
          refine wpAnyH_take (i := 17) (oi := { dst := some 22, op := Go.Op.pick (Go.Operand.tmp 18) (Go.Operand.const (Go.Value.bool true)) (Go.Operand.tmp 21), type := 4, pos := "rex.go:74", after := #[{ on := 13, ground := Go.Ground.data }, { on := 16, ground := Go.Ground.data }], guard := none }) (v := ?_) rfl (by kernel_rfl) (by kernel_rfl) (by kernel_rfl) (fun _ _ _ h => h) (Or.inl ⟨by kernel_rfl, ?_⟩) (by assumption) ?_
          rotate_left
          · intro w _
            first | (go_simp; done) | (go_simp; with_reducible rfl)
          try simp only [Act.put, List.setIfInBounds_toArray, List.set_cons_zero, List.set_cons_succ]
          refine wpAnyH_done (by kernel_rfl) ?_ _
          clear HS hHeld
          go_wp2
          go_ret
          first | exact ⟨rfl, Sc2.2.2⟩ | exact ⟨rfl, Sc1.2.2⟩ | exact ⟨rfl, S0.2.2⟩
        | true =>
          rw [Bool.true_and]
          have K0 : Blk (W.alloc (.cells (nodeC (NodeX.mk 1 xs xm xx xA xn xc xl)) 36)).drew W.heap.size 36 (nodeC (NodeX.mk 1 xs xm xx xA xn xc xl)) := (Blk.new W 36 (nodeC (NodeX.mk 1 xs xm xx xA xn xc xl))).drew
          have S0 : (Blk (W.alloc (.cells (nodeC (NodeX.mk 1 xs xm xx xA xn xc xl)) 36)).drew W.heap.size 36 (nodeC (NodeX.mk 1 xs xm xx xA xn xc xl)) ∧ ((W.alloc (.cells (nodeC (NodeX.mk 1 xs xm xx xA xn xc xl)) 36)).drew.cell? ⟨W.heap.size, 0, none⟩ = some (.int .i64 1) ∧ (W.alloc (.cells (nodeC (NodeX.mk 1 xs xm xx xA xn xc xl)) 36)).drew.cell? ⟨W.heap.size, 1, none⟩ = some (.int .u64 (word xs 0 : Nat)) ∧ (W.alloc (.cells (nodeC (NodeX.mk 1 xs xm xx xA xn xc xl)) 36)).drew.cell? ⟨W.heap.size, 2, none⟩ = some (.int .u64 (word xs 1 : Nat)) ∧ (W.alloc (.cells (nodeC (NodeX.mk 1 xs xm xx xA xn xc xl)) 36)).drew.cell? ⟨W.heap.size, 3, none⟩ = some (.int .u64 (word xs 2 : Nat)) ∧ (W.alloc (.cells (nodeC (NodeX.mk 1 xs xm xx xA xn xc xl)) 36)).drew.cell? ⟨W.heap.size, 4, none⟩ = some (.int .u64 (word xs 3 : Nat)) ∧ (W.alloc (.cells (nodeC (NodeX.mk 1 xs xm xx xA xn xc xl)) 36)).drew.cell? ⟨W.heap.size, 5, none⟩ = some (.int .i64 xm) ∧ (W.alloc (.cells (nodeC (NodeX.mk 1 xs xm xx xA xn xc xl)) 36)).drew.cell? ⟨W.heap.size, 6, none⟩ = some (.int .i64 xx) ∧ (W.alloc (.cells (nodeC (NodeX.mk 1 xs xm xx xA xn xc xl)) 36)).drew.cell? ⟨W.heap.size, 7, none⟩ = some (.slice xA xn xc)) ∧ Below W.heap.size W (W.alloc (.cells (nodeC (NodeX.mk 1 xs xm xx xA xn xc xl)) 36)).drew) := ⟨K0, (node_cells K0).1, below_drewN HB0.out 1⟩
          have HS := Lib.hid (show ∀ w w', (Blk w W.heap.size 36 (nodeC (NodeX.mk 1 xs xm xx xA xn xc xl)) ∧ (w.cell? ⟨W.heap.size, 0, none⟩ = some (.int .i64 1) ∧ w.cell? ⟨W.heap.size, 1, none⟩ = some (.int .u64 (word xs 0 : Nat)) ∧ w.cell? ⟨W.heap.size, 2, none⟩ = some (.int .u64 (word xs 1 : Nat)) ∧ w.cell? ⟨W.heap.size, 3, none⟩ = some (.int .u64 (word xs 2 : Nat)) ∧ w.cell? ⟨W.heap.size, 4, none⟩ = some (.int .u64 (word xs 3 : Nat)) ∧ w.cell? ⟨W.heap.size, 5, none⟩ = some (.int .i64 xm) ∧ w.cell? ⟨W.heap.size, 6, none⟩ = some (.int .i64 xx) ∧ w.cell? ⟨W.heap.size, 7, none⟩ = some (.slice xA xn xc)) ∧ Below W.heap.size W w) → Below w.heap.size w w' → (Blk w' W.heap.size 36 (nodeC (NodeX.mk 1 xs xm xx xA xn xc xl)) ∧ (w'.cell? ⟨W.heap.size, 0, none⟩ = some (.int .i64 1) ∧ w'.cell? ⟨W.heap.size, 1, none⟩ = some (.int .u64 (word xs 0 : Nat)) ∧ w'.cell? ⟨W.heap.size, 2, none⟩ = some (.int .u64 (word xs 1 : Nat)) ∧ w'.cell? ⟨W.heap.size, 3, none⟩ = some (.int .u64 (word xs 2 : Nat)) ∧ w'.cell? ⟨W.heap.size, 4, none⟩ = some (.int .u64 (word xs 3 : Nat)) ∧ w'.cell? ⟨W.heap.size, 5, none⟩ = some (.int .i64 xm) ∧ w'.cell? ⟨W.heap.size, 6, none⟩ = some (.int .i64 xx) ∧ w'.cell? ⟨W.heap.size, 7, none⟩ = some (.slice xA xn xc)) ∧ Below W.heap.size W w') from fun w w' h hb => ⟨h.1.below hb h.1.lt, (node_cells (h.1.below hb h.1.lt)).1, hop h.2.2 (Nat.le_refl _) hb⟩)
          clear K0
          unfold nodeC nodeV
          simp only [NodeX.kind, NodeX.set, NodeX.mn, NodeX.mx, NodeX.A, NodeX.n, NodeX.c, NodeX.kids]
          go_enter Tryz.func20, Tryz.ntmps20
          go_wp2
          refine wp_region_held_drew (S := fun w' => (Blk w' W.heap.size 36 (nodeC (NodeX.mk 1 xs xm xx xA xn xc xl)) ∧ (w'.cell? ⟨W.heap.size, 0, none⟩ = some (.int .i64 1) ∧ w'.cell? ⟨W.heap.size, 1, none⟩ = some (.int .u64 (word xs 0 : Nat)) ∧ w'.cell? ⟨W.heap.size, 2, none⟩ = some (.int .u64 (word xs 1 : Nat)) ∧ w'.cell? ⟨W.heap.size, 3, none⟩ = some (.int .u64 (word xs 2 : Nat)) ∧ w'.cell? ⟨W.heap.size, 4, none⟩ = some (.int .u64 (word xs 3 : Nat)) ∧ w'.cell? ⟨W.heap.size, 5, none⟩ = some (.int .i64 xm) ∧ w'.cell? ⟨W.heap.size, 6, none⟩ = some (.int .i64 xx) ∧ w'.cell? ⟨W.heap.size, 7, none⟩ = some (.slice xA xn xc)) ∧ Below W.heap.size W w')) (by kernel_rfl) S0 (fun hHeld => ?_)
          refine wpAnyH_take (i := 0) (oi := { dst := some 5, op := Go.Op.fieldAddr 36 (Go.Operand.tmp 1) 1, type := 0, pos := "rex.go:74", after := #[], guard := none }) (v := ?_) rfl (by kernel_rfl) (by kernel_rfl) (by kernel_rfl) (fun _ _ _ h => h) (Or.inl ⟨by kernel_rfl, ?_⟩) (by assumption) ?_
          rotate_left
          · intro w _
            first | (go_simp; done) | (go_simp; with_reducible rfl)
          try simp only [Act.put, List.setIfInBounds_toArray, List.set_cons_zero, List.set_cons_succ]
          refine wpAnyH_take (i := 1) (oi := { dst := some 6, op := Go.Op.load 24 (Go.Operand.tmp 5), type := 24, pos := "rex.go:74", after := #[{ on := 0, ground := Go.Ground.data }], guard := none }) (v := ?_) rfl (by kernel_rfl) (by kernel_rfl) (by kernel_rfl) (fun _ _ _ h => h) (Or.inl ⟨by kernel_rfl, ?_⟩) (by assumption) ?_
          rotate_left
          · intro w hSw
            (try dsimp only at hSw)
            go_split_ands
            first | (go_simp; done) | (go_simp; with_reducible rfl)
          try simp only [Act.put, List.setIfInBounds_toArray, List.set_cons_zero, List.set_cons_succ]
          refine wpAnyH_take (i := 2) (oi := { dst := some 7, op := Go.Op.build 24 #[], type := 24, pos := "rex.go:74", after := #[], guard := none }) (v := ?_) rfl (by kernel_rfl) (by kernel_rfl) (by kernel_rfl) (fun _ _ _ h => h) (Or.inl ⟨by kernel_rfl, ?_⟩) (by assumption) ?_
          rotate_left
          · intro w _
            first | (go_simp; done) | (go_simp; with_reducible rfl)
          try simp only [Act.put, List.setIfInBounds_toArray, List.set_cons_zero, List.set_cons_succ]
          refine wpAnyH_take (i := 3) (oi := { dst := some 8, op := Go.Op.binOp Go.BinOp.neq 24 (Go.Operand.tmp 6) (Go.Operand.tmp 7) 24, type := 4, pos := "rex.go:74", after := #[{ on := 1, ground := Go.Ground.data }, { on := 2, ground := Go.Ground.data }], guard := none }) (v := ?_) rfl (by kernel_rfl) (by kernel_rfl) (by kernel_rfl) (fun _ _ _ h => h) (Or.inl ⟨by kernel_rfl, ?_⟩) (by assumption) ?_
          rotate_left
          · intro w _
            first | (go_simp; done) | (go_simp; with_reducible rfl)
          try simp only [Act.put, List.setIfInBounds_toArray, List.set_cons_zero, List.set_cons_succ]
          refine wpAnyH_take (i := 4) (oi := { dst := some 9, op := Go.Op.fieldAddr 36 (Go.Operand.tmp 1) 0, type := 0, pos := "rex.go:74", after := #[], guard := none }) (v := ?_) rfl (by kernel_rfl) (by kernel_rfl) (by kernel_rfl) (fun _ _ _ h => h) (Or.inl ⟨by kernel_rfl, ?_⟩) (by assumption) ?_
          rotate_left
          · intro w _
            first | (go_simp; done) | (go_simp; with_reducible rfl)
          try simp only [Act.put, List.setIfInBounds_toArray, List.set_cons_zero, List.set_cons_succ]
          refine wpAnyH_take (i := 5) (oi := { dst := some 10, op := Go.Op.load 3 (Go.Operand.tmp 9), type := 3, pos := "rex.go:74", after := #[{ on := 4, ground := Go.Ground.data }], guard := none }) (v := ?_) rfl (by kernel_rfl) (by kernel_rfl) (by kernel_rfl) (fun _ _ _ h => h) (Or.inl ⟨by kernel_rfl, ?_⟩) (by assumption) ?_
          rotate_left
          · intro w hSw
            (try dsimp only at hSw)
            go_split_ands
            first | (go_simp; done) | (go_simp; with_reducible rfl)
          try simp only [Act.put, List.setIfInBounds_toArray, List.set_cons_zero, List.set_cons_succ]
          refine wpAnyH_take (i := 6) (oi := { dst := some 11, op := Go.Op.binOp Go.BinOp.eql 3 (Go.Operand.tmp 10) (Go.Operand.const (Go.Value.int Go.IntKind.i64 1)) 3, type := 4, pos := "rex.go:74", after := #[{ on := 5, ground := Go.Ground.data }], guard := none }) (v := ?_) rfl (by kernel_rfl) (by kernel_rfl) (by kernel_rfl) (fun _ _ _ h => h) (Or.inl ⟨by kernel_rfl, ?_⟩) (by assumption) ?_
          rotate_left
          · intro w _
            first | (go_simp; done) | (go_simp; with_reducible rfl)
          try simp only [Act.put, List.setIfInBounds_toArray, List.set_cons_zero, List.set_cons_succ]
          refine wpAnyH_take (i := 7) (oi := { dst := some 12, op := Go.Op.binOp Go.BinOp.neq 4 (Go.Operand.tmp 8) (Go.Operand.tmp 11) 4, type := 4, pos := "rex.go:74", after := #[{ on := 3, ground := Go.Ground.data }, { on := 6, ground := Go.Ground.data }], guard := none }) (v := ?_) rfl (by kernel_rfl) (by kernel_rfl) (by kernel_rfl) (fun _ _ _ h => h) (Or.inl ⟨by kernel_rfl, ?_⟩) (by assumption) ?_
          rotate_left
          · intro w _
            first | (go_simp; done) | (go_simp; with_reducible rfl)
          try simp only [Act.put, List.setIfInBounds_toArray, List.set_cons_zero, List.set_cons_succ]
          refine wpAnyH_take (i := 8) (oi := { dst := some 13, op := Go.Op.move (Go.Operand.tmp 12), type := 4, pos := "rex.go:74", after := #[{ on := 7, ground := Go.Ground.data }], guard := none }) (v := ?_) rfl (by kernel_rfl) (by kernel_rfl) (by kernel_rfl) (fun _ _ _ h => h) (Or.inl ⟨by kernel_rfl, ?_⟩) (by assumption) ?_
          rotate_left
          · intro w _
            first | (go_simp; done) | (go_simp; with_reducible rfl)
          try simp only [Act.put, List.setIfInBounds_toArray, List.set_cons_zero, List.set_cons_succ]
          refine wpAnyH_take (i := 9) (oi := { dst := some 14, op := Go.Op.load 36 (Go.Operand.tmp 1), type := 36, pos := "rex.go:74", after := #[{ on := 8, ground := Go.Ground.guard }], guard := some (8, false) }) (v := ?_) rfl (by kernel_rfl) (by kernel_rfl) (by kernel_rfl) (fun _ _ _ h => h) (Or.inl ⟨by kernel_rfl, ?_⟩) (by assumption) ?_
          rotate_left
          · intro w hSw
            (try dsimp only at hSw)
            go_split_ands
            first | (go_simp; done) | (go_simp; with_reducible rfl)
          try simp only [Act.put, List.setIfInBounds_toArray, List.set_cons_zero, List.set_cons_succ]
          refine wpAnyH_ready (rs := [10]) (by kernel_rfl) (by simp) ?_
          refine AllReadyH.cons (o := { dst := some 15, op := Go.Op.call { callee := Go.Callee.value (Go.Operand.func 28), args := #[Go.Operand.tmp 14], argTypes := #[36] }, type := 4, pos := "rex.go:74", after := #[{ on := 9, ground := Go.Ground.data }, { on := 8, ground := Go.Ground.chain }, { on := 8, ground := Go.Ground.guard }], guard := some (8, false) }) rfl (fun K hK => ?_) AllReadyH.nil
          go_simp
          go_at_call 28
          refine (BO.out _).mono ?_
          rintro e wc1 ⟨rfl, hb3⟩
          have Sc1 := HS.out _ _ (by assumption) hb3
          refine hK.out _ _ Sc1 (fun _ => ?_)
          clear hK K hb3
          try simp only [Act.put, List.setIfInBounds_toArray, List.set_cons_zero, List.set_cons_succ]
          refine wpAnyH_take (i := 11) (oi := { dst := some 16, op := Go.Op.unOp Go.UnOp.not 4 (Go.Operand.tmp 15), type := 4, pos := "rex.go:74", after := #[{ on := 10, ground := Go.Ground.data }, { on := 8, ground := Go.Ground.guard }], guard := some (8, false) }) (v := ?_) rfl (by kernel_rfl) (by kernel_rfl) (by kernel_rfl) (fun _ _ _ h => h) (Or.inl ⟨by kernel_rfl, ?_⟩) (by assumption) ?_
          rotate_left
          · intro w _
            first | (go_simp; done) | (go_simp; with_reducible rfl)
          try simp only [Act.put, List.setIfInBounds_toArray, List.set_cons_zero, List.set_cons_succ]
          refine wpAnyH_take (i := 12) (oi := { dst := some 17, op := Go.Op.pick (Go.Operand.tmp 13) (Go.Operand.const (Go.Value.bool true)) (Go.Operand.tmp 16), type := 4, pos := "rex.go:74", after := #[{ on := 8, ground := Go.Ground.data }, { on := 11, ground := Go.Ground.data }], guard := none }) (v := ?_) rfl (by kernel_rfl) (by kernel_rfl) (by kernel_rfl) (fun _ _ _ h => h) (Or.inl ⟨by kernel_rfl, ?_⟩) (by assumption) ?_
          rotate_left
          · intro w _
            first | (go_simp; done) | (go_simp; with_reducible rfl)
          try simp only [Act.put, List.setIfInBounds_toArray, List.set_cons_zero, List.set_cons_succ]
          refine wpAnyH_take (i := 13) (oi := { dst := some 18, op := Go.Op.move (Go.Operand.tmp 17), type := 4, pos := "rex.go:74", after := #[{ on := 12, ground := Go.Ground.data }, { on := 10, ground := Go.Ground.chain }], guard := none }) (v := ?_) rfl (by kernel_rfl) (by kernel_rfl) (by kernel_rfl) (fun _ _ _ h => h) (Or.inl ⟨by kernel_rfl, ?_⟩) (by assumption) ?_
          rotate_left
          · intro w _
            first | (go_simp; done) | (go_simp; with_reducible rfl)
          try simp only [Act.put, List.setIfInBounds_toArray, List.set_cons_zero, List.set_cons_succ]
          refine wpAnyH_take (i := 14) (oi := { dst := some 19, op := Go.Op.load 36 (Go.Operand.tmp 1), type := 36, pos := "rex.go:74", after := #[{ on := 13, ground := Go.Ground.guard }], guard := some (13, false) }) (v := ?_) rfl (by kernel_rfl) (by kernel_rfl) (by kernel_rfl) (fun _ _ _ h => h) (Or.inl ⟨by kernel_rfl, ?_⟩) (by assumption) ?_
          rotate_left
          · intro w hSw
            (try dsimp only at hSw)
            go_split_ands
            first | (go_simp; done) | (go_simp; with_reducible rfl)
          try simp only [Act.put, List.setIfInBounds_toArray, List.set_cons_zero, List.set_cons_succ]
          refine wpAnyH_ready (rs := [15]) (by kernel_rfl) (by simp) ?_
          refine AllReadyH.cons (o := { dst := some 20, op := Go.Op.call { callee := Go.Callee.value (Go.Operand.func 29), args := #[Go.Operand.tmp 19], argTypes := #[36] }, type := 4, pos := "rex.go:74", after := #[{ on := 14, ground := Go.Ground.data }, { on := 13, ground := Go.Ground.chain }, { on := 13, ground := Go.Ground.guard }], guard := some (13, false) }) rfl (fun K hK => ?_) AllReadyH.nil
          go_simp
          go_at_call 29
          refine (KI.out _).mono ?_
          rintro e wc2 ⟨rfl, hb3⟩
          have Sc2 := HS.out _ _ (by assumption) hb3
          refine hK.out _ _ Sc2 (fun _ => ?_)
          clear hK K hb3
          try simp only [Act.put, List.setIfInBounds_toArray, List.set_cons_zero, List.set_cons_succ]
          refine wpAnyH_take (i := 16) (oi := { dst := some 21, op := Go.Op.unOp Go.UnOp.not 4 (Go.Operand.tmp 20), type := 4, pos := "rex.go:74", after := #[{ on := 15, ground := Go.Ground.data }, { on := 13, ground := Go.Ground.guard }], guard := some (13, false) }) (v := ?_) rfl (by kernel_rfl) (by kernel_rfl) (by kernel_rfl) (fun _ _ _ h => h) (Or.inl ⟨by kernel_rfl, ?_⟩) (by assumption) ?_
          rotate_left
          · intro w _
            first | (go_simp; done) | (go_simp; with_reducible rfl)
          try simp only [Act.put, List.setIfInBounds_toArray, List.set_cons_zero, List.set_cons_succ]
          refine wpAnyH_take (i := 17) (oi := { dst := some 22, op := Go.Op.pick (Go.Operand.tmp 18) (Go.Operand.const (Go.Value.bool true)) (Go.Operand.tmp 21), type := 4, pos := "rex.go:74", after := #[{ on := 13, ground := Go.Ground.data }, { on := 16, ground := Go.Ground.data }], guard := none }) (v := ?_) rfl (by kernel_rfl) (by kernel_rfl) (by kernel_rfl) (fun _ _ _ h => h) (Or.inl ⟨by kernel_rfl, ?_⟩) (by assumption) ?_
          rotate_left
          · intro w _
            first | (go_simp; done) | (go_simp; with_reducible rfl)
          try simp only [Act.put, List.setIfInBounds_toArray, List.set_cons_zero, List.set_cons_succ]
          refine wpAnyH_done (by kernel_rfl) ?_ _
          have HB2 := Lib.hid Sc2.2.2
          have e7 := Sc2.2.1.2.2.2.2.2.2.2
          clear S0 Sc1 Sc2 HS hHeld BO KI
          go_wp2
          clear e7
          go_loopw [26] (fun iv wr => ∃ (j : Nat), j ≤ xn ∧ iv = .int .i64 (j : Nat) ∧ Hid (rightsT ((xl.drop j).map NodeX.t) = F) ∧ Hid (Below W.heap.size W wr)) (fun iv _ => xn - (intOf iv).toNat)
          case atStart => exact ⟨0, Nat.zero_le _, rfl, HF, HB2⟩
          case round =>
            obtain ⟨j, hj, rfl, HT, HB⟩ := hrel
            by_cases h : j < xn
            · have hI : (j : Int) < xn := by omega
              obtain ⟨b, off, rfl, hlt, hc⟩ := HRX.out.2 (by omega)
              have hjl : j < xl.length := by omega
              obtain ⟨p, hp⟩ : ∃ p, xl[j]? = some p := ⟨xl[j], List.getElem?_eq_getElem hjl⟩
              have hpl : p ∈ xl := List.mem_of_getElem? hp
              have hdr : xl.drop j = p :: xl.drop (j + 1) := by
                rw [List.drop_eq_getElem_cons hjl]
                congr 1
                rw [List.getElem?_eq_getElem hjl] at hp
                injection hp
              have c0 := (HB.out.cell (p := ⟨b, off + j * 8 + 0, none⟩) hlt).trans (hc j 0 p hp (by decide))
              have c1 := (HB.out.cell (p := ⟨b, off + j * 8 + 1, none⟩) hlt).trans (hc j 1 p hp (by decide))
              have c2 := (HB.out.cell (p := ⟨b, off + j * 8 + 2, none⟩) hlt).trans (hc j 2 p hp (by decide))
              have c3 := (HB.out.cell (p := ⟨b, off + j * 8 + 3, none⟩) hlt).trans (hc j 3 p hp (by decide))
              have c4 := (HB.out.cell (p := ⟨b, off + j * 8 + 4, none⟩) hlt).trans (hc j 4 p hp (by decide))
              have c5 := (HB.out.cell (p := ⟨b, off + j * 8 + 5, none⟩) hlt).trans (hc j 5 p hp (by decide))
              have c6 := (HB.out.cell (p := ⟨b, off + j * 8 + 6, none⟩) hlt).trans (hc j 6 p hp (by decide))
              have c7 := (HB.out.cell (p := ⟨b, off + j * 8 + 7, none⟩) hlt).trans (hc j 7 p hp (by decide))
              rw [Nat.add_zero] at c0
              simp only [nodeV, List.getElem?_cons_zero, List.getElem?_cons_succ] at c0 c1 c2 c3 c4 c5 c6 c7
              have ht := HT.out
              rw [hdr, List.map_cons, rightsT_cons] at ht
              have hWs := HB.out.size
              clear hc hp hdr
              have SX := HSS.out p hpl P (wr.alloc (.cells (nodeC p) 36)) (((HKX.out p hpl).later HB.out).alloc _)
              obtain ⟨r, hr⟩ : ∃ r, rightT p.t = r := ⟨_, rfl⟩
              rw [hr] at SX ht
              replace SX := Lib.hid SX
              have K1 := Blk.new wr 36 (nodeC p)
              obtain ⟨⟨a0, a1, a2, a3, a4, a5, a6, a7⟩, _⟩ := node_cells K1
              have HT2 := Lib.hid ht
              clear ht hr K1 HRX HKX HSS
              go_wp2_with fail
              refine SX.out.mono ?_
              rintro e w2 ⟨rfl, hx⟩
              have HB3 := Lib.hid (hop (HB.out.alloc hWs (.cells (nodeC p) 36)) (Nat.le_refl _) hx)
              clear hx
              cases r with
              | false =>
                have ht := HT2.out
                rw [Bool.false_and] at ht
                subst ht
                go_wp2
                go_ret
                exact ⟨rfl, HB3.out⟩
              | true =>
                have ht := HT2.out
                rw [Bool.true_and] at ht
                have HT3 := Lib.hid ht
                clear ht
                go_wp2
                go_round
                case rel => exact ⟨j + 1, by omega, by go_num, HT3, HB3⟩
                case measure => simp [intOf]; omega
            · obtain rfl : j = xn := by omega
              have hI : ¬ (j : Int) < (j : Int) := by omega
              have ht := HT.out
              rw [List.drop_of_length_le (by omega), List.map_nil, rightsT_nil] at ht
              subst ht
              go_wp2
              go_ret
              exact ⟨rfl, HB.out⟩
    · have hk' : (xk == 1) = false := by rw [beq_eq_false_iff_ne]; exact hk
      rw [decide_eq_false hk]
      rw [show (false != false) = false from rfl, Bool.false_and]
      have K0 : Blk (W.alloc (.cells (nodeC (NodeX.mk xk xs xm xx xA xn xc xl)) 36)).drew W.heap.size 36 (nodeC (NodeX.mk xk xs xm xx xA xn xc xl)) := (Blk.new W 36 (nodeC (NodeX.mk xk xs xm xx xA xn xc xl))).drew
      have S0 : (Blk (W.alloc (.cells (nodeC (NodeX.mk xk xs xm xx xA xn xc xl)) 36)).drew W.heap.size 36 (nodeC (NodeX.mk xk xs xm xx xA xn xc xl)) ∧ ((W.alloc (.cells (nodeC (NodeX.mk xk xs xm xx xA xn xc xl)) 36)).drew.cell? ⟨W.heap.size, 0, none⟩ = some (.int .i64 xk) ∧ (W.alloc (.cells (nodeC (NodeX.mk xk xs xm xx xA xn xc xl)) 36)).drew.cell? ⟨W.heap.size, 1, none⟩ = some (.int .u64 (word xs 0 : Nat)) ∧ (W.alloc (.cells (nodeC (NodeX.mk xk xs xm xx xA xn xc xl)) 36)).drew.cell? ⟨W.heap.size, 2, none⟩ = some (.int .u64 (word xs 1 : Nat)) ∧ (W.alloc (.cells (nodeC (NodeX.mk xk xs xm xx xA xn xc xl)) 36)).drew.cell? ⟨W.heap.size, 3, none⟩ = some (.int .u64 (word xs 2 : Nat)) ∧ (W.alloc (.cells (nodeC (NodeX.mk xk xs xm xx xA xn xc xl)) 36)).drew.cell? ⟨W.heap.size, 4, none⟩ = some (.int .u64 (word xs 3 : Nat)) ∧ (W.alloc (.cells (nodeC (NodeX.mk xk xs xm xx xA xn xc xl)) 36)).drew.cell? ⟨W.heap.size, 5, none⟩ = some (.int .i64 xm) ∧ (W.alloc (.cells (nodeC (NodeX.mk xk xs xm xx xA xn xc xl)) 36)).drew.cell? ⟨W.heap.size, 6, none⟩ = some (.int .i64 xx) ∧ (W.alloc (.cells (nodeC (NodeX.mk xk xs xm xx xA xn xc xl)) 36)).drew.cell? ⟨W.heap.size, 7, none⟩ = some (.slice xA xn xc)) ∧ Below W.heap.size W (W.alloc (.cells (nodeC (NodeX.mk xk xs xm xx xA xn xc xl)) 36)).drew) := ⟨K0, (node_cells K0).1, below_drewN HB0.out 1⟩
      have HS := Lib.hid (show ∀ w w', (Blk w W.heap.size 36 (nodeC (NodeX.mk xk xs xm xx xA xn xc xl)) ∧ (w.cell? ⟨W.heap.size, 0, none⟩ = some (.int .i64 xk) ∧ w.cell? ⟨W.heap.size, 1, none⟩ = some (.int .u64 (word xs 0 : Nat)) ∧ w.cell? ⟨W.heap.size, 2, none⟩ = some (.int .u64 (word xs 1 : Nat)) ∧ w.cell? ⟨W.heap.size, 3, none⟩ = some (.int .u64 (word xs 2 : Nat)) ∧ w.cell? ⟨W.heap.size, 4, none⟩ = some (.int .u64 (word xs 3 : Nat)) ∧ w.cell? ⟨W.heap.size, 5, none⟩ = some (.int .i64 xm) ∧ w.cell? ⟨W.heap.size, 6, none⟩ = some (.int .i64 xx) ∧ w.cell? ⟨W.heap.size, 7, none⟩ = some (.slice xA xn xc)) ∧ Below W.heap.size W w) → Below w.heap.size w w' → (Blk w' W.heap.size 36 (nodeC (NodeX.mk xk xs xm xx xA xn xc xl)) ∧ (w'.cell? ⟨W.heap.size, 0, none⟩ = some (.int .i64 xk) ∧ w'.cell? ⟨W.heap.size, 1, none⟩ = some (.int .u64 (word xs 0 : Nat)) ∧ w'.cell? ⟨W.heap.size, 2, none⟩ = some (.int .u64 (word xs 1 : Nat)) ∧ w'.cell? ⟨W.heap.size, 3, none⟩ = some (.int .u64 (word xs 2 : Nat)) ∧ w'.cell? ⟨W.heap.size, 4, none⟩ = some (.int .u64 (word xs 3 : Nat)) ∧ w'.cell? ⟨W.heap.size, 5, none⟩ = some (.int .i64 xm) ∧ w'.cell? ⟨W.heap.size, 6, none⟩ = some (.int .i64 xx) ∧ w'.cell? ⟨W.heap.size, 7, none⟩ = some (.slice xA xn xc)) ∧ Below W.heap.size W w') from fun w w' h hb => ⟨h.1.below hb h.1.lt, (node_cells (h.1.below hb h.1.lt)).1, hop h.2.2 (Nat.le_refl _) hb⟩)
      clear K0
      unfold nodeC nodeV
      simp only [NodeX.kind, NodeX.set, NodeX.mn, NodeX.mx, NodeX.A, NodeX.n, NodeX.c, NodeX.kids]
      go_enter Tryz.func20, Tryz.ntmps20
      go_wp2
      refine wp_region_held_drew (S := fun w' => (Blk w' W.heap.size 36 (nodeC (NodeX.mk xk xs xm xx xA xn xc xl)) ∧ (w'.cell? ⟨W.heap.size, 0, none⟩ = some (.int .i64 xk) ∧ w'.cell? ⟨W.heap.size, 1, none⟩ = some (.int .u64 (word xs 0 : Nat)) ∧ w'.cell? ⟨W.heap.size, 2, none⟩ = some (.int .u64 (word xs 1 : Nat)) ∧ w'.cell? ⟨W.heap.size, 3, none⟩ = some (.int .u64 (word xs 2 : Nat)) ∧ w'.cell? ⟨W.heap.size, 4, none⟩ = some (.int .u64 (word xs 3 : Nat)) ∧ w'.cell? ⟨W.heap.size, 5, none⟩ = some (.int .i64 xm) ∧ w'.cell? ⟨W.heap.size, 6, none⟩ = some (.int .i64 xx) ∧ w'.cell? ⟨W.heap.size, 7, none⟩ = some (.slice xA xn xc)) ∧ Below W.heap.size W w')) (by kernel_rfl) S0 (fun hHeld => ?_)
      refine wpAnyH_take (i := 0) (oi := { dst := some 5, op := Go.Op.fieldAddr 36 (Go.Operand.tmp 1) 1, type := 0, pos := "rex.go:74", after := #[], guard := none }) (v := ?_) rfl (by kernel_rfl) (by kernel_rfl) (by kernel_rfl) (fun _ _ _ h => h) (Or.inl ⟨by kernel_rfl, ?_⟩) (by assumption) ?_
      rotate_left
      · intro w _
        first | (go_simp; done) | (go_simp; with_reducible rfl)
      try simp only [Act.put, List.setIfInBounds_toArray, List.set_cons_zero, List.set_cons_succ]
      refine wpAnyH_take (i := 1) (oi := { dst := some 6, op := Go.Op.load 24 (Go.Operand.tmp 5), type := 24, pos := "rex.go:74", after := #[{ on := 0, ground := Go.Ground.data }], guard := none }) (v := ?_) rfl (by kernel_rfl) (by kernel_rfl) (by kernel_rfl) (fun _ _ _ h => h) (Or.inl ⟨by kernel_rfl, ?_⟩) (by assumption) ?_
      rotate_left
      · intro w hSw
        (try dsimp only at hSw)
        go_split_ands
        first | (go_simp; done) | (go_simp; with_reducible rfl)
      try simp only [Act.put, List.setIfInBounds_toArray, List.set_cons_zero, List.set_cons_succ]
      refine wpAnyH_take (i := 2) (oi := { dst := some 7, op := Go.Op.build 24 #[], type := 24, pos := "rex.go:74", after := #[], guard := none }) (v := ?_) rfl (by kernel_rfl) (by kernel_rfl) (by kernel_rfl) (fun _ _ _ h => h) (Or.inl ⟨by kernel_rfl, ?_⟩) (by assumption) ?_
      rotate_left
      · intro w _
        first | (go_simp; done) | (go_simp; with_reducible rfl)
      try simp only [Act.put, List.setIfInBounds_toArray, List.set_cons_zero, List.set_cons_succ]
      refine wpAnyH_take (i := 3) (oi := { dst := some 8, op := Go.Op.binOp Go.BinOp.neq 24 (Go.Operand.tmp 6) (Go.Operand.tmp 7) 24, type := 4, pos := "rex.go:74", after := #[{ on := 1, ground := Go.Ground.data }, { on := 2, ground := Go.Ground.data }], guard := none }) (v := ?_) rfl (by kernel_rfl) (by kernel_rfl) (by kernel_rfl) (fun _ _ _ h => h) (Or.inl ⟨by kernel_rfl, ?_⟩) (by assumption) ?_
      rotate_left
      · intro w _
        first | (go_simp; done) | (go_simp; with_reducible rfl)
      try simp only [Act.put, List.setIfInBounds_toArray, List.set_cons_zero, List.set_cons_succ]
      refine wpAnyH_take (i := 4) (oi := { dst := some 9, op := Go.Op.fieldAddr 36 (Go.Operand.tmp 1) 0, type := 0, pos := "rex.go:74", after := #[], guard := none }) (v := ?_) rfl (by kernel_rfl) (by kernel_rfl) (by kernel_rfl) (fun _ _ _ h => h) (Or.inl ⟨by kernel_rfl, ?_⟩) (by assumption) ?_
      rotate_left
      · intro w _
        first | (go_simp; done) | (go_simp; with_reducible rfl)
      try simp only [Act.put, List.setIfInBounds_toArray, List.set_cons_zero, List.set_cons_succ]
      refine wpAnyH_take (i := 5) (oi := { dst := some 10, op := Go.Op.load 3 (Go.Operand.tmp 9), type := 3, pos := "rex.go:74", after := #[{ on := 4, ground := Go.Ground.data }], guard := none }) (v := ?_) rfl (by kernel_rfl) (by kernel_rfl) (by kernel_rfl) (fun _ _ _ h => h) (Or.inl ⟨by kernel_rfl, ?_⟩) (by assumption) ?_
      rotate_left
      · intro w hSw
        (try dsimp only at hSw)
        go_split_ands
        first | (go_simp; done) | (go_simp; with_reducible rfl)
      try simp only [Act.put, List.setIfInBounds_toArray, List.set_cons_zero, List.set_cons_succ]
      refine wpAnyH_take (i := 6) (oi := { dst := some 11, op := Go.Op.binOp Go.BinOp.eql 3 (Go.Operand.tmp 10) (Go.Operand.const (Go.Value.int Go.IntKind.i64 1)) 3, type := 4, pos := "rex.go:74", after := #[{ on := 5, ground := Go.Ground.data }], guard := none }) (v := ?_) rfl (by kernel_rfl) (by kernel_rfl) (by kernel_rfl) (fun _ _ _ h => h) (Or.inl ⟨by kernel_rfl, ?_⟩) (by assumption) ?_
      rotate_left
      · intro w _
        first | (go_simp; done) | (go_simp; with_reducible rfl)
      try simp only [Act.put, List.setIfInBounds_toArray, List.set_cons_zero, List.set_cons_succ]
      refine wpAnyH_take (i := 7) (oi := { dst := some 12, op := Go.Op.binOp Go.BinOp.neq 4 (Go.Operand.tmp 8) (Go.Operand.tmp 11) 4, type := 4, pos := "rex.go:74", after := #[{ on := 3, ground := Go.Ground.data }, { on := 6, ground := Go.Ground.data }], guard := none }) (v := ?_) rfl (by kernel_rfl) (by kernel_rfl) (by kernel_rfl) (fun _ _ _ h => h) (Or.inl ⟨by kernel_rfl, ?_⟩) (by assumption) ?_
      rotate_left
      · intro w _
        first | (go_simp; done) | (go_simp; with_reducible rfl)
      try simp only [Act.put, List.setIfInBounds_toArray, List.set_cons_zero, List.set_cons_succ]
      refine wpAnyH_take (i := 8) (oi := { dst := some 13, op := Go.Op.move (Go.Operand.tmp 12), type := 4, pos := "rex.go:74", after := #[{ on := 7, ground := Go.Ground.data }], guard := none }) (v := ?_) rfl (by kernel_rfl) (by kernel_rfl) (by kernel_rfl) (fun _ _ _ h => h) (Or.inl ⟨by kernel_rfl, ?_⟩) (by assumption) ?_
      rotate_left
      · intro w _
        first | (go_simp; done) | (go_simp; with_reducible rfl)
      try simp only [Act.put, List.setIfInBounds_toArray, List.set_cons_zero, List.set_cons_succ]
      refine wpAnyH_take (i := 9) (oi := { dst := some 14, op := Go.Op.load 36 (Go.Operand.tmp 1), type := 36, pos := "rex.go:74", after := #[{ on := 8, ground := Go.Ground.guard }], guard := some (8, false) }) (v := undef) rfl (by kernel_rfl) (by kernel_rfl) (by kernel_rfl) (fun _ _ _ h => h) (Or.inr ⟨by kernel_rfl, rfl⟩) (by assumption) ?_
      try simp only [Act.put, List.setIfInBounds_toArray, List.set_cons_zero, List.set_cons_succ]
      refine wpAnyH_take (i := 10) (oi := { dst := some 15, op := Go.Op.call { callee := Go.Callee.value (Go.Operand.func 28), args := #[Go.Operand.tmp 14], argTypes := #[36] }, type := 4, pos := "rex.go:74", after := #[{ on := 9, ground := Go.Ground.data }, { on := 8, ground := Go.Ground.chain }, { on := 8, ground := Go.Ground.guard }], guard := some (8, false) }) (v := undef) rfl (by kernel_rfl) (by kernel_rfl) (by kernel_rfl) (fun _ _ _ h => h) (Or.inr ⟨by kernel_rfl, rfl⟩) (by assumption) ?_
      try simp only [Act.put, List.setIfInBounds_toArray, List.set_cons_zero, List.set_cons_succ]
      refine wpAnyH_take (i := 11) (oi := { dst := some 16, op := Go.Op.unOp Go.UnOp.not 4 (Go.Operand.tmp 15), type := 4, pos := "rex.go:74", after := #[{ on := 10, ground := Go.Ground.data }, { on := 8, ground := Go.Ground.guard }], guard := some (8, false) }) (v := undef) rfl (by kernel_rfl) (by kernel_rfl) (by kernel_rfl) (fun _ _ _ h => h) (Or.inr ⟨by kernel_rfl, rfl⟩) (by assumption) ?_
      try simp only [Act.put, List.setIfInBounds_toArray, List.set_cons_zero, List.set_cons_succ]
      refine wpAnyH_take (i := 12) (oi := { dst := some 17, op := Go.Op.pick (Go.Operand.tmp 13) (Go.Operand.const (Go.Value.bool true)) (Go.Operand.tmp 16), type := 4, pos := "rex.go:74", after := #[{ on := 8, ground := Go.Ground.data }, { on := 11, ground := Go.Ground.data }], guard := none }) (v := ?_) rfl (by kernel_rfl) (by kernel_rfl) (by kernel_rfl) (fun _ _ _ h => h) (Or.inl ⟨by kernel_rfl, ?_⟩) (by assumption) ?_
      rotate_left
      · intro w _
        first | (go_simp; done) | (go_simp; with_reducible rfl)
      try simp only [Act.put, List.setIfInBounds_toArray, List.set_cons_zero, List.set_cons_succ]
      refine wpAnyH_take (i := 13) (oi := { dst := some 18, op := Go.Op.move (Go.Operand.tmp 17), type := 4, pos := "rex.go:74", after := #[{ on := 12, ground := Go.Ground.data }, { on := 10, ground := Go.Ground.chain }], guard := none }) (v := ?_) rfl (by kernel_rfl) (by kernel_rfl) (by kernel_rfl) (fun _ _ _ h => h) (Or.inl ⟨by kernel_rfl, ?_⟩) (by assumption) ?_
      rotate_left
      · intro w _
        first | (go_simp; done) | (go_simp; with_reducible rfl)
      try simp only [Act.put, List.setIfInBounds_toArray, List.set_cons_zero, List.set_cons_succ]
      refine wpAnyH_take (i := 14) (oi := { dst := some 19, op := Go.Op.load 36 (Go.Operand.tmp 1), type := 36, pos := "rex.go:74", after := #[{ on := 13, ground := Go.Ground.guard }], guard := some (13, false) }) (v := undef) rfl (by kernel_rfl) (by kernel_rfl) (by kernel_rfl) (fun _ _ _ h => h) (Or.inr ⟨by kernel_rfl, rfl⟩) (by assumption) ?_
      try simp only [Act.put, List.setIfInBounds_toArray, List.set_cons_zero, List.set_cons_succ]
      refine wpAnyH_take (i := 15) (oi := { dst := some 20, op := Go.Op.call { callee := Go.Callee.value (Go.Operand.func 29), args := #[Go.Operand.tmp 19], argTypes := #[36] }, type := 4, pos := "rex.go:74", after := #[{ on := 14, ground := Go.Ground.data }, { on := 13, ground := Go.Ground.chain }, { on := 13, ground := Go.Ground.guard }], guard := some (13, false) }) (v := undef) rfl (by kernel_rfl) (by kernel_rfl) (by kernel_rfl) (fun _ _ _ h => h) (Or.inr ⟨by kernel_rfl, rfl⟩) (by assumption) ?_
      try simp only [Act.put, List.setIfInBounds_toArray, List.set_cons_zero, List.set_cons_succ]
      refine wpAnyH_take (i := 16) (oi := { dst := some 21, op := Go.Op.unOp Go.UnOp.not 4 (Go.Operand.tmp 20), type := 4, pos := "rex.go:74", after := #[{ on := 15, ground := Go.Ground.data }, { on := 13, ground := Go.Ground.guard }], guard := some (13, false) }) (v := undef) rfl (by kernel_rfl) (by kernel_rfl) (by kernel_rfl) (fun _ _ _ h => h) (Or.inr ⟨by kernel_rfl, rfl⟩) (by assumption) ?_
      try simp only [Act.put, List.setIfInBounds_toArray, List.set_cons_zero, List.set_cons_succ]
      refine wpAnyH_take (i := 17) (oi := { dst := some 22, op := Go.Op.pick (Go.Operand.tmp 18) (Go.Operand.const (Go.Value.bool true)) (Go.Operand.tmp 21), type := 4, pos := "rex.go:74", after := #[{ on := 13, ground := Go.Ground.data }, { on := 16, ground := Go.Ground.data }], guard := none }) (v := ?_) rfl (by kernel_rfl) (by kernel_rfl) (by kernel_rfl) (fun _ _ _ h => h) (Or.inl ⟨by kernel_rfl, ?_⟩) (by assumption) ?_
      rotate_left
      · intro w _
        first | (go_simp; done) | (go_simp; with_reducible rfl)
      try simp only [Act.put, List.setIfInBounds_toArray, List.set_cons_zero, List.set_cons_succ]
      refine wpAnyH_done (by kernel_rfl) ?_ _
      clear HS hHeld
      go_wp2
      go_ret
      first | exact ⟨rfl, Sc2.2.2⟩ | exact ⟨rfl, Sc1.2.2⟩ | exact ⟨rfl, S0.2.2⟩
theorem right_all : ∀ (m : Nat) (x : NodeX), SizeOf.sizeOf x < m → RightC x := by
  intro m
  induction m with
  | zero => exact fun x h => absurd h (Nat.not_lt_zero _)
  | succ m ih =>
    intro x h
    refine right_step x (fun y hy => ih y ?_)
    have h1 := List.sizeOf_lt_of_mem hy
    cases x
    simp [NodeX.kids] at h1 h
    omega
theorem right_rex (x : NodeX) : RightC x := right_all _ x (Nat.lt_succ_self _)
end Go.Proofs.YtojjeignijpiaaaGreatDoor
