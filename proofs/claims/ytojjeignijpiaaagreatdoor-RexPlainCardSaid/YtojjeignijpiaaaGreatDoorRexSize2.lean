/- How many states an expression needs: the walk of Size. -/
import Derived.Test.YtojjeignijpiaaaGreatDoorRexSize
namespace Go.Proofs.YtojjeignijpiaaaGreatDoor
open Go.RowKit
set_option linter.unusedVariables false
set_option linter.unusedSimpArgs false

theorem sizeX (k : Int) (s : Nat) (mn mx : Int) (A : Option Addr) (n c : Nat) (l : List NodeX) : sizeT (NodeX.mk k s mn mx A n c l).t = boundS (if k = 1 ∨ k = 2 ∨ k = 3 then 1 else if k = 4 then sizesT 0 (l.map NodeX.t) else if k = 5 then sizesT 0 (l.map NodeX.t) + l.length - 1
      else if k = 6 then repS (NodeX.mk k s mn mx A n c l) else 0) := by
  rw [NodeX.t, sizeT, NodeX.ts_map, List.length_map]
  rfl
set_option maxRecDepth 100000 in
set_option maxHeartbeats 3200000 in
theorem size_step (x : NodeX) (HS : ∀ y, y ∈ x.kids → SizeC y) : SizeC x := by
  intro P W h
  have HK0 := Lib.hid (Blk.new W 36 (nodeC x))
  have HB0 := Lib.hid ((Below.refl W.heap.size W).alloc (Nat.le_refl _) (.cells (nodeC x) 36))
  obtain ⟨⟨a0, a1, a2, a3, a4, a5, a6, a7⟩, _⟩ := node_cells HK0.out
  have hrow := h.row
  have hm := h.lenM
  have HH := Lib.hid h
  have RP := Lib.hid (repeated_any x P HS)
  have hkid := fun y hy => h.kid (y := y) hy
  obtain ⟨xk, xs, xm, xx, xA, xn, xc, xl⟩ := x
  rw [sizeX]
  simp only [NodeX.kind, NodeX.set, NodeX.mn, NodeX.mx, NodeX.A, NodeX.n, NodeX.c, NodeX.kids] at hrow hkid HS a0 a1 a2 a3 a4 a5 a6 a7 hm
  have hrl := hrow.1
  have SZF := fun w (hb : Below W.heap.size W w) => sizes_any xA xn xc xl P HS w (hrow.below hb) (fun y hy => (hkid y hy).later hb) (by unfold maxLen; omega)
  have SZ := SZF _ HB0.out
  have SZD := SZF (W.alloc (.cells (nodeC (NodeX.mk xk xs xm xx xA xn xc xl)) 36)).drew (below_drewN HB0.out 1)
  have hSb := sizesT_bd (xl.map NodeX.t) 0 (by decide) (by decide)
  have BN := Lib.hid bound_any
  clear hrow hkid HS h SZF
  by_cases h1 : xk = 1
  · subst h1
    rw [if_pos (by decide)]
    clear SZ SZD RP
    unfold nodeC nodeV
    simp only [NodeX.kind, NodeX.set, NodeX.mn, NodeX.mx, NodeX.A, NodeX.n, NodeX.c, NodeX.kids]
    go_enter Tryz.func22, Tryz.ntmps22
    go_wp2_with fail
    refine (BN.out _ _).mono ?_
    rintro e w9 ⟨rfl, rfl⟩
    go_wp2
    go_ret
    exact ⟨rfl, HB0.out⟩
  · have g1 : (xk == 1) = false := by rw [beq_eq_false_iff_ne]; exact h1
    by_cases h2 : xk = 2
    · subst h2
      rw [if_pos (by decide)]
      clear SZ SZD RP
      unfold nodeC nodeV
      simp only [NodeX.kind, NodeX.set, NodeX.mn, NodeX.mx, NodeX.A, NodeX.n, NodeX.c, NodeX.kids]
      go_enter Tryz.func22, Tryz.ntmps22
      go_wp2_with fail
      refine (BN.out _ _).mono ?_
      rintro e w9 ⟨rfl, rfl⟩
      go_wp2
      go_ret
      exact ⟨rfl, HB0.out⟩
    · have g2 : (xk == 2) = false := by rw [beq_eq_false_iff_ne]; exact h2
      by_cases h3 : xk = 3
      · subst h3
        rw [if_pos (by decide)]
        clear SZ SZD RP
        unfold nodeC nodeV
        simp only [NodeX.kind, NodeX.set, NodeX.mn, NodeX.mx, NodeX.A, NodeX.n, NodeX.c, NodeX.kids]
        go_enter Tryz.func22, Tryz.ntmps22
        go_wp2_with fail
        refine (BN.out _ _).mono ?_
        rintro e w9 ⟨rfl, rfl⟩
        go_wp2
        go_ret
        exact ⟨rfl, HB0.out⟩
      · have g3 : (xk == 3) = false := by rw [beq_eq_false_iff_ne]; exact h3
        rw [if_neg (by rintro (q | q | q); exact h1 q; exact h2 q; exact h3 q)]
        by_cases h4 : xk = 4
        · subst h4
          rw [if_pos rfl]
          obtain ⟨F, hF⟩ : ∃ F, sizesT 0 (xl.map NodeX.t) = F := ⟨_, rfl⟩
          rw [hF] at SZ SZD hSb ⊢
          replace SZ := Lib.hid SZ
          replace SZD := Lib.hid SZD
          clear hF RP
          unfold nodeC nodeV
          simp only [NodeX.kind, NodeX.set, NodeX.mn, NodeX.mx, NodeX.A, NodeX.n, NodeX.c, NodeX.kids]
          go_enter Tryz.func22, Tryz.ntmps22
          go_wp2_with fail
          refine SZ.out.mono ?_
          rintro e w2 ⟨rfl, hx⟩
          have HB2 := Lib.hid (hop HB0.out (Nat.le_refl _) hx)
          clear hx SZ SZD
          go_wp2_with fail
          refine (BN.out _ _).mono ?_
          rintro e w9 ⟨rfl, rfl⟩
          go_wp2
          go_ret
          exact ⟨rfl, HB2.out⟩
        · have g4 : (xk == 4) = false := by rw [beq_eq_false_iff_ne]; exact h4
          rw [if_neg h4]
          by_cases h5 : xk = 5
          · subst h5
            rw [if_pos rfl]
            obtain ⟨F, hF⟩ : ∃ F, sizesT 0 (xl.map NodeX.t) = F := ⟨_, rfl⟩
            rw [hF] at SZ SZD hSb ⊢
            replace SZ := Lib.hid SZ
            replace SZD := Lib.hid SZD
            clear hF RP
            rw [hrl]
            have hwr : boundS (IntKind.i64.wrap (IntKind.i64.wrap (F + (xn : Int)) - 1)) = boundS (F + (xn : Int) - 1) := by
              rw [show IntKind.i64.wrap (F + (xn : Int)) = F + (xn : Int) by rw [IntKind.wrap_i64]; omega, show IntKind.i64.wrap (F + (xn : Int) - 1) = F + (xn : Int) - 1 by rw [IntKind.wrap_i64]; omega]
            obtain ⟨q, hq⟩ : ∃ q, boundS (F + (xn : Int) - 1) = q := ⟨_, rfl⟩
            have HQ := Lib.hid hq
            rw [hq]
            clear hq
            unfold nodeC nodeV
            simp only [NodeX.kind, NodeX.set, NodeX.mn, NodeX.mx, NodeX.A, NodeX.n, NodeX.c, NodeX.kids]
            go_enter Tryz.func22, Tryz.ntmps22
            go_wp2
            have S0 : Blk ((W.alloc (.cells (nodeC (NodeX.mk 5 xs xm xx xA xn xc xl)) 36)).drew) W.heap.size 36 (nodeC (NodeX.mk 5 xs xm xx xA xn xc xl)) := HK0.out.drew
            refine wp_region_held_drew (S := fun w' => Blk w' W.heap.size 36 (nodeC (NodeX.mk 5 xs xm xx xA xn xc xl))) (by kernel_rfl) S0 (fun hHeld => ?_)
            refine wpAnyH_take (i := 0) (oi := { dst := some 17, op := Go.Op.fieldAddr 36 (Go.Operand.tmp 1) 4, type := 0, pos := "rex.go:52", after := #[], guard := none }) (v := ?_) rfl (by kernel_rfl) (by kernel_rfl) (by kernel_rfl) (fun _ _ _ h => h) (Or.inl ⟨by kernel_rfl, ?_⟩) (by assumption) ?_
            rotate_left
            · intro w hSw
              first | (go_simp; done) | (go_simp; with_reducible rfl)
            try simp only [Act.put, List.setIfInBounds_toArray, List.set_cons_zero, List.set_cons_succ]
            refine wpAnyH_take (i := 1) (oi := { dst := some 18, op := Go.Op.load 34 (Go.Operand.tmp 17), type := 34, pos := "rex.go:52", after := #[{ on := 0, ground := Go.Ground.data }], guard := none }) (v := ?_) rfl (by kernel_rfl) (by kernel_rfl) (by kernel_rfl) (fun _ _ _ h => h) (Or.inl ⟨by kernel_rfl, ?_⟩) (by assumption) ?_
            rotate_left
            · intro w hSw
              obtain ⟨⟨u0, u1, u2, u3, u4, u5, u6, u7⟩, _⟩ := node_cells hSw
              simp only [NodeX.kind, NodeX.set, NodeX.mn, NodeX.mx, NodeX.A, NodeX.n, NodeX.c, NodeX.kids] at u0 u1 u2 u3 u4 u5 u6 u7
              first | (go_simp; done) | (go_simp; with_reducible rfl)
            try simp only [Act.put, List.setIfInBounds_toArray, List.set_cons_zero, List.set_cons_succ]
            refine wpAnyH_take (i := 3) (oi := { dst := some 20, op := Go.Op.fieldAddr 36 (Go.Operand.tmp 1) 4, type := 0, pos := "rex.go:52", after := #[], guard := none }) (v := ?_) rfl (by kernel_rfl) (by kernel_rfl) (by kernel_rfl) (fun _ _ _ h => h) (Or.inl ⟨by kernel_rfl, ?_⟩) (by assumption) ?_
            rotate_left
            · intro w hSw
              first | (go_simp; done) | (go_simp; with_reducible rfl)
            try simp only [Act.put, List.setIfInBounds_toArray, List.set_cons_zero, List.set_cons_succ]
            refine wpAnyH_take (i := 4) (oi := { dst := some 21, op := Go.Op.load 34 (Go.Operand.tmp 20), type := 34, pos := "rex.go:52", after := #[{ on := 3, ground := Go.Ground.data }], guard := none }) (v := ?_) rfl (by kernel_rfl) (by kernel_rfl) (by kernel_rfl) (fun _ _ _ h => h) (Or.inl ⟨by kernel_rfl, ?_⟩) (by assumption) ?_
            rotate_left
            · intro w hSw
              obtain ⟨⟨u0, u1, u2, u3, u4, u5, u6, u7⟩, _⟩ := node_cells hSw
              simp only [NodeX.kind, NodeX.set, NodeX.mn, NodeX.mx, NodeX.A, NodeX.n, NodeX.c, NodeX.kids] at u0 u1 u2 u3 u4 u5 u6 u7
              first | (go_simp; done) | (go_simp; with_reducible rfl)
            try simp only [Act.put, List.setIfInBounds_toArray, List.set_cons_zero, List.set_cons_succ]
            refine wpAnyH_take (i := 5) (oi := { dst := some 22, op := Go.Op.call { callee := Go.Callee.builtin Go.Builtin.len, args := #[Go.Operand.tmp 21], argTypes := #[34] }, type := 3, pos := "rex.go:52", after := #[{ on := 4, ground := Go.Ground.data }], guard := none }) (v := ?_) rfl (by kernel_rfl) (by kernel_rfl) (by kernel_rfl) (fun _ _ _ h => h) (Or.inl ⟨by kernel_rfl, ?_⟩) (by assumption) ?_
            rotate_left
            · intro w hSw
              first | (go_simp; done) | (go_simp; with_reducible rfl)
            try simp only [Act.put, List.setIfInBounds_toArray, List.set_cons_zero, List.set_cons_succ]
            refine wpAnyH_ready (rs := [2]) (by kernel_rfl) (by simp) ?_
            refine AllReadyH.cons (o := { dst := some 19, op := Go.Op.call { callee := Go.Callee.value (Go.Operand.func 30), args := #[Go.Operand.tmp 18], argTypes := #[34] }, type := 3, pos := "rex.go:52", after := #[{ on := 1, ground := Go.Ground.data }], guard := none }) rfl (fun K hK => ?_) AllReadyH.nil
            go_simp
            go_at_call 30
            refine SZD.out.mono ?_
            rintro e w2 ⟨rfl, hx⟩
            have S1 : Blk w2 W.heap.size 36 (nodeC (NodeX.mk 5 xs xm xx xA xn xc xl)) := S0.below hx S0.lt
            have HB2 := Lib.hid (hop (below_drewN HB0.out 1) (Nat.le_refl _) hx)
            refine hK.out _ _ S1 (fun _ => ?_)
            clear hx
            clear hK K
            try simp only [Act.put, List.setIfInBounds_toArray, List.set_cons_zero, List.set_cons_succ]
            refine wpAnyH_take (i := 6) (oi := { dst := some 23, op := Go.Op.binOp Go.BinOp.add 3 (Go.Operand.tmp 19) (Go.Operand.tmp 22) 3, type := 3, pos := "rex.go:52", after := #[{ on := 2, ground := Go.Ground.data }, { on := 5, ground := Go.Ground.data }], guard := none }) (v := ?_) rfl (by kernel_rfl) (by kernel_rfl) (by kernel_rfl) (fun _ _ _ h => h) (Or.inl ⟨by kernel_rfl, ?_⟩) (by assumption) ?_
            rotate_left
            · intro w hSw
              first | (go_simp; done) | (go_simp; with_reducible rfl)
            try simp only [Act.put, List.setIfInBounds_toArray, List.set_cons_zero, List.set_cons_succ]
            refine wpAnyH_take (i := 7) (oi := { dst := some 24, op := Go.Op.binOp Go.BinOp.sub 3 (Go.Operand.tmp 23) (Go.Operand.const (Go.Value.int Go.IntKind.i64 1)) 3, type := 3, pos := "rex.go:52", after := #[{ on := 6, ground := Go.Ground.data }], guard := none }) (v := ?_) rfl (by kernel_rfl) (by kernel_rfl) (by kernel_rfl) (fun _ _ _ h => h) (Or.inl ⟨by kernel_rfl, ?_⟩) (by assumption) ?_
            rotate_left
            · intro w hSw
              first | (go_simp; done) | (go_simp; with_reducible rfl)
            try simp only [Act.put, List.setIfInBounds_toArray, List.set_cons_zero, List.set_cons_succ]
            refine wpAnyH_take (i := 8) (oi := { dst := some 3, op := Go.Op.assign (Go.Operand.tmp 24), type := 3, pos := "rex.go:52", after := #[{ on := 7, ground := Go.Ground.data }, { on := 2, ground := Go.Ground.chain }, { on := 0, ground := Go.Ground.phase }, { on := 1, ground := Go.Ground.phase }, { on := 2, ground := Go.Ground.phase }, { on := 3, ground := Go.Ground.phase }, { on := 4, ground := Go.Ground.phase }, { on := 5, ground := Go.Ground.phase }, { on := 6, ground := Go.Ground.phase }, { on := 7, ground := Go.Ground.phase }], guard := none }) (v := ?_) rfl (by kernel_rfl) (by kernel_rfl) (by kernel_rfl) (fun _ _ _ h => h) (Or.inl ⟨by kernel_rfl, ?_⟩) (by assumption) ?_
            rotate_left
            · intro w hSw
              first | (go_simp; done) | (go_simp; with_reducible rfl)
            try simp only [Act.put, List.setIfInBounds_toArray, List.set_cons_zero, List.set_cons_succ]
            refine wpAnyH_done (by kernel_rfl) ?_ _
            clear SZ SZD
            go_wp2_with fail
            refine (BN.out _ _).mono ?_
            rintro e w9 ⟨rfl, rfl⟩
            go_wp2
            go_ret
            exact ⟨by rw [← HQ.out]; rfl, HB2.out⟩
          · have g5 : (xk == 5) = false := by rw [beq_eq_false_iff_ne]; exact h5
            rw [if_neg h5]
            by_cases h6 : xk = 6
            · subst h6
              rw [if_pos rfl]
              have hxr : nodeC (NodeX.mk 6 xs xm xx xA xn xc xl) = nodeC (NodeX.mk 6 xs xm xx xA xn xc xl) := rfl
              obtain ⟨F, hF⟩ : ∃ F, repS (NodeX.mk 6 xs xm xx xA xn xc xl) = F := ⟨_, rfl⟩
              rw [hF] at RP ⊢
              have RQ := Lib.hid (RP.out _ (HH.out.alloc (.cells (nodeC (NodeX.mk 6 xs xm xx xA xn xc xl)) 36)))
              clear hF SZ SZD hxr RP
              unfold nodeC nodeV
              simp only [NodeX.kind, NodeX.set, NodeX.mn, NodeX.mx, NodeX.A, NodeX.n, NodeX.c, NodeX.kids]
              go_enter Tryz.func22, Tryz.ntmps22
              go_wp2_with fail
              refine RQ.out.mono ?_
              rintro e w2 ⟨rfl, hx⟩
              have HB2 := Lib.hid (hop HB0.out (Nat.le_refl _) hx)
              clear hx RQ
              go_wp2_with fail
              refine (BN.out _ _).mono ?_
              rintro e w9 ⟨rfl, rfl⟩
              go_wp2
              go_ret
              exact ⟨rfl, HB2.out⟩
            · have g6 : (xk == 6) = false := by rw [beq_eq_false_iff_ne]; exact h6
              rw [if_neg h6]
              clear SZ SZD RP
              unfold nodeC nodeV
              simp only [NodeX.kind, NodeX.set, NodeX.mn, NodeX.mx, NodeX.A, NodeX.n, NodeX.c, NodeX.kids]
              go_enter Tryz.func22, Tryz.ntmps22
              go_wp2_with fail
              refine (BN.out _ _).mono ?_
              rintro e w9 ⟨rfl, rfl⟩
              go_wp2
              go_ret
              exact ⟨rfl, HB0.out⟩
theorem size_all : ∀ (m : Nat) (x : NodeX), SizeOf.sizeOf x < m → SizeC x := by
  intro m
  induction m with
  | zero => exact fun x h => absurd h (Nat.not_lt_zero _)
  | succ m ih =>
    intro x h
    refine size_step x (fun y hy => ih y ?_)
    have h1 := List.sizeOf_lt_of_mem hy
    cases x
    simp [NodeX.kids] at h1 h
    omega
theorem size_any (x : NodeX) : SizeC x := size_all _ x (Nat.lt_succ_self _)
end Go.Proofs.YtojjeignijpiaaaGreatDoor
