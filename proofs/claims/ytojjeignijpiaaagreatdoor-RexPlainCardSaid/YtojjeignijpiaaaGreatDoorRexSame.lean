/- Whether two expressions are the same: the walk of Same. -/
import Derived.Test.YtojjeignijpiaaaGreatDoorRexSize
import Derived.Test.YtojjeignijpiaaaGreatDoorRexClass
namespace Go.Proofs.YtojjeignijpiaaaGreatDoor
open Go.RowKit
set_option linter.unusedVariables false
set_option linter.unusedSimpArgs false

theorem set_words {S T : Nat} (hS : S < 2 ^ 256) (hT : T < 2 ^ 256) : ((word S 0 : Int) == (word T 0 : Int) && (word S 1 : Int) == (word T 1 : Int) && (word S 2 : Int) == (word T 2 : Int) && (word S 3 : Int) == (word T 3 : Int)) = decide (S = T) := by
  rw [Bool.eq_iff_iff, decide_eq_true_iff]
  constructor
  · intro e
    simp only [Bool.and_eq_true, beq_iff_eq] at e
    obtain ⟨⟨⟨e0, e1⟩, e2⟩, e3⟩ := e
    refine set_ext hS hT (fun i hi => ?_)
    match i, hi with
    | 0, _ => omega
    | 1, _ => omega
    | 2, _ => omega
    | 3, _ => omega
  · rintro rfl
    simp
theorem eq_words24 {S T : Nat} (hS : S < 2 ^ 256) (hT : T < 2 ^ 256) (w : World) : (Op.equalIn 10000 24 (.agg #[.int .u64 (word S 0 : Nat), .int .u64 (word S 1 : Nat), .int .u64 (word S 2 : Nat), .int .u64 (word S 3 : Nat)]) (.agg #[.int .u64 (word T 0 : Nat), .int .u64 (word T 1 : Nat), .int .u64 (word T 2 : Nat), .int .u64 (word T 3 : Nat)])).run Tryz.prog w = .ok (decide (S = T)) w := by
  rw [eq_sets24, set_words hS hT]
theorem samesT_nil : samesT [] [] = true := by rw [samesT]
theorem samesT_cons (a b : NodeT) (l m : List NodeT) : samesT (a :: l) (b :: m) = (sameT a b && samesT l m) := by rw [samesT]
theorem samesT_len : ∀ (l m : List NodeT), l.length ≠ m.length → samesT l m = false
  | [], [], h => absurd rfl h
  | [], b :: m, _ => by rw [samesT]; all_goals (intros; simp_all)
  | a :: l, [], _ => by rw [samesT]; all_goals (intros; simp_all)
  | a :: l, b :: m, h => by
    rw [samesT_cons, samesT_len l m (fun e => h (by rw [List.length_cons, List.length_cons, e])), Bool.and_false]
theorem sameX (k : Int) (s : Nat) (m1 m2 : Int) (A : Option Addr) (n c : Nat) (l : List NodeX) (k' : Int) (s' : Nat) (m1' m2' : Int) (A' : Option Addr) (n' c' : Nat) (l' : List NodeX) : sameT (NodeX.mk k s m1 m2 A n c l).t (NodeX.mk k' s' m1' m2' A' n' c' l').t = (decide (k = k') && decide (s = s') && decide (m1 = m1') && decide (m2 = m2') && samesT (l.map NodeX.t) (l'.map NodeX.t)) := by
  rw [NodeX.t, NodeX.t, sameT, NodeX.ts_map, NodeX.ts_map]
def SameC (x : NodeX) : Prop := ∀ (y : NodeX) (P Q : Nat → Prop) (W : World), GoodN W P x → GoodN W Q y → Calls Tryz.prog 21 #[.agg (nodeC x), .agg (nodeC y)] W fun e w' => e = .returned (.bool (sameT x.t y.t)) ∧ Below W.heap.size W w'
set_option maxRecDepth 100000 in
set_option maxHeartbeats 6400000 in
theorem same_step (x : NodeX) (HS : ∀ y, y ∈ x.kids → SameC y) : SameC x := by
  intro y P Q W hx hy
  have K0 := (Blk.new W 36 (nodeC x)).alloc (.cells (nodeC y) 36)
  have K1 : Blk ((W.alloc (.cells (nodeC x) 36)).alloc (.cells (nodeC y) 36)) (W.heap.size + 1) 36 (nodeC y) := new_at _ _ _ _ (by simp)
  have HB0 := Lib.hid (((Below.refl W.heap.size W).alloc (Nat.le_refl _) (.cells (nodeC x) 36)).alloc (by simp) (.cells (nodeC y) 36))
  have HSW := Lib.hid (show ((W.alloc (.cells (nodeC x) 36)).alloc (.cells (nodeC y) 36)).heap.size = W.heap.size + 2 by simp)
  obtain ⟨⟨a0, a1, a2, a3, a4, a5, a6, a7⟩, _⟩ := node_cells K0
  obtain ⟨⟨b0, b1, b2, b3, b4, b5, b6, b7⟩, _⟩ := node_cells K1
  have HK0 := Lib.hid K0
  have HK1 := Lib.hid K1
  have hrx := hx.row
  have hry := hy.row
  have hkx := fun z hz => hx.kid (y := z) hz
  have hky := fun z hz => hy.kid (y := z) hz
  have hmx := hx.lenM
  have hsx := hx.set_lt
  have hsy := hy.set_lt
  clear K0 K1 hx hy
  obtain ⟨xk, xs, xm, xx, xA, xn, xc, xl⟩ := x
  obtain ⟨yk, ys, ym, yx, yA, yn, yc, yl⟩ := y
  rw [sameX]
  simp only [NodeX.kind, NodeX.set, NodeX.mn, NodeX.mx, NodeX.A, NodeX.n, NodeX.c, NodeX.kids] at hrx hry hkx hky HS a0 a1 a2 a3 a4 a5 a6 a7 b0 b1 b2 b3 b4 b5 b6 b7 hmx hsx hsy
  have hCQ := eq_words24 hsx hsy
  have hlx := hrx.1
  have hly := hry.1
  have HRX := Lib.hid hrx
  have HRY := Lib.hid hry
  have HKX := Lib.hid hkx
  have HKY := Lib.hid hky
  have HSS := Lib.hid HS
  clear hrx hry hkx hky HS
  by_cases hk : xk = yk
  · subst hk
    by_cases hs : xs = ys
    · subst hs
      by_cases hm : xm = ym
      · subst hm
        by_cases hxx : xx = yx
        · subst hxx
          rw [decide_eq_true rfl, decide_eq_true rfl, decide_eq_true rfl, decide_eq_true rfl, Bool.true_and, Bool.true_and, Bool.true_and, Bool.true_and]
          simp only [decide_true] at hCQ
          by_cases hn : xn = yn
          · subst hn
            obtain ⟨F, hF⟩ : ∃ F, samesT (xl.map NodeX.t) (yl.map NodeX.t) = F := ⟨_, rfl⟩
            rw [hF]
            have HF := Lib.hid hF
            clear hF
            unfold nodeC nodeV
            simp only [NodeX.kind, NodeX.set, NodeX.mn, NodeX.mx, NodeX.A, NodeX.n, NodeX.c, NodeX.kids]
            go_enter Tryz.func21, Tryz.ntmps21
            go_wp2
            go_loopw [44] (fun iv wr => ∃ (j : Nat), j ≤ xn ∧ iv = .int .i64 (j : Nat) ∧ Hid (samesT ((xl.drop j).map NodeX.t) ((yl.drop j).map NodeX.t) = F) ∧ Hid (Below W.heap.size W wr) ∧ Hid (Blk wr W.heap.size 36 (nodeC (NodeX.mk xk xs xm xx xA xn xc xl))) ∧ Hid (Blk wr (W.heap.size + 1) 36 (nodeC (NodeX.mk xk xs xm xx yA xn yc yl)))) (fun iv _ => xn - (intOf iv).toNat)
            case atStart => exact ⟨0, Nat.zero_le _, rfl, HF, HB0, HK0, HK1⟩
            case round =>
              obtain ⟨j, hj, rfl, HT, HB, HA, HC⟩ := hrel
              by_cases h : j < xn
              · have hI : (j : Int) < xn := by omega
                have hI0 : (0 : Int) ≤ (j : Int) := by omega
                obtain ⟨b, off, rfl, hlt, hc⟩ := HRX.out.2 (by omega)
                obtain ⟨b', off', rfl, hlt', hc'⟩ := HRY.out.2 (by omega)
                obtain ⟨p, hp⟩ : ∃ p, xl[j]? = some p := ⟨xl[j]'(by omega), List.getElem?_eq_getElem (by omega)⟩
                obtain ⟨q, hq⟩ : ∃ q, yl[j]? = some q := ⟨yl[j]'(by omega), List.getElem?_eq_getElem (by omega)⟩
                have hdx : xl.drop j = p :: xl.drop (j + 1) := by
                  rw [List.drop_eq_getElem_cons (by omega)]
                  congr 1
                  rw [List.getElem?_eq_getElem (by omega)] at hp
                  injection hp
                have hdy : yl.drop j = q :: yl.drop (j + 1) := by
                  rw [List.drop_eq_getElem_cons (by omega)]
                  congr 1
                  rw [List.getElem?_eq_getElem (by omega)] at hq
                  injection hq
                have ht := HT.out
                rw [hdx, hdy, List.map_cons, List.map_cons, samesT_cons] at ht
                have CX : ∀ i, i < 8 → wr.drew.cell? ⟨b, off + j * 8 + i, none⟩ = (nodeV p)[i]? := fun i hi => (HB.out.cell (p := ⟨b, off + j * 8 + i, none⟩) hlt).trans (hc j i p hp hi)
                have CY : ∀ i, i < 8 → wr.drew.cell? ⟨b', off' + j * 8 + i, none⟩ = (nodeV q)[i]? := fun i hi => (HB.out.cell (p := ⟨b', off' + j * 8 + i, none⟩) hlt').trans (hc' j i q hq hi)
                have SX := HSS.out p (List.mem_of_getElem? hp) q P Q wr.drew ((HKX.out p (List.mem_of_getElem? hp)).later (below_drewN HB.out 1)) ((HKY.out q (List.mem_of_getElem? hq)).later (below_drewN HB.out 1))
                obtain ⟨r, hr⟩ : ∃ r, sameT p.t q.t = r := ⟨_, rfl⟩
                rw [hr] at SX ht
                have HT2 := Lib.hid ht
                replace SX := Lib.hid SX
                have SA : Blk wr.drew W.heap.size 36 (nodeC (NodeX.mk xk xs xm xx (some ⟨b, off, none⟩) xn xc xl)) := HA.out.drew
                have SB : Blk wr.drew (W.heap.size + 1) 36 (nodeC (NodeX.mk xk xs xm xx (some ⟨b', off', none⟩) xn yc yl)) := HC.out.drew
                have hws := HB.out.size
                clear hc hc' hp hq hdx hdy ht hr HRX HRY HSS HKX HKY
                go_wp2
                have S0 : (Blk wr.drew W.heap.size 36 (nodeC (NodeX.mk xk xs xm xx (some ⟨b, off, none⟩) xn xc xl)) ∧ Blk wr.drew (W.heap.size + 1) 36 (nodeC (NodeX.mk xk xs xm xx (some ⟨b', off', none⟩) xn yc yl)) ∧ (∀ i, i < 8 → wr.drew.cell? ⟨b, off + j * 8 + i, none⟩ = (nodeV p)[i]?) ∧ (∀ i, i < 8 → wr.drew.cell? ⟨b', off' + j * 8 + i, none⟩ = (nodeV q)[i]?)) := ⟨SA, SB, CX, CY⟩
                refine wp_region_held_drew (S := fun w' => (Blk w' W.heap.size 36 (nodeC (NodeX.mk xk xs xm xx (some ⟨b, off, none⟩) xn xc xl)) ∧ Blk w' (W.heap.size + 1) 36 (nodeC (NodeX.mk xk xs xm xx (some ⟨b', off', none⟩) xn yc yl)) ∧ (∀ i, i < 8 → w'.cell? ⟨b, off + j * 8 + i, none⟩ = (nodeV p)[i]?) ∧ (∀ i, i < 8 → w'.cell? ⟨b', off' + j * 8 + i, none⟩ = (nodeV q)[i]?))) (by kernel_rfl) S0 (fun hHeld => ?_)
                refine wpAnyH_take (i := 0) (oi := { dst := some 47, op := Go.Op.fieldAddr 36 (Go.Operand.tmp 2) 4, type := 0, pos := "rex.go:65", after := #[], guard := none }) (v := ?_) rfl (by kernel_rfl) (by kernel_rfl) (by kernel_rfl) (fun _ _ _ h => h) (Or.inl ⟨by kernel_rfl, ?_⟩) (by assumption) ?_
                rotate_left
                · intro w hSw
                  first | (go_simp; done) | (go_simp; with_reducible rfl)
                try simp only [Act.put, List.setIfInBounds_toArray, List.set_cons_zero, List.set_cons_succ]
                refine wpAnyH_take (i := 1) (oi := { dst := some 48, op := Go.Op.load 34 (Go.Operand.tmp 47), type := 34, pos := "rex.go:65", after := #[{ on := 0, ground := Go.Ground.data }], guard := none }) (v := ?_) rfl (by kernel_rfl) (by kernel_rfl) (by kernel_rfl) (fun _ _ _ h => h) (Or.inl ⟨by kernel_rfl, ?_⟩) (by assumption) ?_
                rotate_left
                · intro w hSw
                  have u7 : w.cell? ⟨W.heap.size, 7, none⟩ = some (.slice (some ⟨b, off, none⟩) xn xc) := hSw.1.cell 7
                  first | (go_simp; done) | (go_simp; with_reducible rfl)
                try simp only [Act.put, List.setIfInBounds_toArray, List.set_cons_zero, List.set_cons_succ]
                refine wpAnyH_take (i := 2) (oi := { dst := some 49, op := Go.Op.move (Go.Operand.tmp 5), type := 3, pos := "rex.go:65", after := #[], guard := none }) (v := ?_) rfl (by kernel_rfl) (by kernel_rfl) (by kernel_rfl) (fun _ _ _ h => h) (Or.inl ⟨by kernel_rfl, ?_⟩) (by assumption) ?_
                rotate_left
                · intro w hSw
                  first | (go_simp; done) | (go_simp; with_reducible rfl)
                try simp only [Act.put, List.setIfInBounds_toArray, List.set_cons_zero, List.set_cons_succ]
                refine wpAnyH_take (i := 3) (oi := { dst := some 50, op := Go.Op.indexAddr 34 (Go.Operand.tmp 48) (Go.Operand.tmp 49), type := 0, pos := "rex.go:65", after := #[{ on := 1, ground := Go.Ground.data }, { on := 2, ground := Go.Ground.data }], guard := none }) (v := ?_) rfl (by kernel_rfl) (by kernel_rfl) (by kernel_rfl) (fun _ _ _ h => h) (Or.inl ⟨by kernel_rfl, ?_⟩) (by assumption) ?_
                rotate_left
                · intro w hSw
                  first | (go_simp; done) | (go_simp; with_reducible rfl)
                try simp only [Act.put, List.setIfInBounds_toArray, List.set_cons_zero, List.set_cons_succ]
                refine wpAnyH_take (i := 4) (oi := { dst := some 51, op := Go.Op.load 36 (Go.Operand.tmp 50), type := 36, pos := "rex.go:65", after := #[{ on := 3, ground := Go.Ground.data }], guard := none }) (v := ?_) rfl (by kernel_rfl) (by kernel_rfl) (by kernel_rfl) (fun _ _ _ h => h) (Or.inl ⟨by kernel_rfl, ?_⟩) (by assumption) ?_
                rotate_left
                · intro w hSw
                  have k0 := hSw.2.2.1 0 (by decide)
                  have k1 := hSw.2.2.1 1 (by decide)
                  have k2 := hSw.2.2.1 2 (by decide)
                  have k3 := hSw.2.2.1 3 (by decide)
                  have k4 := hSw.2.2.1 4 (by decide)
                  have k5 := hSw.2.2.1 5 (by decide)
                  have k6 := hSw.2.2.1 6 (by decide)
                  have k7 := hSw.2.2.1 7 (by decide)
                  simp only [nodeV, List.getElem?_cons_zero, List.getElem?_cons_succ, Nat.add_zero] at k0 k1 k2 k3 k4 k5 k6 k7
                  clear hSw
                  first | (go_simp; done) | (go_simp; with_reducible rfl)
                try simp only [Act.put, List.setIfInBounds_toArray, List.set_cons_zero, List.set_cons_succ]
                refine wpAnyH_take (i := 5) (oi := { dst := some 52, op := Go.Op.fieldAddr 36 (Go.Operand.tmp 3) 4, type := 0, pos := "rex.go:65", after := #[], guard := none }) (v := ?_) rfl (by kernel_rfl) (by kernel_rfl) (by kernel_rfl) (fun _ _ _ h => h) (Or.inl ⟨by kernel_rfl, ?_⟩) (by assumption) ?_
                rotate_left
                · intro w hSw
                  first | (go_simp; done) | (go_simp; with_reducible rfl)
                try simp only [Act.put, List.setIfInBounds_toArray, List.set_cons_zero, List.set_cons_succ]
                refine wpAnyH_take (i := 6) (oi := { dst := some 53, op := Go.Op.load 34 (Go.Operand.tmp 52), type := 34, pos := "rex.go:65", after := #[{ on := 5, ground := Go.Ground.data }], guard := none }) (v := ?_) rfl (by kernel_rfl) (by kernel_rfl) (by kernel_rfl) (fun _ _ _ h => h) (Or.inl ⟨by kernel_rfl, ?_⟩) (by assumption) ?_
                rotate_left
                · intro w hSw
                  have u7 : w.cell? ⟨W.heap.size + 1, 7, none⟩ = some (.slice (some ⟨b', off', none⟩) xn yc) := hSw.2.1.cell 7
                  first | (go_simp; done) | (go_simp; with_reducible rfl)
                try simp only [Act.put, List.setIfInBounds_toArray, List.set_cons_zero, List.set_cons_succ]
                refine wpAnyH_take (i := 7) (oi := { dst := some 54, op := Go.Op.move (Go.Operand.tmp 5), type := 3, pos := "rex.go:65", after := #[], guard := none }) (v := ?_) rfl (by kernel_rfl) (by kernel_rfl) (by kernel_rfl) (fun _ _ _ h => h) (Or.inl ⟨by kernel_rfl, ?_⟩) (by assumption) ?_
                rotate_left
                · intro w hSw
                  first | (go_simp; done) | (go_simp; with_reducible rfl)
                try simp only [Act.put, List.setIfInBounds_toArray, List.set_cons_zero, List.set_cons_succ]
                refine wpAnyH_take (i := 8) (oi := { dst := some 55, op := Go.Op.indexAddr 34 (Go.Operand.tmp 53) (Go.Operand.tmp 54), type := 0, pos := "rex.go:65", after := #[{ on := 6, ground := Go.Ground.data }, { on := 7, ground := Go.Ground.data }], guard := none }) (v := ?_) rfl (by kernel_rfl) (by kernel_rfl) (by kernel_rfl) (fun _ _ _ h => h) (Or.inl ⟨by kernel_rfl, ?_⟩) (by assumption) ?_
                rotate_left
                · intro w hSw
                  first | (go_simp; done) | (go_simp; with_reducible rfl)
                try simp only [Act.put, List.setIfInBounds_toArray, List.set_cons_zero, List.set_cons_succ]
                refine wpAnyH_take (i := 9) (oi := { dst := some 56, op := Go.Op.load 36 (Go.Operand.tmp 55), type := 36, pos := "rex.go:65", after := #[{ on := 8, ground := Go.Ground.data }], guard := none }) (v := ?_) rfl (by kernel_rfl) (by kernel_rfl) (by kernel_rfl) (fun _ _ _ h => h) (Or.inl ⟨by kernel_rfl, ?_⟩) (by assumption) ?_
                rotate_left
                · intro w hSw
                  have k0 := hSw.2.2.2 0 (by decide)
                  have k1 := hSw.2.2.2 1 (by decide)
                  have k2 := hSw.2.2.2 2 (by decide)
                  have k3 := hSw.2.2.2 3 (by decide)
                  have k4 := hSw.2.2.2 4 (by decide)
                  have k5 := hSw.2.2.2 5 (by decide)
                  have k6 := hSw.2.2.2 6 (by decide)
                  have k7 := hSw.2.2.2 7 (by decide)
                  simp only [nodeV, List.getElem?_cons_zero, List.getElem?_cons_succ, Nat.add_zero] at k0 k1 k2 k3 k4 k5 k6 k7
                  clear hSw
                  first | (go_simp; done) | (go_simp; with_reducible rfl)
                try simp only [Act.put, List.setIfInBounds_toArray, List.set_cons_zero, List.set_cons_succ]
                refine wpAnyH_ready (rs := [10]) (by kernel_rfl) (by simp) ?_
                refine AllReadyH.cons (o := { dst := some 57, op := Go.Op.call { callee := Go.Callee.value (Go.Operand.func 21), args := #[Go.Operand.tmp 51, Go.Operand.tmp 56], argTypes := #[36, 36] }, type := 4, pos := "rex.go:65", after := #[{ on := 4, ground := Go.Ground.data }, { on := 9, ground := Go.Ground.data }], guard := none }) rfl (fun K hK => ?_) AllReadyH.nil
                go_simp
                go_at_call 21
                refine SX.out.mono ?_
                rintro e w2 ⟨rfl, hx⟩
                have S1 : (Blk w2 W.heap.size 36 (nodeC (NodeX.mk xk xs xm xx (some ⟨b, off, none⟩) xn xc xl)) ∧ Blk w2 (W.heap.size + 1) 36 (nodeC (NodeX.mk xk xs xm xx (some ⟨b', off', none⟩) xn yc yl)) ∧ (∀ i, i < 8 → w2.cell? ⟨b, off + j * 8 + i, none⟩ = (nodeV p)[i]?) ∧ (∀ i, i < 8 → w2.cell? ⟨b', off' + j * 8 + i, none⟩ = (nodeV q)[i]?)) := ⟨SA.below hx SA.lt, SB.below hx SB.lt, fun i hi => (hx.cell (p := ⟨b, off + j * 8 + i, none⟩) (Nat.lt_of_lt_of_le hlt hws)).trans (CX i hi), fun i hi => (hx.cell (p := ⟨b', off' + j * 8 + i, none⟩) (Nat.lt_of_lt_of_le hlt' hws)).trans (CY i hi)⟩
                have HB2 := Lib.hid (hop (below_drewN HB.out 1) (Nat.le_refl _) hx)
                refine hK.out _ _ S1 (fun _ => ?_)
                clear hx
                clear hK K
                try simp only [Act.put, List.setIfInBounds_toArray, List.set_cons_zero, List.set_cons_succ]
                refine wpAnyH_take (i := 11) (oi := { dst := some 58, op := Go.Op.unOp Go.UnOp.not 4 (Go.Operand.tmp 57), type := 4, pos := "rex.go:65", after := #[{ on := 10, ground := Go.Ground.data }], guard := none }) (v := ?_) rfl (by kernel_rfl) (by kernel_rfl) (by kernel_rfl) (fun _ _ _ h => h) (Or.inl ⟨by kernel_rfl, ?_⟩) (by assumption) ?_
                rotate_left
                · intro w hSw
                  first | (go_simp; done) | (go_simp; with_reducible rfl)
                try simp only [Act.put, List.setIfInBounds_toArray, List.set_cons_zero, List.set_cons_succ]
                refine wpAnyH_done (by kernel_rfl) ?_ _
                have HA2 := Lib.hid S1.1
                have HC2 := Lib.hid S1.2.1
                clear S0 S1 SA SB CX CY hHeld SX
                cases r with
                | false =>
                  have ht := HT2.out
                  rw [Bool.false_and] at ht
                  subst ht
                  go_wp2
                  go_ret
                  exact ⟨rfl, HB2.out⟩
                | true =>
                  have ht := HT2.out
                  rw [Bool.true_and] at ht
                  have HT3 := Lib.hid ht
                  clear ht
                  go_wp2
                  go_round
                  case rel => exact ⟨j + 1, by omega, by go_num, HT3, HB2, HA2, HC2⟩
                  case measure => simp [intOf]; omega
              · obtain rfl : j = xn := by omega
                have hI : ¬ (j : Int) < (j : Int) := by omega
                have ht := HT.out
                rw [List.drop_of_length_le (by omega), List.drop_of_length_le (by omega), List.map_nil, samesT_nil] at ht
                subst ht
                go_wp2
                go_ret
                exact ⟨rfl, HB.out⟩
          · have hn' : ((xn : Int) == (yn : Int)) = false := by rw [beq_eq_false_iff_ne]; omega
            have hn2 : ((xn : Int) != (yn : Int)) = true := by rw [bne, hn']; rfl
            rw [samesT_len _ _ (by rw [List.length_map, List.length_map]; omega)]
            unfold nodeC nodeV
            simp only [NodeX.kind, NodeX.set, NodeX.mn, NodeX.mx, NodeX.A, NodeX.n, NodeX.c, NodeX.kids]
            go_enter Tryz.func21, Tryz.ntmps21
            go_wp2
            go_ret
            exact ⟨by simp [hn], HB0.out⟩
        · have hxx' : (xx == yx) = false := by rw [beq_eq_false_iff_ne]; exact hxx
          rw [decide_eq_false hxx]
          simp only [Bool.and_false, Bool.false_and, Bool.and_true, decide_true, Bool.true_and]
          unfold nodeC nodeV
          simp only [NodeX.kind, NodeX.set, NodeX.mn, NodeX.mx, NodeX.A, NodeX.n, NodeX.c, NodeX.kids]
          go_enter Tryz.func21, Tryz.ntmps21
          go_wp2
          go_ret
          exact ⟨by simp [hxx], HB0.out⟩
      · have hm' : (xm == ym) = false := by rw [beq_eq_false_iff_ne]; exact hm
        rw [decide_eq_false hm]
        simp only [Bool.and_false, Bool.false_and, Bool.and_true, decide_true, Bool.true_and]
        unfold nodeC nodeV
        simp only [NodeX.kind, NodeX.set, NodeX.mn, NodeX.mx, NodeX.A, NodeX.n, NodeX.c, NodeX.kids]
        go_enter Tryz.func21, Tryz.ntmps21
        go_wp2
        go_ret
        exact ⟨by simp [hm], HB0.out⟩
    · have hs' : decide (xs = ys) = false := decide_eq_false hs
      rw [hs']
      simp only [hs'] at hCQ
      simp only [Bool.and_false, Bool.false_and, Bool.and_true, decide_true, Bool.true_and]
      unfold nodeC nodeV
      simp only [NodeX.kind, NodeX.set, NodeX.mn, NodeX.mx, NodeX.A, NodeX.n, NodeX.c, NodeX.kids]
      go_enter Tryz.func21, Tryz.ntmps21
      go_wp2
      go_ret
      exact ⟨by simp, HB0.out⟩
  · have hk' : (xk == yk) = false := by rw [beq_eq_false_iff_ne]; exact hk
    rw [decide_eq_false hk]
    simp only [Bool.and_false, Bool.false_and, Bool.and_true, decide_true, Bool.true_and]
    unfold nodeC nodeV
    simp only [NodeX.kind, NodeX.set, NodeX.mn, NodeX.mx, NodeX.A, NodeX.n, NodeX.c, NodeX.kids]
    go_enter Tryz.func21, Tryz.ntmps21
    go_wp2
    go_ret
    exact ⟨by simp [hk], HB0.out⟩
theorem same_all : ∀ (m : Nat) (x : NodeX), SizeOf.sizeOf x < m → SameC x := by
  intro m
  induction m with
  | zero => exact fun x h => absurd h (Nat.not_lt_zero _)
  | succ m ih =>
    intro x h
    refine same_step x (fun y hy => ih y ?_)
    have h1 := List.sizeOf_lt_of_mem hy
    cases x
    simp [NodeX.kids] at h1 h
    omega
theorem same_rex (x : NodeX) : SameC x := same_all _ x (Nat.lt_succ_self _)
end Go.Proofs.YtojjeignijpiaaaGreatDoor
