-- shaken
import Derived.Test.YtbkpoimaienhpaaGreatDoorRexPure2
import Derived.Test.YtbkpoimaienhpaaGreatDoorRexSize
import Derived.Maps.AppendAt
import Derived.Test.YtbkpoimaienhpaaGreatDoorMem
namespace Go.Proofs.YtbkpoimaienhpaaGreatDoor
open Go.RowKit
set_option linter.unusedVariables false
set_option linter.unusedSimpArgs false
theorem blk_eight {w : World} {g : Nat} {t : TypeId} {y : NodeX} {cs : Array Value} (h : Blk w g t cs) (hc : cs = nodeC y) (x0 x1 x2 x3 x4 x5 x6 x7 : Value) :
    Blk ((((((((w.setCell ⟨g, 0, none⟩ x0).setCell ⟨g, 1, none⟩ x1).setCell ⟨g, 2, none⟩ x2).setCell ⟨g, 3, none⟩ x3).setCell ⟨g, 4, none⟩ x4).setCell ⟨g, 5, none⟩ x5).setCell ⟨g, 6, none⟩ x6).setCell ⟨g, 7, none⟩ x7) g t #[x0, x1, x2, x3, x4, x5, x6, x7] := by
  subst hc
  exact set8 (y0 := .int .i64 y.kind) (y1 := .int .u64 (word y.set 0 : Nat)) (y2 := .int .u64 (word y.set 1 : Nat)) (y3 := .int .u64 (word y.set 2 : Nat)) (y4 := .int .u64 (word y.set 3 : Nat)) (y5 := .int .i64 y.mn) (y6 := .int .i64 y.mx) (y7 := .slice y.A y.n y.c) h x0 x1 x2 x3 x4 x5 x6 x7
theorem nilX_lit : (#[.int .i64 0, .int .u64 0, .int .u64 0, .int .u64 0, .int .u64 0, .int .i64 0, .int .i64 0, .slice none 0 0] : Array Value) = nodeC nilX := mkX_c 0 0 0 none 0 0 []
theorem ps_eight {w : World} {b g : Nat} {t : ByteArray} {k o : Nat} {f : Bool} {e : Int} (h : Ps w b t k o f e) (hg : b ≠ g) (x0 x1 x2 x3 x4 x5 x6 x7 : Value) : Ps ((((((((w.setCell ⟨g, 0, none⟩ x0).setCell ⟨g, 1, none⟩ x1).setCell ⟨g, 2, none⟩ x2).setCell ⟨g, 3, none⟩ x3).setCell ⟨g, 4, none⟩ x4).setCell ⟨g, 5, none⟩ x5).setCell ⟨g, 6, none⟩ x6).setCell ⟨g, 7, none⟩ x7) b t k o f e :=
  (((((((h.far hg _).far hg _).far hg _).far hg _).far hg _).far hg _).far hg _).far hg _
theorem grown_eight {W w : World} {r : Option Nat} (h : W.grownBy w r) {g : Nat} (hg : W.heap.size ≤ g) (x0 x1 x2 x3 x4 x5 x6 x7 : Value) : W.grownBy ((((((((w.setCell ⟨g, 0, none⟩ x0).setCell ⟨g, 1, none⟩ x1).setCell ⟨g, 2, none⟩ x2).setCell ⟨g, 3, none⟩ x3).setCell ⟨g, 4, none⟩ x4).setCell ⟨g, 5, none⟩ x5).setCell ⟨g, 6, none⟩ x6).setCell ⟨g, 7, none⟩ x7) r :=
  grown_new (grown_new (grown_new (grown_new (grown_new (grown_new (grown_new (grown_new h hg _) hg _) hg _) hg _) hg _) hg _) hg _) hg _
theorem nil_cells {w : World} {g : Nat} (h : Blk w g 97 #[.int .i64 0, .int .u64 0, .int .u64 0, .int .u64 0, .int .u64 0, .int .i64 0, .int .i64 0, .slice none 0 0]) :
    (w.cell? ⟨g, 0, none⟩ = some (.int .i64 0) ∧ w.cell? ⟨g, 1, none⟩ = some (.int .u64 0) ∧ w.cell? ⟨g, 2, none⟩ = some (.int .u64 0) ∧ w.cell? ⟨g, 3, none⟩ = some (.int .u64 0) ∧ w.cell? ⟨g, 4, none⟩ = some (.int .u64 0) ∧ w.cell? ⟨g, 5, none⟩ = some (.int .i64 0) ∧ w.cell? ⟨g, 6, none⟩ = some (.int .i64 0) ∧ w.cell? ⟨g, 7, none⟩ = some (.slice none 0 0)) ∧
    (w.frozen? ⟨g, 0, none⟩ = false ∧ w.frozen? ⟨g, 1, none⟩ = false ∧ w.frozen? ⟨g, 2, none⟩ = false ∧ w.frozen? ⟨g, 3, none⟩ = false ∧ w.frozen? ⟨g, 4, none⟩ = false ∧ w.frozen? ⟨g, 5, none⟩ = false ∧ w.frozen? ⟨g, 6, none⟩ = false ∧ w.frozen? ⟨g, 7, none⟩ = false) :=
  ⟨⟨h.cell 0, h.cell 1, h.cell 2, h.cell 3, h.cell 4, h.cell 5, h.cell 6, h.cell 7⟩, h.frozen 0, h.frozen 1, h.frozen 2, h.frozen 3, h.frozen 4, h.frozen 5, h.frozen 6, h.frozen 7⟩
def FoundPost (R : Option (Nat × List UInt8)) (t : ByteArray) (at' : Int) (x : NodeX) (j : Nat) (f : Bool) (e : Int) : Prop :=
  match R with
  | none => f = true ∧ e = at' ∧ x = nilX
  | some (S, r) => f = false ∧ x = oneX S ∧ S < 2 ^ 256 ∧ atL t j = r
set_option maxRecDepth 100000 in
set_option maxHeartbeats 3200000 in
theorem found_esc (b : Nat) (at' : Int) (t : ByteArray) (k o : Nat) (e0 : Int) (W : World) (h : Ps W b t k o false e0) :
    Calls Tryz.prog 143 #[.pointer (some ⟨b, 0, none⟩), .int .i64 at', .func (.func 144) #[.pointer (some ⟨b, 0, none⟩)] #[]] W fun e w' => ∃ x j f e1, e = .returned (.agg (nodeC x)) ∧ Ps w' b t j o f e1 ∧ W.grownBy w' (some b) ∧ FoundPost (escP (atL t k)) t at' x j f e1 := by
  have hlt := h.lt
  have hbn : W.heap.size ≠ b := by omega
  have HK0 := Lib.hid (Blk.new W 97 #[.int .i64 0, .int .u64 0, .int .u64 0, .int .u64 0, .int .u64 0, .int .i64 0, .int .i64 0, .slice none 0 0])
  have RD := Lib.hid (escape_any b t k o false e0 _ (h.alloc (.cells #[.int .i64 0, .int .u64 0, .int .u64 0, .int .u64 0, .int .u64 0, .int .i64 0, .int .i64 0, .slice none 0 0] 97)))
  have hs0 : (W.alloc (.cells #[.int .i64 0, .int .u64 0, .int .u64 0, .int .u64 0, .int .u64 0, .int .i64 0, .int .i64 0, .slice none 0 0] 97)).heap.size = W.heap.size + 1 := by simp
  obtain ⟨I, hI⟩ : ∃ I, escP (atL t k) = I := ⟨_, rfl⟩
  rw [hI] at RD ⊢
  have HM0 := Lib.hid hI
  clear h hI
  go_enter Tryz.func143, Tryz.ntmps143
  go_wp2_with fail
  refine RD.out.mono ?_
  rintro e w1 ⟨S, ok, j, rfl, hp, hg, hpost⟩
  have HP1 := Lib.hid hp
  have HG1 := Lib.hid (World.grownBy.trans (World.grownBy_alloc W (.cells #[.int .i64 0, .int .u64 0, .int .u64 0, .int .u64 0, .int .u64 0, .int .i64 0, .int .i64 0, .slice none 0 0] 97) (some b)) hg)
  have HK1 := Lib.hid (HK0.out.kept hg hbn)
  have hs1 : W.heap.size < w1.heap.size := by have := hg.size; omega
  have hb1 := hp.lt
  have HPO := Lib.hid hpost
  clear hp hg hpost RD HK0
  cases I with
  | none =>
    obtain rfl : ok = false := HPO.out
    have FL := Lib.hid (fail_any b at' t j o false e0 _ (HP1.out.alloc (.cells (setC S) 94)))
    try unfold setV
    try unfold setC
    go_wp2_with fail
    refine FL.out.mono ?_
    rintro e w2 ⟨rfl, hp, hg⟩
    have HP2 := Lib.hid (show Ps w2 b t j o true at' from hp)
    have HG2 := Lib.hid (World.grownBy.trans (grown_alloc HG1.out (.cells (setC S) 94)) hg)
    have hk2 := (HK1.out.alloc (.cells (setC S) 94)).kept hg hbn
    have HK2 := Lib.hid hk2
    obtain ⟨⟨d0, d1, d2, d3, d4, d5, d6, d7⟩, f0, f1, f2, f3, f4, f5, f6, f7⟩ := nil_cells hk2
    clear hp hg hk2 FL HP1 HG1 HK1
    try unfold nilC
    go_wp2
    refine bodyPost_ret (results_cell_row rfl _ _ W.heap.size 97 nilC (0, 0) _ rfl (blk_eight HK2.out nilX_lit _ _ _ _ _ _ _ _) Tryz.underlying97 rfl (by kernel_rfl)) rfl ?_
    exact ⟨nilX, j, true, at', rfl, ps_eight HP2.out (Ne.symm hbn) _ _ _ _ _ _ _ _, grown_eight HG2.out (Nat.le_refl _) _ _ _ _ _ _ _ _, rfl, rfl, rfl⟩
  | some y =>
    obtain ⟨T, r⟩ := y
    have HM := Lib.hid HM0.out
    obtain ⟨rfl, rfl, hr⟩ := HPO.out
    have HR := Lib.hid hr
    have OO := Lib.hid (show ∀ w, Calls Tryz.prog 142 #[.agg #[.int .u64 (word S 0 : Nat), .int .u64 (word S 1 : Nat), .int .u64 (word S 2 : Nat), .int .u64 (word S 3 : Nat)]] w (fun e w' => e = .returned (.agg #[.int .i64 1, .int .u64 (word S 0 : Nat), .int .u64 (word S 1 : Nat), .int .u64 (word S 2 : Nat), .int .u64 (word S 3 : Nat), .int .i64 0, .int .i64 0, .slice none 0 0]) ∧ Below w.heap.size w w') from fun w => oneOf_any S w)
    have HP2 := Lib.hid (HP1.out.alloc (.cells (setC S) 94))
    have HG2 := Lib.hid (grown_alloc HG1.out (.cells (setC S) 94))
    have HK2 := Lib.hid (HK1.out.alloc (.cells (setC S) 94))
    clear hr HPO HP1 HG1 HK1
    try unfold setV
    try unfold setC
    go_wp2_with fail
    refine (OO.out _).mono ?_
    rintro e w2 ⟨rfl, hx⟩
    have HP3 := Lib.hid (HP2.out.belowS hx)
    have HG3 := Lib.hid (grown_hop HG2.out hx)
    have hk3 := HK2.out.below hx HK2.out.lt
    have HK3 := Lib.hid hk3
    obtain ⟨⟨d0, d1, d2, d3, d4, d5, d6, d7⟩, f0, f1, f2, f3, f4, f5, f6, f7⟩ := nil_cells hk3
    clear hx hk3 OO HP2 HG2 HK2
    go_wp2
    refine bodyPost_ret (results_cell_row rfl _ _ W.heap.size 97 #[.int .i64 1, .int .u64 (word S 0 : Nat), .int .u64 (word S 1 : Nat), .int .u64 (word S 2 : Nat), .int .u64 (word S 3 : Nat), .int .i64 0, .int .i64 0, .slice none 0 0] (0, 0) _ rfl (blk_eight HK3.out nilX_lit _ _ _ _ _ _ _ _) Tryz.underlying97 rfl (by kernel_rfl)) rfl ?_
    exact ⟨oneX S, j, false, e0, rfl, ps_eight HP3.out (Ne.symm hbn) _ _ _ _ _ _ _ _, grown_eight HG3.out (Nat.le_refl _) _ _ _ _ _ _ _ _, rfl, rfl, (escP_some HM.out).1, HR.out⟩
theorem itemsP_lt : ∀ (n all : Nat) (l r : List UInt8) (S : Nat), all < 2 ^ 256 → itemsP n all l = some (S, r) → S < 2 ^ 256
  | 0, _, _, _, _, _, h => by cases h
  | n + 1, all, l, r, S, ha, h => by
    by_cases h93 : ∃ q, l = 93 :: q
    · obtain ⟨q, rfl⟩ := h93
      rw [itemsP_end] at h
      cases h
      exact ha
    · rw [itemsP_next (fun q e => h93 ⟨q, e⟩)] at h
      cases hm : itemP l with
      | none => rw [hm] at h; cases h
      | some x =>
        obtain ⟨s, q⟩ := x
        rw [hm] at h
        exact itemsP_lt n _ _ _ _ (Nat.or_lt_two_pow ha (itemP_some hm).1) h
theorem classB_lt {neg : Bool} {l r : List UInt8} {S : Nat} (h : classB neg l = some (S, r)) : S < 2 ^ 256 := by
  rw [classB_is] at h
  unfold itemsX at h
  cases hm : itemP l with
  | none => rw [hm] at h; cases h
  | some x =>
    obtain ⟨s, q⟩ := x
    rw [hm] at h
    simp only at h
    cases hi : itemsP (q.length + 1) s q with
    | none => rw [hi] at h; cases h
    | some y =>
      obtain ⟨all, r2⟩ := y
      have h2 := itemsP_lt _ _ _ _ _ (itemP_some hm).1 hi
      rw [hi] at h
      have h' : (if (if neg then notB all else all) = 0 then none else some (if neg then notB all else all, r2)) = some (S, r) := h
      obtain ⟨T, hT⟩ : ∃ T, (if neg then notB all else all) = T := ⟨_, rfl⟩
      have hTl : T < 2 ^ 256 := by
        rw [← hT]
        cases neg
        · exact h2
        · exact notB_lt h2
      rw [hT] at h'
      by_cases hz : T = 0
      · rw [if_pos hz] at h'
        cases h'
      · rw [if_neg hz] at h'
        cases h'
        exact hTl
theorem classP_lt {l r : List UInt8} {S : Nat} (h : classP l = some (S, r)) : S < 2 ^ 256 := by
  by_cases h94 : ∃ q, l = 94 :: q
  · obtain ⟨q, rfl⟩ := h94
    rw [classP_hat] at h
    exact classB_lt h
  · rw [classP_not (fun q e => h94 ⟨q, e⟩)] at h
    exact classB_lt h
set_option maxRecDepth 100000 in
set_option maxHeartbeats 3200000 in
theorem found_cls (b : Nat) (at' : Int) (t : ByteArray) (k o : Nat) (e0 : Int) (W : World) (h : Ps W b t k o false e0) :
    Calls Tryz.prog 143 #[.pointer (some ⟨b, 0, none⟩), .int .i64 at', .func (.func 145) #[.pointer (some ⟨b, 0, none⟩)] #[]] W fun e w' => ∃ x j f e1, e = .returned (.agg (nodeC x)) ∧ Ps w' b t j o f e1 ∧ W.grownBy w' (some b) ∧ FoundPost (classP (atL t k)) t at' x j f e1 := by
  have hlt := h.lt
  have hbn : W.heap.size ≠ b := by omega
  have HK0 := Lib.hid (Blk.new W 97 #[.int .i64 0, .int .u64 0, .int .u64 0, .int .u64 0, .int .u64 0, .int .i64 0, .int .i64 0, .slice none 0 0])
  have RD := Lib.hid (class_any b t k o false e0 _ (h.alloc (.cells #[.int .i64 0, .int .u64 0, .int .u64 0, .int .u64 0, .int .u64 0, .int .i64 0, .int .i64 0, .slice none 0 0] 97)))
  have hs0 : (W.alloc (.cells #[.int .i64 0, .int .u64 0, .int .u64 0, .int .u64 0, .int .u64 0, .int .i64 0, .int .i64 0, .slice none 0 0] 97)).heap.size = W.heap.size + 1 := by simp
  obtain ⟨I, hI⟩ : ∃ I, classP (atL t k) = I := ⟨_, rfl⟩
  rw [hI] at RD ⊢
  have HM0 := Lib.hid hI
  clear h hI
  go_enter Tryz.func143, Tryz.ntmps143
  go_wp2_with fail
  refine RD.out.mono ?_
  rintro e w1 ⟨S, ok, j, rfl, hp, hg, hpost⟩
  have HP1 := Lib.hid hp
  have HG1 := Lib.hid (World.grownBy.trans (World.grownBy_alloc W (.cells #[.int .i64 0, .int .u64 0, .int .u64 0, .int .u64 0, .int .u64 0, .int .i64 0, .int .i64 0, .slice none 0 0] 97) (some b)) hg)
  have HK1 := Lib.hid (HK0.out.kept hg hbn)
  have hs1 : W.heap.size < w1.heap.size := by have := hg.size; omega
  have hb1 := hp.lt
  have HPO := Lib.hid hpost
  clear hp hg hpost RD HK0
  cases I with
  | none =>
    obtain rfl : ok = false := HPO.out
    have FL := Lib.hid (fail_any b at' t j o false e0 _ (HP1.out.alloc (.cells (setC S) 94)))
    try unfold setV
    try unfold setC
    go_wp2_with fail
    refine FL.out.mono ?_
    rintro e w2 ⟨rfl, hp, hg⟩
    have HP2 := Lib.hid (show Ps w2 b t j o true at' from hp)
    have HG2 := Lib.hid (World.grownBy.trans (grown_alloc HG1.out (.cells (setC S) 94)) hg)
    have hk2 := (HK1.out.alloc (.cells (setC S) 94)).kept hg hbn
    have HK2 := Lib.hid hk2
    obtain ⟨⟨d0, d1, d2, d3, d4, d5, d6, d7⟩, f0, f1, f2, f3, f4, f5, f6, f7⟩ := nil_cells hk2
    clear hp hg hk2 FL HP1 HG1 HK1
    try unfold nilC
    go_wp2
    refine bodyPost_ret (results_cell_row rfl _ _ W.heap.size 97 nilC (0, 0) _ rfl (blk_eight HK2.out nilX_lit _ _ _ _ _ _ _ _) Tryz.underlying97 rfl (by kernel_rfl)) rfl ?_
    exact ⟨nilX, j, true, at', rfl, ps_eight HP2.out (Ne.symm hbn) _ _ _ _ _ _ _ _, grown_eight HG2.out (Nat.le_refl _) _ _ _ _ _ _ _ _, rfl, rfl, rfl⟩
  | some y =>
    obtain ⟨T, r⟩ := y
    have HM := Lib.hid HM0.out
    obtain ⟨rfl, rfl, hr⟩ := HPO.out
    have HR := Lib.hid hr
    have OO := Lib.hid (show ∀ w, Calls Tryz.prog 142 #[.agg #[.int .u64 (word S 0 : Nat), .int .u64 (word S 1 : Nat), .int .u64 (word S 2 : Nat), .int .u64 (word S 3 : Nat)]] w (fun e w' => e = .returned (.agg #[.int .i64 1, .int .u64 (word S 0 : Nat), .int .u64 (word S 1 : Nat), .int .u64 (word S 2 : Nat), .int .u64 (word S 3 : Nat), .int .i64 0, .int .i64 0, .slice none 0 0]) ∧ Below w.heap.size w w') from fun w => oneOf_any S w)
    have HP2 := Lib.hid (HP1.out.alloc (.cells (setC S) 94))
    have HG2 := Lib.hid (grown_alloc HG1.out (.cells (setC S) 94))
    have HK2 := Lib.hid (HK1.out.alloc (.cells (setC S) 94))
    clear hr HPO HP1 HG1 HK1
    try unfold setV
    try unfold setC
    go_wp2_with fail
    refine (OO.out _).mono ?_
    rintro e w2 ⟨rfl, hx⟩
    have HP3 := Lib.hid (HP2.out.belowS hx)
    have HG3 := Lib.hid (grown_hop HG2.out hx)
    have hk3 := HK2.out.below hx HK2.out.lt
    have HK3 := Lib.hid hk3
    obtain ⟨⟨d0, d1, d2, d3, d4, d5, d6, d7⟩, f0, f1, f2, f3, f4, f5, f6, f7⟩ := nil_cells hk3
    clear hx hk3 OO HP2 HG2 HK2
    go_wp2
    refine bodyPost_ret (results_cell_row rfl _ _ W.heap.size 97 #[.int .i64 1, .int .u64 (word S 0 : Nat), .int .u64 (word S 1 : Nat), .int .u64 (word S 2 : Nat), .int .u64 (word S 3 : Nat), .int .i64 0, .int .i64 0, .slice none 0 0] (0, 0) _ rfl (blk_eight HK3.out nilX_lit _ _ _ _ _ _ _ _) Tryz.underlying97 rfl (by kernel_rfl)) rfl ?_
    exact ⟨oneX S, j, false, e0, rfl, ps_eight HP3.out (Ne.symm hbn) _ _ _ _ _ _ _ _, grown_eight HG3.out (Nat.le_refl _) _ _ _ _ _ _ _ _, rfl, rfl, (classP_lt HM.out), HR.out⟩
def NodeRes (w : World) (B : Nat) (t : ByteArray) (k j : Nat) (R : Res NodeT) (x : NodeX) (f : Bool) (e : Int) : Prop :=
  (GoodN w (fun g => B ≤ g) x ∧ WfT x.t) ∧ (match R with
    | .ok n r => f = false ∧ x.t = n ∧ atL t j = r
    | .bad m => f = true ∧ e = (t.size : Int) - (m : Int) ∧ x.t.kids.length + k ≤ t.size)
def ExprC (fuel : Nat) : Prop := ∀ (b : Nat) (t : ByteArray) (k o : Nat) (e0 : Int) (W : World), Ps W b t k o false e0 → LibF W b → o ≤ k → (atL t k).length < fuel →
  Calls Tryz.prog 72 #[.pointer (some ⟨b, 0, none⟩)] W fun e w' => ∃ x j f e1, e = .returned (.agg (nodeC x)) ∧ Ps w' b t j o f e1 ∧ W.grownBy w' (some b) ∧ NodeRes w' W.heap.size t k j (exprP fuel (decide (0 < o)) (atL t k)) x f e1
def groupP (E : List UInt8 → Res NodeT) (l : List UInt8) : Res NodeT :=
  match E l with
  | .bad k => .bad k
  | .ok n (41 :: r2) => .ok n r2
  | .ok _ r2 => .bad r2.length
theorem groupP_bad {E : List UInt8 → Res NodeT} {l : List UInt8} {k : Nat} (h : E l = .bad k) : groupP E l = .bad k := by unfold groupP; rw [h]
theorem groupP_ok {E : List UInt8 → Res NodeT} {l r : List UInt8} {n : NodeT} (h : E l = .ok n (41 :: r)) : groupP E l = .ok n r := by unfold groupP; rw [h]; rfl
theorem groupP_no {E : List UInt8 → Res NodeT} {l r : List UInt8} {n : NodeT} (h : E l = .ok n r) (hr : ∀ q, r ≠ 41 :: q) : groupP E l = .bad r.length := by
  unfold groupP
  rw [h]
  cases r with
  | nil => rfl
  | cons c q =>
    have hc : c ≠ 41 := fun e => hr q (by rw [e])
    simp [hc]
theorem Ps.toOpen {w : World} {b : Nat} {t : ByteArray} {k o : Nat} {f : Bool} {e : Int} (h : Ps w b t k o f e) (o2 : Nat) : Ps (w.setCell ⟨b, 2, none⟩ (.int .i64 (o2 : Int))) b t k o2 f e := ⟨(h.blk.set_ 2 (.int .i64 (o2 : Int)) : Blk _ b 145 (psC t k o2 f e)), h.le, h.sz⟩
theorem good_eight2 {w : World} {P : Nat → Prop} {y : NodeX} {g : Nat} (h : GoodN w P y) (hg : ∀ q, P q → q ≠ g) (x0 x1 x2 x3 x4 x5 x6 x7 : Value) : GoodN ((((((((w.setCell ⟨g, 0, none⟩ x0).setCell ⟨g, 1, none⟩ x1).setCell ⟨g, 2, none⟩ x2).setCell ⟨g, 3, none⟩ x3).setCell ⟨g, 4, none⟩ x4).setCell ⟨g, 5, none⟩ x5).setCell ⟨g, 6, none⟩ x6).setCell ⟨g, 7, none⟩ x7) P y :=
  h.frame (by simp) (fun q hq _ => far_eight (hg q hq) _ _ _ _ _ _ _ _)
theorem Blk.set_far {w : World} {g b : Nat} {t : TypeId} {cs : Array Value} (h : Blk w g t cs) (hg : g ≠ b) (i : Nat) (v : Value) : Blk (w.setCell ⟨b, i, none⟩ v) g t cs := h.far hg v
set_option maxRecDepth 100000 in
set_option maxHeartbeats 3200000 in
theorem group_any (fuel : Nat) (HE : ExprC fuel) (b : Nat) (t : ByteArray) (k o : Nat) (e0 : Int) (W : World) (h : Ps W b t k o false e0) (hl : LibF W b) (ho : o + 1 ≤ k) (hf : (atL t k).length < fuel) :
    Calls Tryz.prog 141 #[.pointer (some ⟨b, 0, none⟩)] W fun e w' => ∃ x j f e1, e = .returned (.agg (nodeC x)) ∧ Ps w' b t j o f e1 ∧ W.grownBy w' (some b) ∧ NodeRes w' W.heap.size t k j (groupP (exprP fuel true) (atL t k)) x f e1 := by
  have hlt := h.lt
  have hbn : W.heap.size ≠ b := by omega
  have hkt := h.le
  have htz := h.sz
  have HK0 := Lib.hid (Blk.new W 97 #[.int .i64 0, .int .u64 0, .int .u64 0, .int .u64 0, .int .u64 0, .int .i64 0, .int .i64 0, .slice none 0 0])
  have c2 := h.opened
  have f2 := h.blk.frozen 2
  have hw1 : IntKind.i64.wrap ((o : Int) + 1) = ((o + 1 : Nat) : Int) := by rw [IntKind.wrap_i64]; omega
  have hP0 := (h.toOpen (o + 1)).alloc (.cells #[.int .i64 0, .int .u64 0, .int .u64 0, .int .u64 0, .int .u64 0, .int .i64 0, .int .i64 0, .slice none 0 0] 97)
  have hG0 := grown_alloc (grown_set (grown_self W (some b)) 2 (.int .i64 ((o + 1 : Nat) : Int))) (.cells #[.int .i64 0, .int .u64 0, .int .u64 0, .int .u64 0, .int .u64 0, .int .i64 0, .int .i64 0, .slice none 0 0] 97)
  have EX := HE b t k (o + 1) e0 _ hP0 (hl.next hG0) ho hf
  rw [show decide (0 < o + 1) = true from decide_eq_true (Nat.succ_pos o)] at EX
  have hsz0 : ((W.setCell ⟨b, 2, none⟩ (.int .i64 ((o + 1 : Nat) : Int))).alloc (.cells #[.int .i64 0, .int .u64 0, .int .u64 0, .int .u64 0, .int .u64 0, .int .i64 0, .int .i64 0, .slice none 0 0] 97)).heap.size = W.heap.size + 1 := by simp
  rw [hsz0] at EX
  have HG0 := Lib.hid hG0
  have HS0 := Lib.hid hsz0
  have HK00 := Lib.hid (show Blk ((W.setCell ⟨b, 2, none⟩ (.int .i64 ((o + 1 : Nat) : Int))).alloc (.cells #[.int .i64 0, .int .u64 0, .int .u64 0, .int .u64 0, .int .u64 0, .int .i64 0, .int .i64 0, .slice none 0 0] 97)) W.heap.size 97 #[.int .i64 0, .int .u64 0, .int .u64 0, .int .u64 0, .int .u64 0, .int .i64 0, .int .i64 0, .slice none 0 0] from new_at _ _ _ _ (by simp))
  obtain ⟨I, hI⟩ : ∃ I, exprP fuel true (atL t k) = I := ⟨_, rfl⟩
  rw [hI] at EX
  obtain ⟨J, hJ⟩ : ∃ J, groupP (exprP fuel true) (atL t k) = J := ⟨_, rfl⟩
  rw [hJ]
  have HI := Lib.hid hI
  have HJ := Lib.hid hJ
  replace EX := Lib.hid EX
  clear h hI hJ hP0 hG0 hsz0 HK0 hf HE
  go_enter Tryz.func141, Tryz.ntmps141
  go_wp2_with fail
  refine EX.out.mono ?_
  rintro e w1 ⟨x, j, f, e1, rfl, hp, hg, ⟨⟨hgood, hwf⟩, hres⟩⟩
  have hb1 := hp.lt
  have hs1 : W.heap.size < w1.heap.size := by have := hg.size; have := HS0.out; omega
  have hjt := hp.le
  have c2' := hp.opened
  have f2' := hp.blk.frozen 2
  have hw2 : IntKind.i64.wrap (((o + 1 : Nat) : Int) - 1) = (o : Int) := by rw [IntKind.wrap_i64]; omega
  have hw3 : IntKind.i64.wrap ((o : Int) + 1 - 1) = (o : Int) := by rw [IntKind.wrap_i64]; omega
  have c2'' : w1.cell? ⟨b, 2, none⟩ = some (.int .i64 ((o : Int) + 1)) := by rw [c2']; rfl
  have HP2 := Lib.hid ((hp.toOpen o).alloc (.cells (nodeC x) 97))
  have HG2 := Lib.hid (grown_alloc (grown_set (World.grownBy.trans HG0.out hg) 2 (.int .i64 (o : Int))) (.cells (nodeC x) 97))
  have HK2 := Lib.hid (((HK00.out.kept hg hbn).set_far hbn 2 (.int .i64 (o : Int))).alloc (.cells (nodeC x) 97))
  have HX2 := Lib.hid (show Blk ((w1.setCell ⟨b, 2, none⟩ (.int .i64 (o : Int))).alloc (.cells (nodeC x) 97)) w1.heap.size 97 (nodeC x) from new_at _ _ _ _ (by simp))
  have HGD2 := Lib.hid ((hgood.grown (grown_set (grown_self w1 (some b)) 2 (.int .i64 (o : Int))) (fun q hq e => by injection e with e; omega)).alloc (.cells (nodeC x) 97))
  have HSZ := Lib.hid (show w1.heap.size + 1 = ((w1.setCell ⟨b, 2, none⟩ (.int .i64 (o : Int))).alloc (.cells (nodeC x) 97)).heap.size by simp)
  have HWF := Lib.hid hwf
  have HRES := Lib.hid hres
  have hxb : w1.heap.size ≠ b := by omega
  clear hp hg hgood hwf hres EX HG0 HK00 HS0 c2 f2
  cases I with
  | bad m =>
    obtain ⟨rfl, he1, hkb⟩ := HRES.out
    have HJ2 := Lib.hid (HJ.out.symm.trans (groupP_bad HI.out))
    clear HRES
    by_cases h41 : ∃ q, atL t j = 41 :: q
    · obtain ⟨q, h41⟩ := h41
      have TK := Lib.hid (take_yes2 b ⟨#[41]⟩ (by decide) q t j o true e1 h41 _ HP2.out (w1.heap.size + 1) HSZ.out)
      clear h41
      unfold nodeC nodeV
      go_wp2_with fail
      refine TK.out.mono ?_
      rintro e w3 ⟨⟨xx, rfl⟩, ⟨hp, hr⟩, hg⟩
      have ZP := Lib.hid hp
      have ZG := Lib.hid (World.grownBy.trans HG2.out hg)
      have ZK := Lib.hid (HK2.out.kept hg hbn)
      have ZX := Lib.hid (HX2.out.kept hg hxb)
      have hgt := World.grownBy.trans (grown_self _ (some b)) hg
      have ZGD := Lib.hid (HGD2.out.grown hg (fun q hq e => by injection e with e; omega))
      have HR3 := Lib.hid hr
      clear hp hg hgt hr TK HP2 HG2 HK2 HX2 HGD2
      have hk3 := ZK.out
      obtain ⟨⟨d0, d1, d2, d3, d4, d5, d6, d7⟩, f0, f1, f2, f3, f4, f5, f6, f7⟩ := nil_cells hk3
      obtain ⟨⟨a0, a1, a2, a3, a4, a5, a6, a7⟩, _⟩ := node_cells ZX.out
      clear hk3
      go_wp2
      refine bodyPost_ret (results_cell_row rfl _ _ W.heap.size 97 (nodeC x) (0, 0) _ rfl (blk_eight ZK.out nilX_lit _ _ _ _ _ _ _ _) Tryz.underlying97 rfl (by kernel_rfl)) rfl ?_
      refine ⟨x, _, true, e1, rfl, ps_eight ZP.out (Ne.symm hbn) _ _ _ _ _ _ _ _, grown_eight ZG.out (Nat.le_refl _) _ _ _ _ _ _ _ _, ⟨(good_eight2 ZGD.out (fun q hq e => by omega) _ _ _ _ _ _ _ _).weaken (fun q hq _ => Nat.le_of_succ_le hq), HWF.out⟩, ?_⟩
      rw [HJ2.out]
      exact ⟨rfl, he1, hkb⟩
    · have h41' : ∀ q, atL t j ≠ 41 :: q := fun q e => h41 ⟨q, e⟩
      have TK := Lib.hid (take_no2 b ⟨#[41]⟩ (by decide) t j o true e1 (head_no 41 _ h41') _ HP2.out (w1.heap.size + 1) HSZ.out)
      clear h41 h41'
      unfold nodeC nodeV
      go_wp2_with fail
      refine TK.out.mono ?_
      rintro e w3 ⟨⟨xx, rfl⟩, hp, hg⟩
      have ZP := Lib.hid hp
      have ZG := Lib.hid (World.grownBy.trans HG2.out hg)
      have ZK := Lib.hid (HK2.out.kept hg hbn)
      have ZX := Lib.hid (HX2.out.kept hg hxb)
      have hgt := World.grownBy.trans (grown_self _ (some b)) hg
      have ZGD := Lib.hid (HGD2.out.grown hg (fun q hq e => by injection e with e; omega))
      skip
      clear hp hg hgt  TK HP2 HG2 HK2 HX2 HGD2
      have q3 := ZP.out.fault
      have hk3 := ZK.out
      obtain ⟨⟨d0, d1, d2, d3, d4, d5, d6, d7⟩, f0, f1, f2, f3, f4, f5, f6, f7⟩ := nil_cells hk3
      obtain ⟨⟨a0, a1, a2, a3, a4, a5, a6, a7⟩, _⟩ := node_cells ZX.out
      clear hk3
      go_wp2
      refine bodyPost_ret (results_cell_row rfl _ _ W.heap.size 97 (nodeC x) (0, 0) _ rfl (blk_eight ZK.out nilX_lit _ _ _ _ _ _ _ _) Tryz.underlying97 rfl (by kernel_rfl)) rfl ?_
      refine ⟨x, _, true, e1, rfl, ps_eight ZP.out (Ne.symm hbn) _ _ _ _ _ _ _ _, grown_eight ZG.out (Nat.le_refl _) _ _ _ _ _ _ _ _, ⟨(good_eight2 ZGD.out (fun q hq e => by omega) _ _ _ _ _ _ _ _).weaken (fun q hq _ => Nat.le_of_succ_le hq), HWF.out⟩, ?_⟩
      rw [HJ2.out]
      exact ⟨rfl, he1, hkb⟩
  | ok n r =>
    obtain ⟨rfl, hxt, hr⟩ := HRES.out
    clear HRES
    by_cases h41 : ∃ q, r = 41 :: q
    · obtain ⟨q, rfl⟩ := h41
      have HJ2 := Lib.hid (HJ.out.symm.trans (groupP_ok HI.out))
      have HXT := Lib.hid hxt
      have TK := Lib.hid (take_yes2 b ⟨#[41]⟩ (by decide) q t j o false e1 hr _ HP2.out (w1.heap.size + 1) HSZ.out)
      clear hr hxt
      unfold nodeC nodeV
      go_wp2_with fail
      refine TK.out.mono ?_
      rintro e w3 ⟨⟨xx, rfl⟩, ⟨hp, hr⟩, hg⟩
      have ZP := Lib.hid hp
      have ZG := Lib.hid (World.grownBy.trans HG2.out hg)
      have ZK := Lib.hid (HK2.out.kept hg hbn)
      have ZX := Lib.hid (HX2.out.kept hg hxb)
      have hgt := World.grownBy.trans (grown_self _ (some b)) hg
      have ZGD := Lib.hid (HGD2.out.grown hg (fun q hq e => by injection e with e; omega))
      have HR3 := Lib.hid hr
      clear hp hg hgt hr TK HP2 HG2 HK2 HX2 HGD2
      have hk3 := ZK.out
      obtain ⟨⟨d0, d1, d2, d3, d4, d5, d6, d7⟩, f0, f1, f2, f3, f4, f5, f6, f7⟩ := nil_cells hk3
      obtain ⟨⟨a0, a1, a2, a3, a4, a5, a6, a7⟩, _⟩ := node_cells ZX.out
      clear hk3
      go_wp2
      refine bodyPost_ret (results_cell_row rfl _ _ W.heap.size 97 (nodeC x) (0, 0) _ rfl (blk_eight ZK.out nilX_lit _ _ _ _ _ _ _ _) Tryz.underlying97 rfl (by kernel_rfl)) rfl ?_
      refine ⟨x, _, false, e1, rfl, ps_eight ZP.out (Ne.symm hbn) _ _ _ _ _ _ _ _, grown_eight ZG.out (Nat.le_refl _) _ _ _ _ _ _ _ _, ⟨(good_eight2 ZGD.out (fun q hq e => by omega) _ _ _ _ _ _ _ _).weaken (fun q hq _ => Nat.le_of_succ_le hq), HWF.out⟩, ?_⟩
      rw [HJ2.out]
      exact ⟨rfl, HXT.out, HR3.out⟩
    · have h41' : ∀ q, r ≠ 41 :: q := fun q e => h41 ⟨q, e⟩
      have HJ2 := Lib.hid (HJ.out.symm.trans (groupP_no HI.out h41'))
      have TK := Lib.hid (take_no2 b ⟨#[41]⟩ (by decide) t j o false e1 (by rw [hr]; exact head_no 41 _ h41') _ HP2.out (w1.heap.size + 1) HSZ.out)
      have hrl : (r.length : Int) = (t.size : Int) - (j : Int) := by rw [← hr, at_len]; omega
      have HRL := Lib.hid hrl
      clear h41 h41' hr hxt hrl
      unfold nodeC nodeV
      go_wp2_with fail
      refine TK.out.mono ?_
      rintro e w3 ⟨⟨xx, rfl⟩, hp, hg⟩
      have ZP := Lib.hid hp
      have ZG := Lib.hid (World.grownBy.trans HG2.out hg)
      have ZK := Lib.hid (HK2.out.kept hg hbn)
      have ZX := Lib.hid (HX2.out.kept hg hxb)
      have hgt := World.grownBy.trans (grown_self _ (some b)) hg
      have ZGD := Lib.hid (HGD2.out.grown hg (fun q hq e => by injection e with e; omega))
      skip
      clear hp hg hgt  TK HP2 HG2 HK2 HX2 HGD2
      have q3 := ZP.out.fault
      have AT := Lib.hid (place_any b t j o false e1 w3 ZP.out)
      have FL := Lib.hid (fail_any b (j : Int) t j o false e1 w3 ZP.out)
      go_wp2_with fail
      refine AT.out.mono ?_
      rintro e w4 ⟨rfl, rfl⟩
      go_wp2_with fail
      refine FL.out.mono ?_
      rintro e w5 ⟨rfl, hp, hg⟩
      have UP := Lib.hid (show Ps w5 b t j o true (j : Int) from hp)
      have UG := Lib.hid (World.grownBy.trans ZG.out hg)
      have hk3 := ZK.out.kept hg hbn
      have UK := Lib.hid hk3
      obtain ⟨⟨d0, d1, d2, d3, d4, d5, d6, d7⟩, f0, f1, f2, f3, f4, f5, f6, f7⟩ := nil_cells hk3
      clear hp hg hk3 FL AT q3 ZP ZG ZK
      try unfold nilC
      go_wp2
      refine bodyPost_ret (results_cell_row rfl _ _ W.heap.size 97 nilC (0, 0) _ rfl (blk_eight UK.out nilX_lit _ _ _ _ _ _ _ _) Tryz.underlying97 rfl (by kernel_rfl)) rfl ?_
      refine ⟨nilX, j, true, (j : Int), rfl, ps_eight UP.out (Ne.symm hbn) _ _ _ _ _ _ _ _, grown_eight UG.out (Nat.le_refl _) _ _ _ _ _ _ _ _, ⟨GoodN.nil _ _, wf_nil⟩, ?_⟩
      rw [HJ2.out]
      exact ⟨rfl, by rw [HRL.out]; omega, by show 0 + k ≤ t.size; omega⟩
theorem atomP_is (E : List UInt8 → Res NodeT) (b : UInt8) (r : List UInt8) : atomP E (b :: r) =
    if b = 40 then groupP E r
    else if b = 46 then .ok (.one anyB) r
    else if b = 94 then .ok (.mk 2 0 0 0 []) r
    else if b = 36 then .ok (.mk 3 0 0 0 []) r
    else if b = 92 then foundP (r.length + 1) (escP r)
    else if b = 91 then foundP (r.length + 1) (classP r)
    else if b ∈ spec then .bad (r.length + 1)
    else .ok (.one (oneB b.toNat)) r := rfl
theorem found_res {w : World} {B : Nat} {t : ByteArray} {k k0 j : Nat} {R : Option (Nat × List UInt8)} {x : NodeX} {f : Bool} {e : Int} {m : Nat} (h : FoundPost R t (k0 : Int) x j f e) (hm : (k0 : Int) = (t.size : Int) - (m : Int)) (hk : k ≤ t.size) : NodeRes w B t k j (foundP m R) x f e := by
  cases R with
  | none =>
    obtain ⟨rfl, rfl, rfl⟩ := h
    exact ⟨⟨GoodN.nil _ _, wf_nil⟩, rfl, hm, by show 0 + k ≤ t.size; omega⟩
  | some y =>
    obtain ⟨S, r⟩ := y
    obtain ⟨rfl, rfl, hS, hr⟩ := h
    exact ⟨⟨GoodN.one _ _ hS, wf_one S⟩, rfl, rfl, hr⟩
theorem NodeRes.frame8 {w : World} {B C : Nat} {t : ByteArray} {k k2 j : Nat} {R : Res NodeT} {x : NodeX} {f : Bool} {e : Int} (h : NodeRes w C t k2 j R x f e) (hk : k ≤ k2) (g : Nat) (hg : g < C) (hB : B ≤ C) (x0 x1 x2 x3 x4 x5 x6 x7 : Value) : NodeRes ((((((((w.setCell ⟨g, 0, none⟩ x0).setCell ⟨g, 1, none⟩ x1).setCell ⟨g, 2, none⟩ x2).setCell ⟨g, 3, none⟩ x3).setCell ⟨g, 4, none⟩ x4).setCell ⟨g, 5, none⟩ x5).setCell ⟨g, 6, none⟩ x6).setCell ⟨g, 7, none⟩ x7) B t k j R x f e := by
  obtain ⟨⟨h1, h2⟩, h3⟩ := h
  refine ⟨⟨(good_eight2 h1 (fun q hq e => by omega) _ _ _ _ _ _ _ _).weaken (fun q hq _ => by omega), h2⟩, ?_⟩
  cases R with
  | ok n r => exact h3
  | bad m => exact ⟨h3.1, h3.2.1, by have := h3.2.2; omega⟩
theorem anyB_lt : anyB < 2 ^ 256 := notB_lt (oneB_lt 10 (by decide))
set_option maxRecDepth 100000 in
set_option maxHeartbeats 6400000 in
theorem atom_any (fuel : Nat) (HE : ExprC fuel) (b : Nat) (t : ByteArray) (k o : Nat) (e0 : Int) (c : UInt8) (r : List UInt8) (W : World) (h : Ps W b t k o false e0) (hl : LibF W b) (ho : o ≤ k) (hf : (atL t k).length < fuel + 1) (hat : atL t k = c :: r) :
    Calls Tryz.prog 124 #[.pointer (some ⟨b, 0, none⟩)] W fun e w' => ∃ x j f e1, e = .returned (.agg (nodeC x)) ∧ Ps w' b t j o f e1 ∧ W.grownBy w' (some b) ∧ NodeRes w' W.heap.size t k j (atomP (exprP fuel true) (atL t k)) x f e1 := by
  have hmf : ∀ (fn : Fn) (first cap : Array Value) (w : World), (Instr.makeFunc fn first cap).run Tryz.prog w = .ok (.func fn first cap) w := fun _ _ _ _ => rfl
  have hlt := h.lt
  have hbn : W.heap.size ≠ b := by omega
  have htz := h.sz
  have hkt := h.le
  have hlen : (r.length : Int) + 1 = (t.size : Int) - (k : Int) := by
    have := at_len t k
    rw [hat, List.length_cons] at this
    omega
  have HLEN := Lib.hid hlen
  have hk1 : k + 1 ≤ t.size := by omega
  rw [hat, List.length_cons] at hf
  have HK0 := Lib.hid (Blk.new W 97 #[.int .i64 0, .int .u64 0, .int .u64 0, .int .u64 0, .int .u64 0, .int .i64 0, .int .i64 0, .slice none 0 0])
  have AT := Lib.hid (place_any b t k o false e0 _ (h.alloc (.cells #[.int .i64 0, .int .u64 0, .int .u64 0, .int .u64 0, .int .u64 0, .int .i64 0, .int .i64 0, .slice none 0 0] 97)))
  have NX := next1 b t k o false e0 c r hat _ (h.alloc (.cells #[.int .i64 0, .int .u64 0, .int .u64 0, .int .u64 0, .int .u64 0, .int .i64 0, .int .i64 0, .slice none 0 0] 97))
  have HG0 := Lib.hid (World.grownBy_alloc W (.cells #[.int .i64 0, .int .u64 0, .int .u64 0, .int .u64 0, .int .u64 0, .int .i64 0, .int .i64 0, .slice none 0 0] 97) (some b))
  have HL := Lib.hid hl
  rw [hat, atomP_is]
  have hn256 := c.toNat_lt
  obtain ⟨z, hz1, hz2⟩ := special_any c
  obtain ⟨n, hn⟩ : ∃ n, c.toNat = n := ⟨_, rfl⟩
  rw [hn] at NX hn256
  simp only [hn] at hz1 ⊢
  replace NX := Lib.hid NX
  have HZ := Lib.hid hz1
  have HZ2 := Lib.hid hz2
  clear h hl hz1 hz2 hat hlen
  by_cases h40 : c = 40
  · obtain rfl : n = 40 := by rw [← hn, h40]; rfl
    rw [if_pos h40]
    clear hn
    go_enter Tryz.func124, Tryz.ntmps124
    go_wp2_with fail
    refine AT.out.mono ?_
    rintro e w0 ⟨rfl, rfl⟩
    go_wp2_with fail
    refine NX.out.mono ?_
    rintro e w1 ⟨rfl, ⟨hp, hr⟩, hg⟩
    have HP1 := Lib.hid hp
    have HR1 := Lib.hid hr
    have HG1 := Lib.hid (World.grownBy.trans HG0.out hg)
    have HK1 := Lib.hid (HK0.out.kept hg hbn)
    have hs1 : W.heap.size < w1.heap.size := HK1.out.lt
    clear hp hr hg AT NX HG0 HK0
    have GP := Lib.hid (group_any fuel HE b t (k + 1) o e0 w1 HP1.out (HL.out.next HG1.out) (by omega) (by rw [HR1.out]; omega))
    rw [HR1.out] at GP
    go_wp2_with fail
    refine GP.out.mono ?_
    rintro e w2 ⟨x, j, f, e1, rfl, hp, hg, hres⟩
    have VP := Lib.hid hp
    have VG := Lib.hid (World.grownBy.trans HG1.out hg)
    have VK := Lib.hid (HK1.out.kept hg hbn)
    have HRES := Lib.hid hres
    clear hp hg hres GP HP1 HG1 HK1
    unfold nodeC nodeV
    have hk9 := VK.out
    obtain ⟨⟨d0, d1, d2, d3, d4, d5, d6, d7⟩, f0, f1, f2, f3, f4, f5, f6, f7⟩ := nil_cells hk9
    clear hk9
    go_wp2
    refine bodyPost_ret (results_cell_row rfl _ _ W.heap.size 97 (nodeC x) (0, 0) _ rfl (blk_eight VK.out nilX_lit _ _ _ _ _ _ _ _) Tryz.underlying97 rfl (by kernel_rfl)) rfl ?_
    refine ⟨x, j, f, e1, rfl, ps_eight VP.out (Ne.symm hbn) _ _ _ _ _ _ _ _, grown_eight VG.out (Nat.le_refl _) _ _ _ _ _ _ _ _, ?_⟩
    exact HRES.out.frame8 (Nat.le_succ _) _ hs1 (Nat.le_of_lt hs1) _ _ _ _ _ _ _ _
  · rw [if_neg h40]
    have g40 : ((n : Int) == 40) = false := by
      rw [beq_eq_false_iff_ne]
      intro e
      exact h40 (UInt8.toNat_inj.1 (by rw [hn]; exact Int.ofNat.inj e))
    by_cases h46 : c = 46
    · obtain rfl : n = 46 := by rw [← hn, h46]; rfl
      rw [if_pos h46]
      clear hn
      go_enter Tryz.func124, Tryz.ntmps124
      go_wp2_with fail
      refine AT.out.mono ?_
      rintro e w0 ⟨rfl, rfl⟩
      go_wp2_with fail
      refine NX.out.mono ?_
      rintro e w1 ⟨rfl, ⟨hp, hr⟩, hg⟩
      have HP1 := Lib.hid hp
      have HR1 := Lib.hid hr
      have HG1 := Lib.hid (World.grownBy.trans HG0.out hg)
      have HK1 := Lib.hid (HK0.out.kept hg hbn)
      have hs1 : W.heap.size < w1.heap.size := HK1.out.lt
      clear hp hr hg AT NX HG0 HK0
      have OO := Lib.hid (show ∀ w, Calls Tryz.prog 142 #[.agg #[.int .u64 (word anyB 0 : Nat), .int .u64 (word anyB 1 : Nat), .int .u64 (word anyB 2 : Nat), .int .u64 (word anyB 3 : Nat)]] w (fun e w' => e = .returned (.agg #[.int .i64 1, .int .u64 (word anyB 0 : Nat), .int .u64 (word anyB 1 : Nat), .int .u64 (word anyB 2 : Nat), .int .u64 (word anyB 3 : Nat), .int .i64 0, .int .i64 0, .slice none 0 0]) ∧ Below w.heap.size w w') from fun w => oneOf_any anyB w)
      have SN := Lib.hid anyByte_any
      go_wp2_with fail
      refine (SN.out _).mono ?_
      rintro e w2 ⟨rfl, hx⟩
      have QP := Lib.hid (HP1.out.belowS hx)
      have QG := Lib.hid (grown_hop HG1.out hx)
      have QK := Lib.hid (HK1.out.below hx HK1.out.lt)
      clear hx HP1 HG1 HK1
      try unfold setV
      try unfold setC
      go_wp2_with fail
      refine (OO.out _).mono ?_
      rintro e w3 ⟨rfl, hx⟩
      have VP := Lib.hid (QP.out.belowS hx)
      have VG := Lib.hid (grown_hop QG.out hx)
      have VK := Lib.hid (QK.out.below hx QK.out.lt)
      clear hx QP QG QK
      have hk9 := VK.out
      obtain ⟨⟨d0, d1, d2, d3, d4, d5, d6, d7⟩, f0, f1, f2, f3, f4, f5, f6, f7⟩ := nil_cells hk9
      clear hk9
      go_wp2
      refine bodyPost_ret (results_cell_row rfl _ _ W.heap.size 97 #[.int .i64 1, .int .u64 (word anyB 0 : Nat), .int .u64 (word anyB 1 : Nat), .int .u64 (word anyB 2 : Nat), .int .u64 (word anyB 3 : Nat), .int .i64 0, .int .i64 0, .slice none 0 0] (0, 0) _ rfl (blk_eight VK.out nilX_lit _ _ _ _ _ _ _ _) Tryz.underlying97 rfl (by kernel_rfl)) rfl ?_
      refine ⟨oneX anyB, k + 1, false, e0, rfl, ps_eight VP.out (Ne.symm hbn) _ _ _ _ _ _ _ _, grown_eight VG.out (Nat.le_refl _) _ _ _ _ _ _ _ _, ?_⟩
      exact ⟨⟨GoodN.one _ _ anyB_lt, wf_one _⟩, rfl, rfl, HR1.out⟩
    · rw [if_neg h46]
      have g46 : ((n : Int) == 46) = false := by
        rw [beq_eq_false_iff_ne]
        intro e
        exact h46 (UInt8.toNat_inj.1 (by rw [hn]; exact Int.ofNat.inj e))
      by_cases h94 : c = 94
      · obtain rfl : n = 94 := by rw [← hn, h94]; rfl
        rw [if_pos h94]
        clear hn
        go_enter Tryz.func124, Tryz.ntmps124
        go_wp2_with fail
        refine AT.out.mono ?_
        rintro e w0 ⟨rfl, rfl⟩
        go_wp2_with fail
        refine NX.out.mono ?_
        rintro e w1 ⟨rfl, ⟨hp, hr⟩, hg⟩
        have HP1 := Lib.hid hp
        have HR1 := Lib.hid hr
        have HG1 := Lib.hid (World.grownBy.trans HG0.out hg)
        have HK1 := Lib.hid (HK0.out.kept hg hbn)
        have hs1 : W.heap.size < w1.heap.size := HK1.out.lt
        clear hp hr hg AT NX HG0 HK0
        have VP := HP1
        have VG := HG1
        have VK := HK1
        have hk9 := VK.out
        obtain ⟨⟨d0, d1, d2, d3, d4, d5, d6, d7⟩, f0, f1, f2, f3, f4, f5, f6, f7⟩ := nil_cells hk9
        clear hk9
        go_wp2
        refine bodyPost_ret (results_cell_row rfl _ _ W.heap.size 97 #[.int .i64 2, .int .u64 0, .int .u64 0, .int .u64 0, .int .u64 0, .int .i64 0, .int .i64 0, .slice none 0 0] (0, 0) _ rfl (blk_eight VK.out nilX_lit _ _ _ _ _ _ _ _) Tryz.underlying97 rfl (by kernel_rfl)) rfl ?_
        refine ⟨(.mk 2 0 0 0 none 0 0 []), k + 1, false, e0, congrArg (fun c => Ending.returned (.agg c)) (mkX_c 2 0 0 none 0 0 []), ps_eight VP.out (Ne.symm hbn) _ _ _ _ _ _ _ _, grown_eight VG.out (Nat.le_refl _) _ _ _ _ _ _ _ _, ?_⟩
        exact ⟨⟨.mk (by decide) (fun _ => ⟨rfl, rfl⟩) ⟨Nat.le_refl _, Nat.zero_le _⟩ (RowR.none _) (fun h => absurd h (by decide)) (fun _ h => by cases h), by rintro (h | h) <;> cases h⟩, rfl, rfl, HR1.out⟩
      · rw [if_neg h94]
        have g94 : ((n : Int) == 94) = false := by
          rw [beq_eq_false_iff_ne]
          intro e
          exact h94 (UInt8.toNat_inj.1 (by rw [hn]; exact Int.ofNat.inj e))
        by_cases h36 : c = 36
        · obtain rfl : n = 36 := by rw [← hn, h36]; rfl
          rw [if_pos h36]
          clear hn
          go_enter Tryz.func124, Tryz.ntmps124
          go_wp2_with fail
          refine AT.out.mono ?_
          rintro e w0 ⟨rfl, rfl⟩
          go_wp2_with fail
          refine NX.out.mono ?_
          rintro e w1 ⟨rfl, ⟨hp, hr⟩, hg⟩
          have HP1 := Lib.hid hp
          have HR1 := Lib.hid hr
          have HG1 := Lib.hid (World.grownBy.trans HG0.out hg)
          have HK1 := Lib.hid (HK0.out.kept hg hbn)
          have hs1 : W.heap.size < w1.heap.size := HK1.out.lt
          clear hp hr hg AT NX HG0 HK0
          have VP := HP1
          have VG := HG1
          have VK := HK1
          have hk9 := VK.out
          obtain ⟨⟨d0, d1, d2, d3, d4, d5, d6, d7⟩, f0, f1, f2, f3, f4, f5, f6, f7⟩ := nil_cells hk9
          clear hk9
          go_wp2
          refine bodyPost_ret (results_cell_row rfl _ _ W.heap.size 97 #[.int .i64 3, .int .u64 0, .int .u64 0, .int .u64 0, .int .u64 0, .int .i64 0, .int .i64 0, .slice none 0 0] (0, 0) _ rfl (blk_eight VK.out nilX_lit _ _ _ _ _ _ _ _) Tryz.underlying97 rfl (by kernel_rfl)) rfl ?_
          refine ⟨(.mk 3 0 0 0 none 0 0 []), k + 1, false, e0, congrArg (fun c => Ending.returned (.agg c)) (mkX_c 3 0 0 none 0 0 []), ps_eight VP.out (Ne.symm hbn) _ _ _ _ _ _ _ _, grown_eight VG.out (Nat.le_refl _) _ _ _ _ _ _ _ _, ?_⟩
          exact ⟨⟨.mk (by decide) (fun _ => ⟨rfl, rfl⟩) ⟨Nat.le_refl _, Nat.zero_le _⟩ (RowR.none _) (fun h => absurd h (by decide)) (fun _ h => by cases h), by rintro (h | h) <;> cases h⟩, rfl, rfl, HR1.out⟩
        · rw [if_neg h36]
          have g36 : ((n : Int) == 36) = false := by
            rw [beq_eq_false_iff_ne]
            intro e
            exact h36 (UInt8.toNat_inj.1 (by rw [hn]; exact Int.ofNat.inj e))
          by_cases h92 : c = 92
          · obtain rfl : n = 92 := by rw [← hn, h92]; rfl
            rw [if_pos h92]
            clear hn
            go_enter Tryz.func124, Tryz.ntmps124
            go_wp2_with fail
            refine AT.out.mono ?_
            rintro e w0 ⟨rfl, rfl⟩
            go_wp2_with fail
            refine NX.out.mono ?_
            rintro e w1 ⟨rfl, ⟨hp, hr⟩, hg⟩
            have HP1 := Lib.hid hp
            have HR1 := Lib.hid hr
            have HG1 := Lib.hid (World.grownBy.trans HG0.out hg)
            have HK1 := Lib.hid (HK0.out.kept hg hbn)
            have hs1 : W.heap.size < w1.heap.size := HK1.out.lt
            clear hp hr hg AT NX HG0 HK0
            have FD := Lib.hid (found_esc b (k : Int) t (k + 1) o e0 w1 HP1.out)
            rw [HR1.out] at FD
            go_wp2_with fail
            refine FD.out.mono ?_
            rintro e w2 ⟨x, j, f, e1, rfl, hp, hg, hpost⟩
            have VP := Lib.hid hp
            have VG := Lib.hid (World.grownBy.trans HG1.out hg)
            have VK := Lib.hid (HK1.out.kept hg hbn)
            have HRES := Lib.hid (found_res (w := w2) (B := w1.heap.size) (k := k) (m := r.length + 1) hpost (by have := HLEN.out; omega) hkt)
            clear hp hg hpost FD HP1 HG1 HK1
            unfold nodeC nodeV
            have hk9 := VK.out
            obtain ⟨⟨d0, d1, d2, d3, d4, d5, d6, d7⟩, f0, f1, f2, f3, f4, f5, f6, f7⟩ := nil_cells hk9
            clear hk9
            go_wp2
            refine bodyPost_ret (results_cell_row rfl _ _ W.heap.size 97 (nodeC x) (0, 0) _ rfl (blk_eight VK.out nilX_lit _ _ _ _ _ _ _ _) Tryz.underlying97 rfl (by kernel_rfl)) rfl ?_
            refine ⟨x, j, f, e1, rfl, ps_eight VP.out (Ne.symm hbn) _ _ _ _ _ _ _ _, grown_eight VG.out (Nat.le_refl _) _ _ _ _ _ _ _ _, ?_⟩
            exact HRES.out.frame8 (Nat.le_refl _) _ hs1 (Nat.le_of_lt hs1) _ _ _ _ _ _ _ _
          · rw [if_neg h92]
            have g92 : ((n : Int) == 92) = false := by
              rw [beq_eq_false_iff_ne]
              intro e
              exact h92 (UInt8.toNat_inj.1 (by rw [hn]; exact Int.ofNat.inj e))
            by_cases h91 : c = 91
            · obtain rfl : n = 91 := by rw [← hn, h91]; rfl
              rw [if_pos h91]
              clear hn
              go_enter Tryz.func124, Tryz.ntmps124
              go_wp2_with fail
              refine AT.out.mono ?_
              rintro e w0 ⟨rfl, rfl⟩
              go_wp2_with fail
              refine NX.out.mono ?_
              rintro e w1 ⟨rfl, ⟨hp, hr⟩, hg⟩
              have HP1 := Lib.hid hp
              have HR1 := Lib.hid hr
              have HG1 := Lib.hid (World.grownBy.trans HG0.out hg)
              have HK1 := Lib.hid (HK0.out.kept hg hbn)
              have hs1 : W.heap.size < w1.heap.size := HK1.out.lt
              clear hp hr hg AT NX HG0 HK0
              have FD := Lib.hid (found_cls b (k : Int) t (k + 1) o e0 w1 HP1.out)
              rw [HR1.out] at FD
              go_wp2_with fail
              refine FD.out.mono ?_
              rintro e w2 ⟨x, j, f, e1, rfl, hp, hg, hpost⟩
              have VP := Lib.hid hp
              have VG := Lib.hid (World.grownBy.trans HG1.out hg)
              have VK := Lib.hid (HK1.out.kept hg hbn)
              have HRES := Lib.hid (found_res (w := w2) (B := w1.heap.size) (k := k) (m := r.length + 1) hpost (by have := HLEN.out; omega) hkt)
              clear hp hg hpost FD HP1 HG1 HK1
              unfold nodeC nodeV
              have hk9 := VK.out
              obtain ⟨⟨d0, d1, d2, d3, d4, d5, d6, d7⟩, f0, f1, f2, f3, f4, f5, f6, f7⟩ := nil_cells hk9
              clear hk9
              go_wp2
              refine bodyPost_ret (results_cell_row rfl _ _ W.heap.size 97 (nodeC x) (0, 0) _ rfl (blk_eight VK.out nilX_lit _ _ _ _ _ _ _ _) Tryz.underlying97 rfl (by kernel_rfl)) rfl ?_
              refine ⟨x, j, f, e1, rfl, ps_eight VP.out (Ne.symm hbn) _ _ _ _ _ _ _ _, grown_eight VG.out (Nat.le_refl _) _ _ _ _ _ _ _ _, ?_⟩
              exact HRES.out.frame8 (Nat.le_refl _) _ hs1 (Nat.le_of_lt hs1) _ _ _ _ _ _ _ _
            · rw [if_neg h91]
              have g91 : ((n : Int) == 91) = false := by
                rw [beq_eq_false_iff_ne]
                intro e
                exact h91 (UInt8.toNat_inj.1 (by rw [hn]; exact Int.ofNat.inj e))
              by_cases hs : c ∈ spec
              · rw [if_pos hs]
                have hzz : ¬ z < 0 := fun q => (HZ2.out.1 q) hs
                have hz0 : 0 ≤ z := by omega
                clear hn
                go_enter Tryz.func124, Tryz.ntmps124
                go_wp2_with fail
                refine AT.out.mono ?_
                rintro e w0 ⟨rfl, rfl⟩
                go_wp2_with fail
                refine NX.out.mono ?_
                rintro e w1 ⟨rfl, ⟨hp, hr⟩, hg⟩
                have HP1 := Lib.hid hp
                have HR1 := Lib.hid hr
                have HG1 := Lib.hid (World.grownBy.trans HG0.out hg)
                have HK1 := Lib.hid (HK0.out.kept hg hbn)
                have hs1 : W.heap.size < w1.heap.size := HK1.out.lt
                clear hp hr hg AT NX HG0 HK0
                have FL := Lib.hid (fail_any b (k : Int) t (k + 1) o false e0 w1 HP1.out)
                go_wp2_with fail
                refine (HZ.out _).mono ?_
                rintro e w5 ⟨rfl, rfl⟩
                go_wp2_with fail
                refine FL.out.mono ?_
                rintro e w2 ⟨rfl, hp, hg⟩
                have VP := Lib.hid (show Ps w2 b t (k + 1) o true (k : Int) from hp)
                have VG := Lib.hid (World.grownBy.trans HG1.out hg)
                have VK := Lib.hid (HK1.out.kept hg hbn)
                clear hp hg FL HP1 HG1 HK1
                try unfold nilC
                have hk9 := VK.out
                obtain ⟨⟨d0, d1, d2, d3, d4, d5, d6, d7⟩, f0, f1, f2, f3, f4, f5, f6, f7⟩ := nil_cells hk9
                clear hk9
                go_wp2
                refine bodyPost_ret (results_cell_row rfl _ _ W.heap.size 97 nilC (0, 0) _ rfl (blk_eight VK.out nilX_lit _ _ _ _ _ _ _ _) Tryz.underlying97 rfl (by kernel_rfl)) rfl ?_
                refine ⟨nilX, k + 1, true, (k : Int), rfl, ps_eight VP.out (Ne.symm hbn) _ _ _ _ _ _ _ _, grown_eight VG.out (Nat.le_refl _) _ _ _ _ _ _ _ _, ?_⟩
                exact ⟨⟨GoodN.nil _ _, wf_nil⟩, rfl, by have := HLEN.out; omega, by show 0 + k ≤ t.size; omega⟩
              · rw [if_neg hs]
                have hzz : z < 0 := HZ2.out.2 hs
                have hz0 : ¬ 0 ≤ z := by omega
                clear hn
                go_enter Tryz.func124, Tryz.ntmps124
                go_wp2_with fail
                refine AT.out.mono ?_
                rintro e w0 ⟨rfl, rfl⟩
                go_wp2_with fail
                refine NX.out.mono ?_
                rintro e w1 ⟨rfl, ⟨hp, hr⟩, hg⟩
                have HP1 := Lib.hid hp
                have HR1 := Lib.hid hr
                have HG1 := Lib.hid (World.grownBy.trans HG0.out hg)
                have HK1 := Lib.hid (HK0.out.kept hg hbn)
                have hs1 : W.heap.size < w1.heap.size := HK1.out.lt
                clear hp hr hg AT NX HG0 HK0
                have OO := Lib.hid (show ∀ w, Calls Tryz.prog 142 #[.agg #[.int .u64 (word (oneB n) 0 : Nat), .int .u64 (word (oneB n) 1 : Nat), .int .u64 (word (oneB n) 2 : Nat), .int .u64 (word (oneB n) 3 : Nat)]] w (fun e w' => e = .returned (.agg #[.int .i64 1, .int .u64 (word (oneB n) 0 : Nat), .int .u64 (word (oneB n) 1 : Nat), .int .u64 (word (oneB n) 2 : Nat), .int .u64 (word (oneB n) 3 : Nat), .int .i64 0, .int .i64 0, .slice none 0 0]) ∧ Below w.heap.size w w') from fun w => oneOf_any (oneB n) w)
                have SN := Lib.hid (fun w => single_any n hn256 w)
                go_wp2_with fail
                refine (HZ.out _).mono ?_
                rintro e w5 ⟨rfl, rfl⟩
                go_wp2_with fail
                refine (SN.out _).mono ?_
                rintro e w2 ⟨rfl, hx⟩
                have QP := Lib.hid (HP1.out.belowS hx)
                have QG := Lib.hid (grown_hop HG1.out hx)
                have QK := Lib.hid (HK1.out.below hx HK1.out.lt)
                clear hx HP1 HG1 HK1
                try unfold setV
                try unfold setC
                go_wp2_with fail
                refine (OO.out _).mono ?_
                rintro e w3 ⟨rfl, hx⟩
                have VP := Lib.hid (QP.out.belowS hx)
                have VG := Lib.hid (grown_hop QG.out hx)
                have VK := Lib.hid (QK.out.below hx QK.out.lt)
                clear hx QP QG QK
                have hk9 := VK.out
                obtain ⟨⟨d0, d1, d2, d3, d4, d5, d6, d7⟩, f0, f1, f2, f3, f4, f5, f6, f7⟩ := nil_cells hk9
                clear hk9
                go_wp2
                refine bodyPost_ret (results_cell_row rfl _ _ W.heap.size 97 #[.int .i64 1, .int .u64 (word (oneB n) 0 : Nat), .int .u64 (word (oneB n) 1 : Nat), .int .u64 (word (oneB n) 2 : Nat), .int .u64 (word (oneB n) 3 : Nat), .int .i64 0, .int .i64 0, .slice none 0 0] (0, 0) _ rfl (blk_eight VK.out nilX_lit _ _ _ _ _ _ _ _) Tryz.underlying97 rfl (by kernel_rfl)) rfl ?_
                refine ⟨oneX (oneB n), k + 1, false, e0, rfl, ps_eight VP.out (Ne.symm hbn) _ _ _ _ _ _ _ _, grown_eight VG.out (Nat.le_refl _) _ _ _ _ _ _ _ _, ?_⟩
                exact ⟨⟨GoodN.one _ _ (oneB_lt n hn256), wf_one _⟩, rfl, rfl, HR1.out⟩
theorem pieceP_bad {E : List UInt8 → Res NodeT} {l : List UInt8} {k : Nat} (h : atomP E l = .bad k) : pieceP E l = .bad k := by unfold pieceP; rw [h]
theorem pieceP_is {E : List UInt8 → Res NodeT} {l r : List UInt8} {n : NodeT} (h : atomP E l = .ok n r) : pieceP E l = timesP n r := by unfold pieceP; rw [h]
theorem timesP_nil (n : NodeT) : timesP n [] = .ok n [] := rfl
set_option maxRecDepth 100000 in
set_option maxHeartbeats 6400000 in
theorem piece_any (fuel : Nat) (HE : ExprC fuel) (b : Nat) (t : ByteArray) (k o : Nat) (e0 : Int) (c : UInt8) (r : List UInt8) (W : World) (h : Ps W b t k o false e0) (hl : LibF W b) (ho : o ≤ k) (hf : (atL t k).length < fuel + 1) (hat : atL t k = c :: r) :
    Calls Tryz.prog 107 #[.pointer (some ⟨b, 0, none⟩)] W fun e w' => ∃ x j f e1, e = .returned (.agg (nodeC x)) ∧ Ps w' b t j o f e1 ∧ W.grownBy w' (some b) ∧ NodeRes w' W.heap.size t k j (pieceP (exprP fuel true) (atL t k)) x f e1 := by
  have hlt := h.lt
  have hbn : W.heap.size ≠ b := by omega
  have htz := h.sz
  have hkt := h.le
  have hG0 := World.grownBy_alloc W (.cells #[.int .i64 0, .int .u64 0, .int .u64 0, .int .u64 0, .int .u64 0, .int .i64 0, .int .i64 0, .slice none 0 0] 97) (some b)
  have AM := atom_any fuel HE b t k o e0 c r _ (h.alloc (.cells #[.int .i64 0, .int .u64 0, .int .u64 0, .int .u64 0, .int .u64 0, .int .i64 0, .int .i64 0, .slice none 0 0] 97)) (hl.next hG0) ho hf hat
  have hsz0 : (W.alloc (.cells #[.int .i64 0, .int .u64 0, .int .u64 0, .int .u64 0, .int .u64 0, .int .i64 0, .int .i64 0, .slice none 0 0] 97)).heap.size = W.heap.size + 1 := by simp
  rw [hsz0] at AM
  have HK0 := Lib.hid (Blk.new W 97 #[.int .i64 0, .int .u64 0, .int .u64 0, .int .u64 0, .int .u64 0, .int .i64 0, .int .i64 0, .slice none 0 0])
  have HG0 := Lib.hid hG0
  have HS0 := Lib.hid hsz0
  have HL := Lib.hid hl
  obtain ⟨I, hI⟩ : ∃ I, atomP (exprP fuel true) (atL t k) = I := ⟨_, rfl⟩
  rw [hI] at AM
  obtain ⟨J, hJ⟩ : ∃ J, pieceP (exprP fuel true) (atL t k) = J := ⟨_, rfl⟩
  rw [hJ]
  have HI := Lib.hid hI
  have HJ := Lib.hid hJ
  replace AM := Lib.hid AM
  clear h hl hI hJ hG0 hsz0 hf hat HE ho
  go_enter Tryz.func107, Tryz.ntmps107
  go_wp2_with fail
  refine AM.out.mono ?_
  rintro e w1 ⟨x, j, f, e1, rfl, hp, hg, ⟨⟨hgood, hwf⟩, hres⟩⟩
  have hb1 := hp.lt
  have hs1 : W.heap.size < w1.heap.size := by have := hg.size; have := HS0.out; omega
  have hjt := hp.le
  have hxb : w1.heap.size ≠ b := by omega
  have hx0 : W.heap.size ≠ w1.heap.size := by omega
  have HP1 := Lib.hid (hp.alloc (.cells (nodeC x) 97))
  have HG1 := Lib.hid (grown_alloc (World.grownBy.trans HG0.out hg) (.cells (nodeC x) 97))
  have HK1 := Lib.hid ((HK0.out.kept hg hbn).alloc (.cells (nodeC x) 97))
  have HX1 := Lib.hid (new_at w1 97 (nodeC x) w1.heap.size rfl)
  have HGD1 := Lib.hid (hgood.alloc (.cells (nodeC x) 97))
  have AT := Lib.hid (place_any b t j o f e1 _ HP1.out)
  have HWF := Lib.hid hwf
  have HRES := Lib.hid hres
  have hxs : (w1.alloc (.cells (nodeC x) 97)).heap.size = w1.heap.size + 1 := by simp
  have HXS := Lib.hid hxs
  clear hp hg hgood hwf hres AM HG0 HK0 HS0 hxs
  cases I with
  | bad m =>
    obtain ⟨rfl, he1, hkb⟩ := HRES.out
    have HJ2 := Lib.hid (HJ.out.symm.trans (pieceP_bad HI.out))
    have HE1 := Lib.hid he1
    clear HRES he1
    cases hq : atL t j with
    | nil =>
      have PK := Lib.hid (peek0 b t j o true e1 hq _ HP1.out)
      clear hq
      unfold nodeC nodeV
      go_wp2_with fail
      refine AT.out.mono ?_
      rintro e w0 ⟨rfl, rfl⟩
      go_wp2_with fail
      refine PK.out.mono ?_
      rintro e w2 ⟨rfl, qd, hw2⟩
      have VP := Lib.hid (by rw [hw2]; exact HP1.out.drewN qd : Ps w2 b t j o true e1)
      have VG := Lib.hid (by rw [hw2]; exact World.grownBy.trans HG1.out (grown_drew _ _ qd) : W.grownBy w2 (some b))
      have VK := Lib.hid (by rw [hw2]; exact HK1.out.drewN qd : Blk w2 W.heap.size 97 #[.int .i64 0, .int .u64 0, .int .u64 0, .int .u64 0, .int .u64 0, .int .i64 0, .int .i64 0, .slice none 0 0])
      have VX := Lib.hid (by rw [hw2]; exact HX1.out.drewN qd : Blk w2 w1.heap.size 97 (nodeC x))
      have VD := Lib.hid (by rw [hw2]; exact HGD1.out.later (below_drewN (Below.refl _ _) qd) : GoodN w2 (fun g => W.heap.size + 1 ≤ g) x)
      have hs2 : w1.heap.size + 1 ≤ w2.heap.size := by rw [hw2]; have := HXS.out; show w1.heap.size + 1 ≤ (w1.alloc _).heap.size; omega
      clear hw2 AT PK HP1 HG1 HK1 HX1 HGD1
      obtain ⟨⟨a0, a1, a2, a3, a4, a5, a6, a7⟩, _⟩ := node_cells VX.out
      have hk9 := VK.out
      obtain ⟨⟨d0, d1, d2, d3, d4, d5, d6, d7⟩, f0, f1, f2, f3, f4, f5, f6, f7⟩ := nil_cells hk9
      clear hk9
      go_wp2
      refine bodyPost_ret (results_cell_row rfl _ _ W.heap.size 97 (nodeC x) (0, 0) _ rfl (blk_eight VK.out nilX_lit _ _ _ _ _ _ _ _) Tryz.underlying97 rfl (by kernel_rfl)) rfl ?_
      refine ⟨x, _, true, e1, rfl, ps_eight VP.out (Ne.symm hbn) _ _ _ _ _ _ _ _, grown_eight VG.out (Nat.le_refl _) _ _ _ _ _ _ _ _, ?_⟩
      exact ⟨⟨(good_eight2 VD.out (fun q hq e => by omega) _ _ _ _ _ _ _ _).weaken (fun q hq _ => Nat.le_of_succ_le hq), HWF.out⟩, by rw [HJ2.out]; exact ⟨rfl, HE1.out, hkb⟩⟩
    | cons d q =>
      have PK := Lib.hid (peek1 b t j o true e1 d q hq _ HP1.out)
      clear hq
      unfold nodeC nodeV
      go_wp2_with fail
      refine AT.out.mono ?_
      rintro e w0 ⟨rfl, rfl⟩
      go_wp2_with fail
      refine PK.out.mono ?_
      rintro e w2 ⟨rfl, qd, hw2⟩
      have VP := Lib.hid (by rw [hw2]; exact HP1.out.drewN qd : Ps w2 b t j o true e1)
      have VG := Lib.hid (by rw [hw2]; exact World.grownBy.trans HG1.out (grown_drew _ _ qd) : W.grownBy w2 (some b))
      have VK := Lib.hid (by rw [hw2]; exact HK1.out.drewN qd : Blk w2 W.heap.size 97 #[.int .i64 0, .int .u64 0, .int .u64 0, .int .u64 0, .int .u64 0, .int .i64 0, .int .i64 0, .slice none 0 0])
      have VX := Lib.hid (by rw [hw2]; exact HX1.out.drewN qd : Blk w2 w1.heap.size 97 (nodeC x))
      have VD := Lib.hid (by rw [hw2]; exact HGD1.out.later (below_drewN (Below.refl _ _) qd) : GoodN w2 (fun g => W.heap.size + 1 ≤ g) x)
      have hs2 : w1.heap.size + 1 ≤ w2.heap.size := by rw [hw2]; have := HXS.out; show w1.heap.size + 1 ≤ (w1.alloc _).heap.size; omega
      clear hw2 AT PK HP1 HG1 HK1 HX1 HGD1
      have q3 := VP.out.fault
      obtain ⟨⟨a0, a1, a2, a3, a4, a5, a6, a7⟩, _⟩ := node_cells VX.out
      have hk9 := VK.out
      obtain ⟨⟨d0, d1, d2, d3, d4, d5, d6, d7⟩, f0, f1, f2, f3, f4, f5, f6, f7⟩ := nil_cells hk9
      clear hk9
      go_wp2
      refine bodyPost_ret (results_cell_row rfl _ _ W.heap.size 97 (nodeC x) (0, 0) _ rfl (blk_eight VK.out nilX_lit _ _ _ _ _ _ _ _) Tryz.underlying97 rfl (by kernel_rfl)) rfl ?_
      refine ⟨x, _, true, e1, rfl, ps_eight VP.out (Ne.symm hbn) _ _ _ _ _ _ _ _, grown_eight VG.out (Nat.le_refl _) _ _ _ _ _ _ _ _, ?_⟩
      exact ⟨⟨(good_eight2 VD.out (fun q hq e => by omega) _ _ _ _ _ _ _ _).weaken (fun q hq _ => Nat.le_of_succ_le hq), HWF.out⟩, by rw [HJ2.out]; exact ⟨rfl, HE1.out, hkb⟩⟩
  | ok n q0 =>
    obtain ⟨rfl, hxt, hr⟩ := HRES.out
    have HJ1 := Lib.hid (HJ.out.symm.trans (pieceP_is HI.out))
    have HXT := Lib.hid hxt
    clear HRES hxt
    cases q0 with
    | nil =>
      have HJ2 := Lib.hid (HJ1.out.trans (timesP_nil n))
      have HR := Lib.hid hr
      have PK := Lib.hid (peek0 b t j o false e1 hr _ HP1.out)
      clear hr
      unfold nodeC nodeV
      go_wp2_with fail
      refine AT.out.mono ?_
      rintro e w0 ⟨rfl, rfl⟩
      go_wp2_with fail
      refine PK.out.mono ?_
      rintro e w2 ⟨rfl, qd, hw2⟩
      have VP := Lib.hid (by rw [hw2]; exact HP1.out.drewN qd : Ps w2 b t j o false e1)
      have VG := Lib.hid (by rw [hw2]; exact World.grownBy.trans HG1.out (grown_drew _ _ qd) : W.grownBy w2 (some b))
      have VK := Lib.hid (by rw [hw2]; exact HK1.out.drewN qd : Blk w2 W.heap.size 97 #[.int .i64 0, .int .u64 0, .int .u64 0, .int .u64 0, .int .u64 0, .int .i64 0, .int .i64 0, .slice none 0 0])
      have VX := Lib.hid (by rw [hw2]; exact HX1.out.drewN qd : Blk w2 w1.heap.size 97 (nodeC x))
      have VD := Lib.hid (by rw [hw2]; exact HGD1.out.later (below_drewN (Below.refl _ _) qd) : GoodN w2 (fun g => W.heap.size + 1 ≤ g) x)
      have hs2 : w1.heap.size + 1 ≤ w2.heap.size := by rw [hw2]; have := HXS.out; show w1.heap.size + 1 ≤ (w1.alloc _).heap.size; omega
      clear hw2 AT PK HP1 HG1 HK1 HX1 HGD1
      obtain ⟨⟨a0, a1, a2, a3, a4, a5, a6, a7⟩, _⟩ := node_cells VX.out
      have hk9 := VK.out
      obtain ⟨⟨d0, d1, d2, d3, d4, d5, d6, d7⟩, f0, f1, f2, f3, f4, f5, f6, f7⟩ := nil_cells hk9
      clear hk9
      go_wp2
      refine bodyPost_ret (results_cell_row rfl _ _ W.heap.size 97 (nodeC x) (0, 0) _ rfl (blk_eight VK.out nilX_lit _ _ _ _ _ _ _ _) Tryz.underlying97 rfl (by kernel_rfl)) rfl ?_
      refine ⟨x, _, false, e1, rfl, ps_eight VP.out (Ne.symm hbn) _ _ _ _ _ _ _ _, grown_eight VG.out (Nat.le_refl _) _ _ _ _ _ _ _ _, ?_⟩
      exact ⟨⟨(good_eight2 VD.out (fun q hq e => by omega) _ _ _ _ _ _ _ _).weaken (fun q hq _ => Nat.le_of_succ_le hq), HWF.out⟩, by rw [HJ2.out]; exact ⟨rfl, HXT.out, HR.out⟩⟩
    | cons d q =>
      have hj2 := HJ1.out
      rw [timesP_cons] at hj2
      have HR := Lib.hid hr
      have PK := peek1 b t j o false e1 d q hr _ HP1.out
      have NXF := fun w (hp : Ps w b t j o false e1) => next1 b t j o false e1 d q hr w hp
      have hlen : (q.length : Int) + 1 = (t.size : Int) - (j : Int) := by
        have := at_len t j
        rw [hr, List.length_cons] at this
        omega
      have HLEN := Lib.hid hlen
      obtain ⟨m, hm⟩ : ∃ m, d.toNat = m := ⟨_, rfl⟩
      simp only [hm] at PK NXF
      replace PK := Lib.hid PK
      have HNX := Lib.hid NXF
      clear hr NXF hlen
      by_cases h42 : d = 42
      · obtain rfl : m = 42 := by rw [← hm, h42]; rfl
        rw [if_pos h42] at hj2
        have HJ2 := Lib.hid hj2
        clear hm hj2
        unfold nodeC nodeV
        go_wp2_with fail
        refine AT.out.mono ?_
        rintro e w0 ⟨rfl, rfl⟩
        go_wp2_with fail
        refine PK.out.mono ?_
        rintro e w2 ⟨rfl, qd, hw2⟩
        have VP := Lib.hid (by rw [hw2]; exact HP1.out.drewN qd : Ps w2 b t j o false e1)
        have VG := Lib.hid (by rw [hw2]; exact World.grownBy.trans HG1.out (grown_drew _ _ qd) : W.grownBy w2 (some b))
        have VK := Lib.hid (by rw [hw2]; exact HK1.out.drewN qd : Blk w2 W.heap.size 97 #[.int .i64 0, .int .u64 0, .int .u64 0, .int .u64 0, .int .u64 0, .int .i64 0, .int .i64 0, .slice none 0 0])
        have VX := Lib.hid (by rw [hw2]; exact HX1.out.drewN qd : Blk w2 w1.heap.size 97 (nodeC x))
        have VD := Lib.hid (by rw [hw2]; exact HGD1.out.later (below_drewN (Below.refl _ _) qd) : GoodN w2 (fun g => W.heap.size + 1 ≤ g) x)
        have hs2 : w1.heap.size + 1 ≤ w2.heap.size := by rw [hw2]; have := HXS.out; show w1.heap.size + 1 ≤ (w1.alloc _).heap.size; omega
        clear hw2 AT PK HP1 HG1 HK1 HX1 HGD1
        have q3 := VP.out.fault
        have NX := Lib.hid (HNX.out w2 VP.out)
        clear HNX
        go_wp2_with fail
        refine NX.out.mono ?_
        rintro e w3 ⟨rfl, ⟨hp, hr⟩, hg⟩
        have UP := Lib.hid hp
        have UR := Lib.hid hr
        have UG := Lib.hid (World.grownBy.trans VG.out hg)
        have UK := Lib.hid (VK.out.kept hg hbn)
        have UX := Lib.hid (VX.out.kept hg hxb)
        have UD := Lib.hid (VD.out.grown hg (fun q hq e => by injection e with e; omega))
        have UL := Lib.hid (HL.out.next UG.out)
        have hs3 : w1.heap.size < w3.heap.size := by have := hg.size; omega
        clear hp hr hg NX VP VG VK VX VD q3
        have RP := Lib.hid (repeatOf_any x 0 (-1) (fun g => W.heap.size + 1 ≤ g) w3 UD.out)
        unfold nodeC nodeV at RP
        obtain ⟨⟨a0, a1, a2, a3, a4, a5, a6, a7⟩, _⟩ := node_cells UX.out
        go_wp2_with fail
        refine RP.out.mono ?_
        rintro e w4 ⟨y, rfl, hy, hyn, hgy, hx⟩
        have YP := Lib.hid (UP.out.belowS hx)
        have YG := Lib.hid (grown_hop UG.out hx)
        have YK := Lib.hid (UK.out.below hx UK.out.lt)
        have YT := Lib.hid hy
        have YD := Lib.hid hgy
        clear hx hy hyn hgy RP UP UG UK a0 a1 a2 a3 a4 a5 a6 a7
        have hk9 := YK.out
        obtain ⟨⟨d0, d1, d2, d3, d4, d5, d6, d7⟩, f0, f1, f2, f3, f4, f5, f6, f7⟩ := nil_cells hk9
        clear hk9
        go_wp2
        refine bodyPost_ret (results_cell_row rfl _ _ W.heap.size 97 (nodeC y) (0, 0) _ rfl (blk_eight YK.out nilX_lit _ _ _ _ _ _ _ _) Tryz.underlying97 rfl (by kernel_rfl)) rfl ?_
        refine ⟨y, _, false, _, rfl, ps_eight YP.out (Ne.symm hbn) _ _ _ _ _ _ _ _, grown_eight YG.out (Nat.le_refl _) _ _ _ _ _ _ _ _, ?_⟩
        exact ⟨⟨(good_eight2 YD.out (fun q hq e => by omega) _ _ _ _ _ _ _ _).weaken (fun q hq _ => by omega), by rw [YT.out]; exact wf_rep _ _ _⟩, by rw [HJ2.out]; exact ⟨rfl, by rw [YT.out, HXT.out], UR.out⟩⟩
      · rw [if_neg h42] at hj2
        have g42 : ((m : Int) == 42) = false := by
          rw [beq_eq_false_iff_ne]
          intro e
          exact h42 (UInt8.toNat_inj.1 (by rw [hm]; exact Int.ofNat.inj e))
        by_cases h43 : d = 43
        · obtain rfl : m = 43 := by rw [← hm, h43]; rfl
          rw [if_pos h43] at hj2
          have HJ2 := Lib.hid hj2
          clear hm hj2
          unfold nodeC nodeV
          go_wp2_with fail
          refine AT.out.mono ?_
          rintro e w0 ⟨rfl, rfl⟩
          go_wp2_with fail
          refine PK.out.mono ?_
          rintro e w2 ⟨rfl, qd, hw2⟩
          have VP := Lib.hid (by rw [hw2]; exact HP1.out.drewN qd : Ps w2 b t j o false e1)
          have VG := Lib.hid (by rw [hw2]; exact World.grownBy.trans HG1.out (grown_drew _ _ qd) : W.grownBy w2 (some b))
          have VK := Lib.hid (by rw [hw2]; exact HK1.out.drewN qd : Blk w2 W.heap.size 97 #[.int .i64 0, .int .u64 0, .int .u64 0, .int .u64 0, .int .u64 0, .int .i64 0, .int .i64 0, .slice none 0 0])
          have VX := Lib.hid (by rw [hw2]; exact HX1.out.drewN qd : Blk w2 w1.heap.size 97 (nodeC x))
          have VD := Lib.hid (by rw [hw2]; exact HGD1.out.later (below_drewN (Below.refl _ _) qd) : GoodN w2 (fun g => W.heap.size + 1 ≤ g) x)
          have hs2 : w1.heap.size + 1 ≤ w2.heap.size := by rw [hw2]; have := HXS.out; show w1.heap.size + 1 ≤ (w1.alloc _).heap.size; omega
          clear hw2 AT PK HP1 HG1 HK1 HX1 HGD1
          have q3 := VP.out.fault
          have NX := Lib.hid (HNX.out w2 VP.out)
          clear HNX
          go_wp2_with fail
          refine NX.out.mono ?_
          rintro e w3 ⟨rfl, ⟨hp, hr⟩, hg⟩
          have UP := Lib.hid hp
          have UR := Lib.hid hr
          have UG := Lib.hid (World.grownBy.trans VG.out hg)
          have UK := Lib.hid (VK.out.kept hg hbn)
          have UX := Lib.hid (VX.out.kept hg hxb)
          have UD := Lib.hid (VD.out.grown hg (fun q hq e => by injection e with e; omega))
          have UL := Lib.hid (HL.out.next UG.out)
          have hs3 : w1.heap.size < w3.heap.size := by have := hg.size; omega
          clear hp hr hg NX VP VG VK VX VD q3
          have RP := Lib.hid (repeatOf_any x 1 (-1) (fun g => W.heap.size + 1 ≤ g) w3 UD.out)
          unfold nodeC nodeV at RP
          obtain ⟨⟨a0, a1, a2, a3, a4, a5, a6, a7⟩, _⟩ := node_cells UX.out
          go_wp2_with fail
          refine RP.out.mono ?_
          rintro e w4 ⟨y, rfl, hy, hyn, hgy, hx⟩
          have YP := Lib.hid (UP.out.belowS hx)
          have YG := Lib.hid (grown_hop UG.out hx)
          have YK := Lib.hid (UK.out.below hx UK.out.lt)
          have YT := Lib.hid hy
          have YD := Lib.hid hgy
          clear hx hy hyn hgy RP UP UG UK a0 a1 a2 a3 a4 a5 a6 a7
          have hk9 := YK.out
          obtain ⟨⟨d0, d1, d2, d3, d4, d5, d6, d7⟩, f0, f1, f2, f3, f4, f5, f6, f7⟩ := nil_cells hk9
          clear hk9
          go_wp2
          refine bodyPost_ret (results_cell_row rfl _ _ W.heap.size 97 (nodeC y) (0, 0) _ rfl (blk_eight YK.out nilX_lit _ _ _ _ _ _ _ _) Tryz.underlying97 rfl (by kernel_rfl)) rfl ?_
          refine ⟨y, _, false, _, rfl, ps_eight YP.out (Ne.symm hbn) _ _ _ _ _ _ _ _, grown_eight YG.out (Nat.le_refl _) _ _ _ _ _ _ _ _, ?_⟩
          exact ⟨⟨(good_eight2 YD.out (fun q hq e => by omega) _ _ _ _ _ _ _ _).weaken (fun q hq _ => by omega), by rw [YT.out]; exact wf_rep _ _ _⟩, by rw [HJ2.out]; exact ⟨rfl, by rw [YT.out, HXT.out], UR.out⟩⟩
        · rw [if_neg h43] at hj2
          have g43 : ((m : Int) == 43) = false := by
            rw [beq_eq_false_iff_ne]
            intro e
            exact h43 (UInt8.toNat_inj.1 (by rw [hm]; exact Int.ofNat.inj e))
          by_cases h63 : d = 63
          · obtain rfl : m = 63 := by rw [← hm, h63]; rfl
            rw [if_pos h63] at hj2
            have HJ2 := Lib.hid hj2
            clear hm hj2
            unfold nodeC nodeV
            go_wp2_with fail
            refine AT.out.mono ?_
            rintro e w0 ⟨rfl, rfl⟩
            go_wp2_with fail
            refine PK.out.mono ?_
            rintro e w2 ⟨rfl, qd, hw2⟩
            have VP := Lib.hid (by rw [hw2]; exact HP1.out.drewN qd : Ps w2 b t j o false e1)
            have VG := Lib.hid (by rw [hw2]; exact World.grownBy.trans HG1.out (grown_drew _ _ qd) : W.grownBy w2 (some b))
            have VK := Lib.hid (by rw [hw2]; exact HK1.out.drewN qd : Blk w2 W.heap.size 97 #[.int .i64 0, .int .u64 0, .int .u64 0, .int .u64 0, .int .u64 0, .int .i64 0, .int .i64 0, .slice none 0 0])
            have VX := Lib.hid (by rw [hw2]; exact HX1.out.drewN qd : Blk w2 w1.heap.size 97 (nodeC x))
            have VD := Lib.hid (by rw [hw2]; exact HGD1.out.later (below_drewN (Below.refl _ _) qd) : GoodN w2 (fun g => W.heap.size + 1 ≤ g) x)
            have hs2 : w1.heap.size + 1 ≤ w2.heap.size := by rw [hw2]; have := HXS.out; show w1.heap.size + 1 ≤ (w1.alloc _).heap.size; omega
            clear hw2 AT PK HP1 HG1 HK1 HX1 HGD1
            have q3 := VP.out.fault
            have NX := Lib.hid (HNX.out w2 VP.out)
            clear HNX
            go_wp2_with fail
            refine NX.out.mono ?_
            rintro e w3 ⟨rfl, ⟨hp, hr⟩, hg⟩
            have UP := Lib.hid hp
            have UR := Lib.hid hr
            have UG := Lib.hid (World.grownBy.trans VG.out hg)
            have UK := Lib.hid (VK.out.kept hg hbn)
            have UX := Lib.hid (VX.out.kept hg hxb)
            have UD := Lib.hid (VD.out.grown hg (fun q hq e => by injection e with e; omega))
            have UL := Lib.hid (HL.out.next UG.out)
            have hs3 : w1.heap.size < w3.heap.size := by have := hg.size; omega
            clear hp hr hg NX VP VG VK VX VD q3
            have RP := Lib.hid (repeatOf_any x 0 1 (fun g => W.heap.size + 1 ≤ g) w3 UD.out)
            unfold nodeC nodeV at RP
            obtain ⟨⟨a0, a1, a2, a3, a4, a5, a6, a7⟩, _⟩ := node_cells UX.out
            go_wp2_with fail
            refine RP.out.mono ?_
            rintro e w4 ⟨y, rfl, hy, hyn, hgy, hx⟩
            have YP := Lib.hid (UP.out.belowS hx)
            have YG := Lib.hid (grown_hop UG.out hx)
            have YK := Lib.hid (UK.out.below hx UK.out.lt)
            have YT := Lib.hid hy
            have YD := Lib.hid hgy
            clear hx hy hyn hgy RP UP UG UK a0 a1 a2 a3 a4 a5 a6 a7
            have hk9 := YK.out
            obtain ⟨⟨d0, d1, d2, d3, d4, d5, d6, d7⟩, f0, f1, f2, f3, f4, f5, f6, f7⟩ := nil_cells hk9
            clear hk9
            go_wp2
            refine bodyPost_ret (results_cell_row rfl _ _ W.heap.size 97 (nodeC y) (0, 0) _ rfl (blk_eight YK.out nilX_lit _ _ _ _ _ _ _ _) Tryz.underlying97 rfl (by kernel_rfl)) rfl ?_
            refine ⟨y, _, false, _, rfl, ps_eight YP.out (Ne.symm hbn) _ _ _ _ _ _ _ _, grown_eight YG.out (Nat.le_refl _) _ _ _ _ _ _ _ _, ?_⟩
            exact ⟨⟨(good_eight2 YD.out (fun q hq e => by omega) _ _ _ _ _ _ _ _).weaken (fun q hq _ => by omega), by rw [YT.out]; exact wf_rep _ _ _⟩, by rw [HJ2.out]; exact ⟨rfl, by rw [YT.out, HXT.out], UR.out⟩⟩
          · rw [if_neg h63] at hj2
            have g63 : ((m : Int) == 63) = false := by
              rw [beq_eq_false_iff_ne]
              intro e
              exact h63 (UInt8.toNat_inj.1 (by rw [hm]; exact Int.ofNat.inj e))
            by_cases h123 : d = 123
            · obtain rfl : m = 123 := by rw [← hm, h123]; rfl
              rw [if_pos h123] at hj2
              clear hm
              unfold nodeC nodeV
              go_wp2_with fail
              refine AT.out.mono ?_
              rintro e w0 ⟨rfl, rfl⟩
              go_wp2_with fail
              refine PK.out.mono ?_
              rintro e w2 ⟨rfl, qd, hw2⟩
              have VP := Lib.hid (by rw [hw2]; exact HP1.out.drewN qd : Ps w2 b t j o false e1)
              have VG := Lib.hid (by rw [hw2]; exact World.grownBy.trans HG1.out (grown_drew _ _ qd) : W.grownBy w2 (some b))
              have VK := Lib.hid (by rw [hw2]; exact HK1.out.drewN qd : Blk w2 W.heap.size 97 #[.int .i64 0, .int .u64 0, .int .u64 0, .int .u64 0, .int .u64 0, .int .i64 0, .int .i64 0, .slice none 0 0])
              have VX := Lib.hid (by rw [hw2]; exact HX1.out.drewN qd : Blk w2 w1.heap.size 97 (nodeC x))
              have VD := Lib.hid (by rw [hw2]; exact HGD1.out.later (below_drewN (Below.refl _ _) qd) : GoodN w2 (fun g => W.heap.size + 1 ≤ g) x)
              have hs2 : w1.heap.size + 1 ≤ w2.heap.size := by rw [hw2]; have := HXS.out; show w1.heap.size + 1 ≤ (w1.alloc _).heap.size; omega
              clear hw2 AT PK HP1 HG1 HK1 HX1 HGD1
              have q3 := VP.out.fault
              have NX := Lib.hid (HNX.out w2 VP.out)
              clear HNX
              go_wp2_with fail
              refine NX.out.mono ?_
              rintro e w3 ⟨rfl, ⟨hp, hr⟩, hg⟩
              have UP := Lib.hid hp
              have UR := Lib.hid hr
              have UG := Lib.hid (World.grownBy.trans VG.out hg)
              have UK := Lib.hid (VK.out.kept hg hbn)
              have UX := Lib.hid (VX.out.kept hg hxb)
              have UD := Lib.hid (VD.out.grown hg (fun q hq e => by injection e with e; omega))
              have UL := Lib.hid (HL.out.next UG.out)
              have hs3 : w1.heap.size < w3.heap.size := by have := hg.size; omega
              clear hp hr hg NX VP VG VK VX VD q3
              have BD := bounds_any b t (j + 1) o false e1 w3 UP.out UL.out
              rw [UR.out] at BD
              replace BD := Lib.hid BD
              go_wp2_with fail
              refine BD.out.mono ?_
              rintro e w4 ⟨lo, hi, ok, j4, rfl, hp, hg, hpost⟩
              have XP := Lib.hid hp
              have XG := Lib.hid (World.grownBy.trans UG.out hg)
              have XK := Lib.hid (UK.out.kept hg hbn)
              have XX := Lib.hid (UX.out.kept hg hxb)
              have XD := Lib.hid (UD.out.grown hg (fun q hq e => by injection e with e; omega))
              have HPO := Lib.hid hpost
              have hs4 : w1.heap.size < w4.heap.size := by have := hg.size; omega
              clear hp hg hpost BD UP UG UK UX UD UL
              cases hbd : boundsP q with
              | none =>
                have hpost := HPO.out
                rw [hbd] at hpost hj2
                obtain rfl : ok = false := hpost
                have HJ2 := Lib.hid hj2
                have FL := Lib.hid (fail_any b (j : Int) t j4 o false e1 w4 XP.out)
                clear hbd HPO hj2
                go_wp2_with fail
                refine FL.out.mono ?_
                rintro e w5 ⟨rfl, hp, hg⟩
                have YP := Lib.hid (show Ps w5 b t j4 o true (j : Int) from hp)
                have YG := Lib.hid (World.grownBy.trans XG.out hg)
                have YK := Lib.hid (XK.out.kept hg hbn)
                clear hp hg FL XP XG XK XX XD
                try unfold nilC
                have hk9 := YK.out
                obtain ⟨⟨d0, d1, d2, d3, d4, d5, d6, d7⟩, f0, f1, f2, f3, f4, f5, f6, f7⟩ := nil_cells hk9
                clear hk9
                go_wp2
                refine bodyPost_ret (results_cell_row rfl _ _ W.heap.size 97 nilC (0, 0) _ rfl (blk_eight YK.out nilX_lit _ _ _ _ _ _ _ _) Tryz.underlying97 rfl (by kernel_rfl)) rfl ?_
                refine ⟨nilX, _, true, _, rfl, ps_eight YP.out (Ne.symm hbn) _ _ _ _ _ _ _ _, grown_eight YG.out (Nat.le_refl _) _ _ _ _ _ _ _ _, ?_⟩
                exact ⟨⟨GoodN.nil _ _, wf_nil⟩, by rw [HJ2.out]; exact ⟨rfl, by rw [List.length_cons]; have := HLEN.out; omega, by show 0 + k ≤ t.size; omega⟩⟩
              | some y0 =>
                obtain ⟨a', b', r'⟩ := y0
                have hpost := HPO.out
                rw [hbd] at hpost hj2
                obtain ⟨rfl, rfl, rfl, hr'⟩ := hpost
                have HJ2 := Lib.hid hj2
                have XR := Lib.hid hr'
                clear hbd HPO hj2 hr'
                have RP := Lib.hid (repeatOf_any x lo hi (fun g => W.heap.size + 1 ≤ g) w4 XD.out)
                unfold nodeC nodeV at RP
                obtain ⟨⟨a0, a1, a2, a3, a4, a5, a6, a7⟩, _⟩ := node_cells XX.out
                go_wp2_with fail
                refine RP.out.mono ?_
                rintro e w5 ⟨y, rfl, hy, hyn, hgy, hx⟩
                have YP := Lib.hid (XP.out.belowS hx)
                have YG := Lib.hid (grown_hop XG.out hx)
                have YK := Lib.hid (XK.out.below hx XK.out.lt)
                have YT := Lib.hid hy
                have YD := Lib.hid hgy
                clear hx hy hyn hgy RP XP XG XK a0 a1 a2 a3 a4 a5 a6 a7
                have hk9 := YK.out
                obtain ⟨⟨d0, d1, d2, d3, d4, d5, d6, d7⟩, f0, f1, f2, f3, f4, f5, f6, f7⟩ := nil_cells hk9
                clear hk9
                go_wp2
                refine bodyPost_ret (results_cell_row rfl _ _ W.heap.size 97 (nodeC y) (0, 0) _ rfl (blk_eight YK.out nilX_lit _ _ _ _ _ _ _ _) Tryz.underlying97 rfl (by kernel_rfl)) rfl ?_
                refine ⟨y, _, false, _, rfl, ps_eight YP.out (Ne.symm hbn) _ _ _ _ _ _ _ _, grown_eight YG.out (Nat.le_refl _) _ _ _ _ _ _ _ _, ?_⟩
                exact ⟨⟨(good_eight2 YD.out (fun q hq e => by omega) _ _ _ _ _ _ _ _).weaken (fun q hq _ => by omega), by rw [YT.out]; exact wf_rep _ _ _⟩, by rw [HJ2.out]; exact ⟨rfl, by rw [YT.out, HXT.out], XR.out⟩⟩
            · rw [if_neg h123] at hj2
              have g123 : ((m : Int) == 123) = false := by
                rw [beq_eq_false_iff_ne]
                intro e
                exact h123 (UInt8.toNat_inj.1 (by rw [hm]; exact Int.ofNat.inj e))
              have HJ2 := Lib.hid hj2
              clear hm hj2 HNX
              unfold nodeC nodeV
              go_wp2_with fail
              refine AT.out.mono ?_
              rintro e w0 ⟨rfl, rfl⟩
              go_wp2_with fail
              refine PK.out.mono ?_
              rintro e w2 ⟨rfl, qd, hw2⟩
              have VP := Lib.hid (by rw [hw2]; exact HP1.out.drewN qd : Ps w2 b t j o false e1)
              have VG := Lib.hid (by rw [hw2]; exact World.grownBy.trans HG1.out (grown_drew _ _ qd) : W.grownBy w2 (some b))
              have VK := Lib.hid (by rw [hw2]; exact HK1.out.drewN qd : Blk w2 W.heap.size 97 #[.int .i64 0, .int .u64 0, .int .u64 0, .int .u64 0, .int .u64 0, .int .i64 0, .int .i64 0, .slice none 0 0])
              have VX := Lib.hid (by rw [hw2]; exact HX1.out.drewN qd : Blk w2 w1.heap.size 97 (nodeC x))
              have VD := Lib.hid (by rw [hw2]; exact HGD1.out.later (below_drewN (Below.refl _ _) qd) : GoodN w2 (fun g => W.heap.size + 1 ≤ g) x)
              have hs2 : w1.heap.size + 1 ≤ w2.heap.size := by rw [hw2]; have := HXS.out; show w1.heap.size + 1 ≤ (w1.alloc _).heap.size; omega
              clear hw2 AT PK HP1 HG1 HK1 HX1 HGD1
              have q3 := VP.out.fault
              obtain ⟨⟨a0, a1, a2, a3, a4, a5, a6, a7⟩, _⟩ := node_cells VX.out
              have hk9 := VK.out
              obtain ⟨⟨d0, d1, d2, d3, d4, d5, d6, d7⟩, f0, f1, f2, f3, f4, f5, f6, f7⟩ := nil_cells hk9
              clear hk9
              go_wp2
              refine bodyPost_ret (results_cell_row rfl _ _ W.heap.size 97 (nodeC x) (0, 0) _ rfl (blk_eight VK.out nilX_lit _ _ _ _ _ _ _ _) Tryz.underlying97 rfl (by kernel_rfl)) rfl ?_
              refine ⟨x, _, false, e1, rfl, ps_eight VP.out (Ne.symm hbn) _ _ _ _ _ _ _ _, grown_eight VG.out (Nat.le_refl _) _ _ _ _ _ _ _ _, ?_⟩
              exact ⟨⟨(good_eight2 VD.out (fun q hq e => by omega) _ _ _ _ _ _ _ _).weaken (fun q hq _ => Nat.le_of_succ_le hq), HWF.out⟩, by rw [HJ2.out]; exact ⟨rfl, HXT.out, HR.out⟩⟩
def seqM (t : ByteArray) (b : Nat) (w : World) : Nat := match w.cell? ⟨b, 3, none⟩ with | some (.bool false) => t.size + 1 - posOf w b | _ => 0
theorem seqM_go {w : World} {b : Nat} {t : ByteArray} {k o : Nat} {e : Int} (h : Ps w b t k o false e) : seqM t b w = t.size + 1 - k := by
  unfold seqM
  rw [h.fault, h.pos]
theorem seqM_stop {w : World} {b : Nat} {t : ByteArray} {k o : Nat} {e : Int} (h : Ps w b t k o true e) : seqM t b w = 0 := by
  unfold seqM
  rw [h.fault]
def GoodRow (w : World) (B : Nat) (v : Value) (l : List NodeX) : Prop := ∀ x, x ∈ l → GoodN w (fun g => B ≤ g ∧ ¬ some g = v.ownBlock) x
theorem goodRow_next {wr w1 w4 : World} {B b : Nat} {v v' : Value} {l : List NodeX} {x : NodeX} {o : Obj} (h : GoodRow wr B v l) (ho : OwnR nodeV 8 wr B 97 v l) (hb : b < B) (hB : B ≤ wr.heap.size) (hg : wr.grownBy w1 (some b)) (hx : GoodN w1 (fun g => wr.heap.size ≤ g) x) (hgrow : (w1.alloc o).grownBy w4 v.ownBlock) (hw : v'.ownBlock = v.ownBlock ∨ v'.ownBlock = some (w1.heap.size + 1)) : GoodRow w4 B v' (l ++ [x]) := by
  have hlt : ∀ r, v.ownBlock = some r → r < wr.heap.size := fun r hr => (World.ownsRow.lt ho r hr).2
  have key : ∀ y, GoodN w1 (fun g => B ≤ g ∧ ¬ some g = v.ownBlock) y → GoodN w4 (fun g => B ≤ g ∧ ¬ some g = v'.ownBlock) y := fun y hy => by
    have h1 : GoodN w1 (fun g => (B ≤ g ∧ ¬ some g = v.ownBlock) ∧ g < w1.heap.size) y := hy.weaken (fun g hq hl => ⟨hq, hl⟩)
    have h2 := (h1.alloc o).grown hgrow (fun g hq => hq.1.2)
    refine h2.weaken (fun g hq _ => ⟨hq.1.1, fun e => ?_⟩)
    rcases hw with h3 | h3
    · rw [h3] at e; exact hq.1.2 e
    · rw [h3] at e
      injection e with e
      have := hq.2
      omega
  intro y hy
  rcases List.mem_append.1 hy with h1 | h1
  · exact key y ((h y h1).grown hg (fun g hq e => by injection e with e; have := hq.1; omega))
  · rw [List.mem_singleton] at h1
    subst h1
    exact key y (hx.weaken (fun g hq _ => ⟨Nat.le_trans hB hq, fun e => by have := hlt g e.symm; omega⟩))
structure SeqSt (E : List UInt8 → Res NodeT) (g : Bool) (R : Res NodeT) (t : ByteArray) (k j : Nat) (l : List NodeT) (f : Bool) (e : Int) : Prop where
  go : f = false → k ≤ j ∧ j ≤ t.size ∧ KInv catK l (j - k) (j - k) ∧ l.length ≤ j - k ∧ ∃ n, (atL t j).length < n ∧ seqP E g n l (atL t j) = R
  stop : f = true → ∃ m : Nat, R = .bad m ∧ e = (t.size : Int) - (m : Int) ∧ KInv catK l (t.size - k) (t.size - k) ∧ l.length ≤ t.size - k ∧ k ≤ t.size
theorem SeqSt.kinv {E : List UInt8 → Res NodeT} {g : Bool} {R : Res NodeT} {t : ByteArray} {k j : Nat} {l : List NodeT} {f : Bool} {e : Int} (h : SeqSt E g R t k j l f e) (htz : t.size ≤ 256) : ∃ C, C ≤ 256 ∧ KInv catK l C C ∧ l.length ≤ C ∧ C + k ≤ t.size := by
  cases f with
  | false =>
    obtain ⟨h1, h2, h3, h4, _⟩ := h.go rfl
    exact ⟨j - k, by omega, h3, h4, by omega⟩
  | true =>
    obtain ⟨m, _, _, h3, h4, h5⟩ := h.stop rfl
    exact ⟨t.size - k, by omega, h3, h4, by omega⟩
theorem seqSt_end {E : List UInt8 → Res NodeT} {g : Bool} {R : Res NodeT} {t : ByteArray} {k j : Nat} {l : List NodeT} {e : Int} (h : SeqSt E g R t k j l false e) (hs : stopP g (atL t j) = true) : R = .ok (catT l) (atL t j) := by
  obtain ⟨_, _, _, _, n, h1, h2⟩ := h.go rfl
  obtain ⟨m, rfl⟩ : ∃ m, n = m + 1 := ⟨n - 1, by omega⟩
  rw [seqP_next, if_pos hs] at h2
  exact h2.symm
theorem seqSt_next {E : List UInt8 → Res NodeT} (hE : EOk E) {g : Bool} {R : Res NodeT} {t : ByteArray} {k j j2 : Nat} {l : List NodeT} {x : NodeT} {f : Bool} {e e2 : Int} (h : SeqSt E g R t k j l false e) (hs : stopP g (atL t j) = false) (hw : WfT x) (hj2 : j2 ≤ t.size)
    (hres : match pieceP E (atL t j) with
      | .ok n r => f = false ∧ x = n ∧ atL t j2 = r
      | .bad m => f = true ∧ e2 = (t.size : Int) - (m : Int) ∧ x.kids.length + j ≤ t.size) : SeqSt E g R t k j2 (l ++ [x]) f e2 ∧ (f = false → j < j2) := by
  obtain ⟨hkj, hjt, hK, hL, n, h1, h2⟩ := h.go rfl
  obtain ⟨m, rfl⟩ : ∃ m, n = m + 1 := ⟨n - 1, by omega⟩
  rw [seqP_next, if_neg (by rw [hs]; decide)] at h2
  have hlen := at_len t j
  have hne : 0 < (atL t j).length := by
    cases hq : atL t j with
    | nil => rw [hq] at hs; cases hs
    | cons c q => simp
  cases hp : pieceP E (atL t j) with
  | bad mm =>
    rw [hp] at hres h2
    obtain ⟨rfl, he, hb⟩ := hres
    refine ⟨⟨(fun e => by cases e), fun _ => ⟨mm, h2.symm, he, ?_, ?_, by omega⟩⟩, (fun e => by cases e)⟩
    · have := kinv_cat hK (c := t.size - j) (x := x) (by omega) (by omega) hw
      rw [show j - k + (t.size - j) = t.size - k by omega] at this
      exact this
    · rw [List.length_append, List.length_singleton]; omega
  | ok nn r =>
    rw [hp] at hres h2
    obtain ⟨rfl, rfl, hr⟩ := hres
    obtain ⟨p1, p2, p3⟩ := pieceP_ok hE hp
    have hlen2 := at_len t j2
    rw [hr] at hlen2
    refine ⟨⟨fun _ => ⟨by omega, hj2, ?_, ?_, m, by rw [hr]; omega, by rw [hr]; exact h2⟩, (fun e => by cases e)⟩, fun _ => by omega⟩
    · have := kinv_cat hK (c := j2 - j) (x := x) (by omega) (by omega) hw
      rw [show j - k + (j2 - j) = j2 - k by omega] at this
      exact this
    · rw [List.length_append, List.length_singleton]; omega
theorem grown_own {W w w' : World} {r q : Option Nat} (h : W.grownBy w r) (hg : w.grownBy w' q) (hq : ∀ b, q = some b → W.heap.size ≤ b) : W.grownBy w' r :=
  ⟨hg.os.trans h.os, hg.tape.trans h.tape, hg.output.trans h.output, Nat.le_trans h.size hg.size, fun k hk hr => (hg.block k (Nat.lt_of_lt_of_le hk h.size) (fun e => by have := hq k e.symm; omega)).trans (h.block k hk hr)⟩
theorem wf_kids {w : World} {P : Nat → Prop} {x : NodeX} (h : GoodN w P x) (hw : WfT x.t) : x.kind = 4 ∨ x.kind = 5 → 0 < x.n := fun hk => by
  have h1 := hw (by rw [NodeX.t_kind]; exact hk)
  rw [NodeX.t_kids, List.length_map] at h1
  have h2 := h.row.1
  omega
set_option maxRecDepth 100000 in
set_option maxHeartbeats 6400000 in
theorem sequence_any (fuel : Nat) (HE : ExprC fuel) (b : Nat) (t : ByteArray) (k o : Nat) (e0 : Int) (W : World) (h : Ps W b t k o false e0) (hl : LibF W b) (ho : o ≤ k) (hf : (atL t k).length < fuel + 1) :
    Calls Tryz.prog 95 #[.pointer (some ⟨b, 0, none⟩)] W fun e w' => ∃ x j f e1, e = .returned (.agg (nodeC x)) ∧ Ps w' b t j o f e1 ∧ W.grownBy w' (some b) ∧ NodeRes w' W.heap.size t k j (seqP (exprP fuel true) (decide (0 < o)) ((atL t k).length + 1) [] (atL t k)) x f e1 := by
  obtain ⟨i0, hi, hz0, hz1, hz2⟩ := info_parts infoNode
  have hlt := h.lt
  have hbn : W.heap.size ≠ b := by omega
  have htz := h.sz
  have hkt := h.le
  have hE := exprP_ok fuel true
  obtain ⟨E, hEE⟩ : ∃ E, exprP fuel true = E := ⟨_, rfl⟩
  have PC := fun (j : Nat) (e1 : Int) (c : UInt8) (r : List UInt8) (w : World) (hp : Ps w b t j o false e1) (hl2 : LibF w b) (h1 : o ≤ j) (h2 : (atL t j).length < fuel + 1) (h3 : atL t j = c :: r) => piece_any fuel HE b t j o e1 c r w hp hl2 h1 h2 h3
  simp only [hEE] at PC ⊢
  rw [hEE] at hE
  obtain ⟨g, hg0⟩ : ∃ g, decide (0 < o) = g := ⟨_, rfl⟩
  rw [hg0]
  obtain ⟨R, hR⟩ : ∃ R, seqP E g ((atL t k).length + 1) [] (atL t k) = R := ⟨_, rfl⟩
  rw [hR]
  have HST0 := Lib.hid (show SeqSt E g R t k k [] false e0 from ⟨fun _ => ⟨Nat.le_refl _, hkt, by rw [Nat.sub_self]; exact kinv_nil catK rfl, Nat.zero_le _, _, Nat.lt_succ_self _, hR⟩, (fun e => by cases e)⟩)
  have HPC := Lib.hid PC
  have HEK := Lib.hid hE
  have HL := Lib.hid hl
  have HF := Lib.hid hf
  have HO := Lib.hid ho
  have HGG := Lib.hid hg0
  have HP0 := Lib.hid (h.alloc (.cells #[.int .i64 0, .int .u64 0, .int .u64 0, .int .u64 0, .int .u64 0, .int .i64 0, .int .i64 0, .slice none 0 0] 97))
  have HG0 := Lib.hid (World.grownBy_alloc W (.cells #[.int .i64 0, .int .u64 0, .int .u64 0, .int .u64 0, .int .u64 0, .int .i64 0, .int .i64 0, .slice none 0 0] 97) (some b))
  have HK0 := Lib.hid (Blk.new W 97 #[.int .i64 0, .int .u64 0, .int .u64 0, .int .u64 0, .int .u64 0, .int .i64 0, .int .i64 0, .slice none 0 0])
  have hatk := at_len t k
  clear h hl hE hEE PC hR hf ho hg0 HE
  go_enter Tryz.func95, Tryz.ntmps95
  go_wp2
  obtain ⟨v0, hv0⟩ : ∃ v, v = W := ⟨_, rfl⟩
  go_loopw [3] (fun v wr => ∃ (l : List NodeX) (j : Nat) (f : Bool) (e1 : Int), Hid (Ps wr b t j o f e1) ∧ Hid (W.grownBy wr (some b)) ∧ Hid (OwnR nodeV 8 wr (W.heap.size + 1) 97 v l) ∧ Hid (GoodRow wr (W.heap.size + 1) v l) ∧ Hid (Blk wr W.heap.size 97 #[.int .i64 0, .int .u64 0, .int .u64 0, .int .u64 0, .int .u64 0, .int .i64 0, .int .i64 0, .slice none 0 0]) ∧ Hid (W.heap.size + 1 ≤ wr.heap.size) ∧ Hid (SeqSt E g R t k j (l.map NodeX.t) f e1)) (fun _ w => seqM t b w)
  case atStart => exact ⟨[], k, false, e0, HP0, HG0, Lib.hid (OwnR.nil _ _ _), Lib.hid (fun _ h => by cases h), HK0, Lib.hid (by rw [World.size_alloc]; exact Nat.le_refl _), HST0⟩
  case round =>
    obtain ⟨l, j, f, e1, HP, HG, HO1, HGR, HK, HS, HST⟩ := hrel
    have q3 := HP.out.fault
    have q2 := HP.out.opened
    have hjt := HP.out.le
    have hbr := HP.out.lt
    have hS := HS.out
    obtain ⟨C, hC1, hC2, hC3, hC4⟩ := HST.out.kinv htz
    have hcl : l.length ≤ 256 := by rw [List.length_map] at hC3; omega
    have HCI := Lib.hid (catT_inv hC2)
    have hcx : (catX l).length ≤ 100000 := by
      have h1 := hC2.len
      rw [← catX_t, List.length_map] at h1
      omega
    have hwf : ∀ x, x ∈ l → x.kind = 4 → 0 < x.n := fun x hx hk => wf_kids (HGR.out x hx) (hC2.all x.t (List.mem_map_of_mem hx)).2 (.inl hk)
    have HWF := Lib.hid hwf
    have HC4 := Lib.hid hC4
    clear hC1 hC2 hC3 hwf
    cases f with
    | true =>
      obtain ⟨m, hRm, he1, _⟩ := HST.out.stop rfl
      have HRM := Lib.hid hRm
      have HE1 := Lib.hid he1
      clear hRm he1
      obtain ⟨A2, c2, hv2, hc2, hn2, hrow⟩ := OwnR.open nodeV_len HO1.out
      have CO := Lib.hid (catOf_any A2 l.length c2 l (fun g => W.heap.size + 1 ≤ g) wr hrow (fun x hx => (HGR.out x hx).weaken (fun g hq _ => hq.1)) (by omega) hcx HWF.out)
      rw [hv2]
      clear hrow hn2 hc2 hv2
      go_wp2_with fail
      refine CO.out.mono ?_
      rintro e w9 ⟨y, rfl, hy, hgy, hx⟩
      have YP := Lib.hid (HP.out.belowS hx)
      have YG := Lib.hid (grown_hop HG.out hx)
      have hk9 := HK.out.below hx HK.out.lt
      have YK := Lib.hid hk9
      have YT := Lib.hid hy
      have YD := Lib.hid hgy
      obtain ⟨⟨d0, d1, d2, d3, d4, d5, d6, d7⟩, f0, f1, f2, f3, f4, f5, f6, f7⟩ := nil_cells hk9
      clear hx hy hgy hk9 CO
      unfold nodeC nodeV
      go_wp2
      refine bodyPost_ret (results_cell_row rfl _ _ W.heap.size 97 (nodeC y) (0, 0) _ rfl (blk_eight YK.out nilX_lit _ _ _ _ _ _ _ _) Tryz.underlying97 rfl (by kernel_rfl)) rfl ?_
      refine ⟨y, j, true, e1, rfl, ps_eight YP.out (Ne.symm hbn) _ _ _ _ _ _ _ _, grown_eight YG.out (Nat.le_refl _) _ _ _ _ _ _ _ _, ⟨(good_eight2 YD.out (fun q hq e => by omega) _ _ _ _ _ _ _ _).weaken (fun q hq _ => by omega), by rw [YT.out]; exact HCI.out.2⟩, ?_⟩
      rw [HRM.out]
      exact ⟨rfl, HE1.out, by rw [YT.out]; have := HCI.out.1; have := HC4.out; omega⟩
    | false =>
      have hkj := (HST.out.go rfl).1
      cases hq : atL t j with
      | nil =>
        have HRM := Lib.hid (seqSt_end HST.out (by rw [hq]; rfl))
        have PK := Lib.hid (peek0 b t j o false e1 hq _ HP.out)
        clear hq
        go_wp2_with fail
        refine PK.out.mono ?_
        rintro e w2 ⟨rfl, qd, hw2⟩
        have VP := Lib.hid (by rw [hw2]; exact HP.out.drewN qd : Ps w2 b t j o false e1)
        have VG := Lib.hid (by rw [hw2]; exact World.grownBy.trans HG.out (grown_drew _ _ qd) : W.grownBy w2 (some b))
        have VO := Lib.hid (by rw [hw2]; exact HO1.out.drewN qd : OwnR nodeV 8 w2 (W.heap.size + 1) 97 _ l)
        have VR := Lib.hid (by rw [hw2]; exact fun x hx => (HGR.out x hx).later (below_drewN (Below.refl _ _) qd) : GoodRow w2 (W.heap.size + 1) _ l)
        have VK := Lib.hid (by rw [hw2]; exact HK.out.drewN qd : Blk w2 W.heap.size 97 #[.int .i64 0, .int .u64 0, .int .u64 0, .int .u64 0, .int .u64 0, .int .i64 0, .int .i64 0, .slice none 0 0])
        have VS := Lib.hid (by rw [hw2]; exact HS.out : W.heap.size + 1 ≤ w2.heap.size)
        have p2 := VP.out.opened
        have hVS := VS.out
        clear hw2 PK HG HO1 HGR HK HS q2 q3
        obtain ⟨A2, c2, hv2, hc2, hn2, hrow⟩ := OwnR.open nodeV_len VO.out
        have CO := Lib.hid (catOf_any A2 l.length c2 l (fun g => W.heap.size + 1 ≤ g) w2 hrow (fun x hx => (VR.out x hx).weaken (fun g hq _ => hq.1)) (by omega) hcx HWF.out)
        rw [hv2]
        clear hrow hn2 hc2 hv2
        go_wp2_with fail
        refine CO.out.mono ?_
        rintro e w9 ⟨y, rfl, hy, hgy, hx⟩
        have YP := Lib.hid (VP.out.belowS hx)
        have YG := Lib.hid (grown_hop VG.out hx)
        have hk9 := VK.out.below hx VK.out.lt
        have YK := Lib.hid hk9
        have YT := Lib.hid hy
        have YD := Lib.hid hgy
        obtain ⟨⟨d0, d1, d2, d3, d4, d5, d6, d7⟩, f0, f1, f2, f3, f4, f5, f6, f7⟩ := nil_cells hk9
        clear hx hy hgy hk9 CO
        unfold nodeC nodeV
        go_wp2
        refine bodyPost_ret (results_cell_row rfl _ _ W.heap.size 97 (nodeC y) (0, 0) _ rfl (blk_eight YK.out nilX_lit _ _ _ _ _ _ _ _) Tryz.underlying97 rfl (by kernel_rfl)) rfl ?_
        refine ⟨y, j, false, e1, rfl, ps_eight YP.out (Ne.symm hbn) _ _ _ _ _ _ _ _, grown_eight YG.out (Nat.le_refl _) _ _ _ _ _ _ _ _, ⟨(good_eight2 YD.out (fun q hq e => by omega) _ _ _ _ _ _ _ _).weaken (fun q hq _ => by omega), by rw [YT.out]; exact HCI.out.2⟩, ?_⟩
        rw [HRM.out]
        exact ⟨rfl, YT.out, rfl⟩
      | cons d q =>
        have PK := peek1 b t j o false e1 d q hq _ HP.out
        obtain ⟨m, hm⟩ : ∃ m, d.toNat = m := ⟨_, rfl⟩
        rw [hm] at PK
        replace PK := Lib.hid PK
        by_cases h124 : d = 124
        · have HRM := Lib.hid (seqSt_end HST.out (by rw [hq, h124]; rfl))
          obtain rfl : m = 124 := by rw [← hm, h124]; rfl
          clear hm hq h124
          go_wp2_with fail
          refine PK.out.mono ?_
          rintro e w2 ⟨rfl, qd, hw2⟩
          have VP := Lib.hid (by rw [hw2]; exact HP.out.drewN qd : Ps w2 b t j o false e1)
          have VG := Lib.hid (by rw [hw2]; exact World.grownBy.trans HG.out (grown_drew _ _ qd) : W.grownBy w2 (some b))
          have VO := Lib.hid (by rw [hw2]; exact HO1.out.drewN qd : OwnR nodeV 8 w2 (W.heap.size + 1) 97 _ l)
          have VR := Lib.hid (by rw [hw2]; exact fun x hx => (HGR.out x hx).later (below_drewN (Below.refl _ _) qd) : GoodRow w2 (W.heap.size + 1) _ l)
          have VK := Lib.hid (by rw [hw2]; exact HK.out.drewN qd : Blk w2 W.heap.size 97 #[.int .i64 0, .int .u64 0, .int .u64 0, .int .u64 0, .int .u64 0, .int .i64 0, .int .i64 0, .slice none 0 0])
          have VS := Lib.hid (by rw [hw2]; exact HS.out : W.heap.size + 1 ≤ w2.heap.size)
          have p2 := VP.out.opened
          have hVS := VS.out
          clear hw2 PK HG HO1 HGR HK HS q2 q3
          obtain ⟨A2, c2, hv2, hc2, hn2, hrow⟩ := OwnR.open nodeV_len VO.out
          have CO := Lib.hid (catOf_any A2 l.length c2 l (fun g => W.heap.size + 1 ≤ g) w2 hrow (fun x hx => (VR.out x hx).weaken (fun g hq _ => hq.1)) (by omega) hcx HWF.out)
          rw [hv2]
          clear hrow hn2 hc2 hv2
          go_wp2_with fail
          refine CO.out.mono ?_
          rintro e w9 ⟨y, rfl, hy, hgy, hx⟩
          have YP := Lib.hid (VP.out.belowS hx)
          have YG := Lib.hid (grown_hop VG.out hx)
          have hk9 := VK.out.below hx VK.out.lt
          have YK := Lib.hid hk9
          have YT := Lib.hid hy
          have YD := Lib.hid hgy
          obtain ⟨⟨d0, d1, d2, d3, d4, d5, d6, d7⟩, f0, f1, f2, f3, f4, f5, f6, f7⟩ := nil_cells hk9
          clear hx hy hgy hk9 CO
          unfold nodeC nodeV
          go_wp2
          refine bodyPost_ret (results_cell_row rfl _ _ W.heap.size 97 (nodeC y) (0, 0) _ rfl (blk_eight YK.out nilX_lit _ _ _ _ _ _ _ _) Tryz.underlying97 rfl (by kernel_rfl)) rfl ?_
          refine ⟨y, j, false, e1, rfl, ps_eight YP.out (Ne.symm hbn) _ _ _ _ _ _ _ _, grown_eight YG.out (Nat.le_refl _) _ _ _ _ _ _ _ _, ⟨(good_eight2 YD.out (fun q hq e => by omega) _ _ _ _ _ _ _ _).weaken (fun q hq _ => by omega), by rw [YT.out]; exact HCI.out.2⟩, ?_⟩
          rw [HRM.out]
          exact ⟨rfl, YT.out, rfl⟩
        · have g124 : ((m : Int) == 124) = false := by
            rw [beq_eq_false_iff_ne]
            intro e
            exact h124 (UInt8.toNat_inj.1 (by rw [hm]; exact Int.ofNat.inj e))
          by_cases h41 : d = 41 ∧ 0 < o
          · obtain ⟨h41, hoo⟩ := h41
            have hooI : (o : Int) > 0 := by omega
            have hooI2 : (0 : Int) < (o : Int) := by omega
            have HRM := Lib.hid (seqSt_end HST.out (by rw [hq, h41, ← HGG.out, decide_eq_true hoo]; rfl))
            obtain rfl : m = 41 := by rw [← hm, h41]; rfl
            clear hm hq h41 h124
            go_wp2_with fail
            refine PK.out.mono ?_
            rintro e w2 ⟨rfl, qd, hw2⟩
            have VP := Lib.hid (by rw [hw2]; exact HP.out.drewN qd : Ps w2 b t j o false e1)
            have VG := Lib.hid (by rw [hw2]; exact World.grownBy.trans HG.out (grown_drew _ _ qd) : W.grownBy w2 (some b))
            have VO := Lib.hid (by rw [hw2]; exact HO1.out.drewN qd : OwnR nodeV 8 w2 (W.heap.size + 1) 97 _ l)
            have VR := Lib.hid (by rw [hw2]; exact fun x hx => (HGR.out x hx).later (below_drewN (Below.refl _ _) qd) : GoodRow w2 (W.heap.size + 1) _ l)
            have VK := Lib.hid (by rw [hw2]; exact HK.out.drewN qd : Blk w2 W.heap.size 97 #[.int .i64 0, .int .u64 0, .int .u64 0, .int .u64 0, .int .u64 0, .int .i64 0, .int .i64 0, .slice none 0 0])
            have VS := Lib.hid (by rw [hw2]; exact HS.out : W.heap.size + 1 ≤ w2.heap.size)
            have p2 := VP.out.opened
            have hVS := VS.out
            clear hw2 PK HG HO1 HGR HK HS q2 q3
            obtain ⟨A2, c2, hv2, hc2, hn2, hrow⟩ := OwnR.open nodeV_len VO.out
            have CO := Lib.hid (catOf_any A2 l.length c2 l (fun g => W.heap.size + 1 ≤ g) w2 hrow (fun x hx => (VR.out x hx).weaken (fun g hq _ => hq.1)) (by omega) hcx HWF.out)
            rw [hv2]
            clear hrow hn2 hc2 hv2
            go_wp2_with fail
            refine CO.out.mono ?_
            rintro e w9 ⟨y, rfl, hy, hgy, hx⟩
            have YP := Lib.hid (VP.out.belowS hx)
            have YG := Lib.hid (grown_hop VG.out hx)
            have hk9 := VK.out.below hx VK.out.lt
            have YK := Lib.hid hk9
            have YT := Lib.hid hy
            have YD := Lib.hid hgy
            obtain ⟨⟨d0, d1, d2, d3, d4, d5, d6, d7⟩, f0, f1, f2, f3, f4, f5, f6, f7⟩ := nil_cells hk9
            clear hx hy hgy hk9 CO
            unfold nodeC nodeV
            go_wp2
            refine bodyPost_ret (results_cell_row rfl _ _ W.heap.size 97 (nodeC y) (0, 0) _ rfl (blk_eight YK.out nilX_lit _ _ _ _ _ _ _ _) Tryz.underlying97 rfl (by kernel_rfl)) rfl ?_
            refine ⟨y, j, false, e1, rfl, ps_eight YP.out (Ne.symm hbn) _ _ _ _ _ _ _ _, grown_eight YG.out (Nat.le_refl _) _ _ _ _ _ _ _ _, ⟨(good_eight2 YD.out (fun q hq e => by omega) _ _ _ _ _ _ _ _).weaken (fun q hq _ => by omega), by rw [YT.out]; exact HCI.out.2⟩, ?_⟩
            rw [HRM.out]
            exact ⟨rfl, YT.out, rfl⟩
          · have hst : stopP g (atL t j) = false := by
              rw [hq]
              show (d == 124 || (d == 41 && g)) = false
              rw [beq_eq_false_iff_ne.2 h124, Bool.false_or, ← HGG.out]
              by_cases h1 : d = 41
              · rw [decide_eq_false (fun h2 => h41 ⟨h1, h2⟩), Bool.and_false]
              · rw [beq_eq_false_iff_ne.2 h1, Bool.false_and]
            have HSTP := Lib.hid hst
            have HAT := Lib.hid hq
            have h41' : ((m : Int) == 41) = false ∨ ((m : Int) = 41 ∧ ¬ (o : Int) > 0) := by
              by_cases h1 : d = 41
              · right
                refine ⟨by rw [← hm, h1]; rfl, fun h2 => h41 ⟨h1, by omega⟩⟩
              · left
                rw [beq_eq_false_iff_ne]
                intro e
                exact h1 (UInt8.toNat_inj.1 (by rw [hm]; exact Int.ofNat.inj e))
            clear hst hq h41 hm h124
            rcases h41' with h41' | ⟨hm41, hoo⟩
            · go_wp2_with fail
              refine PK.out.mono ?_
              rintro e w2 ⟨rfl, qd, hw2⟩
              have VP := Lib.hid (by rw [hw2]; exact HP.out.drewN qd : Ps w2 b t j o false e1)
              have VG := Lib.hid (by rw [hw2]; exact World.grownBy.trans HG.out (grown_drew _ _ qd) : W.grownBy w2 (some b))
              have VO := Lib.hid (by rw [hw2]; exact HO1.out.drewN qd : OwnR nodeV 8 w2 (W.heap.size + 1) 97 _ l)
              have VR := Lib.hid (by rw [hw2]; exact fun x hx => (HGR.out x hx).later (below_drewN (Below.refl _ _) qd) : GoodRow w2 (W.heap.size + 1) _ l)
              have VK := Lib.hid (by rw [hw2]; exact HK.out.drewN qd : Blk w2 W.heap.size 97 #[.int .i64 0, .int .u64 0, .int .u64 0, .int .u64 0, .int .u64 0, .int .i64 0, .int .i64 0, .slice none 0 0])
              have VS := Lib.hid (by rw [hw2]; exact HS.out : W.heap.size + 1 ≤ w2.heap.size)
              have p2 := VP.out.opened
              have hVS := VS.out
              clear hw2 PK HG HO1 HGR HK HS q2 q3
              have hj2len : (atL t j).length < fuel + 1 := by have := at_len t j; have := HF.out; omega
              have PE := Lib.hid (HPC.out j e1 d q w2 VP.out (HL.out.next VG.out) (by have := HO.out; omega) hj2len HAT.out)
              go_wp2_with fail
              refine PE.out.mono ?_
              rintro e w3 ⟨x, j3, f3, e3, rfl, hp, hg, ⟨⟨hgood, hwfx⟩, hres⟩⟩
              have hnx := seqSt_next HEK.out HST.out HSTP.out hwfx hp.le hres
              have ZP := Lib.hid hp
              have ZG := Lib.hid (World.grownBy.trans VG.out hg)
              have ZO := Lib.hid (VO.out.kept hg (fun r hr => by injection hr with hr; omega))
              have ZK := Lib.hid (VK.out.kept hg hbn)
              have ZGG := Lib.hid hg
              have ZX := Lib.hid hgood
              have ZST := Lib.hid hnx.1
              have ZM := Lib.hid hnx.2
              have hz3 := hg.size
              have hb3 := hp.lt
              clear hp hg hgood hwfx hres hnx PE
              unfold nodeC nodeV
              go_wp2_with (at_builtin; refine wpList_append_own_at _ rfl (.tmp 35) (.tmp 38) 95 rfl (W.heap.size + 1) 97 i0 (.agg #[.int .i64 0, .int .u64 0, .int .u64 0, .int .u64 0, .int .u64 0, .int .i64 0, .int .i64 0, .slice none 0 0]) 8 80 Tryz.underlying95 hi hz0 hz1 hz2 rfl (by decide) _ _ _ rfl (OwnR.alloc ZO.out _) ⟨w3.heap.size, 0, none⟩ 1 1 (nodeV x) rfl rfl (new_cells_at _ _ _ _ (by simp)) (nodeV_one _) (by unfold maxLen; omega) (by omega) (by simp; omega) ?_)
              intro v' w4 hown' hgrow _ hwhere
              have hrow := fun r (hr : _ = some r) => World.ownsRow.lt ZO.out r hr
              have HO4 := Lib.hid (OwnR.snoc hown')
              have HR4 := Lib.hid (goodRow_next VR.out VO.out (by omega) VS.out ZGG.out ZX.out hgrow hwhere)
              have HP4 := Lib.hid ((ZP.out.alloc (.cells (nodeV x).toArray 97)).stays hgrow (fun e => by have := (hrow _ e).1; omega))
              have HG4 := Lib.hid (grown_own (grown_alloc ZG.out (.cells (nodeV x).toArray 97)) hgrow (fun r hr => Nat.le_of_succ_le (hrow r hr).1))
              have HK4 := Lib.hid ((ZK.out.alloc (.cells (nodeV x).toArray 97)).stays hgrow (fun e => by have := (hrow _ e).1; omega))
              have HS4 := Lib.hid (show W.heap.size + 1 ≤ w4.heap.size by have := hgrow.size; rw [World.size_alloc] at this; omega)
              have HST4 := Lib.hid (show SeqSt E g R t k j3 ((l ++ [x]).map NodeX.t) f3 e3 by rw [List.map_append]; exact ZST.out)
              clear hown' hgrow hwhere hrow
              go_wp2
              go_roundw
              case rel => exact ⟨l ++ [x], j3, f3, e3, HP4, HG4, HO4, HR4, HK4, HS4, HST4⟩
              case measure =>
                rw [seqM_go HP.out]
                cases f3 with
                | true => rw [seqM_stop HP4.out]; omega
                | false =>
                  have := ZM.out rfl
                  have := HP4.out.le
                  rw [seqM_go HP4.out]
                  omega
            · have hm41b : ((m : Int) == 41) = true := by rw [beq_iff_eq]; exact hm41
              have hooI2 : ¬ (0 : Int) < (o : Int) := by omega
              go_wp2_with fail
              refine PK.out.mono ?_
              rintro e w2 ⟨rfl, qd, hw2⟩
              have VP := Lib.hid (by rw [hw2]; exact HP.out.drewN qd : Ps w2 b t j o false e1)
              have VG := Lib.hid (by rw [hw2]; exact World.grownBy.trans HG.out (grown_drew _ _ qd) : W.grownBy w2 (some b))
              have VO := Lib.hid (by rw [hw2]; exact HO1.out.drewN qd : OwnR nodeV 8 w2 (W.heap.size + 1) 97 _ l)
              have VR := Lib.hid (by rw [hw2]; exact fun x hx => (HGR.out x hx).later (below_drewN (Below.refl _ _) qd) : GoodRow w2 (W.heap.size + 1) _ l)
              have VK := Lib.hid (by rw [hw2]; exact HK.out.drewN qd : Blk w2 W.heap.size 97 #[.int .i64 0, .int .u64 0, .int .u64 0, .int .u64 0, .int .u64 0, .int .i64 0, .int .i64 0, .slice none 0 0])
              have VS := Lib.hid (by rw [hw2]; exact HS.out : W.heap.size + 1 ≤ w2.heap.size)
              have p2 := VP.out.opened
              have hVS := VS.out
              clear hw2 PK HG HO1 HGR HK HS q2 q3
              have hj2len : (atL t j).length < fuel + 1 := by have := at_len t j; have := HF.out; omega
              have PE := Lib.hid (HPC.out j e1 d q w2 VP.out (HL.out.next VG.out) (by have := HO.out; omega) hj2len HAT.out)
              go_wp2_with fail
              refine PE.out.mono ?_
              rintro e w3 ⟨x, j3, f3, e3, rfl, hp, hg, ⟨⟨hgood, hwfx⟩, hres⟩⟩
              have hnx := seqSt_next HEK.out HST.out HSTP.out hwfx hp.le hres
              have ZP := Lib.hid hp
              have ZG := Lib.hid (World.grownBy.trans VG.out hg)
              have ZO := Lib.hid (VO.out.kept hg (fun r hr => by injection hr with hr; omega))
              have ZK := Lib.hid (VK.out.kept hg hbn)
              have ZGG := Lib.hid hg
              have ZX := Lib.hid hgood
              have ZST := Lib.hid hnx.1
              have ZM := Lib.hid hnx.2
              have hz3 := hg.size
              have hb3 := hp.lt
              clear hp hg hgood hwfx hres hnx PE
              unfold nodeC nodeV
              go_wp2_with (at_builtin; refine wpList_append_own_at _ rfl (.tmp 35) (.tmp 38) 95 rfl (W.heap.size + 1) 97 i0 (.agg #[.int .i64 0, .int .u64 0, .int .u64 0, .int .u64 0, .int .u64 0, .int .i64 0, .int .i64 0, .slice none 0 0]) 8 80 Tryz.underlying95 hi hz0 hz1 hz2 rfl (by decide) _ _ _ rfl (OwnR.alloc ZO.out _) ⟨w3.heap.size, 0, none⟩ 1 1 (nodeV x) rfl rfl (new_cells_at _ _ _ _ (by simp)) (nodeV_one _) (by unfold maxLen; omega) (by omega) (by simp; omega) ?_)
              intro v' w4 hown' hgrow _ hwhere
              have hrow := fun r (hr : _ = some r) => World.ownsRow.lt ZO.out r hr
              have HO4 := Lib.hid (OwnR.snoc hown')
              have HR4 := Lib.hid (goodRow_next VR.out VO.out (by omega) VS.out ZGG.out ZX.out hgrow hwhere)
              have HP4 := Lib.hid ((ZP.out.alloc (.cells (nodeV x).toArray 97)).stays hgrow (fun e => by have := (hrow _ e).1; omega))
              have HG4 := Lib.hid (grown_own (grown_alloc ZG.out (.cells (nodeV x).toArray 97)) hgrow (fun r hr => Nat.le_of_succ_le (hrow r hr).1))
              have HK4 := Lib.hid ((ZK.out.alloc (.cells (nodeV x).toArray 97)).stays hgrow (fun e => by have := (hrow _ e).1; omega))
              have HS4 := Lib.hid (show W.heap.size + 1 ≤ w4.heap.size by have := hgrow.size; rw [World.size_alloc] at this; omega)
              have HST4 := Lib.hid (show SeqSt E g R t k j3 ((l ++ [x]).map NodeX.t) f3 e3 by rw [List.map_append]; exact ZST.out)
              clear hown' hgrow hwhere hrow
              go_wp2
              go_roundw
              case rel => exact ⟨l ++ [x], j3, f3, e3, HP4, HG4, HO4, HR4, HK4, HS4, HST4⟩
              case measure =>
                rw [seqM_go HP.out]
                cases f3 with
                | true => rw [seqM_stop HP4.out]; omega
                | false =>
                  have := ZM.out rfl
                  have := HP4.out.le
                  rw [seqM_go HP4.out]
                  omega
theorem own_one (w : World) (B : Nat) (x : NodeX) (hB : B ≤ w.heap.size) (g : Nat) (hg : g = w.heap.size) : OwnR nodeV 8 (w.alloc (.cells (nodeC x) 97)) B 97 (.slice (some ⟨g, 0, none⟩) 1 1) [x] := by
  subst hg
  exact ⟨rowV_len nodeV_len [x], .inr ⟨w.heap.size, 1, nodeC x, rfl, hB, heap_alloc_new w _, Nat.le_refl _, by decide, rfl, rfl⟩⟩
structure AltSt (E : List UInt8 → Res NodeT) (g : Bool) (R : Res NodeT) (t : ByteArray) (k j : Nat) (l : List NodeT) (f : Bool) (e : Int) : Prop where
  some : 1 ≤ l.length
  go : f = false → k ≤ j ∧ j ≤ t.size ∧ KInv altK l (j - k) (j - k + 1) ∧ l.length ≤ j - k + 1 ∧ ∃ n, (atL t j).length < n ∧ altsP E g n l (atL t j) = R
  stop : f = true → ∃ m : Nat, R = .bad m ∧ e = (t.size : Int) - (m : Int) ∧ KInv altK l (t.size - k) (t.size - k) ∧ l.length ≤ t.size - k + 1 ∧ k ≤ t.size
theorem seqP_bad {E : List UInt8 → Res NodeT} {g : Bool} {n m : Nat} {l : List UInt8} (h : seqP E g (n + 1) [] l = .bad m) : 0 < l.length := by
  cases l with
  | nil => cases h
  | cons c q => simp
theorem altSt_first {E : List UInt8 → Res NodeT} (hE : EOk E) {g : Bool} {t : ByteArray} {k j : Nat} {x : NodeT} {f : Bool} {e : Int} {R : Res NodeT} (hk : k ≤ t.size) (hj : j ≤ t.size) (hw : WfT x)
    (hR : (match seqP E g ((atL t k).length + 1) [] (atL t k) with
      | .bad m => .bad m
      | .ok n r => altsP E g (r.length + 1) [n] r) = R)
    (hres : match seqP E g ((atL t k).length + 1) [] (atL t k) with
      | .ok n r => f = false ∧ x = n ∧ atL t j = r
      | .bad m => f = true ∧ e = (t.size : Int) - (m : Int) ∧ x.kids.length + k ≤ t.size) : AltSt E g R t k j [x] f e := by
  have hlen := at_len t k
  cases hs : seqP E g ((atL t k).length + 1) [] (atL t k) with
  | bad m =>
    rw [hs] at hres hR
    obtain ⟨rfl, he, hb⟩ := hres
    have h0 := seqP_bad hs
    refine ⟨Nat.le_refl _, (fun e => by cases e), fun _ => ⟨m, hR.symm, he, ⟨?_, fun y hy => ?_⟩, by simp, hk⟩⟩
    · have := altK_one x; omega
    · rw [List.mem_singleton] at hy; subst hy; exact ⟨by omega, hw⟩
  | ok n r =>
    rw [hs] at hres hR
    obtain ⟨rfl, rfl, hr⟩ := hres
    obtain ⟨p1, p2, p3⟩ := seqP_ok hE _ _ _ 0 _ _ (kinv_nil catK rfl) hs
    have hlen2 := at_len t j
    rw [hr] at hlen2
    refine ⟨Nat.le_refl _, fun _ => ⟨by omega, hj, kinv_first (by omega) hw, by simp, r.length + 1, by rw [hr]; omega, by rw [hr]; exact hR⟩, (fun e => by cases e)⟩
theorem altSt_end {E : List UInt8 → Res NodeT} {g : Bool} {R : Res NodeT} {t : ByteArray} {k j : Nat} {l : List NodeT} {e : Int} (h : AltSt E g R t k j l false e) (hs : ∀ q, atL t j ≠ 124 :: q) : R = .ok (choiceT l) (atL t j) := by
  obtain ⟨_, _, _, _, n, h1, h2⟩ := h.go rfl
  obtain ⟨m, rfl⟩ : ∃ m, n = m + 1 := ⟨n - 1, by omega⟩
  rw [altsP_end hs] at h2
  exact h2.symm
theorem altSt_next {E : List UInt8 → Res NodeT} (hE : EOk E) {g : Bool} {R : Res NodeT} {t : ByteArray} {k j j2 : Nat} {l : List NodeT} {x : NodeT} {f : Bool} {e e2 : Int} {q : List UInt8} (h : AltSt E g R t k j l false e) (hq : atL t j = 124 :: q) (hq2 : atL t (j + 1) = q) (hw : WfT x) (hj2 : j2 ≤ t.size)
    (hres : match seqP E g ((atL t (j + 1)).length + 1) [] (atL t (j + 1)) with
      | .ok n r => f = false ∧ x = n ∧ atL t j2 = r
      | .bad m => f = true ∧ e2 = (t.size : Int) - (m : Int) ∧ x.kids.length + (j + 1) ≤ t.size) : AltSt E g R t k j2 (l ++ [x]) f e2 ∧ (f = false → j < j2) := by
  obtain ⟨hkj, hjt, hK, hL, n, h1, h2⟩ := h.go rfl
  obtain ⟨m, rfl⟩ : ∃ m, n = m + 1 := ⟨n - 1, by omega⟩
  rw [hq, altsP_bar] at h2
  rw [hq2] at hres
  have hlen := at_len t (j + 1)
  have hlen0 := at_len t j
  rw [hq, List.length_cons] at hlen0 h1
  rw [hq2] at hlen
  have hs1 : 1 ≤ (l ++ [x]).length := by rw [List.length_append]; simp
  cases hp : seqP E g (q.length + 1) [] q with
  | bad mm =>
    rw [hp] at hres h2
    obtain ⟨rfl, he, hb⟩ := hres
    have h0 := seqP_bad hp
    refine ⟨⟨hs1, (fun e => by cases e), fun _ => ⟨mm, h2.symm, he, ⟨?_, fun y hy => ?_⟩, ?_, by omega⟩⟩, (fun e => by cases e)⟩
    · rw [altK_app, List.length_append]
      have := altK_one x
      have := hK.len
      omega
    · rcases List.mem_append.1 hy with h3 | h3
      · have := hK.all y h3
        exact ⟨by omega, this.2⟩
      · rw [List.mem_singleton] at h3
        subst h3
        exact ⟨by omega, hw⟩
    · rw [List.length_append, List.length_singleton]; omega
  | ok nn r =>
    rw [hp] at hres h2
    obtain ⟨rfl, rfl, hr⟩ := hres
    obtain ⟨p1, p2, p3⟩ := seqP_ok hE _ _ _ 0 _ _ (kinv_nil catK rfl) hp
    have hlen2 := at_len t j2
    rw [hr] at hlen2
    refine ⟨⟨hs1, fun _ => ⟨by omega, hj2, ?_, ?_, m, by rw [hr]; omega, by rw [hr]; exact h2⟩, (fun e => by cases e)⟩, fun _ => by omega⟩
    · have := kinv_alt hK (c := j2 - j - 1) (x := x) (by omega) hw
      rw [show j - k + (j2 - j - 1 + 1) = j2 - k by omega] at this
      exact this
    · rw [List.length_append, List.length_singleton]; omega
theorem altSt_tell {E : List UInt8 → Res NodeT} {g : Bool} {R : Res NodeT} {t : ByteArray} {k j : Nat} {l : List NodeT} {f : Bool} {e : Int} (h : AltSt E g R t k j l f e) : WfT (choiceT l) ∧ (altK l).length ≤ t.size + 1 ∧ l.length ≤ t.size + 1 ∧ (f = true → (choiceT l).kids.length + k ≤ t.size) ∧ ∀ x, x ∈ l → WfT x := by
  cases f with
  | false =>
    obtain ⟨h1, h2, h3, h4, _⟩ := h.go rfl
    exact ⟨(choice_inv h3 h.some).2, by have := h3.len; omega, by omega, (fun e => by cases e), fun x hx => (h3.all x hx).2⟩
  | true =>
    obtain ⟨m, _, _, h3, h4, h5⟩ := h.stop rfl
    have hge := altK_ge (fun n hn => (h3.all n hn).2)
    refine ⟨?_, by have := h3.len; omega, by omega, fun _ => ?_, fun x hx => (h3.all x hx).2⟩
    · by_cases h1 : l.length = 1
      · obtain ⟨x, rfl⟩ : ∃ x, l = [x] := by
          match l, h1 with
          | [x], _ => exact ⟨x, rfl⟩
        exact (h3.all x (by simp)).2
      · rw [choice_more h1]
        intro _
        have := h.some
        show 2 ≤ (altK l).length
        omega
    · by_cases h1 : l.length = 1
      · obtain ⟨x, rfl⟩ : ∃ x, l = [x] := by
          match l, h1 with
          | [x], _ => exact ⟨x, rfl⟩
        have := (h3.all x (by simp)).1
        rw [choice_one]
        omega
      · rw [choice_more h1]
        have := h3.len
        show (altK l).length + k ≤ t.size
        omega
set_option maxRecDepth 100000 in
set_option maxHeartbeats 6400000 in
theorem expression_any (fuel : Nat) (HE : ExprC fuel) : ExprC (fuel + 1) := by
  intro b t k o e0 W h hl ho hf
  obtain ⟨i0, hi, hz0, hz1, hz2⟩ := info_parts infoNode
  have hlt := h.lt
  have hbn : W.heap.size ≠ b := by omega
  have htz := h.sz
  have hkt := h.le
  have hE := exprP_ok fuel true
  obtain ⟨g, hg0⟩ : ∃ g, decide (0 < o) = g := ⟨_, rfl⟩
  obtain ⟨R, hR⟩ : ∃ R, exprP (fuel + 1) (decide (0 < o)) (atL t k) = R := ⟨_, rfl⟩
  rw [hR]
  rw [hg0, exprP] at hR
  have hG0 := World.grownBy_alloc W (.cells #[.int .i64 0, .int .u64 0, .int .u64 0, .int .u64 0, .int .u64 0, .int .i64 0, .int .i64 0, .slice none 0 0] 97) (some b)
  have SQ := sequence_any fuel HE b t k o e0 _ (h.alloc (.cells #[.int .i64 0, .int .u64 0, .int .u64 0, .int .u64 0, .int .u64 0, .int .i64 0, .int .i64 0, .slice none 0 0] 97)) (hl.next hG0) ho hf
  have SQF := fun (j : Nat) (e1 : Int) (w : World) (hp : Ps w b t j o false e1) (hl2 : LibF w b) (h1 : o ≤ j) (h2 : (atL t j).length < fuel + 1) => sequence_any fuel HE b t j o e1 w hp hl2 h1 h2
  have hsz0 : (W.alloc (.cells #[.int .i64 0, .int .u64 0, .int .u64 0, .int .u64 0, .int .u64 0, .int .i64 0, .int .i64 0, .slice none 0 0] 97)).heap.size = W.heap.size + 1 := by simp
  rw [hsz0] at SQ
  rw [hg0] at SQ
  simp only [hg0] at SQF
  obtain ⟨E, hEE⟩ : ∃ E, exprP fuel true = E := ⟨_, rfl⟩
  simp only [hEE] at SQ SQF
  rw [hEE] at hE hR
  have HSQF := Lib.hid SQF
  have HEK := Lib.hid hE
  have HL := Lib.hid hl
  have HF := Lib.hid hf
  have HO := Lib.hid ho
  have HRR := Lib.hid hR
  have HG0 := Lib.hid hG0
  have HS0 := Lib.hid hsz0
  have HK0 := Lib.hid (Blk.new W 97 #[.int .i64 0, .int .u64 0, .int .u64 0, .int .u64 0, .int .u64 0, .int .i64 0, .int .i64 0, .slice none 0 0])
  replace SQ := Lib.hid SQ
  clear h hl hE hEE SQF hR hf ho hg0 HE hG0 hsz0
  go_enter Tryz.func72, Tryz.ntmps72
  go_wp2_with fail
  refine SQ.out.mono ?_
  rintro e w1 ⟨x, j, f, e1, rfl, hp, hg, ⟨⟨hgood, hwf⟩, hres⟩⟩
  have hs1 : W.heap.size + 1 ≤ w1.heap.size := by have := hg.size; have := HS0.out; omega
  have HST0 := Lib.hid (altSt_first HEK.out hkt hp.le hwf HRR.out hres)
  have HP0 := Lib.hid (hp.alloc (.cells (nodeC x) 97))
  have HGG0 := Lib.hid (grown_alloc (World.grownBy.trans HG0.out hg) (.cells (nodeC x) 97))
  have HKK0 := Lib.hid ((HK0.out.kept hg hbn).alloc (.cells (nodeC x) 97))
  have HOO0 := Lib.hid (own_one w1 (W.heap.size + 1) x hs1 w1.heap.size rfl)
  have HRW0 := Lib.hid (show GoodRow (w1.alloc (.cells (nodeC x) 97)) (W.heap.size + 1) (.slice (some ⟨w1.heap.size, 0, none⟩) 1 1) [x] from fun y hy => by
    rw [List.mem_singleton] at hy
    subst hy
    exact (hgood.weaken (fun q hq hl => ⟨hq, hl⟩) : GoodN w1 (fun q => W.heap.size + 1 ≤ q ∧ q < w1.heap.size) y).alloc _ |>.weaken (fun q hq _ => ⟨hq.1, fun e => by
      injection e with e
      have h1 := hq.2
      have h2 : q = w1.heap.size := e
      omega⟩))
  have HSS0 := Lib.hid (show W.heap.size + 1 ≤ (w1.alloc (.cells (nodeC x) 97)).heap.size by rw [World.size_alloc]; omega)
  clear hp hg hgood hwf hres SQ HG0 HK0 HS0 HRR
  unfold nodeC nodeV
  go_wp2
  obtain ⟨v0, hv0⟩ : ∃ v, v = W := ⟨_, rfl⟩
  go_loopw [3] (fun v wr => ∃ (l : List NodeX) (j : Nat) (f : Bool) (e1 : Int), Hid (Ps wr b t j o f e1) ∧ Hid (W.grownBy wr (some b)) ∧ Hid (OwnR nodeV 8 wr (W.heap.size + 1) 97 v l) ∧ Hid (GoodRow wr (W.heap.size + 1) v l) ∧ Hid (Blk wr W.heap.size 97 #[.int .i64 0, .int .u64 0, .int .u64 0, .int .u64 0, .int .u64 0, .int .i64 0, .int .i64 0, .slice none 0 0]) ∧ Hid (W.heap.size + 1 ≤ wr.heap.size) ∧ Hid (AltSt E g R t k j (l.map NodeX.t) f e1)) (fun _ w => seqM t b w)
  case atStart => exact ⟨[x], j, f, e1, HP0, HGG0, HOO0, HRW0, HKK0, HSS0, HST0⟩
  case round =>
    clear HP0 HGG0 HOO0 HRW0 HKK0 HSS0 HST0
    obtain ⟨l, j, f, e1, HP, HG, HO1, HGR, HK, HS, HST⟩ := hrel
    have q3 := HP.out.fault
    have hjt := HP.out.le
    have hbr := HP.out.lt
    have hS := HS.out
    obtain ⟨t1, t2, t3, t4, t5⟩ := altSt_tell HST.out
    have hcl : l.length ≤ 257 := by rw [List.length_map] at t3; omega
    have hl1 : 1 ≤ l.length := by have := HST.out.some; rw [List.length_map] at this; exact this
    have hcx : (altX l).length ≤ 100000 := by
      rw [← altX_t, List.length_map] at t2
      omega
    have hwf : ∀ x, x ∈ l → x.kind = 5 → 0 < x.n := fun x hx hk => wf_kids (HGR.out x hx) (t5 x.t (List.mem_map_of_mem hx)) (.inr hk)
    have HWF := Lib.hid hwf
    have HT1 := Lib.hid t1
    have HT4 := Lib.hid t4
    clear t1 t2 t3 t4 t5 hwf
    cases f with
    | true =>
      obtain ⟨m, hRm, he1, _⟩ := HST.out.stop rfl
      have HRM := Lib.hid hRm
      have HE1 := Lib.hid he1
      have HT5 := Lib.hid (HT4.out rfl)
      clear hRm he1 HT4
      by_cases h1l : l.length = 1
      · obtain ⟨x, rfl⟩ : ∃ x, l = [x] := by
          match l, h1l with
          | [x], _ => exact ⟨x, rfl⟩
        obtain ⟨gg, cp, hv2, hge, hgl, _, hc⟩ := OwnR.at_ nodeV_len HO1.out (by simp)
        have a0 := hc 0 0 x rfl (by decide)
        have a1 := hc 0 1 x rfl (by decide)
        have a2 := hc 0 2 x rfl (by decide)
        have a3 := hc 0 3 x rfl (by decide)
        have a4 := hc 0 4 x rfl (by decide)
        have a5 := hc 0 5 x rfl (by decide)
        have a6 := hc 0 6 x rfl (by decide)
        have a7 := hc 0 7 x rfl (by decide)
        simp only [nodeV, List.getElem?_cons_zero, List.getElem?_cons_succ, Nat.zero_mul, Nat.zero_add] at a0 a1 a2 a3 a4 a5 a6 a7
        obtain ⟨⟨d0, d1, d2, d3, d4, d5, d6, d7⟩, f0, f1, f2, f3, f4, f5, f6, f7⟩ := nil_cells HK.out
        have hone : ([x] : List NodeX).length = 1 := rfl
        rw [hone] at hv2
        rw [hv2]
        clear hc hv2 hge
        go_wp2
        refine bodyPost_ret (results_cell_row rfl _ _ W.heap.size 97 (nodeC x) (0, 0) _ rfl (blk_eight HK.out nilX_lit _ _ _ _ _ _ _ _) Tryz.underlying97 rfl (by kernel_rfl)) rfl ?_
        refine ⟨x, j, true, e1, rfl, ps_eight HP.out (Ne.symm hbn) _ _ _ _ _ _ _ _, grown_eight HG.out (Nat.le_refl _) _ _ _ _ _ _ _ _, ⟨(good_eight2 (HGR.out x (by simp)) (fun q hq e => by have := hq.1; omega) _ _ _ _ _ _ _ _).weaken (fun q hq _ => Nat.le_of_succ_le hq.1), HT1.out⟩, ?_⟩
        rw [HRM.out]
        exact ⟨rfl, HE1.out, by rw [(rfl : x.t = choiceT [x.t])]; exact HT5.out⟩
      · obtain ⟨A2, c2, hv2, hc2, hn2, hrow⟩ := OwnR.open nodeV_len HO1.out
        have CO := Lib.hid (altOf_any A2 l.length c2 l (fun g => W.heap.size + 1 ≤ g) wr hrow (fun x hx => (HGR.out x hx).weaken (fun g hq _ => hq.1)) (by omega) hcx HWF.out)
        have hne1 : ((l.length : Int) == 1) = false := by rw [beq_eq_false_iff_ne]; omega
        have hne2 : ¬ l.length = 1 := h1l
        rw [hv2]
        clear hrow hn2 hc2 hv2
        go_wp2_with fail
        refine CO.out.mono ?_
        rintro e w9 ⟨y, rfl, hy, hgy, hx⟩
        have YP := Lib.hid (HP.out.belowS hx)
        have YG := Lib.hid (grown_hop HG.out hx)
        have hk9 := HK.out.below hx HK.out.lt
        have YK := Lib.hid hk9
        have YT := Lib.hid (hy.trans (choice_more (l := l.map NodeX.t) (by rw [List.length_map]; exact h1l)).symm)
        have YD := Lib.hid hgy
        obtain ⟨⟨d0, d1, d2, d3, d4, d5, d6, d7⟩, f0, f1, f2, f3, f4, f5, f6, f7⟩ := nil_cells hk9
        clear hx hy hgy hk9 CO
        unfold nodeC nodeV
        go_wp2
        refine bodyPost_ret (results_cell_row rfl _ _ W.heap.size 97 (nodeC y) (0, 0) _ rfl (blk_eight YK.out nilX_lit _ _ _ _ _ _ _ _) Tryz.underlying97 rfl (by kernel_rfl)) rfl ?_
        refine ⟨y, j, true, e1, rfl, ps_eight YP.out (Ne.symm hbn) _ _ _ _ _ _ _ _, grown_eight YG.out (Nat.le_refl _) _ _ _ _ _ _ _ _, ⟨(good_eight2 YD.out (fun q hq e => by omega) _ _ _ _ _ _ _ _).weaken (fun q hq _ => by omega), by rw [YT.out]; exact HT1.out⟩, ?_⟩
        rw [HRM.out]
        exact ⟨rfl, HE1.out, by rw [YT.out]; exact HT5.out⟩
    | false =>
      have hkj := (HST.out.go rfl).1
      clear HT4
      by_cases h124 : ∃ q, atL t j = 124 :: q
      · obtain ⟨q, hq⟩ := h124
        have TK := Lib.hid (take_yes2 b ⟨#[124]⟩ (by decide) q t j o false e1 hq _ HP.out wr.heap.size rfl)
        have HQ := Lib.hid hq
        clear hq
        go_wp2_with fail
        refine TK.out.mono ?_
        rintro e w2 ⟨⟨xx, rfl⟩, ⟨hp, hr⟩, hg⟩
        have VP := Lib.hid (show Ps w2 b t (j + 1) o false e1 from hp)
        have VQ := Lib.hid (show atL t (j + 1) = q from hr)
        have VG := Lib.hid (World.grownBy.trans HG.out hg)
        have VO := Lib.hid (HO1.out.kept hg (fun r hr => by injection hr with hr; omega))
        have VR := Lib.hid (show GoodRow w2 (W.heap.size + 1) _ l from fun x hx => (HGR.out x hx).grown hg (fun g hq e => by injection e with e; have := hq.1; omega))
        have VK := Lib.hid (HK.out.kept hg hbn)
        have VS := Lib.hid (show W.heap.size + 1 ≤ w2.heap.size from Nat.le_trans HS.out hg.size)
        have hVS := VS.out
        have hj2len : (atL t (j + 1)).length < fuel + 1 := by have h1 := at_len t (j + 1); have h2 := at_len t k; have := HF.out; omega
        have SE := Lib.hid (HSQF.out (j + 1) e1 w2 VP.out (HL.out.next VG.out) (by have := HO.out; omega) hj2len)
        clear hp hr hg TK HG HO1 HGR HK HS q3
        go_wp2_with fail
        refine SE.out.mono ?_
        rintro e w3 ⟨x, j3, f3, e3, rfl, hp, hg, ⟨⟨hgood, hwfx⟩, hres⟩⟩
        have hnx := altSt_next HEK.out HST.out HQ.out VQ.out hwfx hp.le hres
        have ZP := Lib.hid hp
        have ZG := Lib.hid (World.grownBy.trans VG.out hg)
        have ZO := Lib.hid (VO.out.kept hg (fun r hr => by injection hr with hr; omega))
        have ZK := Lib.hid (VK.out.kept hg hbn)
        have ZGG := Lib.hid hg
        have ZX := Lib.hid hgood
        have ZST := Lib.hid hnx.1
        have ZM := Lib.hid hnx.2
        have hz3 := hg.size
        have hb3 := hp.lt
        clear hp hg hgood hwfx hres hnx SE
        unfold nodeC nodeV
        go_wp2_with (at_builtin; refine wpList_append_own_at _ rfl (.tmp 24) (.tmp 27) 95 rfl (W.heap.size + 1) 97 i0 (.agg #[.int .i64 0, .int .u64 0, .int .u64 0, .int .u64 0, .int .u64 0, .int .i64 0, .int .i64 0, .slice none 0 0]) 8 80 Tryz.underlying95 hi hz0 hz1 hz2 rfl (by decide) _ _ _ rfl (OwnR.alloc ZO.out _) ⟨w3.heap.size, 0, none⟩ 1 1 (nodeV x) rfl rfl (new_cells_at _ _ _ _ (by simp)) (nodeV_one _) (by unfold maxLen; omega) (by omega) (by simp; omega) ?_)
        intro v' w4 hown' hgrow _ hwhere
        have hrow := fun r (hr : _ = some r) => World.ownsRow.lt ZO.out r hr
        have HO4 := Lib.hid (OwnR.snoc hown')
        have HR4 := Lib.hid (goodRow_next VR.out VO.out (by omega) VS.out ZGG.out ZX.out hgrow hwhere)
        have HP4 := Lib.hid ((ZP.out.alloc (.cells (nodeV x).toArray 97)).stays hgrow (fun e => by have := (hrow _ e).1; omega))
        have HG4 := Lib.hid (grown_own (grown_alloc ZG.out (.cells (nodeV x).toArray 97)) hgrow (fun r hr => Nat.le_of_succ_le (hrow r hr).1))
        have HK4 := Lib.hid ((ZK.out.alloc (.cells (nodeV x).toArray 97)).stays hgrow (fun e => by have := (hrow _ e).1; omega))
        have HS4 := Lib.hid (show W.heap.size + 1 ≤ w4.heap.size by have := hgrow.size; rw [World.size_alloc] at this; omega)
        have HST4 := Lib.hid (show AltSt E g R t k j3 ((l ++ [x]).map NodeX.t) f3 e3 by rw [List.map_append]; exact ZST.out)
        clear hown' hgrow hwhere hrow
        go_wp2
        go_roundw
        case rel => exact ⟨l ++ [x], j3, f3, e3, HP4, HG4, HO4, HR4, HK4, HS4, HST4⟩
        case measure =>
          rw [seqM_go HP.out]
          cases f3 with
          | true => rw [seqM_stop HP4.out]; omega
          | false =>
            have := ZM.out rfl
            have := HP4.out.le
            rw [seqM_go HP4.out]
            omega
      · have h124' : ∀ q, atL t j ≠ 124 :: q := fun q e => h124 ⟨q, e⟩
        have TK := Lib.hid (take_no2 b ⟨#[124]⟩ (by decide) t j o false e1 (head_no 124 _ h124') _ HP.out wr.heap.size rfl)
        have HRM := Lib.hid (altSt_end HST.out h124')
        clear h124 h124'
        go_wp2_with fail
        refine TK.out.mono ?_
        rintro e w2 ⟨⟨xx, rfl⟩, hp, hg⟩
        have VP := Lib.hid hp
        have VG := Lib.hid (World.grownBy.trans HG.out hg)
        have VO := Lib.hid (HO1.out.kept hg (fun r hr => by injection hr with hr; omega))
        have VR := Lib.hid (show GoodRow w2 (W.heap.size + 1) _ l from fun x hx => (HGR.out x hx).grown hg (fun g hq e => by injection e with e; have := hq.1; omega))
        have VK := Lib.hid (HK.out.kept hg hbn)
        have hVS : W.heap.size + 1 ≤ w2.heap.size := Nat.le_trans HS.out hg.size
        clear hp hg TK HG HO1 HGR HK HS q3
        by_cases h1l : l.length = 1
        · obtain ⟨x, rfl⟩ : ∃ x, l = [x] := by
            match l, h1l with
            | [x], _ => exact ⟨x, rfl⟩
          obtain ⟨gg, cp, hv2, hge, hgl, _, hc⟩ := OwnR.at_ nodeV_len VO.out (by simp)
          have a0 := hc 0 0 x rfl (by decide)
          have a1 := hc 0 1 x rfl (by decide)
          have a2 := hc 0 2 x rfl (by decide)
          have a3 := hc 0 3 x rfl (by decide)
          have a4 := hc 0 4 x rfl (by decide)
          have a5 := hc 0 5 x rfl (by decide)
          have a6 := hc 0 6 x rfl (by decide)
          have a7 := hc 0 7 x rfl (by decide)
          simp only [nodeV, List.getElem?_cons_zero, List.getElem?_cons_succ, Nat.zero_mul, Nat.zero_add] at a0 a1 a2 a3 a4 a5 a6 a7
          obtain ⟨⟨d0, d1, d2, d3, d4, d5, d6, d7⟩, f0, f1, f2, f3, f4, f5, f6, f7⟩ := nil_cells VK.out
          have hone : ([x] : List NodeX).length = 1 := rfl
          rw [hone] at hv2
          rw [hv2]
          clear hc hv2 hge
          go_wp2
          refine bodyPost_ret (results_cell_row rfl _ _ W.heap.size 97 (nodeC x) (0, 0) _ rfl (blk_eight VK.out nilX_lit _ _ _ _ _ _ _ _) Tryz.underlying97 rfl (by kernel_rfl)) rfl ?_
          refine ⟨x, j, false, e1, rfl, ps_eight VP.out (Ne.symm hbn) _ _ _ _ _ _ _ _, grown_eight VG.out (Nat.le_refl _) _ _ _ _ _ _ _ _, ⟨(good_eight2 (VR.out x (by simp)) (fun q hq e => by have := hq.1; omega) _ _ _ _ _ _ _ _).weaken (fun q hq _ => Nat.le_of_succ_le hq.1), HT1.out⟩, ?_⟩
          rw [HRM.out]
          exact ⟨rfl, (rfl : x.t = choiceT [x.t]), rfl⟩
        · obtain ⟨A2, c2, hv2, hc2, hn2, hrow⟩ := OwnR.open nodeV_len VO.out
          have CO := Lib.hid (altOf_any A2 l.length c2 l (fun g => W.heap.size + 1 ≤ g) w2 hrow (fun x hx => (VR.out x hx).weaken (fun g hq _ => hq.1)) (by omega) hcx HWF.out)
          have hne1 : ((l.length : Int) == 1) = false := by rw [beq_eq_false_iff_ne]; omega
          have hne2 : ¬ l.length = 1 := h1l
          rw [hv2]
          clear hrow hn2 hc2 hv2
          go_wp2_with fail
          refine CO.out.mono ?_
          rintro e w9 ⟨y, rfl, hy, hgy, hx⟩
          have YP := Lib.hid (VP.out.belowS hx)
          have YG := Lib.hid (grown_hop VG.out hx)
          have hk9 := VK.out.below hx VK.out.lt
          have YK := Lib.hid hk9
          have YT := Lib.hid (hy.trans (choice_more (l := l.map NodeX.t) (by rw [List.length_map]; exact h1l)).symm)
          have YD := Lib.hid hgy
          obtain ⟨⟨d0, d1, d2, d3, d4, d5, d6, d7⟩, f0, f1, f2, f3, f4, f5, f6, f7⟩ := nil_cells hk9
          clear hx hy hgy hk9 CO
          unfold nodeC nodeV
          go_wp2
          refine bodyPost_ret (results_cell_row rfl _ _ W.heap.size 97 (nodeC y) (0, 0) _ rfl (blk_eight YK.out nilX_lit _ _ _ _ _ _ _ _) Tryz.underlying97 rfl (by kernel_rfl)) rfl ?_
          refine ⟨y, j, false, e1, rfl, ps_eight YP.out (Ne.symm hbn) _ _ _ _ _ _ _ _, grown_eight YG.out (Nat.le_refl _) _ _ _ _ _ _ _ _, ⟨(good_eight2 YD.out (fun q hq e => by omega) _ _ _ _ _ _ _ _).weaken (fun q hq _ => by omega), by rw [YT.out]; exact HT1.out⟩, ?_⟩
          rw [HRM.out]
          exact ⟨rfl, YT.out, rfl⟩
theorem expression_all : ∀ fuel, ExprC fuel
  | 0 => fun _ _ _ _ _ _ _ _ _ h => absurd h (Nat.not_lt_zero _)
  | fuel + 1 => expression_any fuel (expression_all fuel)
theorem results_row_tmp2 {P : Program} {fn : Func} {p u v : Tmp} {ty : TypeId} (h : fn.results = #[.cell p ty, .tmp u, .tmp v]) (tmps : Array Value) (w : World) (g : Nat) (t : TypeId) (cs : Array Value) (fr : Nat × Nat) (d : TypeDesc)
    (hp : tmps.getD p undef = .pointer (some ⟨g, 0, none⟩)) (hg : w.heap[g]? = some (.cells cs t fr))
    (hu : P.underlying ty = some d) (hd : (match d with | .struct _ | .array _ _ => true | _ => false) = true) (hi : (P.info? ty).map (·.size) = some cs.size) :
    (results fn tmps).run P w = .ok (.tuple #[.agg cs, tmps.getD u undef, tmps.getD v undef]) w := by
  have hp' : tmps[p]?.getD undef = .pointer (some ⟨g, 0, none⟩) := by simpa using hp
  simp only [results, h]
  simp [Sem.run_bind, hp', asAddr, run_loadVar_row w g t ty cs fr d hg hu hd hi, Result.andThen]
set_option maxHeartbeats 800000 in
theorem newParser_any (t : ByteArray) (ht : t.size ≤ 256) (W : World) :
    Calls Tryz.prog 54 #[.string t] W fun e w' => ∃ b, e = .returned (.pointer (some ⟨b, 0, none⟩)) ∧ Ps w' b t 0 0 false 0 ∧ W.heap.size ≤ b ∧ Below W.heap.size W w' := by
  have OF := Lib.hid (of_any t W)
  go_enter Tryz.func54, Tryz.ntmps54
  go_wp2_with fail
  refine OF.out.mono ?_
  rintro e w1 ⟨rfl, hx⟩
  have hsz := hx.size
  have HX := Lib.hid hx
  clear hx OF
  go_wp2
  go_ret
  exact ⟨w1.heap.size, rfl, ⟨Blk.new w1 145 (psC t 0 0 false 0), Nat.zero_le _, ht⟩, hsz, HX.out.alloc hsz _⟩
def WholePost (R : Res NodeT) (w : World) (B : Nat) (t : ByteArray) (x : NodeX) (at' : Int) (ok : Bool) : Prop :=
  match R with
  | .ok n r => ok = true ∧ x.t = n ∧ at' = (t.size : Int) - (r.length : Int) ∧ GoodN w (fun g => B ≤ g) x
  | .bad m => ok = false ∧ x = nilX ∧ at' = (t.size : Int) - (m : Int)
set_option maxRecDepth 100000 in
set_option maxHeartbeats 3200000 in
theorem whole_any (b : Nat) (t : ByteArray) (e0 : Int) (W : World) (h : Ps W b t 0 0 false e0) (hl : LibF W b) :
    Calls Tryz.prog 55 #[.pointer (some ⟨b, 0, none⟩)] W fun e w' => ∃ x at' ok, e = .returned (.tuple #[.agg (nodeC x), .int .i64 at', .bool ok]) ∧ W.grownBy w' (some b) ∧ WholePost (exprP (t.size + 1) false (atL t 0)) w' W.heap.size t x at' ok := by
  have hlt := h.lt
  have hbn : W.heap.size ≠ b := by omega
  have hG0 := World.grownBy_alloc W (.cells #[.int .i64 0, .int .u64 0, .int .u64 0, .int .u64 0, .int .u64 0, .int .i64 0, .int .i64 0, .slice none 0 0] 97) (some b)
  have EX := expression_all (t.size + 1) b t 0 0 e0 _ (h.alloc (.cells #[.int .i64 0, .int .u64 0, .int .u64 0, .int .u64 0, .int .u64 0, .int .i64 0, .int .i64 0, .slice none 0 0] 97)) (hl.next hG0) (Nat.le_refl _) (by rw [at_len]; omega)
  have hsz0 : (W.alloc (.cells #[.int .i64 0, .int .u64 0, .int .u64 0, .int .u64 0, .int .u64 0, .int .i64 0, .int .i64 0, .slice none 0 0] 97)).heap.size = W.heap.size + 1 := by simp
  rw [hsz0, show decide (0 < 0) = false from rfl] at EX
  obtain ⟨R, hR⟩ : ∃ R, exprP (t.size + 1) false (atL t 0) = R := ⟨_, rfl⟩
  rw [hR] at EX ⊢
  have HG0 := Lib.hid hG0
  have HK0 := Lib.hid (Blk.new W 97 #[.int .i64 0, .int .u64 0, .int .u64 0, .int .u64 0, .int .u64 0, .int .i64 0, .int .i64 0, .slice none 0 0])
  replace EX := Lib.hid EX
  clear h hl hR hG0 hsz0
  go_enter Tryz.func55, Tryz.ntmps55
  go_wp2_with fail
  refine EX.out.mono ?_
  rintro e w1 ⟨x, j, f, e1, rfl, hp, hg, ⟨⟨hgood, hwf⟩, hres⟩⟩
  have hk1 := HK0.out.kept hg hbn
  obtain ⟨⟨d0, d1, d2, d3, d4, d5, d6, d7⟩, f0, f1, f2, f3, f4, f5, f6, f7⟩ := nil_cells hk1
  have q3 := hp.fault
  have hb1 := hp.lt
  have hjt := hp.le
  obtain ⟨w2, hw2⟩ : ∃ z, ((((((((w1.setCell ⟨W.heap.size, 0, none⟩ (.int .i64 x.kind)).setCell ⟨W.heap.size, 1, none⟩ (.int .u64 (word x.set 0 : Nat))).setCell ⟨W.heap.size, 2, none⟩ (.int .u64 (word x.set 1 : Nat))).setCell ⟨W.heap.size, 3, none⟩ (.int .u64 (word x.set 2 : Nat))).setCell ⟨W.heap.size, 4, none⟩ (.int .u64 (word x.set 3 : Nat))).setCell ⟨W.heap.size, 5, none⟩ (.int .i64 x.mn)).setCell ⟨W.heap.size, 6, none⟩ (.int .i64 x.mx)).setCell ⟨W.heap.size, 7, none⟩ (.slice x.A x.n x.c)) = z := ⟨_, rfl⟩
  have HK2 := Lib.hid (show Blk w2 W.heap.size 97 (nodeC x) by rw [← hw2]; exact blk_eight hk1 nilX_lit _ _ _ _ _ _ _ _)
  have HP2 := Lib.hid (show Ps w2 b t j 0 f e1 by rw [← hw2]; exact ps_eight hp (Ne.symm hbn) _ _ _ _ _ _ _ _)
  have HG2 := Lib.hid (show W.grownBy w2 (some b) by rw [← hw2]; exact grown_eight (World.grownBy.trans HG0.out hg) (Nat.le_refl _) _ _ _ _ _ _ _ _)
  have HD2 := Lib.hid (show GoodN w2 (fun g => W.heap.size + 1 ≤ g) x by rw [← hw2]; exact good_eight2 hgood (fun q hq e => by omega) _ _ _ _ _ _ _ _)
  have HW2 := Lib.hid hw2
  have HRES := Lib.hid hres
  have hp3 : w2.cell? ⟨b, 3, none⟩ = some (.bool f) := HP2.out.fault
  clear hk1 hp hg hgood hwf hres EX HG0 HK0 hw2
  unfold nodeC nodeV
  cases f with
  | true =>
    go_wp2
    rw [HW2.out]
    have S0 : Ps w2.drew b t j 0 true e1 := HP2.out.drewN 1
    have D0 := HK2.out.drew
    obtain ⟨⟨y0, y1, y2, y3, y4, y5, y6, y7⟩, z0, z1, z2, z3, z4, z5, z6, z7⟩ := node_cells D0
    obtain ⟨⟨r0, r1, r2, r3, r4, r5, r6, r7⟩, s0, s1, s2, s3, s4, s5, s6, s7⟩ := node_cells HK2.out
    clear D0
    refine wp_region_held_drew (S := (fun w' => Ps w' b t j 0 true e1)) (by kernel_rfl) S0 (fun hHeld => ?_)
    refine tV 0 ?_; refine tV 1 ?_; refine tV 2 ?_; refine tV 3 ?_
    refine tC 4 rfl (by intro w hSw; have q4 := hSw.place; first | (go_simp; done) | (go_simp; with_reducible rfl)) ?_
    refine rdy [5] ?_
    refine rdC (fun K hK => ?_) AllReadyH.nil
    go_simp
    have S1 := (ps_eight HP2.out (Ne.symm hbn) (.int .i64 0) (.int .u64 0) (.int .u64 0) (.int .u64 0) (.int .u64 0) (.int .i64 0) (.int .i64 0) (.slice none 0 0)).drewN 1
    refine hK.out _ _ S1 (fun _ => ?_)
    clear hK K
    try simp only [Act.put, pz1, pz2, pz3]
    refine tV 6 ?_; refine tV 7 ?_
    refine wpAnyH_done (by kernel_rfl) ?_ _
    go_wp2
    refine bodyPost_ret (results_row_tmp2 rfl _ _ W.heap.size 97 nilC (0, 0) _ rfl (blk_eight HK2.out rfl _ _ _ _ _ _ _ _).drew Tryz.underlying97 rfl (by kernel_rfl)) rfl ?_
    refine ⟨nilX, e1, false, rfl, World.grownBy.trans (grown_eight HG2.out (Nat.le_refl _) _ _ _ _ _ _ _ _) (grown_drew _ _ 1), ?_⟩
    cases R with
    | ok n r => exact absurd HRES.out.1 (by decide)
    | bad m => exact ⟨rfl, rfl, HRES.out.2.1⟩
  | false =>
    go_wp2
    rw [HW2.out]
    have S0 : Blk w2.drew W.heap.size 97 (nodeC x) := HK2.out.drew
    have AT := Lib.hid (place_any b t j 0 false e1 w2.drew (HP2.out.drewN 1))
    obtain ⟨⟨y0, y1, y2, y3, y4, y5, y6, y7⟩, z0, z1, z2, z3, z4, z5, z6, z7⟩ := node_cells S0
    obtain ⟨⟨r0, r1, r2, r3, r4, r5, r6, r7⟩, s0, s1, s2, s3, s4, s5, s6, s7⟩ := node_cells HK2.out
    refine wp_region_held_drew (S := (fun w' => Blk w' W.heap.size 97 (nodeC x))) (by kernel_rfl) S0 (fun hHeld => ?_)
    refine tC 0 rfl (by intro w hSw; obtain ⟨⟨u0, u1, u2, u3, u4, u5, u6, u7⟩, _⟩ := node_cells hSw; first | (go_simp; done) | (go_simp; with_reducible rfl)) ?_
    refine tV 1 ?_; refine tV 2 ?_; refine tV 3 ?_
    refine rdy [4] ?_
    refine rdC (fun K hK => ?_) AllReadyH.nil
    go_simp
    go_at_call 73
    refine AT.out.mono ?_
    rintro e w3 ⟨rfl, rfl⟩
    refine hK.out _ _ S0 (fun _ => ?_)
    clear hK K
    try simp only [Act.put, pz1, pz2, pz3]
    refine rdy [5] ?_
    refine rdC (fun K hK => ?_) AllReadyH.nil
    go_simp
    have S1 : Blk _ W.heap.size 97 (nodeC x) := (blk_eight HK2.out rfl (.int .i64 x.kind) (.int .u64 (word x.set 0 : Nat)) (.int .u64 (word x.set 1 : Nat)) (.int .u64 (word x.set 2 : Nat)) (.int .u64 (word x.set 3 : Nat)) (.int .i64 x.mn) (.int .i64 x.mx) (.slice x.A x.n x.c)).drew
    refine hK.out _ _ S1 (fun _ => ?_)
    clear hK K
    try simp only [Act.put, pz1, pz2, pz3]
    refine tV 6 ?_; refine tV 7 ?_
    refine wpAnyH_done (by kernel_rfl) ?_ _
    go_wp2
    refine bodyPost_ret (results_row_tmp2 rfl _ _ W.heap.size 97 (nodeC x) (0, 0) _ rfl S1 Tryz.underlying97 rfl (by kernel_rfl)) rfl ?_
    refine ⟨x, (j : Int), true, rfl, World.grownBy.trans (grown_eight HG2.out (Nat.le_refl _) _ _ _ _ _ _ _ _) (grown_drew _ _ 1), ?_⟩
    cases R with
    | bad m => exact absurd HRES.out.1 (by decide)
    | ok n r =>
      obtain ⟨_, hx, hr⟩ := HRES.out
      refine ⟨rfl, hx, by rw [← hr, at_len]; omega, ?_⟩
      exact ((good_eight2 HD2.out (fun q hq e => by omega) _ _ _ _ _ _ _ _).later (below_drewN (Below.refl _ _) 1)).weaken (fun q hq _ => Nat.le_of_succ_le hq)
theorem parseB_is (l : List UInt8) (h : ¬ 256 < l.length) : parseB l = (match exprP (l.length + 1) false l with
    | .bad k => (.nil, (l.length : Int) - (k : Int), 2)
    | .ok n r => if 200 < sizeT n then (.nil, (l.length : Int) - (r.length : Int), 4) else (n, (l.length : Int) - (r.length : Int), 0)) := by
  unfold parseB
  rw [if_neg h]
  cases exprP (l.length + 1) false l <;> rfl
set_option maxRecDepth 100000 in
set_option maxHeartbeats 3200000 in
theorem parse_rex (t : ByteArray) (W : World) (hl : LibIs W) :
    Calls Tryz.prog 42 #[.string t] W fun e w' => ∃ x at' er, e = .returned (.tuple #[.agg (nodeC x), .int .i64 at', .int .i64 er]) ∧ parseB t.data.toList = (x.t, at', er) ∧ GoodN w' (fun g => W.heap.size ≤ g) x ∧ Below W.heap.size W w' := by
  have HK0 := Lib.hid (Blk.new W 97 #[.int .i64 0, .int .u64 0, .int .u64 0, .int .u64 0, .int .u64 0, .int .i64 0, .int .i64 0, .slice none 0 0])
  have HB0 := Lib.hid ((Below.refl W.heap.size W).alloc (Nat.le_refl _) (.cells #[.int .i64 0, .int .u64 0, .int .u64 0, .int .u64 0, .int .u64 0, .int .i64 0, .int .i64 0, .slice none 0 0] 97))
  have hts : t.data.toList.length = t.size := size_toList t
  by_cases hbig : 256 < t.size
  · have E : parseB t.data.toList = (.nil, 256, 4) := by unfold parseB; rw [if_pos (by omega)]
    rw [E]
    have hI : (256 : Int) < (t.size : Int) := by omega
    have hI2 : (t.size : Int) > 256 := by omega
    obtain ⟨⟨d0, d1, d2, d3, d4, d5, d6, d7⟩, f0, f1, f2, f3, f4, f5, f6, f7⟩ := nil_cells HK0.out
    clear E hts
    go_enter Tryz.func42, Tryz.ntmps42
    go_wp2
    refine bodyPost_ret (results_row_tmp2 rfl _ _ W.heap.size 97 nilC (0, 0) _ rfl (by first | exact (Blk.new W 97 nilC) | exact (blk_eight HK0.out nilX_lit _ _ _ _ _ _ _ _)) Tryz.underlying97 rfl (by kernel_rfl)) rfl ?_
    refine ⟨nilX, 256, 4, rfl, rfl, GoodN.nil _ _, ?_⟩
    first | exact HB0.out | exact below_eight HB0.out (Nat.le_refl _) _ _ _ _ _ _ _ _
  · have hI : ¬ (256 : Int) < (t.size : Int) := by omega
    have hI2 : ¬ (t.size : Int) > 256 := by omega
    have NP := Lib.hid (newParser_any t (by omega) (W.alloc (.cells #[.int .i64 0, .int .u64 0, .int .u64 0, .int .u64 0, .int .u64 0, .int .i64 0, .int .i64 0, .slice none 0 0] 97)))
    have hpb := parseB_is t.data.toList (by omega)
    rw [hts] at hpb
    have hW1 : (W.alloc (.cells #[.int .i64 0, .int .u64 0, .int .u64 0, .int .u64 0, .int .u64 0, .int .i64 0, .int .i64 0, .slice none 0 0] 97)).heap.size = W.heap.size + 1 := by simp
    have WH := fun b w (h : Ps w b t 0 0 false 0) (h2 : LibF w b) => whole_any b t 0 w h h2
    have hat0 : atL t 0 = t.data.toList := rfl
    rw [hat0] at WH
    obtain ⟨R, hR⟩ : ∃ R, exprP (t.size + 1) false t.data.toList = R := ⟨_, rfl⟩
    rw [hR] at WH hpb
    have HPB := Lib.hid hpb
    have HWH := Lib.hid WH
    have HL := Lib.hid hl
    have HW1 := Lib.hid hW1
    clear hbig hpb WH hR hl hat0 hts hW1
    go_enter Tryz.func42, Tryz.ntmps42
    go_wp2_with fail
    refine NP.out.mono ?_
    rintro e w1 ⟨b, rfl, hp, hb, hx⟩
    have hbW : W.heap.size + 1 ≤ b := by have := HW1.out; omega
    have hB1 := hop HB0.out (Nat.le_refl _) hx
    have hk1 := HK0.out.below hx HK0.out.lt
    have WX := Lib.hid (HWH.out b w1 hp (fun w hg => HL.out.below (hB1.grown hg (by have := hB1.size; exact this) (fun r hr => by injection hr with hr; omega))))
    have HB1 := Lib.hid hB1
    have HK1 := Lib.hid hk1
    have hs1 := hx.size
    clear hp hx hB1 hk1 NP HK0 HB0 HWH
    go_wp2_with fail
    refine WX.out.mono ?_
    rintro e w2 ⟨x, at', ok, rfl, hg, hpost⟩
    have hk2 := HK1.out.kept hg (by omega)
    have HK2 := Lib.hid hk2
    have HB2 := Lib.hid (HB1.out.grown hg (by have := HB1.out.size; exact this) (fun r hr => by injection hr with hr; omega))
    have HPO := Lib.hid hpost
    have hw1s : W.heap.size + 1 ≤ w1.heap.size := by have := HW1.out; omega
    obtain ⟨⟨d0, d1, d2, d3, d4, d5, d6, d7⟩, f0, f1, f2, f3, f4, f5, f6, f7⟩ := nil_cells hk2
    obtain ⟨w3, hw3⟩ : ∃ z, ((((((((w2.setCell ⟨W.heap.size, 0, none⟩ (.int .i64 x.kind)).setCell ⟨W.heap.size, 1, none⟩ (.int .u64 (word x.set 0 : Nat))).setCell ⟨W.heap.size, 2, none⟩ (.int .u64 (word x.set 1 : Nat))).setCell ⟨W.heap.size, 3, none⟩ (.int .u64 (word x.set 2 : Nat))).setCell ⟨W.heap.size, 4, none⟩ (.int .u64 (word x.set 3 : Nat))).setCell ⟨W.heap.size, 5, none⟩ (.int .i64 x.mn)).setCell ⟨W.heap.size, 6, none⟩ (.int .i64 x.mx)).setCell ⟨W.heap.size, 7, none⟩ (.slice x.A x.n x.c)) = z := ⟨_, rfl⟩
    have HK3 := Lib.hid (show Blk w3 W.heap.size 97 (nodeC x) by rw [← hw3]; exact blk_eight hk2 nilX_lit _ _ _ _ _ _ _ _)
    have HB3 := Lib.hid (show Below W.heap.size W w3 by rw [← hw3]; exact below_eight HB2.out (Nat.le_refl _) _ _ _ _ _ _ _ _)
    have HW3 := Lib.hid hw3
    obtain ⟨⟨a0, a1, a2, a3, a4, a5, a6, a7⟩, z0, z1, z2, z3, z4, z5, z6, z7⟩ := node_cells HK3.out
    clear hg hpost hk2 WX HK1 HB1 hw3
    unfold nodeC nodeV
    cases R with
    | bad m =>
      obtain ⟨rfl, rfl, rfl⟩ := HPO.out
      go_wp2
      rw [HW3.out]
      refine bodyPost_ret (results_row_tmp2 rfl _ _ W.heap.size 97 nilC (0, 0) _ rfl (blk_eight HK3.out rfl _ _ _ _ _ _ _ _) Tryz.underlying97 rfl (by kernel_rfl)) rfl ?_
      exact ⟨nilX, _, 2, rfl, HPB.out, GoodN.nil _ _, below_eight HB3.out (Nat.le_refl _) _ _ _ _ _ _ _ _⟩
    | ok n r =>
      obtain ⟨rfl, hxt, hat, hgd⟩ := HPO.out
      have HGD3 := Lib.hid (show GoodN w3 (fun g => w1.heap.size ≤ g) x by rw [← HW3.out]; exact good_eight2 hgd (fun q hq e => by omega) _ _ _ _ _ _ _ _)
      have SZ := Lib.hid (size_any x _ w3 HGD3.out)
      have HXT := Lib.hid hxt
      have HAT := Lib.hid hat
      have hpb := HPB.out
      dsimp only at hpb
      rw [← hxt, ← hat] at hpb
      obtain ⟨s, hs⟩ : ∃ s, sizeT x.t = s := ⟨_, rfl⟩
      rw [hs] at hpb SZ
      have HPB2 := Lib.hid hpb
      unfold nodeC nodeV at SZ
      have hsd := (show 0 ≤ s ∧ s ≤ 1000000 by rw [← hs]; exact sizeT_bd _)
      clear hxt hat hgd hpb hs HPB HPO
      go_wp2_with fail
      rw [HW3.out]
      refine SZ.out.mono ?_
      rintro e w4 ⟨rfl, hx⟩
      have hk4 := HK3.out.below hx HK3.out.lt
      have HK4 := Lib.hid hk4
      have HB4 := Lib.hid (hop HB3.out (Nat.le_refl _) hx)
      have HGD4 := Lib.hid (HGD3.out.later hx)
      clear a0 a1 a2 a3 a4 a5 a6 a7 z0 z1 z2 z3 z4 z5 z6 z7 d0 d1 d2 d3 d4 d5 d6 d7 f0 f1 f2 f3 f4 f5 f6 f7
      obtain ⟨⟨a0, a1, a2, a3, a4, a5, a6, a7⟩, z0, z1, z2, z3, z4, z5, z6, z7⟩ := node_cells hk4
      clear hx hk4 SZ HK3 HB3 HGD3 HK2 HB2
      by_cases h200 : 200 < s
      · have h200' : s > 200 := h200
        have hpb := HPB2.out
        rw [if_pos h200] at hpb
        have HPB3 := Lib.hid hpb
        clear hpb
        go_wp2
        refine bodyPost_ret (results_row_tmp2 rfl _ _ W.heap.size 97 nilC (0, 0) _ rfl (blk_eight HK4.out rfl _ _ _ _ _ _ _ _) Tryz.underlying97 rfl (by kernel_rfl)) rfl ?_
        exact ⟨nilX, _, 4, rfl, HPB3.out, GoodN.nil _ _, below_eight HB4.out (Nat.le_refl _) _ _ _ _ _ _ _ _⟩
      · have h200' : ¬ s > 200 := h200
        have hpb := HPB2.out
        rw [if_neg h200] at hpb
        have HPB3 := Lib.hid hpb
        clear hpb
        go_wp2
        refine bodyPost_ret (results_row_tmp2 rfl _ _ W.heap.size 97 (nodeC x) (0, 0) _ rfl (blk_eight HK4.out rfl _ _ _ _ _ _ _ _) Tryz.underlying97 rfl (by kernel_rfl)) rfl ?_
        exact ⟨x, _, 0, rfl, HPB3.out, (good_eight2 HGD4.out (fun q hq e => by omega) _ _ _ _ _ _ _ _).weaken (fun q hq _ => by omega), below_eight HB4.out (Nat.le_refl _) _ _ _ _ _ _ _ _⟩
end Go.Proofs.YtbkpoimaienhpaaGreatDoor
