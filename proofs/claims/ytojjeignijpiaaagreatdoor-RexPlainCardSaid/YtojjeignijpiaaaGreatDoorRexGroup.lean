/- One of the bytes that something reads: the walk of found.
   What stands in brackets: the walk of group. -/
import Derived.Test.YtojjeignijpiaaaGreatDoorRexPure2
namespace Go.Proofs.YtojjeignijpiaaaGreatDoor
open Go.RowKit
set_option linter.unusedVariables false
set_option linter.unusedSimpArgs false

theorem blk_eight {w : World} {g : Nat} {t : TypeId} {y : NodeX} {cs : Array Value} (h : Blk w g t cs) (hc : cs = nodeC y) (x0 x1 x2 x3 x4 x5 x6 x7 : Value) :
    Blk ((((((((w.setCell ⟨g, 0, none⟩ x0).setCell ⟨g, 1, none⟩ x1).setCell ⟨g, 2, none⟩ x2).setCell ⟨g, 3, none⟩ x3).setCell ⟨g, 4, none⟩ x4).setCell ⟨g, 5, none⟩ x5).setCell ⟨g, 6, none⟩ x6).setCell ⟨g, 7, none⟩ x7) g t #[x0, x1, x2, x3, x4, x5, x6, x7] := by
  subst hc
  exact set8 (y0 := .int .i64 y.kind) (y1 := .int .u64 (word y.set 0 : Nat)) (y2 := .int .u64 (word y.set 1 : Nat)) (y3 := .int .u64 (word y.set 2 : Nat)) (y4 := .int .u64 (word y.set 3 : Nat)) (y5 := .int .i64 y.mn) (y6 := .int .i64 y.mx) (y7 := .slice y.A y.n y.c) h x0 x1 x2 x3 x4 x5 x6 x7
theorem nilX_lit : (#[.int .i64 0, .int .u64 0, .int .u64 0, .int .u64 0, .int .u64 0, .int .i64 0, .int .i64 0, .slice none 0 0] : Array Value) = nodeC nilX := mkX_c 0 0 0 none 0 0 []
theorem oneX_lit (S : Nat) : (#[.int .i64 1, .int .u64 (word S 0 : Nat), .int .u64 (word S 1 : Nat), .int .u64 (word S 2 : Nat), .int .u64 (word S 3 : Nat), .int .i64 0, .int .i64 0, .slice none 0 0] : Array Value) = nodeC (oneX S) := rfl
theorem ps_eight {w : World} {b g : Nat} {t : ByteArray} {k o : Nat} {f : Bool} {e : Int} (h : Ps w b t k o f e) (hg : b ≠ g) (x0 x1 x2 x3 x4 x5 x6 x7 : Value) : Ps ((((((((w.setCell ⟨g, 0, none⟩ x0).setCell ⟨g, 1, none⟩ x1).setCell ⟨g, 2, none⟩ x2).setCell ⟨g, 3, none⟩ x3).setCell ⟨g, 4, none⟩ x4).setCell ⟨g, 5, none⟩ x5).setCell ⟨g, 6, none⟩ x6).setCell ⟨g, 7, none⟩ x7) b t k o f e :=
  (((((((h.far hg _).far hg _).far hg _).far hg _).far hg _).far hg _).far hg _).far hg _
theorem grown_eight {W w : World} {r : Option Nat} (h : W.grownBy w r) {g : Nat} (hg : W.heap.size ≤ g) (x0 x1 x2 x3 x4 x5 x6 x7 : Value) : W.grownBy ((((((((w.setCell ⟨g, 0, none⟩ x0).setCell ⟨g, 1, none⟩ x1).setCell ⟨g, 2, none⟩ x2).setCell ⟨g, 3, none⟩ x3).setCell ⟨g, 4, none⟩ x4).setCell ⟨g, 5, none⟩ x5).setCell ⟨g, 6, none⟩ x6).setCell ⟨g, 7, none⟩ x7) r :=
  grown_new (grown_new (grown_new (grown_new (grown_new (grown_new (grown_new (grown_new h hg _) hg _) hg _) hg _) hg _) hg _) hg _) hg _
theorem nil_cells {w : World} {g : Nat} (h : Blk w g 36 #[.int .i64 0, .int .u64 0, .int .u64 0, .int .u64 0, .int .u64 0, .int .i64 0, .int .i64 0, .slice none 0 0]) :
    (w.cell? ⟨g, 0, none⟩ = some (.int .i64 0) ∧ w.cell? ⟨g, 1, none⟩ = some (.int .u64 0) ∧ w.cell? ⟨g, 2, none⟩ = some (.int .u64 0) ∧ w.cell? ⟨g, 3, none⟩ = some (.int .u64 0) ∧ w.cell? ⟨g, 4, none⟩ = some (.int .u64 0) ∧ w.cell? ⟨g, 5, none⟩ = some (.int .i64 0) ∧ w.cell? ⟨g, 6, none⟩ = some (.int .i64 0) ∧ w.cell? ⟨g, 7, none⟩ = some (.slice none 0 0)) ∧
    (w.frozen? ⟨g, 0, none⟩ = false ∧ w.frozen? ⟨g, 1, none⟩ = false ∧ w.frozen? ⟨g, 2, none⟩ = false ∧ w.frozen? ⟨g, 3, none⟩ = false ∧ w.frozen? ⟨g, 4, none⟩ = false ∧ w.frozen? ⟨g, 5, none⟩ = false ∧ w.frozen? ⟨g, 6, none⟩ = false ∧ w.frozen? ⟨g, 7, none⟩ = false) :=
  ⟨⟨h.cell 0, h.cell 1, h.cell 2, h.cell 3, h.cell 4, h.cell 5, h.cell 6, h.cell 7⟩, h.frozen 0, h.frozen 1, h.frozen 2, h.frozen 3, h.frozen 4, h.frozen 5, h.frozen 6, h.frozen 7⟩
def FoundPost (R : Option (Nat × List UInt8)) (t : ByteArray) (at' : Int) (x : NodeX) (j : Nat) (f : Bool) (e : Int) : Prop :=
  match R with
  | none => f = true ∧ e = at' ∧ x = nilX
  | some (S, r) => f = false ∧ x = oneX S ∧ S < 2 ^ 256 ∧ atL t j = r
set_option maxRecDepth 100000 in
set_option maxHeartbeats 3200000 in
theorem found_esc (b : Nat) (at' : Int) (t : ByteArray) (k o : Nat) (e0 : Int) (W : World) (h : Ps W b t k o false e0) :
    Calls Tryz.prog 72 #[.pointer (some ⟨b, 0, none⟩), .int .i64 at', .func (.func 73) #[.pointer (some ⟨b, 0, none⟩)] #[]] W fun e w' => ∃ x j f e1, e = .returned (.agg (nodeC x)) ∧ Ps w' b t j o f e1 ∧ W.grownBy w' (some b) ∧ FoundPost (escP (atL t k)) t at' x j f e1 := by
  have hlt := h.lt
  have hbn : W.heap.size ≠ b := by omega
  have HK0 := Lib.hid (Blk.new W 36 #[.int .i64 0, .int .u64 0, .int .u64 0, .int .u64 0, .int .u64 0, .int .i64 0, .int .i64 0, .slice none 0 0])
  have RD := Lib.hid (escape_any b t k o false e0 _ (h.alloc (.cells #[.int .i64 0, .int .u64 0, .int .u64 0, .int .u64 0, .int .u64 0, .int .i64 0, .int .i64 0, .slice none 0 0] 36)))
  have hs0 : (W.alloc (.cells #[.int .i64 0, .int .u64 0, .int .u64 0, .int .u64 0, .int .u64 0, .int .i64 0, .int .i64 0, .slice none 0 0] 36)).heap.size = W.heap.size + 1 := by simp
  obtain ⟨I, hI⟩ : ∃ I, escP (atL t k) = I := ⟨_, rfl⟩
  rw [hI] at RD ⊢
  have HM0 := Lib.hid hI
  clear h hI
  go_enter Tryz.func72, Tryz.ntmps72
  go_wp2_with fail
  refine RD.out.mono ?_
  rintro e w1 ⟨S, ok, j, rfl, hp, hg, hpost⟩
  have HP1 := Lib.hid hp
  have HG1 := Lib.hid (World.grownBy.trans (World.grownBy_alloc W (.cells #[.int .i64 0, .int .u64 0, .int .u64 0, .int .u64 0, .int .u64 0, .int .i64 0, .int .i64 0, .slice none 0 0] 36) (some b)) hg)
  have HK1 := Lib.hid (HK0.out.kept hg hbn)
  have hs1 : W.heap.size < w1.heap.size := by have := hg.size; omega
  have hb1 := hp.lt
  have HPO := Lib.hid hpost
  clear hp hg hpost RD HK0
  cases I with
  | none =>
    obtain rfl : ok = false := HPO.out
    have FL := Lib.hid (fail_any b at' t j o false e0 _ (HP1.out.alloc (.cells (setC S) 24)))
    try unfold setV
    try unfold setC
    go_wp2_with fail
    refine FL.out.mono ?_
    rintro e w2 ⟨rfl, hp, hg⟩
    have HP2 := Lib.hid (show Ps w2 b t j o true at' from hp)
    have HG2 := Lib.hid (World.grownBy.trans (grown_alloc HG1.out (.cells (setC S) 24)) hg)
    have hk2 := (HK1.out.alloc (.cells (setC S) 24)).kept hg hbn
    have HK2 := Lib.hid hk2
    obtain ⟨⟨d0, d1, d2, d3, d4, d5, d6, d7⟩, f0, f1, f2, f3, f4, f5, f6, f7⟩ := nil_cells hk2
    clear hp hg hk2 FL HP1 HG1 HK1
    try unfold nilC
    go_wp2
    refine bodyPost_ret (results_cell_row rfl _ _ W.heap.size 36 nilC (0, 0) _ rfl (blk_eight HK2.out nilX_lit _ _ _ _ _ _ _ _) Tryz.underlying36 rfl (by kernel_rfl)) rfl ?_
    exact ⟨nilX, j, true, at', rfl, ps_eight HP2.out (Ne.symm hbn) _ _ _ _ _ _ _ _, grown_eight HG2.out (Nat.le_refl _) _ _ _ _ _ _ _ _, rfl, rfl, rfl⟩
  | some y =>
    obtain ⟨T, r⟩ := y
    have HM := Lib.hid HM0.out
    obtain ⟨rfl, rfl, hr⟩ := HPO.out
    have HR := Lib.hid hr
    have OO := Lib.hid (show ∀ w, Calls Tryz.prog 71 #[.agg #[.int .u64 (word S 0 : Nat), .int .u64 (word S 1 : Nat), .int .u64 (word S 2 : Nat), .int .u64 (word S 3 : Nat)]] w (fun e w' => e = .returned (.agg #[.int .i64 1, .int .u64 (word S 0 : Nat), .int .u64 (word S 1 : Nat), .int .u64 (word S 2 : Nat), .int .u64 (word S 3 : Nat), .int .i64 0, .int .i64 0, .slice none 0 0]) ∧ Below w.heap.size w w') from fun w => oneOf_any S w)
    have HP2 := Lib.hid (HP1.out.alloc (.cells (setC S) 24))
    have HG2 := Lib.hid (grown_alloc HG1.out (.cells (setC S) 24))
    have HK2 := Lib.hid (HK1.out.alloc (.cells (setC S) 24))
    clear hr HPO HP1 HG1 HK1
    try unfold setV
    try unfold setC
    go_wp2_with fail
    refine (OO.out _).mono ?_
    rintro e w2 ⟨rfl, hx⟩
    have HP3 := Lib.hid (HP2.out.belowS hx)
    have HG3 := Lib.hid (grown_hop HG2.out hx)
    have hk3 := HK2.out.below hx HK2.out.lt
    have HK3 := Lib.hid hk3
    obtain ⟨⟨d0, d1, d2, d3, d4, d5, d6, d7⟩, f0, f1, f2, f3, f4, f5, f6, f7⟩ := nil_cells hk3
    clear hx hk3 OO HP2 HG2 HK2
    go_wp2
    refine bodyPost_ret (results_cell_row rfl _ _ W.heap.size 36 #[.int .i64 1, .int .u64 (word S 0 : Nat), .int .u64 (word S 1 : Nat), .int .u64 (word S 2 : Nat), .int .u64 (word S 3 : Nat), .int .i64 0, .int .i64 0, .slice none 0 0] (0, 0) _ rfl (blk_eight HK3.out nilX_lit _ _ _ _ _ _ _ _) Tryz.underlying36 rfl (by kernel_rfl)) rfl ?_
    exact ⟨oneX S, j, false, e0, rfl, ps_eight HP3.out (Ne.symm hbn) _ _ _ _ _ _ _ _, grown_eight HG3.out (Nat.le_refl _) _ _ _ _ _ _ _ _, rfl, rfl, (escP_some HM.out).1, HR.out⟩
theorem itemsP_lt : ∀ (n all : Nat) (l r : List UInt8) (S : Nat), all < 2 ^ 256 → itemsP n all l = some (S, r) → S < 2 ^ 256
  | 0, _, _, _, _, _, h => by cases h
  | n + 1, all, l, r, S, ha, h => by
    by_cases h93 : ∃ q, l = 93 :: q
    · obtain ⟨q, rfl⟩ := h93
      rw [itemsP_end] at h
      cases h
      exact ha
    · rw [itemsP_next (fun q e => h93 ⟨q, e⟩)] at h
      cases hm : itemP l with
      | none => rw [hm] at h; cases h
      | some x =>
        obtain ⟨s, q⟩ := x
        rw [hm] at h
        exact itemsP_lt n _ _ _ _ (Nat.or_lt_two_pow ha (itemP_some hm).1) h
theorem classB_lt {neg : Bool} {l r : List UInt8} {S : Nat} (h : classB neg l = some (S, r)) : S < 2 ^ 256 := by
  rw [classB_is] at h
  unfold itemsX at h
  cases hm : itemP l with
  | none => rw [hm] at h; cases h
  | some x =>
    obtain ⟨s, q⟩ := x
    rw [hm] at h
    simp only at h
    cases hi : itemsP (q.length + 1) s q with
    | none => rw [hi] at h; cases h
    | some y =>
      obtain ⟨all, r2⟩ := y
      have h2 := itemsP_lt _ _ _ _ _ (itemP_some hm).1 hi
      rw [hi] at h
      have h' : (if (if neg then notB all else all) = 0 then none else some (if neg then notB all else all, r2)) = some (S, r) := h
      obtain ⟨T, hT⟩ : ∃ T, (if neg then notB all else all) = T := ⟨_, rfl⟩
      have hTl : T < 2 ^ 256 := by
        rw [← hT]
        cases neg
        · exact h2
        · exact notB_lt h2
      rw [hT] at h'
      by_cases hz : T = 0
      · rw [if_pos hz] at h'
        cases h'
      · rw [if_neg hz] at h'
        cases h'
        exact hTl
theorem classP_lt {l r : List UInt8} {S : Nat} (h : classP l = some (S, r)) : S < 2 ^ 256 := by
  by_cases h94 : ∃ q, l = 94 :: q
  · obtain ⟨q, rfl⟩ := h94
    rw [classP_hat] at h
    exact classB_lt h
  · rw [classP_not (fun q e => h94 ⟨q, e⟩)] at h
    exact classB_lt h
set_option maxRecDepth 100000 in
set_option maxHeartbeats 3200000 in
theorem found_cls (b : Nat) (at' : Int) (t : ByteArray) (k o : Nat) (e0 : Int) (W : World) (h : Ps W b t k o false e0) :
    Calls Tryz.prog 72 #[.pointer (some ⟨b, 0, none⟩), .int .i64 at', .func (.func 74) #[.pointer (some ⟨b, 0, none⟩)] #[]] W fun e w' => ∃ x j f e1, e = .returned (.agg (nodeC x)) ∧ Ps w' b t j o f e1 ∧ W.grownBy w' (some b) ∧ FoundPost (classP (atL t k)) t at' x j f e1 := by
  have hlt := h.lt
  have hbn : W.heap.size ≠ b := by omega
  have HK0 := Lib.hid (Blk.new W 36 #[.int .i64 0, .int .u64 0, .int .u64 0, .int .u64 0, .int .u64 0, .int .i64 0, .int .i64 0, .slice none 0 0])
  have RD := Lib.hid (class_any b t k o false e0 _ (h.alloc (.cells #[.int .i64 0, .int .u64 0, .int .u64 0, .int .u64 0, .int .u64 0, .int .i64 0, .int .i64 0, .slice none 0 0] 36)))
  have hs0 : (W.alloc (.cells #[.int .i64 0, .int .u64 0, .int .u64 0, .int .u64 0, .int .u64 0, .int .i64 0, .int .i64 0, .slice none 0 0] 36)).heap.size = W.heap.size + 1 := by simp
  obtain ⟨I, hI⟩ : ∃ I, classP (atL t k) = I := ⟨_, rfl⟩
  rw [hI] at RD ⊢
  have HM0 := Lib.hid hI
  clear h hI
  go_enter Tryz.func72, Tryz.ntmps72
  go_wp2_with fail
  refine RD.out.mono ?_
  rintro e w1 ⟨S, ok, j, rfl, hp, hg, hpost⟩
  have HP1 := Lib.hid hp
  have HG1 := Lib.hid (World.grownBy.trans (World.grownBy_alloc W (.cells #[.int .i64 0, .int .u64 0, .int .u64 0, .int .u64 0, .int .u64 0, .int .i64 0, .int .i64 0, .slice none 0 0] 36) (some b)) hg)
  have HK1 := Lib.hid (HK0.out.kept hg hbn)
  have hs1 : W.heap.size < w1.heap.size := by have := hg.size; omega
  have hb1 := hp.lt
  have HPO := Lib.hid hpost
  clear hp hg hpost RD HK0
  cases I with
  | none =>
    obtain rfl : ok = false := HPO.out
    have FL := Lib.hid (fail_any b at' t j o false e0 _ (HP1.out.alloc (.cells (setC S) 24)))
    try unfold setV
    try unfold setC
    go_wp2_with fail
    refine FL.out.mono ?_
    rintro e w2 ⟨rfl, hp, hg⟩
    have HP2 := Lib.hid (show Ps w2 b t j o true at' from hp)
    have HG2 := Lib.hid (World.grownBy.trans (grown_alloc HG1.out (.cells (setC S) 24)) hg)
    have hk2 := (HK1.out.alloc (.cells (setC S) 24)).kept hg hbn
    have HK2 := Lib.hid hk2
    obtain ⟨⟨d0, d1, d2, d3, d4, d5, d6, d7⟩, f0, f1, f2, f3, f4, f5, f6, f7⟩ := nil_cells hk2
    clear hp hg hk2 FL HP1 HG1 HK1
    try unfold nilC
    go_wp2
    refine bodyPost_ret (results_cell_row rfl _ _ W.heap.size 36 nilC (0, 0) _ rfl (blk_eight HK2.out nilX_lit _ _ _ _ _ _ _ _) Tryz.underlying36 rfl (by kernel_rfl)) rfl ?_
    exact ⟨nilX, j, true, at', rfl, ps_eight HP2.out (Ne.symm hbn) _ _ _ _ _ _ _ _, grown_eight HG2.out (Nat.le_refl _) _ _ _ _ _ _ _ _, rfl, rfl, rfl⟩
  | some y =>
    obtain ⟨T, r⟩ := y
    have HM := Lib.hid HM0.out
    obtain ⟨rfl, rfl, hr⟩ := HPO.out
    have HR := Lib.hid hr
    have OO := Lib.hid (show ∀ w, Calls Tryz.prog 71 #[.agg #[.int .u64 (word S 0 : Nat), .int .u64 (word S 1 : Nat), .int .u64 (word S 2 : Nat), .int .u64 (word S 3 : Nat)]] w (fun e w' => e = .returned (.agg #[.int .i64 1, .int .u64 (word S 0 : Nat), .int .u64 (word S 1 : Nat), .int .u64 (word S 2 : Nat), .int .u64 (word S 3 : Nat), .int .i64 0, .int .i64 0, .slice none 0 0]) ∧ Below w.heap.size w w') from fun w => oneOf_any S w)
    have HP2 := Lib.hid (HP1.out.alloc (.cells (setC S) 24))
    have HG2 := Lib.hid (grown_alloc HG1.out (.cells (setC S) 24))
    have HK2 := Lib.hid (HK1.out.alloc (.cells (setC S) 24))
    clear hr HPO HP1 HG1 HK1
    try unfold setV
    try unfold setC
    go_wp2_with fail
    refine (OO.out _).mono ?_
    rintro e w2 ⟨rfl, hx⟩
    have HP3 := Lib.hid (HP2.out.belowS hx)
    have HG3 := Lib.hid (grown_hop HG2.out hx)
    have hk3 := HK2.out.below hx HK2.out.lt
    have HK3 := Lib.hid hk3
    obtain ⟨⟨d0, d1, d2, d3, d4, d5, d6, d7⟩, f0, f1, f2, f3, f4, f5, f6, f7⟩ := nil_cells hk3
    clear hx hk3 OO HP2 HG2 HK2
    go_wp2
    refine bodyPost_ret (results_cell_row rfl _ _ W.heap.size 36 #[.int .i64 1, .int .u64 (word S 0 : Nat), .int .u64 (word S 1 : Nat), .int .u64 (word S 2 : Nat), .int .u64 (word S 3 : Nat), .int .i64 0, .int .i64 0, .slice none 0 0] (0, 0) _ rfl (blk_eight HK3.out nilX_lit _ _ _ _ _ _ _ _) Tryz.underlying36 rfl (by kernel_rfl)) rfl ?_
    exact ⟨oneX S, j, false, e0, rfl, ps_eight HP3.out (Ne.symm hbn) _ _ _ _ _ _ _ _, grown_eight HG3.out (Nat.le_refl _) _ _ _ _ _ _ _ _, rfl, rfl, (classP_lt HM.out), HR.out⟩
end Go.Proofs.YtojjeignijpiaaaGreatDoor
namespace Go.Proofs.YtojjeignijpiaaaGreatDoor
open Go.RowKit
set_option linter.unusedVariables false
set_option linter.unusedSimpArgs false

def NodeRes (w : World) (B : Nat) (t : ByteArray) (k j : Nat) (R : Res NodeT) (x : NodeX) (f : Bool) (e : Int) : Prop :=
  (GoodN w (fun g => B ≤ g) x ∧ WfT x.t) ∧ (match R with
    | .ok n r => f = false ∧ x.t = n ∧ atL t j = r
    | .bad m => f = true ∧ e = (t.size : Int) - (m : Int) ∧ x.t.kids.length + k ≤ t.size)
def ExprC (fuel : Nat) : Prop := ∀ (b : Nat) (t : ByteArray) (k o : Nat) (e0 : Int) (W : World), Ps W b t k o false e0 → LibF W b → o ≤ k → (atL t k).length < fuel →
  Calls Tryz.prog 34 #[.pointer (some ⟨b, 0, none⟩)] W fun e w' => ∃ x j f e1, e = .returned (.agg (nodeC x)) ∧ Ps w' b t j o f e1 ∧ W.grownBy w' (some b) ∧ NodeRes w' W.heap.size t k j (exprP fuel (decide (0 < o)) (atL t k)) x f e1
def groupP (E : List UInt8 → Res NodeT) (l : List UInt8) : Res NodeT :=
  match E l with
  | .bad k => .bad k
  | .ok n (41 :: r2) => .ok n r2
  | .ok _ r2 => .bad r2.length
theorem groupP_bad {E : List UInt8 → Res NodeT} {l : List UInt8} {k : Nat} (h : E l = .bad k) : groupP E l = .bad k := by unfold groupP; rw [h]
theorem groupP_ok {E : List UInt8 → Res NodeT} {l r : List UInt8} {n : NodeT} (h : E l = .ok n (41 :: r)) : groupP E l = .ok n r := by unfold groupP; rw [h]; rfl
theorem groupP_no {E : List UInt8 → Res NodeT} {l r : List UInt8} {n : NodeT} (h : E l = .ok n r) (hr : ∀ q, r ≠ 41 :: q) : groupP E l = .bad r.length := by
  unfold groupP
  rw [h]
  cases r with
  | nil => rfl
  | cons c q =>
    have hc : c ≠ 41 := fun e => hr q (by rw [e])
    simp [hc]
theorem Ps.toOpen {w : World} {b : Nat} {t : ByteArray} {k o : Nat} {f : Bool} {e : Int} (h : Ps w b t k o f e) (o2 : Nat) : Ps (w.setCell ⟨b, 2, none⟩ (.int .i64 (o2 : Int))) b t k o2 f e := ⟨(h.blk.set_ 2 (.int .i64 (o2 : Int)) : Blk _ b 70 (psC t k o2 f e)), h.le, h.sz⟩
theorem good_eight2 {w : World} {P : Nat → Prop} {y : NodeX} {g : Nat} (h : GoodN w P y) (hg : ∀ q, P q → q ≠ g) (x0 x1 x2 x3 x4 x5 x6 x7 : Value) : GoodN ((((((((w.setCell ⟨g, 0, none⟩ x0).setCell ⟨g, 1, none⟩ x1).setCell ⟨g, 2, none⟩ x2).setCell ⟨g, 3, none⟩ x3).setCell ⟨g, 4, none⟩ x4).setCell ⟨g, 5, none⟩ x5).setCell ⟨g, 6, none⟩ x6).setCell ⟨g, 7, none⟩ x7) P y :=
  h.frame (by simp) (fun q hq _ => far_eight (hg q hq) _ _ _ _ _ _ _ _)
theorem Blk.set_far {w : World} {g b : Nat} {t : TypeId} {cs : Array Value} (h : Blk w g t cs) (hg : g ≠ b) (i : Nat) (v : Value) : Blk (w.setCell ⟨b, i, none⟩ v) g t cs := h.far hg v
set_option maxRecDepth 100000 in
set_option maxHeartbeats 3200000 in
theorem group_any (fuel : Nat) (HE : ExprC fuel) (b : Nat) (t : ByteArray) (k o : Nat) (e0 : Int) (W : World) (h : Ps W b t k o false e0) (hl : LibF W b) (ho : o + 1 ≤ k) (hf : (atL t k).length < fuel) :
    Calls Tryz.prog 70 #[.pointer (some ⟨b, 0, none⟩)] W fun e w' => ∃ x j f e1, e = .returned (.agg (nodeC x)) ∧ Ps w' b t j o f e1 ∧ W.grownBy w' (some b) ∧ NodeRes w' W.heap.size t k j (groupP (exprP fuel true) (atL t k)) x f e1 := by
  have hlt := h.lt
  have hbn : W.heap.size ≠ b := by omega
  have hkt := h.le
  have htz := h.sz
  have HK0 := Lib.hid (Blk.new W 36 #[.int .i64 0, .int .u64 0, .int .u64 0, .int .u64 0, .int .u64 0, .int .i64 0, .int .i64 0, .slice none 0 0])
  have c2 := h.opened
  have f2 := h.blk.frozen 2
  have hw1 : IntKind.i64.wrap ((o : Int) + 1) = ((o + 1 : Nat) : Int) := by rw [IntKind.wrap_i64]; omega
  have hP0 := (h.toOpen (o + 1)).alloc (.cells #[.int .i64 0, .int .u64 0, .int .u64 0, .int .u64 0, .int .u64 0, .int .i64 0, .int .i64 0, .slice none 0 0] 36)
  have hG0 := grown_alloc (grown_set (grown_self W (some b)) 2 (.int .i64 ((o + 1 : Nat) : Int))) (.cells #[.int .i64 0, .int .u64 0, .int .u64 0, .int .u64 0, .int .u64 0, .int .i64 0, .int .i64 0, .slice none 0 0] 36)
  have EX := HE b t k (o + 1) e0 _ hP0 (hl.next hG0) ho hf
  rw [show decide (0 < o + 1) = true from decide_eq_true (Nat.succ_pos o)] at EX
  have hsz0 : ((W.setCell ⟨b, 2, none⟩ (.int .i64 ((o + 1 : Nat) : Int))).alloc (.cells #[.int .i64 0, .int .u64 0, .int .u64 0, .int .u64 0, .int .u64 0, .int .i64 0, .int .i64 0, .slice none 0 0] 36)).heap.size = W.heap.size + 1 := by simp
  rw [hsz0] at EX
  have HG0 := Lib.hid hG0
  have HS0 := Lib.hid hsz0
  have HK00 := Lib.hid (show Blk ((W.setCell ⟨b, 2, none⟩ (.int .i64 ((o + 1 : Nat) : Int))).alloc (.cells #[.int .i64 0, .int .u64 0, .int .u64 0, .int .u64 0, .int .u64 0, .int .i64 0, .int .i64 0, .slice none 0 0] 36)) W.heap.size 36 #[.int .i64 0, .int .u64 0, .int .u64 0, .int .u64 0, .int .u64 0, .int .i64 0, .int .i64 0, .slice none 0 0] from new_at _ _ _ _ (by simp))
  obtain ⟨I, hI⟩ : ∃ I, exprP fuel true (atL t k) = I := ⟨_, rfl⟩
  rw [hI] at EX
  obtain ⟨J, hJ⟩ : ∃ J, groupP (exprP fuel true) (atL t k) = J := ⟨_, rfl⟩
  rw [hJ]
  have HI := Lib.hid hI
  have HJ := Lib.hid hJ
  replace EX := Lib.hid EX
  clear h hI hJ hP0 hG0 hsz0 HK0 hf HE
  go_enter Tryz.func70, Tryz.ntmps70
  go_wp2_with fail
  refine EX.out.mono ?_
  rintro e w1 ⟨x, j, f, e1, rfl, hp, hg, ⟨⟨hgood, hwf⟩, hres⟩⟩
  have hb1 := hp.lt
  have hs1 : W.heap.size < w1.heap.size := by have := hg.size; have := HS0.out; omega
  have hjt := hp.le
  have c2' := hp.opened
  have f2' := hp.blk.frozen 2
  have hw2 : IntKind.i64.wrap (((o + 1 : Nat) : Int) - 1) = (o : Int) := by rw [IntKind.wrap_i64]; omega
  have hw3 : IntKind.i64.wrap ((o : Int) + 1 - 1) = (o : Int) := by rw [IntKind.wrap_i64]; omega
  have c2'' : w1.cell? ⟨b, 2, none⟩ = some (.int .i64 ((o : Int) + 1)) := by rw [c2']; rfl
  have HP2 := Lib.hid ((hp.toOpen o).alloc (.cells (nodeC x) 36))
  have HG2 := Lib.hid (grown_alloc (grown_set (World.grownBy.trans HG0.out hg) 2 (.int .i64 (o : Int))) (.cells (nodeC x) 36))
  have HK2 := Lib.hid (((HK00.out.kept hg hbn).set_far hbn 2 (.int .i64 (o : Int))).alloc (.cells (nodeC x) 36))
  have HX2 := Lib.hid (show Blk ((w1.setCell ⟨b, 2, none⟩ (.int .i64 (o : Int))).alloc (.cells (nodeC x) 36)) w1.heap.size 36 (nodeC x) from new_at _ _ _ _ (by simp))
  have HGD2 := Lib.hid ((hgood.grown (grown_set (grown_self w1 (some b)) 2 (.int .i64 (o : Int))) (fun q hq e => by injection e with e; omega)).alloc (.cells (nodeC x) 36))
  have HSZ := Lib.hid (show w1.heap.size + 1 = ((w1.setCell ⟨b, 2, none⟩ (.int .i64 (o : Int))).alloc (.cells (nodeC x) 36)).heap.size by simp)
  have HWF := Lib.hid hwf
  have HRES := Lib.hid hres
  have hxb : w1.heap.size ≠ b := by omega
  clear hp hg hgood hwf hres EX HG0 HK00 HS0 c2 f2
  cases I with
  | bad m =>
    obtain ⟨rfl, he1, hkb⟩ := HRES.out
    have HJ2 := Lib.hid (HJ.out.symm.trans (groupP_bad HI.out))
    clear HRES
    by_cases h41 : ∃ q, atL t j = 41 :: q
    · obtain ⟨q, h41⟩ := h41
      have TK := Lib.hid (take_yes2 b ⟨#[41]⟩ (by decide) q t j o true e1 h41 _ HP2.out (w1.heap.size + 1) HSZ.out)
      clear h41
      unfold nodeC nodeV
      go_wp2_with fail
      refine TK.out.mono ?_
      rintro e w3 ⟨⟨xx, rfl⟩, ⟨hp, hr⟩, hg⟩
      have ZP := Lib.hid hp
      have ZG := Lib.hid (World.grownBy.trans HG2.out hg)
      have ZK := Lib.hid (HK2.out.kept hg hbn)
      have ZX := Lib.hid (HX2.out.kept hg hxb)
      have hgt := World.grownBy.trans (grown_self _ (some b)) hg
      have ZGD := Lib.hid (HGD2.out.grown hg (fun q hq e => by injection e with e; omega))
      have HR3 := Lib.hid hr
      clear hp hg hgt hr TK HP2 HG2 HK2 HX2 HGD2
      have hk3 := ZK.out
      obtain ⟨⟨d0, d1, d2, d3, d4, d5, d6, d7⟩, f0, f1, f2, f3, f4, f5, f6, f7⟩ := nil_cells hk3
      obtain ⟨⟨a0, a1, a2, a3, a4, a5, a6, a7⟩, _⟩ := node_cells ZX.out
      clear hk3
      go_wp2
      refine bodyPost_ret (results_cell_row rfl _ _ W.heap.size 36 (nodeC x) (0, 0) _ rfl (blk_eight ZK.out nilX_lit _ _ _ _ _ _ _ _) Tryz.underlying36 rfl (by kernel_rfl)) rfl ?_
      refine ⟨x, _, true, e1, rfl, ps_eight ZP.out (Ne.symm hbn) _ _ _ _ _ _ _ _, grown_eight ZG.out (Nat.le_refl _) _ _ _ _ _ _ _ _, ⟨(good_eight2 ZGD.out (fun q hq e => by omega) _ _ _ _ _ _ _ _).weaken (fun q hq _ => Nat.le_of_succ_le hq), HWF.out⟩, ?_⟩
      rw [HJ2.out]
      exact ⟨rfl, he1, hkb⟩
    · have h41' : ∀ q, atL t j ≠ 41 :: q := fun q e => h41 ⟨q, e⟩
      have TK := Lib.hid (take_no2 b ⟨#[41]⟩ (by decide) t j o true e1 (head_no 41 _ h41') _ HP2.out (w1.heap.size + 1) HSZ.out)
      clear h41 h41'
      unfold nodeC nodeV
      go_wp2_with fail
      refine TK.out.mono ?_
      rintro e w3 ⟨⟨xx, rfl⟩, hp, hg⟩
      have ZP := Lib.hid hp
      have ZG := Lib.hid (World.grownBy.trans HG2.out hg)
      have ZK := Lib.hid (HK2.out.kept hg hbn)
      have ZX := Lib.hid (HX2.out.kept hg hxb)
      have hgt := World.grownBy.trans (grown_self _ (some b)) hg
      have ZGD := Lib.hid (HGD2.out.grown hg (fun q hq e => by injection e with e; omega))
      skip
      clear hp hg hgt  TK HP2 HG2 HK2 HX2 HGD2
      have q3 := ZP.out.fault
      have hk3 := ZK.out
      obtain ⟨⟨d0, d1, d2, d3, d4, d5, d6, d7⟩, f0, f1, f2, f3, f4, f5, f6, f7⟩ := nil_cells hk3
      obtain ⟨⟨a0, a1, a2, a3, a4, a5, a6, a7⟩, _⟩ := node_cells ZX.out
      clear hk3
      go_wp2
      refine bodyPost_ret (results_cell_row rfl _ _ W.heap.size 36 (nodeC x) (0, 0) _ rfl (blk_eight ZK.out nilX_lit _ _ _ _ _ _ _ _) Tryz.underlying36 rfl (by kernel_rfl)) rfl ?_
      refine ⟨x, _, true, e1, rfl, ps_eight ZP.out (Ne.symm hbn) _ _ _ _ _ _ _ _, grown_eight ZG.out (Nat.le_refl _) _ _ _ _ _ _ _ _, ⟨(good_eight2 ZGD.out (fun q hq e => by omega) _ _ _ _ _ _ _ _).weaken (fun q hq _ => Nat.le_of_succ_le hq), HWF.out⟩, ?_⟩
      rw [HJ2.out]
      exact ⟨rfl, he1, hkb⟩
  | ok n r =>
    obtain ⟨rfl, hxt, hr⟩ := HRES.out
    clear HRES
    by_cases h41 : ∃ q, r = 41 :: q
    · obtain ⟨q, rfl⟩ := h41
      have HJ2 := Lib.hid (HJ.out.symm.trans (groupP_ok HI.out))
      have HXT := Lib.hid hxt
      have TK := Lib.hid (take_yes2 b ⟨#[41]⟩ (by decide) q t j o false e1 hr _ HP2.out (w1.heap.size + 1) HSZ.out)
      clear hr hxt
      unfold nodeC nodeV
      go_wp2_with fail
      refine TK.out.mono ?_
      rintro e w3 ⟨⟨xx, rfl⟩, ⟨hp, hr⟩, hg⟩
      have ZP := Lib.hid hp
      have ZG := Lib.hid (World.grownBy.trans HG2.out hg)
      have ZK := Lib.hid (HK2.out.kept hg hbn)
      have ZX := Lib.hid (HX2.out.kept hg hxb)
      have hgt := World.grownBy.trans (grown_self _ (some b)) hg
      have ZGD := Lib.hid (HGD2.out.grown hg (fun q hq e => by injection e with e; omega))
      have HR3 := Lib.hid hr
      clear hp hg hgt hr TK HP2 HG2 HK2 HX2 HGD2
      have hk3 := ZK.out
      obtain ⟨⟨d0, d1, d2, d3, d4, d5, d6, d7⟩, f0, f1, f2, f3, f4, f5, f6, f7⟩ := nil_cells hk3
      obtain ⟨⟨a0, a1, a2, a3, a4, a5, a6, a7⟩, _⟩ := node_cells ZX.out
      clear hk3
      go_wp2
      refine bodyPost_ret (results_cell_row rfl _ _ W.heap.size 36 (nodeC x) (0, 0) _ rfl (blk_eight ZK.out nilX_lit _ _ _ _ _ _ _ _) Tryz.underlying36 rfl (by kernel_rfl)) rfl ?_
      refine ⟨x, _, false, e1, rfl, ps_eight ZP.out (Ne.symm hbn) _ _ _ _ _ _ _ _, grown_eight ZG.out (Nat.le_refl _) _ _ _ _ _ _ _ _, ⟨(good_eight2 ZGD.out (fun q hq e => by omega) _ _ _ _ _ _ _ _).weaken (fun q hq _ => Nat.le_of_succ_le hq), HWF.out⟩, ?_⟩
      rw [HJ2.out]
      exact ⟨rfl, HXT.out, HR3.out⟩
    · have h41' : ∀ q, r ≠ 41 :: q := fun q e => h41 ⟨q, e⟩
      have HJ2 := Lib.hid (HJ.out.symm.trans (groupP_no HI.out h41'))
      have TK := Lib.hid (take_no2 b ⟨#[41]⟩ (by decide) t j o false e1 (by rw [hr]; exact head_no 41 _ h41') _ HP2.out (w1.heap.size + 1) HSZ.out)
      have hrl : (r.length : Int) = (t.size : Int) - (j : Int) := by rw [← hr, at_len]; omega
      have HRL := Lib.hid hrl
      clear h41 h41' hr hxt hrl
      unfold nodeC nodeV
      go_wp2_with fail
      refine TK.out.mono ?_
      rintro e w3 ⟨⟨xx, rfl⟩, hp, hg⟩
      have ZP := Lib.hid hp
      have ZG := Lib.hid (World.grownBy.trans HG2.out hg)
      have ZK := Lib.hid (HK2.out.kept hg hbn)
      have ZX := Lib.hid (HX2.out.kept hg hxb)
      have hgt := World.grownBy.trans (grown_self _ (some b)) hg
      have ZGD := Lib.hid (HGD2.out.grown hg (fun q hq e => by injection e with e; omega))
      skip
      clear hp hg hgt  TK HP2 HG2 HK2 HX2 HGD2
      have q3 := ZP.out.fault
      have AT := Lib.hid (place_any b t j o false e1 w3 ZP.out)
      have FL := Lib.hid (fail_any b (j : Int) t j o false e1 w3 ZP.out)
      go_wp2_with fail
      refine AT.out.mono ?_
      rintro e w4 ⟨rfl, rfl⟩
      go_wp2_with fail
      refine FL.out.mono ?_
      rintro e w5 ⟨rfl, hp, hg⟩
      have UP := Lib.hid (show Ps w5 b t j o true (j : Int) from hp)
      have UG := Lib.hid (World.grownBy.trans ZG.out hg)
      have hk3 := ZK.out.kept hg hbn
      have UK := Lib.hid hk3
      obtain ⟨⟨d0, d1, d2, d3, d4, d5, d6, d7⟩, f0, f1, f2, f3, f4, f5, f6, f7⟩ := nil_cells hk3
      clear hp hg hk3 FL AT q3 ZP ZG ZK
      try unfold nilC
      go_wp2
      refine bodyPost_ret (results_cell_row rfl _ _ W.heap.size 36 nilC (0, 0) _ rfl (blk_eight UK.out nilX_lit _ _ _ _ _ _ _ _) Tryz.underlying36 rfl (by kernel_rfl)) rfl ?_
      refine ⟨nilX, j, true, (j : Int), rfl, ps_eight UP.out (Ne.symm hbn) _ _ _ _ _ _ _ _, grown_eight UG.out (Nat.le_refl _) _ _ _ _ _ _ _ _, ⟨GoodN.nil _ _, wf_nil⟩, ?_⟩
      rw [HJ2.out]
      exact ⟨rfl, by rw [HRL.out]; omega, by show 0 + k ≤ t.size; omega⟩
end Go.Proofs.YtojjeignijpiaaaGreatDoor
