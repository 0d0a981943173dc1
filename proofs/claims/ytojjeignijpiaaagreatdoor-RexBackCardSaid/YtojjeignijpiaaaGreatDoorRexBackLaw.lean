/- RexBack: the walk of the law. -/
import Derived.Test.YtojjeignijpiaaaGreatDoorRexRexes
namespace Go.Proofs.YtojjeignijpiaaaGreatDoor
open Go.RowKit
set_option linter.unusedVariables false
set_option linter.unusedSimpArgs false

set_option maxRecDepth 100000 in
set_option maxHeartbeats 12800000 in
theorem rexBack_walk {W : World} (s : ByteArray) (own : Bool) (A : Option Addr) (len cp : Nat) (zs : List Int) (hs : s.size ≤ maxLen) (h1 : Ints .u8 W A len zs) (hnc : len ≤ cp) (hcm : cp ≤ maxLen) (hl : LibIs W) :
    Calls Tryz.prog 4 #[.string s, .bool own, .slice A len cp] W fun e w' => e = .returned (.bool true) ∧ Below W.heap.size W w' := by
  have R1 := Lib.hid (fun w (hb : Below W.heap.size W w) => rexes_any A len cp zs (h1.below hb) hnc hcm)
  have PR := Lib.hid (fun t w h => parse_rex t w h)
  have HEX := Lib.hid (fun w h => rexExamples_any w h)
  have HL := Lib.hid hl
  clear h1 hnc hcm hl
  cases own with
  | true =>
    go_enter Tryz.func4, Tryz.ntmps4
    go_wp2_with fail
    refine (HEX.out W HL.out).mono ?_
    rintro _ w0 ⟨rfl, hb0⟩
    have HB0 := Lib.hid hb0
    clear hb0 HEX
    go_wp2_with fail
    refine (R1.out w0 HB0.out).mono ?_
    rintro _ w1 ⟨⟨T, rfl, hT⟩, hb1⟩
    have HB1 := Lib.hid (hop HB0.out (Nat.le_refl _) hb1)
    clear hb1 HB0 R1
    go_wp2_with fail
    refine (PR.out T w1 (HL.out.below HB1.out)).mono ?_
    rintro _ w4 ⟨x4, y4, r4, rfl, hp4, hg4, hb4⟩
    have hB4 := (hop HB1.out (Nat.le_refl _) hb4)
    have HB4 := Lib.hid (hB4.alloc hB4.size (.cells (nodeC x4) 36))
    have hg := hg4.alloc (.cells (nodeC x4) 36)
    have hk := Blk.new w4 36 (nodeC x4)
    have hrow := hg4.row
    have hn0 : x4.t = .nil → x4.n = 0 := fun h => by
      have h1 := congrArg NodeT.kids h
      rw [NodeX.t_kids] at h1
      have h2 : x4.kids = [] := List.map_eq_nil_iff.1 h1
      have h3 := hrow.1
      rw [h2] at h3
      exact h3.symm
    have HN0 := Lib.hid hn0
    have HPL := Lib.hid (parse_putlen hp4)
    have HNF := Lib.hid (parseB_nf hp4)
    have HP4 := Lib.hid hp4
    have hw14 := HB1.out.size
    have hgw := hg.weaken (Q := fun g => W.heap.size ≤ g) (fun g hg _ => by omega)
    obtain ⟨⟨c0, c1, c2, c3, c4, c5, c6, c7⟩, _⟩ := node_cells hk
    obtain ⟨g4, hgz⟩ : ∃ g, w4.heap.size = g := ⟨_, rfl⟩
    obtain ⟨v4, hv4⟩ : ∃ v, w4.alloc (.cells (nodeC x4) 36) = v := ⟨_, rfl⟩
    rw [hgz] at hk
    rw [hv4] at hgw HB4 hk
    have HG4 := Lib.hid hgw
    have HK4 := Lib.hid hk
    have HV4 := Lib.hid hv4
    have HGZ4 := Lib.hid hgz
    clear hp4 hg4 hb4 hB4 hg hk hrow hn0 hgw hv4 hgz hw14
    unfold nodeC nodeV at HV4
    unfold nodeC nodeV at c0 c1 c2 c3 c4 c5 c6 c7
    unfold nodeC nodeV
    by_cases hr : r4 = 0
    · subst hr
      go_wp2_with fail
      rw [HV4.out, HGZ4.out]
      refine (put_rex x4 _ v4 HG4.out HNF.out (HL.out.below HB4.out) (by have := HPL.out; omega)).mono ?_
      rintro _ w5 ⟨⟨s5, rfl, hs5⟩, hb5⟩
      have HB5 := Lib.hid (hop HB4.out (Nat.le_refl _) hb5)
      have HG5 := Lib.hid (HG4.out.later hb5)
      have HK5 := Lib.hid (HK4.out.below hb5 HK4.out.lt)
      have HS5 := Lib.hid hs5
      clear c0 c1 c2 c3 c4 c5 c6 c7 hb5 hs5 HB4 HG4 HK4
      by_cases h256 : 256 < s5.size
      · have hI : (256 : Int) < (s5.size : Int) := by omega
        have hI2 : (s5.size : Int) > 256 := by omega
        obtain ⟨⟨c0, c1, c2, c3, c4, c5, c6, c7⟩, _⟩ := node_cells HK5.out
        go_wp2_with fail
        refine (right_rex x4 _ w5 HG5.out).mono ?_
        rw [right_nf HNF.out]
        rintro _ w6 ⟨rfl, hb6⟩
        have HB6 := Lib.hid (hop HB5.out (Nat.le_refl _) hb6)
        clear hb6
        go_wp2
        go_ret
        exact ⟨rfl, HB6.out⟩
      · have hI : ¬ (256 : Int) < (s5.size : Int) := by omega
        have hI2 : ¬ (s5.size : Int) > 256 := by omega
        go_wp2_with fail
        refine (PR.out s5 w5 (HL.out.below HB5.out)).mono ?_
        rintro _ w6 ⟨x6, y6, r6, rfl, hp6, hg6, hb6⟩
        have hbk := parse_back HP4.out (by rw [← HS5.out, size_toList]; omega)
        rw [← HS5.out, size_toList] at hbk
        have hE := hbk.symm.trans hp6
        obtain ⟨hx6, hA⟩ := Prod.mk.inj hE
        obtain ⟨hA, hR⟩ := Prod.mk.inj hA
        subst hA hR
        have HX6 := Lib.hid hx6.symm
        have hB6 := (hop HB5.out (Nat.le_refl _) hb6)
        have HB6 := (hB6.alloc hB6.size (.cells (nodeC x6) 36))
        have hbz := (hb6.alloc hb6.size (.cells (nodeC x6) 36))
        have hw5 := HB5.out.size
        have hg := (hg6.alloc (.cells (nodeC x6) 36)).weaken (Q := fun g => W.heap.size ≤ g) (fun g hg _ => by omega)
        have hk := Blk.new w6 36 (nodeC x6)
        have hg4 := HG5.out.later hbz
        have hk4 := HK5.out.below hbz HK5.out.lt
        obtain ⟨g6, hgz⟩ : ∃ g, w6.heap.size = g := ⟨_, rfl⟩
        obtain ⟨v6, hv6⟩ : ∃ v, w6.alloc (.cells (nodeC x6) 36) = v := ⟨_, rfl⟩
        rw [hgz] at hk
        rw [hv6] at hg HB6 hk hg4 hk4
        have HV6 := Lib.hid hv6
        have HGZ6 := Lib.hid hgz
        have S0 : (Blk v6.drew g4 36 (nodeC x4) ∧ Blk v6.drew g6 36 (nodeC x6) ∧ (v6.drew.cell? ⟨g4, 0, none⟩ = some (.int .i64 x4.kind) ∧ v6.drew.cell? ⟨g4, 1, none⟩ = some (.int .u64 (word x4.set 0 : Nat)) ∧ v6.drew.cell? ⟨g4, 2, none⟩ = some (.int .u64 (word x4.set 1 : Nat)) ∧ v6.drew.cell? ⟨g4, 3, none⟩ = some (.int .u64 (word x4.set 2 : Nat)) ∧ v6.drew.cell? ⟨g4, 4, none⟩ = some (.int .u64 (word x4.set 3 : Nat)) ∧ v6.drew.cell? ⟨g4, 5, none⟩ = some (.int .i64 x4.mn) ∧ v6.drew.cell? ⟨g4, 6, none⟩ = some (.int .i64 x4.mx) ∧ v6.drew.cell? ⟨g4, 7, none⟩ = some (.slice x4.A x4.n x4.c)) ∧ (v6.drew.cell? ⟨g6, 0, none⟩ = some (.int .i64 x6.kind) ∧ v6.drew.cell? ⟨g6, 1, none⟩ = some (.int .u64 (word x6.set 0 : Nat)) ∧ v6.drew.cell? ⟨g6, 2, none⟩ = some (.int .u64 (word x6.set 1 : Nat)) ∧ v6.drew.cell? ⟨g6, 3, none⟩ = some (.int .u64 (word x6.set 2 : Nat)) ∧ v6.drew.cell? ⟨g6, 4, none⟩ = some (.int .u64 (word x6.set 3 : Nat)) ∧ v6.drew.cell? ⟨g6, 5, none⟩ = some (.int .i64 x6.mn) ∧ v6.drew.cell? ⟨g6, 6, none⟩ = some (.int .i64 x6.mx) ∧ v6.drew.cell? ⟨g6, 7, none⟩ = some (.slice x6.A x6.n x6.c)) ∧ GoodN v6.drew (fun g => W.heap.size ≤ g) x4 ∧ GoodN v6.drew (fun g => W.heap.size ≤ g) x6 ∧ Below W.heap.size W v6.drew) := ⟨hk4, hk, (node_cells hk4).1, (node_cells hk).1, hg4.later (below_drewN (Below.refl _ _) 1), hg.later (below_drewN (Below.refl _ _) 1), below_drewN HB6 1⟩
        have HS := Lib.hid (show ∀ w w', (Blk w g4 36 (nodeC x4) ∧ Blk w g6 36 (nodeC x6) ∧ (w.cell? ⟨g4, 0, none⟩ = some (.int .i64 x4.kind) ∧ w.cell? ⟨g4, 1, none⟩ = some (.int .u64 (word x4.set 0 : Nat)) ∧ w.cell? ⟨g4, 2, none⟩ = some (.int .u64 (word x4.set 1 : Nat)) ∧ w.cell? ⟨g4, 3, none⟩ = some (.int .u64 (word x4.set 2 : Nat)) ∧ w.cell? ⟨g4, 4, none⟩ = some (.int .u64 (word x4.set 3 : Nat)) ∧ w.cell? ⟨g4, 5, none⟩ = some (.int .i64 x4.mn) ∧ w.cell? ⟨g4, 6, none⟩ = some (.int .i64 x4.mx) ∧ w.cell? ⟨g4, 7, none⟩ = some (.slice x4.A x4.n x4.c)) ∧ (w.cell? ⟨g6, 0, none⟩ = some (.int .i64 x6.kind) ∧ w.cell? ⟨g6, 1, none⟩ = some (.int .u64 (word x6.set 0 : Nat)) ∧ w.cell? ⟨g6, 2, none⟩ = some (.int .u64 (word x6.set 1 : Nat)) ∧ w.cell? ⟨g6, 3, none⟩ = some (.int .u64 (word x6.set 2 : Nat)) ∧ w.cell? ⟨g6, 4, none⟩ = some (.int .u64 (word x6.set 3 : Nat)) ∧ w.cell? ⟨g6, 5, none⟩ = some (.int .i64 x6.mn) ∧ w.cell? ⟨g6, 6, none⟩ = some (.int .i64 x6.mx) ∧ w.cell? ⟨g6, 7, none⟩ = some (.slice x6.A x6.n x6.c)) ∧ GoodN w (fun g => W.heap.size ≤ g) x4 ∧ GoodN w (fun g => W.heap.size ≤ g) x6 ∧ Below W.heap.size W w) → Below w.heap.size w w' → (Blk w' g4 36 (nodeC x4) ∧ Blk w' g6 36 (nodeC x6) ∧ (w'.cell? ⟨g4, 0, none⟩ = some (.int .i64 x4.kind) ∧ w'.cell? ⟨g4, 1, none⟩ = some (.int .u64 (word x4.set 0 : Nat)) ∧ w'.cell? ⟨g4, 2, none⟩ = some (.int .u64 (word x4.set 1 : Nat)) ∧ w'.cell? ⟨g4, 3, none⟩ = some (.int .u64 (word x4.set 2 : Nat)) ∧ w'.cell? ⟨g4, 4, none⟩ = some (.int .u64 (word x4.set 3 : Nat)) ∧ w'.cell? ⟨g4, 5, none⟩ = some (.int .i64 x4.mn) ∧ w'.cell? ⟨g4, 6, none⟩ = some (.int .i64 x4.mx) ∧ w'.cell? ⟨g4, 7, none⟩ = some (.slice x4.A x4.n x4.c)) ∧ (w'.cell? ⟨g6, 0, none⟩ = some (.int .i64 x6.kind) ∧ w'.cell? ⟨g6, 1, none⟩ = some (.int .u64 (word x6.set 0 : Nat)) ∧ w'.cell? ⟨g6, 2, none⟩ = some (.int .u64 (word x6.set 1 : Nat)) ∧ w'.cell? ⟨g6, 3, none⟩ = some (.int .u64 (word x6.set 2 : Nat)) ∧ w'.cell? ⟨g6, 4, none⟩ = some (.int .u64 (word x6.set 3 : Nat)) ∧ w'.cell? ⟨g6, 5, none⟩ = some (.int .i64 x6.mn) ∧ w'.cell? ⟨g6, 6, none⟩ = some (.int .i64 x6.mx) ∧ w'.cell? ⟨g6, 7, none⟩ = some (.slice x6.A x6.n x6.c)) ∧ GoodN w' (fun g => W.heap.size ≤ g) x4 ∧ GoodN w' (fun g => W.heap.size ≤ g) x6 ∧ Below W.heap.size W w') from fun w w' h hb => ⟨h.1.below hb h.1.lt, h.2.1.below hb h.2.1.lt, (node_cells (h.1.below hb h.1.lt)).1, (node_cells (h.2.1.below hb h.2.1.lt)).1, h.2.2.2.2.1.later hb, h.2.2.2.2.2.1.later hb, hop h.2.2.2.2.2.2 (Nat.le_refl _) hb⟩)
        have SM := Lib.hid (fun (w : World) (g1 : GoodN w (fun g => W.heap.size ≤ g) x4) (g2 : GoodN w (fun g => W.heap.size ≤ g) x6) => show Calls Tryz.prog 21 #[.agg (nodeC x4), .agg (nodeC x6)] w fun e w' => e = .returned (.bool true) ∧ Below w.heap.size w w' from by
          have h := same_rex x4 x6 _ _ w g1 g2
          rw [HX6.out, sameT_samesT_refl] at h
          exact h)
        have PM := Lib.hid (fun (w : World) (g2 : GoodN w (fun g => W.heap.size ≤ g) x6) (hb : Below W.heap.size W w) => show Calls Tryz.prog 19 #[.agg (nodeC x6)] w fun e w' => e = .returned (.string s5) ∧ Below w.heap.size w w' from by
          refine (put_rex x6 _ w g2 (by rw [HX6.out]; exact HNF.out) (HL.out.below hb) (by rw [HX6.out]; have := HPL.out; omega)).mono ?_
          rintro e w' ⟨⟨s, rfl, hs⟩, hb⟩
          have e1 : s = s5 := text_ext1 (by rw [hs, HS5.out, HX6.out])
          rw [e1]
          exact ⟨rfl, hb⟩)
        have RM := Lib.hid (fun (w : World) (g1 : GoodN w (fun g => W.heap.size ≤ g) x4) => show Calls Tryz.prog 20 #[.agg (nodeC x4)] w fun e w' => e = .returned (.bool true) ∧ Below w.heap.size w w' from by
          have h := right_rex x4 _ w g1
          rw [right_nf HNF.out] at h
          exact h)
        obtain ⟨z, hz⟩ : ∃ z, sizeT x4.t = z := ⟨_, rfl⟩
        have Z4 := Lib.hid (fun (w : World) (g1 : GoodN w (fun g => W.heap.size ≤ g) x4) => show Calls Tryz.prog 22 #[.agg (nodeC x4)] w fun e w' => e = .returned (.int .i64 z) ∧ Below w.heap.size w w' from by
          have h := size_any x4 _ w g1
          rw [hz] at h
          exact h)
        have Z6 := Lib.hid (fun (w : World) (g1 : GoodN w (fun g => W.heap.size ≤ g) x6) => show Calls Tryz.prog 22 #[.agg (nodeC x6)] w fun e w' => e = .returned (.int .i64 z) ∧ Below w.heap.size w w' from by
          have h := size_any x6 _ w g1
          rw [HX6.out, hz] at h
          exact h)
        have hzz : (z == z) = true := by simp
        have hss : ((s5.size : Int) == (s5.size : Int)) = true := by simp
        clear hp6 hg6 hb6 hbk hE hx6 hB6 HB6 hbz hg hk hg4 hk4 hgz hv6 hz HK5 HG5 HB5 hw5
        unfold nodeC nodeV at HV6 SM PM RM Z4 Z6
        unfold nodeC nodeV
        go_wp2_with fail
        rw [HV6.out, HGZ6.out]
        refine wp_region_held_drew (S := fun w' => (Blk w' g4 36 (nodeC x4) ∧ Blk w' g6 36 (nodeC x6) ∧ (w'.cell? ⟨g4, 0, none⟩ = some (.int .i64 x4.kind) ∧ w'.cell? ⟨g4, 1, none⟩ = some (.int .u64 (word x4.set 0 : Nat)) ∧ w'.cell? ⟨g4, 2, none⟩ = some (.int .u64 (word x4.set 1 : Nat)) ∧ w'.cell? ⟨g4, 3, none⟩ = some (.int .u64 (word x4.set 2 : Nat)) ∧ w'.cell? ⟨g4, 4, none⟩ = some (.int .u64 (word x4.set 3 : Nat)) ∧ w'.cell? ⟨g4, 5, none⟩ = some (.int .i64 x4.mn) ∧ w'.cell? ⟨g4, 6, none⟩ = some (.int .i64 x4.mx) ∧ w'.cell? ⟨g4, 7, none⟩ = some (.slice x4.A x4.n x4.c)) ∧ (w'.cell? ⟨g6, 0, none⟩ = some (.int .i64 x6.kind) ∧ w'.cell? ⟨g6, 1, none⟩ = some (.int .u64 (word x6.set 0 : Nat)) ∧ w'.cell? ⟨g6, 2, none⟩ = some (.int .u64 (word x6.set 1 : Nat)) ∧ w'.cell? ⟨g6, 3, none⟩ = some (.int .u64 (word x6.set 2 : Nat)) ∧ w'.cell? ⟨g6, 4, none⟩ = some (.int .u64 (word x6.set 3 : Nat)) ∧ w'.cell? ⟨g6, 5, none⟩ = some (.int .i64 x6.mn) ∧ w'.cell? ⟨g6, 6, none⟩ = some (.int .i64 x6.mx) ∧ w'.cell? ⟨g6, 7, none⟩ = some (.slice x6.A x6.n x6.c)) ∧ GoodN w' (fun g => W.heap.size ≤ g) x4 ∧ GoodN w' (fun g => W.heap.size ≤ g) x6 ∧ Below W.heap.size W w')) (by kernel_rfl) S0 (fun hHeld => ?_)
        refine wpAnyH_take (i := 0) (oi := { dst := some 68, op := Go.Op.move (Go.Operand.tmp 7), type := 4, pos := "keeps.go:26", after := #[], guard := none }) (v := ?_) rfl (by kernel_rfl) (by kernel_rfl) (by kernel_rfl) (fun _ _ _ h => h) (Or.inl ⟨by kernel_rfl, ?_⟩) (by assumption) ?_
        rotate_left
        · intro w _
          first | (go_simp; done) | (go_simp; with_reducible rfl)
        try simp only [Act.put, List.setIfInBounds_toArray, List.set_cons_zero, List.set_cons_succ]
        refine wpAnyH_take (i := 1) (oi := { dst := some 69, op := Go.Op.move (Go.Operand.tmp 68), type := 4, pos := "keeps.go:26", after := #[{ on := 0, ground := Go.Ground.data }], guard := none }) (v := ?_) rfl (by kernel_rfl) (by kernel_rfl) (by kernel_rfl) (fun _ _ _ h => h) (Or.inl ⟨by kernel_rfl, ?_⟩) (by assumption) ?_
        rotate_left
        · intro w _
          first | (go_simp; done) | (go_simp; with_reducible rfl)
        try simp only [Act.put, List.setIfInBounds_toArray, List.set_cons_zero, List.set_cons_succ]
        refine wpAnyH_take (i := 2) (oi := { dst := some 70, op := Go.Op.move (Go.Operand.tmp 14), type := 37, pos := "keeps.go:26", after := #[{ on := 1, ground := Go.Ground.guard }], guard := some (1, true) }) (v := ?_) rfl (by kernel_rfl) (by kernel_rfl) (by kernel_rfl) (fun _ _ _ h => h) (Or.inl ⟨by kernel_rfl, ?_⟩) (by assumption) ?_
        rotate_left
        · intro w _
          first | (go_simp; done) | (go_simp; with_reducible rfl)
        try simp only [Act.put, List.setIfInBounds_toArray, List.set_cons_zero, List.set_cons_succ]
        refine wpAnyH_take (i := 3) (oi := { dst := some 71, op := Go.Op.binOp Go.BinOp.eql 37 (Go.Operand.tmp 70) (Go.Operand.const (Go.Value.int Go.IntKind.i64 0)) 37, type := 4, pos := "keeps.go:26", after := #[{ on := 2, ground := Go.Ground.data }, { on := 1, ground := Go.Ground.guard }], guard := some (1, true) }) (v := ?_) rfl (by kernel_rfl) (by kernel_rfl) (by kernel_rfl) (fun _ _ _ h => h) (Or.inl ⟨by kernel_rfl, ?_⟩) (by assumption) ?_
        rotate_left
        · intro w _
          first | (go_simp; done) | (go_simp; with_reducible rfl)
        try simp only [Act.put, List.setIfInBounds_toArray, List.set_cons_zero, List.set_cons_succ]
        refine wpAnyH_take (i := 4) (oi := { dst := some 72, op := Go.Op.pick (Go.Operand.tmp 69) (Go.Operand.tmp 71) (Go.Operand.const (Go.Value.bool false)), type := 4, pos := "keeps.go:26", after := #[{ on := 1, ground := Go.Ground.data }, { on := 3, ground := Go.Ground.data }], guard := none }) (v := ?_) rfl (by kernel_rfl) (by kernel_rfl) (by kernel_rfl) (fun _ _ _ h => h) (Or.inl ⟨by kernel_rfl, ?_⟩) (by assumption) ?_
        rotate_left
        · intro w _
          first | (go_simp; done) | (go_simp; with_reducible rfl)
        try simp only [Act.put, List.setIfInBounds_toArray, List.set_cons_zero, List.set_cons_succ]
        refine wpAnyH_take (i := 5) (oi := { dst := some 73, op := Go.Op.move (Go.Operand.tmp 72), type := 4, pos := "keeps.go:26", after := #[{ on := 4, ground := Go.Ground.data }, { on := 1, ground := Go.Ground.chain }], guard := none }) (v := ?_) rfl (by kernel_rfl) (by kernel_rfl) (by kernel_rfl) (fun _ _ _ h => h) (Or.inl ⟨by kernel_rfl, ?_⟩) (by assumption) ?_
        rotate_left
        · intro w _
          first | (go_simp; done) | (go_simp; with_reducible rfl)
        try simp only [Act.put, List.setIfInBounds_toArray, List.set_cons_zero, List.set_cons_succ]
        refine wpAnyH_take (i := 6) (oi := { dst := some 74, op := Go.Op.load 36 (Go.Operand.tmp 8), type := 36, pos := "keeps.go:26", after := #[{ on := 5, ground := Go.Ground.guard }], guard := some (5, true) }) (v := ?_) rfl (by kernel_rfl) (by kernel_rfl) (by kernel_rfl) (fun _ _ _ h => h) (Or.inl ⟨by kernel_rfl, ?_⟩) (by assumption) ?_
        rotate_left
        · intro w hSw
          (try dsimp only at hSw)
          go_split_ands
          first | (go_simp; done) | (go_simp; with_reducible rfl)
        try simp only [Act.put, List.setIfInBounds_toArray, List.set_cons_zero, List.set_cons_succ]
        refine wpAnyH_take (i := 7) (oi := { dst := some 75, op := Go.Op.load 36 (Go.Operand.tmp 12), type := 36, pos := "keeps.go:26", after := #[{ on := 5, ground := Go.Ground.guard }], guard := some (5, true) }) (v := ?_) rfl (by kernel_rfl) (by kernel_rfl) (by kernel_rfl) (fun _ _ _ h => h) (Or.inl ⟨by kernel_rfl, ?_⟩) (by assumption) ?_
        rotate_left
        · intro w hSw
          (try dsimp only at hSw)
          go_split_ands
          first | (go_simp; done) | (go_simp; with_reducible rfl)
        try simp only [Act.put, List.setIfInBounds_toArray, List.set_cons_zero, List.set_cons_succ]
        refine wpAnyH_ready (rs := [8]) (by kernel_rfl) (by simp) ?_
        refine AllReadyH.cons (o := { dst := some 76, op := Go.Op.call { callee := Go.Callee.value (Go.Operand.func 21), args := #[Go.Operand.tmp 74, Go.Operand.tmp 75], argTypes := #[36, 36] }, type := 4, pos := "keeps.go:26", after := #[{ on := 6, ground := Go.Ground.data }, { on := 7, ground := Go.Ground.data }, { on := 5, ground := Go.Ground.chain }, { on := 5, ground := Go.Ground.guard }], guard := some (5, true) }) rfl (fun K hK => ?_) AllReadyH.nil
        go_simp
        go_at_call 21
        refine (SM.out _ (by first | exact S0.2.2.2.2.1 | exact Sc1.2.2.2.2.1 | exact Sc2.2.2.2.2.1 | exact Sc3.2.2.2.2.1 | exact Sc4.2.2.2.2.1) (by first | exact S0.2.2.2.2.2.1 | exact Sc1.2.2.2.2.2.1)).mono ?_
        rintro _ wc1 ⟨rfl, hb3⟩
        have Sc1 := HS.out _ _ (by assumption) hb3
        refine hK.out _ _ Sc1 (fun _ => ?_)
        clear hK K hb3
        try simp only [Act.put, List.setIfInBounds_toArray, List.set_cons_zero, List.set_cons_succ]
        refine wpAnyH_take (i := 9) (oi := { dst := some 77, op := Go.Op.pick (Go.Operand.tmp 73) (Go.Operand.tmp 76) (Go.Operand.const (Go.Value.bool false)), type := 4, pos := "keeps.go:26", after := #[{ on := 5, ground := Go.Ground.data }, { on := 8, ground := Go.Ground.data }], guard := none }) (v := ?_) rfl (by kernel_rfl) (by kernel_rfl) (by kernel_rfl) (fun _ _ _ h => h) (Or.inl ⟨by kernel_rfl, ?_⟩) (by assumption) ?_
        rotate_left
        · intro w _
          first | (go_simp; done) | (go_simp; with_reducible rfl)
        try simp only [Act.put, List.setIfInBounds_toArray, List.set_cons_zero, List.set_cons_succ]
        refine wpAnyH_take (i := 10) (oi := { dst := some 78, op := Go.Op.move (Go.Operand.tmp 77), type := 4, pos := "keeps.go:26", after := #[{ on := 9, ground := Go.Ground.data }, { on := 8, ground := Go.Ground.chain }], guard := none }) (v := ?_) rfl (by kernel_rfl) (by kernel_rfl) (by kernel_rfl) (fun _ _ _ h => h) (Or.inl ⟨by kernel_rfl, ?_⟩) (by assumption) ?_
        rotate_left
        · intro w _
          first | (go_simp; done) | (go_simp; with_reducible rfl)
        try simp only [Act.put, List.setIfInBounds_toArray, List.set_cons_zero, List.set_cons_succ]
        refine wpAnyH_take (i := 11) (oi := { dst := some 79, op := Go.Op.move (Go.Operand.tmp 13), type := 3, pos := "keeps.go:26", after := #[{ on := 10, ground := Go.Ground.guard }], guard := some (10, true) }) (v := ?_) rfl (by kernel_rfl) (by kernel_rfl) (by kernel_rfl) (fun _ _ _ h => h) (Or.inl ⟨by kernel_rfl, ?_⟩) (by assumption) ?_
        rotate_left
        · intro w _
          first | (go_simp; done) | (go_simp; with_reducible rfl)
        try simp only [Act.put, List.setIfInBounds_toArray, List.set_cons_zero, List.set_cons_succ]
        refine wpAnyH_take (i := 12) (oi := { dst := some 80, op := Go.Op.move (Go.Operand.tmp 11), type := 9, pos := "keeps.go:26", after := #[{ on := 10, ground := Go.Ground.guard }], guard := some (10, true) }) (v := ?_) rfl (by kernel_rfl) (by kernel_rfl) (by kernel_rfl) (fun _ _ _ h => h) (Or.inl ⟨by kernel_rfl, ?_⟩) (by assumption) ?_
        rotate_left
        · intro w _
          first | (go_simp; done) | (go_simp; with_reducible rfl)
        try simp only [Act.put, List.setIfInBounds_toArray, List.set_cons_zero, List.set_cons_succ]
        refine wpAnyH_take (i := 13) (oi := { dst := some 81, op := Go.Op.call { callee := Go.Callee.builtin Go.Builtin.len, args := #[Go.Operand.tmp 80], argTypes := #[9] }, type := 3, pos := "keeps.go:26", after := #[{ on := 12, ground := Go.Ground.data }, { on := 10, ground := Go.Ground.guard }], guard := some (10, true) }) (v := ?_) rfl (by kernel_rfl) (by kernel_rfl) (by kernel_rfl) (fun _ _ _ h => h) (Or.inl ⟨by kernel_rfl, ?_⟩) (by assumption) ?_
        rotate_left
        · intro w _
          first | (go_simp; done) | (go_simp; with_reducible rfl)
        try simp only [Act.put, List.setIfInBounds_toArray, List.set_cons_zero, List.set_cons_succ]
        refine wpAnyH_take (i := 14) (oi := { dst := some 82, op := Go.Op.binOp Go.BinOp.eql 3 (Go.Operand.tmp 79) (Go.Operand.tmp 81) 3, type := 4, pos := "keeps.go:26", after := #[{ on := 11, ground := Go.Ground.data }, { on := 13, ground := Go.Ground.data }, { on := 10, ground := Go.Ground.guard }], guard := some (10, true) }) (v := ?_) rfl (by kernel_rfl) (by kernel_rfl) (by kernel_rfl) (fun _ _ _ h => h) (Or.inl ⟨by kernel_rfl, ?_⟩) (by assumption) ?_
        rotate_left
        · intro w _
          first | (go_simp; done) | (go_simp; with_reducible rfl)
        try simp only [Act.put, List.setIfInBounds_toArray, List.set_cons_zero, List.set_cons_succ]
        refine wpAnyH_take (i := 15) (oi := { dst := some 83, op := Go.Op.pick (Go.Operand.tmp 78) (Go.Operand.tmp 82) (Go.Operand.const (Go.Value.bool false)), type := 4, pos := "keeps.go:26", after := #[{ on := 10, ground := Go.Ground.data }, { on := 14, ground := Go.Ground.data }], guard := none }) (v := ?_) rfl (by kernel_rfl) (by kernel_rfl) (by kernel_rfl) (fun _ _ _ h => h) (Or.inl ⟨by kernel_rfl, ?_⟩) (by assumption) ?_
        rotate_left
        · intro w _
          first | (go_simp; done) | (go_simp; with_reducible rfl)
        try simp only [Act.put, List.setIfInBounds_toArray, List.set_cons_zero, List.set_cons_succ]
        refine wpAnyH_take (i := 16) (oi := { dst := some 84, op := Go.Op.move (Go.Operand.tmp 83), type := 4, pos := "keeps.go:26", after := #[{ on := 15, ground := Go.Ground.data }, { on := 10, ground := Go.Ground.chain }], guard := none }) (v := ?_) rfl (by kernel_rfl) (by kernel_rfl) (by kernel_rfl) (fun _ _ _ h => h) (Or.inl ⟨by kernel_rfl, ?_⟩) (by assumption) ?_
        rotate_left
        · intro w _
          first | (go_simp; done) | (go_simp; with_reducible rfl)
        try simp only [Act.put, List.setIfInBounds_toArray, List.set_cons_zero, List.set_cons_succ]
        refine wpAnyH_take (i := 17) (oi := { dst := some 85, op := Go.Op.load 36 (Go.Operand.tmp 12), type := 36, pos := "keeps.go:26", after := #[{ on := 16, ground := Go.Ground.guard }], guard := some (16, true) }) (v := ?_) rfl (by kernel_rfl) (by kernel_rfl) (by kernel_rfl) (fun _ _ _ h => h) (Or.inl ⟨by kernel_rfl, ?_⟩) (by assumption) ?_
        rotate_left
        · intro w hSw
          (try dsimp only at hSw)
          go_split_ands
          first | (go_simp; done) | (go_simp; with_reducible rfl)
        try simp only [Act.put, List.setIfInBounds_toArray, List.set_cons_zero, List.set_cons_succ]
        refine wpAnyH_take (i := 19) (oi := { dst := some 87, op := Go.Op.move (Go.Operand.tmp 11), type := 9, pos := "keeps.go:26", after := #[{ on := 16, ground := Go.Ground.guard }], guard := some (16, true) }) (v := ?_) rfl (by kernel_rfl) (by kernel_rfl) (by kernel_rfl) (fun _ _ _ h => h) (Or.inl ⟨by kernel_rfl, ?_⟩) (by assumption) ?_
        rotate_left
        · intro w _
          first | (go_simp; done) | (go_simp; with_reducible rfl)
        try simp only [Act.put, List.setIfInBounds_toArray, List.set_cons_zero, List.set_cons_succ]
        refine wpAnyH_ready (rs := [18]) (by kernel_rfl) (by simp) ?_
        refine AllReadyH.cons (o := { dst := some 86, op := Go.Op.call { callee := Go.Callee.value (Go.Operand.func 19), args := #[Go.Operand.tmp 85], argTypes := #[36] }, type := 9, pos := "keeps.go:26", after := #[{ on := 17, ground := Go.Ground.data }, { on := 16, ground := Go.Ground.chain }, { on := 16, ground := Go.Ground.guard }], guard := some (16, true) }) rfl (fun K hK => ?_) AllReadyH.nil
        go_simp
        go_at_call 19
        refine (PM.out _ (by first | exact S0.2.2.2.2.2.1 | exact Sc1.2.2.2.2.2.1 | exact Sc2.2.2.2.2.2.1 | exact Sc3.2.2.2.2.2.1 | exact Sc4.2.2.2.2.2.1 | exact Sc5.2.2.2.2.2.1 | exact Sc6.2.2.2.2.2.1) (by first | exact S0.2.2.2.2.2.2 | exact Sc1.2.2.2.2.2.2 | exact Sc2.2.2.2.2.2.2)).mono ?_
        rintro _ wc2 ⟨rfl, hb3⟩
        have Sc2 := HS.out _ _ (by assumption) hb3
        refine hK.out _ _ Sc2 (fun _ => ?_)
        clear hK K hb3
        try simp only [Act.put, List.setIfInBounds_toArray, List.set_cons_zero, List.set_cons_succ]
        refine wpAnyH_take (i := 20) (oi := { dst := some 88, op := Go.Op.binOp Go.BinOp.eql 9 (Go.Operand.tmp 86) (Go.Operand.tmp 87) 9, type := 4, pos := "keeps.go:26", after := #[{ on := 18, ground := Go.Ground.data }, { on := 19, ground := Go.Ground.data }, { on := 16, ground := Go.Ground.guard }], guard := some (16, true) }) (v := ?_) rfl (by kernel_rfl) (by kernel_rfl) (by kernel_rfl) (fun _ _ _ h => h) (Or.inl ⟨by kernel_rfl, ?_⟩) (by assumption) ?_
        rotate_left
        · intro w _
          first | (go_simp; done) | (go_simp; with_reducible rfl)
        try simp only [Act.put, List.setIfInBounds_toArray, List.set_cons_zero, List.set_cons_succ]
        refine wpAnyH_take (i := 21) (oi := { dst := some 89, op := Go.Op.pick (Go.Operand.tmp 84) (Go.Operand.tmp 88) (Go.Operand.const (Go.Value.bool false)), type := 4, pos := "keeps.go:26", after := #[{ on := 16, ground := Go.Ground.data }, { on := 20, ground := Go.Ground.data }], guard := none }) (v := ?_) rfl (by kernel_rfl) (by kernel_rfl) (by kernel_rfl) (fun _ _ _ h => h) (Or.inl ⟨by kernel_rfl, ?_⟩) (by assumption) ?_
        rotate_left
        · intro w _
          first | (go_simp; done) | (go_simp; with_reducible rfl)
        try simp only [Act.put, List.setIfInBounds_toArray, List.set_cons_zero, List.set_cons_succ]
        refine wpAnyH_take (i := 22) (oi := { dst := some 90, op := Go.Op.move (Go.Operand.tmp 89), type := 4, pos := "keeps.go:26", after := #[{ on := 21, ground := Go.Ground.data }, { on := 18, ground := Go.Ground.chain }], guard := none }) (v := ?_) rfl (by kernel_rfl) (by kernel_rfl) (by kernel_rfl) (fun _ _ _ h => h) (Or.inl ⟨by kernel_rfl, ?_⟩) (by assumption) ?_
        rotate_left
        · intro w _
          first | (go_simp; done) | (go_simp; with_reducible rfl)
        try simp only [Act.put, List.setIfInBounds_toArray, List.set_cons_zero, List.set_cons_succ]
        refine wpAnyH_take (i := 23) (oi := { dst := some 91, op := Go.Op.load 36 (Go.Operand.tmp 8), type := 36, pos := "keeps.go:26", after := #[{ on := 22, ground := Go.Ground.guard }], guard := some (22, true) }) (v := ?_) rfl (by kernel_rfl) (by kernel_rfl) (by kernel_rfl) (fun _ _ _ h => h) (Or.inl ⟨by kernel_rfl, ?_⟩) (by assumption) ?_
        rotate_left
        · intro w hSw
          (try dsimp only at hSw)
          go_split_ands
          first | (go_simp; done) | (go_simp; with_reducible rfl)
        try simp only [Act.put, List.setIfInBounds_toArray, List.set_cons_zero, List.set_cons_succ]
        refine wpAnyH_ready (rs := [24]) (by kernel_rfl) (by simp) ?_
        refine AllReadyH.cons (o := { dst := some 92, op := Go.Op.call { callee := Go.Callee.value (Go.Operand.func 20), args := #[Go.Operand.tmp 91], argTypes := #[36] }, type := 4, pos := "keeps.go:26", after := #[{ on := 23, ground := Go.Ground.data }, { on := 22, ground := Go.Ground.chain }, { on := 22, ground := Go.Ground.guard }], guard := some (22, true) }) rfl (fun K hK => ?_) AllReadyH.nil
        go_simp
        go_at_call 20
        refine (RM.out _ (by first | exact S0.2.2.2.2.1 | exact Sc1.2.2.2.2.1 | exact Sc2.2.2.2.2.1 | exact Sc3.2.2.2.2.1 | exact Sc4.2.2.2.2.1 | exact Sc5.2.2.2.2.1 | exact Sc6.2.2.2.2.1)).mono ?_
        rintro _ wc3 ⟨rfl, hb3⟩
        have Sc3 := HS.out _ _ (by assumption) hb3
        refine hK.out _ _ Sc3 (fun _ => ?_)
        clear hK K hb3
        try simp only [Act.put, List.setIfInBounds_toArray, List.set_cons_zero, List.set_cons_succ]
        refine wpAnyH_take (i := 25) (oi := { dst := some 93, op := Go.Op.pick (Go.Operand.tmp 90) (Go.Operand.tmp 92) (Go.Operand.const (Go.Value.bool false)), type := 4, pos := "keeps.go:26", after := #[{ on := 22, ground := Go.Ground.data }, { on := 24, ground := Go.Ground.data }], guard := none }) (v := ?_) rfl (by kernel_rfl) (by kernel_rfl) (by kernel_rfl) (fun _ _ _ h => h) (Or.inl ⟨by kernel_rfl, ?_⟩) (by assumption) ?_
        rotate_left
        · intro w _
          first | (go_simp; done) | (go_simp; with_reducible rfl)
        try simp only [Act.put, List.setIfInBounds_toArray, List.set_cons_zero, List.set_cons_succ]
        refine wpAnyH_take (i := 26) (oi := { dst := some 94, op := Go.Op.move (Go.Operand.tmp 93), type := 4, pos := "keeps.go:26", after := #[{ on := 25, ground := Go.Ground.data }, { on := 24, ground := Go.Ground.chain }], guard := none }) (v := ?_) rfl (by kernel_rfl) (by kernel_rfl) (by kernel_rfl) (fun _ _ _ h => h) (Or.inl ⟨by kernel_rfl, ?_⟩) (by assumption) ?_
        rotate_left
        · intro w _
          first | (go_simp; done) | (go_simp; with_reducible rfl)
        try simp only [Act.put, List.setIfInBounds_toArray, List.set_cons_zero, List.set_cons_succ]
        refine wpAnyH_take (i := 27) (oi := { dst := some 95, op := Go.Op.load 36 (Go.Operand.tmp 8), type := 36, pos := "keeps.go:26", after := #[{ on := 26, ground := Go.Ground.guard }], guard := some (26, true) }) (v := ?_) rfl (by kernel_rfl) (by kernel_rfl) (by kernel_rfl) (fun _ _ _ h => h) (Or.inl ⟨by kernel_rfl, ?_⟩) (by assumption) ?_
        rotate_left
        · intro w hSw
          (try dsimp only at hSw)
          go_split_ands
          first | (go_simp; done) | (go_simp; with_reducible rfl)
        try simp only [Act.put, List.setIfInBounds_toArray, List.set_cons_zero, List.set_cons_succ]
        refine wpAnyH_take (i := 29) (oi := { dst := some 97, op := Go.Op.load 36 (Go.Operand.tmp 12), type := 36, pos := "keeps.go:26", after := #[{ on := 26, ground := Go.Ground.guard }], guard := some (26, true) }) (v := ?_) rfl (by kernel_rfl) (by kernel_rfl) (by kernel_rfl) (fun _ _ _ h => h) (Or.inl ⟨by kernel_rfl, ?_⟩) (by assumption) ?_
        rotate_left
        · intro w hSw
          (try dsimp only at hSw)
          go_split_ands
          first | (go_simp; done) | (go_simp; with_reducible rfl)
        try simp only [Act.put, List.setIfInBounds_toArray, List.set_cons_zero, List.set_cons_succ]
        refine wpAnyH_ready (rs := [28]) (by kernel_rfl) (by simp) ?_
        refine AllReadyH.cons (o := { dst := some 96, op := Go.Op.call { callee := Go.Callee.value (Go.Operand.func 22), args := #[Go.Operand.tmp 95], argTypes := #[36] }, type := 3, pos := "keeps.go:26", after := #[{ on := 27, ground := Go.Ground.data }, { on := 26, ground := Go.Ground.chain }, { on := 26, ground := Go.Ground.guard }], guard := some (26, true) }) rfl (fun K hK => ?_) AllReadyH.nil
        go_simp
        go_at_call 22
        refine (Z4.out _ (by first | exact S0.2.2.2.2.1 | exact Sc1.2.2.2.2.1 | exact Sc2.2.2.2.2.1 | exact Sc3.2.2.2.2.1 | exact Sc4.2.2.2.2.1 | exact Sc5.2.2.2.2.1 | exact Sc6.2.2.2.2.1)).mono ?_
        rintro _ wc4 ⟨rfl, hb3⟩
        have Sc4 := HS.out _ _ (by assumption) hb3
        refine hK.out _ _ Sc4 (fun _ => ?_)
        clear hK K hb3
        try simp only [Act.put, List.setIfInBounds_toArray, List.set_cons_zero, List.set_cons_succ]
        refine wpAnyH_ready (rs := [30]) (by kernel_rfl) (by simp) ?_
        refine AllReadyH.cons (o := { dst := some 98, op := Go.Op.call { callee := Go.Callee.value (Go.Operand.func 22), args := #[Go.Operand.tmp 97], argTypes := #[36] }, type := 3, pos := "keeps.go:26", after := #[{ on := 29, ground := Go.Ground.data }, { on := 28, ground := Go.Ground.chain }, { on := 26, ground := Go.Ground.guard }], guard := some (26, true) }) rfl (fun K hK => ?_) AllReadyH.nil
        go_simp
        go_at_call 22
        refine (Z6.out _ (by first | exact S0.2.2.2.2.2.1 | exact Sc1.2.2.2.2.2.1 | exact Sc2.2.2.2.2.2.1 | exact Sc3.2.2.2.2.2.1 | exact Sc4.2.2.2.2.2.1 | exact Sc5.2.2.2.2.2.1 | exact Sc6.2.2.2.2.2.1)).mono ?_
        rintro _ wc5 ⟨rfl, hb3⟩
        have Sc5 := HS.out _ _ (by assumption) hb3
        refine hK.out _ _ Sc5 (fun _ => ?_)
        clear hK K hb3
        try simp only [Act.put, List.setIfInBounds_toArray, List.set_cons_zero, List.set_cons_succ]
        refine wpAnyH_take (i := 31) (oi := { dst := some 99, op := Go.Op.binOp Go.BinOp.eql 3 (Go.Operand.tmp 96) (Go.Operand.tmp 98) 3, type := 4, pos := "keeps.go:26", after := #[{ on := 28, ground := Go.Ground.data }, { on := 30, ground := Go.Ground.data }, { on := 26, ground := Go.Ground.guard }], guard := some (26, true) }) (v := ?_) rfl (by kernel_rfl) (by kernel_rfl) (by kernel_rfl) (fun _ _ _ h => h) (Or.inl ⟨by kernel_rfl, ?_⟩) (by assumption) ?_
        rotate_left
        · intro w _
          first | (go_simp; done) | (go_simp; with_reducible rfl)
        try simp only [Act.put, List.setIfInBounds_toArray, List.set_cons_zero, List.set_cons_succ]
        refine wpAnyH_take (i := 32) (oi := { dst := some 100, op := Go.Op.pick (Go.Operand.tmp 94) (Go.Operand.tmp 99) (Go.Operand.const (Go.Value.bool false)), type := 4, pos := "keeps.go:26", after := #[{ on := 26, ground := Go.Ground.data }, { on := 31, ground := Go.Ground.data }], guard := none }) (v := ?_) rfl (by kernel_rfl) (by kernel_rfl) (by kernel_rfl) (fun _ _ _ h => h) (Or.inl ⟨by kernel_rfl, ?_⟩) (by assumption) ?_
        rotate_left
        · intro w _
          first | (go_simp; done) | (go_simp; with_reducible rfl)
        try simp only [Act.put, List.setIfInBounds_toArray, List.set_cons_zero, List.set_cons_succ]
        refine wpAnyH_take (i := 33) (oi := { dst := some 6, op := Go.Op.assign (Go.Operand.tmp 100), type := 4, pos := "keeps.go:26", after := #[{ on := 32, ground := Go.Ground.data }, { on := 30, ground := Go.Ground.chain }, { on := 0, ground := Go.Ground.phase }, { on := 1, ground := Go.Ground.phase }, { on := 2, ground := Go.Ground.phase }, { on := 3, ground := Go.Ground.phase }, { on := 4, ground := Go.Ground.phase }, { on := 5, ground := Go.Ground.phase }, { on := 6, ground := Go.Ground.phase }, { on := 7, ground := Go.Ground.phase }, { on := 8, ground := Go.Ground.phase }, { on := 9, ground := Go.Ground.phase }, { on := 10, ground := Go.Ground.phase }, { on := 11, ground := Go.Ground.phase }, { on := 12, ground := Go.Ground.phase }, { on := 13, ground := Go.Ground.phase }, { on := 14, ground := Go.Ground.phase }, { on := 15, ground := Go.Ground.phase }, { on := 16, ground := Go.Ground.phase }, { on := 17, ground := Go.Ground.phase }, { on := 18, ground := Go.Ground.phase }, { on := 19, ground := Go.Ground.phase }, { on := 20, ground := Go.Ground.phase }, { on := 21, ground := Go.Ground.phase }, { on := 22, ground := Go.Ground.phase }, { on := 23, ground := Go.Ground.phase }, { on := 24, ground := Go.Ground.phase }, { on := 25, ground := Go.Ground.phase }, { on := 26, ground := Go.Ground.phase }, { on := 27, ground := Go.Ground.phase }, { on := 28, ground := Go.Ground.phase }, { on := 29, ground := Go.Ground.phase }, { on := 30, ground := Go.Ground.phase }, { on := 31, ground := Go.Ground.phase }, { on := 32, ground := Go.Ground.phase }], guard := none }) (v := ?_) rfl (by kernel_rfl) (by kernel_rfl) (by kernel_rfl) (fun _ _ _ h => h) (Or.inl ⟨by kernel_rfl, ?_⟩) (by assumption) ?_
        rotate_left
        · intro w _
          first | (go_simp; done) | (go_simp; with_reducible rfl)
        try simp only [Act.put, List.setIfInBounds_toArray, List.set_cons_zero, List.set_cons_succ]
        refine wpAnyH_done (by kernel_rfl) ?_ _
        clear HS hHeld
        go_wp2
        go_ret
        first | exact ⟨by first | rfl | decide | simp, Sc5.2.2.2.2.2.2⟩ | exact ⟨by first | rfl | decide | simp, Sc6.2.2.2.2.2.2⟩
    · have hf := parse_fault HP4.out hr
      have hrb : (r4 == 0) = false := beq_eq_false_iff_ne.2 hr
      have hkd : x4.kind = 0 := by rw [← NodeX.t_kind, hf.1]; rfl
      have hn := HN0.out hf.1
      have hy0 : 0 ≤ y4 := hf.2.1
      have hy1 : y4 ≤ (T.size : Int) := by have := hf.2.2; rw [size_toList] at this; exact this
      have hy2 : y4 ≥ 0 := hy0
      have hmx : max (T.size : Int) 0 = (T.size : Int) := by omega
      rw [hkd] at c0
      rw [hn] at c7
      clear hf
      have hv := HV4.out
      rw [hkd, hn] at hv
      have HVV := Lib.hid hv
      clear hv
      go_wp2
      go_ret
      rw [HVV.out]
      exact ⟨by first | rfl | decide | (simp; done) | (simp; omega), HB4.out⟩
  | false =>
    go_enter Tryz.func4, Tryz.ntmps4
    go_wp2_with fail
    refine (HEX.out W HL.out).mono ?_
    rintro _ w1 ⟨rfl, hb1⟩
    have HB1 := Lib.hid hb1
    clear hb1 HEX R1
    obtain ⟨T, hT⟩ : ∃ T, s = T := ⟨_, rfl⟩
    subst hT
    go_wp2_with fail
    refine (PR.out s w1 (HL.out.below HB1.out)).mono ?_
    rintro _ w4 ⟨x4, y4, r4, rfl, hp4, hg4, hb4⟩
    have hB4 := (hop HB1.out (Nat.le_refl _) hb4)
    have HB4 := Lib.hid (hB4.alloc hB4.size (.cells (nodeC x4) 36))
    have hg := hg4.alloc (.cells (nodeC x4) 36)
    have hk := Blk.new w4 36 (nodeC x4)
    have hrow := hg4.row
    have hn0 : x4.t = .nil → x4.n = 0 := fun h => by
      have h1 := congrArg NodeT.kids h
      rw [NodeX.t_kids] at h1
      have h2 : x4.kids = [] := List.map_eq_nil_iff.1 h1
      have h3 := hrow.1
      rw [h2] at h3
      exact h3.symm
    have HN0 := Lib.hid hn0
    have HPL := Lib.hid (parse_putlen hp4)
    have HNF := Lib.hid (parseB_nf hp4)
    have HP4 := Lib.hid hp4
    have hw14 := HB1.out.size
    have hgw := hg.weaken (Q := fun g => W.heap.size ≤ g) (fun g hg _ => by omega)
    obtain ⟨⟨c0, c1, c2, c3, c4, c5, c6, c7⟩, _⟩ := node_cells hk
    obtain ⟨g4, hgz⟩ : ∃ g, w4.heap.size = g := ⟨_, rfl⟩
    obtain ⟨v4, hv4⟩ : ∃ v, w4.alloc (.cells (nodeC x4) 36) = v := ⟨_, rfl⟩
    rw [hgz] at hk
    rw [hv4] at hgw HB4 hk
    have HG4 := Lib.hid hgw
    have HK4 := Lib.hid hk
    have HV4 := Lib.hid hv4
    have HGZ4 := Lib.hid hgz
    clear hp4 hg4 hb4 hB4 hg hk hrow hn0 hgw hv4 hgz hw14
    unfold nodeC nodeV at HV4
    unfold nodeC nodeV at c0 c1 c2 c3 c4 c5 c6 c7
    unfold nodeC nodeV
    by_cases hr : r4 = 0
    · subst hr
      go_wp2_with fail
      rw [HV4.out, HGZ4.out]
      refine (put_rex x4 _ v4 HG4.out HNF.out (HL.out.below HB4.out) (by have := HPL.out; omega)).mono ?_
      rintro _ w5 ⟨⟨s5, rfl, hs5⟩, hb5⟩
      have HB5 := Lib.hid (hop HB4.out (Nat.le_refl _) hb5)
      have HG5 := Lib.hid (HG4.out.later hb5)
      have HK5 := Lib.hid (HK4.out.below hb5 HK4.out.lt)
      have HS5 := Lib.hid hs5
      clear c0 c1 c2 c3 c4 c5 c6 c7 hb5 hs5 HB4 HG4 HK4
      by_cases h256 : 256 < s5.size
      · have hI : (256 : Int) < (s5.size : Int) := by omega
        have hI2 : (s5.size : Int) > 256 := by omega
        obtain ⟨⟨c0, c1, c2, c3, c4, c5, c6, c7⟩, _⟩ := node_cells HK5.out
        go_wp2_with fail
        refine (right_rex x4 _ w5 HG5.out).mono ?_
        rw [right_nf HNF.out]
        rintro _ w6 ⟨rfl, hb6⟩
        have HB6 := Lib.hid (hop HB5.out (Nat.le_refl _) hb6)
        clear hb6
        go_wp2
        go_ret
        exact ⟨rfl, HB6.out⟩
      · have hI : ¬ (256 : Int) < (s5.size : Int) := by omega
        have hI2 : ¬ (s5.size : Int) > 256 := by omega
        go_wp2_with fail
        refine (PR.out s5 w5 (HL.out.below HB5.out)).mono ?_
        rintro _ w6 ⟨x6, y6, r6, rfl, hp6, hg6, hb6⟩
        have hbk := parse_back HP4.out (by rw [← HS5.out, size_toList]; omega)
        rw [← HS5.out, size_toList] at hbk
        have hE := hbk.symm.trans hp6
        obtain ⟨hx6, hA⟩ := Prod.mk.inj hE
        obtain ⟨hA, hR⟩ := Prod.mk.inj hA
        subst hA hR
        have HX6 := Lib.hid hx6.symm
        have hB6 := (hop HB5.out (Nat.le_refl _) hb6)
        have HB6 := (hB6.alloc hB6.size (.cells (nodeC x6) 36))
        have hbz := (hb6.alloc hb6.size (.cells (nodeC x6) 36))
        have hw5 := HB5.out.size
        have hg := (hg6.alloc (.cells (nodeC x6) 36)).weaken (Q := fun g => W.heap.size ≤ g) (fun g hg _ => by omega)
        have hk := Blk.new w6 36 (nodeC x6)
        have hg4 := HG5.out.later hbz
        have hk4 := HK5.out.below hbz HK5.out.lt
        obtain ⟨g6, hgz⟩ : ∃ g, w6.heap.size = g := ⟨_, rfl⟩
        obtain ⟨v6, hv6⟩ : ∃ v, w6.alloc (.cells (nodeC x6) 36) = v := ⟨_, rfl⟩
        rw [hgz] at hk
        rw [hv6] at hg HB6 hk hg4 hk4
        have HV6 := Lib.hid hv6
        have HGZ6 := Lib.hid hgz
        have S0 : (Blk v6.drew g4 36 (nodeC x4) ∧ Blk v6.drew g6 36 (nodeC x6) ∧ (v6.drew.cell? ⟨g4, 0, none⟩ = some (.int .i64 x4.kind) ∧ v6.drew.cell? ⟨g4, 1, none⟩ = some (.int .u64 (word x4.set 0 : Nat)) ∧ v6.drew.cell? ⟨g4, 2, none⟩ = some (.int .u64 (word x4.set 1 : Nat)) ∧ v6.drew.cell? ⟨g4, 3, none⟩ = some (.int .u64 (word x4.set 2 : Nat)) ∧ v6.drew.cell? ⟨g4, 4, none⟩ = some (.int .u64 (word x4.set 3 : Nat)) ∧ v6.drew.cell? ⟨g4, 5, none⟩ = some (.int .i64 x4.mn) ∧ v6.drew.cell? ⟨g4, 6, none⟩ = some (.int .i64 x4.mx) ∧ v6.drew.cell? ⟨g4, 7, none⟩ = some (.slice x4.A x4.n x4.c)) ∧ (v6.drew.cell? ⟨g6, 0, none⟩ = some (.int .i64 x6.kind) ∧ v6.drew.cell? ⟨g6, 1, none⟩ = some (.int .u64 (word x6.set 0 : Nat)) ∧ v6.drew.cell? ⟨g6, 2, none⟩ = some (.int .u64 (word x6.set 1 : Nat)) ∧ v6.drew.cell? ⟨g6, 3, none⟩ = some (.int .u64 (word x6.set 2 : Nat)) ∧ v6.drew.cell? ⟨g6, 4, none⟩ = some (.int .u64 (word x6.set 3 : Nat)) ∧ v6.drew.cell? ⟨g6, 5, none⟩ = some (.int .i64 x6.mn) ∧ v6.drew.cell? ⟨g6, 6, none⟩ = some (.int .i64 x6.mx) ∧ v6.drew.cell? ⟨g6, 7, none⟩ = some (.slice x6.A x6.n x6.c)) ∧ GoodN v6.drew (fun g => W.heap.size ≤ g) x4 ∧ GoodN v6.drew (fun g => W.heap.size ≤ g) x6 ∧ Below W.heap.size W v6.drew) := ⟨hk4, hk, (node_cells hk4).1, (node_cells hk).1, hg4.later (below_drewN (Below.refl _ _) 1), hg.later (below_drewN (Below.refl _ _) 1), below_drewN HB6 1⟩
        have HS := Lib.hid (show ∀ w w', (Blk w g4 36 (nodeC x4) ∧ Blk w g6 36 (nodeC x6) ∧ (w.cell? ⟨g4, 0, none⟩ = some (.int .i64 x4.kind) ∧ w.cell? ⟨g4, 1, none⟩ = some (.int .u64 (word x4.set 0 : Nat)) ∧ w.cell? ⟨g4, 2, none⟩ = some (.int .u64 (word x4.set 1 : Nat)) ∧ w.cell? ⟨g4, 3, none⟩ = some (.int .u64 (word x4.set 2 : Nat)) ∧ w.cell? ⟨g4, 4, none⟩ = some (.int .u64 (word x4.set 3 : Nat)) ∧ w.cell? ⟨g4, 5, none⟩ = some (.int .i64 x4.mn) ∧ w.cell? ⟨g4, 6, none⟩ = some (.int .i64 x4.mx) ∧ w.cell? ⟨g4, 7, none⟩ = some (.slice x4.A x4.n x4.c)) ∧ (w.cell? ⟨g6, 0, none⟩ = some (.int .i64 x6.kind) ∧ w.cell? ⟨g6, 1, none⟩ = some (.int .u64 (word x6.set 0 : Nat)) ∧ w.cell? ⟨g6, 2, none⟩ = some (.int .u64 (word x6.set 1 : Nat)) ∧ w.cell? ⟨g6, 3, none⟩ = some (.int .u64 (word x6.set 2 : Nat)) ∧ w.cell? ⟨g6, 4, none⟩ = some (.int .u64 (word x6.set 3 : Nat)) ∧ w.cell? ⟨g6, 5, none⟩ = some (.int .i64 x6.mn) ∧ w.cell? ⟨g6, 6, none⟩ = some (.int .i64 x6.mx) ∧ w.cell? ⟨g6, 7, none⟩ = some (.slice x6.A x6.n x6.c)) ∧ GoodN w (fun g => W.heap.size ≤ g) x4 ∧ GoodN w (fun g => W.heap.size ≤ g) x6 ∧ Below W.heap.size W w) → Below w.heap.size w w' → (Blk w' g4 36 (nodeC x4) ∧ Blk w' g6 36 (nodeC x6) ∧ (w'.cell? ⟨g4, 0, none⟩ = some (.int .i64 x4.kind) ∧ w'.cell? ⟨g4, 1, none⟩ = some (.int .u64 (word x4.set 0 : Nat)) ∧ w'.cell? ⟨g4, 2, none⟩ = some (.int .u64 (word x4.set 1 : Nat)) ∧ w'.cell? ⟨g4, 3, none⟩ = some (.int .u64 (word x4.set 2 : Nat)) ∧ w'.cell? ⟨g4, 4, none⟩ = some (.int .u64 (word x4.set 3 : Nat)) ∧ w'.cell? ⟨g4, 5, none⟩ = some (.int .i64 x4.mn) ∧ w'.cell? ⟨g4, 6, none⟩ = some (.int .i64 x4.mx) ∧ w'.cell? ⟨g4, 7, none⟩ = some (.slice x4.A x4.n x4.c)) ∧ (w'.cell? ⟨g6, 0, none⟩ = some (.int .i64 x6.kind) ∧ w'.cell? ⟨g6, 1, none⟩ = some (.int .u64 (word x6.set 0 : Nat)) ∧ w'.cell? ⟨g6, 2, none⟩ = some (.int .u64 (word x6.set 1 : Nat)) ∧ w'.cell? ⟨g6, 3, none⟩ = some (.int .u64 (word x6.set 2 : Nat)) ∧ w'.cell? ⟨g6, 4, none⟩ = some (.int .u64 (word x6.set 3 : Nat)) ∧ w'.cell? ⟨g6, 5, none⟩ = some (.int .i64 x6.mn) ∧ w'.cell? ⟨g6, 6, none⟩ = some (.int .i64 x6.mx) ∧ w'.cell? ⟨g6, 7, none⟩ = some (.slice x6.A x6.n x6.c)) ∧ GoodN w' (fun g => W.heap.size ≤ g) x4 ∧ GoodN w' (fun g => W.heap.size ≤ g) x6 ∧ Below W.heap.size W w') from fun w w' h hb => ⟨h.1.below hb h.1.lt, h.2.1.below hb h.2.1.lt, (node_cells (h.1.below hb h.1.lt)).1, (node_cells (h.2.1.below hb h.2.1.lt)).1, h.2.2.2.2.1.later hb, h.2.2.2.2.2.1.later hb, hop h.2.2.2.2.2.2 (Nat.le_refl _) hb⟩)
        have SM := Lib.hid (fun (w : World) (g1 : GoodN w (fun g => W.heap.size ≤ g) x4) (g2 : GoodN w (fun g => W.heap.size ≤ g) x6) => show Calls Tryz.prog 21 #[.agg (nodeC x4), .agg (nodeC x6)] w fun e w' => e = .returned (.bool true) ∧ Below w.heap.size w w' from by
          have h := same_rex x4 x6 _ _ w g1 g2
          rw [HX6.out, sameT_samesT_refl] at h
          exact h)
        have PM := Lib.hid (fun (w : World) (g2 : GoodN w (fun g => W.heap.size ≤ g) x6) (hb : Below W.heap.size W w) => show Calls Tryz.prog 19 #[.agg (nodeC x6)] w fun e w' => e = .returned (.string s5) ∧ Below w.heap.size w w' from by
          refine (put_rex x6 _ w g2 (by rw [HX6.out]; exact HNF.out) (HL.out.below hb) (by rw [HX6.out]; have := HPL.out; omega)).mono ?_
          rintro e w' ⟨⟨s, rfl, hs⟩, hb⟩
          have e1 : s = s5 := text_ext1 (by rw [hs, HS5.out, HX6.out])
          rw [e1]
          exact ⟨rfl, hb⟩)
        have RM := Lib.hid (fun (w : World) (g1 : GoodN w (fun g => W.heap.size ≤ g) x4) => show Calls Tryz.prog 20 #[.agg (nodeC x4)] w fun e w' => e = .returned (.bool true) ∧ Below w.heap.size w w' from by
          have h := right_rex x4 _ w g1
          rw [right_nf HNF.out] at h
          exact h)
        obtain ⟨z, hz⟩ : ∃ z, sizeT x4.t = z := ⟨_, rfl⟩
        have Z4 := Lib.hid (fun (w : World) (g1 : GoodN w (fun g => W.heap.size ≤ g) x4) => show Calls Tryz.prog 22 #[.agg (nodeC x4)] w fun e w' => e = .returned (.int .i64 z) ∧ Below w.heap.size w w' from by
          have h := size_any x4 _ w g1
          rw [hz] at h
          exact h)
        have Z6 := Lib.hid (fun (w : World) (g1 : GoodN w (fun g => W.heap.size ≤ g) x6) => show Calls Tryz.prog 22 #[.agg (nodeC x6)] w fun e w' => e = .returned (.int .i64 z) ∧ Below w.heap.size w w' from by
          have h := size_any x6 _ w g1
          rw [HX6.out, hz] at h
          exact h)
        have hzz : (z == z) = true := by simp
        have hss : ((s5.size : Int) == (s5.size : Int)) = true := by simp
        clear hp6 hg6 hb6 hbk hE hx6 hB6 HB6 hbz hg hk hg4 hk4 hgz hv6 hz HK5 HG5 HB5 hw5
        unfold nodeC nodeV at HV6 SM PM RM Z4 Z6
        unfold nodeC nodeV
        go_wp2_with fail
        rw [HV6.out, HGZ6.out]
        refine wp_region_held_drew (S := fun w' => (Blk w' g4 36 (nodeC x4) ∧ Blk w' g6 36 (nodeC x6) ∧ (w'.cell? ⟨g4, 0, none⟩ = some (.int .i64 x4.kind) ∧ w'.cell? ⟨g4, 1, none⟩ = some (.int .u64 (word x4.set 0 : Nat)) ∧ w'.cell? ⟨g4, 2, none⟩ = some (.int .u64 (word x4.set 1 : Nat)) ∧ w'.cell? ⟨g4, 3, none⟩ = some (.int .u64 (word x4.set 2 : Nat)) ∧ w'.cell? ⟨g4, 4, none⟩ = some (.int .u64 (word x4.set 3 : Nat)) ∧ w'.cell? ⟨g4, 5, none⟩ = some (.int .i64 x4.mn) ∧ w'.cell? ⟨g4, 6, none⟩ = some (.int .i64 x4.mx) ∧ w'.cell? ⟨g4, 7, none⟩ = some (.slice x4.A x4.n x4.c)) ∧ (w'.cell? ⟨g6, 0, none⟩ = some (.int .i64 x6.kind) ∧ w'.cell? ⟨g6, 1, none⟩ = some (.int .u64 (word x6.set 0 : Nat)) ∧ w'.cell? ⟨g6, 2, none⟩ = some (.int .u64 (word x6.set 1 : Nat)) ∧ w'.cell? ⟨g6, 3, none⟩ = some (.int .u64 (word x6.set 2 : Nat)) ∧ w'.cell? ⟨g6, 4, none⟩ = some (.int .u64 (word x6.set 3 : Nat)) ∧ w'.cell? ⟨g6, 5, none⟩ = some (.int .i64 x6.mn) ∧ w'.cell? ⟨g6, 6, none⟩ = some (.int .i64 x6.mx) ∧ w'.cell? ⟨g6, 7, none⟩ = some (.slice x6.A x6.n x6.c)) ∧ GoodN w' (fun g => W.heap.size ≤ g) x4 ∧ GoodN w' (fun g => W.heap.size ≤ g) x6 ∧ Below W.heap.size W w')) (by kernel_rfl) S0 (fun hHeld => ?_)
        refine wpAnyH_take (i := 0) (oi := { dst := some 68, op := Go.Op.move (Go.Operand.tmp 7), type := 4, pos := "keeps.go:26", after := #[], guard := none }) (v := ?_) rfl (by kernel_rfl) (by kernel_rfl) (by kernel_rfl) (fun _ _ _ h => h) (Or.inl ⟨by kernel_rfl, ?_⟩) (by assumption) ?_
        rotate_left
        · intro w _
          first | (go_simp; done) | (go_simp; with_reducible rfl)
        try simp only [Act.put, List.setIfInBounds_toArray, List.set_cons_zero, List.set_cons_succ]
        refine wpAnyH_take (i := 1) (oi := { dst := some 69, op := Go.Op.move (Go.Operand.tmp 68), type := 4, pos := "keeps.go:26", after := #[{ on := 0, ground := Go.Ground.data }], guard := none }) (v := ?_) rfl (by kernel_rfl) (by kernel_rfl) (by kernel_rfl) (fun _ _ _ h => h) (Or.inl ⟨by kernel_rfl, ?_⟩) (by assumption) ?_
        rotate_left
        · intro w _
          first | (go_simp; done) | (go_simp; with_reducible rfl)
        try simp only [Act.put, List.setIfInBounds_toArray, List.set_cons_zero, List.set_cons_succ]
        refine wpAnyH_take (i := 2) (oi := { dst := some 70, op := Go.Op.move (Go.Operand.tmp 14), type := 37, pos := "keeps.go:26", after := #[{ on := 1, ground := Go.Ground.guard }], guard := some (1, true) }) (v := ?_) rfl (by kernel_rfl) (by kernel_rfl) (by kernel_rfl) (fun _ _ _ h => h) (Or.inl ⟨by kernel_rfl, ?_⟩) (by assumption) ?_
        rotate_left
        · intro w _
          first | (go_simp; done) | (go_simp; with_reducible rfl)
        try simp only [Act.put, List.setIfInBounds_toArray, List.set_cons_zero, List.set_cons_succ]
        refine wpAnyH_take (i := 3) (oi := { dst := some 71, op := Go.Op.binOp Go.BinOp.eql 37 (Go.Operand.tmp 70) (Go.Operand.const (Go.Value.int Go.IntKind.i64 0)) 37, type := 4, pos := "keeps.go:26", after := #[{ on := 2, ground := Go.Ground.data }, { on := 1, ground := Go.Ground.guard }], guard := some (1, true) }) (v := ?_) rfl (by kernel_rfl) (by kernel_rfl) (by kernel_rfl) (fun _ _ _ h => h) (Or.inl ⟨by kernel_rfl, ?_⟩) (by assumption) ?_
        rotate_left
        · intro w _
          first | (go_simp; done) | (go_simp; with_reducible rfl)
        try simp only [Act.put, List.setIfInBounds_toArray, List.set_cons_zero, List.set_cons_succ]
        refine wpAnyH_take (i := 4) (oi := { dst := some 72, op := Go.Op.pick (Go.Operand.tmp 69) (Go.Operand.tmp 71) (Go.Operand.const (Go.Value.bool false)), type := 4, pos := "keeps.go:26", after := #[{ on := 1, ground := Go.Ground.data }, { on := 3, ground := Go.Ground.data }], guard := none }) (v := ?_) rfl (by kernel_rfl) (by kernel_rfl) (by kernel_rfl) (fun _ _ _ h => h) (Or.inl ⟨by kernel_rfl, ?_⟩) (by assumption) ?_
        rotate_left
        · intro w _
          first | (go_simp; done) | (go_simp; with_reducible rfl)
        try simp only [Act.put, List.setIfInBounds_toArray, List.set_cons_zero, List.set_cons_succ]
        refine wpAnyH_take (i := 5) (oi := { dst := some 73, op := Go.Op.move (Go.Operand.tmp 72), type := 4, pos := "keeps.go:26", after := #[{ on := 4, ground := Go.Ground.data }, { on := 1, ground := Go.Ground.chain }], guard := none }) (v := ?_) rfl (by kernel_rfl) (by kernel_rfl) (by kernel_rfl) (fun _ _ _ h => h) (Or.inl ⟨by kernel_rfl, ?_⟩) (by assumption) ?_
        rotate_left
        · intro w _
          first | (go_simp; done) | (go_simp; with_reducible rfl)
        try simp only [Act.put, List.setIfInBounds_toArray, List.set_cons_zero, List.set_cons_succ]
        refine wpAnyH_take (i := 6) (oi := { dst := some 74, op := Go.Op.load 36 (Go.Operand.tmp 8), type := 36, pos := "keeps.go:26", after := #[{ on := 5, ground := Go.Ground.guard }], guard := some (5, true) }) (v := ?_) rfl (by kernel_rfl) (by kernel_rfl) (by kernel_rfl) (fun _ _ _ h => h) (Or.inl ⟨by kernel_rfl, ?_⟩) (by assumption) ?_
        rotate_left
        · intro w hSw
          (try dsimp only at hSw)
          go_split_ands
          first | (go_simp; done) | (go_simp; with_reducible rfl)
        try simp only [Act.put, List.setIfInBounds_toArray, List.set_cons_zero, List.set_cons_succ]
        refine wpAnyH_take (i := 7) (oi := { dst := some 75, op := Go.Op.load 36 (Go.Operand.tmp 12), type := 36, pos := "keeps.go:26", after := #[{ on := 5, ground := Go.Ground.guard }], guard := some (5, true) }) (v := ?_) rfl (by kernel_rfl) (by kernel_rfl) (by kernel_rfl) (fun _ _ _ h => h) (Or.inl ⟨by kernel_rfl, ?_⟩) (by assumption) ?_
        rotate_left
        · intro w hSw
          (try dsimp only at hSw)
          go_split_ands
          first | (go_simp; done) | (go_simp; with_reducible rfl)
        try simp only [Act.put, List.setIfInBounds_toArray, List.set_cons_zero, List.set_cons_succ]
        refine wpAnyH_ready (rs := [8]) (by kernel_rfl) (by simp) ?_
        refine AllReadyH.cons (o := { dst := some 76, op := Go.Op.call { callee := Go.Callee.value (Go.Operand.func 21), args := #[Go.Operand.tmp 74, Go.Operand.tmp 75], argTypes := #[36, 36] }, type := 4, pos := "keeps.go:26", after := #[{ on := 6, ground := Go.Ground.data }, { on := 7, ground := Go.Ground.data }, { on := 5, ground := Go.Ground.chain }, { on := 5, ground := Go.Ground.guard }], guard := some (5, true) }) rfl (fun K hK => ?_) AllReadyH.nil
        go_simp
        go_at_call 21
        refine (SM.out _ (by first | exact S0.2.2.2.2.1 | exact Sc1.2.2.2.2.1 | exact Sc2.2.2.2.2.1 | exact Sc3.2.2.2.2.1 | exact Sc4.2.2.2.2.1) (by first | exact S0.2.2.2.2.2.1 | exact Sc1.2.2.2.2.2.1)).mono ?_
        rintro _ wc1 ⟨rfl, hb3⟩
        have Sc1 := HS.out _ _ (by assumption) hb3
        refine hK.out _ _ Sc1 (fun _ => ?_)
        clear hK K hb3
        try simp only [Act.put, List.setIfInBounds_toArray, List.set_cons_zero, List.set_cons_succ]
        refine wpAnyH_take (i := 9) (oi := { dst := some 77, op := Go.Op.pick (Go.Operand.tmp 73) (Go.Operand.tmp 76) (Go.Operand.const (Go.Value.bool false)), type := 4, pos := "keeps.go:26", after := #[{ on := 5, ground := Go.Ground.data }, { on := 8, ground := Go.Ground.data }], guard := none }) (v := ?_) rfl (by kernel_rfl) (by kernel_rfl) (by kernel_rfl) (fun _ _ _ h => h) (Or.inl ⟨by kernel_rfl, ?_⟩) (by assumption) ?_
        rotate_left
        · intro w _
          first | (go_simp; done) | (go_simp; with_reducible rfl)
        try simp only [Act.put, List.setIfInBounds_toArray, List.set_cons_zero, List.set_cons_succ]
        refine wpAnyH_take (i := 10) (oi := { dst := some 78, op := Go.Op.move (Go.Operand.tmp 77), type := 4, pos := "keeps.go:26", after := #[{ on := 9, ground := Go.Ground.data }, { on := 8, ground := Go.Ground.chain }], guard := none }) (v := ?_) rfl (by kernel_rfl) (by kernel_rfl) (by kernel_rfl) (fun _ _ _ h => h) (Or.inl ⟨by kernel_rfl, ?_⟩) (by assumption) ?_
        rotate_left
        · intro w _
          first | (go_simp; done) | (go_simp; with_reducible rfl)
        try simp only [Act.put, List.setIfInBounds_toArray, List.set_cons_zero, List.set_cons_succ]
        refine wpAnyH_take (i := 11) (oi := { dst := some 79, op := Go.Op.move (Go.Operand.tmp 13), type := 3, pos := "keeps.go:26", after := #[{ on := 10, ground := Go.Ground.guard }], guard := some (10, true) }) (v := ?_) rfl (by kernel_rfl) (by kernel_rfl) (by kernel_rfl) (fun _ _ _ h => h) (Or.inl ⟨by kernel_rfl, ?_⟩) (by assumption) ?_
        rotate_left
        · intro w _
          first | (go_simp; done) | (go_simp; with_reducible rfl)
        try simp only [Act.put, List.setIfInBounds_toArray, List.set_cons_zero, List.set_cons_succ]
        refine wpAnyH_take (i := 12) (oi := { dst := some 80, op := Go.Op.move (Go.Operand.tmp 11), type := 9, pos := "keeps.go:26", after := #[{ on := 10, ground := Go.Ground.guard }], guard := some (10, true) }) (v := ?_) rfl (by kernel_rfl) (by kernel_rfl) (by kernel_rfl) (fun _ _ _ h => h) (Or.inl ⟨by kernel_rfl, ?_⟩) (by assumption) ?_
        rotate_left
        · intro w _
          first | (go_simp; done) | (go_simp; with_reducible rfl)
        try simp only [Act.put, List.setIfInBounds_toArray, List.set_cons_zero, List.set_cons_succ]
        refine wpAnyH_take (i := 13) (oi := { dst := some 81, op := Go.Op.call { callee := Go.Callee.builtin Go.Builtin.len, args := #[Go.Operand.tmp 80], argTypes := #[9] }, type := 3, pos := "keeps.go:26", after := #[{ on := 12, ground := Go.Ground.data }, { on := 10, ground := Go.Ground.guard }], guard := some (10, true) }) (v := ?_) rfl (by kernel_rfl) (by kernel_rfl) (by kernel_rfl) (fun _ _ _ h => h) (Or.inl ⟨by kernel_rfl, ?_⟩) (by assumption) ?_
        rotate_left
        · intro w _
          first | (go_simp; done) | (go_simp; with_reducible rfl)
        try simp only [Act.put, List.setIfInBounds_toArray, List.set_cons_zero, List.set_cons_succ]
        refine wpAnyH_take (i := 14) (oi := { dst := some 82, op := Go.Op.binOp Go.BinOp.eql 3 (Go.Operand.tmp 79) (Go.Operand.tmp 81) 3, type := 4, pos := "keeps.go:26", after := #[{ on := 11, ground := Go.Ground.data }, { on := 13, ground := Go.Ground.data }, { on := 10, ground := Go.Ground.guard }], guard := some (10, true) }) (v := ?_) rfl (by kernel_rfl) (by kernel_rfl) (by kernel_rfl) (fun _ _ _ h => h) (Or.inl ⟨by kernel_rfl, ?_⟩) (by assumption) ?_
        rotate_left
        · intro w _
          first | (go_simp; done) | (go_simp; with_reducible rfl)
        try simp only [Act.put, List.setIfInBounds_toArray, List.set_cons_zero, List.set_cons_succ]
        refine wpAnyH_take (i := 15) (oi := { dst := some 83, op := Go.Op.pick (Go.Operand.tmp 78) (Go.Operand.tmp 82) (Go.Operand.const (Go.Value.bool false)), type := 4, pos := "keeps.go:26", after := #[{ on := 10, ground := Go.Ground.data }, { on := 14, ground := Go.Ground.data }], guard := none }) (v := ?_) rfl (by kernel_rfl) (by kernel_rfl) (by kernel_rfl) (fun _ _ _ h => h) (Or.inl ⟨by kernel_rfl, ?_⟩) (by assumption) ?_
        rotate_left
        · intro w _
          first | (go_simp; done) | (go_simp; with_reducible rfl)
        try simp only [Act.put, List.setIfInBounds_toArray, List.set_cons_zero, List.set_cons_succ]
        refine wpAnyH_take (i := 16) (oi := { dst := some 84, op := Go.Op.move (Go.Operand.tmp 83), type := 4, pos := "keeps.go:26", after := #[{ on := 15, ground := Go.Ground.data }, { on := 10, ground := Go.Ground.chain }], guard := none }) (v := ?_) rfl (by kernel_rfl) (by kernel_rfl) (by kernel_rfl) (fun _ _ _ h => h) (Or.inl ⟨by kernel_rfl, ?_⟩) (by assumption) ?_
        rotate_left
        · intro w _
          first | (go_simp; done) | (go_simp; with_reducible rfl)
        try simp only [Act.put, List.setIfInBounds_toArray, List.set_cons_zero, List.set_cons_succ]
        refine wpAnyH_take (i := 17) (oi := { dst := some 85, op := Go.Op.load 36 (Go.Operand.tmp 12), type := 36, pos := "keeps.go:26", after := #[{ on := 16, ground := Go.Ground.guard }], guard := some (16, true) }) (v := ?_) rfl (by kernel_rfl) (by kernel_rfl) (by kernel_rfl) (fun _ _ _ h => h) (Or.inl ⟨by kernel_rfl, ?_⟩) (by assumption) ?_
        rotate_left
        · intro w hSw
          (try dsimp only at hSw)
          go_split_ands
          first | (go_simp; done) | (go_simp; with_reducible rfl)
        try simp only [Act.put, List.setIfInBounds_toArray, List.set_cons_zero, List.set_cons_succ]
        refine wpAnyH_take (i := 19) (oi := { dst := some 87, op := Go.Op.move (Go.Operand.tmp 11), type := 9, pos := "keeps.go:26", after := #[{ on := 16, ground := Go.Ground.guard }], guard := some (16, true) }) (v := ?_) rfl (by kernel_rfl) (by kernel_rfl) (by kernel_rfl) (fun _ _ _ h => h) (Or.inl ⟨by kernel_rfl, ?_⟩) (by assumption) ?_
        rotate_left
        · intro w _
          first | (go_simp; done) | (go_simp; with_reducible rfl)
        try simp only [Act.put, List.setIfInBounds_toArray, List.set_cons_zero, List.set_cons_succ]
        refine wpAnyH_ready (rs := [18]) (by kernel_rfl) (by simp) ?_
        refine AllReadyH.cons (o := { dst := some 86, op := Go.Op.call { callee := Go.Callee.value (Go.Operand.func 19), args := #[Go.Operand.tmp 85], argTypes := #[36] }, type := 9, pos := "keeps.go:26", after := #[{ on := 17, ground := Go.Ground.data }, { on := 16, ground := Go.Ground.chain }, { on := 16, ground := Go.Ground.guard }], guard := some (16, true) }) rfl (fun K hK => ?_) AllReadyH.nil
        go_simp
        go_at_call 19
        refine (PM.out _ (by first | exact S0.2.2.2.2.2.1 | exact Sc1.2.2.2.2.2.1 | exact Sc2.2.2.2.2.2.1 | exact Sc3.2.2.2.2.2.1 | exact Sc4.2.2.2.2.2.1 | exact Sc5.2.2.2.2.2.1 | exact Sc6.2.2.2.2.2.1) (by first | exact S0.2.2.2.2.2.2 | exact Sc1.2.2.2.2.2.2 | exact Sc2.2.2.2.2.2.2)).mono ?_
        rintro _ wc2 ⟨rfl, hb3⟩
        have Sc2 := HS.out _ _ (by assumption) hb3
        refine hK.out _ _ Sc2 (fun _ => ?_)
        clear hK K hb3
        try simp only [Act.put, List.setIfInBounds_toArray, List.set_cons_zero, List.set_cons_succ]
        refine wpAnyH_take (i := 20) (oi := { dst := some 88, op := Go.Op.binOp Go.BinOp.eql 9 (Go.Operand.tmp 86) (Go.Operand.tmp 87) 9, type := 4, pos := "keeps.go:26", after := #[{ on := 18, ground := Go.Ground.data }, { on := 19, ground := Go.Ground.data }, { on := 16, ground := Go.Ground.guard }], guard := some (16, true) }) (v := ?_) rfl (by kernel_rfl) (by kernel_rfl) (by kernel_rfl) (fun _ _ _ h => h) (Or.inl ⟨by kernel_rfl, ?_⟩) (by assumption) ?_
        rotate_left
        · intro w _
          first | (go_simp; done) | (go_simp; with_reducible rfl)
        try simp only [Act.put, List.setIfInBounds_toArray, List.set_cons_zero, List.set_cons_succ]
        refine wpAnyH_take (i := 21) (oi := { dst := some 89, op := Go.Op.pick (Go.Operand.tmp 84) (Go.Operand.tmp 88) (Go.Operand.const (Go.Value.bool false)), type := 4, pos := "keeps.go:26", after := #[{ on := 16, ground := Go.Ground.data }, { on := 20, ground := Go.Ground.data }], guard := none }) (v := ?_) rfl (by kernel_rfl) (by kernel_rfl) (by kernel_rfl) (fun _ _ _ h => h) (Or.inl ⟨by kernel_rfl, ?_⟩) (by assumption) ?_
        rotate_left
        · intro w _
          first | (go_simp; done) | (go_simp; with_reducible rfl)
        try simp only [Act.put, List.setIfInBounds_toArray, List.set_cons_zero, List.set_cons_succ]
        refine wpAnyH_take (i := 22) (oi := { dst := some 90, op := Go.Op.move (Go.Operand.tmp 89), type := 4, pos := "keeps.go:26", after := #[{ on := 21, ground := Go.Ground.data }, { on := 18, ground := Go.Ground.chain }], guard := none }) (v := ?_) rfl (by kernel_rfl) (by kernel_rfl) (by kernel_rfl) (fun _ _ _ h => h) (Or.inl ⟨by kernel_rfl, ?_⟩) (by assumption) ?_
        rotate_left
        · intro w _
          first | (go_simp; done) | (go_simp; with_reducible rfl)
        try simp only [Act.put, List.setIfInBounds_toArray, List.set_cons_zero, List.set_cons_succ]
        refine wpAnyH_take (i := 23) (oi := { dst := some 91, op := Go.Op.load 36 (Go.Operand.tmp 8), type := 36, pos := "keeps.go:26", after := #[{ on := 22, ground := Go.Ground.guard }], guard := some (22, true) }) (v := ?_) rfl (by kernel_rfl) (by kernel_rfl) (by kernel_rfl) (fun _ _ _ h => h) (Or.inl ⟨by kernel_rfl, ?_⟩) (by assumption) ?_
        rotate_left
        · intro w hSw
          (try dsimp only at hSw)
          go_split_ands
          first | (go_simp; done) | (go_simp; with_reducible rfl)
        try simp only [Act.put, List.setIfInBounds_toArray, List.set_cons_zero, List.set_cons_succ]
        refine wpAnyH_ready (rs := [24]) (by kernel_rfl) (by simp) ?_
        refine AllReadyH.cons (o := { dst := some 92, op := Go.Op.call { callee := Go.Callee.value (Go.Operand.func 20), args := #[Go.Operand.tmp 91], argTypes := #[36] }, type := 4, pos := "keeps.go:26", after := #[{ on := 23, ground := Go.Ground.data }, { on := 22, ground := Go.Ground.chain }, { on := 22, ground := Go.Ground.guard }], guard := some (22, true) }) rfl (fun K hK => ?_) AllReadyH.nil
        go_simp
        go_at_call 20
        refine (RM.out _ (by first | exact S0.2.2.2.2.1 | exact Sc1.2.2.2.2.1 | exact Sc2.2.2.2.2.1 | exact Sc3.2.2.2.2.1 | exact Sc4.2.2.2.2.1 | exact Sc5.2.2.2.2.1 | exact Sc6.2.2.2.2.1)).mono ?_
        rintro _ wc3 ⟨rfl, hb3⟩
        have Sc3 := HS.out _ _ (by assumption) hb3
        refine hK.out _ _ Sc3 (fun _ => ?_)
        clear hK K hb3
        try simp only [Act.put, List.setIfInBounds_toArray, List.set_cons_zero, List.set_cons_succ]
        refine wpAnyH_take (i := 25) (oi := { dst := some 93, op := Go.Op.pick (Go.Operand.tmp 90) (Go.Operand.tmp 92) (Go.Operand.const (Go.Value.bool false)), type := 4, pos := "keeps.go:26", after := #[{ on := 22, ground := Go.Ground.data }, { on := 24, ground := Go.Ground.data }], guard := none }) (v := ?_) rfl (by kernel_rfl) (by kernel_rfl) (by kernel_rfl) (fun _ _ _ h => h) (Or.inl ⟨by kernel_rfl, ?_⟩) (by assumption) ?_
        rotate_left
        · intro w _
          first | (go_simp; done) | (go_simp; with_reducible rfl)
        try simp only [Act.put, List.setIfInBounds_toArray, List.set_cons_zero, List.set_cons_succ]
        refine wpAnyH_take (i := 26) (oi := { dst := some 94, op := Go.Op.move (Go.Operand.tmp 93), type := 4, pos := "keeps.go:26", after := #[{ on := 25, ground := Go.Ground.data }, { on := 24, ground := Go.Ground.chain }], guard := none }) (v := ?_) rfl (by kernel_rfl) (by kernel_rfl) (by kernel_rfl) (fun _ _ _ h => h) (Or.inl ⟨by kernel_rfl, ?_⟩) (by assumption) ?_
        rotate_left
        · intro w _
          first | (go_simp; done) | (go_simp; with_reducible rfl)
        try simp only [Act.put, List.setIfInBounds_toArray, List.set_cons_zero, List.set_cons_succ]
        refine wpAnyH_take (i := 27) (oi := { dst := some 95, op := Go.Op.load 36 (Go.Operand.tmp 8), type := 36, pos := "keeps.go:26", after := #[{ on := 26, ground := Go.Ground.guard }], guard := some (26, true) }) (v := ?_) rfl (by kernel_rfl) (by kernel_rfl) (by kernel_rfl) (fun _ _ _ h => h) (Or.inl ⟨by kernel_rfl, ?_⟩) (by assumption) ?_
        rotate_left
        · intro w hSw
          (try dsimp only at hSw)
          go_split_ands
          first | (go_simp; done) | (go_simp; with_reducible rfl)
        try simp only [Act.put, List.setIfInBounds_toArray, List.set_cons_zero, List.set_cons_succ]
        refine wpAnyH_take (i := 29) (oi := { dst := some 97, op := Go.Op.load 36 (Go.Operand.tmp 12), type := 36, pos := "keeps.go:26", after := #[{ on := 26, ground := Go.Ground.guard }], guard := some (26, true) }) (v := ?_) rfl (by kernel_rfl) (by kernel_rfl) (by kernel_rfl) (fun _ _ _ h => h) (Or.inl ⟨by kernel_rfl, ?_⟩) (by assumption) ?_
        rotate_left
        · intro w hSw
          (try dsimp only at hSw)
          go_split_ands
          first | (go_simp; done) | (go_simp; with_reducible rfl)
        try simp only [Act.put, List.setIfInBounds_toArray, List.set_cons_zero, List.set_cons_succ]
        refine wpAnyH_ready (rs := [28]) (by kernel_rfl) (by simp) ?_
        refine AllReadyH.cons (o := { dst := some 96, op := Go.Op.call { callee := Go.Callee.value (Go.Operand.func 22), args := #[Go.Operand.tmp 95], argTypes := #[36] }, type := 3, pos := "keeps.go:26", after := #[{ on := 27, ground := Go.Ground.data }, { on := 26, ground := Go.Ground.chain }, { on := 26, ground := Go.Ground.guard }], guard := some (26, true) }) rfl (fun K hK => ?_) AllReadyH.nil
        go_simp
        go_at_call 22
        refine (Z4.out _ (by first | exact S0.2.2.2.2.1 | exact Sc1.2.2.2.2.1 | exact Sc2.2.2.2.2.1 | exact Sc3.2.2.2.2.1 | exact Sc4.2.2.2.2.1 | exact Sc5.2.2.2.2.1 | exact Sc6.2.2.2.2.1)).mono ?_
        rintro _ wc4 ⟨rfl, hb3⟩
        have Sc4 := HS.out _ _ (by assumption) hb3
        refine hK.out _ _ Sc4 (fun _ => ?_)
        clear hK K hb3
        try simp only [Act.put, List.setIfInBounds_toArray, List.set_cons_zero, List.set_cons_succ]
        refine wpAnyH_ready (rs := [30]) (by kernel_rfl) (by simp) ?_
        refine AllReadyH.cons (o := { dst := some 98, op := Go.Op.call { callee := Go.Callee.value (Go.Operand.func 22), args := #[Go.Operand.tmp 97], argTypes := #[36] }, type := 3, pos := "keeps.go:26", after := #[{ on := 29, ground := Go.Ground.data }, { on := 28, ground := Go.Ground.chain }, { on := 26, ground := Go.Ground.guard }], guard := some (26, true) }) rfl (fun K hK => ?_) AllReadyH.nil
        go_simp
        go_at_call 22
        refine (Z6.out _ (by first | exact S0.2.2.2.2.2.1 | exact Sc1.2.2.2.2.2.1 | exact Sc2.2.2.2.2.2.1 | exact Sc3.2.2.2.2.2.1 | exact Sc4.2.2.2.2.2.1 | exact Sc5.2.2.2.2.2.1 | exact Sc6.2.2.2.2.2.1)).mono ?_
        rintro _ wc5 ⟨rfl, hb3⟩
        have Sc5 := HS.out _ _ (by assumption) hb3
        refine hK.out _ _ Sc5 (fun _ => ?_)
        clear hK K hb3
        try simp only [Act.put, List.setIfInBounds_toArray, List.set_cons_zero, List.set_cons_succ]
        refine wpAnyH_take (i := 31) (oi := { dst := some 99, op := Go.Op.binOp Go.BinOp.eql 3 (Go.Operand.tmp 96) (Go.Operand.tmp 98) 3, type := 4, pos := "keeps.go:26", after := #[{ on := 28, ground := Go.Ground.data }, { on := 30, ground := Go.Ground.data }, { on := 26, ground := Go.Ground.guard }], guard := some (26, true) }) (v := ?_) rfl (by kernel_rfl) (by kernel_rfl) (by kernel_rfl) (fun _ _ _ h => h) (Or.inl ⟨by kernel_rfl, ?_⟩) (by assumption) ?_
        rotate_left
        · intro w _
          first | (go_simp; done) | (go_simp; with_reducible rfl)
        try simp only [Act.put, List.setIfInBounds_toArray, List.set_cons_zero, List.set_cons_succ]
        refine wpAnyH_take (i := 32) (oi := { dst := some 100, op := Go.Op.pick (Go.Operand.tmp 94) (Go.Operand.tmp 99) (Go.Operand.const (Go.Value.bool false)), type := 4, pos := "keeps.go:26", after := #[{ on := 26, ground := Go.Ground.data }, { on := 31, ground := Go.Ground.data }], guard := none }) (v := ?_) rfl (by kernel_rfl) (by kernel_rfl) (by kernel_rfl) (fun _ _ _ h => h) (Or.inl ⟨by kernel_rfl, ?_⟩) (by assumption) ?_
        rotate_left
        · intro w _
          first | (go_simp; done) | (go_simp; with_reducible rfl)
        try simp only [Act.put, List.setIfInBounds_toArray, List.set_cons_zero, List.set_cons_succ]
        refine wpAnyH_take (i := 33) (oi := { dst := some 6, op := Go.Op.assign (Go.Operand.tmp 100), type := 4, pos := "keeps.go:26", after := #[{ on := 32, ground := Go.Ground.data }, { on := 30, ground := Go.Ground.chain }, { on := 0, ground := Go.Ground.phase }, { on := 1, ground := Go.Ground.phase }, { on := 2, ground := Go.Ground.phase }, { on := 3, ground := Go.Ground.phase }, { on := 4, ground := Go.Ground.phase }, { on := 5, ground := Go.Ground.phase }, { on := 6, ground := Go.Ground.phase }, { on := 7, ground := Go.Ground.phase }, { on := 8, ground := Go.Ground.phase }, { on := 9, ground := Go.Ground.phase }, { on := 10, ground := Go.Ground.phase }, { on := 11, ground := Go.Ground.phase }, { on := 12, ground := Go.Ground.phase }, { on := 13, ground := Go.Ground.phase }, { on := 14, ground := Go.Ground.phase }, { on := 15, ground := Go.Ground.phase }, { on := 16, ground := Go.Ground.phase }, { on := 17, ground := Go.Ground.phase }, { on := 18, ground := Go.Ground.phase }, { on := 19, ground := Go.Ground.phase }, { on := 20, ground := Go.Ground.phase }, { on := 21, ground := Go.Ground.phase }, { on := 22, ground := Go.Ground.phase }, { on := 23, ground := Go.Ground.phase }, { on := 24, ground := Go.Ground.phase }, { on := 25, ground := Go.Ground.phase }, { on := 26, ground := Go.Ground.phase }, { on := 27, ground := Go.Ground.phase }, { on := 28, ground := Go.Ground.phase }, { on := 29, ground := Go.Ground.phase }, { on := 30, ground := Go.Ground.phase }, { on := 31, ground := Go.Ground.phase }, { on := 32, ground := Go.Ground.phase }], guard := none }) (v := ?_) rfl (by kernel_rfl) (by kernel_rfl) (by kernel_rfl) (fun _ _ _ h => h) (Or.inl ⟨by kernel_rfl, ?_⟩) (by assumption) ?_
        rotate_left
        · intro w _
          first | (go_simp; done) | (go_simp; with_reducible rfl)
        try simp only [Act.put, List.setIfInBounds_toArray, List.set_cons_zero, List.set_cons_succ]
        refine wpAnyH_done (by kernel_rfl) ?_ _
        clear HS hHeld
        go_wp2
        go_ret
        first | exact ⟨by first | rfl | decide | simp, Sc5.2.2.2.2.2.2⟩ | exact ⟨by first | rfl | decide | simp, Sc6.2.2.2.2.2.2⟩
    · have hf := parse_fault HP4.out hr
      have hrb : (r4 == 0) = false := beq_eq_false_iff_ne.2 hr
      have hkd : x4.kind = 0 := by rw [← NodeX.t_kind, hf.1]; rfl
      have hn := HN0.out hf.1
      have hy0 : 0 ≤ y4 := hf.2.1
      have hy1 : y4 ≤ (s.size : Int) := by have := hf.2.2; rw [size_toList] at this; exact this
      have hy2 : y4 ≥ 0 := hy0
      have hmx : max (s.size : Int) 0 = (s.size : Int) := by omega
      rw [hkd] at c0
      rw [hn] at c7
      clear hf
      have hv := HV4.out
      rw [hkd, hn] at hv
      have HVV := Lib.hid hv
      clear hv
      go_wp2
      go_ret
      rw [HVV.out]
      exact ⟨by first | rfl | decide | (simp; done) | (simp; omega), HB4.out⟩
end Go.Proofs.YtojjeignijpiaaaGreatDoor
