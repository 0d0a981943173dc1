/- Labels turned round in place; the first of a set, copied: the walks of slices.Reverse and slices.Clone. -/
import Derived.Test.YtimmfmgnjpcdoaaSymOf
namespace Go.Proofs.Ytimmfmgnjpcdoaa.Sy
open Go.RowKit Go.Sort
set_option linter.unusedVariables false
set_option linter.unusedSimpArgs false

/-- what stands at k while a row of n is turned round, i places from each end being done -/
def revAt (L : List (KeyP PairB)) (n i k : Nat) : KeyP PairB := if k < n ∧ (k < i ∨ n ≤ k + i) then getP L (n - 1 - k) else getP L k
theorem revAt_next {L L1 : List (KeyP PairB)} {n i j : Nat} (h : ∀ k, getP L1 k = revAt L n i k) (hj : i + j + 1 = n) (hij : i < j) (hl : L1.length = n) : ∀ k, getP (swapP L1 i j) k = revAt L n (i + 1) k := by
  intro k
  rw [getP_swap (by omega) (by omega), h, h, h]
  unfold revAt
  repeat' split
  all_goals first | with_reducible rfl | (exfalso; omega) | (congr 1; omega)
theorem revAt_end {L L1 : List (KeyP PairB)} {n i : Nat} (h : ∀ k, getP L1 k = revAt L n i k) (hi : n ≤ 2 * i + 1) (hi2 : 2 * i ≤ n) (hl : L1.length = n) (hL : L.length = n) : L1 = L.reverse := by
  apply List.ext_getElem
  · rw [List.length_reverse, hl, hL]
  · intro k h1 h2
    rw [(getP_at h1).symm, h k, List.getElem_reverse, (getP_at (by omega)).symm]
    unfold revAt
    split
    · congr 1
      omega
    · congr 1
      omega
set_option maxRecDepth 100000 in
set_option maxHeartbeats 1600000 in
theorem reverse0_any (g cap n : Nat) (L : List (KeyP PairB)) (hn : L.length = n) (hN : n ≤ 1000000) (w : World) (h : SortW w g L) :
    Calls Try.prog 30 #[.slice (some ⟨g, 0, none⟩) n cap] w fun e w' => e = .returned (.tuple #[]) ∧ SortW w' g L.reverse ∧ FG g w w' := by
  have HS0 := Lib.hid h
  have HN := Lib.hid hn
  obtain ⟨z, hz⟩ : ∃ z : Int, z = (n : Int) - 1 := ⟨_, rfl⟩
  have hzI : (n : Int) - 1 = z := hz.symm
  have hzW : IntKind.i64.wrap z = z := by rw [IntKind.wrap_i64]; omega
  have HZ := Lib.hid (show (z : Int) + 0 + 1 = n by omega)
  clear h hn hz
  go_enter Try.func30, Try.ntmps30
  go_wp2
  clear hzI hzW
  go_loopw [2, 3] (fun iv jv wr => ∃ (i : Nat) (z : Int) (L1 : List (KeyP PairB)), iv = .int .i64 (i : Int) ∧ jv = .int .i64 z ∧ Hid (z + (i : Int) + 1 = n) ∧ Hid (2 * i ≤ n) ∧ Hid (SortW wr g L1) ∧ Hid (L1.length = n) ∧ Hid (∀ k, getP L1 k = revAt L n i k) ∧ Hid (FG g w wr)) (fun iv _ _ => n - (intOf iv).toNat)
  case atStart => exact ⟨0, z, L, rfl, rfl, by first | exact HZ | (have := HZ.out; exact Lib.hid (by omega)), Lib.hid (by omega), HS0, HN, Lib.hid (fun k => by unfold revAt; rw [if_neg (by omega)]), Lib.hid (FG.refl _ _)⟩
  case round =>
    clear HZ
    obtain ⟨i, z, L1, rfl, rfl, HZ, HI, HS, HL, HQ, HG⟩ := hrel
    have hz := HZ.out
    have hi2 := HI.out
    by_cases hij : (i : Int) < z
    · obtain ⟨j, rfl⟩ : ∃ j : Nat, z = (j : Int) := ⟨z.toNat, by omega⟩
      have hx : i < L1.length := by rw [HL.out]; omega
      have hy : j < L1.length := by rw [HL.out]; omega
      have hin : (i : Int) < (n : Int) := by omega
      have hjn : (j : Int) < (n : Int) := by omega
      have hwi : IntKind.i64.wrap ((i : Int) + 1) = (i : Int) + 1 := by rw [IntKind.wrap_i64]; omega
      have hwj : IntKind.i64.wrap ((j : Int) - 1) = (j : Int) - 1 := by rw [IntKind.wrap_i64]; omega
      have HIJ := Lib.hid (show i + j + 1 = n ∧ i < j by omega)
      have HXY := Lib.hid (And.intro hx hy)
      have HF := Lib.hid (swap_state HS.out hx hy)
      obtain ⟨cur, hB, hs, hcl⟩ := HS.out
      obtain ⟨cx1, cx2⟩ := hcl i hx
      obtain ⟨cy1, cy2⟩ := hcl j hy
      have dx1 : wr.cell? ⟨g, i * 2, none⟩ = some (.string (getP L1 i).it.1) := (hB.cell (i * 2)).trans cx1
      have dx2 : wr.cell? ⟨g, i * 2 + 1, none⟩ = some (.string (getP L1 i).it.2) := (hB.cell (i * 2 + 1)).trans cx2
      have dy1 : wr.cell? ⟨g, j * 2, none⟩ = some (.string (getP L1 j).it.1) := (hB.cell (j * 2)).trans cy1
      have dy2 : wr.cell? ⟨g, j * 2 + 1, none⟩ = some (.string (getP L1 j).it.2) := (hB.cell (j * 2 + 1)).trans cy2
      obtain ⟨px, hpx⟩ : ∃ p, (getP L1 i).it = p := ⟨_, rfl⟩
      obtain ⟨py, hpy⟩ : ∃ p, (getP L1 j).it = p := ⟨_, rfl⟩
      rw [hpx] at dx1 dx2 HF
      rw [hpy] at dy1 dy2 HF
      obtain ⟨sx, tx⟩ := px
      obtain ⟨sy, ty⟩ := py
      dsimp only at dx1 dx2 dy1 dy2
      have fx1 := hB.frozen (i * 2)
      have fx2 := hB.frozen (i * 2 + 1)
      have fy1 := hB.frozen (j * 2)
      have fy2 := hB.frozen (j * 2 + 1)
      have B2 := (hB.set_ (i * 2) (.string sy)).set_ (i * 2 + 1) (.string ty)
      have B3 := B2.set_ (j * 2) (.string sx)
      obtain ⟨y1, d1⟩ : ∃ yy, ((wr.setCell ⟨g, i * 2, none⟩ (.string sy)).setCell ⟨g, i * 2 + 1, none⟩ (.string ty)).drew.cell? ⟨g, j * 2, none⟩ = some yy :=
        ⟨_, ((B2.drewN 1).cell (j * 2)).trans (Array.getElem?_eq_getElem (by rw [Array.size_setIfInBounds, Array.size_setIfInBounds]; omega))⟩
      have e1 : ((wr.setCell ⟨g, i * 2, none⟩ (.string sy)).setCell ⟨g, i * 2 + 1, none⟩ (.string ty)).drew.frozen? ⟨g, j * 2, none⟩ = false := (B2.drewN 1).frozen (j * 2)
      obtain ⟨y2, d2⟩ : ∃ yy, (((wr.setCell ⟨g, i * 2, none⟩ (.string sy)).setCell ⟨g, i * 2 + 1, none⟩ (.string ty)).setCell ⟨g, j * 2, none⟩ (.string sx)).drew.cell? ⟨g, j * 2 + 1, none⟩ = some yy :=
        ⟨_, ((B3.drewN 1).cell (j * 2 + 1)).trans (Array.getElem?_eq_getElem (by rw [Array.size_setIfInBounds, Array.size_setIfInBounds, Array.size_setIfInBounds]; omega))⟩
      have e2 : (((wr.setCell ⟨g, i * 2, none⟩ (.string sy)).setCell ⟨g, i * 2 + 1, none⟩ (.string ty)).setCell ⟨g, j * 2, none⟩ (.string sx)).drew.frozen? ⟨g, j * 2 + 1, none⟩ = false := (B3.drewN 1).frozen (j * 2 + 1)
      have S0 : True := trivial
      clear hB hs hcl cx1 cx2 cy1 cy2 hpx hpy B2 B3
      clear hx hy hz hi2
      go_wp2_with fail
      refine wp_region_held_drew (S := fun w' => True) (by kernel_rfl) S0 (fun hHeld => ?_)
      refine wpAnyH_take (i := 0) (oi := { dst := some 14, op := Go.Op.move (Go.Operand.tmp 0), type := 26, pos := "slices.go:485", after := #[], guard := none }) (v := ?_) rfl (by kernel_rfl) (by kernel_rfl) (by kernel_rfl) (fun _ _ _ h => h) (Or.inl ⟨by kernel_rfl, ?_⟩) (by assumption) ?_
      rotate_left
      · intro w _
        first | (go_simp; done) | (go_simp; with_reducible rfl)
      try simp only [Act.put, List.setIfInBounds_toArray, List.set_cons_zero, List.set_cons_succ]
      refine wpAnyH_take (i := 1) (oi := { dst := some 15, op := Go.Op.move (Go.Operand.tmp 2), type := 3, pos := "slices.go:485", after := #[], guard := none }) (v := ?_) rfl (by kernel_rfl) (by kernel_rfl) (by kernel_rfl) (fun _ _ _ h => h) (Or.inl ⟨by kernel_rfl, ?_⟩) (by assumption) ?_
      rotate_left
      · intro w _
        first | (go_simp; done) | (go_simp; with_reducible rfl)
      try simp only [Act.put, List.setIfInBounds_toArray, List.set_cons_zero, List.set_cons_succ]
      refine wpAnyH_take (i := 2) (oi := { dst := some 16, op := Go.Op.move (Go.Operand.tmp 0), type := 26, pos := "slices.go:485", after := #[{ on := 13, ground := Go.Ground.gcOnly Go.Departure.lateStores }], guard := none }) (v := ?_) rfl (by kernel_rfl) (by kernel_rfl) (by kernel_rfl) (fun _ _ _ h => h) (Or.inl ⟨by kernel_rfl, ?_⟩) (by assumption) ?_
      rotate_left
      · intro w _
        first | (go_simp; done) | (go_simp; with_reducible rfl)
      try simp only [Act.put, List.setIfInBounds_toArray, List.set_cons_zero, List.set_cons_succ]
      refine wpAnyH_take (i := 3) (oi := { dst := some 17, op := Go.Op.move (Go.Operand.tmp 3), type := 3, pos := "slices.go:485", after := #[{ on := 13, ground := Go.Ground.gcOnly Go.Departure.lateStores }], guard := none }) (v := ?_) rfl (by kernel_rfl) (by kernel_rfl) (by kernel_rfl) (fun _ _ _ h => h) (Or.inl ⟨by kernel_rfl, ?_⟩) (by assumption) ?_
      rotate_left
      · intro w _
        first | (go_simp; done) | (go_simp; with_reducible rfl)
      try simp only [Act.put, List.setIfInBounds_toArray, List.set_cons_zero, List.set_cons_succ]
      refine wpAnyH_take (i := 4) (oi := { dst := some 18, op := Go.Op.move (Go.Operand.tmp 0), type := 26, pos := "slices.go:485", after := #[], guard := none }) (v := ?_) rfl (by kernel_rfl) (by kernel_rfl) (by kernel_rfl) (fun _ _ _ h => h) (Or.inl ⟨by kernel_rfl, ?_⟩) (by assumption) ?_
      rotate_left
      · intro w _
        first | (go_simp; done) | (go_simp; with_reducible rfl)
      try simp only [Act.put, List.setIfInBounds_toArray, List.set_cons_zero, List.set_cons_succ]
      refine wpAnyH_take (i := 5) (oi := { dst := some 19, op := Go.Op.move (Go.Operand.tmp 3), type := 3, pos := "slices.go:485", after := #[], guard := none }) (v := ?_) rfl (by kernel_rfl) (by kernel_rfl) (by kernel_rfl) (fun _ _ _ h => h) (Or.inl ⟨by kernel_rfl, ?_⟩) (by assumption) ?_
      rotate_left
      · intro w _
        first | (go_simp; done) | (go_simp; with_reducible rfl)
      try simp only [Act.put, List.setIfInBounds_toArray, List.set_cons_zero, List.set_cons_succ]
      refine wpAnyH_take (i := 6) (oi := { dst := some 20, op := Go.Op.indexAddr 26 (Go.Operand.tmp 18) (Go.Operand.tmp 19), type := 0, pos := "slices.go:485", after := #[{ on := 4, ground := Go.Ground.data }, { on := 5, ground := Go.Ground.data }], guard := none }) (v := ?_) rfl (by kernel_rfl) (by kernel_rfl) (by kernel_rfl) (fun _ _ _ h => h) (Or.inl ⟨by kernel_rfl, ?_⟩) (by assumption) ?_
      rotate_left
      · intro w _
        first | (go_simp; done) | (go_simp; with_reducible rfl)
      try simp only [Act.put, List.setIfInBounds_toArray, List.set_cons_zero, List.set_cons_succ]
      refine wpAnyH_take (i := 8) (oi := { dst := some 22, op := Go.Op.move (Go.Operand.tmp 0), type := 26, pos := "slices.go:485", after := #[], guard := none }) (v := ?_) rfl (by kernel_rfl) (by kernel_rfl) (by kernel_rfl) (fun _ _ _ h => h) (Or.inl ⟨by kernel_rfl, ?_⟩) (by assumption) ?_
      rotate_left
      · intro w _
        first | (go_simp; done) | (go_simp; with_reducible rfl)
      try simp only [Act.put, List.setIfInBounds_toArray, List.set_cons_zero, List.set_cons_succ]
      refine wpAnyH_take (i := 9) (oi := { dst := some 23, op := Go.Op.move (Go.Operand.tmp 2), type := 3, pos := "slices.go:485", after := #[], guard := none }) (v := ?_) rfl (by kernel_rfl) (by kernel_rfl) (by kernel_rfl) (fun _ _ _ h => h) (Or.inl ⟨by kernel_rfl, ?_⟩) (by assumption) ?_
      rotate_left
      · intro w _
        first | (go_simp; done) | (go_simp; with_reducible rfl)
      try simp only [Act.put, List.setIfInBounds_toArray, List.set_cons_zero, List.set_cons_succ]
      refine wpAnyH_take (i := 10) (oi := { dst := some 24, op := Go.Op.indexAddr 26 (Go.Operand.tmp 22) (Go.Operand.tmp 23), type := 0, pos := "slices.go:485", after := #[{ on := 8, ground := Go.Ground.data }, { on := 9, ground := Go.Ground.data }], guard := none }) (v := ?_) rfl (by kernel_rfl) (by kernel_rfl) (by kernel_rfl) (fun _ _ _ h => h) (Or.inl ⟨by kernel_rfl, ?_⟩) (by assumption) ?_
      rotate_left
      · intro w _
        first | (go_simp; done) | (go_simp; with_reducible rfl)
      try simp only [Act.put, List.setIfInBounds_toArray, List.set_cons_zero, List.set_cons_succ]
      refine wpAnyH_ready (rs := [7, 11]) (by kernel_rfl) (by simp) ?_
      refine AllReadyH.cons (o := { dst := some 21, op := Go.Op.load 39 (Go.Operand.tmp 20), type := 39, pos := "slices.go:485", after := #[{ on := 6, ground := Go.Ground.data }], guard := none }) rfl (fun K hK => ?_) ?_
      ·
        go_simp
        refine hK.out _ _ S0 (fun _ => ?_)
        clear hK K
        try simp only [Act.put, List.setIfInBounds_toArray, List.set_cons_zero, List.set_cons_succ]
        refine wpAnyH_ready (rs := [11]) (by kernel_rfl) (by simp) ?_
        refine AllReadyH.cons (o := { dst := some 25, op := Go.Op.load 39 (Go.Operand.tmp 24), type := 39, pos := "slices.go:485", after := #[{ on := 10, ground := Go.Ground.data }], guard := none }) rfl (fun K hK => ?_) AllReadyH.nil
        go_simp
        refine hK.out _ _ S0 (fun _ => ?_)
        clear hK K
        try simp only [Act.put, List.setIfInBounds_toArray, List.set_cons_zero, List.set_cons_succ]
        refine wpAnyH_take (i := 12) (oi := { dst := some 26, op := Go.Op.indexAddr 26 (Go.Operand.tmp 14) (Go.Operand.tmp 15), type := 0, pos := "slices.go:485", after := #[{ on := 0, ground := Go.Ground.data }, { on := 1, ground := Go.Ground.data }, { on := 0, ground := Go.Ground.phase }, { on := 1, ground := Go.Ground.phase }, { on := 2, ground := Go.Ground.textOnly Go.Departure.lateStores }, { on := 3, ground := Go.Ground.textOnly Go.Departure.lateStores }, { on := 4, ground := Go.Ground.phase }, { on := 5, ground := Go.Ground.phase }, { on := 6, ground := Go.Ground.phase }, { on := 7, ground := Go.Ground.phase }, { on := 8, ground := Go.Ground.textOnly Go.Departure.lateStores }, { on := 9, ground := Go.Ground.textOnly Go.Departure.lateStores }, { on := 10, ground := Go.Ground.textOnly Go.Departure.lateStoresUnsure }, { on := 11, ground := Go.Ground.phase }], guard := none }) (v := ?_) rfl (by kernel_rfl) (by kernel_rfl) (by kernel_rfl) (fun _ _ _ h => h) (Or.inl ⟨by kernel_rfl, ?_⟩) (by assumption) ?_
        rotate_left
        · intro w _
          first | (go_simp; done) | (go_simp; with_reducible rfl)
        try simp only [Act.put, List.setIfInBounds_toArray, List.set_cons_zero, List.set_cons_succ]
        refine wpAnyH_ready (rs := [13]) (by kernel_rfl) (by simp) ?_
        refine AllReadyH.cons (o := { dst := none, op := Go.Op.store 39 (Go.Operand.tmp 26) (Go.Operand.tmp 21), type := 0, pos := "slices.go:485", after := #[{ on := 12, ground := Go.Ground.data }, { on := 7, ground := Go.Ground.data }, { on := 0, ground := Go.Ground.phase }, { on := 1, ground := Go.Ground.phase }, { on := 2, ground := Go.Ground.textOnly Go.Departure.lateStores }, { on := 3, ground := Go.Ground.textOnly Go.Departure.lateStores }, { on := 4, ground := Go.Ground.phase }, { on := 5, ground := Go.Ground.phase }, { on := 6, ground := Go.Ground.phase }, { on := 7, ground := Go.Ground.phase }, { on := 8, ground := Go.Ground.textOnly Go.Departure.lateStores }, { on := 9, ground := Go.Ground.textOnly Go.Departure.lateStores }, { on := 10, ground := Go.Ground.textOnly Go.Departure.lateStoresUnsure }, { on := 11, ground := Go.Ground.phase }], guard := none }) rfl (fun K hK => ?_) AllReadyH.nil
        go_simp
        refine hK.out _ _ S0 (fun _ => ?_)
        clear hK K
        try simp only [Act.put, List.setIfInBounds_toArray, List.set_cons_zero, List.set_cons_succ]
        refine wpAnyH_take (i := 14) (oi := { dst := some 27, op := Go.Op.indexAddr 26 (Go.Operand.tmp 16) (Go.Operand.tmp 17), type := 0, pos := "slices.go:485", after := #[{ on := 2, ground := Go.Ground.data }, { on := 3, ground := Go.Ground.data }, { on := 0, ground := Go.Ground.phase }, { on := 1, ground := Go.Ground.phase }, { on := 2, ground := Go.Ground.phase }, { on := 3, ground := Go.Ground.phase }, { on := 4, ground := Go.Ground.phase }, { on := 5, ground := Go.Ground.phase }, { on := 6, ground := Go.Ground.phase }, { on := 7, ground := Go.Ground.phase }, { on := 8, ground := Go.Ground.phase }, { on := 9, ground := Go.Ground.phase }, { on := 10, ground := Go.Ground.phase }, { on := 11, ground := Go.Ground.phase }, { on := 12, ground := Go.Ground.phase }, { on := 13, ground := Go.Ground.phase }], guard := none }) (v := ?_) rfl (by kernel_rfl) (by kernel_rfl) (by kernel_rfl) (fun _ _ _ h => h) (Or.inl ⟨by kernel_rfl, ?_⟩) (by assumption) ?_
        rotate_left
        · intro w _
          first | (go_simp; done) | (go_simp; with_reducible rfl)
        try simp only [Act.put, List.setIfInBounds_toArray, List.set_cons_zero, List.set_cons_succ]
        refine wpAnyH_ready (rs := [15]) (by kernel_rfl) (by simp) ?_
        refine AllReadyH.cons (o := { dst := none, op := Go.Op.store 39 (Go.Operand.tmp 27) (Go.Operand.tmp 25), type := 0, pos := "slices.go:485", after := #[{ on := 14, ground := Go.Ground.data }, { on := 11, ground := Go.Ground.data }, { on := 13, ground := Go.Ground.chain }, { on := 0, ground := Go.Ground.phase }, { on := 1, ground := Go.Ground.phase }, { on := 2, ground := Go.Ground.phase }, { on := 3, ground := Go.Ground.phase }, { on := 4, ground := Go.Ground.phase }, { on := 5, ground := Go.Ground.phase }, { on := 6, ground := Go.Ground.phase }, { on := 7, ground := Go.Ground.phase }, { on := 8, ground := Go.Ground.phase }, { on := 9, ground := Go.Ground.phase }, { on := 10, ground := Go.Ground.phase }, { on := 11, ground := Go.Ground.phase }, { on := 12, ground := Go.Ground.phase }, { on := 13, ground := Go.Ground.phase }], guard := none }) rfl (fun K hK => ?_) AllReadyH.nil
        go_simp
        refine hK.out _ _ S0 (fun _ => ?_)
        clear hK K
        try simp only [Act.put, List.setIfInBounds_toArray, List.set_cons_zero, List.set_cons_succ]
        refine wpAnyH_done (by kernel_rfl) ?_ _
        go_wp2
        go_round
        case rel =>
          refine ⟨i + 1, (j : Int) - 1, swapP L1 i j, by first | rfl | go_num, by first | rfl | go_num, Lib.hid (by have := HIJ.out; omega), Lib.hid (by have := HIJ.out; omega), Lib.hid HF.out.1, Lib.hid (by rw [swapP_len]; exact HL.out), Lib.hid (revAt_next HQ.out HIJ.out.1 HIJ.out.2 HL.out), Lib.hid (HG.out.trans HF.out.2)⟩
        case measure => simp [intOf]; have := HIJ.out; omega
      refine AllReadyH.cons (o := { dst := some 25, op := Go.Op.load 39 (Go.Operand.tmp 24), type := 39, pos := "slices.go:485", after := #[{ on := 10, ground := Go.Ground.data }], guard := none }) rfl (fun K hK => ?_) AllReadyH.nil
      ·
        go_simp
        refine hK.out _ _ S0 (fun _ => ?_)
        clear hK K
        try simp only [Act.put, List.setIfInBounds_toArray, List.set_cons_zero, List.set_cons_succ]
        refine wpAnyH_ready (rs := [7]) (by kernel_rfl) (by simp) ?_
        refine AllReadyH.cons (o := { dst := some 21, op := Go.Op.load 39 (Go.Operand.tmp 20), type := 39, pos := "slices.go:485", after := #[{ on := 6, ground := Go.Ground.data }], guard := none }) rfl (fun K hK => ?_) AllReadyH.nil
        go_simp
        refine hK.out _ _ S0 (fun _ => ?_)
        clear hK K
        try simp only [Act.put, List.setIfInBounds_toArray, List.set_cons_zero, List.set_cons_succ]
        refine wpAnyH_take (i := 12) (oi := { dst := some 26, op := Go.Op.indexAddr 26 (Go.Operand.tmp 14) (Go.Operand.tmp 15), type := 0, pos := "slices.go:485", after := #[{ on := 0, ground := Go.Ground.data }, { on := 1, ground := Go.Ground.data }, { on := 0, ground := Go.Ground.phase }, { on := 1, ground := Go.Ground.phase }, { on := 2, ground := Go.Ground.textOnly Go.Departure.lateStores }, { on := 3, ground := Go.Ground.textOnly Go.Departure.lateStores }, { on := 4, ground := Go.Ground.phase }, { on := 5, ground := Go.Ground.phase }, { on := 6, ground := Go.Ground.phase }, { on := 7, ground := Go.Ground.phase }, { on := 8, ground := Go.Ground.textOnly Go.Departure.lateStores }, { on := 9, ground := Go.Ground.textOnly Go.Departure.lateStores }, { on := 10, ground := Go.Ground.textOnly Go.Departure.lateStoresUnsure }, { on := 11, ground := Go.Ground.phase }], guard := none }) (v := ?_) rfl (by kernel_rfl) (by kernel_rfl) (by kernel_rfl) (fun _ _ _ h => h) (Or.inl ⟨by kernel_rfl, ?_⟩) (by assumption) ?_
        rotate_left
        · intro w _
          first | (go_simp; done) | (go_simp; with_reducible rfl)
        try simp only [Act.put, List.setIfInBounds_toArray, List.set_cons_zero, List.set_cons_succ]
        refine wpAnyH_ready (rs := [13]) (by kernel_rfl) (by simp) ?_
        refine AllReadyH.cons (o := { dst := none, op := Go.Op.store 39 (Go.Operand.tmp 26) (Go.Operand.tmp 21), type := 0, pos := "slices.go:485", after := #[{ on := 12, ground := Go.Ground.data }, { on := 7, ground := Go.Ground.data }, { on := 0, ground := Go.Ground.phase }, { on := 1, ground := Go.Ground.phase }, { on := 2, ground := Go.Ground.textOnly Go.Departure.lateStores }, { on := 3, ground := Go.Ground.textOnly Go.Departure.lateStores }, { on := 4, ground := Go.Ground.phase }, { on := 5, ground := Go.Ground.phase }, { on := 6, ground := Go.Ground.phase }, { on := 7, ground := Go.Ground.phase }, { on := 8, ground := Go.Ground.textOnly Go.Departure.lateStores }, { on := 9, ground := Go.Ground.textOnly Go.Departure.lateStores }, { on := 10, ground := Go.Ground.textOnly Go.Departure.lateStoresUnsure }, { on := 11, ground := Go.Ground.phase }], guard := none }) rfl (fun K hK => ?_) AllReadyH.nil
        go_simp
        refine hK.out _ _ S0 (fun _ => ?_)
        clear hK K
        try simp only [Act.put, List.setIfInBounds_toArray, List.set_cons_zero, List.set_cons_succ]
        refine wpAnyH_take (i := 14) (oi := { dst := some 27, op := Go.Op.indexAddr 26 (Go.Operand.tmp 16) (Go.Operand.tmp 17), type := 0, pos := "slices.go:485", after := #[{ on := 2, ground := Go.Ground.data }, { on := 3, ground := Go.Ground.data }, { on := 0, ground := Go.Ground.phase }, { on := 1, ground := Go.Ground.phase }, { on := 2, ground := Go.Ground.phase }, { on := 3, ground := Go.Ground.phase }, { on := 4, ground := Go.Ground.phase }, { on := 5, ground := Go.Ground.phase }, { on := 6, ground := Go.Ground.phase }, { on := 7, ground := Go.Ground.phase }, { on := 8, ground := Go.Ground.phase }, { on := 9, ground := Go.Ground.phase }, { on := 10, ground := Go.Ground.phase }, { on := 11, ground := Go.Ground.phase }, { on := 12, ground := Go.Ground.phase }, { on := 13, ground := Go.Ground.phase }], guard := none }) (v := ?_) rfl (by kernel_rfl) (by kernel_rfl) (by kernel_rfl) (fun _ _ _ h => h) (Or.inl ⟨by kernel_rfl, ?_⟩) (by assumption) ?_
        rotate_left
        · intro w _
          first | (go_simp; done) | (go_simp; with_reducible rfl)
        try simp only [Act.put, List.setIfInBounds_toArray, List.set_cons_zero, List.set_cons_succ]
        refine wpAnyH_ready (rs := [15]) (by kernel_rfl) (by simp) ?_
        refine AllReadyH.cons (o := { dst := none, op := Go.Op.store 39 (Go.Operand.tmp 27) (Go.Operand.tmp 25), type := 0, pos := "slices.go:485", after := #[{ on := 14, ground := Go.Ground.data }, { on := 11, ground := Go.Ground.data }, { on := 13, ground := Go.Ground.chain }, { on := 0, ground := Go.Ground.phase }, { on := 1, ground := Go.Ground.phase }, { on := 2, ground := Go.Ground.phase }, { on := 3, ground := Go.Ground.phase }, { on := 4, ground := Go.Ground.phase }, { on := 5, ground := Go.Ground.phase }, { on := 6, ground := Go.Ground.phase }, { on := 7, ground := Go.Ground.phase }, { on := 8, ground := Go.Ground.phase }, { on := 9, ground := Go.Ground.phase }, { on := 10, ground := Go.Ground.phase }, { on := 11, ground := Go.Ground.phase }, { on := 12, ground := Go.Ground.phase }, { on := 13, ground := Go.Ground.phase }], guard := none }) rfl (fun K hK => ?_) AllReadyH.nil
        go_simp
        refine hK.out _ _ S0 (fun _ => ?_)
        clear hK K
        try simp only [Act.put, List.setIfInBounds_toArray, List.set_cons_zero, List.set_cons_succ]
        refine wpAnyH_done (by kernel_rfl) ?_ _
        go_wp2
        go_round
        case rel =>
          refine ⟨i + 1, (j : Int) - 1, swapP L1 i j, by first | rfl | go_num, by first | rfl | go_num, Lib.hid (by have := HIJ.out; omega), Lib.hid (by have := HIJ.out; omega), Lib.hid HF.out.1, Lib.hid (by rw [swapP_len]; exact HL.out), Lib.hid (revAt_next HQ.out HIJ.out.1 HIJ.out.2 HL.out), Lib.hid (HG.out.trans HF.out.2)⟩
        case measure => simp [intOf]; have := HIJ.out; omega
    · have HE := Lib.hid (show L1 = L.reverse from revAt_end HQ.out (by omega) (by omega) HL.out HN.out)
      clear hz hi2
      go_wp2
      refine bodyPost_end (results_none rfl _ _ _) rfl ?_
      exact ⟨rfl, by rw [← HE.out]; exact HS.out, HG.out⟩
theorem reverseNone_any (w : World) :
    Calls Try.prog 30 #[.slice none 0 0] w fun e w' => e = .returned (.tuple #[]) ∧ w' = w := by
  go_enter Try.func30, Try.ntmps30
  go_wp2
  go_loopw [2, 3] (fun iv jv wr => iv = .int .i64 0 ∧ jv = .int .i64 (-1) ∧ wr = w) (fun _ _ _ => 0)
  case atStart => exact ⟨rfl, rfl, rfl⟩
  case round =>
    obtain ⟨rfl, rfl, rfl⟩ := hrel
    go_wp2
    go_end0
    exact ⟨rfl, rfl⟩
theorem tagL_rev (l : List PairB) : ((tagL l).reverse).map (fun x => x.it) = l.reverse := by rw [List.map_reverse, tagL_it]
/-- any slice of labels of the call's own, turned round -/
theorem reverse_any (B : Nat) (v : Value) (l : List PairB) (hn : l.length ≤ 1000000) (W : World) (h : OwnP W B v l) (hB : B ≤ W.heap.size) :
    ∃ A cap, v = .slice A l.length cap ∧ Calls Try.prog 30 #[.slice A l.length cap] W fun e w' => e = .returned (.tuple #[]) ∧ Pairs w' A l.length l.reverse ∧ Below B W w' := by
  rcases own_sortW h with ⟨rfl, rfl⟩ | ⟨g, cap, rfl, hBg, hg, hc, hr⟩
  · refine ⟨none, 0, rfl, (reverseNone_any W).mono ?_⟩
    rintro e w' ⟨rfl, rfl⟩
    exact ⟨rfl, pairs_none _, Below.refl _ _⟩
  · refine ⟨_, cap, rfl, (reverse0_any g cap l.length (tagL l) (tagL_len l) hn W hr).mono ?_⟩
    rintro e w' ⟨rfl, hs, hgr⟩
    have h1 := sortW_pairs hs
    rw [tagL_rev, List.length_reverse] at h1
    exact ⟨rfl, h1, (Below.refl B W).grown hgr.grown hB (fun r hr => by cases hr; exact hBg)⟩
end Go.Proofs.Ytimmfmgnjpcdoaa.Sy
