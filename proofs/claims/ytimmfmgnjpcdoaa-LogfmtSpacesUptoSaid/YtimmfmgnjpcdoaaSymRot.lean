/- Runs of labels that change places; a run put in order by insertion: the walks of swapRange, rotate and insertionSort. -/
import Derived.Test.YtimmfmgnjpcdoaaSymSt
namespace Go.Proofs.Ytimmfmgnjpcdoaa.Sy
open Go.RowKit Go.Sort
set_option linter.unusedVariables false
set_option linter.unusedSimpArgs false

set_option maxRecDepth 100000 in
set_option maxHeartbeats 1600000 in
theorem swapRange_any (g cap : Nat) (L : List (KeyP PairB)) (a b m n : Nat) (hn : L.length = n) (hN : n ≤ 1000000) (hab : a + m ≤ b) (hb : b + m ≤ n) (w : World) (h : SortW w g L) :
    Calls Try.prog 77 #[.slice (some ⟨g, 0, none⟩) n cap, .int .i64 (a : Int), .int .i64 (b : Int), .int .i64 (m : Int), .func (.func 38) #[] #[]] w fun e w' => e = .returned (.tuple #[]) ∧ ∃ L', SortW w' g L' ∧ L'.Perm L ∧ (∀ k, getP L' k = swR L a b m k) ∧ FG g w w' := by
  have HS0 := Lib.hid h
  have HN := Lib.hid hn
  clear h hn
  go_enter Try.func77, Try.ntmps77
  go_wp2
  go_loopw [10] (fun iv wr => ∃ (i : Nat) (L1 : List (KeyP PairB)), i ≤ m ∧ iv = .int .i64 (i : Int) ∧ Hid (SortW wr g L1) ∧ Hid (L1.Perm L) ∧ Hid (∀ k, getP L1 k = swR L a b i k) ∧ Hid (FG g w wr)) (fun iv _ => m - (intOf iv).toNat)
  case atStart => exact ⟨0, L, Nat.zero_le _, rfl, HS0, Lib.hid (List.Perm.refl _), Lib.hid (fun k => by unfold swR; rw [if_neg (by omega), if_neg (by omega)]), Lib.hid (FG.refl _ _)⟩
  case round =>
    obtain ⟨i, L1, him, rfl, HS, HP, HQ, HG⟩ := hrel
    by_cases hi : i < m
    · have hiI : (i : Int) < (m : Int) := by omega
      obtain ⟨x, hxx⟩ : ∃ x, x = a + i := ⟨_, rfl⟩
      obtain ⟨y, hyy⟩ : ∃ y, y = b + i := ⟨_, rfl⟩
      have hln : L1.length = n := by rw [HP.out.length_eq]; exact HN.out
      have hx : x < L1.length := by omega
      have hy : y < L1.length := by omega
      have hxI : (a : Int) + (i : Int) = (x : Int) := by omega
      have hyI : (b : Int) + (i : Int) = (y : Int) := by omega
      have hwx : IntKind.i64.wrap (x : Int) = (x : Int) := by rw [IntKind.wrap_i64]; omega
      have hwy : IntKind.i64.wrap (y : Int) = (y : Int) := by rw [IntKind.wrap_i64]; omega
      have hxn : (x : Int) < (n : Int) := by omega
      have hyn : (y : Int) < (n : Int) := by omega
      have HF := Lib.hid (swap_state HS.out hx hy)
      obtain ⟨cur, hB, hs, hcl⟩ := HS.out
      obtain ⟨cx1, cx2⟩ := hcl x hx
      obtain ⟨cy1, cy2⟩ := hcl y hy
      have dx1 : wr.cell? ⟨g, x * 2, none⟩ = some (.string (getP L1 x).it.1) := (hB.cell (x * 2)).trans cx1
      have dx2 : wr.cell? ⟨g, x * 2 + 1, none⟩ = some (.string (getP L1 x).it.2) := (hB.cell (x * 2 + 1)).trans cx2
      have dy1 : wr.cell? ⟨g, y * 2, none⟩ = some (.string (getP L1 y).it.1) := (hB.cell (y * 2)).trans cy1
      have dy2 : wr.cell? ⟨g, y * 2 + 1, none⟩ = some (.string (getP L1 y).it.2) := (hB.cell (y * 2 + 1)).trans cy2
      obtain ⟨px, hpx⟩ : ∃ p, (getP L1 x).it = p := ⟨_, rfl⟩
      obtain ⟨py, hpy⟩ : ∃ p, (getP L1 y).it = p := ⟨_, rfl⟩
      rw [hpx] at dx1 dx2 HF
      rw [hpy] at dy1 dy2 HF
      obtain ⟨sx, tx⟩ := px
      obtain ⟨sy, ty⟩ := py
      dsimp only at dx1 dx2 dy1 dy2
      have fx1 := hB.frozen (x * 2)
      have fx2 := hB.frozen (x * 2 + 1)
      have fy1 := hB.frozen (y * 2)
      have fy2 := hB.frozen (y * 2 + 1)
      have B2 := (hB.set_ (x * 2) (.string sy)).set_ (x * 2 + 1) (.string ty)
      have B3 := B2.set_ (y * 2) (.string sx)
      obtain ⟨y1, d1⟩ : ∃ yy, ((wr.setCell ⟨g, x * 2, none⟩ (.string sy)).setCell ⟨g, x * 2 + 1, none⟩ (.string ty)).drew.cell? ⟨g, y * 2, none⟩ = some yy :=
        ⟨_, ((B2.drewN 1).cell (y * 2)).trans (Array.getElem?_eq_getElem (by rw [Array.size_setIfInBounds, Array.size_setIfInBounds]; omega))⟩
      have e1 : ((wr.setCell ⟨g, x * 2, none⟩ (.string sy)).setCell ⟨g, x * 2 + 1, none⟩ (.string ty)).drew.frozen? ⟨g, y * 2, none⟩ = false := (B2.drewN 1).frozen (y * 2)
      obtain ⟨y2, d2⟩ : ∃ yy, (((wr.setCell ⟨g, x * 2, none⟩ (.string sy)).setCell ⟨g, x * 2 + 1, none⟩ (.string ty)).setCell ⟨g, y * 2, none⟩ (.string sx)).drew.cell? ⟨g, y * 2 + 1, none⟩ = some yy :=
        ⟨_, ((B3.drewN 1).cell (y * 2 + 1)).trans (Array.getElem?_eq_getElem (by rw [Array.size_setIfInBounds, Array.size_setIfInBounds, Array.size_setIfInBounds]; omega))⟩
      have e2 : (((wr.setCell ⟨g, x * 2, none⟩ (.string sy)).setCell ⟨g, x * 2 + 1, none⟩ (.string ty)).setCell ⟨g, y * 2, none⟩ (.string sx)).drew.frozen? ⟨g, y * 2 + 1, none⟩ = false := (B3.drewN 1).frozen (y * 2 + 1)
      have S0 : True := trivial
      clear hB hs hcl cx1 cx2 cy1 cy2 hpx hpy B2 B3
      have HX := Lib.hid (show x = a + i ∧ y = b + i from ⟨hxx, hyy⟩)
      have HL1 := Lib.hid (show x < L1.length ∧ y < L1.length from ⟨hx, hy⟩)
      clear hxx hyy hx hy hln
      go_wp2_with fail
      refine wp_region_held_drew (S := fun w' => True) (by kernel_rfl) S0 (fun hHeld => ?_)
      refine wpAnyH_take (i := 0) (oi := { dst := some 16, op := Go.Op.move (Go.Operand.tmp 0), type := 26, pos := "zsortanyfunc.go:331", after := #[], guard := none }) (v := ?_) rfl (by kernel_rfl) (by kernel_rfl) (by kernel_rfl) (fun _ _ _ h => h) (Or.inl ⟨by kernel_rfl, ?_⟩) (by assumption) ?_
      rotate_left
      · intro w _
        first | (go_simp; done) | (go_simp; with_reducible rfl)
      try simp only [Act.put, List.setIfInBounds_toArray, List.set_cons_zero, List.set_cons_succ]
      refine wpAnyH_take (i := 1) (oi := { dst := some 17, op := Go.Op.move (Go.Operand.tmp 1), type := 3, pos := "zsortanyfunc.go:331", after := #[], guard := none }) (v := ?_) rfl (by kernel_rfl) (by kernel_rfl) (by kernel_rfl) (fun _ _ _ h => h) (Or.inl ⟨by kernel_rfl, ?_⟩) (by assumption) ?_
      rotate_left
      · intro w _
        first | (go_simp; done) | (go_simp; with_reducible rfl)
      try simp only [Act.put, List.setIfInBounds_toArray, List.set_cons_zero, List.set_cons_succ]
      refine wpAnyH_take (i := 2) (oi := { dst := some 18, op := Go.Op.move (Go.Operand.tmp 10), type := 3, pos := "zsortanyfunc.go:331", after := #[], guard := none }) (v := ?_) rfl (by kernel_rfl) (by kernel_rfl) (by kernel_rfl) (fun _ _ _ h => h) (Or.inl ⟨by kernel_rfl, ?_⟩) (by assumption) ?_
      rotate_left
      · intro w _
        first | (go_simp; done) | (go_simp; with_reducible rfl)
      try simp only [Act.put, List.setIfInBounds_toArray, List.set_cons_zero, List.set_cons_succ]
      refine wpAnyH_take (i := 3) (oi := { dst := some 19, op := Go.Op.binOp Go.BinOp.add 3 (Go.Operand.tmp 17) (Go.Operand.tmp 18) 3, type := 3, pos := "zsortanyfunc.go:331", after := #[{ on := 1, ground := Go.Ground.data }, { on := 2, ground := Go.Ground.data }], guard := none }) (v := ?_) rfl (by kernel_rfl) (by kernel_rfl) (by kernel_rfl) (fun _ _ _ h => h) (Or.inl ⟨by kernel_rfl, ?_⟩) (by assumption) ?_
      rotate_left
      · intro w _
        first | (go_simp; done) | (go_simp; with_reducible rfl)
      try simp only [Act.put, List.setIfInBounds_toArray, List.set_cons_zero, List.set_cons_succ]
      refine wpAnyH_take (i := 4) (oi := { dst := some 20, op := Go.Op.move (Go.Operand.tmp 0), type := 26, pos := "zsortanyfunc.go:331", after := #[{ on := 21, ground := Go.Ground.gcOnly Go.Departure.lateStores }], guard := none }) (v := ?_) rfl (by kernel_rfl) (by kernel_rfl) (by kernel_rfl) (fun _ _ _ h => h) (Or.inl ⟨by kernel_rfl, ?_⟩) (by assumption) ?_
      rotate_left
      · intro w _
        first | (go_simp; done) | (go_simp; with_reducible rfl)
      try simp only [Act.put, List.setIfInBounds_toArray, List.set_cons_zero, List.set_cons_succ]
      refine wpAnyH_take (i := 5) (oi := { dst := some 21, op := Go.Op.move (Go.Operand.tmp 2), type := 3, pos := "zsortanyfunc.go:331", after := #[{ on := 21, ground := Go.Ground.gcOnly Go.Departure.lateStores }], guard := none }) (v := ?_) rfl (by kernel_rfl) (by kernel_rfl) (by kernel_rfl) (fun _ _ _ h => h) (Or.inl ⟨by kernel_rfl, ?_⟩) (by assumption) ?_
      rotate_left
      · intro w _
        first | (go_simp; done) | (go_simp; with_reducible rfl)
      try simp only [Act.put, List.setIfInBounds_toArray, List.set_cons_zero, List.set_cons_succ]
      refine wpAnyH_take (i := 6) (oi := { dst := some 22, op := Go.Op.move (Go.Operand.tmp 10), type := 3, pos := "zsortanyfunc.go:331", after := #[{ on := 21, ground := Go.Ground.gcOnly Go.Departure.lateStores }], guard := none }) (v := ?_) rfl (by kernel_rfl) (by kernel_rfl) (by kernel_rfl) (fun _ _ _ h => h) (Or.inl ⟨by kernel_rfl, ?_⟩) (by assumption) ?_
      rotate_left
      · intro w _
        first | (go_simp; done) | (go_simp; with_reducible rfl)
      try simp only [Act.put, List.setIfInBounds_toArray, List.set_cons_zero, List.set_cons_succ]
      refine wpAnyH_take (i := 7) (oi := { dst := some 23, op := Go.Op.binOp Go.BinOp.add 3 (Go.Operand.tmp 21) (Go.Operand.tmp 22) 3, type := 3, pos := "zsortanyfunc.go:331", after := #[{ on := 5, ground := Go.Ground.data }, { on := 6, ground := Go.Ground.data }, { on := 21, ground := Go.Ground.gcOnly Go.Departure.lateStores }], guard := none }) (v := ?_) rfl (by kernel_rfl) (by kernel_rfl) (by kernel_rfl) (fun _ _ _ h => h) (Or.inl ⟨by kernel_rfl, ?_⟩) (by assumption) ?_
      rotate_left
      · intro w _
        first | (go_simp; done) | (go_simp; with_reducible rfl)
      try simp only [Act.put, List.setIfInBounds_toArray, List.set_cons_zero, List.set_cons_succ]
      refine wpAnyH_take (i := 8) (oi := { dst := some 24, op := Go.Op.move (Go.Operand.tmp 0), type := 26, pos := "zsortanyfunc.go:331", after := #[], guard := none }) (v := ?_) rfl (by kernel_rfl) (by kernel_rfl) (by kernel_rfl) (fun _ _ _ h => h) (Or.inl ⟨by kernel_rfl, ?_⟩) (by assumption) ?_
      rotate_left
      · intro w _
        first | (go_simp; done) | (go_simp; with_reducible rfl)
      try simp only [Act.put, List.setIfInBounds_toArray, List.set_cons_zero, List.set_cons_succ]
      refine wpAnyH_take (i := 9) (oi := { dst := some 25, op := Go.Op.move (Go.Operand.tmp 2), type := 3, pos := "zsortanyfunc.go:331", after := #[], guard := none }) (v := ?_) rfl (by kernel_rfl) (by kernel_rfl) (by kernel_rfl) (fun _ _ _ h => h) (Or.inl ⟨by kernel_rfl, ?_⟩) (by assumption) ?_
      rotate_left
      · intro w _
        first | (go_simp; done) | (go_simp; with_reducible rfl)
      try simp only [Act.put, List.setIfInBounds_toArray, List.set_cons_zero, List.set_cons_succ]
      refine wpAnyH_take (i := 10) (oi := { dst := some 26, op := Go.Op.move (Go.Operand.tmp 10), type := 3, pos := "zsortanyfunc.go:331", after := #[], guard := none }) (v := ?_) rfl (by kernel_rfl) (by kernel_rfl) (by kernel_rfl) (fun _ _ _ h => h) (Or.inl ⟨by kernel_rfl, ?_⟩) (by assumption) ?_
      rotate_left
      · intro w _
        first | (go_simp; done) | (go_simp; with_reducible rfl)
      try simp only [Act.put, List.setIfInBounds_toArray, List.set_cons_zero, List.set_cons_succ]
      refine wpAnyH_take (i := 11) (oi := { dst := some 27, op := Go.Op.binOp Go.BinOp.add 3 (Go.Operand.tmp 25) (Go.Operand.tmp 26) 3, type := 3, pos := "zsortanyfunc.go:331", after := #[{ on := 9, ground := Go.Ground.data }, { on := 10, ground := Go.Ground.data }], guard := none }) (v := ?_) rfl (by kernel_rfl) (by kernel_rfl) (by kernel_rfl) (fun _ _ _ h => h) (Or.inl ⟨by kernel_rfl, ?_⟩) (by assumption) ?_
      rotate_left
      · intro w _
        first | (go_simp; done) | (go_simp; with_reducible rfl)
      try simp only [Act.put, List.setIfInBounds_toArray, List.set_cons_zero, List.set_cons_succ]
      refine wpAnyH_take (i := 12) (oi := { dst := some 28, op := Go.Op.indexAddr 26 (Go.Operand.tmp 24) (Go.Operand.tmp 27), type := 0, pos := "zsortanyfunc.go:331", after := #[{ on := 8, ground := Go.Ground.data }, { on := 11, ground := Go.Ground.data }], guard := none }) (v := ?_) rfl (by kernel_rfl) (by kernel_rfl) (by kernel_rfl) (fun _ _ _ h => h) (Or.inl ⟨by kernel_rfl, ?_⟩) (by assumption) ?_
      rotate_left
      · intro w _
        first | (go_simp; done) | (go_simp; with_reducible rfl)
      try simp only [Act.put, List.setIfInBounds_toArray, List.set_cons_zero, List.set_cons_succ]
      refine wpAnyH_take (i := 14) (oi := { dst := some 30, op := Go.Op.move (Go.Operand.tmp 0), type := 26, pos := "zsortanyfunc.go:331", after := #[], guard := none }) (v := ?_) rfl (by kernel_rfl) (by kernel_rfl) (by kernel_rfl) (fun _ _ _ h => h) (Or.inl ⟨by kernel_rfl, ?_⟩) (by assumption) ?_
      rotate_left
      · intro w _
        first | (go_simp; done) | (go_simp; with_reducible rfl)
      try simp only [Act.put, List.setIfInBounds_toArray, List.set_cons_zero, List.set_cons_succ]
      refine wpAnyH_take (i := 15) (oi := { dst := some 31, op := Go.Op.move (Go.Operand.tmp 1), type := 3, pos := "zsortanyfunc.go:331", after := #[], guard := none }) (v := ?_) rfl (by kernel_rfl) (by kernel_rfl) (by kernel_rfl) (fun _ _ _ h => h) (Or.inl ⟨by kernel_rfl, ?_⟩) (by assumption) ?_
      rotate_left
      · intro w _
        first | (go_simp; done) | (go_simp; with_reducible rfl)
      try simp only [Act.put, List.setIfInBounds_toArray, List.set_cons_zero, List.set_cons_succ]
      refine wpAnyH_take (i := 16) (oi := { dst := some 32, op := Go.Op.move (Go.Operand.tmp 10), type := 3, pos := "zsortanyfunc.go:331", after := #[], guard := none }) (v := ?_) rfl (by kernel_rfl) (by kernel_rfl) (by kernel_rfl) (fun _ _ _ h => h) (Or.inl ⟨by kernel_rfl, ?_⟩) (by assumption) ?_
      rotate_left
      · intro w _
        first | (go_simp; done) | (go_simp; with_reducible rfl)
      try simp only [Act.put, List.setIfInBounds_toArray, List.set_cons_zero, List.set_cons_succ]
      refine wpAnyH_take (i := 17) (oi := { dst := some 33, op := Go.Op.binOp Go.BinOp.add 3 (Go.Operand.tmp 31) (Go.Operand.tmp 32) 3, type := 3, pos := "zsortanyfunc.go:331", after := #[{ on := 15, ground := Go.Ground.data }, { on := 16, ground := Go.Ground.data }], guard := none }) (v := ?_) rfl (by kernel_rfl) (by kernel_rfl) (by kernel_rfl) (fun _ _ _ h => h) (Or.inl ⟨by kernel_rfl, ?_⟩) (by assumption) ?_
      rotate_left
      · intro w _
        first | (go_simp; done) | (go_simp; with_reducible rfl)
      try simp only [Act.put, List.setIfInBounds_toArray, List.set_cons_zero, List.set_cons_succ]
      refine wpAnyH_take (i := 18) (oi := { dst := some 34, op := Go.Op.indexAddr 26 (Go.Operand.tmp 30) (Go.Operand.tmp 33), type := 0, pos := "zsortanyfunc.go:331", after := #[{ on := 14, ground := Go.Ground.data }, { on := 17, ground := Go.Ground.data }], guard := none }) (v := ?_) rfl (by kernel_rfl) (by kernel_rfl) (by kernel_rfl) (fun _ _ _ h => h) (Or.inl ⟨by kernel_rfl, ?_⟩) (by assumption) ?_
      rotate_left
      · intro w _
        first | (go_simp; done) | (go_simp; with_reducible rfl)
      try simp only [Act.put, List.setIfInBounds_toArray, List.set_cons_zero, List.set_cons_succ]
      refine wpAnyH_ready (rs := [13, 19]) (by kernel_rfl) (by simp) ?_
      refine AllReadyH.cons (o := { dst := some 29, op := Go.Op.load 39 (Go.Operand.tmp 28), type := 39, pos := "zsortanyfunc.go:331", after := #[{ on := 12, ground := Go.Ground.data }], guard := none }) rfl (fun K hK => ?_) ?_
      ·
        go_simp
        refine hK.out _ _ S0 (fun _ => ?_)
        clear hK K
        try simp only [Act.put, List.setIfInBounds_toArray, List.set_cons_zero, List.set_cons_succ]
        refine wpAnyH_ready (rs := [19]) (by kernel_rfl) (by simp) ?_
        refine AllReadyH.cons (o := { dst := some 35, op := Go.Op.load 39 (Go.Operand.tmp 34), type := 39, pos := "zsortanyfunc.go:331", after := #[{ on := 18, ground := Go.Ground.data }], guard := none }) rfl (fun K hK => ?_) AllReadyH.nil
        go_simp
        refine hK.out _ _ S0 (fun _ => ?_)
        clear hK K
        try simp only [Act.put, List.setIfInBounds_toArray, List.set_cons_zero, List.set_cons_succ]
        refine wpAnyH_take (i := 20) (oi := { dst := some 36, op := Go.Op.indexAddr 26 (Go.Operand.tmp 16) (Go.Operand.tmp 19), type := 0, pos := "zsortanyfunc.go:331", after := #[{ on := 0, ground := Go.Ground.data }, { on := 3, ground := Go.Ground.data }, { on := 0, ground := Go.Ground.phase }, { on := 1, ground := Go.Ground.phase }, { on := 2, ground := Go.Ground.phase }, { on := 3, ground := Go.Ground.phase }, { on := 4, ground := Go.Ground.textOnly Go.Departure.lateStores }, { on := 5, ground := Go.Ground.textOnly Go.Departure.lateStores }, { on := 6, ground := Go.Ground.textOnly Go.Departure.lateStores }, { on := 7, ground := Go.Ground.textOnly Go.Departure.lateStores }, { on := 8, ground := Go.Ground.phase }, { on := 9, ground := Go.Ground.phase }, { on := 10, ground := Go.Ground.phase }, { on := 11, ground := Go.Ground.phase }, { on := 12, ground := Go.Ground.phase }, { on := 13, ground := Go.Ground.phase }, { on := 14, ground := Go.Ground.textOnly Go.Departure.lateStores }, { on := 15, ground := Go.Ground.textOnly Go.Departure.lateStores }, { on := 16, ground := Go.Ground.textOnly Go.Departure.lateStores }, { on := 17, ground := Go.Ground.textOnly Go.Departure.lateStores }, { on := 18, ground := Go.Ground.textOnly Go.Departure.lateStoresUnsure }, { on := 19, ground := Go.Ground.phase }], guard := none }) (v := ?_) rfl (by kernel_rfl) (by kernel_rfl) (by kernel_rfl) (fun _ _ _ h => h) (Or.inl ⟨by kernel_rfl, ?_⟩) (by assumption) ?_
        rotate_left
        · intro w _
          first | (go_simp; done) | (go_simp; with_reducible rfl)
        try simp only [Act.put, List.setIfInBounds_toArray, List.set_cons_zero, List.set_cons_succ]
        refine wpAnyH_ready (rs := [21]) (by kernel_rfl) (by simp) ?_
        refine AllReadyH.cons (o := { dst := none, op := Go.Op.store 39 (Go.Operand.tmp 36) (Go.Operand.tmp 29), type := 0, pos := "zsortanyfunc.go:331", after := #[{ on := 20, ground := Go.Ground.data }, { on := 13, ground := Go.Ground.data }, { on := 0, ground := Go.Ground.phase }, { on := 1, ground := Go.Ground.phase }, { on := 2, ground := Go.Ground.phase }, { on := 3, ground := Go.Ground.phase }, { on := 4, ground := Go.Ground.textOnly Go.Departure.lateStores }, { on := 5, ground := Go.Ground.textOnly Go.Departure.lateStores }, { on := 6, ground := Go.Ground.textOnly Go.Departure.lateStores }, { on := 7, ground := Go.Ground.textOnly Go.Departure.lateStores }, { on := 8, ground := Go.Ground.phase }, { on := 9, ground := Go.Ground.phase }, { on := 10, ground := Go.Ground.phase }, { on := 11, ground := Go.Ground.phase }, { on := 12, ground := Go.Ground.phase }, { on := 13, ground := Go.Ground.phase }, { on := 14, ground := Go.Ground.textOnly Go.Departure.lateStores }, { on := 15, ground := Go.Ground.textOnly Go.Departure.lateStores }, { on := 16, ground := Go.Ground.textOnly Go.Departure.lateStores }, { on := 17, ground := Go.Ground.textOnly Go.Departure.lateStores }, { on := 18, ground := Go.Ground.textOnly Go.Departure.lateStoresUnsure }, { on := 19, ground := Go.Ground.phase }], guard := none }) rfl (fun K hK => ?_) AllReadyH.nil
        go_simp
        refine hK.out _ _ S0 (fun _ => ?_)
        clear hK K
        try simp only [Act.put, List.setIfInBounds_toArray, List.set_cons_zero, List.set_cons_succ]
        refine wpAnyH_take (i := 22) (oi := { dst := some 37, op := Go.Op.indexAddr 26 (Go.Operand.tmp 20) (Go.Operand.tmp 23), type := 0, pos := "zsortanyfunc.go:331", after := #[{ on := 4, ground := Go.Ground.data }, { on := 7, ground := Go.Ground.data }, { on := 0, ground := Go.Ground.phase }, { on := 1, ground := Go.Ground.phase }, { on := 2, ground := Go.Ground.phase }, { on := 3, ground := Go.Ground.phase }, { on := 4, ground := Go.Ground.phase }, { on := 5, ground := Go.Ground.phase }, { on := 6, ground := Go.Ground.phase }, { on := 7, ground := Go.Ground.phase }, { on := 8, ground := Go.Ground.phase }, { on := 9, ground := Go.Ground.phase }, { on := 10, ground := Go.Ground.phase }, { on := 11, ground := Go.Ground.phase }, { on := 12, ground := Go.Ground.phase }, { on := 13, ground := Go.Ground.phase }, { on := 14, ground := Go.Ground.phase }, { on := 15, ground := Go.Ground.phase }, { on := 16, ground := Go.Ground.phase }, { on := 17, ground := Go.Ground.phase }, { on := 18, ground := Go.Ground.phase }, { on := 19, ground := Go.Ground.phase }, { on := 20, ground := Go.Ground.phase }, { on := 21, ground := Go.Ground.phase }], guard := none }) (v := ?_) rfl (by kernel_rfl) (by kernel_rfl) (by kernel_rfl) (fun _ _ _ h => h) (Or.inl ⟨by kernel_rfl, ?_⟩) (by assumption) ?_
        rotate_left
        · intro w _
          first | (go_simp; done) | (go_simp; with_reducible rfl)
        try simp only [Act.put, List.setIfInBounds_toArray, List.set_cons_zero, List.set_cons_succ]
        refine wpAnyH_ready (rs := [23]) (by kernel_rfl) (by simp) ?_
        refine AllReadyH.cons (o := { dst := none, op := Go.Op.store 39 (Go.Operand.tmp 37) (Go.Operand.tmp 35), type := 0, pos := "zsortanyfunc.go:331", after := #[{ on := 22, ground := Go.Ground.data }, { on := 19, ground := Go.Ground.data }, { on := 21, ground := Go.Ground.chain }, { on := 0, ground := Go.Ground.phase }, { on := 1, ground := Go.Ground.phase }, { on := 2, ground := Go.Ground.phase }, { on := 3, ground := Go.Ground.phase }, { on := 4, ground := Go.Ground.phase }, { on := 5, ground := Go.Ground.phase }, { on := 6, ground := Go.Ground.phase }, { on := 7, ground := Go.Ground.phase }, { on := 8, ground := Go.Ground.phase }, { on := 9, ground := Go.Ground.phase }, { on := 10, ground := Go.Ground.phase }, { on := 11, ground := Go.Ground.phase }, { on := 12, ground := Go.Ground.phase }, { on := 13, ground := Go.Ground.phase }, { on := 14, ground := Go.Ground.phase }, { on := 15, ground := Go.Ground.phase }, { on := 16, ground := Go.Ground.phase }, { on := 17, ground := Go.Ground.phase }, { on := 18, ground := Go.Ground.phase }, { on := 19, ground := Go.Ground.phase }, { on := 20, ground := Go.Ground.phase }, { on := 21, ground := Go.Ground.phase }], guard := none }) rfl (fun K hK => ?_) AllReadyH.nil
        go_simp
        refine hK.out _ _ S0 (fun _ => ?_)
        clear hK K
        try simp only [Act.put, List.setIfInBounds_toArray, List.set_cons_zero, List.set_cons_succ]
        refine wpAnyH_done (by kernel_rfl) ?_ _
        go_wp2
        go_round
        case rel =>
          refine ⟨i + 1, swapP L1 x y, by omega, by go_num, Lib.hid HF.out.1, Lib.hid ((swapP_perm HL1.out.1 HL1.out.2).trans HP.out), Lib.hid (swR_succ HQ.out (by have := HX.out; omega) (by have := HX.out; have := HL1.out; omega) (by rw [HX.out.1, HX.out.2])), Lib.hid (HG.out.trans HF.out.2)⟩
        case measure => simp [intOf]; omega
      refine AllReadyH.cons (o := { dst := some 35, op := Go.Op.load 39 (Go.Operand.tmp 34), type := 39, pos := "zsortanyfunc.go:331", after := #[{ on := 18, ground := Go.Ground.data }], guard := none }) rfl (fun K hK => ?_) AllReadyH.nil
      ·
        go_simp
        refine hK.out _ _ S0 (fun _ => ?_)
        clear hK K
        try simp only [Act.put, List.setIfInBounds_toArray, List.set_cons_zero, List.set_cons_succ]
        refine wpAnyH_ready (rs := [13]) (by kernel_rfl) (by simp) ?_
        refine AllReadyH.cons (o := { dst := some 29, op := Go.Op.load 39 (Go.Operand.tmp 28), type := 39, pos := "zsortanyfunc.go:331", after := #[{ on := 12, ground := Go.Ground.data }], guard := none }) rfl (fun K hK => ?_) AllReadyH.nil
        go_simp
        refine hK.out _ _ S0 (fun _ => ?_)
        clear hK K
        try simp only [Act.put, List.setIfInBounds_toArray, List.set_cons_zero, List.set_cons_succ]
        refine wpAnyH_take (i := 20) (oi := { dst := some 36, op := Go.Op.indexAddr 26 (Go.Operand.tmp 16) (Go.Operand.tmp 19), type := 0, pos := "zsortanyfunc.go:331", after := #[{ on := 0, ground := Go.Ground.data }, { on := 3, ground := Go.Ground.data }, { on := 0, ground := Go.Ground.phase }, { on := 1, ground := Go.Ground.phase }, { on := 2, ground := Go.Ground.phase }, { on := 3, ground := Go.Ground.phase }, { on := 4, ground := Go.Ground.textOnly Go.Departure.lateStores }, { on := 5, ground := Go.Ground.textOnly Go.Departure.lateStores }, { on := 6, ground := Go.Ground.textOnly Go.Departure.lateStores }, { on := 7, ground := Go.Ground.textOnly Go.Departure.lateStores }, { on := 8, ground := Go.Ground.phase }, { on := 9, ground := Go.Ground.phase }, { on := 10, ground := Go.Ground.phase }, { on := 11, ground := Go.Ground.phase }, { on := 12, ground := Go.Ground.phase }, { on := 13, ground := Go.Ground.phase }, { on := 14, ground := Go.Ground.textOnly Go.Departure.lateStores }, { on := 15, ground := Go.Ground.textOnly Go.Departure.lateStores }, { on := 16, ground := Go.Ground.textOnly Go.Departure.lateStores }, { on := 17, ground := Go.Ground.textOnly Go.Departure.lateStores }, { on := 18, ground := Go.Ground.textOnly Go.Departure.lateStoresUnsure }, { on := 19, ground := Go.Ground.phase }], guard := none }) (v := ?_) rfl (by kernel_rfl) (by kernel_rfl) (by kernel_rfl) (fun _ _ _ h => h) (Or.inl ⟨by kernel_rfl, ?_⟩) (by assumption) ?_
        rotate_left
        · intro w _
          first | (go_simp; done) | (go_simp; with_reducible rfl)
        try simp only [Act.put, List.setIfInBounds_toArray, List.set_cons_zero, List.set_cons_succ]
        refine wpAnyH_ready (rs := [21]) (by kernel_rfl) (by simp) ?_
        refine AllReadyH.cons (o := { dst := none, op := Go.Op.store 39 (Go.Operand.tmp 36) (Go.Operand.tmp 29), type := 0, pos := "zsortanyfunc.go:331", after := #[{ on := 20, ground := Go.Ground.data }, { on := 13, ground := Go.Ground.data }, { on := 0, ground := Go.Ground.phase }, { on := 1, ground := Go.Ground.phase }, { on := 2, ground := Go.Ground.phase }, { on := 3, ground := Go.Ground.phase }, { on := 4, ground := Go.Ground.textOnly Go.Departure.lateStores }, { on := 5, ground := Go.Ground.textOnly Go.Departure.lateStores }, { on := 6, ground := Go.Ground.textOnly Go.Departure.lateStores }, { on := 7, ground := Go.Ground.textOnly Go.Departure.lateStores }, { on := 8, ground := Go.Ground.phase }, { on := 9, ground := Go.Ground.phase }, { on := 10, ground := Go.Ground.phase }, { on := 11, ground := Go.Ground.phase }, { on := 12, ground := Go.Ground.phase }, { on := 13, ground := Go.Ground.phase }, { on := 14, ground := Go.Ground.textOnly Go.Departure.lateStores }, { on := 15, ground := Go.Ground.textOnly Go.Departure.lateStores }, { on := 16, ground := Go.Ground.textOnly Go.Departure.lateStores }, { on := 17, ground := Go.Ground.textOnly Go.Departure.lateStores }, { on := 18, ground := Go.Ground.textOnly Go.Departure.lateStoresUnsure }, { on := 19, ground := Go.Ground.phase }], guard := none }) rfl (fun K hK => ?_) AllReadyH.nil
        go_simp
        refine hK.out _ _ S0 (fun _ => ?_)
        clear hK K
        try simp only [Act.put, List.setIfInBounds_toArray, List.set_cons_zero, List.set_cons_succ]
        refine wpAnyH_take (i := 22) (oi := { dst := some 37, op := Go.Op.indexAddr 26 (Go.Operand.tmp 20) (Go.Operand.tmp 23), type := 0, pos := "zsortanyfunc.go:331", after := #[{ on := 4, ground := Go.Ground.data }, { on := 7, ground := Go.Ground.data }, { on := 0, ground := Go.Ground.phase }, { on := 1, ground := Go.Ground.phase }, { on := 2, ground := Go.Ground.phase }, { on := 3, ground := Go.Ground.phase }, { on := 4, ground := Go.Ground.phase }, { on := 5, ground := Go.Ground.phase }, { on := 6, ground := Go.Ground.phase }, { on := 7, ground := Go.Ground.phase }, { on := 8, ground := Go.Ground.phase }, { on := 9, ground := Go.Ground.phase }, { on := 10, ground := Go.Ground.phase }, { on := 11, ground := Go.Ground.phase }, { on := 12, ground := Go.Ground.phase }, { on := 13, ground := Go.Ground.phase }, { on := 14, ground := Go.Ground.phase }, { on := 15, ground := Go.Ground.phase }, { on := 16, ground := Go.Ground.phase }, { on := 17, ground := Go.Ground.phase }, { on := 18, ground := Go.Ground.phase }, { on := 19, ground := Go.Ground.phase }, { on := 20, ground := Go.Ground.phase }, { on := 21, ground := Go.Ground.phase }], guard := none }) (v := ?_) rfl (by kernel_rfl) (by kernel_rfl) (by kernel_rfl) (fun _ _ _ h => h) (Or.inl ⟨by kernel_rfl, ?_⟩) (by assumption) ?_
        rotate_left
        · intro w _
          first | (go_simp; done) | (go_simp; with_reducible rfl)
        try simp only [Act.put, List.setIfInBounds_toArray, List.set_cons_zero, List.set_cons_succ]
        refine wpAnyH_ready (rs := [23]) (by kernel_rfl) (by simp) ?_
        refine AllReadyH.cons (o := { dst := none, op := Go.Op.store 39 (Go.Operand.tmp 37) (Go.Operand.tmp 35), type := 0, pos := "zsortanyfunc.go:331", after := #[{ on := 22, ground := Go.Ground.data }, { on := 19, ground := Go.Ground.data }, { on := 21, ground := Go.Ground.chain }, { on := 0, ground := Go.Ground.phase }, { on := 1, ground := Go.Ground.phase }, { on := 2, ground := Go.Ground.phase }, { on := 3, ground := Go.Ground.phase }, { on := 4, ground := Go.Ground.phase }, { on := 5, ground := Go.Ground.phase }, { on := 6, ground := Go.Ground.phase }, { on := 7, ground := Go.Ground.phase }, { on := 8, ground := Go.Ground.phase }, { on := 9, ground := Go.Ground.phase }, { on := 10, ground := Go.Ground.phase }, { on := 11, ground := Go.Ground.phase }, { on := 12, ground := Go.Ground.phase }, { on := 13, ground := Go.Ground.phase }, { on := 14, ground := Go.Ground.phase }, { on := 15, ground := Go.Ground.phase }, { on := 16, ground := Go.Ground.phase }, { on := 17, ground := Go.Ground.phase }, { on := 18, ground := Go.Ground.phase }, { on := 19, ground := Go.Ground.phase }, { on := 20, ground := Go.Ground.phase }, { on := 21, ground := Go.Ground.phase }], guard := none }) rfl (fun K hK => ?_) AllReadyH.nil
        go_simp
        refine hK.out _ _ S0 (fun _ => ?_)
        clear hK K
        try simp only [Act.put, List.setIfInBounds_toArray, List.set_cons_zero, List.set_cons_succ]
        refine wpAnyH_done (by kernel_rfl) ?_ _
        go_wp2
        go_round
        case rel =>
          refine ⟨i + 1, swapP L1 x y, by omega, by go_num, Lib.hid HF.out.1, Lib.hid ((swapP_perm HL1.out.1 HL1.out.2).trans HP.out), Lib.hid (swR_succ HQ.out (by have := HX.out; omega) (by have := HX.out; have := HL1.out; omega) (by rw [HX.out.1, HX.out.2])), Lib.hid (HG.out.trans HF.out.2)⟩
        case measure => simp [intOf]; omega
    · obtain rfl : i = m := by omega
      go_wp2
      refine bodyPost_end (results_none rfl _ _ _) rfl ?_
      exact ⟨rfl, L1, HS.out, HP.out, HQ.out, HG.out⟩
set_option maxRecDepth 100000 in
set_option maxHeartbeats 1600000 in
theorem rotate_any (g cap : Nat) (L : List (KeyP PairB)) (a m b n : Nat) (hn : L.length = n) (hN : n ≤ 1000000) (ham : a < m) (hmb : m < b) (hb : b ≤ n) (w : World) (h : SortW w g L) :
    Calls Try.prog 71 #[.slice (some ⟨g, 0, none⟩) n cap, .int .i64 (a : Int), .int .i64 (m : Int), .int .i64 (b : Int), .func (.func 38) #[] #[]] w fun e w' => e = .returned (.tuple #[]) ∧ ∃ L', SortW w' g L' ∧ L'.Perm L ∧ (∀ k, getP L' k = rotF L a m b k) ∧ FG g w w' := by
  have HS0 := Lib.hid h
  have HN := Lib.hid hn
  obtain ⟨i0, hi0⟩ : ∃ i0, i0 = m - a := ⟨_, rfl⟩
  obtain ⟨j0, hj0⟩ : ∃ j0, j0 = b - m := ⟨_, rfl⟩
  have hi0I : (m : Int) - (a : Int) = (i0 : Int) := by omega
  have hj0I : (b : Int) - (m : Int) = (j0 : Int) := by omega
  have hwi0 : IntKind.i64.wrap (i0 : Int) = (i0 : Int) := by rw [IntKind.wrap_i64]; omega
  have hwj0 : IntKind.i64.wrap (j0 : Int) = (j0 : Int) := by rw [IntKind.wrap_i64]; omega
  have HF0 := Lib.hid (show ∀ k, rotF L (m - i0) m (m + j0) k = rotF L a m b k from fun k => by rw [hi0, hj0, show m - (m - a) = a by omega, show m + (b - m) = b by omega])
  have HIJ := Lib.hid (show 1 ≤ i0 ∧ 1 ≤ j0 ∧ i0 + a ≤ m ∧ m + j0 ≤ b by omega)
  clear h hn hi0 hj0
  go_enter Try.func71, Try.ntmps71
  go_wp2
  clear hi0I hj0I hwi0 hwj0
  go_loopw [10, 11] (fun iv jv wr => ∃ (i j : Nat) (L1 : List (KeyP PairB)), iv = .int .i64 (i : Int) ∧ jv = .int .i64 (j : Int) ∧ Hid (1 ≤ i ∧ 1 ≤ j ∧ i + a ≤ m ∧ m + j ≤ b) ∧ Hid (SortW wr g L1) ∧ Hid (L1.Perm L) ∧ Hid (∀ k, rotF L1 (m - i) m (m + j) k = rotF L a m b k) ∧ Hid (FG g w wr)) (fun iv jv _ => (intOf iv).toNat + (intOf jv).toNat)
  case atStart => exact ⟨i0, j0, L, rfl, rfl, HIJ, HS0, Lib.hid (List.Perm.refl _), HF0, Lib.hid (FG.refl _ _)⟩
  case round =>
    clear HF0 HIJ
    obtain ⟨i, j, L1, rfl, rfl, HIJ, HS, HP, HQ, HG⟩ := hrel
    obtain ⟨q1, q2, q3, q4⟩ := HIJ.out
    have hln : L1.length = n := by rw [HP.out.length_eq]; exact HN.out
    obtain ⟨x, hx⟩ : ∃ x, x = m - i := ⟨_, rfl⟩
    have hxI : (m : Int) - (i : Int) = (x : Int) := by omega
    have hwx : IntKind.i64.wrap (x : Int) = (x : Int) := by rw [IntKind.wrap_i64]; omega
    rcases Nat.lt_trichotomy i j with hij | hij | hij
    · obtain ⟨y, hy⟩ : ∃ y, y = m + j - i := ⟨_, rfl⟩
      have hmj : IntKind.i64.wrap ((m : Int) + (j : Int)) = (m : Int) + (j : Int) := by rw [IntKind.wrap_i64]; omega
      have hyI : (m : Int) + (j : Int) - (i : Int) = (y : Int) := by omega
      have hwy : IntKind.i64.wrap (y : Int) = (y : Int) := by rw [IntKind.wrap_i64]; omega
      obtain ⟨d, hd⟩ : ∃ d, d = j - i := ⟨_, rfl⟩
      have hdI : (j : Int) - (i : Int) = (d : Int) := by omega
      have hwd : IntKind.i64.wrap (d : Int) = (d : Int) := by rw [IntKind.wrap_i64]; omega
      have SR := Lib.hid (swapRange_any g cap L1 x y i n hln hN (by omega) (by omega) wr HS.out)
      have HLF := Lib.hid (show ∀ L2, (∀ k, getP L2 k = swR L1 x y i k) → ∀ k, rotF L2 (m - i) m (m + d) k = rotF L a m b k from fun L2 h2 k => by
        rw [hd, rotF_less (L := L1) (by omega) hij (by rw [← hx, ← hy]; exact h2) k]
        exact HQ.out k)
      have HIJ2 := Lib.hid (show 1 ≤ i ∧ 1 ≤ d ∧ i + a ≤ m ∧ m + d ≤ b by omega)
      have hne : ¬ i = j := by omega
      have hneI : ¬ (i : Int) = (j : Int) := by omega
      have hnl : ¬ (j : Int) < (i : Int) := by omega
      have hneB : ((i : Int) == (j : Int)) = false := by rw [beq_eq_false_iff_ne]; exact hneI
      have hdj : d < j := by omega
      clear hx hy hd hln HS HQ q1 q2 q3 q4
      go_wp2_with fail
      refine SR.out.mono ?_
      rintro e w2 ⟨rfl, L2, hs2, hp2, hq2, hg2⟩
      have HS2 := Lib.hid hs2
      have HP2 := Lib.hid (hp2.trans HP.out)
      have HQ2 := Lib.hid (HLF.out L2 hq2)
      have HG2 := Lib.hid (HG.out.trans hg2)
      clear hs2 hp2 hq2 hg2 SR
      go_wp2
      go_round
      case rel => exact ⟨i, d, L2, by first | rfl | go_num, by first | rfl | go_num, HIJ2, HS2, HP2, HQ2, HG2⟩
      case measure => simp [intOf]; omega
    · subst hij
      have SR := Lib.hid (swapRange_any g cap L1 x m i n hln hN (by omega) (by omega) wr HS.out)
      have HLF := Lib.hid (show ∀ L2, (∀ k, getP L2 k = swR L1 x m i k) → ∀ k, getP L2 k = rotF L a m b k from fun L2 h2 k => by
        rw [h2, hx, rotF_same (by omega) k]
        exact HQ.out k)
      clear hx hln HS HQ q1 q2 q3 q4
      go_wp2_with fail
      refine SR.out.mono ?_
      rintro e w2 ⟨rfl, L2, hs2, hp2, hq2, hg2⟩
      have HR := Lib.hid (show SortW w2 g L2 ∧ L2.Perm L ∧ (∀ k, getP L2 k = rotF L a m b k) ∧ FG g w w2 from ⟨hs2, hp2.trans HP.out, HLF.out L2 hq2, HG.out.trans hg2⟩)
      clear hs2 hp2 hq2 hg2 SR
      go_wp2
      refine bodyPost_end (results_none rfl _ _ _) rfl ?_
      exact ⟨rfl, L2, HR.out⟩
    · obtain ⟨d, hd⟩ : ∃ d, d = i - j := ⟨_, rfl⟩
      have hdI : (i : Int) - (j : Int) = (d : Int) := by omega
      have hwd : IntKind.i64.wrap (d : Int) = (d : Int) := by rw [IntKind.wrap_i64]; omega
      have SR := Lib.hid (swapRange_any g cap L1 x m j n hln hN (by omega) (by omega) wr HS.out)
      have HLF := Lib.hid (show ∀ L2, (∀ k, getP L2 k = swR L1 x m j k) → ∀ k, rotF L2 (m - d) m (m + j) k = rotF L a m b k from fun L2 h2 k => by
        rw [hd, rotF_more (L := L1) (by omega) hij (by rw [← hx]; exact h2) k]
        exact HQ.out k)
      have HIJ2 := Lib.hid (show 1 ≤ d ∧ 1 ≤ j ∧ d + a ≤ m ∧ m + j ≤ b by omega)
      have hne : ¬ i = j := by omega
      have hneI : ¬ (i : Int) = (j : Int) := by omega
      have hnl : (j : Int) < (i : Int) := by omega
      have hneB : ((i : Int) == (j : Int)) = false := by rw [beq_eq_false_iff_ne]; exact hneI
      have hdj : d < i := by omega
      clear hx hd hln HS HQ q1 q2 q3 q4
      go_wp2_with fail
      refine SR.out.mono ?_
      rintro e w2 ⟨rfl, L2, hs2, hp2, hq2, hg2⟩
      have HS2 := Lib.hid hs2
      have HP2 := Lib.hid (hp2.trans HP.out)
      have HQ2 := Lib.hid (HLF.out L2 hq2)
      have HG2 := Lib.hid (HG.out.trans hg2)
      clear hs2 hp2 hq2 hg2 SR
      go_wp2
      go_round
      case rel => exact ⟨d, j, L2, by first | rfl | go_num, by first | rfl | go_num, HIJ2, HS2, HP2, HQ2, HG2⟩
      case measure => simp [intOf]; omega
end Go.Proofs.Ytimmfmgnjpcdoaa.Sy
