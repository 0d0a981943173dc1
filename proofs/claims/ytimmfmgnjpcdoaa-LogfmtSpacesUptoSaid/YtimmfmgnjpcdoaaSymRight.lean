/- A run and one label behind it, merged in place. -/
import Derived.Test.YtimmfmgnjpcdoaaSymSt
import Derived.Test.YtimmfmgnjpcdoaaSymMrg
import Derived.Laws.Bits64
namespace Go.Proofs.Ytimmfmgnjpcdoaa.Sy
open Go.RowKit Go.Sort
set_option linter.unusedVariables false
set_option linter.unusedSimpArgs false

set_option maxRecDepth 100000 in
set_option maxHeartbeats 1600000 in
theorem mergeRight_any (g cap : Nat) (L : List (KeyP PairB)) (a m b n : Nat) (hn : L.length = n) (hN : n ≤ 1000000) (ham : a + 1 < m) (hmb : b = m + 1) (hb : b ≤ n) (u : Up nameC L a m) (cr : Cross L a m b) (w : World) (h : SortW w g L) :
    Calls Try.prog 64 #[.slice (some ⟨g, 0, none⟩) n cap, .int .i64 (a : Int), .int .i64 (m : Int), .int .i64 (b : Int), .func (.func 38) #[] #[]] w fun e w' => e = .returned (.tuple #[]) ∧ ∃ L', SortW w' g L' ∧ Mid L L' a b ∧ Up nameC L' a b ∧ FG g w w' := by
  have HS0 := Lib.hid h
  have HN := Lib.hid hn
  have HM := Lib.hid hmb
  have HU := Lib.hid (And.intro u cr)
  have hd2 : (b : Int) - (m : Int) = 1 := by omega
  obtain ⟨d1, hd1⟩ : ∃ d1, d1 = m - a := ⟨_, rfl⟩
  have hd1I : (m : Int) - (a : Int) = (d1 : Int) := by omega
  have hd1W : IntKind.i64.wrap (d1 : Int) = (d1 : Int) := by rw [IntKind.wrap_i64]; omega
  have hd1N : ¬ (d1 : Int) = 1 := by omega
  have hd1B : ((d1 : Int) == 1) = false := by rw [beq_eq_false_iff_ne]; exact hd1N
  have hd1M : ¬ d1 = 1 := by omega
  have hmn : m < n := by omega
  have ham2 : a < m := by omega
  clear h hn hmb u cr hd1
  go_enter Try.func64, Try.ntmps64
  go_wp2
  clear hd2 hd1I hd1W hd1N hd1B hd1M
  go_loopw [14, 15] (fun iv jv wr => ∃ (i j : Nat), iv = .int .i64 (i : Int) ∧ jv = .int .i64 (j : Int) ∧ a ≤ i ∧ i ≤ j ∧ j ≤ m ∧ Hid (∀ x, a ≤ x → x < i → 0 ≤ nameC (getP L m).it (getP L x).it) ∧ Hid (∀ x, j ≤ x → x < m → nameC (getP L m).it (getP L x).it < 0) ∧ Hid (SortW wr g L) ∧ Hid (FG g w wr)) (fun iv jv _ => (intOf jv).toNat - (intOf iv).toNat)
  case atStart => exact ⟨a, m, rfl, rfl, Nat.le_refl _, by omega, Nat.le_refl _, Lib.hid (fun y h1 h2 => by omega), Lib.hid (fun y h1 h2 => by omega), HS0, Lib.hid (FG.refl _ _)⟩
  case round =>
    obtain ⟨i, j, rfl, rfl, hai, hij, hjm, HLO, HHI, HS, HG⟩ := hrel
    by_cases hlt : i < j
    · have hltI : (i : Int) < (j : Int) := by omega
      obtain ⟨sm, hsm⟩ : ∃ sm, sm = i + j := ⟨_, rfl⟩
      obtain ⟨h, hh⟩ : ∃ h, h = sm / 2 := ⟨_, rfl⟩
      have hsmI : (i : Int) + (j : Int) = (sm : Int) := by omega
      have hsmW : IntKind.i64.wrap (sm : Int) = (sm : Int) := by rw [IntKind.wrap_i64]; omega
      have hsmU : IntKind.u64.wrap (sm : Int) = (sm : Int) := by rw [IntKind.wrap_u64]; omega
      have hhI : (sm : Int) / 2 = (h : Int) := by omega
      have hhU : IntKind.u64.wrap (h : Int) = (h : Int) := by rw [IntKind.wrap_u64]; omega
      have hhW : IntKind.i64.wrap (h : Int) = (h : Int) := by rw [IntKind.wrap_i64]; omega
      have hih : i ≤ h ∧ h < j := by omega
      have hih1 := hih.1
      have hih2 := hih.2
      clear hsm hh hih
      have hx : m < L.length := by have := HN.out; omega
      have hy : h < L.length := by have := HN.out; omega
      have hhn : (h : Int) < (n : Int) := by omega
      have hmnI : (m : Int) < (n : Int) := by omega
      go_wp2
      clear hsmI hsmW hsmU hhI hhU hhW
      obtain ⟨cur, hB, hs, hcl⟩ := HS.out
      obtain ⟨cx1, cx2⟩ := hcl m hx
      obtain ⟨cy1, cy2⟩ := hcl h hy
      have dx1 : wr.cell? ⟨g, m * 2, none⟩ = some (.string (getP L m).it.1) := (hB.cell (m * 2)).trans cx1
      have dx2 : wr.cell? ⟨g, m * 2 + 1, none⟩ = some (.string (getP L m).it.2) := (hB.cell (m * 2 + 1)).trans cx2
      have dy1 : wr.cell? ⟨g, h * 2, none⟩ = some (.string (getP L h).it.1) := (hB.cell (h * 2)).trans cy1
      have dy2 : wr.cell? ⟨g, h * 2 + 1, none⟩ = some (.string (getP L h).it.2) := (hB.cell (h * 2 + 1)).trans cy2
      have hgl := hB.lt
      obtain ⟨z, hz⟩ : ∃ z, nameC (getP L m).it (getP L h).it = z := ⟨_, rfl⟩
      have BN := fun w => byNameB (getP L m).it (getP L h).it w
      rw [hz] at BN
      obtain ⟨px, hpx⟩ : ∃ p, (getP L m).it = p := ⟨_, rfl⟩
      obtain ⟨py, hpy⟩ : ∃ p, (getP L h).it = p := ⟨_, rfl⟩
      rw [hpx] at dx1 dx2
      rw [hpy] at dy1 dy2
      rw [hpx, hpy] at BN
      have HZ := Lib.hid hz
      obtain ⟨sx, tx⟩ := px
      obtain ⟨sy, ty⟩ := py
      have HPX := Lib.hid hpx
      have HPY := Lib.hid hpy
      dsimp only at dx1 dx2 dy1 dy2 BN
      replace BN := Lib.hid BN
      have S0 : wr.drew.cell? ⟨g, m * 2, none⟩ = some (.string sx) ∧ wr.drew.cell? ⟨g, m * 2 + 1, none⟩ = some (.string tx) ∧ wr.drew.cell? ⟨g, h * 2, none⟩ = some (.string sy) ∧ wr.drew.cell? ⟨g, h * 2 + 1, none⟩ = some (.string ty) := ⟨dx1, dx2, dy1, dy2⟩
      have HSC := Lib.hid (fun (wa wb : World) (hS : wa.cell? ⟨g, m * 2, none⟩ = some (.string sx) ∧ wa.cell? ⟨g, m * 2 + 1, none⟩ = some (.string tx) ∧ wa.cell? ⟨g, h * 2, none⟩ = some (.string sy) ∧ wa.cell? ⟨g, h * 2 + 1, none⟩ = some (.string ty)) (hwb : Below wa.heap.size wa wb) => show wb.cell? ⟨g, m * 2, none⟩ = some (.string sx) ∧ wb.cell? ⟨g, m * 2 + 1, none⟩ = some (.string tx) ∧ wb.cell? ⟨g, h * 2, none⟩ = some (.string sy) ∧ wb.cell? ⟨g, h * 2 + 1, none⟩ = some (.string ty) from by
        obtain ⟨s0, s1, s2, s3⟩ := hS
        exact ⟨(hwb.cell (p := ⟨g, m * 2, none⟩) (block_lt_of_cell s0)).trans s0, (hwb.cell (p := ⟨g, m * 2 + 1, none⟩) (block_lt_of_cell s1)).trans s1, (hwb.cell (p := ⟨g, h * 2, none⟩) (block_lt_of_cell s2)).trans s2, (hwb.cell (p := ⟨g, h * 2 + 1, none⟩) (block_lt_of_cell s3)).trans s3⟩)
      clear hB hs hcl cx1 cx2 cy1 cy2 hpx hpy hz hgl
      have HXY := Lib.hid (And.intro hx hy)
      have hwh1 : IntKind.i64.wrap ((h : Int) + 1) = (h : Int) + 1 := by rw [IntKind.wrap_i64]; omega
      clear hx hy
      by_cases hz0 : z < 0
      · have HHI2 := Lib.hid (show ∀ x, h ≤ x → x < m → nameC (getP L m).it (getP L x).it < 0 from right_hi nameC_pre HU.out.1 (by omega) (by omega) (by rw [HZ.out]; exact hz0))
        go_wp2_with fail
        refine wp_region_held_drew (S := fun w' => w'.cell? ⟨g, m * 2, none⟩ = some (.string sx) ∧ w'.cell? ⟨g, m * 2 + 1, none⟩ = some (.string tx) ∧ w'.cell? ⟨g, h * 2, none⟩ = some (.string sy) ∧ w'.cell? ⟨g, h * 2 + 1, none⟩ = some (.string ty)) (by kernel_rfl) S0 (fun hHeld => ?_)
        refine wpAnyH_take (i := 0) (oi := { dst := some 92, op := Go.Op.move (Go.Operand.tmp 4), type := 73, pos := "zsortanyfunc.go:414", after := #[], guard := none }) (v := ?_) rfl (by kernel_rfl) (by kernel_rfl) (by kernel_rfl) (fun _ _ _ h => h) (Or.inl ⟨by kernel_rfl, ?_⟩) (by assumption) ?_
        rotate_left
        · intro w _
          first | (go_simp; done) | (go_simp; with_reducible rfl)
        try simp only [Act.put, List.setIfInBounds_toArray, List.set_cons_zero, List.set_cons_succ]
        refine wpAnyH_take (i := 1) (oi := { dst := some 93, op := Go.Op.move (Go.Operand.tmp 0), type := 26, pos := "zsortanyfunc.go:414", after := #[], guard := none }) (v := ?_) rfl (by kernel_rfl) (by kernel_rfl) (by kernel_rfl) (fun _ _ _ h => h) (Or.inl ⟨by kernel_rfl, ?_⟩) (by assumption) ?_
        rotate_left
        · intro w _
          first | (go_simp; done) | (go_simp; with_reducible rfl)
        try simp only [Act.put, List.setIfInBounds_toArray, List.set_cons_zero, List.set_cons_succ]
        refine wpAnyH_take (i := 2) (oi := { dst := some 94, op := Go.Op.move (Go.Operand.tmp 2), type := 3, pos := "zsortanyfunc.go:414", after := #[], guard := none }) (v := ?_) rfl (by kernel_rfl) (by kernel_rfl) (by kernel_rfl) (fun _ _ _ h => h) (Or.inl ⟨by kernel_rfl, ?_⟩) (by assumption) ?_
        rotate_left
        · intro w _
          first | (go_simp; done) | (go_simp; with_reducible rfl)
        try simp only [Act.put, List.setIfInBounds_toArray, List.set_cons_zero, List.set_cons_succ]
        refine wpAnyH_take (i := 3) (oi := { dst := some 95, op := Go.Op.indexAddr 26 (Go.Operand.tmp 93) (Go.Operand.tmp 94), type := 0, pos := "zsortanyfunc.go:414", after := #[{ on := 1, ground := Go.Ground.data }, { on := 2, ground := Go.Ground.data }], guard := none }) (v := ?_) rfl (by kernel_rfl) (by kernel_rfl) (by kernel_rfl) (fun _ _ _ h => h) (Or.inl ⟨by kernel_rfl, ?_⟩) (by assumption) ?_
        rotate_left
        · intro w _
          first | (go_simp; done) | (go_simp; with_reducible rfl)
        try simp only [Act.put, List.setIfInBounds_toArray, List.set_cons_zero, List.set_cons_succ]
        refine wpAnyH_take (i := 4) (oi := { dst := some 96, op := Go.Op.load 39 (Go.Operand.tmp 95), type := 39, pos := "zsortanyfunc.go:414", after := #[{ on := 3, ground := Go.Ground.data }], guard := none }) (v := ?_) rfl (by kernel_rfl) (by kernel_rfl) (by kernel_rfl) (fun _ _ _ h => h) (Or.inl ⟨by kernel_rfl, ?_⟩) (by assumption) ?_
        rotate_left
        · intro w hSw
          (try dsimp only at hSw)
          go_split_ands
          first | (go_simp; done) | (go_simp; with_reducible rfl)
        try simp only [Act.put, List.setIfInBounds_toArray, List.set_cons_zero, List.set_cons_succ]
        refine wpAnyH_take (i := 5) (oi := { dst := some 97, op := Go.Op.move (Go.Operand.tmp 0), type := 26, pos := "zsortanyfunc.go:414", after := #[], guard := none }) (v := ?_) rfl (by kernel_rfl) (by kernel_rfl) (by kernel_rfl) (fun _ _ _ h => h) (Or.inl ⟨by kernel_rfl, ?_⟩) (by assumption) ?_
        rotate_left
        · intro w _
          first | (go_simp; done) | (go_simp; with_reducible rfl)
        try simp only [Act.put, List.setIfInBounds_toArray, List.set_cons_zero, List.set_cons_succ]
        refine wpAnyH_take (i := 6) (oi := { dst := some 98, op := Go.Op.move (Go.Operand.tmp 16), type := 3, pos := "zsortanyfunc.go:414", after := #[], guard := none }) (v := ?_) rfl (by kernel_rfl) (by kernel_rfl) (by kernel_rfl) (fun _ _ _ h => h) (Or.inl ⟨by kernel_rfl, ?_⟩) (by assumption) ?_
        rotate_left
        · intro w _
          first | (go_simp; done) | (go_simp; with_reducible rfl)
        try simp only [Act.put, List.setIfInBounds_toArray, List.set_cons_zero, List.set_cons_succ]
        refine wpAnyH_take (i := 7) (oi := { dst := some 99, op := Go.Op.indexAddr 26 (Go.Operand.tmp 97) (Go.Operand.tmp 98), type := 0, pos := "zsortanyfunc.go:414", after := #[{ on := 5, ground := Go.Ground.data }, { on := 6, ground := Go.Ground.data }], guard := none }) (v := ?_) rfl (by kernel_rfl) (by kernel_rfl) (by kernel_rfl) (fun _ _ _ h => h) (Or.inl ⟨by kernel_rfl, ?_⟩) (by assumption) ?_
        rotate_left
        · intro w _
          first | (go_simp; done) | (go_simp; with_reducible rfl)
        try simp only [Act.put, List.setIfInBounds_toArray, List.set_cons_zero, List.set_cons_succ]
        refine wpAnyH_take (i := 8) (oi := { dst := some 100, op := Go.Op.load 39 (Go.Operand.tmp 99), type := 39, pos := "zsortanyfunc.go:414", after := #[{ on := 7, ground := Go.Ground.data }], guard := none }) (v := ?_) rfl (by kernel_rfl) (by kernel_rfl) (by kernel_rfl) (fun _ _ _ h => h) (Or.inl ⟨by kernel_rfl, ?_⟩) (by assumption) ?_
        rotate_left
        · intro w hSw
          (try dsimp only at hSw)
          go_split_ands
          first | (go_simp; done) | (go_simp; with_reducible rfl)
        try simp only [Act.put, List.setIfInBounds_toArray, List.set_cons_zero, List.set_cons_succ]
        refine wpAnyH_ready (rs := [9]) (by kernel_rfl) (by simp) ?_
        refine AllReadyH.cons (o := { dst := some 101, op := Go.Op.call { callee := Go.Callee.value (Go.Operand.tmp 92), args := #[Go.Operand.tmp 96, Go.Operand.tmp 100], argTypes := #[39, 39] }, type := 3, pos := "zsortanyfunc.go:414", after := #[{ on := 0, ground := Go.Ground.data }, { on := 4, ground := Go.Ground.data }, { on := 8, ground := Go.Ground.data }], guard := none }) rfl (fun K hK => ?_) AllReadyH.nil
        go_simp
        go_at_call 38
        refine (BN.out _).mono ?_
        rintro e w5 ⟨rfl, hb5⟩
        have S5 := HSC.out _ _ S0 hb5
        have HB5 := Lib.hid (hop (below_drewN (Below.refl wr.heap.size wr) 1) (Nat.le_refl _) hb5)
        clear hb5
        refine hK.out _ _ S5 (fun _ => ?_)
        clear hK K
        try simp only [Act.put, List.setIfInBounds_toArray, List.set_cons_zero, List.set_cons_succ]
        refine wpAnyH_take (i := 10) (oi := { dst := some 102, op := Go.Op.binOp Go.BinOp.lss 3 (Go.Operand.tmp 101) (Go.Operand.const (Go.Value.int Go.IntKind.i64 0)) 3, type := 4, pos := "zsortanyfunc.go:414", after := #[{ on := 9, ground := Go.Ground.data }], guard := none }) (v := ?_) rfl (by kernel_rfl) (by kernel_rfl) (by kernel_rfl) (fun _ _ _ h => h) (Or.inl ⟨by kernel_rfl, ?_⟩) (by assumption) ?_
        rotate_left
        · intro w _
          first | (go_simp; done) | (go_simp; with_reducible rfl)
        try simp only [Act.put, List.setIfInBounds_toArray, List.set_cons_zero, List.set_cons_succ]
        refine wpAnyH_take (i := 11) (oi := { dst := some 103, op := Go.Op.unOp Go.UnOp.not 4 (Go.Operand.tmp 102), type := 4, pos := "zsortanyfunc.go:414", after := #[{ on := 10, ground := Go.Ground.data }], guard := none }) (v := ?_) rfl (by kernel_rfl) (by kernel_rfl) (by kernel_rfl) (fun _ _ _ h => h) (Or.inl ⟨by kernel_rfl, ?_⟩) (by assumption) ?_
        rotate_left
        · intro w _
          first | (go_simp; done) | (go_simp; with_reducible rfl)
        try simp only [Act.put, List.setIfInBounds_toArray, List.set_cons_zero, List.set_cons_succ]
        refine wpAnyH_done (by kernel_rfl) ?_ _
        have HS5 := Lib.hid (HS.out.below HB5.out)
        have HG5 := Lib.hid (HG.out.trans (FG.of_below HB5.out))
        clear S5 S0 BN HSC HB5 HZ dx1 dx2 dy1 dy2
        go_wp2
        go_round
        case rel => exact ⟨i, h, rfl, rfl, by omega, by omega, by omega, HLO, HHI2, HS5, HG5⟩
        case measure => simp [intOf]; omega
      · have HLO2 := Lib.hid (show ∀ x, a ≤ x → x < h + 1 → 0 ≤ nameC (getP L m).it (getP L x).it from fun x h1 h2 => Int.not_lt.1 (right_lo nameC_pre HU.out.1 (by omega) (by omega) (by rw [HZ.out]; exact hz0) x h1 h2))
        have hzB : decide (z < 0) = false := decide_eq_false hz0
        go_wp2_with fail
        refine wp_region_held_drew (S := fun w' => w'.cell? ⟨g, m * 2, none⟩ = some (.string sx) ∧ w'.cell? ⟨g, m * 2 + 1, none⟩ = some (.string tx) ∧ w'.cell? ⟨g, h * 2, none⟩ = some (.string sy) ∧ w'.cell? ⟨g, h * 2 + 1, none⟩ = some (.string ty)) (by kernel_rfl) S0 (fun hHeld => ?_)
        refine wpAnyH_take (i := 0) (oi := { dst := some 92, op := Go.Op.move (Go.Operand.tmp 4), type := 73, pos := "zsortanyfunc.go:414", after := #[], guard := none }) (v := ?_) rfl (by kernel_rfl) (by kernel_rfl) (by kernel_rfl) (fun _ _ _ h => h) (Or.inl ⟨by kernel_rfl, ?_⟩) (by assumption) ?_
        rotate_left
        · intro w _
          first | (go_simp; done) | (go_simp; with_reducible rfl)
        try simp only [Act.put, List.setIfInBounds_toArray, List.set_cons_zero, List.set_cons_succ]
        refine wpAnyH_take (i := 1) (oi := { dst := some 93, op := Go.Op.move (Go.Operand.tmp 0), type := 26, pos := "zsortanyfunc.go:414", after := #[], guard := none }) (v := ?_) rfl (by kernel_rfl) (by kernel_rfl) (by kernel_rfl) (fun _ _ _ h => h) (Or.inl ⟨by kernel_rfl, ?_⟩) (by assumption) ?_
        rotate_left
        · intro w _
          first | (go_simp; done) | (go_simp; with_reducible rfl)
        try simp only [Act.put, List.setIfInBounds_toArray, List.set_cons_zero, List.set_cons_succ]
        refine wpAnyH_take (i := 2) (oi := { dst := some 94, op := Go.Op.move (Go.Operand.tmp 2), type := 3, pos := "zsortanyfunc.go:414", after := #[], guard := none }) (v := ?_) rfl (by kernel_rfl) (by kernel_rfl) (by kernel_rfl) (fun _ _ _ h => h) (Or.inl ⟨by kernel_rfl, ?_⟩) (by assumption) ?_
        rotate_left
        · intro w _
          first | (go_simp; done) | (go_simp; with_reducible rfl)
        try simp only [Act.put, List.setIfInBounds_toArray, List.set_cons_zero, List.set_cons_succ]
        refine wpAnyH_take (i := 3) (oi := { dst := some 95, op := Go.Op.indexAddr 26 (Go.Operand.tmp 93) (Go.Operand.tmp 94), type := 0, pos := "zsortanyfunc.go:414", after := #[{ on := 1, ground := Go.Ground.data }, { on := 2, ground := Go.Ground.data }], guard := none }) (v := ?_) rfl (by kernel_rfl) (by kernel_rfl) (by kernel_rfl) (fun _ _ _ h => h) (Or.inl ⟨by kernel_rfl, ?_⟩) (by assumption) ?_
        rotate_left
        · intro w _
          first | (go_simp; done) | (go_simp; with_reducible rfl)
        try simp only [Act.put, List.setIfInBounds_toArray, List.set_cons_zero, List.set_cons_succ]
        refine wpAnyH_take (i := 4) (oi := { dst := some 96, op := Go.Op.load 39 (Go.Operand.tmp 95), type := 39, pos := "zsortanyfunc.go:414", after := #[{ on := 3, ground := Go.Ground.data }], guard := none }) (v := ?_) rfl (by kernel_rfl) (by kernel_rfl) (by kernel_rfl) (fun _ _ _ h => h) (Or.inl ⟨by kernel_rfl, ?_⟩) (by assumption) ?_
        rotate_left
        · intro w hSw
          (try dsimp only at hSw)
          go_split_ands
          first | (go_simp; done) | (go_simp; with_reducible rfl)
        try simp only [Act.put, List.setIfInBounds_toArray, List.set_cons_zero, List.set_cons_succ]
        refine wpAnyH_take (i := 5) (oi := { dst := some 97, op := Go.Op.move (Go.Operand.tmp 0), type := 26, pos := "zsortanyfunc.go:414", after := #[], guard := none }) (v := ?_) rfl (by kernel_rfl) (by kernel_rfl) (by kernel_rfl) (fun _ _ _ h => h) (Or.inl ⟨by kernel_rfl, ?_⟩) (by assumption) ?_
        rotate_left
        · intro w _
          first | (go_simp; done) | (go_simp; with_reducible rfl)
        try simp only [Act.put, List.setIfInBounds_toArray, List.set_cons_zero, List.set_cons_succ]
        refine wpAnyH_take (i := 6) (oi := { dst := some 98, op := Go.Op.move (Go.Operand.tmp 16), type := 3, pos := "zsortanyfunc.go:414", after := #[], guard := none }) (v := ?_) rfl (by kernel_rfl) (by kernel_rfl) (by kernel_rfl) (fun _ _ _ h => h) (Or.inl ⟨by kernel_rfl, ?_⟩) (by assumption) ?_
        rotate_left
        · intro w _
          first | (go_simp; done) | (go_simp; with_reducible rfl)
        try simp only [Act.put, List.setIfInBounds_toArray, List.set_cons_zero, List.set_cons_succ]
        refine wpAnyH_take (i := 7) (oi := { dst := some 99, op := Go.Op.indexAddr 26 (Go.Operand.tmp 97) (Go.Operand.tmp 98), type := 0, pos := "zsortanyfunc.go:414", after := #[{ on := 5, ground := Go.Ground.data }, { on := 6, ground := Go.Ground.data }], guard := none }) (v := ?_) rfl (by kernel_rfl) (by kernel_rfl) (by kernel_rfl) (fun _ _ _ h => h) (Or.inl ⟨by kernel_rfl, ?_⟩) (by assumption) ?_
        rotate_left
        · intro w _
          first | (go_simp; done) | (go_simp; with_reducible rfl)
        try simp only [Act.put, List.setIfInBounds_toArray, List.set_cons_zero, List.set_cons_succ]
        refine wpAnyH_take (i := 8) (oi := { dst := some 100, op := Go.Op.load 39 (Go.Operand.tmp 99), type := 39, pos := "zsortanyfunc.go:414", after := #[{ on := 7, ground := Go.Ground.data }], guard := none }) (v := ?_) rfl (by kernel_rfl) (by kernel_rfl) (by kernel_rfl) (fun _ _ _ h => h) (Or.inl ⟨by kernel_rfl, ?_⟩) (by assumption) ?_
        rotate_left
        · intro w hSw
          (try dsimp only at hSw)
          go_split_ands
          first | (go_simp; done) | (go_simp; with_reducible rfl)
        try simp only [Act.put, List.setIfInBounds_toArray, List.set_cons_zero, List.set_cons_succ]
        refine wpAnyH_ready (rs := [9]) (by kernel_rfl) (by simp) ?_
        refine AllReadyH.cons (o := { dst := some 101, op := Go.Op.call { callee := Go.Callee.value (Go.Operand.tmp 92), args := #[Go.Operand.tmp 96, Go.Operand.tmp 100], argTypes := #[39, 39] }, type := 3, pos := "zsortanyfunc.go:414", after := #[{ on := 0, ground := Go.Ground.data }, { on := 4, ground := Go.Ground.data }, { on := 8, ground := Go.Ground.data }], guard := none }) rfl (fun K hK => ?_) AllReadyH.nil
        go_simp
        go_at_call 38
        refine (BN.out _).mono ?_
        rintro e w5 ⟨rfl, hb5⟩
        have S5 := HSC.out _ _ S0 hb5
        have HB5 := Lib.hid (hop (below_drewN (Below.refl wr.heap.size wr) 1) (Nat.le_refl _) hb5)
        clear hb5
        refine hK.out _ _ S5 (fun _ => ?_)
        clear hK K
        try simp only [Act.put, List.setIfInBounds_toArray, List.set_cons_zero, List.set_cons_succ]
        refine wpAnyH_take (i := 10) (oi := { dst := some 102, op := Go.Op.binOp Go.BinOp.lss 3 (Go.Operand.tmp 101) (Go.Operand.const (Go.Value.int Go.IntKind.i64 0)) 3, type := 4, pos := "zsortanyfunc.go:414", after := #[{ on := 9, ground := Go.Ground.data }], guard := none }) (v := ?_) rfl (by kernel_rfl) (by kernel_rfl) (by kernel_rfl) (fun _ _ _ h => h) (Or.inl ⟨by kernel_rfl, ?_⟩) (by assumption) ?_
        rotate_left
        · intro w _
          first | (go_simp; done) | (go_simp; with_reducible rfl)
        try simp only [Act.put, List.setIfInBounds_toArray, List.set_cons_zero, List.set_cons_succ]
        refine wpAnyH_take (i := 11) (oi := { dst := some 103, op := Go.Op.unOp Go.UnOp.not 4 (Go.Operand.tmp 102), type := 4, pos := "zsortanyfunc.go:414", after := #[{ on := 10, ground := Go.Ground.data }], guard := none }) (v := ?_) rfl (by kernel_rfl) (by kernel_rfl) (by kernel_rfl) (fun _ _ _ h => h) (Or.inl ⟨by kernel_rfl, ?_⟩) (by assumption) ?_
        rotate_left
        · intro w _
          first | (go_simp; done) | (go_simp; with_reducible rfl)
        try simp only [Act.put, List.setIfInBounds_toArray, List.set_cons_zero, List.set_cons_succ]
        refine wpAnyH_done (by kernel_rfl) ?_ _
        have HS5 := Lib.hid (HS.out.below HB5.out)
        have HG5 := Lib.hid (HG.out.trans (FG.of_below HB5.out))
        clear S5 S0 BN HSC HB5 HZ dx1 dx2 dy1 dy2
        go_wp2
        go_round
        case rel => exact ⟨h + 1, j, by go_num, rfl, by omega, by omega, by omega, HLO2, HHI, HS5, HG5⟩
        case measure => simp [intOf]; omega
    · obtain rfl : i = j := by omega
      obtain ⟨v0, hv0⟩ : ∃ v, v = wr := ⟨_, rfl⟩
      subst hv0
      go_wp2
      go_loopw [17] (fun kv w2 => ∃ (k : Nat) (D : List (KeyP PairB)), kv = .int .i64 (k : Int) ∧ i ≤ k ∧ k ≤ m ∧ Hid (SortW w2 g D) ∧ Hid (D.Perm L) ∧ Hid (∀ p, getP D p = rotF L k m (m + 1) p) ∧ Hid (FG g w w2)) (fun kv _ => (intOf kv).toNat)
      case atStart => exact ⟨m, L, rfl, hjm, Nat.le_refl _, HS, Lib.hid (List.Perm.refl _), Lib.hid (fun p => (rotF_left L m (m + 1) p (Nat.le_succ _)).symm), HG⟩
      case round =>
        clear HS HG
        obtain ⟨k, D, rfl, hik, hkm, HS, HP, HR, HG⟩ := hrel
        have hdl : D.length = n := by rw [HP.out.length_eq]; exact HN.out
        by_cases hkl : i < k
        · have hklI : (i : Int) < (k : Int) := by omega
          obtain ⟨q, hq⟩ : ∃ q, q + 1 = k := ⟨k - 1, by omega⟩
          have hqI : (k : Int) - 1 = (q : Int) := by omega
          have hqW : IntKind.i64.wrap (q : Int) = (q : Int) := by rw [IntKind.wrap_i64]; omega
          have hx : k < D.length := by omega
          have hy : q < D.length := by omega
          have hkn : (k : Int) < (n : Int) := by omega
          have hqn : (q : Int) < (n : Int) := by omega
          have hqk : i ≤ q ∧ q < k := by omega
          have hqk1 := hqk.1
          have hqk2 := hqk.2
          have HQ := Lib.hid hq
          have HL1 := Lib.hid (show k < D.length ∧ q < D.length ∧ m < D.length from ⟨hx, hy, by omega⟩)
          have HF := Lib.hid (swap_state HS.out hx hy)
          obtain ⟨cur, hB, hs, hcl⟩ := HS.out
          obtain ⟨cx1, cx2⟩ := hcl k hx
          obtain ⟨cy1, cy2⟩ := hcl q hy
          have dx1 : wr.cell? ⟨g, k * 2, none⟩ = some (.string (getP D k).it.1) := (hB.cell (k * 2)).trans cx1
          have dx2 : wr.cell? ⟨g, k * 2 + 1, none⟩ = some (.string (getP D k).it.2) := (hB.cell (k * 2 + 1)).trans cx2
          have dy1 : wr.cell? ⟨g, q * 2, none⟩ = some (.string (getP D q).it.1) := (hB.cell (q * 2)).trans cy1
          have dy2 : wr.cell? ⟨g, q * 2 + 1, none⟩ = some (.string (getP D q).it.2) := (hB.cell (q * 2 + 1)).trans cy2
          obtain ⟨px, hpx⟩ : ∃ p, (getP D k).it = p := ⟨_, rfl⟩
          obtain ⟨py, hpy⟩ : ∃ p, (getP D q).it = p := ⟨_, rfl⟩
          rw [hpx] at dx1 dx2 HF
          rw [hpy] at dy1 dy2 HF
          obtain ⟨sx, tx⟩ := px
          obtain ⟨sy, ty⟩ := py
          dsimp only at dx1 dx2 dy1 dy2
          have fx1 := hB.frozen (k * 2)
          have fx2 := hB.frozen (k * 2 + 1)
          have fy1 := hB.frozen (q * 2)
          have fy2 := hB.frozen (q * 2 + 1)
          have B2 := (hB.set_ (k * 2) (.string sy)).set_ (k * 2 + 1) (.string ty)
          have B3 := B2.set_ (q * 2) (.string sx)
          obtain ⟨y1, d1⟩ : ∃ yy, ((wr.setCell ⟨g, k * 2, none⟩ (.string sy)).setCell ⟨g, k * 2 + 1, none⟩ (.string ty)).drew.cell? ⟨g, q * 2, none⟩ = some yy :=
            ⟨_, ((B2.drewN 1).cell (q * 2)).trans (Array.getElem?_eq_getElem (by rw [Array.size_setIfInBounds, Array.size_setIfInBounds]; omega))⟩
          have e1 : ((wr.setCell ⟨g, k * 2, none⟩ (.string sy)).setCell ⟨g, k * 2 + 1, none⟩ (.string ty)).drew.frozen? ⟨g, q * 2, none⟩ = false := (B2.drewN 1).frozen (q * 2)
          obtain ⟨y2, d2⟩ : ∃ yy, (((wr.setCell ⟨g, k * 2, none⟩ (.string sy)).setCell ⟨g, k * 2 + 1, none⟩ (.string ty)).setCell ⟨g, q * 2, none⟩ (.string sx)).drew.cell? ⟨g, q * 2 + 1, none⟩ = some yy :=
            ⟨_, ((B3.drewN 1).cell (q * 2 + 1)).trans (Array.getElem?_eq_getElem (by rw [Array.size_setIfInBounds, Array.size_setIfInBounds, Array.size_setIfInBounds]; omega))⟩
          have e2 : (((wr.setCell ⟨g, k * 2, none⟩ (.string sy)).setCell ⟨g, k * 2 + 1, none⟩ (.string ty)).setCell ⟨g, q * 2, none⟩ (.string sx)).drew.frozen? ⟨g, q * 2 + 1, none⟩ = false := (B3.drewN 1).frozen (q * 2 + 1)
          have S0 : True := trivial
          clear hB hs hcl cx1 cx2 cy1 cy2 hpx hpy B2 B3
          clear hx hy hq hdl hqk
          go_wp2_with fail
          refine wp_region_held_drew (S := fun w' => True) (by kernel_rfl) S0 (fun hHeld => ?_)
          refine wpAnyH_take (i := 0) (oi := { dst := some 113, op := Go.Op.move (Go.Operand.tmp 0), type := 26, pos := "zsortanyfunc.go:422", after := #[], guard := none }) (v := ?_) rfl (by kernel_rfl) (by kernel_rfl) (by kernel_rfl) (fun _ _ _ h => h) (Or.inl ⟨by kernel_rfl, ?_⟩) (by assumption) ?_
          rotate_left
          · intro w _
            first | (go_simp; done) | (go_simp; with_reducible rfl)
          try simp only [Act.put, List.setIfInBounds_toArray, List.set_cons_zero, List.set_cons_succ]
          refine wpAnyH_take (i := 1) (oi := { dst := some 114, op := Go.Op.move (Go.Operand.tmp 17), type := 3, pos := "zsortanyfunc.go:422", after := #[], guard := none }) (v := ?_) rfl (by kernel_rfl) (by kernel_rfl) (by kernel_rfl) (fun _ _ _ h => h) (Or.inl ⟨by kernel_rfl, ?_⟩) (by assumption) ?_
          rotate_left
          · intro w _
            first | (go_simp; done) | (go_simp; with_reducible rfl)
          try simp only [Act.put, List.setIfInBounds_toArray, List.set_cons_zero, List.set_cons_succ]
          refine wpAnyH_take (i := 2) (oi := { dst := some 115, op := Go.Op.move (Go.Operand.tmp 0), type := 26, pos := "zsortanyfunc.go:422", after := #[{ on := 15, ground := Go.Ground.gcOnly Go.Departure.lateStores }], guard := none }) (v := ?_) rfl (by kernel_rfl) (by kernel_rfl) (by kernel_rfl) (fun _ _ _ h => h) (Or.inl ⟨by kernel_rfl, ?_⟩) (by assumption) ?_
          rotate_left
          · intro w _
            first | (go_simp; done) | (go_simp; with_reducible rfl)
          try simp only [Act.put, List.setIfInBounds_toArray, List.set_cons_zero, List.set_cons_succ]
          refine wpAnyH_take (i := 3) (oi := { dst := some 116, op := Go.Op.move (Go.Operand.tmp 17), type := 3, pos := "zsortanyfunc.go:422", after := #[{ on := 15, ground := Go.Ground.gcOnly Go.Departure.lateStores }], guard := none }) (v := ?_) rfl (by kernel_rfl) (by kernel_rfl) (by kernel_rfl) (fun _ _ _ h => h) (Or.inl ⟨by kernel_rfl, ?_⟩) (by assumption) ?_
          rotate_left
          · intro w _
            first | (go_simp; done) | (go_simp; with_reducible rfl)
          try simp only [Act.put, List.setIfInBounds_toArray, List.set_cons_zero, List.set_cons_succ]
          refine wpAnyH_take (i := 4) (oi := { dst := some 117, op := Go.Op.binOp Go.BinOp.sub 3 (Go.Operand.tmp 116) (Go.Operand.const (Go.Value.int Go.IntKind.i64 1)) 3, type := 3, pos := "zsortanyfunc.go:422", after := #[{ on := 3, ground := Go.Ground.data }, { on := 15, ground := Go.Ground.gcOnly Go.Departure.lateStores }], guard := none }) (v := ?_) rfl (by kernel_rfl) (by kernel_rfl) (by kernel_rfl) (fun _ _ _ h => h) (Or.inl ⟨by kernel_rfl, ?_⟩) (by assumption) ?_
          rotate_left
          · intro w _
            first | (go_simp; done) | (go_simp; with_reducible rfl)
          try simp only [Act.put, List.setIfInBounds_toArray, List.set_cons_zero, List.set_cons_succ]
          refine wpAnyH_take (i := 5) (oi := { dst := some 118, op := Go.Op.move (Go.Operand.tmp 0), type := 26, pos := "zsortanyfunc.go:422", after := #[], guard := none }) (v := ?_) rfl (by kernel_rfl) (by kernel_rfl) (by kernel_rfl) (fun _ _ _ h => h) (Or.inl ⟨by kernel_rfl, ?_⟩) (by assumption) ?_
          rotate_left
          · intro w _
            first | (go_simp; done) | (go_simp; with_reducible rfl)
          try simp only [Act.put, List.setIfInBounds_toArray, List.set_cons_zero, List.set_cons_succ]
          refine wpAnyH_take (i := 6) (oi := { dst := some 119, op := Go.Op.move (Go.Operand.tmp 17), type := 3, pos := "zsortanyfunc.go:422", after := #[], guard := none }) (v := ?_) rfl (by kernel_rfl) (by kernel_rfl) (by kernel_rfl) (fun _ _ _ h => h) (Or.inl ⟨by kernel_rfl, ?_⟩) (by assumption) ?_
          rotate_left
          · intro w _
            first | (go_simp; done) | (go_simp; with_reducible rfl)
          try simp only [Act.put, List.setIfInBounds_toArray, List.set_cons_zero, List.set_cons_succ]
          refine wpAnyH_take (i := 7) (oi := { dst := some 120, op := Go.Op.binOp Go.BinOp.sub 3 (Go.Operand.tmp 119) (Go.Operand.const (Go.Value.int Go.IntKind.i64 1)) 3, type := 3, pos := "zsortanyfunc.go:422", after := #[{ on := 6, ground := Go.Ground.data }], guard := none }) (v := ?_) rfl (by kernel_rfl) (by kernel_rfl) (by kernel_rfl) (fun _ _ _ h => h) (Or.inl ⟨by kernel_rfl, ?_⟩) (by assumption) ?_
          rotate_left
          · intro w _
            first | (go_simp; done) | (go_simp; with_reducible rfl)
          try simp only [Act.put, List.setIfInBounds_toArray, List.set_cons_zero, List.set_cons_succ]
          refine wpAnyH_take (i := 8) (oi := { dst := some 121, op := Go.Op.indexAddr 26 (Go.Operand.tmp 118) (Go.Operand.tmp 120), type := 0, pos := "zsortanyfunc.go:422", after := #[{ on := 5, ground := Go.Ground.data }, { on := 7, ground := Go.Ground.data }], guard := none }) (v := ?_) rfl (by kernel_rfl) (by kernel_rfl) (by kernel_rfl) (fun _ _ _ h => h) (Or.inl ⟨by kernel_rfl, ?_⟩) (by assumption) ?_
          rotate_left
          · intro w _
            first | (go_simp; done) | (go_simp; with_reducible rfl)
          try simp only [Act.put, List.setIfInBounds_toArray, List.set_cons_zero, List.set_cons_succ]
          refine wpAnyH_take (i := 10) (oi := { dst := some 123, op := Go.Op.move (Go.Operand.tmp 0), type := 26, pos := "zsortanyfunc.go:422", after := #[], guard := none }) (v := ?_) rfl (by kernel_rfl) (by kernel_rfl) (by kernel_rfl) (fun _ _ _ h => h) (Or.inl ⟨by kernel_rfl, ?_⟩) (by assumption) ?_
          rotate_left
          · intro w _
            first | (go_simp; done) | (go_simp; with_reducible rfl)
          try simp only [Act.put, List.setIfInBounds_toArray, List.set_cons_zero, List.set_cons_succ]
          refine wpAnyH_take (i := 11) (oi := { dst := some 124, op := Go.Op.move (Go.Operand.tmp 17), type := 3, pos := "zsortanyfunc.go:422", after := #[], guard := none }) (v := ?_) rfl (by kernel_rfl) (by kernel_rfl) (by kernel_rfl) (fun _ _ _ h => h) (Or.inl ⟨by kernel_rfl, ?_⟩) (by assumption) ?_
          rotate_left
          · intro w _
            first | (go_simp; done) | (go_simp; with_reducible rfl)
          try simp only [Act.put, List.setIfInBounds_toArray, List.set_cons_zero, List.set_cons_succ]
          refine wpAnyH_take (i := 12) (oi := { dst := some 125, op := Go.Op.indexAddr 26 (Go.Operand.tmp 123) (Go.Operand.tmp 124), type := 0, pos := "zsortanyfunc.go:422", after := #[{ on := 10, ground := Go.Ground.data }, { on := 11, ground := Go.Ground.data }], guard := none }) (v := ?_) rfl (by kernel_rfl) (by kernel_rfl) (by kernel_rfl) (fun _ _ _ h => h) (Or.inl ⟨by kernel_rfl, ?_⟩) (by assumption) ?_
          rotate_left
          · intro w _
            first | (go_simp; done) | (go_simp; with_reducible rfl)
          try simp only [Act.put, List.setIfInBounds_toArray, List.set_cons_zero, List.set_cons_succ]
          refine wpAnyH_ready (rs := [9, 13]) (by kernel_rfl) (by simp) ?_
          refine AllReadyH.cons (o := { dst := some 122, op := Go.Op.load 39 (Go.Operand.tmp 121), type := 39, pos := "zsortanyfunc.go:422", after := #[{ on := 8, ground := Go.Ground.data }], guard := none }) rfl (fun K hK => ?_) ?_
          ·
            go_simp
            refine hK.out _ _ S0 (fun _ => ?_)
            clear hK K
            try simp only [Act.put, List.setIfInBounds_toArray, List.set_cons_zero, List.set_cons_succ]
            refine wpAnyH_ready (rs := [13]) (by kernel_rfl) (by simp) ?_
            refine AllReadyH.cons (o := { dst := some 126, op := Go.Op.load 39 (Go.Operand.tmp 125), type := 39, pos := "zsortanyfunc.go:422", after := #[{ on := 12, ground := Go.Ground.data }], guard := none }) rfl (fun K hK => ?_) AllReadyH.nil
            go_simp
            refine hK.out _ _ S0 (fun _ => ?_)
            clear hK K
            try simp only [Act.put, List.setIfInBounds_toArray, List.set_cons_zero, List.set_cons_succ]
            refine wpAnyH_take (i := 14) (oi := { dst := some 127, op := Go.Op.indexAddr 26 (Go.Operand.tmp 113) (Go.Operand.tmp 114), type := 0, pos := "zsortanyfunc.go:422", after := #[{ on := 0, ground := Go.Ground.data }, { on := 1, ground := Go.Ground.data }, { on := 0, ground := Go.Ground.phase }, { on := 1, ground := Go.Ground.phase }, { on := 2, ground := Go.Ground.textOnly Go.Departure.lateStores }, { on := 3, ground := Go.Ground.textOnly Go.Departure.lateStores }, { on := 4, ground := Go.Ground.textOnly Go.Departure.lateStores }, { on := 5, ground := Go.Ground.phase }, { on := 6, ground := Go.Ground.phase }, { on := 7, ground := Go.Ground.phase }, { on := 8, ground := Go.Ground.phase }, { on := 9, ground := Go.Ground.phase }, { on := 10, ground := Go.Ground.textOnly Go.Departure.lateStores }, { on := 11, ground := Go.Ground.textOnly Go.Departure.lateStores }, { on := 12, ground := Go.Ground.textOnly Go.Departure.lateStoresUnsure }, { on := 13, ground := Go.Ground.phase }], guard := none }) (v := ?_) rfl (by kernel_rfl) (by kernel_rfl) (by kernel_rfl) (fun _ _ _ h => h) (Or.inl ⟨by kernel_rfl, ?_⟩) (by assumption) ?_
            rotate_left
            · intro w _
              first | (go_simp; done) | (go_simp; with_reducible rfl)
            try simp only [Act.put, List.setIfInBounds_toArray, List.set_cons_zero, List.set_cons_succ]
            refine wpAnyH_ready (rs := [15]) (by kernel_rfl) (by simp) ?_
            refine AllReadyH.cons (o := { dst := none, op := Go.Op.store 39 (Go.Operand.tmp 127) (Go.Operand.tmp 122), type := 0, pos := "zsortanyfunc.go:422", after := #[{ on := 14, ground := Go.Ground.data }, { on := 9, ground := Go.Ground.data }, { on := 0, ground := Go.Ground.phase }, { on := 1, ground := Go.Ground.phase }, { on := 2, ground := Go.Ground.textOnly Go.Departure.lateStores }, { on := 3, ground := Go.Ground.textOnly Go.Departure.lateStores }, { on := 4, ground := Go.Ground.textOnly Go.Departure.lateStores }, { on := 5, ground := Go.Ground.phase }, { on := 6, ground := Go.Ground.phase }, { on := 7, ground := Go.Ground.phase }, { on := 8, ground := Go.Ground.phase }, { on := 9, ground := Go.Ground.phase }, { on := 10, ground := Go.Ground.textOnly Go.Departure.lateStores }, { on := 11, ground := Go.Ground.textOnly Go.Departure.lateStores }, { on := 12, ground := Go.Ground.textOnly Go.Departure.lateStoresUnsure }, { on := 13, ground := Go.Ground.phase }], guard := none }) rfl (fun K hK => ?_) AllReadyH.nil
            go_simp
            refine hK.out _ _ S0 (fun _ => ?_)
            clear hK K
            try simp only [Act.put, List.setIfInBounds_toArray, List.set_cons_zero, List.set_cons_succ]
            refine wpAnyH_take (i := 16) (oi := { dst := some 128, op := Go.Op.indexAddr 26 (Go.Operand.tmp 115) (Go.Operand.tmp 117), type := 0, pos := "zsortanyfunc.go:422", after := #[{ on := 2, ground := Go.Ground.data }, { on := 4, ground := Go.Ground.data }, { on := 0, ground := Go.Ground.phase }, { on := 1, ground := Go.Ground.phase }, { on := 2, ground := Go.Ground.phase }, { on := 3, ground := Go.Ground.phase }, { on := 4, ground := Go.Ground.phase }, { on := 5, ground := Go.Ground.phase }, { on := 6, ground := Go.Ground.phase }, { on := 7, ground := Go.Ground.phase }, { on := 8, ground := Go.Ground.phase }, { on := 9, ground := Go.Ground.phase }, { on := 10, ground := Go.Ground.phase }, { on := 11, ground := Go.Ground.phase }, { on := 12, ground := Go.Ground.phase }, { on := 13, ground := Go.Ground.phase }, { on := 14, ground := Go.Ground.phase }, { on := 15, ground := Go.Ground.phase }], guard := none }) (v := ?_) rfl (by kernel_rfl) (by kernel_rfl) (by kernel_rfl) (fun _ _ _ h => h) (Or.inl ⟨by kernel_rfl, ?_⟩) (by assumption) ?_
            rotate_left
            · intro w _
              first | (go_simp; done) | (go_simp; with_reducible rfl)
            try simp only [Act.put, List.setIfInBounds_toArray, List.set_cons_zero, List.set_cons_succ]
            refine wpAnyH_ready (rs := [17]) (by kernel_rfl) (by simp) ?_
            refine AllReadyH.cons (o := { dst := none, op := Go.Op.store 39 (Go.Operand.tmp 128) (Go.Operand.tmp 126), type := 0, pos := "zsortanyfunc.go:422", after := #[{ on := 16, ground := Go.Ground.data }, { on := 13, ground := Go.Ground.data }, { on := 15, ground := Go.Ground.chain }, { on := 0, ground := Go.Ground.phase }, { on := 1, ground := Go.Ground.phase }, { on := 2, ground := Go.Ground.phase }, { on := 3, ground := Go.Ground.phase }, { on := 4, ground := Go.Ground.phase }, { on := 5, ground := Go.Ground.phase }, { on := 6, ground := Go.Ground.phase }, { on := 7, ground := Go.Ground.phase }, { on := 8, ground := Go.Ground.phase }, { on := 9, ground := Go.Ground.phase }, { on := 10, ground := Go.Ground.phase }, { on := 11, ground := Go.Ground.phase }, { on := 12, ground := Go.Ground.phase }, { on := 13, ground := Go.Ground.phase }, { on := 14, ground := Go.Ground.phase }, { on := 15, ground := Go.Ground.phase }], guard := none }) rfl (fun K hK => ?_) AllReadyH.nil
            go_simp
            refine hK.out _ _ S0 (fun _ => ?_)
            clear hK K
            try simp only [Act.put, List.setIfInBounds_toArray, List.set_cons_zero, List.set_cons_succ]
            refine wpAnyH_done (by kernel_rfl) ?_ _
            go_wp2
            go_round
            case rel => exact ⟨q, swapP D k q, rfl, hqk1, by omega, Lib.hid HF.out.1, Lib.hid ((swapP_perm HL1.out.1 HL1.out.2.1).trans HP.out), Lib.hid (by have h1 := HL1.out.2.2; have h2 := HR.out; rw [← HQ.out] at h2 ⊢; exact rotF_down (by have := HQ.out; omega) h1 h2), Lib.hid (HG.out.trans HF.out.2)⟩
            case measure => simp [intOf]; omega
          refine AllReadyH.cons (o := { dst := some 126, op := Go.Op.load 39 (Go.Operand.tmp 125), type := 39, pos := "zsortanyfunc.go:422", after := #[{ on := 12, ground := Go.Ground.data }], guard := none }) rfl (fun K hK => ?_) AllReadyH.nil
          ·
            go_simp
            refine hK.out _ _ S0 (fun _ => ?_)
            clear hK K
            try simp only [Act.put, List.setIfInBounds_toArray, List.set_cons_zero, List.set_cons_succ]
            refine wpAnyH_ready (rs := [9]) (by kernel_rfl) (by simp) ?_
            refine AllReadyH.cons (o := { dst := some 122, op := Go.Op.load 39 (Go.Operand.tmp 121), type := 39, pos := "zsortanyfunc.go:422", after := #[{ on := 8, ground := Go.Ground.data }], guard := none }) rfl (fun K hK => ?_) AllReadyH.nil
            go_simp
            refine hK.out _ _ S0 (fun _ => ?_)
            clear hK K
            try simp only [Act.put, List.setIfInBounds_toArray, List.set_cons_zero, List.set_cons_succ]
            refine wpAnyH_take (i := 14) (oi := { dst := some 127, op := Go.Op.indexAddr 26 (Go.Operand.tmp 113) (Go.Operand.tmp 114), type := 0, pos := "zsortanyfunc.go:422", after := #[{ on := 0, ground := Go.Ground.data }, { on := 1, ground := Go.Ground.data }, { on := 0, ground := Go.Ground.phase }, { on := 1, ground := Go.Ground.phase }, { on := 2, ground := Go.Ground.textOnly Go.Departure.lateStores }, { on := 3, ground := Go.Ground.textOnly Go.Departure.lateStores }, { on := 4, ground := Go.Ground.textOnly Go.Departure.lateStores }, { on := 5, ground := Go.Ground.phase }, { on := 6, ground := Go.Ground.phase }, { on := 7, ground := Go.Ground.phase }, { on := 8, ground := Go.Ground.phase }, { on := 9, ground := Go.Ground.phase }, { on := 10, ground := Go.Ground.textOnly Go.Departure.lateStores }, { on := 11, ground := Go.Ground.textOnly Go.Departure.lateStores }, { on := 12, ground := Go.Ground.textOnly Go.Departure.lateStoresUnsure }, { on := 13, ground := Go.Ground.phase }], guard := none }) (v := ?_) rfl (by kernel_rfl) (by kernel_rfl) (by kernel_rfl) (fun _ _ _ h => h) (Or.inl ⟨by kernel_rfl, ?_⟩) (by assumption) ?_
            rotate_left
            · intro w _
              first | (go_simp; done) | (go_simp; with_reducible rfl)
            try simp only [Act.put, List.setIfInBounds_toArray, List.set_cons_zero, List.set_cons_succ]
            refine wpAnyH_ready (rs := [15]) (by kernel_rfl) (by simp) ?_
            refine AllReadyH.cons (o := { dst := none, op := Go.Op.store 39 (Go.Operand.tmp 127) (Go.Operand.tmp 122), type := 0, pos := "zsortanyfunc.go:422", after := #[{ on := 14, ground := Go.Ground.data }, { on := 9, ground := Go.Ground.data }, { on := 0, ground := Go.Ground.phase }, { on := 1, ground := Go.Ground.phase }, { on := 2, ground := Go.Ground.textOnly Go.Departure.lateStores }, { on := 3, ground := Go.Ground.textOnly Go.Departure.lateStores }, { on := 4, ground := Go.Ground.textOnly Go.Departure.lateStores }, { on := 5, ground := Go.Ground.phase }, { on := 6, ground := Go.Ground.phase }, { on := 7, ground := Go.Ground.phase }, { on := 8, ground := Go.Ground.phase }, { on := 9, ground := Go.Ground.phase }, { on := 10, ground := Go.Ground.textOnly Go.Departure.lateStores }, { on := 11, ground := Go.Ground.textOnly Go.Departure.lateStores }, { on := 12, ground := Go.Ground.textOnly Go.Departure.lateStoresUnsure }, { on := 13, ground := Go.Ground.phase }], guard := none }) rfl (fun K hK => ?_) AllReadyH.nil
            go_simp
            refine hK.out _ _ S0 (fun _ => ?_)
            clear hK K
            try simp only [Act.put, List.setIfInBounds_toArray, List.set_cons_zero, List.set_cons_succ]
            refine wpAnyH_take (i := 16) (oi := { dst := some 128, op := Go.Op.indexAddr 26 (Go.Operand.tmp 115) (Go.Operand.tmp 117), type := 0, pos := "zsortanyfunc.go:422", after := #[{ on := 2, ground := Go.Ground.data }, { on := 4, ground := Go.Ground.data }, { on := 0, ground := Go.Ground.phase }, { on := 1, ground := Go.Ground.phase }, { on := 2, ground := Go.Ground.phase }, { on := 3, ground := Go.Ground.phase }, { on := 4, ground := Go.Ground.phase }, { on := 5, ground := Go.Ground.phase }, { on := 6, ground := Go.Ground.phase }, { on := 7, ground := Go.Ground.phase }, { on := 8, ground := Go.Ground.phase }, { on := 9, ground := Go.Ground.phase }, { on := 10, ground := Go.Ground.phase }, { on := 11, ground := Go.Ground.phase }, { on := 12, ground := Go.Ground.phase }, { on := 13, ground := Go.Ground.phase }, { on := 14, ground := Go.Ground.phase }, { on := 15, ground := Go.Ground.phase }], guard := none }) (v := ?_) rfl (by kernel_rfl) (by kernel_rfl) (by kernel_rfl) (fun _ _ _ h => h) (Or.inl ⟨by kernel_rfl, ?_⟩) (by assumption) ?_
            rotate_left
            · intro w _
              first | (go_simp; done) | (go_simp; with_reducible rfl)
            try simp only [Act.put, List.setIfInBounds_toArray, List.set_cons_zero, List.set_cons_succ]
            refine wpAnyH_ready (rs := [17]) (by kernel_rfl) (by simp) ?_
            refine AllReadyH.cons (o := { dst := none, op := Go.Op.store 39 (Go.Operand.tmp 128) (Go.Operand.tmp 126), type := 0, pos := "zsortanyfunc.go:422", after := #[{ on := 16, ground := Go.Ground.data }, { on := 13, ground := Go.Ground.data }, { on := 15, ground := Go.Ground.chain }, { on := 0, ground := Go.Ground.phase }, { on := 1, ground := Go.Ground.phase }, { on := 2, ground := Go.Ground.phase }, { on := 3, ground := Go.Ground.phase }, { on := 4, ground := Go.Ground.phase }, { on := 5, ground := Go.Ground.phase }, { on := 6, ground := Go.Ground.phase }, { on := 7, ground := Go.Ground.phase }, { on := 8, ground := Go.Ground.phase }, { on := 9, ground := Go.Ground.phase }, { on := 10, ground := Go.Ground.phase }, { on := 11, ground := Go.Ground.phase }, { on := 12, ground := Go.Ground.phase }, { on := 13, ground := Go.Ground.phase }, { on := 14, ground := Go.Ground.phase }, { on := 15, ground := Go.Ground.phase }], guard := none }) rfl (fun K hK => ?_) AllReadyH.nil
            go_simp
            refine hK.out _ _ S0 (fun _ => ?_)
            clear hK K
            try simp only [Act.put, List.setIfInBounds_toArray, List.set_cons_zero, List.set_cons_succ]
            refine wpAnyH_done (by kernel_rfl) ?_ _
            go_wp2
            go_round
            case rel => exact ⟨q, swapP D k q, rfl, hqk1, by omega, Lib.hid HF.out.1, Lib.hid ((swapP_perm HL1.out.1 HL1.out.2.1).trans HP.out), Lib.hid (by have h1 := HL1.out.2.2; have h2 := HR.out; rw [← HQ.out] at h2 ⊢; exact rotF_down (by have := HQ.out; omega) h1 h2), Lib.hid (HG.out.trans HF.out.2)⟩
            case measure => simp [intOf]; omega
        · obtain rfl : i = k := by omega
          have HE := Lib.hid (show Mid L D a b ∧ Up nameC D a b from by
            have h1 := HR.out
            have hU := HU.out
            have hlo := HLO.out
            have hhi := HHI.out
            have hm := HM.out
            subst hm
            exact right_end nameC_pre hU.1 hU.2 hai hjm (fun y y1 y2 => Int.not_lt.2 (hlo y y1 y2)) hhi HP.out h1)
          have hnl : ¬ (i : Int) < (i : Int) := by omega
          clear hdl
          go_wp2
          refine bodyPost_ret (results_none rfl _ _ _) rfl ?_
          exact ⟨rfl, D, HS.out, HE.out.1, HE.out.2, HG.out⟩
end Go.Proofs.Ytimmfmgnjpcdoaa.Sy
