/- Two runs of labels merged in place: the search for the middle, the turning, the two halves. -/
import Derived.Test.YtimmfmgnjpcdoaaSymSt
import Derived.Test.YtimmfmgnjpcdoaaSymRot
import Derived.Test.YtimmfmgnjpcdoaaSymMrg
import Derived.Laws.Bits64
import Derived.Deep.DeepCutAuto
import Derived.Outline
namespace Go.Proofs.Ytimmfmgnjpcdoaa.Sy
open Go.RowKit Go.Sort
set_option linter.unusedVariables false
set_option linter.unusedSimpArgs false

/-- what is known behind the search -/
structure Found (L : List (KeyP PairB)) (a s m e b mid n2 : Nat) : Prop where
  cut : Cut nameC L a s m e b
  sum : mid + m = s + e
  sum2 : n2 = mid + m
set_option maxRecDepth 100000 in
set_option maxHeartbeats 1600000 in
theorem mergeMid_any (g cap : Nat) (L : List (KeyP PairB)) (a m b n : Nat) (hn : L.length = n) (hN : n ≤ 1000000) (ham : a + 1 < m) (hmb : m + 1 < b) (hb : b ≤ n) (u1 : Up nameC L a m) (u2 : Up nameC L m b) (cr : Cross L a m b) (IH : ∀ (D : List (KeyP PairB)) (p q r : Nat) (w : World), D.length = n → p < q → q < r → r ≤ n → r - p < b - a → Up nameC D p q → Up nameC D q r → Cross D p q r → SortW w g D → Calls Try.prog 64 #[.slice (some ⟨g, 0, none⟩) n cap, .int .i64 (p : Int), .int .i64 (q : Int), .int .i64 (r : Int), .func (.func 38) #[] #[]] w fun e w' => e = .returned (.tuple #[]) ∧ ∃ D', SortW w' g D' ∧ Mid D D' p r ∧ Up nameC D' p r ∧ FG g w w') (w : World) (h : SortW w g L) :
    Calls Try.prog 64 #[.slice (some ⟨g, 0, none⟩) n cap, .int .i64 (a : Int), .int .i64 (m : Int), .int .i64 (b : Int), .func (.func 38) #[] #[]] w fun e w' => e = .returned (.tuple #[]) ∧ ∃ L', SortW w' g L' ∧ Mid L L' a b ∧ Up nameC L' a b ∧ FG g w w' := by
  have HS0 := Lib.hid h
  have HN := Lib.hid hn
  have HU := Lib.hid (And.intro u1 (And.intro u2 cr))
  have HIH := Lib.hid IH
  obtain ⟨d1, hd1⟩ : ∃ d1, d1 = m - a := ⟨_, rfl⟩
  have hd1I : (m : Int) - (a : Int) = (d1 : Int) := by omega
  have hd1W : IntKind.i64.wrap (d1 : Int) = (d1 : Int) := by rw [IntKind.wrap_i64]; omega
  have hd1N : ¬ (d1 : Int) = 1 := by omega
  have hd1B : ((d1 : Int) == 1) = false := by rw [beq_eq_false_iff_ne]; exact hd1N
  have hd1M : ¬ d1 = 1 := by omega
  obtain ⟨d2, hd2⟩ : ∃ d2, d2 = b - m := ⟨_, rfl⟩
  have hd2I : (b : Int) - (m : Int) = (d2 : Int) := by omega
  have hd2W : IntKind.i64.wrap (d2 : Int) = (d2 : Int) := by rw [IntKind.wrap_i64]; omega
  have hd2N : ¬ (d2 : Int) = 1 := by omega
  have hd2B : ((d2 : Int) == 1) = false := by rw [beq_eq_false_iff_ne]; exact hd2N
  have hd2M : ¬ d2 = 1 := by omega
  obtain ⟨mid, hmid⟩ : ∃ mid, mid = (a + b) / 2 := ⟨_, rfl⟩
  obtain ⟨sm, hsm⟩ : ∃ sm, sm = a + b := ⟨_, rfl⟩
  have hsmI : (a : Int) + (b : Int) = (sm : Int) := by omega
  have hsmW : IntKind.i64.wrap (sm : Int) = (sm : Int) := by rw [IntKind.wrap_i64]; omega
  have hsmU : IntKind.u64.wrap (sm : Int) = (sm : Int) := by rw [IntKind.wrap_u64]; omega
  have hhI : (sm : Int) / 2 = (mid : Int) := by omega
  have hhU : IntKind.u64.wrap (mid : Int) = (mid : Int) := by rw [IntKind.wrap_u64]; omega
  have hhW : IntKind.i64.wrap (mid : Int) = (mid : Int) := by rw [IntKind.wrap_i64]; omega
  obtain ⟨n2, hn2⟩ : ∃ n2, n2 = mid + m := ⟨_, rfl⟩
  have hn2I : (mid : Int) + (m : Int) = (n2 : Int) := by omega
  have hn2W : IntKind.i64.wrap (n2 : Int) = (n2 : Int) := by rw [IntKind.wrap_i64]; omega
  obtain ⟨p, hp⟩ : ∃ p, p = n2 - 1 := ⟨_, rfl⟩
  have hpI : (n2 : Int) - 1 = (p : Int) := by omega
  have hpW : IntKind.i64.wrap (p : Int) = (p : Int) := by rw [IntKind.wrap_i64]; omega
  have HB := Lib.hid (show a < mid ∧ mid < b ∧ n2 = mid + m ∧ p + 1 = n2 ∧ mid = (a + b) / 2 by omega)
  have hcase : (mid < m) ∨ (m ≤ mid) := by omega
  obtain ⟨lo, hi, hl⟩ : ∃ lo hi, (mid < m ∧ lo = n2 - b ∧ hi = mid) ∨ (m ≤ mid ∧ lo = a ∧ hi = m) := by
    rcases hcase with hc | hc
    · exact ⟨n2 - b, mid, .inl ⟨hc, rfl, rfl⟩⟩
    · exact ⟨a, m, .inr ⟨hc, rfl, rfl⟩⟩
  have HL := Lib.hid (show (mid < m ∧ lo = mid + m - b ∧ hi = mid) ∨ (m ≤ mid ∧ lo = a ∧ hi = m) by omega)
  have HLH := Lib.hid (show a ≤ lo ∧ lo ≤ hi ∧ hi ≤ m ∧ hi ≤ mid ∧ n2 ≤ lo + b by omega)
  have hloW : IntKind.i64.wrap (lo : Int) = (lo : Int) := by rw [IntKind.wrap_i64]; omega
  have hs0 : (mid < m ∧ (n2 : Int) - (b : Int) = (lo : Int) ∧ hi = mid) ∨ (¬ mid < m ∧ lo = a ∧ hi = m) := by omega
  clear h hn u1 u2 cr IH hd1 hd2 hmid hsm hn2 hp hcase hl
  go_enter Try.func64, Try.ntmps64
  go_upto_if 140 with (fail)
  go_cut [20, 21] (fun sv rv wx => sv = .int .i64 (lo : Int) ∧ rv = .int .i64 (hi : Int) ∧ w = wx)
  case first =>
    rcases hs0 with ⟨hc, hloI, rfl⟩ | ⟨hc, rfl, rfl⟩
    · have hcI : (hi : Int) < (m : Int) := by omega
      go_wp2_with fail
      go_meet
      case rel => exact ⟨rfl, rfl, rfl⟩
    · have hcI : ¬ (mid : Int) < (hi : Int) := by omega
      go_wp2_with fail
      go_meet
      case rel => exact ⟨rfl, rfl, rfl⟩
  case rest =>
    obtain ⟨rfl, rfl, rfl⟩ := hcut
    clear hs0
    go_wp2
    clear hd1I hd1W hd1N hd1B hd1M hd2I hd2W hd2N hd2B hd2M hsmI hsmW hsmU hhI hhU hhW hn2I hn2W hpI hpW hloW
    go_loopw [20, 21] (fun sv rv wr => ∃ (s r : Nat), sv = .int .i64 (s : Int) ∧ rv = .int .i64 (r : Int) ∧ lo ≤ s ∧ s ≤ r ∧ r ≤ hi ∧ Hid (s = lo ∨ Tlt nameC (getP L (s - 1)) (getP L (mid + m - s))) ∧ Hid (r = hi ∨ Tlt nameC (getP L (mid + m - 1 - r)) (getP L r)) ∧ Hid (SortW wr g L) ∧ Hid (FG g w wr)) (fun sv rv _ => (intOf rv).toNat - (intOf sv).toNat)
    case atStart => exact ⟨lo, hi, rfl, rfl, Nat.le_refl _, HLH.out.2.1, Nat.le_refl _, Lib.hid (.inl rfl), Lib.hid (.inl rfl), HS0, Lib.hid (FG.refl _ _)⟩
    case round =>
      obtain ⟨s, r, rfl, rfl, hls, hsr, hrh, K1, K2, HS, HG⟩ := hrel
      have hB := HB.out
      have hLH := HLH.out
      have hLN := HN.out
      by_cases hlt : s < r
      · as_aux_lemma =>
        have hltI : (s : Int) < (r : Int) := by omega
        obtain ⟨c2, hc2⟩ : ∃ c2, c2 = s + r := ⟨_, rfl⟩
        obtain ⟨c, hcc⟩ : ∃ c, c = c2 / 2 := ⟨_, rfl⟩
        have hc2I : (s : Int) + (r : Int) = (c2 : Int) := by omega
        have hc2W : IntKind.i64.wrap (c2 : Int) = (c2 : Int) := by rw [IntKind.wrap_i64]; omega
        have hc2U : IntKind.u64.wrap (c2 : Int) = (c2 : Int) := by rw [IntKind.wrap_u64]; omega
        have hcI : (c2 : Int) / 2 = (c : Int) := by omega
        have hcU : IntKind.u64.wrap (c : Int) = (c : Int) := by rw [IntKind.wrap_u64]; omega
        have hcW : IntKind.i64.wrap (c : Int) = (c : Int) := by rw [IntKind.wrap_i64]; omega
        have hsc : s ≤ c := by omega
        have hcr : c < r := by omega
        obtain ⟨y, hyy⟩ : ∃ y, y = p - c := ⟨_, rfl⟩
        have hyI : (p : Int) - (c : Int) = (y : Int) := by omega
        have hyW : IntKind.i64.wrap (y : Int) = (y : Int) := by rw [IntKind.wrap_i64]; omega
        have hx : y < L.length := by omega
        have hy : c < L.length := by omega
        have hyn : (y : Int) < (n : Int) := by omega
        have hcn : (c : Int) < (n : Int) := by omega
        have hwc1 : IntKind.i64.wrap ((c : Int) + 1) = (c : Int) + 1 := by rw [IntKind.wrap_i64]; omega
        have HY := Lib.hid (show mid + m - 1 - c = y ∧ mid + m - (c + 1) = y ∧ m ≤ y ∧ y < b ∧ a ≤ c ∧ c < m by omega)
        clear hc2 hcc hyy hB hLH hLN
        go_wp2
        clear hc2I hc2W hc2U hcI hcU hcW
        obtain ⟨cur, hB, hs, hcl⟩ := HS.out
        obtain ⟨cx1, cx2⟩ := hcl y hx
        obtain ⟨cy1, cy2⟩ := hcl c hy
        have dx1 : wr.cell? ⟨g, y * 2, none⟩ = some (.string (getP L y).it.1) := (hB.cell (y * 2)).trans cx1
        have dx2 : wr.cell? ⟨g, y * 2 + 1, none⟩ = some (.string (getP L y).it.2) := (hB.cell (y * 2 + 1)).trans cx2
        have dy1 : wr.cell? ⟨g, c * 2, none⟩ = some (.string (getP L c).it.1) := (hB.cell (c * 2)).trans cy1
        have dy2 : wr.cell? ⟨g, c * 2 + 1, none⟩ = some (.string (getP L c).it.2) := (hB.cell (c * 2 + 1)).trans cy2
        have hgl := hB.lt
        obtain ⟨z, hz⟩ : ∃ z, nameC (getP L y).it (getP L c).it = z := ⟨_, rfl⟩
        have BN := fun w => byNameB (getP L y).it (getP L c).it w
        rw [hz] at BN
        obtain ⟨px, hpx⟩ : ∃ p, (getP L y).it = p := ⟨_, rfl⟩
        obtain ⟨py, hpy⟩ : ∃ p, (getP L c).it = p := ⟨_, rfl⟩
        rw [hpx] at dx1 dx2
        rw [hpy] at dy1 dy2
        rw [hpx, hpy] at BN
        have HZ := Lib.hid hz
        obtain ⟨sx, tx⟩ := px
        obtain ⟨sy, ty⟩ := py
        have HPX := Lib.hid hpx
        have HPY := Lib.hid hpy
        dsimp only at dx1 dx2 dy1 dy2 BN
        replace BN := Lib.hid BN
        have S0 : wr.drew.cell? ⟨g, y * 2, none⟩ = some (.string sx) ∧ wr.drew.cell? ⟨g, y * 2 + 1, none⟩ = some (.string tx) ∧ wr.drew.cell? ⟨g, c * 2, none⟩ = some (.string sy) ∧ wr.drew.cell? ⟨g, c * 2 + 1, none⟩ = some (.string ty) := ⟨dx1, dx2, dy1, dy2⟩
        have HSC := Lib.hid (fun (wa wb : World) (hS : wa.cell? ⟨g, y * 2, none⟩ = some (.string sx) ∧ wa.cell? ⟨g, y * 2 + 1, none⟩ = some (.string tx) ∧ wa.cell? ⟨g, c * 2, none⟩ = some (.string sy) ∧ wa.cell? ⟨g, c * 2 + 1, none⟩ = some (.string ty)) (hwb : Below wa.heap.size wa wb) => show wb.cell? ⟨g, y * 2, none⟩ = some (.string sx) ∧ wb.cell? ⟨g, y * 2 + 1, none⟩ = some (.string tx) ∧ wb.cell? ⟨g, c * 2, none⟩ = some (.string sy) ∧ wb.cell? ⟨g, c * 2 + 1, none⟩ = some (.string ty) from by
          obtain ⟨s0, s1, s2, s3⟩ := hS
          exact ⟨(hwb.cell (p := ⟨g, y * 2, none⟩) (block_lt_of_cell s0)).trans s0, (hwb.cell (p := ⟨g, y * 2 + 1, none⟩) (block_lt_of_cell s1)).trans s1, (hwb.cell (p := ⟨g, c * 2, none⟩) (block_lt_of_cell s2)).trans s2, (hwb.cell (p := ⟨g, c * 2 + 1, none⟩) (block_lt_of_cell s3)).trans s3⟩)
        clear hB hs hcl cx1 cx2 cy1 cy2 hpx hpy hz hgl
        have HXY := Lib.hid (And.intro hx hy)
        clear hx hy
        by_cases hz0 : z < 0
        · have K2' := Lib.hid (show c = hi ∨ Tlt nameC (getP L (mid + m - 1 - c)) (getP L c) from .inr (by
            rw [HY.out.1]
            exact .inl (by rw [HZ.out]; exact hz0)))
          have hzB : decide (z < 0) = true := decide_eq_true hz0
          go_wp2_with fail
          refine wp_region_held_drew (S := fun w' => w'.cell? ⟨g, y * 2, none⟩ = some (.string sx) ∧ w'.cell? ⟨g, y * 2 + 1, none⟩ = some (.string tx) ∧ w'.cell? ⟨g, c * 2, none⟩ = some (.string sy) ∧ w'.cell? ⟨g, c * 2 + 1, none⟩ = some (.string ty)) (by kernel_rfl) S0 (fun hHeld => ?_)
          refine wpAnyH_take (i := 0) (oi := { dst := some 158, op := Go.Op.move (Go.Operand.tmp 4), type := 73, pos := "zsortanyfunc.go:441", after := #[], guard := none }) (v := ?_) rfl (by kernel_rfl) (by kernel_rfl) (by kernel_rfl) (fun _ _ _ h => h) (Or.inl ⟨by kernel_rfl, ?_⟩) (by assumption) ?_
          rotate_left
          · intro w _
            first | (go_simp; done) | (go_simp; with_reducible rfl)
          try simp only [Act.put, List.setIfInBounds_toArray, List.set_cons_zero, List.set_cons_succ]
          refine wpAnyH_take (i := 1) (oi := { dst := some 159, op := Go.Op.move (Go.Operand.tmp 0), type := 26, pos := "zsortanyfunc.go:441", after := #[], guard := none }) (v := ?_) rfl (by kernel_rfl) (by kernel_rfl) (by kernel_rfl) (fun _ _ _ h => h) (Or.inl ⟨by kernel_rfl, ?_⟩) (by assumption) ?_
          rotate_left
          · intro w _
            first | (go_simp; done) | (go_simp; with_reducible rfl)
          try simp only [Act.put, List.setIfInBounds_toArray, List.set_cons_zero, List.set_cons_succ]
          refine wpAnyH_take (i := 2) (oi := { dst := some 160, op := Go.Op.move (Go.Operand.tmp 22), type := 3, pos := "zsortanyfunc.go:441", after := #[], guard := none }) (v := ?_) rfl (by kernel_rfl) (by kernel_rfl) (by kernel_rfl) (fun _ _ _ h => h) (Or.inl ⟨by kernel_rfl, ?_⟩) (by assumption) ?_
          rotate_left
          · intro w _
            first | (go_simp; done) | (go_simp; with_reducible rfl)
          try simp only [Act.put, List.setIfInBounds_toArray, List.set_cons_zero, List.set_cons_succ]
          refine wpAnyH_take (i := 3) (oi := { dst := some 161, op := Go.Op.move (Go.Operand.tmp 23), type := 3, pos := "zsortanyfunc.go:441", after := #[], guard := none }) (v := ?_) rfl (by kernel_rfl) (by kernel_rfl) (by kernel_rfl) (fun _ _ _ h => h) (Or.inl ⟨by kernel_rfl, ?_⟩) (by assumption) ?_
          rotate_left
          · intro w _
            first | (go_simp; done) | (go_simp; with_reducible rfl)
          try simp only [Act.put, List.setIfInBounds_toArray, List.set_cons_zero, List.set_cons_succ]
          refine wpAnyH_take (i := 4) (oi := { dst := some 162, op := Go.Op.binOp Go.BinOp.sub 3 (Go.Operand.tmp 160) (Go.Operand.tmp 161) 3, type := 3, pos := "zsortanyfunc.go:441", after := #[{ on := 2, ground := Go.Ground.data }, { on := 3, ground := Go.Ground.data }], guard := none }) (v := ?_) rfl (by kernel_rfl) (by kernel_rfl) (by kernel_rfl) (fun _ _ _ h => h) (Or.inl ⟨by kernel_rfl, ?_⟩) (by assumption) ?_
          rotate_left
          · intro w _
            first | (go_simp; done) | (go_simp; with_reducible rfl)
          try simp only [Act.put, List.setIfInBounds_toArray, List.set_cons_zero, List.set_cons_succ]
          refine wpAnyH_take (i := 5) (oi := { dst := some 163, op := Go.Op.indexAddr 26 (Go.Operand.tmp 159) (Go.Operand.tmp 162), type := 0, pos := "zsortanyfunc.go:441", after := #[{ on := 1, ground := Go.Ground.data }, { on := 4, ground := Go.Ground.data }], guard := none }) (v := ?_) rfl (by kernel_rfl) (by kernel_rfl) (by kernel_rfl) (fun _ _ _ h => h) (Or.inl ⟨by kernel_rfl, ?_⟩) (by assumption) ?_
          rotate_left
          · intro w _
            first | (go_simp; done) | (go_simp; with_reducible rfl)
          try simp only [Act.put, List.setIfInBounds_toArray, List.set_cons_zero, List.set_cons_succ]
          refine wpAnyH_take (i := 6) (oi := { dst := some 164, op := Go.Op.load 39 (Go.Operand.tmp 163), type := 39, pos := "zsortanyfunc.go:441", after := #[{ on := 5, ground := Go.Ground.data }], guard := none }) (v := ?_) rfl (by kernel_rfl) (by kernel_rfl) (by kernel_rfl) (fun _ _ _ h => h) (Or.inl ⟨by kernel_rfl, ?_⟩) (by assumption) ?_
          rotate_left
          · intro w hSw
            (try dsimp only at hSw)
            go_split_ands
            first | (go_simp; done) | (go_simp; with_reducible rfl)
          try simp only [Act.put, List.setIfInBounds_toArray, List.set_cons_zero, List.set_cons_succ]
          refine wpAnyH_take (i := 7) (oi := { dst := some 165, op := Go.Op.move (Go.Operand.tmp 0), type := 26, pos := "zsortanyfunc.go:441", after := #[], guard := none }) (v := ?_) rfl (by kernel_rfl) (by kernel_rfl) (by kernel_rfl) (fun _ _ _ h => h) (Or.inl ⟨by kernel_rfl, ?_⟩) (by assumption) ?_
          rotate_left
          · intro w _
            first | (go_simp; done) | (go_simp; with_reducible rfl)
          try simp only [Act.put, List.setIfInBounds_toArray, List.set_cons_zero, List.set_cons_succ]
          refine wpAnyH_take (i := 8) (oi := { dst := some 166, op := Go.Op.move (Go.Operand.tmp 23), type := 3, pos := "zsortanyfunc.go:441", after := #[], guard := none }) (v := ?_) rfl (by kernel_rfl) (by kernel_rfl) (by kernel_rfl) (fun _ _ _ h => h) (Or.inl ⟨by kernel_rfl, ?_⟩) (by assumption) ?_
          rotate_left
          · intro w _
            first | (go_simp; done) | (go_simp; with_reducible rfl)
          try simp only [Act.put, List.setIfInBounds_toArray, List.set_cons_zero, List.set_cons_succ]
          refine wpAnyH_take (i := 9) (oi := { dst := some 167, op := Go.Op.indexAddr 26 (Go.Operand.tmp 165) (Go.Operand.tmp 166), type := 0, pos := "zsortanyfunc.go:441", after := #[{ on := 7, ground := Go.Ground.data }, { on := 8, ground := Go.Ground.data }], guard := none }) (v := ?_) rfl (by kernel_rfl) (by kernel_rfl) (by kernel_rfl) (fun _ _ _ h => h) (Or.inl ⟨by kernel_rfl, ?_⟩) (by assumption) ?_
          rotate_left
          · intro w _
            first | (go_simp; done) | (go_simp; with_reducible rfl)
          try simp only [Act.put, List.setIfInBounds_toArray, List.set_cons_zero, List.set_cons_succ]
          refine wpAnyH_take (i := 10) (oi := { dst := some 168, op := Go.Op.load 39 (Go.Operand.tmp 167), type := 39, pos := "zsortanyfunc.go:441", after := #[{ on := 9, ground := Go.Ground.data }], guard := none }) (v := ?_) rfl (by kernel_rfl) (by kernel_rfl) (by kernel_rfl) (fun _ _ _ h => h) (Or.inl ⟨by kernel_rfl, ?_⟩) (by assumption) ?_
          rotate_left
          · intro w hSw
            (try dsimp only at hSw)
            go_split_ands
            first | (go_simp; done) | (go_simp; with_reducible rfl)
          try simp only [Act.put, List.setIfInBounds_toArray, List.set_cons_zero, List.set_cons_succ]
          refine wpAnyH_ready (rs := [11]) (by kernel_rfl) (by simp) ?_
          refine AllReadyH.cons (o := { dst := some 169, op := Go.Op.call { callee := Go.Callee.value (Go.Operand.tmp 158), args := #[Go.Operand.tmp 164, Go.Operand.tmp 168], argTypes := #[39, 39] }, type := 3, pos := "zsortanyfunc.go:441", after := #[{ on := 0, ground := Go.Ground.data }, { on := 6, ground := Go.Ground.data }, { on := 10, ground := Go.Ground.data }], guard := none }) rfl (fun K hK => ?_) AllReadyH.nil
          go_simp
          go_at_call 38
          refine (BN.out _).mono ?_
          rintro e w5 ⟨rfl, hb5⟩
          have S5 := HSC.out _ _ S0 hb5
          have HB5 := Lib.hid (hop (below_drewN (Below.refl wr.heap.size wr) 1) (Nat.le_refl _) hb5)
          clear hb5
          refine hK.out _ _ S5 (fun _ => ?_)
          clear hK K
          try simp only [Act.put, List.setIfInBounds_toArray, List.set_cons_zero, List.set_cons_succ]
          refine wpAnyH_take (i := 12) (oi := { dst := some 170, op := Go.Op.binOp Go.BinOp.lss 3 (Go.Operand.tmp 169) (Go.Operand.const (Go.Value.int Go.IntKind.i64 0)) 3, type := 4, pos := "zsortanyfunc.go:441", after := #[{ on := 11, ground := Go.Ground.data }], guard := none }) (v := ?_) rfl (by kernel_rfl) (by kernel_rfl) (by kernel_rfl) (fun _ _ _ h => h) (Or.inl ⟨by kernel_rfl, ?_⟩) (by assumption) ?_
          rotate_left
          · intro w _
            first | (go_simp; done) | (go_simp; with_reducible rfl)
          try simp only [Act.put, List.setIfInBounds_toArray, List.set_cons_zero, List.set_cons_succ]
          refine wpAnyH_take (i := 13) (oi := { dst := some 171, op := Go.Op.unOp Go.UnOp.not 4 (Go.Operand.tmp 170), type := 4, pos := "zsortanyfunc.go:441", after := #[{ on := 12, ground := Go.Ground.data }], guard := none }) (v := ?_) rfl (by kernel_rfl) (by kernel_rfl) (by kernel_rfl) (fun _ _ _ h => h) (Or.inl ⟨by kernel_rfl, ?_⟩) (by assumption) ?_
          rotate_left
          · intro w _
            first | (go_simp; done) | (go_simp; with_reducible rfl)
          try simp only [Act.put, List.setIfInBounds_toArray, List.set_cons_zero, List.set_cons_succ]
          refine wpAnyH_done (by kernel_rfl) ?_ _
          have HS5 := Lib.hid (HS.out.below HB5.out)
          have HG5 := Lib.hid (HG.out.trans (FG.of_below HB5.out))
          clear S5 S0 BN HSC HB5 HZ dx1 dx2 dy1 dy2
          go_wp2
          go_round
          case rel => exact ⟨s, c, rfl, rfl, by omega, by omega, by omega, K1, K2', HS5, HG5⟩
          case measure => simp [intOf]; omega
        · have K1' := Lib.hid (show c + 1 = lo ∨ Tlt nameC (getP L (c + 1 - 1)) (getP L (mid + m - (c + 1))) from .inr (by
            have h1 := HY.out
            have h3 := HZ.out
            have h4 := HU.out.2.2 c y h1.2.2.2.2.1 h1.2.2.2.2.2 h1.2.2.1 h1.2.2.2.1
            rw [h1.2.1, Nat.add_sub_cancel]
            exact Tlt.not_later nameC_pre h4 (by rw [h3]; exact hz0)))
          have hzB : decide (z < 0) = false := decide_eq_false hz0
          go_wp2_with fail
          refine wp_region_held_drew (S := fun w' => w'.cell? ⟨g, y * 2, none⟩ = some (.string sx) ∧ w'.cell? ⟨g, y * 2 + 1, none⟩ = some (.string tx) ∧ w'.cell? ⟨g, c * 2, none⟩ = some (.string sy) ∧ w'.cell? ⟨g, c * 2 + 1, none⟩ = some (.string ty)) (by kernel_rfl) S0 (fun hHeld => ?_)
          refine wpAnyH_take (i := 0) (oi := { dst := some 158, op := Go.Op.move (Go.Operand.tmp 4), type := 73, pos := "zsortanyfunc.go:441", after := #[], guard := none }) (v := ?_) rfl (by kernel_rfl) (by kernel_rfl) (by kernel_rfl) (fun _ _ _ h => h) (Or.inl ⟨by kernel_rfl, ?_⟩) (by assumption) ?_
          rotate_left
          · intro w _
            first | (go_simp; done) | (go_simp; with_reducible rfl)
          try simp only [Act.put, List.setIfInBounds_toArray, List.set_cons_zero, List.set_cons_succ]
          refine wpAnyH_take (i := 1) (oi := { dst := some 159, op := Go.Op.move (Go.Operand.tmp 0), type := 26, pos := "zsortanyfunc.go:441", after := #[], guard := none }) (v := ?_) rfl (by kernel_rfl) (by kernel_rfl) (by kernel_rfl) (fun _ _ _ h => h) (Or.inl ⟨by kernel_rfl, ?_⟩) (by assumption) ?_
          rotate_left
          · intro w _
            first | (go_simp; done) | (go_simp; with_reducible rfl)
          try simp only [Act.put, List.setIfInBounds_toArray, List.set_cons_zero, List.set_cons_succ]
          refine wpAnyH_take (i := 2) (oi := { dst := some 160, op := Go.Op.move (Go.Operand.tmp 22), type := 3, pos := "zsortanyfunc.go:441", after := #[], guard := none }) (v := ?_) rfl (by kernel_rfl) (by kernel_rfl) (by kernel_rfl) (fun _ _ _ h => h) (Or.inl ⟨by kernel_rfl, ?_⟩) (by assumption) ?_
          rotate_left
          · intro w _
            first | (go_simp; done) | (go_simp; with_reducible rfl)
          try simp only [Act.put, List.setIfInBounds_toArray, List.set_cons_zero, List.set_cons_succ]
          refine wpAnyH_take (i := 3) (oi := { dst := some 161, op := Go.Op.move (Go.Operand.tmp 23), type := 3, pos := "zsortanyfunc.go:441", after := #[], guard := none }) (v := ?_) rfl (by kernel_rfl) (by kernel_rfl) (by kernel_rfl) (fun _ _ _ h => h) (Or.inl ⟨by kernel_rfl, ?_⟩) (by assumption) ?_
          rotate_left
          · intro w _
            first | (go_simp; done) | (go_simp; with_reducible rfl)
          try simp only [Act.put, List.setIfInBounds_toArray, List.set_cons_zero, List.set_cons_succ]
          refine wpAnyH_take (i := 4) (oi := { dst := some 162, op := Go.Op.binOp Go.BinOp.sub 3 (Go.Operand.tmp 160) (Go.Operand.tmp 161) 3, type := 3, pos := "zsortanyfunc.go:441", after := #[{ on := 2, ground := Go.Ground.data }, { on := 3, ground := Go.Ground.data }], guard := none }) (v := ?_) rfl (by kernel_rfl) (by kernel_rfl) (by kernel_rfl) (fun _ _ _ h => h) (Or.inl ⟨by kernel_rfl, ?_⟩) (by assumption) ?_
          rotate_left
          · intro w _
            first | (go_simp; done) | (go_simp; with_reducible rfl)
          try simp only [Act.put, List.setIfInBounds_toArray, List.set_cons_zero, List.set_cons_succ]
          refine wpAnyH_take (i := 5) (oi := { dst := some 163, op := Go.Op.indexAddr 26 (Go.Operand.tmp 159) (Go.Operand.tmp 162), type := 0, pos := "zsortanyfunc.go:441", after := #[{ on := 1, ground := Go.Ground.data }, { on := 4, ground := Go.Ground.data }], guard := none }) (v := ?_) rfl (by kernel_rfl) (by kernel_rfl) (by kernel_rfl) (fun _ _ _ h => h) (Or.inl ⟨by kernel_rfl, ?_⟩) (by assumption) ?_
          rotate_left
          · intro w _
            first | (go_simp; done) | (go_simp; with_reducible rfl)
          try simp only [Act.put, List.setIfInBounds_toArray, List.set_cons_zero, List.set_cons_succ]
          refine wpAnyH_take (i := 6) (oi := { dst := some 164, op := Go.Op.load 39 (Go.Operand.tmp 163), type := 39, pos := "zsortanyfunc.go:441", after := #[{ on := 5, ground := Go.Ground.data }], guard := none }) (v := ?_) rfl (by kernel_rfl) (by kernel_rfl) (by kernel_rfl) (fun _ _ _ h => h) (Or.inl ⟨by kernel_rfl, ?_⟩) (by assumption) ?_
          rotate_left
          · intro w hSw
            (try dsimp only at hSw)
            go_split_ands
            first | (go_simp; done) | (go_simp; with_reducible rfl)
          try simp only [Act.put, List.setIfInBounds_toArray, List.set_cons_zero, List.set_cons_succ]
          refine wpAnyH_take (i := 7) (oi := { dst := some 165, op := Go.Op.move (Go.Operand.tmp 0), type := 26, pos := "zsortanyfunc.go:441", after := #[], guard := none }) (v := ?_) rfl (by kernel_rfl) (by kernel_rfl) (by kernel_rfl) (fun _ _ _ h => h) (Or.inl ⟨by kernel_rfl, ?_⟩) (by assumption) ?_
          rotate_left
          · intro w _
            first | (go_simp; done) | (go_simp; with_reducible rfl)
          try simp only [Act.put, List.setIfInBounds_toArray, List.set_cons_zero, List.set_cons_succ]
          refine wpAnyH_take (i := 8) (oi := { dst := some 166, op := Go.Op.move (Go.Operand.tmp 23), type := 3, pos := "zsortanyfunc.go:441", after := #[], guard := none }) (v := ?_) rfl (by kernel_rfl) (by kernel_rfl) (by kernel_rfl) (fun _ _ _ h => h) (Or.inl ⟨by kernel_rfl, ?_⟩) (by assumption) ?_
          rotate_left
          · intro w _
            first | (go_simp; done) | (go_simp; with_reducible rfl)
          try simp only [Act.put, List.setIfInBounds_toArray, List.set_cons_zero, List.set_cons_succ]
          refine wpAnyH_take (i := 9) (oi := { dst := some 167, op := Go.Op.indexAddr 26 (Go.Operand.tmp 165) (Go.Operand.tmp 166), type := 0, pos := "zsortanyfunc.go:441", after := #[{ on := 7, ground := Go.Ground.data }, { on := 8, ground := Go.Ground.data }], guard := none }) (v := ?_) rfl (by kernel_rfl) (by kernel_rfl) (by kernel_rfl) (fun _ _ _ h => h) (Or.inl ⟨by kernel_rfl, ?_⟩) (by assumption) ?_
          rotate_left
          · intro w _
            first | (go_simp; done) | (go_simp; with_reducible rfl)
          try simp only [Act.put, List.setIfInBounds_toArray, List.set_cons_zero, List.set_cons_succ]
          refine wpAnyH_take (i := 10) (oi := { dst := some 168, op := Go.Op.load 39 (Go.Operand.tmp 167), type := 39, pos := "zsortanyfunc.go:441", after := #[{ on := 9, ground := Go.Ground.data }], guard := none }) (v := ?_) rfl (by kernel_rfl) (by kernel_rfl) (by kernel_rfl) (fun _ _ _ h => h) (Or.inl ⟨by kernel_rfl, ?_⟩) (by assumption) ?_
          rotate_left
          · intro w hSw
            (try dsimp only at hSw)
            go_split_ands
            first | (go_simp; done) | (go_simp; with_reducible rfl)
          try simp only [Act.put, List.setIfInBounds_toArray, List.set_cons_zero, List.set_cons_succ]
          refine wpAnyH_ready (rs := [11]) (by kernel_rfl) (by simp) ?_
          refine AllReadyH.cons (o := { dst := some 169, op := Go.Op.call { callee := Go.Callee.value (Go.Operand.tmp 158), args := #[Go.Operand.tmp 164, Go.Operand.tmp 168], argTypes := #[39, 39] }, type := 3, pos := "zsortanyfunc.go:441", after := #[{ on := 0, ground := Go.Ground.data }, { on := 6, ground := Go.Ground.data }, { on := 10, ground := Go.Ground.data }], guard := none }) rfl (fun K hK => ?_) AllReadyH.nil
          go_simp
          go_at_call 38
          refine (BN.out _).mono ?_
          rintro e w5 ⟨rfl, hb5⟩
          have S5 := HSC.out _ _ S0 hb5
          have HB5 := Lib.hid (hop (below_drewN (Below.refl wr.heap.size wr) 1) (Nat.le_refl _) hb5)
          clear hb5
          refine hK.out _ _ S5 (fun _ => ?_)
          clear hK K
          try simp only [Act.put, List.setIfInBounds_toArray, List.set_cons_zero, List.set_cons_succ]
          refine wpAnyH_take (i := 12) (oi := { dst := some 170, op := Go.Op.binOp Go.BinOp.lss 3 (Go.Operand.tmp 169) (Go.Operand.const (Go.Value.int Go.IntKind.i64 0)) 3, type := 4, pos := "zsortanyfunc.go:441", after := #[{ on := 11, ground := Go.Ground.data }], guard := none }) (v := ?_) rfl (by kernel_rfl) (by kernel_rfl) (by kernel_rfl) (fun _ _ _ h => h) (Or.inl ⟨by kernel_rfl, ?_⟩) (by assumption) ?_
          rotate_left
          · intro w _
            first | (go_simp; done) | (go_simp; with_reducible rfl)
          try simp only [Act.put, List.setIfInBounds_toArray, List.set_cons_zero, List.set_cons_succ]
          refine wpAnyH_take (i := 13) (oi := { dst := some 171, op := Go.Op.unOp Go.UnOp.not 4 (Go.Operand.tmp 170), type := 4, pos := "zsortanyfunc.go:441", after := #[{ on := 12, ground := Go.Ground.data }], guard := none }) (v := ?_) rfl (by kernel_rfl) (by kernel_rfl) (by kernel_rfl) (fun _ _ _ h => h) (Or.inl ⟨by kernel_rfl, ?_⟩) (by assumption) ?_
          rotate_left
          · intro w _
            first | (go_simp; done) | (go_simp; with_reducible rfl)
          try simp only [Act.put, List.setIfInBounds_toArray, List.set_cons_zero, List.set_cons_succ]
          refine wpAnyH_done (by kernel_rfl) ?_ _
          have HS5 := Lib.hid (HS.out.below HB5.out)
          have HG5 := Lib.hid (HG.out.trans (FG.of_below HB5.out))
          clear S5 S0 BN HSC HB5 HZ dx1 dx2 dy1 dy2
          go_wp2
          go_round
          case rel => exact ⟨c + 1, r, by go_num, rfl, by omega, by omega, by omega, K1', K2, HS5, HG5⟩
          case measure => simp [intOf]; omega
      · obtain rfl : s = r := by omega
        obtain ⟨e, he⟩ : ∃ e, e = n2 - s := ⟨_, rfl⟩
        have heI : (n2 : Int) - (s : Int) = (e : Int) := by omega
        have heW : IntKind.i64.wrap (e : Int) = (e : Int) := by rw [IntKind.wrap_i64]; omega
        have HF := Lib.hid (show Found L a s m e b mid n2 from by
          have hU := HU.out
          have h1 := search_cut nameC_pre (by omega) (by omega) hB.2.2.2.2 HL.out hls hrh hU.1 hU.2.1 K1.out K2.out
          have h2 : mid + m - s = e := by omega
          rw [h2] at h1
          exact ⟨h1, by omega, hB.2.2.1⟩)
        clear he hB hLH hLN hls hsr hrh K1 K2
        have hnl : ¬ (s : Int) < (s : Int) := by omega
        by_cases h1 : s < m
        · have h1I : (s : Int) < (m : Int) := by omega
          by_cases h2 : m < e
          · as_aux_lemma =>
            have h2I : (m : Int) < (e : Int) := by omega
            have HT2 := Lib.hid (And.intro h1 h2)
            have SR := Lib.hid (rotate_any g cap L s m e n HN.out hN HT2.out.1 HT2.out.2 (by have := HF.out.cut.eb; omega) wr HS.out)
            go_wp2_with fail
            refine SR.out.mono ?_
            rintro e1 w2 ⟨rfl, D, hs2, hp2, hq2, hg2⟩
            have HS2 := Lib.hid hs2
            have HTD := Lib.hid (HF.out.cut.turned HF.out.sum HU.out.2.2 hp2 hq2)
            have HG2 := Lib.hid (HG.out.trans hg2)
            clear hs2 hp2 hq2 hg2 SR HS HG
            have hmb3 := HB.out.1
            have hmb4 := HB.out.2.1
            have HDL := Lib.hid (show D.length = n from HTD.out.mid_.len.trans HN.out)
            by_cases h1 : a < s
            · have h1I : (a : Int) < (s : Int) := by omega
              by_cases h2 : s < mid
              · have h2I : (s : Int) < (mid : Int) := by omega
                have HT2 := Lib.hid (And.intro h1 h2)
                have SR := Lib.hid (HIH.out D a s mid w2 HDL.out HT2.out.1 HT2.out.2 (by omega) (by omega) HTD.out.r1 HTD.out.r2 HTD.out.c1 HS2.out)
                go_wp2_with fail
                refine SR.out.mono ?_
                rintro e1 w3 ⟨rfl, D1, hs2, hp2, hq2, hg2⟩
                have HS3 := Lib.hid hs2
                have HD1 := Lib.hid (And.intro hp2 hq2)
                have HG3 := Lib.hid (HG2.out.trans hg2)
                clear hs2 hp2 hq2 hg2 SR HS2 HG2
                have HDL1 := Lib.hid (show D1.length = n from HD1.out.1.len.trans HDL.out)
                have HR := Lib.hid (show Up nameC D1 mid e ∧ Up nameC D1 e b ∧ Cross D1 mid e b from ⟨HD1.out.1.up HTD.out.r3 (.inr (Nat.le_refl _)), HD1.out.1.up HTD.out.r4 (.inr HTD.out.me), HD1.out.1.cross HTD.out.c2 (.inr (Nat.le_refl _))⟩)
                by_cases h1 : mid < e
                · have h1I : (mid : Int) < (e : Int) := by omega
                  by_cases h2 : e < b
                  · have h2I : (e : Int) < (b : Int) := by omega
                    have HT2 := Lib.hid (And.intro h1 h2)
                    have SR := Lib.hid (HIH.out D1 mid e b w3 HDL1.out HT2.out.1 HT2.out.2 (by omega) (by omega) HR.out.1 HR.out.2.1 HR.out.2.2 HS3.out)
                    go_wp2_with fail
                    refine SR.out.mono ?_
                    rintro e1 w4 ⟨rfl, D2, hs2, hp2, hq2, hg2⟩
                    have HS4 := Lib.hid hs2
                    have HD2 := Lib.hid (And.intro hp2 hq2)
                    have HG4 := Lib.hid (HG3.out.trans hg2)
                    clear hs2 hp2 hq2 hg2 SR
                    have HE := Lib.hid (HTD.out.done HD1.out.1 HD1.out.2 HD2.out.1 HD2.out.2)
                    go_wp2
                    refine bodyPost_end (results_none rfl _ _ _) rfl ?_
                    exact ⟨rfl, D2, HS4.out, HE.out.1, HE.out.2, HG4.out⟩
                  · have h2I : ¬ (e : Int) < (b : Int) := by omega
                    have h2B : decide (e < b) = false := decide_eq_false h2
                    have h2J : decide ((e : Int) < (b : Int)) = false := decide_eq_false h2I
                    have HT2 := Lib.hid (fun (k : mid < e ∧ e < b) => h2 k.2)
                    have HD2 := Lib.hid (show Mid D1 D1 mid b ∧ Up nameC D1 mid b from ⟨Mid.refl _ _ _, up_of_empty HR.out.1 HR.out.2.1 HTD.out.me HTD.out.eb HT2.out⟩)
                    have HS4 := HS3
                    have HG4 := HG3
                    have HE := Lib.hid (HTD.out.done HD1.out.1 HD1.out.2 HD2.out.1 HD2.out.2)
                    go_wp2
                    refine bodyPost_end (results_none rfl _ _ _) rfl ?_
                    exact ⟨rfl, D1, HS4.out, HE.out.1, HE.out.2, HG4.out⟩
                · have h1I : ¬ (mid : Int) < (e : Int) := by omega
                  have h1B : decide (mid < e) = false := decide_eq_false h1
                  have h1J : decide ((mid : Int) < (e : Int)) = false := decide_eq_false h1I
                  have HT2 := Lib.hid (fun (k : mid < e ∧ e < b) => h1 k.1)
                  have HD2 := Lib.hid (show Mid D1 D1 mid b ∧ Up nameC D1 mid b from ⟨Mid.refl _ _ _, up_of_empty HR.out.1 HR.out.2.1 HTD.out.me HTD.out.eb HT2.out⟩)
                  have HS4 := HS3
                  have HG4 := HG3
                  have HE := Lib.hid (HTD.out.done HD1.out.1 HD1.out.2 HD2.out.1 HD2.out.2)
                  go_wp2
                  refine bodyPost_end (results_none rfl _ _ _) rfl ?_
                  exact ⟨rfl, D1, HS4.out, HE.out.1, HE.out.2, HG4.out⟩
              · have h2I : ¬ (s : Int) < (mid : Int) := by omega
                have h2B : decide (s < mid) = false := decide_eq_false h2
                have h2J : decide ((s : Int) < (mid : Int)) = false := decide_eq_false h2I
                have HT2 := Lib.hid (fun (k : a < s ∧ s < mid) => h2 k.2)
                have HD1 := Lib.hid (show Mid D D a mid ∧ Up nameC D a mid from ⟨Mid.refl _ _ _, up_of_empty HTD.out.r1 HTD.out.r2 HTD.out.as_ HTD.out.sm HT2.out⟩)
                obtain ⟨D1, HD1, HS3⟩ : ∃ D1, Hid (Mid D D1 a mid ∧ Up nameC D1 a mid) ∧ Hid (SortW w2 g D1) := ⟨D, HD1, HS2⟩
                have HG3 := HG2
                obtain ⟨w3, hw3⟩ : ∃ w3, w3 = w2 := ⟨_, rfl⟩
                subst hw3
                clear HS2 HG2
                have HDL1 := Lib.hid (show D1.length = n from HD1.out.1.len.trans HDL.out)
                have HR := Lib.hid (show Up nameC D1 mid e ∧ Up nameC D1 e b ∧ Cross D1 mid e b from ⟨HD1.out.1.up HTD.out.r3 (.inr (Nat.le_refl _)), HD1.out.1.up HTD.out.r4 (.inr HTD.out.me), HD1.out.1.cross HTD.out.c2 (.inr (Nat.le_refl _))⟩)
                by_cases h1 : mid < e
                · have h1I : (mid : Int) < (e : Int) := by omega
                  by_cases h2 : e < b
                  · have h2I : (e : Int) < (b : Int) := by omega
                    have HT2 := Lib.hid (And.intro h1 h2)
                    have SR := Lib.hid (HIH.out D1 mid e b w3 HDL1.out HT2.out.1 HT2.out.2 (by omega) (by omega) HR.out.1 HR.out.2.1 HR.out.2.2 HS3.out)
                    go_wp2_with fail
                    refine SR.out.mono ?_
                    rintro e1 w4 ⟨rfl, D2, hs2, hp2, hq2, hg2⟩
                    have HS4 := Lib.hid hs2
                    have HD2 := Lib.hid (And.intro hp2 hq2)
                    have HG4 := Lib.hid (HG3.out.trans hg2)
                    clear hs2 hp2 hq2 hg2 SR
                    have HE := Lib.hid (HTD.out.done HD1.out.1 HD1.out.2 HD2.out.1 HD2.out.2)
                    go_wp2
                    refine bodyPost_end (results_none rfl _ _ _) rfl ?_
                    exact ⟨rfl, D2, HS4.out, HE.out.1, HE.out.2, HG4.out⟩
                  · have h2I : ¬ (e : Int) < (b : Int) := by omega
                    have h2B : decide (e < b) = false := decide_eq_false h2
                    have h2J : decide ((e : Int) < (b : Int)) = false := decide_eq_false h2I
                    have HT2 := Lib.hid (fun (k : mid < e ∧ e < b) => h2 k.2)
                    have HD2 := Lib.hid (show Mid D1 D1 mid b ∧ Up nameC D1 mid b from ⟨Mid.refl _ _ _, up_of_empty HR.out.1 HR.out.2.1 HTD.out.me HTD.out.eb HT2.out⟩)
                    have HS4 := HS3
                    have HG4 := HG3
                    have HE := Lib.hid (HTD.out.done HD1.out.1 HD1.out.2 HD2.out.1 HD2.out.2)
                    go_wp2
                    refine bodyPost_end (results_none rfl _ _ _) rfl ?_
                    exact ⟨rfl, D1, HS4.out, HE.out.1, HE.out.2, HG4.out⟩
                · have h1I : ¬ (mid : Int) < (e : Int) := by omega
                  have h1B : decide (mid < e) = false := decide_eq_false h1
                  have h1J : decide ((mid : Int) < (e : Int)) = false := decide_eq_false h1I
                  have HT2 := Lib.hid (fun (k : mid < e ∧ e < b) => h1 k.1)
                  have HD2 := Lib.hid (show Mid D1 D1 mid b ∧ Up nameC D1 mid b from ⟨Mid.refl _ _ _, up_of_empty HR.out.1 HR.out.2.1 HTD.out.me HTD.out.eb HT2.out⟩)
                  have HS4 := HS3
                  have HG4 := HG3
                  have HE := Lib.hid (HTD.out.done HD1.out.1 HD1.out.2 HD2.out.1 HD2.out.2)
                  go_wp2
                  refine bodyPost_end (results_none rfl _ _ _) rfl ?_
                  exact ⟨rfl, D1, HS4.out, HE.out.1, HE.out.2, HG4.out⟩
            · have h1I : ¬ (a : Int) < (s : Int) := by omega
              have h1B : decide (a < s) = false := decide_eq_false h1
              have h1J : decide ((a : Int) < (s : Int)) = false := decide_eq_false h1I
              have HT2 := Lib.hid (fun (k : a < s ∧ s < mid) => h1 k.1)
              have HD1 := Lib.hid (show Mid D D a mid ∧ Up nameC D a mid from ⟨Mid.refl _ _ _, up_of_empty HTD.out.r1 HTD.out.r2 HTD.out.as_ HTD.out.sm HT2.out⟩)
              obtain ⟨D1, HD1, HS3⟩ : ∃ D1, Hid (Mid D D1 a mid ∧ Up nameC D1 a mid) ∧ Hid (SortW w2 g D1) := ⟨D, HD1, HS2⟩
              have HG3 := HG2
              obtain ⟨w3, hw3⟩ : ∃ w3, w3 = w2 := ⟨_, rfl⟩
              subst hw3
              clear HS2 HG2
              have HDL1 := Lib.hid (show D1.length = n from HD1.out.1.len.trans HDL.out)
              have HR := Lib.hid (show Up nameC D1 mid e ∧ Up nameC D1 e b ∧ Cross D1 mid e b from ⟨HD1.out.1.up HTD.out.r3 (.inr (Nat.le_refl _)), HD1.out.1.up HTD.out.r4 (.inr HTD.out.me), HD1.out.1.cross HTD.out.c2 (.inr (Nat.le_refl _))⟩)
              by_cases h1 : mid < e
              · have h1I : (mid : Int) < (e : Int) := by omega
                by_cases h2 : e < b
                · have h2I : (e : Int) < (b : Int) := by omega
                  have HT2 := Lib.hid (And.intro h1 h2)
                  have SR := Lib.hid (HIH.out D1 mid e b w3 HDL1.out HT2.out.1 HT2.out.2 (by omega) (by omega) HR.out.1 HR.out.2.1 HR.out.2.2 HS3.out)
                  go_wp2_with fail
                  refine SR.out.mono ?_
                  rintro e1 w4 ⟨rfl, D2, hs2, hp2, hq2, hg2⟩
                  have HS4 := Lib.hid hs2
                  have HD2 := Lib.hid (And.intro hp2 hq2)
                  have HG4 := Lib.hid (HG3.out.trans hg2)
                  clear hs2 hp2 hq2 hg2 SR
                  have HE := Lib.hid (HTD.out.done HD1.out.1 HD1.out.2 HD2.out.1 HD2.out.2)
                  go_wp2
                  refine bodyPost_end (results_none rfl _ _ _) rfl ?_
                  exact ⟨rfl, D2, HS4.out, HE.out.1, HE.out.2, HG4.out⟩
                · have h2I : ¬ (e : Int) < (b : Int) := by omega
                  have h2B : decide (e < b) = false := decide_eq_false h2
                  have h2J : decide ((e : Int) < (b : Int)) = false := decide_eq_false h2I
                  have HT2 := Lib.hid (fun (k : mid < e ∧ e < b) => h2 k.2)
                  have HD2 := Lib.hid (show Mid D1 D1 mid b ∧ Up nameC D1 mid b from ⟨Mid.refl _ _ _, up_of_empty HR.out.1 HR.out.2.1 HTD.out.me HTD.out.eb HT2.out⟩)
                  have HS4 := HS3
                  have HG4 := HG3
                  have HE := Lib.hid (HTD.out.done HD1.out.1 HD1.out.2 HD2.out.1 HD2.out.2)
                  go_wp2
                  refine bodyPost_end (results_none rfl _ _ _) rfl ?_
                  exact ⟨rfl, D1, HS4.out, HE.out.1, HE.out.2, HG4.out⟩
              · have h1I : ¬ (mid : Int) < (e : Int) := by omega
                have h1B : decide (mid < e) = false := decide_eq_false h1
                have h1J : decide ((mid : Int) < (e : Int)) = false := decide_eq_false h1I
                have HT2 := Lib.hid (fun (k : mid < e ∧ e < b) => h1 k.1)
                have HD2 := Lib.hid (show Mid D1 D1 mid b ∧ Up nameC D1 mid b from ⟨Mid.refl _ _ _, up_of_empty HR.out.1 HR.out.2.1 HTD.out.me HTD.out.eb HT2.out⟩)
                have HS4 := HS3
                have HG4 := HG3
                have HE := Lib.hid (HTD.out.done HD1.out.1 HD1.out.2 HD2.out.1 HD2.out.2)
                go_wp2
                refine bodyPost_end (results_none rfl _ _ _) rfl ?_
                exact ⟨rfl, D1, HS4.out, HE.out.1, HE.out.2, HG4.out⟩
          · as_aux_lemma =>
            have h2I : ¬ (m : Int) < (e : Int) := by omega
            have h2B : decide (m < e) = false := decide_eq_false h2
            have h2J : decide ((m : Int) < (e : Int)) = false := decide_eq_false h2I
            have HT2 := Lib.hid (fun (k : s < m ∧ m < e) => h2 k.2)
            have HTD := Lib.hid (HF.out.cut.turned HF.out.sum HU.out.2.2 (List.Perm.refl _) (turn_left HF.out.cut.sm HF.out.cut.me HT2.out))
            obtain ⟨D, HTD, HS2⟩ : ∃ D, Hid (Turned nameC L D a s mid e b) ∧ Hid (SortW wr g D) := ⟨L, HTD, HS⟩
            have HG2 := HG
            obtain ⟨w2, hw2⟩ : ∃ w2, w2 = wr := ⟨_, rfl⟩
            subst hw2
            clear HS HG
            have hmb3 := HB.out.1
            have hmb4 := HB.out.2.1
            have HDL := Lib.hid (show D.length = n from HTD.out.mid_.len.trans HN.out)
            by_cases h1 : a < s
            · have h1I : (a : Int) < (s : Int) := by omega
              by_cases h2 : s < mid
              · have h2I : (s : Int) < (mid : Int) := by omega
                have HT2 := Lib.hid (And.intro h1 h2)
                have SR := Lib.hid (HIH.out D a s mid w2 HDL.out HT2.out.1 HT2.out.2 (by omega) (by omega) HTD.out.r1 HTD.out.r2 HTD.out.c1 HS2.out)
                go_wp2_with fail
                refine SR.out.mono ?_
                rintro e1 w3 ⟨rfl, D1, hs2, hp2, hq2, hg2⟩
                have HS3 := Lib.hid hs2
                have HD1 := Lib.hid (And.intro hp2 hq2)
                have HG3 := Lib.hid (HG2.out.trans hg2)
                clear hs2 hp2 hq2 hg2 SR HS2 HG2
                have HDL1 := Lib.hid (show D1.length = n from HD1.out.1.len.trans HDL.out)
                have HR := Lib.hid (show Up nameC D1 mid e ∧ Up nameC D1 e b ∧ Cross D1 mid e b from ⟨HD1.out.1.up HTD.out.r3 (.inr (Nat.le_refl _)), HD1.out.1.up HTD.out.r4 (.inr HTD.out.me), HD1.out.1.cross HTD.out.c2 (.inr (Nat.le_refl _))⟩)
                by_cases h1 : mid < e
                · have h1I : (mid : Int) < (e : Int) := by omega
                  by_cases h2 : e < b
                  · have h2I : (e : Int) < (b : Int) := by omega
                    have HT2 := Lib.hid (And.intro h1 h2)
                    have SR := Lib.hid (HIH.out D1 mid e b w3 HDL1.out HT2.out.1 HT2.out.2 (by omega) (by omega) HR.out.1 HR.out.2.1 HR.out.2.2 HS3.out)
                    go_wp2_with fail
                    refine SR.out.mono ?_
                    rintro e1 w4 ⟨rfl, D2, hs2, hp2, hq2, hg2⟩
                    have HS4 := Lib.hid hs2
                    have HD2 := Lib.hid (And.intro hp2 hq2)
                    have HG4 := Lib.hid (HG3.out.trans hg2)
                    clear hs2 hp2 hq2 hg2 SR
                    have HE := Lib.hid (HTD.out.done HD1.out.1 HD1.out.2 HD2.out.1 HD2.out.2)
                    go_wp2
                    refine bodyPost_end (results_none rfl _ _ _) rfl ?_
                    exact ⟨rfl, D2, HS4.out, HE.out.1, HE.out.2, HG4.out⟩
                  · have h2I : ¬ (e : Int) < (b : Int) := by omega
                    have h2B : decide (e < b) = false := decide_eq_false h2
                    have h2J : decide ((e : Int) < (b : Int)) = false := decide_eq_false h2I
                    have HT2 := Lib.hid (fun (k : mid < e ∧ e < b) => h2 k.2)
                    have HD2 := Lib.hid (show Mid D1 D1 mid b ∧ Up nameC D1 mid b from ⟨Mid.refl _ _ _, up_of_empty HR.out.1 HR.out.2.1 HTD.out.me HTD.out.eb HT2.out⟩)
                    have HS4 := HS3
                    have HG4 := HG3
                    have HE := Lib.hid (HTD.out.done HD1.out.1 HD1.out.2 HD2.out.1 HD2.out.2)
                    go_wp2
                    refine bodyPost_end (results_none rfl _ _ _) rfl ?_
                    exact ⟨rfl, D1, HS4.out, HE.out.1, HE.out.2, HG4.out⟩
                · have h1I : ¬ (mid : Int) < (e : Int) := by omega
                  have h1B : decide (mid < e) = false := decide_eq_false h1
                  have h1J : decide ((mid : Int) < (e : Int)) = false := decide_eq_false h1I
                  have HT2 := Lib.hid (fun (k : mid < e ∧ e < b) => h1 k.1)
                  have HD2 := Lib.hid (show Mid D1 D1 mid b ∧ Up nameC D1 mid b from ⟨Mid.refl _ _ _, up_of_empty HR.out.1 HR.out.2.1 HTD.out.me HTD.out.eb HT2.out⟩)
                  have HS4 := HS3
                  have HG4 := HG3
                  have HE := Lib.hid (HTD.out.done HD1.out.1 HD1.out.2 HD2.out.1 HD2.out.2)
                  go_wp2
                  refine bodyPost_end (results_none rfl _ _ _) rfl ?_
                  exact ⟨rfl, D1, HS4.out, HE.out.1, HE.out.2, HG4.out⟩
              · have h2I : ¬ (s : Int) < (mid : Int) := by omega
                have h2B : decide (s < mid) = false := decide_eq_false h2
                have h2J : decide ((s : Int) < (mid : Int)) = false := decide_eq_false h2I
                have HT2 := Lib.hid (fun (k : a < s ∧ s < mid) => h2 k.2)
                have HD1 := Lib.hid (show Mid D D a mid ∧ Up nameC D a mid from ⟨Mid.refl _ _ _, up_of_empty HTD.out.r1 HTD.out.r2 HTD.out.as_ HTD.out.sm HT2.out⟩)
                obtain ⟨D1, HD1, HS3⟩ : ∃ D1, Hid (Mid D D1 a mid ∧ Up nameC D1 a mid) ∧ Hid (SortW w2 g D1) := ⟨D, HD1, HS2⟩
                have HG3 := HG2
                obtain ⟨w3, hw3⟩ : ∃ w3, w3 = w2 := ⟨_, rfl⟩
                subst hw3
                clear HS2 HG2
                have HDL1 := Lib.hid (show D1.length = n from HD1.out.1.len.trans HDL.out)
                have HR := Lib.hid (show Up nameC D1 mid e ∧ Up nameC D1 e b ∧ Cross D1 mid e b from ⟨HD1.out.1.up HTD.out.r3 (.inr (Nat.le_refl _)), HD1.out.1.up HTD.out.r4 (.inr HTD.out.me), HD1.out.1.cross HTD.out.c2 (.inr (Nat.le_refl _))⟩)
                by_cases h1 : mid < e
                · have h1I : (mid : Int) < (e : Int) := by omega
                  by_cases h2 : e < b
                  · have h2I : (e : Int) < (b : Int) := by omega
                    have HT2 := Lib.hid (And.intro h1 h2)
                    have SR := Lib.hid (HIH.out D1 mid e b w3 HDL1.out HT2.out.1 HT2.out.2 (by omega) (by omega) HR.out.1 HR.out.2.1 HR.out.2.2 HS3.out)
                    go_wp2_with fail
                    refine SR.out.mono ?_
                    rintro e1 w4 ⟨rfl, D2, hs2, hp2, hq2, hg2⟩
                    have HS4 := Lib.hid hs2
                    have HD2 := Lib.hid (And.intro hp2 hq2)
                    have HG4 := Lib.hid (HG3.out.trans hg2)
                    clear hs2 hp2 hq2 hg2 SR
                    have HE := Lib.hid (HTD.out.done HD1.out.1 HD1.out.2 HD2.out.1 HD2.out.2)
                    go_wp2
                    refine bodyPost_end (results_none rfl _ _ _) rfl ?_
                    exact ⟨rfl, D2, HS4.out, HE.out.1, HE.out.2, HG4.out⟩
                  · have h2I : ¬ (e : Int) < (b : Int) := by omega
                    have h2B : decide (e < b) = false := decide_eq_false h2
                    have h2J : decide ((e : Int) < (b : Int)) = false := decide_eq_false h2I
                    have HT2 := Lib.hid (fun (k : mid < e ∧ e < b) => h2 k.2)
                    have HD2 := Lib.hid (show Mid D1 D1 mid b ∧ Up nameC D1 mid b from ⟨Mid.refl _ _ _, up_of_empty HR.out.1 HR.out.2.1 HTD.out.me HTD.out.eb HT2.out⟩)
                    have HS4 := HS3
                    have HG4 := HG3
                    have HE := Lib.hid (HTD.out.done HD1.out.1 HD1.out.2 HD2.out.1 HD2.out.2)
                    go_wp2
                    refine bodyPost_end (results_none rfl _ _ _) rfl ?_
                    exact ⟨rfl, D1, HS4.out, HE.out.1, HE.out.2, HG4.out⟩
                · have h1I : ¬ (mid : Int) < (e : Int) := by omega
                  have h1B : decide (mid < e) = false := decide_eq_false h1
                  have h1J : decide ((mid : Int) < (e : Int)) = false := decide_eq_false h1I
                  have HT2 := Lib.hid (fun (k : mid < e ∧ e < b) => h1 k.1)
                  have HD2 := Lib.hid (show Mid D1 D1 mid b ∧ Up nameC D1 mid b from ⟨Mid.refl _ _ _, up_of_empty HR.out.1 HR.out.2.1 HTD.out.me HTD.out.eb HT2.out⟩)
                  have HS4 := HS3
                  have HG4 := HG3
                  have HE := Lib.hid (HTD.out.done HD1.out.1 HD1.out.2 HD2.out.1 HD2.out.2)
                  go_wp2
                  refine bodyPost_end (results_none rfl _ _ _) rfl ?_
                  exact ⟨rfl, D1, HS4.out, HE.out.1, HE.out.2, HG4.out⟩
            · have h1I : ¬ (a : Int) < (s : Int) := by omega
              have h1B : decide (a < s) = false := decide_eq_false h1
              have h1J : decide ((a : Int) < (s : Int)) = false := decide_eq_false h1I
              have HT2 := Lib.hid (fun (k : a < s ∧ s < mid) => h1 k.1)
              have HD1 := Lib.hid (show Mid D D a mid ∧ Up nameC D a mid from ⟨Mid.refl _ _ _, up_of_empty HTD.out.r1 HTD.out.r2 HTD.out.as_ HTD.out.sm HT2.out⟩)
              obtain ⟨D1, HD1, HS3⟩ : ∃ D1, Hid (Mid D D1 a mid ∧ Up nameC D1 a mid) ∧ Hid (SortW w2 g D1) := ⟨D, HD1, HS2⟩
              have HG3 := HG2
              obtain ⟨w3, hw3⟩ : ∃ w3, w3 = w2 := ⟨_, rfl⟩
              subst hw3
              clear HS2 HG2
              have HDL1 := Lib.hid (show D1.length = n from HD1.out.1.len.trans HDL.out)
              have HR := Lib.hid (show Up nameC D1 mid e ∧ Up nameC D1 e b ∧ Cross D1 mid e b from ⟨HD1.out.1.up HTD.out.r3 (.inr (Nat.le_refl _)), HD1.out.1.up HTD.out.r4 (.inr HTD.out.me), HD1.out.1.cross HTD.out.c2 (.inr (Nat.le_refl _))⟩)
              by_cases h1 : mid < e
              · have h1I : (mid : Int) < (e : Int) := by omega
                by_cases h2 : e < b
                · have h2I : (e : Int) < (b : Int) := by omega
                  have HT2 := Lib.hid (And.intro h1 h2)
                  have SR := Lib.hid (HIH.out D1 mid e b w3 HDL1.out HT2.out.1 HT2.out.2 (by omega) (by omega) HR.out.1 HR.out.2.1 HR.out.2.2 HS3.out)
                  go_wp2_with fail
                  refine SR.out.mono ?_
                  rintro e1 w4 ⟨rfl, D2, hs2, hp2, hq2, hg2⟩
                  have HS4 := Lib.hid hs2
                  have HD2 := Lib.hid (And.intro hp2 hq2)
                  have HG4 := Lib.hid (HG3.out.trans hg2)
                  clear hs2 hp2 hq2 hg2 SR
                  have HE := Lib.hid (HTD.out.done HD1.out.1 HD1.out.2 HD2.out.1 HD2.out.2)
                  go_wp2
                  refine bodyPost_end (results_none rfl _ _ _) rfl ?_
                  exact ⟨rfl, D2, HS4.out, HE.out.1, HE.out.2, HG4.out⟩
                · have h2I : ¬ (e : Int) < (b : Int) := by omega
                  have h2B : decide (e < b) = false := decide_eq_false h2
                  have h2J : decide ((e : Int) < (b : Int)) = false := decide_eq_false h2I
                  have HT2 := Lib.hid (fun (k : mid < e ∧ e < b) => h2 k.2)
                  have HD2 := Lib.hid (show Mid D1 D1 mid b ∧ Up nameC D1 mid b from ⟨Mid.refl _ _ _, up_of_empty HR.out.1 HR.out.2.1 HTD.out.me HTD.out.eb HT2.out⟩)
                  have HS4 := HS3
                  have HG4 := HG3
                  have HE := Lib.hid (HTD.out.done HD1.out.1 HD1.out.2 HD2.out.1 HD2.out.2)
                  go_wp2
                  refine bodyPost_end (results_none rfl _ _ _) rfl ?_
                  exact ⟨rfl, D1, HS4.out, HE.out.1, HE.out.2, HG4.out⟩
              · have h1I : ¬ (mid : Int) < (e : Int) := by omega
                have h1B : decide (mid < e) = false := decide_eq_false h1
                have h1J : decide ((mid : Int) < (e : Int)) = false := decide_eq_false h1I
                have HT2 := Lib.hid (fun (k : mid < e ∧ e < b) => h1 k.1)
                have HD2 := Lib.hid (show Mid D1 D1 mid b ∧ Up nameC D1 mid b from ⟨Mid.refl _ _ _, up_of_empty HR.out.1 HR.out.2.1 HTD.out.me HTD.out.eb HT2.out⟩)
                have HS4 := HS3
                have HG4 := HG3
                have HE := Lib.hid (HTD.out.done HD1.out.1 HD1.out.2 HD2.out.1 HD2.out.2)
                go_wp2
                refine bodyPost_end (results_none rfl _ _ _) rfl ?_
                exact ⟨rfl, D1, HS4.out, HE.out.1, HE.out.2, HG4.out⟩
        · as_aux_lemma =>
          have h1I : ¬ (s : Int) < (m : Int) := by omega
          have h1B : decide (s < m) = false := decide_eq_false h1
          have h1J : decide ((s : Int) < (m : Int)) = false := decide_eq_false h1I
          have HT2 := Lib.hid (fun (k : s < m ∧ m < e) => h1 k.1)
          have HTD := Lib.hid (HF.out.cut.turned HF.out.sum HU.out.2.2 (List.Perm.refl _) (turn_left HF.out.cut.sm HF.out.cut.me HT2.out))
          obtain ⟨D, HTD, HS2⟩ : ∃ D, Hid (Turned nameC L D a s mid e b) ∧ Hid (SortW wr g D) := ⟨L, HTD, HS⟩
          have HG2 := HG
          obtain ⟨w2, hw2⟩ : ∃ w2, w2 = wr := ⟨_, rfl⟩
          subst hw2
          clear HS HG
          have hmb3 := HB.out.1
          have hmb4 := HB.out.2.1
          have HDL := Lib.hid (show D.length = n from HTD.out.mid_.len.trans HN.out)
          by_cases h1 : a < s
          · have h1I : (a : Int) < (s : Int) := by omega
            by_cases h2 : s < mid
            · have h2I : (s : Int) < (mid : Int) := by omega
              have HT2 := Lib.hid (And.intro h1 h2)
              have SR := Lib.hid (HIH.out D a s mid w2 HDL.out HT2.out.1 HT2.out.2 (by omega) (by omega) HTD.out.r1 HTD.out.r2 HTD.out.c1 HS2.out)
              go_wp2_with fail
              refine SR.out.mono ?_
              rintro e1 w3 ⟨rfl, D1, hs2, hp2, hq2, hg2⟩
              have HS3 := Lib.hid hs2
              have HD1 := Lib.hid (And.intro hp2 hq2)
              have HG3 := Lib.hid (HG2.out.trans hg2)
              clear hs2 hp2 hq2 hg2 SR HS2 HG2
              have HDL1 := Lib.hid (show D1.length = n from HD1.out.1.len.trans HDL.out)
              have HR := Lib.hid (show Up nameC D1 mid e ∧ Up nameC D1 e b ∧ Cross D1 mid e b from ⟨HD1.out.1.up HTD.out.r3 (.inr (Nat.le_refl _)), HD1.out.1.up HTD.out.r4 (.inr HTD.out.me), HD1.out.1.cross HTD.out.c2 (.inr (Nat.le_refl _))⟩)
              by_cases h1 : mid < e
              · have h1I : (mid : Int) < (e : Int) := by omega
                by_cases h2 : e < b
                · have h2I : (e : Int) < (b : Int) := by omega
                  have HT2 := Lib.hid (And.intro h1 h2)
                  have SR := Lib.hid (HIH.out D1 mid e b w3 HDL1.out HT2.out.1 HT2.out.2 (by omega) (by omega) HR.out.1 HR.out.2.1 HR.out.2.2 HS3.out)
                  go_wp2_with fail
                  refine SR.out.mono ?_
                  rintro e1 w4 ⟨rfl, D2, hs2, hp2, hq2, hg2⟩
                  have HS4 := Lib.hid hs2
                  have HD2 := Lib.hid (And.intro hp2 hq2)
                  have HG4 := Lib.hid (HG3.out.trans hg2)
                  clear hs2 hp2 hq2 hg2 SR
                  have HE := Lib.hid (HTD.out.done HD1.out.1 HD1.out.2 HD2.out.1 HD2.out.2)
                  go_wp2
                  refine bodyPost_end (results_none rfl _ _ _) rfl ?_
                  exact ⟨rfl, D2, HS4.out, HE.out.1, HE.out.2, HG4.out⟩
                · have h2I : ¬ (e : Int) < (b : Int) := by omega
                  have h2B : decide (e < b) = false := decide_eq_false h2
                  have h2J : decide ((e : Int) < (b : Int)) = false := decide_eq_false h2I
                  have HT2 := Lib.hid (fun (k : mid < e ∧ e < b) => h2 k.2)
                  have HD2 := Lib.hid (show Mid D1 D1 mid b ∧ Up nameC D1 mid b from ⟨Mid.refl _ _ _, up_of_empty HR.out.1 HR.out.2.1 HTD.out.me HTD.out.eb HT2.out⟩)
                  have HS4 := HS3
                  have HG4 := HG3
                  have HE := Lib.hid (HTD.out.done HD1.out.1 HD1.out.2 HD2.out.1 HD2.out.2)
                  go_wp2
                  refine bodyPost_end (results_none rfl _ _ _) rfl ?_
                  exact ⟨rfl, D1, HS4.out, HE.out.1, HE.out.2, HG4.out⟩
              · have h1I : ¬ (mid : Int) < (e : Int) := by omega
                have h1B : decide (mid < e) = false := decide_eq_false h1
                have h1J : decide ((mid : Int) < (e : Int)) = false := decide_eq_false h1I
                have HT2 := Lib.hid (fun (k : mid < e ∧ e < b) => h1 k.1)
                have HD2 := Lib.hid (show Mid D1 D1 mid b ∧ Up nameC D1 mid b from ⟨Mid.refl _ _ _, up_of_empty HR.out.1 HR.out.2.1 HTD.out.me HTD.out.eb HT2.out⟩)
                have HS4 := HS3
                have HG4 := HG3
                have HE := Lib.hid (HTD.out.done HD1.out.1 HD1.out.2 HD2.out.1 HD2.out.2)
                go_wp2
                refine bodyPost_end (results_none rfl _ _ _) rfl ?_
                exact ⟨rfl, D1, HS4.out, HE.out.1, HE.out.2, HG4.out⟩
            · have h2I : ¬ (s : Int) < (mid : Int) := by omega
              have h2B : decide (s < mid) = false := decide_eq_false h2
              have h2J : decide ((s : Int) < (mid : Int)) = false := decide_eq_false h2I
              have HT2 := Lib.hid (fun (k : a < s ∧ s < mid) => h2 k.2)
              have HD1 := Lib.hid (show Mid D D a mid ∧ Up nameC D a mid from ⟨Mid.refl _ _ _, up_of_empty HTD.out.r1 HTD.out.r2 HTD.out.as_ HTD.out.sm HT2.out⟩)
              obtain ⟨D1, HD1, HS3⟩ : ∃ D1, Hid (Mid D D1 a mid ∧ Up nameC D1 a mid) ∧ Hid (SortW w2 g D1) := ⟨D, HD1, HS2⟩
              have HG3 := HG2
              obtain ⟨w3, hw3⟩ : ∃ w3, w3 = w2 := ⟨_, rfl⟩
              subst hw3
              clear HS2 HG2
              have HDL1 := Lib.hid (show D1.length = n from HD1.out.1.len.trans HDL.out)
              have HR := Lib.hid (show Up nameC D1 mid e ∧ Up nameC D1 e b ∧ Cross D1 mid e b from ⟨HD1.out.1.up HTD.out.r3 (.inr (Nat.le_refl _)), HD1.out.1.up HTD.out.r4 (.inr HTD.out.me), HD1.out.1.cross HTD.out.c2 (.inr (Nat.le_refl _))⟩)
              by_cases h1 : mid < e
              · have h1I : (mid : Int) < (e : Int) := by omega
                by_cases h2 : e < b
                · have h2I : (e : Int) < (b : Int) := by omega
                  have HT2 := Lib.hid (And.intro h1 h2)
                  have SR := Lib.hid (HIH.out D1 mid e b w3 HDL1.out HT2.out.1 HT2.out.2 (by omega) (by omega) HR.out.1 HR.out.2.1 HR.out.2.2 HS3.out)
                  go_wp2_with fail
                  refine SR.out.mono ?_
                  rintro e1 w4 ⟨rfl, D2, hs2, hp2, hq2, hg2⟩
                  have HS4 := Lib.hid hs2
                  have HD2 := Lib.hid (And.intro hp2 hq2)
                  have HG4 := Lib.hid (HG3.out.trans hg2)
                  clear hs2 hp2 hq2 hg2 SR
                  have HE := Lib.hid (HTD.out.done HD1.out.1 HD1.out.2 HD2.out.1 HD2.out.2)
                  go_wp2
                  refine bodyPost_end (results_none rfl _ _ _) rfl ?_
                  exact ⟨rfl, D2, HS4.out, HE.out.1, HE.out.2, HG4.out⟩
                · have h2I : ¬ (e : Int) < (b : Int) := by omega
                  have h2B : decide (e < b) = false := decide_eq_false h2
                  have h2J : decide ((e : Int) < (b : Int)) = false := decide_eq_false h2I
                  have HT2 := Lib.hid (fun (k : mid < e ∧ e < b) => h2 k.2)
                  have HD2 := Lib.hid (show Mid D1 D1 mid b ∧ Up nameC D1 mid b from ⟨Mid.refl _ _ _, up_of_empty HR.out.1 HR.out.2.1 HTD.out.me HTD.out.eb HT2.out⟩)
                  have HS4 := HS3
                  have HG4 := HG3
                  have HE := Lib.hid (HTD.out.done HD1.out.1 HD1.out.2 HD2.out.1 HD2.out.2)
                  go_wp2
                  refine bodyPost_end (results_none rfl _ _ _) rfl ?_
                  exact ⟨rfl, D1, HS4.out, HE.out.1, HE.out.2, HG4.out⟩
              · have h1I : ¬ (mid : Int) < (e : Int) := by omega
                have h1B : decide (mid < e) = false := decide_eq_false h1
                have h1J : decide ((mid : Int) < (e : Int)) = false := decide_eq_false h1I
                have HT2 := Lib.hid (fun (k : mid < e ∧ e < b) => h1 k.1)
                have HD2 := Lib.hid (show Mid D1 D1 mid b ∧ Up nameC D1 mid b from ⟨Mid.refl _ _ _, up_of_empty HR.out.1 HR.out.2.1 HTD.out.me HTD.out.eb HT2.out⟩)
                have HS4 := HS3
                have HG4 := HG3
                have HE := Lib.hid (HTD.out.done HD1.out.1 HD1.out.2 HD2.out.1 HD2.out.2)
                go_wp2
                refine bodyPost_end (results_none rfl _ _ _) rfl ?_
                exact ⟨rfl, D1, HS4.out, HE.out.1, HE.out.2, HG4.out⟩
          · have h1I : ¬ (a : Int) < (s : Int) := by omega
            have h1B : decide (a < s) = false := decide_eq_false h1
            have h1J : decide ((a : Int) < (s : Int)) = false := decide_eq_false h1I
            have HT2 := Lib.hid (fun (k : a < s ∧ s < mid) => h1 k.1)
            have HD1 := Lib.hid (show Mid D D a mid ∧ Up nameC D a mid from ⟨Mid.refl _ _ _, up_of_empty HTD.out.r1 HTD.out.r2 HTD.out.as_ HTD.out.sm HT2.out⟩)
            obtain ⟨D1, HD1, HS3⟩ : ∃ D1, Hid (Mid D D1 a mid ∧ Up nameC D1 a mid) ∧ Hid (SortW w2 g D1) := ⟨D, HD1, HS2⟩
            have HG3 := HG2
            obtain ⟨w3, hw3⟩ : ∃ w3, w3 = w2 := ⟨_, rfl⟩
            subst hw3
            clear HS2 HG2
            have HDL1 := Lib.hid (show D1.length = n from HD1.out.1.len.trans HDL.out)
            have HR := Lib.hid (show Up nameC D1 mid e ∧ Up nameC D1 e b ∧ Cross D1 mid e b from ⟨HD1.out.1.up HTD.out.r3 (.inr (Nat.le_refl _)), HD1.out.1.up HTD.out.r4 (.inr HTD.out.me), HD1.out.1.cross HTD.out.c2 (.inr (Nat.le_refl _))⟩)
            by_cases h1 : mid < e
            · have h1I : (mid : Int) < (e : Int) := by omega
              by_cases h2 : e < b
              · have h2I : (e : Int) < (b : Int) := by omega
                have HT2 := Lib.hid (And.intro h1 h2)
                have SR := Lib.hid (HIH.out D1 mid e b w3 HDL1.out HT2.out.1 HT2.out.2 (by omega) (by omega) HR.out.1 HR.out.2.1 HR.out.2.2 HS3.out)
                go_wp2_with fail
                refine SR.out.mono ?_
                rintro e1 w4 ⟨rfl, D2, hs2, hp2, hq2, hg2⟩
                have HS4 := Lib.hid hs2
                have HD2 := Lib.hid (And.intro hp2 hq2)
                have HG4 := Lib.hid (HG3.out.trans hg2)
                clear hs2 hp2 hq2 hg2 SR
                have HE := Lib.hid (HTD.out.done HD1.out.1 HD1.out.2 HD2.out.1 HD2.out.2)
                go_wp2
                refine bodyPost_end (results_none rfl _ _ _) rfl ?_
                exact ⟨rfl, D2, HS4.out, HE.out.1, HE.out.2, HG4.out⟩
              · have h2I : ¬ (e : Int) < (b : Int) := by omega
                have h2B : decide (e < b) = false := decide_eq_false h2
                have h2J : decide ((e : Int) < (b : Int)) = false := decide_eq_false h2I
                have HT2 := Lib.hid (fun (k : mid < e ∧ e < b) => h2 k.2)
                have HD2 := Lib.hid (show Mid D1 D1 mid b ∧ Up nameC D1 mid b from ⟨Mid.refl _ _ _, up_of_empty HR.out.1 HR.out.2.1 HTD.out.me HTD.out.eb HT2.out⟩)
                have HS4 := HS3
                have HG4 := HG3
                have HE := Lib.hid (HTD.out.done HD1.out.1 HD1.out.2 HD2.out.1 HD2.out.2)
                go_wp2
                refine bodyPost_end (results_none rfl _ _ _) rfl ?_
                exact ⟨rfl, D1, HS4.out, HE.out.1, HE.out.2, HG4.out⟩
            · have h1I : ¬ (mid : Int) < (e : Int) := by omega
              have h1B : decide (mid < e) = false := decide_eq_false h1
              have h1J : decide ((mid : Int) < (e : Int)) = false := decide_eq_false h1I
              have HT2 := Lib.hid (fun (k : mid < e ∧ e < b) => h1 k.1)
              have HD2 := Lib.hid (show Mid D1 D1 mid b ∧ Up nameC D1 mid b from ⟨Mid.refl _ _ _, up_of_empty HR.out.1 HR.out.2.1 HTD.out.me HTD.out.eb HT2.out⟩)
              have HS4 := HS3
              have HG4 := HG3
              have HE := Lib.hid (HTD.out.done HD1.out.1 HD1.out.2 HD2.out.1 HD2.out.2)
              go_wp2
              refine bodyPost_end (results_none rfl _ _ _) rfl ?_
              exact ⟨rfl, D1, HS4.out, HE.out.1, HE.out.2, HG4.out⟩
end Go.Proofs.Ytimmfmgnjpcdoaa.Sy
