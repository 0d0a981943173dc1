/- Which of two items stands ahead: the walks of many and ahead. -/
import Derived.Test.YtlicnijhmncoeaaHeapSt
import Derived.Deep.RegionHeld
namespace Go.Proofs.Ytlicnijhmncoeaa
open Go.RowKit
set_option linter.unusedVariables false
set_option linter.unusedSimpArgs false

theorem getP_mem {L : List (KeyP Int)} {i : Nat} (h : i < L.length) : getP L i ∈ L := by rw [getP_at h]; exact List.getElem_mem h
theorem heap_slice {w : World} {b : Nat} {v : Value} {L : List (KeyP Int)} {came : Nat} (h : HeapSt w b v L came) : ∃ A cap, v = .slice A L.length cap ∧ w.cell? ⟨b, 0, none⟩ = some (.slice A L.length cap) := by
  obtain ⟨A, cap, rfl, _, _, _⟩ := OwnR.open itV_len h.row
  exact ⟨A, cap, rfl, (h.blk.cell 0).trans rfl⟩
theorem many_any (b : Nat) (v : Value) (L : List (KeyP Int)) (came : Nat) (w : World) (h : HeapSt w b v L came) :
    Calls Try.prog 38 #[.pointer (some ⟨b, 0, none⟩)] w fun e w' => e = .returned (.int .i64 (L.length : Int)) ∧ w' = w := by
  obtain ⟨A, cap, rfl, c0⟩ := heap_slice h
  clear h
  go_enter Try.func38, Try.ntmps38
  go_wp2
  go_ret
  exact ⟨by first | rfl | (simp; done), by first | rfl | trivial⟩
/-- a block that the call made, held whole -/
def BlkW (w : World) (g : Nat) (t : TypeId) (cs : Array Value) : Prop := Blk w g t cs
theorem BlkW.below {w w' : World} {g : Nat} {t : TypeId} {cs : Array Value} (h : BlkW w g t cs) (hb : Below w.heap.size w w') : BlkW w' g t cs := Blk.below h hb (Blk.lt h)

set_option maxRecDepth 100000 in
set_option maxHeartbeats 1600000 in
theorem ahead_any (b : Nat) (v : Value) (L : List (KeyP Int)) (came i k : Nat) (hi : i < L.length) (hk : k < L.length) (w : World) (h : HeapSt w b v L came) :
    Calls Try.prog 64 #[.pointer (some ⟨b, 0, none⟩), .int .i64 (i : Int), .int .i64 (k : Int)] w fun e w' => e = .returned (.bool (ahdP tenK (getP L i) (getP L k))) ∧ Below w.heap.size w w' := by
  have gi := h.good (getP L i) (getP_mem hi)
  have gk := h.good (getP L k) (getP_mem hk)
  have c2 : w.cell? ⟨b, 2, none⟩ = some (.func (.func 9) #[] #[]) := (h.blk.cell 2).trans rfl
  have hT : ahdP tenK (getP L i) (getP L k) = (decide (tenK (getP L i).it < tenK (getP L k).it) || (decide ((getP L i).at_ < (getP L k).at_) && !decide (tenK (getP L k).it < tenK (getP L i).it))) := rfl
  obtain ⟨TT, hTT⟩ : ∃ T, ahdP tenK (getP L i) (getP L k) = T := ⟨_, rfl⟩
  rw [hTT] at hT ⊢
  obtain ⟨g, cap, cur, hv, hg, hB, hc, hm, hs, hcl⟩ := own_open h.row (by omega)
  subst hv
  have hfew := h.few
  have hless := h.less
  obtain ⟨i1, i2⟩ := hcl i hi
  obtain ⟨k1, k2⟩ := hcl k hk
  have ci1 : w.cell? ⟨g, i * 2, none⟩ = some (.int .i64 (getP L i).it) := (hB.cell (i * 2)).trans i1
  have ci2 : w.cell? ⟨g, i * 2 + 1, none⟩ = some (.int .i64 ((getP L i).at_ : Int)) := (hB.cell (i * 2 + 1)).trans i2
  have ck1 : w.cell? ⟨g, k * 2, none⟩ = some (.int .i64 (getP L k).it) := (hB.cell (k * 2)).trans k1
  have ck2 : w.cell? ⟨g, k * 2 + 1, none⟩ = some (.int .i64 ((getP L k).at_ : Int)) := (hB.cell (k * 2 + 1)).trans k2
  have c0 : w.cell? ⟨b, 0, none⟩ = some (.slice (some ⟨g, 0, none⟩) L.length cap) := (h.blk.cell 0).trans rfl
  have hiI : (i : Int) < (L.length : Int) := by omega
  have hkI : (k : Int) < (L.length : Int) := by omega
  obtain ⟨n, hn⟩ : ∃ n, L.length = n := ⟨_, rfl⟩
  rw [hn] at c0 hiI hkI
  obtain ⟨xi, hxi⟩ : ∃ x, (getP L i).it = x := ⟨_, rfl⟩
  obtain ⟨pi, hpi⟩ : ∃ x, (getP L i).at_ = x := ⟨_, rfl⟩
  obtain ⟨xk, hxk⟩ : ∃ x, (getP L k).it = x := ⟨_, rfl⟩
  obtain ⟨pk, hpk⟩ : ∃ x, (getP L k).at_ = x := ⟨_, rfl⟩
  rw [hxi] at ci1
  rw [hpi] at ci2
  rw [hxk] at ck1
  rw [hpk] at ck2
  have hni : n ≤ 1000000 := by omega
  rw [hxi] at gi
  rw [hxk] at gk
  rw [hxi, hxk, hpi, hpk] at hT
  have BF1 := fun w h => before_any b xi xk gi.1 gi.2 gk.1 gk.2 w h
  have BF2 := fun w h => before_any b xk xi gk.1 gk.2 gi.1 gi.2 w h
  obtain ⟨z1, hz1⟩ : ∃ z, decide (tenK xi < tenK xk) = z := ⟨_, rfl⟩
  obtain ⟨z2, hz2⟩ : ∃ z, decide (pi < pk) = z := ⟨_, rfl⟩
  obtain ⟨z3, hz3⟩ : ∃ z, decide (tenK xk < tenK xi) = z := ⟨_, rfl⟩
  simp only [hz1] at BF1
  simp only [hz3] at BF2
  rw [hz1, hz2, hz3] at hT
  have hz2' : decide ((pi : Int) < (pk : Int)) = z2 := by rw [← hz2, decide_eq_decide]; omega
  replace BF1 := Lib.hid BF1
  replace BF2 := Lib.hid BF2
  have HT := Lib.hid hT
  have HZ2 := Lib.hid hz2
  have HZ2' := Lib.hid hz2'
  have hlb := block_lt_of_cell c0
  have hlg := block_lt_of_cell ci1
  have HS := Lib.hid (fun (w1 w' : World) (hS : Below w.heap.size w w1 ∧ w1.cell? ⟨b, 0, none⟩ = some (.slice (some ⟨g, 0, none⟩) n cap) ∧ w1.cell? ⟨b, 2, none⟩ = some (.func (.func 9) #[] #[]) ∧ w1.cell? ⟨g, i * 2, none⟩ = some (.int .i64 xi) ∧ w1.cell? ⟨g, i * 2 + 1, none⟩ = some (.int .i64 (pi : Int)) ∧ w1.cell? ⟨g, k * 2, none⟩ = some (.int .i64 xk) ∧ w1.cell? ⟨g, k * 2 + 1, none⟩ = some (.int .i64 (pk : Int))) (hx : Below w1.heap.size w1 w') => show Below w.heap.size w w' ∧ w'.cell? ⟨b, 0, none⟩ = some (.slice (some ⟨g, 0, none⟩) n cap) ∧ w'.cell? ⟨b, 2, none⟩ = some (.func (.func 9) #[] #[]) ∧ w'.cell? ⟨g, i * 2, none⟩ = some (.int .i64 xi) ∧ w'.cell? ⟨g, i * 2 + 1, none⟩ = some (.int .i64 (pi : Int)) ∧ w'.cell? ⟨g, k * 2, none⟩ = some (.int .i64 xk) ∧ w'.cell? ⟨g, k * 2 + 1, none⟩ = some (.int .i64 (pk : Int)) from by
    obtain ⟨hb, a0, a1, a2, a3, a4, a5⟩ := hS
    have z1 := block_lt_of_cell a0
    have z2 := block_lt_of_cell a2
    exact ⟨hop hb (Nat.le_refl _) hx, (hx.cell (p := ⟨_, 0, none⟩) z1).trans a0, (hx.cell (p := ⟨_, 2, none⟩) z1).trans a1, (hx.cell (p := ⟨_, i * 2, none⟩) z2).trans a2, (hx.cell (p := ⟨_, i * 2 + 1, none⟩) z2).trans a3, (hx.cell (p := ⟨_, k * 2, none⟩) z2).trans a4, (hx.cell (p := ⟨_, k * 2 + 1, none⟩) z2).trans a5⟩)
  have HST := Lib.hid (fun (w1 : World) (ga : Nat) (u x : Value) (hga : w.heap.size ≤ ga) (hS : Below w.heap.size w w1 ∧ w1.cell? ⟨b, 0, none⟩ = some (.slice (some ⟨g, 0, none⟩) n cap) ∧ w1.cell? ⟨b, 2, none⟩ = some (.func (.func 9) #[] #[]) ∧ w1.cell? ⟨g, i * 2, none⟩ = some (.int .i64 xi) ∧ w1.cell? ⟨g, i * 2 + 1, none⟩ = some (.int .i64 (pi : Int)) ∧ w1.cell? ⟨g, k * 2, none⟩ = some (.int .i64 xk) ∧ w1.cell? ⟨g, k * 2 + 1, none⟩ = some (.int .i64 (pk : Int))) => show Below w.heap.size w ((w1.setCell ⟨ga, 0, none⟩ u).setCell ⟨ga, 1, none⟩ x) ∧ ((w1.setCell ⟨ga, 0, none⟩ u).setCell ⟨ga, 1, none⟩ x).cell? ⟨b, 0, none⟩ = some (.slice (some ⟨g, 0, none⟩) n cap) ∧ ((w1.setCell ⟨ga, 0, none⟩ u).setCell ⟨ga, 1, none⟩ x).cell? ⟨b, 2, none⟩ = some (.func (.func 9) #[] #[]) ∧ ((w1.setCell ⟨ga, 0, none⟩ u).setCell ⟨ga, 1, none⟩ x).cell? ⟨g, i * 2, none⟩ = some (.int .i64 xi) ∧ ((w1.setCell ⟨ga, 0, none⟩ u).setCell ⟨ga, 1, none⟩ x).cell? ⟨g, i * 2 + 1, none⟩ = some (.int .i64 (pi : Int)) ∧ ((w1.setCell ⟨ga, 0, none⟩ u).setCell ⟨ga, 1, none⟩ x).cell? ⟨g, k * 2, none⟩ = some (.int .i64 xk) ∧ ((w1.setCell ⟨ga, 0, none⟩ u).setCell ⟨ga, 1, none⟩ x).cell? ⟨g, k * 2 + 1, none⟩ = some (.int .i64 (pk : Int)) from by
    obtain ⟨hb, a0, a1, a2, a3, a4, a5⟩ := hS
    have nb : b ≠ ga := by have : b < w.heap.size := hlb; omega
    have ng : g ≠ ga := by have : g < w.heap.size := hlg; omega
    have far : ∀ (m j : Nat) (y : Value), m ≠ ga → w1.cell? ⟨m, j, none⟩ = some y → ((w1.setCell ⟨ga, 0, none⟩ u).setCell ⟨ga, 1, none⟩ x).cell? ⟨m, j, none⟩ = some y := fun m j y hm hy =>
      ((World.cell?_of_block (Below.heap_setCell (w1.setCell ⟨ga, 0, none⟩ u) ⟨ga, 1, none⟩ x m hm)).trans (World.cell?_of_block (Below.heap_setCell w1 ⟨ga, 0, none⟩ u m hm))).trans hy
    exact ⟨(hb.setCell (p := ⟨ga, 0, none⟩) hga u).setCell (p := ⟨ga, 1, none⟩) hga x, far _ _ _ nb a0, far _ _ _ nb a1, far _ _ _ ng a2, far _ _ _ ng a3, far _ _ _ ng a4, far _ _ _ ng a5⟩)
  have S0 := HS.out w w.drew ⟨Below.refl _ _, c0, c2, ci1, ci2, ck1, ck2⟩ ((Below.refl _ _).drew)
  clear h hn hxi hpi hxk hpk hB hcl hs hm hc i1 i2 k1 k2 hfew hless hi hk gi gk hz1 hz2 hz2' hz3 hT hTT c0 c2 ci1 ci2 ck1 ck2 hg
  go_enter Try.func64, Try.ntmps64
  go_wp2
  refine wp_region_held_drew (S := fun w' => Below w.heap.size w w' ∧ w'.cell? ⟨b, 0, none⟩ = some (.slice (some ⟨g, 0, none⟩) n cap) ∧ w'.cell? ⟨b, 2, none⟩ = some (.func (.func 9) #[] #[]) ∧ w'.cell? ⟨g, i * 2, none⟩ = some (.int .i64 xi) ∧ w'.cell? ⟨g, i * 2 + 1, none⟩ = some (.int .i64 (pi : Int)) ∧ w'.cell? ⟨g, k * 2, none⟩ = some (.int .i64 xk) ∧ w'.cell? ⟨g, k * 2 + 1, none⟩ = some (.int .i64 (pk : Int))) (by kernel_rfl) S0 (fun hHeld => ?_)
  obtain ⟨wd, hwd⟩ : ∃ z, w.drew = z := ⟨_, rfl⟩
  clear hHeld
  rw [hwd] at S0 ⊢
  clear hwd
  refine wpAnyH_take (i := 0) (oi := { dst := some 9, op := Go.Op.move (Go.Operand.tmp 0), type := 25, pos := "heap.go:75", after := #[], guard := none }) (v := ?_) rfl (by kernel_rfl) (by kernel_rfl) (by kernel_rfl) (fun _ _ _ h => h) (Or.inl ⟨by kernel_rfl, ?_⟩) (by assumption) ?_
  rotate_left
  · intro w _
    first | (go_simp; done) | (go_simp; with_reducible rfl)
  try simp only [Act.put, List.setIfInBounds_toArray, List.set_cons_zero, List.set_cons_succ]
  refine wpAnyH_take (i := 1) (oi := { dst := some 10, op := Go.Op.nilCheck (Go.Operand.tmp 9), type := 0, pos := "heap.go:75", after := #[{ on := 0, ground := Go.Ground.data }], guard := none }) (v := ?_) rfl (by kernel_rfl) (by kernel_rfl) (by kernel_rfl) (fun _ _ _ h => h) (Or.inl ⟨by kernel_rfl, ?_⟩) (by assumption) ?_
  rotate_left
  · intro w _
    first | (go_simp; done) | (go_simp; with_reducible rfl)
  try simp only [Act.put, List.setIfInBounds_toArray, List.set_cons_zero, List.set_cons_succ]
  refine wpAnyH_take (i := 2) (oi := { dst := some 11, op := Go.Op.fieldAddr 74 (Go.Operand.tmp 10) 0, type := 0, pos := "heap.go:75", after := #[{ on := 1, ground := Go.Ground.data }], guard := none }) (v := ?_) rfl (by kernel_rfl) (by kernel_rfl) (by kernel_rfl) (fun _ _ _ h => h) (Or.inl ⟨by kernel_rfl, ?_⟩) (by assumption) ?_
  rotate_left
  · intro w _
    first | (go_simp; done) | (go_simp; with_reducible rfl)
  try simp only [Act.put, List.setIfInBounds_toArray, List.set_cons_zero, List.set_cons_succ]
  refine wpAnyH_take (i := 3) (oi := { dst := some 12, op := Go.Op.fieldAddr 72 (Go.Operand.tmp 11) 0, type := 0, pos := "heap.go:75", after := #[{ on := 2, ground := Go.Ground.data }], guard := none }) (v := ?_) rfl (by kernel_rfl) (by kernel_rfl) (by kernel_rfl) (fun _ _ _ h => h) (Or.inl ⟨by kernel_rfl, ?_⟩) (by assumption) ?_
  rotate_left
  · intro w _
    first | (go_simp; done) | (go_simp; with_reducible rfl)
  try simp only [Act.put, List.setIfInBounds_toArray, List.set_cons_zero, List.set_cons_succ]
  refine wpAnyH_take (i := 4) (oi := { dst := some 13, op := Go.Op.load 70 (Go.Operand.tmp 12), type := 70, pos := "heap.go:75", after := #[{ on := 3, ground := Go.Ground.data }], guard := none }) (v := ?_) rfl (by kernel_rfl) (by kernel_rfl) (by kernel_rfl) (fun _ _ _ h => h) (Or.inl ⟨by kernel_rfl, ?_⟩) (by assumption) ?_
  rotate_left
  · intro w hSw
    (try dsimp only at hSw)
    go_split_ands
    first | (go_simp; done) | (go_simp; with_reducible rfl)
  try simp only [Act.put, List.setIfInBounds_toArray, List.set_cons_zero, List.set_cons_succ]
  refine wpAnyH_take (i := 5) (oi := { dst := some 14, op := Go.Op.move (Go.Operand.tmp 1), type := 3, pos := "heap.go:75", after := #[], guard := none }) (v := ?_) rfl (by kernel_rfl) (by kernel_rfl) (by kernel_rfl) (fun _ _ _ h => h) (Or.inl ⟨by kernel_rfl, ?_⟩) (by assumption) ?_
  rotate_left
  · intro w _
    first | (go_simp; done) | (go_simp; with_reducible rfl)
  try simp only [Act.put, List.setIfInBounds_toArray, List.set_cons_zero, List.set_cons_succ]
  refine wpAnyH_take (i := 6) (oi := { dst := some 15, op := Go.Op.indexAddr 70 (Go.Operand.tmp 13) (Go.Operand.tmp 14), type := 0, pos := "heap.go:75", after := #[{ on := 4, ground := Go.Ground.data }, { on := 5, ground := Go.Ground.data }], guard := none }) (v := ?_) rfl (by kernel_rfl) (by kernel_rfl) (by kernel_rfl) (fun _ _ _ h => h) (Or.inl ⟨by kernel_rfl, ?_⟩) (by assumption) ?_
  rotate_left
  · intro w _
    first | (go_simp; done) | (go_simp; with_reducible rfl)
  try simp only [Act.put, List.setIfInBounds_toArray, List.set_cons_zero, List.set_cons_succ]
  refine wpAnyH_take (i := 7) (oi := { dst := some 16, op := Go.Op.load 79 (Go.Operand.tmp 15), type := 79, pos := "heap.go:75", after := #[{ on := 6, ground := Go.Ground.data }], guard := none }) (v := ?_) rfl (by kernel_rfl) (by kernel_rfl) (by kernel_rfl) (fun _ _ _ h => h) (Or.inl ⟨by kernel_rfl, ?_⟩) (by assumption) ?_
  rotate_left
  · intro w hSw
    (try dsimp only at hSw)
    go_split_ands
    first | (go_simp; done) | (go_simp; with_reducible rfl)
  try simp only [Act.put, List.setIfInBounds_toArray, List.set_cons_zero, List.set_cons_succ]
  refine wpAnyH_take (i := 8) (oi := { dst := some 17, op := Go.Op.move (Go.Operand.tmp 0), type := 25, pos := "heap.go:75", after := #[{ on := 18, ground := Go.Ground.gcOnly Go.Departure.lateStores }], guard := none }) (v := ?_) rfl (by kernel_rfl) (by kernel_rfl) (by kernel_rfl) (fun _ _ _ h => h) (Or.inl ⟨by kernel_rfl, ?_⟩) (by assumption) ?_
  rotate_left
  · intro w _
    first | (go_simp; done) | (go_simp; with_reducible rfl)
  try simp only [Act.put, List.setIfInBounds_toArray, List.set_cons_zero, List.set_cons_succ]
  refine wpAnyH_take (i := 9) (oi := { dst := some 18, op := Go.Op.nilCheck (Go.Operand.tmp 17), type := 0, pos := "heap.go:75", after := #[{ on := 8, ground := Go.Ground.data }, { on := 18, ground := Go.Ground.gcOnly Go.Departure.lateStores }], guard := none }) (v := ?_) rfl (by kernel_rfl) (by kernel_rfl) (by kernel_rfl) (fun _ _ _ h => h) (Or.inl ⟨by kernel_rfl, ?_⟩) (by assumption) ?_
  rotate_left
  · intro w _
    first | (go_simp; done) | (go_simp; with_reducible rfl)
  try simp only [Act.put, List.setIfInBounds_toArray, List.set_cons_zero, List.set_cons_succ]
  refine wpAnyH_take (i := 10) (oi := { dst := some 19, op := Go.Op.fieldAddr 74 (Go.Operand.tmp 18) 0, type := 0, pos := "heap.go:75", after := #[{ on := 9, ground := Go.Ground.data }, { on := 18, ground := Go.Ground.gcOnly Go.Departure.lateStores }], guard := none }) (v := ?_) rfl (by kernel_rfl) (by kernel_rfl) (by kernel_rfl) (fun _ _ _ h => h) (Or.inl ⟨by kernel_rfl, ?_⟩) (by assumption) ?_
  rotate_left
  · intro w _
    first | (go_simp; done) | (go_simp; with_reducible rfl)
  try simp only [Act.put, List.setIfInBounds_toArray, List.set_cons_zero, List.set_cons_succ]
  refine wpAnyH_take (i := 11) (oi := { dst := some 20, op := Go.Op.fieldAddr 72 (Go.Operand.tmp 19) 0, type := 0, pos := "heap.go:75", after := #[{ on := 10, ground := Go.Ground.data }, { on := 18, ground := Go.Ground.gcOnly Go.Departure.lateStores }], guard := none }) (v := ?_) rfl (by kernel_rfl) (by kernel_rfl) (by kernel_rfl) (fun _ _ _ h => h) (Or.inl ⟨by kernel_rfl, ?_⟩) (by assumption) ?_
  rotate_left
  · intro w _
    first | (go_simp; done) | (go_simp; with_reducible rfl)
  try simp only [Act.put, List.setIfInBounds_toArray, List.set_cons_zero, List.set_cons_succ]
  refine wpAnyH_take (i := 12) (oi := { dst := some 21, op := Go.Op.load 70 (Go.Operand.tmp 20), type := 70, pos := "heap.go:75", after := #[{ on := 11, ground := Go.Ground.data }, { on := 18, ground := Go.Ground.gcOnly Go.Departure.lateStores }], guard := none }) (v := ?_) rfl (by kernel_rfl) (by kernel_rfl) (by kernel_rfl) (fun _ _ _ h => h) (Or.inl ⟨by kernel_rfl, ?_⟩) (by assumption) ?_
  rotate_left
  · intro w hSw
    (try dsimp only at hSw)
    go_split_ands
    first | (go_simp; done) | (go_simp; with_reducible rfl)
  try simp only [Act.put, List.setIfInBounds_toArray, List.set_cons_zero, List.set_cons_succ]
  refine wpAnyH_take (i := 13) (oi := { dst := some 22, op := Go.Op.move (Go.Operand.tmp 2), type := 3, pos := "heap.go:75", after := #[{ on := 18, ground := Go.Ground.gcOnly Go.Departure.lateStores }], guard := none }) (v := ?_) rfl (by kernel_rfl) (by kernel_rfl) (by kernel_rfl) (fun _ _ _ h => h) (Or.inl ⟨by kernel_rfl, ?_⟩) (by assumption) ?_
  rotate_left
  · intro w _
    first | (go_simp; done) | (go_simp; with_reducible rfl)
  try simp only [Act.put, List.setIfInBounds_toArray, List.set_cons_zero, List.set_cons_succ]
  refine wpAnyH_take (i := 14) (oi := { dst := some 23, op := Go.Op.indexAddr 70 (Go.Operand.tmp 21) (Go.Operand.tmp 22), type := 0, pos := "heap.go:75", after := #[{ on := 12, ground := Go.Ground.data }, { on := 13, ground := Go.Ground.data }, { on := 18, ground := Go.Ground.gcOnly Go.Departure.lateStores }], guard := none }) (v := ?_) rfl (by kernel_rfl) (by kernel_rfl) (by kernel_rfl) (fun _ _ _ h => h) (Or.inl ⟨by kernel_rfl, ?_⟩) (by assumption) ?_
  rotate_left
  · intro w _
    first | (go_simp; done) | (go_simp; with_reducible rfl)
  try simp only [Act.put, List.setIfInBounds_toArray, List.set_cons_zero, List.set_cons_succ]
  refine wpAnyH_take (i := 15) (oi := { dst := some 24, op := Go.Op.load 79 (Go.Operand.tmp 23), type := 79, pos := "heap.go:75", after := #[{ on := 14, ground := Go.Ground.data }, { on := 18, ground := Go.Ground.gcOnly Go.Departure.lateStores }], guard := none }) (v := ?_) rfl (by kernel_rfl) (by kernel_rfl) (by kernel_rfl) (fun _ _ _ h => h) (Or.inl ⟨by kernel_rfl, ?_⟩) (by assumption) ?_
  rotate_left
  · intro w hSw
    (try dsimp only at hSw)
    go_split_ands
    first | (go_simp; done) | (go_simp; with_reducible rfl)
  try simp only [Act.put, List.setIfInBounds_toArray, List.set_cons_zero, List.set_cons_succ]
  refine wpAnyH_ready (rs := [16, 17]) (by kernel_rfl) (by simp) ?_
  refine AllReadyH.cons (o := { dst := some 7, op := Go.Op.alloc 79, type := 0, pos := "heap.go:75", after := #[], guard := none }) rfl (fun K hK => ?_) ?_
  ·
    go_simp
    obtain ⟨g16, hg16⟩ : ∃ z, wd.heap.size = z := ⟨_, rfl⟩
    obtain ⟨we, hwwe⟩ : ∃ z, wd.alloc (.cells #[.int .i64 0, .int .i64 0] 79) = z := ⟨_, rfl⟩
    have hb3 : Below wd.heap.size wd we := by rw [← hwwe]; exact (Below.refl _ _).alloc (Nat.le_refl _) _
    have F16 : Blk we g16 79 #[.int .i64 0, .int .i64 0] := by rw [← hwwe, ← hg16]; exact Blk.new _ _ _
    have N16 : w.heap.size ≤ g16 := by rw [← hg16]; exact (show Below w.heap.size w wd from by go_split_ands; assumption).size
    have Swe := HS.out _ _ (by assumption) hb3
    rw [hwwe, hg16]
    clear hwwe hg16 hb3
    refine hK.out _ _ Swe (fun _ => ?_)
    clear hK K
    try simp only [Act.put, List.setIfInBounds_toArray, List.set_cons_zero, List.set_cons_succ]
    refine wpAnyH_ready (rs := [17]) (by kernel_rfl) (by simp) ?_
    refine AllReadyH.cons (o := { dst := some 8, op := Go.Op.alloc 79, type := 0, pos := "heap.go:75", after := #[], guard := none }) rfl (fun K hK => ?_) AllReadyH.nil
    go_simp
    obtain ⟨g17, hg17⟩ : ∃ z, we.heap.size = z := ⟨_, rfl⟩
    obtain ⟨wf, hwwf⟩ : ∃ z, we.alloc (.cells #[.int .i64 0, .int .i64 0] 79) = z := ⟨_, rfl⟩
    have hb3 : Below we.heap.size we wf := by rw [← hwwf]; exact (Below.refl _ _).alloc (Nat.le_refl _) _
    have F17 : Blk wf g17 79 #[.int .i64 0, .int .i64 0] := by rw [← hwwf, ← hg17]; exact Blk.new _ _ _
    have N17 : w.heap.size ≤ g17 := by rw [← hg17]; exact (show Below w.heap.size w we from by go_split_ands; assumption).size
    have NE : g16 ≠ g17 := by have := F16.lt; omega
    have F16_ := F16.below hb3 F16.lt
    clear F16
    have F16 := F16_
    clear F16_
    have Swf := HS.out _ _ (by assumption) hb3
    rw [hwwf, hg17]
    clear hwwf hg17 hb3
    refine hK.out _ _ Swf (fun _ => ?_)
    clear hK K
    try simp only [Act.put, List.setIfInBounds_toArray, List.set_cons_zero, List.set_cons_succ]
    refine wpAnyH_ready (rs := [18]) (by kernel_rfl) (by simp) ?_
    refine AllReadyH.cons (o := { dst := none, op := Go.Op.store 79 (Go.Operand.tmp 7) (Go.Operand.tmp 16), type := 0, pos := "heap.go:75", after := #[{ on := 16, ground := Go.Ground.data }, { on := 7, ground := Go.Ground.data }, { on := 0, ground := Go.Ground.phase }, { on := 1, ground := Go.Ground.phase }, { on := 2, ground := Go.Ground.phase }, { on := 3, ground := Go.Ground.phase }, { on := 4, ground := Go.Ground.phase }, { on := 5, ground := Go.Ground.phase }, { on := 6, ground := Go.Ground.phase }, { on := 7, ground := Go.Ground.phase }, { on := 8, ground := Go.Ground.textOnly Go.Departure.lateStores }, { on := 9, ground := Go.Ground.textOnly Go.Departure.lateStores }, { on := 10, ground := Go.Ground.textOnly Go.Departure.lateStores }, { on := 11, ground := Go.Ground.textOnly Go.Departure.lateStores }, { on := 12, ground := Go.Ground.textOnly Go.Departure.lateStores }, { on := 13, ground := Go.Ground.textOnly Go.Departure.lateStores }, { on := 14, ground := Go.Ground.textOnly Go.Departure.lateStores }, { on := 15, ground := Go.Ground.textOnly Go.Departure.lateStores }, { on := 16, ground := Go.Ground.phase }, { on := 17, ground := Go.Ground.phase }], guard := none }) rfl (fun K hK => ?_) AllReadyH.nil
    have q0 : wf.cell? ⟨g16, 0, none⟩ = some (.int .i64 0) := (F16.cell 0).trans rfl
    have q1 : wf.cell? ⟨g16, 1, none⟩ = some (.int .i64 0) := (F16.cell 1).trans rfl
    have y0 := F16.frozen 0
    have y1 := F16.frozen 1
    go_simp
    have Swg := HST.out wf g16 (.int .i64 xi) (.int .i64 (pi : Int)) N16 (by assumption)
    have G16 := (F16.set_ 0 (.int .i64 xi)).set_ 1 (.int .i64 (pi : Int))
    simp only [List.setIfInBounds_toArray, List.set_cons_zero, List.set_cons_succ] at G16
    have O17 := (F17.far (p := ⟨g16, 0, none⟩) (Ne.symm NE) (.int .i64 xi)).far (p := ⟨g16, 1, none⟩) (Ne.symm NE) (.int .i64 (pi : Int))
    clear q0 q1 y0 y1 F16 F17
    obtain ⟨wg, hwwg⟩ : ∃ z, ((wf.setCell ⟨g16, 0, none⟩ (.int .i64 xi)).setCell ⟨g16, 1, none⟩ (.int .i64 (pi : Int))) = z := ⟨_, rfl⟩
    rw [hwwg] at Swg G16 O17
    rw [hwwg]
    clear hwwg
    have F17 := O17
    clear O17
    refine hK.out _ _ Swg (fun _ => ?_)
    clear hK K
    try simp only [Act.put, List.setIfInBounds_toArray, List.set_cons_zero, List.set_cons_succ]
    refine wpAnyH_ready (rs := [19]) (by kernel_rfl) (by simp) ?_
    refine AllReadyH.cons (o := { dst := none, op := Go.Op.store 79 (Go.Operand.tmp 8) (Go.Operand.tmp 24), type := 0, pos := "heap.go:75", after := #[{ on := 17, ground := Go.Ground.data }, { on := 15, ground := Go.Ground.data }, { on := 18, ground := Go.Ground.chain }, { on := 0, ground := Go.Ground.phase }, { on := 1, ground := Go.Ground.phase }, { on := 2, ground := Go.Ground.phase }, { on := 3, ground := Go.Ground.phase }, { on := 4, ground := Go.Ground.phase }, { on := 5, ground := Go.Ground.phase }, { on := 6, ground := Go.Ground.phase }, { on := 7, ground := Go.Ground.phase }, { on := 8, ground := Go.Ground.phase }, { on := 9, ground := Go.Ground.phase }, { on := 10, ground := Go.Ground.phase }, { on := 11, ground := Go.Ground.phase }, { on := 12, ground := Go.Ground.phase }, { on := 13, ground := Go.Ground.phase }, { on := 14, ground := Go.Ground.phase }, { on := 15, ground := Go.Ground.phase }, { on := 16, ground := Go.Ground.phase }, { on := 17, ground := Go.Ground.phase }, { on := 18, ground := Go.Ground.phase }], guard := none }) rfl (fun K hK => ?_) AllReadyH.nil
    have q0 : wg.cell? ⟨g17, 0, none⟩ = some (.int .i64 0) := (F17.cell 0).trans rfl
    have q1 : wg.cell? ⟨g17, 1, none⟩ = some (.int .i64 0) := (F17.cell 1).trans rfl
    have y0 := F17.frozen 0
    have y1 := F17.frozen 1
    go_simp
    have Swh := HST.out wg g17 (.int .i64 xk) (.int .i64 (pk : Int)) N17 (by assumption)
    have G17 := (F17.set_ 0 (.int .i64 xk)).set_ 1 (.int .i64 (pk : Int))
    simp only [List.setIfInBounds_toArray, List.set_cons_zero, List.set_cons_succ] at G17
    have O16 := (G16.far (p := ⟨g17, 0, none⟩) (NE) (.int .i64 xk)).far (p := ⟨g17, 1, none⟩) (NE) (.int .i64 (pk : Int))
    clear q0 q1 y0 y1 F17 G16
    obtain ⟨wh, hwwh⟩ : ∃ z, ((wg.setCell ⟨g17, 0, none⟩ (.int .i64 xk)).setCell ⟨g17, 1, none⟩ (.int .i64 (pk : Int))) = z := ⟨_, rfl⟩
    rw [hwwh] at Swh G17 O16
    rw [hwwh]
    clear hwwh
    have G16 := O16
    clear O16
    refine hK.out _ _ Swh (fun _ => ?_)
    clear hK K
    try simp only [Act.put, List.setIfInBounds_toArray, List.set_cons_zero, List.set_cons_succ]
    refine wpAnyH_done (by kernel_rfl) ?_ _
    obtain ⟨hbw, a0, a1, _, _, _, _⟩ := Swh
    have p0 : wh.cell? ⟨g16, 0, none⟩ = some (.int .i64 xi) := (G16.cell 0).trans rfl
    have r0 : wh.cell? ⟨g17, 0, none⟩ = some (.int .i64 xk) := (G17.cell 0).trans rfl
    have HA1 := Lib.hid a1
    clear a0 a1 S0 Swe Swf Swg
    go_wp2_with fail
    refine (BF1.out _ HA1.out).mono ?_
    rintro e w2 ⟨rfl, hx⟩
    have p0 : w2.cell? ⟨g16, 0, none⟩ = some (.int .i64 xi) := ((G16.below hx G16.lt).cell 0).trans rfl
    have r0 : w2.cell? ⟨g17, 0, none⟩ = some (.int .i64 xk) := ((G17.below hx G17.lt).cell 0).trans rfl
    have p1 : w2.cell? ⟨g16, 1, none⟩ = some (.int .i64 (pi : Int)) := ((G16.below hx G16.lt).cell 1).trans rfl
    have r1 : w2.cell? ⟨g17, 1, none⟩ = some (.int .i64 (pk : Int)) := ((G17.below hx G17.lt).cell 1).trans rfl
    have a1 := Lib.hid ((hx.cell (p := ⟨b, 2, none⟩) (block_lt_of_cell HA1.out)).trans HA1.out)
    have HB2 := Lib.hid (hop hbw (Nat.le_refl _) hx)
    clear hx G16 G17 hbw HA1
    cases z1 with
    | true =>
      have E := Lib.hid (show true = TT from HT.out.symm)
      go_wp2
      go_ret
      exact ⟨by rw [← E.out]; first | rfl | (simp; done), HB2.out⟩
    | false =>
      cases z2 with
      | false =>
        have E := Lib.hid (show false = TT from HT.out.symm)
        have y2 := HZ2.out
        have y3 := HZ2'.out
        go_wp2
        go_ret
        exact ⟨by rw [← E.out]; first | rfl | (simp; done), HB2.out⟩
      | true =>
        have E := Lib.hid (show (!z3) = TT from HT.out.symm)
        have y4 : pi < pk := of_decide_eq_true HZ2.out
        have y5 : (pi : Int) < (pk : Int) := by omega
        go_wp2_with fail
        refine (BF2.out _ a1.out).mono ?_
        rintro e w3 ⟨rfl, hx⟩
        have HB3 := Lib.hid (hop HB2.out (Nat.le_refl _) hx)
        clear hx
        go_wp2
        go_ret
        exact ⟨by rw [← E.out]; first | rfl | (simp; done), HB3.out⟩
  refine AllReadyH.cons (o := { dst := some 8, op := Go.Op.alloc 79, type := 0, pos := "heap.go:75", after := #[], guard := none }) rfl (fun K hK => ?_) AllReadyH.nil
  ·
    go_simp
    obtain ⟨g17, hg17⟩ : ∃ z, wd.heap.size = z := ⟨_, rfl⟩
    obtain ⟨we, hwwe⟩ : ∃ z, wd.alloc (.cells #[.int .i64 0, .int .i64 0] 79) = z := ⟨_, rfl⟩
    have hb3 : Below wd.heap.size wd we := by rw [← hwwe]; exact (Below.refl _ _).alloc (Nat.le_refl _) _
    have F17 : Blk we g17 79 #[.int .i64 0, .int .i64 0] := by rw [← hwwe, ← hg17]; exact Blk.new _ _ _
    have N17 : w.heap.size ≤ g17 := by rw [← hg17]; exact (show Below w.heap.size w wd from by go_split_ands; assumption).size
    have Swe := HS.out _ _ (by assumption) hb3
    rw [hwwe, hg17]
    clear hwwe hg17 hb3
    refine hK.out _ _ Swe (fun _ => ?_)
    clear hK K
    try simp only [Act.put, List.setIfInBounds_toArray, List.set_cons_zero, List.set_cons_succ]
    refine wpAnyH_ready (rs := [16]) (by kernel_rfl) (by simp) ?_
    refine AllReadyH.cons (o := { dst := some 7, op := Go.Op.alloc 79, type := 0, pos := "heap.go:75", after := #[], guard := none }) rfl (fun K hK => ?_) AllReadyH.nil
    go_simp
    obtain ⟨g16, hg16⟩ : ∃ z, we.heap.size = z := ⟨_, rfl⟩
    obtain ⟨wf, hwwf⟩ : ∃ z, we.alloc (.cells #[.int .i64 0, .int .i64 0] 79) = z := ⟨_, rfl⟩
    have hb3 : Below we.heap.size we wf := by rw [← hwwf]; exact (Below.refl _ _).alloc (Nat.le_refl _) _
    have F16 : Blk wf g16 79 #[.int .i64 0, .int .i64 0] := by rw [← hwwf, ← hg16]; exact Blk.new _ _ _
    have N16 : w.heap.size ≤ g16 := by rw [← hg16]; exact (show Below w.heap.size w we from by go_split_ands; assumption).size
    have NE : g17 ≠ g16 := by have := F17.lt; omega
    have F17_ := F17.below hb3 F17.lt
    clear F17
    have F17 := F17_
    clear F17_
    have Swf := HS.out _ _ (by assumption) hb3
    rw [hwwf, hg16]
    clear hwwf hg16 hb3
    refine hK.out _ _ Swf (fun _ => ?_)
    clear hK K
    try simp only [Act.put, List.setIfInBounds_toArray, List.set_cons_zero, List.set_cons_succ]
    refine wpAnyH_ready (rs := [18]) (by kernel_rfl) (by simp) ?_
    refine AllReadyH.cons (o := { dst := none, op := Go.Op.store 79 (Go.Operand.tmp 7) (Go.Operand.tmp 16), type := 0, pos := "heap.go:75", after := #[{ on := 16, ground := Go.Ground.data }, { on := 7, ground := Go.Ground.data }, { on := 0, ground := Go.Ground.phase }, { on := 1, ground := Go.Ground.phase }, { on := 2, ground := Go.Ground.phase }, { on := 3, ground := Go.Ground.phase }, { on := 4, ground := Go.Ground.phase }, { on := 5, ground := Go.Ground.phase }, { on := 6, ground := Go.Ground.phase }, { on := 7, ground := Go.Ground.phase }, { on := 8, ground := Go.Ground.textOnly Go.Departure.lateStores }, { on := 9, ground := Go.Ground.textOnly Go.Departure.lateStores }, { on := 10, ground := Go.Ground.textOnly Go.Departure.lateStores }, { on := 11, ground := Go.Ground.textOnly Go.Departure.lateStores }, { on := 12, ground := Go.Ground.textOnly Go.Departure.lateStores }, { on := 13, ground := Go.Ground.textOnly Go.Departure.lateStores }, { on := 14, ground := Go.Ground.textOnly Go.Departure.lateStores }, { on := 15, ground := Go.Ground.textOnly Go.Departure.lateStores }, { on := 16, ground := Go.Ground.phase }, { on := 17, ground := Go.Ground.phase }], guard := none }) rfl (fun K hK => ?_) AllReadyH.nil
    have q0 : wf.cell? ⟨g16, 0, none⟩ = some (.int .i64 0) := (F16.cell 0).trans rfl
    have q1 : wf.cell? ⟨g16, 1, none⟩ = some (.int .i64 0) := (F16.cell 1).trans rfl
    have y0 := F16.frozen 0
    have y1 := F16.frozen 1
    go_simp
    have Swg := HST.out wf g16 (.int .i64 xi) (.int .i64 (pi : Int)) N16 (by assumption)
    have G16 := (F16.set_ 0 (.int .i64 xi)).set_ 1 (.int .i64 (pi : Int))
    simp only [List.setIfInBounds_toArray, List.set_cons_zero, List.set_cons_succ] at G16
    have O17 := (F17.far (p := ⟨g16, 0, none⟩) (NE) (.int .i64 xi)).far (p := ⟨g16, 1, none⟩) (NE) (.int .i64 (pi : Int))
    clear q0 q1 y0 y1 F16 F17
    obtain ⟨wg, hwwg⟩ : ∃ z, ((wf.setCell ⟨g16, 0, none⟩ (.int .i64 xi)).setCell ⟨g16, 1, none⟩ (.int .i64 (pi : Int))) = z := ⟨_, rfl⟩
    rw [hwwg] at Swg G16 O17
    rw [hwwg]
    clear hwwg
    have F17 := O17
    clear O17
    refine hK.out _ _ Swg (fun _ => ?_)
    clear hK K
    try simp only [Act.put, List.setIfInBounds_toArray, List.set_cons_zero, List.set_cons_succ]
    refine wpAnyH_ready (rs := [19]) (by kernel_rfl) (by simp) ?_
    refine AllReadyH.cons (o := { dst := none, op := Go.Op.store 79 (Go.Operand.tmp 8) (Go.Operand.tmp 24), type := 0, pos := "heap.go:75", after := #[{ on := 17, ground := Go.Ground.data }, { on := 15, ground := Go.Ground.data }, { on := 18, ground := Go.Ground.chain }, { on := 0, ground := Go.Ground.phase }, { on := 1, ground := Go.Ground.phase }, { on := 2, ground := Go.Ground.phase }, { on := 3, ground := Go.Ground.phase }, { on := 4, ground := Go.Ground.phase }, { on := 5, ground := Go.Ground.phase }, { on := 6, ground := Go.Ground.phase }, { on := 7, ground := Go.Ground.phase }, { on := 8, ground := Go.Ground.phase }, { on := 9, ground := Go.Ground.phase }, { on := 10, ground := Go.Ground.phase }, { on := 11, ground := Go.Ground.phase }, { on := 12, ground := Go.Ground.phase }, { on := 13, ground := Go.Ground.phase }, { on := 14, ground := Go.Ground.phase }, { on := 15, ground := Go.Ground.phase }, { on := 16, ground := Go.Ground.phase }, { on := 17, ground := Go.Ground.phase }, { on := 18, ground := Go.Ground.phase }], guard := none }) rfl (fun K hK => ?_) AllReadyH.nil
    have q0 : wg.cell? ⟨g17, 0, none⟩ = some (.int .i64 0) := (F17.cell 0).trans rfl
    have q1 : wg.cell? ⟨g17, 1, none⟩ = some (.int .i64 0) := (F17.cell 1).trans rfl
    have y0 := F17.frozen 0
    have y1 := F17.frozen 1
    go_simp
    have Swh := HST.out wg g17 (.int .i64 xk) (.int .i64 (pk : Int)) N17 (by assumption)
    have G17 := (F17.set_ 0 (.int .i64 xk)).set_ 1 (.int .i64 (pk : Int))
    simp only [List.setIfInBounds_toArray, List.set_cons_zero, List.set_cons_succ] at G17
    have O16 := (G16.far (p := ⟨g17, 0, none⟩) (Ne.symm NE) (.int .i64 xk)).far (p := ⟨g17, 1, none⟩) (Ne.symm NE) (.int .i64 (pk : Int))
    clear q0 q1 y0 y1 F17 G16
    obtain ⟨wh, hwwh⟩ : ∃ z, ((wg.setCell ⟨g17, 0, none⟩ (.int .i64 xk)).setCell ⟨g17, 1, none⟩ (.int .i64 (pk : Int))) = z := ⟨_, rfl⟩
    rw [hwwh] at Swh G17 O16
    rw [hwwh]
    clear hwwh
    have G16 := O16
    clear O16
    refine hK.out _ _ Swh (fun _ => ?_)
    clear hK K
    try simp only [Act.put, List.setIfInBounds_toArray, List.set_cons_zero, List.set_cons_succ]
    refine wpAnyH_done (by kernel_rfl) ?_ _
    obtain ⟨hbw, a0, a1, _, _, _, _⟩ := Swh
    have p0 : wh.cell? ⟨g16, 0, none⟩ = some (.int .i64 xi) := (G16.cell 0).trans rfl
    have r0 : wh.cell? ⟨g17, 0, none⟩ = some (.int .i64 xk) := (G17.cell 0).trans rfl
    have HA1 := Lib.hid a1
    clear a0 a1 S0 Swe Swf Swg
    go_wp2_with fail
    refine (BF1.out _ HA1.out).mono ?_
    rintro e w2 ⟨rfl, hx⟩
    have p0 : w2.cell? ⟨g16, 0, none⟩ = some (.int .i64 xi) := ((G16.below hx G16.lt).cell 0).trans rfl
    have r0 : w2.cell? ⟨g17, 0, none⟩ = some (.int .i64 xk) := ((G17.below hx G17.lt).cell 0).trans rfl
    have p1 : w2.cell? ⟨g16, 1, none⟩ = some (.int .i64 (pi : Int)) := ((G16.below hx G16.lt).cell 1).trans rfl
    have r1 : w2.cell? ⟨g17, 1, none⟩ = some (.int .i64 (pk : Int)) := ((G17.below hx G17.lt).cell 1).trans rfl
    have a1 := Lib.hid ((hx.cell (p := ⟨b, 2, none⟩) (block_lt_of_cell HA1.out)).trans HA1.out)
    have HB2 := Lib.hid (hop hbw (Nat.le_refl _) hx)
    clear hx G16 G17 hbw HA1
    cases z1 with
    | true =>
      have E := Lib.hid (show true = TT from HT.out.symm)
      go_wp2
      go_ret
      exact ⟨by rw [← E.out]; first | rfl | (simp; done), HB2.out⟩
    | false =>
      cases z2 with
      | false =>
        have E := Lib.hid (show false = TT from HT.out.symm)
        have y2 := HZ2.out
        have y3 := HZ2'.out
        go_wp2
        go_ret
        exact ⟨by rw [← E.out]; first | rfl | (simp; done), HB2.out⟩
      | true =>
        have E := Lib.hid (show (!z3) = TT from HT.out.symm)
        have y4 : pi < pk := of_decide_eq_true HZ2.out
        have y5 : (pi : Int) < (pk : Int) := by omega
        go_wp2_with fail
        refine (BF2.out _ a1.out).mono ?_
        rintro e w3 ⟨rfl, hx⟩
        have HB3 := Lib.hid (hop HB2.out (Nat.le_refl _) hx)
        clear hx
        go_wp2
        go_ret
        exact ⟨by rw [← E.out]; first | rfl | (simp; done), HB3.out⟩
end Go.Proofs.Ytlicnijhmncoeaa
