-- shaken
import Derived.Test.YtbkpoimaienhpaaGreatDoorRexNode
namespace Go.Proofs.YtbkpoimaienhpaaGreatDoor
open Go.RowKit
set_option linter.unusedVariables false
set_option linter.unusedSimpArgs false
theorem infoNode : (Tryz.prog.info? 97).map (fun i => (i.zero, i.size, i.bytes)) = some (some (.agg #[.int .i64 0, .int .u64 0, .int .u64 0, .int .u64 0, .int .u64 0, .int .i64 0, .int .i64 0, .slice none 0 0]), 8, 80) := by kernel_rfl
theorem RowR.news {w : World} {b off n : Nat} {l : List NodeX} (h : RowR nodeV 8 w (some ⟨b, off, Option.none⟩) n l) : ∀ j u, (rowV nodeV l)[j]? = some u → w.cell? ((⟨b, off, Option.none⟩ : Addr).add j) = some u := by
  intro j u hu
  have hlen := rowV_len nodeV_len l
  have hj : j < l.length * 8 := by
    rcases Nat.lt_or_ge j (l.length * 8) with h1 | h1
    · exact h1
    · rw [List.getElem?_eq_none (by omega)] at hu; cases hu
  have hn : 0 < n := by have := h.1; omega
  obtain ⟨b2, off2, e, hlt, hc⟩ := h.2 hn
  injection e with e
  injection e with e1 e2
  subst e1 e2
  obtain ⟨a, ha⟩ : ∃ a, l[j / 8]? = some a := ⟨l[j / 8]'(by omega), List.getElem?_eq_getElem (by omega)⟩
  have h1 := hc (j / 8) (j % 8) a ha (Nat.mod_lt _ (by decide))
  have h2 := rowV_at (s := 8) nodeV_len l (j / 8) (j % 8) a ha (Nat.mod_lt _ (by decide))
  have e3 : j / 8 * 8 + j % 8 = j := by omega
  rw [e3] at h2
  rw [ints_add, show off + j = off + j / 8 * 8 + j % 8 by omega, h1, ← h2, hu]
def catX : List NodeX → List NodeX
  | [] => []
  | n :: l => if n.kind = 0 then catX l else if n.kind = 4 then n.kids ++ catX l else n :: catX l
def altX : List NodeX → List NodeX
  | [] => []
  | n :: l => if n.kind = 5 then n.kids ++ altX l else n :: altX l
theorem catX_t (l : List NodeX) : (catX l).map NodeX.t = catK (l.map NodeX.t) := by
  induction l with
  | nil => rfl
  | cons x l ih =>
    rw [catX, List.map_cons, catK, NodeX.t_kind, NodeX.t_kids]
    split
    · exact ih
    · split
      · rw [List.map_append, ih]
      · rw [List.map_cons, ih]
theorem altX_t (l : List NodeX) : (altX l).map NodeX.t = altK (l.map NodeX.t) := by
  induction l with
  | nil => rfl
  | cons x l ih =>
    rw [altX, List.map_cons, altK, NodeX.t_kind, NodeX.t_kids]
    split
    · rw [List.map_append, ih]
    · rw [List.map_cons, ih]
theorem catX_app (l m : List NodeX) : catX (l ++ m) = catX l ++ catX m := by
  induction l with
  | nil => rfl
  | cons x l ih =>
    rw [List.cons_append, catX, catX]
    split
    · exact ih
    · split
      · rw [ih, List.append_assoc]
      · rw [ih, List.cons_append]
theorem altX_app (l m : List NodeX) : altX (l ++ m) = altX l ++ altX m := by
  induction l with
  | nil => rfl
  | cons x l ih =>
    rw [List.cons_append, altX, altX]
    split
    · rw [ih, List.append_assoc]
    · rw [ih, List.cons_append]
theorem take_next {l : List NodeX} {j : Nat} {x : NodeX} (h : l[j]? = some x) : l.take (j + 1) = l.take j ++ [x] := by
  rw [List.take_add_one, h]
  rfl
theorem catX_next {l : List NodeX} {j : Nat} {x : NodeX} (h : l[j]? = some x) : catX (l.take (j + 1)) = catX (l.take j) ++ catX [x] := by rw [take_next h, catX_app]
theorem altX_next {l : List NodeX} {j : Nat} {x : NodeX} (h : l[j]? = some x) : altX (l.take (j + 1)) = altX (l.take j) ++ altX [x] := by rw [take_next h, altX_app]
theorem catX_pre (l : List NodeX) (j : Nat) : (catX (l.take j)).length ≤ (catX l).length := by
  have h := catX_app (l.take j) (l.drop j)
  rw [List.take_append_drop] at h
  rw [h, List.length_append]
  omega
theorem altX_pre (l : List NodeX) (j : Nat) : (altX (l.take j)).length ≤ (altX l).length := by
  have h := altX_app (l.take j) (l.drop j)
  rw [List.take_append_drop] at h
  rw [h, List.length_append]
  omega
theorem catX_in {l : List NodeX} {w : World} {P : Nat → Prop} (h : ∀ x, x ∈ l → GoodN w P x) : ∀ y, y ∈ catX l → GoodN w P y := by
  induction l with
  | nil => intro y hy; cases hy
  | cons x l ih =>
    intro y hy
    have ih2 := ih (fun z hz => h z (List.mem_cons_of_mem _ hz))
    rw [catX] at hy
    split at hy
    · exact ih2 y hy
    · split at hy
      · rcases List.mem_append.1 hy with h1 | h1
        · exact (h x List.mem_cons_self).kid h1
        · exact ih2 y h1
      · rcases List.mem_cons.1 hy with h1 | h1
        · rw [h1]; exact h x List.mem_cons_self
        · exact ih2 y h1
theorem altX_in {l : List NodeX} {w : World} {P : Nat → Prop} (h : ∀ x, x ∈ l → GoodN w P x) : ∀ y, y ∈ altX l → GoodN w P y := by
  induction l with
  | nil => intro y hy; cases hy
  | cons x l ih =>
    intro y hy
    have ih2 := ih (fun z hz => h z (List.mem_cons_of_mem _ hz))
    rw [altX] at hy
    split at hy
    · rcases List.mem_append.1 hy with h1 | h1
      · exact (h x List.mem_cons_self).kid h1
      · exact ih2 y h1
    · rcases List.mem_cons.1 hy with h1 | h1
      · rw [h1]; exact h x List.mem_cons_self
      · exact ih2 y h1
theorem catT_zero {l : List NodeT} (h : (catK l).length = 0) : catT l = .nil := by
  unfold catT
  rw [List.eq_nil_of_length_eq_zero h]
theorem catT_one {l : List NodeT} {x : NodeT} (h : catK l = [x]) : catT l = x := by
  unfold catT
  rw [h]
theorem catT_more {l : List NodeT} (h : 2 ≤ (catK l).length) : catT l = .mk 4 0 0 0 (catK l) := by
  unfold catT
  match hk : catK l, h with
  | a :: b :: m, _ => rfl
theorem below_eight {B : Nat} {a w : World} (h : Below B a w) {g : Nat} (hg : B ≤ g) (x0 x1 x2 x3 x4 x5 x6 x7 : Value) : Below B a ((((((((w.setCell ⟨g, 0, none⟩ x0).setCell ⟨g, 1, none⟩ x1).setCell ⟨g, 2, none⟩ x2).setCell ⟨g, 3, none⟩ x3).setCell ⟨g, 4, none⟩ x4).setCell ⟨g, 5, none⟩ x5).setCell ⟨g, 6, none⟩ x6).setCell ⟨g, 7, none⟩ x7) :=
  (((((((h.setCell hg _).setCell hg _).setCell hg _).setCell hg _).setCell hg _).setCell hg _).setCell hg _).setCell hg _
theorem far_eight {w : World} {g q : Nat} (hq : q ≠ g) (x0 x1 x2 x3 x4 x5 x6 x7 : Value) : ((((((((w.setCell ⟨g, 0, none⟩ x0).setCell ⟨g, 1, none⟩ x1).setCell ⟨g, 2, none⟩ x2).setCell ⟨g, 3, none⟩ x3).setCell ⟨g, 4, none⟩ x4).setCell ⟨g, 5, none⟩ x5).setCell ⟨g, 6, none⟩ x6).setCell ⟨g, 7, none⟩ x7).heap[q]? = w.heap[q]? := by
  rw [Below.heap_setCell _ _ _ _ hq, Below.heap_setCell _ _ _ _ hq, Below.heap_setCell _ _ _ _ hq, Below.heap_setCell _ _ _ _ hq, Below.heap_setCell _ _ _ _ hq, Below.heap_setCell _ _ _ _ hq, Below.heap_setCell _ _ _ _ hq, Below.heap_setCell _ _ _ _ hq]
theorem good_eight {W w : World} {P : Nat → Prop} {y : NodeX} (h : GoodN W P y) (hb : Below W.heap.size W w) (x0 x1 x2 x3 x4 x5 x6 x7 : Value) : GoodN ((((((((w.setCell ⟨W.heap.size, 0, none⟩ x0).setCell ⟨W.heap.size, 1, none⟩ x1).setCell ⟨W.heap.size, 2, none⟩ x2).setCell ⟨W.heap.size, 3, none⟩ x3).setCell ⟨W.heap.size, 4, none⟩ x4).setCell ⟨W.heap.size, 5, none⟩ x5).setCell ⟨W.heap.size, 6, none⟩ x6).setCell ⟨W.heap.size, 7, none⟩ x7) P y :=
  h.later (below_eight hb (Nat.le_refl _) _ _ _ _ _ _ _ _)
set_option maxRecDepth 100000 in
set_option maxHeartbeats 3200000 in
theorem catOf_any (A : Option Addr) (n c : Nat) (l : List NodeX) (P : Nat → Prop) (W : World) (hR : RowR nodeV 8 W A n l) (hG : ∀ x, x ∈ l → GoodN W P x) (hn : n ≤ 100000) (hk : (catX l).length ≤ 100000) (hC : ∀ x, x ∈ l → x.kind = 4 → 0 < x.n) :
    Calls Tryz.prog 108 #[.slice A n c] W fun e w' => ∃ y, e = .returned (.agg (nodeC y)) ∧ y.t = catT (l.map NodeX.t) ∧ GoodN w' (fun q => P q ∨ W.heap.size ≤ q) y ∧ Below W.heap.size W w' := by
  obtain ⟨i0, hi, hz0, hz1, hz2⟩ := info_parts infoNode
  have HR := Lib.hid hR
  have HG := Lib.hid hG
  have HC := Lib.hid hC
  have hl := hR.1
  have HPRE := Lib.hid (catX_pre l)
  have HK0 := Lib.hid (nil_new W)
  clear hR hG hC
  go_enter Tryz.func108, Tryz.ntmps108
  go_wp2
  go_loopw [3, 8] (fun v iv wr => ∃ (j : Nat), j ≤ n ∧ iv = .int .i64 (j : Nat) ∧ Hid (OwnR nodeV 8 wr (W.heap.size + 1) 97 v (catX (l.take j))) ∧ Hid (Below W.heap.size W wr) ∧ Hid (W.heap.size + 1 ≤ wr.heap.size) ∧ Hid (Blk wr W.heap.size 97 (nodeC nilX))) (fun _ iv _ => n - (intOf iv).toNat)
  case atStart =>
    exact ⟨0, Nat.zero_le _, rfl, Lib.hid (by rw [List.take_zero]; exact OwnR.nil _ _ _), Lib.hid ((Below.refl _ _).alloc (Nat.le_refl _) _), Lib.hid (by rw [World.size_alloc]; exact Nat.le_refl _), HK0⟩
  case round =>
    obtain ⟨j, hj, rfl, HO, HB, HS, HK⟩ := hrel
    have hS := HS.out
    by_cases h : j < n
    · have hI : (j : Int) < n := by omega
      obtain ⟨b, off, rfl, hlt, hc⟩ := HR.out.2 (by omega)
      obtain ⟨x, hp⟩ : ∃ x, l[j]? = some x := ⟨l[j], List.getElem?_eq_getElem (by omega)⟩
      obtain ⟨xk, xs, xm, xx, xA, xn, xc, xl⟩ := x
      have hxl := List.mem_of_getElem? hp
      have c0 := (HB.out.cell (p := ⟨b, off + j * 8 + 0, none⟩) hlt).trans (hc j 0 _ hp (by decide))
      have c1 := (HB.out.cell (p := ⟨b, off + j * 8 + 1, none⟩) hlt).trans (hc j 1 _ hp (by decide))
      have c2 := (HB.out.cell (p := ⟨b, off + j * 8 + 2, none⟩) hlt).trans (hc j 2 _ hp (by decide))
      have c3 := (HB.out.cell (p := ⟨b, off + j * 8 + 3, none⟩) hlt).trans (hc j 3 _ hp (by decide))
      have c4 := (HB.out.cell (p := ⟨b, off + j * 8 + 4, none⟩) hlt).trans (hc j 4 _ hp (by decide))
      have c5 := (HB.out.cell (p := ⟨b, off + j * 8 + 5, none⟩) hlt).trans (hc j 5 _ hp (by decide))
      have c6 := (HB.out.cell (p := ⟨b, off + j * 8 + 6, none⟩) hlt).trans (hc j 6 _ hp (by decide))
      have c7 := (HB.out.cell (p := ⟨b, off + j * 8 + 7, none⟩) hlt).trans (hc j 7 _ hp (by decide))
      rw [Nat.add_zero] at c0
      simp only [nodeV, NodeX.kind, NodeX.set, NodeX.mn, NodeX.mx, NodeX.A, NodeX.n, NodeX.c, NodeX.kids, List.getElem?_cons_zero, List.getElem?_cons_succ] at c0 c1 c2 c3 c4 c5 c6 c7
      have HNX := Lib.hid (catX_next hp)
      have hpre := HPRE.out (j + 1)
      rw [HNX.out] at hpre
      have hgx := HG.out _ hxl
      have HGX := Lib.hid hgx
      have hcx := HC.out _ hxl
      have K1 := Blk.new wr 97 (nodeC (NodeX.mk xk xs xm xx xA xn xc xl))
      obtain ⟨⟨a0, a1, a2, a3, a4, a5, a6, a7⟩, _⟩ := node_cells K1
      simp only [NodeX.kind, NodeX.set, NodeX.mn, NodeX.mx, NodeX.A, NodeX.n, NodeX.c, NodeX.kids] at a0 a1 a2 a3 a4 a5 a6 a7 hcx
      clear K1 hc hp hgx HPRE
      clear HR HG HC
      by_cases hk0 : xk = 0
      · subst hk0
        have e1 : catX [(NodeX.mk 0 xs xm xx xA xn xc xl)] = [] := by simp [catX, NodeX.kind]
        rw [e1, List.append_nil] at HNX
        have HO4 := Lib.hid (show OwnR nodeV 8 (wr.alloc (.cells (nodeC (NodeX.mk 0 xs xm xx xA xn xc xl)) 97)) (W.heap.size + 1) 97 _ (catX (l.take (j + 1))) by rw [HNX.out]; exact HO.out.alloc _)
        have HB4 := Lib.hid (HB.out.alloc (by omega) (.cells (nodeC (NodeX.mk 0 xs xm xx xA xn xc xl)) 97))
        have HS4 := Lib.hid (show W.heap.size + 1 ≤ (wr.alloc (.cells (nodeC (NodeX.mk 0 xs xm xx xA xn xc xl)) 97)).heap.size by rw [World.size_alloc]; omega)
        have HK4 := Lib.hid (HK.out.alloc (.cells (nodeC (NodeX.mk 0 xs xm xx xA xn xc xl)) 97))
        go_wp2
        go_round
        case rel => exact ⟨j + 1, by omega, by go_num, HO4, HB4, HS4, HK4⟩
        case measure => simp [intOf]; omega
      · have g0 : (xk == 0) = false := by rw [beq_eq_false_iff_ne]; exact hk0
        by_cases hkd : xk = 4
        · subst hkd
          have e1 : catX [(NodeX.mk 4 xs xm xx xA xn xc xl)] = xl := by simp [catX, NodeX.kind, NodeX.kids]
          have hx0 := hcx rfl
          rw [e1] at hpre HNX
          rw [List.length_append] at hpre
          have hrow := HGX.out.row
          simp only [NodeX.A, NodeX.n, NodeX.kids] at hrow hx0
          obtain ⟨b2, off2, rfl, hlt2, _⟩ := hrow.2 hx0
          have hrl := hrow.1
          have hx2 : (wr.alloc (.cells (nodeC (NodeX.mk 4 xs xm xx (some ⟨b2, off2, none⟩) xn xc xl)) 97)).heap.size = wr.heap.size + 1 := by simp
          have HRW := Lib.hid (hrow.frame (w' := wr.alloc (.cells (nodeC (NodeX.mk 4 xs xm xx (some ⟨b2, off2, none⟩) xn xc xl)) 97)) (by rw [hx2]; have := HB.out.size; omega) (fun _ a _ hlt3 => (HB.out.alloc (by omega) _).block a.block hlt3))
          have HLN := Lib.hid (rowV_len nodeV_len xl)
          clear hrow hx2
          go_wp2_with (at_builtin; refine wpList_append_own _ rfl (.tmp 22) (.tmp 24) 95 rfl (W.heap.size + 1) 97 i0 (.agg #[.int .i64 0, .int .u64 0, .int .u64 0, .int .u64 0, .int .u64 0, .int .i64 0, .int .i64 0, .slice none 0 0]) 8 80 Tryz.underlying95 hi hz0 hz1 hz2 rfl (by decide) _ _ _ rfl (OwnR.alloc HO.out _) ⟨b2, off2, none⟩ xn xc (rowV nodeV xl) rfl (by rw [HLN.out, hrl]) HRW.out.news (rowV_one nodeV_one _) (by unfold maxLen; omega) (by omega) (by simp; omega) ?_)
          intro v' w4 hown' hgrow _
          have hrw : ∀ r, Value.ownBlock _ = some r → W.heap.size + 1 ≤ r ∧ r < wr.heap.size := fun r hr => World.ownsRow.lt HO.out r hr
          have HB4 := Lib.hid ((HB.out.alloc (by omega) _).grown hgrow (by simp; omega) (fun r hr => Nat.le_of_succ_le (hrw r hr).1))
          have HO4 := Lib.hid (show OwnR nodeV 8 w4 (W.heap.size + 1) 97 v' (catX (l.take (j + 1))) by rw [HNX.out]; exact OwnR.snocs (by rw [hrl]; exact hown'))
          have HK4 := Lib.hid ((HK.out.alloc (.cells (nodeC (NodeX.mk 4 xs xm xx (some ⟨b2, off2, none⟩) xn xc xl)) 97)).stays hgrow (fun e => by have := (hrw _ e).1; omega))
          have HS4 := Lib.hid (show W.heap.size + 1 ≤ w4.heap.size by have := hgrow.size; rw [World.size_alloc] at this; omega)
          clear hown' hgrow hrw
          go_wp2
          go_round
          case rel => exact ⟨j + 1, by omega, by go_num, HO4, HB4, HS4, HK4⟩
          case measure => simp [intOf]; omega
        · have g4 : (xk == 4) = false := by rw [beq_eq_false_iff_ne]; exact hkd
          have e1 : catX [(NodeX.mk xk xs xm xx xA xn xc xl)] = [(NodeX.mk xk xs xm xx xA xn xc xl)] := by simp [catX, NodeX.kind, NodeX.kids, hkd, hk0]
          rw [e1] at hpre HNX
          rw [List.length_append] at hpre
          simp only [List.length_cons, List.length_nil] at hpre
          go_wp2_with (at_builtin; refine wpList_append_own _ rfl (.tmp 14) (.tmp 16) 95 rfl (W.heap.size + 1) 97 i0 (.agg #[.int .i64 0, .int .u64 0, .int .u64 0, .int .u64 0, .int .u64 0, .int .i64 0, .int .i64 0, .slice none 0 0]) 8 80 Tryz.underlying95 hi hz0 hz1 hz2 rfl (by decide) _ _ _ rfl (OwnR.alloc (OwnR.alloc HO.out _) _) ⟨wr.heap.size + 1, 0, none⟩ 1 1 (nodeV (NodeX.mk xk xs xm xx xA xn xc xl)) rfl rfl (new_cells_at _ _ _ _ (by simp)) (nodeV_one _) (by unfold maxLen; omega) (by omega) (by simp; omega) ?_)
          intro v' w4 hown' hgrow _
          have hrw : ∀ r, Value.ownBlock _ = some r → W.heap.size + 1 ≤ r ∧ r < wr.heap.size := fun r hr => World.ownsRow.lt HO.out r hr
          have HB4 := Lib.hid (((HB.out.alloc (by omega) _).alloc (by simp; omega) _).grown hgrow (by simp; omega) (fun r hr => Nat.le_of_succ_le (hrw r hr).1))
          have HO4 := Lib.hid (show OwnR nodeV 8 w4 (W.heap.size + 1) 97 v' (catX (l.take (j + 1))) by rw [HNX.out]; exact OwnR.snoc hown')
          have HK4 := Lib.hid (((HK.out.alloc (.cells (nodeC (NodeX.mk xk xs xm xx xA xn xc xl)) 97)).alloc (.cells (nodeV (NodeX.mk xk xs xm xx xA xn xc xl)).toArray 97)).stays hgrow (fun e => by have := (hrw _ e).1; omega))
          have HS4 := Lib.hid (show W.heap.size + 1 ≤ w4.heap.size by have := hgrow.size; rw [World.size_alloc, World.size_alloc] at this; omega)
          clear hown' hgrow hrw
          go_wp2
          go_round
          case rel => exact ⟨j + 1, by omega, by go_num, HO4, HB4, HS4, HK4⟩
          case measure => simp [intOf]; omega
    · obtain rfl : j = n := by omega
      have hI : ¬ (j : Int) < (j : Int) := by omega
      have ho := HO.out
      rw [List.take_of_length_le (by omega)] at ho
      have HT := Lib.hid (catX_t l)
      have HIN := Lib.hid (catX_in HG.out)
      obtain ⟨L, hL⟩ : ∃ L, catX l = L := ⟨_, rfl⟩
      rw [hL] at ho HT hk HIN
      obtain ⟨A2, c2, rfl, hc2, hn2, hrow⟩ := OwnR.open nodeV_len ho
      have hcm := hk
      have HROW := Lib.hid hrow
      have HLT := Lib.hid (fun (h0 : 0 < L.length) => OwnR.at_ nodeV_len ho h0)
      have HN2 := Lib.hid hn2
      obtain ⟨⟨d0, d1, d2, d3, d4, d5, d6, d7⟩, f0, f1, f2, f3, f4, f5, f6, f7⟩ := node_cells HK.out
      clear hL ho hrow HR HG HC HPRE hn2
      rcases (show L.length = 0 ∨ L.length = 1 ∨ 2 ≤ L.length by omega) with h0 | h0 | h0
      · have hz := catT_zero (l := l.map NodeX.t) (by rw [← HT.out, List.length_map]; exact h0)
        have HZ := Lib.hid hz
        have hb8 := set8 (y0 := .int .i64 0) (y1 := .int .u64 (word 0 0 : Nat)) (y2 := .int .u64 (word 0 1 : Nat)) (y3 := .int .u64 (word 0 2 : Nat)) (y4 := .int .u64 (word 0 3 : Nat)) (y5 := .int .i64 0) (y6 := .int .i64 0) (y7 := .slice none 0 0) HK.out (.int .i64 0) (.int .u64 0) (.int .u64 0) (.int .u64 0) (.int .u64 0) (.int .i64 0) (.int .i64 0) (.slice none 0 0)
        have HB8 := Lib.hid hb8
        clear hb8 hz
        rw [h0]
        go_wp2
        refine bodyPost_ret (results_cell_row rfl _ _ W.heap.size 97 nilC (0, 0) _ rfl HB8.out Tryz.underlying97 rfl (by kernel_rfl)) rfl ?_
        exact ⟨nilX, rfl, HZ.out.symm, GoodN.nil _ _, below_eight HB.out (Nat.le_refl _) _ _ _ _ _ _ _ _⟩
      · obtain ⟨x, rfl⟩ : ∃ x, L = [x] := by
          match L, h0 with
          | [x], _ => exact ⟨x, rfl⟩
        have HZ := Lib.hid (catT_one (l := l.map NodeX.t) (x := x.t) (by rw [← HT.out]; rfl))
        obtain ⟨g, cp, he, hge, hglt, _, hc⟩ := HLT.out (by simp)
        injection he with he _ _
        subst he
        have q0 := hc 0 0 x rfl (by decide)
        have q1 := hc 0 1 x rfl (by decide)
        have q2 := hc 0 2 x rfl (by decide)
        have q3 := hc 0 3 x rfl (by decide)
        have q4 := hc 0 4 x rfl (by decide)
        have q5 := hc 0 5 x rfl (by decide)
        have q6 := hc 0 6 x rfl (by decide)
        have q7 := hc 0 7 x rfl (by decide)
        simp only [nodeV, List.getElem?_cons_zero, List.getElem?_cons_succ, Nat.zero_mul, Nat.zero_add] at q0 q1 q2 q3 q4 q5 q6 q7
        have HB8 := Lib.hid (put8_blk HK.out x)
        have HX := Lib.hid (good_eight (HIN.out x (by simp)) HB.out (.int .i64 x.kind) (.int .u64 (word x.set 0 : Nat)) (.int .u64 (word x.set 1 : Nat)) (.int .u64 (word x.set 2 : Nat)) (.int .u64 (word x.set 3 : Nat)) (.int .i64 x.mn) (.int .i64 x.mx) (.slice x.A x.n x.c))
        have hone : ([x] : List NodeX).length = 1 := rfl
        clear hc HLT HROW HIN
        rw [hone]
        go_wp2
        refine bodyPost_ret (results_cell_row rfl _ _ W.heap.size 97 (nodeC x) (0, 0) _ rfl HB8.out Tryz.underlying97 rfl (by kernel_rfl)) rfl ?_
        exact ⟨x, rfl, HZ.out.symm, HX.out.weaken (fun q hq _ => .inl hq), below_eight HB.out (Nat.le_refl _) _ _ _ _ _ _ _ _⟩
      · have HZ := Lib.hid (catT_more (l := l.map NodeX.t) (by rw [← HT.out, List.length_map]; exact h0))
        have g0 : ((L.length : Int) == 0) = false := by rw [beq_eq_false_iff_ne]; omega
        have g1 : ((L.length : Int) == 1) = false := by rw [beq_eq_false_iff_ne]; omega
        have g2 : ¬ L.length = 0 := by omega
        have g3 : ¬ L.length = 1 := by omega
        obtain ⟨y, hy⟩ : ∃ y, NodeX.mk 4 0 0 0 A2 L.length c2 L = y := ⟨_, rfl⟩
        have hyC : nodeC y = #[.int .i64 4, .int .u64 0, .int .u64 0, .int .u64 0, .int .u64 0, .int .i64 0, .int .i64 0, .slice A2 L.length c2] := by rw [← hy]; exact (mkX_c 4 0 0 A2 L.length c2 L).symm
        have hb8 := set8 (y0 := .int .i64 0) (y1 := .int .u64 (word 0 0 : Nat)) (y2 := .int .u64 (word 0 1 : Nat)) (y3 := .int .u64 (word 0 2 : Nat)) (y4 := .int .u64 (word 0 3 : Nat)) (y5 := .int .i64 0) (y6 := .int .i64 0) (y7 := .slice none 0 0) HK.out (.int .i64 4) (.int .u64 0) (.int .u64 0) (.int .u64 0) (.int .u64 0) (.int .i64 0) (.int .i64 0) (.slice A2 L.length c2)
        rw [← hyC] at hb8
        have HB8 := Lib.hid hb8
        have HYC := Lib.hid hyC
        have HY := Lib.hid hy
        clear hb8 hyC hy
        go_wp2
        refine bodyPost_ret (results_cell_row rfl _ _ W.heap.size 97 (nodeC y) (0, 0) _ rfl HB8.out Tryz.underlying97 rfl (by kernel_rfl)) rfl ?_
        refine ⟨y, rfl, ?_, ?_, below_eight HB.out (Nat.le_refl _) _ _ _ _ _ _ _ _⟩
        · rw [← HY.out]
          show NodeT.mk 4 0 0 0 (NodeX.ts L) = _
          rw [NodeX.ts_map, HT.out]
          exact HZ.out.symm
        · rw [← HY.out]
          refine GoodN.mk (by decide) (fun e => HN2.out e) ⟨hc2, hcm⟩ (HROW.out.frame (by simp) (fun h0 a ha hlt => far_eight (by
            obtain ⟨g, cp, he, hge, _⟩ := HLT.out h0
            injection he with he _ _
            rw [he] at ha
            injection ha with ha
            subst ha
            show g ≠ W.heap.size
            omega) _ _ _ _ _ _ _ _)) (fun h0 a ha => by
            obtain ⟨g, cp, he, hge, _⟩ := HLT.out h0
            injection he with he _ _
            rw [he] at ha
            injection ha with ha
            subst ha
            right
            show W.heap.size ≤ g
            omega) (fun z hz => (good_eight (HIN.out z hz) HB.out _ _ _ _ _ _ _ _).weaken (fun q hq _ => .inl hq))
set_option maxRecDepth 100000 in
set_option maxHeartbeats 3200000 in
theorem altOf_any (A : Option Addr) (n c : Nat) (l : List NodeX) (P : Nat → Prop) (W : World) (hR : RowR nodeV 8 W A n l) (hG : ∀ x, x ∈ l → GoodN W P x) (hn : n ≤ 100000) (hk : (altX l).length ≤ 100000) (hC : ∀ x, x ∈ l → x.kind = 5 → 0 < x.n) :
    Calls Tryz.prog 97 #[.slice A n c] W fun e w' => ∃ y, e = .returned (.agg (nodeC y)) ∧ y.t = altT (l.map NodeX.t) ∧ GoodN w' (fun q => P q ∨ W.heap.size ≤ q) y ∧ Below W.heap.size W w' := by
  obtain ⟨i0, hi, hz0, hz1, hz2⟩ := info_parts infoNode
  have HR := Lib.hid hR
  have HG := Lib.hid hG
  have HC := Lib.hid hC
  have hl := hR.1
  have HPRE := Lib.hid (altX_pre l)
  have HK0 := Lib.hid (nil_new W)
  clear hR hG hC
  go_enter Tryz.func97, Tryz.ntmps97
  go_wp2
  go_loopw [3, 8] (fun v iv wr => ∃ (j : Nat), j ≤ n ∧ iv = .int .i64 (j : Nat) ∧ Hid (OwnR nodeV 8 wr (W.heap.size + 1) 97 v (altX (l.take j))) ∧ Hid (Below W.heap.size W wr) ∧ Hid (W.heap.size + 1 ≤ wr.heap.size) ∧ Hid (Blk wr W.heap.size 97 (nodeC nilX))) (fun _ iv _ => n - (intOf iv).toNat)
  case atStart =>
    exact ⟨0, Nat.zero_le _, rfl, Lib.hid (by rw [List.take_zero]; exact OwnR.nil _ _ _), Lib.hid ((Below.refl _ _).alloc (Nat.le_refl _) _), Lib.hid (by rw [World.size_alloc]; exact Nat.le_refl _), HK0⟩
  case round =>
    obtain ⟨j, hj, rfl, HO, HB, HS, HK⟩ := hrel
    have hS := HS.out
    by_cases h : j < n
    · have hI : (j : Int) < n := by omega
      obtain ⟨b, off, rfl, hlt, hc⟩ := HR.out.2 (by omega)
      obtain ⟨x, hp⟩ : ∃ x, l[j]? = some x := ⟨l[j], List.getElem?_eq_getElem (by omega)⟩
      obtain ⟨xk, xs, xm, xx, xA, xn, xc, xl⟩ := x
      have hxl := List.mem_of_getElem? hp
      have c0 := (HB.out.cell (p := ⟨b, off + j * 8 + 0, none⟩) hlt).trans (hc j 0 _ hp (by decide))
      have c1 := (HB.out.cell (p := ⟨b, off + j * 8 + 1, none⟩) hlt).trans (hc j 1 _ hp (by decide))
      have c2 := (HB.out.cell (p := ⟨b, off + j * 8 + 2, none⟩) hlt).trans (hc j 2 _ hp (by decide))
      have c3 := (HB.out.cell (p := ⟨b, off + j * 8 + 3, none⟩) hlt).trans (hc j 3 _ hp (by decide))
      have c4 := (HB.out.cell (p := ⟨b, off + j * 8 + 4, none⟩) hlt).trans (hc j 4 _ hp (by decide))
      have c5 := (HB.out.cell (p := ⟨b, off + j * 8 + 5, none⟩) hlt).trans (hc j 5 _ hp (by decide))
      have c6 := (HB.out.cell (p := ⟨b, off + j * 8 + 6, none⟩) hlt).trans (hc j 6 _ hp (by decide))
      have c7 := (HB.out.cell (p := ⟨b, off + j * 8 + 7, none⟩) hlt).trans (hc j 7 _ hp (by decide))
      rw [Nat.add_zero] at c0
      simp only [nodeV, NodeX.kind, NodeX.set, NodeX.mn, NodeX.mx, NodeX.A, NodeX.n, NodeX.c, NodeX.kids, List.getElem?_cons_zero, List.getElem?_cons_succ] at c0 c1 c2 c3 c4 c5 c6 c7
      have HNX := Lib.hid (altX_next hp)
      have hpre := HPRE.out (j + 1)
      rw [HNX.out] at hpre
      have hgx := HG.out _ hxl
      have HGX := Lib.hid hgx
      have hcx := HC.out _ hxl
      have K1 := Blk.new wr 97 (nodeC (NodeX.mk xk xs xm xx xA xn xc xl))
      obtain ⟨⟨a0, a1, a2, a3, a4, a5, a6, a7⟩, _⟩ := node_cells K1
      simp only [NodeX.kind, NodeX.set, NodeX.mn, NodeX.mx, NodeX.A, NodeX.n, NodeX.c, NodeX.kids] at a0 a1 a2 a3 a4 a5 a6 a7 hcx
      clear K1 hc hp hgx HPRE
      clear HR HG HC
      by_cases hkd : xk = 5
      · subst hkd
        have e1 : altX [(NodeX.mk 5 xs xm xx xA xn xc xl)] = xl := by simp [altX, NodeX.kind, NodeX.kids]
        have hx0 := hcx rfl
        rw [e1] at hpre HNX
        rw [List.length_append] at hpre
        have hrow := HGX.out.row
        simp only [NodeX.A, NodeX.n, NodeX.kids] at hrow hx0
        obtain ⟨b2, off2, rfl, hlt2, _⟩ := hrow.2 hx0
        have hrl := hrow.1
        have hx2 : (wr.alloc (.cells (nodeC (NodeX.mk 5 xs xm xx (some ⟨b2, off2, none⟩) xn xc xl)) 97)).heap.size = wr.heap.size + 1 := by simp
        have HRW := Lib.hid (hrow.frame (w' := wr.alloc (.cells (nodeC (NodeX.mk 5 xs xm xx (some ⟨b2, off2, none⟩) xn xc xl)) 97)) (by rw [hx2]; have := HB.out.size; omega) (fun _ a _ hlt3 => (HB.out.alloc (by omega) _).block a.block hlt3))
        have HLN := Lib.hid (rowV_len nodeV_len xl)
        clear hrow hx2
        go_wp2_with (at_builtin; refine wpList_append_own _ rfl (.tmp 15) (.tmp 17) 95 rfl (W.heap.size + 1) 97 i0 (.agg #[.int .i64 0, .int .u64 0, .int .u64 0, .int .u64 0, .int .u64 0, .int .i64 0, .int .i64 0, .slice none 0 0]) 8 80 Tryz.underlying95 hi hz0 hz1 hz2 rfl (by decide) _ _ _ rfl (OwnR.alloc HO.out _) ⟨b2, off2, none⟩ xn xc (rowV nodeV xl) rfl (by rw [HLN.out, hrl]) HRW.out.news (rowV_one nodeV_one _) (by unfold maxLen; omega) (by omega) (by simp; omega) ?_)
        intro v' w4 hown' hgrow _
        have hrw : ∀ r, Value.ownBlock _ = some r → W.heap.size + 1 ≤ r ∧ r < wr.heap.size := fun r hr => World.ownsRow.lt HO.out r hr
        have HB4 := Lib.hid ((HB.out.alloc (by omega) _).grown hgrow (by simp; omega) (fun r hr => Nat.le_of_succ_le (hrw r hr).1))
        have HO4 := Lib.hid (show OwnR nodeV 8 w4 (W.heap.size + 1) 97 v' (altX (l.take (j + 1))) by rw [HNX.out]; exact OwnR.snocs (by rw [hrl]; exact hown'))
        have HK4 := Lib.hid ((HK.out.alloc (.cells (nodeC (NodeX.mk 5 xs xm xx (some ⟨b2, off2, none⟩) xn xc xl)) 97)).stays hgrow (fun e => by have := (hrw _ e).1; omega))
        have HS4 := Lib.hid (show W.heap.size + 1 ≤ w4.heap.size by have := hgrow.size; rw [World.size_alloc] at this; omega)
        clear hown' hgrow hrw
        go_wp2
        go_round
        case rel => exact ⟨j + 1, by omega, by go_num, HO4, HB4, HS4, HK4⟩
        case measure => simp [intOf]; omega
      · have g4 : (xk == 5) = false := by rw [beq_eq_false_iff_ne]; exact hkd
        have e1 : altX [(NodeX.mk xk xs xm xx xA xn xc xl)] = [(NodeX.mk xk xs xm xx xA xn xc xl)] := by simp [altX, NodeX.kind, NodeX.kids, hkd]
        rw [e1] at hpre HNX
        rw [List.length_append] at hpre
        simp only [List.length_cons, List.length_nil] at hpre
        go_wp2_with (at_builtin; refine wpList_append_own _ rfl (.tmp 19) (.tmp 21) 95 rfl (W.heap.size + 1) 97 i0 (.agg #[.int .i64 0, .int .u64 0, .int .u64 0, .int .u64 0, .int .u64 0, .int .i64 0, .int .i64 0, .slice none 0 0]) 8 80 Tryz.underlying95 hi hz0 hz1 hz2 rfl (by decide) _ _ _ rfl (OwnR.alloc (OwnR.alloc HO.out _) _) ⟨wr.heap.size + 1, 0, none⟩ 1 1 (nodeV (NodeX.mk xk xs xm xx xA xn xc xl)) rfl rfl (new_cells_at _ _ _ _ (by simp)) (nodeV_one _) (by unfold maxLen; omega) (by omega) (by simp; omega) ?_)
        intro v' w4 hown' hgrow _
        have hrw : ∀ r, Value.ownBlock _ = some r → W.heap.size + 1 ≤ r ∧ r < wr.heap.size := fun r hr => World.ownsRow.lt HO.out r hr
        have HB4 := Lib.hid (((HB.out.alloc (by omega) _).alloc (by simp; omega) _).grown hgrow (by simp; omega) (fun r hr => Nat.le_of_succ_le (hrw r hr).1))
        have HO4 := Lib.hid (show OwnR nodeV 8 w4 (W.heap.size + 1) 97 v' (altX (l.take (j + 1))) by rw [HNX.out]; exact OwnR.snoc hown')
        have HK4 := Lib.hid (((HK.out.alloc (.cells (nodeC (NodeX.mk xk xs xm xx xA xn xc xl)) 97)).alloc (.cells (nodeV (NodeX.mk xk xs xm xx xA xn xc xl)).toArray 97)).stays hgrow (fun e => by have := (hrw _ e).1; omega))
        have HS4 := Lib.hid (show W.heap.size + 1 ≤ w4.heap.size by have := hgrow.size; rw [World.size_alloc, World.size_alloc] at this; omega)
        clear hown' hgrow hrw
        go_wp2
        go_round
        case rel => exact ⟨j + 1, by omega, by go_num, HO4, HB4, HS4, HK4⟩
        case measure => simp [intOf]; omega
    · obtain rfl : j = n := by omega
      have hI : ¬ (j : Int) < (j : Int) := by omega
      have ho := HO.out
      rw [List.take_of_length_le (by omega)] at ho
      have HT := Lib.hid (altX_t l)
      have HIN := Lib.hid (altX_in HG.out)
      obtain ⟨L, hL⟩ : ∃ L, altX l = L := ⟨_, rfl⟩
      rw [hL] at ho HT hk HIN
      obtain ⟨A2, c2, rfl, hc2, hn2, hrow⟩ := OwnR.open nodeV_len ho
      have hcm := hk
      have HROW := Lib.hid hrow
      have HLT := Lib.hid (fun (h0 : 0 < L.length) => OwnR.at_ nodeV_len ho h0)
      have HN2 := Lib.hid hn2
      obtain ⟨⟨d0, d1, d2, d3, d4, d5, d6, d7⟩, f0, f1, f2, f3, f4, f5, f6, f7⟩ := node_cells HK.out
      clear hL ho hrow HR HG HC HPRE hn2
      obtain ⟨y, hy⟩ : ∃ y, NodeX.mk 5 0 0 0 A2 L.length c2 L = y := ⟨_, rfl⟩
      have hyC : nodeC y = #[.int .i64 5, .int .u64 0, .int .u64 0, .int .u64 0, .int .u64 0, .int .i64 0, .int .i64 0, .slice A2 L.length c2] := by rw [← hy]; exact (mkX_c 5 0 0 A2 L.length c2 L).symm
      have hb8 := set8 (y0 := .int .i64 0) (y1 := .int .u64 (word 0 0 : Nat)) (y2 := .int .u64 (word 0 1 : Nat)) (y3 := .int .u64 (word 0 2 : Nat)) (y4 := .int .u64 (word 0 3 : Nat)) (y5 := .int .i64 0) (y6 := .int .i64 0) (y7 := .slice none 0 0) HK.out (.int .i64 5) (.int .u64 0) (.int .u64 0) (.int .u64 0) (.int .u64 0) (.int .i64 0) (.int .i64 0) (.slice A2 L.length c2)
      rw [← hyC] at hb8
      have HB8 := Lib.hid hb8
      have HYC := Lib.hid hyC
      have HY := Lib.hid hy
      clear hb8 hyC hy
      go_wp2
      refine bodyPost_ret (results_cell_row rfl _ _ W.heap.size 97 (nodeC y) (0, 0) _ rfl HB8.out Tryz.underlying97 rfl (by kernel_rfl)) rfl ?_
      refine ⟨y, rfl, ?_, ?_, below_eight HB.out (Nat.le_refl _) _ _ _ _ _ _ _ _⟩
      · rw [← HY.out]
        show NodeT.mk 5 0 0 0 (NodeX.ts L) = _
        rw [NodeX.ts_map, HT.out]
        rfl
      · rw [← HY.out]
        refine GoodN.mk (by decide) (fun e => HN2.out e) ⟨hc2, hcm⟩ (HROW.out.frame (by simp) (fun h0 a ha hlt => far_eight (by
          obtain ⟨g, cp, he, hge, _⟩ := HLT.out h0
          injection he with he _ _
          rw [he] at ha
          injection ha with ha
          subst ha
          show g ≠ W.heap.size
          omega) _ _ _ _ _ _ _ _)) (fun h0 a ha => by
          obtain ⟨g, cp, he, hge, _⟩ := HLT.out h0
          injection he with he _ _
          rw [he] at ha
          injection ha with ha
          subst ha
          right
          show W.heap.size ≤ g
          omega) (fun z hz => (good_eight (HIN.out z hz) HB.out _ _ _ _ _ _ _ _).weaken (fun q hq _ => .inl hq))
end Go.Proofs.YtbkpoimaienhpaaGreatDoor
