-- shaken
import Derived.Test.YtbkpoimaienhpaaGreatDoorRexClass2
namespace Go.Proofs.YtbkpoimaienhpaaGreatDoor
open Go.RowKit
set_option linter.unusedVariables false
set_option linter.unusedSimpArgs false
inductive NodeX where
  | mk (kind : Int) (set : Nat) (mn mx : Int) (A : Option Addr) (n c : Nat) (kids : List NodeX)
namespace NodeX
def kind : NodeX → Int | mk k _ _ _ _ _ _ _ => k
def set : NodeX → Nat | mk _ s _ _ _ _ _ _ => s
def mn : NodeX → Int | mk _ _ m _ _ _ _ _ => m
def mx : NodeX → Int | mk _ _ _ m _ _ _ _ => m
def A : NodeX → Option Addr | mk _ _ _ _ a _ _ _ => a
def n : NodeX → Nat | mk _ _ _ _ _ n _ _ => n
def c : NodeX → Nat | mk _ _ _ _ _ _ c _ => c
def kids : NodeX → List NodeX | mk _ _ _ _ _ _ _ l => l
mutual
def t : NodeX → NodeT | mk k s mn mx _ _ _ l => .mk k s mn mx (ts l)
def ts : List NodeX → List NodeT
  | [] => []
  | x :: l => t x :: ts l
end
theorem ts_map (l : List NodeX) : ts l = l.map t := by
  induction l with
  | nil => rfl
  | cons x l ih => rw [ts, ih, List.map_cons]
theorem t_kind (x : NodeX) : x.t.kind = x.kind := by cases x; rfl
theorem t_kids (x : NodeX) : x.t.kids = x.kids.map t := by cases x; rw [t]; exact ts_map _
end NodeX
def nodeV (x : NodeX) : List Value := [.int .i64 x.kind, .int .u64 (word x.set 0 : Nat), .int .u64 (word x.set 1 : Nat), .int .u64 (word x.set 2 : Nat), .int .u64 (word x.set 3 : Nat), .int .i64 x.mn, .int .i64 x.mx, .slice x.A x.n x.c]
theorem nodeV_len (x : NodeX) : (nodeV x).length = 8 := rfl
theorem nodeV_one (x : NodeX) : ∀ u ∈ nodeV x, u.oneCell' = true := by
  intro u hu
  simp [nodeV] at hu
  rcases hu with rfl | rfl | rfl | rfl | rfl | rfl | rfl | rfl <;> rfl
def nodeC (x : NodeX) : Array Value := (nodeV x).toArray
def nilX : NodeX := .mk 0 0 0 0 none 0 0 []
inductive GoodN (w : World) (P : Nat → Prop) : NodeX → Prop where
  | mk {k : Int} {s : Nat} {mn mx : Int} {A : Option Addr} {n c : Nat} {l : List NodeX} (hs : s < 2 ^ 256) (hA : A = none → n = 0 ∧ c = 0) (hc : n ≤ c ∧ n ≤ 100000) (hr : RowR nodeV 8 w A n l) (hP : 0 < n → ∀ a, A = some a → P a.block) (hk : ∀ x, x ∈ l → GoodN w P x) : GoodN w P (.mk k s mn mx A n c l)
theorem GoodN.nil (w : World) (P : Nat → Prop) : GoodN w P nilX := .mk (by decide) (fun _ => ⟨rfl, rfl⟩) ⟨Nat.le_refl _, Nat.zero_le _⟩ (RowR.none w) (fun h => absurd h (by decide)) (fun _ h => by cases h)
theorem RowR.frame {α : Type} {V : α → List Value} {s : Nat} {w w' : World} {A : Option Addr} {n : Nat} {l : List α} (h : RowR V s w A n l) (hs : w.heap.size ≤ w'.heap.size) (hb : 0 < n → ∀ a, A = some a → a.block < w.heap.size → w'.heap[a.block]? = w.heap[a.block]?) : RowR V s w' A n l :=
  ⟨h.1, fun hn => by
    obtain ⟨b, off, e, hlt, hc⟩ := h.2 hn
    refine ⟨b, off, e, Nat.lt_of_lt_of_le hlt hs, fun j i a hj hi => ?_⟩
    rw [← hc j i a hj hi]
    have hq : w'.heap[b]? = w.heap[b]? := hb hn ⟨b, off, Option.none⟩ e hlt
    exact World.cell?_of_block (w := w) (a := ⟨b, off + j * s + i, Option.none⟩) hq⟩
theorem GoodN.frame {w w' : World} {P : Nat → Prop} (hs : w.heap.size ≤ w'.heap.size) (hb : ∀ g, P g → g < w.heap.size → w'.heap[g]? = w.heap[g]?) {x : NodeX} (h : GoodN w P x) : GoodN w' P x := by
  induction h with
  | mk h1 h2 h3 h4 h5 h6 ih => exact .mk h1 h2 h3 (h4.frame hs (fun hn a e hlt => hb _ (h5 hn a e) hlt)) h5 (fun x hx => ih x hx)
theorem GoodN.weaken {w : World} {P Q : Nat → Prop} (hq : ∀ g, P g → g < w.heap.size → Q g) {x : NodeX} (h : GoodN w P x) : GoodN w Q x := by
  induction h with
  | mk h1 h2 h3 h4 h5 h6 ih => exact .mk h1 h2 h3 h4 (fun hn a e => by
      obtain ⟨b, off, e2, hlt, _⟩ := h4.2 hn
      rw [e] at e2
      injection e2 with e2
      subst e2
      exact hq _ (h5 hn _ e) hlt) (fun x hx => ih x hx)
theorem GoodN.later {w w' : World} {P : Nat → Prop} {x : NodeX} (h : GoodN w P x) (hb : Below w.heap.size w w') : GoodN w' P x := h.frame hb.size (fun g _ hg => hb.block g hg)
theorem GoodN.grown {w w' : World} {P : Nat → Prop} {r : Option Nat} {x : NodeX} (h : GoodN w P x) (hg : w.grownBy w' r) (hp : ∀ g, P g → ¬ some g = r) : GoodN w' P x := h.frame hg.size (fun g hq hlt => hg.block g hlt (hp g hq))
theorem GoodN.alloc {w : World} {P : Nat → Prop} {x : NodeX} (h : GoodN w P x) (o : Obj) : GoodN (w.alloc o) P x := h.later ((Below.refl _ _).alloc (Nat.le_refl _) _)
theorem GoodN.kid {w : World} {P : Nat → Prop} {x y : NodeX} (h : GoodN w P x) (hy : y ∈ x.kids) : GoodN w P y := by
  cases h with
  | mk _ _ _ _ _ h6 => exact h6 y hy
theorem GoodN.row {w : World} {P : Nat → Prop} {x : NodeX} (h : GoodN w P x) : RowR nodeV 8 w x.A x.n x.kids := by
  cases h with
  | mk _ _ _ h4 _ _ => exact h4
theorem GoodN.set_lt {w : World} {P : Nat → Prop} {x : NodeX} (h : GoodN w P x) : x.set < 2 ^ 256 := by
  cases h with
  | mk h1 _ _ _ _ _ => exact h1
theorem GoodN.capL {w : World} {P : Nat → Prop} {x : NodeX} (h : GoodN w P x) : (x.A = none → x.n = 0 ∧ x.c = 0) ∧ x.n ≤ x.c := by
  cases h with
  | mk _ h2 h3 _ _ _ => exact ⟨h2, h3.1⟩
theorem GoodN.lenM {w : World} {P : Nat → Prop} {x : NodeX} (h : GoodN w P x) : x.n ≤ 100000 := by
  cases h with
  | mk _ _ h3 _ _ _ => exact h3.2
theorem node_cells {w : World} {g : Nat} {t : TypeId} {x : NodeX} (h : Blk w g t (nodeC x)) :
    (w.cell? ⟨g, 0, none⟩ = some (.int .i64 x.kind) ∧ w.cell? ⟨g, 1, none⟩ = some (.int .u64 (word x.set 0 : Nat)) ∧ w.cell? ⟨g, 2, none⟩ = some (.int .u64 (word x.set 1 : Nat)) ∧ w.cell? ⟨g, 3, none⟩ = some (.int .u64 (word x.set 2 : Nat)) ∧ w.cell? ⟨g, 4, none⟩ = some (.int .u64 (word x.set 3 : Nat)) ∧ w.cell? ⟨g, 5, none⟩ = some (.int .i64 x.mn) ∧ w.cell? ⟨g, 6, none⟩ = some (.int .i64 x.mx) ∧ w.cell? ⟨g, 7, none⟩ = some (.slice x.A x.n x.c)) ∧
    (w.frozen? ⟨g, 0, none⟩ = false ∧ w.frozen? ⟨g, 1, none⟩ = false ∧ w.frozen? ⟨g, 2, none⟩ = false ∧ w.frozen? ⟨g, 3, none⟩ = false ∧ w.frozen? ⟨g, 4, none⟩ = false ∧ w.frozen? ⟨g, 5, none⟩ = false ∧ w.frozen? ⟨g, 6, none⟩ = false ∧ w.frozen? ⟨g, 7, none⟩ = false) :=
  ⟨⟨h.cell 0, h.cell 1, h.cell 2, h.cell 3, h.cell 4, h.cell 5, h.cell 6, h.cell 7⟩, h.frozen 0, h.frozen 1, h.frozen 2, h.frozen 3, h.frozen 4, h.frozen 5, h.frozen 6, h.frozen 7⟩
def put8 (w : World) (g : Nat) (x : NodeX) : World := (((((((w.setCell ⟨g, 0, none⟩ (.int .i64 x.kind)).setCell ⟨g, 1, none⟩ (.int .u64 (word x.set 0 : Nat))).setCell ⟨g, 2, none⟩ (.int .u64 (word x.set 1 : Nat))).setCell ⟨g, 3, none⟩ (.int .u64 (word x.set 2 : Nat))).setCell ⟨g, 4, none⟩ (.int .u64 (word x.set 3 : Nat))).setCell ⟨g, 5, none⟩ (.int .i64 x.mn)).setCell ⟨g, 6, none⟩ (.int .i64 x.mx)).setCell ⟨g, 7, none⟩ (.slice x.A x.n x.c)
theorem set8 {w : World} {g : Nat} {t : TypeId} {y0 y1 y2 y3 y4 y5 y6 y7 : Value} (h : Blk w g t #[y0, y1, y2, y3, y4, y5, y6, y7]) (x0 x1 x2 x3 x4 x5 x6 x7 : Value) :
    Blk ((((((((w.setCell ⟨g, 0, none⟩ x0).setCell ⟨g, 1, none⟩ x1).setCell ⟨g, 2, none⟩ x2).setCell ⟨g, 3, none⟩ x3).setCell ⟨g, 4, none⟩ x4).setCell ⟨g, 5, none⟩ x5).setCell ⟨g, 6, none⟩ x6).setCell ⟨g, 7, none⟩ x7) g t #[x0, x1, x2, x3, x4, x5, x6, x7] := by
    have h0 : Blk (w.setCell ⟨g, 0, none⟩ x0) g t #[x0, y1, y2, y3, y4, y5, y6, y7] := h.set_ 0 x0
    have h1 : Blk ((w.setCell ⟨g, 0, none⟩ x0).setCell ⟨g, 1, none⟩ x1) g t #[x0, x1, y2, y3, y4, y5, y6, y7] := h0.set_ 1 x1
    have h2 : Blk (((w.setCell ⟨g, 0, none⟩ x0).setCell ⟨g, 1, none⟩ x1).setCell ⟨g, 2, none⟩ x2) g t #[x0, x1, x2, y3, y4, y5, y6, y7] := h1.set_ 2 x2
    have h3 : Blk ((((w.setCell ⟨g, 0, none⟩ x0).setCell ⟨g, 1, none⟩ x1).setCell ⟨g, 2, none⟩ x2).setCell ⟨g, 3, none⟩ x3) g t #[x0, x1, x2, x3, y4, y5, y6, y7] := h2.set_ 3 x3
    have h4 : Blk (((((w.setCell ⟨g, 0, none⟩ x0).setCell ⟨g, 1, none⟩ x1).setCell ⟨g, 2, none⟩ x2).setCell ⟨g, 3, none⟩ x3).setCell ⟨g, 4, none⟩ x4) g t #[x0, x1, x2, x3, x4, y5, y6, y7] := h3.set_ 4 x4
    have h5 : Blk ((((((w.setCell ⟨g, 0, none⟩ x0).setCell ⟨g, 1, none⟩ x1).setCell ⟨g, 2, none⟩ x2).setCell ⟨g, 3, none⟩ x3).setCell ⟨g, 4, none⟩ x4).setCell ⟨g, 5, none⟩ x5) g t #[x0, x1, x2, x3, x4, x5, y6, y7] := h4.set_ 5 x5
    have h6 : Blk (((((((w.setCell ⟨g, 0, none⟩ x0).setCell ⟨g, 1, none⟩ x1).setCell ⟨g, 2, none⟩ x2).setCell ⟨g, 3, none⟩ x3).setCell ⟨g, 4, none⟩ x4).setCell ⟨g, 5, none⟩ x5).setCell ⟨g, 6, none⟩ x6) g t #[x0, x1, x2, x3, x4, x5, x6, y7] := h5.set_ 6 x6
    have h7 : Blk ((((((((w.setCell ⟨g, 0, none⟩ x0).setCell ⟨g, 1, none⟩ x1).setCell ⟨g, 2, none⟩ x2).setCell ⟨g, 3, none⟩ x3).setCell ⟨g, 4, none⟩ x4).setCell ⟨g, 5, none⟩ x5).setCell ⟨g, 6, none⟩ x6).setCell ⟨g, 7, none⟩ x7) g t #[x0, x1, x2, x3, x4, x5, x6, x7] := h6.set_ 7 x7
    exact h7
theorem put8_blk {w : World} {g : Nat} {t : TypeId} {y : NodeX} (h : Blk w g t (nodeC y)) (x : NodeX) : Blk (put8 w g x) g t (nodeC x) :=
  set8 (y0 := .int .i64 y.kind) (y1 := .int .u64 (word y.set 0 : Nat)) (y2 := .int .u64 (word y.set 1 : Nat)) (y3 := .int .u64 (word y.set 2 : Nat)) (y4 := .int .u64 (word y.set 3 : Nat)) (y5 := .int .i64 y.mn) (y6 := .int .i64 y.mx) (y7 := .slice y.A y.n y.c) h
    (.int .i64 x.kind) (.int .u64 (word x.set 0 : Nat)) (.int .u64 (word x.set 1 : Nat)) (.int .u64 (word x.set 2 : Nat)) (.int .u64 (word x.set 3 : Nat)) (.int .i64 x.mn) (.int .i64 x.mx) (.slice x.A x.n x.c)
theorem nil_new (W : World) : Blk (W.alloc (.cells #[.int .i64 0, .int .u64 0, .int .u64 0, .int .u64 0, .int .u64 0, .int .i64 0, .int .i64 0, .slice none 0 0] 97)) W.heap.size 97 (nodeC nilX) := Blk.new _ _ _
def oneX (S : Nat) : NodeX := .mk 1 S 0 0 none 0 0 []
theorem GoodN.one (w : World) (P : Nat → Prop) {S : Nat} (hS : S < 2 ^ 256) : GoodN w P (oneX S) := .mk hS (fun _ => ⟨rfl, rfl⟩) ⟨Nat.le_refl _, Nat.zero_le _⟩ (RowR.none w) (fun h => absurd h (by decide)) (fun _ h => by cases h)
set_option maxHeartbeats 800000 in
theorem oneOf_any (S : Nat) (W : World) :
    Calls Tryz.prog 142 #[setV S] W fun e w' => e = .returned (.agg (nodeC (oneX S))) ∧ Below W.heap.size W w' := by
  have K1 := (Blk.new W 94 (setC S)).alloc (.cells #[.int .i64 0, .int .u64 0, .int .u64 0, .int .u64 0, .int .u64 0, .int .i64 0, .int .i64 0, .slice none 0 0] 97)
  have HB := Lib.hid (((Below.refl W.heap.size W).alloc (Nat.le_refl _) (.cells (setC S) 94)).alloc (by simp) (.cells (nodeC (oneX S)) 97))
  obtain ⟨⟨a0, a1, a2, a3⟩, _⟩ := set_cells K1
  clear K1
  unfold setV
  go_enter Tryz.func142, Tryz.ntmps142
  go_wp2
  refine bodyPost_ret (results_cell_row rfl _ _ (W.heap.size + 1) 97 (nodeC (oneX S)) (0, 0) _ rfl (new_at _ 97 (nodeC (oneX S)) _ (by simp)) Tryz.underlying97 rfl (by kernel_rfl)) rfl ?_
  exact ⟨rfl, HB.out⟩
theorem nodes_lit (W : World) (l : List NodeX) (g : Nat) (hg : g = W.heap.size) : RowR nodeV 8 (W.alloc (.cells (rowV nodeV l).toArray 97)) (some ⟨g, 0, none⟩) l.length l := by
  subst hg
  refine ⟨rfl, fun _ => ⟨_, 0, rfl, by simp, fun j i a hj hi => ?_⟩⟩
  rw [(Blk.new W 97 (rowV nodeV l).toArray).cell, Nat.zero_add, List.getElem?_toArray, rowV_at (s := 8) nodeV_len l j i a hj hi]
def repX (x : NodeX) (lo hi : Int) (g : Nat) : NodeX := .mk 6 0 lo hi (some ⟨g, 0, none⟩) 1 1 [x]
theorem word_zero (i : Nat) : word 0 i = 0 := by unfold word; simp
theorem mkX_c (k mn mx : Int) (A : Option Addr) (n c : Nat) (l : List NodeX) : (#[.int .i64 k, .int .u64 0, .int .u64 0, .int .u64 0, .int .u64 0, .int .i64 mn, .int .i64 mx, .slice A n c] : Array Value) = nodeC (.mk k 0 mn mx A n c l) := by
  unfold nodeC nodeV
  simp [NodeX.kind, NodeX.set, NodeX.mn, NodeX.mx, NodeX.A, NodeX.n, NodeX.c, word_zero]
theorem GoodN.lit {w : World} {P : Nat → Prop} {x : NodeX} (h : GoodN w P x) (lo hi : Int) (g : Nat) (hg : g = w.heap.size) : GoodN (w.alloc (.cells (nodeC x) 97)) (fun q => P q ∨ w.heap.size ≤ q) (repX x lo hi g) := by
  have hr := nodes_lit w [x] g hg
  have e : (rowV nodeV [x]).toArray = nodeC x := rfl
  rw [e] at hr
  refine .mk (by decide) (fun e => by cases e) ⟨Nat.le_refl _, by decide⟩ hr (fun _ a ha => ?_) (fun y hy => ?_)
  · injection ha with ha
    subst ha
    right
    show w.heap.size ≤ g
    omega
  · rw [List.mem_singleton] at hy
    subst hy
    exact (h.alloc _).weaken (fun g hg _ => .inl hg)
set_option maxRecDepth 100000 in
set_option maxHeartbeats 1600000 in
theorem repeatOf_any (x : NodeX) (lo hi : Int) (P : Nat → Prop) (W : World) (h : GoodN W P x) :
    Calls Tryz.prog 126 #[.agg (nodeC x), .int .i64 lo, .int .i64 hi] W fun e w' => ∃ y, e = .returned (.agg (nodeC y)) ∧ y.t = x.t.rep lo hi ∧ y.n = 1 ∧ GoodN w' (fun q => P q ∨ W.heap.size ≤ q) y ∧ Below W.heap.size W w' := by
  have K1 := (Blk.new W 97 (nodeC x)).alloc (.cells #[.int .i64 0, .int .u64 0, .int .u64 0, .int .u64 0, .int .u64 0, .int .i64 0, .int .i64 0, .slice none 0 0] 97)
  obtain ⟨⟨a0, a1, a2, a3, a4, a5, a6, a7⟩, _⟩ := node_cells K1
  have HN := Lib.hid h
  clear K1 h
  unfold nodeC nodeV
  go_enter Tryz.func126, Tryz.ntmps126
  go_wp2
  have hb : Blk (((W.alloc (.cells (nodeC x) 97)).alloc (.cells #[.int .i64 6, .int .u64 0, .int .u64 0, .int .u64 0, .int .u64 0, .int .i64 lo, .int .i64 hi, .slice (some ⟨W.heap.size + 1 + 1, 0, none⟩) 1 1] 97)).alloc (.cells (nodeC x) 97)) (W.heap.size + 1) 97 #[.int .i64 6, .int .u64 0, .int .u64 0, .int .u64 0, .int .u64 0, .int .i64 lo, .int .i64 hi, .slice (some ⟨W.heap.size + 1 + 1, 0, none⟩) 1 1] := (new_at (W.alloc (.cells (nodeC x) 97)) 97 _ _ (by simp)).alloc _
  refine bodyPost_ret (results_cell_row rfl _ _ (W.heap.size + 1) 97 #[.int .i64 6, .int .u64 0, .int .u64 0, .int .u64 0, .int .u64 0, .int .i64 lo, .int .i64 hi, .slice (some ⟨W.heap.size + 1 + 1, 0, none⟩) 1 1] (0, 0) _ rfl hb Tryz.underlying97 rfl (by kernel_rfl)) rfl ?_
  have hg : GoodN (((W.alloc (.cells (nodeC x) 97)).alloc (.cells #[.int .i64 6, .int .u64 0, .int .u64 0, .int .u64 0, .int .u64 0, .int .i64 lo, .int .i64 hi, .slice (some ⟨W.heap.size + 1 + 1, 0, none⟩) 1 1] 97)).alloc (.cells (nodeC x) 97)) (fun q => P q ∨ W.heap.size ≤ q) (repX x lo hi (W.heap.size + 1 + 1)) :=
    (((HN.out.alloc (.cells (nodeC x) 97)).alloc (.cells #[.int .i64 6, .int .u64 0, .int .u64 0, .int .u64 0, .int .u64 0, .int .i64 lo, .int .i64 hi, .slice (some ⟨W.heap.size + 1 + 1, 0, none⟩) 1 1] 97)).lit lo hi (W.heap.size + 1 + 1) (by simp)).weaken (fun q hq _ => by
      rcases hq with hq | hq
      · exact .inl hq
      · right
        rw [World.size_alloc, World.size_alloc] at hq
        omega)
  have hbel : Below W.heap.size W (((W.alloc (.cells (nodeC x) 97)).alloc (.cells #[.int .i64 6, .int .u64 0, .int .u64 0, .int .u64 0, .int .u64 0, .int .i64 lo, .int .i64 hi, .slice (some ⟨W.heap.size + 1 + 1, 0, none⟩) 1 1] 97)).alloc (.cells (nodeC x) 97)) :=
    (((Below.refl W.heap.size W).alloc (Nat.le_refl _) _).alloc (by simp) _).alloc (by simp; omega) _
  exact ⟨repX x lo hi (W.heap.size + 1 + 1), congrArg (fun c => Ending.returned (.agg c)) (mkX_c 6 lo hi _ 1 1 [x]), rfl, rfl, hg, hbel⟩
end Go.Proofs.YtbkpoimaienhpaaGreatDoor
