/- What is left of a list stands in a merge's heap: the walk of pushRest; and what the heap keeps. -/
import Derived.Test.YtilcanblgdmecaaMergeMath
namespace Go.Proofs.Ytilcanblgdmecaa
open Go.RowKit
set_option linter.unusedVariables false
set_option linter.unusedSimpArgs false
variable {P : MP}

def LsX.V (x : LsX) : List Value := [.slice x.A x.n x.c]
theorem lsV_len (x : LsX) : x.V.length = 1 := rfl
theorem lsV_one (x : LsX) : ∀ v ∈ x.V, v.oneCell' = true := by
  intro v hv
  simp only [LsX.V, List.mem_cons, List.mem_nil_iff, or_false] at hv
  subst hv
  rfl
def allB (ls : List LsX) : List EntB := ls.flatMap fun x => x.l.map EntX.b
/-- what is in the heap when the rest x is pushed -/
def restM (P : MP) (x : LsX) (came : Nat) (M : List (KeyP LsX)) : List (KeyP LsX) := if x.n = 0 then M else insP (keyM P) ⟨x, came⟩ M
def sortedLs (asc : Bool) (ls : List LsX) : Bool := ls.all fun x => sortedE asc x.l
def totL (ls : List LsX) : Nat := (ls.map LsX.n).sum
def mergeB (asc : Bool) (most : Int) (ls : List LsX) : List EntB := if sortedLs asc ls = true then (uniqB asc (allB ls)).take most.toNat else []
/-- a slice of lists of entries that can be read -/
structure ListsP (B : Nat) (w : World) (A : Option Addr) (n : Nat) (ls : List LsX) : Prop where
  row : RowR LsX.V 1 w A n ls
  good : ∀ x ∈ ls, Ents B w x.A x.n x.l ∧ x.n ≤ x.c ∧ x.c ≤ maxLen
theorem ListsP.below {B : Nat} {w w' : World} {A : Option Addr} {n : Nat} {ls : List LsX} (h : ListsP B w A n ls) (hb : Below w.heap.size w w') : ListsP B w' A n ls :=
  ⟨h.row.below hb, fun x hx => ⟨(h.good x hx).1.below hb, (h.good x hx).2⟩⟩
theorem ListsP.at_ {B : Nat} {w : World} {A : Option Addr} {n : Nat} {ls : List LsX} (h : ListsP B w A n ls) (hn : 0 < n) : ∃ g o, A = some ⟨g, o, none⟩ ∧ g < w.heap.size ∧ ∀ j, j < n →
    w.cell? ⟨g, o + j, none⟩ = some (.slice (ls.getD j default).A (ls.getD j default).n (ls.getD j default).c) ∧ ls.getD j default ∈ ls ∧ ls[j]? = some (ls.getD j default) := by
  obtain ⟨b, off, e, hlt, hc⟩ := h.row.2 hn
  refine ⟨b, off, e, hlt, fun j hj => ?_⟩
  have hg : ls[j]? = some (ls.getD j default) := by
    have := h.row.1
    rw [List.getD_eq_getElem?_getD, List.getElem?_eq_getElem (by omega)]
    rfl
  have h1 := hc j 0 _ hg (by decide)
  rw [Nat.mul_one, Nat.add_zero] at h1
  exact ⟨h1, List.mem_of_getElem? hg, hg⟩
theorem HeapO.base {w : World} {b : Nat} {v : Value} {M : List (KeyP LsX)} {came : Nat} (h : HeapO P w b v M came) : Below P.W0.heap.size P.W0 w := by
  obtain ⟨L, h1, _⟩ := h
  exact h1.base.1
theorem HeapO.grown {w w' : World} {b : Nat} {v : Value} {M : List (KeyP LsX)} {came : Nat} {r : Option Nat} (h : HeapO P w b v M came) (hg : w.grownBy w' r) (hr : ∀ k, r = some k → k ≠ b ∧ v.ownBlock ≠ some k ∧ P.W0.heap.size ≤ k) : HeapO P w' b v M came := by
  obtain ⟨L, h1, h2, h3, h4⟩ := h
  refine ⟨L, ⟨(hg.block b h1.blk.lt (fun e => (hr b e.symm).1 rfl)).trans h1.blk, ?_, h1.good, h1.old, h1.few, h1.less, ?_, h1.base.2⟩, h2, h3, h4⟩
  · refine ⟨h1.row.1, ?_⟩
    rcases h1.row.2 with h0 | ⟨g, cap, cur, hv, hbg, hh, x⟩
    · exact .inl h0
    · exact .inr ⟨g, cap, cur, hv, hbg, (hg.block g (lt_of_block hh) (fun e => (hr g e.symm).2.1 (by rw [hv]; rfl))).trans hh, x⟩
  · have hb := h1.base.1
    have hs := hb.size
    exact ⟨hg.os.trans hb.os, hg.tape.trans hb.tape, hg.output.trans hb.output, Nat.le_trans hs hg.size, fun k hk => (hg.block k (by omega) (fun e => by have := (hr k e.symm).2.2; omega)).trans (hb.block k hk)⟩
theorem OwnR.keptH {α : Type} {V : α → List Value} {s : Nat} {w w' : World} {B e b : Nat} {v v' lv : Value} {l : List α} (h : OwnR V s w B e lv l) (hg : HG b w v w' v') (hb : b < B) (ha : ApartV v lv) : OwnR V s w' B e lv l := by
  refine ⟨h.1, ?_⟩
  rcases h.2 with h0 | ⟨g, cap, cur, rfl, hbg, hh, x⟩
  · exact .inl h0
  · exact .inr ⟨g, cap, cur, rfl, hbg, (hg.block g (lt_of_block hh) (by omega) (fun e => ha g e.symm rfl)).trans hh, x⟩
theorem ApartV.keptR {α : Type} {V : α → List Value} {s : Nat} {w w' : World} {B e b : Nat} {v v' lv : Value} {l : List α} (ha : ApartV v lv) (h : OwnR V s w B e lv l) (hg : HG b w v w' v') : ApartV v' lv := by
  intro i hi hl
  rcases hg.own i hi with h1 | h1
  · exact ha i h1 hl
  · have := (World.ownsRow.lt h i hl).2
    omega

set_option maxRecDepth 100000 in
set_option maxHeartbeats 800000 in
theorem pushRest_any (b : Nat) (v : Value) (M : List (KeyP LsX)) (came : Nat) (x : LsX) (hx : x.n = 0 ∨ GoodL P x) (hc : came < 1000000) (w : World) (h : HeapO P w b v M came) :
    Calls Try.prog 28 #[.pointer (some ⟨b, 0, none⟩), .slice x.A x.n x.c] w fun e w' => e = .returned (.tuple #[]) ∧ ∃ v' M' came', HeapO P w' b v' M' came' ∧ came' ≤ came + 1 ∧ Hid (M' = restM P x came M) ∧ HG b w v w' v' := by
  by_cases h0 : x.n = 0
  · obtain ⟨xA, xn, xc, xl⟩ := x
    dsimp only at h0 ⊢
    subst h0
    have H := Lib.hid (show ∃ v' M' came', HeapO P w b v' M' came' ∧ came' ≤ came + 1 ∧ Hid (M' = restM P ⟨xA, 0, xc, xl⟩ came M) ∧ HG b w v w v' from ⟨v, M, came, h, by omega, Lib.hid (by unfold restM; rw [if_pos rfl]), HG.refl _ _ _⟩)
    clear h hx
    go_enter Try.func28, Try.ntmps28
    go_wp2
    refine bodyPost_end (results_none rfl _ _ _) rfl ?_
    exact ⟨rfl, H.out⟩
  · have hg := hx.resolve_left h0
    have hlt := h.lt
    have how := h.own
    have hpos : (0 : Int) < (x.n : Int) := by omega
    have hpos2 : 0 < x.n := by omega
    obtain ⟨g, hgg⟩ : ∃ g, w.heap.size = g := ⟨_, rfl⟩
    obtain ⟨w1, hw1⟩ : ∃ z, w.alloc (.cells #[.slice x.A x.n x.c] 34) = z := ⟨_, rfl⟩
    have B1 : Blk w1 g 34 #[.slice x.A x.n x.c] := by rw [← hw1, ← hgg]; exact Blk.new _ _ _
    have hb1 : Below w.heap.size w w1 := by rw [← hw1]; exact (Below.refl _ _).alloc (Nat.le_refl _) _
    have HX : IntsA P b v w1 (some ⟨g, 0, none⟩) [x] := by
      refine ⟨fun y hy => by rw [List.mem_singleton.1 hy]; exact hg, fun _ => ⟨g, 0, rfl, B1.lt, by omega, fun e => by have := (how g e.symm).2; omega, fun j hj => ?_⟩⟩
      obtain rfl : j = 0 := by rw [List.length_singleton] at hj; omega
      exact (B1.cell 0).trans rfl
    have PU := Lib.hid (pushO_any (P := P) b v M came (some ⟨g, 0, none⟩) 1 1 [x] rfl (by omega) w1 (h.below hb1) HX)
    have HG1 := Lib.hid (HG.of_below (b := b) (v := v) hb1)
    have H0 := Lib.hid h0
    obtain ⟨xA, xn, xc, xl⟩ := x
    dsimp only at *
    clear h hx hg h0 HX hlt how B1 hb1
    go_enter Try.func28, Try.ntmps28
    go_wp2_with fail
    clear hw1 hgg
    refine PU.out.mono ?_
    rintro e w2 ⟨rfl, v2, h2, hg2⟩
    have H2 := Lib.hid (show ∃ v' M' came', HeapO P w2 b v' M' came' ∧ came' ≤ came + 1 ∧ Hid (M' = restM P ⟨xA, xn, xc, xl⟩ came M) ∧ HG b w v w2 v' from ⟨v2, _, _, h2, Nat.le_refl _, Lib.hid (by unfold restM; rw [if_neg H0.out]; rfl), HG1.out.trans hg2⟩)
    clear h2 hg2 PU
    go_wp2
    refine bodyPost_end (results_none rfl _ _ _) rfl ?_
    exact ⟨rfl, H2.out⟩
end Go.Proofs.Ytilcanblgdmecaa
