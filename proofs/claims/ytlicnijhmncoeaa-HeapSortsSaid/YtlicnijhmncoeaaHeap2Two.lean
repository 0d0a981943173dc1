/- Two heaps of texts beside one another, and the list that they were made of: neither's call touches the other one. -/
import Derived.Test.YtlicnijhmncoeaaHeap2Drain
namespace Go.Proofs.Ytlicnijhmncoeaa.T2
open Go.RowKit
set_option linter.unusedVariables false
set_option linter.unusedSimpArgs false

def twF (zs : List ByteArray) (j : Nat) : TwoX := ⟨zs.getD j .empty, (j : Int)⟩
def twos (zs : List ByteArray) (j : Nat) : List TwoX := (List.range j).map (twF zs)
theorem twos_succ (zs : List ByteArray) (j : Nat) : twos zs (j + 1) = twos zs j ++ [twF zs j] := by
  unfold twos
  rw [List.range_succ, List.map_append]
  rfl
theorem twos_len (zs : List ByteArray) (j : Nat) : (twos zs j).length = j := by simp [twos]
theorem twos_get (zs : List ByteArray) {i j : Nat} (h : i < j) : (twos zs j)[i]? = some (twF zs i) := by
  unfold twos
  rw [List.getElem?_map, List.getElem?_range h]
  rfl
theorem twos_take (zs : List ByteArray) {i j : Nat} (h : i ≤ j) : (twos zs j).take i = twos zs i := by
  unfold twos
  rw [← List.map_take, List.take_range, Nat.min_eq_left h]
theorem twos_good (zs : List ByteArray) (hz : ∀ s ∈ zs, s.size ≤ maxLen) {j : Nat} (hj : j ≤ zs.length) (hm : j ≤ 1000000) : ∀ x ∈ twos zs j, GoodT x := by
  intro x hx
  simp only [twos, List.mem_map, List.mem_range] at hx
  obtain ⟨i, hi, rfl⟩ := hx
  have h1 : zs.getD i .empty ∈ zs := by
    rw [List.getD_eq_getElem?_getD, List.getElem?_eq_getElem (by omega)]
    exact List.getElem_mem _
  have h2 := hz _ h1
  unfold maxLen at h2
  refine ⟨?_, ?_, ?_⟩
  · show (zs.getD i .empty).size ≤ _
    omega
  · show -9223372036854775808 ≤ (i : Int)
    omega
  · show (i : Int) ≤ 9223372036854775807
    omega
/-- all that came, in order -/
def allP (zs : List ByteArray) (j : Nat) : List (KeyP TwoX) := putP tenK 0 (twos zs j) []
theorem allP_succ (zs : List ByteArray) (j : Nat) : putP tenK j [twF zs j] (allP zs j) = allP zs (j + 1) := by
  unfold allP
  rw [twos_succ, putP_app, twos_len, Nat.zero_add]
theorem allP_rest (zs : List ByteArray) {k m : Nat} (h : k ≤ m) : putP tenK k ((twos zs m).drop k) (allP zs k) = allP zs m := by
  unfold allP
  have h1 := putP_app tenK ((twos zs m).take k) ((twos zs m).drop k) 0 []
  rw [List.take_append_drop, twos_take zs h, twos_len, Nat.zero_add] at h1
  exact h1.symm
theorem allP_len (zs : List ByteArray) (m : Nat) : (allP zs m).length = m := by
  unfold allP
  rw [putP_len, twos_len]
  simp
theorem allP_sort (zs : List ByteArray) (m : Nat) : SortP tenK (allP zs m) := putP_sort tenK _ 0 [] List.Pairwise.nil (fun y hy => absurd hy List.not_mem_nil)
theorem allP_at (zs : List ByteArray) (m : Nat) : ∀ y ∈ allP zs m, y.at_ < m ∧ y.it = twF zs y.at_ := by
  intro y hy
  have h1 := (putP_perm tenK (twos zs m) 0 []).mem_iff.1 hy
  rw [List.nil_append] at h1
  obtain ⟨_, h3, h4⟩ := itemsP_at (twos zs m) 0 y h1
  rw [twos_len, Nat.zero_add] at h3
  rw [Nat.sub_zero, twos_get zs h3] at h4
  exact ⟨h3, (Option.some.inj h4).symm⟩
theorem allP_step (zs : List ByteArray) (m j : Nat) (x y : KeyP TwoX) (hx : (allP zs m)[j]? = some x) (hy : (allP zs m)[j + 1]? = some y) : x.it.s.size < y.it.s.size ∨ (x.it.s.size = y.it.s.size ∧ x.at_ < y.at_) := by
  have h1 : j < (allP zs m).length := by
    rcases Nat.lt_or_ge j (allP zs m).length with h | h
    · exact h
    · rw [List.getElem?_eq_none h] at hx
      cases hx
  have h2 : j + 1 < (allP zs m).length := by
    rcases Nat.lt_or_ge (j + 1) (allP zs m).length with h | h
    · exact h
    · rw [List.getElem?_eq_none h] at hy
      cases hy
  have h3 := (List.pairwise_iff_getElem.1 (allP_sort zs m)) j (j + 1) h1 h2 (Nat.lt_succ_self j)
  rw [List.getElem?_eq_getElem h1] at hx
  rw [List.getElem?_eq_getElem h2] at hy
  rw [Option.some.inj hx, Option.some.inj hy, ahd_iff] at h3
  unfold tenK at h3
  omega

/-- where A points lie, below lim, the first m texts, each with which one it is -/
def AllT (w : World) (lim : Nat) (A : Option Addr) (m : Nat) (zs : List ByteArray) : Prop := lim ≤ w.heap.size ∧ (0 < m → ∃ g, A = some ⟨g, 0, none⟩ ∧ g < lim ∧ ∀ j, j < m → w.cell? ⟨g, j * 2, none⟩ = some (.string (zs.getD j .empty)) ∧ w.cell? ⟨g, j * 2 + 1, none⟩ = some (.int .i64 (j : Int)))
theorem AllT.below {w w' : World} {lim m : Nat} {A : Option Addr} {zs : List ByteArray} (h : AllT w lim A m zs) (hb : Below w.heap.size w w') : AllT w' lim A m zs := by
  have h1 := hb.size
  have h2 := h.1
  refine ⟨by omega, fun h0 => ?_⟩
  obtain ⟨g, hA, hg, hc⟩ := h.2 h0
  refine ⟨g, hA, hg, fun j hj => ?_⟩
  have hgw : g < w.heap.size := by omega
  exact ⟨(hb.cell (p := ⟨g, j * 2, none⟩) hgw).trans (hc j hj).1, (hb.cell (p := ⟨g, j * 2 + 1, none⟩) hgw).trans (hc j hj).2⟩
theorem AllT.hg {w w' : World} {b lim m : Nat} {v v' : Value} {A : Option Addr} {zs : List ByteArray} (h : AllT w lim A m zs) (hg : HG b w v w' v') (hb : lim ≤ b) (hv : ∀ k, v.ownBlock = some k → b < k) : AllT w' lim A m zs := by
  have h1 := hg.size
  have h2 := h.1
  refine ⟨by omega, fun h0 => ?_⟩
  obtain ⟨g, hA, hgl, hc⟩ := h.2 h0
  have e := hg.block g (by omega) (by omega) (fun e => by have := hv g e.symm; omega)
  exact ⟨g, hA, hgl, fun j hj => ⟨(World.cell?_of_block e).trans (hc j hj).1, (World.cell?_of_block e).trans (hc j hj).2⟩⟩
theorem AllT.of {w : World} {B : Nat} {A : Option Addr} {m c : Nat} {zs : List ByteArray} (h : OwnR twC 2 w B 43 (.slice A m c) (twos zs m)) : AllT w w.heap.size A m zs := by
  refine ⟨Nat.le_refl _, fun h0 => ?_⟩
  obtain ⟨g, cap, hv, hB, hg, hl, hc⟩ := OwnR.at_ twC_len h (by rw [twos_len]; exact h0)
  injection hv with hA _ _
  refine ⟨g, hA, hg, fun j hj => ?_⟩
  exact ⟨(hc j 0 _ (twos_get zs hj) (by omega)).trans rfl, (hc j 1 _ (twos_get zs hj) (by omega)).trans rfl⟩
/-- the front of all as what a heap is given -/
theorem AllT.front {w : World} {lim b m k : Nat} {v : Value} {A : Option Addr} {zs : List ByteArray} (h : AllT w lim A m zs) (hz : ∀ s ∈ zs, s.size ≤ maxLen) (hm : m ≤ zs.length) (hm6 : m ≤ 1000000) (hb : lim ≤ b) (hv : ∀ j, v.ownBlock = some j → b ≤ j) (hk : k ≤ m) : IntsA b v w A (twos zs k) := by
  refine ⟨twos_good zs hz (by omega) (by omega), fun h0 => ?_⟩
  rw [twos_len] at h0
  have h2 := h.1
  obtain ⟨g, hA, hgl, hc⟩ := h.2 (by omega)
  refine ⟨g, 0, hA, by omega, by omega, fun e => by have := hv g e.symm; omega, fun j hj => ?_⟩
  rw [twos_len] at hj
  rw [List.getD_eq_getElem?_getD, twos_get zs hj, Nat.zero_add]
  exact hc j (by omega)
/-- the end of all as what a heap is given -/
theorem AllT.behind {w : World} {lim b m k g : Nat} {v : Value} {zs : List ByteArray} (h : AllT w lim (some ⟨g, 0, none⟩) m zs) (hz : ∀ s ∈ zs, s.size ≤ maxLen) (hm : m ≤ zs.length) (hm6 : m ≤ 1000000) (hb : lim ≤ b) (hv : ∀ j, v.ownBlock = some j → b ≤ j) : IntsA b v w (some ⟨g, k * 2, none⟩) ((twos zs m).drop k) := by
  refine ⟨fun x hx => twos_good zs hz hm hm6 x (List.mem_of_mem_drop hx), fun h0 => ?_⟩
  rw [List.length_drop, twos_len] at h0
  have h2 := h.1
  obtain ⟨g', hA, hgl, hc⟩ := h.2 (by omega)
  cases hA
  refine ⟨g, k * 2, rfl, by omega, by omega, fun e => by have := hv g e.symm; omega, fun j hj => ?_⟩
  rw [List.length_drop, twos_len] at hj
  rw [List.getD_eq_getElem?_getD, List.getElem?_drop, twos_get zs (show k + j < m by omega), show k * 2 + j * 2 = (k + j) * 2 by omega]
  exact hc (k + j) (by omega)
theorem IntsA.none_ (b : Nat) (v : Value) (w : World) (A : Option Addr) : IntsA b v w A [] := ⟨fun x hx => absurd hx List.not_mem_nil, fun h => absurd h (Nat.lt_irrefl 0)⟩
/-- one thing laid anew as what a heap is given -/
theorem IntsA.one {b g : Nat} {v : Value} {w : World} {x : TwoX} (hx : GoodT x) (hB : Blk w g 43 #[.string x.s, .int .i64 x.n]) (hb : g ≠ b) (hv : v.ownBlock ≠ some g) : IntsA b v w (some ⟨g, 0, none⟩) [x] := by
  refine ⟨fun y hy => by rw [List.mem_singleton.1 hy]; exact hx, fun _ => ⟨g, 0, rfl, hB.lt, hb, fun e => hv e.symm, fun j hj => ?_⟩⟩
  obtain rfl : j = 0 := by simpa using hj
  exact ⟨(hB.cell 0).trans rfl, (hB.cell 1).trans rfl⟩

structure SepH (b : Nat) (v : Value) (a : Nat) (u : Value) : Prop where
  ne : a ≠ b
  va : v.ownBlock ≠ some a
  ub : u.ownBlock ≠ some b
  vu : ∀ k, v.ownBlock = some k → u.ownBlock ≠ some k
structure TwoS (W w : World) (b : Nat) (v : Value) (M : List (KeyP TwoX)) (c : Nat) (a : Nat) (u : Value) (X : List (KeyP TwoX)) (d : Nat) (lim : Nat) (A : Option Addr) (m : Nat) (zs : List ByteArray) : Prop where
  hp : HeapO w b v M c
  rf : HeapO w a u X d
  sep : SepH b v a u
  bel : Below W.heap.size W w
  all : AllT w lim A m zs
  lim0 : W.heap.size ≤ lim
  lb : lim ≤ b
  la : lim ≤ a
section
variable {W w w' : World} {b : Nat} {v : Value} {M : List (KeyP TwoX)} {c : Nat} {a : Nat} {u : Value} {X : List (KeyP TwoX)} {d lim : Nat} {A : Option Addr} {m : Nat} {zs : List ByteArray}
theorem TwoS.below (h : TwoS W w b v M c a u X d lim A m zs) (hx : Below w.heap.size w w') : TwoS W w' b v M c a u X d lim A m zs :=
  ⟨h.hp.below hx, h.rf.below hx, h.sep, hop h.bel (Nat.le_refl _) hx, h.all.below hx, h.lim0, h.lb, h.la⟩
theorem TwoS.left (h : TwoS W w b v M c a u X d lim A m zs) {v' : Value} {M' : List (KeyP TwoX)} {c' : Nat} (ho : HeapO w' b v' M' c') (hg : HG b w v w' v') : TwoS W w' b v' M' c' a u X d lim A m zs := by
  have hal := h.rf.lt
  have hul := h.rf.own
  have hvl := h.hp.own
  refine ⟨ho, h.rf.kept (hg.block a hal h.sep.ne (fun e => h.sep.va e.symm)) (fun k hk => hg.block k (hul k hk).2 (fun e => h.sep.ub (by rw [hk, e])) (fun e => h.sep.vu k e.symm hk)), ⟨h.sep.ne, fun e => ?_, h.sep.ub, fun k hk hu => ?_⟩, h.hp.over (Nat.le_trans h.lim0 h.lb) h.bel hg, h.all.hg hg h.lb (fun k hk => (hvl k hk).1), h.lim0, h.lb, h.la⟩
  · rcases hg.own a e with h1 | h1
    · exact h.sep.va h1
    · omega
  · rcases hg.own k hk with h1 | h1
    · exact h.sep.vu k h1 hu
    · have := (hul k hu).2
      omega
theorem TwoS.right (h : TwoS W w b v M c a u X d lim A m zs) {u' : Value} {X' : List (KeyP TwoX)} {d' : Nat} (ho : HeapO w' a u' X' d') (hg : HG a w u w' u') : TwoS W w' b v M c a u' X' d' lim A m zs := by
  have hbl := h.hp.lt
  have hvl := h.hp.own
  have hul := h.rf.own
  refine ⟨h.hp.kept (hg.block b hbl (Ne.symm h.sep.ne) (fun e => h.sep.ub e.symm)) (fun k hk => hg.block k (hvl k hk).2 (fun e => h.sep.va (by rw [hk, e])) (fun e => h.sep.vu k hk e.symm)), ho, ⟨h.sep.ne, h.sep.va, fun e => ?_, fun k hk hu => ?_⟩, h.rf.over (Nat.le_trans h.lim0 h.la) h.bel hg, h.all.hg hg h.la (fun k hk => (hul k hk).1), h.lim0, h.lb, h.la⟩
  · rcases hg.own b e with h1 | h1
    · exact h.sep.ub h1
    · omega
  · rcases hg.own k hu with h1 | h1
    · exact h.sep.vu k hk h1
    · have := (hvl k hk).2
      omega
end
end Go.Proofs.Ytlicnijhmncoeaa.T2
