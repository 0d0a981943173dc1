/- A heap as it lies in memory: its items in a row that it owns. -/
import Derived.Test.YtlicnijhmncoeaaHeap2Before
import Derived.BigRegion
import Derived.Deep.RegionLaw
import Derived.Laws.OwnMore
namespace Go.Proofs.Ytlicnijhmncoeaa.T2
open Go.RowKit
set_option linter.unusedVariables false
set_option linter.unusedSimpArgs false

def itV (x : KeyP TwoX) : List Value := [.string x.it.s, .int .i64 x.it.n, .int .i64 (x.at_ : Int)]
theorem itV_len (x : KeyP TwoX) : (itV x).length = 3 := rfl
theorem itV_one (x : KeyP TwoX) : ∀ v ∈ itV x, v.oneCell' = true := by
  intro v hv
  simp only [itV, List.mem_cons, List.mem_nil_iff, or_false] at hv
  rcases hv with rfl | rfl | rfl <;> rfl
structure HeapSt (w : World) (b : Nat) (v : Value) (L : List (KeyP TwoX)) (came : Nat) : Prop where
  blk : Blk w b 84 #[v, .int .i64 (came : Int), .func (.func 19) #[] #[]]
  row : OwnR itV 3 w (b + 1) 103 v L
  good : ∀ x ∈ L, GoodT x.it
  old : ∀ x ∈ L, x.at_ < came
  few : L.length ≤ came
  less : came ≤ 1000000
theorem HeapSt.below {w w' : World} {b : Nat} {v : Value} {L : List (KeyP TwoX)} {came : Nat} (h : HeapSt w b v L came) (hb : Below w.heap.size w w') : HeapSt w' b v L came :=
  ⟨h.blk.below hb h.blk.lt, OwnR.below h.row hb, h.good, h.old, h.few, h.less⟩
theorem own_open {w : World} {B : Nat} {v : Value} {L : List (KeyP TwoX)} (h : OwnR itV 3 w B 103 v L) (hn : 0 < L.length) : ∃ g cap cur, v = .slice (some ⟨g, 0, none⟩) L.length cap ∧ B ≤ g ∧ Blk w g 103 cur ∧ L.length ≤ cap ∧ cap ≤ maxLen ∧ cur.size = cap * 3 ∧
    ∀ j, j < L.length → cur[j * 3]? = some (.string (getP L j).it.s) ∧ cur[j * 3 + 1]? = some (.int .i64 (getP L j).it.n) ∧ cur[j * 3 + 2]? = some (.int .i64 ((getP L j).at_ : Int)) := by
  rcases h.2 with ⟨_, h0⟩ | ⟨g, cap, cur, rfl, hg, hh, hc, hm, hs, ht⟩
  · omega
  · refine ⟨g, cap, cur, rfl, hg, hh, hc, hm, hs, fun j hj => ?_⟩
    have key : ∀ i, i < 3 → cur[j * 3 + i]? = (itV (getP L j))[i]? := fun i hi => by
      have h1 := rowV_at itV_len L j i (getP L j) (getP_eq hj) hi
      rw [← ht, List.getElem?_take_of_lt (by omega)] at h1
      rw [← h1]
      simp
    exact ⟨(key 0 (by decide)).trans rfl, (key 1 (by decide)).trans rfl, (key 2 (by decide)).trans rfl⟩
theorem own_shut {w : World} {B : Nat} {L : List (KeyP TwoX)} {g cap : Nat} {cur : Array Value} (hg : B ≤ g) (hb : Blk w g 103 cur) (hc : L.length ≤ cap) (hm : cap ≤ maxLen) (hs : cur.size = cap * 3)
    (h : ∀ j, j < L.length → cur[j * 3]? = some (.string (getP L j).it.s) ∧ cur[j * 3 + 1]? = some (.int .i64 (getP L j).it.n) ∧ cur[j * 3 + 2]? = some (.int .i64 ((getP L j).at_ : Int))) : OwnR itV 3 w B 103 (.slice (some ⟨g, 0, none⟩) L.length cap) L := by
  refine ⟨by rw [rowV_len itV_len], .inr ⟨g, cap, cur, rfl, hg, hb, hc, hm, hs, ?_⟩⟩
  apply List.ext_getElem?
  intro m
  by_cases hlt : m < L.length * 3
  · rw [List.getElem?_take_of_lt hlt]
    obtain ⟨j, i, hi, rfl⟩ : ∃ j i, i < 3 ∧ m = j * 3 + i := ⟨m / 3, m % 3, Nat.mod_lt _ (by decide), by omega⟩
    have hj : j < L.length := by omega
    rw [rowV_at itV_len L j i (getP L j) (getP_eq hj) hi]
    have h1 := h j hj
    rcases (by omega : i = 0 ∨ i = 1 ∨ i = 2) with rfl | rfl | rfl
    · have := h1.1
      simpa [itV] using this
    · have := h1.2.1
      simpa [itV] using this
    · have := h1.2.2
      simpa [itV] using this
  · rw [List.getElem?_eq_none (by rw [List.length_take]; omega), List.getElem?_eq_none (by rw [rowV_len itV_len]; omega)]
/-- what a heap's call leaves as it was -/
structure HG (b : Nat) (w : World) (v : Value) (w' : World) (v' : Value) : Prop where
  os : w'.os = w.os
  tape : w'.tape = w.tape
  output : w'.output = w.output
  size : w.heap.size ≤ w'.heap.size
  block : ∀ k, k < w.heap.size → k ≠ b → some k ≠ v.ownBlock → w'.heap[k]? = w.heap[k]?
  own : ∀ k, v'.ownBlock = some k → v.ownBlock = some k ∨ w.heap.size ≤ k
theorem HG.refl (b : Nat) (w : World) (v : Value) : HG b w v w v := ⟨rfl, rfl, rfl, Nat.le_refl _, fun _ _ _ _ => rfl, fun k h => .inl h⟩
theorem HG.trans {b : Nat} {w1 w2 w3 : World} {v1 v2 v3 : Value} (h : HG b w1 v1 w2 v2) (k : HG b w2 v2 w3 v3) : HG b w1 v1 w3 v3 :=
  ⟨k.os.trans h.os, k.tape.trans h.tape, k.output.trans h.output, Nat.le_trans h.size k.size, fun i hi hb hv => by
    have h2 : some i ≠ v2.ownBlock := fun e => by
      rcases h.own i e.symm with h3 | h3
      · exact hv h3.symm
      · omega
    exact (k.block i (Nat.lt_of_lt_of_le hi h.size) hb h2).trans (h.block i hi hb hv), fun i hi => by
    rcases k.own i hi with h3 | h3
    · exact h.own i h3
    · exact .inr (Nat.le_trans h.size h3)⟩
theorem HG.of_below {b : Nat} {w w' : World} {v : Value} (h : Below w.heap.size w w') : HG b w v w' v := ⟨h.os, h.tape, h.output, h.size, fun k hk _ _ => h.block k hk, fun k h => .inl h⟩

theorem set_at (cs : Array Value) (i m : Nat) (u : Value) (hi : i < cs.size) : (cs.setIfInBounds i u)[m]? = if m = i then some u else cs[m]? := by
  by_cases h : m = i
  · subst h
    rw [if_pos rfl, Array.getElem?_setIfInBounds_self_of_lt hi]
  · rw [if_neg h, Array.getElem?_setIfInBounds_ne (Ne.symm h)]
theorem set6_at (cs : Array Value) (a b c d e f m : Nat) (x y z u p q : Value) (ha : a < cs.size) (hb : b < cs.size) (hc : c < cs.size) (hd : d < cs.size) (he : e < cs.size) (hf : f < cs.size) :
    ((((((cs.setIfInBounds a x).setIfInBounds b y).setIfInBounds c z).setIfInBounds d u).setIfInBounds e p).setIfInBounds f q)[m]? = if m = f then some q else if m = e then some p else if m = d then some u else if m = c then some z else if m = b then some y else if m = a then some x else cs[m]? := by
  rw [set_at _ f m q (by simpa using hf), set_at _ e m p (by simpa using he), set_at _ d m u (by simpa using hd), set_at _ c m z (by simpa using hc), set_at _ b m y (by simpa using hb), set_at _ a m x ha]
def swapW (w : World) (g i k : Nat) (xi xk : TwoX) (pi pk : Int) : World := ((((((w.setCell ⟨g, i * 3, none⟩ (.string xk.s)).setCell ⟨g, i * 3 + 1, none⟩ (.int .i64 xk.n)).setCell ⟨g, i * 3 + 2, none⟩ (.int .i64 pk)).setCell ⟨g, k * 3, none⟩ (.string xi.s)).setCell ⟨g, k * 3 + 1, none⟩ (.int .i64 xi.n)).setCell ⟨g, k * 3 + 2, none⟩ (.int .i64 pi)).drew
theorem swap_state {b g cap came i k : Nat} {L : List (KeyP TwoX)} {cur : Array Value} {w : World} (h : HeapSt w b (.slice (some ⟨g, 0, none⟩) L.length cap) L came) (hi : i < L.length) (hk : k < L.length) (hg : b + 1 ≤ g) (hB : Blk w g 103 cur) (hc : L.length ≤ cap) (hm : cap ≤ maxLen) (hs : cur.size = cap * 3)
    (hcl : ∀ j, j < L.length → cur[j * 3]? = some (.string (getP L j).it.s) ∧ cur[j * 3 + 1]? = some (.int .i64 (getP L j).it.n) ∧ cur[j * 3 + 2]? = some (.int .i64 ((getP L j).at_ : Int))) :
    HeapSt (swapW w g i k (getP L i).it (getP L k).it ((getP L i).at_ : Int) ((getP L k).at_ : Int)) b (.slice (some ⟨g, 0, none⟩) L.length cap) (swapP L i k) came ∧ HG b w (.slice (some ⟨g, 0, none⟩) L.length cap) (swapW w g i k (getP L i).it (getP L k).it ((getP L i).at_ : Int) ((getP L k).at_ : Int)) (.slice (some ⟨g, 0, none⟩) L.length cap) := by
  have hgb : b ≠ g := by omega
  have hlen := swapP_len L i k
  have hsz : ∀ m, m < L.length → m * 3 + 2 < cur.size := fun m hm => by omega
  have s1 := hsz i hi
  have s2 := hsz k hk
  refine ⟨⟨?_, ?_, fun x hx => h.good x ((swapP_perm hi hk).mem_iff.1 hx), fun x hx => h.old x ((swapP_perm hi hk).mem_iff.1 hx), by rw [hlen]; exact h.few, h.less⟩, ?_⟩
  · exact ((((((h.blk.far (p := ⟨g, i * 3, none⟩) hgb _).far (p := ⟨g, i * 3 + 1, none⟩) hgb _).far (p := ⟨g, i * 3 + 2, none⟩) hgb _).far (p := ⟨g, k * 3, none⟩) hgb _).far (p := ⟨g, k * 3 + 1, none⟩) hgb _).far (p := ⟨g, k * 3 + 2, none⟩) hgb _).drewN 1
  · have B5 := ((((((hB.set_ (i * 3) (.string (getP L k).it.s)).set_ (i * 3 + 1) (.int .i64 (getP L k).it.n)).set_ (i * 3 + 2) (.int .i64 ((getP L k).at_ : Int))).set_ (k * 3) (.string (getP L i).it.s)).set_ (k * 3 + 1) (.int .i64 (getP L i).it.n)).set_ (k * 3 + 2) (.int .i64 ((getP L i).at_ : Int))).drewN 1
    have key := own_shut (L := swapP L i k) hg B5 (by rw [hlen]; exact hc) hm (by rw [Array.size_setIfInBounds, Array.size_setIfInBounds, Array.size_setIfInBounds, Array.size_setIfInBounds, Array.size_setIfInBounds, Array.size_setIfInBounds]; exact hs) (fun j hj => by
      rw [hlen] at hj
      obtain ⟨q1, q2, q3⟩ := hcl j hj
      rw [getP_swap hi hk, set6_at _ _ _ _ _ _ _ _ _ _ _ _ _ _ (by omega) (by omega) s1 (by omega) (by omega) s2, set6_at _ _ _ _ _ _ _ _ _ _ _ _ _ _ (by omega) (by omega) s1 (by omega) (by omega) s2, set6_at _ _ _ _ _ _ _ _ _ _ _ _ _ _ (by omega) (by omega) s1 (by omega) (by omega) s2]
      by_cases hjk : j = k
      · subst hjk
        rw [if_neg (show ¬ j * 3 = j * 3 + 2 by omega), if_neg (show ¬ j * 3 = j * 3 + 1 by omega), if_pos rfl, if_neg (show ¬ j * 3 + 1 = j * 3 + 2 by omega), if_pos rfl, if_pos rfl, if_pos rfl]
        exact ⟨rfl, rfl, rfl⟩
      · rw [if_neg hjk, if_neg (show ¬ j * 3 = k * 3 + 2 by omega), if_neg (show ¬ j * 3 = k * 3 + 1 by omega), if_neg (show ¬ j * 3 = k * 3 by omega), if_neg (show ¬ j * 3 = i * 3 + 2 by omega), if_neg (show ¬ j * 3 = i * 3 + 1 by omega),
          if_neg (show ¬ j * 3 + 1 = k * 3 + 2 by omega), if_neg (show ¬ j * 3 + 1 = k * 3 + 1 by omega), if_neg (show ¬ j * 3 + 1 = k * 3 by omega), if_neg (show ¬ j * 3 + 1 = i * 3 + 2 by omega),
          if_neg (show ¬ j * 3 + 2 = k * 3 + 2 by omega), if_neg (show ¬ j * 3 + 2 = k * 3 + 1 by omega), if_neg (show ¬ j * 3 + 2 = k * 3 by omega)]
        by_cases hji : j = i
        · subst hji
          rw [if_pos rfl, if_pos rfl, if_pos rfl, if_pos rfl]
          exact ⟨rfl, rfl, rfl⟩
        · rw [if_neg hji, if_neg (show ¬ j * 3 = i * 3 by omega), if_neg (show ¬ j * 3 + 1 = i * 3 + 1 by omega), if_neg (show ¬ j * 3 + 1 = i * 3 by omega), if_neg (show ¬ j * 3 + 2 = i * 3 + 2 by omega), if_neg (show ¬ j * 3 + 2 = i * 3 + 1 by omega), if_neg (show ¬ j * 3 + 2 = i * 3 by omega)]
          exact ⟨q1, q2, q3⟩)
    rw [hlen] at key
    exact key
  · have o1 : ∀ (z : World) (p : Addr) (u : Value), (z.setCell p u).os = z.os := fun _ _ _ => rfl
    have o2 : ∀ (z : World) (p : Addr) (u : Value), (z.setCell p u).tape = z.tape := fun _ _ _ => rfl
    have o3 : ∀ (z : World) (p : Addr) (u : Value), (z.setCell p u).output = z.output := fun _ _ _ => rfl
    refine ⟨by unfold swapW; rw [show ∀ z : World, z.drew.os = z.os from fun _ => rfl, o1, o1, o1, o1, o1, o1], by unfold swapW; rw [show ∀ z : World, z.drew.tape = z.tape from fun _ => rfl, o2, o2, o2, o2, o2, o2], by unfold swapW; rw [show ∀ z : World, z.drew.output = z.output from fun _ => rfl, o3, o3, o3, o3, o3, o3], by simp [swapW], fun m hm hmb hmv => ?_, fun m hm => .inl hm⟩
    have hmg : m ≠ g := fun e => hmv (by rw [e]; rfl)
    have e : ∀ (z : World) (o : Nat) (u : Value), (z.setCell ⟨g, o, none⟩ u).heap[m]? = z.heap[m]? := fun z o u => Below.heap_setCell z ⟨g, o, none⟩ u m hmg
    unfold swapW
    rw [show ∀ z : World, z.drew.heap[m]? = z.heap[m]? from fun _ => rfl, e, e, e, e, e, e]

end Go.Proofs.Ytlicnijhmncoeaa.T2
