/- Labels that lie in a block, two of them changing places, and comparing by name: what a sort in place does. -/
import Derived.Test.YtimmfmgnjpcdoaaLabOf
import Derived.Test.YtimmfmgnjpcdoaaSymMath
import Derived.Deep.RegionHeld
namespace Go.Proofs.Ytimmfmgnjpcdoaa.Sy
open Go.RowKit Go.Sort
set_option linter.unusedVariables false
set_option linter.unusedSimpArgs false

theorem set_at (cs : Array Value) (i m : Nat) (x : Value) (h : i < cs.size) : (cs.setIfInBounds i x)[m]? = if m = i then some x else cs[m]? := by
  by_cases e : m = i
  · subst e
    rw [if_pos rfl, Array.getElem?_setIfInBounds_self_of_lt h]
  · rw [if_neg e, Array.getElem?_setIfInBounds_ne (Ne.symm e)]
theorem set4_at (cs : Array Value) (a b c d m : Nat) (x y z u : Value) (ha : a < cs.size) (hb : b < cs.size) (hc : c < cs.size) (hd : d < cs.size) :
    ((((cs.setIfInBounds a x).setIfInBounds b y).setIfInBounds c z).setIfInBounds d u)[m]? = if m = d then some u else if m = c then some z else if m = b then some y else if m = a then some x else cs[m]? := by
  rw [set_at _ d m u (by simpa using hd), set_at _ c m z (by simpa using hc), set_at _ b m y (by simpa using hb), set_at _ a m x ha]
/-- the labels of L, in order, lie in block g from its start on -/
def SortW (w : World) (g : Nat) (L : List (KeyP PairB)) : Prop := ∃ cur, Blk w g 39 cur ∧ L.length * 2 ≤ cur.size ∧ ∀ j, j < L.length → cur[j * 2]? = some (.string (getP L j).it.1) ∧ cur[j * 2 + 1]? = some (.string (getP L j).it.2)
theorem SortW.lt {w : World} {g : Nat} {L : List (KeyP PairB)} (h : SortW w g L) : g < w.heap.size := by
  obtain ⟨cur, hB, _⟩ := h
  exact hB.lt
theorem SortW.below {w w' : World} {g : Nat} {L : List (KeyP PairB)} (h : SortW w g L) (hb : Below w.heap.size w w') : SortW w' g L := by
  obtain ⟨cur, hB, h2⟩ := h
  exact ⟨cur, hB.below hb hB.lt, h2⟩
/-- all but block g is as it was -/
structure FG (g : Nat) (w w' : World) : Prop where
  os : w'.os = w.os
  tape : w'.tape = w.tape
  output : w'.output = w.output
  size : w.heap.size ≤ w'.heap.size
  block : ∀ k, k < w.heap.size → k ≠ g → w'.heap[k]? = w.heap[k]?
theorem FG.refl (g : Nat) (w : World) : FG g w w := ⟨rfl, rfl, rfl, Nat.le_refl _, fun _ _ _ => rfl⟩
theorem FG.trans {g : Nat} {w1 w2 w3 : World} (h : FG g w1 w2) (k : FG g w2 w3) : FG g w1 w3 :=
  ⟨k.os.trans h.os, k.tape.trans h.tape, k.output.trans h.output, Nat.le_trans h.size k.size, fun i hi hg => (k.block i (Nat.lt_of_lt_of_le hi h.size) hg).trans (h.block i hi hg)⟩
theorem FG.of_below {g : Nat} {w w' : World} (h : Below w.heap.size w w') : FG g w w' := ⟨h.os, h.tape, h.output, h.size, fun k hk _ => h.block k hk⟩
theorem FG.grown {g : Nat} {w w' : World} (h : FG g w w') : w.grownBy w' (some g) := ⟨h.os, h.tape, h.output, h.size, fun k hk hg => h.block k hk (fun e => hg (by rw [e]))⟩
def swpW (w : World) (g i k : Nat) (xi xk : PairB) : World := ((((w.setCell ⟨g, i * 2, none⟩ (.string xk.1)).setCell ⟨g, i * 2 + 1, none⟩ (.string xk.2)).setCell ⟨g, k * 2, none⟩ (.string xi.1)).setCell ⟨g, k * 2 + 1, none⟩ (.string xi.2)).drew
theorem swap_state {w : World} {g i k : Nat} {L : List (KeyP PairB)} (h : SortW w g L) (hi : i < L.length) (hk : k < L.length) : SortW (swpW w g i k (getP L i).it (getP L k).it) g (swapP L i k) ∧ FG g w (swpW w g i k (getP L i).it (getP L k).it) := by
  obtain ⟨cur, hB, hs, hc⟩ := h
  refine ⟨⟨_, ((((hB.set_ (i * 2) (.string (getP L k).it.1)).set_ (i * 2 + 1) (.string (getP L k).it.2)).set_ (k * 2) (.string (getP L i).it.1)).set_ (k * 2 + 1) (.string (getP L i).it.2)).drewN 1, ?_, fun j hj => ?_⟩, ⟨rfl, rfl, rfl, by simp [swpW], fun j hj hg => ?_⟩⟩
  · rw [swapP_len]
    simpa using hs
  · rw [swapP_len] at hj
    have h1 : i * 2 + 1 < cur.size := by omega
    have h2 : k * 2 + 1 < cur.size := by omega
    obtain ⟨q1, q2⟩ := hc j hj
    rw [getP_swap hi hk, set4_at _ _ _ _ _ _ _ _ _ _ (by omega) h1 (by omega) h2, set4_at _ _ _ _ _ _ _ _ _ _ (by omega) h1 (by omega) h2]
    by_cases hjk : j = k
    · subst hjk
      rw [if_pos rfl, if_neg (by omega), if_pos rfl, if_pos rfl]
      exact ⟨rfl, rfl⟩
    · rw [if_neg hjk, if_neg (show ¬ j * 2 = k * 2 + 1 by omega), if_neg (show ¬ j * 2 = k * 2 by omega), if_neg (show ¬ j * 2 = i * 2 + 1 by omega), if_neg (show ¬ j * 2 + 1 = k * 2 + 1 by omega), if_neg (show ¬ j * 2 + 1 = k * 2 by omega)]
      by_cases hji : j = i
      · subst hji
        rw [if_pos rfl, if_pos rfl, if_pos rfl]
        exact ⟨rfl, rfl⟩
      · rw [if_neg hji, if_neg (show ¬ j * 2 = i * 2 by omega), if_neg (show ¬ j * 2 + 1 = i * 2 + 1 by omega), if_neg (show ¬ j * 2 + 1 = i * 2 by omega)]
        exact ⟨q1, q2⟩
  · exact (Below.heap_setCell _ _ _ j hg).trans ((Below.heap_setCell _ _ _ j hg).trans ((Below.heap_setCell _ _ _ j hg).trans (Below.heap_setCell _ _ _ j hg)))
theorem nameC_pre : Pre3 nameC := ⟨fun a b => txtC_ord.anti a.1 b.1, fun a b c => txtC_ord.trans a.1 b.1 c.1⟩
theorem byNameB (p q : PairB) (W : World) :
    Calls Try.prog 38 #[.agg #[.string p.1, .string p.2], .agg #[.string q.1, .string q.2]] W fun e w' => e = .returned (.int .i64 (nameC p q)) ∧ Below W.heap.size W w' := by
  refine (byName_any p q W).mono ?_
  rintro e w' ⟨he, n, os, rfl⟩
  refine ⟨he, rfl, rfl, rfl, by simp [grow], fun k hk => ?_⟩
  show (((W.drewN n).heap ++ os)[k]?) = W.heap[k]?
  exact Array.getElem?_append_left hk
end Go.Proofs.Ytimmfmgnjpcdoaa.Sy
