/- A slice of things of some cells each, that a call owns; one that can be read. No program. -/
import Derived.Test.YtnhbahfpinijiaaMem
namespace Go.Proofs.Ytnhbahfpinijiaa
open Go.RowKit
set_option linter.unusedVariables false

section
variable {α : Type} {V : α → List Value} {s : Nat}
def rowV (V : α → List Value) (l : List α) : List Value := l.flatMap V
theorem rowV_len (hV : ∀ a, (V a).length = s) (l : List α) : (rowV V l).length = l.length * s := by
  induction l with
  | nil => simp [rowV]
  | cons a l ih => simp only [rowV, List.flatMap_cons, List.length_append, List.length_cons] at *; rw [ih, hV, Nat.succ_mul, Nat.add_comm]
theorem rowV_app (l m : List α) : rowV V (l ++ m) = rowV V l ++ rowV V m := by simp [rowV]
theorem rowV_at (hV : ∀ a, (V a).length = s) : ∀ (l : List α) (j i : Nat) (a : α), l[j]? = some a → i < s → (rowV V l)[j * s + i]? = (V a)[i]?
  | [], j, i, a, h, hi => by simp at h
  | x :: l, 0, i, a, h, hi => by
    have e : x = a := by simpa using h
    subst e
    show (V x ++ rowV V l)[0 * s + i]? = _
    rw [Nat.zero_mul, Nat.zero_add, List.getElem?_append_left (by rw [hV]; exact hi)]
  | x :: l, j + 1, i, a, h, hi => by
    have ih := rowV_at hV l j i a (by simpa using h) hi
    show (V x ++ rowV V l)[(j + 1) * s + i]? = _
    rw [List.getElem?_append_right (by rw [hV, Nat.succ_mul]; omega), hV, show (j + 1) * s + i - s = j * s + i by rw [Nat.succ_mul]; omega, ih]
theorem rowV_one (h1 : ∀ a, ∀ v ∈ V a, v.oneCell' = true) (l : List α) : ∀ v ∈ rowV V l, v.oneCell' = true := by
  intro v hv
  simp only [rowV, List.mem_flatMap] at hv
  obtain ⟨a, _, ha⟩ := hv
  exact h1 a v ha
/-- a slice of things that can be read -/
def RowR (V : α → List Value) (s : Nat) (w : World) (A : Option Addr) (n : Nat) (l : List α) : Prop :=
  l.length = n ∧ (0 < n → ∃ b off, A = some ⟨b, off, none⟩ ∧ b < w.heap.size ∧ ∀ (j i : Nat) (a : α), l[j]? = some a → i < s → w.cell? ⟨b, off + j * s + i, none⟩ = (V a)[i]?)
theorem RowR.below {w w' : World} {A : Option Addr} {n : Nat} {l : List α} (h : RowR V s w A n l) (hb : Below w.heap.size w w') : RowR V s w' A n l :=
  ⟨h.1, fun hn => by
    obtain ⟨b, off, e, hlt, hc⟩ := h.2 hn
    exact ⟨b, off, e, Nat.lt_of_lt_of_le hlt hb.size, fun j i a hj hi => (hb.cell (p := ⟨b, off + j * s + i, none⟩) hlt).trans (hc j i a hj hi)⟩⟩
theorem RowR.none (w : World) : RowR V s w none 0 [] := ⟨rfl, fun h => absurd h (by omega)⟩
/-- v is a slice of things that the call owns -/
def OwnR (V : α → List Value) (s : Nat) (w : World) (B ty : Nat) (v : Value) (l : List α) : Prop := w.ownsRow B ty s v l.length (rowV V l)
theorem OwnR.nil (w : World) (B ty : Nat) : OwnR V s w B ty (.slice none 0 0) [] := World.ownsRow_nil _ _ _ _
theorem OwnR.alloc {w : World} {B ty : Nat} {v : Value} {l : List α} (h : OwnR V s w B ty v l) (o : Obj) : OwnR V s (w.alloc o) B ty v l := World.ownsRow.alloc h o
theorem OwnR.snoc {w : World} {B ty : Nat} {v : Value} {l : List α} {a : α} (h : w.ownsRow B ty s v (l.length + 1) (rowV V l ++ V a)) : OwnR V s w B ty v (l ++ [a]) := by
  unfold OwnR
  rw [List.length_append, rowV_app]
  have e : rowV V [a] = V a := by simp [rowV]
  rw [e]
  exact h
theorem OwnR.snocs {w : World} {B ty : Nat} {v : Value} {l m : List α} (h : w.ownsRow B ty s v (l.length + m.length) (rowV V l ++ rowV V m)) : OwnR V s w B ty v (l ++ m) := by
  unfold OwnR
  rw [List.length_append, rowV_app]
  exact h
theorem OwnR.kept {w w' : World} {B ty : Nat} {v : Value} {l : List α} {r : Option Nat} (h : OwnR V s w B ty v l) (hg : w.grownBy w' r) (hr : ∀ b, r = some b → b < B) : OwnR V s w' B ty v l := by
  refine ⟨h.1, ?_⟩
  rcases h.2 with h0 | ⟨g, cap, cur, hv, hbg, hh, x⟩
  · exact .inl h0
  · exact .inr ⟨g, cap, cur, hv, hbg, (hg.block g (lt_of_block hh) (fun e => by have := hr g e.symm; omega)).trans hh, x⟩
theorem OwnR.below {w w' : World} {B ty : Nat} {v : Value} {l : List α} (h : OwnR V s w B ty v l) (hb : Below w.heap.size w w') : OwnR V s w' B ty v l := by
  refine ⟨h.1, ?_⟩
  rcases h.2 with h0 | ⟨g, cap, cur, hv, hbg, hh, x⟩
  · exact .inl h0
  · exact .inr ⟨g, cap, cur, hv, hbg, (hb.block g (lt_of_block hh)).trans hh, x⟩
theorem OwnR.mono {w : World} {B B' ty : Nat} {v : Value} {l : List α} (h : OwnR V s w B ty v l) (hB : B' ≤ B) : OwnR V s w B' ty v l := by
  refine ⟨h.1, ?_⟩
  rcases h.2 with h0 | ⟨g, cap, cur, hv, hbg, hh, x⟩
  · exact .inl h0
  · exact .inr ⟨g, cap, cur, hv, Nat.le_trans hB hbg, hh, x⟩
theorem OwnR.drewN {w : World} {B ty : Nat} {v : Value} {l : List α} (h : OwnR V s w B ty v l) (q : Nat) : OwnR V s (w.drewN q) B ty v l := h
theorem OwnR.open (hV : ∀ a, (V a).length = s) {w : World} {B ty : Nat} {v : Value} {l : List α} (h : OwnR V s w B ty v l) : ∃ A cap, v = .slice A l.length cap ∧ l.length ≤ cap ∧ (A = Option.none → l.length = 0 ∧ cap = 0) ∧ RowR V s w A l.length l := by
  rcases h.2 with ⟨rfl, h0⟩ | ⟨g, cap, cur, rfl, hg, hh, hc, _⟩
  · have e : l = [] := List.eq_nil_of_length_eq_zero h0
    subst e
    exact ⟨_, _, rfl, Nat.le_refl _, fun _ => ⟨rfl, rfl⟩, RowR.none w⟩
  · refine ⟨_, cap, rfl, hc, (fun e => by cases e), rfl, fun _ => ⟨g, 0, rfl, lt_of_block hh, fun j i a hj hi => ?_⟩⟩
    have hjl : j < l.length := by
      rcases Nat.lt_or_ge j l.length with h1 | h1
      · exact h1
      · rw [List.getElem?_eq_none h1] at hj; cases hj
    have hlt : j * s + i < l.length * s := Nat.lt_of_lt_of_le (Nat.add_lt_add_left hi _) (by rw [← Nat.succ_mul]; exact Nat.mul_le_mul_right s hjl)
    rw [show 0 + j * s + i = j * s + i by omega, World.ownsRow.cellAt h _ hlt, rowV_at hV l j i a hj hi]
theorem OwnR.at_ (hV : ∀ a, (V a).length = s) {w : World} {B ty : Nat} {v : Value} {l : List α} (h : OwnR V s w B ty v l) (h0 : 0 < l.length) : ∃ g cap, v = .slice (some ⟨g, 0, none⟩) l.length cap ∧ B ≤ g ∧ g < w.heap.size ∧ l.length ≤ cap ∧ ∀ (j i : Nat) (a : α), l[j]? = some a → i < s → w.cell? ⟨g, j * s + i, none⟩ = (V a)[i]? := by
  have h2 := OwnR.open hV h
  rcases h.2 with ⟨rfl, h0⟩ | ⟨g, cap, cur, rfl, hg, hh, hc, _⟩
  · omega
  · obtain ⟨A, cap2, e, _, _, _, h3⟩ := h2
    injection e with e1 e2 e3
    subst e1 e3
    obtain ⟨b, off, e, hlt, hc2⟩ := h3 h0
    injection e with e
    injection e with e4 e5
    subst e4 e5
    refine ⟨_, _, rfl, hg, hlt, hc, fun j i a hj hi => ?_⟩
    have := hc2 j i a hj hi
    rwa [Nat.zero_add] at this
end
end Go.Proofs.Ytnhbahfpinijiaa
