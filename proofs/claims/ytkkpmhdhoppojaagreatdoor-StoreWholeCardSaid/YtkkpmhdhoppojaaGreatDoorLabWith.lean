-- shaken
import Derived.Test.YtkkpmhdhoppojaaGreatDoorProg
import Derived.Test.YtkkpmhdhoppojaaGreatDoorLabOf
import Derived.Shelf.Spec.SlicesGrow
import Derived.Laws.AppendOwnNone
namespace Go.Proofs
set_option linter.unusedVariables false
set_option linter.unusedSimpArgs false
open Go.Shelf
end Go.Proofs
namespace Go.Proofs.YtkkpmhdhoppojaaGreatDoor
open Go.RowKit Go.Sort
set_option linter.unusedVariables false
set_option linter.unusedSimpArgs false
theorem OwnP.more {w : World} {B : Nat} {v : Value} {l m : List PairB} {n : Nat} (hm : m.length = n) (h : w.ownsRow B 123 2 v (l.length + n) (pVs l ++ pVs m)) : OwnP w B v (l ++ m) := by
  unfold OwnP
  rw [List.length_append, pVs_app, hm]
  exact h
def Src (w : World) (A : Option Addr) (n c : Nat) (ps : List PairB) : Prop := ps.length = n ∧ ((A = none ∧ n = 0 ∧ c = 0) ∨ ∃ ad, A = some ad ∧ ∀ t u, (pVs ps)[t]? = some u → w.cell? (ad.add t) = some u)
theorem Pairs.src {w : World} {A : Option Addr} {n : Nat} (c : Nat) {ps : List PairB} (h : Pairs w A n ps) (hA : A = none → n = 0 ∧ c = 0) : Src w A n c ps := by
  refine ⟨h.1, ?_⟩
  cases A with
  | none => exact .inl ⟨rfl, hA rfl⟩
  | some ad =>
    refine .inr ⟨ad, rfl, fun t u hu => ?_⟩
    have ht : t < n * 2 := by
      rcases Nat.lt_or_ge t (n * 2) with h1 | h1
      · exact h1
      · rw [List.getElem?_eq_none (by rw [pVs_len, h.1]; exact h1)] at hu; cases hu
    obtain ⟨b, off, e, _, hc⟩ := h.2 (by omega)
    injection e with e
    subst e
    rw [pVs_at ps t (by rw [h.1]; exact ht)] at hu
    injection hu with hu
    obtain ⟨c0, c1⟩ := hc (t / 2) (by omega)
    rw [ints_add, ← hu]
    rcases (by omega : t % 2 = 0 ∨ t % 2 = 1) with h2 | h2
    · rw [h2, show off + t = off + t / 2 * 2 by omega]; exact c0
    · rw [h2, show off + t = off + t / 2 * 2 + 1 by omega]; exact c1
end Go.Proofs.YtkkpmhdhoppojaaGreatDoor
