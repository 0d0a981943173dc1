/- The document's own Right of an entry; that its entries outlive a store elsewhere. -/
import Derived.Test.YtilcanblgdmecaaRefEntW
namespace Go.Proofs.Ytilcanblgdmecaa
open Go.RowKit
set_option linter.unusedVariables false
set_option linter.unusedSimpArgs false

theorem entQ_not_pair : 48 ≠ 97 := by decide
theorem GoodQ.grown {w w' : World} {x : EntX} {r : Option Nat} (h : GoodQ w x) (hg : w.grownBy w' r)
    (hr : ∀ b, r = some b → ∃ cur t, t ≠ 97 ∧ w.heap[b]? = some (.cells cur t (0, 0))) : GoodQ w' x := by
  have key : 0 < x.n → ∀ a, x.A = some a → a.block < w.heap.size → w'.heap[a.block]? = w.heap[a.block]? := fun hn a ha hlt => by
    refine hg.block _ hlt fun e => ?_
    obtain ⟨cur, t, ht, h2⟩ := hr _ e.symm
    obtain ⟨cur', h3⟩ := h.own hn a ha
    rw [h2] at h3
    injection h3 with h3
    injection h3 with _ h3 _
    exact ht h3
  refine ⟨⟨h.set.1, fun hn => ?_⟩, fun hn a ha => ?_⟩
  · obtain ⟨b, off, e, hlt, hc⟩ := h.set.2 hn
    have hk := key hn _ e hlt
    have hcell : ∀ i, w'.cell? ⟨b, i, none⟩ = w.cell? ⟨b, i, none⟩ := fun i => by
      unfold World.cell?
      rw [show w'.heap[b]? = w.heap[b]? from hk]
    exact ⟨b, off, e, Nat.lt_of_lt_of_le hlt hg.size, fun j hj => ⟨(hcell _).trans (hc j hj).1, (hcell _).trans (hc j hj).2⟩⟩
  · obtain ⟨cur, h1⟩ := h.own hn a ha
    exact ⟨cur, (key hn a ha (lt_of_block h1)).trans h1⟩
end Go.Proofs.Ytilcanblgdmecaa
