/- Lists of items that come in, opened. -/
import Derived.Test.YtilcanblgdmecaaMergeTell
namespace Go.Proofs.Ytilcanblgdmecaa
open Go.RowKit Go.ChangeShapes Go.WideShapes Go.Deep
set_option linter.unusedVariables false
set_option linter.unusedSimpArgs false

theorem cells_items : Try.prog.cellsOf 37 = 1 := by kernel_rfl
section
variable {H : Type} {enc : TypeId × Value → H} {w : World} {base : Nat} {spare : Nat → Bool} {held : Bool}
theorem grid_open {n : Nat} {cs : List Value} {y : DataW H × List MemPlace} (h : DataW.trod enc Try.prog w base spare held n 22 cs = some y) (hb : Rows.uptoBulk y.1 ≤ 1048576) : ∃ A len cap xs, cs = [.slice A len cap] ∧ GridI w.heap.size w A len xs := by
  obtain ⟨A, len, cap, xs, rfl, hr, hg, hk, h1, h2, _⟩ := row_open (V := ItLs.V) (s := 1) (G := fun x => ItemsP w.heap.size w x.A x.n x.l ∧ x.n ≤ x.c ∧ x.c ≤ maxLen) (K := fun x => sumN (x.l.map itemK)) (fun _ => rfl) (by decide) (fun _ => ⟨_, _, rfl⟩) Try.underlying22 cells_items (fun h => by
    obtain ⟨A, len, cap, l, rfl, hi, hs, h1, h2⟩ := items_open h
    exact ⟨⟨A, len, cap, l⟩, ⟨hi, h1, h2⟩, rfl, by dsimp only; omega⟩) h
  exact ⟨A, len, cap, xs, rfl, ⟨hr, fun x hx => ⟨(hg x hx).1, (hg x hx).2.1, (hg x hx).2.2, by
    have := sumN_mem (l := xs.map fun x => sumN (x.l.map itemK)) (List.mem_map.2 ⟨x, hx, rfl⟩)
    omega⟩⟩⟩
end
end Go.Proofs.Ytilcanblgdmecaa
