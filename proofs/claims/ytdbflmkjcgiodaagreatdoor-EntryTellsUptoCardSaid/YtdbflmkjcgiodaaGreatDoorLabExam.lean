/- The chapter's examples of labels are so. -/
import Derived.Test.YtdbflmkjcgiodaaGreatDoorLabParse
import Derived.Test.YtdbflmkjcgiodaaGreatDoorLabWith
import Derived.Test.YtdbflmkjcgiodaaGreatDoorLabText
namespace Go.Proofs.YtdbflmkjcgiodaaGreatDoor
open Go.RowKit Go.Sort
set_option linter.unusedVariables false
set_option linter.unusedSimpArgs false

def ps4 : List PairB := [(⟨#[98]⟩, ⟨#[50]⟩), (⟨#[97]⟩, ⟨#[49]⟩), (⟨#[98]⟩, ⟨#[51]⟩), (⟨#[57]⟩, ⟨#[]⟩)]
def s2 : List PairB := [(⟨#[97]⟩, ⟨#[49]⟩), (⟨#[98]⟩, ⟨#[51]⟩)]
def tx2 : ByteArray := ⟨#[123, 97, 61, 34, 49, 34, 44, 98, 61, 34, 51, 34, 125]⟩
theorem le_of : ofL ps4 = s2 := by decide +kernel
theorem le_named : (namedL ps4).length < 20 := by decide +kernel
theorem le_get1 : getL s2 ⟨#[98]⟩ = some ⟨#[51]⟩ := by decide +kernel
theorem le_get2 : getL s2 ⟨#[99]⟩ = none := by decide +kernel
theorem le_text : ((⟨#[123]⟩ : ByteArray) ++ (⟨(joinB ⟨#[44]⟩ (s2.map partT)).toArray⟩ : ByteArray) ++ (⟨#[125]⟩ : ByteArray)) = tx2 := by decide +kernel
theorem le_parse : parseL (tx2 ++ (⟨#[120]⟩ : ByteArray)) = some (s2, 13) := by decide +kernel
theorem le_bad : parseL ⟨#[123, 98, 61, 34, 49, 34, 44, 97, 61, 34, 50, 34, 125]⟩ = none := by decide +kernel
theorem le_names : nameB ⟨#[97, 95, 57]⟩ = true ∧ nameB ⟨#[57, 97]⟩ = false ∧ nameB ⟨#[]⟩ = false := by decide +kernel
theorem le_right : rightB s2 = true := by decide +kernel
theorem le_with : (ofL (s2 ++ [(⟨#[99]⟩, ⟨#[]⟩)])).length = 3 := by decide +kernel
theorem le_with2 : (namedL (s2 ++ [(⟨#[99]⟩, ⟨#[]⟩)])).length < 20 := by decide +kernel
theorem le_order : orderL s2 [] = 1 := by decide +kernel
theorem pairs_lit (w : World) (ps : List PairB) (g : Nat) (hg : g = w.heap.size) : Pairs (w.alloc (.cells (pVs ps).toArray 66)) (some ⟨g, 0, none⟩) ps.length ps := by
  subst hg
  refine ⟨rfl, fun _ => ⟨_, 0, rfl, by simp, fun j hj => ?_⟩⟩
  have hb := Blk.new w 66 (pVs ps).toArray
  have h0 := pVs_at ps (j * 2) (by omega)
  have h1 := pVs_at ps (j * 2 + 1) (by omega)
  rw [show j * 2 / 2 = j by omega, show j * 2 % 2 = 0 by omega] at h0
  rw [show (j * 2 + 1) / 2 = j by omega, show (j * 2 + 1) % 2 = 1 by omega] at h1
  rw [Nat.zero_add, hb.cell, hb.cell, List.getElem?_toArray, List.getElem?_toArray, h0, h1]
  exact ⟨rfl, rfl⟩

end Go.Proofs.YtdbflmkjcgiodaaGreatDoor
