/- Among, Join: a text among some; parts joined. -/
import Derived.Test.YtojjeignijpiaaaGreatDoorGet
import Derived.Lib.Join
import Derived.Lib.Index
import Derived.Shelf.Vars
namespace Go.Proofs.YtojjeignijpiaaaGreatDoor
open Go.RowKit
set_option linter.unusedVariables false
set_option linter.unusedSimpArgs false

def eqB (x s : ByteArray) : Bool := x.toList == s.toList
theorem eqB_iff (x s : ByteArray) : eqB x s = true ↔ x = s := by
  unfold eqB
  rw [beq_iff_eq, Lib.toList_data, Lib.toList_data]
  constructor
  · intro h; exact ByteArray.ext (Array.toList_inj.1 h)
  · rintro rfl; rfl
def amongI (s : ByteArray) (ss : List ByteArray) : Int :=
  match ss.findIdx? (fun x => eqB x s) with
  | some i => (i : Int)
  | none => -1
theorem among_at (s : ByteArray) (ss : List ByteArray) (k : Nat) (hk : k < ss.length) (h : eqB (ss.getD k .empty) s = true) (hno : ∀ j, j < k → eqB (ss.getD j .empty) s = false) : amongI s ss = k := by
  have : ss.findIdx? (fun x => eqB x s) = some k := by
    rw [List.findIdx?_eq_some_iff_getElem]
    refine ⟨hk, ?_, fun j hj => ?_⟩
    · rw [List.getD_eq_getElem?_getD, List.getElem?_eq_getElem hk] at h
      exact h
    · have h2 := hno j hj
      rw [List.getD_eq_getElem?_getD, List.getElem?_eq_getElem (by omega)] at h2
      simpa using h2
  rw [amongI, this]
theorem among_no (s : ByteArray) (ss : List ByteArray) (hno : ∀ j, j < ss.length → eqB (ss.getD j .empty) s = false) : amongI s ss = -1 := by
  have : ss.findIdx? (fun x => eqB x s) = none := by
    rw [List.findIdx?_eq_none_iff]
    intro x hx
    obtain ⟨j, hj, rfl⟩ := List.getElem_of_mem hx
    have h2 := hno j hj
    rw [List.getD_eq_getElem?_getD, List.getElem?_eq_getElem hj] at h2
    exact h2
  rw [amongI, this]

def joinB (sep : ByteArray) (ss : List ByteArray) : List UInt8 := Lib.join (ss.map (·.data.toList)) sep.data.toList
end Go.Proofs.YtojjeignijpiaaaGreatDoor
