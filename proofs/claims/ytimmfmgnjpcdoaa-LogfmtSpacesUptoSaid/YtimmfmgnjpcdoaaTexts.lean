/- Among, Join: a text among some; parts joined. -/
import Derived.Test.YtimmfmgnjpcdoaaGet
import Derived.Lib.Join
import Derived.Lib.Index
import Derived.Shelf.Vars
namespace Go.Proofs.Ytimmfmgnjpcdoaa
open Go.RowKit
set_option linter.unusedVariables false
set_option linter.unusedSimpArgs false

def eqB (x s : ByteArray) : Bool := x.toList == s.toList
theorem eqB_iff (x s : ByteArray) : eqB x s = true ↔ x = s := by
  unfold eqB
  rw [beq_iff_eq, Lib.toList_data, Lib.toList_data]
  constructor
  · intro h; exact ByteArray.ext (Array.toList_inj.1 h)
  · rintro rfl; rfl
def amongI (s : ByteArray) (ss : List ByteArray) : Int :=
  match ss.findIdx? (fun x => eqB x s) with
  | some i => (i : Int)
  | none => -1
theorem among_at (s : ByteArray) (ss : List ByteArray) (k : Nat) (hk : k < ss.length) (h : eqB (ss.getD k .empty) s = true) (hno : ∀ j, j < k → eqB (ss.getD j .empty) s = false) : amongI s ss = k := by
  have : ss.findIdx? (fun x => eqB x s) = some k := by
    rw [List.findIdx?_eq_some_iff_getElem]
    refine ⟨hk, ?_, fun j hj => ?_⟩
    · rw [List.getD_eq_getElem?_getD, List.getElem?_eq_getElem hk] at h
      exact h
    · have h2 := hno j hj
      rw [List.getD_eq_getElem?_getD, List.getElem?_eq_getElem (by omega)] at h2
      simpa using h2
  rw [amongI, this]
theorem among_no (s : ByteArray) (ss : List ByteArray) (hno : ∀ j, j < ss.length → eqB (ss.getD j .empty) s = false) : amongI s ss = -1 := by
  have : ss.findIdx? (fun x => eqB x s) = none := by
    rw [List.findIdx?_eq_none_iff]
    intro x hx
    obtain ⟨j, hj, rfl⟩ := List.getElem_of_mem hx
    have h2 := hno j hj
    rw [List.getD_eq_getElem?_getD, List.getElem?_eq_getElem hj] at h2
    exact h2
  rw [amongI, this]

def joinB (sep : ByteArray) (ss : List ByteArray) : List UInt8 := Lib.join (ss.map (·.data.toList)) sep.data.toList
set_option maxHeartbeats 400000 in
theorem join_any (sep : ByteArray) (A : Option Addr) (n c : Nat) (ss : List ByteArray) (hn : n ≤ 16777216) (hc : n ≤ c) (hlen : (joinB sep ss).length ≤ 140737488355328) (W : World) (h : Texts W A n ss) :
    Calls Try.prog 34 #[.string sep, .slice A n c] W fun e w' => e = .returned (.string ⟨(joinB sep ss).toArray⟩) ∧ Below W.heap.size W w' := by
  obtain ⟨hl, hA⟩ := h
  rcases Nat.eq_zero_or_pos n with h0 | h0
  · subst h0
    have : ss = [] := List.eq_nil_of_length_eq_zero hl
    subst this
    clear hA
    go_enter Try.func34, Try.ntmps34
    go_wp2_with (go_at_call 50; refine (Try.strings_Join_none A c sep _).mono ?_; rintro e w' ⟨rfl, rfl⟩)
    go_ret
    exact ⟨rfl, Below.refl _ _⟩
  · obtain ⟨b, off, rfl, hb, hcell⟩ := hA h0
    subst hl
    have hcs : ∀ (j : Nat) x, ss[j]? = some x → W.cell? ⟨b, off + j, none⟩ = some (.string x) := fun j x hx => by
      have hj : j < ss.length := (List.getElem?_eq_some_iff.1 hx).1
      rw [hcell j hj, List.getD_eq_getElem?_getD, hx]
      rfl
    have HC := Lib.hid (Try.strings_Join b off c ss sep W hcs hb (by omega) hc hlen)
    clear hA hcell hcs
    go_enter Try.func34, Try.ntmps34
    go_wp2_with (go_at_call 50; refine (Calls.mono HC.out ?_); rintro e w' ⟨rfl, hbel⟩)
    go_ret
    exact ⟨rfl, hbel⟩
end Go.Proofs.Ytimmfmgnjpcdoaa
