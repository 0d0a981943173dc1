-- shaken
import Derived.Test.YtepokdmkdnlbfaaGreatDoorPut
import Derived.Test.YtepokdmkdnlbfaaGreatDoorShelf
import Derived.Lib.IndexBytes
import Derived.WalkLawsBesides
import Derived.Lib.Join
import Derived.Lib.Index
import Derived.Shelf.Vars
namespace Go.Proofs.YtepokdmkdnlbfaaGreatDoor
open Go.RowKit
set_option linter.unusedVariables false
set_option linter.unusedSimpArgs false
theorem OwnB.drewN {w : World} {B e : Nat} {v : Value} {l : List UInt8} (h : OwnB w B e v l) (q : Nat) : OwnB (w.drewN q) B e v l := h
def eqB (x s : ByteArray) : Bool := x.toList == s.toList
def amongI (s : ByteArray) (ss : List ByteArray) : Int :=
  match ss.findIdx? (fun x => eqB x s) with
  | some i => (i : Int)
  | none => -1
theorem among_at (s : ByteArray) (ss : List ByteArray) (k : Nat) (hk : k < ss.length) (h : eqB (ss.getD k .empty) s = true) (hno : ∀ j, j < k → eqB (ss.getD j .empty) s = false) : amongI s ss = k := by
  have : ss.findIdx? (fun x => eqB x s) = some k := by
    rw [List.findIdx?_eq_some_iff_getElem]
    refine ⟨hk, ?_, fun j hj => ?_⟩
    · rw [List.getD_eq_getElem?_getD, List.getElem?_eq_getElem hk] at h
      exact h
    · have h2 := hno j hj
      rw [List.getD_eq_getElem?_getD, List.getElem?_eq_getElem (by omega)] at h2
      simpa using h2
  rw [amongI, this]
theorem among_no (s : ByteArray) (ss : List ByteArray) (hno : ∀ j, j < ss.length → eqB (ss.getD j .empty) s = false) : amongI s ss = -1 := by
  have : ss.findIdx? (fun x => eqB x s) = none := by
    rw [List.findIdx?_eq_none_iff]
    intro x hx
    obtain ⟨j, hj, rfl⟩ := List.getElem_of_mem hx
    have h2 := hno j hj
    rw [List.getD_eq_getElem?_getD, List.getElem?_eq_getElem hj] at h2
    exact h2
  rw [amongI, this]
set_option maxHeartbeats 400000 in
theorem among_any (s : ByteArray) (A : Option Addr) (n c : Nat) (ss : List ByteArray) (hn : n ≤ 16777216) (W : World) (h : Texts W A n ss) :
    Calls Tryz.prog 47 #[.string s, .slice A n c] W fun e w' => e = .returned (.int .i64 (amongI s ss)) ∧ W = w' := by
  obtain ⟨hl, hA⟩ := h
  have HL := Lib.hid hl
  have HA := Lib.hid hA
  clear hl hA
  go_enter Tryz.func47, Tryz.ntmps47
  go_wp2
  go_loop [9] (fun i => ∃ k : Nat, k ≤ n ∧ i = .int .i64 k ∧ Hid (∀ j, j < k → eqB (ss.getD j .empty) s = false)) (fun i => n - (intOf i).toNat)
  case atStart => exact ⟨0, Nat.zero_le _, rfl, fun j hj => absurd hj (by omega)⟩
  case round =>
    obtain ⟨k, hk, rfl, hno⟩ := hrel
    by_cases hkn : k < n
    · obtain ⟨b, off, rfl, hb, hc⟩ := HA.out (by omega)
      have c0 := hc k hkn
      obtain ⟨x, hx⟩ : ∃ x, x = ss.getD k .empty := ⟨_, rfl⟩
      rw [← hx] at c0
      have HX := Lib.hid hx
      clear hc hx
      by_cases he : eqB x s = true
      · have e := among_at s ss k (by rw [HL.out]; exact hkn) (by rw [← HX.out]; exact he) hno.out
        have E := Lib.hid e
        have he' : (x.toList == s.toList) = true := he
        clear e he
        go_wp2
        go_ret
        exact ⟨by rw [E.out]; rfl, rfl⟩
      · have he' : (x.toList == s.toList) = false := by simpa [eqB] using he
        have hno' : Hid (∀ j, j < k + 1 → eqB (ss.getD j .empty) s = false) := fun j hj => by
          rcases (by omega : j < k ∨ j = k) with h | rfl
          · exact hno.out j h
          · rw [← HX.out]; simpa using he
        clear he
        go_wp2
        go_round
        case rel => exact ⟨k + 1, by omega, by go_num, hno'⟩
        case measure => simp [intOf]; omega
    · obtain rfl : k = n := by omega
      have e := among_no s ss (by rw [HL.out]; exact hno.out)
      have E := Lib.hid e
      clear e
      go_wp2
      go_ret
      exact ⟨by rw [E.out]; rfl, rfl⟩
def joinB (sep : ByteArray) (ss : List ByteArray) : List UInt8 := Lib.join (ss.map (·.data.toList)) sep.data.toList
set_option maxHeartbeats 400000 in
theorem join_any (sep : ByteArray) (A : Option Addr) (n c : Nat) (ss : List ByteArray) (hn : n ≤ 16777216) (hc : n ≤ c) (hlen : (joinB sep ss).length ≤ 140737488355328) (W : World) (h : Texts W A n ss) :
    Calls Tryz.prog 19 #[.string sep, .slice A n c] W fun e w' => e = .returned (.string ⟨(joinB sep ss).toArray⟩) ∧ Below W.heap.size W w' := by
  obtain ⟨hl, hA⟩ := h
  rcases Nat.eq_zero_or_pos n with h0 | h0
  · subst h0
    have : ss = [] := List.eq_nil_of_length_eq_zero hl
    subst this
    clear hA
    go_enter Tryz.func19, Tryz.ntmps19
    go_wp2_with (go_at_call 31; refine (Tryz.strings_Join_none A c sep _).mono ?_; rintro e w' ⟨rfl, rfl⟩)
    go_ret
    exact ⟨rfl, Below.refl _ _⟩
  · obtain ⟨b, off, rfl, hb, hcell⟩ := hA h0
    subst hl
    have hcs : ∀ (j : Nat) x, ss[j]? = some x → W.cell? ⟨b, off + j, none⟩ = some (.string x) := fun j x hx => by
      have hj : j < ss.length := (List.getElem?_eq_some_iff.1 hx).1
      rw [hcell j hj, List.getD_eq_getElem?_getD, hx]
      rfl
    have HC := Lib.hid (Tryz.strings_Join b off c ss sep W hcs hb (by omega) hc hlen)
    clear hA hcell hcs
    go_enter Tryz.func19, Tryz.ntmps19
    go_wp2_with (go_at_call 31; refine (Calls.mono HC.out ?_); rintro e w' ⟨rfl, hbel⟩)
    go_ret
    exact ⟨rfl, hbel⟩
end Go.Proofs.YtepokdmkdnlbfaaGreatDoor
