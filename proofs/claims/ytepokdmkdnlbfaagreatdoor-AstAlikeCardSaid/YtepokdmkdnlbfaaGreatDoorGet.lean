-- shaken
import Derived.Test.YtepokdmkdnlbfaaGreatDoorPut
import Derived.Test.YtepokdmkdnlbfaaGreatDoorShelf
import Derived.Lib.IndexBytes
import Derived.WalkLawsBesides
import Derived.Lib.Join
import Derived.Lib.Index
import Derived.Shelf.Vars
namespace Go.Proofs.YtepokdmkdnlbfaaGreatDoor
open Go.RowKit
set_option linter.unusedVariables false
set_option linter.unusedSimpArgs false
def digitsL : List UInt8 := [48, 49, 50, 51, 52, 53, 54, 55, 56, 57, 97, 98, 99, 100, 101, 102]
def hexI (c : UInt8) : Int := Lib.indexByte digitsL c
def hexB (l : List UInt8) : UInt8 × Bool :=
  match l with
  | a :: b :: _ => if hexI a < 0 ∨ hexI b < 0 then (0, false) else (UInt8.ofNat (hexI a * 16 + hexI b).toNat, rareB (UInt8.ofNat (hexI a * 16 + hexI b).toNat))
  | _ => (0, false)
def firstB (l : List UInt8) : UInt8 × Nat × Bool :=
  match l with
  | [] => (0, 0, false)
  | c :: r =>
    if c ≠ 92 then (c, 1, !rareB c && (c != 10 && c != 9))
    else match r with
      | [] => (0, 0, false)
      | d :: r' =>
        if d = 34 ∨ d = 92 then (d, 2, true) else if d = 110 then (10, 2, true) else if d = 116 then (9, 2, true)
        else if d = 120 then ((hexB r').1, 4, (hexB r').2) else (0, 0, false)
def getGo : Nat → List UInt8 → List UInt8 → Nat → Option (List UInt8 × Nat)
  | 0, _, _, _ => none
  | _ + 1, [], _, _ => none
  | f + 1, c :: r, out, at_ =>
    if c = 34 then some (out, at_ + 1)
    else if (firstB (c :: r)).2.2 = true then getGo f ((c :: r).drop (firstB (c :: r)).2.1) (out ++ [(firstB (c :: r)).1]) (at_ + (firstB (c :: r)).2.1)
    else none
def getB (l : List UInt8) : Option (List UInt8 × Nat) :=
  match l with
  | c :: r => if c = 34 then getGo l.length r [] 1 else none
  | [] => none
def getR (l : List UInt8) : List UInt8 × Nat × Bool :=
  match getB l with
  | some (t, n) => (t, n, true)
  | none => ([], 0, false)
theorem OwnB.drewN {w : World} {B e : Nat} {v : Value} {l : List UInt8} (h : OwnB w B e v l) (q : Nat) : OwnB (w.drewN q) B e v l := h
def eqB (x s : ByteArray) : Bool := x.toList == s.toList
theorem eqB_iff (x s : ByteArray) : eqB x s = true ↔ x = s := by
  unfold eqB
  rw [beq_iff_eq, Lib.toList_data, Lib.toList_data]
  constructor
  · intro h; exact ByteArray.ext (Array.toList_inj.1 h)
  · rintro rfl; rfl
def amongI (s : ByteArray) (ss : List ByteArray) : Int :=
  match ss.findIdx? (fun x => eqB x s) with
  | some i => (i : Int)
  | none => -1
theorem among_at (s : ByteArray) (ss : List ByteArray) (k : Nat) (hk : k < ss.length) (h : eqB (ss.getD k .empty) s = true) (hno : ∀ j, j < k → eqB (ss.getD j .empty) s = false) : amongI s ss = k := by
  have : ss.findIdx? (fun x => eqB x s) = some k := by
    rw [List.findIdx?_eq_some_iff_getElem]
    refine ⟨hk, ?_, fun j hj => ?_⟩
    · rw [List.getD_eq_getElem?_getD, List.getElem?_eq_getElem hk] at h
      exact h
    · have h2 := hno j hj
      rw [List.getD_eq_getElem?_getD, List.getElem?_eq_getElem (by omega)] at h2
      simpa using h2
  rw [amongI, this]
theorem among_no (s : ByteArray) (ss : List ByteArray) (hno : ∀ j, j < ss.length → eqB (ss.getD j .empty) s = false) : amongI s ss = -1 := by
  have : ss.findIdx? (fun x => eqB x s) = none := by
    rw [List.findIdx?_eq_none_iff]
    intro x hx
    obtain ⟨j, hj, rfl⟩ := List.getElem_of_mem hx
    have h2 := hno j hj
    rw [List.getD_eq_getElem?_getD, List.getElem?_eq_getElem hj] at h2
    exact h2
  rw [amongI, this]
set_option maxHeartbeats 400000 in
theorem among_any (s : ByteArray) (A : Option Addr) (n c : Nat) (ss : List ByteArray) (hn : n ≤ 16777216) (W : World) (h : Texts W A n ss) :
    Calls Tryz.prog 47 #[.string s, .slice A n c] W fun e w' => e = .returned (.int .i64 (amongI s ss)) ∧ W = w' := by
  obtain ⟨hl, hA⟩ := h
  have HL := Lib.hid hl
  have HA := Lib.hid hA
  clear hl hA
  go_enter Tryz.func47, Tryz.ntmps47
  go_wp2
  go_loop [9] (fun i => ∃ k : Nat, k ≤ n ∧ i = .int .i64 k ∧ Hid (∀ j, j < k → eqB (ss.getD j .empty) s = false)) (fun i => n - (intOf i).toNat)
  case atStart => exact ⟨0, Nat.zero_le _, rfl, fun j hj => absurd hj (by omega)⟩
  case round =>
    obtain ⟨k, hk, rfl, hno⟩ := hrel
    by_cases hkn : k < n
    · obtain ⟨b, off, rfl, hb, hc⟩ := HA.out (by omega)
      have c0 := hc k hkn
      obtain ⟨x, hx⟩ : ∃ x, x = ss.getD k .empty := ⟨_, rfl⟩
      rw [← hx] at c0
      have HX := Lib.hid hx
      clear hc hx
      by_cases he : eqB x s = true
      · have e := among_at s ss k (by rw [HL.out]; exact hkn) (by rw [← HX.out]; exact he) hno.out
        have E := Lib.hid e
        have he' : (x.toList == s.toList) = true := he
        clear e he
        go_wp2
        go_ret
        exact ⟨by rw [E.out]; rfl, rfl⟩
      · have he' : (x.toList == s.toList) = false := by simpa [eqB] using he
        have hno' : Hid (∀ j, j < k + 1 → eqB (ss.getD j .empty) s = false) := fun j hj => by
          rcases (by omega : j < k ∨ j = k) with h | rfl
          · exact hno.out j h
          · rw [← HX.out]; simpa using he
        clear he
        go_wp2
        go_round
        case rel => exact ⟨k + 1, by omega, by go_num, hno'⟩
        case measure => simp [intOf]; omega
    · obtain rfl : k = n := by omega
      have e := among_no s ss (by rw [HL.out]; exact hno.out)
      have E := Lib.hid e
      clear e
      go_wp2
      go_ret
      exact ⟨by rw [E.out]; rfl, rfl⟩
def joinB (sep : ByteArray) (ss : List ByteArray) : List UInt8 := Lib.join (ss.map (·.data.toList)) sep.data.toList
set_option maxHeartbeats 400000 in
theorem join_any (sep : ByteArray) (A : Option Addr) (n c : Nat) (ss : List ByteArray) (hn : n ≤ 16777216) (hc : n ≤ c) (hlen : (joinB sep ss).length ≤ 140737488355328) (W : World) (h : Texts W A n ss) :
    Calls Tryz.prog 19 #[.string sep, .slice A n c] W fun e w' => e = .returned (.string ⟨(joinB sep ss).toArray⟩) ∧ Below W.heap.size W w' := by
  obtain ⟨hl, hA⟩ := h
  rcases Nat.eq_zero_or_pos n with h0 | h0
  · subst h0
    have : ss = [] := List.eq_nil_of_length_eq_zero hl
    subst this
    clear hA
    go_enter Tryz.func19, Tryz.ntmps19
    go_wp2_with (go_at_call 31; refine (Tryz.strings_Join_none A c sep _).mono ?_; rintro e w' ⟨rfl, rfl⟩)
    go_ret
    exact ⟨rfl, Below.refl _ _⟩
  · obtain ⟨b, off, rfl, hb, hcell⟩ := hA h0
    subst hl
    have hcs : ∀ (j : Nat) x, ss[j]? = some x → W.cell? ⟨b, off + j, none⟩ = some (.string x) := fun j x hx => by
      have hj : j < ss.length := (List.getElem?_eq_some_iff.1 hx).1
      rw [hcell j hj, List.getD_eq_getElem?_getD, hx]
      rfl
    have HC := Lib.hid (Tryz.strings_Join b off c ss sep W hcs hb (by omega) hc hlen)
    clear hA hcell hcs
    go_enter Tryz.func19, Tryz.ntmps19
    go_wp2_with (go_at_call 31; refine (Calls.mono HC.out ?_); rintro e w' ⟨rfl, hbel⟩)
    go_ret
    exact ⟨rfl, hbel⟩
end Go.Proofs.YtepokdmkdnlbfaaGreatDoor
