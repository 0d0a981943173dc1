import Derived.Test.YtmdpdffifpbbeaaPieces
import Derived.RegionTactic
import Derived.ChangeAlike
import Derived.BigRegion
namespace Go.Proofs.Ytmdpdffifpbbeaa
open Go.RowKit

def rv (l : List (Int × Int)) (k : Nat) : List (Int × Int) := (List.range l.length).map fun i => if i < k ∨ l.length - k ≤ i then l.getD (l.length - 1 - i) (0, 0) else l.getD i (0, 0)
theorem rv_len (l : List (Int × Int)) (k : Nat) : (rv l k).length = l.length := by simp [rv]
theorem cells_at (l : List (Int × Int)) (i : Nat) (h : i < l.length) : (spanCells l).toArray[i * 2]? = some (.int .i64 (l.getD i (0, 0)).1) ∧ (spanCells l).toArray[i * 2 + 1]? = some (.int .i64 (l.getD i (0, 0)).2) := by
  induction l generalizing i with
  | nil => simp at h
  | cons p l ih =>
    match i with
    | 0 => simp [spanCells]
    | i + 1 =>
      have := ih i (by simpa using h)
      have e : (i + 1) * 2 = i * 2 + 1 + 1 := by omega
      rw [e]
      simpa [spanCells] using this
theorem set_span (l : List (Int × Int)) (i : Nat) (h : i < l.length) (p : Int × Int) :
    ((spanCells l).toArray.setIfInBounds (i * 2) (.int .i64 p.1)).setIfInBounds (i * 2 + 1) (.int .i64 p.2) = (spanCells (l.set i p)).toArray := by
  induction l generalizing i with
  | nil => simp at h
  | cons q l ih =>
    match i with
    | 0 => simp [spanCells, List.setIfInBounds_toArray]
    | i + 1 =>
      have := ih i (by simpa using h)
      have e : (i + 1) * 2 = i * 2 + 1 + 1 := by omega
      rw [e]
      simp [spanCells, List.setIfInBounds_toArray] at this ⊢
      exact this
theorem rv_step (l : List (Int × Int)) (k m : Nat) (hm : m + k + 1 = l.length) (hk : k < m) :
    ((rv l k).set k ((rv l k).getD m (0, 0))).set m ((rv l k).getD k (0, 0)) = rv l (k + 1) := by
  have gk : (rv l k).getD k (0, 0) = l.getD k (0, 0) := by
    simp [rv, List.getD_eq_getElem?_getD, show k < l.length by omega]
    intro h; omega
  have gm : (rv l k).getD m (0, 0) = l.getD m (0, 0) := by
    simp [rv, List.getD_eq_getElem?_getD, show m < l.length by omega, show ¬ (m < k) by omega]
    intro h; omega
  rw [gk, gm]
  apply List.ext_getElem
  · simp [rv_len]
  · intro i h1 h2
    have hi : i < l.length := by simpa [rv_len] using h2
    simp only [List.getElem_set]
    by_cases e1 : m = i
    · subst e1
      have c : m < k + 1 ∨ l.length - (k + 1) ≤ m := by omega
      simp only [List.getElem_map, List.getElem_range, rv, if_pos c, show l.length - 1 - m = k by omega, if_true]
    · by_cases e2 : k = i
      · subst e2
        simp [e1, rv, show l.length - 1 - k = m by omega]
      · simp only [e1, e2, if_false]
        simp only [rv, List.getElem_map, List.getElem_range]
        by_cases c : i < k ∨ l.length - k ≤ i
        · rw [if_pos c, if_pos (by omega)]
        · rw [if_neg c, if_neg (by omega)]
theorem rv_end (l : List (Int × Int)) (k : Nat) (h : l.length ≤ k + k + 1) : rv l k = l.reverse := by
  apply List.ext_getElem
  · simp [rv_len]
  · intro i h1 h2
    have hi : i < l.length := by simpa [rv_len] using h1
    rw [List.getElem_reverse]
    simp only [rv, List.getElem_map, List.getElem_range]
    by_cases c : i < k ∨ l.length - k ≤ i
    · rw [if_pos c, List.getD_eq_getElem?_getD, List.getElem?_eq_getElem (by omega)]; rfl
    · rw [if_neg c, List.getD_eq_getElem?_getD, List.getElem?_eq_getElem (by omega)]
      have : l.length - 1 - i = i := by omega
      simp [this]
theorem rv_zero (l : List (Int × Int)) : rv l 0 = l := by
  apply List.ext_getElem
  · simp [rv_len]
  · intro i h1 h2
    simp [rv, show ¬ (l.length ≤ i) by omega, List.getD_eq_getElem?_getD, h2]

set_option maxHeartbeats 400000 in
theorem reverse_any (l : List (Int × Int)) (g n B : Nat) (hl : l.length = n) (hn : 1 ≤ n) (hn1 : n ≤ 64) (W : World) (hb : Blk W g 35 (spanCells l).toArray) (hB : B ≤ g) :
    Calls Try.prog 15 #[.slice (some ⟨g, 0, none⟩) n n] W fun e w' => e = .returned (.tuple #[]) ∧ Blk w' g 35 (spanCells l.reverse).toArray ∧ Below B W w' := by
  have HL := Lib.hid hl
  clear hl
  go_enter Try.func15, Try.ntmps15
  go_wp2
  go_loopw [2, 3] (fun i j wr => ∃ k : Nat, k + k ≤ n + 1 ∧ i = .int .i64 k ∧ j = .int .i64 ((n : Int) - 1 - k) ∧ Blk wr g 35 (spanCells (rv l k)).toArray ∧ Below B W wr) (fun i j _ => (intOf j - intOf i).toNat)
  case atStart => exact ⟨0, by omega, rfl, by simp, by rw [rv_zero]; exact hb, Below.refl _ _⟩
  case round =>
    obtain ⟨k, hk, rfl, rfl, hbr, hbel⟩ := hrel
    by_cases hkm : (k : Int) < (n : Int) - 1 - k
    · obtain ⟨m, hm⟩ : ∃ m : Nat, (n : Int) - 1 - k = m := ⟨n - 1 - k, by omega⟩
      rw [hm]
      have hm2 : k < m := by omega
      have hm3 : m < n := by omega
      have hm4 : k < n := by omega
      have HM := Lib.hid hm
      clear hm hkm
      obtain ⟨a1, a2⟩ := cells_at (rv l k) k (by rw [rv_len, HL.out]; omega)
      obtain ⟨b1, b2⟩ := cells_at (rv l k) m (by rw [rv_len, HL.out]; omega)
      obtain ⟨x, hx⟩ : ∃ x, x = (rv l k).getD k (0, 0) := ⟨_, rfl⟩
      obtain ⟨y, hy⟩ : ∃ y, y = (rv l k).getD m (0, 0) := ⟨_, rfl⟩
      rw [← hx, ← hbr.cell] at a1 a2
      rw [← hy, ← hbr.cell] at b1 b2
      have HX := Lib.hid hx
      have HY := Lib.hid hy
      clear hx hy
      have f1 := hbr.frozen (k * 2)
      have f2 := hbr.frozen (k * 2 + 1)
      have f3 := hbr.frozen (m * 2)
      have f4 := hbr.frozen (m * 2 + 1)
      go_wp2
      go_region
      all_goals go_wp2
      all_goals
        go_roundw
        case rel =>
          have hm := HM.out
          refine ⟨k + 1, by omega, by go_num, ?_, ?_, ?_⟩
          · congr 1
            omega
          · have hln := HL.out
            rw [← rv_step l k m (by omega) hm2, ← HX.out, ← HY.out, ← set_span _ m (by simp [rv_len]; omega), ← set_span _ k (by rw [rv_len]; omega)]
            exact ((((hbr.drew).set_ (k * 2) (.int .i64 y.1)).set_ (k * 2 + 1) (.int .i64 y.2)).set_ (m * 2) (.int .i64 x.1)).set_ (m * 2 + 1) (.int .i64 x.2)
          · exact ((((hbel.drew.setCell hB _).setCell hB _).setCell hB _).setCell hB _)
        case measure => simp [intOf]; omega
    · go_wp2
      go_end0
      refine ⟨rfl, ?_, hbel⟩
      rwa [rv_end l k (by rw [HL.out]; omega)] at hbr
end Go.Proofs.Ytmdpdffifpbbeaa
