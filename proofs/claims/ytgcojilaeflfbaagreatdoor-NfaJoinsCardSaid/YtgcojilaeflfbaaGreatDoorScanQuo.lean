-- shaken
import Derived.Test.YtgcojilaeflfbaaGreatDoorScan
import Derived.Test.YtgcojilaeflfbaaGreatDoorGet
import Derived.Test.YtgcojilaeflfbaaGreatDoorBase
import Derived.Laws.ResultCell
namespace Go.Proofs.YtgcojilaeflfbaaGreatDoor
open Go.RowKit
set_option linter.unusedVariables false
set_option linter.unusedSimpArgs false
theorem Blk.kept {w w' : World} {g b : Nat} {t : TypeId} {cs : Array Value} (h : Blk w g t cs) (hg : w.grownBy w' (some b)) (hb : g ≠ b) : Blk w' g t cs := (hg.block g h.lt (fun e => hb (by injection e))).trans h
theorem one_text (w : World) (s : ByteArray) : Texts (w.alloc (.cells #[.string s] 9)) (some ⟨w.heap.size, 0, none⟩) 1 [s] := ⟨rfl, fun _ => ⟨_, 0, rfl, by simp, fun j hj => by
  obtain rfl : j = 0 := by omega
  rw [(Blk.new w _ #[.string s]).cell 0]; rfl⟩⟩
theorem Rd.far {w : World} {b : Nat} {ty : TypeId} {cs : Array Value} {t : ByteArray} {k : Nat} (h : Rd w b ty cs t k) {p : Addr} (hp : b ≠ p.block) (v : Value) : Rd (w.setCell p v) b ty cs t k := ⟨h.blk.far hp v, h.c0, h.c1, h.le, h.sz⟩
theorem grown_new {W w : World} {row : Option Nat} (h : W.grownBy w row) {p : Addr} (hp : W.heap.size ≤ p.block) (v : Value) : W.grownBy (w.setCell p v) row :=
  ⟨h.os, h.tape, h.output, by simp [World.setCell]; exact h.size, fun k hk hr => (Below.heap_setCell w p v k (by omega)).trans (h.block k hk hr)⟩
theorem Blk.stays {w w' : World} {g : Nat} {t : TypeId} {cs : Array Value} {row : Option Nat} (h : Blk w g t cs) (hg : w.grownBy w' row) (hr : row = some g → False) : Blk w' g t cs := (hg.block g h.lt (fun e => hr e.symm)).trans h
end Go.Proofs.YtgcojilaeflfbaaGreatDoor
namespace Go.Proofs.YtgcojilaeflfbaaGreatDoor
open Go.RowKit
set_option linter.unusedVariables false
set_option linter.unusedSimpArgs false
def atL (t : ByteArray) (k : Nat) : List UInt8 := t.data.toList.drop k
theorem mid_list (p : ByteArray) (i j : Nat) : (p.extract i j).data.toList = (p.data.toList.take j).drop i := by
  rw [ByteArray.data_extract, Array.toList_extract]
  simp [List.extract, List.drop_take]
theorem rest_list (t : ByteArray) (k : Nat) : (t.extract k t.size).data.toList = atL t k := by
  rw [mid_list, List.take_of_length_le (by rw [size_toList]; exact Nat.le_refl _)]
  rfl
theorem at_add (t : ByteArray) (k : Nat) (a b : List UInt8) (h : atL t k = a ++ b) : atL t (k + a.length) = b := by
  unfold atL at *
  rw [← List.drop_drop, h]
  simp
theorem prefB_list (s p : ByteArray) : prefB s p = p.data.toList.isPrefixOf s.data.toList := by
  rw [Bool.eq_iff_iff, List.isPrefixOf_iff_prefix]
  unfold prefB
  rw [Bool.and_eq_true, decide_eq_true_iff, decide_eq_true_iff]
  constructor
  · rintro ⟨h1, h2⟩
    have h3 : (s.extract 0 p.size).data.toList = p.data.toList := by rw [h2]
    rw [mid_list, List.drop_zero] at h3
    rw [← h3]
    exact List.take_prefix _ _
  · intro h
    have hl := h.length_le
    rw [size_toList, size_toList] at hl
    refine ⟨hl, text_ext1 ?_⟩
    rw [mid_list, List.drop_zero, ← size_toList]
    exact (List.prefix_iff_eq_take.1 h).symm
theorem takeR_at (t : ByteArray) (k : Nat) (ss : List ByteArray) : takeR t k ss = ss.find? (fun s => s.data.toList.isPrefixOf (atL t k)) := by
  unfold takeR
  congr 1
  funext s
  rw [prefB_list, rest_list]
def tx (l : List UInt8) : ByteArray := ⟨l.toArray⟩
theorem tx_list (l : List UInt8) : (tx l).data.toList = l := by unfold tx; simp
theorem run_at (p : UInt8 → Bool) (t : ByteArray) (k : Nat) : runTo p t k = k + ((atL t k).takeWhile p).length := rfl
theorem run_tx (p : UInt8 → Bool) (t : ByteArray) (k : Nat) : t.extract k (runTo p t k) = tx ((atL t k).takeWhile p) := by
  refine text_ext1 ?_
  rw [tx_list, mid_list, run_at, List.drop_take, show k + ((atL t k).takeWhile p).length - k = ((atL t k).takeWhile p).length by omega]
  exact (List.prefix_iff_eq_take.1 (List.takeWhile_prefix p)).symm
theorem at_drop_add (t : ByteArray) (k n : Nat) : atL t (k + n) = (atL t k).drop n := by
  unfold atL
  rw [List.drop_drop]
theorem at_len (t : ByteArray) (k : Nat) : (atL t k).length = t.size - k := by
  unfold atL
  rw [List.length_drop, size_toList]
theorem at_cons (t : ByteArray) (k : Nat) (hk : k < t.size) : atL t k = t[k] :: atL t (k + 1) := by
  unfold atL
  have hl : k < t.data.toList.length := by rw [size_toList]; exact hk
  rw [List.drop_eq_getElem_cons hl]
  rfl
theorem at_end (t : ByteArray) (k : Nat) (hk : t.size ≤ k) : atL t k = [] := List.drop_eq_nil_of_le (by rw [size_toList]; exact hk)
theorem at_nil (t : ByteArray) (k : Nat) (h : atL t k = []) : t.size ≤ k := by
  have := at_len t k
  rw [h] at this
  simp only [List.length_nil] at this
  omega
end Go.Proofs.YtgcojilaeflfbaaGreatDoor
