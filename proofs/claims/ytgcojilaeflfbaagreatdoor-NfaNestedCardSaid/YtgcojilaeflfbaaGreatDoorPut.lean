/- Put: a text in quotes: what the program makes of each byte.
   Put: a text in quotes: the whole of it. -/
import Derived.Test.YtgcojilaeflfbaaGreatDoorRows
import Derived.Test.YtgcojilaeflfbaaGreatDoorMem
import Derived.Deep.RegionLaw
import Derived.Deep.AppendLies
import Derived.Deep.QuietTactic
import Derived.BigQuiet
namespace Go.Proofs.YtgcojilaeflfbaaGreatDoor
open Go.RowKit
set_option linter.unusedVariables false
set_option linter.unusedSimpArgs false

def rareB (b : UInt8) : Bool := decide ((126 : Int) < (b.toNat : Int)) || (decide ((b.toNat : Int) < 32) && (((b.toNat : Int) != 10) && ((b.toNat : Int) != 9)))
def digB (k : Nat) : UInt8 := if k < 10 then UInt8.ofNat (48 + k) else UInt8.ofNat (87 + k)
/-- how a byte is put -/
def formB (b : UInt8) : List UInt8 :=
  if b = 34 ∨ b = 92 then [92, b] else if b = 10 then [92, 110] else if b = 9 then [92, 116]
  else if rareB b = true then [92, 120, digB (b.toNat / 16), digB (b.toNat % 16)] else [b]
theorem formB_len (b : UInt8) : 1 ≤ (formB b).length ∧ (formB b).length ≤ 4 := by
  unfold formB
  split
  · simp
  · split
    · simp
    · split
      · simp
      · split <;> simp

theorem ret_bool {a b : Bool} (h : a = b) : Ending.returned (.bool a) = .returned (.bool b) := by rw [h]
theorem dig_at (q : Nat) (h : q < 16) : (⟨#[48, 49, 50, 51, 52, 53, 54, 55, 56, 57, 97, 98, 99, 100, 101, 102]⟩ : ByteArray)[q]'(by exact h) = digB q := by
  have : ∀ q : Fin 16, (⟨#[48, 49, 50, 51, 52, 53, 54, 55, 56, 57, 97, 98, 99, 100, 101, 102]⟩ : ByteArray)[q.1]'(by exact q.2) = digB q.1 := by decide
  exact this ⟨q, h⟩
theorem infoU8 : (Tryz.prog.info? 5).map (fun i => (i.zero, i.size, i.bytes)) = some (some (.int .u8 0), 1, 1) := by kernel_rfl

end Go.Proofs.YtgcojilaeflfbaaGreatDoor
namespace Go.Proofs.YtgcojilaeflfbaaGreatDoor
open Go.RowKit
set_option linter.unusedVariables false
set_option linter.unusedSimpArgs false

def putB (l : List UInt8) : List UInt8 := 34 :: (l.flatMap formB ++ [34])
theorem flat_len (l : List UInt8) : l.length ≤ (l.flatMap formB).length ∧ (l.flatMap formB).length ≤ 4 * l.length := by
  induction l with
  | nil => simp
  | cons b l ih =>
    have := formB_len b
    simp only [List.flatMap_cons, List.length_append, List.length_cons]
    omega
theorem take_flat (s : ByteArray) (k : Nat) (h : k < s.size) : (s.data.toList.take (k + 1)).flatMap formB = (s.data.toList.take k).flatMap formB ++ formB s[k] := by
  rw [List.take_succ_eq_append_getElem (by simpa using h), List.flatMap_append]
  simp
  rfl
theorem made_own {w : World} (n : Nat) (e : Nat) (B : Nat) (hB : B ≤ w.heap.size) (hn : n ≤ 16777216) : OwnB (w.alloc (.cells (madeCells #[.int .u8 0] n) e)) B e (.slice (some ⟨w.heap.size, 0, none⟩) 0 n) [] :=
  World.ownsRow_made w _ n hB (by unfold maxLen; omega) (by simp [madeCells])

end Go.Proofs.YtgcojilaeflfbaaGreatDoor
