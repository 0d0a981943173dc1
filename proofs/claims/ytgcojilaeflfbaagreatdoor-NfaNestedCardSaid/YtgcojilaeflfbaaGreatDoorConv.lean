/- Bytes that are written out, as a text. -/
import Derived.Test.YtgcojilaeflfbaaGreatDoorBase
import Derived.Test.YtgcojilaeflfbaaGreatDoorPut
import Derived.Laws.OwnMore
namespace Go.Proofs.YtgcojilaeflfbaaGreatDoor
open Go.RowKit
set_option linter.unusedVariables false
set_option linter.unusedSimpArgs false

theorem own_new (w : World) (l : List UInt8) (B : Nat) (hB : B ≤ w.heap.size) (hl : l.length ≤ 16777216) : OwnB (w.alloc (.cells (bV l).toArray 5)) B 5 (.slice (some ⟨w.heap.size, 0, none⟩) l.length l.length) l := by
  have h := World.ownsRow_lit (base := B) (e := 5) (size := 1) w (bV l).toArray l.length hB (by unfold maxLen; omega) (by simp [bV])
  simpa [OwnB] using h
theorem conv_own {w : World} {B : Nat} {v : Value} {l : List UInt8} (h : OwnB w B 5 v l) : (convert 22 9 v).run Tryz.prog w = .ok (.string ⟨l.toArray⟩) w :=
  own_text (P := Tryz.prog) h Tryz.underlying22 Tryz.underlying5 Tryz.underlying9
theorem conv_oneN (w : World) (n : Nat) (h : n < 256) : (convert 22 9 (.slice (some ⟨w.heap.size, 0, none⟩) 1 1)).run Tryz.prog (w.alloc (.cells #[.int .u8 (n : Int)] 5)) = .ok (.string ⟨#[UInt8.ofNat n]⟩) (w.alloc (.cells #[.int .u8 (n : Int)] 5)) := by
  have h2 : (UInt8.ofNat n).toNat = n := by simp; omega
  have h3 := conv_own (own_new w [UInt8.ofNat n] 0 (Nat.zero_le _) (by simp))
  simpa [bV, h2] using h3
/-- three bytes, and what was drawn since -/
theorem conv_three (w : World) (x y z q : Nat) (hx : x < 256) (hy : y < 256) (hz : z < 256) : (convert 22 9 (.slice (some ⟨w.heap.size, 0, none⟩) 3 3)).run Tryz.prog ((w.alloc (.cells #[.int .u8 (x : Int), .int .u8 (y : Int), .int .u8 (z : Int)] 5)).drewN q) = .ok (.string ⟨#[UInt8.ofNat x, UInt8.ofNat y, UInt8.ofNat z]⟩) ((w.alloc (.cells #[.int .u8 (x : Int), .int .u8 (y : Int), .int .u8 (z : Int)] 5)).drewN q) := by
  have h2 : (UInt8.ofNat x).toNat = x := by simp; omega
  have h3 : (UInt8.ofNat y).toNat = y := by simp; omega
  have h4 : (UInt8.ofNat z).toNat = z := by simp; omega
  have h5 := conv_own (w := (w.alloc (.cells (bV [UInt8.ofNat x, UInt8.ofNat y, UInt8.ofNat z]).toArray 5)).drewN q) (own_new w [UInt8.ofNat x, UInt8.ofNat y, UInt8.ofNat z] 0 (Nat.zero_le _) (by simp))
  simpa [bV, h2, h3, h4] using h5
end Go.Proofs.YtgcojilaeflfbaaGreatDoor
