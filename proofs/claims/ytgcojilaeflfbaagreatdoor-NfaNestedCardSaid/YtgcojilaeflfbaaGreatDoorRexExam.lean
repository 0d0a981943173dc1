/- The chapter's examples: the walk of examples. -/
import Derived.Test.YtgcojilaeflfbaaGreatDoorRexTellD
import Derived.Test.YtgcojilaeflfbaaGreatDoorRexRight
import Derived.Test.YtgcojilaeflfbaaGreatDoorRexParse
namespace Go.Proofs.YtgcojilaeflfbaaGreatDoor
open Go.RowKit
set_option linter.unusedVariables false
set_option linter.unusedSimpArgs false

theorem tell_ext {s : ByteArray} {l : List UInt8} (h : s.data.toList = l) : s = ⟨l.toArray⟩ := by
  subst h
  rfl
theorem parseB_nf {l : List UInt8} {n : NodeT} {a e : Int} (h : parseB l = (n, a, e)) : NF n := by
  unfold parseB at h
  split at h
  · cases h; exact .nil
  · cases hx : exprP (l.length + 1) false l with
    | bad k => rw [hx] at h; cases h; exact .nil
    | ok m r =>
      rw [hx] at h
      replace h : (if 200 < sizeT m then (NodeT.nil, (l.length : Int) - (r.length : Int), (4 : Int)) else (m, (l.length : Int) - (r.length : Int), 0)) = (n, a, e) := h
      split at h
      · cases h; exact .nil
      · cases h; exact exprP_nf _ _ _ _ _ hx
def exT : NodeT := .mk 5 0 0 0 [.mk 4 0 0 0 [.one (oneB 97), .rep (.one (oneB 98)) 0 (-1)], .one (withB 0 97 99)]
theorem exT_put : putT exT = [97, 98, 42, 124, 91, 97, 45, 99, 93] := by kernel_rfl
theorem exT_size : sizeT exT = 5 := by kernel_rfl
theorem exT_right : rightT exT = true := by kernel_rfl
theorem exT_same : sameT exT exT = true := by kernel_rfl
theorem ex_many : manyB (withB 0 5 7) = 3 := by decide +kernel
theorem ex_has : (withB 0 5 7).testBit 6 = true := by decide +kernel
theorem exm_parse1 : parseB [40, 97, 41, 98, 42, 124, 91, 97, 45, 99, 93] = (exT, 11, 0) := by kernel_rfl
theorem exm_parse2 : parseB [97, 41] = (.nil, 1, 2) := by kernel_rfl
theorem exm_parse3 : parseB [40, 97] = (.nil, 2, 2) := by kernel_rfl
theorem exm_parse4 : parseB [97, 42, 42] = (.nil, 2, 2) := by kernel_rfl
theorem exm_parse5 : parseB [40, 40, 40, 97, 123, 50, 48, 125, 41, 123, 50, 48, 125, 41, 41] = (.nil, 15, 4) := by kernel_rfl
end Go.Proofs.YtgcojilaeflfbaaGreatDoor
