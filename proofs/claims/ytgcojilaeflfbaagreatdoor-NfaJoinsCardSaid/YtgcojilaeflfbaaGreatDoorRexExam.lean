-- shaken
import Derived.Test.YtgcojilaeflfbaaGreatDoorRexTellD
import Derived.Test.YtgcojilaeflfbaaGreatDoorRexRight
import Derived.Test.YtgcojilaeflfbaaGreatDoorRexParse
namespace Go.Proofs.YtgcojilaeflfbaaGreatDoor
open Go.RowKit
set_option linter.unusedVariables false
set_option linter.unusedSimpArgs false
theorem parseB_nf {l : List UInt8} {n : NodeT} {a e : Int} (h : parseB l = (n, a, e)) : NF n := by
  unfold parseB at h
  split at h
  · cases h; exact .nil
  · cases hx : exprP (l.length + 1) false l with
    | bad k => rw [hx] at h; cases h; exact .nil
    | ok m r =>
      rw [hx] at h
      replace h : (if 200 < sizeT m then (NodeT.nil, (l.length : Int) - (r.length : Int), (4 : Int)) else (m, (l.length : Int) - (r.length : Int), 0)) = (n, a, e) := h
      split at h
      · cases h; exact .nil
      · cases h; exact exprP_nf _ _ _ _ _ hx
end Go.Proofs.YtgcojilaeflfbaaGreatDoor
