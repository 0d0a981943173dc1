-- shaken
import Derived.Lib.ItoaNum
import Derived.Lib.ItoaLen
import Derived.Lib.ItoaMem
import Derived.Lib.ParseIntBTie
import Derived.Test.YtkkpmhdhoppojaaGreatDoorRows
import Derived.Test.YtkkpmhdhoppojaaGreatDoorMem
import Derived.Test.YtkkpmhdhoppojaaGreatDoorBase
import Derived.RowKit
import Derived.WalkLawsBesides
import Derived.Test.YtkkpmhdhoppojaaGreatDoorShelf
import Derived.Lib.AppendIntMem
import Derived.Lib.AtoiErrMem
import Derived.Lib.SmallJoins
namespace Go.Proofs.YtkkpmhdhoppojaaGreatDoor
set_option linter.unusedVariables false
set_option linter.unusedSimpArgs false
open Go.Lib
def itoaS (v : Int) : ByteArray := ⟨(itoa v).toArray⟩

open Go.RowKit
structure LibIs (w : World) : Prop where
  tab : Lib.TabIs Tryz.prog w "internal/strconv.uint64pow10" .u64 Lib.pow10Tab
  syn : ∃ tp p, w.var? Tryz.prog "strconv.ErrSyntax" = some #[.iface tp p]
  rng : ∃ tp p, w.var? Tryz.prog "strconv.ErrRange" = some #[.iface tp p]
theorem libVar {w w' : World} {n : String} {cs : Array Value} (h : w.var? Tryz.prog n = some cs) (hb : Below w.heap.size w w') : w'.var? Tryz.prog n = some cs := by
  unfold World.var? at *
  cases hg : Tryz.prog.globalNamed n with
  | none => simp [hg] at h
  | some g =>
    simp only [hg, Option.bind_some] at h ⊢
    have hlt : g < w.heap.size := by
      rcases Nat.lt_or_ge g w.heap.size with h' | h'
      · exact h'
      · rw [Array.getElem?_eq_none h'] at h; simp at h
    rw [hb.block g hlt]
    exact h
theorem LibIs.below {w w' : World} (h : LibIs w) (hb : Below w.heap.size w w') : LibIs w' :=
  ⟨libVar h.tab hb, by obtain ⟨tp, p, e⟩ := h.syn; exact ⟨tp, p, libVar e hb⟩, by obtain ⟨tp, p, e⟩ := h.rng; exact ⟨tp, p, libVar e hb⟩⟩
end Go.Proofs.YtkkpmhdhoppojaaGreatDoor
