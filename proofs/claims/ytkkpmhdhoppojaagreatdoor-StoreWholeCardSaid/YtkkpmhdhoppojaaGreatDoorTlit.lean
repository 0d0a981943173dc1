-- shaken
import Derived.Test.YtkkpmhdhoppojaaGreatDoorMem
import Derived.Test.YtkkpmhdhoppojaaGreatDoorBase
import Derived.Test.YtkkpmhdhoppojaaGreatDoorRows
namespace Go.Proofs.YtkkpmhdhoppojaaGreatDoor
open Go.RowKit
set_option linter.unusedVariables false
theorem tlit (w : World) (l : List ByteArray) (g : Nat) (hg : g = w.heap.size) (i : Nat) (hi : i < l.length) : (w.alloc (.cells (l.map Value.string).toArray 9)).cell? ⟨g, i, none⟩ = some (.string (l.getD i .empty)) := by
  subst hg
  rw [(Blk.new w 9 (l.map Value.string).toArray).cell i, List.getElem?_toArray, List.getElem?_map, List.getElem?_eq_getElem hi, List.getD_eq_getElem?_getD, List.getElem?_eq_getElem hi]
  rfl
theorem told (w : World) (o : Obj) (b i : Nat) (hb : b < w.heap.size) {v : Value} (h : w.cell? ⟨b, i, none⟩ = some v) : (w.alloc o).cell? ⟨b, i, none⟩ = some v := (World.cell?_of_block (heap_alloc_old w o hb)).trans h
theorem blk_next (w : World) (o : Obj) (t : TypeId) (cs : Array Value) : Blk ((w.alloc o).alloc (.cells cs t)) (w.heap.size + 1) t cs := by
  have h := Blk.new (w.alloc o) t cs
  rwa [show (w.alloc o).heap.size = w.heap.size + 1 by simp] at h
end Go.Proofs.YtkkpmhdhoppojaaGreatDoor
