/- Two steps behind one another; a slice of numbers that a call writes out. No program. -/
import Derived.Test.YtnhbahfpinijiaaMem
import Derived.Test.YtnhbahfpinijiaaInts
namespace Go.Proofs.Ytnhbahfpinijiaa
open Go.RowKit
set_option linter.unusedVariables false

theorem hop {B : Nat} {a w w' : World} (h : Below B a w) (hB : B ≤ a.heap.size) (h2 : Below w.heap.size w w') : Below B a w' := h.trans (h2.mono (Nat.le_trans hB h.size))
theorem hop_new {B : Nat} {a w w' : World} {o : Obj} (h : Below B a w) (hB : B ≤ a.heap.size) (h2 : Below (w.alloc o).heap.size (w.alloc o) w') : Below B a w' := hop (h.alloc (Nat.le_trans hB h.size) o) hB h2
theorem ints_lit (w : World) (t : TypeId) (zs : List Int) (hw : zs.all (fun z => (Lit.int .i64 z).wf) = true) (g : Nat) (hg : g = w.heap.size) : Ints .i64 (w.alloc (.cells (zs.map (Value.int .i64)).toArray t)) (some ⟨g, 0, none⟩) zs.length zs :=
  ints_new .i64 w t zs (by simpa using hw) g hg

end Go.Proofs.Ytnhbahfpinijiaa
