/- What an entry is read as: the walk of Parse. -/
import Derived.Test.YtilcanblgdmecaaEntRow
import Derived.Test.YtilcanblgdmecaaEntPut
import Derived.Test.YtilcanblgdmecaaSkip
import Derived.Test.YtilcanblgdmecaaItems
namespace Go.Proofs.Ytilcanblgdmecaa
open Go.RowKit
set_option linter.unusedVariables false
set_option linter.unusedSimpArgs false

theorem results_row_tmp2 {P : Program} {fn : Func} {p u v : Tmp} {ty : TypeId} (h : fn.results = #[.cell p ty, .tmp u, .tmp v]) (tmps : Array Value) (w : World) (g : Nat) (t : TypeId) (cs : Array Value) (fr : Nat × Nat) (d : TypeDesc)
    (hp : tmps.getD p undef = .pointer (some ⟨g, 0, none⟩)) (hg : w.heap[g]? = some (.cells cs t fr))
    (hu : P.underlying ty = some d) (hd : (match d with | .struct _ | .array _ _ => true | _ => false) = true) (hi : (P.info? ty).map (·.size) = some cs.size) :
    (results fn tmps).run P w = .ok (.tuple #[.agg cs, tmps.getD u undef, tmps.getD v undef]) w := by
  have hp' : tmps[p]?.getD undef = .pointer (some ⟨g, 0, none⟩) := by simpa using hp
  simp only [results, h]
  simp [Sem.run_bind, hp', asAddr, run_loadVar_row w g t ty cs fr d hg hu hd hi, Result.andThen]

/-- what the call answers -/
def entV (x : EntX) (o : Option (EntB × Nat)) : Value := .tuple #[x.val, .int .i64 (((o.map (·.2)).getD 0 : Nat) : Int), .bool o.isSome]
def entOf (o : Option (EntB × Nat)) : EntB := (o.map (·.1)).getD xnil.b
theorem good_nil (B : Nat) (w : World) : Good B w xnil := ⟨⟨pairs_none w, fun h => absurd h (by decide)⟩, by decide, by decide, by decide⟩
theorem set_by {B : Nat} {w : World} {A : Option Addr} {n g i : Nat} {ls : List PairB} {t : TypeId} {cs : Array Value} (h : SetAt B w A n ls) (hb : Blk w g t cs) (ht : t ≠ 92) (hB : B ≤ g) (u : Value) : SetAt B (w.setCell ⟨g, i, none⟩ u) A n ls :=
  h.grown (r := some g) ⟨rfl, rfl, rfl, by simp, fun k hk hne => Below.heap_setCell w ⟨g, i, none⟩ u k (fun e => hne (by rw [e]))⟩ (fun b hb' => by injection hb' with hb'; subst hb'; exact ⟨hB, _, _, ht, hb⟩)
theorem set_kept {B : Nat} {w w' : World} {A : Option Addr} {n g : Nat} {ls : List PairB} {t : TypeId} {cs : Array Value} (h : SetAt B w A n ls) (hb : Blk w g t cs) (ht : t ≠ 92) (hB : B ≤ g) (hg : w.grownBy w' (some g)) : SetAt B w' A n ls :=
  h.grown hg (fun b hb' => by injection hb' with hb'; subst hb'; exact ⟨hB, _, _, ht, hb⟩)

end Go.Proofs.Ytilcanblgdmecaa
