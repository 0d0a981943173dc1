/- A label that is read.
   A label that is read: its name, its value.
   A set that is read. -/
import Derived.Test.YtimmfmgnjpcdoaaLabRight
import Derived.Test.YtimmfmgnjpcdoaaScanQuo
import Derived.Test.YtimmfmgnjpcdoaaBase
import Derived.Test.YtimmfmgnjpcdoaaLabOf
import Derived.Laws.ResultCell
namespace Go.Proofs.Ytimmfmgnjpcdoaa
set_option linter.unusedVariables false
set_option linter.unusedSimpArgs false
end Go.Proofs.Ytimmfmgnjpcdoaa
namespace Go.Proofs.Ytimmfmgnjpcdoaa
open Go.RowKit Go.Sort
set_option linter.unusedVariables false
set_option linter.unusedSimpArgs false

def eqS : ByteArray := ⟨#[61]⟩
/-- the label at k, whether it is one, and how far it is read -/
def pairR (t : ByteArray) (k : Nat) : PairB × Bool × Nat :=
  match takeR t (runTo (goodK [0, 1, 2]) t k) [eqS] with
  | some _ => ((t.extract k (runTo (goodK [0, 1, 2]) t k), ⟨(quoR t (runTo (goodK [0, 1, 2]) t k + 1)).1.toArray⟩), (quoR t (runTo (goodK [0, 1, 2]) t k + 1)).2.2, runTo (goodK [0, 1, 2]) t k + 1 + (quoR t (runTo (goodK [0, 1, 2]) t k + 1)).2.1)
  | none => (pnil, false, runTo (goodK [0, 1, 2]) t k)
theorem takeR_one {t : ByteArray} {k : Nat} {s x : ByteArray} (h : takeR t k [s] = some x) : x = s := by
  unfold takeR at h
  have := List.mem_of_find?_eq_some h
  simpa using this
theorem takeTo_le {t : ByteArray} {k : Nat} {ss : List ByteArray} {x : ByteArray} (hk : k ≤ t.size) (h : takeR t k ss = some x) : k + x.size ≤ t.size := by
  unfold takeR at h
  have h2 := List.find?_some h
  have h3 := prefB_size h2
  rw [ByteArray.size_extract] at h3
  omega
end Go.Proofs.Ytimmfmgnjpcdoaa
namespace Go.Proofs.Ytimmfmgnjpcdoaa
open Go.RowKit Go.Sort
set_option linter.unusedVariables false
set_option linter.unusedSimpArgs false

def lbT : ByteArray := ⟨#[123]⟩
def rbT : ByteArray := ⟨#[125]⟩
def cmT : ByteArray := ⟨#[44]⟩
/-- labels, one behind the other, from k on -/
def goP (t : ByteArray) : Nat → Nat → List PairB → Option (List PairB × Nat)
  | 0, _, _ => none
  | f + 1, k, acc =>
    if (pairR t k).2.1 = true then
      match takeR t (pairR t k).2.2 [cmT, rbT] with
      | none => none
      | some s => if s = cmT then goP t f ((pairR t k).2.2 + 1) (acc ++ [(pairR t k).1]) else some (acc ++ [(pairR t k).1], (pairR t k).2.2 + 1)
    else none
theorem goP_succ (t : ByteArray) (f k : Nat) (acc : List PairB) : goP t (f + 1) k acc = if (pairR t k).2.1 = true then
      match takeR t (pairR t k).2.2 [cmT, rbT] with
      | none => none
      | some s => if s = cmT then goP t f ((pairR t k).2.2 + 1) (acc ++ [(pairR t k).1]) else some (acc ++ [(pairR t k).1], (pairR t k).2.2 + 1)
    else none := by rw [goP]
def parseL (t : ByteArray) : Option (List PairB × Nat) :=
  match takeR t 0 [lbT] with
  | none => none
  | some _ => match takeR t 1 [rbT] with
    | some _ => some ([], 2)
    | none => (goP t (t.size + 1) 1 []).bind fun x => if rightB x.1 = true then some x else none
theorem pairR_ge (t : ByteArray) (k : Nat) : k ≤ (pairR t k).2.2 := by
  have h : k ≤ runTo (goodK [0, 1, 2]) t k := by unfold runTo; omega
  unfold pairR
  split
  · show k ≤ runTo (goodK [0, 1, 2]) t k + 1 + _; omega
  · exact h
theorem two_texts (w : World) (s x : ByteArray) : Texts (w.alloc (.cells #[.string s, .string x] 9)) (some ⟨w.heap.size, 0, none⟩) 2 [s, x] := ⟨rfl, fun _ => ⟨_, 0, rfl, by simp, fun j hj => by
  rcases (by omega : j = 0 ∨ j = 1) with rfl | rfl <;> (rw [(Blk.new w _ #[.string s, .string x]).cell]; rfl)⟩⟩
theorem takeR_in {t : ByteArray} {k : Nat} {ss : List ByteArray} {x : ByteArray} (h : takeR t k ss = some x) : x ∈ ss := List.mem_of_find?_eq_some h
theorem OwnP.kept {w w' : World} {b : Nat} {v : Value} {l : List PairB} (h : OwnP w (b + 1) v l) (hg : w.grownBy w' (some b)) : OwnP w' (b + 1) v l := by
  refine ⟨h.1, ?_⟩
  rcases h.2 with h0 | ⟨g, cap, cur, hv, hbg, hh, r⟩
  · exact .inl h0
  · exact .inr ⟨g, cap, cur, hv, hbg, (hg.block g (lt_of_block hh) (fun e => by injection e with e; omega)).trans hh, r⟩
theorem OwnP.drewN {w : World} {B : Nat} {v : Value} {l : List PairB} (h : OwnP w B v l) (q : Nat) : OwnP (w.drewN q) B v l := h
/-- what the call answers -/
def parseV (v : Value) (o : Option (List PairB × Nat)) : Value := .tuple #[v, .int .i64 (((o.map (·.2)).getD 0 : Nat) : Int), .bool o.isSome]
def parsedL (o : Option (List PairB × Nat)) : List PairB := (o.map (·.1)).getD []

end Go.Proofs.Ytimmfmgnjpcdoaa
