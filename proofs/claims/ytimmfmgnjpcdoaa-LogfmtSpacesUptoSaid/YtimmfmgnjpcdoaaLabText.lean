/- What a set is put as. -/
import Derived.Test.YtimmfmgnjpcdoaaLabOf
import Derived.Test.YtimmfmgnjpcdoaaTexts
import Derived.Deep.RegionHeld3
import Derived.Deep.RegionLaw
import Derived.Deep.AppendLies
namespace Go.Proofs.Ytimmfmgnjpcdoaa
open Go.RowKit Go.Sort
set_option linter.unusedVariables false
set_option linter.unusedSimpArgs false

def putS (s : ByteArray) : ByteArray := ⟨(putB s.data.toList).toArray⟩
def partT (p : PairB) : ByteArray := p.1 ++ (⟨#[61]⟩ : ByteArray) ++ putS p.2
/-- a row of texts, the first ones written -/
structure RowT (w : World) (g n j : Nat) (ss : List ByteArray) (cs : Array Value) : Prop where
  blk : Blk w g 9 cs
  size : cs.size = n
  at_ : ∀ i, i < j → cs[i]? = some (.string (ss.getD i .empty))
  all_ : ∀ i, i < n → ∃ s, cs[i]? = some (.string s)
theorem RowT.below {w w' : World} {g n j : Nat} {ss : List ByteArray} {cs : Array Value} (h : RowT w g n j ss cs) (hb : Below w.heap.size w w') : RowT w' g n j ss cs := ⟨h.blk.below hb h.blk.lt, h.size, h.at_, h.all_⟩
theorem RowT.drew {w : World} {g n j : Nat} {ss : List ByteArray} {cs : Array Value} (h : RowT w g n j ss cs) : RowT w.drew g n j ss cs := ⟨h.blk, h.size, h.at_, h.all_⟩
theorem RowT.store {w : World} {g n j : Nat} {ss : List ByteArray} {cs : Array Value} (h : RowT w g n j ss cs) (hj : j < n) : RowT (w.setCell ⟨g, j, none⟩ (.string (ss.getD j .empty))) g n (j + 1) ss (cs.setIfInBounds j (.string (ss.getD j .empty))) := by
  refine ⟨h.blk.set_ j _, by rw [Array.size_setIfInBounds]; exact h.size, fun i hi => ?_, fun i hi => ?_⟩
  · by_cases e : i = j
    · subst e
      rw [Array.getElem?_setIfInBounds_self_of_lt (by rw [h.size]; exact hj)]
    · rw [Array.getElem?_setIfInBounds_ne (Ne.symm e)]
      exact h.at_ i (by omega)
  · by_cases e : i = j
    · subst e
      exact ⟨_, Array.getElem?_setIfInBounds_self_of_lt (by rw [h.size]; exact hj)⟩
    · rw [Array.getElem?_setIfInBounds_ne (Ne.symm e)]
      exact h.all_ i hi
theorem RowT.texts {w : World} {g n : Nat} {ss : List ByteArray} {cs : Array Value} (h : RowT w g n n ss cs) (hl : ss.length = n) : Texts w (some ⟨g, 0, none⟩) n ss :=
  ⟨hl, fun _ => ⟨g, 0, rfl, h.blk.lt, fun j hj => by rw [Nat.zero_add, h.blk.cell j]; exact h.at_ j hj⟩⟩
theorem made_cell (n i : Nat) (h : i < n) : (madeCells #[Value.string ⟨#[]⟩] n)[i]? = some (.string ⟨#[]⟩) := by
  simp [madeCells, h, Nat.mod_one]
theorem join_le : ∀ (ss : List ByteArray) (sep : ByteArray) (M : Nat), (∀ x ∈ ss, x.size ≤ M) → (joinB sep ss).length ≤ ss.length * (M + sep.size)
  | [], sep, M, _ => Nat.zero_le _
  | [x], sep, M, h => by
    have hx := h x (by simp)
    show (Lib.join [x.data.toList] sep.data.toList).length ≤ _
    rw [Lib.join_one, size_toList, List.length_singleton, Nat.one_mul]
    omega
  | x :: y :: r, sep, M, h => by
    have hx := h x (by simp)
    have ih := join_le (y :: r) sep M (fun z hz => h z (by simp [hz]))
    have e : joinB sep (x :: y :: r) = x.data.toList ++ sep.data.toList ++ joinB sep (y :: r) := by
      unfold joinB
      simp only [List.map_cons, Lib.join_cons, Lib.joinTail, List.flatten_cons, List.append_assoc]
    rw [e, List.length_append, List.length_append, size_toList, size_toList, List.length_cons, Nat.succ_mul]
    omega
theorem infoStr : (Try.prog.info? 9).map (fun i => (i.zero, i.size, i.bytes)) = some (some (.string ⟨#[]⟩), 1, 16) := by kernel_rfl
theorem putS_size (s : ByteArray) : (putS s).size ≤ 4 * s.size + 2 := by
  have h := (flat_len s.data.toList).2
  rw [size_toList] at h
  unfold putS
  show (putB s.data.toList).toArray.size ≤ _
  rw [List.size_toArray]
  unfold putB
  rw [List.length_cons, List.length_append, List.length_singleton]
  omega

end Go.Proofs.Ytimmfmgnjpcdoaa
