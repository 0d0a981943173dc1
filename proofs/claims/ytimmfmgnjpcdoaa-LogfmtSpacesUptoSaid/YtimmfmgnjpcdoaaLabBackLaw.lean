/- The walk of the law LabelBack: what is put of a set is parsed, whatever stands behind it; cut anywhere it is none; two sets are put alike just if they are the same. -/
import Derived.Test.YtimmfmgnjpcdoaaLabBackMath
import Derived.Test.YtimmfmgnjpcdoaaLabNames
import Derived.Test.YtimmfmgnjpcdoaaLabOrderLaw
import Derived.Test.YtimmfmgnjpcdoaaTagsOpen
namespace Go.Proofs.Ytimmfmgnjpcdoaa
open Go.RowKit
set_option linter.unusedVariables false
set_option linter.unusedSimpArgs false

theorem tagP_size (t : TagB) : (tagP t).1.size ≤ t.nm.size + 3 ∧ (tagP t).2.size ≤ t.vl.size + 3 := by
  have hn : ∀ i : Nat, (tagNs.getD (i % 5) .empty).size ≤ 3 := fun i => by
    have h : ∀ j : Fin 5, (tagNs.getD j.1 .empty).size ≤ 3 := by decide
    exact h ⟨i % 5, by omega⟩
  have hv : ∀ i : Nat, (tagVs.getD (i % 8) .empty).size ≤ 3 := fun i => by
    have h : ∀ j : Fin 8, (tagVs.getD j.1 .empty).size ≤ 3 := by decide
    exact h ⟨i % 8, by omega⟩
  unfold tagP
  split
  · have := hn t.k
    have := hv (t.k / 5)
    dsimp only
    omega
  · dsimp only
    omega
theorem tagsL_bulk (ts : List TagB) (most : Nat) : bulkP (tagsL ts most) ≤ 2 * bulkG ts := by
  unfold tagsL
  induction ts generalizing most with
  | nil => rw [List.take_nil]; exact Nat.zero_le _
  | cons t ts ih =>
    cases most with
    | zero => rw [List.take_zero]; exact Nat.zero_le _
    | succ m =>
      have := ih m
      have := tagP_size t
      rw [List.take_succ_cons, List.map_cons, bulkP, bulkG]
      omega
theorem tagsL_small (ts : List TagB) (most : Nat) (h : bulkG ts ≤ 1048576) : ∀ p ∈ tagsL ts most, p.1.size ≤ 1048576 ∧ p.2.size ≤ 1048576 := by
  intro p hp
  unfold tagsL at hp
  obtain ⟨t, ht, rfl⟩ := List.mem_map.1 hp
  have := bulkG_mem (List.mem_of_mem_take ht)
  have := tagP_size t
  omega
theorem ofL_in {l : List PairB} {p : PairB} (h : p ∈ ofL l) : p ∈ l := by
  unfold ofL at h
  have h2 := (lastsL_sublist _).subset h
  exact (List.mem_filter.1 ((sortL_perm _).mem_iff.1 h2)).1

/-- what a set's text is, and how great -/
structure SetT (a : List PairB) (T : ByteArray) (n : Nat) : Prop where
  set : SetL a
  small : ∀ p ∈ a, p.1.size ≤ 1048576 ∧ p.2.size ≤ 1048576
  text : textT a = T
  most : T.size ≤ 9000000
  least : 2 ≤ T.size
theorem setT_of (ts : List TagB) (most : Nat) (hm : most ≤ 100) (h : bulkG ts ≤ 1048576) : SetT (ofL (tagsL ts most)) (textT (ofL (tagsL ts most))) most := by
  have h1 := tagsL_bulk ts most
  have h2 := ofL_bulk (tagsL ts most)
  have h3 := ofL_len (tagsL ts most)
  have h4 := tagsL_len ts most
  have h5 := text_size (ofL (tagsL ts most))
  exact ⟨ofL_set _, fun p hp => tagsL_small ts most h p (ofL_in hp), rfl, by omega, h5.2⟩
theorem text_alike {a b : List PairB} {T U : ByteArray} {m n : Nat} (ha : SetT a T m) (hb : SetT b U n) : (T.toList == U.toList) = decide (a = b) := by
  rw [text_eq, decide_eq_decide]
  constructor
  · intro h
    refine text_inj a b (set_good ha.set) (set_good hb.set) ?_
    rw [← text_list, ← text_list, ha.text, hb.text, h]
  · intro h
    rw [← ha.text, ← hb.text, h]

end Go.Proofs.Ytimmfmgnjpcdoaa
