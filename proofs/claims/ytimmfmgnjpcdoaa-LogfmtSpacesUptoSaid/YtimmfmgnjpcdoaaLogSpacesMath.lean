/- How great a set's text with blanks is, and the law's own sentence of LogfmtSpaces. No walk. -/
import Derived.Test.YtimmfmgnjpcdoaaLogBackOf
import Derived.Test.YtimmfmgnjpcdoaaLabBackLaw
namespace Go.Proofs.Ytimmfmgnjpcdoaa
open Go.RowKit
set_option linter.unusedVariables false
set_option linter.unusedSimpArgs false

theorem gaps_size (pd : List UInt8) : ∀ (ps : List PairB), (gapsL pd ps).length ≤ 4 * bulkP ps + ps.length * pd.length
  | [] => Nat.zero_le _
  | p :: ps => by
    have h := gaps_size pd ps
    have h3 := putS_size p.2
    have h4 : (putS p.2).size = (putB p.2.data.toList).length := by unfold putS; rfl
    have h5 : p.1.data.toList.length = p.1.size := rfl
    rw [gapsL, bulkP, List.length_append, List.length_append, partL_len, h5]
    simp only [List.length_cons, Nat.add_mul]
    omega
/-- the blanks after so many -/
def padL (i : Nat) : List UInt8 := (List.range i).map (fun k => [32, 9, 10].getD (k % 3) 32)
theorem padL_next (i : Nat) : padL (i + 1) = padL i ++ [[32, 9, 10].getD (i % 3) 32] := by
  unfold padL
  rw [List.range_succ, List.map_append]
  rfl
theorem padL_len (i : Nat) : (padL i).length = i := by
  unfold padL
  rw [List.length_map, List.length_range]
theorem padL_blank (i : Nat) : ∀ c ∈ padL i, keyB c = false := by
  intro c hc
  unfold padL at hc
  obtain ⟨k, _, rfl⟩ := List.mem_map.1 hc
  have h : ∀ j : Fin 3, keyB ([32, 9, 10].getD j.val 32) = false := by decide
  exact h ⟨k % 3, by omega⟩
/-- the labels of a law's set, put with blanks: no greater than Of is known for -/
theorem spaces_size (ts : List TagB) (m i j : Nat) (hm : m ≤ 12) (hi : i ≤ 5) (h : bulkG ts ≤ 1048576) : (padL i ++ gapsL (padL i) ((ofL (tagsL ts m)).take j)).length ≤ 9000000 := by
  have h1 := tagsL_bulk ts m
  have h2 := ofL_bulk (tagsL ts m)
  have h3 := ofL_len (tagsL ts m)
  have h4 := tagsL_len ts m
  have h5 := bulkP_sub (List.take_sublist j (ofL (tagsL ts m)))
  have h6 := gaps_size (padL i) ((ofL (tagsL ts m)).take j)
  have h7 : ((ofL (tagsL ts m)).take j).length ≤ 12 := by rw [List.length_take]; omega
  have h8 : ((ofL (tagsL ts m)).take j).length * (padL i).length ≤ 12 * 5 := Nat.mul_le_mul h7 (by rw [padL_len]; exact hi)
  rw [List.length_append]
  have h9 := padL_len i
  omega
/-- a right set, put with blanks, is read as it is -/
theorem spaces_back (ts : List TagB) (m i : Nat) (hm : m ≤ 12) (t : ByteArray) (hr : rightB (ofL (tagsL ts m)) = true) (hv : ∀ p ∈ ofL (tagsL ts m), p.2.size ≤ 256) (h : t.data.toList = padL i ++ gapsL (padL i) (ofL (tagsL ts m))) : ofF t = ofL (tagsL ts m) := by
  have h3 := ofL_len (tagsL ts m)
  have h4 := tagsL_len ts m
  exact ofF_gapped t (padL i) (padL_blank i) _ (ofL_set _) hv (by omega) h
theorem right_small : ∀ (ps : List PairB) (prev : Option ByteArray), rightGo prev ps = true → ∀ p ∈ ps, p.2.size ≤ 256
  | [], _, _, _, hp => by cases hp
  | q :: ps, prev, h, p, hp => by
    rw [rightGo, Bool.and_eq_true] at h
    rcases List.mem_cons.1 hp with rfl | hp
    · have h1 := h.1
      unfold okAt at h1
      simp only [Bool.and_eq_true, decide_eq_true_iff] at h1
      first | exact h1.1.2 | exact h1.2.1 | exact h1.2 | omega
    · exact right_small ps _ h.2 p hp
end Go.Proofs.Ytimmfmgnjpcdoaa
