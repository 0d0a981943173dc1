/- Are two sets the same; what a name's value is; is a set right. -/
import Derived.Test.YtdbflmkjcgiodaaGreatDoorLabOrder
import Derived.Test.YtdbflmkjcgiodaaGreatDoorLabShelf
import Derived.Laws.StructEq
namespace Go.Proofs.YtdbflmkjcgiodaaGreatDoor
open Go.RowKit
set_option linter.unusedVariables false
set_option linter.unusedSimpArgs false

def pairV (p : PairB) : List Value := [.string p.1, .string p.2]
theorem pairV_len (p : PairB) : (pairV p).length = 2 := rfl
theorem pairV_one (p : PairB) : ∀ v ∈ pairV p, v.oneCell' = true := by
  intro v hv
  simp [pairV] at hv
  rcases hv with rfl | rfl <;> rfl
def eqP (x y : PairB) : Bool := x.1.toList == y.1.toList && x.2.toList == y.2.toList
theorem eqP_iff (x y : PairB) : eqP x y = decide (x = y) := by
  unfold eqP
  rw [text_eq, text_eq, Bool.eq_iff_iff, Bool.and_eq_true, decide_eq_true_iff, decide_eq_true_iff, decide_eq_true_iff]
  constructor
  · rintro ⟨h1, h2⟩; exact Prod.ext h1 h2
  · rintro rfl; exact ⟨rfl, rfl⟩
theorem neqPair : NeqAt Tryz.prog 66 (fun x : PairB => .agg (pairV x).toArray) eqP := by
  refine ⟨fun x y w => ?_, GuardAt.agg _ (by kernel_rfl)⟩
  have u9 := Tryz.underlying9
  have a9 := Tryz.isAgg9
  have z9 := Tryz.sizeOf9
  have hS : Tryz.prog.underlying 66 = some (.struct (Tryz.prog.fieldsOf 66)) := by kernel_rfl
  have hp : Tryz.prog.stoodInHeld 66 = false := by kernel_rfl
  simp only [pairV]
  rw [run_neq_struct, show (10000 : Nat) = 9999 + 1 from rfl, run_equalIn_agg w 9999 66 _ _ hS hp]
  simp only [Program.fieldsOf, Tryz.underlying66]
  unfold eqP
  cases h1 : (x.1.toList == y.1.toList) <;> cases h2 : (x.2.toList == y.2.toList)
  all_goals
    go_simp
    try simp [h1, h2]
theorem allEq_iff : ∀ ps qs : List PairB, Lib.allEq eqP ps qs = decide (ps = qs)
  | [], [] => rfl
  | [], _ :: _ => rfl
  | _ :: _, [] => rfl
  | p :: ps, q :: qs => by
    have ih := allEq_iff ps qs
    unfold Lib.allEq
    rw [ih, eqP_iff, Bool.eq_iff_iff, Bool.and_eq_true, decide_eq_true_iff, decide_eq_true_iff, decide_eq_true_iff]
    simp
theorem pairs_cells {w : World} {b off n : Nat} {ps : List PairB} (hl : ps.length = n) (hc : ∀ j, j < n → w.cell? ⟨b, off + j * 2, none⟩ = some (.string (ps.getD j pnil).1) ∧ w.cell? ⟨b, off + j * 2 + 1, none⟩ = some (.string (ps.getD j pnil).2)) :
    ∀ j, j < ps.length → ∀ i v, (pairV ps[j]!)[i]? = some v → w.cell? ⟨b, off + j * 2 + i, none⟩ = some v := by
  intro j hj i v hv
  have e : ps[j]! = ps.getD j pnil := by
    rw [getElem!_pos ps j hj, List.getD_eq_getElem?_getD, List.getElem?_eq_getElem hj]
    rfl
  rw [e] at hv
  obtain ⟨c0, c1⟩ := hc j (by omega)
  match i, hv with
  | 0, hv => injection hv with hv; rw [← hv]; exact c0
  | 1, hv => injection hv with hv; rw [← hv]; exact c1
  | i + 2, hv => cases hv

set_option maxHeartbeats 800000 in
theorem equal_any (A B : Option Addr) (n m c d : Nat) (ps qs : List PairB) (hn : n ≤ 9223372036854775807) (hm : m ≤ 9223372036854775807) (W : World) (h1 : Pairs W A n ps) (h2 : Pairs W B m qs) :
    Calls Tryz.prog 66 #[.slice A n c, .slice B m d] W fun e w' => e = .returned (.bool (decide (ps = qs))) ∧ ∃ q, w' = W.drewN q := by
  by_cases hnm : n = m
  · subst hnm
    by_cases h0 : n = 0
    · subst h0
      have e1 := List.eq_nil_of_length_eq_zero h1.1
      have e2 := List.eq_nil_of_length_eq_zero h2.1
      subst e1 e2
      clear h1 h2
      go_enter Tryz.func66, Tryz.ntmps66
      go_wp2
      go_loop [13] (fun i => i = .int .i64 0) (fun _ => 0)
      case atStart => rfl
      case round =>
        obtain rfl := hrel
        go_wp2
        go_ret
        exact ⟨ret_bool (by simp), 0, rfl⟩
    · obtain ⟨b1, o1, rfl, _, hc1⟩ := h1.2 (by omega)
      obtain ⟨b2, o2, rfl, _, hc2⟩ := h2.2 (by omega)
      have C := AnyQ.slices_Equal Tryz.eqPair 2 Tryz.isAgg66 Tryz.sizeOf66 pairV (fun _ => rfl) eqP neqPair b1 o1 n c b2 o2 n d ps qs W (by rw [h1.1]; exact Nat.le_refl _) (by rw [h2.1]; exact Nat.le_refl _) (by omega) (by omega) (pairs_cells h1.1 hc1) (pairs_cells h2.1 hc2)
      change Calls Tryz.prog 66 _ _ _ at C
      rw [List.take_of_length_le (by rw [h1.1]; exact Nat.le_refl _), List.take_of_length_le (by rw [h2.1]; exact Nat.le_refl _), allEq_iff] at C
      exact C
  · have E := Lib.hid (show decide (ps = qs) = false from decide_eq_false (fun e => hnm (by rw [← h1.1, ← h2.1, e])))
    have hI : ¬ (n : Int) = (m : Int) := by omega
    clear h1 h2
    go_enter Tryz.func66, Tryz.ntmps66
    go_wp2
    go_ret
    exact ⟨ret_bool E.out.symm, 0, rfl⟩
theorem same_any (A B : Option Addr) (n m c d : Nat) (ps qs : List PairB) (hn : n ≤ 9223372036854775807) (hm : m ≤ 9223372036854775807) (W : World) (h1 : Pairs W A n ps) (h2 : Pairs W B m qs) :
    Calls Tryz.prog 39 #[.slice A n c, .slice B m d] W fun e w' => e = .returned (.bool (decide (ps = qs))) ∧ Below W.heap.size W w' := by
  have C := Lib.hid (equal_any A B n m c d ps qs hn hm W h1 h2)
  obtain ⟨T, hT⟩ : ∃ T, decide (ps = qs) = T := ⟨_, rfl⟩
  rw [hT] at C ⊢
  clear hT h1 h2
  go_enter Tryz.func39, Tryz.ntmps39
  go_wp2_with fail
  refine C.out.mono ?_
  rintro e w ⟨rfl, q, rfl⟩
  go_wp2
  go_ret
  exact ⟨rfl, below_drewN (Below.refl _ _) q⟩

/-- the first label of a name -/
def findL (ps : List PairB) (nm : ByteArray) : Option PairB := ps.find? (fun p => decide (p.1 = nm))
def getL (ps : List PairB) (nm : ByteArray) : Option ByteArray := (findL ps nm).map (·.2)
end Go.Proofs.YtdbflmkjcgiodaaGreatDoor
