/- Are two sets the same; what a name's value is; is a set right. -/
import Derived.Test.YtimfabnjopkhdaaLabOrder
import Derived.Test.YtimfabnjopkhdaaLabShelf
import Derived.Laws.StructEq
namespace Go.Proofs.Ytimfabnjopkhdaa
open Go.RowKit
set_option linter.unusedVariables false
set_option linter.unusedSimpArgs false

def pairV (p : PairB) : List Value := [.string p.1, .string p.2]
theorem pairV_len (p : PairB) : (pairV p).length = 2 := rfl
theorem pairV_one (p : PairB) : ∀ v ∈ pairV p, v.oneCell' = true := by
  intro v hv
  simp [pairV] at hv
  rcases hv with rfl | rfl <;> rfl
def eqP (x y : PairB) : Bool := x.1.toList == y.1.toList && x.2.toList == y.2.toList
theorem eqP_iff (x y : PairB) : eqP x y = decide (x = y) := by
  unfold eqP
  rw [text_eq, text_eq, Bool.eq_iff_iff, Bool.and_eq_true, decide_eq_true_iff, decide_eq_true_iff, decide_eq_true_iff]
  constructor
  · rintro ⟨h1, h2⟩; exact Prod.ext h1 h2
  · rintro rfl; exact ⟨rfl, rfl⟩
theorem neqPair : NeqAt Try.prog 29 (fun x : PairB => .agg (pairV x).toArray) eqP := by
  refine ⟨fun x y w => ?_, GuardAt.agg _ (by kernel_rfl)⟩
  have u9 := Try.underlying9
  have a9 := Try.isAgg9
  have z9 := Try.sizeOf9
  have hS : Try.prog.underlying 29 = some (.struct (Try.prog.fieldsOf 29)) := by kernel_rfl
  have hp : Try.prog.stoodInHeld 29 = false := by kernel_rfl
  simp only [pairV]
  rw [run_neq_struct, show (10000 : Nat) = 9999 + 1 from rfl, run_equalIn_agg w 9999 29 _ _ hS hp]
  simp only [Program.fieldsOf, Try.underlying29]
  unfold eqP
  cases h1 : (x.1.toList == y.1.toList) <;> cases h2 : (x.2.toList == y.2.toList)
  all_goals
    go_simp
    try simp [h1, h2]
theorem allEq_iff : ∀ ps qs : List PairB, Lib.allEq eqP ps qs = decide (ps = qs)
  | [], [] => rfl
  | [], _ :: _ => rfl
  | _ :: _, [] => rfl
  | p :: ps, q :: qs => by
    have ih := allEq_iff ps qs
    unfold Lib.allEq
    rw [ih, eqP_iff, Bool.eq_iff_iff, Bool.and_eq_true, decide_eq_true_iff, decide_eq_true_iff, decide_eq_true_iff]
    simp
theorem pairs_cells {w : World} {b off n : Nat} {ps : List PairB} (hl : ps.length = n) (hc : ∀ j, j < n → w.cell? ⟨b, off + j * 2, none⟩ = some (.string (ps.getD j pnil).1) ∧ w.cell? ⟨b, off + j * 2 + 1, none⟩ = some (.string (ps.getD j pnil).2)) :
    ∀ j, j < ps.length → ∀ i v, (pairV ps[j]!)[i]? = some v → w.cell? ⟨b, off + j * 2 + i, none⟩ = some v := by
  intro j hj i v hv
  have e : ps[j]! = ps.getD j pnil := by
    rw [getElem!_pos ps j hj, List.getD_eq_getElem?_getD, List.getElem?_eq_getElem hj]
    rfl
  rw [e] at hv
  obtain ⟨c0, c1⟩ := hc j (by omega)
  match i, hv with
  | 0, hv => injection hv with hv; rw [← hv]; exact c0
  | 1, hv => injection hv with hv; rw [← hv]; exact c1
  | i + 2, hv => cases hv

set_option maxHeartbeats 800000 in
theorem equal_any (A B : Option Addr) (n m c d : Nat) (ps qs : List PairB) (hn : n ≤ 9223372036854775806) (hm : m ≤ 9223372036854775806) (W : World) (h1 : Pairs W A n ps) (h2 : Pairs W B m qs) :
    Calls Try.prog 47 #[.slice A n c, .slice B m d] W fun e w' => e = .returned (.bool (decide (ps = qs))) ∧ ∃ q, w' = W.drewN q := by
  by_cases hnm : n = m
  · subst hnm
    by_cases h0 : n = 0
    · subst h0
      have e1 := List.eq_nil_of_length_eq_zero h1.1
      have e2 := List.eq_nil_of_length_eq_zero h2.1
      subst e1 e2
      clear h1 h2
      go_enter Try.func47, Try.ntmps47
      go_wp2
      go_loop [13] (fun i => i = .int .i64 0) (fun _ => 0)
      case atStart => rfl
      case round =>
        obtain rfl := hrel
        go_wp2
        go_ret
        exact ⟨ret_bool (by simp), 0, rfl⟩
    · obtain ⟨b1, o1, rfl, _, hc1⟩ := h1.2 (by omega)
      obtain ⟨b2, o2, rfl, _, hc2⟩ := h2.2 (by omega)
      have C := AnyQ.slices_Equal Try.eqPair 2 Try.isAgg29 Try.sizeOf29 pairV (fun _ => rfl) eqP neqPair b1 o1 n c b2 o2 n d ps qs W (by rw [h1.1]; exact Nat.le_refl _) (by rw [h2.1]; exact Nat.le_refl _) (by omega) (by omega) (pairs_cells h1.1 hc1) (pairs_cells h2.1 hc2)
      change Calls Try.prog 47 _ _ _ at C
      rw [List.take_of_length_le (by rw [h1.1]; exact Nat.le_refl _), List.take_of_length_le (by rw [h2.1]; exact Nat.le_refl _), allEq_iff] at C
      exact C
  · have E := Lib.hid (show decide (ps = qs) = false from decide_eq_false (fun e => hnm (by rw [← h1.1, ← h2.1, e])))
    have hI : ¬ (n : Int) = (m : Int) := by omega
    clear h1 h2
    go_enter Try.func47, Try.ntmps47
    go_wp2
    go_ret
    exact ⟨ret_bool E.out.symm, 0, rfl⟩
theorem same_any (A B : Option Addr) (n m c d : Nat) (ps qs : List PairB) (hn : n ≤ 9223372036854775806) (hm : m ≤ 9223372036854775806) (W : World) (h1 : Pairs W A n ps) (h2 : Pairs W B m qs) :
    Calls Try.prog 28 #[.slice A n c, .slice B m d] W fun e w' => e = .returned (.bool (decide (ps = qs))) ∧ Below W.heap.size W w' := by
  have C := Lib.hid (equal_any A B n m c d ps qs hn hm W h1 h2)
  obtain ⟨T, hT⟩ : ∃ T, decide (ps = qs) = T := ⟨_, rfl⟩
  rw [hT] at C ⊢
  clear hT h1 h2
  go_enter Try.func28, Try.ntmps28
  go_wp2_with fail
  refine C.out.mono ?_
  rintro e w ⟨rfl, q, rfl⟩
  go_wp2
  go_ret
  exact ⟨rfl, below_drewN (Below.refl _ _) q⟩

/-- the first label of a name -/
def findL (ps : List PairB) (nm : ByteArray) : Option PairB := ps.find? (fun p => decide (p.1 = nm))
def getL (ps : List PairB) (nm : ByteArray) : Option ByteArray := (findL ps nm).map (·.2)
set_option maxHeartbeats 800000 in
theorem labGet_any (A : Option Addr) (n c : Nat) (ps : List PairB) (nm : ByteArray) (hn : n ≤ 9223372036854775806) (W : World) (h1 : Pairs W A n ps) :
    Calls Try.prog 13 #[.slice A n c, .string nm] W fun e w' => e = .returned (.tuple #[.string ((getL ps nm).getD .empty), .bool (getL ps nm).isSome]) ∧ Below W.heap.size W w' := by
  obtain ⟨T, hT⟩ : ∃ T, getL ps nm = T := ⟨_, rfl⟩
  rw [hT]
  have HT := Lib.hid (show (findL (ps.drop 0) nm).map (·.2) = T by rw [List.drop_zero]; exact hT)
  have H1 := Lib.hid h1
  clear hT h1
  go_enter Try.func13, Try.ntmps13
  go_wp2
  go_loopw [10] (fun iv wr => ∃ j : Nat, j ≤ n ∧ iv = .int .i64 j ∧ Hid ((findL (ps.drop j) nm).map (·.2) = T) ∧ Below W.heap.size W wr) (fun iv _ => n - (intOf iv).toNat)
  case atStart => exact ⟨0, Nat.zero_le _, rfl, HT, Below.refl _ _⟩
  case round =>
    obtain ⟨j, hjn, rfl, HJ, hb⟩ := hrel
    have hsz := hb.size
    have l1 := H1.out.1
    by_cases hj : j < n
    · obtain ⟨b1, o1, rfl, hlt1, hc1⟩ := (H1.out.below hb).2 (by omega)
      obtain ⟨c1, c2⟩ := hc1 j hj
      have d1 : ps.drop j = ps.getD j pnil :: ps.drop (j + 1) := by
        rw [List.drop_eq_getElem_cons (by omega), List.getD_eq_getElem?_getD, List.getElem?_eq_getElem (by omega)]
        rfl
      obtain ⟨p, hp⟩ : ∃ p, ps.getD j pnil = p := ⟨_, rfl⟩
      rw [hp] at c1 c2 d1
      obtain ⟨p1, p2⟩ := p
      dsimp only at c1 c2
      have hstep : findL (ps.drop j) nm = if p1 = nm then some (p1, p2) else findL (ps.drop (j + 1)) nm := by
        rw [d1]
        unfold findL
        by_cases h : p1 = nm
        · rw [List.find?_cons_of_pos (by simpa using h), if_pos h]
        · rw [List.find?_cons_of_neg (by simpa using h), if_neg h]
      have hjI : (j : Int) < (n : Int) := by omega
      have hj0 := HJ.out
      rw [hstep] at hj0
      clear hc1 hp d1 hstep
      by_cases he : p1 = nm
      · have g := text_same he
        rw [if_pos he] at hj0
        have E := Lib.hid (show T = some p2 from hj0.symm)
        clear he hj0
        go_wp2
        go_ret2
        exact ⟨by rw [E.out]; rfl, hb.alloc hsz _⟩
      · have g := text_other he
        rw [if_neg he] at hj0
        have HN := Lib.hid hj0
        clear he hj0
        go_wp2
        go_round
        case rel => exact ⟨j + 1, by omega, by go_num, HN, hb.alloc hsz _⟩
        case measure => simp [intOf]; omega
    · obtain rfl : j = n := by omega
      have E := Lib.hid (show T = none by rw [← HJ.out, show ps.drop j = [] from List.drop_of_length_le (by omega)]; rfl)
      go_wp2
      go_ret2
      exact ⟨by rw [E.out]; rfl, hb⟩
end Go.Proofs.Ytimfabnjopkhdaa
