/- Labels, and sets of them, held against one another.
   The library's contracts of a stable sort's pieces and of equality, at slices of labels, at this dump.
   Are two sets the same; what a name's value is; is a set right.
   Is a set of labels right. -/
import Derived.Test.YtimmfmgnjpcdoaaLabMath
import Derived.Test.YtimmfmgnjpcdoaaShelf
import Derived.Test.YtimmfmgnjpcdoaaProg
import Derived.Deep.RegionHeld3
import Derived.Shelf.SlSortCmp.InsertionK
import Derived.Shelf.SlicesQ.Equal
import Derived.Laws.StructEq
namespace Go.Proofs.Ytimmfmgnjpcdoaa
open Go.RowKit
set_option linter.unusedVariables false
set_option linter.unusedSimpArgs false

theorem compare_any (a b : ByteArray) (W : World) : Calls Try.prog 53 #[.string a, .string b] W fun e w' => e = .returned (.int .i64 (txtC a b)) ∧ w' = W := Try.strings_Compare a b W
theorem ret_int {a b : Int} (h : a = b) : Ending.returned (.int .i64 a) = .returned (.int .i64 b) := by rw [h]

end Go.Proofs.Ytimmfmgnjpcdoaa
namespace Go.Proofs
set_option linter.unusedVariables false
set_option linter.unusedSimpArgs false
open Go.Shelf
def Try.insPair_ren : Go.Shelf.Ren := ⟨fun | 20 => 63 | n => n, fun | 24 => 39 | 22 => 26 | 3 => 3 | 25 => 73 | 4 => 4 | 0 => 0 | n => n, fun | n => n⟩
theorem Try.insPair : Go.Proofs.SlLaysF0.n20 Try.prog Try.insPair_ren := {
  mixed := by kernel_rfl
  f20 := ⟨Try.f63.name, by decide, Try.func63.trans (congrArg some (by kernel_rfl))⟩
  t0 := Try.underlying0
  a0 := Try.isAgg0
  z0 := Try.sizeOf0
  v0 := Try.zeroValue0
  t3 := Try.underlying3
  a3 := Try.isAgg3
  z3 := Try.sizeOf3
  v3 := Try.zeroValue3
  t4 := Try.underlying4
  a4 := Try.isAgg4
  z4 := Try.sizeOf4
  v4 := Try.zeroValue4
  t22 := Try.underlying26
  a22 := Try.isAgg26
  z22 := Try.sizeOf26
  v22 := Try.zeroValue26
  t25 := Try.underlying73
  a25 := Try.isAgg73
  z25 := Try.sizeOf73
  v25 := Try.zeroValue73 }
def Try.eqPair_ren : Go.Shelf.Ren := ⟨fun | 8 => 40 | n => n, fun | 22 => 32 | 24 => 39 | 4 => 4 | 3 => 3 | 0 => 0 | n => n, fun | n => n⟩
theorem Try.eqPair : Go.Proofs.SlLaysQ.n8 Try.prog Try.eqPair_ren := {
  mixed := by kernel_rfl
  f8 := ⟨Try.f40.name, by decide, Try.func40.trans (congrArg some (by kernel_rfl))⟩
  t0 := Try.underlying0
  a0 := Try.isAgg0
  z0 := Try.sizeOf0
  v0 := Try.zeroValue0
  t3 := Try.underlying3
  a3 := Try.isAgg3
  z3 := Try.sizeOf3
  v3 := Try.zeroValue3
  t4 := Try.underlying4
  a4 := Try.isAgg4
  z4 := Try.sizeOf4
  v4 := Try.zeroValue4
  t22 := Try.underlying32
  a22 := Try.isAgg32
  z22 := Try.sizeOf32
  v22 := Try.zeroValue32 }
end Go.Proofs
namespace Go.Proofs.Ytimmfmgnjpcdoaa
open Go.RowKit
set_option linter.unusedVariables false
set_option linter.unusedSimpArgs false

def pairV (p : PairB) : List Value := [.string p.1, .string p.2]
theorem pairV_len (p : PairB) : (pairV p).length = 2 := rfl
theorem pairV_one (p : PairB) : ∀ v ∈ pairV p, v.oneCell' = true := by
  intro v hv
  simp [pairV] at hv
  rcases hv with rfl | rfl <;> rfl
def eqP (x y : PairB) : Bool := x.1.toList == y.1.toList && x.2.toList == y.2.toList
theorem eqP_iff (x y : PairB) : eqP x y = decide (x = y) := by
  unfold eqP
  rw [text_eq, text_eq, Bool.eq_iff_iff, Bool.and_eq_true, decide_eq_true_iff, decide_eq_true_iff, decide_eq_true_iff]
  constructor
  · rintro ⟨h1, h2⟩; exact Prod.ext h1 h2
  · rintro rfl; exact ⟨rfl, rfl⟩
theorem neqPair : NeqAt Try.prog 39 (fun x : PairB => .agg (pairV x).toArray) eqP := by
  refine ⟨fun x y w => ?_, GuardAt.agg _ (by kernel_rfl)⟩
  have u9 := Try.underlying9
  have a9 := Try.isAgg9
  have z9 := Try.sizeOf9
  have hS : Try.prog.underlying 39 = some (.struct (Try.prog.fieldsOf 39)) := by kernel_rfl
  have hp : Try.prog.stoodInHeld 39 = false := by kernel_rfl
  simp only [pairV]
  rw [run_neq_struct, show (10000 : Nat) = 9999 + 1 from rfl, run_equalIn_agg w 9999 39 _ _ hS hp]
  simp only [Program.fieldsOf, Try.underlying39]
  unfold eqP
  cases h1 : (x.1.toList == y.1.toList) <;> cases h2 : (x.2.toList == y.2.toList)
  all_goals
    go_simp
    try simp [h1, h2]
theorem allEq_iff : ∀ ps qs : List PairB, Lib.allEq eqP ps qs = decide (ps = qs)
  | [], [] => rfl
  | [], _ :: _ => rfl
  | _ :: _, [] => rfl
  | p :: ps, q :: qs => by
    have ih := allEq_iff ps qs
    unfold Lib.allEq
    rw [ih, eqP_iff, Bool.eq_iff_iff, Bool.and_eq_true, decide_eq_true_iff, decide_eq_true_iff, decide_eq_true_iff]
    simp
theorem pairs_cells {w : World} {b off n : Nat} {ps : List PairB} (hl : ps.length = n) (hc : ∀ j, j < n → w.cell? ⟨b, off + j * 2, none⟩ = some (.string (ps.getD j pnil).1) ∧ w.cell? ⟨b, off + j * 2 + 1, none⟩ = some (.string (ps.getD j pnil).2)) :
    ∀ j, j < ps.length → ∀ i v, (pairV ps[j]!)[i]? = some v → w.cell? ⟨b, off + j * 2 + i, none⟩ = some v := by
  intro j hj i v hv
  have e : ps[j]! = ps.getD j pnil := by
    rw [getElem!_pos ps j hj, List.getD_eq_getElem?_getD, List.getElem?_eq_getElem hj]
    rfl
  rw [e] at hv
  obtain ⟨c0, c1⟩ := hc j (by omega)
  match i, hv with
  | 0, hv => injection hv with hv; rw [← hv]; exact c0
  | 1, hv => injection hv with hv; rw [← hv]; exact c1
  | i + 2, hv => cases hv

set_option maxHeartbeats 800000 in
theorem equal_any (A B : Option Addr) (n m c d : Nat) (ps qs : List PairB) (hn : n ≤ 9223372036854775807) (hm : m ≤ 9223372036854775807) (W : World) (h1 : Pairs W A n ps) (h2 : Pairs W B m qs) :
    Calls Try.prog 40 #[.slice A n c, .slice B m d] W fun e w' => e = .returned (.bool (decide (ps = qs))) ∧ ∃ q, w' = W.drewN q := by
  by_cases hnm : n = m
  · subst hnm
    by_cases h0 : n = 0
    · subst h0
      have e1 := List.eq_nil_of_length_eq_zero h1.1
      have e2 := List.eq_nil_of_length_eq_zero h2.1
      subst e1 e2
      clear h1 h2
      go_enter Try.func40, Try.ntmps40
      go_wp2
      go_loop [13] (fun i => i = .int .i64 0) (fun _ => 0)
      case atStart => rfl
      case round =>
        obtain rfl := hrel
        go_wp2
        go_ret
        exact ⟨ret_bool (by simp), 0, rfl⟩
    · obtain ⟨b1, o1, rfl, _, hc1⟩ := h1.2 (by omega)
      obtain ⟨b2, o2, rfl, _, hc2⟩ := h2.2 (by omega)
      have C := AnyQ.slices_Equal Try.eqPair 2 Try.isAgg39 Try.sizeOf39 pairV (fun _ => rfl) eqP neqPair b1 o1 n c b2 o2 n d ps qs W (by rw [h1.1]; exact Nat.le_refl _) (by rw [h2.1]; exact Nat.le_refl _) (by omega) (by omega) (pairs_cells h1.1 hc1) (pairs_cells h2.1 hc2)
      change Calls Try.prog 40 _ _ _ at C
      rw [List.take_of_length_le (by rw [h1.1]; exact Nat.le_refl _), List.take_of_length_le (by rw [h2.1]; exact Nat.le_refl _), allEq_iff] at C
      exact C
  · have E := Lib.hid (show decide (ps = qs) = false from decide_eq_false (fun e => hnm (by rw [← h1.1, ← h2.1, e])))
    have hI : ¬ (n : Int) = (m : Int) := by omega
    clear h1 h2
    go_enter Try.func40, Try.ntmps40
    go_wp2
    go_ret
    exact ⟨ret_bool E.out.symm, 0, rfl⟩
theorem same_any (A B : Option Addr) (n m c d : Nat) (ps qs : List PairB) (hn : n ≤ 9223372036854775807) (hm : m ≤ 9223372036854775807) (W : World) (h1 : Pairs W A n ps) (h2 : Pairs W B m qs) :
    Calls Try.prog 24 #[.slice A n c, .slice B m d] W fun e w' => e = .returned (.bool (decide (ps = qs))) ∧ Below W.heap.size W w' := by
  have C := Lib.hid (equal_any A B n m c d ps qs hn hm W h1 h2)
  obtain ⟨T, hT⟩ : ∃ T, decide (ps = qs) = T := ⟨_, rfl⟩
  rw [hT] at C ⊢
  clear hT h1 h2
  go_enter Try.func24, Try.ntmps24
  go_wp2_with fail
  refine C.out.mono ?_
  rintro e w ⟨rfl, q, rfl⟩
  go_wp2
  go_ret
  exact ⟨rfl, below_drewN (Below.refl _ _) q⟩

/-- the first label of a name -/
def findL (ps : List PairB) (nm : ByteArray) : Option PairB := ps.find? (fun p => decide (p.1 = nm))
def getL (ps : List PairB) (nm : ByteArray) : Option ByteArray := (findL ps nm).map (·.2)
set_option maxHeartbeats 800000 in
theorem labGet_any (A : Option Addr) (n c : Nat) (ps : List PairB) (nm : ByteArray) (hn : n ≤ 9223372036854775807) (W : World) (h1 : Pairs W A n ps) :
    Calls Try.prog 21 #[.slice A n c, .string nm] W fun e w' => e = .returned (.tuple #[.string ((getL ps nm).getD .empty), .bool (getL ps nm).isSome]) ∧ Below W.heap.size W w' := by
  obtain ⟨T, hT⟩ : ∃ T, getL ps nm = T := ⟨_, rfl⟩
  rw [hT]
  have HT := Lib.hid (show (findL (ps.drop 0) nm).map (·.2) = T by rw [List.drop_zero]; exact hT)
  have H1 := Lib.hid h1
  clear hT h1
  go_enter Try.func21, Try.ntmps21
  go_wp2
  go_loopw [10] (fun iv wr => ∃ j : Nat, j ≤ n ∧ iv = .int .i64 j ∧ Hid ((findL (ps.drop j) nm).map (·.2) = T) ∧ Below W.heap.size W wr) (fun iv _ => n - (intOf iv).toNat)
  case atStart => exact ⟨0, Nat.zero_le _, rfl, HT, Below.refl _ _⟩
  case round =>
    obtain ⟨j, hjn, rfl, HJ, hb⟩ := hrel
    have hsz := hb.size
    have l1 := H1.out.1
    by_cases hj : j < n
    · obtain ⟨b1, o1, rfl, hlt1, hc1⟩ := (H1.out.below hb).2 (by omega)
      obtain ⟨c1, c2⟩ := hc1 j hj
      have d1 : ps.drop j = ps.getD j pnil :: ps.drop (j + 1) := by
        rw [List.drop_eq_getElem_cons (by omega), List.getD_eq_getElem?_getD, List.getElem?_eq_getElem (by omega)]
        rfl
      obtain ⟨p, hp⟩ : ∃ p, ps.getD j pnil = p := ⟨_, rfl⟩
      rw [hp] at c1 c2 d1
      obtain ⟨p1, p2⟩ := p
      dsimp only at c1 c2
      have hstep : findL (ps.drop j) nm = if p1 = nm then some (p1, p2) else findL (ps.drop (j + 1)) nm := by
        rw [d1]
        unfold findL
        by_cases h : p1 = nm
        · rw [List.find?_cons_of_pos (by simpa using h), if_pos h]
        · rw [List.find?_cons_of_neg (by simpa using h), if_neg h]
      have hjI : (j : Int) < (n : Int) := by omega
      have hj0 := HJ.out
      rw [hstep] at hj0
      clear hc1 hp d1 hstep
      by_cases he : p1 = nm
      · have g := text_same he
        rw [if_pos he] at hj0
        have E := Lib.hid (show T = some p2 from hj0.symm)
        clear he hj0
        go_wp2
        go_ret2
        exact ⟨by rw [E.out]; rfl, hb.alloc hsz _⟩
      · have g := text_other he
        rw [if_neg he] at hj0
        have HN := Lib.hid hj0
        clear he hj0
        go_wp2
        go_round
        case rel => exact ⟨j + 1, by omega, by go_num, HN, hb.alloc hsz _⟩
        case measure => simp [intOf]; omega
    · obtain rfl : j = n := by omega
      have E := Lib.hid (show T = none by rw [← HJ.out, show ps.drop j = [] from List.drop_of_length_le (by omega)]; rfl)
      go_wp2
      go_ret2
      exact ⟨by rw [E.out]; rfl, hb⟩
end Go.Proofs.Ytimmfmgnjpcdoaa
namespace Go.Proofs.Ytimmfmgnjpcdoaa
open Go.RowKit Go.Sort
set_option linter.unusedVariables false
set_option linter.unusedSimpArgs false

/-- may a label stand behind one of the name prev? -/
def okAt (prev : Option ByteArray) (p : PairB) : Bool := nameB p.1 && (decide (p.2.size ≤ 256) && match prev with | none => true | some q => decide (txtC q p.1 < 0))
def rightGo : Option ByteArray → List PairB → Bool
  | _, [] => true
  | prev, p :: ps => okAt prev p && rightGo (some p.1) ps
def rightB (ps : List PairB) : Bool := decide (ps.length ≤ 16) && rightGo none ps
def prevAt (ps : List PairB) (j : Nat) : Option ByteArray := if j = 0 then none else some (ps.getD (j - 1) pnil).1

theorem geq_run (q p : ByteArray) (w : World) : Sem.run Try.prog (binOp BinOp.geq 9 (.string q) (.string p)) w = .ok (.bool (!decide (txtC q p < 0))) w := by
  simp [binOp, Op.stringOp, less_txtC]

set_option maxRecDepth 100000 in
set_option maxHeartbeats 1600000 in
theorem right_any (A : Option Addr) (n c : Nat) (ps : List PairB) (hn : n ≤ 9223372036854775807) (W : World) (h1 : Pairs W A n ps) :
    Calls Try.prog 22 #[.slice A n c] W fun e w' => e = .returned (.bool (rightB ps)) ∧ Below W.heap.size W w' := by
  by_cases h16 : 16 < n
  · have E := Lib.hid (show rightB ps = false by unfold rightB; rw [decide_eq_false (by rw [h1.1]; omega)]; rfl)
    have hI : (16 : Int) < (n : Int) := by omega
    clear h1
    go_enter Try.func22, Try.ntmps22
    go_wp2
    go_ret
    exact ⟨ret_bool E.out.symm, Below.refl _ _⟩
  · have hT0 : rightB ps = rightGo none ps := by unfold rightB; rw [decide_eq_true (by rw [h1.1]; omega)]; rfl
    obtain ⟨T, hT⟩ : ∃ T, rightB ps = T := ⟨_, rfl⟩
    rw [hT]
    rw [hT] at hT0
    have HT := Lib.hid (show rightGo (prevAt ps 0) (ps.drop 0) = T by rw [List.drop_zero, hT0]; rfl)
    have H1 := Lib.hid h1
    have hI : ¬ (16 : Int) < (n : Int) := by omega
    clear hT hT0 h1
    go_enter Try.func22, Try.ntmps22
    go_wp2
    go_loopw [10] (fun iv wr => ∃ j : Nat, j ≤ n ∧ iv = .int .i64 j ∧ Hid (rightGo (prevAt ps j) (ps.drop j) = T) ∧ Below W.heap.size W wr) (fun iv _ => n - (intOf iv).toNat)
    case atStart => exact ⟨0, Nat.zero_le _, rfl, HT, Below.refl _ _⟩
    case round =>
      obtain ⟨j, hjn, rfl, HJ, hb⟩ := hrel
      have hsz := hb.size
      have l1 := H1.out.1
      by_cases hj : j < n
      · obtain ⟨b1, o1, rfl, hlt1, hc1⟩ := (H1.out.below hb).2 (by omega)
        obtain ⟨c1, c2⟩ := hc1 j hj
        have d1 : ps.drop j = ps.getD j pnil :: ps.drop (j + 1) := by
          rw [List.drop_eq_getElem_cons (by omega), List.getD_eq_getElem?_getD, List.getElem?_eq_getElem (by omega)]
          rfl
        have hpn : prevAt ps (j + 1) = some (ps.getD j pnil).1 := by unfold prevAt; rw [if_neg (by omega)]; rfl
        have hpj : (j = 0 ∧ prevAt ps j = none) ∨ ∃ jp, j = jp + 1 ∧ prevAt ps j = some (ps.getD jp pnil).1 := by
          cases j with
          | zero => exact .inl ⟨rfl, rfl⟩
          | succ jp => exact .inr ⟨jp, rfl, rfl⟩
        obtain ⟨p, hp⟩ : ∃ p, ps.getD j pnil = p := ⟨_, rfl⟩
        rw [hp] at c1 c2 d1 hpn
        obtain ⟨p1, p2⟩ := p
        dsimp only at c1 c2 hpn
        have hjI : (j : Int) < (n : Int) := by omega
        have hstep : T = (okAt (prevAt ps j) (p1, p2) && rightGo (prevAt ps (j + 1)) (ps.drop (j + 1))) := by rw [← HJ.out, d1, hpn, rightGo]
        have NM : ∀ w, Calls Try.prog 20 #[.string p1] w fun e w' => e = .returned (.bool (nameB p1)) ∧ ∃ q os, w' = grow (w.drewN q) os := fun w => name_grown p1 w
        have hok : okAt (prevAt ps j) (p1, p2) = (nameB p1 && (decide (p2.size ≤ 256) && match prevAt ps j with | none => true | some q => decide (txtC q p1 < 0))) := rfl
        rw [hok] at hstep
        obtain ⟨nb, hnb⟩ : ∃ b, nameB p1 = b := ⟨_, rfl⟩
        rw [hnb] at hstep
        simp only [hnb] at NM
        replace NM := Lib.hid NM
        have B1 := Blk.new wr 39 #[.string p1, .string p2]
        have hba : Below W.heap.size W (wr.alloc (.cells #[.string p1, .string p2] 39)) := hb.alloc hsz _
        have hPa : ∀ i, i < n → (wr.alloc (.cells #[.string p1, .string p2] 39)).cell? ⟨b1, o1 + i * 2, none⟩ = some (.string (ps.getD i pnil).1) := fun i hi => (World.cell?_of_block (heap_alloc_old wr _ hlt1)).trans (hc1 i hi).1
        have hz0 : wr.heap.size < (wr.alloc (.cells #[.string p1, .string p2] 39)).heap.size := by simp
        obtain ⟨w0, hw0⟩ : ∃ w, wr.alloc (.cells #[.string p1, .string p2] 39) = w := ⟨_, rfl⟩
        rw [hw0] at B1 hba hPa hz0
        have HW0 := Lib.hid hw0
        have k1 : ∀ n os, (grow (w0.drewN n) os).cell? ⟨wr.heap.size, 0, none⟩ = some (.string p1) := fun n os => cell_grown (w := w0) (a := ⟨wr.heap.size, 0, none⟩) hz0 ((B1.cell 0).trans rfl) n os
        have k2 : ∀ n os, (grow (w0.drewN n) os).cell? ⟨wr.heap.size, 1, none⟩ = some (.string p2) := fun n os => cell_grown (w := w0) (a := ⟨wr.heap.size, 1, none⟩) hz0 ((B1.cell 1).trans rfl) n os
        have mixed : Try.prog.follows .mixedOrders = true := by kernel_rfl
        replace hPa := Lib.hid hPa
        have hlt1a : b1 < w0.heap.size := by omega
        have HPJ := Lib.hid hpj
        clear hc1 hp d1 hpn hnb hok B1 hw0 hpj
        cases nb with
        | false =>
          have E := Lib.hid (show T = false from hstep)
          clear hstep hPa
          go_wp2
          rw [HW0.out]
          clear c1 c2
          refine wp_region_quiet_grown mixed (by kernel_rfl) ?_
          iterate 3 (quiet_step (first | (go_at_call 20; refine Calls.grown_of (NM.out _))))
          repeat (generalize hst : ({ tmps := _, defers := _ } : Act) = st; refine wpQuiet_step (fun K hK => ?_); subst hst; go_simp; refine hK _ ?_; clear hK K)
          refine wpQuiet_nil ?_
          intro _ hw'
          obtain ⟨⟨nq, osq⟩, hw''⟩ := hw'
          subst hw''
          have hb4 := hba.trans (Go.Lib.below_grow W.heap.size w0 hba.size nq osq)
          go_wp2
          go_ret
          exact ⟨ret_bool E.out.symm, hb4⟩
        | true =>
          by_cases hv : 256 < p2.size
          · have E := Lib.hid (show T = false by rw [hstep, decide_eq_false (show ¬ p2.size ≤ 256 by omega)]; rfl)
            have hvI : decide ((256 : Int) < (p2.size : Int)) = true := decide_eq_true (by omega)
            clear hstep hPa
            go_wp2
            rw [HW0.out]
            clear c1 c2
            refine wp_region_quiet_grown mixed (by kernel_rfl) ?_
            iterate 3 (quiet_step (first | (go_at_call 20; refine Calls.grown_of (NM.out _))))
            repeat (generalize hst : ({ tmps := _, defers := _ } : Act) = st; refine wpQuiet_step (fun K hK => ?_); subst hst; go_simp; refine hK _ ?_; clear hK K)
            refine wpQuiet_nil ?_
            intro _ hw'
            obtain ⟨⟨nq, osq⟩, hw''⟩ := hw'
            subst hw''
            have hb4 := hba.trans (Go.Lib.below_grow W.heap.size w0 hba.size nq osq)
            go_wp2
            go_ret
            exact ⟨ret_bool E.out.symm, hb4⟩
          · have hvI : decide ((256 : Int) < (p2.size : Int)) = false := decide_eq_false (by omega)
            rw [decide_eq_true (show p2.size ≤ 256 by omega)] at hstep
            rcases HPJ.out with ⟨hj0, hpj⟩ | ⟨jp, rfl, hpj⟩
            · rw [hpj] at hstep
              have HN := Lib.hid (show rightGo (prevAt ps (j + 1)) (ps.drop (j + 1)) = T from hstep.symm)
              have jz : decide (0 < j) = false := decide_eq_false (by omega)
              clear hj0
              clear hstep hPa hpj
              go_wp2
              rw [HW0.out]
              clear c1 c2
              refine wp_region_quiet_grown mixed (by kernel_rfl) ?_
              iterate 3 (quiet_step (first | (go_at_call 20; refine Calls.grown_of (NM.out _))))
              repeat (generalize hst : ({ tmps := _, defers := _ } : Act) = st; refine wpQuiet_step (fun K hK => ?_); subst hst; go_simp; refine hK _ ?_; clear hK K)
              refine wpQuiet_nil ?_
              intro _ hw'
              obtain ⟨⟨nq, osq⟩, hw''⟩ := hw'
              subst hw''
              have hb4 := hba.trans (Go.Lib.below_grow W.heap.size w0 hba.size nq osq)
              go_wp2
              go_round
              case rel => exact ⟨j + 1, by omega, by go_num, HN, hb4⟩
              case measure => simp [intOf]; omega
            · rw [hpj] at hstep
              have k3 := hPa.out jp (by omega)
              replace k3 := fun n os => cell_grown (w := w0) (a := ⟨b1, o1 + jp * 2, none⟩) hlt1a k3 n os
              obtain ⟨q, hq⟩ : ∃ q, (ps.getD jp pnil).1 = q := ⟨_, rfl⟩
              rw [hq] at k3 hstep
              have hstep2 : T = (decide (txtC q p1 < 0) && rightGo (prevAt ps (jp + 1 + 1)) (ps.drop (jp + 1 + 1))) := hstep
              clear hstep
              have hge := fun w => geq_run q p1 w
              have hwp : IntKind.i64.wrap (jp : Int) = (jp : Int) := by rw [IntKind.wrap_i64]; omega
              have jz : (jp : Int) + 1 < (n : Int) := by omega
              have jz1 : (jp : Int) < (n : Int) := by omega
              have jz0 : (0 : Int) < (jp : Int) + 1 := by omega
              have jz3 : decide ((0 : Int) < (jp : Int) + 1) = true := decide_eq_true jz0
              by_cases hlt : txtC q p1 < 0
              · simp only [decide_eq_true hlt, Bool.not_true] at hge
                have HN := Lib.hid (show rightGo (prevAt ps (jp + 1 + 1)) (ps.drop (jp + 1 + 1)) = T by rw [hstep2, decide_eq_true hlt]; rfl)
                clear hstep2 hPa hpj hq hlt
                go_wp2
                rw [HW0.out]
                clear c1 c2
                refine wp_region_quiet_grown mixed (by kernel_rfl) ?_
                iterate 3 (quiet_step (first | (go_at_call 20; refine Calls.grown_of (NM.out _))))
                repeat (generalize hst : ({ tmps := _, defers := _ } : Act) = st; refine wpQuiet_step (fun K hK => ?_); subst hst; go_simp; refine hK _ ?_; clear hK K)
                refine wpQuiet_nil ?_
                intro _ hw'
                obtain ⟨⟨nq, osq⟩, hw''⟩ := hw'
                subst hw''
                have hb4 := hba.trans (Go.Lib.below_grow W.heap.size w0 hba.size nq osq)
                go_wp2
                go_round
                case rel => exact ⟨jp + 1 + 1, by omega, by go_num, HN, hb4⟩
                case measure => simp [intOf]; omega
              · simp only [decide_eq_false hlt, Bool.not_false] at hge
                have E := Lib.hid (show T = false by rw [hstep2, decide_eq_false hlt]; rfl)
                clear hstep2 hPa hpj hq hlt
                go_wp2
                rw [HW0.out]
                clear c1 c2
                refine wp_region_quiet_grown mixed (by kernel_rfl) ?_
                iterate 3 (quiet_step (first | (go_at_call 20; refine Calls.grown_of (NM.out _))))
                repeat (generalize hst : ({ tmps := _, defers := _ } : Act) = st; refine wpQuiet_step (fun K hK => ?_); subst hst; go_simp; refine hK _ ?_; clear hK K)
                refine wpQuiet_nil ?_
                intro _ hw'
                obtain ⟨⟨nq, osq⟩, hw''⟩ := hw'
                subst hw''
                have hb4 := hba.trans (Go.Lib.below_grow W.heap.size w0 hba.size nq osq)
                go_wp2
                go_ret
                exact ⟨ret_bool E.out.symm, hb4⟩
      · obtain rfl : j = n := by omega
        have E := Lib.hid (show T = true by rw [← HJ.out, show ps.drop j = [] from List.drop_of_length_le (by omega)]; rfl)
        go_wp2
        go_ret
        exact ⟨ret_bool E.out.symm, hb⟩
end Go.Proofs.Ytimmfmgnjpcdoaa
