-- shaken
import Derived.Test.YtdaainifkldcpaaGreatDoorLabMath
import Derived.Test.YtdaainifkldcpaaGreatDoorShelf
import Derived.Test.YtdaainifkldcpaaGreatDoorProg
import Derived.Deep.RegionHeld3
import Derived.Shelf.SlSortCmp.InsertionK
import Derived.Shelf.SlicesQ.Equal
import Derived.Laws.StructEq
namespace Go.Proofs.YtdaainifkldcpaaGreatDoor
open Go.RowKit
set_option linter.unusedVariables false
set_option linter.unusedSimpArgs false
theorem compare_any (a b : ByteArray) (W : World) : Calls Tryz.prog 85 #[.string a, .string b] W fun e w' => e = .returned (.int .i64 (txtC a b)) ∧ w' = W := Tryz.strings_Compare a b W
theorem ret_int {a b : Int} (h : a = b) : Ending.returned (.int .i64 a) = .returned (.int .i64 b) := by rw [h]
set_option maxHeartbeats 800000 in
theorem or_any (x y : Int) (A : Option Addr) (cp : Nat) (W : World) (h : Ints .i64 W A 2 [x, y]) :
    Calls Tryz.prog 82 #[.slice A 2 cp] W fun e w' => e = .returned (.int .i64 (if x = 0 then y else x)) ∧ W = w' := by
  obtain ⟨b, off, rfl, hlt, hc⟩ := h.2.2 (by decide)
  have HC := Lib.hid (show ∀ j : Nat, j < 2 → W.cell? ⟨b, off + j, none⟩ = some (.int .i64 ([x, y].getD j 0)) from hc)
  obtain ⟨T, hT⟩ : ∃ T, (if x = 0 then y else x) = T := ⟨_, rfl⟩
  rw [hT]
  have HT := Lib.hid hT
  clear hc h hT
  go_enter Tryz.func82, Tryz.ntmps82
  go_wp2
  go_loop [8] (fun i => ∃ j : Nat, 0 ≤ j ∧ j ≤ 2 ∧ i = .int .i64 j ∧ Hid (1 ≤ j → x = 0) ∧ Hid (2 ≤ j → y = 0)) (fun i => 2 - (intOf i).toNat)
  case atStart => exact ⟨0, Nat.zero_le _, by decide, rfl, Lib.hid (fun h => absurd h (by decide)), Lib.hid (fun h => absurd h (by decide))⟩
  case round =>
    obtain ⟨j, _, hj, rfl, H1, H2⟩ := hrel
    by_cases hj2 : j < 2
    · have c := HC.out j hj2
      obtain ⟨z, hz⟩ : ∃ z, [x, y].getD j 0 = z := ⟨_, rfl⟩
      rw [hz] at c
      have hjI : (j : Int) < 2 := by omega
      by_cases z0 : z = 0
      · have n1 := Lib.hid (show 1 ≤ j + 1 → x = 0 from fun _ => by
          rcases (by omega : j = 0 ∨ j = 1) with rfl | rfl
          · rw [← z0, ← hz]; rfl
          · exact H1.out (by decide))
        have n2 := Lib.hid (show 2 ≤ j + 1 → y = 0 from fun h => by
          obtain rfl : j = 1 := by omega
          rw [← z0, ← hz]; rfl)
        subst z0
        clear hz
        go_wp2
        go_round
        case rel => exact ⟨j + 1, Nat.zero_le _, by omega, by go_num, n1, n2⟩
        case measure => simp [intOf]; omega
      · have E := Lib.hid (show z = T by
          rw [← HT.out]
          rcases (by omega : j = 0 ∨ j = 1) with rfl | rfl
          · have : x = z := hz
            rw [this, if_neg z0]
          · rw [if_pos (H1.out (by decide))]; exact hz.symm)
        clear hz
        go_wp2
        go_ret
        exact ⟨ret_int E.out, rfl⟩
    · obtain rfl : j = 2 := by omega
      have E := Lib.hid (show (0 : Int) = T by rw [← HT.out, if_pos (H1.out (by decide)), H2.out (by decide)])
      go_wp2
      go_ret
      exact ⟨ret_int E.out, rfl⟩
set_option maxRecDepth 100000 in
set_option maxHeartbeats 1600000 in
theorem orderF_any (p q : PairB) (W : World) :
    Calls Tryz.prog 119 #[.agg #[.string p.1, .string p.2], .agg #[.string q.1, .string q.2]] W fun e w' => e = .returned (.int .i64 (pairC p q)) ∧ Below W.heap.size W w' := by
  obtain ⟨p1, p2⟩ := p
  obtain ⟨q1, q2⟩ := q
  have C1 := Lib.hid (fun w => compare_any p1 q1 w)
  have C2 := Lib.hid (fun w => compare_any p2 q2 w)
  have E := Lib.hid (show (if txtC p1 q1 = 0 then txtC p2 q2 else txtC p1 q1) = pairC (p1, p2) (q1, q2) from rfl)
  have w1 := txtC_vals p1 q1
  have w2 := txtC_vals p2 q2
  obtain ⟨x, hx⟩ : ∃ x, txtC p1 q1 = x := ⟨_, rfl⟩
  obtain ⟨y, hy⟩ : ∃ x, txtC p2 q2 = x := ⟨_, rfl⟩
  rw [hx] at C1 w1 E
  rw [hy] at C2 w2 E
  have hwx : [x, y].all (fun z => (Lit.int .i64 z).wf) = true := by
    rcases w1 with rfl | rfl | rfl <;> rcases w2 with rfl | rfl | rfl <;> rfl
  have OR := (fun w g (hg : g = w.heap.size) => or_any x y (some ⟨g, 0, none⟩) 2 ((w.alloc (.cells #[.int .i64 x, .int .i64 y] 3)).drew) (ints_lit w 3 [x, y] hwx g hg))
  obtain ⟨T, hT⟩ : ∃ T, (if x = 0 then y else x) = T := ⟨_, rfl⟩
  simp only [hT] at OR
  rw [hT] at E
  replace OR := Lib.hid OR
  clear hx hy w1 w2 hwx hT
  dsimp only
  go_enter Tryz.func119, Tryz.ntmps119
  go_wp2
  have B1 := (Blk.new W 165 #[.string p1, .string p2]).alloc (.cells #[.string q1, .string q2] 165)
  have B2 := Blk.new (W.alloc (.cells #[.string p1, .string p2] 165)) 165 #[.string q1, .string q2]
  have hs1 : (W.alloc (.cells #[.string p1, .string p2] 165)).heap.size = W.heap.size + 1 := by simp
  rw [hs1] at B2
  have hb1 : Below W.heap.size W ((W.alloc (.cells #[.string p1, .string p2] 165)).alloc (.cells #[.string q1, .string q2] 165)) := ((Below.refl _ _).alloc (Nat.le_refl _) _).alloc (by simp) _
  obtain ⟨w1, hw1⟩ : ∃ w, (W.alloc (.cells #[.string p1, .string p2] 165)).alloc (.cells #[.string q1, .string q2] 165) = w := ⟨_, rfl⟩
  rw [hw1] at B1 B2 hb1 ⊢
  clear hw1 hs1
  have k1 : w1.cell? ⟨W.heap.size, 0, none⟩ = some (.string p1) := (B1.cell 0).trans rfl
  have k2 : w1.cell? ⟨W.heap.size, 1, none⟩ = some (.string p2) := (B1.cell 1).trans rfl
  have k3 : w1.cell? ⟨W.heap.size + 1, 0, none⟩ = some (.string q1) := (B2.cell 0).trans rfl
  have k4 : w1.cell? ⟨W.heap.size + 1, 1, none⟩ = some (.string q2) := (B2.cell 1).trans rfl
  clear B1 B2
  go_region_held3 (fun w' => w'.cell? ⟨W.heap.size, 0, none⟩ = some (.string p1) ∧ w'.cell? ⟨W.heap.size, 1, none⟩ = some (.string p2) ∧ w'.cell? ⟨W.heap.size + 1, 0, none⟩ = some (.string q1) ∧ w'.cell? ⟨W.heap.size + 1, 1, none⟩ = some (.string q2)) (first | go_keep)
    (first | (go_at_call 85; refine (C1.out _).mono ?_; rintro e w3 ⟨rfl, rfl⟩) | (go_at_call 85; refine (C2.out _).mono ?_; rintro e w3 ⟨rfl, rfl⟩) | (go_at_call 82; refine (OR.out _ _ ?_).mono ?_; rfl; rintro e w3 ⟨rfl, rfl⟩))
  go_wp2
  go_ret
  exact ⟨ret_int E.out, below_drewN (hb1.alloc hb1.size _) 1⟩
set_option maxRecDepth 100000 in
set_option maxHeartbeats 1600000 in
theorem compareF_any (A B : Option Addr) (n m c d : Nat) (ps qs : List PairB) (hn : n ≤ 9223372036854775807) (hm : m ≤ 9223372036854775807) (W : World) (h1 : Pairs W A n ps) (h2 : Pairs W B m qs) :
    Calls Tryz.prog 118 #[.slice A n c, .slice B m d, .func (.func 119) #[] #[]] W fun e w' => e = .returned (.int .i64 (orderL ps qs)) ∧ Below W.heap.size W w' := by
  have h0 : W.heap.size ≤ W.heap.size := Nat.le_refl _
  obtain ⟨T, hT⟩ : ∃ T, orderL ps qs = T := ⟨_, rfl⟩
  rw [hT]
  have HT := Lib.hid hT
  have H1 := Lib.hid h1
  have H2 := Lib.hid h2
  have OF := Lib.hid orderF_any
  clear hT h1 h2
  go_enter Tryz.func118, Tryz.ntmps118
  go_wp2
  go_loopw [13] (fun iv wr => ∃ j : Nat, j ≤ n ∧ j ≤ m ∧ iv = .int .i64 j ∧ Hid (lexC pairC (ps.drop j) (qs.drop j) = T) ∧ Below W.heap.size W wr) (fun iv _ => n - (intOf iv).toNat)
  case atStart => exact ⟨0, Nat.zero_le _, Nat.zero_le _, rfl, Lib.hid (by rw [List.drop_zero, List.drop_zero]; exact HT.out), Below.refl _ _⟩
  case round =>
    obtain ⟨j, hjn, hjm, rfl, HJ, hb⟩ := hrel
    have hsz := hb.size
    have l1 := H1.out.1
    have l2 := H2.out.1
    by_cases hj : j < n
    · obtain ⟨b1, o1, rfl, hlt1, hc1⟩ := (H1.out.below hb).2 (by omega)
      obtain ⟨c1, c2⟩ := hc1 j hj
      have d1 : ps.drop j = ps.getD j pnil :: ps.drop (j + 1) := by
        rw [List.drop_eq_getElem_cons (by omega), List.getD_eq_getElem?_getD, List.getElem?_eq_getElem (by omega)]
        rfl
      obtain ⟨p, hp⟩ : ∃ p, ps.getD j pnil = p := ⟨_, rfl⟩
      rw [hp] at c1 c2 d1
      obtain ⟨p1, p2⟩ := p
      dsimp only at c1 c2
      have hjI : (j : Int) < (n : Int) := by omega
      clear hc1 hp
      by_cases hm2 : j < m
      · obtain ⟨b2, o2, rfl, hlt2, hc2⟩ := (H2.out.below hb).2 (by omega)
        obtain ⟨c3, c4⟩ := hc2 j hm2
        have d2 : qs.drop j = qs.getD j pnil :: qs.drop (j + 1) := by
          rw [List.drop_eq_getElem_cons (by omega), List.getD_eq_getElem?_getD, List.getElem?_eq_getElem (by omega)]
          rfl
        obtain ⟨q, hq⟩ : ∃ q, qs.getD j pnil = q := ⟨_, rfl⟩
        rw [hq] at c3 c4 d2
        obtain ⟨q1, q2⟩ := q
        dsimp only at c3 c4
        have hmI : ¬ (m : Int) ≤ (j : Int) := by omega
        have hstep : T = if pairC (p1, p2) (q1, q2) = 0 then lexC pairC (ps.drop (j + 1)) (qs.drop (j + 1)) else pairC (p1, p2) (q1, q2) := by
          rw [← HJ.out, d1, d2, lexC]
        have C := OF.out (p1, p2) (q1, q2)
        obtain ⟨x, hx⟩ : ∃ x, pairC (p1, p2) (q1, q2) = x := ⟨_, rfl⟩
        rw [hx] at C hstep
        replace C := Lib.hid C
        clear hc2 hq d1 d2 hx
        by_cases hx0 : x = 0
        · rw [if_pos hx0] at hstep
          have HS := Lib.hid hstep.symm
          subst hx0
          clear hstep
          go_wp2_with fail
          refine (C.out _).mono ?_
          rintro e w2 ⟨rfl, hx⟩
          have hb2 := hop ((hb.alloc hsz _).alloc (by simp; omega) _) h0 hx
          clear hx
          go_wp2
          go_round
          case rel => exact ⟨j + 1, by omega, by omega, by go_num, HS, hb2⟩
          case measure => simp [intOf]; omega
        · rw [if_neg hx0] at hstep
          have HS := Lib.hid hstep.symm
          clear hstep
          go_wp2_with fail
          refine (C.out _).mono ?_
          rintro e w2 ⟨rfl, hx⟩
          have hb2 := hop ((hb.alloc hsz _).alloc (by simp; omega) _) h0 hx
          clear hx
          go_wp2
          go_ret
          exact ⟨ret_int HS.out, hb2⟩
      · have hmI : (m : Int) ≤ (j : Int) := by omega
        have E := Lib.hid (show (1 : Int) = T by rw [← HJ.out, d1, show qs.drop j = [] from List.drop_of_length_le (by omega)]; rfl)
        clear d1
        go_wp2
        go_ret
        exact ⟨ret_int E.out, hb.alloc hsz _⟩
    · obtain rfl : j = n := by omega
      by_cases hm2 : j < m
      · have E := Lib.hid (show (-1 : Int) = T by
          rw [← HJ.out, show ps.drop j = [] from List.drop_of_length_le (by omega), List.drop_eq_getElem_cons (by omega)]; rfl)
        have hmI : (j : Int) < (m : Int) := by omega
        go_wp2
        go_ret
        exact ⟨ret_int E.out, hb⟩
      · have E := Lib.hid (show (0 : Int) = T by
          rw [← HJ.out, show ps.drop j = [] from List.drop_of_length_le (by omega), show qs.drop j = [] from List.drop_of_length_le (by omega)]; rfl)
        have hmI : ¬ (j : Int) < (m : Int) := by omega
        go_wp2
        go_ret
        exact ⟨ret_int E.out, hb⟩
theorem order_any (A B : Option Addr) (n m c d : Nat) (ps qs : List PairB) (hn : n ≤ 9223372036854775807) (hm : m ≤ 9223372036854775807) (W : World) (h1 : Pairs W A n ps) (h2 : Pairs W B m qs) :
    Calls Tryz.prog 84 #[.slice A n c, .slice B m d] W fun e w' => e = .returned (.int .i64 (orderL ps qs)) ∧ Below W.heap.size W w' := by
  have C := Lib.hid (compareF_any A B n m c d ps qs hn hm W h1 h2)
  obtain ⟨T, hT⟩ : ∃ T, orderL ps qs = T := ⟨_, rfl⟩
  rw [hT] at C ⊢
  clear hT h1 h2
  go_enter Tryz.func84, Tryz.ntmps84
  go_wp2_with fail
  refine C.out.mono ?_
  rintro e w ⟨rfl, hb⟩
  go_wp2
  go_ret
  exact ⟨rfl, hb⟩
end Go.Proofs.YtdaainifkldcpaaGreatDoor
namespace Go.Proofs
set_option linter.unusedVariables false
set_option linter.unusedSimpArgs false
open Go.Shelf
def Tryz.insPair_ren : Go.Shelf.Ren := ⟨fun | 20 => 166 | n => n, fun | 24 => 165 | 22 => 44 | 3 => 3 | 25 => 229 | 4 => 4 | 0 => 0 | n => n, fun | n => n⟩
theorem Tryz.insPair : Go.Proofs.SlLaysF0.n20 Tryz.prog Tryz.insPair_ren := {
  mixed := by kernel_rfl
  f20 := ⟨Tryz.f166.name, by decide, Tryz.func166.trans (congrArg some (by kernel_rfl))⟩
  t0 := Tryz.underlying0
  a0 := Tryz.isAgg0
  z0 := Tryz.sizeOf0
  v0 := Tryz.zeroValue0
  t3 := Tryz.underlying3
  a3 := Tryz.isAgg3
  z3 := Tryz.sizeOf3
  v3 := Tryz.zeroValue3
  t4 := Tryz.underlying4
  a4 := Tryz.isAgg4
  z4 := Tryz.sizeOf4
  v4 := Tryz.zeroValue4
  t22 := Tryz.underlying44
  a22 := Tryz.isAgg44
  z22 := Tryz.sizeOf44
  v22 := Tryz.zeroValue44
  t25 := Tryz.underlying229
  a25 := Tryz.isAgg229
  z25 := Tryz.sizeOf229
  v25 := Tryz.zeroValue229 }
def Tryz.eqPair_ren : Go.Shelf.Ren := ⟨fun | 8 => 87 | n => n, fun | 22 => 45 | 24 => 165 | 4 => 4 | 3 => 3 | 0 => 0 | n => n, fun | n => n⟩
theorem Tryz.eqPair : Go.Proofs.SlLaysQ.n8 Tryz.prog Tryz.eqPair_ren := {
  mixed := by kernel_rfl
  f8 := ⟨Tryz.f87.name, by decide, Tryz.func87.trans (congrArg some (by kernel_rfl))⟩
  t0 := Tryz.underlying0
  a0 := Tryz.isAgg0
  z0 := Tryz.sizeOf0
  v0 := Tryz.zeroValue0
  t3 := Tryz.underlying3
  a3 := Tryz.isAgg3
  z3 := Tryz.sizeOf3
  v3 := Tryz.zeroValue3
  t4 := Tryz.underlying4
  a4 := Tryz.isAgg4
  z4 := Tryz.sizeOf4
  v4 := Tryz.zeroValue4
  t22 := Tryz.underlying45
  a22 := Tryz.isAgg45
  z22 := Tryz.sizeOf45
  v22 := Tryz.zeroValue45 }
end Go.Proofs
namespace Go.Proofs.YtdaainifkldcpaaGreatDoor
open Go.RowKit
set_option linter.unusedVariables false
set_option linter.unusedSimpArgs false
def pairV (p : PairB) : List Value := [.string p.1, .string p.2]
theorem pairV_one (p : PairB) : ∀ v ∈ pairV p, v.oneCell' = true := by
  intro v hv
  simp [pairV] at hv
  rcases hv with rfl | rfl <;> rfl
def eqP (x y : PairB) : Bool := x.1.toList == y.1.toList && x.2.toList == y.2.toList
theorem eqP_iff (x y : PairB) : eqP x y = decide (x = y) := by
  unfold eqP
  rw [text_eq, text_eq, Bool.eq_iff_iff, Bool.and_eq_true, decide_eq_true_iff, decide_eq_true_iff, decide_eq_true_iff]
  constructor
  · rintro ⟨h1, h2⟩; exact Prod.ext h1 h2
  · rintro rfl; exact ⟨rfl, rfl⟩
theorem neqPair : NeqAt Tryz.prog 165 (fun x : PairB => .agg (pairV x).toArray) eqP := by
  refine ⟨fun x y w => ?_, GuardAt.agg _ (by kernel_rfl)⟩
  have u9 := Tryz.underlying9
  have a9 := Tryz.isAgg9
  have z9 := Tryz.sizeOf9
  have hS : Tryz.prog.underlying 165 = some (.struct (Tryz.prog.fieldsOf 165)) := by kernel_rfl
  have hp : Tryz.prog.stoodInHeld 165 = false := by kernel_rfl
  simp only [pairV]
  rw [run_neq_struct, show (10000 : Nat) = 9999 + 1 from rfl, run_equalIn_agg w 9999 165 _ _ hS hp]
  simp only [Program.fieldsOf, Tryz.underlying165]
  unfold eqP
  cases h1 : (x.1.toList == y.1.toList) <;> cases h2 : (x.2.toList == y.2.toList)
  all_goals
    go_simp
    try simp [h1, h2]
theorem allEq_iff : ∀ ps qs : List PairB, Lib.allEq eqP ps qs = decide (ps = qs)
  | [], [] => rfl
  | [], _ :: _ => rfl
  | _ :: _, [] => rfl
  | p :: ps, q :: qs => by
    have ih := allEq_iff ps qs
    unfold Lib.allEq
    rw [ih, eqP_iff, Bool.eq_iff_iff, Bool.and_eq_true, decide_eq_true_iff, decide_eq_true_iff, decide_eq_true_iff]
    simp
theorem pairs_cells {w : World} {b off n : Nat} {ps : List PairB} (hl : ps.length = n) (hc : ∀ j, j < n → w.cell? ⟨b, off + j * 2, none⟩ = some (.string (ps.getD j pnil).1) ∧ w.cell? ⟨b, off + j * 2 + 1, none⟩ = some (.string (ps.getD j pnil).2)) :
    ∀ j, j < ps.length → ∀ i v, (pairV ps[j]!)[i]? = some v → w.cell? ⟨b, off + j * 2 + i, none⟩ = some v := by
  intro j hj i v hv
  have e : ps[j]! = ps.getD j pnil := by
    rw [getElem!_pos ps j hj, List.getD_eq_getElem?_getD, List.getElem?_eq_getElem hj]
    rfl
  rw [e] at hv
  obtain ⟨c0, c1⟩ := hc j (by omega)
  match i, hv with
  | 0, hv => injection hv with hv; rw [← hv]; exact c0
  | 1, hv => injection hv with hv; rw [← hv]; exact c1
  | i + 2, hv => cases hv
set_option maxHeartbeats 800000 in
theorem equal_any (A B : Option Addr) (n m c d : Nat) (ps qs : List PairB) (hn : n ≤ 9223372036854775807) (hm : m ≤ 9223372036854775807) (W : World) (h1 : Pairs W A n ps) (h2 : Pairs W B m qs) :
    Calls Tryz.prog 87 #[.slice A n c, .slice B m d] W fun e w' => e = .returned (.bool (decide (ps = qs))) ∧ ∃ q, w' = W.drewN q := by
  by_cases hnm : n = m
  · subst hnm
    by_cases h0 : n = 0
    · subst h0
      have e1 := List.eq_nil_of_length_eq_zero h1.1
      have e2 := List.eq_nil_of_length_eq_zero h2.1
      subst e1 e2
      clear h1 h2
      go_enter Tryz.func87, Tryz.ntmps87
      go_wp2
      go_loop [13] (fun i => i = .int .i64 0) (fun _ => 0)
      case atStart => rfl
      case round =>
        obtain rfl := hrel
        go_wp2
        go_ret
        exact ⟨ret_bool (by simp), 0, rfl⟩
    · obtain ⟨b1, o1, rfl, _, hc1⟩ := h1.2 (by omega)
      obtain ⟨b2, o2, rfl, _, hc2⟩ := h2.2 (by omega)
      have C := AnyQ.slices_Equal Tryz.eqPair 2 Tryz.isAgg165 Tryz.sizeOf165 pairV (fun _ => rfl) eqP neqPair b1 o1 n c b2 o2 n d ps qs W (by rw [h1.1]; exact Nat.le_refl _) (by rw [h2.1]; exact Nat.le_refl _) (by omega) (by omega) (pairs_cells h1.1 hc1) (pairs_cells h2.1 hc2)
      change Calls Tryz.prog 87 _ _ _ at C
      rw [List.take_of_length_le (by rw [h1.1]; exact Nat.le_refl _), List.take_of_length_le (by rw [h2.1]; exact Nat.le_refl _), allEq_iff] at C
      exact C
  · have E := Lib.hid (show decide (ps = qs) = false from decide_eq_false (fun e => hnm (by rw [← h1.1, ← h2.1, e])))
    have hI : ¬ (n : Int) = (m : Int) := by omega
    clear h1 h2
    go_enter Tryz.func87, Tryz.ntmps87
    go_wp2
    go_ret
    exact ⟨ret_bool E.out.symm, 0, rfl⟩
theorem same_any (A B : Option Addr) (n m c d : Nat) (ps qs : List PairB) (hn : n ≤ 9223372036854775807) (hm : m ≤ 9223372036854775807) (W : World) (h1 : Pairs W A n ps) (h2 : Pairs W B m qs) :
    Calls Tryz.prog 56 #[.slice A n c, .slice B m d] W fun e w' => e = .returned (.bool (decide (ps = qs))) ∧ Below W.heap.size W w' := by
  have C := Lib.hid (equal_any A B n m c d ps qs hn hm W h1 h2)
  obtain ⟨T, hT⟩ : ∃ T, decide (ps = qs) = T := ⟨_, rfl⟩
  rw [hT] at C ⊢
  clear hT h1 h2
  go_enter Tryz.func56, Tryz.ntmps56
  go_wp2_with fail
  refine C.out.mono ?_
  rintro e w ⟨rfl, q, rfl⟩
  go_wp2
  go_ret
  exact ⟨rfl, below_drewN (Below.refl _ _) q⟩

open Go.Sort
def okAt (prev : Option ByteArray) (p : PairB) : Bool := nameB p.1 && (decide (p.2.size ≤ 256) && match prev with | none => true | some q => decide (txtC q p.1 < 0))
def rightGo : Option ByteArray → List PairB → Bool
  | _, [] => true
  | prev, p :: ps => okAt prev p && rightGo (some p.1) ps
def rightB (ps : List PairB) : Bool := decide (ps.length ≤ 16) && rightGo none ps
def prevAt (ps : List PairB) (j : Nat) : Option ByteArray := if j = 0 then none else some (ps.getD (j - 1) pnil).1
theorem geq_run (q p : ByteArray) (w : World) : Sem.run Tryz.prog (binOp BinOp.geq 9 (.string q) (.string p)) w = .ok (.bool (!decide (txtC q p < 0))) w := by
  simp [binOp, Op.stringOp, less_txtC]
set_option maxRecDepth 100000 in
set_option maxHeartbeats 1600000 in
theorem right_any (A : Option Addr) (n c : Nat) (ps : List PairB) (hn : n ≤ 9223372036854775807) (W : World) (h1 : Pairs W A n ps) :
    Calls Tryz.prog 78 #[.slice A n c] W fun e w' => e = .returned (.bool (rightB ps)) ∧ Below W.heap.size W w' := by
  by_cases h16 : 16 < n
  · have E := Lib.hid (show rightB ps = false by unfold rightB; rw [decide_eq_false (by rw [h1.1]; omega)]; rfl)
    have hI : (16 : Int) < (n : Int) := by omega
    clear h1
    go_enter Tryz.func78, Tryz.ntmps78
    go_wp2
    go_ret
    exact ⟨ret_bool E.out.symm, Below.refl _ _⟩
  · have hT0 : rightB ps = rightGo none ps := by unfold rightB; rw [decide_eq_true (by rw [h1.1]; omega)]; rfl
    obtain ⟨T, hT⟩ : ∃ T, rightB ps = T := ⟨_, rfl⟩
    rw [hT]
    rw [hT] at hT0
    have HT := Lib.hid (show rightGo (prevAt ps 0) (ps.drop 0) = T by rw [List.drop_zero, hT0]; rfl)
    have H1 := Lib.hid h1
    have hI : ¬ (16 : Int) < (n : Int) := by omega
    clear hT hT0 h1
    go_enter Tryz.func78, Tryz.ntmps78
    go_wp2
    go_loopw [10] (fun iv wr => ∃ j : Nat, j ≤ n ∧ iv = .int .i64 j ∧ Hid (rightGo (prevAt ps j) (ps.drop j) = T) ∧ Below W.heap.size W wr) (fun iv _ => n - (intOf iv).toNat)
    case atStart => exact ⟨0, Nat.zero_le _, rfl, HT, Below.refl _ _⟩
    case round =>
      obtain ⟨j, hjn, rfl, HJ, hb⟩ := hrel
      have hsz := hb.size
      have l1 := H1.out.1
      by_cases hj : j < n
      · obtain ⟨b1, o1, rfl, hlt1, hc1⟩ := (H1.out.below hb).2 (by omega)
        obtain ⟨c1, c2⟩ := hc1 j hj
        have d1 : ps.drop j = ps.getD j pnil :: ps.drop (j + 1) := by
          rw [List.drop_eq_getElem_cons (by omega), List.getD_eq_getElem?_getD, List.getElem?_eq_getElem (by omega)]
          rfl
        have hpn : prevAt ps (j + 1) = some (ps.getD j pnil).1 := by unfold prevAt; rw [if_neg (by omega)]; rfl
        have hpj : (j = 0 ∧ prevAt ps j = none) ∨ ∃ jp, j = jp + 1 ∧ prevAt ps j = some (ps.getD jp pnil).1 := by
          cases j with
          | zero => exact .inl ⟨rfl, rfl⟩
          | succ jp => exact .inr ⟨jp, rfl, rfl⟩
        obtain ⟨p, hp⟩ : ∃ p, ps.getD j pnil = p := ⟨_, rfl⟩
        rw [hp] at c1 c2 d1 hpn
        obtain ⟨p1, p2⟩ := p
        dsimp only at c1 c2 hpn
        have hjI : (j : Int) < (n : Int) := by omega
        have hstep : T = (okAt (prevAt ps j) (p1, p2) && rightGo (prevAt ps (j + 1)) (ps.drop (j + 1))) := by rw [← HJ.out, d1, hpn, rightGo]
        have NM : ∀ w, Calls Tryz.prog 106 #[.string p1] w fun e w' => e = .returned (.bool (nameB p1)) ∧ ∃ q os, w' = grow (w.drewN q) os := fun w => name_grown p1 w
        have hok : okAt (prevAt ps j) (p1, p2) = (nameB p1 && (decide (p2.size ≤ 256) && match prevAt ps j with | none => true | some q => decide (txtC q p1 < 0))) := rfl
        rw [hok] at hstep
        obtain ⟨nb, hnb⟩ : ∃ b, nameB p1 = b := ⟨_, rfl⟩
        rw [hnb] at hstep
        simp only [hnb] at NM
        replace NM := Lib.hid NM
        have B1 := Blk.new wr 165 #[.string p1, .string p2]
        have hba : Below W.heap.size W (wr.alloc (.cells #[.string p1, .string p2] 165)) := hb.alloc hsz _
        have hPa : ∀ i, i < n → (wr.alloc (.cells #[.string p1, .string p2] 165)).cell? ⟨b1, o1 + i * 2, none⟩ = some (.string (ps.getD i pnil).1) := fun i hi => (World.cell?_of_block (heap_alloc_old wr _ hlt1)).trans (hc1 i hi).1
        have hz0 : wr.heap.size < (wr.alloc (.cells #[.string p1, .string p2] 165)).heap.size := by simp
        obtain ⟨w0, hw0⟩ : ∃ w, wr.alloc (.cells #[.string p1, .string p2] 165) = w := ⟨_, rfl⟩
        rw [hw0] at B1 hba hPa hz0
        have HW0 := Lib.hid hw0
        have k1 : ∀ n os, (grow (w0.drewN n) os).cell? ⟨wr.heap.size, 0, none⟩ = some (.string p1) := fun n os => cell_grown (w := w0) (a := ⟨wr.heap.size, 0, none⟩) hz0 ((B1.cell 0).trans rfl) n os
        have k2 : ∀ n os, (grow (w0.drewN n) os).cell? ⟨wr.heap.size, 1, none⟩ = some (.string p2) := fun n os => cell_grown (w := w0) (a := ⟨wr.heap.size, 1, none⟩) hz0 ((B1.cell 1).trans rfl) n os
        have mixed : Tryz.prog.follows .mixedOrders = true := by kernel_rfl
        replace hPa := Lib.hid hPa
        have hlt1a : b1 < w0.heap.size := by omega
        have HPJ := Lib.hid hpj
        clear hc1 hp d1 hpn hnb hok B1 hw0 hpj
        cases nb with
        | false =>
          have E := Lib.hid (show T = false from hstep)
          clear hstep hPa
          go_wp2
          rw [HW0.out]
          clear c1 c2
          refine wp_region_quiet_grown mixed (by kernel_rfl) ?_
          iterate 3 (quiet_step (first | (go_at_call 106; refine Calls.grown_of (NM.out _))))
          repeat (generalize hst : ({ tmps := _, defers := _ } : Act) = st; refine wpQuiet_step (fun K hK => ?_); subst hst; go_simp; refine hK _ ?_; clear hK K)
          refine wpQuiet_nil ?_
          intro _ hw'
          obtain ⟨⟨nq, osq⟩, hw''⟩ := hw'
          subst hw''
          have hb4 := hba.trans (Go.Lib.below_grow W.heap.size w0 hba.size nq osq)
          go_wp2
          go_ret
          exact ⟨ret_bool E.out.symm, hb4⟩
        | true =>
          by_cases hv : 256 < p2.size
          · have E := Lib.hid (show T = false by rw [hstep, decide_eq_false (show ¬ p2.size ≤ 256 by omega)]; rfl)
            have hvI : decide ((256 : Int) < (p2.size : Int)) = true := decide_eq_true (by omega)
            clear hstep hPa
            go_wp2
            rw [HW0.out]
            clear c1 c2
            refine wp_region_quiet_grown mixed (by kernel_rfl) ?_
            iterate 3 (quiet_step (first | (go_at_call 106; refine Calls.grown_of (NM.out _))))
            repeat (generalize hst : ({ tmps := _, defers := _ } : Act) = st; refine wpQuiet_step (fun K hK => ?_); subst hst; go_simp; refine hK _ ?_; clear hK K)
            refine wpQuiet_nil ?_
            intro _ hw'
            obtain ⟨⟨nq, osq⟩, hw''⟩ := hw'
            subst hw''
            have hb4 := hba.trans (Go.Lib.below_grow W.heap.size w0 hba.size nq osq)
            go_wp2
            go_ret
            exact ⟨ret_bool E.out.symm, hb4⟩
          · have hvI : decide ((256 : Int) < (p2.size : Int)) = false := decide_eq_false (by omega)
            rw [decide_eq_true (show p2.size ≤ 256 by omega)] at hstep
            rcases HPJ.out with ⟨hj0, hpj⟩ | ⟨jp, rfl, hpj⟩
            · rw [hpj] at hstep
              have HN := Lib.hid (show rightGo (prevAt ps (j + 1)) (ps.drop (j + 1)) = T from hstep.symm)
              have jz : decide (0 < j) = false := decide_eq_false (by omega)
              clear hj0
              clear hstep hPa hpj
              go_wp2
              rw [HW0.out]
              clear c1 c2
              refine wp_region_quiet_grown mixed (by kernel_rfl) ?_
              iterate 3 (quiet_step (first | (go_at_call 106; refine Calls.grown_of (NM.out _))))
              repeat (generalize hst : ({ tmps := _, defers := _ } : Act) = st; refine wpQuiet_step (fun K hK => ?_); subst hst; go_simp; refine hK _ ?_; clear hK K)
              refine wpQuiet_nil ?_
              intro _ hw'
              obtain ⟨⟨nq, osq⟩, hw''⟩ := hw'
              subst hw''
              have hb4 := hba.trans (Go.Lib.below_grow W.heap.size w0 hba.size nq osq)
              go_wp2
              go_round
              case rel => exact ⟨j + 1, by omega, by go_num, HN, hb4⟩
              case measure => simp [intOf]; omega
            · rw [hpj] at hstep
              have k3 := hPa.out jp (by omega)
              replace k3 := fun n os => cell_grown (w := w0) (a := ⟨b1, o1 + jp * 2, none⟩) hlt1a k3 n os
              obtain ⟨q, hq⟩ : ∃ q, (ps.getD jp pnil).1 = q := ⟨_, rfl⟩
              rw [hq] at k3 hstep
              have hstep2 : T = (decide (txtC q p1 < 0) && rightGo (prevAt ps (jp + 1 + 1)) (ps.drop (jp + 1 + 1))) := hstep
              clear hstep
              have hge := fun w => geq_run q p1 w
              have hwp : IntKind.i64.wrap (jp : Int) = (jp : Int) := by rw [IntKind.wrap_i64]; omega
              have jz : (jp : Int) + 1 < (n : Int) := by omega
              have jz1 : (jp : Int) < (n : Int) := by omega
              have jz0 : (0 : Int) < (jp : Int) + 1 := by omega
              have jz3 : decide ((0 : Int) < (jp : Int) + 1) = true := decide_eq_true jz0
              by_cases hlt : txtC q p1 < 0
              · simp only [decide_eq_true hlt, Bool.not_true] at hge
                have HN := Lib.hid (show rightGo (prevAt ps (jp + 1 + 1)) (ps.drop (jp + 1 + 1)) = T by rw [hstep2, decide_eq_true hlt]; rfl)
                clear hstep2 hPa hpj hq hlt
                go_wp2
                rw [HW0.out]
                clear c1 c2
                refine wp_region_quiet_grown mixed (by kernel_rfl) ?_
                iterate 3 (quiet_step (first | (go_at_call 106; refine Calls.grown_of (NM.out _))))
                repeat (generalize hst : ({ tmps := _, defers := _ } : Act) = st; refine wpQuiet_step (fun K hK => ?_); subst hst; go_simp; refine hK _ ?_; clear hK K)
                refine wpQuiet_nil ?_
                intro _ hw'
                obtain ⟨⟨nq, osq⟩, hw''⟩ := hw'
                subst hw''
                have hb4 := hba.trans (Go.Lib.below_grow W.heap.size w0 hba.size nq osq)
                go_wp2
                go_round
                case rel => exact ⟨jp + 1 + 1, by omega, by go_num, HN, hb4⟩
                case measure => simp [intOf]; omega
              · simp only [decide_eq_false hlt, Bool.not_false] at hge
                have E := Lib.hid (show T = false by rw [hstep2, decide_eq_false hlt]; rfl)
                clear hstep2 hPa hpj hq hlt
                go_wp2
                rw [HW0.out]
                clear c1 c2
                refine wp_region_quiet_grown mixed (by kernel_rfl) ?_
                iterate 3 (quiet_step (first | (go_at_call 106; refine Calls.grown_of (NM.out _))))
                repeat (generalize hst : ({ tmps := _, defers := _ } : Act) = st; refine wpQuiet_step (fun K hK => ?_); subst hst; go_simp; refine hK _ ?_; clear hK K)
                refine wpQuiet_nil ?_
                intro _ hw'
                obtain ⟨⟨nq, osq⟩, hw''⟩ := hw'
                subst hw''
                have hb4 := hba.trans (Go.Lib.below_grow W.heap.size w0 hba.size nq osq)
                go_wp2
                go_ret
                exact ⟨ret_bool E.out.symm, hb4⟩
      · obtain rfl : j = n := by omega
        have E := Lib.hid (show T = true by rw [← HJ.out, show ps.drop j = [] from List.drop_of_length_le (by omega)]; rfl)
        go_wp2
        go_ret
        exact ⟨ret_bool E.out.symm, hb⟩
end Go.Proofs.YtdaainifkldcpaaGreatDoor
