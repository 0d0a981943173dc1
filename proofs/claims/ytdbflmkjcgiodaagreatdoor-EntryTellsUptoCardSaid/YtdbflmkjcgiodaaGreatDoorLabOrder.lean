/- Labels, and sets of them, held against one another. -/
import Derived.Test.YtdbflmkjcgiodaaGreatDoorLabMath
import Derived.Test.YtdbflmkjcgiodaaGreatDoorShelf
import Derived.Deep.RegionHeld3
namespace Go.Proofs.YtdbflmkjcgiodaaGreatDoor
open Go.RowKit
set_option linter.unusedVariables false
set_option linter.unusedSimpArgs false

theorem compare_any (a b : ByteArray) (W : World) : Calls Tryz.prog 37 #[.string a, .string b] W fun e w' => e = .returned (.int .i64 (txtC a b)) ∧ w' = W := Tryz.strings_Compare a b W
theorem ret_int {a b : Int} (h : a = b) : Ending.returned (.int .i64 a) = .returned (.int .i64 b) := by rw [h]

set_option maxHeartbeats 800000 in
theorem or_any (x y : Int) (A : Option Addr) (cp : Nat) (W : World) (h : Ints .i64 W A 2 [x, y]) :
    Calls Tryz.prog 34 #[.slice A 2 cp] W fun e w' => e = .returned (.int .i64 (if x = 0 then y else x)) ∧ W = w' := by
  obtain ⟨b, off, rfl, hlt, hc⟩ := h.2.2 (by decide)
  have HC := Lib.hid (show ∀ j : Nat, j < 2 → W.cell? ⟨b, off + j, none⟩ = some (.int .i64 ([x, y].getD j 0)) from hc)
  obtain ⟨T, hT⟩ : ∃ T, (if x = 0 then y else x) = T := ⟨_, rfl⟩
  rw [hT]
  have HT := Lib.hid hT
  clear hc h hT
  go_enter Tryz.func34, Tryz.ntmps34
  go_wp2
  go_loop [8] (fun i => ∃ j : Nat, 0 ≤ j ∧ j ≤ 2 ∧ i = .int .i64 j ∧ Hid (1 ≤ j → x = 0) ∧ Hid (2 ≤ j → y = 0)) (fun i => 2 - (intOf i).toNat)
  case atStart => exact ⟨0, Nat.zero_le _, by decide, rfl, Lib.hid (fun h => absurd h (by decide)), Lib.hid (fun h => absurd h (by decide))⟩
  case round =>
    obtain ⟨j, _, hj, rfl, H1, H2⟩ := hrel
    by_cases hj2 : j < 2
    · have c := HC.out j hj2
      obtain ⟨z, hz⟩ : ∃ z, [x, y].getD j 0 = z := ⟨_, rfl⟩
      rw [hz] at c
      have hjI : (j : Int) < 2 := by omega
      by_cases z0 : z = 0
      · have n1 := Lib.hid (show 1 ≤ j + 1 → x = 0 from fun _ => by
          rcases (by omega : j = 0 ∨ j = 1) with rfl | rfl
          · rw [← z0, ← hz]; rfl
          · exact H1.out (by decide))
        have n2 := Lib.hid (show 2 ≤ j + 1 → y = 0 from fun h => by
          obtain rfl : j = 1 := by omega
          rw [← z0, ← hz]; rfl)
        subst z0
        clear hz
        go_wp2
        go_round
        case rel => exact ⟨j + 1, Nat.zero_le _, by omega, by go_num, n1, n2⟩
        case measure => simp [intOf]; omega
      · have E := Lib.hid (show z = T by
          rw [← HT.out]
          rcases (by omega : j = 0 ∨ j = 1) with rfl | rfl
          · have : x = z := hz
            rw [this, if_neg z0]
          · rw [if_pos (H1.out (by decide))]; exact hz.symm)
        clear hz
        go_wp2
        go_ret
        exact ⟨ret_int E.out, rfl⟩
    · obtain rfl : j = 2 := by omega
      have E := Lib.hid (show (0 : Int) = T by rw [← HT.out, if_pos (H1.out (by decide)), H2.out (by decide)])
      go_wp2
      go_ret
      exact ⟨ret_int E.out, rfl⟩

set_option maxRecDepth 100000 in
set_option maxHeartbeats 1600000 in
theorem orderF_any (p q : PairB) (W : World) :
    Calls Tryz.prog 63 #[.agg #[.string p.1, .string p.2], .agg #[.string q.1, .string q.2]] W fun e w' => e = .returned (.int .i64 (pairC p q)) ∧ Below W.heap.size W w' := by
  obtain ⟨p1, p2⟩ := p
  obtain ⟨q1, q2⟩ := q
  have C1 := Lib.hid (fun w => compare_any p1 q1 w)
  have C2 := Lib.hid (fun w => compare_any p2 q2 w)
  have E := Lib.hid (show (if txtC p1 q1 = 0 then txtC p2 q2 else txtC p1 q1) = pairC (p1, p2) (q1, q2) from rfl)
  have w1 := txtC_vals p1 q1
  have w2 := txtC_vals p2 q2
  obtain ⟨x, hx⟩ : ∃ x, txtC p1 q1 = x := ⟨_, rfl⟩
  obtain ⟨y, hy⟩ : ∃ x, txtC p2 q2 = x := ⟨_, rfl⟩
  rw [hx] at C1 w1 E
  rw [hy] at C2 w2 E
  have hwx : [x, y].all (fun z => (Lit.int .i64 z).wf) = true := by
    rcases w1 with rfl | rfl | rfl <;> rcases w2 with rfl | rfl | rfl <;> rfl
  have OR := (fun w g (hg : g = w.heap.size) => or_any x y (some ⟨g, 0, none⟩) 2 ((w.alloc (.cells #[.int .i64 x, .int .i64 y] 3)).drew) (ints_lit w 3 [x, y] hwx g hg))
  obtain ⟨T, hT⟩ : ∃ T, (if x = 0 then y else x) = T := ⟨_, rfl⟩
  simp only [hT] at OR
  rw [hT] at E
  replace OR := Lib.hid OR
  clear hx hy w1 w2 hwx hT
  dsimp only
  go_enter Tryz.func63, Tryz.ntmps63
  go_wp2
  have B1 := (Blk.new W 66 #[.string p1, .string p2]).alloc (.cells #[.string q1, .string q2] 66)
  have B2 := Blk.new (W.alloc (.cells #[.string p1, .string p2] 66)) 66 #[.string q1, .string q2]
  have hs1 : (W.alloc (.cells #[.string p1, .string p2] 66)).heap.size = W.heap.size + 1 := by simp
  rw [hs1] at B2
  have hb1 : Below W.heap.size W ((W.alloc (.cells #[.string p1, .string p2] 66)).alloc (.cells #[.string q1, .string q2] 66)) := ((Below.refl _ _).alloc (Nat.le_refl _) _).alloc (by simp) _
  obtain ⟨w1, hw1⟩ : ∃ w, (W.alloc (.cells #[.string p1, .string p2] 66)).alloc (.cells #[.string q1, .string q2] 66) = w := ⟨_, rfl⟩
  rw [hw1] at B1 B2 hb1 ⊢
  clear hw1 hs1
  have k1 : w1.cell? ⟨W.heap.size, 0, none⟩ = some (.string p1) := (B1.cell 0).trans rfl
  have k2 : w1.cell? ⟨W.heap.size, 1, none⟩ = some (.string p2) := (B1.cell 1).trans rfl
  have k3 : w1.cell? ⟨W.heap.size + 1, 0, none⟩ = some (.string q1) := (B2.cell 0).trans rfl
  have k4 : w1.cell? ⟨W.heap.size + 1, 1, none⟩ = some (.string q2) := (B2.cell 1).trans rfl
  clear B1 B2
  go_region_held3 (fun w' => w'.cell? ⟨W.heap.size, 0, none⟩ = some (.string p1) ∧ w'.cell? ⟨W.heap.size, 1, none⟩ = some (.string p2) ∧ w'.cell? ⟨W.heap.size + 1, 0, none⟩ = some (.string q1) ∧ w'.cell? ⟨W.heap.size + 1, 1, none⟩ = some (.string q2)) (first | go_keep)
    (first | (go_at_call 37; refine (C1.out _).mono ?_; rintro e w3 ⟨rfl, rfl⟩) | (go_at_call 37; refine (C2.out _).mono ?_; rintro e w3 ⟨rfl, rfl⟩) | (go_at_call 34; refine (OR.out _ _ ?_).mono ?_; rfl; rintro e w3 ⟨rfl, rfl⟩))
  go_wp2
  go_ret
  exact ⟨ret_int E.out, below_drewN (hb1.alloc hb1.size _) 1⟩

set_option maxRecDepth 100000 in
set_option maxHeartbeats 1600000 in
theorem compareF_any (A B : Option Addr) (n m c d : Nat) (ps qs : List PairB) (hn : n ≤ 9223372036854775807) (hm : m ≤ 9223372036854775807) (W : World) (h1 : Pairs W A n ps) (h2 : Pairs W B m qs) :
    Calls Tryz.prog 62 #[.slice A n c, .slice B m d, .func (.func 63) #[] #[]] W fun e w' => e = .returned (.int .i64 (orderL ps qs)) ∧ Below W.heap.size W w' := by
  have h0 : W.heap.size ≤ W.heap.size := Nat.le_refl _
  obtain ⟨T, hT⟩ : ∃ T, orderL ps qs = T := ⟨_, rfl⟩
  rw [hT]
  have HT := Lib.hid hT
  have H1 := Lib.hid h1
  have H2 := Lib.hid h2
  have OF := Lib.hid orderF_any
  clear hT h1 h2
  go_enter Tryz.func62, Tryz.ntmps62
  go_wp2
  go_loopw [13] (fun iv wr => ∃ j : Nat, j ≤ n ∧ j ≤ m ∧ iv = .int .i64 j ∧ Hid (lexC pairC (ps.drop j) (qs.drop j) = T) ∧ Below W.heap.size W wr) (fun iv _ => n - (intOf iv).toNat)
  case atStart => exact ⟨0, Nat.zero_le _, Nat.zero_le _, rfl, Lib.hid (by rw [List.drop_zero, List.drop_zero]; exact HT.out), Below.refl _ _⟩
  case round =>
    obtain ⟨j, hjn, hjm, rfl, HJ, hb⟩ := hrel
    have hsz := hb.size
    have l1 := H1.out.1
    have l2 := H2.out.1
    by_cases hj : j < n
    · obtain ⟨b1, o1, rfl, hlt1, hc1⟩ := (H1.out.below hb).2 (by omega)
      obtain ⟨c1, c2⟩ := hc1 j hj
      have d1 : ps.drop j = ps.getD j pnil :: ps.drop (j + 1) := by
        rw [List.drop_eq_getElem_cons (by omega), List.getD_eq_getElem?_getD, List.getElem?_eq_getElem (by omega)]
        rfl
      obtain ⟨p, hp⟩ : ∃ p, ps.getD j pnil = p := ⟨_, rfl⟩
      rw [hp] at c1 c2 d1
      obtain ⟨p1, p2⟩ := p
      dsimp only at c1 c2
      have hjI : (j : Int) < (n : Int) := by omega
      clear hc1 hp
      by_cases hm2 : j < m
      · obtain ⟨b2, o2, rfl, hlt2, hc2⟩ := (H2.out.below hb).2 (by omega)
        obtain ⟨c3, c4⟩ := hc2 j hm2
        have d2 : qs.drop j = qs.getD j pnil :: qs.drop (j + 1) := by
          rw [List.drop_eq_getElem_cons (by omega), List.getD_eq_getElem?_getD, List.getElem?_eq_getElem (by omega)]
          rfl
        obtain ⟨q, hq⟩ : ∃ q, qs.getD j pnil = q := ⟨_, rfl⟩
        rw [hq] at c3 c4 d2
        obtain ⟨q1, q2⟩ := q
        dsimp only at c3 c4
        have hmI : ¬ (m : Int) ≤ (j : Int) := by omega
        have hstep : T = if pairC (p1, p2) (q1, q2) = 0 then lexC pairC (ps.drop (j + 1)) (qs.drop (j + 1)) else pairC (p1, p2) (q1, q2) := by
          rw [← HJ.out, d1, d2, lexC]
        have C := OF.out (p1, p2) (q1, q2)
        obtain ⟨x, hx⟩ : ∃ x, pairC (p1, p2) (q1, q2) = x := ⟨_, rfl⟩
        rw [hx] at C hstep
        replace C := Lib.hid C
        clear hc2 hq d1 d2 hx
        by_cases hx0 : x = 0
        · rw [if_pos hx0] at hstep
          have HS := Lib.hid hstep.symm
          subst hx0
          clear hstep
          go_wp2_with fail
          refine (C.out _).mono ?_
          rintro e w2 ⟨rfl, hx⟩
          have hb2 := hop ((hb.alloc hsz _).alloc (by simp; omega) _) h0 hx
          clear hx
          go_wp2
          go_round
          case rel => exact ⟨j + 1, by omega, by omega, by go_num, HS, hb2⟩
          case measure => simp [intOf]; omega
        · rw [if_neg hx0] at hstep
          have HS := Lib.hid hstep.symm
          clear hstep
          go_wp2_with fail
          refine (C.out _).mono ?_
          rintro e w2 ⟨rfl, hx⟩
          have hb2 := hop ((hb.alloc hsz _).alloc (by simp; omega) _) h0 hx
          clear hx
          go_wp2
          go_ret
          exact ⟨ret_int HS.out, hb2⟩
      · have hmI : (m : Int) ≤ (j : Int) := by omega
        have E := Lib.hid (show (1 : Int) = T by rw [← HJ.out, d1, show qs.drop j = [] from List.drop_of_length_le (by omega)]; rfl)
        clear d1
        go_wp2
        go_ret
        exact ⟨ret_int E.out, hb.alloc hsz _⟩
    · obtain rfl : j = n := by omega
      by_cases hm2 : j < m
      · have E := Lib.hid (show (-1 : Int) = T by
          rw [← HJ.out, show ps.drop j = [] from List.drop_of_length_le (by omega), List.drop_eq_getElem_cons (by omega)]; rfl)
        have hmI : (j : Int) < (m : Int) := by omega
        go_wp2
        go_ret
        exact ⟨ret_int E.out, hb⟩
      · have E := Lib.hid (show (0 : Int) = T by
          rw [← HJ.out, show ps.drop j = [] from List.drop_of_length_le (by omega), show qs.drop j = [] from List.drop_of_length_le (by omega)]; rfl)
        have hmI : ¬ (j : Int) < (m : Int) := by omega
        go_wp2
        go_ret
        exact ⟨ret_int E.out, hb⟩
theorem order_any (A B : Option Addr) (n m c d : Nat) (ps qs : List PairB) (hn : n ≤ 9223372036854775807) (hm : m ≤ 9223372036854775807) (W : World) (h1 : Pairs W A n ps) (h2 : Pairs W B m qs) :
    Calls Tryz.prog 36 #[.slice A n c, .slice B m d] W fun e w' => e = .returned (.int .i64 (orderL ps qs)) ∧ Below W.heap.size W w' := by
  have C := Lib.hid (compareF_any A B n m c d ps qs hn hm W h1 h2)
  obtain ⟨T, hT⟩ : ∃ T, orderL ps qs = T := ⟨_, rfl⟩
  rw [hT] at C ⊢
  clear hT h1 h2
  go_enter Tryz.func36, Tryz.ntmps36
  go_wp2_with fail
  refine C.out.mono ?_
  rintro e w ⟨rfl, hb⟩
  go_wp2
  go_ret
  exact ⟨rfl, hb⟩
end Go.Proofs.YtdbflmkjcgiodaaGreatDoor
