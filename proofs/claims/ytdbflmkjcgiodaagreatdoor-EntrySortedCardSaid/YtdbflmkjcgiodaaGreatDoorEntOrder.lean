/- Entries are held against one another: the walks of Same, Order, Ahead, Right, Cost. -/
import Derived.Test.YtdbflmkjcgiodaaGreatDoorEnt
namespace Go.Proofs.YtdbflmkjcgiodaaGreatDoor
open Go.RowKit
set_option linter.unusedVariables false
set_option linter.unusedSimpArgs false

/-- two entries that a call has taken in, each in a block of its own -/
structure Two (W w : World) (c1 c2 : Array Value) : Prop where
  b1 : Blk w W.heap.size 25 c1
  b2 : Blk w (W.heap.size + 1) 25 c2
  below : Below W.heap.size W w
theorem Two.new (W : World) (c1 c2 : Array Value) : Two W ((W.alloc (.cells c1 25)).alloc (.cells c2 25)) c1 c2 := by
  have B2 := Blk.new (W.alloc (.cells c1 25)) 25 c2
  have hs1 : (W.alloc (.cells c1 25)).heap.size = W.heap.size + 1 := by simp
  rw [hs1] at B2
  exact ⟨(Blk.new W 25 c1).alloc _, B2, ((Below.refl _ _).alloc (Nat.le_refl _) _).alloc (by simp) _⟩
theorem Two.next {W w w' : World} {c1 c2 : Array Value} (h : Two W w c1 c2) (hx : Below w.heap.size w w') : Two W w' c1 c2 :=
  ⟨h.b1.below hx h.b1.lt, h.b2.below hx h.b2.lt, hop h.below (Nat.le_refl _) hx⟩
theorem Two.drewN {W w : World} {c1 c2 : Array Value} (h : Two W w c1 c2) (n : Nat) : Two W (w.drewN n) c1 c2 := ⟨h.b1.drewN n, h.b2.drewN n, below_drewN h.below n⟩
theorem Two.alloc {W w : World} {c1 c2 : Array Value} (h : Two W w c1 c2) (o : Obj) : Two W (w.alloc o) c1 c2 := ⟨h.b1.alloc o, h.b2.alloc o, h.below.alloc h.below.size o⟩
/-- what stands in the two blocks -/
theorem Two.cells {W w : World} {c1 c2 : Array Value} (h : Two W w c1 c2) : ∀ i, w.cell? ⟨W.heap.size, i, none⟩ = c1[i]? ∧ w.cell? ⟨W.heap.size + 1, i, none⟩ = c2[i]? := fun i => ⟨h.b1.cell i, h.b2.cell i⟩

def sameE (a b : EntB) : Bool := decide (a.ts = b.ts) && (decide (a.ls = b.ls) && decide (a.ln = b.ln))
theorem sameE_iff {a b : EntB} : sameE a b = true ↔ a = b := by
  unfold sameE
  rw [Bool.and_eq_true, Bool.and_eq_true, decide_eq_true_iff, decide_eq_true_iff, decide_eq_true_iff]
  constructor
  · rintro ⟨h1, h2, h3⟩
    obtain ⟨x, y, z⟩ := a
    obtain ⟨x', y', z'⟩ := b
    obtain rfl : x = x' := h1
    obtain rfl : y = y' := h2
    obtain rfl : z = z' := h3
    rfl
  · rintro rfl; exact ⟨rfl, rfl, rfl⟩
theorem sameE_ord (a b : EntB) : sameE a b = decide (entC a b = 0) := by
  rw [Bool.eq_iff_iff, sameE_iff, decide_eq_true_iff, entC_zero]

set_option maxRecDepth 100000 in
set_option maxHeartbeats 1600000 in
theorem entSame_any (t1 t2 : Int) (A B : Option Addr) (n m c d : Nat) (ps qs : List PairB) (l1 l2 : ByteArray) (hn : n ≤ 9223372036854775807) (hm : m ≤ 9223372036854775807) (W : World) (h1 : Pairs W A n ps) (h2 : Pairs W B m qs) :
    Calls Tryz.prog 17 #[.agg #[.int .i64 t1, .slice A n c, .string l1], .agg #[.int .i64 t2, .slice B m d, .string l2]] W fun e w' => e = .returned (.bool (sameE ⟨t1, ps, l1⟩ ⟨t2, qs, l2⟩)) ∧ Below W.heap.size W w' := by
  have TW := Two.new W #[.int .i64 t1, .slice A n c, .string l1] #[.int .i64 t2, .slice B m d, .string l2]
  have SM := fun w h => same_any A B n m c d ps qs hn hm w (h1.below h) (h2.below h)
  obtain ⟨T, hT⟩ : ∃ T, sameE ⟨t1, ps, l1⟩ ⟨t2, qs, l2⟩ = T := ⟨_, rfl⟩
  rw [hT]
  have hT2 : (decide (t1 = t2) && (decide (ps = qs) && decide (l1 = l2))) = T := hT
  obtain ⟨x, hx⟩ : ∃ x, decide (ps = qs) = x := ⟨_, rfl⟩
  simp only [hx] at SM
  rw [hx] at hT2
  replace SM := Lib.hid SM
  have HTW := Lib.hid TW
  clear TW h1 h2 hT hx
  by_cases ht : t1 = t2
  · subst ht
    have g1 : (t1 == t1) = true := by simp
    have hte := text_eq l1 l2
    obtain ⟨y, hy⟩ : ∃ x, decide (l1 = l2) = x := ⟨_, rfl⟩
    rw [hy] at hte hT2
    have E := Lib.hid (show (x && y) = T from by rw [← hT2, decide_eq_true rfl]; rfl)
    clear hT2 hy
    go_enter Tryz.func17, Tryz.ntmps17
    go_wp2_with fail
    obtain ⟨w1, hw1⟩ : ∃ w, (W.alloc (.cells #[.int .i64 t1, .slice A n c, .string l1] 25)).alloc (.cells #[.int .i64 t1, .slice B m d, .string l2] 25) = w := ⟨_, rfl⟩
    have hTW := HTW.out
    rw [hw1] at hTW ⊢
    clear hw1 HTW
    refine (SM.out _ hTW.below).mono ?_
    rintro e w2 ⟨rfl, hx⟩
    have TW2 := hTW.next hx
    obtain ⟨k1, k2⟩ := TW2.cells 2
    replace k1 : w2.cell? ⟨W.heap.size, 2, none⟩ = some (.string l1) := k1
    replace k2 : w2.cell? ⟨W.heap.size + 1, 2, none⟩ = some (.string l2) := k2
    have HB := Lib.hid TW2.below
    clear hx TW2 hTW SM
    cases x with
    | false =>
      have E := Lib.hid (show false = T from E.out)
      go_wp2
      go_ret
      exact ⟨ret_bool E.out, HB.out⟩
    | true =>
      have E := Lib.hid (show y = T from E.out)
      go_wp2
      go_ret
      exact ⟨ret_bool (by first | exact E.out | (rw [← E.out]; first | exact hte | (rw [← hte]; simp; done))), HB.out⟩
  · have g1 : (t1 == t2) = false := by rw [beq_eq_false_iff_ne]; exact ht
    have E := Lib.hid (show false = T from by rw [← hT2, decide_eq_false ht]; rfl)
    have HB := Lib.hid HTW.out.below
    clear hT2 ht HTW
    go_enter Tryz.func17, Tryz.ntmps17
    go_wp2
    go_ret
    exact ⟨ret_bool E.out, HB.out⟩

set_option maxRecDepth 100000 in
set_option maxHeartbeats 1600000 in
theorem entRight_any (t1 : Int) (A : Option Addr) (n c : Nat) (ps : List PairB) (l1 : ByteArray) (hn : n ≤ 9223372036854775807) (W : World) (h1 : Pairs W A n ps) :
    Calls Tryz.prog 13 #[.agg #[.int .i64 t1, .slice A n c, .string l1]] W fun e w' => e = .returned (.bool (rightE ⟨t1, ps, l1⟩)) ∧ Below W.heap.size W w' := by
  have hb1 : Below W.heap.size W (W.alloc (.cells #[.int .i64 t1, .slice A n c, .string l1] 25)) := (Below.refl _ _).alloc (Nat.le_refl _) _
  have B1 := Blk.new W 25 #[.int .i64 t1, .slice A n c, .string l1]
  have RT := fun w h => right_any A n c ps hn w (h1.below h)
  obtain ⟨T, hT⟩ : ∃ T, rightE ⟨t1, ps, l1⟩ = T := ⟨_, rfl⟩
  rw [hT]
  have hT2 : (rightB ps && decide (l1.size ≤ 256)) = T := hT
  obtain ⟨x, hx⟩ : ∃ x, rightB ps = x := ⟨_, rfl⟩
  simp only [hx] at RT
  rw [hx] at hT2
  replace RT := Lib.hid RT
  have hz : decide ((l1.size : Int) ≤ 256) = decide (l1.size ≤ 256) := by rw [decide_eq_decide]; omega
  obtain ⟨y, hy⟩ : ∃ x, decide (l1.size ≤ 256) = x := ⟨_, rfl⟩
  rw [hy] at hT2 hz
  have E := Lib.hid hT2
  have HY := Lib.hid hy
  clear h1 hT hx hT2 hy
  go_enter Tryz.func13, Tryz.ntmps13
  go_wp2_with fail
  obtain ⟨w1, hw1⟩ : ∃ w, W.alloc (.cells #[.int .i64 t1, .slice A n c, .string l1] 25) = w := ⟨_, rfl⟩
  rw [hw1] at hb1 B1 ⊢
  clear hw1
  refine (RT.out _ hb1).mono ?_
  rintro e w2 ⟨rfl, hx⟩
  have B2 := B1.below hx B1.lt
  have k1 : w2.cell? ⟨W.heap.size, 2, none⟩ = some (.string l1) := (B2.cell 2).trans rfl
  have HB := Lib.hid (hop hb1 (Nat.le_refl _) hx)
  clear hx B1 B2 RT hb1
  cases x with
  | false =>
    have E := Lib.hid (show false = T from E.out)
    go_wp2
    go_ret
    exact ⟨ret_bool E.out, HB.out⟩
  | true =>
    have E := Lib.hid (show y = T from E.out)
    go_wp2
    go_ret
    exact ⟨ret_bool (by first | exact E.out | (rw [← E.out]; first | exact hz | (rw [← HY.out]; simp; done))), HB.out⟩

set_option maxHeartbeats 800000 in
theorem entCost_any (t1 : Int) (A : Option Addr) (n c : Nat) (l1 : ByteArray) (W : World) (hl : l1.size ≤ 9223372036854775807) :
    Calls Tryz.prog 20 #[.agg #[.int .i64 t1, .slice A n c, .string l1]] W fun e w' => e = .returned (.int .i64 (l1.size : Int)) ∧ Below W.heap.size W w' := by
  go_enter Tryz.func20, Tryz.ntmps20
  go_wp2
  go_ret
  exact ⟨by first | rfl | (simp; done), (Below.refl _ _).alloc (Nat.le_refl _) _⟩

set_option maxRecDepth 100000 in
set_option maxHeartbeats 1600000 in
theorem entOrder_any (t1 t2 : Int) (A B : Option Addr) (n m c d : Nat) (ps qs : List PairB) (l1 l2 : ByteArray) (hn : n ≤ 9223372036854775807) (hm : m ≤ 9223372036854775807) (W : World) (h1 : Pairs W A n ps) (h2 : Pairs W B m qs) :
    Calls Tryz.prog 15 #[.agg #[.int .i64 t1, .slice A n c, .string l1], .agg #[.int .i64 t2, .slice B m d, .string l2]] W fun e w' => e = .returned (.int .i64 (entC ⟨t1, ps, l1⟩ ⟨t2, qs, l2⟩)) ∧ Below W.heap.size W w' := by
  have TW := Two.new W #[.int .i64 t1, .slice A n c, .string l1] #[.int .i64 t2, .slice B m d, .string l2]
  have C1 := Lib.hid (fun w => compare64_any t1 t2 w)
  have C2 := Lib.hid (fun w h => order_any A B n m c d ps qs hn hm w (h1.below h) (h2.below h))
  have C3 := Lib.hid (fun w => compare_any l1 l2 w)
  have E := Lib.hid (show firstNZ [cmpZ t1 t2, orderL ps qs, txtC l1 l2] = entC ⟨t1, ps, l1⟩ ⟨t2, qs, l2⟩ from by
    unfold entC firstNZ firstNZ firstNZ firstNZ
    by_cases h0 : txtC l1 l2 = 0
    · rw [if_pos h0, h0]
    · rw [if_neg h0])
  have w1 := cmpZ_vals t1 t2
  have w2 := orderL_vals ps qs
  have w3 := txtC_vals l1 l2
  obtain ⟨x, hx⟩ : ∃ x, cmpZ t1 t2 = x := ⟨_, rfl⟩
  obtain ⟨y, hy⟩ : ∃ x, orderL ps qs = x := ⟨_, rfl⟩
  obtain ⟨z, hz⟩ : ∃ x, txtC l1 l2 = x := ⟨_, rfl⟩
  rw [hx] at C1 w1 E
  rw [hy] at C2 w2 E
  rw [hz] at C3 w3 E
  have hwx : [x, y, z].all (fun z => (Lit.int .i64 z).wf) = true := by
    rcases w1 with rfl | rfl | rfl <;> rcases w2 with rfl | rfl | rfl <;> rcases w3 with rfl | rfl | rfl <;> rfl
  have OR := (fun w g (hg : g = w.heap.size) => orN_any [x, y, z] 3 (some ⟨g, 0, none⟩) 3 (by decide) (w.alloc (.cells #[.int .i64 x, .int .i64 y, .int .i64 z] 3)) (ints_lit w 3 [x, y, z] hwx g hg))
  obtain ⟨T, hT⟩ : ∃ T, firstNZ [x, y, z] = T := ⟨_, rfl⟩
  simp only [hT] at OR
  rw [hT] at E
  replace OR := Lib.hid OR
  have HTW := Lib.hid TW
  clear TW hx hy hz w1 w2 w3 hwx hT h1 h2
  go_enter Tryz.func15, Tryz.ntmps15
  go_wp2
  obtain ⟨w1, hw1⟩ : ∃ w, (W.alloc (.cells #[.int .i64 t1, .slice A n c, .string l1] 25)).alloc (.cells #[.int .i64 t2, .slice B m d, .string l2] 25) = w := ⟨_, rfl⟩
  have hTW := HTW.out
  rw [hw1] at hTW ⊢
  clear hw1 HTW
  have k10 : w1.cell? ⟨W.heap.size, 0, none⟩ = some (.int .i64 t1) := (hTW.cells 0).1
  have k11 : w1.cell? ⟨W.heap.size, 1, none⟩ = some (.slice A n c) := (hTW.cells 1).1
  have k12 : w1.cell? ⟨W.heap.size, 2, none⟩ = some (.string l1) := (hTW.cells 2).1
  have k20 : w1.cell? ⟨W.heap.size + 1, 0, none⟩ = some (.int .i64 t2) := (hTW.cells 0).2
  have k21 : w1.cell? ⟨W.heap.size + 1, 1, none⟩ = some (.slice B m d) := (hTW.cells 1).2
  have k22 : w1.cell? ⟨W.heap.size + 1, 2, none⟩ = some (.string l2) := (hTW.cells 2).2
  have S0 : Below W.heap.size W w1 := hTW.below
  have HS := Lib.hid (fun (w w' : World) (hS : Below W.heap.size W w ∧ w.cell? ⟨W.heap.size, 0, none⟩ = some (.int .i64 t1) ∧ w.cell? ⟨W.heap.size, 1, none⟩ = some (.slice A n c) ∧ w.cell? ⟨W.heap.size, 2, none⟩ = some (.string l1) ∧ w.cell? ⟨W.heap.size + 1, 0, none⟩ = some (.int .i64 t2) ∧ w.cell? ⟨W.heap.size + 1, 1, none⟩ = some (.slice B m d) ∧ w.cell? ⟨W.heap.size + 1, 2, none⟩ = some (.string l2)) (hx : Below w.heap.size w w') =>
    show Below W.heap.size W w' ∧ w'.cell? ⟨W.heap.size, 0, none⟩ = some (.int .i64 t1) ∧ w'.cell? ⟨W.heap.size, 1, none⟩ = some (.slice A n c) ∧ w'.cell? ⟨W.heap.size, 2, none⟩ = some (.string l1) ∧ w'.cell? ⟨W.heap.size + 1, 0, none⟩ = some (.int .i64 t2) ∧ w'.cell? ⟨W.heap.size + 1, 1, none⟩ = some (.slice B m d) ∧ w'.cell? ⟨W.heap.size + 1, 2, none⟩ = some (.string l2) from by
      obtain ⟨hb, c1, c2, c3, c4, c5, c6⟩ := hS
      have z1 := block_lt_of_cell c1
      have z2 := block_lt_of_cell c4
      exact ⟨hop hb (Nat.le_refl _) hx, (hx.cell (p := ⟨W.heap.size, 0, none⟩) z1).trans c1, (hx.cell (p := ⟨W.heap.size, 1, none⟩) z1).trans c2, (hx.cell (p := ⟨W.heap.size, 2, none⟩) z1).trans c3, (hx.cell (p := ⟨W.heap.size + 1, 0, none⟩) z2).trans c4, (hx.cell (p := ⟨W.heap.size + 1, 1, none⟩) z2).trans c5, (hx.cell (p := ⟨W.heap.size + 1, 2, none⟩) z2).trans c6⟩)
  have hS0 := HS.out w1 w1.drew ⟨S0, k10, k11, k12, k20, k21, k22⟩ ((Below.refl _ _).drew)
  clear hTW
  go_region_held3 (fun w' => Below W.heap.size W w' ∧ w'.cell? ⟨W.heap.size, 0, none⟩ = some (.int .i64 t1) ∧ w'.cell? ⟨W.heap.size, 1, none⟩ = some (.slice A n c) ∧ w'.cell? ⟨W.heap.size, 2, none⟩ = some (.string l1) ∧ w'.cell? ⟨W.heap.size + 1, 0, none⟩ = some (.int .i64 t2) ∧ w'.cell? ⟨W.heap.size + 1, 1, none⟩ = some (.slice B m d) ∧ w'.cell? ⟨W.heap.size + 1, 2, none⟩ = some (.string l2))
    (first | assumption | exact ⟨by assumption, by assumption, by assumption, by assumption, by assumption, by assumption, by assumption⟩ | exact HS.out _ _ (by assumption) (by assumption) | exact HS.out _ _ (by assumption) ((Below.refl _ _).drew) | exact HS.out _ _ (by assumption) ((Below.refl _ _).alloc (Nat.le_refl _) _))
    (first | (go_at_call 35; refine (C1.out _).mono ?_; rintro e w3 ⟨rfl, rfl⟩) | (go_at_call 37; refine (C3.out _).mono ?_; rintro e w3 ⟨rfl, rfl⟩) | (go_at_call 36; refine (C2.out _ (by go_split_ands; assumption)).mono ?_; rintro e w3 ⟨rfl, hb3⟩) | (go_at_call 34; refine (OR.out _ _ ?_).mono ?_; rfl; rintro e w3 ⟨rfl, rfl⟩))
  all_goals
    go_wp2
    go_ret
    exact ⟨ret_int E.out, by go_split_ands; assumption⟩
end Go.Proofs.YtdbflmkjcgiodaaGreatDoor
