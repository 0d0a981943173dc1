/- How a set is told: the walk of set. -/
import Derived.Test.YtojjeignijpiaaaGreatDoorRexTellS
import Derived.Test.YtojjeignijpiaaaGreatDoorRexSame
namespace Go.Proofs.YtojjeignijpiaaaGreatDoor
open Go.RowKit
set_option linter.unusedVariables false
set_option linter.unusedSimpArgs false

set_option maxRecDepth 100000 in
set_option maxHeartbeats 3200000 in
theorem tellSet_any (B b : Nat) (l : List UInt8) (S : Nat) (hSl : S < 2 ^ 256) (W : World) (h : Wr B b l W) (hlen : l.length + (setT S).length ≤ 140737488355328) (hB : B ≤ W.heap.size) :
    Calls Tryz.prog 36 #[.pointer (some ⟨b, 0, none⟩), setV S] W fun e w' => e = .returned (.tuple #[]) ∧ Wr B b (l ++ setT S) w' ∧ Wrote B b W w' := by
  have hbW := h.lt
  have K0 : Blk (W.alloc (.cells (setC S) 24)).drew W.heap.size 24 (setC S) := Blk.new W 24 (setC S)
  have S0 : (Wr B b l (W.alloc (.cells (setC S) 24)).drew ∧ Blk (W.alloc (.cells (setC S) 24)).drew W.heap.size 24 (setC S) ∧ ((W.alloc (.cells (setC S) 24)).drew.cell? ⟨W.heap.size, 0, none⟩ = some (.int .u64 (word S 0 : Nat)) ∧ (W.alloc (.cells (setC S) 24)).drew.cell? ⟨W.heap.size, 1, none⟩ = some (.int .u64 (word S 1 : Nat)) ∧ (W.alloc (.cells (setC S) 24)).drew.cell? ⟨W.heap.size, 2, none⟩ = some (.int .u64 (word S 2 : Nat)) ∧ (W.alloc (.cells (setC S) 24)).drew.cell? ⟨W.heap.size, 3, none⟩ = some (.int .u64 (word S 3 : Nat))) ∧ Wrote B b W (W.alloc (.cells (setC S) 24)).drew) := ⟨(h.alloc _).later (below_drewN (Below.refl _ _) 1), K0, (set_cells K0).1, (Wrote.alloc W hB _).trans (Wrote.of (below_drewN (Below.refl _ _) 1) (by simp; omega))⟩
  have HS := Lib.hid (show ∀ w w', (Wr B b l w ∧ Blk w W.heap.size 24 (setC S) ∧ (w.cell? ⟨W.heap.size, 0, none⟩ = some (.int .u64 (word S 0 : Nat)) ∧ w.cell? ⟨W.heap.size, 1, none⟩ = some (.int .u64 (word S 1 : Nat)) ∧ w.cell? ⟨W.heap.size, 2, none⟩ = some (.int .u64 (word S 2 : Nat)) ∧ w.cell? ⟨W.heap.size, 3, none⟩ = some (.int .u64 (word S 3 : Nat))) ∧ Wrote B b W w) → Below w.heap.size w w' → (Wr B b l w' ∧ Blk w' W.heap.size 24 (setC S) ∧ (w'.cell? ⟨W.heap.size, 0, none⟩ = some (.int .u64 (word S 0 : Nat)) ∧ w'.cell? ⟨W.heap.size, 1, none⟩ = some (.int .u64 (word S 1 : Nat)) ∧ w'.cell? ⟨W.heap.size, 2, none⟩ = some (.int .u64 (word S 2 : Nat)) ∧ w'.cell? ⟨W.heap.size, 3, none⟩ = some (.int .u64 (word S 3 : Nat))) ∧ Wrote B b W w') from fun w w' h hb => ⟨h.1.later hb, h.2.1.below hb h.2.1.lt, (set_cells (h.2.1.below hb h.2.1.lt)).1, h.2.2.2.trans (Wrote.of hb (Nat.le_trans hB h.2.2.2.size))⟩)
  have AB := Lib.hid (fun w => anyByte_any w)
  have hEQ := eq_words24 hSl (show anyB < 2 ^ 256 by decide +kernel)
  have HMANY := Lib.hid (fun w => rexMany_any S w)
  have HLOW := Lib.hid (fun hm w => spans_low S hm w)
  have HCL := Lib.hid (fun w h hl hb => tellClass_any B b l S w h hl hb)
  have HBY := Lib.hid (fun w (h : Wr B b l w) hl hb => byteOf_any B b l (UInt8.ofNat (leastB S)) (leastB S : Int) (by rw [u8_nat (least_lt S)]) ⟨#[92, 46, 91, 93, 40, 41, 42, 43, 63, 123, 125, 124, 94, 36]⟩ spec among_spec w h hl hb)
  have HSET := Lib.hid (show setT S = if S = anyB then [46] else if manyB S = 1 then byteP (leastB S) spec else 91 :: (spansT (spansL S) ++ [93]) from rfl)
  clear K0 h hSl
  obtain ⟨D, hD⟩ : ∃ D, decide (S = anyB) = D := ⟨_, rfl⟩
  rw [hD] at hEQ
  obtain ⟨X, hX⟩ : ∃ X, setT S = X := ⟨_, rfl⟩
  rw [hX] at hlen HSET ⊢
  obtain ⟨Y, hY⟩ : ∃ Y, anyB = Y := ⟨_, rfl⟩
  rw [hY] at AB hEQ
  replace hEQ : ∀ w, (Op.equalIn 10000 24 (.agg #[.int .u64 (word S 0 : Nat), .int .u64 (word S 1 : Nat), .int .u64 (word S 2 : Nat), .int .u64 (word S 3 : Nat)]) (.agg (setC Y))).run Tryz.prog w = .ok D w := hEQ
  have HD := Lib.hid hD
  have HLEN := Lib.hid hlen
  clear hX hY hD hlen
  unfold setV at *
  go_enter Tryz.func36, Tryz.ntmps36
  go_wp2
  refine wp_region_held_drew (S := fun w' => (Wr B b l w' ∧ Blk w' W.heap.size 24 (setC S) ∧ (w'.cell? ⟨W.heap.size, 0, none⟩ = some (.int .u64 (word S 0 : Nat)) ∧ w'.cell? ⟨W.heap.size, 1, none⟩ = some (.int .u64 (word S 1 : Nat)) ∧ w'.cell? ⟨W.heap.size, 2, none⟩ = some (.int .u64 (word S 2 : Nat)) ∧ w'.cell? ⟨W.heap.size, 3, none⟩ = some (.int .u64 (word S 3 : Nat))) ∧ Wrote B b W w')) (by kernel_rfl) S0 (fun hHeld => ?_)
  refine wpAnyH_take (i := 0) (oi := { dst := some 8, op := Go.Op.load 24 (Go.Operand.tmp 3), type := 24, pos := "put.go:88", after := #[], guard := none }) (v := ?_) rfl (by kernel_rfl) (by kernel_rfl) (by kernel_rfl) (fun _ _ _ h => h) (Or.inl ⟨by kernel_rfl, ?_⟩) (by assumption) ?_
  rotate_left
  · intro w hSw
    (try dsimp only at hSw)
    go_split_ands
    first | (go_simp; done) | (go_simp; with_reducible rfl)
  try simp only [Act.put, List.setIfInBounds_toArray, List.set_cons_zero, List.set_cons_succ]
  refine wpAnyH_ready (rs := [1]) (by kernel_rfl) (by simp) ?_
  refine AllReadyH.cons (o := { dst := some 9, op := Go.Op.call { callee := Go.Callee.value (Go.Operand.func 43), args := #[], argTypes := #[] }, type := 24, pos := "put.go:88", after := #[], guard := none }) rfl (fun K hK => ?_) AllReadyH.nil
  go_simp
  go_at_call 43
  refine (AB.out _).mono ?_
  rintro e wc1 ⟨rfl, hb3⟩
  have Sc1 := HS.out _ _ (by assumption) hb3
  refine hK.out _ _ Sc1 (fun _ => ?_)
  clear hK K hb3
  try simp only [Act.put, List.setIfInBounds_toArray, List.set_cons_zero, List.set_cons_succ]
  refine wpAnyH_take (i := 2) (oi := { dst := some 10, op := Go.Op.binOp Go.BinOp.eql 24 (Go.Operand.tmp 8) (Go.Operand.tmp 9) 24, type := 4, pos := "put.go:88", after := #[{ on := 0, ground := Go.Ground.data }, { on := 1, ground := Go.Ground.data }], guard := none }) (v := ?_) rfl (by kernel_rfl) (by kernel_rfl) (by kernel_rfl) (fun _ _ _ h => h) (Or.inl ⟨by kernel_rfl, ?_⟩) (by assumption) ?_
  rotate_left
  · intro w _
    first | (go_simp; done) | (go_simp; with_reducible rfl)
  try simp only [Act.put, List.setIfInBounds_toArray, List.set_cons_zero, List.set_cons_succ]
  refine wpAnyH_take (i := 3) (oi := { dst := some 7, op := Go.Op.assign (Go.Operand.tmp 10), type := 4, pos := "put.go:88", after := #[{ on := 2, ground := Go.Ground.data }, { on := 1, ground := Go.Ground.chain }], guard := none }) (v := ?_) rfl (by kernel_rfl) (by kernel_rfl) (by kernel_rfl) (fun _ _ _ h => h) (Or.inl ⟨by kernel_rfl, ?_⟩) (by assumption) ?_
  rotate_left
  · intro w _
    first | (go_simp; done) | (go_simp; with_reducible rfl)
  try simp only [Act.put, List.setIfInBounds_toArray, List.set_cons_zero, List.set_cons_succ]
  refine wpAnyH_done (by kernel_rfl) ?_ _
  have HSc := Lib.hid Sc1
  clear HS hHeld AB S0 Sc1 hEQ
  cases D with
  | true =>
    have he := of_decide_eq_true HD.out
    have hx := HSET.out
    rw [if_pos he] at hx
    subst hx
    have W2 := Lib.hid (wr_byte B b l 46 46 rfl _ HSc.out.1 (by have := HLEN.out; simp at this; omega) (Nat.le_trans hB HSc.out.2.2.2.size))
    clear he
    go_wp2_with fail
    refine W2.out.mono ?_
    rintro e w4 ⟨rfl, h4, k4⟩
    go_wp2
    go_end0
    exact ⟨rfl, h4, HSc.out.2.2.2.trans k4⟩
  | false =>
    have he := of_decide_eq_false HD.out
    have hx := HSET.out
    rw [if_neg he] at hx
    clear he
    obtain ⟨c0, c1, c2, c3⟩ := HSc.out.2.2.1
    obtain ⟨m, hm⟩ : ∃ m, manyB S = m := ⟨_, rfl⟩
    rw [hm] at HMANY HLOW hx
    have HX := Lib.hid hx
    clear hm hx
    go_wp2_with fail
    refine (HMANY.out _).mono ?_
    rintro e w4 ⟨rfl, hb4⟩
    have H4 := Lib.hid (HSc.out.1.later hb4)
    have hk4 := HSc.out.2.1.below hb4 HSc.out.2.1.lt
    have HK4 := Lib.hid (HSc.out.2.2.2.trans (Wrote.of (b := b) hb4 (Nat.le_trans hB HSc.out.2.2.2.size)))
    clear c0 c1 c2 c3 HSc hb4
    obtain ⟨⟨c0, c1, c2, c3⟩, _⟩ := set_cells hk4
    have hk1 := HK4.out.size
    have HKB := Lib.hid hk4
    clear hk4
    by_cases h1 : m = 1
    · subst h1
      have hx := HX.out
      rw [if_pos rfl] at hx
      subst hx
      go_wp2_with fail
      refine (HLOW.out (by simp) _).mono ?_
      rintro e w5 ⟨g, n, c, rfl, hn, hg, hc, hb5⟩
      have H5 := H4.out.later hb5
      have hl2 : l.length + (byteU (UInt8.ofNat (leastB S)) spec).length ≤ 140737488355328 := HLEN.out
      have W3 := Lib.hid (HBY.out w5 H5 hl2 (by have := hb5.size; omega))
      have HK5 := Lib.hid (HK4.out.trans (Wrote.of (b := b) hb5 (by omega)))
      have hnI : (0 : Int) < (n : Int) := by omega
      clear c0 c1 c2 c3 hb5 H5 hl2
      go_wp2_with fail
      refine W3.out.mono ?_
      rintro e w6 ⟨rfl, h6, k6⟩
      go_wp2
      go_end0
      exact ⟨rfl, h6, HK5.out.trans k6⟩
    · have hI : ((m : Int) == 1) = false := by rw [beq_eq_false_iff_ne]; omega
      have hI2 : ¬ (m : Int) = 1 := by omega
      have hx := HX.out
      rw [if_neg h1] at hx
      subst hx
      have W3 := Lib.hid (HCL.out w4 H4.out (by have := HLEN.out; simp only [List.length_append, List.length_cons] at this; simp at this; omega) (by omega))
      unfold setC at W3
      clear h1
      go_wp2_with fail
      refine W3.out.mono ?_
      rintro e w6 ⟨rfl, h6, k6⟩
      go_wp2
      go_end0
      exact ⟨rfl, h6, HK4.out.trans k6⟩
end Go.Proofs.YtojjeignijpiaaaGreatDoor
