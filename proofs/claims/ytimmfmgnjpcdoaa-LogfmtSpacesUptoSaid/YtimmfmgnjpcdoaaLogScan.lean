/- Bytes of keys and values of fields; a reader that reads as many of them as there are. -/
import Derived.Test.YtimmfmgnjpcdoaaLabMath
import Derived.Test.YtimmfmgnjpcdoaaScanQuo
import Derived.Shelf.SlSortCmp.QuietGrown
namespace Go.Proofs.Ytimmfmgnjpcdoaa
open Go.RowKit Go.Sort
set_option linter.unusedVariables false
set_option linter.unusedSimpArgs false

def valB (c : UInt8) : Bool := !(goodK [3] c)
def keyB (c : UInt8) : Bool := valB c && (!(c == 61) && !(c == 34))
theorem inValue_any (c : UInt8) (W : World) :
    Calls Try.prog 55 #[.int .u8 (c.toNat : Int)] W fun e w' => e = .returned (.bool (valB c)) ∧ ∃ q os, w' = grow (W.drewN q) os := by
  have hc := c.toNat_lt
  have D0 := is_any c.toNat hc (some ⟨W.heap.size, 0, none⟩) 1 1 [3] (by decide) _ (ints_lit W 71 [3] (by decide) _ rfl)
  rw [goodK_any] at D0
  obtain ⟨g0, hg0⟩ : ∃ b, goodK [3] c = b := ⟨_, rfl⟩
  rw [hg0] at D0
  have E := Lib.hid (show valB c = !g0 by unfold valB; rw [hg0])
  replace D0 := Lib.hid D0
  have HG := Lib.hid (show Grown W (W.alloc (.cells ([3].map (Value.int .i64)).toArray 71)) from (Grown.refl _).alloc _)
  clear hg0
  go_enter Try.func55, Try.ntmps55
  go_wp2_with fail
  refine D0.out.mono ?_
  rintro e w ⟨rfl, rfl⟩
  go_wp2
  go_ret
  exact ⟨ret_bool (by rw [E.out]), HG.out⟩
theorem inKey_any (c : UInt8) (W : World) :
    Calls Try.prog 44 #[.int .u8 (c.toNat : Int)] W fun e w' => e = .returned (.bool (keyB c)) ∧ ∃ q os, w' = grow (W.drewN q) os := by
  have hc := c.toNat_lt
  have D0 := inValue_any c W
  obtain ⟨g0, hg0⟩ : ∃ b, valB c = b := ⟨_, rfl⟩
  rw [hg0] at D0
  replace D0 := Lib.hid D0
  have E := Lib.hid (show keyB c = (g0 && (!(c == 61) && !(c == 34))) by unfold keyB; rw [hg0])
  have e1 : (c == 61) = decide (c.toNat = 61) := by
    by_cases h : c = 61
    · subst h; rfl
    · rw [beq_eq_false_iff_ne.2 h]
      exact (decide_eq_false (fun h2 : c.toNat = 61 => h (UInt8.toNat_inj.1 h2))).symm
  have e2 : (c == 34) = decide (c.toNat = 34) := by
    by_cases h : c = 34
    · subst h; rfl
    · rw [beq_eq_false_iff_ne.2 h]
      exact (decide_eq_false (fun h2 : c.toNat = 34 => h (UInt8.toNat_inj.1 h2))).symm
  have E2 := Lib.hid (show keyB c = (g0 && (!(decide (c.toNat = 61)) && !(decide (c.toNat = 34)))) by rw [E.out, e1, e2])
  obtain ⟨n, hn⟩ : ∃ n, c.toNat = n := ⟨_, rfl⟩
  replace E2 := E2.out
  replace D0 := D0.out
  rw [hn] at E2 D0 hc ⊢
  replace E2 := Lib.hid E2
  replace D0 := Lib.hid D0
  clear hg0 e1 e2 E hn
  cases g0 with
  | false =>
    go_enter Try.func44, Try.ntmps44
    go_wp2_with fail
    refine D0.out.mono ?_
    rintro e w ⟨rfl, hw⟩
    replace hw := Lib.hid hw
    go_wp2
    go_ret
    exact ⟨ret_bool (by rw [E2.out]; rfl), hw.out⟩
  | true =>
    by_cases h1 : n = 61
    · have f1 : (n : Int) = 61 := by omega
      have f2 : ((n : Int) == 61) = true := by rw [f1]; rfl
      have HE := Lib.hid (show keyB c = false by rw [E2.out, decide_eq_true h1]; rfl)
      subst h1
      clear f1 f2
      go_enter Try.func44, Try.ntmps44
      go_wp2_with fail
      refine D0.out.mono ?_
      rintro e w ⟨rfl, hw⟩
      replace hw := Lib.hid hw
      go_wp2
      go_ret
      exact ⟨ret_bool (by rw [HE.out]), hw.out⟩
    · have f1 : ¬ (n : Int) = 61 := by omega
      have f2 : ((n : Int) == 61) = false := by rw [beq_eq_false_iff_ne]; exact f1
      by_cases h2 : n = 34
      · have HE := Lib.hid (show keyB c = false by rw [E2.out, decide_eq_true h2]; simp)
        subst h2
        clear f1 f2
        go_enter Try.func44, Try.ntmps44
        go_wp2_with fail
        refine D0.out.mono ?_
        rintro e w ⟨rfl, hw⟩
        replace hw := Lib.hid hw
        go_wp2
        go_ret
        exact ⟨ret_bool (by rw [HE.out]), hw.out⟩
      · have f3 : ¬ (n : Int) = 34 := by omega
        have f4 : ((n : Int) == 34) = false := by rw [beq_eq_false_iff_ne]; exact f3
        have HE := Lib.hid (show keyB c = true by rw [E2.out, decide_eq_false h1, decide_eq_false h2]; rfl)
        go_enter Try.func44, Try.ntmps44
        go_wp2_with fail
        refine D0.out.mono ?_
        rintro e w ⟨rfl, hw⟩
        replace hw := Lib.hid hw
        go_wp2
        go_ret
        exact ⟨ret_bool (by rw [HE.out]; first | rfl | (simp; omega)), hw.out⟩
theorem Rd.grown {w : World} {b : Nat} {ty : TypeId} {cs : Array Value} {t : ByteArray} {k : Nat} (h : Rd w b ty cs t k) (q : Nat) (os : Array Obj) : Rd (grow (w.drewN q) os) b ty cs t k :=
  h.below (Go.Lib.below_grow w.heap.size w (Nat.le_refl _) q os) h.blk.lt
theorem grownBy_of_below {w w' : World} (h : Below w.heap.size w w') (row : Option Nat) : w.grownBy w' row := ⟨h.os, h.tape, h.output, h.size, fun k hk _ => h.block k hk⟩
set_option maxRecDepth 100000 in
set_option maxHeartbeats 1600000 in
theorem whileV_any (b : Nat) (ty : TypeId) (cs : Array Value) (t : ByteArray) (k : Nat) (W : World) (hR : Rd W b ty cs t k) :
    Calls Try.prog 43 #[.pointer (some ⟨b, 0, none⟩), .func (.func 55) #[] #[]] W fun e w' => e = .returned (.string (t.extract k (runTo valB t k))) ∧ Rd w' b ty (cs.setIfInBounds 1 (.int .i64 (runTo valB t k : Nat))) t (runTo valB t k) ∧ W.grownBy w' (some b) := by
  have mixed : Try.prog.follows .mixedOrders = true := by kernel_rfl
  have c1 := hR.pos
  have hkt := hR.le
  have hsz := hR.sz
  have HR := Lib.hid hR
  have HS := Lib.hid (set_same hR.c1)
  clear hR
  go_enter Try.func43, Try.ntmps43
  go_wp2
  go_loopw [] (fun wr => ∃ j, k ≤ j ∧ j ≤ t.size ∧ Hid (∀ i, k ≤ i → i < k + (j - k) → ∃ c, t.data.toList[i]? = some c ∧ valB c = true) ∧ Rd wr b ty (cs.setIfInBounds 1 (.int .i64 (j : Nat))) t j ∧ W.grownBy wr (some b)) (fun wr => t.size - (intOf ((wr.cell? ⟨b, 1, none⟩).getD undef)).toNat)
  case atStart => exact ⟨k, Nat.le_refl _, hkt, Lib.hid (fun i a b => by omega), by rw [HS.out]; exact HR.out, World.grownBy.refl _ _⟩
  case round =>
    obtain ⟨j, hkj, hjt, HJ, hRz, hgr⟩ := hrel
    have hblt := hRz.lt
    have c1 := hRz.pos
    have c0 := hRz.text
    have k0 : ∀ n os, (grow (wr.drewN n) os).cell? ⟨b, 0, none⟩ = some (.string t) := fun n os => cell_grown (w := wr) (a := ⟨b, 0, none⟩) hblt c0 n os
    have k1 : ∀ n os, (grow (wr.drewN n) os).cell? ⟨b, 1, none⟩ = some (.int .i64 (j : Int)) := fun n os => cell_grown (w := wr) (a := ⟨b, 1, none⟩) hblt c1 n os
    have HRZ := Lib.hid hRz
    by_cases hjs : j < t.size
    · obtain ⟨c, hc⟩ : ∃ c, t[j] = c := ⟨_, rfl⟩
      have hdn : ∀ n os, Calls Try.prog 42 #[.pointer (some ⟨b, 0, none⟩)] (grow (wr.drewN n) os) fun e w' => e = .returned (.bool false) ∧ ∃ q os', w' = grow ((grow (wr.drewN n) os).drewN q) os' := fun n os => by
        have h := done_any b ty _ t j _ (hRz.grown n os)
        rw [show ((j : Int) == (t.size : Int)) = false by rw [beq_eq_false_iff_ne]; omega] at h
        refine h.mono ?_
        rintro e w' ⟨he, m, hm⟩
        exact ⟨he, m, #[], by rw [grow_empty]; exact hm⟩
      have CL := Lib.hid (fun w => inValue_any c w)
      obtain ⟨x, hx⟩ : ∃ x, valB c = x := ⟨_, rfl⟩
      replace CL := CL.out
      simp only [hx] at CL
      replace CL := Lib.hid CL
      have DN := Lib.hid hdn
      have hjs' : (j : Int) < (t.size : Int) := by omega
      have hj0 : (0 : Int) ≤ (j : Int) := by omega
      have hbyte : t.data.toList[j]? = some c := by
        rw [Array.getElem?_toList, ← hc]
        exact Array.getElem?_eq_getElem (show j < t.data.size from hjs)
      have HB := Lib.hid hbyte
      have HX := Lib.hid hx
      have HGR := Lib.hid hgr
      have HC1 := Lib.hid c1
      clear hdn hx hRz hbyte hgr c0 c1
      cases x with
      | true =>
        go_wp2
        refine wp_region_quiet_grown mixed (by kernel_rfl) ?_
        repeat (generalize hst : ({ tmps := _, defers := _ } : Act) = st; refine wpQuiet_step (fun K hK => ?_); subst hst; go_simp; refine hK _ ?_; clear hK K)
        quiet_step (first | (go_at_call 42; refine Calls.grown_of (DN.out _ _)))
        repeat (generalize hst : ({ tmps := _, defers := _ } : Act) = st; refine wpQuiet_step (fun K hK => ?_); subst hst; go_simp; refine hK _ ?_; clear hK K)
        quiet_step (first | (go_at_call 55; refine Calls.grown_of (CL.out _)))
        repeat (generalize hst : ({ tmps := _, defers := _ } : Act) = st; refine wpQuiet_step (fun K hK => ?_); subst hst; go_simp; refine hK _ ?_; clear hK K)
        refine wpQuiet_nil ?_
        intro _ hw'
        obtain ⟨⟨nq, osq⟩, hw''⟩ := hw'
        subst hw''
        obtain ⟨w2, hw2⟩ : ∃ z, grow (wr.drewN nq) osq = z := ⟨_, rfl⟩
        have R2 := HRZ.out.grown nq osq
        rw [hw2] at R2
        have hg2 : W.grownBy w2 (some b) := World.grownBy.trans HGR.out (grownBy_of_below (by rw [← hw2]; exact Go.Lib.below_grow wr.heap.size wr (Nat.le_refl _) nq osq) _)
        rw [hw2]
        clear hw2
        have d0 := R2.text
        have d1 := R2.pos
        have d2 := R2.blk.frozen 1
        have HR2 := Lib.hid R2
        have HG2 := Lib.hid hg2
        clear R2 hg2
        go_wp2
        go_round
        case rel => exact ⟨j + 1, by omega, by omega, Lib.hid (fun i a b => by
          by_cases hi : i < k + (j - k)
          · exact HJ.out i a hi
          · obtain rfl : i = j := by omega
            exact ⟨c, HB.out, HX.out⟩), by have h := HR2.out.toI (j := j + 1) (z := (j : Int) + 1) (by omega) (by omega); rw [set_twice] at h; exact h, World.grownBy.trans HG2.out (grown_pos w2 0 b _)⟩
        case measure =>
          have h := (HR2.out.toI (j := j + 1) (z := (j : Int) + 1) (by omega) (by omega)).pos
          rw [h, HC1.out]
          simp [intOf]
          omega
      | false =>
        have E := Lib.hid (show runTo valB t k = j by
          unfold runTo
          rw [run_stop valB t.data.toList (j - k) k HJ.out (fun c' h => by
            rw [show k + (j - k) = j by omega, HB.out] at h
            injection h with h
            rw [← h]; exact HX.out)]
          omega)
        have hle : (k : Int) ≤ (j : Int) := by omega
        go_wp2
        refine wp_region_quiet_grown mixed (by kernel_rfl) ?_
        repeat (generalize hst : ({ tmps := _, defers := _ } : Act) = st; refine wpQuiet_step (fun K hK => ?_); subst hst; go_simp; refine hK _ ?_; clear hK K)
        quiet_step (first | (go_at_call 42; refine Calls.grown_of (DN.out _ _)))
        repeat (generalize hst : ({ tmps := _, defers := _ } : Act) = st; refine wpQuiet_step (fun K hK => ?_); subst hst; go_simp; refine hK _ ?_; clear hK K)
        quiet_step (first | (go_at_call 55; refine Calls.grown_of (CL.out _)))
        repeat (generalize hst : ({ tmps := _, defers := _ } : Act) = st; refine wpQuiet_step (fun K hK => ?_); subst hst; go_simp; refine hK _ ?_; clear hK K)
        refine wpQuiet_nil ?_
        intro _ hw'
        obtain ⟨⟨nq, osq⟩, hw''⟩ := hw'
        subst hw''
        obtain ⟨w2, hw2⟩ : ∃ z, grow (wr.drewN nq) osq = z := ⟨_, rfl⟩
        have R2 := HRZ.out.grown nq osq
        rw [hw2] at R2
        have hg2 : W.grownBy w2 (some b) := World.grownBy.trans HGR.out (grownBy_of_below (by rw [← hw2]; exact Go.Lib.below_grow wr.heap.size wr (Nat.le_refl _) nq osq) _)
        rw [hw2]
        clear hw2
        have d0 := R2.text
        have d1 := R2.pos
        have d2 := R2.blk.frozen 1
        have HR2 := Lib.hid R2
        have HG2 := Lib.hid hg2
        clear R2 hg2
        go_wp2
        go_quiet (fail)
        go_wp2
        go_ret
        exact ⟨by rw [E.out]; rfl, by rw [E.out]; exact HR2.out.drewN _, grown_drewN HG2.out _⟩
    · obtain rfl : j = t.size := by omega
      have hdn : ∀ n os, Calls Try.prog 42 #[.pointer (some ⟨b, 0, none⟩)] (grow (wr.drewN n) os) fun e w' => e = .returned (.bool true) ∧ ∃ q os', w' = grow ((grow (wr.drewN n) os).drewN q) os' := fun n os => by
        have h := done_any b ty _ t t.size _ (hRz.grown n os)
        rw [show ((t.size : Int) == (t.size : Int)) = true by simp] at h
        refine h.mono ?_
        rintro e w' ⟨he, m, hm⟩
        exact ⟨he, m, #[], by rw [grow_empty]; exact hm⟩
      have DN := Lib.hid hdn
      have HGR := Lib.hid hgr
      have E := Lib.hid (show runTo valB t k = t.size by
        unfold runTo
        rw [run_stop valB t.data.toList (t.size - k) k HJ.out (fun c' h => by
          rw [show k + (t.size - k) = t.size by omega, List.getElem?_eq_none (by rw [size_toList]; exact Nat.le_refl _)] at h
          cases h)]
        omega)
      have hle : (k : Int) ≤ (t.size : Int) := by omega
      clear hdn hRz hgr c0 c1
      go_wp2
      refine wp_region_quiet_grown mixed (by kernel_rfl) ?_
      repeat (generalize hst : ({ tmps := _, defers := _ } : Act) = st; refine wpQuiet_step (fun K hK => ?_); subst hst; go_simp; refine hK _ ?_; clear hK K)
      quiet_step (first | (go_at_call 42; refine Calls.grown_of (DN.out _ _)))
      repeat (generalize hst : ({ tmps := _, defers := _ } : Act) = st; refine wpQuiet_step (fun K hK => ?_); subst hst; go_simp; refine hK _ ?_; clear hK K)
      refine wpQuiet_nil ?_
      intro _ hw'
      obtain ⟨⟨nq, osq⟩, hw''⟩ := hw'
      subst hw''
      obtain ⟨w2, hw2⟩ : ∃ z, grow (wr.drewN nq) osq = z := ⟨_, rfl⟩
      have R2 := HRZ.out.grown nq osq
      rw [hw2] at R2
      have hg2 : W.grownBy w2 (some b) := World.grownBy.trans HGR.out (grownBy_of_below (by rw [← hw2]; exact Go.Lib.below_grow wr.heap.size wr (Nat.le_refl _) nq osq) _)
      rw [hw2]
      clear hw2
      have d0 := R2.text
      have d1 := R2.pos
      have d2 := R2.blk.frozen 1
      have HR2 := Lib.hid R2
      have HG2 := Lib.hid hg2
      clear R2 hg2
      go_wp2
      go_quiet (fail)
      go_wp2
      go_ret
      exact ⟨by rw [E.out]; rfl, by rw [E.out]; exact HR2.out.drewN _, grown_drewN HG2.out _⟩
set_option maxRecDepth 100000 in
set_option maxHeartbeats 1600000 in
theorem whileK_any (b : Nat) (ty : TypeId) (cs : Array Value) (t : ByteArray) (k : Nat) (W : World) (hR : Rd W b ty cs t k) :
    Calls Try.prog 43 #[.pointer (some ⟨b, 0, none⟩), .func (.func 44) #[] #[]] W fun e w' => e = .returned (.string (t.extract k (runTo keyB t k))) ∧ Rd w' b ty (cs.setIfInBounds 1 (.int .i64 (runTo keyB t k : Nat))) t (runTo keyB t k) ∧ W.grownBy w' (some b) := by
  have mixed : Try.prog.follows .mixedOrders = true := by kernel_rfl
  have c1 := hR.pos
  have hkt := hR.le
  have hsz := hR.sz
  have HR := Lib.hid hR
  have HS := Lib.hid (set_same hR.c1)
  clear hR
  go_enter Try.func43, Try.ntmps43
  go_wp2
  go_loopw [] (fun wr => ∃ j, k ≤ j ∧ j ≤ t.size ∧ Hid (∀ i, k ≤ i → i < k + (j - k) → ∃ c, t.data.toList[i]? = some c ∧ keyB c = true) ∧ Rd wr b ty (cs.setIfInBounds 1 (.int .i64 (j : Nat))) t j ∧ W.grownBy wr (some b)) (fun wr => t.size - (intOf ((wr.cell? ⟨b, 1, none⟩).getD undef)).toNat)
  case atStart => exact ⟨k, Nat.le_refl _, hkt, Lib.hid (fun i a b => by omega), by rw [HS.out]; exact HR.out, World.grownBy.refl _ _⟩
  case round =>
    obtain ⟨j, hkj, hjt, HJ, hRz, hgr⟩ := hrel
    have hblt := hRz.lt
    have c1 := hRz.pos
    have c0 := hRz.text
    have k0 : ∀ n os, (grow (wr.drewN n) os).cell? ⟨b, 0, none⟩ = some (.string t) := fun n os => cell_grown (w := wr) (a := ⟨b, 0, none⟩) hblt c0 n os
    have k1 : ∀ n os, (grow (wr.drewN n) os).cell? ⟨b, 1, none⟩ = some (.int .i64 (j : Int)) := fun n os => cell_grown (w := wr) (a := ⟨b, 1, none⟩) hblt c1 n os
    have HRZ := Lib.hid hRz
    by_cases hjs : j < t.size
    · obtain ⟨c, hc⟩ : ∃ c, t[j] = c := ⟨_, rfl⟩
      have hdn : ∀ n os, Calls Try.prog 42 #[.pointer (some ⟨b, 0, none⟩)] (grow (wr.drewN n) os) fun e w' => e = .returned (.bool false) ∧ ∃ q os', w' = grow ((grow (wr.drewN n) os).drewN q) os' := fun n os => by
        have h := done_any b ty _ t j _ (hRz.grown n os)
        rw [show ((j : Int) == (t.size : Int)) = false by rw [beq_eq_false_iff_ne]; omega] at h
        refine h.mono ?_
        rintro e w' ⟨he, m, hm⟩
        exact ⟨he, m, #[], by rw [grow_empty]; exact hm⟩
      have CL := Lib.hid (fun w => inKey_any c w)
      obtain ⟨x, hx⟩ : ∃ x, keyB c = x := ⟨_, rfl⟩
      replace CL := CL.out
      simp only [hx] at CL
      replace CL := Lib.hid CL
      have DN := Lib.hid hdn
      have hjs' : (j : Int) < (t.size : Int) := by omega
      have hj0 : (0 : Int) ≤ (j : Int) := by omega
      have hbyte : t.data.toList[j]? = some c := by
        rw [Array.getElem?_toList, ← hc]
        exact Array.getElem?_eq_getElem (show j < t.data.size from hjs)
      have HB := Lib.hid hbyte
      have HX := Lib.hid hx
      have HGR := Lib.hid hgr
      have HC1 := Lib.hid c1
      clear hdn hx hRz hbyte hgr c0 c1
      cases x with
      | true =>
        go_wp2
        refine wp_region_quiet_grown mixed (by kernel_rfl) ?_
        repeat (generalize hst : ({ tmps := _, defers := _ } : Act) = st; refine wpQuiet_step (fun K hK => ?_); subst hst; go_simp; refine hK _ ?_; clear hK K)
        quiet_step (first | (go_at_call 42; refine Calls.grown_of (DN.out _ _)))
        repeat (generalize hst : ({ tmps := _, defers := _ } : Act) = st; refine wpQuiet_step (fun K hK => ?_); subst hst; go_simp; refine hK _ ?_; clear hK K)
        quiet_step (first | (go_at_call 44; refine Calls.grown_of (CL.out _)))
        repeat (generalize hst : ({ tmps := _, defers := _ } : Act) = st; refine wpQuiet_step (fun K hK => ?_); subst hst; go_simp; refine hK _ ?_; clear hK K)
        refine wpQuiet_nil ?_
        intro _ hw'
        obtain ⟨⟨nq, osq⟩, hw''⟩ := hw'
        subst hw''
        obtain ⟨w2, hw2⟩ : ∃ z, grow (wr.drewN nq) osq = z := ⟨_, rfl⟩
        have R2 := HRZ.out.grown nq osq
        rw [hw2] at R2
        have hg2 : W.grownBy w2 (some b) := World.grownBy.trans HGR.out (grownBy_of_below (by rw [← hw2]; exact Go.Lib.below_grow wr.heap.size wr (Nat.le_refl _) nq osq) _)
        rw [hw2]
        clear hw2
        have d0 := R2.text
        have d1 := R2.pos
        have d2 := R2.blk.frozen 1
        have HR2 := Lib.hid R2
        have HG2 := Lib.hid hg2
        clear R2 hg2
        go_wp2
        go_round
        case rel => exact ⟨j + 1, by omega, by omega, Lib.hid (fun i a b => by
          by_cases hi : i < k + (j - k)
          · exact HJ.out i a hi
          · obtain rfl : i = j := by omega
            exact ⟨c, HB.out, HX.out⟩), by have h := HR2.out.toI (j := j + 1) (z := (j : Int) + 1) (by omega) (by omega); rw [set_twice] at h; exact h, World.grownBy.trans HG2.out (grown_pos w2 0 b _)⟩
        case measure =>
          have h := (HR2.out.toI (j := j + 1) (z := (j : Int) + 1) (by omega) (by omega)).pos
          rw [h, HC1.out]
          simp [intOf]
          omega
      | false =>
        have E := Lib.hid (show runTo keyB t k = j by
          unfold runTo
          rw [run_stop keyB t.data.toList (j - k) k HJ.out (fun c' h => by
            rw [show k + (j - k) = j by omega, HB.out] at h
            injection h with h
            rw [← h]; exact HX.out)]
          omega)
        have hle : (k : Int) ≤ (j : Int) := by omega
        go_wp2
        refine wp_region_quiet_grown mixed (by kernel_rfl) ?_
        repeat (generalize hst : ({ tmps := _, defers := _ } : Act) = st; refine wpQuiet_step (fun K hK => ?_); subst hst; go_simp; refine hK _ ?_; clear hK K)
        quiet_step (first | (go_at_call 42; refine Calls.grown_of (DN.out _ _)))
        repeat (generalize hst : ({ tmps := _, defers := _ } : Act) = st; refine wpQuiet_step (fun K hK => ?_); subst hst; go_simp; refine hK _ ?_; clear hK K)
        quiet_step (first | (go_at_call 44; refine Calls.grown_of (CL.out _)))
        repeat (generalize hst : ({ tmps := _, defers := _ } : Act) = st; refine wpQuiet_step (fun K hK => ?_); subst hst; go_simp; refine hK _ ?_; clear hK K)
        refine wpQuiet_nil ?_
        intro _ hw'
        obtain ⟨⟨nq, osq⟩, hw''⟩ := hw'
        subst hw''
        obtain ⟨w2, hw2⟩ : ∃ z, grow (wr.drewN nq) osq = z := ⟨_, rfl⟩
        have R2 := HRZ.out.grown nq osq
        rw [hw2] at R2
        have hg2 : W.grownBy w2 (some b) := World.grownBy.trans HGR.out (grownBy_of_below (by rw [← hw2]; exact Go.Lib.below_grow wr.heap.size wr (Nat.le_refl _) nq osq) _)
        rw [hw2]
        clear hw2
        have d0 := R2.text
        have d1 := R2.pos
        have d2 := R2.blk.frozen 1
        have HR2 := Lib.hid R2
        have HG2 := Lib.hid hg2
        clear R2 hg2
        go_wp2
        go_quiet (fail)
        go_wp2
        go_ret
        exact ⟨by rw [E.out]; rfl, by rw [E.out]; exact HR2.out.drewN _, grown_drewN HG2.out _⟩
    · obtain rfl : j = t.size := by omega
      have hdn : ∀ n os, Calls Try.prog 42 #[.pointer (some ⟨b, 0, none⟩)] (grow (wr.drewN n) os) fun e w' => e = .returned (.bool true) ∧ ∃ q os', w' = grow ((grow (wr.drewN n) os).drewN q) os' := fun n os => by
        have h := done_any b ty _ t t.size _ (hRz.grown n os)
        rw [show ((t.size : Int) == (t.size : Int)) = true by simp] at h
        refine h.mono ?_
        rintro e w' ⟨he, m, hm⟩
        exact ⟨he, m, #[], by rw [grow_empty]; exact hm⟩
      have DN := Lib.hid hdn
      have HGR := Lib.hid hgr
      have E := Lib.hid (show runTo keyB t k = t.size by
        unfold runTo
        rw [run_stop keyB t.data.toList (t.size - k) k HJ.out (fun c' h => by
          rw [show k + (t.size - k) = t.size by omega, List.getElem?_eq_none (by rw [size_toList]; exact Nat.le_refl _)] at h
          cases h)]
        omega)
      have hle : (k : Int) ≤ (t.size : Int) := by omega
      clear hdn hRz hgr c0 c1
      go_wp2
      refine wp_region_quiet_grown mixed (by kernel_rfl) ?_
      repeat (generalize hst : ({ tmps := _, defers := _ } : Act) = st; refine wpQuiet_step (fun K hK => ?_); subst hst; go_simp; refine hK _ ?_; clear hK K)
      quiet_step (first | (go_at_call 42; refine Calls.grown_of (DN.out _ _)))
      repeat (generalize hst : ({ tmps := _, defers := _ } : Act) = st; refine wpQuiet_step (fun K hK => ?_); subst hst; go_simp; refine hK _ ?_; clear hK K)
      refine wpQuiet_nil ?_
      intro _ hw'
      obtain ⟨⟨nq, osq⟩, hw''⟩ := hw'
      subst hw''
      obtain ⟨w2, hw2⟩ : ∃ z, grow (wr.drewN nq) osq = z := ⟨_, rfl⟩
      have R2 := HRZ.out.grown nq osq
      rw [hw2] at R2
      have hg2 : W.grownBy w2 (some b) := World.grownBy.trans HGR.out (grownBy_of_below (by rw [← hw2]; exact Go.Lib.below_grow wr.heap.size wr (Nat.le_refl _) nq osq) _)
      rw [hw2]
      clear hw2
      have d0 := R2.text
      have d1 := R2.pos
      have d2 := R2.blk.frozen 1
      have HR2 := Lib.hid R2
      have HG2 := Lib.hid hg2
      clear R2 hg2
      go_wp2
      go_quiet (fail)
      go_wp2
      go_ret
      exact ⟨by rw [E.out]; rfl, by rw [E.out]; exact HR2.out.drewN _, grown_drewN HG2.out _⟩
end Go.Proofs.Ytimmfmgnjpcdoaa
