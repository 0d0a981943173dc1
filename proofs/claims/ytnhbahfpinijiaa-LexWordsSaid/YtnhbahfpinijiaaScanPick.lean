/- What is left; the first of some texts that stands next. -/
import Derived.Test.YtnhbahfpinijiaaScanRun
import Derived.Test.YtnhbahfpinijiaaSame
import Derived.Deep.RegionHeld3
namespace Go.Proofs.Ytnhbahfpinijiaa
open Go.RowKit
set_option linter.unusedVariables false

theorem rest_any (b : Nat) (ty : TypeId) (cs : Array Value) (t : ByteArray) (k : Nat) (W : World) (h : Rd W b ty cs t k) :
    Calls Try.prog 36 #[.pointer (some ⟨b, 0, none⟩)] W fun e w' => e = .returned (.string (t.extract k t.size)) ∧ ∃ q, w' = W.drewN q := by
  have c0 := h.text
  have c1 := h.pos
  have hk := h.le
  have hk' : (k : Int) ≤ (t.size : Int) := by omega
  clear h
  go_enter Try.func36, Try.ntmps36
  go_wp2
  go_quiet (fail)
  go_wp2
  go_ret
  exact ⟨rfl, _, rfl⟩
/-- p begins the text s -/
def prefB (s p : ByteArray) : Bool := decide (p.size ≤ s.size) && decide (s.extract 0 p.size = p)
theorem hasPrefix_any (s p : ByteArray) (hs : s.size ≤ 9223372036854775806) (hp : p.size ≤ 9223372036854775806) (W : World) :
    Calls Try.prog 35 #[.string s, .string p] W fun e w' => e = .returned (.bool (prefB s p)) ∧ W = w' := by
  by_cases h : p.size ≤ s.size
  · have e : prefB s p = ((s.extract 0 p.size).toList == p.toList) := by rw [prefB, decide_eq_true h, Bool.true_and, text_eq]
    rw [e]
    have h1 : (p.size : Int) ≤ (s.size : Int) := by omega
    go_enter Try.func35, Try.ntmps35
    go_wp2
    go_ret
    exact ⟨rfl, rfl⟩
  · have e : prefB s p = false := by rw [prefB, decide_eq_false h]; rfl
    rw [e]
    have h1 : ¬ (p.size : Int) ≤ (s.size : Int) := by omega
    go_enter Try.func35, Try.ntmps35
    go_wp2
    go_ret
    exact ⟨rfl, rfl⟩

theorem Texts.kept_by {w w' : World} {A : Option Addr} {n b : Nat} {ss : List ByteArray} (h : Texts w A n ss) (hg : w.grownBy w' (some b)) (hA : ∀ a, A = some a → a.block ≠ b) : Texts w' A n ss :=
  ⟨h.1, fun hn => by
    obtain ⟨g, off, e, hlt, hc⟩ := h.2 hn
    exact ⟨g, off, e, Nat.lt_of_lt_of_le hlt hg.size, fun j hj => cell_kept_by (hc j hj) hg (show g ≠ b from hA _ e)⟩⟩
/-- the first of ss that stands at k -/
def takeR (t : ByteArray) (k : Nat) (ss : List ByteArray) : Option ByteArray := ss.find? (fun s => prefB (t.extract k t.size) s)
def takeTo (t : ByteArray) (k : Nat) (ss : List ByteArray) : Nat := k + ((takeR t k ss).getD .empty).size
theorem takeTo_some {t : ByteArray} {k : Nat} {ss : List ByteArray} {x : ByteArray} (h : takeR t k ss = some x) : takeTo t k ss = k + x.size := by unfold takeTo; rw [h]; rfl
theorem takeTo_none {t : ByteArray} {k : Nat} {ss : List ByteArray} (h : takeR t k ss = none) : takeTo t k ss = k := by unfold takeTo; rw [h]; rfl
theorem prefB_size {s p : ByteArray} (h : prefB s p = true) : p.size ≤ s.size := by
  unfold prefB at h
  rw [Bool.and_eq_true] at h
  exact of_decide_eq_true h.1

set_option maxHeartbeats 1600000 in
theorem take_any (b : Nat) (ty : TypeId) (cs : Array Value) (t : ByteArray) (k : Nat) (A : Option Addr) (n cp : Nat) (ss : List ByteArray) (hn : n ≤ 9223372036854775806) (hss : ∀ s ∈ ss, s.size ≤ 9223372036854775806) (W : World) (hR : Rd W b ty cs t k) (hI : Texts W A n ss) (hA : ∀ a, A = some a → a.block ≠ b) :
    Calls Try.prog 23 #[.pointer (some ⟨b, 0, none⟩), .slice A n cp] W fun e w' => e = .returned (.tuple #[.string ((takeR t k ss).getD .empty), .bool (takeR t k ss).isSome]) ∧ Rd w' b ty (cs.setIfInBounds 1 (.int .i64 (takeTo t k ss : Nat))) t (takeTo t k ss) ∧ W.grownBy w' (some b) := by
  have hkt := hR.le
  have hsz := hR.sz
  have HR := Lib.hid hR
  have HI := Lib.hid hI
  have HA := Lib.hid hA
  have HS := Lib.hid (set_same hR.c1)
  have HZ := Lib.hid hss
  have hlen := hI.1
  clear hR hI hA hss
  go_enter Try.func23, Try.ntmps23
  go_wp2
  go_loopw [10] (fun i wr => ∃ j : Nat, j ≤ n ∧ i = .int .i64 j ∧ Hid (∀ s ∈ ss.take j, prefB (t.extract k t.size) s = false) ∧ ∃ q, wr = W.drewN q) (fun i _ => n - (intOf i).toNat)
  case atStart => exact ⟨0, Nat.zero_le _, rfl, Lib.hid (by simp), 0, rfl⟩
  case round =>
    obtain ⟨j, hj, rfl, HJ, q, rfl⟩ := hrel
    by_cases hjn : j < n
    · obtain ⟨g, off, rfl, hlt, hcell⟩ := HI.out.2 (by omega)
      have cj := hcell j hjn
      have hmem : ss.getD j .empty ∈ ss := by
        rw [List.getD_eq_getElem?_getD, List.getElem?_eq_getElem (by omega)]
        exact List.getElem_mem _
      have hsp := HZ.out _ hmem
      have hsn : ss.take (j + 1) = ss.take j ++ [ss.getD j .empty] := by
        rw [List.take_succ_eq_append_getElem (by omega), List.getD_eq_getElem?_getD, List.getElem?_eq_getElem (by omega)]
        rfl
      have hfind : prefB (t.extract k t.size) (ss.getD j .empty) = true → takeR t k ss = some (ss.getD j .empty) := fun h => by
        unfold takeR
        conv => lhs; rw [← List.take_append_drop j ss]
        rw [List.find?_append, List.find?_eq_none.2 (fun s hs => by rw [HJ.out s hs]; decide), List.drop_eq_getElem_cons (by omega)]
        have e : ss[j]'(by omega) = ss.getD j .empty := by rw [List.getD_eq_getElem?_getD, List.getElem?_eq_getElem (by omega)]; rfl
        rw [e, List.find?_cons_of_pos h]
        rfl
      obtain ⟨x, hx⟩ : ∃ x, ss.getD j .empty = x := ⟨_, rfl⟩
      rw [hx] at cj hsp hsn hfind
      have RS := Lib.hid (rest_any b ty cs t k (W.drewN q) (HR.out.drewN q))
      have hrsz : (t.extract k t.size).size = t.size - k := by rw [ByteArray.size_extract]; omega
      have HP := Lib.hid (fun w => hasPrefix_any (t.extract k t.size) x (by omega) hsp w)
      have hps := fun h => prefB_size (s := t.extract k t.size) (p := x) h
      rw [hrsz] at hps
      obtain ⟨y, hy⟩ : ∃ y, prefB (t.extract k t.size) x = y := ⟨_, rfl⟩
      rw [hy] at HP hfind hps
      have HY := Lib.hid hy
      have HSN := Lib.hid hsn
      have HF := Lib.hid hfind
      have c1 := HR.out.pos
      have f1 := HR.out.blk.frozen 1
      cases y with
      | true =>
        have hps2 := hps rfl
        have E := Lib.hid (HF.out rfl)
        have hov : (k : Int) + (x.size : Int) ≤ 9223372036854775806 := by omega
        clear hcell hx hy hsn hfind hmem hps hrsz
        go_wp2_with fail
        refine RS.out.mono ?_
        rintro e w ⟨rfl, q2, rfl⟩
        go_wp2_with fail
        refine (HP.out _).mono ?_
        rintro e w ⟨rfl, rfl⟩
        go_wp2
        go_ret2
        refine ⟨by rw [E.out]; rfl, ?_, ?_⟩
        · rw [takeTo_some E.out]
          exact (HR.out.drewN _).toI (j := k + x.size) (z := (k : Int) + (x.size : Int)) (by omega) (by omega)
        · exact grown_pos W _ b _
      | false =>
        clear hcell hx hy hsn hfind hmem hps hrsz
        go_wp2_with fail
        refine RS.out.mono ?_
        rintro e w ⟨rfl, q2, rfl⟩
        go_wp2_with fail
        refine (HP.out _).mono ?_
        rintro e w ⟨rfl, rfl⟩
        go_wp2
        go_round
        case rel => exact ⟨j + 1, by omega, by go_num, Lib.hid (by
          rw [HSN.out]
          intro s hs
          rcases List.mem_append.1 hs with h | h
          · exact HJ.out s h
          · rw [List.mem_singleton.1 h]; exact HY.out), _, rfl⟩
        case measure => simp [intOf]; omega
    · obtain rfl : j = n := by omega
      have hno : takeR t k ss = none := by
        have h := HJ.out
        rw [List.take_of_length_le (by omega)] at h
        exact List.find?_eq_none.2 (fun s hs => by rw [h s hs]; decide)
      have E := Lib.hid hno
      clear hno
      go_wp2
      go_ret2
      exact ⟨by rw [E.out]; rfl, by rw [takeTo_none E.out, HS.out]; exact HR.out.drewN q, grown_drewN (World.grownBy.refl _ _) _⟩

theorem grown_of_below {w w' : World} (h : Below w.heap.size w w') (row : Option Nat) : w.grownBy w' row := ⟨h.os, h.tape, h.output, h.size, fun k hk _ => h.block k hk⟩
theorem grown_of_drew {w w' : World} (h : Below w.drew.heap.size w.drew w') : Below w.heap.size w w' := ⟨h.os, h.tape, h.output, h.size, h.block⟩
end Go.Proofs.Ytnhbahfpinijiaa
