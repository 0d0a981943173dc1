-- shaken
import Derived.Test.YtdaainifkldcpaaGreatDoorRows
import Derived.Test.YtdaainifkldcpaaGreatDoorMem
import Derived.Test.YtdaainifkldcpaaGreatDoorBase
import Derived.Deep.QuietTactic
import Derived.Deep.RegionHeld3
namespace Go.Proofs.YtdaainifkldcpaaGreatDoor
open Go.RowKit
set_option linter.unusedVariables false
set_option linter.unusedSimpArgs false
def kindB (k : Int) (c : Nat) : Bool :=
  if k = 0 then decide (48 ≤ c) && decide (c ≤ 57) else
  if k = 1 then (decide (65 ≤ c) && decide (c ≤ 90)) || (decide (97 ≤ c) && decide (c ≤ 122)) else
  if k = 2 then decide (c = 95) else
  if k = 3 then decide (c = 32) || decide (c = 9) || decide (c = 10) else false
set_option maxHeartbeats 1600000 in
theorem isOne_any (c : Nat) (hc : c < 256) (k : Int) (W : World) :
    Calls Tryz.prog 164 #[.int .u8 (c : Int), .int .i64 k] W fun e w' => e = .returned (.bool (kindB k c)) ∧ W = w' := by
  by_cases h0 : k = 0
  · subst h0
    rcases (by omega : c < 48 ∨ (48 ≤ c ∧ c ≤ 57) ∨ (48 ≤ c ∧ 57 < c)) with h | ⟨h, h2⟩ | ⟨h, h2⟩
    · have e : kindB 0 c = false := by simp [kindB]; omega
      rw [e]
      go_enter Tryz.func164, Tryz.ntmps164
      go_wp2
      go_ret
      first | exact ⟨rfl, rfl⟩ | exact ⟨ret_bool (by simp; omega), rfl⟩
    · have e : kindB 0 c = true := by simp [kindB]; omega
      rw [e]
      go_enter Tryz.func164, Tryz.ntmps164
      go_wp2
      go_ret
      first | exact ⟨rfl, rfl⟩ | exact ⟨ret_bool (by simp; omega), rfl⟩
    · have e : kindB 0 c = false := by simp [kindB]; omega
      rw [e]
      go_enter Tryz.func164, Tryz.ntmps164
      go_wp2
      go_ret
      first | exact ⟨rfl, rfl⟩ | exact ⟨ret_bool (by simp; omega), rfl⟩
  · have g0 : (k == 0) = false := by rw [beq_eq_false_iff_ne]; exact h0
    by_cases h1 : k = 1
    · subst h1
      rcases (by omega : c < 65 ∨ (65 ≤ c ∧ c ≤ 90) ∨ (65 ≤ c ∧ 90 < c ∧ c < 97) ∨ (65 ≤ c ∧ 90 < c ∧ 97 ≤ c ∧ c ≤ 122) ∨ (65 ≤ c ∧ 90 < c ∧ 97 ≤ c ∧ 122 < c)) with h | ⟨h, h2⟩ | ⟨h, h2, h3⟩ | ⟨h, h2, h3, h4⟩ | ⟨h, h2, h3, h4⟩
      · have h5 : c < 97 := by omega
        have e : kindB 1 c = false := by simp [kindB]; omega
        rw [e]
        go_enter Tryz.func164, Tryz.ntmps164
        go_wp2
        go_ret
        first | exact ⟨rfl, rfl⟩ | exact ⟨ret_bool (by simp; omega), rfl⟩
      · have e : kindB 1 c = true := by simp [kindB]; omega
        rw [e]
        go_enter Tryz.func164, Tryz.ntmps164
        go_wp2
        go_ret
        first | exact ⟨rfl, rfl⟩ | exact ⟨ret_bool (by simp; omega), rfl⟩
      · have e : kindB 1 c = false := by simp [kindB]; omega
        rw [e]
        go_enter Tryz.func164, Tryz.ntmps164
        go_wp2
        go_ret
        first | exact ⟨rfl, rfl⟩ | exact ⟨ret_bool (by simp; omega), rfl⟩
      · have e : kindB 1 c = true := by simp [kindB]; omega
        rw [e]
        go_enter Tryz.func164, Tryz.ntmps164
        go_wp2
        go_ret
        first | exact ⟨rfl, rfl⟩ | exact ⟨ret_bool (by simp; omega), rfl⟩
      · have e : kindB 1 c = false := by simp [kindB]; omega
        rw [e]
        go_enter Tryz.func164, Tryz.ntmps164
        go_wp2
        go_ret
        first | exact ⟨rfl, rfl⟩ | exact ⟨ret_bool (by simp; omega), rfl⟩
    · have g1 : (k == 1) = false := by rw [beq_eq_false_iff_ne]; exact h1
      by_cases h2 : k = 2
      · subst h2
        have e : kindB 2 c = ((c : Int) == 95) := by
          rw [Bool.eq_iff_iff, beq_iff_eq]
          simp [kindB]
          omega
        rw [e]
        go_enter Tryz.func164, Tryz.ntmps164
        go_wp2
        go_ret
        first | exact ⟨rfl, rfl⟩ | exact ⟨ret_bool (by simp; omega), rfl⟩
      · have g2 : (k == 2) = false := by rw [beq_eq_false_iff_ne]; exact h2
        by_cases h3 : k = 3
        · subst h3
          rcases (by omega : c = 32 ∨ (c ≠ 32 ∧ c = 9) ∨ (c ≠ 32 ∧ c ≠ 9 ∧ c = 10) ∨ (c ≠ 32 ∧ c ≠ 9 ∧ c ≠ 10)) with rfl | ⟨h, rfl⟩ | ⟨h, h4, rfl⟩ | ⟨h, h4, h5⟩
          · have e : kindB 3 32 = true := rfl
            rw [e]
            go_enter Tryz.func164, Tryz.ntmps164
            go_wp2
            go_ret
            first | exact ⟨rfl, rfl⟩ | exact ⟨ret_bool (by simp; omega), rfl⟩
          · have e : kindB 3 9 = true := rfl
            rw [e]
            go_enter Tryz.func164, Tryz.ntmps164
            go_wp2
            go_ret
            first | exact ⟨rfl, rfl⟩ | exact ⟨ret_bool (by simp; omega), rfl⟩
          · have e : kindB 3 10 = true := rfl
            rw [e]
            go_enter Tryz.func164, Tryz.ntmps164
            go_wp2
            go_ret
            first | exact ⟨rfl, rfl⟩ | exact ⟨ret_bool (by simp; omega), rfl⟩
          · have e : kindB 3 c = false := by simp [kindB]; omega
            have k1 : ((c : Int) == 32) = false := by rw [beq_eq_false_iff_ne]; omega
            have k2 : ((c : Int) == 9) = false := by rw [beq_eq_false_iff_ne]; omega
            have k3 : ((c : Int) == 10) = false := by rw [beq_eq_false_iff_ne]; omega
            rw [e]
            clear h h4 h5
            go_enter Tryz.func164, Tryz.ntmps164
            go_wp2
            go_ret
            first | exact ⟨rfl, rfl⟩ | exact ⟨ret_bool (by simp; omega), rfl⟩
        · have g3 : (k == 3) = false := by rw [beq_eq_false_iff_ne]; exact h3
          have e : kindB k c = false := by simp [kindB, h0, h1, h2, h3]
          rw [e]
          clear h0 h1 h2 h3
          go_enter Tryz.func164, Tryz.ntmps164
          go_wp2
          go_ret
          first | exact ⟨rfl, rfl⟩ | exact ⟨ret_bool (by simp; omega), rfl⟩
set_option maxHeartbeats 800000 in
theorem is_any (c : Nat) (hc : c < 256) (A : Option Addr) (n cp : Nat) (ks : List Int) (hn : n ≤ 9223372036854775806) (W : World) (h : Ints .i64 W A n ks) :
    Calls Tryz.prog 138 #[.int .u8 (c : Int), .slice A n cp] W fun e w' => e = .returned (.bool (ks.any fun k => kindB k c)) ∧ W = w' := by
  obtain ⟨hl, hw, hA⟩ := h
  have HL := Lib.hid hl
  have HA := Lib.hid hA
  clear hl hw hA
  go_enter Tryz.func138, Tryz.ntmps138
  go_wp2
  go_loop [9] (fun i => ∃ (j : Nat), j ≤ n ∧ i = .int .i64 j ∧ Hid ((ks.take j).any (fun k => kindB k c) = false)) (fun i => n - (intOf i).toNat)
  case atStart => exact ⟨0, Nat.zero_le _, rfl, Lib.hid rfl⟩
  case round =>
    obtain ⟨j, hj, rfl, HJ⟩ := hrel
    by_cases hjn : j < n
    · obtain ⟨b, off, rfl, hlt, hcs⟩ := HA.out (by omega)
      have c0 := hcs j hjn
      have hsn : (ks.take (j + 1)).any (fun k => kindB k c) = kindB (ks.getD j 0) c := by
        rw [List.take_succ_eq_append_getElem (by rw [HL.out]; exact hjn), List.any_append, HJ.out, List.getD_eq_getElem?_getD, List.getElem?_eq_getElem (by rw [HL.out]; exact hjn)]
        simp
      have hmem : kindB (ks.getD j 0) c = true → ks.any (fun k => kindB k c) = true := fun h => by
        rw [List.any_eq_true]
        refine ⟨ks.getD j 0, ?_, h⟩
        rw [List.getD_eq_getElem?_getD, List.getElem?_eq_getElem (by rw [HL.out]; exact hjn)]
        exact List.getElem_mem _
      obtain ⟨z, hz⟩ : ∃ z, ks.getD j 0 = z := ⟨_, rfl⟩
      rw [hz] at c0 hsn hmem
      have HC := Lib.hid (fun w => isOne_any c hc z w)
      obtain ⟨x, hx⟩ : ∃ x, kindB z c = x := ⟨_, rfl⟩
      rw [hx] at HC hsn hmem
      have HSN := Lib.hid hsn
      have HM := Lib.hid hmem
      clear hcs hz hx hsn hmem
      cases x with
      | true =>
        have E := Lib.hid (HM.out rfl)
        go_wp2_with fail
        refine (HC.out _).mono ?_
        rintro e w ⟨rfl, rfl⟩
        go_wp2
        go_ret
        exact ⟨ret_bool E.out.symm, rfl⟩
      | false =>
        go_wp2_with fail
        refine (HC.out _).mono ?_
        rintro e w ⟨rfl, rfl⟩
        go_wp2
        go_round
        case rel => exact ⟨j + 1, by omega, by go_num, HSN⟩
        case measure => simp [intOf]; omega
    · obtain rfl : j = n := by omega
      have hs := HJ.out
      rw [List.take_of_length_le (by rw [HL.out]; exact Nat.le_refl _)] at hs
      have E := Lib.hid hs
      clear hs
      go_wp2
      go_ret
      exact ⟨ret_bool E.out.symm, rfl⟩
structure Rd (w : World) (b : Nat) (ty : TypeId) (cs : Array Value) (t : ByteArray) (k : Nat) : Prop where
  blk : Blk w b ty cs
  c0 : cs[0]? = some (.string t)
  c1 : cs[1]? = some (.int .i64 (k : Int))
  le : k ≤ t.size
  sz : t.size ≤ 9223372036854775806
section
variable {w w' : World} {b : Nat} {ty : TypeId} {cs : Array Value} {t : ByteArray} {k : Nat}
theorem Rd.below {B : Nat} (h : Rd w b ty cs t k) (hb : Below B w w') (hB : b < B) : Rd w' b ty cs t k := ⟨h.blk.below hb hB, h.c0, h.c1, h.le, h.sz⟩
theorem Rd.drewN (h : Rd w b ty cs t k) (q : Nat) : Rd (w.drewN q) b ty cs t k := ⟨h.blk.drewN q, h.c0, h.c1, h.le, h.sz⟩
end

end Go.Proofs.YtdaainifkldcpaaGreatDoor
namespace Go.Proofs.YtdaainifkldcpaaGreatDoor
open Go.RowKit
set_option linter.unusedVariables false
set_option linter.unusedSimpArgs false
def goodK (ks : List Int) (c : UInt8) : Bool := ks.any fun k => kindB k c.toNat
theorem Rd.lt {w : World} {b : Nat} {ty : TypeId} {cs : Array Value} {t : ByteArray} {k : Nat} (h : Rd w b ty cs t k) : b < w.heap.size := h.blk.lt
theorem Rd.alloc {w : World} {b : Nat} {ty : TypeId} {cs : Array Value} {t : ByteArray} {k : Nat} (h : Rd w b ty cs t k) (o : Obj) : Rd (w.alloc o) b ty cs t k := ⟨h.blk.alloc o, h.c0, h.c1, h.le, h.sz⟩
end Go.Proofs.YtdaainifkldcpaaGreatDoor
