-- shaken
import Derived.Test.YtbkpoimaienhpaaGreatDoorRows
import Derived.Test.YtbkpoimaienhpaaGreatDoorMem
import Derived.Test.YtbkpoimaienhpaaGreatDoorBase
import Derived.Deep.QuietTactic
import Derived.Deep.RegionHeld3
namespace Go.Proofs.YtbkpoimaienhpaaGreatDoor
open Go.RowKit
set_option linter.unusedVariables false
set_option linter.unusedSimpArgs false
def kindB (k : Int) (c : Nat) : Bool :=
  if k = 0 then decide (48 ≤ c) && decide (c ≤ 57) else
  if k = 1 then (decide (65 ≤ c) && decide (c ≤ 90)) || (decide (97 ≤ c) && decide (c ≤ 122)) else
  if k = 2 then decide (c = 95) else
  if k = 3 then decide (c = 32) || decide (c = 9) || decide (c = 10) else false
set_option maxHeartbeats 1600000 in
theorem isOne_any (c : Nat) (hc : c < 256) (k : Int) (W : World) :
    Calls Tryz.prog 70 #[.int .u8 (c : Int), .int .i64 k] W fun e w' => e = .returned (.bool (kindB k c)) ∧ W = w' := by
  by_cases h0 : k = 0
  · subst h0
    rcases (by omega : c < 48 ∨ (48 ≤ c ∧ c ≤ 57) ∨ (48 ≤ c ∧ 57 < c)) with h | ⟨h, h2⟩ | ⟨h, h2⟩
    · have e : kindB 0 c = false := by simp [kindB]; omega
      rw [e]
      go_enter Tryz.func70, Tryz.ntmps70
      go_wp2
      go_ret
      first | exact ⟨rfl, rfl⟩ | exact ⟨ret_bool (by simp; omega), rfl⟩
    · have e : kindB 0 c = true := by simp [kindB]; omega
      rw [e]
      go_enter Tryz.func70, Tryz.ntmps70
      go_wp2
      go_ret
      first | exact ⟨rfl, rfl⟩ | exact ⟨ret_bool (by simp; omega), rfl⟩
    · have e : kindB 0 c = false := by simp [kindB]; omega
      rw [e]
      go_enter Tryz.func70, Tryz.ntmps70
      go_wp2
      go_ret
      first | exact ⟨rfl, rfl⟩ | exact ⟨ret_bool (by simp; omega), rfl⟩
  · have g0 : (k == 0) = false := by rw [beq_eq_false_iff_ne]; exact h0
    by_cases h1 : k = 1
    · subst h1
      rcases (by omega : c < 65 ∨ (65 ≤ c ∧ c ≤ 90) ∨ (65 ≤ c ∧ 90 < c ∧ c < 97) ∨ (65 ≤ c ∧ 90 < c ∧ 97 ≤ c ∧ c ≤ 122) ∨ (65 ≤ c ∧ 90 < c ∧ 97 ≤ c ∧ 122 < c)) with h | ⟨h, h2⟩ | ⟨h, h2, h3⟩ | ⟨h, h2, h3, h4⟩ | ⟨h, h2, h3, h4⟩
      · have h5 : c < 97 := by omega
        have e : kindB 1 c = false := by simp [kindB]; omega
        rw [e]
        go_enter Tryz.func70, Tryz.ntmps70
        go_wp2
        go_ret
        first | exact ⟨rfl, rfl⟩ | exact ⟨ret_bool (by simp; omega), rfl⟩
      · have e : kindB 1 c = true := by simp [kindB]; omega
        rw [e]
        go_enter Tryz.func70, Tryz.ntmps70
        go_wp2
        go_ret
        first | exact ⟨rfl, rfl⟩ | exact ⟨ret_bool (by simp; omega), rfl⟩
      · have e : kindB 1 c = false := by simp [kindB]; omega
        rw [e]
        go_enter Tryz.func70, Tryz.ntmps70
        go_wp2
        go_ret
        first | exact ⟨rfl, rfl⟩ | exact ⟨ret_bool (by simp; omega), rfl⟩
      · have e : kindB 1 c = true := by simp [kindB]; omega
        rw [e]
        go_enter Tryz.func70, Tryz.ntmps70
        go_wp2
        go_ret
        first | exact ⟨rfl, rfl⟩ | exact ⟨ret_bool (by simp; omega), rfl⟩
      · have e : kindB 1 c = false := by simp [kindB]; omega
        rw [e]
        go_enter Tryz.func70, Tryz.ntmps70
        go_wp2
        go_ret
        first | exact ⟨rfl, rfl⟩ | exact ⟨ret_bool (by simp; omega), rfl⟩
    · have g1 : (k == 1) = false := by rw [beq_eq_false_iff_ne]; exact h1
      by_cases h2 : k = 2
      · subst h2
        have e : kindB 2 c = ((c : Int) == 95) := by
          rw [Bool.eq_iff_iff, beq_iff_eq]
          simp [kindB]
          omega
        rw [e]
        go_enter Tryz.func70, Tryz.ntmps70
        go_wp2
        go_ret
        first | exact ⟨rfl, rfl⟩ | exact ⟨ret_bool (by simp; omega), rfl⟩
      · have g2 : (k == 2) = false := by rw [beq_eq_false_iff_ne]; exact h2
        by_cases h3 : k = 3
        · subst h3
          rcases (by omega : c = 32 ∨ (c ≠ 32 ∧ c = 9) ∨ (c ≠ 32 ∧ c ≠ 9 ∧ c = 10) ∨ (c ≠ 32 ∧ c ≠ 9 ∧ c ≠ 10)) with rfl | ⟨h, rfl⟩ | ⟨h, h4, rfl⟩ | ⟨h, h4, h5⟩
          · have e : kindB 3 32 = true := rfl
            rw [e]
            go_enter Tryz.func70, Tryz.ntmps70
            go_wp2
            go_ret
            first | exact ⟨rfl, rfl⟩ | exact ⟨ret_bool (by simp; omega), rfl⟩
          · have e : kindB 3 9 = true := rfl
            rw [e]
            go_enter Tryz.func70, Tryz.ntmps70
            go_wp2
            go_ret
            first | exact ⟨rfl, rfl⟩ | exact ⟨ret_bool (by simp; omega), rfl⟩
          · have e : kindB 3 10 = true := rfl
            rw [e]
            go_enter Tryz.func70, Tryz.ntmps70
            go_wp2
            go_ret
            first | exact ⟨rfl, rfl⟩ | exact ⟨ret_bool (by simp; omega), rfl⟩
          · have e : kindB 3 c = false := by simp [kindB]; omega
            have k1 : ((c : Int) == 32) = false := by rw [beq_eq_false_iff_ne]; omega
            have k2 : ((c : Int) == 9) = false := by rw [beq_eq_false_iff_ne]; omega
            have k3 : ((c : Int) == 10) = false := by rw [beq_eq_false_iff_ne]; omega
            rw [e]
            clear h h4 h5
            go_enter Tryz.func70, Tryz.ntmps70
            go_wp2
            go_ret
            first | exact ⟨rfl, rfl⟩ | exact ⟨ret_bool (by simp; omega), rfl⟩
        · have g3 : (k == 3) = false := by rw [beq_eq_false_iff_ne]; exact h3
          have e : kindB k c = false := by simp [kindB, h0, h1, h2, h3]
          rw [e]
          clear h0 h1 h2 h3
          go_enter Tryz.func70, Tryz.ntmps70
          go_wp2
          go_ret
          first | exact ⟨rfl, rfl⟩ | exact ⟨ret_bool (by simp; omega), rfl⟩
set_option maxHeartbeats 800000 in
theorem is_any (c : Nat) (hc : c < 256) (A : Option Addr) (n cp : Nat) (ks : List Int) (hn : n ≤ 9223372036854775806) (W : World) (h : Ints .i64 W A n ks) :
    Calls Tryz.prog 53 #[.int .u8 (c : Int), .slice A n cp] W fun e w' => e = .returned (.bool (ks.any fun k => kindB k c)) ∧ W = w' := by
  obtain ⟨hl, hw, hA⟩ := h
  have HL := Lib.hid hl
  have HA := Lib.hid hA
  clear hl hw hA
  go_enter Tryz.func53, Tryz.ntmps53
  go_wp2
  go_loop [9] (fun i => ∃ (j : Nat), j ≤ n ∧ i = .int .i64 j ∧ Hid ((ks.take j).any (fun k => kindB k c) = false)) (fun i => n - (intOf i).toNat)
  case atStart => exact ⟨0, Nat.zero_le _, rfl, Lib.hid rfl⟩
  case round =>
    obtain ⟨j, hj, rfl, HJ⟩ := hrel
    by_cases hjn : j < n
    · obtain ⟨b, off, rfl, hlt, hcs⟩ := HA.out (by omega)
      have c0 := hcs j hjn
      have hsn : (ks.take (j + 1)).any (fun k => kindB k c) = kindB (ks.getD j 0) c := by
        rw [List.take_succ_eq_append_getElem (by rw [HL.out]; exact hjn), List.any_append, HJ.out, List.getD_eq_getElem?_getD, List.getElem?_eq_getElem (by rw [HL.out]; exact hjn)]
        simp
      have hmem : kindB (ks.getD j 0) c = true → ks.any (fun k => kindB k c) = true := fun h => by
        rw [List.any_eq_true]
        refine ⟨ks.getD j 0, ?_, h⟩
        rw [List.getD_eq_getElem?_getD, List.getElem?_eq_getElem (by rw [HL.out]; exact hjn)]
        exact List.getElem_mem _
      obtain ⟨z, hz⟩ : ∃ z, ks.getD j 0 = z := ⟨_, rfl⟩
      rw [hz] at c0 hsn hmem
      have HC := Lib.hid (fun w => isOne_any c hc z w)
      obtain ⟨x, hx⟩ : ∃ x, kindB z c = x := ⟨_, rfl⟩
      rw [hx] at HC hsn hmem
      have HSN := Lib.hid hsn
      have HM := Lib.hid hmem
      clear hcs hz hx hsn hmem
      cases x with
      | true =>
        have E := Lib.hid (HM.out rfl)
        go_wp2_with fail
        refine (HC.out _).mono ?_
        rintro e w ⟨rfl, rfl⟩
        go_wp2
        go_ret
        exact ⟨ret_bool E.out.symm, rfl⟩
      | false =>
        go_wp2_with fail
        refine (HC.out _).mono ?_
        rintro e w ⟨rfl, rfl⟩
        go_wp2
        go_round
        case rel => exact ⟨j + 1, by omega, by go_num, HSN⟩
        case measure => simp [intOf]; omega
    · obtain rfl : j = n := by omega
      have hs := HJ.out
      rw [List.take_of_length_le (by rw [HL.out]; exact Nat.le_refl _)] at hs
      have E := Lib.hid hs
      clear hs
      go_wp2
      go_ret
      exact ⟨ret_bool E.out.symm, rfl⟩
structure Rd (w : World) (b : Nat) (ty : TypeId) (cs : Array Value) (t : ByteArray) (k : Nat) : Prop where
  blk : Blk w b ty cs
  c0 : cs[0]? = some (.string t)
  c1 : cs[1]? = some (.int .i64 (k : Int))
  le : k ≤ t.size
  sz : t.size ≤ 9223372036854775806
section
variable {w w' : World} {b : Nat} {ty : TypeId} {cs : Array Value} {t : ByteArray} {k : Nat}
theorem Rd.text (h : Rd w b ty cs t k) : w.cell? ⟨b, 0, none⟩ = some (.string t) := (h.blk.cell 0).trans h.c0
theorem Rd.pos (h : Rd w b ty cs t k) : w.cell? ⟨b, 1, none⟩ = some (.int .i64 (k : Int)) := (h.blk.cell 1).trans h.c1
theorem Rd.below {B : Nat} (h : Rd w b ty cs t k) (hb : Below B w w') (hB : b < B) : Rd w' b ty cs t k := ⟨h.blk.below hb hB, h.c0, h.c1, h.le, h.sz⟩
theorem Rd.drewN (h : Rd w b ty cs t k) (q : Nat) : Rd (w.drewN q) b ty cs t k := ⟨h.blk.drewN q, h.c0, h.c1, h.le, h.sz⟩
theorem Rd.to (h : Rd w b ty cs t k) {j : Nat} (hj : j ≤ t.size) : Rd (w.setCell ⟨b, 1, none⟩ (.int .i64 (j : Int))) b ty (cs.setIfInBounds 1 (.int .i64 (j : Int))) t j := by
  have hs : 1 < cs.size := by
    rcases Nat.lt_or_ge 1 cs.size with h1 | h1
    · exact h1
    · have := h.c1; rw [Array.getElem?_eq_none h1] at this; cases this
  refine ⟨h.blk.set_ 1 _, ?_, ?_, hj, h.sz⟩
  · rw [Array.getElem?_setIfInBounds_ne (by decide)]; exact h.c0
  · rw [Array.getElem?_setIfInBounds_self_of_lt hs]
end
theorem done_any (b : Nat) (ty : TypeId) (cs : Array Value) (t : ByteArray) (k : Nat) (W : World) (h : Rd W b ty cs t k) :
    Calls Tryz.prog 123 #[.pointer (some ⟨b, 0, none⟩)] W fun e w' => e = .returned (.bool ((k : Int) == (t.size : Int))) ∧ ∃ q, w' = W.drewN q := by
  have c0 := h.text
  have c1 := h.pos
  clear h
  go_enter Tryz.func123, Tryz.ntmps123
  go_wp2
  go_quiet (fail)
  go_wp2
  go_ret
  exact ⟨rfl, _, rfl⟩
theorem peek_end (b : Nat) (ty : TypeId) (cs : Array Value) (t : ByteArray) (W : World) (h : Rd W b ty cs t t.size) :
    Calls Tryz.prog 106 #[.pointer (some ⟨b, 0, none⟩)] W fun e w' => e = .returned (.tuple #[.int .u8 0, .bool false]) ∧ ∃ q, w' = W.drewN q := by
  have HD := Lib.hid (fun q => done_any b ty cs t t.size _ (h.drewN q))
  have D0 := Lib.hid (done_any b ty cs t t.size _ h)
  have hq : ((t.size : Int) == (t.size : Int)) = true := by simp
  clear h
  go_enter Tryz.func106, Tryz.ntmps106
  go_wp2_with fail
  refine D0.out.mono ?_
  rintro e w ⟨rfl, q, rfl⟩
  go_wp2
  go_ret2
  exact ⟨rfl, _, rfl⟩
theorem peek_more (b : Nat) (ty : TypeId) (cs : Array Value) (t : ByteArray) (k : Nat) (hk : k < t.size) (c : UInt8) (hc : t[k] = c) (W : World) (h : Rd W b ty cs t k) :
    Calls Tryz.prog 106 #[.pointer (some ⟨b, 0, none⟩)] W fun e w' => e = .returned (.tuple #[.int .u8 (c.toNat : Int), .bool true]) ∧ ∃ q, w' = W.drewN q := by
  have D0 := Lib.hid (done_any b ty cs t k _ h)
  have hq : ((k : Int) == (t.size : Int)) = false := by rw [beq_eq_false_iff_ne]; omega
  rw [hq] at D0
  have hk' : (k : Int) < (t.size : Int) := by omega
  have c0 := h.text
  have c1 := h.pos
  clear h hq
  go_enter Tryz.func106, Tryz.ntmps106
  go_wp2_with fail
  refine D0.out.mono ?_
  rintro e w ⟨rfl, q, rfl⟩
  go_wp2
  go_quiet (fail)
  go_wp2
  go_ret2
  exact ⟨rfl, _, World.drewN_drewN _ _ _⟩
theorem of_any (s : ByteArray) (W : World) :
    Calls Tryz.prog 71 #[.string s] W fun e w' => e = .returned (.agg #[.string s, .int .i64 0]) ∧ Below W.heap.size W w' := by
  go_enter Tryz.func71, Tryz.ntmps71
  go_wp2
  refine bodyPost_ret (results_cell_row rfl _ _ W.heap.size 142 #[.string s, .int .i64 0] (0, 0) _ rfl (heap_alloc_new W _) Tryz.underlying142 rfl (by kernel_rfl)) rfl ?_
  exact ⟨rfl, (Below.refl _ _).alloc (Nat.le_refl _) _⟩

end Go.Proofs.YtbkpoimaienhpaaGreatDoor
namespace Go.Proofs.YtbkpoimaienhpaaGreatDoor
open Go.RowKit
set_option linter.unusedVariables false
set_option linter.unusedSimpArgs false
theorem run1_any (c : Nat) (hc : c < 256) (g : Nat) (A : Option Addr) (n cp : Nat) (ks : List Int) (hn : n ≤ 9223372036854775806) (W : World) (hg : W.cell? ⟨g, 0, none⟩ = some (.slice A n cp)) (h : Ints .i64 W A n ks) :
    Calls Tryz.prog 158 #[.int .u8 (c : Int), .pointer (some ⟨g, 0, none⟩)] W fun e w' => e = .returned (.bool (ks.any fun k => kindB k c)) ∧ W = w' := by
  have H := Lib.hid (is_any c hc A n cp ks hn W h)
  clear h
  go_enter Tryz.func158, Tryz.ntmps158
  go_wp2_with fail
  refine H.out.mono ?_
  rintro e w ⟨rfl, rfl⟩
  go_wp2
  go_ret
  exact ⟨rfl, rfl⟩
theorem set_same {cs : Array Value} {v : Value} (h : cs[1]? = some v) : cs.setIfInBounds 1 v = cs := by
  apply Array.ext_getElem?
  intro i
  by_cases hi : i = 1
  · subst hi
    rw [h, Array.getElem?_setIfInBounds_self_of_lt]
    rcases Nat.lt_or_ge 1 cs.size with h1 | h1
    · exact h1
    · rw [Array.getElem?_eq_none h1] at h; cases h
  · rw [Array.getElem?_setIfInBounds_ne (Ne.symm hi)]
theorem set_twice (cs : Array Value) (u v : Value) : (cs.setIfInBounds 1 u).setIfInBounds 1 v = cs.setIfInBounds 1 v := by
  apply Array.ext_getElem?
  intro i
  by_cases hi : i = 1
  · subst hi
    rcases Nat.lt_or_ge 1 cs.size with h1 | h1
    · rw [Array.getElem?_setIfInBounds_self_of_lt (by simpa using h1), Array.getElem?_setIfInBounds_self_of_lt h1]
    · rw [Array.getElem?_eq_none (by simpa using h1), Array.getElem?_eq_none (by simpa using h1)]
  · rw [Array.getElem?_setIfInBounds_ne (Ne.symm hi), Array.getElem?_setIfInBounds_ne (Ne.symm hi), Array.getElem?_setIfInBounds_ne (Ne.symm hi)]
def goodK (ks : List Int) (c : UInt8) : Bool := ks.any fun k => kindB k c.toNat
def runTo (p : UInt8 → Bool) (t : ByteArray) (k : Nat) : Nat := k + ((t.data.toList.drop k).takeWhile p).length
theorem run_stop (p : UInt8 → Bool) (l : List UInt8) : ∀ (d k : Nat), (∀ i, k ≤ i → i < k + d → ∃ c, l[i]? = some c ∧ p c = true) → (∀ c, l[k + d]? = some c → p c = false) → ((l.drop k).takeWhile p).length = d := by
  intro d
  induction d with
  | zero =>
    intro k _ h2
    cases hl : l.drop k with
    | nil => rfl
    | cons c r =>
      have : l[k + 0]? = some c := by
        have := congrArg (·[0]?) hl
        simpa [List.getElem?_drop] using this
      rw [List.takeWhile_cons_of_neg (by rw [h2 c this]; decide)]
      rfl
  | succ d ih =>
    intro k h1 h2
    obtain ⟨c, hc, hp⟩ := h1 k (Nat.le_refl _) (by omega)
    have hlt : k < l.length := by
      rcases Nat.lt_or_ge k l.length with h | h
      · exact h
      · rw [List.getElem?_eq_none h] at hc; cases hc
    have hcc : l[k] = c := by rw [List.getElem?_eq_getElem hlt] at hc; injection hc
    rw [List.drop_eq_getElem_cons hlt, hcc, List.takeWhile_cons_of_pos hp, List.length_cons, ih (k + 1) (fun i a b => h1 i (by omega) (by omega)) (fun c h => h2 c (by rw [← h]; congr 1; omega))]
theorem cell_kept_by {w w' : World} {b : Nat} {p : Addr} {v : Value} (h : w.cell? p = some v) (hg : w.grownBy w' (some b)) (hp : p.block ≠ b) : w'.cell? p = some v := by
  have hlt : p.block < w.heap.size := block_lt_of_cell h
  rw [World.cell?_of_block (w := w) (hg.block p.block hlt (fun e => hp (Option.some.inj e)))]
  exact h
theorem Ints.kept_by {k : IntKind} {w w' : World} {A : Option Addr} {n b : Nat} {zs : List Int} (h : Ints k w A n zs) (hg : w.grownBy w' (some b)) (hA : ∀ a, A = some a → a.block ≠ b) : Ints k w' A n zs :=
  ⟨h.1, h.2.1, fun hn => by
    obtain ⟨g, off, e, hlt, hc⟩ := h.2.2 hn
    refine ⟨g, off, e, Nat.lt_of_lt_of_le hlt hg.size, fun j hj => cell_kept_by (hc j hj) hg (show g ≠ b from hA _ e)⟩⟩
theorem Rd.toI {w : World} {b : Nat} {ty : TypeId} {cs : Array Value} {t : ByteArray} {k : Nat} (h : Rd w b ty cs t k) {j : Nat} {z : Int} (hz : z = (j : Nat)) (hj : j ≤ t.size) : Rd (w.setCell ⟨b, 1, none⟩ (.int .i64 z)) b ty (cs.setIfInBounds 1 (.int .i64 (j : Nat))) t j := by
  subst hz
  exact h.to hj
theorem grown_pos (w : World) (q b : Nat) (v : Value) : w.grownBy ((w.drewN q).setCell ⟨b, 1, none⟩ v) (some b) :=
  ⟨rfl, rfl, rfl, by simp, fun k hk hne => Below.heap_setCell (w.drewN q) ⟨b, 1, none⟩ v k (fun e => hne (by rw [e]))⟩
theorem grown_drewN {a w : World} {row : Option Nat} (h : a.grownBy w row) (q : Nat) : a.grownBy (w.drewN q) row := ⟨h.os, h.tape, h.output, h.size, h.block⟩
set_option maxHeartbeats 1600000 in
theorem while_any (b : Nat) (ty : TypeId) (cs : Array Value) (t : ByteArray) (k : Nat) (g : Nat) (A : Option Addr) (n cp : Nat) (ks : List Int) (hn : n ≤ 9223372036854775806) (W : World) (hR : Rd W b ty cs t k) (hg : W.cell? ⟨g, 0, none⟩ = some (.slice A n cp)) (hgb : g ≠ b) (hI : Ints .i64 W A n ks) (hA : ∀ a, A = some a → a.block ≠ b) :
    Calls Tryz.prog 157 #[.pointer (some ⟨b, 0, none⟩), .func (.func 158) #[] #[.pointer (some ⟨g, 0, none⟩)]] W fun e w' => e = .returned (.string (t.extract k (runTo (goodK ks) t k))) ∧ Rd w' b ty (cs.setIfInBounds 1 (.int .i64 (runTo (goodK ks) t k : Nat))) t (runTo (goodK ks) t k) ∧ W.grownBy w' (some b) := by
  have c1 := hR.pos
  have hkt := hR.le
  have hsz := hR.sz
  have HR := Lib.hid hR
  have HG := Lib.hid hg
  have HI := Lib.hid hI
  have HA := Lib.hid hA
  have HS := Lib.hid (set_same hR.c1)
  clear hR hg hI hA
  go_enter Tryz.func157, Tryz.ntmps157
  go_wp2
  go_loopw [] (fun wr => ∃ j, k ≤ j ∧ j ≤ t.size ∧ Hid (∀ i, k ≤ i → i < k + (j - k) → ∃ c, t.data.toList[i]? = some c ∧ goodK ks c = true) ∧ Rd wr b ty (cs.setIfInBounds 1 (.int .i64 (j : Nat))) t j ∧ W.grownBy wr (some b)) (fun wr => t.size - (intOf ((wr.cell? ⟨b, 1, none⟩).getD undef)).toNat)
  case atStart => exact ⟨k, Nat.le_refl _, hkt, Lib.hid (fun i a b => by omega), by rw [HS.out]; exact HR.out, World.grownBy.refl _ _⟩
  case round =>
    obtain ⟨j, hkj, hjt, HJ, hRz, hgr⟩ := hrel
    have c1 := hRz.pos
    have c0 := hRz.text
    have hgz := cell_kept_by HG.out hgr hgb
    have hIz := HI.out.kept_by hgr HA.out
    have HRZ := Lib.hid hRz
    have hpz := hRz.blk.frozen 1
    by_cases hjs : j < t.size
    · obtain ⟨c, hc⟩ : ∃ c, t[j] = c := ⟨_, rfl⟩
      have hdn : ∀ q, Calls Tryz.prog 123 #[.pointer (some ⟨b, 0, none⟩)] (wr.drewN q) fun e w' => e = .returned (.bool false) ∧ ∃ m, w' = (wr.drewN q).drewN m := fun q => by
        have h := done_any b ty _ t j _ (hRz.drewN q)
        rw [show ((j : Int) == (t.size : Int)) = false by rw [beq_eq_false_iff_ne]; omega] at h
        exact h
      have hcl := fun q => run1_any c.toNat c.toNat_lt g A n cp ks hn (wr.drewN q) hgz (hIz.below (below_drewN (Below.refl _ _) q))
      obtain ⟨x, hx⟩ : ∃ x, goodK ks c = x := ⟨_, rfl⟩
      have hx2 : (ks.any fun k => kindB k c.toNat) = x := hx
      simp only [hx2] at hcl
      have DN := Lib.hid hdn
      have CL := Lib.hid hcl
      have hjs' : (j : Int) < (t.size : Int) := by omega
      have hbyte : t.data.toList[j]? = some c := by
        rw [Array.getElem?_toList, ← hc]
        exact Array.getElem?_eq_getElem (show j < t.data.size from hjs)
      have HB := Lib.hid hbyte
      have HX := Lib.hid hx
      have HGR := Lib.hid hgr
      clear hdn hcl hx hx2 hgz hIz hRz hbyte hgr
      cases x with
      | true =>
        go_wp2
        go_quiet (first | (go_at_call 123; exact Calls.quiet_of (DN.out _)) | (go_at_call 158; exact Calls.quiet_of_same (same_sym (CL.out _))))
        go_wp2
        go_round
        case rel => exact ⟨j + 1, by omega, by omega, Lib.hid (fun i a b => by
          by_cases hi : i < k + (j - k)
          · exact HJ.out i a hi
          · obtain rfl : i = j := by omega
            exact ⟨c, HB.out, HX.out⟩), by have h := (HRZ.out.drewN nq).toI (j := j + 1) (z := (j : Int) + 1) (by omega) (by omega); rw [set_twice] at h; exact h, World.grownBy.trans HGR.out (grown_pos wr nq b _)⟩
        case measure =>
          have h := ((HRZ.out.drewN nq).toI (j := j + 1) (z := (j : Int) + 1) (by omega) (by omega)).pos
          rw [h, c1]
          simp [intOf]
          omega
      | false =>
        have E := Lib.hid (show runTo (goodK ks) t k = j by
          unfold runTo
          rw [run_stop (goodK ks) t.data.toList (j - k) k HJ.out (fun c' h => by
            rw [show k + (j - k) = j by omega, HB.out] at h
            injection h with h
            rw [← h]; exact HX.out)]
          omega)
        have hle : (k : Int) ≤ (j : Int) := by omega
        go_wp2
        go_quiet (first | (go_at_call 123; exact Calls.quiet_of (DN.out _)) | (go_at_call 158; exact Calls.quiet_of_same (same_sym (CL.out _))))
        go_wp2
        go_quiet (fail)
        go_wp2
        go_ret
        exact ⟨by rw [E.out]; rfl, by rw [E.out]; exact ((HRZ.out.drewN _).drewN _), grown_drewN (grown_drewN HGR.out _) _⟩
    · obtain rfl : j = t.size := by omega
      have hdn : ∀ q, Calls Tryz.prog 123 #[.pointer (some ⟨b, 0, none⟩)] (wr.drewN q) fun e w' => e = .returned (.bool true) ∧ ∃ m, w' = (wr.drewN q).drewN m := fun q => by
        have h := done_any b ty _ t t.size _ (hRz.drewN q)
        rw [show ((t.size : Int) == (t.size : Int)) = true by simp] at h
        exact h
      have DN := Lib.hid hdn
      have HGR := Lib.hid hgr
      have E := Lib.hid (show runTo (goodK ks) t k = t.size by
        unfold runTo
        rw [run_stop (goodK ks) t.data.toList (t.size - k) k HJ.out (fun c' h => by
          rw [show k + (t.size - k) = t.size by omega, List.getElem?_eq_none (by rw [size_toList]; exact Nat.le_refl _)] at h
          cases h)]
        omega)
      have hle : (k : Int) ≤ (t.size : Int) := by omega
      clear hdn hgz hIz hRz hgr
      go_wp2
      go_quiet (first | (go_at_call 123; exact Calls.quiet_of (DN.out _)))
      go_wp2
      go_quiet (fail)
      go_wp2
      go_ret
      exact ⟨by rw [E.out]; rfl, by rw [E.out]; exact ((HRZ.out.drewN _).drewN _), grown_drewN (grown_drewN HGR.out _) _⟩
theorem Rd.lt {w : World} {b : Nat} {ty : TypeId} {cs : Array Value} {t : ByteArray} {k : Nat} (h : Rd w b ty cs t k) : b < w.heap.size := h.blk.lt
theorem Rd.alloc {w : World} {b : Nat} {ty : TypeId} {cs : Array Value} {t : ByteArray} {k : Nat} (h : Rd w b ty cs t k) (o : Obj) : Rd (w.alloc o) b ty cs t k := ⟨h.blk.alloc o, h.c0, h.c1, h.le, h.sz⟩
theorem run_any (b : Nat) (ty : TypeId) (cs : Array Value) (t : ByteArray) (k : Nat) (A : Option Addr) (n cp : Nat) (ks : List Int) (hn : n ≤ 9223372036854775806) (W : World) (hR : Rd W b ty cs t k) (hI : Ints .i64 W A n ks) (hA : ∀ a, A = some a → a.block ≠ b) :
    Calls Tryz.prog 155 #[.pointer (some ⟨b, 0, none⟩), .slice A n cp] W fun e w' => e = .returned (.string (t.extract k (runTo (goodK ks) t k))) ∧ Rd w' b ty (cs.setIfInBounds 1 (.int .i64 (runTo (goodK ks) t k : Nat))) t (runTo (goodK ks) t k) ∧ W.grownBy w' (some b) := by
  have hmf : ∀ (fn : Fn) (first cap : Array Value) (w : World), (Instr.makeFunc fn first cap).run Tryz.prog w = .ok (.func fn first cap) w := fun _ _ _ _ => rfl
  have hlt := hR.lt
  have H := Lib.hid (while_any b ty cs t k W.heap.size A n cp ks hn (W.alloc (.cells #[.slice A n cp] 139)) (hR.alloc _) (by rw [(Blk.new W _ #[.slice A n cp]).cell 0]; rfl) (by omega) (hI.below ((Below.refl _ _).alloc (Nat.le_refl _) _)) hA)
  clear hR hI hA hlt
  go_enter Tryz.func155, Tryz.ntmps155
  go_wp2_with fail
  refine H.out.mono ?_
  rintro e w ⟨rfl, h1, h2⟩
  go_wp2
  go_ret
  exact ⟨rfl, h1, World.grownBy.trans (World.grownBy_alloc _ _ _) h2⟩
theorem rest_any (b : Nat) (ty : TypeId) (cs : Array Value) (t : ByteArray) (k : Nat) (W : World) (h : Rd W b ty cs t k) :
    Calls Tryz.prog 110 #[.pointer (some ⟨b, 0, none⟩)] W fun e w' => e = .returned (.string (t.extract k t.size)) ∧ ∃ q, w' = W.drewN q := by
  have c0 := h.text
  have c1 := h.pos
  have hk := h.le
  have hk' : (k : Int) ≤ (t.size : Int) := by omega
  clear h
  go_enter Tryz.func110, Tryz.ntmps110
  go_wp2
  go_quiet (fail)
  go_wp2
  go_ret
  exact ⟨rfl, _, rfl⟩
def prefB (s p : ByteArray) : Bool := decide (p.size ≤ s.size) && decide (s.extract 0 p.size = p)
theorem hasPrefix_any (s p : ByteArray) (hs : s.size ≤ 9223372036854775806) (hp : p.size ≤ 9223372036854775806) (W : World) :
    Calls Tryz.prog 109 #[.string s, .string p] W fun e w' => e = .returned (.bool (prefB s p)) ∧ W = w' := by
  by_cases h : p.size ≤ s.size
  · have e : prefB s p = ((s.extract 0 p.size).toList == p.toList) := by rw [prefB, decide_eq_true h, Bool.true_and, text_eq]
    rw [e]
    have h1 : (p.size : Int) ≤ (s.size : Int) := by omega
    go_enter Tryz.func109, Tryz.ntmps109
    go_wp2
    go_ret
    exact ⟨rfl, rfl⟩
  · have e : prefB s p = false := by rw [prefB, decide_eq_false h]; rfl
    rw [e]
    have h1 : ¬ (p.size : Int) ≤ (s.size : Int) := by omega
    go_enter Tryz.func109, Tryz.ntmps109
    go_wp2
    go_ret
    exact ⟨rfl, rfl⟩
theorem Texts.kept_by {w w' : World} {A : Option Addr} {n b : Nat} {ss : List ByteArray} (h : Texts w A n ss) (hg : w.grownBy w' (some b)) (hA : ∀ a, A = some a → a.block ≠ b) : Texts w' A n ss :=
  ⟨h.1, fun hn => by
    obtain ⟨g, off, e, hlt, hc⟩ := h.2 hn
    exact ⟨g, off, e, Nat.lt_of_lt_of_le hlt hg.size, fun j hj => cell_kept_by (hc j hj) hg (show g ≠ b from hA _ e)⟩⟩
def takeR (t : ByteArray) (k : Nat) (ss : List ByteArray) : Option ByteArray := ss.find? (fun s => prefB (t.extract k t.size) s)
def takeTo (t : ByteArray) (k : Nat) (ss : List ByteArray) : Nat := k + ((takeR t k ss).getD .empty).size
theorem takeTo_some {t : ByteArray} {k : Nat} {ss : List ByteArray} {x : ByteArray} (h : takeR t k ss = some x) : takeTo t k ss = k + x.size := by unfold takeTo; rw [h]; rfl
theorem takeTo_none {t : ByteArray} {k : Nat} {ss : List ByteArray} (h : takeR t k ss = none) : takeTo t k ss = k := by unfold takeTo; rw [h]; rfl
theorem prefB_size {s p : ByteArray} (h : prefB s p = true) : p.size ≤ s.size := by
  unfold prefB at h
  rw [Bool.and_eq_true] at h
  exact of_decide_eq_true h.1
set_option maxHeartbeats 1600000 in
theorem take_any (b : Nat) (ty : TypeId) (cs : Array Value) (t : ByteArray) (k : Nat) (A : Option Addr) (n cp : Nat) (ss : List ByteArray) (hn : n ≤ 9223372036854775806) (hss : ∀ s ∈ ss, s.size ≤ 9223372036854775806) (W : World) (hR : Rd W b ty cs t k) (hI : Texts W A n ss) (hA : ∀ a, A = some a → a.block ≠ b) :
    Calls Tryz.prog 96 #[.pointer (some ⟨b, 0, none⟩), .slice A n cp] W fun e w' => e = .returned (.tuple #[.string ((takeR t k ss).getD .empty), .bool (takeR t k ss).isSome]) ∧ Rd w' b ty (cs.setIfInBounds 1 (.int .i64 (takeTo t k ss : Nat))) t (takeTo t k ss) ∧ W.grownBy w' (some b) := by
  have hkt := hR.le
  have hsz := hR.sz
  have HR := Lib.hid hR
  have HI := Lib.hid hI
  have HA := Lib.hid hA
  have HS := Lib.hid (set_same hR.c1)
  have HZ := Lib.hid hss
  have hlen := hI.1
  clear hR hI hA hss
  go_enter Tryz.func96, Tryz.ntmps96
  go_wp2
  go_loopw [10] (fun i wr => ∃ j : Nat, j ≤ n ∧ i = .int .i64 j ∧ Hid (∀ s ∈ ss.take j, prefB (t.extract k t.size) s = false) ∧ ∃ q, wr = W.drewN q) (fun i _ => n - (intOf i).toNat)
  case atStart => exact ⟨0, Nat.zero_le _, rfl, Lib.hid (by simp), 0, rfl⟩
  case round =>
    obtain ⟨j, hj, rfl, HJ, q, rfl⟩ := hrel
    by_cases hjn : j < n
    · obtain ⟨g, off, rfl, hlt, hcell⟩ := HI.out.2 (by omega)
      have cj := hcell j hjn
      have hmem : ss.getD j .empty ∈ ss := by
        rw [List.getD_eq_getElem?_getD, List.getElem?_eq_getElem (by omega)]
        exact List.getElem_mem _
      have hsp := HZ.out _ hmem
      have hsn : ss.take (j + 1) = ss.take j ++ [ss.getD j .empty] := by
        rw [List.take_succ_eq_append_getElem (by omega), List.getD_eq_getElem?_getD, List.getElem?_eq_getElem (by omega)]
        rfl
      have hfind : prefB (t.extract k t.size) (ss.getD j .empty) = true → takeR t k ss = some (ss.getD j .empty) := fun h => by
        unfold takeR
        conv => lhs; rw [← List.take_append_drop j ss]
        rw [List.find?_append, List.find?_eq_none.2 (fun s hs => by rw [HJ.out s hs]; decide), List.drop_eq_getElem_cons (by omega)]
        have e : ss[j]'(by omega) = ss.getD j .empty := by rw [List.getD_eq_getElem?_getD, List.getElem?_eq_getElem (by omega)]; rfl
        rw [e, List.find?_cons_of_pos h]
        rfl
      obtain ⟨x, hx⟩ : ∃ x, ss.getD j .empty = x := ⟨_, rfl⟩
      rw [hx] at cj hsp hsn hfind
      have RS := Lib.hid (rest_any b ty cs t k (W.drewN q) (HR.out.drewN q))
      have hrsz : (t.extract k t.size).size = t.size - k := by rw [ByteArray.size_extract]; omega
      have HP := Lib.hid (fun w => hasPrefix_any (t.extract k t.size) x (by omega) hsp w)
      have hps := fun h => prefB_size (s := t.extract k t.size) (p := x) h
      rw [hrsz] at hps
      obtain ⟨y, hy⟩ : ∃ y, prefB (t.extract k t.size) x = y := ⟨_, rfl⟩
      rw [hy] at HP hfind hps
      have HY := Lib.hid hy
      have HSN := Lib.hid hsn
      have HF := Lib.hid hfind
      have c1 := HR.out.pos
      have f1 := HR.out.blk.frozen 1
      cases y with
      | true =>
        have hps2 := hps rfl
        have E := Lib.hid (HF.out rfl)
        have hov : (k : Int) + (x.size : Int) ≤ 9223372036854775806 := by omega
        clear hcell hx hy hsn hfind hmem hps hrsz
        go_wp2_with fail
        refine RS.out.mono ?_
        rintro e w ⟨rfl, q2, rfl⟩
        go_wp2_with fail
        refine (HP.out _).mono ?_
        rintro e w ⟨rfl, rfl⟩
        go_wp2
        go_ret2
        refine ⟨by rw [E.out]; rfl, ?_, ?_⟩
        · rw [takeTo_some E.out]
          exact (HR.out.drewN _).toI (j := k + x.size) (z := (k : Int) + (x.size : Int)) (by omega) (by omega)
        · exact grown_pos W _ b _
      | false =>
        clear hcell hx hy hsn hfind hmem hps hrsz
        go_wp2_with fail
        refine RS.out.mono ?_
        rintro e w ⟨rfl, q2, rfl⟩
        go_wp2_with fail
        refine (HP.out _).mono ?_
        rintro e w ⟨rfl, rfl⟩
        go_wp2
        go_round
        case rel => exact ⟨j + 1, by omega, by go_num, Lib.hid (by
          rw [HSN.out]
          intro s hs
          rcases List.mem_append.1 hs with h | h
          · exact HJ.out s h
          · rw [List.mem_singleton.1 h]; exact HY.out), _, rfl⟩
        case measure => simp [intOf]; omega
    · obtain rfl : j = n := by omega
      have hno : takeR t k ss = none := by
        have h := HJ.out
        rw [List.take_of_length_le (by omega)] at h
        exact List.find?_eq_none.2 (fun s hs => by rw [h s hs]; decide)
      have E := Lib.hid hno
      clear hno
      go_wp2
      go_ret2
      exact ⟨by rw [E.out]; rfl, by rw [takeTo_none E.out, HS.out]; exact HR.out.drewN q, grown_drewN (World.grownBy.refl _ _) _⟩
theorem grown_of_below {w w' : World} (h : Below w.heap.size w w') (row : Option Nat) : w.grownBy w' row := ⟨h.os, h.tape, h.output, h.size, fun k hk _ => h.block k hk⟩
theorem grown_of_drew {w w' : World} (h : Below w.drew.heap.size w.drew w') : Below w.heap.size w w' := ⟨h.os, h.tape, h.output, h.size, h.block⟩
end Go.Proofs.YtbkpoimaienhpaaGreatDoor
