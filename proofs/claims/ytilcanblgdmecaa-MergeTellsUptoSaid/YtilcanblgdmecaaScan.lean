/- A text, and how far it is read: kinds of bytes; whether all is read; the next byte; what is left.
   As many bytes of some kinds as there are.
   What is left; the first of some texts that stands next. -/
import Derived.Test.YtilcanblgdmecaaRows
import Derived.Test.YtilcanblgdmecaaMem
import Derived.Test.YtilcanblgdmecaaBase
import Derived.Deep.QuietTactic
import Derived.Deep.RegionHeld3
namespace Go.Proofs.Ytilcanblgdmecaa
open Go.RowKit
set_option linter.unusedVariables false
set_option linter.unusedSimpArgs false

def kindB (k : Int) (c : Nat) : Bool :=
  if k = 0 then decide (48 ≤ c) && decide (c ≤ 57) else
  if k = 1 then (decide (65 ≤ c) && decide (c ≤ 90)) || (decide (97 ≤ c) && decide (c ≤ 122)) else
  if k = 2 then decide (c = 95) else
  if k = 3 then decide (c = 32) || decide (c = 9) || decide (c = 10) else false

theorem ret_bool {a b : Bool} (h : a = b) : Ending.returned (.bool a) = .returned (.bool b) := by rw [h]

set_option maxHeartbeats 1600000 in
theorem isOne_any (c : Nat) (hc : c < 256) (k : Int) (W : World) :
    Calls Try.prog 68 #[.int .u8 (c : Int), .int .i64 k] W fun e w' => e = .returned (.bool (kindB k c)) ∧ W = w' := by
  by_cases h0 : k = 0
  · subst h0
    rcases (by omega : c < 48 ∨ (48 ≤ c ∧ c ≤ 57) ∨ (48 ≤ c ∧ 57 < c)) with h | ⟨h, h2⟩ | ⟨h, h2⟩
    · have e : kindB 0 c = false := by simp [kindB]; omega
      rw [e]
      go_enter Try.func68, Try.ntmps68
      go_wp2
      go_ret
      first | exact ⟨rfl, rfl⟩ | exact ⟨ret_bool (by simp; omega), rfl⟩
    · have e : kindB 0 c = true := by simp [kindB]; omega
      rw [e]
      go_enter Try.func68, Try.ntmps68
      go_wp2
      go_ret
      first | exact ⟨rfl, rfl⟩ | exact ⟨ret_bool (by simp; omega), rfl⟩
    · have e : kindB 0 c = false := by simp [kindB]; omega
      rw [e]
      go_enter Try.func68, Try.ntmps68
      go_wp2
      go_ret
      first | exact ⟨rfl, rfl⟩ | exact ⟨ret_bool (by simp; omega), rfl⟩
  · have g0 : (k == 0) = false := by rw [beq_eq_false_iff_ne]; exact h0
    by_cases h1 : k = 1
    · subst h1
      rcases (by omega : c < 65 ∨ (65 ≤ c ∧ c ≤ 90) ∨ (65 ≤ c ∧ 90 < c ∧ c < 97) ∨ (65 ≤ c ∧ 90 < c ∧ 97 ≤ c ∧ c ≤ 122) ∨ (65 ≤ c ∧ 90 < c ∧ 97 ≤ c ∧ 122 < c)) with h | ⟨h, h2⟩ | ⟨h, h2, h3⟩ | ⟨h, h2, h3, h4⟩ | ⟨h, h2, h3, h4⟩
      · have h5 : c < 97 := by omega
        have e : kindB 1 c = false := by simp [kindB]; omega
        rw [e]
        go_enter Try.func68, Try.ntmps68
        go_wp2
        go_ret
        first | exact ⟨rfl, rfl⟩ | exact ⟨ret_bool (by simp; omega), rfl⟩
      · have e : kindB 1 c = true := by simp [kindB]; omega
        rw [e]
        go_enter Try.func68, Try.ntmps68
        go_wp2
        go_ret
        first | exact ⟨rfl, rfl⟩ | exact ⟨ret_bool (by simp; omega), rfl⟩
      · have e : kindB 1 c = false := by simp [kindB]; omega
        rw [e]
        go_enter Try.func68, Try.ntmps68
        go_wp2
        go_ret
        first | exact ⟨rfl, rfl⟩ | exact ⟨ret_bool (by simp; omega), rfl⟩
      · have e : kindB 1 c = true := by simp [kindB]; omega
        rw [e]
        go_enter Try.func68, Try.ntmps68
        go_wp2
        go_ret
        first | exact ⟨rfl, rfl⟩ | exact ⟨ret_bool (by simp; omega), rfl⟩
      · have e : kindB 1 c = false := by simp [kindB]; omega
        rw [e]
        go_enter Try.func68, Try.ntmps68
        go_wp2
        go_ret
        first | exact ⟨rfl, rfl⟩ | exact ⟨ret_bool (by simp; omega), rfl⟩
    · have g1 : (k == 1) = false := by rw [beq_eq_false_iff_ne]; exact h1
      by_cases h2 : k = 2
      · subst h2
        have e : kindB 2 c = ((c : Int) == 95) := by
          rw [Bool.eq_iff_iff, beq_iff_eq]
          simp [kindB]
          omega
        rw [e]
        go_enter Try.func68, Try.ntmps68
        go_wp2
        go_ret
        first | exact ⟨rfl, rfl⟩ | exact ⟨ret_bool (by simp; omega), rfl⟩
      · have g2 : (k == 2) = false := by rw [beq_eq_false_iff_ne]; exact h2
        by_cases h3 : k = 3
        · subst h3
          rcases (by omega : c = 32 ∨ (c ≠ 32 ∧ c = 9) ∨ (c ≠ 32 ∧ c ≠ 9 ∧ c = 10) ∨ (c ≠ 32 ∧ c ≠ 9 ∧ c ≠ 10)) with rfl | ⟨h, rfl⟩ | ⟨h, h4, rfl⟩ | ⟨h, h4, h5⟩
          · have e : kindB 3 32 = true := rfl
            rw [e]
            go_enter Try.func68, Try.ntmps68
            go_wp2
            go_ret
            first | exact ⟨rfl, rfl⟩ | exact ⟨ret_bool (by simp; omega), rfl⟩
          · have e : kindB 3 9 = true := rfl
            rw [e]
            go_enter Try.func68, Try.ntmps68
            go_wp2
            go_ret
            first | exact ⟨rfl, rfl⟩ | exact ⟨ret_bool (by simp; omega), rfl⟩
          · have e : kindB 3 10 = true := rfl
            rw [e]
            go_enter Try.func68, Try.ntmps68
            go_wp2
            go_ret
            first | exact ⟨rfl, rfl⟩ | exact ⟨ret_bool (by simp; omega), rfl⟩
          · have e : kindB 3 c = false := by simp [kindB]; omega
            have k1 : ((c : Int) == 32) = false := by rw [beq_eq_false_iff_ne]; omega
            have k2 : ((c : Int) == 9) = false := by rw [beq_eq_false_iff_ne]; omega
            have k3 : ((c : Int) == 10) = false := by rw [beq_eq_false_iff_ne]; omega
            rw [e]
            clear h h4 h5
            go_enter Try.func68, Try.ntmps68
            go_wp2
            go_ret
            first | exact ⟨rfl, rfl⟩ | exact ⟨ret_bool (by simp; omega), rfl⟩
        · have g3 : (k == 3) = false := by rw [beq_eq_false_iff_ne]; exact h3
          have e : kindB k c = false := by simp [kindB, h0, h1, h2, h3]
          rw [e]
          clear h0 h1 h2 h3
          go_enter Try.func68, Try.ntmps68
          go_wp2
          go_ret
          first | exact ⟨rfl, rfl⟩ | exact ⟨ret_bool (by simp; omega), rfl⟩

set_option maxHeartbeats 800000 in
theorem is_any (c : Nat) (hc : c < 256) (A : Option Addr) (n cp : Nat) (ks : List Int) (hn : n ≤ 9223372036854775806) (W : World) (h : Ints .i64 W A n ks) :
    Calls Try.prog 64 #[.int .u8 (c : Int), .slice A n cp] W fun e w' => e = .returned (.bool (ks.any fun k => kindB k c)) ∧ W = w' := by
  obtain ⟨hl, hw, hA⟩ := h
  have HL := Lib.hid hl
  have HA := Lib.hid hA
  clear hl hw hA
  go_enter Try.func64, Try.ntmps64
  go_wp2
  go_loop [9] (fun i => ∃ (j : Nat), j ≤ n ∧ i = .int .i64 j ∧ Hid ((ks.take j).any (fun k => kindB k c) = false)) (fun i => n - (intOf i).toNat)
  case atStart => exact ⟨0, Nat.zero_le _, rfl, Lib.hid rfl⟩
  case round =>
    obtain ⟨j, hj, rfl, HJ⟩ := hrel
    by_cases hjn : j < n
    · obtain ⟨b, off, rfl, hlt, hcs⟩ := HA.out (by omega)
      have c0 := hcs j hjn
      have hsn : (ks.take (j + 1)).any (fun k => kindB k c) = kindB (ks.getD j 0) c := by
        rw [List.take_succ_eq_append_getElem (by rw [HL.out]; exact hjn), List.any_append, HJ.out, List.getD_eq_getElem?_getD, List.getElem?_eq_getElem (by rw [HL.out]; exact hjn)]
        simp
      have hmem : kindB (ks.getD j 0) c = true → ks.any (fun k => kindB k c) = true := fun h => by
        rw [List.any_eq_true]
        refine ⟨ks.getD j 0, ?_, h⟩
        rw [List.getD_eq_getElem?_getD, List.getElem?_eq_getElem (by rw [HL.out]; exact hjn)]
        exact List.getElem_mem _
      obtain ⟨z, hz⟩ : ∃ z, ks.getD j 0 = z := ⟨_, rfl⟩
      rw [hz] at c0 hsn hmem
      have HC := Lib.hid (fun w => isOne_any c hc z w)
      obtain ⟨x, hx⟩ : ∃ x, kindB z c = x := ⟨_, rfl⟩
      rw [hx] at HC hsn hmem
      have HSN := Lib.hid hsn
      have HM := Lib.hid hmem
      clear hcs hz hx hsn hmem
      cases x with
      | true =>
        have E := Lib.hid (HM.out rfl)
        go_wp2_with fail
        refine (HC.out _).mono ?_
        rintro e w ⟨rfl, rfl⟩
        go_wp2
        go_ret
        exact ⟨ret_bool E.out.symm, rfl⟩
      | false =>
        go_wp2_with fail
        refine (HC.out _).mono ?_
        rintro e w ⟨rfl, rfl⟩
        go_wp2
        go_round
        case rel => exact ⟨j + 1, by omega, by go_num, HSN⟩
        case measure => simp [intOf]; omega
    · obtain rfl : j = n := by omega
      have hs := HJ.out
      rw [List.take_of_length_le (by rw [HL.out]; exact Nat.le_refl _)] at hs
      have E := Lib.hid hs
      clear hs
      go_wp2
      go_ret
      exact ⟨ret_bool E.out.symm, rfl⟩

/-- a reader: its block, its text, how far it is read -/
structure Rd (w : World) (b : Nat) (ty : TypeId) (cs : Array Value) (t : ByteArray) (k : Nat) : Prop where
  blk : Blk w b ty cs
  c0 : cs[0]? = some (.string t)
  c1 : cs[1]? = some (.int .i64 (k : Int))
  le : k ≤ t.size
  sz : t.size ≤ 9223372036854775806
section
variable {w w' : World} {b : Nat} {ty : TypeId} {cs : Array Value} {t : ByteArray} {k : Nat}
theorem Rd.text (h : Rd w b ty cs t k) : w.cell? ⟨b, 0, none⟩ = some (.string t) := (h.blk.cell 0).trans h.c0
theorem Rd.pos (h : Rd w b ty cs t k) : w.cell? ⟨b, 1, none⟩ = some (.int .i64 (k : Int)) := (h.blk.cell 1).trans h.c1
theorem Rd.below {B : Nat} (h : Rd w b ty cs t k) (hb : Below B w w') (hB : b < B) : Rd w' b ty cs t k := ⟨h.blk.below hb hB, h.c0, h.c1, h.le, h.sz⟩
theorem Rd.drewN (h : Rd w b ty cs t k) (q : Nat) : Rd (w.drewN q) b ty cs t k := ⟨h.blk.drewN q, h.c0, h.c1, h.le, h.sz⟩
theorem Rd.to (h : Rd w b ty cs t k) {j : Nat} (hj : j ≤ t.size) : Rd (w.setCell ⟨b, 1, none⟩ (.int .i64 (j : Int))) b ty (cs.setIfInBounds 1 (.int .i64 (j : Int))) t j := by
  have hs : 1 < cs.size := by
    rcases Nat.lt_or_ge 1 cs.size with h1 | h1
    · exact h1
    · have := h.c1; rw [Array.getElem?_eq_none h1] at this; cases this
  refine ⟨h.blk.set_ 1 _, ?_, ?_, hj, h.sz⟩
  · rw [Array.getElem?_setIfInBounds_ne (by decide)]; exact h.c0
  · rw [Array.getElem?_setIfInBounds_self_of_lt hs]
end

end Go.Proofs.Ytilcanblgdmecaa
namespace Go.Proofs.Ytilcanblgdmecaa
open Go.RowKit
set_option linter.unusedVariables false
set_option linter.unusedSimpArgs false

theorem set_same {cs : Array Value} {v : Value} (h : cs[1]? = some v) : cs.setIfInBounds 1 v = cs := by
  apply Array.ext_getElem?
  intro i
  by_cases hi : i = 1
  · subst hi
    rw [h, Array.getElem?_setIfInBounds_self_of_lt]
    rcases Nat.lt_or_ge 1 cs.size with h1 | h1
    · exact h1
    · rw [Array.getElem?_eq_none h1] at h; cases h
  · rw [Array.getElem?_setIfInBounds_ne (Ne.symm hi)]
theorem set_twice (cs : Array Value) (u v : Value) : (cs.setIfInBounds 1 u).setIfInBounds 1 v = cs.setIfInBounds 1 v := by
  apply Array.ext_getElem?
  intro i
  by_cases hi : i = 1
  · subst hi
    rcases Nat.lt_or_ge 1 cs.size with h1 | h1
    · rw [Array.getElem?_setIfInBounds_self_of_lt (by simpa using h1), Array.getElem?_setIfInBounds_self_of_lt h1]
    · rw [Array.getElem?_eq_none (by simpa using h1), Array.getElem?_eq_none (by simpa using h1)]
  · rw [Array.getElem?_setIfInBounds_ne (Ne.symm hi), Array.getElem?_setIfInBounds_ne (Ne.symm hi), Array.getElem?_setIfInBounds_ne (Ne.symm hi)]
def goodK (ks : List Int) (c : UInt8) : Bool := ks.any fun k => kindB k c.toNat
/-- how far a run of good bytes goes -/
def runTo (p : UInt8 → Bool) (t : ByteArray) (k : Nat) : Nat := k + ((t.data.toList.drop k).takeWhile p).length
theorem run_stop (p : UInt8 → Bool) (l : List UInt8) : ∀ (d k : Nat), (∀ i, k ≤ i → i < k + d → ∃ c, l[i]? = some c ∧ p c = true) → (∀ c, l[k + d]? = some c → p c = false) → ((l.drop k).takeWhile p).length = d := by
  intro d
  induction d with
  | zero =>
    intro k _ h2
    cases hl : l.drop k with
    | nil => rfl
    | cons c r =>
      have : l[k + 0]? = some c := by
        have := congrArg (·[0]?) hl
        simpa [List.getElem?_drop] using this
      rw [List.takeWhile_cons_of_neg (by rw [h2 c this]; decide)]
      rfl
  | succ d ih =>
    intro k h1 h2
    obtain ⟨c, hc, hp⟩ := h1 k (Nat.le_refl _) (by omega)
    have hlt : k < l.length := by
      rcases Nat.lt_or_ge k l.length with h | h
      · exact h
      · rw [List.getElem?_eq_none h] at hc; cases hc
    have hcc : l[k] = c := by rw [List.getElem?_eq_getElem hlt] at hc; injection hc
    rw [List.drop_eq_getElem_cons hlt, hcc, List.takeWhile_cons_of_pos hp, List.length_cons, ih (k + 1) (fun i a b => h1 i (by omega) (by omega)) (fun c h => h2 c (by rw [← h]; congr 1; omega))]
theorem runTo_le (p : UInt8 → Bool) (t : ByteArray) (k : Nat) (hk : k ≤ t.size) : runTo p t k ≤ t.size := by
  unfold runTo
  have h := (List.takeWhile_sublist p (l := t.data.toList.drop k)).length_le
  rw [List.length_drop, size_toList] at h
  omega
theorem cell_kept_by {w w' : World} {b : Nat} {p : Addr} {v : Value} (h : w.cell? p = some v) (hg : w.grownBy w' (some b)) (hp : p.block ≠ b) : w'.cell? p = some v := by
  have hlt : p.block < w.heap.size := block_lt_of_cell h
  rw [World.cell?_of_block (w := w) (hg.block p.block hlt (fun e => hp (Option.some.inj e)))]
  exact h
theorem Ints.kept_by {k : IntKind} {w w' : World} {A : Option Addr} {n b : Nat} {zs : List Int} (h : Ints k w A n zs) (hg : w.grownBy w' (some b)) (hA : ∀ a, A = some a → a.block ≠ b) : Ints k w' A n zs :=
  ⟨h.1, h.2.1, fun hn => by
    obtain ⟨g, off, e, hlt, hc⟩ := h.2.2 hn
    refine ⟨g, off, e, Nat.lt_of_lt_of_le hlt hg.size, fun j hj => cell_kept_by (hc j hj) hg (show g ≠ b from hA _ e)⟩⟩

theorem Rd.toI {w : World} {b : Nat} {ty : TypeId} {cs : Array Value} {t : ByteArray} {k : Nat} (h : Rd w b ty cs t k) {j : Nat} {z : Int} (hz : z = (j : Nat)) (hj : j ≤ t.size) : Rd (w.setCell ⟨b, 1, none⟩ (.int .i64 z)) b ty (cs.setIfInBounds 1 (.int .i64 (j : Nat))) t j := by
  subst hz
  exact h.to hj
theorem grown_pos (w : World) (q b : Nat) (v : Value) : w.grownBy ((w.drewN q).setCell ⟨b, 1, none⟩ v) (some b) :=
  ⟨rfl, rfl, rfl, by simp, fun k hk hne => Below.heap_setCell (w.drewN q) ⟨b, 1, none⟩ v k (fun e => hne (by rw [e]))⟩
theorem grown_drewN {a w : World} {row : Option Nat} (h : a.grownBy w row) (q : Nat) : a.grownBy (w.drewN q) row := ⟨h.os, h.tape, h.output, h.size, h.block⟩

theorem Rd.lt {w : World} {b : Nat} {ty : TypeId} {cs : Array Value} {t : ByteArray} {k : Nat} (h : Rd w b ty cs t k) : b < w.heap.size := h.blk.lt
theorem Rd.alloc {w : World} {b : Nat} {ty : TypeId} {cs : Array Value} {t : ByteArray} {k : Nat} (h : Rd w b ty cs t k) (o : Obj) : Rd (w.alloc o) b ty cs t k := ⟨h.blk.alloc o, h.c0, h.c1, h.le, h.sz⟩
end Go.Proofs.Ytilcanblgdmecaa
namespace Go.Proofs.Ytilcanblgdmecaa
open Go.RowKit
set_option linter.unusedVariables false
set_option linter.unusedSimpArgs false

/-- p begins the text s -/
def prefB (s p : ByteArray) : Bool := decide (p.size ≤ s.size) && decide (s.extract 0 p.size = p)
theorem Texts.kept_by {w w' : World} {A : Option Addr} {n b : Nat} {ss : List ByteArray} (h : Texts w A n ss) (hg : w.grownBy w' (some b)) (hA : ∀ a, A = some a → a.block ≠ b) : Texts w' A n ss :=
  ⟨h.1, fun hn => by
    obtain ⟨g, off, e, hlt, hc⟩ := h.2 hn
    exact ⟨g, off, e, Nat.lt_of_lt_of_le hlt hg.size, fun j hj => cell_kept_by (hc j hj) hg (show g ≠ b from hA _ e)⟩⟩
/-- the first of ss that stands at k -/
def takeR (t : ByteArray) (k : Nat) (ss : List ByteArray) : Option ByteArray := ss.find? (fun s => prefB (t.extract k t.size) s)
def takeTo (t : ByteArray) (k : Nat) (ss : List ByteArray) : Nat := k + ((takeR t k ss).getD .empty).size
theorem takeTo_some {t : ByteArray} {k : Nat} {ss : List ByteArray} {x : ByteArray} (h : takeR t k ss = some x) : takeTo t k ss = k + x.size := by unfold takeTo; rw [h]; rfl
theorem takeTo_none {t : ByteArray} {k : Nat} {ss : List ByteArray} (h : takeR t k ss = none) : takeTo t k ss = k := by unfold takeTo; rw [h]; rfl
theorem prefB_size {s p : ByteArray} (h : prefB s p = true) : p.size ≤ s.size := by
  unfold prefB at h
  rw [Bool.and_eq_true] at h
  exact of_decide_eq_true h.1

theorem grown_of_below {w w' : World} (h : Below w.heap.size w w') (row : Option Nat) : w.grownBy w' row := ⟨h.os, h.tape, h.output, h.size, fun k hk _ => h.block k hk⟩
theorem grown_of_drew {w w' : World} (h : Below w.drew.heap.size w.drew w') : Below w.heap.size w w' := ⟨h.os, h.tape, h.output, h.size, h.block⟩
end Go.Proofs.Ytilcanblgdmecaa
