/- Entries: what they are, how they stand, whether they are the same, or right. -/
import Derived.Test.YtdbflmkjcgiodaaGreatDoorLabRight
import Derived.Test.YtdbflmkjcgiodaaGreatDoorLabParse
namespace Go.Proofs.YtdbflmkjcgiodaaGreatDoor
open Go.RowKit
set_option linter.unusedVariables false
set_option linter.unusedSimpArgs false

structure EntB where
  ts : Int
  ls : List PairB
  ln : ByteArray
def cmpZ (a b : Int) : Int := if a < b then -1 else if b < a then 1 else 0
def entC (a b : EntB) : Int := if cmpZ a.ts b.ts = 0 then (if orderL a.ls b.ls = 0 then txtC a.ln b.ln else orderL a.ls b.ls) else cmpZ a.ts b.ts
theorem cmpZ_vals (a b : Int) : cmpZ a b = -1 ∨ cmpZ a b = 0 ∨ cmpZ a b = 1 := by
  unfold cmpZ
  split
  · exact .inl rfl
  · split
    · exact .inr (.inr rfl)
    · exact .inr (.inl rfl)
theorem cmpZ_lt {a b : Int} : cmpZ a b < 0 ↔ a < b := by
  unfold cmpZ
  split
  · constructor <;> intro _ <;> omega
  · split
    · constructor <;> intro _ <;> omega
    · constructor <;> intro _ <;> omega
theorem cmpZ_ord : Ord3 cmpZ := by
  refine ⟨fun a b => ?_, fun a b h => ?_, fun a b c h1 h2 => ?_⟩
  · unfold cmpZ; repeat' split <;> omega
  · unfold cmpZ at h
    split at h
    · omega
    · split at h <;> omega
  · unfold cmpZ at h1 h2 ⊢
    repeat' split at h1 <;> try omega
    all_goals repeat' split at h2 <;> try omega
    all_goals repeat' split <;> try omega
theorem entC_vals (a b : EntB) : entC a b = -1 ∨ entC a b = 0 ∨ entC a b = 1 := by
  unfold entC
  split
  · split
    · exact txtC_vals _ _
    · exact orderL_vals _ _
  · exact cmpZ_vals _ _
/-- of two orders the one behind the other -/
theorem Ord3.both {α β γ : Type} {f : α → α → Int} {g : β → β → Int} (hf : Ord3 f) (hg : Ord3 g) (p : γ → α) (q : γ → β) (hpq : ∀ x y, p x = p y → q x = q y → x = y) :
    Ord3 (fun x y : γ => if f (p x) (p y) = 0 then g (q x) (q y) else f (p x) (p y)) := by
  refine ⟨fun x y => ?_, fun x y h => ?_, fun x y z h1 h2 => ?_⟩
  · have h := hf.anti (p x) (p y)
    have k := hg.anti (q x) (q y)
    by_cases h0 : f (p x) (p y) = 0
    · rw [if_pos h0, if_pos (by omega)]; exact k
    · rw [if_neg h0, if_neg (by omega)]; exact h
  · by_cases h0 : f (p x) (p y) = 0
    · rw [if_pos h0] at h
      exact hpq x y (hf.zero _ _ h0) (hg.zero _ _ h)
    · rw [if_neg h0] at h; omega
  · by_cases h0 : f (p x) (p y) = 0
    · rw [if_pos h0] at h1
      have e := hf.zero _ _ h0
      by_cases h3 : f (p y) (p z) = 0
      · rw [if_pos h3] at h2
        rw [e, if_pos h3]
        exact hg.trans _ _ _ h1 h2
      · rw [if_neg h3] at h2
        rw [e, if_neg h3]
        exact h2
    · rw [if_neg h0] at h1
      by_cases h3 : f (p y) (p z) = 0
      · have e := hf.zero _ _ h3
        rw [← e, if_neg h0]
        exact h1
      · rw [if_neg h3] at h2
        have := hf.less (a := p x) (b := p y) (c := p z) (by omega) h2
        rw [if_neg (by omega)]
        omega
theorem entC_ord : Ord3 entC := by
  have h1 : Ord3 (fun x y : List PairB × ByteArray => if orderL x.1 y.1 = 0 then txtC x.2 y.2 else orderL x.1 y.1) := orderL_ord.both txtC_ord (fun x : List PairB × ByteArray => x.1) (fun x : List PairB × ByteArray => x.2) (fun x y h1 h2 => Prod.ext h1 h2)
  have h2 : Ord3 (fun x y : EntB => if cmpZ x.ts y.ts = 0 then (if orderL x.ls y.ls = 0 then txtC x.ln y.ln else orderL x.ls y.ls) else cmpZ x.ts y.ts) :=
    cmpZ_ord.both h1 (fun x : EntB => x.ts) (fun x : EntB => (x.ls, x.ln)) (fun x y h1 h2 => by
      obtain ⟨a, b, c⟩ := x
      obtain ⟨a', b', c'⟩ := y
      obtain rfl : a = a' := h1
      injection h2 with h2 h3
      obtain rfl : b = b' := h2
      obtain rfl : c = c' := h3
      rfl)
  exact h2
theorem entC_zero {a b : EntB} : entC a b = 0 ↔ a = b := ⟨entC_ord.zero a b, fun h => by rw [h]; exact entC_ord.refl b⟩
def aheadB (a b : EntB) (asc : Bool) : Bool := if asc then decide (entC a b < 0) else decide (0 < entC a b)
def rightE (e : EntB) : Bool := rightB e.ls && decide (e.ln.size ≤ 256)

set_option maxHeartbeats 800000 in
theorem isNaN_any (a : Int) (W : World) : Calls Tryz.prog 61 #[.int .i64 a] W fun e w' => e = .returned (.bool false) ∧ w' = W := by
  go_enter Tryz.func61, Tryz.ntmps61
  go_wp2
  go_ret
  exact ⟨by first | rfl | (simp; done), rfl⟩

set_option maxHeartbeats 800000 in
theorem compare64_any (a b : Int) (W : World) : Calls Tryz.prog 35 #[.int .i64 a, .int .i64 b] W fun e w' => e = .returned (.int .i64 (cmpZ a b)) ∧ w' = W := by
  have N1 := Lib.hid (fun w => isNaN_any a w)
  have N2 := Lib.hid (fun w => isNaN_any b w)
  by_cases h1 : a < b
  · have E := Lib.hid (show (-1 : Int) = cmpZ a b by unfold cmpZ; rw [if_pos h1])
    go_enter Tryz.func35, Tryz.ntmps35
    go_wp2_with fail
    refine (N1.out _).mono ?_
    rintro e w ⟨rfl, rfl⟩
    go_wp2_with fail
    refine (N2.out _).mono ?_
    rintro e w ⟨rfl, rfl⟩
    go_wp2
    go_ret
    exact ⟨ret_int E.out, rfl⟩
  · by_cases h2 : b < a
    · have E := Lib.hid (show (1 : Int) = cmpZ a b by unfold cmpZ; rw [if_neg h1, if_pos h2])
      go_enter Tryz.func35, Tryz.ntmps35
      go_wp2_with fail
      refine (N1.out _).mono ?_
      rintro e w ⟨rfl, rfl⟩
      go_wp2_with fail
      refine (N2.out _).mono ?_
      rintro e w ⟨rfl, rfl⟩
      go_wp2
      go_ret
      exact ⟨ret_int E.out, rfl⟩
    · have E := Lib.hid (show (0 : Int) = cmpZ a b by unfold cmpZ; rw [if_neg h1, if_neg h2])
      go_enter Tryz.func35, Tryz.ntmps35
      go_wp2_with fail
      refine (N1.out _).mono ?_
      rintro e w ⟨rfl, rfl⟩
      go_wp2_with fail
      refine (N2.out _).mono ?_
      rintro e w ⟨rfl, rfl⟩
      go_wp2
      go_ret
      exact ⟨ret_int E.out, rfl⟩

def firstNZ : List Int → Int
  | [] => 0
  | x :: l => if x = 0 then firstNZ l else x
set_option maxHeartbeats 800000 in
theorem orN_any (zs : List Int) (n : Nat) (A : Option Addr) (cp : Nat) (hn : n ≤ 1000) (W : World) (h : Ints .i64 W A n zs) :
    Calls Tryz.prog 34 #[.slice A n cp] W fun e w' => e = .returned (.int .i64 (firstNZ zs)) ∧ W = w' := by
  obtain ⟨T, hT⟩ : ∃ T, firstNZ zs = T := ⟨_, rfl⟩
  rw [hT]
  have HT := Lib.hid (show firstNZ (zs.drop 0) = T from hT)
  have HL := Lib.hid h.1
  have HI := Lib.hid h
  clear h hT
  go_enter Tryz.func34, Tryz.ntmps34
  go_wp2
  go_loop [8] (fun i => ∃ j : Nat, 0 ≤ j ∧ j ≤ n ∧ i = .int .i64 j ∧ Hid (firstNZ (zs.drop j) = T)) (fun i => n - (intOf i).toNat)
  case atStart => exact ⟨0, Nat.zero_le _, Nat.zero_le _, rfl, HT⟩
  case round =>
    obtain ⟨j, _, hj, rfl, H1⟩ := hrel
    by_cases hj2 : j < n
    · obtain ⟨b, off, rfl, hlt, hc⟩ := HI.out.2.2 (by omega)
      have c := hc j hj2
      have hd : zs.drop j = zs.getD j 0 :: zs.drop (j + 1) := by
        have := HL.out
        rw [List.drop_eq_getElem_cons (by omega), List.getD_eq_getElem?_getD, List.getElem?_eq_getElem (by omega)]
        rfl
      have hs := H1.out
      rw [hd, firstNZ] at hs
      obtain ⟨z, hz⟩ : ∃ z, zs.getD j 0 = z := ⟨_, rfl⟩
      rw [hz] at c hs
      have hjI : (j : Int) < (n : Int) := by omega
      by_cases z0 : z = 0
      · rw [if_pos z0] at hs
        have HN := Lib.hid hs
        subst z0
        clear hz hc hd hs
        go_wp2
        go_round
        case rel => exact ⟨j + 1, Nat.zero_le _, by omega, by go_num, HN⟩
        case measure => simp [intOf]; omega
      · rw [if_neg z0] at hs
        have E := Lib.hid hs
        clear hz hc hd hs
        go_wp2
        go_ret
        exact ⟨ret_int E.out, rfl⟩
    · obtain rfl : j = n := by omega
      have E := Lib.hid (show (0 : Int) = T by
        have := H1.out
        rw [List.drop_of_length_le (by rw [HL.out]; exact Nat.le_refl _)] at this
        exact this)
      go_wp2
      go_ret
      exact ⟨ret_int E.out, rfl⟩
end Go.Proofs.YtdbflmkjcgiodaaGreatDoor
