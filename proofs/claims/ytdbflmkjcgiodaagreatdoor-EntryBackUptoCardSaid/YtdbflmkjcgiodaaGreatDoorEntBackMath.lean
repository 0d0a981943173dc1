/- An entry whose parts are not many: it can be put; what it is put as is read again, or cut is none. -/
import Derived.Test.YtdbflmkjcgiodaaGreatDoorEntFew
namespace Go.Proofs.YtdbflmkjcgiodaaGreatDoor
open Go.RowKit
set_option linter.unusedVariables false
set_option linter.unusedSimpArgs false

structure PutE (e : EntB) : Prop where
  lo : -9223372036854775808 ≤ e.ts
  hi : e.ts ≤ 9223372036854775807
  len : e.ls.length ≤ 1048576
  set : ∀ p ∈ e.ls, p.1.size ≤ 1048576 ∧ p.2.size ≤ 1048576
  join : (joinB ⟨#[44]⟩ (e.ls.map partT)).length ≤ 700000000
  line : e.ln.size ≤ 4000000
  size : (entT e).size ≤ 9000000
theorem FewE.put {e : EntB} (h : FewE e) : PutE e := ⟨h.lo, h.hi, by have := h.len; omega, h.set, h.join, h.line, by have := h.size; omega⟩
theorem sum_bulk (ps : List PairB) : bulkP ps + 2 * ps.length ≤ sumN (ps.map fun p => p.1.size + p.2.size + 3) := by
  induction ps with
  | nil => exact Nat.le_refl _
  | cons p ps ih =>
    rw [bulkP, List.map_cons, sumN, List.length_cons]
    omega
theorem item_put {B : Nat} {w : World} {x : ItemX} (h : GoodI B w x) (hk : itemK x ≤ 1048576) : PutE (itemB x) := by
  cases ho : x.own with
  | true =>
    have e : itemB x = itemB (ownI x) := by unfold itemB ownI; rw [ho]
    rw [e]
    exact (own_few h).put
  | false =>
    have e : itemB x = x.e.b := by unfold itemB; rw [ho]; rfl
    rw [e]
    have hb := sum_bulk x.e.ls
    have h1 : x.e.ln.size + sumN (x.e.ls.map fun p => p.1.size + p.2.size + 3) ≤ 1048576 := by
      unfold itemK entK at hk
      omega
    have ht := text_size x.e.ls
    have hj := textT_join x.e.ls
    have hp := putS_size x.e.ln
    have hi := itoaS_size x.e.ts h.ent.lo h.ent.hi
    refine ⟨h.ent.lo, h.ent.hi, by show x.e.ls.length ≤ _; omega, fun p hp => ?_, by show (joinB ⟨#[44]⟩ (x.e.ls.map partT)).length ≤ _; omega, by show x.e.ln.size ≤ _; omega, ?_⟩
    · have := sumN_mem (List.mem_map.2 ⟨p, hp, rfl⟩ : _ ∈ x.e.ls.map fun p => p.1.size + p.2.size + 3)
      omega
    · unfold entT
      rw [ByteArray.size_append, ByteArray.size_append]
      show (itoaS x.e.ts).size + (textT x.e.ls).size + (putS x.e.ln).size ≤ _
      omega
theorem put_ent (a : EntX) (w : World) {B1 : Nat} (ha : Good B1 w a) (hf : PutE a.b) (hl : LibIs w) :
    Calls Tryz.prog 21 #[.agg #[.int .i64 a.ts, .slice a.A a.n a.c, .string a.ln]] w fun e w' => e = .returned (.string (entT a.b)) ∧ Below w.heap.size w w' :=
  entPut_any a.ts a.A a.n a.c a.ls a.ln (by have h1 : a.ls.length = a.n := ha.set.1.1; have h2 : a.ls.length ≤ 1048576 := hf.len; omega) hf.join hf.set hf.line hf.lo hf.hi w ha.set.1 hl
/-- what is read of what was put, with something behind; of what is cut -/
theorem back_some (e : EntB) (be : ByteArray) (h : PutE e) : ∃ (o : Option (EntB × Nat)) (n : Nat) (ok : Bool), entP (entT e ++ be) = o ∧ (o.map (·.2)).getD 0 = n ∧ o.isSome = ok ∧ (rightE e = true → n = (entT e).size ∧ ok = true ∧ entOf o = e) := by
  refine ⟨_, _, _, rfl, rfl, rfl, fun hr => ?_⟩
  rw [entP_text (entT e ++ be) e be.data.toList h.lo h.hi hr (by rw [text_joined, entT_list]), entT_size]
  exact ⟨rfl, rfl, rfl⟩
theorem back_less (e : EntB) (k : Nat) (h : PutE e) (hk : k < (entT e).size) : ∃ (o : Option (EntB × Nat)) (n : Nat) (ok : Bool), entP ((entT e).extract 0 k) = o ∧ (o.map (·.2)).getD 0 = n ∧ o.isSome = ok ∧ (rightE e = true → ok = false) := by
  refine ⟨_, _, _, rfl, rfl, rfl, fun hr => ?_⟩
  rw [entP_short _ e k h.lo h.hi hr (by rw [← entT_size]; exact hk) (by rw [mid_list, List.drop_zero, entT_list])]
  rfl
theorem parse_as (t : ByteArray) (o : Option (EntB × Nat)) (n : Nat) (ok : Bool) (ht : t.size ≤ 16000000) (h1 : entP t = o) (h2 : (o.map (·.2)).getD 0 = n) (h3 : o.isSome = ok) (w : World) (hl : LibIs w) :
    Calls Tryz.prog 27 #[.string t] w fun e w' => ∃ x : EntX, e = .returned (.tuple #[.agg #[.int .i64 x.ts, .slice x.A x.n x.c, .string x.ln], .int .i64 (n : Int), .bool ok]) ∧ x.b = entOf o ∧ Good 0 w' x ∧ Below w.heap.size w w' := by
  refine (entParse_any t ht w hl).mono ?_
  rintro e w' ⟨x, rfl, hx, gx, hb⟩
  refine ⟨x, ?_, by rw [hx, h1], gx, hb⟩
  rw [h1]
  unfold entV
  rw [h2, h3]
  rfl
end Go.Proofs.YtdbflmkjcgiodaaGreatDoor
