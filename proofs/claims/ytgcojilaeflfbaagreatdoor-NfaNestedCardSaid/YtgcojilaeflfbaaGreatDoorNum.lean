/- What a product that wraps divides to. No program.
   The program's sums, differences, products and least ones.
   The program's products and least ones. -/
import Derived.Test.YtgcojilaeflfbaaGreatDoorRows
import Derived.Test.YtgcojilaeflfbaaGreatDoorMem
import Derived.Test.YtgcojilaeflfbaaGreatDoorBase
import Derived.RowKit
import Derived.WalkLawsBesides
namespace Go.Proofs.YtgcojilaeflfbaaGreatDoor
open Go.RowKit
set_option linter.unusedVariables false
set_option linter.unusedSimpArgs false

def InR (x : Int) : Prop := -9223372036854775808 ≤ x ∧ x ≤ 9223372036854775807
theorem wrap_in (x : Int) (h : InR x) : wrap64 x = x := by unfold wrap64; unfold InR at h; omega
theorem wrap_range (x : Int) : InR (wrap64 x) := by unfold wrap64 InR; omega
theorem wrap_mod (x : Int) : ∃ k : Int, wrap64 x = x + k * 18446744073709551616 := ⟨-((x + 9223372036854775808) / 18446744073709551616), by unfold wrap64; omega⟩
theorem tmod_less (w b : Int) (hb : b ≠ 0) (hR : InR b) : -9223372036854775808 < w.tmod b ∧ w.tmod b < 9223372036854775808 := by
  have h1 : (w.tmod b).natAbs < b.natAbs := by
    rw [Int.natAbs_tmod]
    exact Nat.mod_lt _ (by omega)
  unfold InR at hR
  omega
/-- b is neither 0 nor -1: the product divided by b is a just if the product did not wrap -/
theorem wraps_iff (a b : Int) (hb : InR b) (h0 : b ≠ 0) : (wrap64 (a * b)).tdiv b = a ↔ InR (a * b) := by
  constructor
  · intro h
    obtain ⟨k, hk⟩ := wrap_mod (a * b)
    have hm := tmod_less (wrap64 (a * b)) b h0 hb
    have hd := Int.mul_tdiv_add_tmod (wrap64 (a * b)) b
    rw [h, Int.mul_comm b a] at hd
    have : wrap64 (a * b) = a * b := by omega
    rw [← this]
    exact wrap_range _
  · intro h
    rw [wrap_in _ h]
    exact Int.mul_tdiv_cancel a h0
end Go.Proofs.YtgcojilaeflfbaaGreatDoor
namespace Go.Proofs.YtgcojilaeflfbaaGreatDoor
open Go.RowKit
set_option linter.unusedVariables false
set_option linter.unusedSimpArgs false

/-- one step: none, where it would be no number of 64 bits -/
def stepR (f : Int → Int → Int) (o : Option Int) (z : Int) : Option Int :=
  o.bind fun s => if -9223372036854775808 ≤ f s z ∧ f s z ≤ 9223372036854775807 then some (f s z) else none
def sumR (zs : List Int) : Option Int := zs.foldl (stepR (· + ·)) (some 0)
def mulR (zs : List Int) : Option Int := zs.foldl (stepR (· * ·)) (some 1)
theorem fold_none (f : Int → Int → Int) (zs : List Int) : zs.foldl (stepR f) none = none := by
  induction zs with
  | nil => rfl
  | cons z zs ih => rw [List.foldl_cons]; exact ih
theorem fold_snoc (f : Int → Int → Int) (a : Option Int) (zs : List Int) (k : Nat) (h : k < zs.length) : (zs.take (k + 1)).foldl (stepR f) a = stepR f ((zs.take k).foldl (stepR f) a) (zs.getD k 0) := by
  rw [List.take_succ_eq_append_getElem h, List.foldl_append, List.getD_eq_getElem?_getD, List.getElem?_eq_getElem h]
  rfl
theorem fold_stop (f : Int → Int → Int) (a : Option Int) (zs : List Int) (k : Nat) (h : (zs.take k).foldl (stepR f) a = none) : zs.foldl (stepR f) a = none := by
  conv => lhs; rw [← List.take_append_drop k zs]
  rw [List.foldl_append, h, fold_none]
theorem ret_num {o : Option Int} {x : Int} {b : Bool} (h : o.getD 0 = x) (h2 : o.isSome = b) : Ending.returned (.tuple #[.int .i64 x, .bool b]) = .returned (.tuple #[.int .i64 (o.getD 0), .bool o.isSome]) := by rw [h, h2]

end Go.Proofs.YtgcojilaeflfbaaGreatDoor
namespace Go.Proofs.YtgcojilaeflfbaaGreatDoor
open Go.RowKit
set_option linter.unusedVariables false
set_option linter.unusedSimpArgs false

def wrapsB (a b : Int) : Bool := !decide (-9223372036854775808 ≤ a * b ∧ a * b ≤ 9223372036854775807)
def leastZ (a : Int) (zs : List Int) : Int := zs.foldl min a
end Go.Proofs.YtgcojilaeflfbaaGreatDoor
