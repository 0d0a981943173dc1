/- What a product that wraps divides to. No program. -/
import Derived.RowKit
namespace Go.Proofs.YtehhmejpfglimaaDoor
open Go.RowKit

def InR (x : Int) : Prop := -9223372036854775808 ≤ x ∧ x ≤ 9223372036854775807
theorem wrap_in (x : Int) (h : InR x) : wrap64 x = x := by unfold wrap64; unfold InR at h; omega
theorem wrap_range (x : Int) : InR (wrap64 x) := by unfold wrap64 InR; omega
theorem wrap_mod (x : Int) : ∃ k : Int, wrap64 x = x + k * 18446744073709551616 := ⟨-((x + 9223372036854775808) / 18446744073709551616), by unfold wrap64; omega⟩
theorem tmod_less (w b : Int) (hb : b ≠ 0) (hR : InR b) : -9223372036854775808 < w.tmod b ∧ w.tmod b < 9223372036854775808 := by
  have h1 : (w.tmod b).natAbs < b.natAbs := by
    rw [Int.natAbs_tmod]
    exact Nat.mod_lt _ (by omega)
  unfold InR at hR
  omega
/-- b is neither 0 nor -1: the product divided by b is a just if the product did not wrap -/
theorem wraps_iff (a b : Int) (hb : InR b) (h0 : b ≠ 0) : (wrap64 (a * b)).tdiv b = a ↔ InR (a * b) := by
  constructor
  · intro h
    obtain ⟨k, hk⟩ := wrap_mod (a * b)
    have hm := tmod_less (wrap64 (a * b)) b h0 hb
    have hd := Int.mul_tdiv_add_tmod (wrap64 (a * b)) b
    rw [h, Int.mul_comm b a] at hd
    have : wrap64 (a * b) = a * b := by omega
    rw [← this]
    exact wrap_range _
  · intro h
    rw [wrap_in _ h]
    exact Int.mul_tdiv_cancel a h0
end Go.Proofs.YtehhmejpfglimaaDoor
