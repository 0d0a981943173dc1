/- What Span tells of hours, minutes, seconds and thousandths, part by part. -/
import Derived.Test.YtehhmejpfglimaaDoorUnitLong
namespace Go.Proofs.YtehhmejpfglimaaDoor
open Go.RowKit
set_option linter.unusedVariables false

def hL (h : Int) : List UInt8 := if 0 < h then Lib.itoa h ++ [104] else []
def mL (m : Int) : List UInt8 := if 0 < m then Lib.itoa m ++ [109] else []
def sL (s : Int) : List UInt8 := if 0 < s then Lib.itoa s ++ [115] else []
def kL (k : Int) : List UInt8 := if 0 < k then Lib.itoa k ++ [109, 115] else []
theorem spanL_one (nm : List UInt8) (f : Int) (U : List (List UInt8 × Int)) (n q r : Int) (h0 : 0 ≤ n) (hf : 1 ≤ f) (hr0 : 0 ≤ r) (hr : r < f) (hq0 : 0 ≤ q) (e : n = q * f + r) : spanL ((nm, f) :: U) n = (if 0 < q then Lib.itoa q ++ nm else []) ++ spanL U r := by
  have hd : n.tdiv f = q := by
    rw [Int.tdiv_eq_ediv_of_nonneg h0, e, Int.add_comm, Int.add_mul_ediv_right _ _ (by omega), Int.ediv_eq_zero_of_lt hr0 hr, Int.zero_add]
  have hm : n.tmod f = r := by
    rw [Int.tmod_eq_emod_of_nonneg h0, e, Int.add_comm, Int.add_mul_emod_self_right, Int.emod_eq_of_lt hr0 hr]
  rw [spanL]
  show (if f ≤ n then Lib.itoa (n.tdiv f) ++ nm else []) ++ spanL U (n.tmod f) = _
  rw [hd, hm]
  have hiff : f ≤ n ↔ 0 < q := by
    constructor
    · intro h
      rcases (by omega : q = 0 ∨ 0 < q) with rfl | h2
      · rw [Int.zero_mul] at e; omega
      · exact h2
    · intro h
      have := Int.mul_le_mul_of_nonneg_right (show (1 : Int) ≤ q by omega) (show 0 ≤ f by omega)
      omega
  by_cases h : 0 < q
  · rw [if_pos h, if_pos (hiff.2 h)]
  · rw [if_neg h, if_neg (fun x => h (hiff.1 x))]
theorem spans_told (h m s k : Int) (h0 : 0 ≤ h) (h1 : h ≤ 65535) (m0 : 0 ≤ m) (m1 : m < 60) (s0 : 0 ≤ s) (s1 : s < 60) (k0 : 0 ≤ k) (k1 : k < 1000) :
    spanL durU ((((h * 60 + m) * 60 + s) * 1000 + k) * 1000000) = hL h ++ (mL m ++ (sL s ++ kL k)) := by
  show spanL ((_, (3600000000000 : Int)) :: (_, (60000000000 : Int)) :: (_, (1000000000 : Int)) :: (_, (1000000 : Int)) :: (_, (1000 : Int)) :: (_, (1 : Int)) :: []) _ = _
  rw [spanL_one _ 3600000000000 _ _ h (m * 60000000000 + s * 1000000000 + k * 1000000) (by omega) (by omega) (by omega) (by omega) h0 (by omega),
    spanL_one _ 60000000000 _ _ m (s * 1000000000 + k * 1000000) (by omega) (by omega) (by omega) (by omega) m0 (by omega),
    spanL_one _ 1000000000 _ _ s (k * 1000000) (by omega) (by omega) (by omega) (by omega) s0 (by omega),
    spanL_one _ 1000000 _ _ k 0 (by omega) (by omega) (by omega) (by omega) k0 (by omega),
    spanL_one _ 1000 _ _ 0 0 (by omega) (by omega) (by omega) (by omega) (by omega) (by omega),
    spanL_one _ 1 _ _ 0 0 (by omega) (by omega) (by omega) (by omega) (by omega) (by omega)]
  have e0 : spanL [] 0 = [] := rfl
  rw [e0, if_neg (by omega : ¬ (0 : Int) < 0), if_neg (by omega : ¬ (0 : Int) < 0)]
  simp only [List.append_nil]
  rfl
end Go.Proofs.YtehhmejpfglimaaDoor
