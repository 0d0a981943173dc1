/- Whether two expressions are the same: the walk of Same. -/
import Derived.Test.YtgcojilaeflfbaaGreatDoorRexSize
import Derived.Test.YtgcojilaeflfbaaGreatDoorRexClass
namespace Go.Proofs.YtgcojilaeflfbaaGreatDoor
open Go.RowKit
set_option linter.unusedVariables false
set_option linter.unusedSimpArgs false

theorem set_words {S T : Nat} (hS : S < 2 ^ 256) (hT : T < 2 ^ 256) : ((word S 0 : Int) == (word T 0 : Int) && (word S 1 : Int) == (word T 1 : Int) && (word S 2 : Int) == (word T 2 : Int) && (word S 3 : Int) == (word T 3 : Int)) = decide (S = T) := by
  rw [Bool.eq_iff_iff, decide_eq_true_iff]
  constructor
  · intro e
    simp only [Bool.and_eq_true, beq_iff_eq] at e
    obtain ⟨⟨⟨e0, e1⟩, e2⟩, e3⟩ := e
    refine set_ext hS hT (fun i hi => ?_)
    match i, hi with
    | 0, _ => omega
    | 1, _ => omega
    | 2, _ => omega
    | 3, _ => omega
  · rintro rfl
    simp
theorem eq_words24 {S T : Nat} (hS : S < 2 ^ 256) (hT : T < 2 ^ 256) (w : World) : (Op.equalIn 10000 40 (.agg #[.int .u64 (word S 0 : Nat), .int .u64 (word S 1 : Nat), .int .u64 (word S 2 : Nat), .int .u64 (word S 3 : Nat)]) (.agg #[.int .u64 (word T 0 : Nat), .int .u64 (word T 1 : Nat), .int .u64 (word T 2 : Nat), .int .u64 (word T 3 : Nat)])).run Tryz.prog w = .ok (decide (S = T)) w := by
  rw [eq_sets24, set_words hS hT]
theorem samesT_nil : samesT [] [] = true := by rw [samesT]
theorem samesT_cons (a b : NodeT) (l m : List NodeT) : samesT (a :: l) (b :: m) = (sameT a b && samesT l m) := by rw [samesT]
theorem samesT_len : ∀ (l m : List NodeT), l.length ≠ m.length → samesT l m = false
  | [], [], h => absurd rfl h
  | [], b :: m, _ => by rw [samesT]; all_goals (intros; simp_all)
  | a :: l, [], _ => by rw [samesT]; all_goals (intros; simp_all)
  | a :: l, b :: m, h => by
    rw [samesT_cons, samesT_len l m (fun e => h (by rw [List.length_cons, List.length_cons, e])), Bool.and_false]
theorem sameX (k : Int) (s : Nat) (m1 m2 : Int) (A : Option Addr) (n c : Nat) (l : List NodeX) (k' : Int) (s' : Nat) (m1' m2' : Int) (A' : Option Addr) (n' c' : Nat) (l' : List NodeX) : sameT (NodeX.mk k s m1 m2 A n c l).t (NodeX.mk k' s' m1' m2' A' n' c' l').t = (decide (k = k') && decide (s = s') && decide (m1 = m1') && decide (m2 = m2') && samesT (l.map NodeX.t) (l'.map NodeX.t)) := by
  rw [NodeX.t, NodeX.t, sameT, NodeX.ts_map, NodeX.ts_map]
end Go.Proofs.YtgcojilaeflfbaaGreatDoor
