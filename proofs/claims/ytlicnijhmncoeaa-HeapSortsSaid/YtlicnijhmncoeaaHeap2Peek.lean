/- Peek, Len and drop of a heap. -/
import Derived.Test.YtlicnijhmncoeaaHeap2Ahead
import Derived.Test.YtlicnijhmncoeaaHeap2Swap
namespace Go.Proofs.Ytlicnijhmncoeaa.T2
open Go.RowKit
set_option linter.unusedVariables false
set_option linter.unusedSimpArgs false

set_option maxRecDepth 100000 in
set_option maxHeartbeats 1600000 in
theorem len_any (b : Nat) (v : Value) (L : List (KeyP TwoX)) (came : Nat) (w : World) (h : HeapSt w b v L came) :
    Calls Try.prog 22 #[.pointer (some ⟨b, 0, none⟩)] w fun e w' => e = .returned (.int .i64 (L.length : Int)) ∧ w' = w := by
  go_enter Try.func22, Try.ntmps22
  go_wp2_with fail
  refine (many_any b v L came w h).mono ?_
  rintro e w4 ⟨rfl, rfl⟩
  go_wp2
  go_ret
  exact ⟨by first | rfl | (simp; done), by first | rfl | trivial⟩
set_option maxRecDepth 100000 in
set_option maxHeartbeats 1600000 in
theorem peek_none (b : Nat) (v : Value) (came : Nat) (w : World) (h : HeapSt w b v [] came) :
    Calls Try.prog 47 #[.pointer (some ⟨b, 0, none⟩)] w fun e w' => e = .returned (.tuple #[.agg #[.string .empty, .int .i64 0], .bool false]) ∧ Below w.heap.size w w' := by
  obtain ⟨g2, hg2⟩ : ∃ g, w.heap.size = g := ⟨_, rfl⟩
  obtain ⟨w1, hw1⟩ : ∃ z, w.alloc (.cells #[.string ⟨#[]⟩, .int .i64 0] 43) = z := ⟨_, rfl⟩
  have K2 : Blk w1 g2 43 #[.string ⟨#[]⟩, .int .i64 0] := by rw [← hw1, ← hg2]; exact Blk.new _ _ _
  have hb1 : Below w.heap.size w w1 := by rw [← hw1]; exact (Below.refl _ _).alloc (Nat.le_refl _) _
  have HK := Lib.hid K2
  have HB := Lib.hid hb1
  have MN := Lib.hid (many_any b v [] came w1 (h.below hb1))
  have HN := Lib.hid (show w.heap.size ≤ g2 by omega)
  clear h K2 hb1
  go_enter Try.func47, Try.ntmps47
  go_wp2_with fail
  clear hw1 hg2
  refine MN.out.mono ?_
  rintro e w4 ⟨rfl, rfl⟩
  obtain ⟨w5, hw5⟩ : ∃ z, w4.alloc (.cells #[.string ⟨#[]⟩, .int .i64 0] 43) = z := ⟨_, rfl⟩
  obtain ⟨g4, hg4⟩ : ∃ g, w4.heap.size = g := ⟨_, rfl⟩
  have hb5 : Below w4.heap.size w4 w5 := by rw [← hw5]; exact (Below.refl _ _).alloc (Nat.le_refl _) _
  have K25 := HK.out.below hb5 HK.out.lt
  have K45 : Blk w5 g4 43 #[.string ⟨#[]⟩, .int .i64 0] := by rw [← hw5, ← hg4]; exact Blk.new _ _ _
  have HB5 := Lib.hid (hop HB.out (Nat.le_refl _) hb5)
  have c0 : w5.cell? ⟨g2, 0, none⟩ = some (.string ⟨#[]⟩) := (K25.cell 0).trans rfl
  have c1 : w5.cell? ⟨g2, 1, none⟩ = some (.int .i64 0) := (K25.cell 1).trans rfl
  have z0 := K25.frozen 0
  have z1 := K25.frozen 1
  have d0 : w5.cell? ⟨g4, 0, none⟩ = some (.string ⟨#[]⟩) := (K45.cell 0).trans rfl
  have d1 : w5.cell? ⟨g4, 1, none⟩ = some (.int .i64 0) := (K45.cell 1).trans rfl
  have HR := Lib.hid ((K25.set_ 0 (.string ⟨#[]⟩)).set_ 1 (.int .i64 0))
  have HBE := Lib.hid ((HB5.out.setCell (p := ⟨g2, 0, none⟩) HN.out (.string ⟨#[]⟩)).setCell (p := ⟨g2, 1, none⟩) HN.out (.int .i64 0))
  clear hb5 K25 K45
  go_wp2
  refine bodyPost_ret (results_row_tmp rfl _ _ _ 43 _ (0, 0) _ rfl HR.out Try.underlying43 rfl (by kernel_rfl)) rfl ?_
  exact ⟨rfl, HBE.out⟩
set_option maxRecDepth 100000 in
set_option maxHeartbeats 1600000 in
theorem peek_any (b : Nat) (v : Value) (L : List (KeyP TwoX)) (came : Nat) (hL : 0 < L.length) (w : World) (h : HeapSt w b v L came) :
    Calls Try.prog 47 #[.pointer (some ⟨b, 0, none⟩)] w fun e w' => e = .returned (.tuple #[.agg #[.string (getP L 0).it.s, .int .i64 (getP L 0).it.n], .bool true]) ∧ Below w.heap.size w w' := by
  obtain ⟨g2, hg2⟩ : ∃ g, w.heap.size = g := ⟨_, rfl⟩
  obtain ⟨w1, hw1⟩ : ∃ z, w.alloc (.cells #[.string ⟨#[]⟩, .int .i64 0] 43) = z := ⟨_, rfl⟩
  have K2 : Blk w1 g2 43 #[.string ⟨#[]⟩, .int .i64 0] := by rw [← hw1, ← hg2]; exact Blk.new _ _ _
  have hb1 : Below w.heap.size w w1 := by rw [← hw1]; exact (Below.refl _ _).alloc (Nat.le_refl _) _
  have h1 := h.below hb1
  obtain ⟨g, cap, cur, hv, hg, hB, hc, hm, hs, hcl⟩ := own_open h1.row hL
  subst hv
  obtain ⟨q1, q2, q3⟩ := hcl 0 hL
  have e0 : w1.cell? ⟨g, 0, none⟩ = some (.string (getP L 0).it.s) := (hB.cell 0).trans (by simpa using q1)
  have e1 : w1.cell? ⟨g, 1, none⟩ = some (.int .i64 (getP L 0).it.n) := (hB.cell 1).trans (by simpa using q2)
  have b0 : w1.cell? ⟨b, 0, none⟩ = some (.slice (some ⟨g, 0, none⟩) L.length cap) := (h1.blk.cell 0).trans rfl
  have MN := Lib.hid (many_any b _ L came w1 h1)
  have c0 : w1.cell? ⟨g2, 0, none⟩ = some (.string ⟨#[]⟩) := (K2.cell 0).trans rfl
  have c1 : w1.cell? ⟨g2, 1, none⟩ = some (.int .i64 0) := (K2.cell 1).trans rfl
  have z0 := K2.frozen 0
  have z1 := K2.frozen 1
  obtain ⟨ts, hts⟩ : ∃ z, (getP L 0).it.s = z := ⟨_, rfl⟩
  obtain ⟨tn, htn⟩ : ∃ z, (getP L 0).it.n = z := ⟨_, rfl⟩
  rw [hts] at e0
  rw [htn] at e1
  rw [hts, htn]
  have HR := Lib.hid ((K2.set_ 0 (.string ts)).set_ 1 (.int .i64 tn))
  have HN : w.heap.size ≤ g2 := by omega
  have HBE := Lib.hid ((hb1.setCell (p := ⟨g2, 0, none⟩) HN (.string ts)).setCell (p := ⟨g2, 1, none⟩) HN (.int .i64 tn))
  have p1 : ¬ (L.length : Int) = 0 := by omega
  have p2 : ¬ L.length = 0 := by omega
  have p3 : (0 : Int) < (L.length : Int) := by omega
  have p4 : ((L.length : Int) == 0) = false := by rw [beq_eq_false_iff_ne]; exact p1
  have hln : L ≠ [] := fun e => by rw [e] at hL; exact absurd hL (by simp)
  clear h h1 hB hcl q1 q2 q3 hb1 K2 hts htn hs HN
  go_enter Try.func47, Try.ntmps47
  go_wp2_with fail
  clear hw1 hg2
  refine MN.out.mono ?_
  rintro e w4 ⟨rfl, rfl⟩
  go_wp2
  refine bodyPost_ret (results_row_tmp rfl _ _ _ 43 _ (0, 0) _ rfl HR.out Try.underlying43 rfl (by kernel_rfl)) rfl ?_
  exact ⟨rfl, HBE.out⟩
end Go.Proofs.Ytlicnijhmncoeaa.T2
