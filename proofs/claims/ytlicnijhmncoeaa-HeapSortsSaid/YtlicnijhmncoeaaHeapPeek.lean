/- Peek, Len and drop of a heap. -/
import Derived.Test.YtlicnijhmncoeaaHeapAhead
import Derived.Test.YtlicnijhmncoeaaHeapSwap
namespace Go.Proofs.Ytlicnijhmncoeaa
open Go.RowKit
set_option linter.unusedVariables false
set_option linter.unusedSimpArgs false

set_option maxRecDepth 100000 in
set_option maxHeartbeats 1600000 in
theorem len_any (b : Nat) (v : Value) (L : List (KeyP Int)) (came : Nat) (w : World) (h : HeapSt w b v L came) :
    Calls Try.prog 17 #[.pointer (some ⟨b, 0, none⟩)] w fun e w' => e = .returned (.int .i64 (L.length : Int)) ∧ w' = w := by
  go_enter Try.func17, Try.ntmps17
  go_wp2_with fail
  refine (many_any b v L came w h).mono ?_
  rintro e w4 ⟨rfl, rfl⟩
  go_wp2
  go_ret
  exact ⟨by first | rfl | (simp; done), by first | rfl | trivial⟩
set_option maxRecDepth 100000 in
set_option maxHeartbeats 1600000 in
theorem peek_none (b : Nat) (v : Value) (came : Nat) (w : World) (h : HeapSt w b v [] came) :
    Calls Try.prog 15 #[.pointer (some ⟨b, 0, none⟩)] w fun e w' => e = .returned (.tuple #[.int .i64 0, .bool false]) ∧ w' = w := by
  go_enter Try.func15, Try.ntmps15
  go_wp2_with fail
  refine (many_any b v [] came w h).mono ?_
  rintro e w4 ⟨rfl, rfl⟩
  go_wp2
  (try simp only [Exit.inBlock, Exit.then])
  refine bodyPost_ret (results_tmp2 rfl _ _ _) rfl ?_
  exact ⟨by first | rfl | (simp; done), by first | rfl | trivial⟩
set_option maxRecDepth 100000 in
set_option maxHeartbeats 1600000 in
theorem peek_any (b : Nat) (v : Value) (L : List (KeyP Int)) (came : Nat) (hL : 0 < L.length) (w : World) (h : HeapSt w b v L came) :
    Calls Try.prog 15 #[.pointer (some ⟨b, 0, none⟩)] w fun e w' => e = .returned (.tuple #[.int .i64 (getP L 0).it, .bool true]) ∧ w' = w := by
  obtain ⟨g, cap, cur, hv, hg, hB, hc, hm, hs, hcl⟩ := own_open h.row hL
  subst hv
  have h2 := hcl 0 hL
  have c1 : w.cell? ⟨g, 0, none⟩ = some (.int .i64 (getP L 0).it) := (hB.cell 0).trans (by simpa using h2.1)
  have c0 : w.cell? ⟨b, 0, none⟩ = some (.slice (some ⟨g, 0, none⟩) L.length cap) := (h.blk.cell 0).trans rfl
  have HH := Lib.hid h
  have q1 : ¬ (L.length : Int) = 0 := by omega
  have q2 : ¬ L.length = 0 := by omega
  have q3 : (0 : Int) < (L.length : Int) := by omega
  have hln : L ≠ [] := fun e => by rw [e] at hL; exact absurd hL (by simp)
  have HCL := Lib.hid hcl
  clear h hcl h2 hB
  go_enter Try.func15, Try.ntmps15
  go_wp2_with fail
  refine (many_any b _ L came w HH.out).mono ?_
  rintro e w4 ⟨rfl, rfl⟩
  go_wp2
  (try simp only [Exit.inBlock, Exit.then])
  refine bodyPost_ret (results_tmp2 rfl _ _ _) rfl ?_
  exact ⟨by first | rfl | (simp; done), by first | rfl | trivial⟩
end Go.Proofs.Ytlicnijhmncoeaa
