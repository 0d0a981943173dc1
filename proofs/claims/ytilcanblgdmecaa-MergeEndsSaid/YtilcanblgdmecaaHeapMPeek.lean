/- Peek, Len and drop of a heap. -/
import Derived.Test.YtilcanblgdmecaaHeapMAhead
import Derived.Test.YtilcanblgdmecaaHeapMSwap
namespace Go.Proofs.Ytilcanblgdmecaa
open Go.RowKit
set_option linter.unusedVariables false
set_option linter.unusedSimpArgs false
variable {P : MP}

set_option maxRecDepth 100000 in
set_option maxHeartbeats 1600000 in
theorem peek_none (b : Nat) (v : Value) (came : Nat) (w : World) (h : HeapSt P w b v [] came) :
    Calls Try.prog 38 #[.pointer (some ⟨b, 0, none⟩)] w fun e w' => e = .returned (.tuple #[.slice none 0 0, .bool false]) ∧ w' = w := by
  go_enter Try.func38, Try.ntmps38
  go_wp2_with fail
  refine (many_any b v [] came w h).mono ?_
  rintro e w4 ⟨rfl, rfl⟩
  go_wp2
  (try simp only [Exit.inBlock, Exit.then])
  refine bodyPost_ret (results_tmp2 rfl _ _ _) rfl ?_
  exact ⟨by first | rfl | (simp; done), by first | rfl | trivial⟩
set_option maxRecDepth 100000 in
set_option maxHeartbeats 1600000 in
theorem peek_any (b : Nat) (v : Value) (L : List (KeyP LsX)) (came : Nat) (hL : 0 < L.length) (w : World) (h : HeapSt P w b v L came) :
    Calls Try.prog 38 #[.pointer (some ⟨b, 0, none⟩)] w fun e w' => e = .returned (.tuple #[.slice (getP L 0).it.A (getP L 0).it.n (getP L 0).it.c, .bool true]) ∧ w' = w := by
  obtain ⟨g, cap, cur, hv, hg, hB, hc, hm, hs, hcl⟩ := own_open h.row hL
  subst hv
  have h2 := hcl 0 hL
  have c1 : w.cell? ⟨g, 0, none⟩ = some (.slice (getP L 0).it.A (getP L 0).it.n (getP L 0).it.c) := (hB.cell 0).trans (by simpa using h2.1)
  have c0 : w.cell? ⟨b, 0, none⟩ = some (.slice (some ⟨g, 0, none⟩) L.length cap) := (h.blk.cell 0).trans rfl
  have HH := Lib.hid h
  have q1 : ¬ (L.length : Int) = 0 := by omega
  have q2 : ¬ L.length = 0 := by omega
  have q3 : (0 : Int) < (L.length : Int) := by omega
  have hln : L ≠ [] := fun e => by rw [e] at hL; exact absurd hL (by simp)
  have HCL := Lib.hid hcl
  clear h hcl h2 hB
  go_enter Try.func38, Try.ntmps38
  go_wp2_with fail
  refine (many_any b _ L came w HH.out).mono ?_
  rintro e w4 ⟨rfl, rfl⟩
  go_wp2
  (try simp only [Exit.inBlock, Exit.then])
  refine bodyPost_ret (results_tmp2 rfl _ _ _) rfl ?_
  exact ⟨by first | rfl | (simp; done), by first | rfl | trivial⟩
end Go.Proofs.Ytilcanblgdmecaa
