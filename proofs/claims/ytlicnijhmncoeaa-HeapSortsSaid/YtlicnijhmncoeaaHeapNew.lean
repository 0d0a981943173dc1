/- A heap made: the walk of New. -/
import Derived.Test.YtlicnijhmncoeaaHeapPush
namespace Go.Proofs.Ytlicnijhmncoeaa
open Go.RowKit
set_option linter.unusedVariables false
set_option linter.unusedSimpArgs false

theorem IntsA.new {b : Nat} {w w' : World} {A : Option Addr} {xs : List Int} (h : IntsA b (.slice none 0 0) w A xs) (hb : Below w.heap.size w w') : IntsA b (.slice none 0 0) w' A xs := by
  refine ⟨h.good, fun h0 => ?_⟩
  obtain ⟨g, o, rfl, h1, h2, h3, h4⟩ := h.at_ h0
  have h5 := hb.size
  exact ⟨g, o, rfl, by omega, h2, h3, fun j hj => (hb.cell (p := ⟨g, o + j, none⟩) h1).trans (h4 j hj)⟩
theorem heap_new (w : World) : HeapSt (w.alloc (.cells #[.slice none 0 0, .int .i64 0, .func (.func 9) #[] #[]] 74)) w.heap.size (.slice none 0 0) [] 0 :=
  ⟨Blk.new _ _ _, OwnR.nil _ _ _, fun x hx => absurd hx List.not_mem_nil, fun x hx => absurd hx List.not_mem_nil, Nat.le_refl _, by omega⟩
theorem new_below {w w2 : World} {o : Obj} {v2 : Value} (h : HG w.heap.size (w.alloc o) (.slice none 0 0) w2 v2) : Below w.heap.size w w2 := by
  have h1 := (Below.refl w.heap.size w).alloc (Nat.le_refl _) o
  have h2 := h1.size
  refine ⟨h.os.trans h1.os, h.tape.trans h1.tape, h.output.trans h1.output, Nat.le_trans h2 h.size, fun k hk => ?_⟩
  exact (h.block k (Nat.lt_of_lt_of_le hk h2) (by omega) (by simp [Value.ownBlock])).trans (h1.block k hk)
set_option maxRecDepth 100000 in
set_option maxHeartbeats 1600000 in
theorem new_any (A : Option Addr) (n c : Nat) (xs : List Int) (hn : xs.length = n) (hn6 : n ≤ 1000000) (w : World) (hx : IntsA w.heap.size (.slice none 0 0) w A xs) :
    Calls Try.prog 8 #[.func (.func 9) #[] #[], .slice A n c] w fun e w' => ∃ v' L', e = .returned (.pointer (some ⟨w.heap.size, 0, none⟩)) ∧ HeapSt w' w.heap.size v' L' n ∧ L'.Perm (itemsP 0 xs) ∧ IsHeapP tenK L' ∧ Below w.heap.size w w' := by
  have HX := Lib.hid hx
  clear hx
  go_enter Try.func8, Try.ntmps8
  go_wp2_with fail
  refine (push_any w.heap.size (.slice none 0 0) [] 0 A n c xs hn (by omega) _ (heap_new w) (fun j _ hj => absurd hj (Nat.not_lt_zero _)) (IntsA.new HX.out ((Below.refl _ _).alloc (Nat.le_refl _) _))).mono ?_
  rintro e w2 ⟨rfl, v2, L2, hs2, hp2, hh2, hg2⟩
  rw [Nat.zero_add] at hs2
  rw [List.nil_append] at hp2
  have HR := Lib.hid (And.intro hs2 (And.intro hp2 (And.intro hh2 (new_below hg2))))
  clear hs2 hp2 hh2 hg2
  go_wp2
  go_ret
  exact ⟨v2, L2, by first | rfl | (simp; done), HR.out⟩
end Go.Proofs.Ytlicnijhmncoeaa
