/- Words of queries: how they are read. -/
import Derived.Test.YtnhbahfpinijiaaLexMath
import Derived.Test.YtnhbahfpinijiaaHop
import Derived.Test.YtnhbahfpinijiaaRow
import Derived.TacticsIn
namespace Go.Proofs.Ytnhbahfpinijiaa
open Go.RowKit
set_option linter.unusedVariables false

theorem texts_lit (w : World) (l : List ByteArray) (g : Nat) (hg : g = w.heap.size) : Texts (w.alloc (.cells (l.map Value.string).toArray 9)) (some ⟨g, 0, none⟩) l.length l :=
  ⟨rfl, fun _ => ⟨g, 0, rfl, by simp [hg], fun j hj => by
    subst hg
    rw [(Blk.new w 9 (l.map Value.string).toArray).cell, Nat.zero_add, List.getElem?_toArray, List.getElem?_map, List.getD_eq_getElem?_getD, List.getElem?_eq_getElem hj]
    rfl⟩⟩
theorem ops_any (W : World) : Calls Try.prog 12 #[] W fun e w' => e = .returned (.slice (some ⟨W.heap.size, 0, none⟩) 15 15) ∧ w' = W.alloc (.cells (opsT.map Value.string).toArray 9) := by
  go_enter Try.func12, Try.ntmps12
  go_wp2
  go_ret
  exact ⟨rfl, rfl⟩
set_option maxHeartbeats 800000 in
theorem spaces_any (b : Nat) (ty : TypeId) (t : ByteArray) (k : Nat) (W : World) (hR : RdX W b ty t k) :
    Calls Try.prog 16 #[.pointer (some ⟨b, 0, none⟩)] W fun e w' => e = .returned (.tuple #[]) ∧ RdX w' b ty t (k + spaces (atL t k)) ∧ W.grownBy w' (some b) := by
  obtain ⟨cs, hR⟩ := hR
  have hlt := hR.lt
  have RN := run_any b ty cs t k (some ⟨W.heap.size, 0, none⟩) 1 1 [3] (by decide) _ (hR.alloc (.cells ([3].map (Value.int .i64)).toArray 55)) (ints_lit W 55 [3] (by decide) W.heap.size rfl) (by intro a h; injection h with h; rw [← h]; show W.heap.size ≠ b; omega)
  replace RN := Lib.hid RN
  clear hR
  go_enter Try.func16, Try.ntmps16
  go_wp2_with fail
  refine RN.out.mono ?_
  rintro e w1 ⟨rfl, hR1, hg1⟩
  go_wp2
  go_end0
  exact ⟨rfl, ⟨_, hR1⟩, World.grownBy.trans (World.grownBy_alloc _ _ _) hg1⟩
set_option maxHeartbeats 800000 in
theorem next_any (b : Nat) (ty : TypeId) (t : ByteArray) (k : Nat) (A : Option Addr) (n c : Nat) (ks : List Int) (hn : n ≤ 9223372036854775806) (W : World) (hR : RdX W b ty t k) (hI : Ints .i64 W A n ks) :
    Calls Try.prog 25 #[.pointer (some ⟨b, 0, none⟩), .slice A n c] W fun e w' => e = .returned (.bool (headK ks (atL t k))) ∧ ∃ q, w' = W.drewN q := by
  obtain ⟨cs, hR⟩ := hR
  have hle := hR.le
  by_cases hk : k < t.size
  · obtain ⟨x, hx⟩ : ∃ x, t[k] = x := ⟨_, rfl⟩
    have E : headK ks (atL t k) = ks.any fun k => kindB k x.toNat := by rw [at_cons t k hk, hx]; rfl
    rw [E]
    have PK := Lib.hid (peek_more b ty cs t k hk x hx W hR)
    have IS := Lib.hid (fun q => is_any x.toNat x.toNat_lt A n c ks hn (W.drewN q) hI)
    clear hR hI E hx
    go_enter Try.func25, Try.ntmps25
    go_wp2_with fail
    refine PK.out.mono ?_
    rintro e w1 ⟨rfl, q, rfl⟩
    go_wp2_with fail
    refine (IS.out q).mono ?_
    rintro e w2 ⟨rfl, rfl⟩
    go_wp2
    go_ret
    exact ⟨rfl, q, rfl⟩
  · obtain rfl : k = t.size := by omega
    have E : headK ks (atL t t.size) = false := by rw [at_end t t.size (Nat.le_refl _)]; rfl
    rw [E]
    have PK := Lib.hid (peek_end b ty cs t W hR)
    clear hR hI E
    go_enter Try.func25, Try.ntmps25
    go_wp2_with fail
    refine PK.out.mono ?_
    rintro e w1 ⟨rfl, q, rfl⟩
    go_wp2
    go_ret
    exact ⟨rfl, q, rfl⟩
set_option maxHeartbeats 800000 in
theorem lexName_any (b : Nat) (ty : TypeId) (t : ByteArray) (k : Nat) (W : World) (hR : RdX W b ty t k) :
    Calls Try.prog 26 #[.pointer (some ⟨b, 0, none⟩)] W fun e w' => e = .returned (.tuple #[.int .i64 (nameW (atL t k)).1, .string (nameW (atL t k)).2.1]) ∧ RdX w' b ty t (k + (nameW (atL t k)).2.2) ∧ W.grownBy w' (some b) := by
  obtain ⟨cs, hR⟩ := hR
  have hlt := hR.lt
  have RN := run_any b ty cs t k (some ⟨W.heap.size, 0, none⟩) 3 3 [0, 1, 2] (by decide) _ (hR.alloc (.cells ([0, 1, 2].map (Value.int .i64)).toArray 55)) (ints_lit W 55 [0, 1, 2] (by decide) W.heap.size rfl) (by intro a h; injection h with h; rw [← h]; show W.heap.size ≠ b; omega)
  rw [run_tx] at RN
  obtain ⟨s, hs⟩ : ∃ s, tx ((atL t k).takeWhile (goodK [0, 1, 2])) = s := ⟨_, rfl⟩
  have NM := Lib.hid (fun w => name_any s w)
  have E : nameW (atL t k) = (if nameB s = true then 1 else 0, if nameB s = true then s else .empty, ((atL t k).takeWhile (goodK [0, 1, 2])).length) := by unfold nameW; rw [hs]
  rw [E, run_at] at *
  rw [hs] at RN
  obtain ⟨m, hm⟩ : ∃ m, ((atL t k).takeWhile (goodK [0, 1, 2])).length = m := ⟨_, rfl⟩
  rw [hm] at RN ⊢
  replace RN := Lib.hid RN
  replace NM := NM.out
  obtain ⟨z, hz⟩ : ∃ z, nameB s = z := ⟨_, rfl⟩
  simp only [hz] at NM ⊢
  replace NM := Lib.hid NM
  clear hR E hs hm hz
  cases z
  all_goals
    go_enter Try.func26, Try.ntmps26
    go_wp2_with fail
    refine RN.out.mono ?_
    rintro e w1 ⟨rfl, hR1, hg1⟩
    have HR1 := Lib.hid hR1
    clear hR1
    go_wp2_with fail
    refine (NM.out _).mono ?_
    rintro e w2 ⟨rfl, hx⟩
    have hR2 := HR1.out.below hx HR1.out.lt
    have hg2 := World.grownBy.trans (World.grownBy.trans (World.grownBy_alloc W (.cells ([0, 1, 2].map (Value.int .i64)).toArray 55) (some b)) hg1) (grown_of_below hx (some b))
    clear HR1 hx hg1
    go_wp2
    go_ret2
    exact ⟨rfl, ⟨_, hR2⟩, hg2⟩
end Go.Proofs.Ytnhbahfpinijiaa
