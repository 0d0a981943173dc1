-- shaken
import Derived.Test.YtbkpoimaienhpaaGreatDoorRows
import Derived.Test.YtbkpoimaienhpaaGreatDoorRexMath
import Derived.Deep.RegionHeld3
import Derived.Deep.RegionLaw
import Derived.Deep.QuietTactic
import Derived.Laws.BitsAllLaws
namespace Go.Proofs.YtbkpoimaienhpaaGreatDoor
open Go.RowKit
set_option linter.unusedVariables false
set_option linter.unusedSimpArgs false
def setC (S : Nat) : Array Value := #[.int .u64 (word S 0 : Nat), .int .u64 (word S 1 : Nat), .int .u64 (word S 2 : Nat), .int .u64 (word S 3 : Nat)]
def setV (S : Nat) : Value := .agg (setC S)
theorem setC_at (S i : Nat) (hi : i < 4) : (setC S)[i]? = some (.int .u64 (word S i : Nat)) := by
  match i, hi with
  | 0, _ => rfl
  | 1, _ => rfl
  | 2, _ => rfl
  | 3, _ => rfl
theorem has_bits (S b : Nat) : (bits .and .u64 ((word S (b / 64) : Int) / 2 ^ (b % 64)) 1 == 1) = S.testBit b := by
  have e : ((word S (b / 64) : Int) / 2 ^ (b % 64)) = ((word S (b / 64) >>> (b % 64) : Nat) : Int) := by
    rw [Nat.shiftRight_eq_div_pow]
    simp
  have h1 : word S (b / 64) >>> (b % 64) < 18446744073709551616 := by
    rw [Nat.shiftRight_eq_div_pow]
    exact Nat.lt_of_le_of_lt (Nat.div_le_self _ _) (word_lt S _)
  rw [e]
  rw [show (1 : Int) = ((1 : Nat) : Int) from rfl, u64_and_nat _ 1 h1 (by decide), Nat.and_one_is_mod, word_has]
  cases S.testBit b <;> rfl
set_option maxHeartbeats 800000 in
theorem rexHas_any (S b : Nat) (hb : b < 256) (W : World) :
    Calls Tryz.prog 68 #[setV S, .int .u8 (b : Int)] W fun e w' => e = .returned (.bool (S.testBit b)) ∧ Below W.heap.size W w' := by
  have c0 := ((Blk.new W 94 (setC S)).cell (b / 64)).trans (setC_at S (b / 64) (by omega))
  have k1 : ((b : Int).tdiv 64) = ((b / 64 : Nat) : Int) := by rw [Int.tdiv_eq_ediv_of_nonneg (by omega)]; omega
  have k2 : ((b : Int).tmod 64) = ((b % 64 : Nat) : Int) := by rw [Int.tmod_eq_emod_of_nonneg (by omega)]; omega
  unfold setV
  go_enter Tryz.func68, Tryz.ntmps68
  go_wp2
  go_ret
  rw [has_bits]
  exact ⟨rfl, (Below.refl _ _).alloc (Nat.le_refl _) _⟩
theorem setC_add (S b : Nat) (hb : b < 256) : (setC S).setIfInBounds (b / 64) (.int .u64 ((word S (b / 64) ||| 1 <<< (b % 64) : Nat) : Int)) = setC (S ||| 1 <<< b) := by
  apply Array.ext_getElem?
  intro i
  rw [Array.getElem?_setIfInBounds]
  have hs : (setC S).size = 4 := rfl
  by_cases hi : b / 64 = i
  · subst hi
    rw [if_pos rfl, if_pos (by omega), setC_at _ _ (by omega), word_add_self]
  · rw [if_neg hi]
    by_cases h4 : i < 4
    · rw [setC_at _ _ h4, setC_at _ _ h4, word_add_other _ _ _ (by omega)]
    · rw [Array.getElem?_eq_none (by rw [hs]; omega), Array.getElem?_eq_none (by show 4 ≤ i; omega)]
theorem one_shl (k : Nat) (hk : k < 64) : 1 <<< k < 18446744073709551616 := by
  rw [Nat.one_shiftLeft]
  exact Nat.pow_lt_pow_right (by decide) hk
theorem shl_wrap (k : Nat) (hk : k < 64) : IntKind.u64.wrap (2 ^ k) = ((1 <<< k : Nat) : Int) := by
  have h := one_shl k hk
  obtain ⟨m, hm⟩ : ∃ m, 1 <<< k = m := ⟨_, rfl⟩
  have e : ((2 : Int) ^ k) = (m : Int) := by rw [← hm, Nat.one_shiftLeft]; simp
  rw [e, IntKind.wrap_u64, hm]
  rw [hm] at h
  omega
theorem set_four {w : World} {g : Nat} {t : TypeId} {S : Nat} (h : Blk w g t (setC S)) (a b c d : Value) : Blk ((((w.setCell ⟨g, 0, none⟩ a).setCell ⟨g, 1, none⟩ b).setCell ⟨g, 2, none⟩ c).setCell ⟨g, 3, none⟩ d) g t #[a, b, c, d] :=
  (((h.set_ 0 a).set_ 1 b).set_ 2 c).set_ 3 d
set_option maxHeartbeats 800000 in
theorem rexWith_any (S lo hi : Nat) (hlo : lo < 256) (hhi : hi < 256) (W : World) :
    Calls Tryz.prog 153 #[setV S, .int .u8 (lo : Int), .int .u8 (hi : Int)] W fun e w' => e = .returned (setV (withB S lo hi)) ∧ Below W.heap.size W w' := by
  obtain ⟨g, hg⟩ : ∃ g, g = W.heap.size := ⟨_, rfl⟩
  unfold setV
  go_enter Tryz.func153, Tryz.ntmps153
  go_wp2
  go_loopw [7] (fun iv wr => ∃ (j : Nat), lo ≤ j ∧ j ≤ 256 ∧ (j ≤ hi + 1 ∨ j = lo) ∧ iv = .int .i64 (j : Nat) ∧ Hid (Below W.heap.size W wr) ∧ Blk wr W.heap.size 94 (setC (withN S lo (j - lo))) ∧ Blk wr (W.heap.size + 1) 94 (setC 0)) (fun iv _ => 256 - (intOf iv).toNat)
  case atStart =>
    refine ⟨lo, Nat.le_refl _, by omega, .inr rfl, rfl, Lib.hid (((Below.refl W.heap.size W).alloc (Nat.le_refl _) _).alloc (by simp) _), ?_, ?_⟩
    · rw [Nat.sub_self]
      exact (Blk.new W 94 (setC S)).alloc _
    · have h := Blk.new (W.alloc (Obj.cells (setC S) 94)) 94 (setC 0)
      rw [World.size_alloc] at h
      exact h
  case round =>
    obtain ⟨j, hlj, hj, hj2, rfl, HB, hb1, hb2⟩ := hrel
    by_cases h : j ≤ hi
    · have hI : (j : Int) ≤ (hi : Int) := by omega
      obtain ⟨q, hq⟩ : ∃ q, j / 64 = q := ⟨_, rfl⟩
      obtain ⟨r, hr⟩ : ∃ r, j % 64 = r := ⟨_, rfl⟩
      have k0 : (j : Int) / 64 = (q : Int) := by omega
      have k1 : IntKind.i64.wrap (q : Int) = (q : Int) := by rw [IntKind.wrap_i64]; omega
      have k2 : ((j : Int) % 64) = (r : Int) := by omega
      have k2' : ((j : Int).tmod 64) = (r : Int) := by rw [Int.tmod_eq_emod_of_nonneg (by omega)]; exact k2
      have k3 : (q : Int) < 4 := by omega
      have k4 := shl_wrap r (by omega)
      have k5 := u64_or_nat (word (withN S lo (j - lo)) q) (1 <<< r) (word_lt _ _) (one_shl _ (by omega))
      have d0 := ((hb1.drew).cell q).trans (setC_at _ q (by omega))
      have e0 := (hb1.drew).frozen q
      obtain ⟨m, hm⟩ : ∃ m, 1 <<< r = m := ⟨_, rfl⟩
      rw [hm] at k4 k5
      obtain ⟨m2, hm2⟩ : ∃ m2, word (withN S lo (j - lo)) q ||| m = m2 := ⟨_, rfl⟩
      rw [hm2] at k5
      go_wp2
      go_region_law (fail)
      go_wp2
      go_round
      case rel =>
        refine ⟨j + 1, by omega, by omega, .inl (by omega), by go_num, Lib.hid (below_drewN ((HB.out).setCell (by show W.heap.size ≤ W.heap.size; exact Nat.le_refl _) _) 1), ?_, (hb2.far (by show W.heap.size + 1 ≠ W.heap.size; omega) _).drew⟩
        have e : setC (withN S lo (j + 1 - lo)) = (setC (withN S lo (j - lo))).setIfInBounds q (.int .u64 (m2 : Int)) := by
          rw [show j + 1 - lo = (j - lo) + 1 by omega, withN_succ, show lo + (j - lo) = j by omega, ← setC_add _ _ (by omega), hq, hr, hm, hm2]
        rw [e]
        exact (hb1.set_ q _).drew
      case measure => simp [intOf]; omega
    · have hI : ¬ (j : Int) ≤ (hi : Int) := by omega
      have e0 := hb1.cell 0
      have e1 := hb1.cell 1
      have e2 := hb1.cell 2
      have e3 := hb1.cell 3
      rw [setC_at _ _ (by decide)] at e0 e1 e2 e3
      have d0 := hb2.cell 0
      have d1 := hb2.cell 1
      have d2 := hb2.cell 2
      have d3 := hb2.cell 3
      rw [setC_at _ _ (by decide)] at d0 d1 d2 d3
      have f0 := hb2.frozen 0
      have f1 := hb2.frozen 1
      have f2 := hb2.frozen 2
      have f3 := hb2.frozen 3
      go_wp2
      have hbf := set_four hb2 (.int .u64 (word (withN S lo (j - lo)) 0 : Nat)) (.int .u64 (word (withN S lo (j - lo)) 1 : Nat)) (.int .u64 (word (withN S lo (j - lo)) 2 : Nat)) (.int .u64 (word (withN S lo (j - lo)) 3 : Nat))
      refine bodyPost_ret (results_cell_row rfl _ _ (W.heap.size + 1) 94 (setC (withN S lo (j - lo))) (0, 0) _ rfl hbf Tryz.underlying94 rfl (by kernel_rfl)) rfl ?_
      have e : withN S lo (j - lo) = withB S lo hi := by
        rcases hj2 with h2 | h2
        · unfold withB; rw [show j = hi + 1 by omega]
        · unfold withB; rw [show hi + 1 - lo = 0 by omega, h2, Nat.sub_self]
      rw [e]
      exact ⟨rfl, (((HB.out.setCell (by show W.heap.size ≤ W.heap.size + 1; omega) _).setCell (by show W.heap.size ≤ W.heap.size + 1; omega) _).setCell (by show W.heap.size ≤ W.heap.size + 1; omega) _).setCell (by show W.heap.size ≤ W.heap.size + 1; omega) _⟩
end Go.Proofs.YtbkpoimaienhpaaGreatDoor
