-- shaken
import Derived.Test.YtbkpoimaienhpaaGreatDoorScan
import Derived.Test.YtbkpoimaienhpaaGreatDoorGet
import Derived.Test.YtbkpoimaienhpaaGreatDoorBase
import Derived.Laws.ResultCell
import Derived.Test.YtbkpoimaienhpaaGreatDoorRexSet
import Derived.Test.YtbkpoimaienhpaaGreatDoorRexOnes
import Derived.Laws.OwnMore
namespace Go.Proofs.YtbkpoimaienhpaaGreatDoor
open Go.RowKit
set_option linter.unusedVariables false
set_option linter.unusedSimpArgs false
theorem Blk.kept {w w' : World} {g b : Nat} {t : TypeId} {cs : Array Value} (h : Blk w g t cs) (hg : w.grownBy w' (some b)) (hb : g ≠ b) : Blk w' g t cs := (hg.block g h.lt (fun e => hb (by injection e))).trans h
theorem one_text (w : World) (s : ByteArray) : Texts (w.alloc (.cells #[.string s] 9)) (some ⟨w.heap.size, 0, none⟩) 1 [s] := ⟨rfl, fun _ => ⟨_, 0, rfl, by simp, fun j hj => by
  obtain rfl : j = 0 := by omega
  rw [(Blk.new w _ #[.string s]).cell 0]; rfl⟩⟩
theorem Rd.far {w : World} {b : Nat} {ty : TypeId} {cs : Array Value} {t : ByteArray} {k : Nat} (h : Rd w b ty cs t k) {p : Addr} (hp : b ≠ p.block) (v : Value) : Rd (w.setCell p v) b ty cs t k := ⟨h.blk.far hp v, h.c0, h.c1, h.le, h.sz⟩
theorem grown_new {W w : World} {row : Option Nat} (h : W.grownBy w row) {p : Addr} (hp : W.heap.size ≤ p.block) (v : Value) : W.grownBy (w.setCell p v) row :=
  ⟨h.os, h.tape, h.output, by simp [World.setCell]; exact h.size, fun k hk hr => (Below.heap_setCell w p v k (by omega)).trans (h.block k hk hr)⟩
theorem Blk.stays {w w' : World} {g : Nat} {t : TypeId} {cs : Array Value} {row : Option Nat} (h : Blk w g t cs) (hg : w.grownBy w' row) (hr : row = some g → False) : Blk w' g t cs := (hg.block g h.lt (fun e => hr e.symm)).trans h
def atL (t : ByteArray) (k : Nat) : List UInt8 := t.data.toList.drop k
theorem mid_list (p : ByteArray) (i j : Nat) : (p.extract i j).data.toList = (p.data.toList.take j).drop i := by
  rw [ByteArray.data_extract, Array.toList_extract]
  simp [List.extract, List.drop_take]
theorem rest_list (t : ByteArray) (k : Nat) : (t.extract k t.size).data.toList = atL t k := by
  rw [mid_list, List.take_of_length_le (by rw [size_toList]; exact Nat.le_refl _)]
  rfl
theorem at_add (t : ByteArray) (k : Nat) (a b : List UInt8) (h : atL t k = a ++ b) : atL t (k + a.length) = b := by
  unfold atL at *
  rw [← List.drop_drop, h]
  simp
theorem prefB_list (s p : ByteArray) : prefB s p = p.data.toList.isPrefixOf s.data.toList := by
  rw [Bool.eq_iff_iff, List.isPrefixOf_iff_prefix]
  unfold prefB
  rw [Bool.and_eq_true, decide_eq_true_iff, decide_eq_true_iff]
  constructor
  · rintro ⟨h1, h2⟩
    have h3 : (s.extract 0 p.size).data.toList = p.data.toList := by rw [h2]
    rw [mid_list, List.drop_zero] at h3
    rw [← h3]
    exact List.take_prefix _ _
  · intro h
    have hl := h.length_le
    rw [size_toList, size_toList] at hl
    refine ⟨hl, text_ext1 ?_⟩
    rw [mid_list, List.drop_zero, ← size_toList]
    exact (List.prefix_iff_eq_take.1 h).symm
theorem takeR_at (t : ByteArray) (k : Nat) (ss : List ByteArray) : takeR t k ss = ss.find? (fun s => s.data.toList.isPrefixOf (atL t k)) := by
  unfold takeR
  congr 1
  funext s
  rw [prefB_list, rest_list]
def tx (l : List UInt8) : ByteArray := ⟨l.toArray⟩
theorem tx_list (l : List UInt8) : (tx l).data.toList = l := by unfold tx; simp
theorem run_at (p : UInt8 → Bool) (t : ByteArray) (k : Nat) : runTo p t k = k + ((atL t k).takeWhile p).length := rfl
theorem run_tx (p : UInt8 → Bool) (t : ByteArray) (k : Nat) : t.extract k (runTo p t k) = tx ((atL t k).takeWhile p) := by
  refine text_ext1 ?_
  rw [tx_list, mid_list, run_at, List.drop_take, show k + ((atL t k).takeWhile p).length - k = ((atL t k).takeWhile p).length by omega]
  exact (List.prefix_iff_eq_take.1 (List.takeWhile_prefix p)).symm
theorem at_drop_add (t : ByteArray) (k n : Nat) : atL t (k + n) = (atL t k).drop n := by
  unfold atL
  rw [List.drop_drop]
theorem at_len (t : ByteArray) (k : Nat) : (atL t k).length = t.size - k := by
  unfold atL
  rw [List.length_drop, size_toList]
theorem at_cons (t : ByteArray) (k : Nat) (hk : k < t.size) : atL t k = t[k] :: atL t (k + 1) := by
  unfold atL
  have hl : k < t.data.toList.length := by rw [size_toList]; exact hk
  rw [List.drop_eq_getElem_cons hl]
  rfl
theorem at_end (t : ByteArray) (k : Nat) (hk : t.size ≤ k) : atL t k = [] := List.drop_eq_nil_of_le (by rw [size_toList]; exact hk)
theorem at_nil (t : ByteArray) (k : Nat) (h : atL t k = []) : t.size ≤ k := by
  have := at_len t k
  rw [h] at this
  simp only [List.length_nil] at this
  omega
theorem i64_and_127 (y : Nat) (hy : y < 9223372036854775808) : bits .and .i64 (y : Int) 127 = ((y % 128 : Nat) : Int) := by
  have e : bits .and .i64 (y : Int) 127 = IntKind.i64.wrap (BitVec.ofInt 64 (y : Int) &&& BitVec.ofInt 64 127).toNat := rfl
  rw [e]
  have h1 : (BitVec.ofInt 64 (y : Int) &&& BitVec.ofInt 64 127).toNat = y % 128 := by
    rw [BitVec.toNat_and, BitVec.ofInt_natCast, BitVec.toNat_ofNat, Nat.mod_eq_of_lt (by omega)]
    show y &&& 127 = _
    exact Nat.and_two_pow_sub_one_eq_mod y 7
  rw [h1, IntKind.wrap_i64]
  omega
set_option maxHeartbeats 800000 in
theorem ones_any (x : Nat) (hx : x < 18446744073709551616) (W : World) :
    Calls Tryz.prog 132 #[.int .u64 (x : Int)] W fun e w' => e = .returned (.int .i64 (manyN x 64 : Nat)) ∧ w' = W := by
  obtain ⟨x1, x2, x3, h1, l1, h2, l2, h3, l3, h4⟩ := ones64 x hx
  obtain ⟨r, hr⟩ : ∃ r, manyN x 64 = r := ⟨_, rfl⟩
  rw [hr] at h4 ⊢
  obtain ⟨a1, ha1⟩ : ∃ a, x / 2 &&& 6148914691236517205 = a := ⟨_, rfl⟩
  obtain ⟨a2, ha2⟩ : ∃ a, x &&& 6148914691236517205 = a := ⟨_, rfl⟩
  obtain ⟨a3, ha3⟩ : ∃ a, x1 / 4 &&& 3689348814741910323 = a := ⟨_, rfl⟩
  obtain ⟨a4, ha4⟩ : ∃ a, x1 &&& 3689348814741910323 = a := ⟨_, rfl⟩
  rw [ha1, ha2] at h1
  rw [ha3, ha4] at h2
  have k1 : bits .and .u64 ((x : Int) / 2) 6148914691236517205 = (a1 : Int) := by rw [← ha1, ← u64_and_nat (x / 2) 6148914691236517205 (by omega) (by decide)]; congr 1
  have k2 : bits .and .u64 (x : Int) 6148914691236517205 = (a2 : Int) := by rw [← ha2, ← u64_and_nat x 6148914691236517205 (by omega) (by decide)]; congr 1
  have k3 : bits .and .u64 ((x1 : Int) / 4) 3689348814741910323 = (a3 : Int) := by rw [← ha3, ← u64_and_nat (x1 / 4) 3689348814741910323 (by omega) (by decide)]; congr 1
  have k4 : bits .and .u64 (x1 : Int) 3689348814741910323 = (a4 : Int) := by rw [← ha4, ← u64_and_nat x1 3689348814741910323 (by omega) (by decide)]; congr 1
  have s1 : IntKind.u64.wrap ((a1 : Int) + (a2 : Int)) = (x1 : Int) := by rw [IntKind.wrap_u64]; omega
  have s2 : IntKind.u64.wrap ((a3 : Int) + (a4 : Int)) = (x2 : Int) := by rw [IntKind.wrap_u64]; omega
  have k5 : bits .and .u64 ((x2 : Int) / 16 + (x2 : Int)) 1085102592571150095 = (x3 : Int) := by rw [← h3, ← u64_and_nat (x2 / 16 + x2) 1085102592571150095 (by omega) (by decide)]; congr 1
  have s0 : IntKind.u64.wrap ((x2 : Int) / 16 + (x2 : Int)) = (x2 : Int) / 16 + (x2 : Int) := by rw [IntKind.wrap_u64]; omega
  clear ha1 ha2 ha3 ha4 h1 h2 h3
  obtain ⟨y1, e1⟩ : ∃ y, x3 + x3 / 256 = y := ⟨_, rfl⟩
  rw [e1] at h4
  obtain ⟨y2, e2⟩ : ∃ y, y1 + y1 / 65536 = y := ⟨_, rfl⟩
  rw [e2] at h4
  obtain ⟨y3, e3⟩ : ∃ y, y2 + y2 / 4294967296 = y := ⟨_, rfl⟩
  rw [e3] at h4
  have q1 : y1 < 2305843009213693952 := by
    have := Nat.div_lt_of_lt_mul (show x3 < 256 * 9007199254740992 by omega)
    omega
  have q2 : y2 < 4611686018427387904 := by
    have := Nat.div_lt_of_lt_mul (show y1 < 65536 * 35184372088832 by omega)
    omega
  have q3 : y3 < 9223372036854775808 := by
    have := Nat.div_lt_of_lt_mul (show y2 < 4294967296 * 1073741824 by omega)
    omega
  have z1 : ((x3 : Int) + (x3 : Int) / 256) = (y1 : Int) := by rw [← e1]; rfl
  have z2 : ((y1 : Int) + (y1 : Int) / 65536) = (y2 : Int) := by rw [← e2]; rfl
  have z3 : ((y2 : Int) + (y2 : Int) / 4294967296) = (y3 : Int) := by rw [← e3]; rfl
  clear e1 e2 e3
  have s3 : IntKind.u64.wrap ((x3 : Int) + (x3 : Int) / 256) = (y1 : Int) := by rw [z1, IntKind.wrap_u64]; clear z1 z2 z3; omega
  have s4 : IntKind.u64.wrap ((y1 : Int) + (y1 : Int) / 65536) = (y2 : Int) := by rw [z2, IntKind.wrap_u64]; clear z1 z2 z3; omega
  have s5 : IntKind.u64.wrap ((y2 : Int) + (y2 : Int) / 4294967296) = (y3 : Int) := by rw [z3, IntKind.wrap_u64]; clear z1 z2 z3; omega
  have s6 : wrap64 (y3 : Int) = (y3 : Int) := by clear z1 z2 z3; unfold wrap64; omega
  have k6 : bits .and .i64 (y3 : Int) 127 = (r : Int) := by
    rw [i64_and_127 y3 q3, h4]
  clear z1 z2 z3 h4 hr l1 l2 l3 q1 q2 q3
  go_enter Tryz.func132, Tryz.ntmps132
  go_wp2
  go_ret
  exact ⟨rfl, rfl⟩
theorem many_word (S j : Nat) : manyN S (64 * j) + manyN (word S j) 64 = manyN S (64 * (j + 1)) := by
  rw [show 64 * (j + 1) = 64 * j + 64 by omega, many_add]
  congr 1
  refine many_ext _ _ 64 (fun i hi => ?_)
  rw [word_bit, decide_eq_true hi, Bool.true_and, Nat.testBit_shiftRight]
theorem many_le (S : Nat) : ∀ n, manyN S n ≤ n
  | 0 => Nat.le_refl _
  | n + 1 => by
    have := many_le S n
    have h2 : (S.testBit n).toNat ≤ 1 := Bool.toNat_le _
    show manyN S n + _ ≤ n + 1
    omega
theorem idx0 (a b c d : Value) (w : World) : (Instr.index 94 (.agg #[a, b, c, d]) (.int .i64 0)).run Tryz.prog w = .ok a w := by kernel_rfl
theorem idx1 (a b c d : Value) (w : World) : (Instr.index 94 (.agg #[a, b, c, d]) (.int .i64 1)).run Tryz.prog w = .ok b w := by kernel_rfl
theorem idx2 (a b c d : Value) (w : World) : (Instr.index 94 (.agg #[a, b, c, d]) (.int .i64 2)).run Tryz.prog w = .ok c w := by kernel_rfl
theorem idx3 (a b c d : Value) (w : World) : (Instr.index 94 (.agg #[a, b, c, d]) (.int .i64 3)).run Tryz.prog w = .ok d w := by kernel_rfl
set_option maxRecDepth 100000 in
set_option maxHeartbeats 800000 in
theorem rexMany_any (S : Nat) (W : World) :
    Calls Tryz.prog 112 #[setV S] W fun e w' => e = .returned (.int .i64 (manyB S : Nat)) ∧ Below W.heap.size W w' := by
  have hb := Blk.new W 94 (setC S)
  have e0 := (hb.cell 0).trans (setC_at S 0 (by decide))
  have e1 := (hb.cell 1).trans (setC_at S 1 (by decide))
  have e2 := (hb.cell 2).trans (setC_at S 2 (by decide))
  have e3 := (hb.cell 3).trans (setC_at S 3 (by decide))
  have O := Lib.hid (fun j w => ones_any (word S j) (word_lt S j) w)
  have HB := Lib.hid ((Below.refl W.heap.size W).alloc (Nat.le_refl _) (.cells (setC S) 94))
  obtain ⟨r, hr⟩ : ∃ r, manyB S = r := ⟨_, rfl⟩
  rw [hr]
  have HR := Lib.hid (show manyN S 256 = r from hr)
  have i0 := idx0
  have i1 := idx1
  have i2 := idx2
  have i3 := idx3
  unfold setV
  clear hb hr
  go_enter Tryz.func112, Tryz.ntmps112
  go_wp2
  go_loop [3, 7] (fun m i => ∃ (j : Nat), j ≤ 4 ∧ i = .int .i64 j ∧ m = .int .i64 (manyN S (64 * j) : Nat)) (fun _ i => 4 - (intOf i).toNat)
  case atStart => exact ⟨0, by decide, rfl, rfl⟩
  case round =>
    obtain ⟨j, hj, rfl, rfl⟩ := hrel
    have M := many_word S j
    have l1 := many_le S (64 * (j + 1))
    obtain ⟨a, ha⟩ : ∃ a, manyN S (64 * j) = a := ⟨_, rfl⟩
    obtain ⟨b, hb⟩ : ∃ b, manyN (word S j) 64 = b := ⟨_, rfl⟩
    obtain ⟨c, hc⟩ : ∃ c, manyN S (64 * (j + 1)) = c := ⟨_, rfl⟩
    have s1 : IntKind.i64.wrap ((a : Int) + (b : Int)) = (c : Int) := by rw [IntKind.wrap_i64]; omega
    have OJ := O.out j
    obtain ⟨k, hk⟩ : ∃ k, j + 1 = k := ⟨_, rfl⟩
    have HK := Lib.hid (show manyN S (64 * k) = c by rw [← hk]; exact hc)
    rw [hb] at OJ
    rw [ha]
    replace OJ := Lib.hid OJ
    rcases (show j = 0 ∨ j = 1 ∨ j = 2 ∨ j = 3 ∨ j = 4 by omega) with rfl | rfl | rfl | rfl | rfl
    case inr.inr.inr.inr => 
      clear s1
      rw [show 64 * 4 = 256 by decide, HR.out] at ha
      subst ha
      go_wp2
      go_ret
      exact ⟨rfl, HB.out⟩
    all_goals
      clear ha hb hc M l1 O HR
      go_wp2_with fail
      refine (OJ.out _).mono ?_
      rintro e w ⟨rfl, rfl⟩
      go_wp2
      go_round
      case rel => exact ⟨k, by omega, by rw [← hk]; rfl, by rw [HK.out]⟩
      case measure => simp [intOf]
def mixW (S T j i : Nat) : Nat := if i < j then word T i else word S i
def mixC (S T j : Nat) : Array Value := #[.int .u64 (mixW S T j 0 : Nat), .int .u64 (mixW S T j 1 : Nat), .int .u64 (mixW S T j 2 : Nat), .int .u64 (mixW S T j 3 : Nat)]
theorem mixC_at (S T j i : Nat) (hi : i < 4) : (mixC S T j)[i]? = some (.int .u64 (mixW S T j i : Nat)) := by
  match i, hi with
  | 0, _ => rfl
  | 1, _ => rfl
  | 2, _ => rfl
  | 3, _ => rfl
theorem mixC_zero (S T : Nat) : mixC S T 0 = setC S := by
  unfold mixC setC mixW
  simp
theorem mixC_four (S T : Nat) : mixC S T 4 = setC T := by
  unfold mixC setC mixW
  simp
theorem mixC_next (S T j : Nat) (hj : j < 4) : (mixC S T j).setIfInBounds j (.int .u64 (word T j : Nat)) = mixC S T (j + 1) := by
  apply Array.ext_getElem?
  intro i
  rw [Array.getElem?_setIfInBounds]
  have hs : (mixC S T j).size = 4 := rfl
  by_cases hi : j = i
  · subst hi
    rw [if_pos rfl, if_pos (by omega), mixC_at _ _ _ _ hj]
    unfold mixW
    rw [if_pos (by omega)]
  · rw [if_neg hi]
    by_cases h4 : i < 4
    · rw [mixC_at _ _ _ _ h4, mixC_at _ _ _ _ h4]
      unfold mixW
      by_cases h5 : i < j
      · rw [if_pos h5, if_pos (by omega)]
      · rw [if_neg h5, if_neg (by omega)]
    · rw [Array.getElem?_eq_none (by rw [hs]; omega), Array.getElem?_eq_none (by show 4 ≤ i; omega)]
theorem mixW_at (S T j : Nat) : mixW S T j j = word S j := by unfold mixW; rw [if_neg (by omega)]
theorem new_at (w : World) (t : TypeId) (cs : Array Value) (g : Nat) (hg : g = w.heap.size) : Blk (w.alloc (.cells cs t)) g t cs := by
  subst hg
  exact Blk.new w t cs
set_option maxRecDepth 100000 in
set_option maxHeartbeats 800000 in
theorem others_any (S : Nat) (W : World) :
    Calls Tryz.prog 131 #[setV S] W fun e w' => e = .returned (setV (notB S)) ∧ Below W.heap.size W w' := by
  have WN := Lib.hid (word_not S)
  unfold setV
  go_enter Tryz.func131, Tryz.ntmps131
  go_wp2
  go_loopw [4] (fun iv wr => ∃ (j : Nat), j ≤ 4 ∧ iv = .int .i64 (j : Nat) ∧ Hid (Below W.heap.size W wr) ∧ Blk wr W.heap.size 94 (mixC S (notB S) j) ∧ Blk wr (W.heap.size + 1) 94 (setC 0)) (fun iv _ => 4 - (intOf iv).toNat)
  case atStart =>
    refine ⟨0, by decide, rfl, Lib.hid (((Below.refl W.heap.size W).alloc (Nat.le_refl _) _).alloc (by simp) _), ?_, new_at _ _ _ _ (by simp)⟩
    rw [mixC_zero]
    exact (Blk.new W 94 (setC S)).alloc _
  case round =>
    obtain ⟨j, hj, rfl, HB, hb1, hb2⟩ := hrel
    by_cases h : j < 4
    · have hI : (j : Int) < 4 := by omega
      have c0 := (hb1.cell j).trans (mixC_at _ _ _ _ h)
      rw [mixW_at] at c0
      have e0 := hb1.frozen j
      have k5 : bits .xor .u64 18446744073709551615 (word S j : Int) = (word (notB S) j : Nat) := by
        rw [WN.out j h, show (18446744073709551615 : Int) = ((18446744073709551615 : Nat) : Int) from rfl, u64_xor_nat _ _ (by decide) (word_lt _ _), Nat.xor_comm]
      go_wp2
      go_round
      case rel =>
        rw [show bits .xor .u64 (if IntKind.u64.signed = true then -1 else IntKind.u64.max) (word S j : Int) = (word (notB S) j : Nat) from k5]
        refine ⟨j + 1, by omega, by go_num, Lib.hid (HB.out.setCell (by show W.heap.size ≤ W.heap.size; exact Nat.le_refl _) _), ?_, hb2.far (by show W.heap.size + 1 ≠ W.heap.size; omega) _⟩
        rw [← mixC_next _ _ _ h]
        exact hb1.set_ j _
      case measure => simp [intOf]; omega
    · obtain rfl : j = 4 := by omega
      rw [mixC_four] at hb1
      have e0 := (hb1.cell 0).trans (setC_at _ _ (by decide))
      have e1 := (hb1.cell 1).trans (setC_at _ _ (by decide))
      have e2 := (hb1.cell 2).trans (setC_at _ _ (by decide))
      have e3 := (hb1.cell 3).trans (setC_at _ _ (by decide))
      have d0 := (hb2.cell 0).trans (setC_at _ _ (by decide))
      have d1 := (hb2.cell 1).trans (setC_at _ _ (by decide))
      have d2 := (hb2.cell 2).trans (setC_at _ _ (by decide))
      have d3 := (hb2.cell 3).trans (setC_at _ _ (by decide))
      have f0 := hb2.frozen 0
      have f1 := hb2.frozen 1
      have f2 := hb2.frozen 2
      have f3 := hb2.frozen 3
      go_wp2
      refine bodyPost_ret (results_cell_row rfl _ _ (W.heap.size + 1) 94 (setC (notB S)) (0, 0) _ rfl (set_four hb2 _ _ _ _) Tryz.underlying94 rfl (by kernel_rfl)) rfl ?_
      exact ⟨rfl, (((HB.out.setCell (by show W.heap.size ≤ W.heap.size + 1; omega) _).setCell (by show W.heap.size ≤ W.heap.size + 1; omega) _).setCell (by show W.heap.size ≤ W.heap.size + 1; omega) _).setCell (by show W.heap.size ≤ W.heap.size + 1; omega) _⟩
set_option maxRecDepth 100000 in
set_option maxHeartbeats 800000 in
theorem union_any (S T : Nat) (W : World) :
    Calls Tryz.prog 151 #[setV S, setV T] W fun e w' => e = .returned (setV (S ||| T)) ∧ Below W.heap.size W w' := by
  have WN := Lib.hid (word_or S T)
  unfold setV
  go_enter Tryz.func151, Tryz.ntmps151
  go_wp2
  go_loopw [6] (fun iv wr => ∃ (j : Nat), j ≤ 4 ∧ iv = .int .i64 (j : Nat) ∧ Hid (Below W.heap.size W wr) ∧ Blk wr W.heap.size 94 (mixC S (S ||| T) j) ∧ Blk wr (W.heap.size + 1) 94 (setC T) ∧ Blk wr (W.heap.size + 2) 94 (setC 0)) (fun iv _ => 4 - (intOf iv).toNat)
  case atStart =>
    refine ⟨0, by decide, rfl, Lib.hid ((((Below.refl W.heap.size W).alloc (Nat.le_refl _) _).alloc (by simp) _).alloc (by simp; omega) _), ?_, (new_at _ _ _ _ (by simp)).alloc _, new_at _ _ _ _ (by simp)⟩
    rw [mixC_zero]
    exact ((Blk.new W 94 (setC S)).alloc _).alloc _
  case round =>
    obtain ⟨j, hj, rfl, HB, hb1, hb3, hb2⟩ := hrel
    by_cases h : j < 4
    · have hI : (j : Int) < 4 := by omega
      have c0 := ((hb1.drew).cell j).trans (mixC_at _ _ _ _ h)
      rw [mixW_at] at c0
      have c1 := ((hb3.drew).cell j).trans (setC_at _ _ h)
      have e0 := (hb1.drew).frozen j
      have k5 : bits .or .u64 (word S j : Int) (word T j : Int) = (word (S ||| T) j : Nat) := by
        rw [WN.out j, u64_or_nat _ _ (word_lt _ _) (word_lt _ _)]
      go_wp2
      go_region_law (fail)
      go_wp2
      all_goals
        go_round
        case rel =>
          refine ⟨j + 1, by omega, by go_num, Lib.hid (below_drewN (HB.out.setCell (by show W.heap.size ≤ W.heap.size; exact Nat.le_refl _) _) 1), ?_, (hb3.far (by show W.heap.size + 1 ≠ W.heap.size; omega) _).drew, (hb2.far (by show W.heap.size + 2 ≠ W.heap.size; omega) _).drew⟩
          rw [← mixC_next _ _ _ h]
          exact (hb1.set_ j _).drew
        case measure => simp [intOf]; omega
    · obtain rfl : j = 4 := by omega
      rw [mixC_four] at hb1
      have e0 := (hb1.cell 0).trans (setC_at _ _ (by decide))
      have e1 := (hb1.cell 1).trans (setC_at _ _ (by decide))
      have e2 := (hb1.cell 2).trans (setC_at _ _ (by decide))
      have e3 := (hb1.cell 3).trans (setC_at _ _ (by decide))
      have d0 := (hb2.cell 0).trans (setC_at _ _ (by decide))
      have d1 := (hb2.cell 1).trans (setC_at _ _ (by decide))
      have d2 := (hb2.cell 2).trans (setC_at _ _ (by decide))
      have d3 := (hb2.cell 3).trans (setC_at _ _ (by decide))
      have f0 := hb2.frozen 0
      have f1 := hb2.frozen 1
      have f2 := hb2.frozen 2
      have f3 := hb2.frozen 3
      go_wp2
      refine bodyPost_ret (results_cell_row rfl _ _ (W.heap.size + 2) 94 (setC (S ||| T)) (0, 0) _ rfl (set_four hb2 _ _ _ _) Tryz.underlying94 rfl (by kernel_rfl)) rfl ?_
      exact ⟨rfl, (((HB.out.setCell (by show W.heap.size ≤ W.heap.size + 2; omega) _).setCell (by show W.heap.size ≤ W.heap.size + 2; omega) _).setCell (by show W.heap.size ≤ W.heap.size + 2; omega) _).setCell (by show W.heap.size ≤ W.heap.size + 2; omega) _⟩
def spanV (p : Nat × Nat) : List Value := [.int .u8 (p.1 : Int), .int .u8 (p.2 : Int)]
def foldB (l : List (Nat × Nat)) : Nat := l.foldl (fun S p => withB S p.1 p.2) 0
theorem foldB_next (l : List (Nat × Nat)) (j : Nat) (p : Nat × Nat) (h : l[j]? = some p) : foldB (l.take (j + 1)) = withB (foldB (l.take j)) p.1 p.2 := by
  unfold foldB
  rw [List.take_add_one, h, List.foldl_append]
  rfl
theorem set_cells {w : World} {g : Nat} {t : TypeId} {S : Nat} (h : Blk w g t (setC S)) :
    (w.cell? ⟨g, 0, none⟩ = some (.int .u64 (word S 0 : Nat)) ∧ w.cell? ⟨g, 1, none⟩ = some (.int .u64 (word S 1 : Nat)) ∧ w.cell? ⟨g, 2, none⟩ = some (.int .u64 (word S 2 : Nat)) ∧ w.cell? ⟨g, 3, none⟩ = some (.int .u64 (word S 3 : Nat))) ∧
    (w.frozen? ⟨g, 0, none⟩ = false ∧ w.frozen? ⟨g, 1, none⟩ = false ∧ w.frozen? ⟨g, 2, none⟩ = false ∧ w.frozen? ⟨g, 3, none⟩ = false) :=
  ⟨⟨(h.cell 0).trans (setC_at _ _ (by decide)), (h.cell 1).trans (setC_at _ _ (by decide)), (h.cell 2).trans (setC_at _ _ (by decide)), (h.cell 3).trans (setC_at _ _ (by decide))⟩, h.frozen 0, h.frozen 1, h.frozen 2, h.frozen 3⟩
theorem below_four {B : Nat} {a w : World} (h : Below B a w) {g : Nat} (hg : B ≤ g) (x y z v : Value) : Below B a ((((w.setCell ⟨g, 0, none⟩ x).setCell ⟨g, 1, none⟩ y).setCell ⟨g, 2, none⟩ z).setCell ⟨g, 3, none⟩ v) :=
  (((h.setCell hg _).setCell hg _).setCell hg _).setCell hg _
theorem far_four {w : World} {g g' : Nat} {t : TypeId} {cs : Array Value} (h : Blk w g t cs) (hg : g ≠ g') (x y z v : Value) : Blk ((((w.setCell ⟨g', 0, none⟩ x).setCell ⟨g', 1, none⟩ y).setCell ⟨g', 2, none⟩ z).setCell ⟨g', 3, none⟩ v) g t cs :=
  (((h.far hg _).far hg _).far hg _).far hg _
set_option maxRecDepth 100000 in
set_option maxHeartbeats 1600000 in
theorem setOf_any (A : Option Addr) (n c : Nat) (l : List (Nat × Nat)) (hl : ∀ p ∈ l, p.1 < 256 ∧ p.2 < 256) (hn : n ≤ 9223372036854775806) (W : World) (hR : RowR spanV 2 W A n l) :
    Calls Tryz.prog 147 #[.slice A n c] W fun e w' => e = .returned (setV (foldB l)) ∧ Below W.heap.size W w' := by
  have HL := Lib.hid hl
  have HR := Lib.hid hR
  have hz := hR.1
  unfold setV
  clear hl hR
  go_enter Tryz.func147, Tryz.ntmps147
  go_wp2
  go_loopw [8] (fun iv wr => ∃ (j : Nat), j ≤ n ∧ iv = .int .i64 (j : Nat) ∧ Hid (Below W.heap.size W wr) ∧ Hid (W.heap.size + 1 < wr.heap.size) ∧ Blk wr W.heap.size 94 (setC 0) ∧ Blk wr (W.heap.size + 1) 94 (setC (foldB (l.take j)))) (fun iv _ => n - (intOf iv).toNat)
  case atStart =>
    refine ⟨0, Nat.zero_le _, rfl, Lib.hid (((Below.refl W.heap.size W).alloc (Nat.le_refl _) _).alloc (by simp) _), Lib.hid (by show W.heap.size + 1 < ((W.alloc _).alloc _).heap.size; rw [World.size_alloc, World.size_alloc]; omega), (Blk.new W 94 (setC 0)).alloc _, ?_⟩
    exact new_at (W.alloc (.cells (setC 0) 94)) 94 (setC 0) _ (by simp)
  case round =>
    obtain ⟨j, hj, rfl, HB, HS, hb1, hb2⟩ := hrel
    by_cases h : j < n
    · have hI : (j : Int) < n := by omega
      obtain ⟨b, off, rfl, hlt, hc⟩ := HR.out.2 (by omega)
      obtain ⟨p, hp⟩ : ∃ p, l[j]? = some p := ⟨l[j], List.getElem?_eq_getElem (by omega)⟩
      have c0 := (HB.out.cell (p := ⟨b, off + j * 2 + 0, none⟩) hlt).trans (hc j 0 p hp (by decide))
      have c1 := (HB.out.cell (p := ⟨b, off + j * 2 + 1, none⟩) hlt).trans (hc j 1 p hp (by decide))
      rw [Nat.add_zero] at c0
      have hnx := foldB_next l j p hp
      have hp2 := HL.out p (List.mem_of_getElem? hp)
      obtain ⟨lo, hi⟩ := p
      simp only [spanV, List.getElem?_cons_zero, List.getElem?_cons_succ] at c0 c1
      obtain ⟨S, hS⟩ : ∃ S, foldB (l.take j) = S := ⟨_, rfl⟩
      rw [hS] at hb2 hnx
      have HW := Lib.hid (fun w => rexWith_any S lo hi hp2.1 hp2.2 w)
      unfold setV at HW
      have HB2 := Lib.hid hb2
      have HB1 := Lib.hid hb1
      have HN := Lib.hid hnx
      obtain ⟨⟨e0, e1, e2, e3⟩, _⟩ := set_cells (hb2.alloc (.cells #[.int .u8 (lo : Int), .int .u8 (hi : Int)] 189))
      clear hc hp hb1 hb2 hS hnx hp2
      have hsz := HS.out
      go_wp2_with fail
      refine (HW.out _).mono ?_
      rintro e w1 ⟨rfl, hx⟩
      have hb2 := (HB2.out.alloc (.cells #[.int .u8 (lo : Int), .int .u8 (hi : Int)] 189)).below hx (HB2.out.alloc _).lt
      have HB1' := Lib.hid ((HB1.out.alloc (.cells #[.int .u8 (lo : Int), .int .u8 (hi : Int)] 189)).below hx (HB1.out.alloc _).lt)
      have HB3 := Lib.hid (hop (HB.out.alloc (by omega) (.cells #[.int .u8 (lo : Int), .int .u8 (hi : Int)] 189)) (Nat.le_refl _) hx)
      have HS3 := Lib.hid (show W.heap.size + 1 < w1.heap.size by have := hx.size; rw [World.size_alloc] at this; omega)
      obtain ⟨⟨d0, d1, d2, d3⟩, f0, f1, f2, f3⟩ := set_cells hb2
      have HB2' := Lib.hid hb2
      clear e0 e1 e2 e3 hb2 hx c0 c1
      unfold setC
      go_wp2
      go_round
      case rel =>
        refine ⟨j + 1, by omega, by go_num, Lib.hid (below_four HB3.out (Nat.le_succ _) _ _ _ _), Lib.hid (by show W.heap.size + 1 < _; simp; exact HS3.out), far_four HB1'.out (by show W.heap.size ≠ W.heap.size + 1; omega) _ _ _ _, ?_⟩
        rw [HN.out]
        exact set_four HB2'.out _ _ _ _
      case measure => simp [intOf]; omega
    · obtain rfl : j = n := by omega
      have hI : ¬ (j : Int) < (j : Int) := by omega
      rw [List.take_of_length_le (by omega)] at hb2
      obtain ⟨⟨e0, e1, e2, e3⟩, _⟩ := set_cells hb2
      obtain ⟨⟨d0, d1, d2, d3⟩, f0, f1, f2, f3⟩ := set_cells hb1
      have HB1 := Lib.hid hb1
      clear hb1 hb2 HR HL
      go_wp2
      refine bodyPost_ret (results_cell_row rfl _ _ W.heap.size 94 (setC (foldB l)) (0, 0) _ rfl (set_four HB1.out _ _ _ _) Tryz.underlying94 rfl (by kernel_rfl)) rfl ?_
      exact ⟨rfl, below_four HB.out (Nat.le_refl _) _ _ _ _⟩
theorem spans_lit (W : World) (l : List (Nat × Nat)) (g : Nat) (hg : g = W.heap.size) : RowR spanV 2 (W.alloc (.cells (rowV spanV l).toArray 189)) (some ⟨g, 0, none⟩) l.length l := by
  subst hg
  refine ⟨rfl, fun _ => ⟨_, 0, rfl, by simp, fun j i a hj hi => ?_⟩⟩
  rw [(Blk.new W 189 (rowV spanV l).toArray).cell, Nat.zero_add, List.getElem?_toArray, rowV_at (s := 2) (fun _ => rfl) l j i a hj hi]
theorem setC_zero : setC 0 = #[.int .u64 0, .int .u64 0, .int .u64 0, .int .u64 0] := rfl
theorem setOf_lit (l : List (Nat × Nat)) (n : Nat) (hn : l.length = n) (hl : ∀ p ∈ l, p.1 < 256 ∧ p.2 < 256) (h63 : n ≤ 9223372036854775806) (W : World) (g : Nat) (hg : g = W.heap.size + 1) :
    Calls Tryz.prog 147 #[.slice (some ⟨g, 0, none⟩) n n] ((W.alloc (.cells #[.int .u64 0, .int .u64 0, .int .u64 0, .int .u64 0] 94)).alloc (.cells (rowV spanV l).toArray 189)) fun e w' =>
      e = .returned (.agg (setC (foldB l))) ∧ Below W.heap.size W w' ∧ Blk w' W.heap.size 94 (setC 0) := by
  subst hn hg
  have hsz : W.heap.size + 1 = (W.alloc (.cells #[.int .u64 0, .int .u64 0, .int .u64 0, .int .u64 0] 94)).heap.size := by simp
  have SO := setOf_any (some ⟨W.heap.size + 1, 0, none⟩) l.length l.length l hl h63 _ (spans_lit (W.alloc (.cells #[.int .u64 0, .int .u64 0, .int .u64 0, .int .u64 0] 94)) l _ hsz)
  have B0 : Below W.heap.size W (W.alloc (.cells #[.int .u64 0, .int .u64 0, .int .u64 0, .int .u64 0] 94)) := (Below.refl _ _).alloc (Nat.le_refl _) _
  have K0 : Blk (W.alloc (.cells #[.int .u64 0, .int .u64 0, .int .u64 0, .int .u64 0] 94)) W.heap.size 94 (setC 0) := by rw [setC_zero]; exact Blk.new _ _ _
  refine SO.mono ?_
  rintro e w ⟨he, hx⟩
  have K1 := K0.alloc (.cells (rowV spanV l).toArray 189)
  exact ⟨he, hop (B0.alloc (by omega) _) (Nat.le_refl _) hx, K1.below hx K1.lt⟩
theorem cell_told {W w : World} {S : Nat} (hb : Below W.heap.size W w) : Below W.heap.size W ((((w.setCell ⟨W.heap.size, 0, none⟩ (.int .u64 (word S 0 : Nat))).setCell ⟨W.heap.size, 1, none⟩ (.int .u64 (word S 1 : Nat))).setCell ⟨W.heap.size, 2, none⟩ (.int .u64 (word S 2 : Nat))).setCell ⟨W.heap.size, 3, none⟩ (.int .u64 (word S 3 : Nat))) :=
  below_four hb (Nat.le_refl _) _ _ _ _
set_option maxHeartbeats 1600000 in
theorem single_any (b : Nat) (hb : b < 256) (W : World) :
    Calls Tryz.prog 130 #[.int .u8 (b : Int)] W fun e w' => e = .returned (setV (oneB b)) ∧ Below W.heap.size W w' := by
  have SO := Lib.hid (setOf_lit [(b, b)] 1 rfl (by simp; omega) (by decide) W _ rfl)
  have hx : setC (foldB [(b, b)]) = setC (oneB b) := rfl
  rw [hx] at SO
  obtain ⟨T, hT⟩ : ∃ T, oneB b = T := ⟨_, rfl⟩
  rw [hT] at SO ⊢
  unfold setV
  clear hx hT
  go_enter Tryz.func130, Tryz.ntmps130
  go_wp2_with fail
  refine SO.out.mono ?_
  rintro e w1 ⟨rfl, hb1, hk⟩
  have HB := Lib.hid hb1
  have HK := Lib.hid hk
  obtain ⟨⟨d0, d1, d2, d3⟩, f0, f1, f2, f3⟩ := set_cells hk
  clear hb1 hk SO
  unfold setC
  go_wp2
  refine bodyPost_ret (results_cell_row rfl _ _ W.heap.size 94 (setC T) (0, 0) _ rfl (set_four HK.out _ _ _ _) Tryz.underlying94 rfl (by kernel_rfl)) rfl ?_
  exact ⟨rfl, cell_told HB.out⟩
set_option maxHeartbeats 1600000 in
theorem anyByte_any (W : World) :
    Calls Tryz.prog 111 #[] W fun e w' => e = .returned (setV anyB) ∧ Below W.heap.size W w' := by
  have K0 : Blk (W.alloc (.cells #[.int .u64 0, .int .u64 0, .int .u64 0, .int .u64 0] 94)) W.heap.size 94 (setC 0) := by rw [setC_zero]; exact Blk.new _ _ _
  have HB0 := Lib.hid ((Below.refl W.heap.size W).alloc (Nat.le_refl _) (.cells #[.int .u64 0, .int .u64 0, .int .u64 0, .int .u64 0] 94))
  have HK0 := Lib.hid K0
  have SN := Lib.hid (fun w => single_any 10 (by decide) w)
  have OT := Lib.hid (fun w => others_any (oneB 10) w)
  have e : notB (oneB 10) = anyB := rfl
  rw [e] at OT
  obtain ⟨T, hT⟩ : ∃ T, anyB = T := ⟨_, rfl⟩
  obtain ⟨T0, hT0⟩ : ∃ T, oneB 10 = T := ⟨_, rfl⟩
  rw [hT] at OT ⊢
  rw [hT0] at OT SN
  clear e hT hT0 K0
  go_enter Tryz.func111, Tryz.ntmps111
  go_wp2_with fail
  refine (SN.out _).mono ?_
  rintro e w1 ⟨rfl, hx1⟩
  have HB1 := Lib.hid (hop HB0.out (Nat.le_refl _) hx1)
  have HK1 := Lib.hid (HK0.out.below hx1 HK0.out.lt)
  clear hx1 HB0 HK0
  go_wp2_with fail
  refine (OT.out _).mono ?_
  rintro e w2 ⟨rfl, hx2⟩
  have HB := Lib.hid (hop HB1.out (Nat.le_refl _) hx2)
  have hk := HK1.out.below hx2 HK1.out.lt
  have HK := Lib.hid hk
  obtain ⟨⟨d0, d1, d2, d3⟩, f0, f1, f2, f3⟩ := set_cells hk
  clear hx2 hk HB1 HK1
  unfold setV setC
  go_wp2
  refine bodyPost_ret (results_cell_row rfl _ _ W.heap.size 94 (setC T) (0, 0) _ rfl (set_four HK.out _ _ _ _) Tryz.underlying94 rfl (by kernel_rfl)) rfl ?_
  exact ⟨rfl, cell_told HB.out⟩
def runE (S : Nat) : Nat → Nat → Nat
  | 0, b => b
  | n + 1, b => if b < 255 ∧ S.testBit (b + 1) = true then runE S n (b + 1) else b
def spansF (S : Nat) : Nat → Nat → List (Nat × Nat)
  | 0, _ => []
  | n + 1, b => if 256 ≤ b then [] else if S.testBit b then (b, runE S 256 b) :: spansF S n (runE S 256 b + 1) else spansF S n (b + 1)
def spansL (S : Nat) : List (Nat × Nat) := spansF S 256 0
theorem runE_ge (S : Nat) : ∀ n b, b ≤ runE S n b
  | 0, b => Nat.le_refl _
  | n + 1, b => by
    rw [runE]
    split
    · exact Nat.le_trans (Nat.le_succ _) (runE_ge S n (b + 1))
    · exact Nat.le_refl _
theorem runE_le (S : Nat) : ∀ n b, b ≤ 255 → runE S n b ≤ 255
  | 0, b, h => h
  | n + 1, b, h => by
    rw [runE]
    split
    · rename_i h2; exact runE_le S n (b + 1) (by omega)
    · exact h
theorem infoSpan : (Tryz.prog.info? 189).map (fun i => (i.zero, i.size, i.bytes)) = some (some (.agg #[.int .u8 0, .int .u8 0]), 2, 2) := by kernel_rfl
theorem spanV_one (p : Nat × Nat) : ∀ u ∈ spanV p, u.oneCell' = true := by
  intro u hu
  simp [spanV] at hu
  rcases hu with rfl | rfl <;> rfl
theorem spanV_len (p : Nat × Nat) : (spanV p).length = 2 := rfl
theorem spansF_len (S : Nat) : ∀ n b, (spansF S n b).length ≤ n
  | 0, b => Nat.le_refl _
  | n + 1, b => by
    rw [spansF]
    split
    · simp
    · split
      · rw [List.length_cons]; have := spansF_len S n (runE S 256 b + 1); omega
      · have := spansF_len S n (b + 1); omega
set_option maxRecDepth 100000 in
set_option maxHeartbeats 3200000 in
theorem spans_any (S : Nat) (W : World) :
    Calls Tryz.prog 114 #[setV S] W fun e w' => (∃ v, e = .returned v ∧ OwnR spanV 2 w' W.heap.size 189 v (spansL S)) ∧ Below W.heap.size W w' := by
  obtain ⟨i0, hi, hz0, hz1, hz2⟩ := info_parts infoSpan
  have HH := Lib.hid (fun b hb w => rexHas_any S b hb w)
  have hb0 := Blk.new W 94 (setC S)
  have HB0 := Lib.hid hb0
  unfold setV at *
  clear hb0
  go_enter Tryz.func114, Tryz.ntmps114
  go_wp2
  go_loopw [3, 4] (fun v iv wr => ∃ (m b : Nat) (acc : List (Nat × Nat)), b ≤ 256 ∧ 256 ≤ b + m ∧ iv = .int .i64 (b : Nat) ∧ acc.length ≤ b ∧ Hid (OwnR spanV 2 wr (W.heap.size + 1) 189 v acc) ∧ Hid (acc ++ spansF S m b = spansL S) ∧ Hid (Below W.heap.size W wr) ∧ Hid (W.heap.size + 1 ≤ wr.heap.size) ∧ Hid (Blk wr W.heap.size 94 (setC S))) (fun _ iv _ => 256 - (intOf iv).toNat)
  case atStart =>
    exact ⟨256, 0, [], by decide, by decide, rfl, Nat.le_refl _, Lib.hid (OwnR.nil _ _ _), Lib.hid rfl, Lib.hid ((Below.refl _ _).alloc (Nat.le_refl _) _), Lib.hid (by rw [World.size_alloc]; exact Nat.le_refl _), HB0⟩
  case round =>
    obtain ⟨m, b, acc, hb, hm, rfl, hal, HO, HE, HB, HS, HK⟩ := hrel
    by_cases h : b < 256
    · have hI : (b : Int) < 256 := by omega
      obtain ⟨m, rfl⟩ : ∃ k, m = k + 1 := ⟨m - 1, by omega⟩
      have hcv : IntKind.u8.wrap (b : Int) = (b : Int) := by rw [IntKind.wrap_u8]; omega
      have HA := HH.out b h
      obtain ⟨⟨e0, e1, e2, e3⟩, _⟩ := set_cells HK.out
      have HEx := HE.out
      rw [spansF, if_neg (by omega)] at HEx
      cases ht : S.testBit b with
      | false =>
        rw [ht] at HA HEx
        rw [if_neg (by decide)] at HEx
        replace HA := Lib.hid HA
        have HE2 := Lib.hid HEx
        clear HEx ht
        go_wp2_with fail
        refine (HA.out _).mono ?_
        rintro e w1 ⟨rfl, hx⟩
        have HO2 := Lib.hid (HO.out.below hx)
        have HB2 := Lib.hid (hop HB.out (Nat.le_refl _) hx)
        have HS2 := Lib.hid (Nat.le_trans HS.out hx.size)
        have HK2 := Lib.hid (HK.out.below hx HK.out.lt)
        clear hx
        go_wp2
        go_round
        case rel => exact ⟨m, b + 1, acc, by omega, by omega, by go_num, by omega, HO2, HE2, HB2, HS2, HK2⟩
        case measure => simp [intOf]; omega
      | true =>
        rw [ht] at HA HEx
        rw [if_pos rfl] at HEx
        replace HA := Lib.hid HA
        have HE2 := Lib.hid HEx
        clear HEx ht
        go_wp2_with fail
        refine (HA.out _).mono ?_
        rintro e w1 ⟨rfl, hx⟩
        have HO2 := Lib.hid (HO.out.below hx)
        have HB2 := Lib.hid (hop HB.out (Nat.le_refl _) hx)
        have HS2 := Lib.hid (Nat.le_trans HS.out hx.size)
        have HK2 := Lib.hid (HK.out.below hx HK.out.lt)
        clear hx e0 e1 e2 e3 HO HB HS HK HE HA
        go_wp2
        obtain ⟨v0, hv0⟩ : ∃ v, v = w1 := ⟨_, rfl⟩
        go_loopw [4] (fun iv wq => ∃ (k j : Nat), b ≤ j ∧ j ≤ 255 ∧ 256 ≤ j + k ∧ iv = .int .i64 (j : Nat) ∧ Hid (runE S k j = runE S 256 b) ∧ Hid (Below w1.heap.size w1 wq)) (fun iv _ => 256 - (intOf iv).toNat)
        case atStart => exact ⟨256, b, Nat.le_refl _, by omega, by omega, rfl, Lib.hid rfl, Lib.hid (Below.refl _ _)⟩
        case round =>
          obtain ⟨k, j, hbj, hj, hk, rfl, HR, HQ⟩ := hrel
          by_cases h2 : j < 255
          · have hI2 : (j : Int) < 255 := by omega
            have hcj : IntKind.u8.wrap (j : Int) = (j : Int) := by rw [IntKind.wrap_u8]; omega
            have hcj2 : IntKind.u8.wrap ((j : Int) + 1) = ((j + 1 : Nat) : Int) := by rw [IntKind.wrap_u8]; omega
            have HA := HH.out (j + 1) (by omega)
            have hKx := HK2.out.below HQ.out HK2.out.lt
            obtain ⟨⟨e0, e1, e2, e3⟩, _⟩ := set_cells hKx
            clear hKx
            cases ht : S.testBit (j + 1) with
            | true =>
              rw [ht] at HA
              replace HA := Lib.hid HA
              have HRn := Lib.hid (show runE S (k - 1) (j + 1) = runE S 256 b by
                rw [← HR.out]
                obtain ⟨k, rfl⟩ : ∃ q, k = q + 1 := ⟨k - 1, by omega⟩
                rw [runE, if_pos ⟨h2, ht⟩]
                rfl)
              go_wp2_with fail
              refine (HA.out _).mono ?_
              rintro e w2 ⟨rfl, hx⟩
              have HQ2 := Lib.hid (hop HQ.out (Nat.le_refl _) hx)
              clear hx ht
              go_wp2
              go_round
              case rel => exact ⟨k - 1, j + 1, by omega, by omega, by omega, by go_num, HRn, HQ2⟩
              case measure => simp [intOf]; omega
            | false =>
              rw [ht] at HA
              replace HA := Lib.hid HA
              go_wp2_with fail
              refine (HA.out _).mono ?_
              rintro e w2 ⟨rfl, hx⟩
              have HQ3 := Lib.hid (hop HQ.out (Nat.le_refl _) hx)
              clear hx e0 e1 e2 e3
              have HRj := Lib.hid (show runE S 256 b = j by
                rw [← HR.out]
                cases k with
                | zero => omega
                | succ k => rw [runE, if_neg (by rintro ⟨q1, q2⟩; rw [ht] at q2; cases q2)])
              have HO3 := Lib.hid (HO2.out.below HQ3.out)
              have HB3 := Lib.hid (hop HB2.out (Nat.le_refl _) HQ3.out)
              have HS3 := Lib.hid (Nat.le_trans HS2.out HQ3.out.size)
              have HK3 := Lib.hid (HK2.out.below HQ3.out HK2.out.lt)
              go_wp2_with (at_builtin; refine wpList_append_own _ rfl (.tmp 27) (.tmp 33) 190 rfl (W.heap.size + 1) 189 i0 (.agg #[.int .u8 0, .int .u8 0]) 2 2 Tryz.underlying190 hi hz0 hz1 hz2 rfl (by decide) _ _ _ rfl (OwnR.alloc HO3.out _) ⟨w2.heap.size, 0, none⟩ 1 1 (spanV (b, j)) rfl rfl (new_cells_at _ _ _ _ (by simp)) (spanV_one _) (by unfold maxLen; omega) (by omega) (by simp; have := HS3.out; omega) ?_)
              intro v' w4 hown' hgrow _
              have hrow : ∀ r, Value.ownBlock _ = some r → W.heap.size + 1 ≤ r ∧ r < w2.heap.size := fun r hr => World.ownsRow.lt HO3.out r hr
              have hsz3 := HS3.out
              have HB4 := Lib.hid ((HB3.out.alloc (by omega) _).grown hgrow (by simp; omega) (fun r hr => Nat.le_of_succ_le (hrow r hr).1))
              have HO4 := Lib.hid (OwnR.snoc hown')
              have HK4 := Lib.hid ((HK3.out.alloc (.cells (spanV (b, j)).toArray 189)).stays hgrow (fun e => by have := (hrow _ e).1; omega))
              have HS4 := Lib.hid (show W.heap.size + 1 ≤ w4.heap.size by have := hgrow.size; rw [World.size_alloc] at this; omega)
              have hE := HE2.out
              rw [HRj.out] at hE
              have HE4 := Lib.hid (show (acc ++ [(b, j)]) ++ spansF S m (j + 1) = spansL S by rw [List.append_assoc]; exact hE)
              clear hE hown' hgrow hrow
              go_wp2
              go_round
              case rel => exact ⟨m, j + 1, acc ++ [(b, j)], by omega, by omega, by go_num, by rw [List.length_append]; simp; omega, HO4, HE4, HB4, HS4, HK4⟩
              case measure => simp [intOf]; omega
          · obtain rfl : j = 255 := by omega
            have HQ3 := HQ
            have hnl : ¬ (255 : Int) < 255 := by decide
            have hcj : IntKind.u8.wrap (255 : Int) = 255 := by decide
            have HRj := Lib.hid (show runE S 256 b = 255 by
              rw [← HR.out]
              cases k with
              | zero => omega
              | succ k => rw [runE, if_neg (by rintro ⟨q1, q2⟩; omega)])
            have HO3 := Lib.hid (HO2.out.below HQ3.out)
            have HB3 := Lib.hid (hop HB2.out (Nat.le_refl _) HQ3.out)
            have HS3 := Lib.hid (Nat.le_trans HS2.out HQ3.out.size)
            have HK3 := Lib.hid (HK2.out.below HQ3.out HK2.out.lt)
            go_wp2_with (at_builtin; refine wpList_append_own _ rfl (.tmp 27) (.tmp 33) 190 rfl (W.heap.size + 1) 189 i0 (.agg #[.int .u8 0, .int .u8 0]) 2 2 Tryz.underlying190 hi hz0 hz1 hz2 rfl (by decide) _ _ _ rfl (OwnR.alloc HO3.out _) ⟨wr.heap.size, 0, none⟩ 1 1 (spanV (b, 255)) rfl rfl (new_cells_at _ _ _ _ (by simp)) (spanV_one _) (by unfold maxLen; omega) (by omega) (by simp; have := HS3.out; omega) ?_)
            intro v' w4 hown' hgrow _
            have hrow : ∀ r, Value.ownBlock _ = some r → W.heap.size + 1 ≤ r ∧ r < wr.heap.size := fun r hr => World.ownsRow.lt HO3.out r hr
            have hsz3 := HS3.out
            have HB4 := Lib.hid ((HB3.out.alloc (by omega) _).grown hgrow (by simp; omega) (fun r hr => Nat.le_of_succ_le (hrow r hr).1))
            have HO4 := Lib.hid (OwnR.snoc hown')
            have HK4 := Lib.hid ((HK3.out.alloc (.cells (spanV (b, 255)).toArray 189)).stays hgrow (fun e => by have := (hrow _ e).1; omega))
            have HS4 := Lib.hid (show W.heap.size + 1 ≤ w4.heap.size by have := hgrow.size; rw [World.size_alloc] at this; omega)
            have hE := HE2.out
            rw [HRj.out] at hE
            have HE4 := Lib.hid (show (acc ++ [(b, 255)]) ++ spansF S m (255 + 1) = spansL S by rw [List.append_assoc]; exact hE)
            clear hE hown' hgrow hrow
            go_wp2
            go_round
            case rel => exact ⟨m, 255 + 1, acc ++ [(b, 255)], by omega, by omega, by go_num, by rw [List.length_append]; simp; omega, HO4, HE4, HB4, HS4, HK4⟩
            case measure => simp [intOf]; omega
    · obtain rfl : b = 256 := by omega
      have hEx := HE.out
      have hnil : spansF S m 256 = [] := by
        cases m with
        | zero => rfl
        | succ m => rw [spansF, if_pos (Nat.le_refl _)]
      rw [hnil, List.append_nil] at hEx
      subst hEx
      have hI : ¬ (256 : Int) < 256 := by decide
      clear hnil
      go_wp2
      go_ret
      exact ⟨⟨_, rfl, HO.out.mono (Nat.le_succ _)⟩, HB.out⟩
end Go.Proofs.YtbkpoimaienhpaaGreatDoor
