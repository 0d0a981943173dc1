/- The walk of the law SplitBehind: each time of a range lies in one piece alone, and that is the first one behind it. -/
import Derived.Test.YtmdpdffifpbbeaaCut
import Derived.Test.YtmdpdffifpbbeaaManyLaw
import Derived.Deep.QuietTactic
import Derived.BigQuiet
namespace Go.Proofs.Ytmdpdffifpbbeaa
open Go.RowKit
set_option linter.unusedVariables false

theorem below_drewN {B : Nat} {a w : World} (h : Below B a w) (n : Nat) : Below B a (w.drewN n) := ⟨h.os, h.tape, h.output, h.size, h.block⟩
theorem row_drop {w : World} {g d m : Nat} {xs : List (Int × Int)} (hm : m + d = xs.length) (h : ∀ j, j < m * 2 → w.cell? ⟨g, j, none⟩ = (spanCells (xs.drop d))[j]?) (i : Nat) (hi : i < m) :
    w.cell? ⟨g, i * 2, none⟩ = some (.int .i64 (xs.getD (d + i) (0, 0)).1) ∧ w.cell? ⟨g, i * 2 + 1, none⟩ = some (.int .i64 (xs.getD (d + i) (0, 0)).2) := by
  obtain ⟨a, b⟩ := cells_at (xs.drop d) i (by rw [List.length_drop]; omega)
  have e : (xs.drop d).getD i (0, 0) = xs.getD (d + i) (0, 0) := by simp [List.getD_eq_getElem?_getD]
  rw [e] at a b
  rw [List.getElem?_toArray] at a b
  exact ⟨(h _ (by omega)).trans a, (h _ (by omega)).trans b⟩

set_option maxHeartbeats 400000 in
theorem behindLaw_in (x wd mm at_ P r w8 m8 : Int) (n d : Nat) (asc : Bool) (hx : -2147483648 ≤ x) (hx2 : x ≤ 2147483647) (h8 : 0 ≤ w8) (h82 : w8 ≤ 255) (h9 : 0 ≤ m8) (h92 : m8 ≤ 255) (ha : 0 ≤ at_) (ha2 : at_ ≤ 65535)
    (hwd : w8 % 50 = wd) (hwd1 : 0 ≤ wd) (hwd2 : wd < 50) (hmm : m8 % 64 = mm) (hmm1 : 0 ≤ mm) (hmm2 : mm < 64) (hP : (wd + 1) * (1 + mm) = P) (hP1 : 1 ≤ P) (hP2 : P ≤ 3200) (hP3 : x + P - x = P) (hr : at_ % P = r) (hr1 : 0 ≤ r) (hr2 : r < P)
    (hn : Hid ((n : Int) = (x + P - x - 1) / (wd + 1) + 1)) (hn1 : n ≤ 64) (hcut : Hid (Cut (told x (x + P) (wd + 1) n asc) asc (x + r) d)) (W : World) :
    Calls Try.prog 5 #[.int .i32 x, .int .u8 w8, .int .u8 m8, .int .u16 at_, .bool asc] W fun e w' => e = .returned (.bool true) ∧ Below W.heap.size W w' := by
  have hP4 : (P == 0) = false := by rw [beq_eq_false_iff_ne]; omega
  go_enter Try.func5, Try.ntmps5
  go_wp2_with fail
  refine (examples_any _).mono ?_
  rintro e w1 ⟨rfl, hbel1⟩
  go_wp2_with fail
  refine (all_any asc _ _ _ (by omega) (by omega) (by omega) (by omega) (by omega) n hn hn1 _).mono ?_
  rintro e w2 ⟨g, rfl, hg, hb, hbel2⟩
  have hlt2 := hb.lt
  have hrow := RowOf.blk hb
  clear hb hwd hmm hP hr
  obtain ⟨xs, hxs⟩ : ∃ xs, xs = told x (x + P) (wd + 1) n asc := ⟨_, rfl⟩
  rw [← hxs] at hrow
  have hcut' : Cut xs asc (x + r) d := by rw [hxs]; exact hcut.out
  have hlen : xs.length = n := by rw [hxs]; exact told_len _ _ _ _ _
  clear hxs hcut
  have HC := Lib.hid hcut'
  have HL := Lib.hid hlen
  have HR := Lib.hid hrow
  have hdn : d < n := by rw [← hlen]; exact hcut'.lt
  clear hcut' hlen hrow
  go_wp2_with fail
  go_loop [18, 19] (fun a i => ∃ k : Nat, k ≤ n ∧ i = .int .i64 k ∧ a = .int .i64 (if d < k then 1 else 0)) (fun _ i => n - (intOf i).toNat)
  case atStart => exact ⟨0, Nat.zero_le _, rfl, by simp⟩
  case round =>
    obtain ⟨k, hk, rfl, rfl⟩ := hrel
    by_cases hkn : k < n
    · obtain ⟨c0, c1⟩ := HR.out k (by rw [HL.out]; exact hkn)
      have hin := HC.out.inn k (by rw [HL.out]; exact hkn)
      obtain ⟨y, hy⟩ : ∃ y, y = xs.getD k (0, 0) := ⟨_, rfl⟩
      rw [← hy] at c0 c1 hin
      have HY := Lib.hid hy
      have HI := Lib.hid hin
      clear hy hin
      rcases (by omega : k < d ∨ k = d ∨ d < k) with h | h | h
      · rw [if_neg (by omega)]
        by_cases h1 : y.1 ≤ x + r
        · have h2 : ¬ x + r < y.2 := fun h2 => by have := HI.out.1 ⟨h1, h2⟩; omega
          go_wp2
          go_round
          case rel => exact ⟨k + 1, by omega, by go_num, by rw [if_neg (by omega)]⟩
          case measure => simp [intOf]; omega
        · go_wp2
          go_round
          case rel => exact ⟨k + 1, by omega, by go_num, by rw [if_neg (by omega)]⟩
          case measure => simp [intOf]; omega
      · obtain ⟨h1, h2⟩ := HI.out.2 h
        rw [if_neg (by omega)]
        have HK := Lib.hid h
        clear h
        go_wp2
        go_round
        case rel => exact ⟨k + 1, by omega, by go_num, by rw [if_pos (by have := HK.out; omega)]⟩
        case measure => simp [intOf]; omega
      · rw [if_pos (by omega)]
        by_cases h1 : y.1 ≤ x + r
        · have h2 : ¬ x + r < y.2 := fun h2 => by have := HI.out.1 ⟨h1, h2⟩; omega
          go_wp2
          go_round
          case rel => exact ⟨k + 1, by omega, by go_num, by rw [if_pos (by omega)]⟩
          case measure => simp [intOf]; omega
        · go_wp2
          go_round
          case rel => exact ⟨k + 1, by omega, by go_num, by rw [if_pos (by omega)]⟩
          case measure => simp [intOf]; omega
    · obtain rfl : k = n := by omega
      rw [if_pos hdn]
      go_wp2_with fail
      refine (behind_any asc (x + r) _ g k k xs HL.out hn1 _ (fun _ => ⟨rfl, hlt2, HR.out⟩)).mono ?_
      rintro e w3 ⟨v, rfl, hown, hbel3⟩
      rw [filter_cut _ _ _ HC.out.may_at, List.length_drop, HL.out] at hown
      obtain ⟨m, hm⟩ : ∃ m, k = m + d := ⟨k - d, by omega⟩
      have hm1 : 1 ≤ m := by omega
      have hk2 : k - d = m := by omega
      rw [hk2] at hown
      obtain ⟨g3, cap, rfl, hg3, hlt3, hc3⟩ := own_at hown hm1
      have HD : ∀ i, i < m → _ := row_drop (by rw [HL.out, hm]) hc3
      have hrow3 := HR.out.below hbel3 hlt2
      have HD := Lib.hid HD
      have HR3 := Lib.hid hrow3
      have HM := Lib.hid hm
      have hmk : m ≤ k := by omega
      clear hrow3 hc3 hk2 hm hown
      go_wp2_with fail
      go_loopw [21] (fun i wr => ∃ j q : Nat, j ≤ m ∧ i = .int .i64 j ∧ wr = w3.drewN q) (fun i _ => m - (intOf i).toNat)
      case atStart => exact ⟨0, 0, Nat.zero_le _, rfl, rfl⟩
      case round =>
        obtain ⟨j, q, hj, rfl, rfl⟩ := hrel
        by_cases hjm : j < m
        · obtain ⟨b0, b1⟩ := HD.out j hjm
          obtain ⟨l0, l1⟩ := HR3.out (d + j) (by rw [HL.out, HM.out]; omega)
          have hidx : (k : Int) - m + j = ((d + j : Nat) : Int) := by have := HM.out; omega
          have hlt : d + j < k := by have := HM.out; omega
          go_wp2
          go_quiet (fail)
          go_wp2
          go_roundw
          case rel => exact ⟨j + 1, _, by omega, by go_num, rfl⟩
          case measure => simp [intOf]; omega
        · obtain rfl : j = m := by omega
          obtain ⟨b0, b1⟩ := HD.out 0 hm1
          obtain ⟨e0, e1⟩ := (HC.out.inn (d + 0) (by rw [HL.out, HM.out]; omega)).2 rfl
          simp only [Nat.zero_mul, Nat.zero_add, Nat.add_zero] at b0 b1 e0 e1
          obtain ⟨y, hy⟩ : ∃ y, y = xs.getD d (0, 0) := ⟨_, rfl⟩
          rw [← hy] at b0 b1 e0 e1
          clear hy
          go_wp2
          go_ret
          exact ⟨rfl, ((hbel1.trans (hbel2.mono hbel1.size)).trans (hbel3.mono (Nat.le_trans hbel1.size hbel2.size))).trans (below_drewN (Below.refl _ _) _)⟩

theorem bd8 {x : Int} (h : (Lit.int .u8 x).wf = true) : 0 ≤ x ∧ x ≤ 255 := by
  simpa [Lit.wf, IntKind.min, IntKind.max, IntKind.signed, IntKind.bits] using h
theorem even_many (f w : Int) (n : Nat) (hw : 1 ≤ w) : (n : Int) = (f + n * w - f - 1) / w + 1 := by
  have e : f + n * w - f - 1 = (w - 1) + ((n : Int) - 1) * w := by rw [Int.sub_mul]; omega
  rw [e, Int.add_mul_ediv_right _ _ (by omega), Int.ediv_eq_zero_of_lt (by omega) (by omega)]
  omega
theorem behindLaw_walk (x w8 m8 at_ : Int) (asc : Bool) (h0 : (Lit.int .i32 x).wf = true) (h1 : (Lit.int .u8 w8).wf = true) (h2 : (Lit.int .u8 m8).wf = true) (h3 : (Lit.int .u16 at_).wf = true) (W : World) :
    Calls Try.prog 5 #[.int .i32 x, .int .u8 w8, .int .u8 m8, .int .u16 at_, .bool asc] W fun e w' => e = .returned (.bool true) ∧ Below W.heap.size W w' := by
  obtain ⟨x1, x2⟩ := bd32 h0
  obtain ⟨a1, a2⟩ := bd8 h1
  obtain ⟨b1, b2⟩ := bd8 h2
  obtain ⟨c1, c2⟩ := bd16 h3
  obtain ⟨w, hw⟩ : ∃ w : Nat, (w : Int) = w8 % 50 + 1 := ⟨(w8 % 50 + 1).toNat, by omega⟩
  obtain ⟨n, hn⟩ : ∃ n : Nat, (n : Int) = 1 + m8 % 64 := ⟨(1 + m8 % 64).toNat, by omega⟩
  obtain ⟨P, hP⟩ : ∃ P : Nat, P = w * n := ⟨_, rfl⟩
  have hw1 : 1 ≤ w := by omega
  have hw2 : w ≤ 50 := by omega
  have hn1 : 1 ≤ n := by omega
  have hn2 : n ≤ 64 := by omega
  have hP1 : 1 ≤ P := by rw [hP]; exact Nat.mul_pos hw1 hn1
  have hP2 : P ≤ 3200 := by rw [hP]; exact Nat.mul_le_mul hw2 hn2
  have hPi : (P : Int) = (w : Int) * n := by rw [hP, Int.natCast_mul]
  have hPj : (P : Int) = (n : Int) * w := by rw [hPi, Int.mul_comm]
  have hr1 : 0 ≤ at_ % (P : Int) := Int.emod_nonneg _ (by omega)
  have hr2 : at_ % (P : Int) < P := Int.emod_lt_of_pos _ (by omega)
  obtain ⟨r, hr⟩ : ∃ r : Nat, (r : Int) = at_ % (P : Int) := ⟨(at_ % (P : Int)).toNat, by omega⟩
  have hj : r / w < n := by
    rw [Nat.div_lt_iff_lt_mul hw1]
    rw [Nat.mul_comm, ← hP]
    omega
  have hdm := Nat.div_add_mod r w
  have hlt := Nat.mod_lt r (y := w) (by omega)
  have hq : ((r / w : Nat) : Int) * w = ((w * (r / w) : Nat) : Int) := by rw [Int.natCast_mul, Int.mul_comm]
  have hcut : Cut (told x (x + n * w) w n asc) asc (x + r) (if asc then r / w else n - 1 - r / w) := cut_of x w (x + r) n (r / w) asc (by omega) hj (by rw [hq]; omega) (by rw [hq]; omega)
  have hmany := even_many x w n (by omega)
  rw [← hPj] at hcut hmany
  rw [hw] at hcut hmany
  exact behindLaw_in x (w8 % 50) (m8 % 64) at_ P r w8 m8 n _ asc x1 x2 a1 a2 b1 b2 c1 c2 rfl (by omega) (by omega) rfl (by omega) (by omega) (by rw [hPi, hw, hn]) (by omega) (by omega) (by omega) hr.symm (by omega) (by omega) (Lib.hid hmany) hn2 (Lib.hid hcut) W
end Go.Proofs.Ytmdpdffifpbbeaa
