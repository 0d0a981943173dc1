/- The walk of the law SplitTells: whatever range is asked for, the program's pieces are the document's. -/
import Derived.Test.YtmdpdffifpbbeaaRefBehind
import Derived.Test.YtmdpdffifpbbeaaWholeLaw
import Derived.Deep.DeepCutAuto
import Derived.Deep.CutBlock
namespace Go.Proofs.Ytmdpdffifpbbeaa
open Go.RowKit
set_option linter.unusedVariables false

theorem and_small (x : Int) (m : Nat) (hm : m < 1024) : ∃ k : Nat, k ≤ m ∧ bits .and .i64 x (m : Int) = k := by
  have h : (BitVec.ofInt 64 x &&& BitVec.ofInt 64 (m : Int)).toNat ≤ m := by
    rw [BitVec.toNat_and, BitVec.ofInt_natCast, BitVec.toNat_ofNat, Nat.mod_eq_of_lt (by omega : m < 2 ^ 64)]
    exact Nat.and_le_right
  refine ⟨(BitVec.ofInt 64 x &&& BitVec.ofInt 64 (m : Int)).toNat, h, ?_⟩
  show IntKind.i64.wrap ((BitVec.ofInt 64 x &&& BitVec.ofInt 64 (m : Int)).toNat : Int) = _
  rw [IntKind.wrap_i64]
  omega
theorem and_255 (x : Int) : ∃ k : Nat, k ≤ 255 ∧ bits .and .i64 x 255 = k := and_small x 255 (by decide)
theorem and_1023' (x : Int) : ∃ k : Nat, k ≤ 1023 ∧ bits .and .i64 x 1023 = k := and_small x 1023 (by decide)
theorem and_63 (x : Int) : ∃ k : Nat, k ≤ 63 ∧ bits .and .i64 x 63 = k := and_small x 63 (by decide)
def I64 (x : Int) : Prop := -9223372036854775808 ≤ x ∧ x ≤ 9223372036854775807

theorem tmod_in (x : Int) (m : Int) (h : 0 < m) (h2 : m ≤ 100) : I64 (x.tmod m) := by
  have h3 := Int.tmod_lt_of_pos x h
  have h4 := Int.lt_tmod_of_pos x h
  exact ⟨by omega, by omega⟩
theorem row_own {w : World} {B e : Nat} {v : Value} {n : Nat} {xs : List (Int × Int)} (h : w.ownsRow B e 2 v n (spanCells xs)) (hl : xs.length = n) (hn : 0 < n) : ∃ g cap, v = .slice (some ⟨g, 0, none⟩) n cap ∧ B ≤ g ∧ g < w.heap.size ∧ RowOf w g xs := by
  obtain ⟨g, cap, hv, hb, hlt, hc⟩ := own_at h hn
  refine ⟨g, cap, hv, hb, hlt, fun i hi => ?_⟩
  obtain ⟨a, b⟩ := cells_at xs i hi
  rw [List.getElem?_toArray] at a b
  exact ⟨(hc _ (by omega)).trans a, (hc _ (by omega)).trans b⟩
theorem own_shape {w : World} {B e size : Nat} {v : Value} {n : Nat} {xs : List Value} (h : w.ownsRow B e size v n xs) : ∃ A cap, v = .slice A n cap := by
  rcases h.2 with ⟨rfl, rfl⟩ | ⟨g, cap, cur, rfl, _⟩
  · exact ⟨_, _, rfl⟩
  · exact ⟨_, _, rfl⟩

/-- what a range comes to: so many pieces, or the error -/
def Comes (f t w : Int) (n : Nat) (e : Int) : Prop :=
  (e = 3 ∧ n = 0 ∧ (t ≤ f ∨ w < 1)) ∨ (e = 3 ∧ n = 0 ∧ f < t ∧ 1 ≤ w ∧ 64 < (t - f - 1) / w + 1) ∨ (e = 0 ∧ f < t ∧ 1 ≤ w ∧ n ≤ 64 ∧ (n : Int) = (t - f - 1) / w + 1)
theorem comes (f t w : Int) : ∃ n e, Comes f t w n e := by
  by_cases h : t ≤ f ∨ w < 1
  · exact ⟨0, 3, .inl ⟨rfl, rfl, h⟩⟩
  · by_cases h2 : 64 < (t - f - 1) / w + 1
    · exact ⟨0, 3, .inr (.inl ⟨rfl, rfl, by omega, by omega, h2⟩)⟩
    · have h0 : 0 ≤ (t - f - 1) / w := Int.ediv_nonneg (by omega) (by omega)
      exact ⟨((t - f - 1) / w + 1).toNat, 0, .inr (.inr ⟨rfl, by omega, by omega, by omega, by omega⟩)⟩
def Slice (w : World) (B : Nat) (A : Option Addr) (g : Nat) (n : Nat) (xs : List (Int × Int)) : Prop := 0 < n → A = some ⟨g, 0, none⟩ ∧ B ≤ g ∧ g < w.heap.size ∧ RowOf w g xs
theorem many_gen (f t w : Int) (n : Nat) (e : Int) (hf : I64 f) (ht : I64 t) (hw : I64 w) (h : Comes f t w n e) (W : World) :
    Calls Try.prog 9 #[.int .i64 f, .int .i64 t, .int .i64 w] W fun E w' => E = .returned (.tuple #[.int .i64 n, .int .i64 e]) ∧ W = w' := by
  rcases h with ⟨rfl, rfl, h⟩ | ⟨rfl, rfl, h1, h2, h⟩ | ⟨rfl, h1, h2, h3, h⟩
  · exact many_none f t w h W
  · exact many_much f t w hf.1 ht.2 h1 h2 hw.2 h W
  · exact many_n f t w n hf.1 ht.2 h1 h2 hw.2 (Lib.hid h) (by omega) W
theorem refMany_gen (f t w : Int) (n : Nat) (e : Int) (hf : I64 f) (ht : I64 t) (hw : I64 w) (h : Comes f t w n e) (W : World) :
    Calls Try.prog 10 #[.int .i64 f, .int .i64 t, .int .i64 w] W fun E w' => E = .returned (.tuple #[.int .i64 n, .int .i64 e]) ∧ W = w' := by
  rcases h with ⟨rfl, rfl, h⟩ | ⟨rfl, rfl, h1, h2, h⟩ | ⟨rfl, h1, h2, h3, h⟩
  · exact refMany_none f t w h W
  · exact refMany_much f t w hf.1 ht.2 h1 h2 hw.2 h W
  · exact refMany_ok f t w n hf.1 ht.2 h1 h2 hw.2 (Lib.hid h) (by omega) W
def toldOr (f t w : Int) (n : Nat) (asc : Bool) : List (Int × Int) := if n = 0 then [] else told f t w n asc
theorem toldOr_len (f t w : Int) (n : Nat) (asc : Bool) : (toldOr f t w n asc).length = n := by
  unfold toldOr; split
  · simp [*]
  · exact told_len _ _ _ _ _
theorem all_gen (asc : Bool) (f t w : Int) (n : Nat) (e : Int) (hf : I64 f) (ht : I64 t) (hw : I64 w) (h : Comes f t w n e) (W : World) :
    Calls Try.prog 11 #[.int .i64 f, .int .i64 t, .int .i64 w, .bool asc] W fun E w' => ∃ A g c, E = .returned (.tuple #[.slice A n c, .int .i64 e]) ∧ Slice w' W.heap.size A g n (toldOr f t w n asc) ∧ Below W.heap.size W w' := by
  rcases h with ⟨rfl, rfl, h⟩ | ⟨rfl, rfl, h1, h2, h⟩ | ⟨rfl, h1, h2, h3, h⟩
  · exact (all_none asc f t w h W).mono fun E w' ⟨h1, h2⟩ => ⟨none, 0, 0, h1, fun h => absurd h (by omega), by subst h2; exact Below.refl _ _⟩
  · exact (all_much asc f t w hf.1 ht.2 h1 h2 hw.2 h W).mono fun E w' ⟨h1, h2⟩ => ⟨none, 0, 0, h1, fun h => absurd h (by omega), by subst h2; exact Below.refl _ _⟩
  · refine (all_any asc f t w hf.1 ht.2 h1 h2 hw.2 n (Lib.hid h) h3 W).mono fun E w' ⟨g, h1, h2, h3, h4⟩ => ⟨_, g, _, h1, fun hn => ⟨rfl, h2, h3.lt, ?_⟩, h4⟩
    rw [toldOr, if_neg (by omega)]
    exact RowOf.blk h3
theorem refAll_gen (asc : Bool) (f t w : Int) (n : Nat) (e : Int) (hf : I64 f) (ht : I64 t) (hw : I64 w) (h : Comes f t w n e) (W : World) :
    Calls Try.prog 12 #[.int .i64 f, .int .i64 t, .int .i64 w, .bool asc] W fun E w' => ∃ A g c, E = .returned (.tuple #[.slice A n c, .int .i64 e]) ∧ Slice w' W.heap.size A g n (toldOr f t w n asc) ∧ Below W.heap.size W w' := by
  rcases h with ⟨rfl, rfl, h⟩ | ⟨rfl, rfl, h1, h2, h⟩ | ⟨rfl, h1, h2, h3, h⟩
  · exact (refAll_none asc f t w h W).mono fun E w' ⟨h1, h2⟩ => ⟨none, 0, 0, h1, fun h => absurd h (by omega), by subst h2; exact Below.refl _ _⟩
  · exact (refAll_much asc f t w hf.1 ht.2 h1 h2 hw.2 h W).mono fun E w' ⟨h1, h2⟩ => ⟨none, 0, 0, h1, fun h => absurd h (by omega), by subst h2; exact Below.refl _ _⟩
  · refine (refAll_any asc f t w hf.1 ht.2 h1 h2 hw.2 n (Lib.hid h) h3 W).mono fun E w' ⟨v, h1, h2, h4⟩ => ?_
    have hn : 0 < n := by have := Int.ediv_nonneg (a := t - f - 1) (b := w) (by omega) (by omega); omega
    obtain ⟨g, cap, rfl, hg, hlt, hrow⟩ := row_own h2 (told_len _ _ _ _ _) hn
    refine ⟨_, g, cap, h1, fun _ => ⟨rfl, hg, hlt, ?_⟩, h4⟩
    rw [toldOr, if_neg (by omega)]
    exact hrow
theorem own_slice {w : World} {B e : Nat} {v : Value} {n : Nat} {xs : List (Int × Int)} (h : w.ownsRow B e 2 v n (spanCells xs)) (hl : xs.length = n) : ∃ A g c, v = .slice A n c ∧ Slice w B A g n xs := by
  by_cases hn : 0 < n
  · obtain ⟨g, cap, rfl, hg, hlt, hrow⟩ := row_own h hl hn
    exact ⟨_, g, cap, rfl, fun _ => ⟨rfl, hg, hlt, hrow⟩⟩
  · obtain ⟨A, c, rfl⟩ := own_shape h
    exact ⟨A, 0, c, rfl, fun h => absurd h hn⟩
theorem Slice.keep {w w' : World} {B B' g n : Nat} {A : Option Addr} {xs : List (Int × Int)} (h : Slice w B A g n xs) (hb : Below w.heap.size w w') (hB : B' ≤ B) : Slice w' B' A g n xs := fun hn => by
  obtain ⟨a, b, c, d⟩ := h hn
  exact ⟨a, Nat.le_trans hB b, Nat.lt_of_lt_of_le c hb.size, d.below hb c⟩
theorem Slice.asked {w : World} {B g n : Nat} {A : Option Addr} {xs : List (Int × Int)} (h : Slice w B A g n xs) : 0 < n → A = some ⟨g, 0, none⟩ ∧ g < w.heap.size ∧ RowOf w g xs := fun hn => by
  obtain ⟨a, b, c, d⟩ := h hn
  exact ⟨a, c, d⟩

set_option maxRecDepth 100000 in
set_option maxHeartbeats 2000000 in
theorem tellsLaw_in (x y d ts h : Int) (asc : Bool) (h1 : -9223372036854775808 ≤ x) (h2 : x ≤ 9223372036854775807) (h3 : -9223372036854775808 ≤ y) (h4 : y ≤ 9223372036854775807) (h5 : -9223372036854775808 ≤ d) (h6 : d ≤ 9223372036854775807)
    (h7 : -9223372036854775808 ≤ ts) (h8 : ts ≤ 9223372036854775807) (h9 : 0 ≤ h) (h10 : h ≤ 255) (W : World) :
    Calls Try.prog 3 #[.int .i64 x, .int .i64 y, .int .i64 d, .bool asc, .int .u8 h, .int .i64 ts] W fun e w' => e = .returned (.bool true) ∧ Below W.heap.size W w' := by
  obtain ⟨k1, k1b, b1⟩ := and_255 x
  obtain ⟨k2, k2b, b2⟩ := and_255 y
  obtain ⟨k3, k3b, b3⟩ := and_1023' x
  obtain ⟨k4, k4b, b4⟩ := and_63 d
  go_enter Try.func3, Try.ntmps3
  go_wp2_with fail
  refine (examples_any _).mono ?_
  rintro e w1 ⟨rfl, hbel1⟩
  go_upto_block 0 with fail
  go_cut [0, 1, 2, 5] (fun a b c e wx => ∃ f t w s : Int, a = .int .i64 f ∧ b = .int .i64 t ∧ c = .int .i64 w ∧ e = .int .i64 s ∧ I64 f ∧ I64 t ∧ I64 w ∧ w1 = wx)
  case first =>
    rcases (by omega : h % 4 = 0 ∨ h % 4 = 1 ∨ h % 4 = 2 ∨ h % 4 = 3) with hh | hh | hh | hh
    · have g1 : (h % 4 == 1) = false := by rw [beq_eq_false_iff_ne]; omega
      have g2 : (h % 4 == 2) = false := by rw [beq_eq_false_iff_ne]; omega
      have g3 : (h % 4 == 3) = false := by rw [beq_eq_false_iff_ne]; omega
      clear hh
      go_wp2_with fail
      go_meet
      case rel => exact ⟨_, _, _, _, rfl, rfl, rfl, rfl, ⟨h1, h2⟩, ⟨h3, h4⟩, ⟨h5, h6⟩, rfl⟩
    · have g1 : (h % 4 == 1) = true := by rw [beq_iff_eq]; omega
      clear hh
      go_wp2_with fail
      go_meet
      case rel => exact ⟨_, _, _, _, rfl, rfl, rfl, rfl, tmod_in _ _ (by omega) (by omega), tmod_in _ _ (by omega) (by omega), tmod_in _ _ (by omega) (by omega), rfl⟩
    · have g1 : (h % 4 == 1) = false := by rw [beq_eq_false_iff_ne]; omega
      have g2 : (h % 4 == 2) = true := by rw [beq_iff_eq]; omega
      clear hh
      go_wp2_with fail
      go_meet
      case rel => exact ⟨_, _, _, _, rfl, rfl, rfl, rfl, ⟨by omega, by omega⟩, ⟨by omega, by omega⟩, ⟨h5, h6⟩, rfl⟩
    · have g1 : (h % 4 == 1) = false := by rw [beq_eq_false_iff_ne]; omega
      have g2 : (h % 4 == 2) = false := by rw [beq_eq_false_iff_ne]; omega
      have g3 : (h % 4 == 3) = true := by rw [beq_iff_eq]; omega
      clear hh
      go_wp2_with fail
      go_meet
      case rel => exact ⟨_, _, _, _, rfl, rfl, rfl, rfl, ⟨by omega, by omega⟩, ⟨by omega, by omega⟩, ⟨by omega, by omega⟩, rfl⟩
  case rest =>
    obtain ⟨f, t, w, s, rfl, rfl, rfl, rfl, ⟨f1, f2⟩, ⟨t1, t2⟩, ⟨w1', w2'⟩, rfl⟩ := hcut
    clear b1 b2 b3 b4
    obtain ⟨n, e, hc⟩ := comes f t w
    have HC := Lib.hid hc
    have hn64 : n ≤ 64 := by rcases hc with ⟨_, h, _⟩ | ⟨_, h, _⟩ | ⟨_, _, _, h, _⟩ <;> omega
    clear hc
    go_wp2_with fail
    refine (many_gen f t w n e ⟨f1, f2⟩ ⟨t1, t2⟩ ⟨w1', w2'⟩ HC.out _).mono ?_
    rintro E w' ⟨rfl, rfl⟩
    go_wp2_with fail
    refine (refMany_gen f t w n e ⟨f1, f2⟩ ⟨t1, t2⟩ ⟨w1', w2'⟩ HC.out _).mono ?_
    rintro E w' ⟨rfl, rfl⟩
    go_wp2_with fail
    refine (all_gen asc f t w n e ⟨f1, f2⟩ ⟨t1, t2⟩ ⟨w1', w2'⟩ HC.out _).mono ?_
    rintro E w2 ⟨A1, g1, c1, rfl, hs1, hbel2⟩
    go_wp2_with fail
    refine (refAll_gen asc f t w n e ⟨f1, f2⟩ ⟨t1, t2⟩ ⟨w1', w2'⟩ HC.out _).mono ?_
    rintro E w3 ⟨A2, g2, c2, rfl, hs2, hbel3⟩
    obtain ⟨xs, hxs⟩ : ∃ xs, xs = toldOr f t w n asc := ⟨_, rfl⟩
    have hlen : xs.length = n := by rw [hxs]; exact toldOr_len _ _ _ _ _
    rw [← hxs] at hs1 hs2
    clear hxs
    have S1 := Lib.hid (hs1.keep hbel3 (Nat.le_refl _))
    have S2 := Lib.hid hs2
    have HL := Lib.hid hlen
    clear hs1 hs2 hlen
    go_wp2_with fail
    go_loopw [22] (fun i wr => ∃ k q : Nat, k ≤ n ∧ i = .int .i64 k ∧ wr = w3.drewN q) (fun i _ => n - (intOf i).toNat)
    case atStart => exact ⟨0, 0, Nat.zero_le _, rfl, rfl⟩
    case round =>
      obtain ⟨k, q, hk, rfl, rfl⟩ := hrel
      by_cases hkn : k < n
      · obtain ⟨rfl, _, _, r1⟩ := S1.out (by omega)
        obtain ⟨rfl, _, _, r2⟩ := S2.out (by omega)
        obtain ⟨a0, a1⟩ := r1 k (by rw [HL.out]; exact hkn)
        obtain ⟨b0, b1⟩ := r2 k (by rw [HL.out]; exact hkn)
        clear r1 r2
        go_wp2
        go_quiet (fail)
        go_wp2
        go_roundw
        case rel => exact ⟨k + 1, _, by omega, by go_num, rfl⟩
        case measure => simp [intOf]; omega
      · obtain rfl : k = n := by omega
        have hd : Below w3.heap.size w3 (w3.drewN q) := below_drewN (Below.refl _ _) _
        go_wp2_with fail
        refine (behind_any asc s A1 g1 k c1 xs HL.out hn64 _ ((S1.out.keep hd (Nat.le_refl _)).asked)).mono ?_
        rintro E w4 ⟨v4, rfl, hown4, hbel4⟩
        obtain ⟨A4, g4, c4, rfl, hs4⟩ := own_slice hown4 rfl
        clear hown4
        go_wp2_with fail
        refine (refBehind_any asc s A2 g2 k c2 xs HL.out hn64 _ (((S2.out.keep hd (Nat.le_refl _)).keep hbel4 (Nat.le_refl _)).asked)).mono ?_
        rintro E w5 ⟨v5, rfl, hown5, hbel5⟩
        obtain ⟨A5, g5, c5, rfl, hs5⟩ := own_slice hown5 rfl
        clear hown5
        obtain ⟨ys, hys⟩ : ∃ ys, ys = xs.filter (may asc s) := ⟨_, rfl⟩
        have hle : ys.length ≤ 64 := by
          rw [hys]
          have := List.length_filter_le (may asc s) xs
          have := HL.out
          omega
        have S4 := hs4.keep hbel5 (Nat.le_refl _)
        rw [← hys] at S4 hs5
        rw [← hys]
        have hall : Below W.heap.size W w5 := (((((hbel1.trans (hbel2.mono hbel1.size)).trans (hbel3.mono (Nat.le_trans hbel1.size hbel2.size))).trans (hd.mono (Nat.le_trans (Nat.le_trans hbel1.size hbel2.size) hbel3.size))).trans (hbel4.mono (Nat.le_trans (Nat.le_trans hbel1.size hbel2.size) hbel3.size)))).trans (hbel5.mono (Nat.le_trans (Nat.le_trans (Nat.le_trans hbel1.size hbel2.size) hbel3.size) hbel4.size))
        obtain ⟨m, hm⟩ : ∃ m, m = ys.length := ⟨_, rfl⟩
        rw [← hm] at S4 hs5 hle
        rw [← hm]
        have T4 := Lib.hid S4
        have T5 := Lib.hid hs5
        have HM := Lib.hid hm
        clear S4 hs4 hs5 hys hm
        go_wp2_with fail
        go_loopw [25] (fun i wr => ∃ k q : Nat, k ≤ m ∧ i = .int .i64 k ∧ wr = w5.drewN q) (fun i _ => m - (intOf i).toNat)
        case atStart => exact ⟨0, 0, Nat.zero_le _, rfl, rfl⟩
        case round =>
          obtain ⟨j, r, hj, rfl, rfl⟩ := hrel
          by_cases hjm : j < m
          · obtain ⟨rfl, _, _, r1⟩ := T4.out (by omega)
            obtain ⟨rfl, _, _, r2⟩ := T5.out (by omega)
            obtain ⟨a0, a1⟩ := r1 j (by rw [← HM.out]; exact hjm)
            obtain ⟨b0, b1⟩ := r2 j (by rw [← HM.out]; exact hjm)
            clear r1 r2
            go_wp2
            go_quiet (fail)
            go_wp2
            go_roundw
            case rel => exact ⟨j + 1, _, by omega, by go_num, rfl⟩
            case measure => simp [intOf]; omega
          · obtain rfl : j = m := by omega
            go_wp2
            go_ret
            exact ⟨rfl, below_drewN hall _⟩
theorem tellsLaw_walk (x y d : Int) (asc : Bool) (h ts : Int) (h0 : (Lit.int .i64 x).wf = true) (h1 : (Lit.int .i64 y).wf = true) (h2 : (Lit.int .i64 d).wf = true) (h4 : (Lit.int .u8 h).wf = true) (h5 : (Lit.int .i64 ts).wf = true) (W : World) :
    Calls Try.prog 3 #[.int .i64 x, .int .i64 y, .int .i64 d, .bool asc, .int .u8 h, .int .i64 ts] W fun e w' => e = .returned (.bool true) ∧ Below W.heap.size W w' :=
  tellsLaw_in x y d ts h asc (bdi64 h0).1 (bdi64 h0).2 (bdi64 h1).1 (bdi64 h1).2 (bdi64 h2).1 (bdi64 h2).2 (bdi64 h5).1 (bdi64 h5).2 (bd8 h4).1 (bd8 h4).2 W
end Go.Proofs.Ytmdpdffifpbbeaa
