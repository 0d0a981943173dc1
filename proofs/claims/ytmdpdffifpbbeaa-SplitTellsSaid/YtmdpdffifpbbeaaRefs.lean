/- The contracts of the document's own answer (package archivistref17): the same pieces as the program's. -/
import Derived.Test.YtmdpdffifpbbeaaHeads
namespace Go.Proofs.Ytmdpdffifpbbeaa
open Go.RowKit
set_option linter.unusedVariables false

theorem ref_zero (a w : Int) (hw : 1 ≤ w) (h : a % w = 0) : a / w = (a - 1) / w + 1 := by
  have h1 := Int.mul_ediv_add_emod a w
  have e : a - 1 = (w - 1) + (a / w - 1) * w := by
    have : w * (a / w) = (a / w) * w := Int.mul_comm _ _
    rw [Int.sub_mul]; omega
  rw [e, Int.add_mul_ediv_right _ _ (by omega), Int.ediv_eq_zero_of_lt (a := w - 1) (b := w) (by omega) (by omega)]
  omega
theorem ref_more (a w : Int) (hw : 1 ≤ w) (h : 0 < a % w) : a / w = (a - 1) / w := by
  have h1 := Int.mul_ediv_add_emod a w
  have h2 := Int.emod_lt_of_pos a (b := w) (by omega)
  have e : a - 1 = (a % w - 1) + (a / w) * w := by
    have : w * (a / w) = (a / w) * w := Int.mul_comm _ _
    omega
  rw [e, Int.add_mul_ediv_right _ _ (by omega), Int.ediv_eq_zero_of_lt (a := a % w - 1) (b := w) (by omega) (by omega)]
  omega

set_option maxHeartbeats 400000 in
theorem refMany_ok (f t w n : Int) (hf : -9223372036854775808 ≤ f) (ht : t ≤ 9223372036854775807) (hlt : f < t) (hw : 1 ≤ w) (hw2 : w ≤ 9223372036854775807) (hn : Hid (n = (t - f - 1) / w + 1)) (hn1 : n ≤ 64) (W : World) :
    Calls Try.prog 10 #[.int .i64 f, .int .i64 t, .int .i64 w] W fun e w' => e = .returned (.tuple #[.int .i64 n, .int .i64 0]) ∧ W = w' := by
  have h1 := between_eq f t hf ht hlt
  obtain ⟨q0, q1⟩ := div_le (t - f) w (by omega) hw
  have r1 := Int.emod_nonneg (t - f) (b := w) (by omega)
  by_cases hr : 0 < (t - f) % w
  · have e := ref_more (t - f) w hw hr
    have hq : (t - f) / w + 1 = n := by have := hn.out; omega
    clear e
    have hq2 : (t - f) / w ≤ 63 := by omega
    go_enter Try.func10, Try.ntmps10
    go_wp2
    go_ret2
    exact ⟨rfl, rfl⟩
  · have e := ref_zero (t - f) w hw (by omega)
    have hq : (t - f) / w = n := by have := hn.out; omega
    clear e
    go_enter Try.func10, Try.ntmps10
    go_wp2
    go_ret2
    exact ⟨rfl, rfl⟩
set_option maxHeartbeats 400000 in
theorem refMany_much (f t w : Int) (hf : -9223372036854775808 ≤ f) (ht : t ≤ 9223372036854775807) (hlt : f < t) (hw : 1 ≤ w) (hw2 : w ≤ 9223372036854775807) (hn : 64 < (t - f - 1) / w + 1) (W : World) :
    Calls Try.prog 10 #[.int .i64 f, .int .i64 t, .int .i64 w] W fun e w' => e = .returned (.tuple #[.int .i64 0, .int .i64 3]) ∧ W = w' := by
  have h1 := between_eq f t hf ht hlt
  obtain ⟨q0, q1⟩ := div_le (t - f) w (by omega) hw
  have r1 := Int.emod_nonneg (t - f) (b := w) (by omega)
  by_cases hr : 0 < (t - f) % w
  · have e := ref_more (t - f) w hw hr
    have hq : 64 < (t - f) / w + 1 := by omega
    have hq2 : (t - f) / w + 1 ≤ 18446744073709551615 := by have := (div_le (t - f - 1) w (by omega) hw).2; omega
    clear e hn
    go_enter Try.func10, Try.ntmps10
    go_wp2
    go_ret2
    exact ⟨rfl, rfl⟩
  · have e := ref_zero (t - f) w hw (by omega)
    have hq : 64 < (t - f) / w := by omega
    clear e hn
    go_enter Try.func10, Try.ntmps10
    go_wp2
    go_ret2
    exact ⟨rfl, rfl⟩
set_option maxHeartbeats 400000 in
theorem refMany_none (f t w : Int) (h : t ≤ f ∨ w < 1) (W : World) :
    Calls Try.prog 10 #[.int .i64 f, .int .i64 t, .int .i64 w] W fun e w' => e = .returned (.tuple #[.int .i64 0, .int .i64 3]) ∧ W = w' := by
  by_cases h1 : t ≤ f
  · clear h
    go_enter Try.func10, Try.ntmps10
    go_wp2
    go_ret2
    exact ⟨rfl, rfl⟩
  · have h2 : w < 1 := by omega
    clear h
    go_enter Try.func10, Try.ntmps10
    go_wp2
    go_ret2
    exact ⟨rfl, rfl⟩
theorem refAll_none (asc : Bool) (f t w : Int) (h : t ≤ f ∨ w < 1) (W : World) :
    Calls Try.prog 12 #[.int .i64 f, .int .i64 t, .int .i64 w, .bool asc] W fun e w' => e = .returned (.tuple #[.slice none 0 0, .int .i64 3]) ∧ W = w' := by
  go_enter Try.func12, Try.ntmps12
  go_wp2_with (go_at_call 10; refine (refMany_none f t w h _).mono ?_; rintro e w' ⟨rfl, rfl⟩)
  go_ret2
  exact ⟨rfl, rfl⟩
theorem refAll_much (asc : Bool) (f t w : Int) (hf : -9223372036854775808 ≤ f) (ht : t ≤ 9223372036854775807) (hlt : f < t) (hw : 1 ≤ w) (hw2 : w ≤ 9223372036854775807) (hn : 64 < (t - f - 1) / w + 1) (W : World) :
    Calls Try.prog 12 #[.int .i64 f, .int .i64 t, .int .i64 w, .bool asc] W fun e w' => e = .returned (.tuple #[.slice none 0 0, .int .i64 3]) ∧ W = w' := by
  go_enter Try.func12, Try.ntmps12
  go_wp2_with (go_at_call 10; refine (refMany_much f t w hf ht hlt hw hw2 hn _).mono ?_; rintro e w' ⟨rfl, rfl⟩)
  go_ret2
  exact ⟨rfl, rfl⟩

theorem told_asc' (f t w : Int) (n i : Nat) (h : i < n) : (told f t w n true).getD i (0, 0) = piece f t w n i := by
  simp [told, pieces, List.getD_eq_getElem?_getD, h]
theorem told_desc' (f t w : Int) (n i : Nat) (h : i < n) : (told f t w n false).getD i (0, 0) = piece f t w n (n - 1 - i) := by
  have h2 : n - 1 - i < (pieces f t w n n).length := by rw [pieces_len]; omega
  have h3 : i < (pieces f t w n n).length := by rw [pieces_len]; exact h
  simp only [told, List.getD_eq_getElem?_getD, Bool.false_eq_true, if_false, List.getElem?_reverse h3, pieces_len, List.getElem?_eq_getElem h2]
  simp [pieces]
theorem told_take (f t w : Int) (n : Nat) (asc : Bool) (k : Nat) (h : k < n) : (told f t w n asc).take (k + 1) = (told f t w n asc).take k ++ [(told f t w n asc).getD k (0, 0)] := by
  have hl : k < (told f t w n asc).length := by unfold told; split <;> simpa [pieces_len] using h
  rw [List.take_succ_eq_append_getElem hl, List.getD_eq_getElem?_getD, List.getElem?_eq_getElem hl]
  rfl
theorem told_next (f t w : Int) (n : Nat) (asc : Bool) (k : Nat) {p : Int × Int} (h : k < n) (hg : (told f t w n asc).getD k (0, 0) = p) : (told f t w n asc).take (k + 1) = (told f t w n asc).take k ++ [p] := by
  rw [told_take f t w n asc k h, hg]
theorem own_next {w : World} {B : Nat} {e : TypeId} {v : Value} {k : Nat} {l l' : List (Int × Int)} {a b : Int} (h : w.ownsRow B e 2 v (k + 1) (spanCells l ++ [.int .i64 a, .int .i64 b])) (hl : l' = l ++ [(a, b)]) : w.ownsRow B e 2 v (k + 1) (spanCells l') := by
  rw [hl, spanCells_app]
  simpa [spanCells] using h
theorem info36 : (Try.prog.info? 36).map (fun i => (i.zero, i.size, i.bytes)) = some (some (.agg #[.int .i64 0, .int .i64 0]), 2, 16) := by kernel_rfl
/-- sums of two words that stand for whole numbers -/
theorem word_sum (f p : Int) (hf : -9223372036854775808 ≤ f) (hp : 0 ≤ p) (hp2 : p ≤ 18446744073709551615) (hs : f + p ≤ 9223372036854775807) : wrap64 (IntKind.u64.wrap (IntKind.u64.wrap f + p)) = f + p := by
  unfold wrap64
  rw [IntKind.wrap_u64, IntKind.wrap_u64]
  omega

set_option maxHeartbeats 1000000 in
theorem refAll_any (asc : Bool) (f t w : Int) (hf : -9223372036854775808 ≤ f) (ht : t ≤ 9223372036854775807) (hlt : f < t) (hw : 1 ≤ w) (hw2 : w ≤ 9223372036854775807) (n : Nat) (hn : Hid ((n : Int) = (t - f - 1) / w + 1)) (hn1 : n ≤ 64) (W : World) :
    Calls Try.prog 12 #[.int .i64 f, .int .i64 t, .int .i64 w, .bool asc] W fun e w' => ∃ v, e = .returned (.tuple #[v, .int .i64 0]) ∧ w'.ownsRow W.heap.size 36 2 v n (spanCells (told f t w n asc)) ∧ Below W.heap.size W w' := by
  obtain ⟨i0, hi, hz0, hz1, hz2⟩ := info_parts info36
  have hfit := fits_of f t w n hlt hw hn.out
  go_enter Try.func12, Try.ntmps12
  go_wp2_with (go_at_call 10; refine (refMany_ok f t w n hf ht hlt hw hw2 hn (by omega) _).mono ?_; rintro e w' ⟨rfl, rfl⟩)
  go_loopw [12, 13] (fun v i wr => ∃ k : Nat, k ≤ n ∧ i = .int .i64 k ∧ wr.ownsRow W.heap.size 36 2 v k (spanCells ((told f t w n asc).take k)) ∧ Below W.heap.size W wr) (fun _ i _ => n - (intOf i).toNat)
  case atStart => exact ⟨0, Nat.zero_le _, rfl, World.ownsRow_nil _ _ _ _, Below.refl _ _⟩
  case round =>
    obtain ⟨k, hk, rfl, hown, hbel⟩ := hrel
    by_cases hkn : k < n
    · cases asc
      · skip
        obtain ⟨m, hm⟩ : ∃ m : Nat, (n : Int) - 1 - k = m := ⟨n - 1 - k, by omega⟩
        have hg : (told f t w n false).getD k (0, 0) = piece f t w n m := by rw [told_desc' _ _ _ _ _ hkn, show n - 1 - k = m by omega]
        have hmn : m < n := by omega
        obtain ⟨hs1, hs2⟩ := hfit.start_le m hmn
        have hm0 : 0 ≤ (m : Int) * w := by omega
        have hm1 : (m : Int) * w ≤ 18446744073709551615 := by omega
        have hws := word_sum f ((m : Int) * w) hf hm0 hm1 (by omega)
        obtain ⟨s, hs⟩ : ∃ s, s = f + (m : Int) * w := ⟨_, rfl⟩
        rw [← hs] at hws
        have HS := Lib.hid hs
        have hsz := hbel.size
        by_cases hlast : m + 1 < n
        · obtain ⟨hs3, hs4⟩ := hfit.start_le (m + 1) hlast
          have e1 : (((m + 1 : Nat)) : Int) = (m : Int) + 1 := rfl
          rw [e1] at hs3 hs4
          have hn0 : 0 ≤ ((m : Int) + 1) * w := by omega
          have hn1' : ((m : Int) + 1) * w ≤ 18446744073709551615 := by omega
          have hws2 := word_sum f (((m : Int) + 1) * w) hf hn0 hn1' (by omega)
          obtain ⟨u, hu⟩ : ∃ u, u = f + ((m : Int) + 1) * w := ⟨_, rfl⟩
          rw [← hu] at hws2
          have hgd : (told f t w n false).getD k (0, 0) = (s, u) := by rw [hg, piece, if_pos hlast, hs, hu]
          have HG := Lib.hid (told_next _ _ _ _ _ _ hkn hgd)
          have d1 : decide ((m : Int) < (n : Int) - 1) = true := by rw [decide_eq_true_iff]; omega
          clear hs hu hg hgd e1 hs1 hs2 hs3 hs4
          go_wp2_with (at_builtin; refine wpList_append_own _ rfl (.tmp 64) (.tmp 66) 31 rfl W.heap.size 36 i0 (.agg #[.int .i64 0, .int .i64 0]) 2 16 Try.underlying31 hi hz0 hz1 hz2 rfl (by decide) _ _ _ rfl ((hown.alloc _).alloc _) ⟨wr.heap.size + 1, 0, none⟩ 1 1 [.int .i64 s, .int .i64 u] rfl rfl (pair_news _ _ _ _ _) (pair_one _ _) (by unfold maxLen; omega) (by omega) (by simp; omega) ?_)
          intro v' w1 hown' hgrow _
          have hbel' := (((hbel.alloc hbel.size _).alloc (by simp; omega) _)).grown hgrow (by simp; omega) (fun r hr => (hown.lt r hr).1)
          have hown2 := own_next hown' HG.out
          clear hown' hgrow hown hbel
          go_wp2
          go_roundw
          case rel => exact ⟨k + 1, by omega, by go_num, hown2, hbel'⟩
          case measure => simp [intOf]; omega
        · have hgd : (told f t w n false).getD k (0, 0) = (s, t) := by rw [hg, piece, if_neg hlast, hs]
          have HG := Lib.hid (told_next _ _ _ _ _ _ hkn hgd)
          have d1 : decide ((m : Int) < (n : Int) - 1) = false := by rw [decide_eq_false_iff_not]; omega
          clear hs hg hgd hs1 hs2
          go_wp2_with (at_builtin; refine wpList_append_own _ rfl (.tmp 64) (.tmp 66) 31 rfl W.heap.size 36 i0 (.agg #[.int .i64 0, .int .i64 0]) 2 16 Try.underlying31 hi hz0 hz1 hz2 rfl (by decide) _ _ _ rfl ((hown.alloc _).alloc _) ⟨wr.heap.size + 1, 0, none⟩ 1 1 [.int .i64 s, .int .i64 t] rfl rfl (pair_news _ _ _ _ _) (pair_one _ _) (by unfold maxLen; omega) (by omega) (by simp; omega) ?_)
          intro v' w1 hown' hgrow _
          have hbel' := (((hbel.alloc hbel.size _).alloc (by simp; omega) _)).grown hgrow (by simp; omega) (fun r hr => (hown.lt r hr).1)
          have hown2 := own_next hown' HG.out
          clear hown' hgrow hown hbel
          go_wp2
          go_roundw
          case rel => exact ⟨k + 1, by omega, by go_num, hown2, hbel'⟩
          case measure => simp [intOf]; omega
      · skip
        have hg : (told f t w n true).getD k (0, 0) = piece f t w n k := by rw [told_asc' _ _ _ _ _ hkn]
        have hmn : k < n := hkn
        obtain ⟨hs1, hs2⟩ := hfit.start_le k hmn
        have hm0 : 0 ≤ (k : Int) * w := by omega
        have hm1 : (k : Int) * w ≤ 18446744073709551615 := by omega
        have hws := word_sum f ((k : Int) * w) hf hm0 hm1 (by omega)
        obtain ⟨s, hs⟩ : ∃ s, s = f + (k : Int) * w := ⟨_, rfl⟩
        rw [← hs] at hws
        have HS := Lib.hid hs
        have hsz := hbel.size
        by_cases hlast : k + 1 < n
        · obtain ⟨hs3, hs4⟩ := hfit.start_le (k + 1) hlast
          have e1 : (((k + 1 : Nat)) : Int) = (k : Int) + 1 := rfl
          rw [e1] at hs3 hs4
          have hn0 : 0 ≤ ((k : Int) + 1) * w := by omega
          have hn1' : ((k : Int) + 1) * w ≤ 18446744073709551615 := by omega
          have hws2 := word_sum f (((k : Int) + 1) * w) hf hn0 hn1' (by omega)
          obtain ⟨u, hu⟩ : ∃ u, u = f + ((k : Int) + 1) * w := ⟨_, rfl⟩
          rw [← hu] at hws2
          have hgd : (told f t w n true).getD k (0, 0) = (s, u) := by rw [hg, piece, if_pos hlast, hs, hu]
          have HG := Lib.hid (told_next _ _ _ _ _ _ hkn hgd)
          have d1 : decide ((k : Int) < (n : Int) - 1) = true := by rw [decide_eq_true_iff]; omega
          clear hs hu hg hgd e1 hs1 hs2 hs3 hs4
          go_wp2_with (at_builtin; refine wpList_append_own _ rfl (.tmp 64) (.tmp 66) 31 rfl W.heap.size 36 i0 (.agg #[.int .i64 0, .int .i64 0]) 2 16 Try.underlying31 hi hz0 hz1 hz2 rfl (by decide) _ _ _ rfl ((hown.alloc _).alloc _) ⟨wr.heap.size + 1, 0, none⟩ 1 1 [.int .i64 s, .int .i64 u] rfl rfl (pair_news _ _ _ _ _) (pair_one _ _) (by unfold maxLen; omega) (by omega) (by simp; omega) ?_)
          intro v' w1 hown' hgrow _
          have hbel' := (((hbel.alloc hbel.size _).alloc (by simp; omega) _)).grown hgrow (by simp; omega) (fun r hr => (hown.lt r hr).1)
          have hown2 := own_next hown' HG.out
          clear hown' hgrow hown hbel
          go_wp2
          go_roundw
          case rel => exact ⟨k + 1, by omega, by go_num, hown2, hbel'⟩
          case measure => simp [intOf]; omega
        · have hgd : (told f t w n true).getD k (0, 0) = (s, t) := by rw [hg, piece, if_neg hlast, hs]
          have HG := Lib.hid (told_next _ _ _ _ _ _ hkn hgd)
          have d1 : decide ((k : Int) < (n : Int) - 1) = false := by rw [decide_eq_false_iff_not]; omega
          clear hs hg hgd hs1 hs2
          go_wp2_with (at_builtin; refine wpList_append_own _ rfl (.tmp 64) (.tmp 66) 31 rfl W.heap.size 36 i0 (.agg #[.int .i64 0, .int .i64 0]) 2 16 Try.underlying31 hi hz0 hz1 hz2 rfl (by decide) _ _ _ rfl ((hown.alloc _).alloc _) ⟨wr.heap.size + 1, 0, none⟩ 1 1 [.int .i64 s, .int .i64 t] rfl rfl (pair_news _ _ _ _ _) (pair_one _ _) (by unfold maxLen; omega) (by omega) (by simp; omega) ?_)
          intro v' w1 hown' hgrow _
          have hbel' := (((hbel.alloc hbel.size _).alloc (by simp; omega) _)).grown hgrow (by simp; omega) (fun r hr => (hown.lt r hr).1)
          have hown2 := own_next hown' HG.out
          clear hown' hgrow hown hbel
          go_wp2
          go_roundw
          case rel => exact ⟨k + 1, by omega, by go_num, hown2, hbel'⟩
          case measure => simp [intOf]; omega
    · obtain rfl : k = n := by omega
      go_wp2
      go_ret2
      refine ⟨_, rfl, ?_, hbel⟩
      rwa [List.take_of_length_le (by unfold told; split <;> simp [pieces_len])] at hown
end Go.Proofs.Ytmdpdffifpbbeaa
