/- What is peeked at is what is popped, and none that is left stands ahead of it: the walk of the law. -/
import Derived.Test.YtlicnijhmncoeaaChecked
import Derived.Test.YtlicnijhmncoeaaRows
import Derived.Test.YtlicnijhmncoeaaHeapExam
import Derived.Test.YtlicnijhmncoeaaHeap16Drain
namespace Go.Proofs.Ytlicnijhmncoeaa
open Go.RowKit
set_option linter.unusedVariables false
set_option linter.unusedSimpArgs false

theorem sort_step {M : List (KeyP Int)} (hs : SortP I16.tenK M) (j : Nat) (x y : KeyP Int) (hx : M[j]? = some x) (hy : M[j + 1]? = some y) : x.it ≤ y.it := by
  have h1 : j < M.length := by
    rcases Nat.lt_or_ge j M.length with h | h
    · exact h
    · rw [List.getElem?_eq_none h] at hx
      cases hx
  have h2 : j + 1 < M.length := by
    rcases Nat.lt_or_ge (j + 1) M.length with h | h
    · exact h
    · rw [List.getElem?_eq_none h] at hy
      cases hy
  have h3 := (List.pairwise_iff_getElem.1 hs) j (j + 1) h1 h2 (Nat.lt_succ_self j)
  rw [List.getElem?_eq_getElem h1] at hx
  rw [List.getElem?_eq_getElem h2] at hy
  rw [Option.some.inj hx, Option.some.inj hy, ahd_iff] at h3
  unfold I16.tenK at h3
  omega

set_option maxRecDepth 100000 in
set_option maxHeartbeats 1600000 in
theorem heapLeast_walk {W : World} (A : Option Addr) (n c : Nat) (zs : List Int) (hz : Ints .i16 W A n zs) (hc : n ≤ c) (hm : c ≤ maxLen) :
    Calls Try.prog 6 #[.slice A n c] W fun e w' => e = .returned (.bool true) ∧ Below W.heap.size W w' := by
  have hm' : c ≤ 9223372036854775807 := by unfold maxLen at hm; omega
  obtain ⟨m, hmn, hm30, hmm⟩ : ∃ m, m ≤ n ∧ m ≤ 30 ∧ ((n ≤ 30 ∧ m = n) ∨ (30 < n ∧ m = 30)) := ⟨min n 30, by omega, by omega, by omega⟩
  have HI := Lib.hid (hz.less hmn)
  have hlen : (zs.take m).length = m := (hz.less hmn).1
  obtain ⟨xs, hxs⟩ : ∃ xs, zs.take m = xs := ⟨_, rfl⟩
  rw [hxs] at HI hlen
  have HLEN := Lib.hid hlen
  have H0 := Lib.hid (putP_len I16.tenK xs 0 [])
  rw [hlen] at H0
  obtain ⟨M, hM⟩ : ∃ M, putP I16.tenK 0 xs [] = M := ⟨_, rfl⟩
  rw [hM] at H0
  have HM := Lib.hid hM
  have HSO := Lib.hid (show SortP I16.tenK M by rw [← hM]; exact putP_sort I16.tenK xs 0 [] List.Pairwise.nil (fun y hy => absurd hy List.not_mem_nil))
  have HML := Lib.hid (show M.length = m by simpa using H0.out)
  clear hz hxs hlen hM H0
  rcases hmm with ⟨h30, hmn2⟩ | ⟨h30, hm2⟩
  · subst hmn2
    have h30I : (m : Int) ≤ 30 := by omega
    go_enter Try.func6, Try.ntmps6
    go_wp2_with fail
    refine (examples_any W).mono ?_
    rintro e w1 ⟨rfl, hb1⟩
    have HB1 := Lib.hid hb1
    have hsz1 := hb1.size
    clear hb1
    go_wp2_with fail
    refine (I16.newO_any none 0 0 [] rfl (by omega) w1 (I16.IntsA.of (ints_none _ _) (fun _ g o h => by cases h))).mono ?_
    rintro e w2 ⟨rfl, hb2, v2, hs2⟩
    have HB2 := Lib.hid (hop HB1.out (Nat.le_refl _) hb2)
    have HS2 := Lib.hid hs2
    obtain ⟨b, hb⟩ : ∃ b, w1.heap.size = b := ⟨_, rfl⟩
    rw [hb] at hsz1 HS2 ⊢
    clear hb hb2 hs2 HB1
    go_wp2_with fail
    refine (I16.pushO_any b v2 _ 0 A m c xs HLEN.out (by omega) w2 HS2.out (I16.IntsA.old_ HI.out HB2.out hsz1 (fun k hk => (HS2.out.own k hk).1))).mono ?_
    rintro e w3 ⟨rfl, v3, hs3, hg3⟩
    have HB3 := Lib.hid (HS2.out.over hsz1 HB2.out hg3)
    rw [show putP I16.tenK 0 ([] : List Int) [] = [] from rfl, HM.out, Nat.zero_add] at hs3
    have HS3 : Hid (I16.HeapO w3 b v3 (M.drop 0) m) := Lib.hid hs3
    clear hs3 hg3 HS2 HB2
    go_wp2
    go_loopw [5, 6] (fun lv iv wr => ∃ (k : Nat) (z : Int) (v1 : Value), k ≤ m ∧ iv = .int .i64 (k : Int) ∧ lv = .int .i16 z ∧ Hid (0 < k → ∀ y, M[k]? = some y → z ≤ y.it) ∧ Hid (I16.HeapO wr b v1 (M.drop k) m) ∧ Hid (Below W.heap.size W wr)) (fun _ iv _ => m - (intOf iv).toNat)
    case atStart => exact ⟨0, 0, v3, Nat.zero_le _, rfl, rfl, Lib.hid (fun h => absurd h (Nat.lt_irrefl 0)), HS3, HB3⟩
    case round =>
      obtain ⟨k, z, v1, hkm, rfl, rfl, HZ, HS, HB⟩ := hrel
      by_cases hk : k < m
      · have hkI : (k : Int) < (m : Int) := by omega
        have hML := HML.out
        obtain ⟨y, hy⟩ : ∃ y, M[k]'(by omega) = y := ⟨_, rfl⟩
        have hy? : M[k]? = some y := by rw [← hy]; exact List.getElem?_eq_getElem (by omega)
        have hMk : M.drop k = y :: M.drop (k + 1) := by rw [← hy]; exact List.drop_eq_getElem_cons (by omega)
        have HS' := Lib.hid HS.out
        rw [hMk] at HS'
        have hso : SortP I16.tenK M := by have := HSO.out; exact this
        have hr := HS'.out.good y List.mem_cons_self
        have HZ5 := Lib.hid (show 0 < k + 1 → ∀ u, M[k + 1]? = some u → y.it ≤ u.it from fun _ u hu => sort_step hso k y u hy? hu)
        have hz2 : 0 < k → z ≤ y.it := fun h => HZ.out h y hy?
        have PK := I16.peekO_any b v1 y (M.drop (k + 1)) m wr HS'.out
        have PO := I16.popO_any b v1 y (M.drop (k + 1)) m wr HS'.out
        have hd : (M.drop (k + 1)).length = m - (k + 1) := by rw [List.length_drop, hML]
        obtain ⟨d, hd2⟩ : ∃ d, m - (k + 1) = d := ⟨_, rfl⟩
        rw [hd2] at hd
        have hdI : (m : Int) - 1 - (k : Int) = (d : Int) := by omega
        have hdm : d ≤ 30 := by omega
        have HD := Lib.hid hd
        obtain ⟨x, hx⟩ : ∃ x, y.it = x := ⟨_, rfl⟩
        rw [hx] at PK PO hr hz2 HZ5
        replace PK := Lib.hid PK
        replace PO := Lib.hid PO
        obtain ⟨x0, x1⟩ := hr
        have hw : (¬ (0 : Int) < (k : Int) ∧ ¬ 0 < k) ∨ ((0 : Int) < (k : Int) ∧ 0 < k ∧ ¬ x < z) := by
          rcases Nat.eq_zero_or_pos k with h | h
          · exact .inl ⟨by omega, by omega⟩
          · exact .inr ⟨by omega, h, by have := hz2 h; omega⟩
        clear hML hy hy? hMk hso hx hd hd2 hz2 HS HZ
        rcases hw with ⟨hw1, hw2⟩ | ⟨hw1, hw2, hw3⟩
        all_goals
          go_wp2_with fail
          refine PK.out.mono ?_
          rintro e w4 ⟨rfl, rfl⟩
          go_wp2_with fail
          refine PO.out.mono ?_
          rintro e w5 ⟨rfl, v5, hs5, hg5⟩
          have HB5 := Lib.hid (HS'.out.over hsz1 HB.out hg5)
          have HS5 := Lib.hid hs5
          have LN := I16.lenO_any b v5 (M.drop (k + 1)) m w5 hs5
          rw [HD.out] at LN
          clear hs5 hg5 PK PO HB HS'
          go_wp2_with fail
          refine LN.mono ?_
          rintro e w6 ⟨rfl, rfl⟩
          clear LN
          go_wp2
          go_round
          case rel => exact ⟨k + 1, x, v5, by omega, by first | rfl | go_num, rfl, HZ5, HS5, HB5⟩
          case measure => simp [intOf]; omega
      · obtain rfl : k = m := by omega
        have HS' := Lib.hid HS.out
        rw [List.drop_of_length_le (by rw [HML.out]; exact Nat.le_refl _)] at HS'
        clear HS HZ
        go_wp2_with fail
        refine (I16.peekO_none b v1 k wr HS'.out).mono ?_
        rintro e w4 ⟨rfl, rfl⟩
        go_wp2_with fail
        refine (I16.drainO_any b v1 [] k w4 HS'.out).mono ?_
        rintro e w5 ⟨v2', rfl, ho, v6, hs6, hg6⟩
        have HB6 := Lib.hid (HS'.out.over hsz1 HB.out hg6)
        obtain ⟨A5, c5, rfl⟩ := own_shape ho
        simp only [List.map_nil, List.length_nil]
        clear ho hs6 hg6 HB HS'
        go_wp2
        go_ret
        exact ⟨by first | rfl | (simp; done), HB6.out⟩
  · have h30I : ¬ (n : Int) ≤ 30 := by omega
    have h30J : (30 : Int) < (n : Int) := by omega
    go_enter Try.func6, Try.ntmps6
    go_wp2_with fail
    refine (examples_any W).mono ?_
    rintro e w1 ⟨rfl, hb1⟩
    have HB1 := Lib.hid hb1
    have hsz1 := hb1.size
    clear hb1
    go_wp2_with fail
    refine (I16.newO_any none 0 0 [] rfl (by omega) w1 (I16.IntsA.of (ints_none _ _) (fun _ g o h => by cases h))).mono ?_
    rintro e w2 ⟨rfl, hb2, v2, hs2⟩
    have HB2 := Lib.hid (hop HB1.out (Nat.le_refl _) hb2)
    have HS2 := Lib.hid hs2
    obtain ⟨b, hb⟩ : ∃ b, w1.heap.size = b := ⟨_, rfl⟩
    rw [hb] at hsz1 HS2 ⊢
    clear hb hb2 hs2 HB1
    go_wp2_with fail
    rw [show (Value.slice A 30 c) = Value.slice A m c by rw [hm2]]
    clear hm2 h30 h30I h30J
    refine (I16.pushO_any b v2 _ 0 A m c xs HLEN.out (by omega) w2 HS2.out (I16.IntsA.old_ HI.out HB2.out hsz1 (fun k hk => (HS2.out.own k hk).1))).mono ?_
    rintro e w3 ⟨rfl, v3, hs3, hg3⟩
    have HB3 := Lib.hid (HS2.out.over hsz1 HB2.out hg3)
    rw [show putP I16.tenK 0 ([] : List Int) [] = [] from rfl, HM.out, Nat.zero_add] at hs3
    have HS3 : Hid (I16.HeapO w3 b v3 (M.drop 0) m) := Lib.hid hs3
    clear hs3 hg3 HS2 HB2
    go_wp2
    go_loopw [5, 6] (fun lv iv wr => ∃ (k : Nat) (z : Int) (v1 : Value), k ≤ m ∧ iv = .int .i64 (k : Int) ∧ lv = .int .i16 z ∧ Hid (0 < k → ∀ y, M[k]? = some y → z ≤ y.it) ∧ Hid (I16.HeapO wr b v1 (M.drop k) m) ∧ Hid (Below W.heap.size W wr)) (fun _ iv _ => m - (intOf iv).toNat)
    case atStart => exact ⟨0, 0, v3, Nat.zero_le _, rfl, rfl, Lib.hid (fun h => absurd h (Nat.lt_irrefl 0)), HS3, HB3⟩
    case round =>
      obtain ⟨k, z, v1, hkm, rfl, rfl, HZ, HS, HB⟩ := hrel
      by_cases hk : k < m
      · have hkI : (k : Int) < (m : Int) := by omega
        have hML := HML.out
        obtain ⟨y, hy⟩ : ∃ y, M[k]'(by omega) = y := ⟨_, rfl⟩
        have hy? : M[k]? = some y := by rw [← hy]; exact List.getElem?_eq_getElem (by omega)
        have hMk : M.drop k = y :: M.drop (k + 1) := by rw [← hy]; exact List.drop_eq_getElem_cons (by omega)
        have HS' := Lib.hid HS.out
        rw [hMk] at HS'
        have hso : SortP I16.tenK M := by have := HSO.out; exact this
        have hr := HS'.out.good y List.mem_cons_self
        have HZ5 := Lib.hid (show 0 < k + 1 → ∀ u, M[k + 1]? = some u → y.it ≤ u.it from fun _ u hu => sort_step hso k y u hy? hu)
        have hz2 : 0 < k → z ≤ y.it := fun h => HZ.out h y hy?
        have PK := I16.peekO_any b v1 y (M.drop (k + 1)) m wr HS'.out
        have PO := I16.popO_any b v1 y (M.drop (k + 1)) m wr HS'.out
        have hd : (M.drop (k + 1)).length = m - (k + 1) := by rw [List.length_drop, hML]
        obtain ⟨d, hd2⟩ : ∃ d, m - (k + 1) = d := ⟨_, rfl⟩
        rw [hd2] at hd
        have hdI : (m : Int) - 1 - (k : Int) = (d : Int) := by omega
        have hdm : d ≤ 30 := by omega
        have HD := Lib.hid hd
        obtain ⟨x, hx⟩ : ∃ x, y.it = x := ⟨_, rfl⟩
        rw [hx] at PK PO hr hz2 HZ5
        replace PK := Lib.hid PK
        replace PO := Lib.hid PO
        obtain ⟨x0, x1⟩ := hr
        have hw : (¬ (0 : Int) < (k : Int) ∧ ¬ 0 < k) ∨ ((0 : Int) < (k : Int) ∧ 0 < k ∧ ¬ x < z) := by
          rcases Nat.eq_zero_or_pos k with h | h
          · exact .inl ⟨by omega, by omega⟩
          · exact .inr ⟨by omega, h, by have := hz2 h; omega⟩
        clear hML hy hy? hMk hso hx hd hd2 hz2 HS HZ
        rcases hw with ⟨hw1, hw2⟩ | ⟨hw1, hw2, hw3⟩
        all_goals
          go_wp2_with fail
          refine PK.out.mono ?_
          rintro e w4 ⟨rfl, rfl⟩
          go_wp2_with fail
          refine PO.out.mono ?_
          rintro e w5 ⟨rfl, v5, hs5, hg5⟩
          have HB5 := Lib.hid (HS'.out.over hsz1 HB.out hg5)
          have HS5 := Lib.hid hs5
          have LN := I16.lenO_any b v5 (M.drop (k + 1)) m w5 hs5
          rw [HD.out] at LN
          clear hs5 hg5 PK PO HB HS'
          go_wp2_with fail
          refine LN.mono ?_
          rintro e w6 ⟨rfl, rfl⟩
          clear LN
          go_wp2
          go_round
          case rel => exact ⟨k + 1, x, v5, by omega, by first | rfl | go_num, rfl, HZ5, HS5, HB5⟩
          case measure => simp [intOf]; omega
      · obtain rfl : k = m := by omega
        have HS' := Lib.hid HS.out
        rw [List.drop_of_length_le (by rw [HML.out]; exact Nat.le_refl _)] at HS'
        clear HS HZ
        go_wp2_with fail
        refine (I16.peekO_none b v1 k wr HS'.out).mono ?_
        rintro e w4 ⟨rfl, rfl⟩
        go_wp2_with fail
        refine (I16.drainO_any b v1 [] k w4 HS'.out).mono ?_
        rintro e w5 ⟨v2', rfl, ho, v6, hs6, hg6⟩
        have HB6 := Lib.hid (HS'.out.over hsz1 HB.out hg6)
        obtain ⟨A5, c5, rfl⟩ := own_shape ho
        simp only [List.map_nil, List.length_nil]
        clear ho hs6 hg6 HB HS'
        go_wp2
        go_ret
        exact ⟨by first | rfl | (simp; done), HB6.out⟩
end Go.Proofs.Ytlicnijhmncoeaa
