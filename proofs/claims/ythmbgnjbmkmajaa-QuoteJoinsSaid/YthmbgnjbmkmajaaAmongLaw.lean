/- The walk of the law QuoteAmong: a text is among some just if one of them is it, at the first place. -/
import Derived.Test.YthmbgnjbmkmajaaExam
import Derived.Deep.DeepCutAuto
namespace Go.Proofs.Ythmbgnjbmkmajaa
open Go.RowKit
set_option linter.unusedVariables false

theorem among_cases (s : ByteArray) (ss : List ByteArray) : (amongI s ss = -1 ∧ ∀ j, j < ss.length → eqB (ss.getD j .empty) s = false) ∨
    ∃ k : Nat, amongI s ss = k ∧ k < ss.length ∧ eqB (ss.getD k .empty) s = true ∧ ∀ j, j < k → eqB (ss.getD j .empty) s = false := by
  unfold amongI
  cases h : ss.findIdx? (fun x => eqB x s) with
  | none =>
    left
    refine ⟨rfl, fun j hj => ?_⟩
    rw [List.findIdx?_eq_none_iff] at h
    rw [List.getD_eq_getElem?_getD, List.getElem?_eq_getElem hj]
    exact h _ (List.getElem_mem hj)
  | some k =>
    right
    rw [List.findIdx?_eq_some_iff_getElem] at h
    obtain ⟨hk, h1, h2⟩ := h
    refine ⟨k, rfl, hk, ?_, fun j hj => ?_⟩
    · rw [List.getD_eq_getElem?_getD, List.getElem?_eq_getElem hk]; exact h1
    · rw [List.getD_eq_getElem?_getD, List.getElem?_eq_getElem (by omega)]
      simpa using h2 j hj
theorem Texts.less {w : World} {A : Option Addr} {n m : Nat} {ss : List ByteArray} (h : Texts w A n ss) (hm : m ≤ n) : Texts w A m (ss.take m) :=
  ⟨by rw [List.length_take, h.1]; omega, fun hp => by
    obtain ⟨b, off, e, hlt, hc⟩ := h.2 (by omega)
    refine ⟨b, off, e, hlt, fun j hj => ?_⟩
    rw [hc j (by omega), List.getD_eq_getElem?_getD, List.getD_eq_getElem?_getD, List.getElem?_take_of_lt hj]⟩

set_option maxRecDepth 100000 in
set_option maxHeartbeats 1000000 in
theorem among_some (b off n m c : Nat) (ss : List ByteArray) (wh : Int) (s : ByteArray) (hw : 0 ≤ wh) (hw2 : wh ≤ 255) (hc : n ≤ c) (hcm : c ≤ 9223372036854775807) (hm1 : m ≤ n) (hm2 : m ≤ 10) (hmin : min (n : Int) 10 = (m : Int)) (hm4 : 1 ≤ m) (W : World) (hm : MaxIs W) (ht : Texts W (some ⟨b, off, none⟩) m ss) :
    Calls Try.prog 9 #[.slice (some ⟨b, off, none⟩) n c, .int .u8 wh, .string s] W fun e w' => e = .returned (.bool true) ∧ Below W.heap.size W w' := by
  have HT := Lib.hid ht
  clear ht
  go_enter Try.func9, Try.ntmps9
  go_wp2_with fail
  refine (examples_any _ hm).mono ?_
  rintro e w1 ⟨rfl, hb⟩
  have ht1 := HT.out.below hb
  have hl1 := ht1.1
  obtain ⟨b', off', he, hlt, hcs⟩ := ht1.2 hm4
  injection he with he
  injection he with he1 he2
  subst he1 he2
  have HT1 := Lib.hid ht1
  have HC := Lib.hid hcs
  have HL := Lib.hid hl1
  clear ht1 hcs hl1
  go_upto_if 25 with (fail)
  go_cut [2] (fun v wx => ∃ s' : ByteArray, v = .string s' ∧ w1 = wx)
  case first =>
    have hj0 : 0 ≤ (wh / 2) % (m : Int) := Int.emod_nonneg _ (by omega)
    have hj1 : (wh / 2) % (m : Int) < m := Int.emod_lt_of_pos _ (by omega)
    obtain ⟨j, hj⟩ : ∃ j : Nat, (wh / 2) % (m : Int) = j := ⟨((wh / 2) % (m : Int)).toNat, by omega⟩
    have hjm : j < m := by omega
    have hne : ((m : Int) == 0) = false := by rw [beq_eq_false_iff_ne]; omega
    have c0 := HC.out j hjm
    clear hj0 hj1
    by_cases hp : wh % 2 = 0
    · have hp1 : (wh % 2 == 0) = true := by rw [beq_iff_eq]; exact hp
      clear hp
      go_wp2_with fail
      go_meet
      case rel => exact ⟨_, rfl, rfl⟩
    · have hp1 : (wh % 2 == 0) = false := by rw [beq_eq_false_iff_ne]; exact hp
      clear hp
      go_wp2_with fail
      go_meet
      case rel => exact ⟨_, rfl, rfl⟩
  case rest =>
    obtain ⟨t, rfl, rfl⟩ := hcut
    go_wp2_with fail
    refine (among_any t (some ⟨b, off, none⟩) m c ss (by omega) _ HT1.out).mono ?_
    rintro e w' ⟨rfl, rfl⟩
    rcases among_cases t ss with ⟨ha, hno⟩ | ⟨k, ha, hk, hyes, hno⟩
    · rw [ha]
      rw [HL.out] at hno
      have HN := Lib.hid hno
      clear ha hno
      go_wp2
      go_loop [9] (fun i => ∃ j : Nat, j ≤ m ∧ i = .int .i64 j) (fun i => m - (intOf i).toNat)
      case atStart => exact ⟨0, Nat.zero_le _, rfl⟩
      case round =>
        obtain ⟨j, hj, rfl⟩ := hrel
        by_cases hjm : j < m
        · have c0 := HC.out j hjm
          obtain ⟨x, hx⟩ : ∃ x, ss.getD j .empty = x := ⟨_, rfl⟩
          have hn := HN.out j hjm
          rw [hx] at c0 hn
          have hn' : (x.toList == t.toList) = false := hn
          clear hx hn
          go_wp2
          go_round
          case rel => exact ⟨j + 1, by omega, by go_num⟩
          case measure => simp [intOf]; omega
        · obtain rfl : j = m := by omega
          go_wp2
          go_ret
          exact ⟨rfl, hb⟩
    · rw [ha]
      rw [HL.out] at hk
      have HN := Lib.hid hno
      have HY := Lib.hid hyes
      clear ha hno hyes
      go_wp2
      go_loop [9] (fun i => ∃ j : Nat, j ≤ m ∧ i = .int .i64 j) (fun i => m - (intOf i).toNat)
      case atStart => exact ⟨0, Nat.zero_le _, rfl⟩
      case round =>
        obtain ⟨j, hj, rfl⟩ := hrel
        by_cases hjm : j < m
        · have c0 := HC.out j hjm
          obtain ⟨x, hx⟩ : ∃ x, ss.getD j .empty = x := ⟨_, rfl⟩
          rw [hx] at c0
          have HX := Lib.hid hx
          clear hx
          by_cases he : eqB x t = true
          · have hkj : k ≤ j := by
              rcases Nat.lt_or_ge j k with h | h
              · have := HN.out j h
                rw [HX.out, he] at this
                cases this
              · exact h
            have he' : (x.toList == t.toList) = true := he
            clear he
            go_wp2
            go_round
            case rel => exact ⟨j + 1, by omega, by go_num⟩
            case measure => simp [intOf]; omega
          · have he' : (x.toList == t.toList) = false := by simpa [eqB] using he
            clear he
            go_wp2
            go_round
            case rel => exact ⟨j + 1, by omega, by go_num⟩
            case measure => simp [intOf]; omega
        · obtain rfl : j = m := by omega
          have c0 := HC.out k hk
          obtain ⟨x, hx⟩ : ∃ x, ss.getD k .empty = x := ⟨_, rfl⟩
          have he := HY.out
          rw [hx] at c0 he
          have he' : (x.toList == t.toList) = true := he
          have hd : decide ((k : Int) < 0) = false := by rw [decide_eq_false_iff_not]; omega
          clear hx he
          go_wp2
          go_ret
          exact ⟨rfl, hb⟩

set_option maxRecDepth 100000 in
set_option maxHeartbeats 800000 in
theorem among_none' (A : Option Addr) (c : Nat) (wh : Int) (s : ByteArray) (W : World) (hm : MaxIs W) :
    Calls Try.prog 9 #[.slice A 0 c, .int .u8 wh, .string s] W fun e w' => e = .returned (.bool true) ∧ Below W.heap.size W w' := by
  have ht : ∀ w A, Texts w A 0 [] := fun w A => ⟨rfl, fun h => absurd h (by omega)⟩
  have HT := Lib.hid ht
  clear ht
  rcases A with _ | a
  all_goals
    go_enter Try.func9, Try.ntmps9
    go_wp2_with fail
    refine (examples_any _ hm).mono ?_
    rintro e w1 ⟨rfl, hb⟩
    go_wp2_with fail
    all_goals
      refine (among_any s _ 0 _ [] (by omega) _ (HT.out _ _)).mono ?_
      rintro e w' ⟨rfl, rfl⟩
      rw [show amongI s [] = -1 from rfl]
      go_wp2
      go_loop [9] (fun i => i = .int .i64 0) (fun i => 0)
      case atStart => rfl
      case round =>
        obtain rfl := hrel
        go_wp2
        go_ret
        exact ⟨rfl, hb⟩

theorem among_walk (W : World) (A : Option Addr) (n c : Nat) (ss : List ByteArray) (wh : Int) (s : ByteArray) (ht : Texts W A n ss) (hc : n ≤ c) (hcm : c ≤ maxLen) (hwf : (Lit.int .u8 wh).wf = true) (_ : s.size ≤ maxLen) (hm : MaxIs W) :
    Calls Try.prog 9 #[.slice A n c, .int .u8 wh, .string s] W fun e w' => e = .returned (.bool true) ∧ Below W.heap.size W w' := by
  rcases Nat.eq_zero_or_pos n with rfl | hn
  · exact among_none' A c wh s W hm
  · obtain ⟨b, off, rfl, _, _⟩ := ht.2 hn
    obtain ⟨w1, w2⟩ := bdu8 hwf
    unfold maxLen at hcm
    exact among_some b off n (min n 10) c (ss.take (min n 10)) wh s w1 w2 hc (by omega) (by omega) (by omega) (by omega) (by omega) W hm (ht.less (by omega))
end Go.Proofs.Ythmbgnjbmkmajaa
