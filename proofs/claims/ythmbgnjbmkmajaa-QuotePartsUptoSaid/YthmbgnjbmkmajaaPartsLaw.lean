/- The walk of the law QuoteParts: any parts are joined, any text is found among some, and cut at the first of some, as the document says. -/
import Derived.Test.YthmbgnjbmkmajaaRefCut
namespace Go.Proofs.Ythmbgnjbmkmajaa
open Go.RowKit
set_option linter.unusedVariables false

set_option maxRecDepth 100000 in
set_option maxHeartbeats 1000000 in
theorem parts_some (s : ByteArray) (A : Option Addr) (n c : Nat) (ss : List ByteArray) (B : Option Addr) (n2 c2 : Nat) (sp : List ByteArray) (wh : Int) (hs : s.size ≤ 1048576) (hn : n ≤ 1048576) (hbulk : bulkT ss ≤ 1048576) (hc : n ≤ c) (hn2 : n2 ≤ 1048576) (hbulk2 : bulkT sp ≤ 1048576) (hw0 : 0 ≤ wh) (hw1 : wh ≤ 255) (W : World) (ht : Texts W A n ss) (ht2 : Texts W B n2 sp) (hm : MaxIs W) :
    Calls Try.prog 4 #[.string s, .slice A n c, .slice B n2 c2, .int .u8 wh] W fun e w' => e = .returned (.bool true) ∧ Below W.heap.size W w' := by
  have HT := Lib.hid ht
  have HT2 := Lib.hid ht2
  have HM := Lib.hid hm
  have HB := Lib.hid hbulk
  have HB2 := Lib.hid hbulk2
  have hsmall : ∀ k, k < n → (ss.getD k .empty).size ≤ 1048576 := fun k hk => by
    have : ss.getD k .empty ∈ ss := by rw [List.getD_eq_getElem?_getD, List.getElem?_eq_getElem (by rw [ht.1]; exact hk)]; exact List.getElem_mem _
    have := bulkT_mem this
    omega
  have HS := Lib.hid hsmall
  clear ht ht2 hm hbulk hbulk2 hsmall
  go_enter Try.func4, Try.ntmps4
  go_wp2_with fail
  refine (examples_any _ HM.out).mono ?_
  rintro e w1 ⟨rfl, hb1⟩
  have ht1 := HT.out.below hb1
  have hsz1 := hb1.size
  have ht2 := HT2.out.below hb1
  have hm1 := HM.out.below hb1
  have hcut1 := fun lg (hlg' : lg.size ≤ 16777216) w (h : Below w1.heap.size w1 w) => cut_any lg hlg' B n2 c2 sp (by omega) w (ht2.below h) (hm1.below h)
  have hcut2 := fun lg (hlg' : lg.size ≤ 16777216) w (h : Below w1.heap.size w1 w) => refCut_any lg hlg' B n2 c2 sp (by omega) (by have := HB2.out; omega) w (ht2.below h)
  have hjoin : ∀ (t : ByteArray) (ht : t.size ≤ 1048576) (w : World) (h : Below w1.heap.size w1 w), Calls Try.prog 18 #[.string t, .slice A n c] w fun e w' => e = .returned (.string (joinT t ss)) ∧ Below w.heap.size w w' := fun t (ht : t.size ≤ 1048576) w (h : Below w1.heap.size w1 w) => join_any t A n c ss (by omega) hc (by have := joinT_take t ss ss.length (by rw [ht1.1]; exact hn) ht HB.out; rw [List.take_length, joinT, put_size] at this; omega) w (ht1.below h)
  have hjoin2 := fun t (ht : t.size ≤ 1048576) w (h : Below w1.heap.size w1 w) => refJoin_any t A n c ss hn ht HB.out w (ht1.below h)
  have hamong := fun t w (h : Below w1.heap.size w1 w) => among_any t A n c ss (by omega) w (ht1.below h)
  have hamong2 := fun t w (h : Below w1.heap.size w1 w) => refAmong_any t A n c ss (by omega) w (ht1.below h)
  have HB1 := Lib.hid hb1
  have HT1 := Lib.hid ht1
  have C1 := Lib.hid hcut1
  have C2 := Lib.hid hcut2
  have J1 := Lib.hid hjoin
  have J2 := Lib.hid hjoin2
  have A1 := Lib.hid hamong
  have A2 := Lib.hid hamong2
  clear hb1 ht1 ht2 hm1 hcut1 hcut2 hjoin hjoin2 hamong hamong2
  have hcase : (n : Int) ≤ 0 ∨ ((0 : Int) < (n : Int) ∧ (wh % 2 == 0) = false) ∨ ((0 : Int) < (n : Int) ∧ (wh % 2 == 0) = true ∧ ((n : Int) == 0) = false ∧ ∃ j : Nat, wh % (n : Int) = j ∧ j < n ∧ ∃ b off x, A = some ⟨b, off, none⟩ ∧ w1.cell? ⟨b, off + j, none⟩ = some (.string x) ∧ x.size ≤ 1048576) := by
    rcases Nat.eq_zero_or_pos n with h0 | h0
    · exact .inl (by omega)
    · right
      by_cases hp : wh % 2 = 0
      · right
        have hj0 : 0 ≤ wh % (n : Int) := Int.emod_nonneg _ (by omega)
        have hj1 : wh % (n : Int) < n := Int.emod_lt_of_pos _ (by omega)
        obtain ⟨b, off, e, hlt, hcs⟩ := HT1.out.2 h0
        exact ⟨by omega, by rw [beq_iff_eq]; exact hp, by rw [beq_eq_false_iff_ne]; omega, (wh % (n : Int)).toNat, by omega, by omega, b, off, _, e, hcs _ (by omega), HS.out _ (by omega)⟩
      · left
        exact ⟨by omega, by rw [beq_eq_false_iff_ne]; exact hp⟩
  rcases hcase with p1 | ⟨p1, p2⟩ | ⟨p1, p2, p3, j, p4, p5, b, off, x, rfl, c0, p6⟩
  all_goals
    go_wp2_with fail
    go_loop [10, 11] (fun v i => ∃ (k : Nat) (lg : ByteArray), k ≤ n ∧ k ≤ 4 ∧ i = .int .i64 k ∧ v = .string lg ∧ lg.size ≤ 1048576 + k * 1048576) (fun _ i => n - (intOf i).toNat)
    case atStart => exact ⟨0, _, Nat.zero_le _, Nat.zero_le _, rfl, rfl, by omega⟩
    case round =>
      obtain ⟨k, lg, hk, hk4, rfl, rfl, hlg⟩ := hrel
      have hend : (k < n ∧ k < 4 ∧ wh % 3 = 0) ∨ k = n ∨ (k = 4 ∧ (4 : Int) < (n : Int)) ∨ ((k : Int) < (n : Int) ∧ (k : Int) < 4 ∧ (wh % 3 == 0) = false) := by
        by_cases h3 : wh % 3 = 0
        · omega
        · have : (wh % 3 == 0) = false := by rw [beq_eq_false_iff_ne]; exact h3
          by_cases h1 : k = n
          · exact .inr (.inl h1)
          · by_cases h2 : k = 4
            · exact .inr (.inr (.inl ⟨h2, by omega⟩))
            · exact .inr (.inr (.inr ⟨by omega, by omega, this⟩))
      rcases hend with ⟨hkn, hk4', h3⟩ | hend
      · first
        | (exfalso; omega)
        | obtain ⟨b', off', e, hlt, hcs⟩ := HT1.out.2 (by omega)
          have c1 := hcs k hkn
          have hsk := HS.out k hkn
          obtain ⟨y, hy⟩ : ∃ x, ss.getD k .empty = x := ⟨_, rfl⟩
          rw [hy] at c1 hsk
          have h3' : (wh % 3 == 0) = true := by rw [beq_iff_eq]; exact h3
          have hadd : lg.size + y.size ≤ 16777216 := by omega
          have hadd2 : lg.size + y.size ≤ 1048576 + (k + 1) * 1048576 := by omega
          clear hcs hy h3
          cases e
          go_wp2
          go_round
          case rel =>
            first
              | exact ⟨k + 1, lg ++ y, by omega, by omega, by go_num, rfl, by rw [ByteArray.size_append]; exact hadd2⟩
              | exact ⟨k + 1, by omega, by omega, by omega, hadd2⟩
          case measure => simp [intOf]; omega
      · have hlg' : lg.size ≤ 16777216 := by omega
        have D1 := Lib.hid (C1.out lg hlg')
        have D2 := Lib.hid (C2.out lg hlg')
        obtain ⟨⟨u, v, z⟩, hu⟩ : ∃ x, cutR lg sp = x := ⟨_, rfl⟩
        rw [hu] at D1 D2
        clear hu
        rcases hend with rfl | ⟨rfl, q1⟩ | ⟨q1, q2, q3⟩
        all_goals
          go_wp2_with fail
          refine (D1.out _ (Below.refl _ _)).mono ?_
          rintro e w2 ⟨rfl, q, rfl⟩
          go_wp2_with fail
          refine (D2.out _ (below_drewN (Below.refl _ _) q)).mono ?_
          rintro e w2 ⟨rfl, q', rfl⟩
          have hb := below_drewN (Below.refl w1.heap.size w1) (q + q')
          go_wp2_with fail
          refine (J1.out _ (by assumption) _ hb).mono ?_
          rintro e w3 ⟨rfl, hb3⟩
          have hb' := hb.trans (hb3.mono hb.size)
          clear hb hb3
          go_wp2_with fail
          refine (J2.out _ (by assumption) _ hb').mono ?_
          rintro e w4 ⟨rfl, rfl⟩
          go_wp2_with fail
          refine (A1.out _ _ hb').mono ?_
          rintro e w4 ⟨rfl, rfl⟩
          go_wp2_with fail
          refine (A2.out _ _ hb').mono ?_
          rintro e w4 ⟨rfl, rfl⟩
          have hbl := HB1.out.trans (hb'.mono hsz1)
          go_wp2
          go_ret
          exact ⟨rfl, hbl⟩

theorem parts_walk (W : World) (s : ByteArray) (A : Option Addr) (n c : Nat) (ss : List ByteArray) (B : Option Addr) (n2 c2 : Nat) (sp : List ByteArray) (wh : Int) (hs : s.size ≤ 1048576) (ht : Texts W A n ss) (hb : bulkT ss ≤ 1048576) (hc : n ≤ c) (ht2 : Texts W B n2 sp) (hb2 : bulkT sp ≤ 1048576) (hc2 : n2 ≤ c2) (hwf : (Lit.int .u8 wh).wf = true) (hm : MaxIs W) :
    Calls Try.prog 4 #[.string s, .slice A n c, .slice B n2 c2, .int .u8 wh] W fun e w' => e = .returned (.bool true) ∧ Below W.heap.size W w' := by
  obtain ⟨w1, w2⟩ := bdu8 hwf
  have h1 := bulkT_len ss
  have h2 := bulkT_len sp
  rw [ht.1] at h1
  rw [ht2.1] at h2
  exact parts_some s A n c ss B n2 c2 sp wh hs (by omega) hb hc (by omega) hb2 w1 w2 W ht ht2 hm
end Go.Proofs.Ythmbgnjbmkmajaa
