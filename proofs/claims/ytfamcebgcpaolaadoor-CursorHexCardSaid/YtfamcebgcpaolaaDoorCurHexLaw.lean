/- The walk of the law CursorHex: a number has sixteen digits, and two stand in their order. -/
import Derived.Test.YtfamcebgcpaolaaDoorCurExam
namespace Go.Proofs.YtfamcebgcpaolaaDoor
open Go.RowKit
set_option linter.unusedVariables false
set_option linter.unusedSimpArgs false

theorem bdu64 {x : Int} (h : (Lit.int .u64 x).wf = true) : 0 ≤ x ∧ x ≤ 18446744073709551615 := by
  simpa [Lit.wf, IntKind.min, IntKind.max, IntKind.signed, IntKind.bits] using h
theorem hexS_at (a k : Nat) (hk : k < 16) : (hexS a)[k]'(by rw [hexS_size]; exact hk) = hexC0 (a / 16 ^ (15 - k) % 16) := by
  have h := hx_at 16 a k hk
  have hl : k < (hx 16 a).length := by rw [hx_len]; exact hk
  rw [List.getElem?_eq_getElem hl] at h
  injection h with h

set_option maxRecDepth 100000 in
set_option maxHeartbeats 3200000 in
theorem cursorHex_walk {W : World} (a b : Int) (same : Bool) (wa : (Lit.int .u64 a).wf = true) (wb : (Lit.int .u64 b).wf = true) (hl : LibIs W) :
    Calls Tryd.prog 4 #[.int .u64 a, .int .u64 b, .bool same] W fun e w' => e = .returned (.bool true) ∧ Below W.heap.size W w' := by
  have h0 : W.heap.size ≤ W.heap.size := Nat.le_refl _
  obtain ⟨a0, a1⟩ := bdu64 wa
  obtain ⟨b0, b1⟩ := bdu64 wb
  obtain ⟨a, rfl⟩ : ∃ n : Nat, a = n := ⟨a.toNat, by omega⟩
  obtain ⟨b, rfl⟩ : ∃ n : Nat, b = n := ⟨b.toNat, by omega⟩
  have ha : a < 18446744073709551616 := by omega
  have hb : b < 18446744073709551616 := by omega
  have HX := Lib.hid (fun w h => curExamples_any w h)
  have HA := fun w => hex_any a ha w
  have HB := fun w => hex_any b hb w
  have hcmp := hexS_cmp a b ha hb
  have hinj := fun h => hexS_inj ha hb h
  have hsz : (hexS a).size = 16 := hexS_size a
  have htz : (hexS b).size = 16 := hexS_size b
  have hat := hexS_at a
  obtain ⟨s, hs⟩ : ∃ s, hexS a = s := ⟨_, rfl⟩
  obtain ⟨t, ht⟩ : ∃ t, hexS b = t := ⟨_, rfl⟩
  simp only [hs] at HA
  simp only [ht] at HB
  have hat2 : ∀ k, k < 16 → ∀ h : k < s.size, s[k] = hexC0 (a / 16 ^ (15 - k) % 16) := fun k hk h => by
    subst hs
    exact hat k hk
  rw [hs] at hsz hcmp
  rw [ht] at htz hcmp
  rw [hs, ht] at hinj
  obtain ⟨z, hz⟩ : ∃ z, ((a : Int) == (b : Int)) = z := ⟨_, rfl⟩
  obtain ⟨y, hy⟩ : ∃ z, decide ((a : Int) < (b : Int)) = z := ⟨_, rfl⟩
  have hz2 : (s.toList == t.toList) = z := by
    rw [← hz, Bool.eq_iff_iff, beq_iff_eq, beq_iff_eq]
    constructor
    · intro h
      have := hinj (text_ext1 (by rw [← Lib.toList_data, ← Lib.toList_data, h]))
      omega
    · intro h
      have h2 : a = b := by omega
      rw [← hs, ← ht, h2]
  have hy2 : Op.bytesLess s.toList t.toList = y := by
    rw [less_txtC, hcmp, ← hy, decide_eq_decide]
    unfold cmpN
    split
    · rename_i h; constructor <;> intro _ <;> omega
    · split <;> (constructor <;> intro _ <;> omega)
  have hy3 : Op.bytesLess s.toList s.toList = false := by
    rw [less_txtC, txtC_ord.refl]
    rfl
  have hz3 : (a == b) = z := by rw [← hz, Bool.eq_iff_iff, beq_iff_eq, beq_iff_eq]; omega
  have hy4 : decide (a < b) = y := by rw [← hy, decide_eq_decide]; omega
  have HAT := Lib.hid hat2
  have HR1 := Lib.hid (read_next a)
  have HR2 := Lib.hid (fun i (hi : i < 16) => read_less a i hi ha)
  have HR3 := Lib.hid (read_first a ha)
  replace HA := Lib.hid HA
  replace HB := Lib.hid HB
  have HL := Lib.hid hl
  have Hz := Lib.hid hz
  have Hz2 := Lib.hid hz2
  have Hz3 := Lib.hid hz3
  have Hy := Lib.hid hy
  have Hy2 := Lib.hid hy2
  have Hy3 := Lib.hid hy3
  have Hy4 := Lib.hid hy4
  have Hsz := Lib.hid hsz
  have Htz := Lib.hid htz
  have hs16 : s.size ≤ 16 := by omega
  clear wa wb hcmp hinj hat hs ht hat2 hz hz2 hz3 hy hy2 hy3 hy4 hsz htz hl
  go_enter Tryd.func4, Tryd.ntmps4
  go_wp2_with fail
  refine (HX.out _ HL.out).mono ?_
  rintro e w1 ⟨rfl, hb1⟩
  cases same
  all_goals
    go_wp2_with fail
    refine (HA.out _).mono ?_
    rintro e w2 ⟨rfl, hx⟩
    have hb2 := hop hb1 h0 hx
    clear hx
    go_wp2_with fail
    first | (with_reducible refine (HB.out _).mono ?_) | (with_reducible refine (HA.out _).mono ?_)
    rintro e w3 ⟨rfl, hx⟩
    have Hb3 := Lib.hid (hop hb2 h0 hx)
    clear hx hb2 hb1
    go_wp2
    go_loopw [10, 11] (fun nv iv wr => ∃ k n : Nat, k ≤ 16 ∧ iv = .int .i64 k ∧ nv = .int .u64 n ∧ Hid (a / 16 ^ (16 - k) = n) ∧ wr = w3) (fun _ iv _ => 16 - (intOf iv).toNat)
    case atStart => exact ⟨0, 0, Nat.zero_le _, rfl, rfl, Lib.hid HR3.out, rfl⟩
    case round =>
      obtain ⟨k, n, hk, rfl, rfl, HN, rfl⟩ := hrel
      by_cases hk2 : k < 16
      · have hkI : (k : Int) < (s.size : Int) := by rw [Hsz.out]; omega
        have hkN : k < s.size := by rw [Hsz.out]; omega
        have e1 := HAT.out k hk2 hkN
        have e2 := HR1.out k hk2
        have e3 := HR2.out k hk2
        rw [HN.out] at e2 e3
        have hd16 : a / 16 ^ (15 - k) % 16 < 16 := Nat.mod_lt _ (by decide)
        obtain ⟨d, hd⟩ : ∃ d, a / 16 ^ (15 - k) % 16 = d := ⟨_, rfl⟩
        rw [hd] at e1 e2 hd16
        have hcn := hexC0_nat d hd16
        obtain ⟨c, hc⟩ : ∃ c, hexC0 d = c := ⟨_, rfl⟩
        rw [hc] at e1 hcn
        have hor := next_is n d e3 hd16
        have e2' : a / 16 ^ (16 - (k + 1)) = n * 16 + d := by rw [e2, show 16 - (k + 1) = 15 - k by omega]
        obtain ⟨m, hm⟩ : ∃ m, n * 16 + d = m := ⟨_, rfl⟩
        rw [hm] at hor e2'
        have HM := Lib.hid e2'
        have hdw : IntKind.u64.wrap (d : Int) = (d : Int) := by rw [IntKind.wrap_u64]; omega
        have hdw8 : IntKind.u8.wrap (d : Int) = (d : Int) := by rw [IntKind.wrap_u8]; omega
        have cl := c.toNat_lt
        by_cases hd10 : d < 10
        · rw [if_pos hd10] at hcn
          have c1 : 48 ≤ c.toNat := by omega
          have c2 : c.toNat ≤ 57 := by omega
          have c1I : (48 : Int) ≤ (c.toNat : Int) := by omega
          have c2I : (c.toNat : Int) ≤ 57 := by omega
          have s1 : (c.toNat : Int) - 48 = (d : Int) := by omega
          have s2 : IntKind.u8.wrap ((c.toNat : Int) - 48) = (d : Int) := by rw [s1]; exact hdw8
          clear e2 e2' e3 hd hc hm hcn cl HN
          go_wp2
          go_round
          case rel => exact ⟨k + 1, m, by omega, by go_num, by first | rfl | (rw [hor]; done) | (simp [hor]; done), HM, by first | rfl | trivial⟩
          case measure => simp [intOf]; omega
        · rw [if_neg hd10] at hcn
          have c1 : 97 ≤ c.toNat := by omega
          have c2 : c.toNat ≤ 102 := by omega
          have c3 : 48 ≤ c.toNat := by omega
          have c1I : (97 : Int) ≤ (c.toNat : Int) := by omega
          have c2I : (c.toNat : Int) ≤ 102 := by omega
          have c3I : (48 : Int) ≤ (c.toNat : Int) := by omega
          have c4 : decide ((c.toNat : Int) ≤ 57) = false := decide_eq_false (by omega)
          have c5 : ¬ (c.toNat : Int) ≤ 57 := by omega
          have c6 : ¬ c.toNat ≤ 57 := by omega
          obtain ⟨d2, hd2⟩ : ∃ x, d = x + 10 := ⟨d - 10, by omega⟩
          have s1 : (c.toNat : Int) - 97 = (d2 : Int) := by omega
          have s2 : IntKind.u8.wrap ((c.toNat : Int) - 97) = (d2 : Int) := by rw [s1, IntKind.wrap_u8]; omega
          have s3 : (d2 : Int) + 10 = (d : Int) := by omega
          have s4 : IntKind.u8.wrap ((d2 : Int) + 10) = (d : Int) := by rw [s3]; exact hdw8
          clear e2 e2' e3 hd hc hm hcn cl HN hd2 hd10
          go_wp2
          go_round
          case rel => exact ⟨k + 1, m, by omega, by go_num, by first | rfl | (rw [hor]; done) | (simp [hor]; done), HM, by first | rfl | trivial⟩
          case measure => simp [intOf]; omega
      · obtain rfl : k = 16 := by omega
        have hn : n = a := by rw [← HN.out, show 16 - 16 = 0 by decide, Nat.pow_zero, Nat.div_one]
        subst hn
        have hkI : ¬ (16 : Int) < (s.size : Int) := by rw [Hsz.out]; decide
        have z1 := Hsz.out
        have z2 := Htz.out
        have z3 := Hz.out
        have z4 := Hz2.out
        have z5 := Hz3.out
        have y1 := Hy.out
        have y2 := Hy2.out
        have y3 := Hy3.out
        have y4 := Hy4.out
        clear HN
        go_wp2
        go_ret
        exact ⟨by first | rfl | (simp; done), Hb3.out⟩
end Go.Proofs.YtfamcebgcpaolaaDoor
