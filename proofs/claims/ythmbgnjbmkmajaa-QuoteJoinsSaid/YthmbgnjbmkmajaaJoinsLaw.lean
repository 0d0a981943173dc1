/- The walk of the law QuoteJoins: parts are joined with so many bytes as they have, and what stands between; cut at that they are told again. -/
import Derived.Test.YthmbgnjbmkmajaaJoinsMath
import Derived.Test.YthmbgnjbmkmajaaAmongLaw
namespace Go.Proofs.Ythmbgnjbmkmajaa
open Go.RowKit
set_option linter.unusedVariables false

theorem conv_letter (w : World) (z : Int) (h0 : 0 ≤ z) (h1 : z ≤ 255) : (convert 42 9 (.slice (some ⟨w.heap.size, 0, none⟩) 1 1)).run Try.prog (w.alloc (.cells #[.int .u8 (97 + z % 26)] 5)) = .ok (.string ⟨#[letter z]⟩) (w.alloc (.cells #[.int .u8 (97 + z % 26)] 5)) := by
  have h := conv_one w (letter z)
  rw [letter_nat z h0 h1] at h
  exact h

set_option maxRecDepth 100000 in
set_option maxHeartbeats 2000000 in
theorem joins_walk (W : World) (A : Option Addr) (n c : Nat) (L : Nat → Nat) (Z : Nat → Nat → Int) (hr : Rows8 W A n L Z) (hc : n ≤ c) (hcm : c ≤ maxLen) (hm : MaxIs W) :
    Calls Try.prog 8 #[.slice A n c] W fun e w' => e = .returned (.bool true) ∧ Below W.heap.size W w' := by
  obtain ⟨i0, hi, hz0, hz1, hz2⟩ := info_parts infoStr
  unfold maxLen at hcm
  have hn63 : (n : Int) ≤ 9223372036854775807 := by omega
  have HR := Lib.hid hr
  have HM := Lib.hid hm
  clear hr hm
  go_enter Try.func8, Try.ntmps8
  go_wp2_with fail
  refine (examples_any _ HM.out).mono ?_
  rintro e w1 ⟨rfl, hb1⟩
  go_wp2
  go_loopw [4, 5, 6] (fun v t i wr => ∃ k tot : Nat, k ≤ n ∧ k ≤ 8 ∧ i = .int .i64 k ∧ t = .int .i64 tot ∧ tot ≤ 6 * k ∧ Hid (tot = total (partsL L Z k)) ∧ OwnT wr W.heap.size 9 v (partsL L Z k) ∧ Below W.heap.size W wr) (fun _ _ i _ => n - (intOf i).toNat)
  case atStart => exact ⟨0, 0, Nat.zero_le _, Nat.zero_le _, rfl, rfl, Nat.zero_le _, Lib.hid rfl, OwnT.nil _ _ _, hb1⟩
  case round =>
    obtain ⟨k, tot, hk, hk8, rfl, rfl, htot, HTT, hown, hbel⟩ := hrel
    have hsz := hbel.size
    by_cases hkn : k < n ∧ k < 8
    · obtain ⟨hkn, hk8'⟩ := hkn
      obtain ⟨b, off, rfl, hlt, hrow⟩ := (HR.out.below hbel) (by omega)
      have hps := partsL_snoc L Z k
      have hlen := partsL_len L Z k
      obtain ⟨ps, hpse⟩ : ∃ ps, partsL L Z k = ps := ⟨_, rfl⟩
      rw [hpse] at hown hps hlen
      have HPS := Lib.hid hps
      have HPE := Lib.hid hpse
      clear hrow hps hpse
      go_wp2
      go_loopw [7, 8] (fun t j wz => ∃ m : Nat, m ≤ min (L k) 6 ∧ j = .int .i64 m ∧ t = .string (partT (L k) (Z k) m) ∧ OwnT wz W.heap.size 9 u4 ps ∧ Below W.heap.size W wz) (fun _ j _ => 6 - (intOf j).toNat)
      case atStart => exact ⟨0, Nat.zero_le _, rfl, rfl, hown, hbel⟩
      case round =>
        obtain ⟨m, hmm, rfl, rfl, hoz, hbz⟩ := hrel
        have hszz := hbz.size
        obtain ⟨b2, off2, e, hlt2, hrow⟩ := (HR.out.below hbz) (by omega)
        obtain ⟨R, C, c0, hin⟩ := hrow k hkn
        have HIN := Lib.hid hin
        clear hin
        injection e with e
        injection e with e1 e2
        subst e1 e2
        have hsnoc := partT_snoc (L k) (Z k) m
        have htsz := partT_size (L k) (Z k) m
        have hend := partT_end (L k) (Z k) m
        obtain ⟨t, ht⟩ : ∃ t, partT (L k) (Z k) m = t := ⟨_, rfl⟩
        rw [ht] at hsnoc htsz hend ⊢
        have HT := Lib.hid ht
        clear hrow ht
        by_cases hml : m < min (L k) 6
        · have hsnoc := hsnoc hml
          obtain ⟨b', off', rfl, hlt', hcl⟩ := HIN.out (by omega)
          obtain ⟨c1, z0, z1⟩ := hcl m (by omega)
          obtain ⟨z, hz⟩ : ∃ z, Z k m = z := ⟨_, rfl⟩
          rw [hz] at c1 z0 z1 hsnoc
          have q1 : (m : Int) < (L k : Int) := by omega
          have q2 : (m : Int) < 6 := by omega
          have q3 : m < L k := by omega
          have g1 : t.size + 1 ≤ 100 := by omega
          have hw : IntKind.u8.wrap (97 + z % 26) = 97 + z % 26 := by rw [IntKind.wrap_u8]; omega
          have hcv := conv_letter wr z z0 z1
          have HSN := Lib.hid hsnoc
          clear hcl hsnoc hend htsz hz
          go_wp2
          go_round
          case rel => exact ⟨m + 1, by omega, by go_num, by rw [HSN.out], hoz.alloc _, hbz.alloc hszz _⟩
          case measure => simp [intOf]; omega
        · have hmeq : m = min (L k) 6 := by omega
          replace hend := hend hmeq
          have hx6 : t.size ≤ 6 := by omega
          have hexit : m = L k ∨ (m = 6 ∧ (6 : Int) < (L k : Int)) := by omega
          have HEND := Lib.hid hend
          clear hsnoc hend htsz hml hmeq hmm
          rcases hexit with hq | ⟨rfl, hq⟩
          all_goals
            go_wp2_with (at_builtin; refine wpList_append_own _ rfl (.tmp 54) (.tmp 56) 28 rfl W.heap.size 9 i0 (.string .empty) 1 16 Try.underlying28 hi hz0 hz1 hz2 rfl (by decide) _ _ _ rfl (hoz.alloc _) ⟨wr.heap.size, 0, none⟩ 1 1 (tV [t]) rfl rfl (new_cells_at _ _ _ _ (by simp)) (tV_one _) (by unfold maxLen; omega) (by omega) (by simp; omega) ?_)
            intro v' w3 hown' hgrow _
            have hbel' := (hbz.alloc hszz _).grown hgrow (by simp; omega) (fun r hr => (World.ownsRow.lt hoz r hr).1)
            have hown3 : OwnT w3 W.heap.size 9 v' (ps ++ [t]) := OwnT.snoc (m := [t]) (by rw [hlen]; exact hown')
            have htt : tot + t.size = total (partsL L Z (k + 1)) := by rw [HPS.out, ← HEND.out, total_snoc, ← HPE.out, ← HTT.out]
            have HT2 := Lib.hid htt
            clear hown' hgrow hbz htt
            go_wp2
            go_round
            case rel => exact ⟨k + 1, tot + t.size, by omega, by omega, by go_num, by go_num, by omega, HT2, by rw [HPS.out, ← HEND.out]; exact hown3, hbel'⟩
            case measure => simp [intOf]; omega
    · have hkm : (¬ (k : Int) < (n : Int)) ∨ ((k : Int) < (n : Int) ∧ ¬ (k : Int) < 8) := by omega
      obtain ⟨w0, rfl⟩ : ∃ w0, w0 = wr := ⟨_, rfl⟩
      have hno : ∀ p ∈ partsL L Z k, NoDash p.data.toList := partsL_no L Z k fun r hr c hcl => by
        obtain ⟨b, off, _, _, hrow⟩ := HR.out (by omega)
        obtain ⟨R, C, _, h2⟩ := hrow r (by omega)
        obtain ⟨_, _, _, _, h3⟩ := h2 (by omega)
        exact (h3 c hcl).2
      have hlen := partsL_len L Z k
      have htot2 := HTT.out
      obtain ⟨ps, hpse⟩ : ∃ ps, partsL L Z k = ps := ⟨_, rfl⟩
      rw [hpse] at hown hno hlen htot2
      obtain ⟨A', cap, hv, hcap, htx⟩ := hown.texts
      rw [hlen] at hv htx hcap
      subst hv
      have hjs : (joinT dashes ps).size = tot + 2 * (k - 1) := by rw [joined_size, hlen, ← htot2]; rfl
      have hj0 : (joinT .empty ps).size = tot := by rw [joined_size, hlen, ← htot2]; show tot + 0 * (k - 1) = tot; omega
      have hmw := HM.out.below hbel
      have hjoin : ∀ w (h : Below w0.heap.size w0 w), Calls Try.prog 18 #[.string ⟨#[45, 45]⟩, .slice A' k cap] w fun e w' => e = .returned (.string (joinT dashes ps)) ∧ Below w.heap.size w w' :=
        fun w h => join_any dashes A' k cap ps (by omega) hcap (by have e : (joinB dashes ps).length = (joinT dashes ps).size := (put_size _).symm; rw [e, hjs]; omega) w (htx.below h)
      have hjoin0 : ∀ w (h : Below w0.heap.size w0 w), Calls Try.prog 18 #[.string ⟨#[]⟩, .slice A' k cap] w fun e w' => e = .returned (.string (joinT .empty ps)) ∧ Below w.heap.size w w' :=
        fun w h => join_any .empty A' k cap ps (by omega) hcap (by have e : (joinB .empty ps).length = (joinT .empty ps).size := (put_size _).symm; rw [e, hj0]; omega) w (htx.below h)
      have hjoin1 : ∀ (y : ByteArray) (w : World), y.size ≤ 100 → Calls Try.prog 18 #[.string ⟨#[]⟩, .slice (some ⟨w.heap.size, 0, none⟩) 1 1] (w.alloc (.cells #[.string y] 9)) fun e w' => e = .returned (.string y) ∧ Below (w.alloc (.cells #[.string y] 9)).heap.size (w.alloc (.cells #[.string y] 9)) w' := fun y w hy => by
        have h := join_any .empty (some ⟨w.heap.size, 0, none⟩) 1 1 [y] (by decide) (by decide) (by have e : (joinB .empty [y]).length = (joinT .empty [y]).size := (put_size _).symm; rw [e, join_single]; omega) (w.alloc (.cells (([y] : List ByteArray).map Value.string).toArray 9)) (texts_new w 9 [y] _ rfl)
        have e : (⟨(joinB .empty [y]).toArray⟩ : ByteArray) = y := join_single .empty y
        rw [e] at h
        exact h
      have hcut : ∀ (j : Nat) (w : World) (h : Below w0.heap.size w0 w), j < k → Calls Try.prog 16 #[.string (joinT dashes (ps.drop j)), .slice (some ⟨w.heap.size, 0, none⟩) 1 1] (w.alloc (.cells #[.string ⟨#[45, 45]⟩] 9)) fun e w' => e = .returned (.tuple #[.string (ps.getD j .empty), .string (sepAt j k), .string (joinT dashes (ps.drop (j + 1)))]) ∧ ∃ q, w' = (w.alloc (.cells #[.string ⟨#[45, 45]⟩] 9)).drewN q := fun j w h hj => by
        have hc := cut_joined ps hno j (by rw [hlen]; exact hj)
        rw [hlen] at hc
        have hz : (joinT dashes (ps.drop j)).size ≤ 16777216 := by
          have h1 : (joinT dashes (ps.drop j)).size = total (ps.drop j) + 2 * ((ps.drop j).length - 1) := joined_size dashes (ps.drop j)
          have h2 := total_le (ps.drop j) fun p hp => by rw [← hpse] at hp; exact partsL_small L Z k p (List.mem_of_mem_drop hp)
          rw [List.length_drop, hlen] at h1 h2
          omega
        have h3 := cut_any (joinT dashes (ps.drop j)) hz (some ⟨w.heap.size, 0, none⟩) 1 1 [dashes] (by omega) (w.alloc (.cells (([dashes] : List ByteArray).map Value.string).toArray 9)) (texts_new w 9 [dashes] _ rfl) ((hmw.below h).alloc _)
        rw [hc] at h3
        exact h3
      have hlast : joinT dashes (ps.drop k) = .empty := by rw [List.drop_of_length_le (by rw [hlen]; exact Nat.le_refl _)]; rfl
      obtain ⟨y, hy⟩ : ∃ y, joinT .empty ps = y := ⟨_, rfl⟩
      rw [hy] at hj0
      simp only [hy] at hjoin0
      obtain ⟨t, ht⟩ : ∃ t, joinT dashes ps = t := ⟨_, rfl⟩
      have hfirst : t = joinT dashes (ps.drop 0) := by rw [List.drop_zero, ht]
      rw [ht] at hjs
      simp only [ht] at hjoin
      obtain ⟨mx, hmx⟩ : ∃ mx : Nat, mx = k - 1 := ⟨_, rfl⟩
      rw [← hmx] at hjs
      have m1 : max ((k : Int) - 1) 0 = (mx : Int) := by omega
      have m2 : mx ≤ 7 := by omega
      have m3 : (t.size : Int) = (tot : Int) + 2 * (mx : Int) := by omega
      have m4 : tot ≤ 48 := by omega
      have hy100 : y.size ≤ 100 := by omega
      have fin : ∀ w : World, Below w0.heap.size w0 w → Below W.heap.size W w := fun w h => hbel.trans (h.mono hsz)
      have FIN := Lib.hid fin
      have J := Lib.hid hjoin
      have J0 := Lib.hid hjoin0
      have J1 := Lib.hid hjoin1
      have CUT := Lib.hid hcut
      have HTX := Lib.hid htx
      have HLAST := Lib.hid hlast
      have HFIRST := Lib.hid hfirst
      clear fin hjoin hjoin0 hjoin1 hcut htx hlast hfirst hjs hj0 hno htot2 hpse hlen hy ht hmx hown hbel hmw hkn htot hk hk8
      have hne : ((ByteArray.empty).toList == (⟨#[45, 45]⟩ : ByteArray).toList) = false := by rw [Lib.toList_data, Lib.toList_data]; rfl
      have hee : (ByteArray.empty).toList.isEmpty = true := by rw [empty_iff]; rfl
      rcases hkm with h1 | ⟨h1, h2⟩
      all_goals
        go_wp2_with fail
        refine (J.out _ (Below.refl _ _)).mono ?_
        rintro e w2 ⟨rfl, hb2⟩
        go_wp2
        go_loopw [10, 11] (fun r i wz => ∃ j : Nat, j ≤ k ∧ i = .int .i64 j ∧ r = .string (joinT dashes (ps.drop j)) ∧ Below w0.heap.size w0 wz) (fun _ i _ => k - (intOf i).toNat)
        case atStart => exact ⟨0, Nat.zero_le _, rfl, by rw [HFIRST.out], hb2⟩
        case round =>
          obtain ⟨j, hj, rfl, rfl, hbz⟩ := hrel
          have hszz := hbz.size
          by_cases hjk : j < k
          · have hcall := CUT.out j wr hbz hjk
            obtain ⟨g, o, rfl, hglt, hcell⟩ := (HTX.out.below hbz).2 (by omega)
            have c0 := hcell j hjk
            obtain ⟨x, hx⟩ : ∃ x, ps.getD j .empty = x := ⟨_, rfl⟩
            rw [hx] at c0 hcall
            obtain ⟨r, hr⟩ : ∃ r, joinT dashes (ps.drop j) = r := ⟨_, rfl⟩
            rw [hr] at hcall ⊢
            obtain ⟨r', hr'⟩ : ∃ r, joinT dashes (ps.drop (j + 1)) = r := ⟨_, rfl⟩
            rw [hr'] at hcall
            have HR' := Lib.hid hr'
            have hbz' := fun q => below_drewN (hbz.alloc hszz (.cells #[.string ⟨#[45, 45]⟩] 9)) q
            have HBZ := Lib.hid hbz'
            by_cases hl : j + 1 < k
            · have e : sepAt j k = ⟨#[45, 45]⟩ := by unfold sepAt; rw [if_pos hl]; rfl
              rw [e] at hcall
              have HC := Lib.hid hcall
              have l1 : (j : Int) < (k : Int) - 1 := by omega
              clear hcall hcell hx hr hr' hbz' e hbz hl
              go_wp2_with fail
              refine HC.out.mono ?_
              rintro e w3 ⟨rfl, q, rfl⟩
              go_wp2
              go_round
              case rel => exact ⟨j + 1, by omega, by go_num, by rw [HR'.out], HBZ.out q⟩
              case measure => simp [intOf]; omega
            · have e : sepAt j k = .empty := by unfold sepAt; rw [if_neg hl]
              rw [e] at hcall
              have HC := Lib.hid hcall
              have l1 : ¬ (j : Int) < (k : Int) - 1 := by omega
              clear hcall hcell hx hr hr' hbz' e hbz hl
              go_wp2_with fail
              refine HC.out.mono ?_
              rintro e w3 ⟨rfl, q, rfl⟩
              go_wp2
              go_round
              case rel => exact ⟨j + 1, by omega, by go_num, by rw [HR'.out], HBZ.out q⟩
              case measure => simp [intOf]; omega
          · obtain rfl : j = k := by omega
            rw [HLAST.out]
            go_wp2_with fail
            refine (J0.out _ hbz).mono ?_
            rintro e w3 ⟨rfl, hb3⟩
            have hb4 := hbz.trans (hb3.mono hszz)
            clear hb3 hbz
            go_wp2_with fail
            refine (J0.out _ hb4).mono ?_
            rintro e w5 ⟨rfl, hb5⟩
            have hb6 := hb4.trans (hb5.mono hb4.size)
            have hsz6 := hb6.size
            clear hb4 hb5
            go_wp2_with fail
            refine (J1.out y _ hy100).mono ?_
            rintro e w7 ⟨rfl, hb7⟩
            have hb8 := FIN.out _ ((hb6.alloc hsz6 _).trans (hb7.mono (by simp; omega)))
            go_wp2
            go_ret
            exact ⟨rfl, hb8⟩
end Go.Proofs.Ythmbgnjbmkmajaa
