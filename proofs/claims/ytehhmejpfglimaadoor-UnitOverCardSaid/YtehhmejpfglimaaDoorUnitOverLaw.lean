/- The walk of the law UnitOver: what would be above the greatest number is none, of durations and of sizes. -/
import Derived.Test.YtehhmejpfglimaaDoorUnitLong
import Derived.Test.YtehhmejpfglimaaDoorRefParse
namespace Go.Proofs.YtehhmejpfglimaaDoor
open Go.RowKit
set_option linter.unusedVariables false

def bigT (t : ByteArray) : ByteArray := t ++ (⟨#[48, 48, 48, 71, 66]⟩ : ByteArray)
def hrsT (t : ByteArray) : ByteArray := t ++ (⟨#[104]⟩ : ByteArray)
theorem dec_k (n : Nat) (h : 0 < n) : Lib.decDigits (n * 1000) = Lib.decDigits n ++ [48, 48, 48] := by
  have e : ∀ m : Nat, 0 < m → Lib.decDigits (m * 10) = Lib.decDigits m ++ [48] := fun m hm => by
    rw [dig_more (by omega), show m * 10 / 10 = m by omega, show m * 10 % 10 = 0 by omega]
    rfl
  rw [show n * 1000 = n * 10 * 10 * 10 by omega, e _ (by omega), e _ (by omega), e _ h]
  simp
theorem big_siz (n : Nat) (h : 0 < n) (h2 : n < 4294967296) : sizZ (bigT (itoaS (n : Int))).data.toList = if n * 1000 ≤ 8589934591 then some ((n : Int) * 1000 * 1073741824) else none := by
  have e : (bigT (itoaS (n : Int))).data.toList = Lib.itoa ((n * 1000 : Nat) : Int) ++ ([71, 66] ++ []) := by
    unfold bigT
    rw [text_joined, itoaS_list, itoa_pos (by omega), itoa_pos (by omega), Int.toNat_natCast, Int.toNat_natCast, dec_k n h]
    simp
  have hp := partS_make sizU (q := ((n * 1000 : Nat) : Int)) (by omega) (by omega) (nm := [71, 66]) (by decide) (by decide) (rest := []) no_head
  rw [e]
  unfold sizZ
  rw [hp, show placeU sizU [71, 66] = some 0 by decide]
  simp only [Option.map_some, Option.bind_some]
  rw [if_pos (by simp), show manyU sizU 0 = 1073741824 from rfl, timesO_eq]
  by_cases hn : n * 1000 ≤ 8589934591
  · rw [if_pos ⟨by omega, by omega⟩, if_pos hn]; exact congrArg some (by omega)
  · rw [if_neg (by omega), if_neg hn]
theorem zeros_none : parseZ (txt [48, 48, 48, 48]) = none := by
  rw [parse_end (txt [48, 48, 48, 48]) 0 (by rw [txt_list]; decide +kernel), if_neg]
  intro h
  have h2 := congrArg (fun s : ByteArray => s.data.toList) h
  simp only [itoaS_list, txt_list] at h2
  rw [itoa_pos (by decide), show (0 : Int).toNat = 0 from rfl, dig_one (by decide)] at h2
  injection h2 with _ h2
  cases h2
theorem big_zero : sizZ (bigT (itoaS 0)).data.toList = none := by
  have e : (bigT (itoaS 0)).data.toList = [48, 48, 48, 48, 71, 66] := by
    unfold bigT
    rw [text_joined, itoaS_list, itoa_pos (by decide), show (0 : Int).toNat = 0 from rfl, dig_one (by decide)]
    rfl
  have e2 : ([48, 48, 48, 48, 71, 66] : List UInt8).takeWhile digC = [48, 48, 48, 48] := by decide
  rw [e]
  unfold sizZ partS
  rw [e2, zeros_none]
  rfl
theorem durS_wide {f : Nat} {l : List UInt8} {sum last : Int} {x : Int × Nat × Nat} (hl : l ≠ []) (h : partS durU l = some x) (ht : timesO x.1 (manyU durU x.2.1) = none) : durS (partS durU) (f + 1) l sum last = none := by
  unfold durS
  rw [if_neg hl, h, Option.bind_some, ht]
  split <;> rfl
theorem place_h : placeU durU [104] = some 0 := by decide
theorem hours_none (n : Int) (hn : 2562047 < n) : timesO n (manyU durU 0) = none := by
  have e : manyU durU 0 = (3600000000000 : Int) := rfl
  rw [e, timesO_eq, if_neg (by omega)]
theorem hrs_dur (n : Nat) (h2 : n < 4294967296) : durZ (hrsT (itoaS (n : Int))).data.toList = if n ≤ 2562047 then some ((n : Int) * 3600000000000) else none := by
  have e : (hrsT (itoaS (n : Int))).data.toList = Lib.itoa (n : Int) ++ ([104] ++ []) := by
    unfold hrsT
    rw [text_joined, itoaS_list]
    rfl
  rw [e]
  refine durZ_fuel (fun h => itoa_ne _ (List.append_eq_nil_iff.1 h).1) (fun f hf => ?_)
  have hl1 : 1 ≤ (Lib.itoa (n : Int)).length := List.length_pos_iff.2 (itoa_ne _)
  simp only [List.length_append, List.length_cons, List.length_nil] at hf
  obtain ⟨f, rfl⟩ : ∃ f', f = f' + 1 := ⟨f - 1, by omega⟩
  by_cases hn : n ≤ 2562047
  · refine (durS_part 0 (by decide) (n : Int) (by omega) [] no_head 0 (-1) (by decide) (by show 0 + (n : Int) * 3600000000000 ≤ _; omega) (by omega) _).trans ?_
    rw [if_neg (by decide), if_pos hn]
    refine (durS_end _ _ _).trans ?_
    congr 1
    show 0 + (n : Int) * 3600000000000 = _
    omega
  · rw [if_neg hn]
    have hp := partS_make durU (q := (n : Int)) (by omega) (by omega) (nm := [104]) (by decide) (by decide) (rest := []) no_head
    rw [place_h, Option.map_some] at hp
    exact durS_wide (fun h => itoa_ne _ (List.append_eq_nil_iff.1 h).1) hp (hours_none _ (by omega))

set_option maxRecDepth 100000 in
set_option maxHeartbeats 3200000 in
theorem unitOver_walk {W : World} (N : Int) (wn : (Lit.int .u32 N).wf = true) (hl : LibIs W) :
    Calls Tryd.prog 7 #[.int .u32 N] W fun e w' => e = .returned (.bool true) ∧ Below W.heap.size W w' := by
  have h0 : W.heap.size ≤ W.heap.size := Nat.le_refl _
  obtain ⟨n0, n1⟩ := bdu32 wn
  obtain ⟨n, rfl⟩ : ∃ n : Nat, N = (n : Int) := ⟨N.toNat, by omega⟩
  have hn : n < 4294967296 := by omega
  have HX := Lib.hid (unitExamples_any W hl)
  have hit : itoaS (n : Int) = txt (Lib.decDigits n) := text_ext1 (by rw [itoaS_list, txt_list, itoa_pos (by omega)]; simp)
  have HIT := Lib.hid hit
  have HL := Lib.hid (digits_len n (by omega))
  have hw1 : IntKind.i64.wrap (n : Int) = (n : Int) := by rw [IntKind.wrap_i64]; omega
  have hw2 : wrap64 ((n : Int) * 1000) = (n : Int) * 1000 := wrap_in _ ⟨by omega, by omega⟩
  clear hit n0 n1 wn
  go_enter Tryd.func7, Tryd.ntmps7
  go_wp2_with fail
  refine HX.out.mono ?_
  rintro e w ⟨rfl, hb⟩
  have HB := Lib.hid hb
  have HLW := Lib.hid (hl.below hb)
  clear hb HX hl
  go_wp2
  go_loopw [4, 5] (fun sv nv wr => ∃ (x : Nat) (t : ByteArray), nv = .int .u32 x ∧ sv = .string t ∧ x ≤ n ∧ Hid ((t = ⟨#[]⟩ ∧ x = n) ∨ (t.size ≠ 0 ∧ ndig x ++ t.data.toList = Lib.decDigits n)) ∧ Below w.heap.size w wr) (fun sv nv _ => (intOf nv).toNat + lenF sv)
  case atStart => exact ⟨n, ⟨#[]⟩, rfl, rfl, Nat.le_refl _, Lib.hid (.inl ⟨rfl, rfl⟩), Below.refl _ _⟩
  case round =>
    obtain ⟨x, t, rfl, rfl, hx, HA, hb⟩ := hrel
    have hsz := hb.size
    obtain ⟨r, hr⟩ : ∃ r, x % 10 = r := ⟨_, rfl⟩
    obtain ⟨q, hq⟩ : ∃ r, x / 10 = r := ⟨_, rfl⟩
    have r9 : r < 10 := by omega
    have i1 : (x : Int) % 10 = (r : Int) := by omega
    have i2 : (x : Int) / 10 = (q : Int) := by omega
    have b1 : (r : Int) < 10 := by omega
    have hw : IntKind.u8.wrap (r : Int) = (r : Int) := by rw [IntKind.wrap_u8]; omega
    have hcv := conv_digit_at wr wr.heap.size rfl r r9
    have hlast := ndig_last x
    rw [hr, hq] at hlast
    have hq0 : q ≤ x := by omega
    rcases HA.out with ⟨rfl, rfl⟩ | ⟨ht, hA⟩
    · have hs1 : (digT r).size = 1 := rfl
      have hnx : Hid (((digT r ++ (⟨#[]⟩ : ByteArray)) = ⟨#[]⟩ ∧ q = x) ∨ ((digT r ++ (⟨#[]⟩ : ByteArray)).size ≠ 0 ∧ ndig q ++ (digT r ++ (⟨#[]⟩ : ByteArray)).data.toList = Lib.decDigits x)) := Lib.hid (.inr ⟨by rw [ByteArray.size_append, hs1]; exact Nat.succ_ne_zero _, by rw [text_joined, digT_list]; exact hlast⟩)
      have hlen : lenF (.string (digT r ++ (⟨#[]⟩ : ByteArray))) = 0 := by
        show (if (digT r ++ (⟨#[]⟩ : ByteArray)).size = 0 then 1 else 0) = 0
        rw [if_neg (by rw [ByteArray.size_append, hs1]; exact Nat.succ_ne_zero _)]
      have hlen0 : lenF (.string (⟨#[]⟩ : ByteArray)) = 1 := rfl
      have g1 : (digT r).size + (⟨#[]⟩ : ByteArray).size ≤ 10 := by rw [hs1]; decide
      obtain ⟨y, hy⟩ : ∃ y, digT r = y := ⟨_, rfl⟩
      rw [hy] at hcv hnx hlen g1
      have HLN := Lib.hid hlen
      have HLN0 := Lib.hid hlen0
      clear hs1 hy hlast hr hq hlen hlen0 hw1 hw2
      go_wp2
      go_round
      case rel => exact ⟨q, _, by go_num, rfl, hq0, hnx, hb.alloc hsz _⟩
      case measure =>
        show q + lenF (.string (y ++ (⟨#[]⟩ : ByteArray))) < x + lenF (.string (⟨#[]⟩ : ByteArray))
        rw [HLN.out, HLN0.out]
        omega
    · have hts : t.size ≤ 21 := by
        have h2 := congrArg List.length hA
        rw [List.length_append, size_toList] at h2
        have := HL.out
        omega
      have hne : t.toList.isEmpty = false := by
        rw [Lib.toList_data]
        cases h : t.data.toList with
        | nil => exact absurd (by rw [← size_toList, h]; rfl) ht
        | cons a l => rfl
      have hne2 : ¬ t.toList = [] := by
        rw [Lib.toList_data]
        intro h
        exact ht (by rw [← size_toList, h]; rfl)
      by_cases hx0 : x = 0
      · subst hx0
        have E : t = itoaS (n : Int) := by
          rw [HIT.out]
          exact text_ext1 (by rw [txt_list]; exact hA)
        have z1 := big_siz n
        have z0 := big_zero
        have z2 := hrs_dur n hn
        rw [← E] at z1 z2
        have gb : t.size + (⟨#[48, 48, 48, 71, 66]⟩ : ByteArray).size ≤ 30 := by show t.size + 5 ≤ 30; omega
        have gh : t.size + (⟨#[104]⟩ : ByteArray).size ≤ 30 := by show t.size + 1 ≤ 30; omega
        have zb : (bigT t).size ≤ 1000 := by unfold bigT; rw [ByteArray.size_append]; omega
        have zh : (hrsT t).size ≤ 1000 := by unfold hrsT; rw [ByteArray.size_append]; omega
        clear hA hcv hlast hr hq i1 i2 r9 b1 hw hq0 HIT HL ht hx
        rcases (by omega : n = 0 ∨ (1 ≤ n ∧ n ≤ 2562047) ∨ (2562047 < n ∧ n * 1000 ≤ 8589934591) ∨ 8589934591 < n * 1000) with hc | ⟨c1, c2⟩ | ⟨c1, c2⟩ | c1
        · subst hc
          rw [← show t = itoaS 0 from E] at z0
          rw [if_pos (by omega)] at z2
          have A1 := Lib.hid (fun w hw => byt_none w hw _ zb z0)
          have A2 := Lib.hid (fun w hw => dur_some w hw _ zh _ z2)
          clear z0 z1 z2 E zb zh
          go_wp2_with fail
          refine (A1.out _ (HLW.out.below hb)).mono ?_
          rintro e w2 ⟨rfl, hx⟩
          replace hb := hop hb (Nat.le_refl _) hx
          clear hx
          go_wp2_with fail
          refine (A2.out _ (HLW.out.below hb)).mono ?_
          rintro e w3 ⟨rfl, hx⟩
          replace hb := hop hb (Nat.le_refl _) hx
          clear hx
          have hfin := hop HB.out (Nat.le_refl _) hb
          go_wp2
          go_ret
          exact ⟨by simp, hfin⟩
        · rw [if_pos (by omega)] at z2
          replace z1 := z1 (by omega) hn
          rw [if_pos (by omega)] at z1
          have k0 : ¬ (n : Int) = 0 := by omega
          have k1 : (n : Int) * 1000 ≤ 8589934591 := by omega
          have k2 : (n : Int) ≤ 2562047 := by omega
          have k3 : wrap64 ((n : Int) * 3600000000000) = (n : Int) * 3600000000000 := wrap_in _ ⟨by omega, by omega⟩
          have k4 : wrap64 ((n : Int) * 1000 * 1073741824) = (n : Int) * 1000 * 1073741824 := wrap_in _ ⟨by omega, by omega⟩
          have A1 := Lib.hid (fun w hw => byt_some w hw _ zb _ z1)
          have A2 := Lib.hid (fun w hw => dur_some w hw _ zh _ z2)
          clear z0 z1 z2 E zb zh
          go_wp2_with fail
          refine (A1.out _ (HLW.out.below hb)).mono ?_
          rintro e w2 ⟨rfl, hx⟩
          replace hb := hop hb (Nat.le_refl _) hx
          clear hx
          go_wp2_with fail
          refine (A2.out _ (HLW.out.below hb)).mono ?_
          rintro e w3 ⟨rfl, hx⟩
          replace hb := hop hb (Nat.le_refl _) hx
          clear hx
          have hfin := hop HB.out (Nat.le_refl _) hb
          go_wp2
          go_ret
          exact ⟨by simp, hfin⟩
        · rw [if_neg (by omega)] at z2
          replace z1 := z1 (by omega) hn
          rw [if_pos (by omega)] at z1
          have k0 : ¬ (n : Int) = 0 := by omega
          have k1 : (n : Int) * 1000 ≤ 8589934591 := by omega
          have k2 : ¬ (n : Int) ≤ 2562047 := by omega
          have k4 : wrap64 ((n : Int) * 1000 * 1073741824) = (n : Int) * 1000 * 1073741824 := wrap_in _ ⟨by omega, by omega⟩
          have A1 := Lib.hid (fun w hw => byt_some w hw _ zb _ z1)
          have A2 := Lib.hid (fun w hw => dur_none w hw _ zh z2)
          clear z0 z1 z2 E zb zh
          go_wp2_with fail
          refine (A1.out _ (HLW.out.below hb)).mono ?_
          rintro e w2 ⟨rfl, hx⟩
          replace hb := hop hb (Nat.le_refl _) hx
          clear hx
          go_wp2_with fail
          refine (A2.out _ (HLW.out.below hb)).mono ?_
          rintro e w3 ⟨rfl, hx⟩
          replace hb := hop hb (Nat.le_refl _) hx
          clear hx
          have hfin := hop HB.out (Nat.le_refl _) hb
          go_wp2
          go_ret
          exact ⟨by simp, hfin⟩
        · rw [if_neg (by omega)] at z2
          replace z1 := z1 (by omega) hn
          rw [if_neg (by omega)] at z1
          have k0 : ¬ (n : Int) = 0 := by omega
          have k1 : ¬ (n : Int) * 1000 ≤ 8589934591 := by omega
          have k2 : ¬ (n : Int) ≤ 2562047 := by omega
          have A1 := Lib.hid (fun w hw => byt_none w hw _ zb z1)
          have A2 := Lib.hid (fun w hw => dur_none w hw _ zh z2)
          clear z0 z1 z2 E zb zh
          go_wp2_with fail
          refine (A1.out _ (HLW.out.below hb)).mono ?_
          rintro e w2 ⟨rfl, hx⟩
          replace hb := hop hb (Nat.le_refl _) hx
          clear hx
          go_wp2_with fail
          refine (A2.out _ (HLW.out.below hb)).mono ?_
          rintro e w3 ⟨rfl, hx⟩
          replace hb := hop hb (Nat.le_refl _) hx
          clear hx
          have hfin := hop HB.out (Nat.le_refl _) hb
          go_wp2
          go_ret
          exact ⟨by simp, hfin⟩
      · have hs1 : (digT r).size = 1 := rfl
        have hxp : (0 : Int) < (x : Int) := by omega
        have hnd : ndig x = Lib.decDigits x := by unfold ndig; rw [if_neg hx0]
        have hnx : Hid (((digT r ++ t) = ⟨#[]⟩ ∧ q = n) ∨ ((digT r ++ t).size ≠ 0 ∧ ndig q ++ (digT r ++ t).data.toList = Lib.decDigits n)) := Lib.hid (.inr ⟨by rw [ByteArray.size_append, hs1]; omega, by
          rw [text_joined, digT_list, ← List.append_assoc, hlast, ← hnd]; exact hA⟩)
        have hlen : lenF (.string (digT r ++ t)) = 0 := by
          show (if (digT r ++ t).size = 0 then 1 else 0) = 0
          rw [if_neg (by rw [ByteArray.size_append, hs1]; omega)]
        have hlen0 : lenF (.string t) = 0 := by
          show (if t.size = 0 then 1 else 0) = 0
          rw [if_neg ht]
        have hqx : q < x := by omega
        have g1 : (digT r).size + t.size ≤ 30 := by rw [hs1]; omega
        obtain ⟨y, hy⟩ : ∃ y, digT r = y := ⟨_, rfl⟩
        rw [hy] at hcv hnx hlen g1
        have HLN := Lib.hid hlen
        have HLN0 := Lib.hid hlen0
        have HXQ := Lib.hid hqx
        clear hs1 hy hlast hr hq hlen hlen0 hnd hA hqx hw1 hw2
        go_wp2
        go_round
        case rel => exact ⟨q, _, by go_num, rfl, by omega, hnx, hb.alloc hsz _⟩
        case measure =>
          show q + lenF (.string (y ++ t)) < x + lenF (.string t)
          rw [HLN.out, HLN0.out]
          exact HXQ.out
end Go.Proofs.YtehhmejpfglimaaDoor
