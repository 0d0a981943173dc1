/- The walk of the law UnitReads: any text, and parts of numbers and units, are a duration, and a size, or none, as the document says. -/
import Derived.Test.YtehhmejpfglimaaDoorRefUnit3
import Derived.Test.YtehhmejpfglimaaDoorUnitExam
namespace Go.Proofs.YtehhmejpfglimaaDoor
open Go.RowKit
set_option linter.unusedVariables false

def unitN : List ByteArray := [⟨#[104]⟩, ⟨#[109]⟩, ⟨#[115]⟩, ⟨#[109, 115]⟩, ⟨#[117, 115]⟩, ⟨#[110, 115]⟩, ⟨#[71, 66]⟩, ⟨#[77, 66]⟩, ⟨#[75, 66]⟩, ⟨#[66]⟩, ⟨#[]⟩, ⟨#[120]⟩]
theorem unitN_size : ∀ k, k < 12 → (unitN.getD k .empty).size ≤ 2 := by decide
def partT (n : Int) (u : Nat) : ByteArray := itoaS n ++ unitN.getD (u % 12) .empty
theorem partT_size (n : Int) (h0 : -9223372036854775808 ≤ n) (h1 : n ≤ 9223372036854775807) (u : Nat) : (partT n u).size ≤ 30 := by
  have h := unitN_size (u % 12) (by omega)
  have h2 := itoaS_size n h0 h1
  unfold partT
  rw [ByteArray.size_append]
  omega

set_option maxRecDepth 100000 in
set_option maxHeartbeats 800000 in
theorem lawPart_any (n : Int) (h0 : -9223372036854775808 ≤ n) (h1 : n ≤ 9223372036854775807) (u : Nat) (W : World) :
    Calls Tryd.prog 11 #[.int .i64 n, .int .u8 (u : Int)] W fun e w' => e = .returned (.string (partT n u)) ∧ Below W.heap.size W w' := by
  have TX := Lib.hid (fun w => refText_any n h0 h1 w)
  have hys := itoaS_size n h0 h1
  have hns := unitN_size (u % 12) (by omega)
  have E := Lib.hid (show itoaS n ++ unitN.getD (u % 12) .empty = partT n u from rfl)
  obtain ⟨k, hk⟩ : ∃ k, u % 12 = k := ⟨_, rfl⟩
  have hk12 : k < 12 := by omega
  have i1 : (u : Int) % 12 = (k : Int) := by omega
  have kI : (k : Int) < 12 := by omega
  have i2 : (u : Int).tmod 12 = (k : Int) := by rw [Int.tmod_eq_emod_of_nonneg (by omega)]; exact i1
  have i3 : IntKind.u8.wrap (k : Int) = (k : Int) := by rw [IntKind.wrap_u8]; omega
  have i4 : IntKind.i64.wrap (k : Int) = (k : Int) := by rw [IntKind.wrap_i64]; omega
  have k0 : (0 : Int) ≤ (k : Int) := by omega
  obtain ⟨b2, o2, e2, hlt2, hc2⟩ := (texts_lit W 9 unitN _ rfl).2 (by decide)
  injection e2 with e2
  injection e2 with e2 e2'
  subst e2 e2'
  have c0 := hc2 k hk12
  rw [Nat.zero_add] at c0
  rw [hk] at hns E
  obtain ⟨nm, hnm⟩ : ∃ nm, unitN.getD k .empty = nm := ⟨_, rfl⟩
  rw [hnm] at c0 hns E
  obtain ⟨y, hy⟩ : ∃ y, itoaS n = y := ⟨_, rfl⟩
  simp only [hy] at TX hys E
  simp only [unitN, List.map_cons, List.map_nil] at c0
  clear hlt2
  have g1 : y.size + nm.size ≤ 100 := by omega
  have e1 : ¬ 9223372036854775807 < y.size + nm.size := by omega
  clear hc2 hk hnm hy
  go_enter Tryd.func11, Tryd.ntmps11
  go_wp2
  go_region_held3 (fun w' => w'.cell? ⟨W.heap.size, k, none⟩ = some (.string nm)) (first | go_keep | (rw [hb3.cell (by simp)]; exact c0))
    (first | (go_at_call 22; refine (TX.out _).mono ?_; rintro e w3 ⟨rfl, hb3⟩))
  have hb4 : Below W.heap.size W w3 := (below_drewN ((Below.refl W.heap.size W).alloc (Nat.le_refl _) _) 1).trans (hb3.mono (by simp))
  go_wp2
  go_ret
  exact ⟨ret_str E.out, hb4⟩

set_option maxRecDepth 100000 in
set_option maxHeartbeats 3200000 in
theorem unitReads_walk {W : World} (s : ByteArray) (own : Bool) (A : Option Addr) (len c : Nat) (zs : List Int) (n : Int) (small : Bool) (hs : s.size ≤ 1048576) (hz : Ints .u8 W A len zs) (hlm : len ≤ 1048576) (hlc : len ≤ c) (wn : (Lit.int .i64 n).wf = true) (hl : LibIs W) :
    Calls Tryd.prog 3 #[.string s, .bool own, .slice A len c, .int .i64 n, .bool small] W fun e w' => e = .returned (.bool true) ∧ Below W.heap.size W w' := by
  have h0 : W.heap.size ≤ W.heap.size := Nat.le_refl _
  obtain ⟨n0, n1⟩ := bdi64 wn
  have HX := Lib.hid (unitExamples_any W hl)
  have DP := Lib.hid (fun t (ht : t.size ≤ 281474976710656) w hw => duration_any t ht w hw)
  have DR := Lib.hid (fun t (ht : t.size ≤ 281474976710656) w => refDuration_any t ht w)
  have BP := Lib.hid (fun t (ht : t.size ≤ 281474976710656) w hw => bytes_any t ht w hw)
  have BR := Lib.hid (fun t (ht : t.size ≤ 281474976710656) w => refBytes_any t ht w)
  cases own with
  | false =>
    have hs' : s.size ≤ 281474976710656 := by omega
    have A1 := DP.out s hs'
    have A2 := DR.out s hs'
    have A3 := BP.out s hs'
    have A4 := BR.out s hs'
    obtain ⟨d, hd⟩ : ∃ d, durZ s.data.toList = d := ⟨_, rfl⟩
    obtain ⟨z, hz⟩ : ∃ d, sizZ s.data.toList = d := ⟨_, rfl⟩
    simp only [hd] at A1 A2
    simp only [hz] at A3 A4
    obtain ⟨v1, hv1⟩ : ∃ v, d.getD 0 = v := ⟨_, rfl⟩
    obtain ⟨v2, hv2⟩ : ∃ v, d.isSome = v := ⟨_, rfl⟩
    obtain ⟨v3, hv3⟩ : ∃ v, z.getD 0 = v := ⟨_, rfl⟩
    obtain ⟨v4, hv4⟩ : ∃ v, z.isSome = v := ⟨_, rfl⟩
    simp only [hv1, hv2] at A1 A2
    simp only [hv3, hv4] at A3 A4
    replace A1 := Lib.hid A1
    replace A2 := Lib.hid A2
    replace A3 := Lib.hid A3
    replace A4 := Lib.hid A4
    clear hd hz hv1 hv2 hv3 hv4 DP DR BP BR hs hs'
    go_enter Tryd.func3, Tryd.ntmps3
    go_wp2_with fail
    refine HX.out.mono ?_
    rintro e w ⟨rfl, hb⟩
    go_wp2_with fail
    refine (A1.out _ (hl.below hb)).mono ?_
    rintro e w2 ⟨rfl, hx⟩
    replace hb := hop hb h0 hx
    clear hx
    go_wp2_with fail
    refine (A2.out _).mono ?_
    rintro e w3 ⟨rfl, hx⟩
    replace hb := hop hb h0 hx
    clear hx
    go_wp2_with fail
    refine (A3.out _ (hl.below hb)).mono ?_
    rintro e w4 ⟨rfl, hx⟩
    replace hb := hop hb h0 hx
    clear hx
    go_wp2_with fail
    refine (A4.out _).mono ?_
    rintro e w5 ⟨rfl, hx⟩
    replace hb := hop hb h0 hx
    clear hx
    go_wp2
    go_ret
    exact ⟨by simp, hb⟩
  | true =>
    have LP := Lib.hid (fun x (hx : (Lit.int .i64 x).wf = true) (u : Nat) w => lawPart_any x (bdi64 hx).1 (bdi64 hx).2 u w)
    have LS := Lib.hid (fun x (hx : (Lit.int .i64 x).wf = true) (u : Nat) => partT_size x (bdi64 hx).1 (bdi64 hx).2 u)
    have HZ := Lib.hid hz
    clear hs hz
    go_enter Tryd.func3, Tryd.ntmps3
    go_wp2_with fail
    refine HX.out.mono ?_
    rintro e w ⟨rfl, hb0⟩
    go_wp2
    have HB0 := Lib.hid hb0
    have HL := Lib.hid (hl.below hb0)
    have HZ1 := Lib.hid (HZ.out.below hb0)
    clear hb0 hl
    go_loopw [0, 12] (fun tv iv wr => ∃ (j : Nat) (t : ByteArray), j ≤ 6 ∧ j ≤ len ∧ iv = .int .i64 j ∧ tv = .string t ∧ t.size ≤ 30 * j ∧ Below w.heap.size w wr) (fun _ iv _ => 6 - (intOf iv).toNat)
    case atStart => exact ⟨0, ⟨#[]⟩, by omega, by omega, rfl, rfl, Nat.le_refl _, Below.refl _ _⟩
    case round =>
      obtain ⟨j, t, hj6, hjl, rfl, rfl, hts, hb⟩ := hrel
      have hsz := hb.size
      by_cases hgo : j < len ∧ j < 6
      · obtain ⟨g1, g2⟩ := hgo
        have hzz := HZ1.out.below hb
        obtain ⟨bb, off, rfl, hlt, hc⟩ := hzz.2.2 (by omega)
        have c0 := hc j g1
        have hwf := hzz.2.1 (zs.getD j 0) (by
          rw [List.getD_eq_getElem?_getD, List.getElem?_eq_getElem (by rw [hzz.1]; exact g1)]
          exact List.getElem_mem _)
        obtain ⟨x0, x1⟩ := bdu8 hwf
        obtain ⟨x, hx⟩ : ∃ x : Nat, zs.getD j 0 = (x : Int) := ⟨(zs.getD j 0).toNat, by omega⟩
        rw [hx] at c0 x1
        have jI : (j : Int) < (len : Int) := by omega
        have j6 : (j : Int) < 6 := by omega
        have hw1 : IntKind.u8.wrap (x : Int) = (x : Int) := by rw [IntKind.wrap_u8]; omega
        obtain ⟨q, hq⟩ : ∃ q, x / 12 = q := ⟨_, rfl⟩
        have i1 : (x : Int) / 12 = (q : Int) := by omega
        have hw2 : IntKind.i64.wrap (q : Int) = (q : Int) := by rw [IntKind.wrap_i64]; omega
        have hway : ∃ k : Int, (Lit.int .i64 k).wf = true ∧ ((small = true ∧ k = (q : Int)) ∨ (small = false ∧ (j : Int) % 2 = 0 ∧ k = (q : Int)) ∨ (small = false ∧ ¬ (j : Int) % 2 = 0 ∧ k = n)) := by
          cases small with
          | true => exact ⟨q, wf64 ⟨by omega, by omega⟩, .inl ⟨rfl, rfl⟩⟩
          | false =>
            by_cases h : (j : Int) % 2 = 0
            · exact ⟨q, wf64 ⟨by omega, by omega⟩, .inr (.inl ⟨rfl, h, rfl⟩)⟩
            · exact ⟨n, wn, .inr (.inr ⟨rfl, h, rfl⟩)⟩
        obtain ⟨k, hk, hway⟩ := hway
        have PP := Lib.hid (LP.out k hk x)
        have ps := LS.out k hk x
        obtain ⟨y, hy⟩ : ∃ y, partT k x = y := ⟨_, rfl⟩
        simp only [hy] at PP ps
        have s1 : t.size + y.size ≤ 400 := by omega
        have s2 : ¬ 9223372036854775807 < t.size + y.size := by omega
        have s3 : (t ++ y).size ≤ 30 * (j + 1) := by rw [ByteArray.size_append]; omega
        clear hc hzz hwf hx hq hk hy
        rcases hway with ⟨rfl, rfl⟩ | ⟨rfl, m1, rfl⟩ | ⟨rfl, m1, rfl⟩
        all_goals
          go_wp2_with fail
          refine (PP.out _).mono ?_
          rintro e w3 ⟨rfl, hb3⟩
          replace hb := hop hb (Nat.le_refl _) hb3
          clear hb3
          go_wp2
          go_round
          case rel => exact ⟨j + 1, _, by omega, by omega, by go_num, rfl, s3, hb⟩
          case measure => simp [intOf]; omega
      · have hs' : t.size ≤ 281474976710656 := by omega
        have A1 := DP.out t hs'
        have A2 := DR.out t hs'
        have A3 := BP.out t hs'
        have A4 := BR.out t hs'
        obtain ⟨d, hd⟩ : ∃ d, durZ t.data.toList = d := ⟨_, rfl⟩
        obtain ⟨z, hz⟩ : ∃ d, sizZ t.data.toList = d := ⟨_, rfl⟩
        simp only [hd] at A1 A2
        simp only [hz] at A3 A4
        obtain ⟨v1, hv1⟩ : ∃ v, d.getD 0 = v := ⟨_, rfl⟩
        obtain ⟨v2, hv2⟩ : ∃ v, d.isSome = v := ⟨_, rfl⟩
        obtain ⟨v3, hv3⟩ : ∃ v, z.getD 0 = v := ⟨_, rfl⟩
        obtain ⟨v4, hv4⟩ : ∃ v, z.isSome = v := ⟨_, rfl⟩
        simp only [hv1, hv2] at A1 A2
        simp only [hv3, hv4] at A3 A4
        replace A1 := Lib.hid A1
        replace A2 := Lib.hid A2
        replace A3 := Lib.hid A3
        replace A4 := Lib.hid A4
        clear hd hz hv1 hv2 hv3 hv4 DP DR BP BR hs'
        have hends : (¬ (j : Int) < (len : Int)) ∨ ((j : Int) < (len : Int) ∧ ¬ (j : Int) < 6) := by omega
        clear hgo
        rcases hends with e1 | ⟨e1, e2⟩
        all_goals
          go_wp2_with fail
          refine (A1.out _ (HL.out.below hb)).mono ?_
          rintro e w2 ⟨rfl, hx⟩
          replace hb := hop hb (Nat.le_refl _) hx
          clear hx
          go_wp2_with fail
          refine (A2.out _).mono ?_
          rintro e w3 ⟨rfl, hx⟩
          replace hb := hop hb (Nat.le_refl _) hx
          clear hx
          go_wp2_with fail
          refine (A3.out _ (HL.out.below hb)).mono ?_
          rintro e w4 ⟨rfl, hx⟩
          replace hb := hop hb (Nat.le_refl _) hx
          clear hx
          go_wp2_with fail
          refine (A4.out _).mono ?_
          rintro e w5 ⟨rfl, hx⟩
          replace hb := hop hb (Nat.le_refl _) hx
          clear hx
          have hfin := hop HB0.out (Nat.le_refl _) hb
          go_wp2
          go_ret
          exact ⟨by simp, hfin⟩
end Go.Proofs.YtehhmejpfglimaaDoor
