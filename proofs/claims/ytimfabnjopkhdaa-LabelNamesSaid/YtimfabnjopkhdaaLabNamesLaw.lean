/- The walk of the law LabelNames: a name has letters, digits and lines below alone. -/
import Derived.Test.YtimfabnjopkhdaaLabNames
import Derived.Deep.DeepCutAuto
namespace Go.Proofs.Ytimfabnjopkhdaa
open Go.RowKit
set_option linter.unusedVariables false

set_option maxRecDepth 100000 in
set_option maxHeartbeats 4000000 in
theorem labelNames_walk {W : World} (s : ByteArray) (own : Bool) (A : Option Addr) (len c : Nat) (zs : List Int) (b : Int) (hs : s.size ≤ maxLen) (hz : Ints .u8 W A len zs) (hlc : len ≤ c) (hcm : c ≤ maxLen) (wb : (Lit.int .u8 b).wf = true) :
    Calls Try.prog 8 #[.string s, .bool own, .slice A len c, .int .u8 b] W fun e w' => e = .returned (.bool true) ∧ Below W.heap.size W w' := by
  have h0 : W.heap.size ≤ W.heap.size := Nat.le_refl _
  obtain ⟨b0, b1⟩ := bdu8 wb
  obtain ⟨m, rfl⟩ : ∃ m : Nat, b = (m : Int) := ⟨b.toNat, by omega⟩
  have hm : m < 256 := by omega
  unfold maxLen at hs hcm
  have HX := Lib.hid (fun w => labExamples_any w)
  have NM := Lib.hid (fun t w => name_any t w)
  have HZ := Lib.hid hz
  clear hz wb b0 b1
  go_enter Try.func8, Try.ntmps8
  go_wp2_with fail
  refine (HX.out _).mono ?_
  rintro e w ⟨rfl, hb0⟩
  have HB0 := Lib.hid hb0
  have HZ1 := Lib.hid (HZ.out.below hb0)
  clear hb0 HZ HX
  go_upto_if 18 with (fail)
  go_cut [0, 10] (fun sv iv wx => ∃ t : ByteArray, sv = .string t ∧ t.size ≤ 9223372036854775807 ∧ Hid (Below W.heap.size W wx))
  case first =>
    cases own with
    | false =>
      go_wp2_with fail
      go_meet
      case rel => exact ⟨s, rfl, hs, HB0⟩
    | true =>
      go_wp2_with fail
      go_loopw [0, 10] (fun tv iv wr => ∃ (j : Nat) (t : ByteArray), j ≤ 40 ∧ j ≤ len ∧ iv = .int .i64 j ∧ tv = .string t ∧ t.size ≤ 1 + j ∧ Below w.heap.size w wr) (fun _ iv _ => 40 - (intOf iv).toNat)
      case atStart => exact ⟨0, ⟨#[110]⟩, by omega, by omega, rfl, rfl, by decide, Below.refl _ _⟩
      case round =>
        obtain ⟨j, t, hj6, hjl, rfl, rfl, hts, hb⟩ := hrel
        have hsz := hb.size
        by_cases hgo : j < len ∧ j < 40
        · obtain ⟨g1, g2⟩ := hgo
          have hzz := HZ1.out.below hb
          obtain ⟨bb, off, rfl, hlt, hc⟩ := hzz.2.2 (by omega)
          have c0 := hc j g1
          have hwf := hzz.2.1 (zs.getD j 0) (by
            rw [List.getD_eq_getElem?_getD, List.getElem?_eq_getElem (by rw [hzz.1]; exact g1)]
            exact List.getElem_mem _)
          obtain ⟨x0, x1⟩ := bdu8 hwf
          obtain ⟨x, hx⟩ : ∃ x : Nat, zs.getD j 0 = (x : Int) := ⟨(zs.getD j 0).toNat, by omega⟩
          rw [hx] at c0 x1
          have jI : (j : Int) < (len : Int) := by omega
          have j6 : (j : Int) < 40 := by omega
          obtain ⟨r, hr⟩ : ∃ r, x % 10 = r := ⟨_, rfl⟩
          have hr10 : r < 10 := by omega
          have i1 : (x : Int) % 10 = (r : Int) := by omega
          have i2 : (x : Int).tmod 10 = (r : Int) := by rw [Int.tmod_eq_emod_of_nonneg (by omega)]; exact i1
          have hw1 : IntKind.u8.wrap (r : Int) = (r : Int) := by rw [IntKind.wrap_u8]; omega
          have hrI : (r : Int) < 10 := by omega
          have hd := lett_at r hr10
          obtain ⟨n, hn⟩ : ∃ n, (lettB r).toNat = n := ⟨_, rfl⟩
          have hn256 : n < 256 := by rw [← hn]; exact (lettB r).toNat_lt
          have hcv := conv_oneN wr n hn256
          have hys : (⟨#[UInt8.ofNat n]⟩ : ByteArray).size = 1 := rfl
          obtain ⟨y, hy⟩ : ∃ y, (⟨#[UInt8.ofNat n]⟩ : ByteArray) = y := ⟨_, rfl⟩
          rw [hy] at hcv hys
          have s1 : t.size + y.size ≤ 400 := by omega
          have s2 : ¬ 9223372036854775807 < t.size + y.size := by omega
          have s3 : (t ++ y).size ≤ 1 + (j + 1) := by rw [ByteArray.size_append]; omega
          clear hc hzz hwf hx hr hy hys
          go_wp2_with fail
          go_round
          case rel => exact ⟨j + 1, _, by omega, by omega, by go_num, rfl, s3, hb.alloc hsz _⟩
          case measure => simp [intOf]; omega
        · have hends : (¬ (j : Int) < (len : Int)) ∨ ((j : Int) < (len : Int) ∧ ¬ (j : Int) < 40) := by omega
          have hfin := Lib.hid (hop HB0.out (Nat.le_refl _) hb)
          clear hgo
          rcases hends with e1 | ⟨e1, e2⟩
          all_goals
            go_wp2_with fail
            go_meet
            case rel => exact ⟨t, rfl, by omega, hfin⟩
  case rest =>
    obtain ⟨t, rfl, ht, HB⟩ := hcut
    clear HB0 HZ1 hs hlc hcm
    go_upto_region 10 with fail
    go_cut [11] (fun wv wx => wv = .bool (startB t) ∧ wx = wc)
    case first =>
      rcases Nat.eq_zero_or_pos t.size with hz | hp
      · have E := Lib.hid (start_none hz)
        have l1 : t.size < 1 := by omega
        clear hz
        go_wp2_with fail
        go_meet
        case rel => exact ⟨(congrArg Value.bool E.out).symm, rfl⟩
      · have l1 : 1 ≤ t.size := hp
        have l1I : (0 : Int) < (t.size : Int) := by omega
        by_cases h32 : 32 < t.size
        · have E := Lib.hid (start_long h32)
          go_wp2_with fail
          go_meet
          case rel => exact ⟨(congrArg Value.bool E.out).symm, rfl⟩
        · have l2 : t.size ≤ 32 := by omega
          obtain ⟨n, hn⟩ : ∃ n, t[0].toNat = n := ⟨_, rfl⟩
          have hst := start_else hp l2 n hn
          rcases (by omega : n < 48 ∨ (48 ≤ n ∧ n ≤ 57) ∨ (48 ≤ n ∧ 57 < n)) with h | ⟨h, h2⟩ | ⟨h, h2⟩
          · have E := Lib.hid (show startB t = true by rw [hst, decide_eq_false (by omega)]; rfl)
            clear hst h32
            go_wp2_with fail
            go_meet
            case rel => exact ⟨(congrArg Value.bool E.out).symm, rfl⟩
          · have E := Lib.hid (show startB t = false by rw [hst, decide_eq_true (by omega)]; rfl)
            have hI : decide ((n : Int) < 48) = false := decide_eq_false (by omega)
            have h2I : decide ((57 : Int) < (n : Int)) = false := decide_eq_false (by omega)
            clear hst h32
            go_wp2_with fail
            go_meet
            case rel => exact ⟨(congrArg Value.bool E.out).symm, rfl⟩
          · have E := Lib.hid (show startB t = true by rw [hst, decide_eq_false (by omega)]; rfl)
            have hI : decide ((n : Int) < 48) = false := decide_eq_false (by omega)
            have h2I : (57 : Int) < (n : Int) := by omega
            clear hst h32
            go_wp2_with fail
            go_meet
            case rel => exact ⟨(congrArg Value.bool E.out).symm, rfl⟩
    case rest =>
      obtain ⟨rfl, rfl⟩ := hcut
      go_wp2_with fail
      go_loopw [11, 12] (fun wv iv wr => ∃ k : Nat, k ≤ t.size ∧ iv = .int .i64 k ∧ wv = .bool (wantK t k) ∧ wr = wc) (fun _ iv _ => t.size - (intOf iv).toNat)
      case atStart => exact ⟨0, Nat.zero_le _, rfl, congrArg Value.bool (want_zero t).symm, rfl⟩
      case round =>
        obtain ⟨k, hk, rfl, rfl, rfl⟩ := hrel
        by_cases hkt : k < t.size
        · have hnx := want_next t k hkt
          have hkI : (k : Int) < (t.size : Int) := by omega
          obtain ⟨cb, hcb⟩ : ∃ c, t[k] = c := ⟨_, rfl⟩
          rw [hcb] at hnx
          obtain ⟨n, hn⟩ : ∃ n, cb.toNat = n := ⟨_, rfl⟩
          rw [good012 cb n hn] at hnx
          obtain ⟨q, hq⟩ : ∃ q, wantK t k = q := ⟨_, rfl⟩
          rw [hq] at hnx
          rw [hq]
          cases q with
          | false =>
            have E := Lib.hid hnx
            clear hnx hq
            go_wp2_with fail
            go_round
            case rel => exact ⟨k + 1, hkt, by go_num, (congrArg Value.bool E.out).symm, trivial⟩
            case measure => simp [intOf]; omega
          | true =>
            clear hq
            rcases ways8 n with ⟨a1, a2, a3, a4, e, f⟩ | ⟨a1, a2, a3, a4, a5, e, f⟩ | ⟨a1, a2, a3, a4, a5, e, f⟩ | ⟨a1, a2, a3, e, f⟩ | ⟨a1, a2, a3, a4, a5, a6, e, f⟩ | ⟨a1, a2, a3, a4, a5, a6, e, f⟩ | ⟨a1, a2, e, f⟩ | ⟨a1, a2, a3, a4, a5, a6, a7, e, f⟩
            all_goals
              have E := Lib.hid (hnx.trans (congrArg (fun x => true && x) e))
              clear hnx e f
              go_wp2_with fail
              go_round
              case rel => exact ⟨k + 1, hkt, by go_num, (congrArg Value.bool E.out).symm, trivial⟩
              case measure => simp [intOf]; omega
        · obtain rfl : k = t.size := by omega
          have hV := want_all t
          obtain ⟨V, hV2⟩ : ∃ V, nameB t = V := ⟨_, rfl⟩
          rw [hV2] at hV
          rw [hV]
          have N0 := fun w => NM.out t w
          simp only [hV2] at N0
          replace N0 := Lib.hid N0
          clear hV hV2 hk hkt
          go_upto_region 16 with fail
          go_cut [14] (fun lv wx => lv = .bool (nameB ⟨#[UInt8.ofNat m]⟩) ∧ wx = wr)
          case first =>
            rcases ways8 m with ⟨a1, a2, a3, a4, e, f⟩ | ⟨a1, a2, a3, a4, a5, e, f⟩ | ⟨a1, a2, a3, a4, a5, e, f⟩ | ⟨a1, a2, a3, e, f⟩ | ⟨a1, a2, a3, a4, a5, a6, e, f⟩ | ⟨a1, a2, a3, a4, a5, a6, e, f⟩ | ⟨a1, a2, e, f⟩ | ⟨a1, a2, a3, a4, a5, a6, a7, e, f⟩
            all_goals
              have E := Lib.hid ((name1' m hm).trans f)
              clear e f
              go_wp2_with fail
              go_meet
              case rel => exact ⟨(congrArg Value.bool E.out).symm, rfl⟩
          case rest =>
            obtain ⟨rfl, rfl⟩ := hcut
            have h1 := name1' m hm
            have h2 := name2' m hm
            have C1 := fun w => conv_oneN w m hm
            have C2 := fun w => conv_x w m hm
            obtain ⟨y1, hy1⟩ : ∃ y, (⟨#[UInt8.ofNat m]⟩ : ByteArray) = y := ⟨_, rfl⟩
            obtain ⟨y2, hy2⟩ : ∃ y, (⟨#[120, UInt8.ofNat m]⟩ : ByteArray) = y := ⟨_, rfl⟩
            simp only [hy1] at h1 C1 ⊢
            simp only [hy2] at h2 C2
            have N1 := fun w => NM.out y1 w
            have N2 := fun w => NM.out y2 w
            obtain ⟨L, hL⟩ : ∃ L, nameB y1 = L := ⟨_, rfl⟩
            obtain ⟨K, hK⟩ : ∃ K, nameB y2 = K := ⟨_, rfl⟩
            rw [hL] at h1
            rw [hK] at h2
            simp only [hL] at N1 ⊢
            simp only [hK] at N2
            replace N1 := Lib.hid N1
            replace N2 := Lib.hid N2
            replace C1 := Lib.hid C1
            replace C2 := Lib.hid C2
            have hw4 := ways4 m L K h1 h2
            clear h1 h2 hL hK hy1 hy2 NM hm
            rcases hw4 with ⟨rfl, rfl⟩ | ⟨rfl, rfl, d1⟩ | ⟨rfl, rfl, d1, d2⟩ | ⟨rfl, rfl, d1, d2⟩
            all_goals
              go_wp2_with fail
              refine (N0.out _).mono ?_
              rintro e w3 ⟨rfl, hx⟩
              have hb3 := hop HB.out (Nat.le_refl _) hx
              have k1 := C1.out w3
              clear hx
              go_wp2_with fail
              refine (N1.out _).mono ?_
              rintro e w4 ⟨rfl, hx⟩
              have hb4 := hop_new hb3 (Nat.le_refl _) hx
              have k2 := C2.out w4
              clear hx k1
              go_wp2_with fail
              refine (N2.out _).mono ?_
              rintro e w5 ⟨rfl, hx⟩
              have hb5 := hop_new hb4 (Nat.le_refl _) hx
              clear hx k2
              go_wp2
              go_ret
              exact ⟨by simp, hb5⟩
end Go.Proofs.Ytimfabnjopkhdaa
