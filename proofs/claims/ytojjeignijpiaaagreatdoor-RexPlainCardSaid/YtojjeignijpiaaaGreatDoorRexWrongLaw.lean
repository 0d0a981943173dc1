/- RexWrong: the walk of the law. -/
import Derived.Test.YtojjeignijpiaaaGreatDoorRexLaws
import Derived.Test.YtojjeignijpiaaaGreatDoorRexExam
import Derived.Test.YtojjeignijpiaaaGreatDoorConv
import Derived.Test.YtojjeignijpiaaaGreatDoorTexts
namespace Go.Proofs.YtojjeignijpiaaaGreatDoor
open Go.RowKit
set_option linter.unusedVariables false
set_option linter.unusedSimpArgs false

theorem low_plain : ∀ r, r < 26 → UInt8.ofNat (97 + r) ∉ spec := by decide
/-- a text of bytes that stand for themselves, of so many bytes -/
structure PlainS (s : ByteArray) (n : Nat) : Prop where
  lets : ∀ c, c ∈ s.data.toList → c ∉ spec
  size : s.size = n
theorem PlainS.zero : PlainS ⟨#[]⟩ 0 := ⟨(fun c h => by cases h), rfl⟩
theorem PlainS.more {s : ByteArray} {n : Nat} (h : PlainS s n) {c : UInt8} (hc : c ∉ spec) : PlainS (s ++ (⟨#[c]⟩ : ByteArray)) (n + 1) := by
  refine ⟨fun d hd => ?_, ?_⟩
  · rw [text_joined] at hd
    rcases List.mem_append.1 hd with h1 | h1
    · exact h.lets d h1
    · have e : d = c := by simpa using h1
      rw [e]; exact hc
  · rw [ByteArray.size_append, h.size]
    rfl
def badT : List ByteArray := [⟨#[41]⟩, ⟨#[93]⟩, ⟨#[125]⟩, ⟨#[124, 42]⟩, ⟨#[91]⟩, ⟨#[91, 93]⟩, ⟨#[91, 122, 45, 97, 93]⟩, ⟨#[92]⟩, ⟨#[92, 113]⟩, ⟨#[40]⟩, ⟨#[40, 63]⟩, ⟨#[124, 123, 50, 125]⟩]
def badV : List Value := badT.map .string
def aheadV : List Value := [.int .i64 0, .int .i64 0, .int .i64 0, .int .i64 1, .int .i64 0, .int .i64 0, .int .i64 0, .int .i64 0, .int .i64 0, .int .i64 1, .int .i64 1, .int .i64 1]
theorem badT_list (k : Nat) (hk : k < 12) : (badT.getD k .empty).data.toList = badL k := by
  rcases (show k = 0 ∨ k = 1 ∨ k = 2 ∨ k = 3 ∨ k = 4 ∨ k = 5 ∨ k = 6 ∨ k = 7 ∨ k = 8 ∨ k = 9 ∨ k = 10 ∨ k = 11 by omega) with rfl | rfl | rfl | rfl | rfl | rfl | rfl | rfl | rfl | rfl | rfl | rfl <;> rfl
theorem badV_at (k : Nat) (hk : k < 12) : badV[k]? = some (.string (badT.getD k .empty)) := by
  rcases (show k = 0 ∨ k = 1 ∨ k = 2 ∨ k = 3 ∨ k = 4 ∨ k = 5 ∨ k = 6 ∨ k = 7 ∨ k = 8 ∨ k = 9 ∨ k = 10 ∨ k = 11 by omega) with rfl | rfl | rfl | rfl | rfl | rfl | rfl | rfl | rfl | rfl | rfl | rfl <;> rfl
theorem aheadV_at (k : Nat) (hk : k < 12) : aheadV[k]? = some (.int .i64 (aheadL k : Nat)) := by
  rcases (show k = 0 ∨ k = 1 ∨ k = 2 ∨ k = 3 ∨ k = 4 ∨ k = 5 ∨ k = 6 ∨ k = 7 ∨ k = 8 ∨ k = 9 ∨ k = 10 ∨ k = 11 by omega) with rfl | rfl | rfl | rfl | rfl | rfl | rfl | rfl | rfl | rfl | rfl | rfl <;> rfl
theorem aheadL_one (k : Nat) : aheadL k ≤ 1 := by unfold aheadL; split <;> decide
theorem badT_size (k : Nat) (hk : k < 12) : (badT.getD k .empty).size ≤ 5 := by
  rcases (show k = 0 ∨ k = 1 ∨ k = 2 ∨ k = 3 ∨ k = 4 ∨ k = 5 ∨ k = 6 ∨ k = 7 ∨ k = 8 ∨ k = 9 ∨ k = 10 ∨ k = 11 by omega) with rfl | rfl | rfl | rfl | rfl | rfl | rfl | rfl | rfl | rfl | rfl | rfl <;> decide
set_option maxRecDepth 100000 in
set_option maxHeartbeats 3200000 in
theorem rexWrong_walk {W : World} (A : Option Addr) (len c : Nat) (zs : List Int) (how : Int) (h1 : Ints .u8 W A len zs) (hnc : len ≤ c) (hcm : c ≤ maxLen) (wh : (Lit.int .u8 how).wf = true) (hl : LibIs W) :
    Calls Tryz.prog 6 #[.slice A len c, .int .u8 how] W fun e w' => e = .returned (.bool true) ∧ Below W.heap.size W w' := by
  have h0 : W.heap.size ≤ W.heap.size := Nat.le_refl _
  unfold maxLen at hcm
  obtain ⟨b0, b1⟩ := bdu8 wh
  obtain ⟨k, hk, hk12⟩ : ∃ k : Nat, how % 12 = (k : Int) ∧ k < 12 := ⟨(how % 12).toNat, by omega, by omega⟩
  have k2 : how.tmod 12 = (k : Int) := by rw [Int.tmod_eq_emod_of_nonneg b0]; exact hk
  have hwk : IntKind.u8.wrap (k : Int) = (k : Int) := by rw [IntKind.wrap_u8]; omega
  have hwk2 : IntKind.i64.wrap (k : Int) = (k : Int) := by rw [IntKind.wrap_i64]; omega
  have kI : (k : Int) < 12 := by omega
  have PR := Lib.hid (fun t w h => parse_rex t w h)
  have HEX := Lib.hid (fun w h => rexExamples_any w h)
  have HI := Lib.hid h1
  have HL := Lib.hid hl
  clear h1 hl wh
  go_enter Tryz.func6, Tryz.ntmps6
  go_wp2_with fail
  refine (HEX.out W HL.out).mono ?_
  rintro e w1 ⟨rfl, hb⟩
  have HB1 := Lib.hid hb
  clear hb HEX
  go_wp2
  go_loopw [6, 7] (fun sv iv wr => ∃ (n : Nat) (s : ByteArray), n ≤ len ∧ n ≤ 40 ∧ iv = .int .i64 n ∧ sv = .string s ∧ Hid (PlainS s n) ∧ Below W.heap.size W wr) (fun _ iv _ => len - (intOf iv).toNat)
  case atStart => exact ⟨0, ⟨#[]⟩, Nat.zero_le _, Nat.zero_le _, rfl, rfl, Lib.hid PlainS.zero, HB1.out⟩
  case round =>
    obtain ⟨n, s, hnl, hn40, rfl, rfl, HS, hb⟩ := hrel
    have hsz := hb.size
    have z1 := HS.out.size
    have HB3 := Lib.hid hb
    by_cases hgo : n < len ∧ n < 40
    · obtain ⟨g1, g2⟩ := hgo
      have hzz := HI.out.below HB3.out
      obtain ⟨bb, off, rfl, hlt, hc⟩ := hzz.2.2 (by omega)
      have c0 := hc n g1
      have hwf := hzz.2.1 (zs.getD n 0) (by
        rw [List.getD_eq_getElem?_getD, List.getElem?_eq_getElem (by rw [hzz.1]; exact g1)]
        exact List.getElem_mem _)
      obtain ⟨x0, x1⟩ := bdu8 hwf
      obtain ⟨q, hq⟩ : ∃ x : Nat, zs.getD n 0 = (x : Int) := ⟨(zs.getD n 0).toNat, by omega⟩
      rw [hq] at c0 x1
      have nI : (n : Int) < (len : Int) := by omega
      have n40 : (n : Int) < 40 := by omega
      obtain ⟨r, hr⟩ : ∃ r, q % 26 = r := ⟨_, rfl⟩
      have hr26 : r < 26 := by omega
      have i1 : (q : Int) % 26 = (r : Int) := by omega
      have i2 : (q : Int).tmod 26 = (r : Int) := by rw [Int.tmod_eq_emod_of_nonneg (by omega)]; exact i1
      have hw1 : IntKind.u8.wrap (r : Int) = (r : Int) := by rw [IntKind.wrap_u8]; omega
      obtain ⟨u, hu⟩ : ∃ u, 97 + r = u := ⟨_, rfl⟩
      have hw2 : IntKind.u8.wrap (97 + (r : Int)) = (u : Int) := by rw [IntKind.wrap_u8]; omega
      have hu256 : u < 256 := by omega
      have hcv := conv_oneN wr u hu256
      have hpl := low_plain r hr26
      rw [hu] at hpl
      have HS2 := Lib.hid (HS.out.more hpl)
      have hys : (⟨#[UInt8.ofNat u]⟩ : ByteArray).size = 1 := rfl
      obtain ⟨p, hp⟩ : ∃ y, (⟨#[UInt8.ofNat u]⟩ : ByteArray) = y := ⟨_, rfl⟩
      rw [hp] at hcv hys HS2
      have s1 : ¬ 9223372036854775807 < s.size + p.size := by omega
      have HBB := Lib.hid hb
      clear hc hzz hwf hq hr hpl hp hys hu
      go_wp2_with fail
      go_round
      case rel => exact ⟨n + 1, _, by omega, by omega, by go_num, rfl, HS2, HBB.out.alloc hsz _⟩
      case measure => simp [intOf]; omega
    · have hends : (¬ (n : Int) < (len : Int)) ∨ ((n : Int) < (len : Int) ∧ ¬ (n : Int) < 40) := by omega
      have hbs := badT_size k hk12
      have hwp := wrong_parse (l := s.data.toList) HS.out.lets (by rw [size_toList, z1]; exact hn40) hk12
      rw [← badT_list k hk12, ← text_joined, size_toList] at hwp
      have c1 := badV_at k hk12
      have c2 := aheadV_at k hk12
      have ha1 := aheadL_one k
      obtain ⟨t, ht⟩ : ∃ t, badT.getD k .empty = t := ⟨_, rfl⟩
      obtain ⟨z, hz⟩ : ∃ z, aheadL k = z := ⟨_, rfl⟩
      rw [ht] at hbs hwp c1
      rw [hz] at hwp c2 ha1
      have HWP := Lib.hid hwp
      have LX : ∀ h, badV[k]'h = .string t := fun h => by rw [List.getElem?_eq_getElem h] at c1; exact Option.some.inj c1
      have d2 : ((wr.alloc (.cells badV.toArray 9)).alloc (.cells aheadV.toArray 3)).cell? ⟨wr.heap.size + 1, k, none⟩ = some (.int .i64 (z : Nat)) := by
        have h := (Blk.new (wr.alloc (.cells badV.toArray 9)) 3 aheadV.toArray).cell k
        rw [List.getElem?_toArray, c2] at h
        have e : (wr.alloc (.cells badV.toArray 9)).heap.size = wr.heap.size + 1 := by simp
        rw [e] at h
        exact h
      have s1 : ¬ 9223372036854775807 < s.size + t.size := by omega
      have HB4 := Lib.hid ((hb.alloc hsz (.cells badV.toArray 9)).alloc (by simp; omega) (.cells aheadV.toArray 3))
      have hgl : wr.heap.size + 1 < ((wr.alloc (.cells badV.toArray 9)).alloc (.cells aheadV.toArray 3)).heap.size := by simp
      obtain ⟨v0, hv0⟩ : ∃ v, (wr.alloc (.cells badV.toArray 9)).alloc (.cells aheadV.toArray 3) = v := ⟨_, rfl⟩
      rw [hv0] at HB4 d2 hgl
      have HV0 := Lib.hid hv0
      have HD2 := Lib.hid d2
      have HGL := Lib.hid hgl
      clear hgo hwp c1 c2 ht hz d2 hv0 hgl
      unfold badV badT at LX HV0
      unfold aheadV at HV0
      simp only [List.map_cons, List.map_nil] at LX HV0
      have hn63 : s.size = n := z1
      rcases hends with e1 | ⟨e1, e2⟩
      all_goals
        go_wp2_with fail
        rw [HV0.out]
        refine (PR.out (s ++ t) v0 (HL.out.below HB4.out)).mono ?_
        rintro e w2 ⟨x, a2, r2, rfl, hp2, hg2, hb2⟩
        have hE2 := HWP.out.symm.trans hp2
        obtain ⟨hx2, hA2⟩ := Prod.mk.inj hE2
        obtain ⟨hA2, hR2⟩ := Prod.mk.inj hA2
        subst hA2 hR2
        have d3 := (hb2.cell (p := ⟨wr.heap.size + 1, k, none⟩) HGL.out).trans HD2.out
        have hg5 : wr.heap.size + 1 < w2.heap.size := Nat.lt_of_lt_of_le HGL.out hb2.size
        have HB5 := Lib.hid ((hop HB4.out (Nat.le_refl _) hb2))
        clear hp2 hE2 hx2 hg2 hb2
        unfold nodeC nodeV
        go_wp2
        go_ret
        exact ⟨by first | rfl | simp, HB5.out.alloc HB5.out.size _⟩
end Go.Proofs.YtojjeignijpiaaaGreatDoor
