/- The walk of the law LexLongest: of signs the longest is told; letters and digits that stand together are one word. -/
import Derived.Test.YtnhbahfpinijiaaLexLongMath
import Derived.Test.YtnhbahfpinijiaaLexSpacesLaw
namespace Go.Proofs.Ytnhbahfpinijiaa
open Go.RowKit
set_option linter.unusedVariables false

def lettN (r : Nat) : UInt8 := [97, 98, 99, 122, 48, 49, 56, 57, 88, 89].getD r 0
theorem lettN_at (q : Nat) (h : q < 10) : (⟨#[97, 98, 99, 122, 48, 49, 56, 57, 88, 89]⟩ : ByteArray)[q]'(by exact h) = lettN q := by
  have : ∀ q : Fin 10, (⟨#[97, 98, 99, 122, 48, 49, 56, 57, 88, 89]⟩ : ByteArray)[q.1]'(by exact q.2) = lettN q.1 := by decide
  exact this ⟨q, h⟩
theorem lettN_good : ∀ r, r < 10 → goodK [0, 1] (lettN r) = true := by decide
theorem xs_lit (i : Nat) (hi : i < 8) (h : i < ([Value.string ⟨#[61, 126]⟩, .string ⟨#[33, 126]⟩, .string ⟨#[33, 61]⟩, .string ⟨#[61, 61]⟩, .string ⟨#[62, 61]⟩, .string ⟨#[60, 61]⟩, .string ⟨#[124, 61]⟩, .string ⟨#[124, 126]⟩] : List Value).length) : ([Value.string ⟨#[61, 126]⟩, .string ⟨#[33, 126]⟩, .string ⟨#[33, 61]⟩, .string ⟨#[61, 61]⟩, .string ⟨#[62, 61]⟩, .string ⟨#[60, 61]⟩, .string ⟨#[124, 61]⟩, .string ⟨#[124, 126]⟩] : List Value)[i] = .string (xsT.getD i .empty) := by
  have : ∀ i : Fin 8, ([Value.string ⟨#[61, 126]⟩, .string ⟨#[33, 126]⟩, .string ⟨#[33, 61]⟩, .string ⟨#[61, 61]⟩, .string ⟨#[62, 61]⟩, .string ⟨#[60, 61]⟩, .string ⟨#[124, 61]⟩, .string ⟨#[124, 126]⟩] : List Value)[i.1]'(by exact i.2) = .string (xsT.getD i.1 .empty) := by
    intro i
    match i with
    | 0 => rfl
    | 1 => rfl
    | 2 => rfl
    | 3 => rfl
    | 4 => rfl
    | 5 => rfl
    | 6 => rfl
    | 7 => rfl
  exact this ⟨i, hi⟩
theorem ys_lit (i : Nat) (hi : i < 5) (h : i < ([Value.string ⟨#[123]⟩, .string ⟨#[125]⟩, .string ⟨#[44]⟩, .string ⟨#[62]⟩, .string ⟨#[60]⟩] : List Value).length) : ([Value.string ⟨#[123]⟩, .string ⟨#[125]⟩, .string ⟨#[44]⟩, .string ⟨#[62]⟩, .string ⟨#[60]⟩] : List Value)[i] = .string (ysT.getD i .empty) := by
  have : ∀ i : Fin 5, ([Value.string ⟨#[123]⟩, .string ⟨#[125]⟩, .string ⟨#[44]⟩, .string ⟨#[62]⟩, .string ⟨#[60]⟩] : List Value)[i.1]'(by exact i.2) = .string (ysT.getD i.1 .empty) := by
    intro i
    match i with
    | 0 => rfl
    | 1 => rfl
    | 2 => rfl
    | 3 => rfl
    | 4 => rfl
  exact this ⟨i, hi⟩
theorem mem_getD {l : List ByteArray} {i : Nat} (h : i < l.length) : l.getD i .empty ∈ l := by
  rw [List.getD_eq_getElem?_getD, List.getElem?_eq_getElem h]
  exact List.getElem_mem h
/-- the texts that grow -/
structure GrowT (ks : List Int) (t : ByteArray) (n : Nat) : Prop where
  lets : letG t.data.toList
  head : headK ks t.data.toList = true
  size : t.size = n
theorem growA : GrowT [1, 2] ⟨#[97]⟩ 1 := ⟨fun c hc => by
  have e : c = 97 := by simpa using hc
  rw [e]; decide, by decide, rfl⟩
theorem grow7 : GrowT [0] ⟨#[55]⟩ 1 := ⟨fun c hc => by
  have e : c = 55 := by simpa using hc
  rw [e]; decide, by decide, rfl⟩
theorem GrowT.more {ks : List Int} {t : ByteArray} {n : Nat} (h : GrowT ks t n) (c : UInt8) (hc : goodK [0, 1] c = true) : GrowT ks (t ++ (⟨#[c]⟩ : ByteArray)) (n + 1) := by
  refine ⟨?_, ?_, ?_⟩
  · rw [text_joined]
    intro d hd
    rcases List.mem_append.1 hd with h1 | h1
    · exact h.lets d h1
    · have e : d = c := by simpa using h1
      rw [e]; exact hc
  · rw [text_joined]
    have h2 := h.head
    cases hl : t.data.toList with
    | nil => rw [hl] at h2; cases h2
    | cons a l => rw [hl] at h2; exact h2
  · rw [ByteArray.size_append, h.size]
    rfl
/-- what the call of All answers -/
theorem all_long (x y nm vl : ByteArray) (hx : x ∈ xsT) (hy : y ∈ ysT) (n : Nat) (hn : GrowT [1, 2] nm n) (hv : GrowT [0] vl n) (h32 : n ≤ 32) (W : World) :
    Calls Try.prog 10 #[.string (x ++ y ++ nm ++ y ++ vl ++ y)] W fun e w' => ∃ g c, e = .returned (.tuple #[.slice (some ⟨g, 0, none⟩) 6 c, .int .i64 ((5 + n + n : Nat) : Int), .int .i64 0]) ∧ 6 ≤ c ∧ Hid (w'.cell? ⟨g, 1, none⟩ = some (.string x) ∧ w'.cell? ⟨g, 4, none⟩ = some (.string y) ∧ w'.cell? ⟨g, 7, none⟩ = some (.string nm) ∧ w'.cell? ⟨g, 6, none⟩ = some (.int .i64 1) ∧ w'.cell? ⟨g, 13, none⟩ = some (.string vl) ∧ w'.cell? ⟨g, 12, none⟩ = some (.int .i64 3) ∧ w'.cell? ⟨g, 17, none⟩ = some (.int .i64 ((4 + n + n : Nat) : Int))) ∧ Below W.heap.size W w' := by
  have hl := lexL_long x y nm vl hx hy hn.lets hn.head (by rw [hn.size]; exact h32) hv.lets hv.head (by rw [hv.size]; exact h32)
  rw [hn.size, hv.size] at hl
  refine (all_toks (longT x y nm vl) _ _ _ hl W).mono ?_
  rintro e w' ⟨A, c, rfl, hc, HP, hb⟩
  have h6 : (longL x y nm vl).length = 6 := rfl
  obtain ⟨g, rfl, hlt, hcell⟩ := HP.out (by rw [h6]; decide)
  refine ⟨g, c, rfl, hc, Lib.hid ⟨(hcell 0 (by rw [h6]; decide)).2.1, (hcell 1 (by rw [h6]; decide)).2.1, (hcell 2 (by rw [h6]; decide)).2.1, (hcell 2 (by rw [h6]; decide)).1, (hcell 4 (by rw [h6]; decide)).2.1, (hcell 4 (by rw [h6]; decide)).1, ?_⟩, hb⟩
  have h := (hcell 5 (by rw [h6]; decide)).2.2
  have e : ((longL x y nm vl).getD 5 tnil).at_ = 4 + n + n := by
    show 4 + nm.size + vl.size = _
    rw [hn.size, hv.size]
  rw [e] at h
  exact h

set_option maxRecDepth 100000 in
set_option maxHeartbeats 1600000 in
theorem lexLongest_walk {W : World} (a b : Int) (A : Option Addr) (len c : Nat) (zs : List Int) (wa : (Lit.int .u8 a).wf = true) (wb : (Lit.int .u8 b).wf = true) (h1 : Ints .u8 W A len zs) (hnc : len ≤ c) (hcm : c ≤ maxLen) :
    Calls Try.prog 7 #[.int .u8 a, .int .u8 b, .slice A len c] W fun e w' => e = .returned (.bool true) ∧ Below W.heap.size W w' := by
  have h0 : W.heap.size ≤ W.heap.size := Nat.le_refl _
  unfold maxLen at hcm
  obtain ⟨a0, a1⟩ := bdu8 wa
  obtain ⟨b0, b1⟩ := bdu8 wb
  obtain ⟨i, hi, hi8⟩ : ∃ i : Nat, a % 8 = (i : Int) ∧ i < 8 := ⟨(a % 8).toNat, by omega, by omega⟩
  obtain ⟨j, hj, hj5⟩ : ∃ j : Nat, b % 5 = (j : Int) ∧ j < 5 := ⟨(b % 5).toNat, by omega, by omega⟩
  have i2 : a.tmod 8 = (i : Int) := by rw [Int.tmod_eq_emod_of_nonneg a0]; exact hi
  have j2 : b.tmod 5 = (j : Int) := by rw [Int.tmod_eq_emod_of_nonneg b0]; exact hj
  have iI : (i : Int) < 8 := by omega
  have jI : (j : Int) < 5 := by omega
  have hwi : IntKind.u8.wrap (i : Int) = (i : Int) := by rw [IntKind.wrap_u8]; omega
  have hwj : IntKind.u8.wrap (j : Int) = (j : Int) := by rw [IntKind.wrap_u8]; omega
  have LX := fun h => xs_lit i hi8 h
  have LY := fun h => ys_lit j hj5 h
  have hx := mem_getD (l := xsT) hi8
  have hy := mem_getD (l := ysT) hj5
  obtain ⟨x, hxe⟩ : ∃ x, xsT.getD i .empty = x := ⟨_, rfl⟩
  obtain ⟨y, hye⟩ : ∃ x, ysT.getD j .empty = x := ⟨_, rfl⟩
  rw [hxe] at hx
  rw [hye] at hy
  simp only [hxe] at LX
  simp only [hye] at LY
  have HLX := Lib.hid LX
  have HLY := Lib.hid LY
  have hxs := (xs_facts x hx).1
  have hys := (ys_facts y hy).1
  have HXM := Lib.hid hx
  have HYM := Lib.hid hy
  have HXS := Lib.hid hxs
  have HYS := Lib.hid hys
  have HX := Lib.hid (lexExamples_any W)
  have HI := Lib.hid h1
  clear h1 wa wb LX LY hx hy hxe hye hxs hys
  go_enter Try.func7, Try.ntmps7
  go_wp2_with fail
  refine HX.out.mono ?_
  rintro e w1 ⟨rfl, hb⟩
  have hb2 := (hb.alloc hb.size (.cells (xsT.map Value.string).toArray 9)).alloc (by simp; have := hb.size; omega) (.cells (ysT.map Value.string).toArray 9)
  have HB2 := Lib.hid hb2
  clear hb hb2 HX
  go_wp2
  obtain ⟨w2, hw2⟩ : ∃ w, (w1.alloc (.cells (xsT.map Value.string).toArray 9)).alloc (.cells (ysT.map Value.string).toArray 9) = w := ⟨_, rfl⟩
  have e0 : (w1.alloc (.cells (xsT.map Value.string).toArray 9)).alloc (.cells (ysT.map Value.string).toArray 9) = (w1.alloc (Obj.cells #[Value.string ⟨#[61, 126]⟩, .string ⟨#[33, 126]⟩, .string ⟨#[33, 61]⟩, .string ⟨#[61, 61]⟩, .string ⟨#[62, 61]⟩, .string ⟨#[60, 61]⟩, .string ⟨#[124, 61]⟩, .string ⟨#[124, 126]⟩] 9)).alloc (Obj.cells #[Value.string ⟨#[123]⟩, .string ⟨#[125]⟩, .string ⟨#[44]⟩, .string ⟨#[62]⟩, .string ⟨#[60]⟩] 9) := rfl
  rw [hw2] at HB2 e0
  rw [← e0]
  simp only [HLX.out, HLY.out]
  clear e0 hw2 HLX HLY
  go_loopw [11, 12, 13, 14] (fun nv vv iv cv wr => ∃ (n : Nat) (nm vl : ByteArray), n ≤ len ∧ n ≤ 20 ∧ iv = .int .i64 n ∧ nv = .string nm ∧ vv = .string vl ∧ Hid (GrowT [1, 2] nm (n + 1)) ∧ Hid (GrowT [0] vl (n + 1)) ∧ Below w2.heap.size w2 wr) (fun _ _ iv _ _ => 20 - (intOf iv).toNat)
  case atStart => exact ⟨0, ⟨#[97]⟩, ⟨#[55]⟩, Nat.zero_le _, Nat.zero_le _, rfl, rfl, rfl, Lib.hid growA, Lib.hid grow7, Below.refl _ _⟩
  case round =>
    obtain ⟨n, nm, vl, hnl, hn20, rfl, rfl, rfl, HN, HV, hb⟩ := hrel
    have hsz := hb.size
    have z1 := HN.out.size
    have z2 := HV.out.size
    have HB3 := Lib.hid (hop HB2.out h0 hb)
    by_cases hgo : n < len ∧ n < 20
    · obtain ⟨g1, g2⟩ := hgo
      have hzz := HI.out.below HB3.out
      obtain ⟨bb, off, rfl, hlt, hc⟩ := hzz.2.2 (by omega)
      have c0 := hc n g1
      have hwf := hzz.2.1 (zs.getD n 0) (by
        rw [List.getD_eq_getElem?_getD, List.getElem?_eq_getElem (by rw [hzz.1]; exact g1)]
        exact List.getElem_mem _)
      obtain ⟨x0, x1⟩ := bdu8 hwf
      obtain ⟨q, hq⟩ : ∃ x : Nat, zs.getD n 0 = (x : Int) := ⟨(zs.getD n 0).toNat, by omega⟩
      rw [hq] at c0 x1
      have nI : (n : Int) < (len : Int) := by omega
      have n20 : (n : Int) < 20 := by omega
      obtain ⟨r, hr⟩ : ∃ r, q % 10 = r := ⟨_, rfl⟩
      have hr10 : r < 10 := by omega
      have i1 : (q : Int) % 10 = (r : Int) := by omega
      have i2 : (q : Int).tmod 10 = (r : Int) := by rw [Int.tmod_eq_emod_of_nonneg (by omega)]; exact i1
      have hw1 : IntKind.u8.wrap (r : Int) = (r : Int) := by rw [IntKind.wrap_u8]; omega
      have hrI : (r : Int) < 10 := by omega
      have hd := lettN_at r hr10
      have hg := lettN_good r hr10
      obtain ⟨u, hu⟩ : ∃ n, (lettN r).toNat = n := ⟨_, rfl⟩
      have hu256 : u < 256 := by rw [← hu]; exact (lettN r).toNat_lt
      have hcv := conv_oneN wr u hu256
      have hub : UInt8.ofNat u = lettN r := by rw [← hu]; simp
      rw [hub] at hcv
      have HN2 := Lib.hid (HN.out.more (lettN r) hg)
      have HV2 := Lib.hid (HV.out.more (lettN r) hg)
      have hys : (⟨#[lettN r]⟩ : ByteArray).size = 1 := rfl
      obtain ⟨p, hp⟩ : ∃ y, (⟨#[lettN r]⟩ : ByteArray) = y := ⟨_, rfl⟩
      rw [hp] at hcv hys HN2 HV2
      have s1 : ¬ 9223372036854775807 < nm.size + p.size := by omega
      have s2 : ¬ 9223372036854775807 < vl.size + p.size := by omega
      have HBB := Lib.hid hb
      clear hc hzz hwf hq hr hg hub hp hys
      go_wp2_with fail
      go_round
      case rel => exact ⟨n + 1, _, _, by omega, by omega, by go_num, rfl, rfl, HN2, HV2, HBB.out.alloc hsz _⟩
      case measure => simp [intOf]; omega
    · have hends : (¬ (n : Int) < (len : Int)) ∨ ((n : Int) < (len : Int) ∧ ¬ (n : Int) < 20) := by omega
      have hx2 := HXS.out
      have hy2 := HYS.out
      have AL := Lib.hid (fun w => all_long x y nm vl HXM.out HYM.out (n + 1) HN.out HV.out (by omega) w)
      have s1 : ¬ 9223372036854775807 < x.size + y.size := by omega
      have s2 : ¬ 9223372036854775807 < (x ++ y).size + nm.size := by rw [ByteArray.size_append]; omega
      have s3 : ¬ 9223372036854775807 < (x ++ y ++ nm).size + y.size := by simp only [ByteArray.size_append]; omega
      have s4 : ¬ 9223372036854775807 < (x ++ y ++ nm ++ y).size + vl.size := by simp only [ByteArray.size_append]; omega
      have s5 : ¬ 9223372036854775807 < (x ++ y ++ nm ++ y ++ vl).size + y.size := by simp only [ByteArray.size_append]; omega
      obtain ⟨K, hK⟩ : ∃ K, 5 + (n + 1) + (n + 1) = K := ⟨_, rfl⟩
      obtain ⟨K5, hK5⟩ : ∃ K, 4 + (n + 1) + (n + 1) = K := ⟨_, rfl⟩
      have g1 : ((K : Int) == (x.size : Int) + 3 + (nm.size : Int) + (vl.size : Int)) = true := by rw [beq_iff_eq]; omega
      have g2 : ((K5 : Int) == (K : Int) - 1) = true := by rw [beq_iff_eq]; omega
      have g3 : x.size ≤ 100 := by omega
      have g4 : nm.size ≤ 100 := by omega
      have g5 : vl.size ≤ 100 := by omega
      have g6 : K ≤ 100 := by omega
      have g7 : 1 ≤ K := by omega
      have ALK := AL.out
      simp only [hK, hK5] at ALK
      replace ALK := Lib.hid ALK
      clear hgo hx2 hy2 AL hK hK5 z1 z2 hb
      rcases hends with e1 | ⟨e1, e2⟩
      all_goals
        go_wp2_with fail
        refine (ALK.out _).mono ?_
        rintro e w3 ⟨g, c3, rfl, hc3, HK, hx⟩
        have HB4 := Lib.hid (hop HB3.out h0 hx)
        obtain ⟨k1, k2, k3, k4, k5, k6, k7⟩ := HK.out
        clear hx HK
        go_wp2
        go_ret
        exact ⟨rfl, HB4.out⟩
end Go.Proofs.Ytnhbahfpinijiaa
