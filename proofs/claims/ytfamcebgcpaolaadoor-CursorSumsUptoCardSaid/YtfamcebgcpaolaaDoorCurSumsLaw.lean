/- The walk of the law CursorSums: with one byte another one a text has another sum; a digest is the sum of texts in quotes. -/
import Derived.Test.YtfamcebgcpaolaaDoorCurExam
import Derived.Test.YtfamcebgcpaolaaDoorBytesAt
namespace Go.Proofs.YtfamcebgcpaolaaDoor
open Go.RowKit
set_option linter.unusedVariables false
set_option linter.unusedSimpArgs false

theorem sum_bent (u : ByteArray) (k : Nat) (hk : k < u.size) (b : UInt8) : sumS (tx (bentL u.data.toList k b)) = sumS u ↔ b = 0 := by
  have hl : k < u.data.toList.length := by rw [size_toList]; exact hk
  obtain ⟨h1, h2⟩ := parted_list u.data.toList k hl ((u.data.toList.getD k 0) ^^^ b)
  unfold sumS
  rw [tx_list]
  unfold bentL
  rw [h2]
  conv => lhs; rhs; rw [h1]
  constructor
  · intro h
    exact (xor_self8 _ _).1 (fnv_turn _ _ _ _ fnv0 fnv0_lt h)
  · intro h
    rw [(xor_self8 _ _).2 h]
theorem bent_size (u : ByteArray) (k : Nat) (b : UInt8) : (tx (bentL u.data.toList k b)).size = u.size := by
  rw [tx_size]
  unfold bentL
  rw [List.length_set, size_toList]
theorem quoted_two (a b : ByteArray) : quotedT [a, b] = putS a ++ (⟨#[44]⟩ : ByteArray) ++ putS b := by
  refine text_ext1 ?_
  rw [text_joined, text_joined]
  show joinB ⟨#[44]⟩ [putS a, putS b] = _
  unfold joinB
  simp [Lib.join]
theorem quoted_one (a : ByteArray) : quotedT [a] = putS a := by
  refine text_ext1 ?_
  show joinB ⟨#[44]⟩ [putS a] = _
  unfold joinB
  simp [Lib.join]

set_option maxRecDepth 100000 in
set_option maxHeartbeats 3200000 in
theorem cursorSums_walk {W : World} (s : ByteArray) (at_ by_ : Int) (a b : ByteArray) (us : s.size ≤ 1048576) (wat : (Lit.int .u16 at_).wf = true) (wby : (Lit.int .u8 by_).wf = true) (ua : a.size ≤ 1048576) (ub : b.size ≤ 1048576) (hl : LibIs W) :
    Calls Tryd.prog 3 #[.string s, .int .u16 at_, .int .u8 by_, .string a, .string b] W fun e w' => e = .returned (.bool true) ∧ Below W.heap.size W w' := by
  have h0 : W.heap.size ≤ W.heap.size := Nat.le_refl _
  obtain ⟨t0, t1⟩ := bdu16 wat
  obtain ⟨b0, b1⟩ := bdu8 wby
  obtain ⟨n, rfl⟩ : ∃ n : Nat, by_ = n := ⟨by_.toNat, by omega⟩
  have hn : n < 256 := by omega
  obtain ⟨y, hy⟩ : ∃ y : UInt8, y.toNat = n := ⟨UInt8.ofNat n, by simp; omega⟩
  subst hy
  have HX := Lib.hid (fun w h => curExamples_any w h)
  have one : (⟨#[122]⟩ : ByteArray).size = 1 := rfl
  obtain ⟨u, hu⟩ : ∃ u, s ++ (⟨#[122]⟩ : ByteArray) = u := ⟨_, rfl⟩
  have husz : u.size = s.size + 1 := by rw [← hu, ByteArray.size_append, one]
  have hk0 : 0 ≤ at_ % (u.size : Int) := Int.emod_nonneg _ (by omega)
  have hk1 : at_ % (u.size : Int) < (u.size : Int) := Int.emod_lt_of_pos _ (by omega)
  obtain ⟨k, hk⟩ : ∃ k : Nat, at_ % (u.size : Int) = k := ⟨(at_ % (u.size : Int)).toNat, by omega⟩
  have hku : k < u.size := by omega
  have hkI : (k : Int) < (u.size : Int) := by omega
  have hk2 : at_.tmod (u.size : Int) = k := by rw [Int.tmod_eq_emod_of_nonneg t0]; exact hk
  have hwat : IntKind.i64.wrap at_ = at_ := by rw [IntKind.wrap_i64]; omega
  have hwk : IntKind.i64.wrap (k : Int) = (k : Int) := by rw [IntKind.wrap_i64]; omega
  have husn : ((u.size : Int) == 0) = false := by rw [beq_eq_false_iff_ne]; omega
  have husn2 : ¬ (u.size : Int) = 0 := by omega
  have hcat1 : ¬ 9223372036854775807 < s.size + 1 := by omega
  have hcat2 : ¬ 9223372036854775807 < s.size + (⟨#[122]⟩ : ByteArray).size := by rw [one]; omega
  have hbent := sum_bent u k hku y
  have hbsz := bent_size u k y
  have hul : u.data.toList.length = u.size := size_toList u
  have hx8 := xor8 (u.data.toList.getD k 0) y
  have BSET := Lib.hid (fun (w : World) (g : Nat) (h : BytesAt w g u.data.toList) => show w.cell? ⟨g, k, none⟩ = some (.int .u8 ((u.data.toList.getD k 0).toNat : Int)) ∧ BytesAt (w.setCell ⟨g, k, none⟩ (.int .u8 (((u.data.toList.getD k 0) ^^^ y).toNat : Int))) g (bentL u.data.toList k y) from ⟨h k (by omega), h.set_ k (by omega) _⟩)
  have CB := Lib.hid (fun (w : World) => conv_bytes w u)
  have CA := Lib.hid (fun (w : World) (g C : Nat) (h : BytesAt w g u.data.toList) => show (convert 24 9 (.slice (some ⟨g, 0, none⟩) u.size C)).run Tryd.prog w = .ok (.string u) w from conv_at h u.size C hul.symm)
  have CC := Lib.hid (fun (w : World) (g C : Nat) (h : BytesAt w g (bentL u.data.toList k y)) => conv_at h u.size C (by unfold bentL; rw [List.length_set, hul]))
  obtain ⟨c, hc⟩ : ∃ c, u.data.toList.getD k 0 = c := ⟨_, rfl⟩
  rw [hc] at hx8
  replace BSET := BSET.out
  rw [hc] at BSET
  replace BSET := Lib.hid BSET
  obtain ⟨d, hd⟩ : ∃ d, c ^^^ y = d := ⟨_, rfl⟩
  rw [hd] at hx8
  replace BSET := BSET.out
  rw [hd] at BSET
  replace BSET := Lib.hid BSET
  obtain ⟨v, hv⟩ : ∃ v, tx (bentL u.data.toList k y) = v := ⟨_, rfl⟩
  rw [hv] at hbent hbsz
  replace CC := CC.out
  simp only [hv] at CC
  replace CC := Lib.hid CC
  have SU := Lib.hid (fun w => sum_any u (by omega) w)
  have SV := fun w => sum_any v (by omega) w
  obtain ⟨z, hz⟩ : ∃ z, ((y.toNat : Int) == 0) = z := ⟨_, rfl⟩
  have hz2 : ((sumS v : Int) == (sumS u : Int)) = z := by
    rw [← hz, Bool.eq_iff_iff, beq_iff_eq, beq_iff_eq]
    constructor
    · intro h
      have : y = 0 := hbent.1 (by omega)
      rw [this]; rfl
    · intro h
      have : y = 0 := by rw [← UInt8.toNat_inj]; show y.toNat = 0; omega
      rw [hbent.2 this]
  have hz3 : (sumS v == sumS u) = z := by rw [← hz2, Bool.eq_iff_iff, beq_iff_eq, beq_iff_eq]; omega
  have hz4 : (y.toNat == 0) = z := by rw [← hz, Bool.eq_iff_iff, beq_iff_eq, beq_iff_eq]; omega
  have D2 := fun w A h => digest_any A 2 2 [a, b] (by decide) (by intro s hs; simp only [List.mem_cons, List.mem_nil_iff, or_false] at hs; rcases hs with rfl | rfl <;> omega) w h
  have D1 := fun w A h => digest_any A 1 1 [a] (by decide) (by intro s hs; simp only [List.mem_cons, List.mem_nil_iff, or_false] at hs; rcases hs with rfl; omega) w h
  have D0 := Lib.hid (fun w => show Calls Tryd.prog 7 #[.slice none 0 0] w fun e w' => e = .returned (.int .u64 (sumS ⟨#[]⟩ : Int)) ∧ Below w.heap.size w w' from digest_any none 0 0 [] (by decide) (by intro s hs; cases hs) w (texts_none w))
  have S0 := Lib.hid (fun w => sum_any ⟨#[]⟩ (by decide) w)
  have PA := fun w => put_any a (by omega) w
  have PB := fun w => put_any b (by omega) w
  have hpa := putS_size a
  have hpb := putS_size b
  have q2 : digestS [a, b] = sumS (putS a ++ (⟨#[44]⟩ : ByteArray) ++ putS b) := by unfold digestS; rw [quoted_two]
  have q1 : digestS [a] = sumS (putS a) := by unfold digestS; rw [quoted_one]
  simp only [q2] at D2
  simp only [q1] at D1
  obtain ⟨pa, hpae⟩ : ∃ x, putS a = x := ⟨_, rfl⟩
  obtain ⟨pb, hpbe⟩ : ∃ x, putS b = x := ⟨_, rfl⟩
  have hpa2 : (⟨(putB a.data.toList).toArray⟩ : ByteArray) = pa := hpae
  have hpb2 : (⟨(putB b.data.toList).toArray⟩ : ByteArray) = pb := hpbe
  simp only [hpa2] at PA
  simp only [hpb2] at PB
  simp only [hpae, hpbe] at D2
  simp only [hpae] at D1
  rw [hpae] at hpa
  rw [hpbe] at hpb
  have c44 : (⟨#[44]⟩ : ByteArray).size = 1 := rfl
  have SQ := fun w => sum_any (pa ++ (⟨#[44]⟩ : ByteArray) ++ pb) (by rw [ByteArray.size_append, ByteArray.size_append, c44]; omega) w
  have SP := Lib.hid (fun w => sum_any pa (by omega) w)
  have k1 : ¬ 9223372036854775807 < pa.size + 1 := by omega
  have k2 : ¬ 9223372036854775807 < pa.size + 1 + pb.size := by omega
  have k3 : ¬ 9223372036854775807 < pa.size + (⟨#[44]⟩ : ByteArray).size + pb.size := by rw [c44]; omega
  have k4 : ¬ 9223372036854775807 < pa.size + (⟨#[44]⟩ : ByteArray).size := by rw [c44]; omega
  have TW := Lib.hid (fun (w : World) (g : Nat) (hg : w.heap.size = g) => texts_two w a b g hg)
  have TO := Lib.hid (fun (w : World) (g : Nat) (hg : w.heap.size = g) => texts_one w a g hg)
  replace D2 := Lib.hid D2
  replace D1 := Lib.hid D1
  replace PA := Lib.hid PA
  replace PB := Lib.hid PB
  replace SV := Lib.hid SV
  replace SQ := Lib.hid SQ
  have HL := Lib.hid hl
  clear wat wby one husz hk0 hk1 hk hbent hbsz hul hc hd hv hpa hpb q2 q1 hpae hpbe hpa2 hpb2 c44 us ua ub hl b0 b1 hn
  go_enter Tryd.func3, Tryd.ntmps3
  go_wp2_with fail
  refine (HX.out _ HL.out).mono ?_
  rintro e w0 ⟨rfl, hb0⟩
  obtain ⟨C, w1, hcv, hbel, hlt, hfr, hby⟩ := CB.out w0
  obtain ⟨hcell, hset⟩ := BSET.out w1 _ hby
  have hfz := hfr k hku
  have hca := CA.out w1 _ C hby
  have hcc := CC.out _ _ C hset
  have Hb1 := Lib.hid (hop hb0 h0 hbel)
  have hsz0 := hb0.size
  clear hfr hby hset hbel hb0 HX CB CA CC BSET
  go_wp2_with fail
  refine (SU.out _).mono ?_
  rintro e w2 ⟨rfl, rfl⟩
  clear hu
  go_wp2_with fail
  refine (SV.out _).mono ?_
  rintro e w3 ⟨rfl, rfl⟩
  obtain ⟨w4, hw4⟩ : ∃ w, w2.setCell ⟨w0.heap.size, k, none⟩ (.int .u8 (d.toNat : Int)) = w := ⟨_, rfl⟩
  have hb4 : Below W.heap.size W w4 := by rw [← hw4]; exact Hb1.out.setCell (p := ⟨w0.heap.size, k, none⟩) hsz0 _
  rw [hw4]
  clear hw4 hcell hfz hca hcc hcv
  obtain ⟨g1, hg1⟩ : ∃ g, w4.heap.size = g := ⟨_, rfl⟩
  have T2 := TW.out w4 g1 hg1
  have hb5 := hb4.alloc hb4.size (.cells #[.string a, .string b] 9)
  obtain ⟨w5, hw5⟩ : ∃ w, w4.alloc (.cells #[.string a, .string b] 9) = w := ⟨_, rfl⟩
  rw [hw5] at T2 hb5
  have HT := Lib.hid T2
  clear T2 hb4
  go_wp2_with fail
  clear hw5 hg1
  refine (D2.out _ _ HT.out).mono ?_
  rintro e w6 ⟨rfl, hx⟩
  have hb6 := hop hb5 h0 hx
  clear hx hb5 HT
  go_wp2_with fail
  refine (PA.out _).mono ?_
  rintro e w7 ⟨rfl, hx⟩
  have hb7 := hop hb6 h0 hx
  clear hx hb6
  go_wp2_with fail
  refine (PB.out _).mono ?_
  rintro e w8 ⟨rfl, hx⟩
  have hb8 := hop hb7 h0 hx
  clear hx hb7
  go_wp2_with fail
  refine (SQ.out _).mono ?_
  rintro e w9 ⟨rfl, rfl⟩
  obtain ⟨g2, hg2⟩ : ∃ g, w9.heap.size = g := ⟨_, rfl⟩
  have T1 := TO.out w9 g2 hg2
  have hb9 := hb8.alloc hb8.size (.cells #[.string a] 9)
  obtain ⟨w10, hw10⟩ : ∃ w, w9.alloc (.cells #[.string a] 9) = w := ⟨_, rfl⟩
  rw [hw10] at T1 hb9
  have HT := Lib.hid T1
  clear T1 hb8
  go_wp2_with fail
  clear hw10 hg2
  refine (D1.out _ _ HT.out).mono ?_
  rintro e w11 ⟨rfl, hx⟩
  have hb11 := hop hb9 h0 hx
  clear hx hb9 HT
  go_wp2_with fail
  refine (PA.out _).mono ?_
  rintro e w12 ⟨rfl, hx⟩
  have hb12 := hop hb11 h0 hx
  clear hx hb11
  go_wp2_with fail
  refine (SP.out _).mono ?_
  rintro e w13 ⟨rfl, rfl⟩
  go_wp2_with fail
  refine (D0.out _).mono ?_
  rintro e w14 ⟨rfl, hx⟩
  have hb14 := hop hb12 h0 hx
  clear hx hb12
  go_wp2_with fail
  refine (S0.out _).mono ?_
  rintro e w15 ⟨rfl, rfl⟩
  have HB := Lib.hid hb14
  clear hb14
  go_wp2
  go_ret
  exact ⟨by first | rfl | (simp; done), HB.out⟩
end Go.Proofs.YtfamcebgcpaolaaDoor
