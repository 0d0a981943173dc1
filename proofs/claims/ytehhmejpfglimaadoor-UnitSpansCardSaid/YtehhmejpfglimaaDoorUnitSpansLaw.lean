/- The walk of the law UnitSpans. -/
import Derived.Test.YtehhmejpfglimaaDoorUnitSpansMath
import Derived.Test.YtehhmejpfglimaaDoorRefUnit
namespace Go.Proofs.YtehhmejpfglimaaDoor
open Go.RowKit
set_option linter.unusedVariables false
set_option linter.unusedSimpArgs false

theorem nxt (t y x : ByteArray) : ∃ t', t ++ y ++ x = t' ∧ t'.size = t.size + y.size + x.size ∧ t'.data.toList = t.data.toList ++ y.data.toList ++ x.data.toList :=
  ⟨_, rfl, by rw [ByteArray.size_append, ByteArray.size_append], by rw [text_joined, text_joined]⟩
theorem full (t y x : ByteArray) (h : 0 < x.size) : (t ++ y ++ x).toList.isEmpty = false ∧ ¬ (t ++ y ++ x).toList = [] ∧ ¬ (t ++ y ++ x) = ⟨#[]⟩ := by
  have h1 : ¬ (t ++ y ++ x).toList = [] := fun e => by
    rw [Lib.toList_data] at e
    have h2 := size_toList (t ++ y ++ x)
    rw [e, ByteArray.size_append] at h2
    simp at h2
    omega
  refine ⟨?_, h1, fun e => h1 (by rw [e, Lib.toList_data])⟩
  cases h2 : (t ++ y ++ x).toList with
  | nil => exact absurd h2 h1
  | cons a l => rfl
theorem en0 : (⟨#[]⟩ : ByteArray).data.toList = [] := rfl
theorem en1 : (⟨#[104]⟩ : ByteArray).data.toList = [104] := rfl
theorem en2 : (⟨#[109]⟩ : ByteArray).data.toList = [109] := rfl
theorem en3 : (⟨#[115]⟩ : ByteArray).data.toList = [115] := rfl
theorem en4 : (⟨#[109, 115]⟩ : ByteArray).data.toList = [109, 115] := rfl

set_option maxRecDepth 100000 in
set_option maxHeartbeats 1600000 in
theorem unitSpans_walk {W : World} (h m s k : Int) (wh : (Lit.int .u16 h).wf = true) (wm : (Lit.int .u8 m).wf = true) (ws : (Lit.int .u8 s).wf = true) (wk : (Lit.int .u16 k).wf = true) (hl : LibIs W) :
    Calls Tryd.prog 8 #[.int .u16 h, .int .u8 m, .int .u8 s, .int .u16 k] W fun e w' => e = .returned (.bool true) ∧ Below W.heap.size W w' := by
  have h0' : W.heap.size ≤ W.heap.size := Nat.le_refl _
  obtain ⟨h0, h1⟩ := bdu16 wh
  obtain ⟨m0, m1⟩ := bdu8 wm
  obtain ⟨s0, s1⟩ := bdu8 ws
  obtain ⟨k0, k1⟩ := bdu16 wk
  have HX := Lib.hid (unitExamples_any W hl)
  obtain ⟨a, ha⟩ : ∃ a, m % 60 = a := ⟨_, rfl⟩
  obtain ⟨b, hb⟩ : ∃ a, s % 60 = a := ⟨_, rfl⟩
  obtain ⟨c, hc⟩ : ∃ a, k % 1000 = a := ⟨_, rfl⟩
  have a0 : 0 ≤ a := by omega
  have a1 : a < 60 := by omega
  have b0 : 0 ≤ b := by omega
  have b1 : b < 60 := by omega
  have c0 : 0 ≤ c := by omega
  have c1 : c < 1000 := by omega
  obtain ⟨N, hN⟩ : ∃ N, (((h * 60 + a) * 60 + b) * 1000 + c) * 1000000 = N := ⟨_, rfl⟩
  have hN0 : 0 ≤ N := by omega
  have hN1 : N ≤ 9223372036854775807 := by omega
  have TL := spans_told h a b c h0 h1 a0 a1 b0 b1 c0 c1
  rw [hN] at TL
  have NZ : Hid (N = 0 ↔ h = 0 ∧ a = 0 ∧ b = 0 ∧ c = 0) := Lib.hid (by omega)
  have A1 := Lib.hid (fun w hw => spn_some w hw N hN0 hN1 (txt (spanB N)) (txt_list _).symm)
  have TS := spanB_size N hN0 hN1
  have hTT := txt_list (spanB N)
  obtain ⟨T, hT⟩ : ∃ T, txt (spanB N) = T := ⟨_, rfl⟩
  rw [hT] at A1 TS hTT
  rw [← hN] at A1
  have HTL := Lib.hid (show ¬ N = 0 → T.data.toList = hL h ++ (mL a ++ (sL b ++ kL c)) from fun hz => by rw [hTT, ← TL]; unfold spanB; rw [if_neg hz])
  have HTZ := Lib.hid (show N = 0 → T.data.toList = [48, 115] from fun hz => by rw [hTT]; unfold spanB; rw [if_pos hz])
  have w1 : IntKind.u32.wrap h = h := by rw [IntKind.wrap_u32]; omega
  have w2 : IntKind.u32.wrap c = c := by rw [IntKind.wrap_u32]; omega
  have lg : ∀ (x : Int), 0 ≤ x → x ≤ 65535 → ∀ w, Calls Tryd.prog 21 #[.int .u32 x] w fun e w' => e = .returned (.string (itoaS x)) ∧ Below w.heap.size w w' := fun x a b w => by
    have := long_any x.toNat (by omega) w
    rw [show ((x.toNat : Nat) : Int) = x by omega] at this
    exact this
  have dg : ∀ (x : Int), 0 ≤ x → x ≤ 255 → ∀ w, Calls Tryd.prog 20 #[.int .u8 x] w fun e w' => e = .returned (.string (itoaS x)) ∧ Below w.heap.size w w' := fun x a b w => by
    have := digits_any x.toNat (by omega) w
    rw [show ((x.toNat : Nat) : Int) = x by omega] at this
    exact this
  have D1 := lg h h0 h1
  have D2 := dg a a0 (by omega)
  have D3 := dg b b0 (by omega)
  have D4 := lg c c0 (by omega)
  have z1 := itoaS_size h (by omega) (by omega)
  have z2 := itoaS_size a (by omega) (by omega)
  have z3 := itoaS_size b (by omega) (by omega)
  have z4 := itoaS_size c (by omega) (by omega)
  have l1 := itoaS_list h
  have l2 := itoaS_list a
  have l3 := itoaS_list b
  have l4 := itoaS_list c
  obtain ⟨y1, e1⟩ : ∃ x, itoaS h = x := ⟨_, rfl⟩
  obtain ⟨y2, e2⟩ : ∃ x, itoaS a = x := ⟨_, rfl⟩
  obtain ⟨y3, e3⟩ : ∃ x, itoaS b = x := ⟨_, rfl⟩
  obtain ⟨y4, e4⟩ : ∃ x, itoaS c = x := ⟨_, rfl⟩
  rw [e1] at D1 z1 l1
  rw [e2] at D2 z2 l2
  rw [e3] at D3 z3 l3
  rw [e4] at D4 z4 l4
  replace D1 := Lib.hid D1
  replace D2 := Lib.hid D2
  replace D3 := Lib.hid D3
  replace D4 := Lib.hid D4
  replace l1 := Lib.hid l1
  replace l2 := Lib.hid l2
  replace l3 := Lib.hid l3
  replace l4 := Lib.hid l4
  clear e1 e2 e3 e4 hN hT TL hTT lg dg
  go_enter Tryd.func8, Tryd.ntmps8
  go_wp2_with fail
  refine HX.out.mono ?_
  rintro e w ⟨rfl, hbb⟩
  go_wp2_with fail
  refine (A1.out _ (hl.below hbb)).mono ?_
  rintro e w4 ⟨rfl, hx⟩
  replace hbb := hop hbb h0' hx
  clear hx
  by_cases p1 : 0 < h
  · go_wp2_with fail
    refine (D1.out _).mono ?_
    rintro e w5 ⟨rfl, hx⟩
    replace hbb := hop hbb h0' hx
    clear hx
    by_cases p2 : 0 < a
    · go_wp2_with fail
      obtain ⟨t1, q1, v1, r1⟩ := nxt ⟨#[]⟩ y1 ⟨#[104]⟩
      rw [q1]
      replace r1 := Lib.hid r1
      clear q1
      have s1 : t1.size ≤ 30 := by rw [v1]; show 0 + y1.size + 1 ≤ _; omega
      clear v1
      refine (D2.out _).mono ?_
      rintro e w6 ⟨rfl, hx⟩
      replace hbb := hop hbb h0' hx
      clear hx
      by_cases p3 : 0 < b
      · go_wp2_with fail
        obtain ⟨t2, q2, v2, r2⟩ := nxt t1 y2 ⟨#[109]⟩
        rw [q2]
        replace r2 := Lib.hid r2
        clear q2
        have s2 : t2.size ≤ 60 := by rw [v2]; show t1.size + y2.size + 1 ≤ _; omega
        clear v2
        refine (D3.out _).mono ?_
        rintro e w7 ⟨rfl, hx⟩
        replace hbb := hop hbb h0' hx
        clear hx
        by_cases p4 : 0 < c
        · go_wp2_with fail
          obtain ⟨t3, q3, v3, r3⟩ := nxt t2 y3 ⟨#[115]⟩
          rw [q3]
          replace r3 := Lib.hid r3
          clear q3
          have s3 : t3.size ≤ 90 := by rw [v3]; show t2.size + y3.size + 1 ≤ _; omega
          clear v3
          refine (D4.out _).mono ?_
          rintro e w8 ⟨rfl, hx⟩
          replace hbb := hop hbb h0' hx
          clear hx
          have hz : ¬ N = 0 := by have := NZ.out; omega
          have E := text_ext1 (show T.data.toList = (t3 ++ y4 ++ (⟨#[109, 115]⟩ : ByteArray)).data.toList by
            rw [HTL.out hz]
            simp only [hL, mL, sL, kL, if_pos (by omega : 0 < h), if_pos (by omega : 0 < a), if_pos (by omega : 0 < b), if_pos (by omega : 0 < c), text_joined, l1.out, l2.out, l3.out, l4.out, r1.out, r2.out, r3.out, en0, en1, en2, en3, en4, List.append_assoc, List.nil_append, List.append_nil])
          obtain ⟨n1, n2, n3⟩ := full t3 y4 ⟨#[109, 115]⟩ (by decide)
          clear HTL HTZ NZ l1 l2 l3 l4 r1 r2 r3
          replace E := Lib.hid E
          go_wp2
          go_ret
          exact ⟨by rw [E.out]; simp, hbb⟩
        · have hz : ¬ N = 0 := by have := NZ.out; omega
          have E := text_ext1 (show T.data.toList = (t2 ++ y3 ++ (⟨#[115]⟩ : ByteArray)).data.toList by
            rw [HTL.out hz]
            simp only [hL, mL, sL, kL, if_pos (by omega : 0 < h), if_pos (by omega : 0 < a), if_pos (by omega : 0 < b), if_neg (by omega : ¬ 0 < c), text_joined, l1.out, l2.out, l3.out, r1.out, r2.out, en0, en1, en2, en3, en4, List.append_assoc, List.nil_append, List.append_nil])
          obtain ⟨n1, n2, n3⟩ := full t2 y3 ⟨#[115]⟩ (by decide)
          clear HTL HTZ NZ l1 l2 l3 l4 r1 r2
          replace E := Lib.hid E
          go_wp2
          go_ret
          exact ⟨by rw [E.out]; simp, hbb⟩
      · by_cases p4 : 0 < c
        · go_wp2_with fail
          obtain ⟨t2, q2, v2, r2⟩ := nxt t1 y2 ⟨#[109]⟩
          rw [q2]
          replace r2 := Lib.hid r2
          clear q2
          have s2 : t2.size ≤ 60 := by rw [v2]; show t1.size + y2.size + 1 ≤ _; omega
          clear v2
          refine (D4.out _).mono ?_
          rintro e w8 ⟨rfl, hx⟩
          replace hbb := hop hbb h0' hx
          clear hx
          have hz : ¬ N = 0 := by have := NZ.out; omega
          have E := text_ext1 (show T.data.toList = (t2 ++ y4 ++ (⟨#[109, 115]⟩ : ByteArray)).data.toList by
            rw [HTL.out hz]
            simp only [hL, mL, sL, kL, if_pos (by omega : 0 < h), if_pos (by omega : 0 < a), if_neg (by omega : ¬ 0 < b), if_pos (by omega : 0 < c), text_joined, l1.out, l2.out, l4.out, r1.out, r2.out, en0, en1, en2, en3, en4, List.append_assoc, List.nil_append, List.append_nil])
          obtain ⟨n1, n2, n3⟩ := full t2 y4 ⟨#[109, 115]⟩ (by decide)
          clear HTL HTZ NZ l1 l2 l3 l4 r1 r2
          replace E := Lib.hid E
          go_wp2
          go_ret
          exact ⟨by rw [E.out]; simp, hbb⟩
        · have hz : ¬ N = 0 := by have := NZ.out; omega
          have E := text_ext1 (show T.data.toList = (t1 ++ y2 ++ (⟨#[109]⟩ : ByteArray)).data.toList by
            rw [HTL.out hz]
            simp only [hL, mL, sL, kL, if_pos (by omega : 0 < h), if_pos (by omega : 0 < a), if_neg (by omega : ¬ 0 < b), if_neg (by omega : ¬ 0 < c), text_joined, l1.out, l2.out, r1.out, en0, en1, en2, en3, en4, List.append_assoc, List.nil_append, List.append_nil])
          obtain ⟨n1, n2, n3⟩ := full t1 y2 ⟨#[109]⟩ (by decide)
          clear HTL HTZ NZ l1 l2 l3 l4 r1
          replace E := Lib.hid E
          go_wp2
          go_ret
          exact ⟨by rw [E.out]; simp, hbb⟩
    · by_cases p3 : 0 < b
      · go_wp2_with fail
        obtain ⟨t1, q1, v1, r1⟩ := nxt ⟨#[]⟩ y1 ⟨#[104]⟩
        rw [q1]
        replace r1 := Lib.hid r1
        clear q1
        have s1 : t1.size ≤ 30 := by rw [v1]; show 0 + y1.size + 1 ≤ _; omega
        clear v1
        refine (D3.out _).mono ?_
        rintro e w7 ⟨rfl, hx⟩
        replace hbb := hop hbb h0' hx
        clear hx
        by_cases p4 : 0 < c
        · go_wp2_with fail
          obtain ⟨t2, q2, v2, r2⟩ := nxt t1 y3 ⟨#[115]⟩
          rw [q2]
          replace r2 := Lib.hid r2
          clear q2
          have s2 : t2.size ≤ 60 := by rw [v2]; show t1.size + y3.size + 1 ≤ _; omega
          clear v2
          refine (D4.out _).mono ?_
          rintro e w8 ⟨rfl, hx⟩
          replace hbb := hop hbb h0' hx
          clear hx
          have hz : ¬ N = 0 := by have := NZ.out; omega
          have E := text_ext1 (show T.data.toList = (t2 ++ y4 ++ (⟨#[109, 115]⟩ : ByteArray)).data.toList by
            rw [HTL.out hz]
            simp only [hL, mL, sL, kL, if_pos (by omega : 0 < h), if_neg (by omega : ¬ 0 < a), if_pos (by omega : 0 < b), if_pos (by omega : 0 < c), text_joined, l1.out, l3.out, l4.out, r1.out, r2.out, en0, en1, en2, en3, en4, List.append_assoc, List.nil_append, List.append_nil])
          obtain ⟨n1, n2, n3⟩ := full t2 y4 ⟨#[109, 115]⟩ (by decide)
          clear HTL HTZ NZ l1 l2 l3 l4 r1 r2
          replace E := Lib.hid E
          go_wp2
          go_ret
          exact ⟨by rw [E.out]; simp, hbb⟩
        · have hz : ¬ N = 0 := by have := NZ.out; omega
          have E := text_ext1 (show T.data.toList = (t1 ++ y3 ++ (⟨#[115]⟩ : ByteArray)).data.toList by
            rw [HTL.out hz]
            simp only [hL, mL, sL, kL, if_pos (by omega : 0 < h), if_neg (by omega : ¬ 0 < a), if_pos (by omega : 0 < b), if_neg (by omega : ¬ 0 < c), text_joined, l1.out, l3.out, r1.out, en0, en1, en2, en3, en4, List.append_assoc, List.nil_append, List.append_nil])
          obtain ⟨n1, n2, n3⟩ := full t1 y3 ⟨#[115]⟩ (by decide)
          clear HTL HTZ NZ l1 l2 l3 l4 r1
          replace E := Lib.hid E
          go_wp2
          go_ret
          exact ⟨by rw [E.out]; simp, hbb⟩
      · by_cases p4 : 0 < c
        · go_wp2_with fail
          obtain ⟨t1, q1, v1, r1⟩ := nxt ⟨#[]⟩ y1 ⟨#[104]⟩
          rw [q1]
          replace r1 := Lib.hid r1
          clear q1
          have s1 : t1.size ≤ 30 := by rw [v1]; show 0 + y1.size + 1 ≤ _; omega
          clear v1
          refine (D4.out _).mono ?_
          rintro e w8 ⟨rfl, hx⟩
          replace hbb := hop hbb h0' hx
          clear hx
          have hz : ¬ N = 0 := by have := NZ.out; omega
          have E := text_ext1 (show T.data.toList = (t1 ++ y4 ++ (⟨#[109, 115]⟩ : ByteArray)).data.toList by
            rw [HTL.out hz]
            simp only [hL, mL, sL, kL, if_pos (by omega : 0 < h), if_neg (by omega : ¬ 0 < a), if_neg (by omega : ¬ 0 < b), if_pos (by omega : 0 < c), text_joined, l1.out, l4.out, r1.out, en0, en1, en2, en3, en4, List.append_assoc, List.nil_append, List.append_nil])
          obtain ⟨n1, n2, n3⟩ := full t1 y4 ⟨#[109, 115]⟩ (by decide)
          clear HTL HTZ NZ l1 l2 l3 l4 r1
          replace E := Lib.hid E
          go_wp2
          go_ret
          exact ⟨by rw [E.out]; simp, hbb⟩
        · have hz : ¬ N = 0 := by have := NZ.out; omega
          have E := text_ext1 (show T.data.toList = (⟨#[]⟩ ++ y1 ++ (⟨#[104]⟩ : ByteArray)).data.toList by
            rw [HTL.out hz]
            simp only [hL, mL, sL, kL, if_pos (by omega : 0 < h), if_neg (by omega : ¬ 0 < a), if_neg (by omega : ¬ 0 < b), if_neg (by omega : ¬ 0 < c), text_joined, l1.out, en0, en1, en2, en3, en4, List.append_assoc, List.nil_append, List.append_nil])
          obtain ⟨n1, n2, n3⟩ := full ⟨#[]⟩ y1 ⟨#[104]⟩ (by decide)
          clear HTL HTZ NZ l1 l2 l3 l4
          replace E := Lib.hid E
          go_wp2
          go_ret
          exact ⟨by rw [E.out]; simp, hbb⟩
  · by_cases p2 : 0 < a
    · go_wp2_with fail
      refine (D2.out _).mono ?_
      rintro e w6 ⟨rfl, hx⟩
      replace hbb := hop hbb h0' hx
      clear hx
      by_cases p3 : 0 < b
      · go_wp2_with fail
        obtain ⟨t1, q1, v1, r1⟩ := nxt ⟨#[]⟩ y2 ⟨#[109]⟩
        rw [q1]
        replace r1 := Lib.hid r1
        clear q1
        have s1 : t1.size ≤ 30 := by rw [v1]; show 0 + y2.size + 1 ≤ _; omega
        clear v1
        refine (D3.out _).mono ?_
        rintro e w7 ⟨rfl, hx⟩
        replace hbb := hop hbb h0' hx
        clear hx
        by_cases p4 : 0 < c
        · go_wp2_with fail
          obtain ⟨t2, q2, v2, r2⟩ := nxt t1 y3 ⟨#[115]⟩
          rw [q2]
          replace r2 := Lib.hid r2
          clear q2
          have s2 : t2.size ≤ 60 := by rw [v2]; show t1.size + y3.size + 1 ≤ _; omega
          clear v2
          refine (D4.out _).mono ?_
          rintro e w8 ⟨rfl, hx⟩
          replace hbb := hop hbb h0' hx
          clear hx
          have hz : ¬ N = 0 := by have := NZ.out; omega
          have E := text_ext1 (show T.data.toList = (t2 ++ y4 ++ (⟨#[109, 115]⟩ : ByteArray)).data.toList by
            rw [HTL.out hz]
            simp only [hL, mL, sL, kL, if_neg (by omega : ¬ 0 < h), if_pos (by omega : 0 < a), if_pos (by omega : 0 < b), if_pos (by omega : 0 < c), text_joined, l2.out, l3.out, l4.out, r1.out, r2.out, en0, en1, en2, en3, en4, List.append_assoc, List.nil_append, List.append_nil])
          obtain ⟨n1, n2, n3⟩ := full t2 y4 ⟨#[109, 115]⟩ (by decide)
          clear HTL HTZ NZ l1 l2 l3 l4 r1 r2
          replace E := Lib.hid E
          go_wp2
          go_ret
          exact ⟨by rw [E.out]; simp, hbb⟩
        · have hz : ¬ N = 0 := by have := NZ.out; omega
          have E := text_ext1 (show T.data.toList = (t1 ++ y3 ++ (⟨#[115]⟩ : ByteArray)).data.toList by
            rw [HTL.out hz]
            simp only [hL, mL, sL, kL, if_neg (by omega : ¬ 0 < h), if_pos (by omega : 0 < a), if_pos (by omega : 0 < b), if_neg (by omega : ¬ 0 < c), text_joined, l2.out, l3.out, r1.out, en0, en1, en2, en3, en4, List.append_assoc, List.nil_append, List.append_nil])
          obtain ⟨n1, n2, n3⟩ := full t1 y3 ⟨#[115]⟩ (by decide)
          clear HTL HTZ NZ l1 l2 l3 l4 r1
          replace E := Lib.hid E
          go_wp2
          go_ret
          exact ⟨by rw [E.out]; simp, hbb⟩
      · by_cases p4 : 0 < c
        · go_wp2_with fail
          obtain ⟨t1, q1, v1, r1⟩ := nxt ⟨#[]⟩ y2 ⟨#[109]⟩
          rw [q1]
          replace r1 := Lib.hid r1
          clear q1
          have s1 : t1.size ≤ 30 := by rw [v1]; show 0 + y2.size + 1 ≤ _; omega
          clear v1
          refine (D4.out _).mono ?_
          rintro e w8 ⟨rfl, hx⟩
          replace hbb := hop hbb h0' hx
          clear hx
          have hz : ¬ N = 0 := by have := NZ.out; omega
          have E := text_ext1 (show T.data.toList = (t1 ++ y4 ++ (⟨#[109, 115]⟩ : ByteArray)).data.toList by
            rw [HTL.out hz]
            simp only [hL, mL, sL, kL, if_neg (by omega : ¬ 0 < h), if_pos (by omega : 0 < a), if_neg (by omega : ¬ 0 < b), if_pos (by omega : 0 < c), text_joined, l2.out, l4.out, r1.out, en0, en1, en2, en3, en4, List.append_assoc, List.nil_append, List.append_nil])
          obtain ⟨n1, n2, n3⟩ := full t1 y4 ⟨#[109, 115]⟩ (by decide)
          clear HTL HTZ NZ l1 l2 l3 l4 r1
          replace E := Lib.hid E
          go_wp2
          go_ret
          exact ⟨by rw [E.out]; simp, hbb⟩
        · have hz : ¬ N = 0 := by have := NZ.out; omega
          have E := text_ext1 (show T.data.toList = (⟨#[]⟩ ++ y2 ++ (⟨#[109]⟩ : ByteArray)).data.toList by
            rw [HTL.out hz]
            simp only [hL, mL, sL, kL, if_neg (by omega : ¬ 0 < h), if_pos (by omega : 0 < a), if_neg (by omega : ¬ 0 < b), if_neg (by omega : ¬ 0 < c), text_joined, l2.out, en0, en1, en2, en3, en4, List.append_assoc, List.nil_append, List.append_nil])
          obtain ⟨n1, n2, n3⟩ := full ⟨#[]⟩ y2 ⟨#[109]⟩ (by decide)
          clear HTL HTZ NZ l1 l2 l3 l4
          replace E := Lib.hid E
          go_wp2
          go_ret
          exact ⟨by rw [E.out]; simp, hbb⟩
    · by_cases p3 : 0 < b
      · go_wp2_with fail
        refine (D3.out _).mono ?_
        rintro e w7 ⟨rfl, hx⟩
        replace hbb := hop hbb h0' hx
        clear hx
        by_cases p4 : 0 < c
        · go_wp2_with fail
          obtain ⟨t1, q1, v1, r1⟩ := nxt ⟨#[]⟩ y3 ⟨#[115]⟩
          rw [q1]
          replace r1 := Lib.hid r1
          clear q1
          have s1 : t1.size ≤ 30 := by rw [v1]; show 0 + y3.size + 1 ≤ _; omega
          clear v1
          refine (D4.out _).mono ?_
          rintro e w8 ⟨rfl, hx⟩
          replace hbb := hop hbb h0' hx
          clear hx
          have hz : ¬ N = 0 := by have := NZ.out; omega
          have E := text_ext1 (show T.data.toList = (t1 ++ y4 ++ (⟨#[109, 115]⟩ : ByteArray)).data.toList by
            rw [HTL.out hz]
            simp only [hL, mL, sL, kL, if_neg (by omega : ¬ 0 < h), if_neg (by omega : ¬ 0 < a), if_pos (by omega : 0 < b), if_pos (by omega : 0 < c), text_joined, l3.out, l4.out, r1.out, en0, en1, en2, en3, en4, List.append_assoc, List.nil_append, List.append_nil])
          obtain ⟨n1, n2, n3⟩ := full t1 y4 ⟨#[109, 115]⟩ (by decide)
          clear HTL HTZ NZ l1 l2 l3 l4 r1
          replace E := Lib.hid E
          go_wp2
          go_ret
          exact ⟨by rw [E.out]; simp, hbb⟩
        · have hz : ¬ N = 0 := by have := NZ.out; omega
          have E := text_ext1 (show T.data.toList = (⟨#[]⟩ ++ y3 ++ (⟨#[115]⟩ : ByteArray)).data.toList by
            rw [HTL.out hz]
            simp only [hL, mL, sL, kL, if_neg (by omega : ¬ 0 < h), if_neg (by omega : ¬ 0 < a), if_pos (by omega : 0 < b), if_neg (by omega : ¬ 0 < c), text_joined, l3.out, en0, en1, en2, en3, en4, List.append_assoc, List.nil_append, List.append_nil])
          obtain ⟨n1, n2, n3⟩ := full ⟨#[]⟩ y3 ⟨#[115]⟩ (by decide)
          clear HTL HTZ NZ l1 l2 l3 l4
          replace E := Lib.hid E
          go_wp2
          go_ret
          exact ⟨by rw [E.out]; simp, hbb⟩
      · by_cases p4 : 0 < c
        · go_wp2_with fail
          refine (D4.out _).mono ?_
          rintro e w8 ⟨rfl, hx⟩
          replace hbb := hop hbb h0' hx
          clear hx
          have hz : ¬ N = 0 := by have := NZ.out; omega
          have E := text_ext1 (show T.data.toList = (⟨#[]⟩ ++ y4 ++ (⟨#[109, 115]⟩ : ByteArray)).data.toList by
            rw [HTL.out hz]
            simp only [hL, mL, sL, kL, if_neg (by omega : ¬ 0 < h), if_neg (by omega : ¬ 0 < a), if_neg (by omega : ¬ 0 < b), if_pos (by omega : 0 < c), text_joined, l4.out, en0, en1, en2, en3, en4, List.append_assoc, List.nil_append, List.append_nil])
          obtain ⟨n1, n2, n3⟩ := full ⟨#[]⟩ y4 ⟨#[109, 115]⟩ (by decide)
          clear HTL HTZ NZ l1 l2 l3 l4
          replace E := Lib.hid E
          go_wp2
          go_ret
          exact ⟨by rw [E.out]; simp, hbb⟩
        · have E := Lib.hid (text_ext1 (show T.data.toList = (⟨#[48, 115]⟩ : ByteArray).data.toList from HTZ.out (by have := NZ.out; omega)))
          go_wp2
          go_ret
          exact ⟨by rw [E.out]; simp, hbb⟩
end Go.Proofs.YtehhmejpfglimaaDoor
