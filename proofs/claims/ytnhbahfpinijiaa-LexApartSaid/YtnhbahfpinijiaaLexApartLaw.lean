/- The walk of the law LexApart: words that are put one behind the other with a space between are those words, each where it stands. -/
import Derived.Test.YtnhbahfpinijiaaLexApartMath
import Derived.Test.YtnhbahfpinijiaaLexSpacesLaw
import Derived.Test.YtnhbahfpinijiaaPut2
import Derived.Laws.StructEq
import Derived.Deep.DeepCutAuto
namespace Go.Proofs.Ytnhbahfpinijiaa
open Go.RowKit
set_option linter.unusedVariables false

theorem conv_drew3 (w : World) (x y z : Int) (m n l : Nat) (hx : x = m) (hy : y = n) (hz : z = l) (h1 : m < 256) (h2 : n < 256) (h3 : l < 256) : (convert 22 9 (.slice (some ⟨w.heap.size, 0, none⟩) 3 3)).run Try.prog ((w.alloc (.cells #[.int .u8 x, .int .u8 y, .int .u8 z] 5)).drew) = .ok (.string ⟨#[UInt8.ofNat m, UInt8.ofNat n, UInt8.ofNat l]⟩) ((w.alloc (.cells #[.int .u8 x, .int .u8 y, .int .u8 z] 5)).drew) := by
  subst hx hy hz
  have e1 : (UInt8.ofNat m).toNat = m := by simp; omega
  have e2 : (UInt8.ofNat n).toNat = n := by simp; omega
  have e3 : (UInt8.ofNat l).toNat = l := by simp; omega
  have h5 := conv_own (w := (w.alloc (.cells (bV [UInt8.ofNat m, UInt8.ofNat n, UInt8.ofNat l]).toArray 5)).drew) (own_new w [UInt8.ofNat m, UInt8.ofNat n, UInt8.ofNat l] 0 (Nat.zero_le _) (by simp))
  simpa [bV, e1, e2, e3] using h5
theorem neqTok (w : World) (kd : Int) (tt : ByteArray) (pl : Int) : Sem.run Try.prog (binOp .neq 33 (.agg #[.int .i64 kd, .string tt, .int .i64 pl]) (.agg #[.int .i64 kd, .string tt, .int .i64 pl])) w = .ok (.bool false) w := by
  have u9 := Try.underlying9
  have a9 := Try.isAgg9
  have z9 := Try.sizeOf9
  have u3 := Try.underlying3
  have a3 := Try.isAgg3
  have z3 := Try.sizeOf3
  have hS : Try.prog.underlying 33 = some (.struct (Try.prog.fieldsOf 33)) := by kernel_rfl
  have hp : Try.prog.stoodInHeld 33 = false := by kernel_rfl
  rw [run_neq_struct, show (10000 : Nat) = 9999 + 1 from rfl, run_equalIn_agg w 9999 33 _ _ hS hp]
  simp only [Program.fieldsOf, Try.underlying33]
  go_simp
  try simp
theorem own_toks {w : World} {B : Nat} {v : Value} {toks : List TokB} (hown : OwnR tokV 3 w B 33 v toks) : ∃ A c, v = .slice A toks.length c ∧ toks.length ≤ c ∧ Hid (ToksP w A toks) := by
  rcases Nat.eq_zero_or_pos toks.length with h0 | h0
  · obtain ⟨A, cap, rfl, hc, _⟩ := hown.open tokV_len
    exact ⟨A, cap, rfl, hc, Lib.hid (fun h => by omega)⟩
  · obtain ⟨g, cap, rfl, hB, hlt, hc, hcell⟩ := hown.at_ tokV_len h0
    refine ⟨_, cap, rfl, hc, Lib.hid (fun _ => ⟨g, rfl, hlt, fun j hj => ?_⟩)⟩
    have hj1 : toks[j]? = some (toks.getD j tnil) := by
      rw [List.getD_eq_getElem?_getD, List.getElem?_eq_getElem hj]
      rfl
    exact ⟨hcell j 0 _ hj1 (by decide), hcell j 1 _ hj1 (by decide), hcell j 2 _ hj1 (by decide)⟩
/-- where a word is put to the others -/
structure Sofar (s : ByteArray) (toks : List TokB) (j : Nat) : Prop where
  sent : Sent s toks
  size : s.size ≤ 15 * j
  len : toks.length = j
theorem Sofar.more {s : ByteArray} {toks : List TokB} {j : Nat} (h : Sofar s toks j) {kd : Int} {tt bs : ByteArray} (hw : WordA kd tt bs) : Sofar (s ++ bs ++ (⟨#[32]⟩ : ByteArray)) (toks ++ [⟨kd, tt, s.size⟩]) (j + 1) :=
  ⟨h.sent.more hw, by rw [ByteArray.size_append, ByteArray.size_append]; have := hw.size; have := h.size; show _ + _ + 1 ≤ _; omega, by rw [List.length_append, h.len]; rfl⟩
theorem conv_q (w : World) (x : Nat) (hx : x < 256) : (convert 22 9 (.slice (some ⟨w.heap.size, 0, none⟩) 3 3)).run Try.prog (w.alloc (.cells #[.int .u8 (x : Int), .int .u8 34, .int .u8 120] 5)) = .ok (.string ⟨#[UInt8.ofNat x, 34, 120]⟩) (w.alloc (.cells #[.int .u8 (x : Int), .int .u8 34, .int .u8 120] 5)) := by
  have h2 : (UInt8.ofNat x).toNat = x := by simp; omega
  have h5 := conv_own (w := w.alloc (.cells (bV [UInt8.ofNat x, 34, 120]).toArray 5)) (own_new w [UInt8.ofNat x, 34, 120] 0 (Nat.zero_le _) (by simp))
  simpa [bV, h2] using h5
set_option maxRecDepth 100000 in
set_option maxHeartbeats 1600000 in
theorem lexApart_walk {W : World} (A : Option Addr) (len c : Nat) (zs : List Int) (h1 : Ints .u8 W A len zs) (hnc : len ≤ c) (hcm : c ≤ maxLen) :
    Calls Try.prog 5 #[.slice A len c] W fun e w' => e = .returned (.bool true) ∧ Below W.heap.size W w' := by
  have h0 : W.heap.size ≤ W.heap.size := Nat.le_refl _
  unfold maxLen at hcm
  obtain ⟨i0, hi, hz0, hz1, hz2⟩ := info_parts infoTok
  have HX := Lib.hid (lexExamples_any W)
  have HI := Lib.hid h1
  have PUT := Lib.hid (fun s hs w => put_any s hs w)
  clear h1
  go_enter Try.func5, Try.ntmps5
  go_wp2_with fail
  refine HX.out.mono ?_
  rintro e w1 ⟨rfl, hb⟩
  go_wp2_with fail
  refine (ops_any _).mono ?_
  rintro e w2 ⟨rfl, hw2⟩
  have hT : Texts w2 (some ⟨w1.heap.size, 0, none⟩) 15 opsT := by rw [hw2]; exact texts_lit w1 opsT w1.heap.size rfl
  have hb2 : Below W.heap.size W w2 := by rw [hw2]; exact hb.alloc hb.size _
  obtain ⟨go, hgo⟩ : ∃ g, w1.heap.size = g := ⟨_, rfl⟩
  rw [hgo] at hT ⊢
  have hgoB : W.heap.size ≤ go := by rw [← hgo]; exact hb.size
  have HT := Lib.hid hT
  have HB2 := Lib.hid hb2
  clear hb hw2 hT hb2 hgo HX
  go_wp2
  go_loopw [4, 5, 7] (fun sv wv iv wr => ∃ (j : Nat) (s : ByteArray) (toks : List TokB), j ≤ len ∧ j ≤ 20 ∧ iv = .int .i64 j ∧ sv = .string s ∧ Hid (Sofar s toks j) ∧ OwnR tokV 3 wr w2.heap.size 33 wv toks ∧ Below w2.heap.size w2 wr) (fun _ _ iv _ => 20 - (intOf iv).toNat)
  case atStart => exact ⟨0, ⟨#[]⟩, [], Nat.zero_le _, Nat.zero_le _, rfl, rfl, Lib.hid ⟨sent_nil, Nat.zero_le _, rfl⟩, OwnR.nil _ _ _, Below.refl _ _⟩
  case round =>
    obtain ⟨j, s, toks, hjl, hj20, rfl, rfl, HS, hown, hb⟩ := hrel
    have hss := HS.out.size
    have htl : toks.length ≤ 20 := by rw [HS.out.len]; exact hj20
    have hsz := hb.size
    by_cases hgo : j < len ∧ j < 20
    · obtain ⟨g1, g2⟩ := hgo
      have hbW := hop HB2.out h0 hb
      have hzz := HI.out.below hbW
      obtain ⟨bb, off, rfl, hlt, hc⟩ := hzz.2.2 (by omega)
      have c0 := hc j g1
      have hwf := hzz.2.1 (zs.getD j 0) (by
        rw [List.getD_eq_getElem?_getD, List.getElem?_eq_getElem (by rw [hzz.1]; exact g1)]
        exact List.getElem_mem _)
      obtain ⟨x0, x1⟩ := bdu8 hwf
      obtain ⟨q, hq⟩ : ∃ x : Nat, zs.getD j 0 = (x : Int) := ⟨(zs.getD j 0).toNat, by omega⟩
      rw [hq] at c0 x1
      have nI : (j : Int) < (len : Int) := by omega
      have n20 : (j : Int) < 20 := by omega
      obtain ⟨gT, oT, eT, hltT, hcT⟩ := (HT.out.below hb).2 (by decide)
      injection eT with eT
      injection eT with e1 e2
      subst e1 e2
      clear hc hzz hwf hq
      rcases (by omega : q % 4 = 0 ∨ q % 4 = 1 ∨ q % 4 = 2 ∨ q % 4 = 3) with hk | hk | hk | hk
      · have m1 : (q : Int) % 4 = 0 := by omega
        obtain ⟨i, hi1, hi15⟩ : ∃ i, q / 4 % 15 = i ∧ i < 15 := ⟨_, rfl, by omega⟩
        have m2 : (q : Int) / 4 % 15 = (i : Int) := by omega
        have iI : (i : Int) < 15 := by omega
        have ct := hcT i hi15
        rw [Nat.zero_add] at ct
        have hw := wordA_op (opsT.getD i .empty) (by rw [List.getD_eq_getElem?_getD, List.getElem?_eq_getElem hi15]; exact List.getElem_mem _)
        obtain ⟨o, ho⟩ : ∃ o, opsT.getD i .empty = o := ⟨_, rfl⟩
        rw [ho] at ct hw
        have HW := Lib.hid hw
        clear hk hi1 hcT hw ho
        go_upto_region 31 with (fail)
        obtain ⟨w9, hw9⟩ : ∃ w, wr.alloc (Obj.cells #[Value.int IntKind.i64 4, Value.string o, Value.int IntKind.i64 (s.size : Int)] 33) = w := ⟨_, rfl⟩
        have B9 : Blk w9 wr.heap.size 33 #[.int .i64 4, .string o, .int .i64 (s.size : Int)] := by rw [← hw9]; exact Blk.new wr _ _
        have b9 : Below wr.heap.size wr w9 := by rw [← hw9]; exact (Below.refl _ _).alloc (Nat.le_refl _) _
        rw [hw9]
        have hbs := HW.out.size
        have HS2 := Lib.hid (HS.out.more HW.out)
        have q0 := (B9.cell 0).trans (rfl : _ = some (Value.int .i64 4))
        have q1 := (B9.cell 1).trans (rfl : _ = some (Value.string o))
        have q2 := (B9.cell 2).trans (rfl : _ = some (Value.int .i64 (s.size : Int)))
        have o9 := hown.below b9
        have hb9 := hop hb (Nat.le_refl _) b9
        have hs9 := hb9.size
        have s1 : ¬ 9223372036854775807 < s.size + (o).size := by omega
        have s2 : ¬ 9223372036854775807 < (s ++ (o)).size + (⟨#[32]⟩ : ByteArray).size := by rw [ByteArray.size_append]; show ¬ 9223372036854775807 < _ + _ + 1; omega
        clear hw9 B9 b9 hown hb
        go_wp2_with (at_builtin; refine wpList_append_own _ rfl (.tmp 107) (.tmp 109) 25 rfl w2.heap.size 33 i0 (.agg #[.int .i64 0, .string ⟨#[]⟩, .int .i64 0]) 3 32 Try.underlying25 hi hz0 hz1 hz2 rfl (by decide) _ _ _ rfl (o9.alloc _) ⟨w9.heap.size, 0, none⟩ 1 1 (tokV ⟨4, o, s.size⟩) rfl rfl (new_cells_at _ _ _ _ (by simp)) (tokV_one _) (by unfold maxLen; omega) (by omega) (by simp; omega) ?_)
        intro v' w10 hown' hgrow _
        have hb10 := (hb9.alloc hs9 _).grown hgrow (by simp; omega) (fun r hr => (World.ownsRow.lt o9 r hr).1)
        have hown10 := OwnR.snoc (a := (⟨4, o, s.size⟩ : TokB)) hown'
        have HO10 := Lib.hid hown10
        have HB10 := Lib.hid hb10
        clear hown' hgrow hown10 hb10 o9 hb9
        go_wp2
        go_round
        case rel => exact ⟨j + 1, _, _, by omega, by omega, by go_num, rfl, HS2, HO10.out, HB10.out⟩
        case measure => simp [intOf]; omega
      · have m1 : (q : Int) % 4 = 1 := by omega
        have hcv := conv_q (wr.alloc (.cells #[.int .i64 2, .string ⟨#[]⟩, .int .i64 (s.size : Int)] 33)) q (by omega)
        rw [show (wr.alloc (.cells #[.int .i64 2, .string ⟨#[]⟩, .int .i64 (s.size : Int)] 33)).heap.size = wr.heap.size + 1 by simp] at hcv
        obtain ⟨tt, htt⟩ : ∃ y, (⟨#[UInt8.ofNat q, 34, 120]⟩ : ByteArray) = y := ⟨_, rfl⟩
        rw [htt] at hcv
        have htz : tt.size = 3 := by rw [← htt]; rfl
        have PT := fun w => PUT.out tt (by omega) w
        have hw := wordA_text tt (by omega)
        obtain ⟨bs, hbs0⟩ : ∃ y, (⟨(putB tt.data.toList).toArray⟩ : ByteArray) = y := ⟨_, rfl⟩
        rw [hbs0] at hw
        simp only [hbs0] at PT
        replace PT := Lib.hid PT
        have HW := Lib.hid hw
        clear hk htt hbs0 hw hcT htz
        go_wp2_with fail
        have b8 : Below wr.heap.size wr ((wr.alloc (Obj.cells #[Value.int IntKind.i64 2, Value.string tt, Value.int IntKind.i64 (s.size : Int)] 33)).alloc (Obj.cells #[Value.int IntKind.u8 (q : Int), Value.int IntKind.u8 34, Value.int IntKind.u8 120] 5)) := ((Below.refl _ _).alloc (Nat.le_refl _) _).alloc (by simp) _
        have B8 := (Blk.new wr 33 #[Value.int IntKind.i64 2, Value.string tt, Value.int IntKind.i64 (s.size : Int)]).alloc (Obj.cells #[Value.int IntKind.u8 (q : Int), Value.int IntKind.u8 34, Value.int IntKind.u8 120] 5)
        refine (PT.out _).mono ?_
        rintro e w8 ⟨rfl, hx⟩
        have B8' := B8.below hx B8.lt
        have b8' := hop b8 (Nat.le_refl _) hx
        have HB8 := Lib.hid B8'
        have Hb8 := Lib.hid b8'
        have k0 := (B8'.cell 0).trans (rfl : _ = some (Value.int .i64 2))
        clear b8 B8 hx B8' b8'
        go_upto_region 31 with (fail)
        obtain ⟨w9, hw9⟩ : ∃ w, w8 = w := ⟨_, rfl⟩
        have B9 : Blk w9 wr.heap.size 33 #[.int .i64 2, .string tt, .int .i64 (s.size : Int)] := by rw [← hw9]; exact HB8.out
        have b9 : Below wr.heap.size wr w9 := by rw [← hw9]; exact Hb8.out
        rw [hw9]
        have hbs := HW.out.size
        have HS2 := Lib.hid (HS.out.more HW.out)
        have q0 := (B9.cell 0).trans (rfl : _ = some (Value.int .i64 2))
        have q1 := (B9.cell 1).trans (rfl : _ = some (Value.string tt))
        have q2 := (B9.cell 2).trans (rfl : _ = some (Value.int .i64 (s.size : Int)))
        have o9 := hown.below b9
        have hb9 := hop hb (Nat.le_refl _) b9
        have hs9 := hb9.size
        have s1 : ¬ 9223372036854775807 < s.size + (bs).size := by omega
        have s2 : ¬ 9223372036854775807 < (s ++ (bs)).size + (⟨#[32]⟩ : ByteArray).size := by rw [ByteArray.size_append]; show ¬ 9223372036854775807 < _ + _ + 1; omega
        clear hw9 B9 b9 hown hb
        go_wp2_with (at_builtin; refine wpList_append_own _ rfl (.tmp 107) (.tmp 109) 25 rfl w2.heap.size 33 i0 (.agg #[.int .i64 0, .string ⟨#[]⟩, .int .i64 0]) 3 32 Try.underlying25 hi hz0 hz1 hz2 rfl (by decide) _ _ _ rfl (o9.alloc _) ⟨w9.heap.size, 0, none⟩ 1 1 (tokV ⟨2, tt, s.size⟩) rfl rfl (new_cells_at _ _ _ _ (by simp)) (tokV_one _) (by unfold maxLen; omega) (by omega) (by simp; omega) ?_)
        intro v' w10 hown' hgrow _
        have hb10 := (hb9.alloc hs9 _).grown hgrow (by simp; omega) (fun r hr => (World.ownsRow.lt o9 r hr).1)
        have hown10 := OwnR.snoc (a := (⟨2, tt, s.size⟩ : TokB)) hown'
        have HO10 := Lib.hid hown10
        have HB10 := Lib.hid hb10
        clear hown' hgrow hown10 hb10 o9 hb9
        go_wp2
        go_round
        case rel => exact ⟨j + 1, _, _, by omega, by omega, by go_num, rfl, HS2, HO10.out, HB10.out⟩
        case measure => simp [intOf]; omega
      · have m1 : (q : Int) % 4 = 2 := by omega
        obtain ⟨a, ha⟩ : ∃ a, q % 26 = a := ⟨_, rfl⟩
        obtain ⟨d, hd⟩ : ∃ a, q % 10 = a := ⟨_, rfl⟩
        have ha26 : a < 26 := by omega
        have hd10 : d < 10 := by omega
        have t1 : (q : Int).tmod 26 = (a : Int) := by rw [Int.tmod_eq_emod_of_nonneg (by omega)]; omega
        have t2 : (q : Int).tmod 10 = (d : Int) := by rw [Int.tmod_eq_emod_of_nonneg (by omega)]; omega
        have u1 : IntKind.u8.wrap (a : Int) = (a : Int) := by rw [IntKind.wrap_u8]; omega
        have u2 : IntKind.u8.wrap (d : Int) = (d : Int) := by rw [IntKind.wrap_u8]; omega
        have u3 : IntKind.u8.wrap (97 + (a : Int)) = 97 + (a : Int) := by rw [IntKind.wrap_u8]; omega
        have u4 : IntKind.u8.wrap (48 + (d : Int)) = 48 + (d : Int) := by rw [IntKind.wrap_u8]; omega
        clear hk ha hd
        go_wp2_with fail
        obtain ⟨w0, hw0⟩ : ∃ w, wr.alloc (Obj.cells #[Value.int IntKind.i64 1, Value.string ⟨#[]⟩, Value.int IntKind.i64 (s.size : Int)] 33) = w := ⟨_, rfl⟩
        have B0 : Blk w0 wr.heap.size 33 #[.int .i64 1, .string ⟨#[]⟩, .int .i64 (s.size : Int)] := by rw [← hw0]; exact Blk.new wr _ _
        have z0 : w0.heap.size = wr.heap.size + 1 := by rw [← hw0]; simp
        have b0 : Below wr.heap.size wr w0 := by rw [← hw0]; exact (Below.refl _ _).alloc (Nat.le_refl _) _
        have c1 : w0.cell? ⟨bb, off + j, none⟩ = some (.int .u8 (q : Int)) := (b0.cell (p := ⟨bb, off + j, none⟩) hlt).trans c0
        have hcv := conv_drew3 w0 (97 + (a : Int)) 95 (48 + (d : Int)) (97 + a) 95 (48 + d) (by omega) rfl (by omega) (by omega) (by decide) (by omega)
        rw [z0] at hcv
        rw [hw0]
        have B0f := B0.frozen 1
        have B0c := (B0.cell 1).trans (rfl : _ = some (Value.string ⟨#[]⟩))
        have hw := wordA_name a d ha26 hd10
        have hnm : nameT a d = (⟨#[110]⟩ : ByteArray) ++ (⟨#[UInt8.ofNat (97 + a), UInt8.ofNat 95, UInt8.ofNat (48 + d)]⟩ : ByteArray) := rfl
        rw [hnm] at hw
        obtain ⟨y, hy⟩ : ∃ y, (⟨#[UInt8.ofNat (97 + a), UInt8.ofNat 95, UInt8.ofNat (48 + d)]⟩ : ByteArray) = y := ⟨_, rfl⟩
        have hys : y.size = 3 := by rw [← hy]; rfl
        rw [hy] at hcv hw
        have HW := Lib.hid hw
        have s1 : (⟨#[110]⟩ : ByteArray).size + y.size ≤ 400 := by show 1 + _ ≤ 400; omega
        have s0 : ¬ 9223372036854775807 < 1 + y.size := by omega
        have HB0 := Lib.hid B0
        have Hb0 := Lib.hid b0
        clear hw0 B0 b0 c0 hnm hy hw hys hcT
        go_region_law (fail)
        all_goals
          go_upto_region 31 with (fail)
          obtain ⟨w9, hw9⟩ : ∃ w, ((w0.setCell ⟨wr.heap.size, 1, none⟩ (Value.string ((⟨#[110]⟩ : ByteArray) ++ y))).alloc (Obj.cells #[Value.int IntKind.u8 (97 + (a : Int)), Value.int IntKind.u8 95, Value.int IntKind.u8 (48 + (d : Int))] 5)).drew = w := ⟨_, rfl⟩
          have B9 : Blk w9 wr.heap.size 33 #[.int .i64 1, .string ((⟨#[110]⟩ : ByteArray) ++ y), .int .i64 (s.size : Int)] := by rw [← hw9]; exact ((HB0.out.set_ 1 _).alloc _).drew
          have b9 : Below wr.heap.size wr w9 := by rw [← hw9]; exact below_drewN ((Hb0.out.setCell (p := ⟨wr.heap.size, 1, none⟩) (Nat.le_refl _) _).alloc (by simp [World.setCell]; have := Hb0.out.size; omega) _) 1
          rw [hw9]
          have hbs := HW.out.size
          have HS2 := Lib.hid (HS.out.more HW.out)
          have q0 := (B9.cell 0).trans (rfl : _ = some (Value.int .i64 1))
          have q1 := (B9.cell 1).trans (rfl : _ = some (Value.string ((⟨#[110]⟩ : ByteArray) ++ y)))
          have q2 := (B9.cell 2).trans (rfl : _ = some (Value.int .i64 (s.size : Int)))
          have o9 := hown.below b9
          have hb9 := hop hb (Nat.le_refl _) b9
          have hs9 := hb9.size
          have s1 : ¬ 9223372036854775807 < s.size + (((⟨#[110]⟩ : ByteArray) ++ y)).size := by omega
          have s2 : ¬ 9223372036854775807 < (s ++ (((⟨#[110]⟩ : ByteArray) ++ y))).size + (⟨#[32]⟩ : ByteArray).size := by rw [ByteArray.size_append]; show ¬ 9223372036854775807 < _ + _ + 1; omega
          clear hw9 B9 b9 hown hb
          go_wp2_with (at_builtin; refine wpList_append_own _ rfl (.tmp 107) (.tmp 109) 25 rfl w2.heap.size 33 i0 (.agg #[.int .i64 0, .string ⟨#[]⟩, .int .i64 0]) 3 32 Try.underlying25 hi hz0 hz1 hz2 rfl (by decide) _ _ _ rfl (o9.alloc _) ⟨w9.heap.size, 0, none⟩ 1 1 (tokV ⟨1, ((⟨#[110]⟩ : ByteArray) ++ y), s.size⟩) rfl rfl (new_cells_at _ _ _ _ (by simp)) (tokV_one _) (by unfold maxLen; omega) (by omega) (by simp; omega) ?_)
          intro v' w10 hown' hgrow _
          have hb10 := (hb9.alloc hs9 _).grown hgrow (by simp; omega) (fun r hr => (World.ownsRow.lt o9 r hr).1)
          have hown10 := OwnR.snoc (a := (⟨1, ((⟨#[110]⟩ : ByteArray) ++ y), s.size⟩ : TokB)) hown'
          have HO10 := Lib.hid hown10
          have HB10 := Lib.hid hb10
          clear hown' hgrow hown10 hb10 o9 hb9
          go_wp2
          go_round
          case rel => exact ⟨j + 1, _, _, by omega, by omega, by go_num, rfl, HS2, HO10.out, HB10.out⟩
          case measure => simp [intOf]; omega
      · have m1 : (q : Int) % 4 = 3 := by omega
        obtain ⟨a, ha⟩ : ∃ a, q % 26 = a := ⟨_, rfl⟩
        obtain ⟨d, hd⟩ : ∃ a, q % 10 = a := ⟨_, rfl⟩
        have ha26 : a < 26 := by omega
        have hd10 : d < 10 := by omega
        have t1 : (q : Int).tmod 26 = (a : Int) := by rw [Int.tmod_eq_emod_of_nonneg (by omega)]; omega
        have t2 : (q : Int).tmod 10 = (d : Int) := by rw [Int.tmod_eq_emod_of_nonneg (by omega)]; omega
        have u1 : IntKind.u8.wrap (a : Int) = (a : Int) := by rw [IntKind.wrap_u8]; omega
        have u2 : IntKind.u8.wrap (d : Int) = (d : Int) := by rw [IntKind.wrap_u8]; omega
        have u3 : IntKind.u8.wrap (97 + (a : Int)) = 97 + (a : Int) := by rw [IntKind.wrap_u8]; omega
        have u4 : IntKind.u8.wrap (48 + (d : Int)) = 48 + (d : Int) := by rw [IntKind.wrap_u8]; omega
        clear hk ha hd
        go_wp2_with fail
        obtain ⟨w0, hw0⟩ : ∃ w, wr.alloc (Obj.cells #[Value.int IntKind.i64 3, Value.string ⟨#[]⟩, Value.int IntKind.i64 (s.size : Int)] 33) = w := ⟨_, rfl⟩
        have B0 : Blk w0 wr.heap.size 33 #[.int .i64 3, .string ⟨#[]⟩, .int .i64 (s.size : Int)] := by rw [← hw0]; exact Blk.new wr _ _
        have z0 : w0.heap.size = wr.heap.size + 1 := by rw [← hw0]; simp
        have b0 : Below wr.heap.size wr w0 := by rw [← hw0]; exact (Below.refl _ _).alloc (Nat.le_refl _) _
        have c1 : w0.cell? ⟨bb, off + j, none⟩ = some (.int .u8 (q : Int)) := (b0.cell (p := ⟨bb, off + j, none⟩) hlt).trans c0
        have hcv := conv_drew3 w0 (48 + (d : Int)) (97 + (a : Int)) 90 (48 + d) (97 + a) 90 (by omega) (by omega) rfl (by omega) (by omega) (by decide)
        rw [z0] at hcv
        rw [hw0]
        have B0f := B0.frozen 1
        have B0c := (B0.cell 1).trans (rfl : _ = some (Value.string ⟨#[]⟩))
        have hw := wordA_val d a ha26 hd10
        have hnm : valT d a = (⟨#[UInt8.ofNat (48 + d), UInt8.ofNat (97 + a), UInt8.ofNat 90]⟩ : ByteArray) := rfl
        rw [hnm] at hw
        obtain ⟨y, hy⟩ : ∃ y, (⟨#[UInt8.ofNat (48 + d), UInt8.ofNat (97 + a), UInt8.ofNat 90]⟩ : ByteArray) = y := ⟨_, rfl⟩
        have hys : y.size = 3 := by rw [← hy]; rfl
        rw [hy] at hcv hw
        have HW := Lib.hid hw
        have HB0 := Lib.hid B0
        have Hb0 := Lib.hid b0
        clear hw0 B0 b0 c0 hnm hy hw hys hcT
        go_region_law (fail)
        all_goals
          go_upto_region 31 with (fail)
          obtain ⟨w9, hw9⟩ : ∃ w, ((w0.setCell ⟨wr.heap.size, 1, none⟩ (Value.string y)).alloc (Obj.cells #[Value.int IntKind.u8 (48 + (d : Int)), Value.int IntKind.u8 (97 + (a : Int)), Value.int IntKind.u8 90] 5)).drew = w := ⟨_, rfl⟩
          have B9 : Blk w9 wr.heap.size 33 #[.int .i64 3, .string y, .int .i64 (s.size : Int)] := by rw [← hw9]; exact ((HB0.out.set_ 1 _).alloc _).drew
          have b9 : Below wr.heap.size wr w9 := by rw [← hw9]; exact below_drewN ((Hb0.out.setCell (p := ⟨wr.heap.size, 1, none⟩) (Nat.le_refl _) _).alloc (by simp [World.setCell]; have := Hb0.out.size; omega) _) 1
          rw [hw9]
          have hbs := HW.out.size
          have HS2 := Lib.hid (HS.out.more HW.out)
          have q0 := (B9.cell 0).trans (rfl : _ = some (Value.int .i64 3))
          have q1 := (B9.cell 1).trans (rfl : _ = some (Value.string y))
          have q2 := (B9.cell 2).trans (rfl : _ = some (Value.int .i64 (s.size : Int)))
          have o9 := hown.below b9
          have hb9 := hop hb (Nat.le_refl _) b9
          have hs9 := hb9.size
          have s1 : ¬ 9223372036854775807 < s.size + (y).size := by omega
          have s2 : ¬ 9223372036854775807 < (s ++ (y)).size + (⟨#[32]⟩ : ByteArray).size := by rw [ByteArray.size_append]; show ¬ 9223372036854775807 < _ + _ + 1; omega
          clear hw9 B9 b9 hown hb
          go_wp2_with (at_builtin; refine wpList_append_own _ rfl (.tmp 107) (.tmp 109) 25 rfl w2.heap.size 33 i0 (.agg #[.int .i64 0, .string ⟨#[]⟩, .int .i64 0]) 3 32 Try.underlying25 hi hz0 hz1 hz2 rfl (by decide) _ _ _ rfl (o9.alloc _) ⟨w9.heap.size, 0, none⟩ 1 1 (tokV ⟨3, y, s.size⟩) rfl rfl (new_cells_at _ _ _ _ (by simp)) (tokV_one _) (by unfold maxLen; omega) (by omega) (by simp; omega) ?_)
          intro v' w10 hown' hgrow _
          have hb10 := (hb9.alloc hs9 _).grown hgrow (by simp; omega) (fun r hr => (World.ownsRow.lt o9 r hr).1)
          have hown10 := OwnR.snoc (a := (⟨3, y, s.size⟩ : TokB)) hown'
          have HO10 := Lib.hid hown10
          have HB10 := Lib.hid hb10
          clear hown' hgrow hown10 hb10 o9 hb9
          go_wp2
          go_round
          case rel => exact ⟨j + 1, _, _, by omega, by omega, by go_num, rfl, HS2, HO10.out, HB10.out⟩
          case measure => simp [intOf]; omega
    · have hends : (¬ (j : Int) < (len : Int)) ∨ ((j : Int) < (len : Int) ∧ ¬ (j : Int) < 20) := by omega
      obtain ⟨Aw, cw, rfl, hcw, HTW⟩ := own_toks hown
      have A2 := fun w => all_toks s toks s.size 0 (sent_all HS.out.sent (by omega)) w
      obtain ⟨m, hm⟩ : ∃ m, toks.length = m := ⟨_, rfl⟩
      have HM := Lib.hid hm
      simp only [hm] at A2 hcw htl ⊢
      replace A2 := Lib.hid A2
      have HB3 := Lib.hid (hop HB2.out h0 hb)
      clear hgo hown hm hb
      rcases hends with e1 | ⟨e1, e2⟩
      all_goals
        go_wp2_with fail
        refine (A2.out _).mono ?_
        rintro e w4 ⟨Ag, cg, rfl, hcg, HTG, hx⟩
        have HTW2 := Lib.hid (HTW.out.below hx)
        have HB4 := Lib.hid (hop HB3.out h0 hx)
        clear hx
        go_wp2
        go_loopw [14] (fun iv wq => ∃ i : Nat, i ≤ m ∧ iv = .int .i64 i ∧ ∃ q, wq = w4.drewN q) (fun iv _ => m - (intOf iv).toNat)
        case atStart => exact ⟨0, Nat.zero_le _, rfl, 0, rfl⟩
        case round =>
          obtain ⟨i, him, rfl, q, rfl⟩ := hrel
          by_cases hilt : i < m
          · have hiI : (i : Int) < (m : Int) := by omega
            have hl := HM.out
            obtain ⟨g1, ee1, lt1, hc1⟩ := HTG.out (by omega)
            obtain ⟨g2, ee2, lt2, hc2⟩ := HTW2.out (by omega)
            subst ee1 ee2
            obtain ⟨a0, a1, a2⟩ := hc1 i (by omega)
            obtain ⟨b0, b1, b2⟩ := hc2 i (by omega)
            obtain ⟨⟨kd, tt, pl⟩, hp⟩ : ∃ x, toks.getD i tnil = x := ⟨_, rfl⟩
            rw [hp] at a0 a1 a2 b0 b1 b2
            dsimp only at a0 a1 a2 b0 b1 b2
            have hne := fun w => neqTok w kd tt (pl : Int)
            clear hc1 hc2 hp hl
            go_wp2
            go_quiet (fail)
            go_wp2
            go_round
            case rel => exact ⟨i + 1, by omega, by go_num, _, rfl⟩
            case measure => simp [intOf]; omega
          · obtain rfl : i = m := by omega
            go_wp2
            go_ret
            exact ⟨by first | rfl | (simp; done), below_drewN HB4.out q⟩
end Go.Proofs.Ytnhbahfpinijiaa
