/- The walk of the law LogfmtSpaces. -/
import Derived.Test.YtimmfmgnjpcdoaaLogExam
import Derived.Test.YtimmfmgnjpcdoaaLogSpacesMath
import Derived.Test.YtimmfmgnjpcdoaaLabOrderLaw
namespace Go.Proofs.Ytimmfmgnjpcdoaa
open Go.RowKit
set_option linter.unusedVariables false
set_option linter.unusedSimpArgs false

structure One8 (w : World) (g n : Nat) : Prop where
  blk : Blk w g 5 #[.int .u8 (n : Int)]
theorem One8.below {w w' : World} {g n : Nat} (h : One8 w g n) (hb : Below w.heap.size w w') : One8 w' g n := ⟨h.blk.below hb h.blk.lt⟩
theorem One8.conv {w : World} {g n : Nat} (h : One8 w g n) (hn : n < 256) : (convert 22 9 (.slice (some ⟨g, 0, none⟩) 1 1)).run Try.prog w = .ok (.string ⟨#[UInt8.ofNat n]⟩) w := by
  have h2 : (UInt8.ofNat n).toNat = n := by simp; omega
  have ho : OwnB w 0 5 (.slice (some ⟨g, 0, none⟩) 1 1) [UInt8.ofNat n] := by
    refine ⟨by simp [bV], .inr ⟨g, 1, _, rfl, Nat.zero_le _, h.blk, Nat.le_refl _, by decide, rfl, by simp [bV, h2]⟩⟩
  exact conv_own ho
theorem one8_new (w : World) (n : Nat) (hn : n < 256) : (convert 22 9 (.slice (some ⟨w.heap.size, 0, none⟩) 1 1)).run Try.prog (w.alloc (.cells #[.int .u8 (n : Int)] 5)) = .ok (.string ⟨#[UInt8.ofNat n]⟩) (w.alloc (.cells #[.int .u8 (n : Int)] 5)) :=
  One8.conv ⟨Blk.new _ _ _⟩ hn
set_option maxRecDepth 100000 in
set_option maxHeartbeats 3200000 in
theorem logfmtSpaces_walk {W : World} (A : Option Addr) (n c : Nat) (x : List TagB) (tm : Int)
    (hx : TagsP W A n x) (ux : bulkG x ≤ 1048576) (hnc : n ≤ c) (hcm : c ≤ maxLen) (wt : (Lit.int .u8 tm).wf = true) :
    Calls Try.prog 5 #[.slice A n c, .int .u8 tm] W fun e w' => e = .returned (.bool true) ∧ Below W.heap.size W w' := by
  have h0 : W.heap.size ≤ W.heap.size := Nat.le_refl _
  obtain ⟨b0, b1⟩ := bdu8 wt
  unfold maxLen at hcm
  obtain ⟨m, hm⟩ : ∃ m : Nat, (m : Int) = tm % 6 := ⟨(tm % 6).toNat, by omega⟩
  have hm6 : m ≤ 5 := by omega
  have hmI : tm % 6 = (m : Int) := hm.symm
  have hmT : tm.tmod 6 = (m : Int) := by rw [Int.tmod_eq_emod_of_nonneg (by omega)]; exact hmI
  have hmW : IntKind.u8.wrap (m : Int) = (m : Int) := by rw [IntKind.wrap_u8]; omega
  have hmV : IntKind.i64.wrap (m : Int) = (m : Int) := by rw [IntKind.wrap_i64]; omega
  have HX := Lib.hid (logExamples_any W)
  have TX := Lib.hid (fun w h => tags_some A n c 12 12 rfl x (by omega) (by omega) w h)
  have lx := tagsL_len x 12
  have HX1 := Lib.hid hx
  clear hx hm wt
  go_enter Try.func5, Try.ntmps5
  go_wp2_with fail
  refine HX.out.mono ?_
  rintro e w ⟨rfl, hb0⟩
  have HB0 := Lib.hid hb0
  have HX2 := Lib.hid (HX1.out.below hb0)
  clear hb0 HX HX1
  go_wp2_with fail
  refine (TX.out _ HX2.out).mono ?_
  rintro e w1 ⟨B1, n1, k1, rfl, hp, hx⟩
  have HB1 := Lib.hid (hop HB0.out (Nat.le_refl _) hx)
  have hn1 : n1 ≤ 12 := by have := hp.out.1; omega
  have OL := Lib.hid (of_big B1 n1 k1 (tagsL x 12) (by omega) (Nat.le_trans (List.length_filter_le _ _) (by omega)) w1 hp.out)
  clear hx HB0 HX2 TX
  go_wp2_with fail
  refine OL.out.mono ?_
  rintro e w2 ⟨v, rfl, hown, hx⟩
  obtain ⟨A2, n2, k2, rfl, hn2, hq2, hp2⟩ := OwnP.capL hown
  have HB2 := Lib.hid (hop HB1.out (Nat.le_refl _) hx)
  have HP2 := Lib.hid hp2
  clear hx hown hp2 OL hp HB1
  go_wp2
  go_loopw [7, 8] (fun sv iv wr => ∃ (i : Nat) (t : ByteArray), i ≤ m ∧ iv = .int .i64 i ∧ sv = .string t ∧ t.data.toList = padL i ∧ Hid (Below w2.heap.size w2 wr)) (fun _ iv _ => m - (intOf iv).toNat)
  case atStart => exact ⟨0, ⟨#[]⟩, Nat.zero_le _, rfl, rfl, rfl, Lib.hid (Below.refl _ _)⟩
  case round =>
    obtain ⟨i, t, him, rfl, rfl, hts, HB⟩ := hrel
    by_cases hi : i < m
    · have hiI : (i : Int) < (m : Int) := by omega
      have hi3 : (i : Int).tmod 3 = ((i % 3 : Nat) : Int) := by rw [Int.tmod_eq_emod_of_nonneg (by omega)]; omega
      have htz : t.size = i := by
        have e := congrArg List.length hts
        rw [padL_len] at e
        exact e
      have hlt : i % 3 < (⟨#[32, 9, 10]⟩ : ByteArray).size := by
        have e : (⟨#[32, 9, 10]⟩ : ByteArray).size = 3 := rfl
        omega
      have CV := one8_new wr ((⟨#[32, 9, 10]⟩ : ByteArray)[i % 3]'hlt).toNat (UInt8.toNat_lt _)
      have hyb : UInt8.ofNat ((⟨#[32, 9, 10]⟩ : ByteArray)[i % 3]'hlt).toNat = [32, 9, 10].getD (i % 3) 32 := by
        rw [UInt8.ofNat_toNat]
        have h3 : i % 3 = 0 ∨ i % 3 = 1 ∨ i % 3 = 2 := by omega
        rcases h3 with e | e | e <;> (simp only [e]; rfl)
      have hy1 : (⟨#[UInt8.ofNat ((⟨#[32, 9, 10]⟩ : ByteArray)[i % 3]'hlt).toNat]⟩ : ByteArray).data.toList = [[32, 9, 10].getD (i % 3) 32] := by rw [hyb]
      have hy2 : (⟨#[UInt8.ofNat ((⟨#[32, 9, 10]⟩ : ByteArray)[i % 3]'hlt).toNat]⟩ : ByteArray).size = 1 := rfl
      obtain ⟨y, hy⟩ : ∃ y, (⟨#[UInt8.ofNat ((⟨#[32, 9, 10]⟩ : ByteArray)[i % 3]'hlt).toNat]⟩ : ByteArray) = y := ⟨_, rfl⟩
      rw [hy] at CV hy1 hy2
      have s1 : ¬ 9223372036854775807 < t.size + y.size := by omega
      have s2 : ¬ 9223372036854775807 < t.size + 1 := by omega
      have HT := Lib.hid (show (t ++ y).data.toList = padL (i + 1) by rw [text_joined, hts, hy1, padL_next])
      have HBN := Lib.hid (hop HB.out (Nat.le_refl _) ((Below.refl wr.heap.size wr).alloc (Nat.le_refl _) (.cells #[.int .u8 (((⟨#[32, 9, 10]⟩ : ByteArray)[i % 3]'hlt).toNat : Int)] 5)))
      clear hy hyb hy1
      go_wp2
      go_round
      case rel => exact ⟨i + 1, _, by omega, by go_num, rfl, HT.out, HBN⟩
      case measure => simp [intOf]; omega
    · obtain rfl : m = i := by omega
      have hmm : ¬ (m : Int) < (m : Int) := by omega
      have HB3 := Lib.hid (hop HB2.out (Nat.le_refl _) HB.out)
      have HP3 := Lib.hid (HP2.out.below HB.out)
      have htz : t.size = m := by
        have e := congrArg List.length hts
        rw [padL_len] at e
        exact e
      have SZ := Lib.hid (fun j => spaces_size x 12 m j (by omega) hm6 ux)
      have HSB := Lib.hid (fun (u : ByteArray) hr hv (h : u.data.toList = padL m ++ gapsL (padL m) (ofL (tagsL x 12))) => spaces_back x 12 m (by omega) u hr hv h)
      have HSM := Lib.hid (show ∀ p ∈ ofL (tagsL x 12), p.1.size ≤ 1048576 ∧ p.2.size ≤ 1048576 from fun p hp => tagsL_small x 12 ux p (ofL_in hp))
      have hpl : (ofL (tagsL x 12)).length ≤ 12 := by have := ofL_len (tagsL x 12); omega
      clear hi HB HB2 HP2
      generalize ofL (tagsL x 12) = P at *
      subst hn2
      go_wp2
      go_loopw [9, 10] (fun sv iv wq => ∃ (i : Nat) (u : ByteArray), i ≤ P.length ∧ iv = .int .i64 i ∧ sv = .string u ∧ u.data.toList = padL m ++ gapsL (padL m) (P.take i) ∧ Hid (Below wr.heap.size wr wq)) (fun _ iv _ => P.length - (intOf iv).toNat)
      case atStart => exact ⟨0, t, Nat.zero_le _, rfl, rfl, by rw [hts, List.take_zero, gapsL, List.append_nil], Lib.hid (Below.refl _ _)⟩
      case round =>
        obtain ⟨v0, hv0⟩ : ∃ v, v = wr := ⟨_, rfl⟩
        obtain ⟨i, u, hin, rfl, rfl, hus, HB⟩ := hrel
        have hsz := SZ.out i
        have huz : u.size ≤ 9000000 := by
          have e := congrArg List.length hus
          have e2 : u.data.toList.length = u.size := rfl
          omega
        by_cases hi : i < P.length
        · have hiI : (i : Int) < (P.length : Int) := by omega
          have hiP : i < P.length := by omega
          have hpw := HP3.out.below HB.out
          obtain ⟨b1, o1, rfl, hlt1, hc1⟩ := hpw.2 (by omega)
          obtain ⟨e1, e2⟩ := hc1 i hi
          have hpm := HSM.out (P.getD i pnil) (by
            rw [List.getD_eq_getElem?_getD, List.getElem?_eq_getElem hiP]
            exact List.getElem_mem _)
          have htk : P.take (i + 1) = P.take i ++ [P.getD i pnil] := by
            rw [List.take_succ_eq_append_getElem hiP, List.getD_eq_getElem?_getD, List.getElem?_eq_getElem hiP]
            rfl
          obtain ⟨⟨p1, p2⟩, hp⟩ : ∃ p, P.getD i pnil = p := ⟨_, rfl⟩
          rw [hp] at e1 e2 hpm htk
          dsimp only at e1 e2 hpm
          have hll : (lineT [(p1, p2)]).data.toList = partL (p1, p2) := by rw [lineT_list, List.map_cons, List.map_nil, Lib.join_one]
          have hlz : (lineT [(p1, p2)]).size ≤ 6000000 := by
            have e := congrArg List.length hll
            have e3 : (lineT [(p1, p2)]).data.toList.length = (lineT [(p1, p2)]).size := rfl
            have h3 := putS_size p2
            have h4 : (putS p2).size = (putB p2.data.toList).length := by unfold putS; rfl
            have h5 : p1.data.toList.length = p1.size := rfl
            rw [partL_len] at e
            dsimp only at e
            omega
          have hjz : (joinB ⟨#[32]⟩ ([(p1, p2)].map partT)).length ≤ 700000000 := by
            have e : (lineT [(p1, p2)]).size = (joinB ⟨#[32]⟩ ([(p1, p2)].map partT)).length := by unfold lineT; rfl
            omega
          obtain ⟨wv, hwv⟩ : ∃ v, v = wr := ⟨_, rfl⟩
          have PU := fun (wz : World) (g : Nat) (hB : Blk wz g 39 #[.string p1, .string p2]) => logPut_any (some ⟨g, 0, none⟩) 1 1 [(p1, p2)] (by decide) hjz (fun p hp => by rw [List.mem_singleton] at hp; subst hp; exact hpm) wz ⟨rfl, fun _ => ⟨g, 0, rfl, hB.lt, fun j hj => by
            obtain rfl : j = 0 := by omega
            exact ⟨hB.cell 0, hB.cell 1⟩⟩⟩
          obtain ⟨y, hy⟩ : ∃ y, lineT [(p1, p2)] = y := ⟨_, rfl⟩
          simp only [hy] at PU
          rw [hy] at hll hlz
          have q1 : (⟨#[32]⟩ : ByteArray).size = 1 := rfl
          have s1 : ¬ 9223372036854775807 < u.size + y.size := by omega
          have s2 : ¬ 9223372036854775807 < (u ++ y).size + (⟨#[32]⟩ : ByteArray).size := by rw [ByteArray.size_append, q1]; omega
          have s2' : ¬ 9223372036854775807 < u.size + y.size + 1 := by omega
          have s3 : ¬ 9223372036854775807 < (u ++ y ++ (⟨#[32]⟩ : ByteArray)).size + t.size := by rw [ByteArray.size_append, ByteArray.size_append, q1]; omega
          have s3' : ¬ 9223372036854775807 < u.size + y.size + 1 + t.size := by omega
          have HT := Lib.hid (show (u ++ y ++ (⟨#[32]⟩ : ByteArray) ++ t).data.toList = padL m ++ gapsL (padL m) (P.take (i + 1)) by
            rw [text_joined, text_joined, text_joined, hus, hll, hts, htk, gaps_snoc]
            simp)
          have PU1 := Lib.hid PU
          clear hp hpw hc1 hll hy htk PU hwv hv0
          go_wp2_with fail
          refine (PU1.out _ _ (Blk.new _ _ _)).mono ?_
          rintro e w7 ⟨rfl, hx⟩
          have HBN := Lib.hid (hop HB.out (Nat.le_refl _) (hop ((Below.refl _ _).alloc (Nat.le_refl _) _) (Nat.le_refl _) hx))
          clear hx e1 e2
          go_wp2
          go_round
          case rel => exact ⟨i + 1, _, by omega, by go_num, rfl, HT.out, HBN⟩
          case measure => simp [intOf]; omega
        · obtain rfl : i = P.length := by omega
          have hmm2 : ¬ (P.length : Int) < (P.length : Int) := by omega
          rw [List.take_of_length_le (by omega)] at hus
          have OA := Lib.hid (logOf_any u (by omega) wr)
          have HP4 := Lib.hid (HP3.out.below HB.out)
          have HB4 := Lib.hid (hop HB3.out (Nat.le_refl _) HB.out)
          clear hi HB HP3 HB3 hv0
          go_wp2_with fail
          refine OA.out.mono ?_
          rintro e w7 ⟨Ab, nb, cb, rfl, hnb, hpb, _, hx⟩
          have HB7 := Lib.hid (hop HB4.out (Nat.le_refl _) hx)
          have HP7 := Lib.hid (HP4.out.below hx)
          have RT := right_any A2 P.length k2 P (by omega) w7 HP7.out
          clear hx HB4 HP4 OA
          cases hr : rightB P with
          | false =>
            rw [hr] at RT
            replace RT := Lib.hid RT
            go_wp2_with fail
            refine RT.out.mono ?_
            rintro e w8 ⟨rfl, hx⟩
            have hb8 := hop HB7.out (Nat.le_refl _) hx
            clear hx
            go_wp2
            go_ret
            exact ⟨by first | rfl | simp, hb8⟩
          | true =>
            have hF := HSB.out u hr (by
              have h := hr
              unfold rightB at h
              rw [Bool.and_eq_true] at h
              exact right_small P _ h.2) hus
            rw [hr] at RT
            replace RT := Lib.hid RT
            have HPB := Lib.hid (show Pairs w7 Ab nb P by rw [← hF]; exact hpb.out)
            clear hF
            go_wp2_with fail
            refine RT.out.mono ?_
            rintro e w8 ⟨rfl, hx⟩
            have HB8 := Lib.hid (hop HB7.out (Nat.le_refl _) hx)
            have SM := same_any Ab A2 nb P.length cb k2 P P (by omega) (by omega) w8 (HPB.out.below hx) (HP7.out.below hx)
            rw [decide_eq_true (rfl : P = P)] at SM
            replace SM := Lib.hid SM
            clear hx
            go_wp2_with fail
            refine SM.out.mono ?_
            rintro e w9 ⟨rfl, hx⟩
            have hb9 := hop HB8.out (Nat.le_refl _) hx
            clear hx
            go_wp2
            go_ret
            exact ⟨by first | rfl | simp, hb9⟩
end Go.Proofs.Ytimmfmgnjpcdoaa
