-- shaken
import Derived.Test.YtgcojilaeflfbaaGreatDoorBase
import Derived.Laws.OwnMore
import Derived.Test.YtgcojilaeflfbaaGreatDoorNfaOf
import Derived.Test.YtgcojilaeflfbaaGreatDoorNfaPure
import Derived.Test.YtgcojilaeflfbaaGreatDoorRexRexes
import Derived.Test.YtgcojilaeflfbaaGreatDoorMem
namespace Go.Proofs.YtgcojilaeflfbaaGreatDoor
open Go.RowKit
set_option linter.unusedVariables false
set_option linter.unusedSimpArgs false
theorem conv_own {w : World} {B : Nat} {v : Value} {l : List UInt8} (h : OwnB w B 5 v l) : (convert 22 9 v).run Tryz.prog w = .ok (.string ⟨l.toArray⟩) w :=
  own_text (P := Tryz.prog) h Tryz.underlying22 Tryz.underlying5 Tryz.underlying9
end Go.Proofs.YtgcojilaeflfbaaGreatDoor
namespace Go.Proofs.YtgcojilaeflfbaaGreatDoor
open Go.RowKit
set_option linter.unusedVariables false
set_option linter.unusedSimpArgs false
theorem infoByte : (Tryz.prog.info? 5).map (fun i => (i.zero, i.size, i.bytes)) = some (some (.int .u8 0), 1, 1) := by kernel_rfl
set_option maxRecDepth 100000 in
set_option maxHeartbeats 1600000 in
theorem few5_any {W : World} (A : Option Addr) (len c : Nat) (zs : List Int) (h1 : Ints .u8 W A len zs) (hnc : len ≤ c) (hcm : c ≤ maxLen) :
    Calls Tryz.prog 11 #[.slice A len c] W fun e w' => (∃ s : ByteArray, e = .returned (.string s) ∧ s.size ≤ 24 ∧ ∀ b, b ∈ s.data.toList → b.toNat < 200) ∧ Below W.heap.size W w' := by
  unfold maxLen at hcm
  obtain ⟨i0, hi, hz0, hz1, hz2⟩ := info_parts infoByte
  have HI := Lib.hid h1
  clear h1
  go_enter Tryz.func11, Tryz.ntmps11
  go_wp2
  go_loopw [3, 4] (fun v iv wr => ∃ (n : Nat) (L : List UInt8), n ≤ len ∧ n ≤ 24 ∧ iv = .int .i64 n ∧ L.length = n ∧ Hid (OwnB wr W.heap.size 5 v L) ∧ Hid (∀ b, b ∈ L → b.toNat < 200) ∧ Hid (Below W.heap.size W wr)) (fun _ iv _ => len - (intOf iv).toNat)
  case atStart => exact ⟨0, [], Nat.zero_le _, Nat.zero_le _, rfl, rfl, Lib.hid (OwnB.nil _ _ _), Lib.hid (fun b hb => by cases hb), Lib.hid (Below.refl _ _)⟩
  case round =>
    obtain ⟨n, L, hnl, hn16, rfl, hL, HO, HF, HB⟩ := hrel
    have HLn := Lib.hid hL
    clear hL
    by_cases hgo : n < len ∧ n < 24
    · obtain ⟨g1, g2⟩ := hgo
      have hzz := HI.out
      obtain ⟨bb, off, rfl, hlt, hc⟩ := hzz.2.2 (by omega)
      have c0 := (HB.out.cell (p := ⟨bb, off + n, none⟩) hlt).trans (hc n g1)
      have hwf := hzz.2.1 (zs.getD n 0) (by
        rw [List.getD_eq_getElem?_getD, List.getElem?_eq_getElem (by rw [hzz.1]; exact g1)]
        exact List.getElem_mem _)
      obtain ⟨x0, x1⟩ := bdu8 hwf
      obtain ⟨q, hq⟩ : ∃ x : Nat, zs.getD n 0 = (x : Int) := ⟨(zs.getD n 0).toNat, by omega⟩
      rw [hq] at c0 x1
      have nI : (n : Int) < (len : Int) := by omega
      have n16 : (n : Int) < 24 := by omega
      obtain ⟨k, hk⟩ : ∃ k, q % 5 = k := ⟨_, rfl⟩
      have hk5 : k < 5 := by omega
      have i1 : (q : Int) % 5 = (k : Int) := by omega
      have i2 : (q : Int).tmod 5 = (k : Int) := by rw [Int.tmod_eq_emod_of_nonneg (by omega)]; exact i1
      have hw1 : IntKind.u8.wrap (k : Int) = (k : Int) := by rw [IntKind.wrap_u8]; omega
      have hkI : (k : Int) < 5 := by omega
      obtain ⟨r, hr⟩ : ∃ r, (if k = 0 then 97 else if k = 1 then 98 else if k = 2 then 99 else if k = 3 then 100 else 10) = r := ⟨_, rfl⟩
      have hr200 : r < 200 := by
        rw [← hr]
        match k, hk5 with
        | 0, _ => decide
        | 1, _ => decide
        | 2, _ => decide
        | 3, _ => decide
        | 4, _ => decide
      have hr2 : (UInt8.ofNat r).toNat = r := by simp; omega
      have hrf : (UInt8.ofNat r).toNat < 200 := by rw [hr2]; exact hr200
      have hidx : (ByteArray.mk #[97, 98, 99, 100, 10])[k]'(by show k < 5; exact hk5) = UInt8.ofNat r := by
        rw [← hr]
        match k, hk5 with
        | 0, _ => rfl
        | 1, _ => rfl
        | 2, _ => rfl
        | 3, _ => rfl
        | 4, _ => rfl
      have hidn : ((ByteArray.mk #[97, 98, 99, 100, 10])[k]'(by show k < 5; exact hk5)).toNat = r := by rw [hidx]; exact hr2
      clear hr hk hidx
      obtain ⟨Av, cv, hv⟩ := own_shape HO.out
      rw [HLn.out] at hv
      subst hv
      have hsz := HB.out.size
      have hown := HO.out
      unfold OwnB at hown
      rw [HLn.out] at hown
      have HOW := Lib.hid hown
      clear hc hzz hwf hq x1 hown
      go_wp2_with (at_builtin; refine wpList_append_own _ rfl (.tmp 15) (.tmp 22) 22 rfl W.heap.size 5 i0 (.int .u8 0) 1 1 Tryz.underlying22 hi hz0 hz1 hz2 rfl (by decide) _ _ _ rfl (World.ownsRow.alloc HOW.out _) ⟨wr.heap.size, 0, none⟩ 1 1 [.int .u8 (r : Int)] rfl rfl (new_cells_at _ _ _ _ (by simp)) (by intro u hu; rw [List.mem_singleton] at hu; rw [hu]; rfl) (by unfold maxLen; omega) (by omega) (by simp; omega) ?_)
      intro v' w1 hown' hgrow _
      have HB1 := Lib.hid ((HB.out.alloc (by omega) _).grown hgrow (by simp; omega) (fun k hk => (World.ownsRow.lt HOW.out k hk).1))
      have HO1 := Lib.hid (show OwnB w1 W.heap.size 5 v' (L ++ [UInt8.ofNat r]) from OwnB.snoc (m := [UInt8.ofNat r]) (by rw [HLn.out]; simpa [bV, hr2] using hown'))
      have HF1 := Lib.hid (show ∀ b, b ∈ (L ++ [UInt8.ofNat r]) → b.toNat < 200 from fun b hb => by
        rcases List.mem_append.1 hb with h | h
        · exact HF.out b h
        · rw [List.mem_singleton] at h
          rw [h]
          exact hrf)
      have hl1 : (L ++ [UInt8.ofNat r]).length = n + 1 := by rw [List.length_append, HLn.out]; rfl
      have HL1 := Lib.hid hl1
      clear hown' hgrow hl1
      go_wp2
      go_round
      case rel => exact ⟨n + 1, _, by omega, by omega, by go_num, HL1.out, HO1, HF1, HB1⟩
      case measure => first | (simp [intOf]; done) | (simp [intOf]; omega)
    · have hconv := conv_own HO.out
      obtain ⟨Av, cv, hv⟩ := own_shape HO.out
      rw [HLn.out] at hv
      subst hv
      have HE := Lib.hid (show (⟨L.toArray⟩ : ByteArray).size ≤ 24 from by show L.toArray.size ≤ _; simp [HLn.out]; exact hn16)
      by_cases hA : n < len
      · have nI : (n : Int) < (len : Int) := by omega
        have n16 : ¬ (n : Int) < 24 := by omega
        go_wp2
        go_ret
        exact ⟨⟨_, rfl, HE.out, by first | exact HF.out | (intro b hb; exact HF.out b (by simpa using hb))⟩, HB.out⟩
      · have nI : ¬ (n : Int) < (len : Int) := by omega
        go_wp2
        go_ret
        exact ⟨⟨_, rfl, HE.out, by first | exact HF.out | (intro b hb; exact HF.out b (by simpa using hb))⟩, HB.out⟩
def kind9 : NodeX := .mk 9 0 0 0 none 0 0 []
theorem kind9_c : nodeC kind9 = #[.int .i64 9, .int .u64 0, .int .u64 0, .int .u64 0, .int .u64 0, .int .i64 0, .int .i64 0, .slice none 0 0] := mkX_c 9 0 0 none 0 0 []
theorem kind9_wrong : rightT kind9.t = false := by decide +kernel
theorem kind9_good (w : World) : GoodN w (fun _ => True) kind9 := .mk (by decide) (fun _ => ⟨rfl, rfl⟩) ⟨Nat.le_refl _, Nat.zero_le _⟩ (RowR.none w) (fun h => absurd h (by decide)) (fun _ h => by cases h)
theorem ex5_put : putT ex5T = ex5L := by decide +kernel
set_option maxRecDepth 100000 in
set_option maxHeartbeats 3200000 in
theorem examples5_any (W : World) (hl : LibIs W) :
    Calls Tryz.prog 9 #[] W fun e w' => e = .returned (.bool true) ∧ Below W.heap.size W w' := by
  have O1 := Lib.hid (of_ok ⟨#[97, 40, 98, 124, 99, 41, 42, 100]⟩ ex5T 8 W hl ex5_parse)
  have HL := Lib.hid hl
  clear hl
  go_enter Tryz.func9, Tryz.ntmps9
  go_wp2_with fail
  refine O1.out.mono ?_
  rintro e w1 ⟨b, rfl, hp1, hb1, hB1⟩
  have O2 := Lib.hid (of_no ⟨#[97, 41]⟩ .nil 1 2 w1 (HL.out.below hB1) ex5_bad (by decide))
  have HP1 := Lib.hid hp1
  have HB1 := Lib.hid hB1
  clear hp1 hB1 O1
  go_wp2_with fail
  refine O2.out.mono ?_
  rintro e w2 ⟨rfl, hb2⟩
  have C3 := Lib.hid (compile_no kind9 (fun _ => True) w2 (kind9_good w2) kind9_wrong)
  rw [kind9_c] at C3
  have HP2 := Lib.hid (HP1.out.below hb2)
  have HB2 := Lib.hid (hop HB1.out (Nat.le_refl _) hb2)
  clear hb2 O2
  go_wp2_with fail
  refine C3.out.mono ?_
  rintro e w3 ⟨rfl, hb3⟩
  have hp3 := HP2.out.below hb3
  have HB3 := Lib.hid (hop HB2.out (Nat.le_refl _) hb3)
  have W4 := Lib.hid (nfaWhole_any ex5T b ⟨#[97, 98, 99, 99, 98, 100]⟩ w3 hp3 (by decide))
  rw [show wholeB (⟨#[97, 98, 99, 99, 98, 100]⟩ : ByteArray).data.toList ex5T = true from (wholeB_iff _ _).2 ex5_whole] at W4
  have HP3 := Lib.hid hp3
  clear hb3 hp3 C3
  go_wp2_with fail
  refine W4.out.mono ?_
  rintro e w4 ⟨rfl, hb4⟩
  have hp4 := HP3.out.below hb4
  have HB4 := Lib.hid (hop HB3.out (Nat.le_refl _) hb4)
  have W5 := Lib.hid (nfaWhole_any ex5T b ⟨#[97, 98, 99, 99, 98]⟩ w4 hp4 (by decide))
  rw [show wholeB (⟨#[97, 98, 99, 99, 98]⟩ : ByteArray).data.toList ex5T = false from Bool.eq_false_iff.2 (fun h => ex5_not ((wholeB_iff _ _).1 h))] at W5
  have HP4 := Lib.hid hp4
  clear hb4 hp4 W4
  go_wp2_with fail
  refine W5.out.mono ?_
  rintro e w5 ⟨rfl, hb5⟩
  have hp5 := HP4.out.below hb5
  have HB5 := Lib.hid (hop HB4.out (Nat.le_refl _) hb5)
  have F6 := Lib.hid (nfaFind_any ex5T b ⟨#[120, 120, 97, 100, 121, 121]⟩ w5 hp5 (by decide))
  rw [show foundB (⟨#[120, 120, 97, 100, 121, 121]⟩ : ByteArray).data.toList ex5T = true from (foundB_iff _ _).2 ex5_found] at F6
  have HP5 := Lib.hid hp5
  clear hb5 hp5 W5
  go_wp2_with fail
  refine F6.out.mono ?_
  rintro e w6 ⟨rfl, hb6⟩
  have hp6 := HP5.out.below hb6
  have HB6 := Lib.hid (hop HB5.out (Nat.le_refl _) hb6)
  have F7 := Lib.hid (nfaFind_any ex5T b ⟨#[97, 98, 99]⟩ w6 hp6 (by decide))
  rw [show foundB (⟨#[97, 98, 99]⟩ : ByteArray).data.toList ex5T = false from Bool.eq_false_iff.2 (fun h => ex5_none ((foundB_iff _ _).1 h))] at F7
  have HP6 := Lib.hid hp6
  clear hb6 hp6 F6
  go_wp2_with fail
  refine F7.out.mono ?_
  rintro e w7 ⟨rfl, hb7⟩
  have hp7 := HP6.out.below hb7
  have HB7 := Lib.hid (hop HB6.out (Nat.le_refl _) hb7)
  have S8 := Lib.hid (nfaSize_any ex5T b w7 hp7)
  rw [ex5_size] at S8
  have T9 := Lib.hid (nfaText_any ex5T b w7 hp7)
  rw [ex5_put] at T9
  clear hb7 hp7 F7
  go_wp2_with fail
  refine S8.out.mono ?_
  rintro e w8 ⟨rfl, rfl⟩
  go_wp2_with fail
  refine T9.out.mono ?_
  rintro e w9 ⟨rfl, rfl⟩
  go_wp2
  go_ret
  exact ⟨by first | rfl | decide | simp, HB7.out⟩
end Go.Proofs.YtgcojilaeflfbaaGreatDoor
