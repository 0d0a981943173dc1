-- shaken
import Derived.Test.YtepokdmkdnlbfaaGreatDoorAstStage
namespace Go.Proofs.YtepokdmkdnlbfaaGreatDoor
open Go.RowKit
set_option linter.unusedVariables false
set_option linter.unusedSimpArgs false
def rightM (m : MatB) : Bool := rightA m.nm m.op m.v
def rightQ (M : List MatB) (S : List StgB) : Bool := (decide (1 ≤ M.length) && (decide (M.length ≤ 8) && decide (S.length ≤ 16))) && (M.all rightM && S.all rightS)
theorem matV_len (m : MatB) : (matV m).length = 3 := rfl
theorem stgV_len (s : StgB) : (stgV s).length = 6 := rfl
theorem astRight_any (A : Option Addr) (n c : Nat) (B : Option Addr) (m d : Nat) (M : List MatB) (S : List StgB) (W : World) (h1 : RowR matV 3 W A n M) (h2 : RowR stgV 6 W B m S) (hS : ∀ s, s ∈ S → Num64 s.num) (hl : LibIs W) :
    Calls Tryz.prog 8 #[.agg #[.slice A n c, .slice B m d]] W fun e w' => e = .returned (.bool (rightQ M S)) ∧ Below W.heap.size W w' := by
  obtain ⟨F, hF⟩ : ∃ F, rightQ M S = F := ⟨_, rfl⟩
  obtain ⟨F1, hF1⟩ : ∃ F, M.all rightM = F := ⟨_, rfl⟩
  obtain ⟨F2, hF2⟩ : ∃ F, S.all rightS = F := ⟨_, rfl⟩
  rw [hF]
  unfold rightQ at hF
  rw [hF1, hF2, h1.1, h2.1] at hF
  have HM := Lib.hid h1
  have HS := Lib.hid h2
  have HN := Lib.hid hS
  have HL := Lib.hid hl
  have HF1 := Lib.hid hF1
  have HF2 := Lib.hid hF2
  have HB0 := Lib.hid ((Below.refl W.heap.size W).alloc (Nat.le_refl _) (.cells #[.slice A n c, .slice B m d] 34))
  have HK0 := Lib.hid (Blk.new W 34 #[.slice A n c, .slice B m d])
  have c0 := HK0.out.cell 0
  have c1 := HK0.out.cell 1
  clear h1 h2 hS hl hF1 hF2
  by_cases g1 : 1 ≤ n
  · have i1 : ¬ (n : Int) < 1 := by omega
    have i1b : ¬ n < 1 := by omega
    have i1c : 0 < n := by omega
    have i1d : ¬ n = 0 := by omega
    by_cases g2 : n ≤ 8
    · have i2 : ¬ (n : Int) > 8 := by omega
      have i2b : ¬ 8 < (n : Int) := by omega
      have i2c : ¬ 8 < n := by omega
      by_cases g3 : m ≤ 16
      · have i3 : ¬ (m : Int) > 16 := by omega
        have i3b : ¬ 16 < (m : Int) := by omega
        have i3c : ¬ 16 < m := by omega
        rw [decide_eq_true g1, decide_eq_true g2, decide_eq_true g3] at hF
        have HFNF1 := Lib.hid (show F1 = false → F = false from fun h => by rw [← hF, h]; rfl)
        have HFNF2 := Lib.hid (show F2 = false → F = false from fun h => by rw [← hF, h]; cases F1 <;> rfl)
        have HFY := Lib.hid (show F1 = true → F2 = true → F = true from fun h k => by rw [← hF, h, k]; rfl)
        clear hF
        go_enter Tryz.func8, Tryz.ntmps8
        go_wp2
        go_loopw [26] (fun iv wr => ∃ j : Nat, j ≤ n ∧ iv = .int .i64 (j : Nat) ∧ Hid ((M.drop j).all rightM = F1) ∧ Hid (Blk wr W.heap.size 34 #[.slice A n c, .slice B m d]) ∧ Hid (Below W.heap.size W wr)) (fun iv _ => n - (intOf iv).toNat)
        case atStart => exact ⟨0, Nat.zero_le _, rfl, HF1, HK0, HB0⟩
        case round =>
          obtain ⟨j, hj, rfl, HT, HK, HB⟩ := hrel
          by_cases h : j < n
          · have hI : (j : Int) < n := by omega
            obtain ⟨b, off, rfl, hlt, hc⟩ := HM.out.2 (by omega)
            have hjl : j < M.length := by rw [HM.out.1]; exact h
            obtain ⟨x, hp⟩ : ∃ x, M[j]? = some x := ⟨M[j], List.getElem?_eq_getElem hjl⟩
            have hxl : x ∈ M := List.mem_of_getElem? hp
            have hdr : M.drop j = x :: M.drop (j + 1) := by
              rw [List.drop_eq_getElem_cons hjl]
              congr 1
              rw [List.getElem?_eq_getElem hjl] at hp
              injection hp
            have c0 := (HB.out.cell (p := ⟨b, off + j * 3 + 0, none⟩) hlt).trans (hc j 0 x hp (by decide))
            have c1 := (HB.out.cell (p := ⟨b, off + j * 3 + 1, none⟩) hlt).trans (hc j 1 x hp (by decide))
            have c2 := (HB.out.cell (p := ⟨b, off + j * 3 + 2, none⟩) hlt).trans (hc j 2 x hp (by decide))
            rw [Nat.add_zero] at c0
            simp only [matV, List.getElem?_cons_zero, List.getElem?_cons_succ] at c0 c1 c2
            have ht := HT.out
            rw [hdr, List.all_cons] at ht
            have hWs := HB.out.size
            have HA := Lib.hid (HB.out.alloc hWs (.cells #[.string x.nm, .string x.op, .string x.v] 43))
            have HKA := Lib.hid (HK.out.alloc (.cells #[.string x.nm, .string x.op, .string x.v] 43))
            have CX := Lib.hid (rightMatcher_any x.nm x.op x.v (wr.alloc (.cells #[.string x.nm, .string x.op, .string x.v] 43)) (HL.out.below HA.out))
            obtain ⟨z, hz⟩ : ∃ z, rightM x = z := ⟨_, rfl⟩
            have hz2 := hz
            unfold rightM at hz2
            rw [hz2] at CX
            rw [hz] at ht
            have K1 := Blk.new wr 43 #[.string x.nm, .string x.op, .string x.v]
            have a0 := K1.cell 0
            have a1 := K1.cell 1
            have a2 := K1.cell 2
            clear hc hp hdr hxl hz hz2 K1
            have HTT := Lib.hid ht
            clear ht
            go_wp2_with fail
            refine CX.out.mono ?_
            rintro e w2 ⟨rfl, hx⟩
            have HB2 := Lib.hid (hop HA.out (Nat.le_refl _) hx)
            have HK2 := Lib.hid (HKA.out.below hx HKA.out.lt)
            clear hx HA HKA CX a0 a1 a2 c0 c1 c2
            cases z with
            | true =>
              go_wp2
              go_round
              case rel => exact ⟨j + 1, by omega, by go_num, HTT, HK2, HB2⟩
              case measure => first | (simp [intOf]; done) | (simp [intOf]; omega)
            | false =>
              have hF := HFNF1.out HTT.out.symm
              subst hF
              go_wp2
              go_ret
              exact ⟨rfl, HB2.out⟩
          · have hjn : j = n := by omega
            have hI : ¬ (j : Int) < n := by omega
            have ht := HT.out
            rw [List.drop_of_length_le (by rw [HM.out.1]; omega), List.all_nil] at ht
            have HTF1 := Lib.hid ht.symm
            clear ht hjn
            have c0 := HK.out.cell 0
            have c1 := HK.out.cell 1
            go_wp2
            go_loopw [37] (fun iv wr => ∃ j : Nat, j ≤ m ∧ iv = .int .i64 (j : Nat) ∧ Hid ((S.drop j).all rightS = F2) ∧ Hid (Blk wr W.heap.size 34 #[.slice A n c, .slice B m d]) ∧ Hid (Below W.heap.size W wr)) (fun iv _ => m - (intOf iv).toNat)
            case atStart => exact ⟨0, Nat.zero_le _, rfl, HF2, HK, HB⟩
            case round =>
              obtain ⟨j, hj, rfl, HT, HK, HB⟩ := hrel
              by_cases h : j < m
              · have hI : (j : Int) < m := by omega
                obtain ⟨b, off, rfl, hlt, hc⟩ := HS.out.2 (by omega)
                have hjl : j < S.length := by rw [HS.out.1]; exact h
                obtain ⟨x, hp⟩ : ∃ x, S[j]? = some x := ⟨S[j], List.getElem?_eq_getElem hjl⟩
                have hxl : x ∈ S := List.mem_of_getElem? hp
                have hdr : S.drop j = x :: S.drop (j + 1) := by
                  rw [List.drop_eq_getElem_cons hjl]
                  congr 1
                  rw [List.getElem?_eq_getElem hjl] at hp
                  injection hp
                have c0 := (HB.out.cell (p := ⟨b, off + j * 6 + 0, none⟩) hlt).trans (hc j 0 x hp (by decide))
                have c1 := (HB.out.cell (p := ⟨b, off + j * 6 + 1, none⟩) hlt).trans (hc j 1 x hp (by decide))
                have c2 := (HB.out.cell (p := ⟨b, off + j * 6 + 2, none⟩) hlt).trans (hc j 2 x hp (by decide))
                have c3 := (HB.out.cell (p := ⟨b, off + j * 6 + 3, none⟩) hlt).trans (hc j 3 x hp (by decide))
                have c4 := (HB.out.cell (p := ⟨b, off + j * 6 + 4, none⟩) hlt).trans (hc j 4 x hp (by decide))
                have c5 := (HB.out.cell (p := ⟨b, off + j * 6 + 5, none⟩) hlt).trans (hc j 5 x hp (by decide))
                rw [Nat.add_zero] at c0
                simp only [stgV, List.getElem?_cons_zero, List.getElem?_cons_succ] at c0 c1 c2 c3 c4 c5
                have ht := HT.out
                rw [hdr, List.all_cons] at ht
                have hWs := HB.out.size
                have HA := Lib.hid (HB.out.alloc hWs (.cells #[.int .i64 x.kind, .string x.nm, .string x.op, .string x.v, .int .i64 x.num, .int .i64 x.unit] 27))
                have HKA := Lib.hid (HK.out.alloc (.cells #[.int .i64 x.kind, .string x.nm, .string x.op, .string x.v, .int .i64 x.num, .int .i64 x.unit] 27))
                have CX := Lib.hid (rightStage_any x.kind x.nm x.op x.v x.num x.unit (HN.out x hxl) (wr.alloc (.cells #[.int .i64 x.kind, .string x.nm, .string x.op, .string x.v, .int .i64 x.num, .int .i64 x.unit] 27)) (HL.out.below HA.out))
                obtain ⟨z, hz⟩ : ∃ z, rightS x = z := ⟨_, rfl⟩
                have hz2 := hz
                unfold rightS at hz2
                rw [hz] at CX
                rw [hz] at ht
                have K1 := Blk.new wr 27 #[.int .i64 x.kind, .string x.nm, .string x.op, .string x.v, .int .i64 x.num, .int .i64 x.unit]
                have a0 := K1.cell 0
                have a1 := K1.cell 1
                have a2 := K1.cell 2
                have a3 := K1.cell 3
                have a4 := K1.cell 4
                have a5 := K1.cell 5
                clear hc hp hdr hxl hz hz2 K1
                have HTT := Lib.hid ht
                clear ht
                go_wp2_with fail
                refine CX.out.mono ?_
                rintro e w2 ⟨rfl, hx⟩
                have HB2 := Lib.hid (hop HA.out (Nat.le_refl _) hx)
                have HK2 := Lib.hid (HKA.out.below hx HKA.out.lt)
                clear hx HA HKA CX a0 a1 a2 a3 a4 a5 c0 c1 c2 c3 c4 c5
                cases z with
                | true =>
                  go_wp2
                  go_round
                  case rel => exact ⟨j + 1, by omega, by go_num, HTT, HK2, HB2⟩
                  case measure => first | (simp [intOf]; done) | (simp [intOf]; omega)
                | false =>
                  have hF := HFNF2.out HTT.out.symm
                  subst hF
                  go_wp2
                  go_ret
                  exact ⟨rfl, HB2.out⟩
              · have hjn : j = m := by omega
                have hI : ¬ (j : Int) < m := by omega
                have ht := HT.out
                rw [List.drop_of_length_le (by rw [HS.out.1]; omega), List.all_nil] at ht
                have HTF2 := Lib.hid ht.symm
                clear ht hjn
                have hF := HFY.out HTF1.out HTF2.out
                subst hF
                go_wp2
                go_ret
                exact ⟨rfl, HB.out⟩
      · have i3 : (m : Int) > 16 := by omega
        have i3b : 16 < (m : Int) := by omega
        have i3c : 16 < m := by omega
        have hf : F = false := by rw [← hF]; rw [decide_eq_false g3]; simp
        clear hF
        subst hf
        go_enter Tryz.func8, Tryz.ntmps8
        go_wp2
        go_ret
        exact ⟨rfl, HB0.out⟩
    · have i2 : (n : Int) > 8 := by omega
      have i2b : 8 < (n : Int) := by omega
      have i2c : 8 < n := by omega
      have hf : F = false := by rw [← hF]; rw [decide_eq_false g2]; simp
      clear hF
      subst hf
      go_enter Tryz.func8, Tryz.ntmps8
      go_wp2
      go_ret
      exact ⟨rfl, HB0.out⟩
  · have i1 : (n : Int) < 1 := by omega
    have i1b : n = 0 := by omega
    have hf : F = false := by rw [← hF]; rw [decide_eq_false g1]; simp
    clear hF g1 i1
    subst hf
    subst i1b
    go_enter Tryz.func8, Tryz.ntmps8
    go_wp2
    go_ret
    exact ⟨rfl, HB0.out⟩
end Go.Proofs.YtepokdmkdnlbfaaGreatDoor
