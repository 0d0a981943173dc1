-- shaken
import Derived.Test.YtepokdmkdnlbfaaGreatDoorAstPut
import Derived.Deep.AppendLies
namespace Go.Proofs.YtepokdmkdnlbfaaGreatDoor
open Go.RowKit
set_option linter.unusedVariables false
set_option linter.unusedSimpArgs false
def textV (s : ByteArray) : List Value := [.string s]
theorem textV_len (s : ByteArray) : (textV s).length = 1 := rfl
theorem infoStrA : (Tryz.prog.info? 9).map (fun i => (i.zero, i.size, i.bytes)) = some (some (.string ⟨#[]⟩), 1, 16) := by kernel_rfl
theorem own_text_one (w : World) (x : ByteArray) (B : Nat) (hB : B ≤ w.heap.size) : OwnR textV 1 (w.alloc (.cells #[.string x] 9)) B 9 (.slice (some ⟨w.heap.size, 0, none⟩) 1 1) [x] := by
  have h := World.ownsRow_lit (base := B) (e := 9) (size := 1) w #[.string x] 1 hB (by unfold maxLen; omega) (by simp)
  simpa [OwnR, rowV, textV] using h
theorem own_texts {w : World} {B ty : Nat} {v : Value} {l : List ByteArray} (h : OwnR textV 1 w B ty v l) : ∃ A cap, v = .slice A l.length cap ∧ l.length ≤ cap ∧ Texts w A l.length l := by
  obtain ⟨A, cap, h1, h2, _, h4⟩ := OwnR.open textV_len h
  refine ⟨A, cap, h1, h2, rfl, fun hn => ?_⟩
  obtain ⟨b, off, e, hlt, hc⟩ := h4.2 hn
  refine ⟨b, off, e, hlt, fun j hj => ?_⟩
  have := hc j 0 l[j] (List.getElem?_eq_getElem hj) (by decide)
  rw [Nat.mul_one, Nat.add_zero] at this
  rw [this, List.getD_eq_getElem?_getD, List.getElem?_eq_getElem hj]
  rfl
def headT (M : List MatB) : ByteArray := (⟨#[123]⟩ : ByteArray) ++ (⟨(joinB ⟨#[44]⟩ (M.map putM)).toArray⟩ : ByteArray) ++ (⟨#[125]⟩ : ByteArray)
def putQ (M : List MatB) (S : List StgB) : ByteArray := ⟨(joinB ⟨#[32]⟩ (headT M :: S.map putG)).toArray⟩
set_option maxRecDepth 100000 in
set_option maxHeartbeats 1600000 in
theorem astPut_any (A : Option Addr) (n c : Nat) (B : Option Addr) (m d : Nat) (M : List MatB) (S : List StgB) (hn : n ≤ 100) (hm : m ≤ 100) (W : World) (h1 : RowR matV 3 W A n M) (h2 : RowR stgV 6 W B m S) (hM : ∀ x, x ∈ M → FewM x) (hS : ∀ s, s ∈ S → FewG s) (hl : LibIs W) :
    Calls Tryz.prog 10 #[.agg #[.slice A n c, .slice B m d]] W fun e w' => e = .returned (.string (putQ M S)) ∧ Below W.heap.size W w' := by
  obtain ⟨i0, hi, hz0, hz1, hz2⟩ := info_parts infoStrA
  have hmk : ∀ u : World, (Instr.makeSlice 44 (.int .i64 (n : Int)) (.int .i64 (n : Int))).run Tryz.prog u =
      .ok (.slice (some ⟨u.heap.size, 0, none⟩) n n) (u.alloc (.cells (madeCells #[.string ⟨#[]⟩] n) 9)) := fun u => by
    have h := run_make (P := Tryz.prog) u 44 9 i0 (.string ⟨#[]⟩) Tryz.underlying44 hi hz0 .i64 .i64 (n : Int) (n : Int) (by omega) (by omega) (by rw [hz2]; omega) (by omega)
    rw [Int.toNat_natCast] at h
    simpa [hz1, Value.cells] using h
  have hl1 := h1.1
  have hl2 := h2.1
  have HM := Lib.hid h1
  have HS := Lib.hid h2
  have HFM := Lib.hid hM
  have HFS := Lib.hid hS
  have HL := Lib.hid hl
  have hgd : ∀ j x, M[j]? = some x → (M.map putM).getD j .empty = putM x := fun j x hx => by
    rw [List.getD_eq_getElem?_getD, List.getElem?_map, hx]; rfl
  have HGD := Lib.hid hgd
  have hJ1 : (joinB ⟨#[44]⟩ (M.map putM)).length ≤ 3000000000 := by
    have h := join_le (M.map putM) ⟨#[44]⟩ 24000002 (fun z hz => by
      obtain ⟨x, hx, rfl⟩ := List.mem_map.1 hz
      obtain ⟨a, b, c⟩ := hM x hx
      exact putA_size a b c)
    rw [List.length_map, hl1] at h
    refine Nat.le_trans h (Nat.le_trans (Nat.mul_le_mul_right _ hn) (by decide))
  have hJ2 : (joinB ⟨#[32]⟩ (headT M :: S.map putG)).length ≤ 400000000000 := by
    have h := join_le (headT M :: S.map putG) ⟨#[32]⟩ 3000000003 (fun z hz => by
      rcases List.mem_cons.1 hz with rfl | hz
      · unfold headT
        simp only [ByteArray.size_append]
        show 1 + (joinB ⟨#[44]⟩ (M.map putM)).toArray.size + 1 ≤ _
        rw [List.size_toArray]
        omega
      · obtain ⟨x, hx, rfl⟩ := List.mem_map.1 hz
        exact Nat.le_trans (putG_size x (hS x hx)) (by decide))
    rw [List.length_cons, List.length_map, hl2] at h
    refine Nat.le_trans h (Nat.le_trans (Nat.mul_le_mul_right _ (show m + 1 ≤ 101 by omega)) (by decide))
  have HJ1 := Lib.hid hJ1
  have HJ2 := Lib.hid hJ2
  obtain ⟨R, hR⟩ : ∃ R, putQ M S = R := ⟨_, rfl⟩
  rw [hR]
  have HR := Lib.hid hR
  have HB0 := Lib.hid (((Below.refl W.heap.size W).alloc (Nat.le_refl _) (.cells #[.slice A n c, .slice B m d] 34)).alloc (by simp) (.cells (madeCells #[.string ⟨#[]⟩] n) 9))
  have HK0 := Lib.hid (Blk.new W 34 #[.slice A n c, .slice B m d])
  have HK1 := Lib.hid (HK0.out.alloc (.cells (madeCells #[.string ⟨#[]⟩] n) 9))
  have HR0 := Lib.hid (show RowT ((W.alloc (.cells #[.slice A n c, .slice B m d] 34)).alloc (.cells (madeCells #[.string ⟨#[]⟩] n) 9)) (W.heap.size + 1) n 0 (M.map putM) (madeCells #[.string ⟨#[]⟩] n) from ⟨by
    have h := Blk.new (W.alloc (.cells #[.slice A n c, .slice B m d] 34)) 9 (madeCells #[.string ⟨#[]⟩] n)
    rwa [show (W.alloc (.cells #[.slice A n c, .slice B m d] 34)).heap.size = W.heap.size + 1 by simp] at h, by simp [madeCells], fun i hi => absurd hi (by omega), fun i hi => ⟨⟨#[]⟩, made_cell n i hi⟩⟩)
  have c0 := HK0.out.cell 0
  have d0 := HK1.out.cell 0
  have d1 := HK1.out.cell 1
  clear h1 h2 hM hS hl hgd hJ1 hJ2 hR
  go_enter Tryz.func10, Tryz.ntmps10
  go_wp2
  go_loopw [16] (fun iv wr => ∃ (j : Nat) (cs : Array Value), j ≤ n ∧ iv = .int .i64 (j : Nat) ∧ Hid (RowT wr (W.heap.size + 1) n j (M.map putM) cs) ∧ Hid (Blk wr W.heap.size 34 #[.slice A n c, .slice B m d]) ∧ Hid (Below W.heap.size W wr)) (fun iv _ => n - (intOf iv).toNat)
  case atStart => exact ⟨0, _, Nat.zero_le _, rfl, HR0, HK1, HB0⟩
  case round =>
    obtain ⟨j, cs, hj, rfl, HT, HK, HB⟩ := hrel
    by_cases h : j < n
    · have hI : (j : Int) < n := by omega
      obtain ⟨b, off, rfl, hlt, hc⟩ := HM.out.2 (by omega)
      have hjl : j < M.length := by rw [HM.out.1]; exact h
      obtain ⟨x, hp⟩ : ∃ x, M[j]? = some x := ⟨M[j], List.getElem?_eq_getElem hjl⟩
      have hxl : x ∈ M := List.mem_of_getElem? hp
      have c0 := (HB.out.cell (p := ⟨b, off + j * 3 + 0, none⟩) hlt).trans (hc j 0 x hp (by decide))
      have c1 := (HB.out.cell (p := ⟨b, off + j * 3 + 1, none⟩) hlt).trans (hc j 1 x hp (by decide))
      have c2 := (HB.out.cell (p := ⟨b, off + j * 3 + 2, none⟩) hlt).trans (hc j 2 x hp (by decide))
      rw [Nat.add_zero] at c0
      simp only [matV, List.getElem?_cons_zero, List.getElem?_cons_succ] at c0 c1 c2
      have hWs := HB.out.size
      have HA := Lib.hid (HB.out.alloc hWs (.cells #[.string x.nm, .string x.op, .string x.v] 43))
      have HKA := Lib.hid (HK.out.alloc (.cells #[.string x.nm, .string x.op, .string x.v] 43))
      have HTA := Lib.hid (RowT.below HT.out ((Below.refl wr.heap.size wr).alloc (Nat.le_refl _) (.cells #[.string x.nm, .string x.op, .string x.v] 43)))
      have CX := putMatcher_any x.nm x.op x.v (HFM.out x hxl) (wr.alloc (.cells #[.string x.nm, .string x.op, .string x.v] 43))
      have hg := HGD.out j x hp
      obtain ⟨z, hz⟩ : ∃ z, putA x.nm x.op x.v = z := ⟨_, rfl⟩
      rw [hz] at CX
      rw [show putM x = z from hz] at hg
      have HG := Lib.hid hg
      have CX2 := Lib.hid CX
      obtain ⟨old, hold⟩ := HTA.out.all_ j h
      have HGF := Lib.hid (fun (w3 : World) (h : RowT w3 (W.heap.size + 1) n j (M.map putM) cs) => (show w3.cell? ⟨W.heap.size + 1, j, none⟩ = some (.string old) from (h.blk.cell j).trans hold))
      have K1 := Blk.new wr 43 #[.string x.nm, .string x.op, .string x.v]
      have a0 := K1.cell 0
      have a1 := K1.cell 1
      have a2 := K1.cell 2
      clear hc hp hxl hz K1 CX hg hold
      go_wp2_with fail
      refine CX2.out.mono ?_
      rintro e w3 ⟨rfl, hx⟩
      have HB2 := Lib.hid (hop HA.out (Nat.le_refl _) hx)
      have HK2 := Lib.hid (HKA.out.below hx HKA.out.lt)
      have HT2 := Lib.hid (RowT.below HTA.out hx)
      have f3 := HT2.out.blk.frozen j
      have c3 := HGF.out _ HT2.out
      clear hx HA HKA HTA CX2 a0 a1 a2 c0 c1 c2
      go_wp2
      have hR4 := HT2.out.store h
      rw [HG.out] at hR4
      have HB5 := Lib.hid (HB2.out.setCell (p := ⟨W.heap.size + 1, j, none⟩) (by simp) (.string z))
      have HK5 := Lib.hid (HK2.out.far (p := ⟨W.heap.size + 1, j, none⟩) (by show W.heap.size ≠ W.heap.size + 1; omega) (.string z))
      have HR4 := Lib.hid hR4
      clear hR4
      go_round
      case rel => exact ⟨j + 1, _, by omega, by go_num, HR4, HK5, HB5⟩
      case measure => first | (simp [intOf]; done) | (simp [intOf]; omega)
    · have hjn : j = n := by omega
      subst hjn
      have hI : ¬ (j : Int) < j := by omega
      have hT := HT.out.texts (by rw [List.length_map]; exact hl1)
      have C := join_any ⟨#[44]⟩ (some ⟨W.heap.size + 1, 0, none⟩) j j (M.map putM) (by omega) (Nat.le_refl _) (Nat.le_trans HJ1.out (by decide)) wr hT
      have hJs : (⟨(joinB ⟨#[44]⟩ (M.map putM)).toArray⟩ : ByteArray).size = (joinB ⟨#[44]⟩ (M.map putM)).length := by simp [ByteArray.size]
      obtain ⟨J, hJJ⟩ : ∃ J, (⟨(joinB ⟨#[44]⟩ (M.map putM)).toArray⟩ : ByteArray) = J := ⟨_, rfl⟩
      rw [hJJ] at C hJs
      have C2 := Lib.hid C
      have hJ9 : J.size ≤ 3000000000 := by rw [hJs]; exact HJ1.out
      have hhead : headT M = (⟨#[123]⟩ : ByteArray) ++ J ++ (⟨#[125]⟩ : ByteArray) := by rw [← hJJ]; rfl
      have HHEAD := Lib.hid hhead
      have s1 : ¬ 9223372036854775807 < 1 + J.size := by omega
      have s2 : ¬ 9223372036854775807 < 1 + J.size + 1 := by omega
      have e0 := HK.out.cell 1
      clear hT hJs hJJ C hhead HGD d0 d1 c0
      go_wp2_with fail
      refine C2.out.mono ?_
      rintro e w3 ⟨rfl, hx⟩
      have HB2 := Lib.hid (hop HB.out (Nat.le_refl _) hx)
      have HK2 := Lib.hid (HK.out.below hx HK.out.lt)
      obtain ⟨X, hX⟩ : ∃ X, (⟨#[123]⟩ : ByteArray) ++ J ++ (⟨#[125]⟩ : ByteArray) = X := ⟨_, rfl⟩
      have HX := Lib.hid (HHEAD.out.trans hX)
      have hsz3 := HB2.out.size
      have HO := Lib.hid (own_text_one w3 X W.heap.size hsz3)
      have HB3 := Lib.hid (HB2.out.alloc hsz3 (.cells #[.string X] 9))
      have HK3 := Lib.hid (HK2.out.alloc (.cells #[.string X] 9))
      have e1 := HK3.out.cell 1
      rw [← hX] at HO HB3 HK3 e1 HX
      clear hX hx C2 e0 HB HB2 HK HK2 HT
      obtain ⟨v0, hv0⟩ : ∃ v, v = w3 := ⟨_, rfl⟩
      go_wp2
      go_loopw [6, 35] (fun v iv wr => ∃ j : Nat, j ≤ m ∧ iv = .int .i64 (j : Nat) ∧ Hid (OwnR textV 1 wr W.heap.size 9 v (headT M :: (S.take j).map putG)) ∧ Hid (Below W.heap.size W wr)) (fun _ iv _ => m - (intOf iv).toNat)
      case atStart => exact ⟨0, Nat.zero_le _, rfl, Lib.hid (by rw [HX.out]; exact HO.out), HB3⟩
      case round =>
        obtain ⟨k, hk, rfl, HO2, HB⟩ := hrel
        by_cases h2 : k < m
        · have hI2 : (k : Int) < m := by omega
          obtain ⟨b, off, rfl, hlt, hc⟩ := HS.out.2 (by omega)
          have hjl : k < S.length := by rw [HS.out.1]; exact h2
          obtain ⟨x, hp⟩ : ∃ x, S[k]? = some x := ⟨S[k], List.getElem?_eq_getElem hjl⟩
          have hxl : x ∈ S := List.mem_of_getElem? hp
          have htk : S.take (k + 1) = S.take k ++ [x] := by
            rw [List.take_add_one, hp]; rfl
          have HTK := Lib.hid htk
          have c0 := (HB.out.cell (p := ⟨b, off + k * 6 + 0, none⟩) hlt).trans (hc k 0 x hp (by decide))
          have c1 := (HB.out.cell (p := ⟨b, off + k * 6 + 1, none⟩) hlt).trans (hc k 1 x hp (by decide))
          have c2 := (HB.out.cell (p := ⟨b, off + k * 6 + 2, none⟩) hlt).trans (hc k 2 x hp (by decide))
          have c3 := (HB.out.cell (p := ⟨b, off + k * 6 + 3, none⟩) hlt).trans (hc k 3 x hp (by decide))
          have c4 := (HB.out.cell (p := ⟨b, off + k * 6 + 4, none⟩) hlt).trans (hc k 4 x hp (by decide))
          have c5 := (HB.out.cell (p := ⟨b, off + k * 6 + 5, none⟩) hlt).trans (hc k 5 x hp (by decide))
          rw [Nat.add_zero] at c0
          simp only [stgV, List.getElem?_cons_zero, List.getElem?_cons_succ] at c0 c1 c2 c3 c4 c5
          have hWs := HB.out.size
          have HA := Lib.hid (HB.out.alloc hWs (.cells #[.int .i64 x.kind, .string x.nm, .string x.op, .string x.v, .int .i64 x.num, .int .i64 x.unit] 27))
          have HOA := Lib.hid (OwnR.alloc HO2.out (.cells #[.int .i64 x.kind, .string x.nm, .string x.op, .string x.v, .int .i64 x.num, .int .i64 x.unit] 27))
          have CX := putStage_any x.kind x.nm x.op x.v x.num x.unit (HFS.out x hxl) (wr.alloc (.cells #[.int .i64 x.kind, .string x.nm, .string x.op, .string x.v, .int .i64 x.num, .int .i64 x.unit] 27)) (HL.out.below HA.out)
          obtain ⟨z, hz⟩ : ∃ z, putG x = z := ⟨_, rfl⟩
          rw [show putG ⟨x.kind, x.nm, x.op, x.v, x.num, x.unit⟩ = z from hz] at CX
          have HZ := Lib.hid hz
          have CX2 := Lib.hid CX
          have K1 := Blk.new wr 27 #[.int .i64 x.kind, .string x.nm, .string x.op, .string x.v, .int .i64 x.num, .int .i64 x.unit]
          have a0 := K1.cell 0
          have a1 := K1.cell 1
          have a2 := K1.cell 2
          have a3 := K1.cell 3
          have a4 := K1.cell 4
          have a5 := K1.cell 5
          clear hc hp hxl hz K1 CX htk e1 HO HB3 HK3
          obtain ⟨Av, cv, hv, _⟩ := own_texts HO2.out
          subst hv
          go_wp2_with fail
          refine CX2.out.mono ?_
          rintro e w3 ⟨rfl, hx⟩
          have HB2 := Lib.hid (hop HA.out (Nat.le_refl _) hx)
          have hown := OwnR.below HOA.out hx
          unfold OwnR at hown
          obtain ⟨q, hq⟩ : ∃ q, (headT M :: (S.take k).map putG).length = q := ⟨_, rfl⟩
          have hqk : q = k + 1 := by rw [← hq, List.length_cons, List.length_map, List.length_take]; omega
          rw [hq] at hown
          have HQ := Lib.hid hq
          have HQK := Lib.hid hqk
          have HOW := Lib.hid hown
          have hsz3 := HB2.out.size
          have hq101 : q ≤ 101 := by omega
          clear hx HA HOA CX2 a0 a1 a2 a3 a4 a5 c0 c1 c2 c3 c4 c5 hown hqk
          rw [hq]
          clear hq
          go_wp2_with (at_builtin; refine wpList_append_own _ rfl (.tmp 39) (.tmp 42) 44 rfl W.heap.size 9 i0 (.string ⟨#[]⟩) 1 16 Tryz.underlying44 hi hz0 hz1 hz2 rfl (by decide) _ _ _ rfl (World.ownsRow.alloc HOW.out _) ⟨w3.heap.size, 0, none⟩ 1 1 [.string z] rfl rfl (new_cells_at _ _ _ _ (by simp)) (by intro u hu; rw [List.mem_singleton] at hu; rw [hu]; rfl) (by unfold maxLen; omega) (by omega) (by simp; omega) ?_)
          intro v' w4 hown' hgrow _
          have HB4 := Lib.hid ((HB2.out.alloc hsz3 _).grown hgrow (by simp; omega) (fun k hk => (World.ownsRow.lt HOW.out k hk).1))
          have HO4 := Lib.hid (show OwnR textV 1 w4 W.heap.size 9 v' (headT M :: (S.take (k + 1)).map putG) from by
            rw [HTK.out, List.map_append, List.map_cons, List.map_nil, HZ.out, ← List.cons_append]
            refine OwnR.snoc ?_
            rw [HQ.out]
            first
            | exact hown'
            | (rw [← List.map_take] at hown'; exact hown'))
          clear hown' hgrow
          go_wp2
          go_round
          case rel => exact ⟨k + 1, by omega, by go_num, HO4, HB4⟩
          case measure => first | (simp [intOf]; done) | (simp [intOf]; omega)
        · have hkm : k = m := by omega
          subst hkm
          have hI2 : ¬ (k : Int) < k := by omega
          have ho := HO2.out
          rw [List.take_of_length_le (by rw [HS.out.1]; omega)] at ho
          obtain ⟨Av, cv, hv, hcap, hT⟩ := own_texts ho
          have hlen : (headT M :: S.map putG).length = k + 1 := by rw [List.length_cons, List.length_map, HS.out.1]
          obtain ⟨q, hq⟩ : ∃ q, (headT M :: S.map putG).length = q := ⟨_, rfl⟩
          have C := join_any ⟨#[32]⟩ Av (headT M :: S.map putG).length cv (headT M :: S.map putG) (by omega) hcap (Nat.le_trans HJ2.out (by decide)) wr hT
          rw [show (⟨(joinB ⟨#[32]⟩ (headT M :: S.map putG)).toArray⟩ : ByteArray) = R from HR.out, hq] at C
          have C2 := Lib.hid C
          have hlen2 : (headT M :: (S.take k).map putG).length = q := by rw [← hq, List.take_of_length_le (by rw [HS.out.1]; omega)]
          rw [hq] at hv
          clear ho hT hlen C hq hcap e1 HO HB3 HK3
          subst hv
          go_wp2_with fail
          refine C2.out.mono ?_
          rintro e w3 ⟨rfl, hx⟩
          have HB4 := Lib.hid (hop HB.out (Nat.le_refl _) hx)
          clear hx
          go_wp2
          go_ret
          exact ⟨rfl, HB4.out⟩
end Go.Proofs.YtepokdmkdnlbfaaGreatDoor
