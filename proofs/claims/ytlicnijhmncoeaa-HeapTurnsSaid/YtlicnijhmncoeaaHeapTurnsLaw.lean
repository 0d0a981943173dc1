/- Popped and pushed again, the first one comes back, behind those alike; the number there are stays: the walk of the law. -/
import Derived.Test.YtlicnijhmncoeaaChecked
import Derived.Test.YtlicnijhmncoeaaRows
import Derived.Test.YtlicnijhmncoeaaHeapExam
import Derived.Test.YtlicnijhmncoeaaHeap8Box
import Derived.Test.YtlicnijhmncoeaaHeapTurnsMath
namespace Go.Proofs.Ytlicnijhmncoeaa
open Go.RowKit
set_option linter.unusedVariables false
set_option linter.unusedSimpArgs false

theorem infoByteH : (Try.prog.info? 5).map (fun i => (i.zero, i.size, i.bytes)) = some (some (.int .u8 0), 1, 1) := by kernel_rfl
theorem own_lit {w : World} {B e size g cap n m : Nat} {xs : List Value} (h : w.ownsRow B e size (.slice (some ⟨g, 0, none⟩) n cap) m xs) : B ≤ g ∧ g < w.heap.size ∧ ∀ j, j < m * size → w.cell? ⟨g, j, none⟩ = xs[j]? := by
  rcases h.2 with ⟨h0, _⟩ | ⟨g', cap', cur, hv, hg, hh, _⟩
  · cases h0
  · injection hv with hv hn _
    injection hv with hv
    injection hv with hv
    subst hv
    subst hn
    exact ⟨hg, lt_of_block hh, fun j hj => h.cellAt j hj⟩
theorem u8_key (z : Int) (z0 : 0 ≤ z) (z1 : z ≤ 255) : IntKind.u8.wrap (z.tdiv 64) = U8.tenK z ∧ 0 ≤ U8.tenK z ∧ U8.tenK z ≤ 3 := by
  unfold U8.tenK
  rw [Int.tdiv_eq_ediv_of_nonneg z0, IntKind.wrap_u8]
  omega
/-- what the rounds keep -/
structure TurnS (w : World) (b : Nat) (v : Value) (F G : List Int) (a : Int) (came j : Nat) : Prop where
  st : ∃ M, U8.HeapO w b v M came ∧ M.map KeyP.it = rotF F j ++ G
  fst : ∀ y ∈ F, U8.tenK y = a
  oth : ∀ y ∈ G, a < U8.tenK y
theorem turn_start {w : World} {b : Nat} {v : Value} {xs : List Int} {n : Nat} (h : U8.HeapO w b v (putP U8.tenK 0 xs []) n) : ∃ G, TurnS w b v (xs.filter fun x => decide (U8.tenK x = leastL U8.tenK xs)) G (leastL U8.tenK xs) n 0 ∧ (xs.filter fun x => decide (U8.tenK x = leastL U8.tenK xs)).length + G.length = xs.length := by
  obtain ⟨G, h1, h2⟩ := putK_split U8.tenK (leastL U8.tenK xs) xs [] [] (least_le U8.tenK xs) (fun y hy => absurd hy List.not_mem_nil) (fun y hy => absurd hy List.not_mem_nil)
  have h3 := congrArg List.length h2
  have h4 := putP_len U8.tenK xs 0 []
  rw [← List.length_map (f := KeyP.it), putP_map U8.tenK xs 0 [] (fun y hy => absurd hy List.not_mem_nil)] at h4
  refine ⟨G, ⟨⟨_, h, ?_⟩, fun y hy => ?_, h1⟩, by simp at h3 h4; omega⟩
  · rw [putP_map U8.tenK xs 0 [] (fun y hy => absurd hy List.not_mem_nil), rot_zero]
    simpa using h2
  · simpa using (List.mem_filter.1 hy).2
theorem TurnS.len {w : World} {b : Nat} {v : Value} {F G : List Int} {a : Int} {came j : Nat} (h : TurnS w b v F G a came j) : ∃ M, U8.HeapO w b v M came ∧ M.length = F.length + G.length := by
  obtain ⟨M, h1, h2⟩ := h.st
  refine ⟨M, h1, ?_⟩
  have := congrArg List.length h2
  rw [List.length_map, List.length_append] at this
  rw [this]
  unfold rotF
  rw [List.length_append, List.length_drop, List.length_take]
  omega
/-- the head, and what is left; and what comes of it when the head is put in again -/
theorem TurnS.pop {w : World} {b : Nat} {v : Value} {F G : List Int} {a : Int} {came j : Nat} (h : TurnS w b v F G a came j) (hj : j < F.length) : ∃ m M, m.it = F[j] ∧ U8.HeapO w b v (m :: M) came ∧
    ∀ (w' : World) (v' : Value), U8.HeapO w' b v' M came → ∀ (w2 : World) (v2 : Value) , U8.HeapO w2 b v2 (putP U8.tenK came [m.it] M) (came + 1) → TurnS w2 b v2 F G a (came + 1) ((j + 1) % F.length) := by
  obtain ⟨M0, h1, h2⟩ := h.st
  rw [rot_head F j hj] at h2
  cases M0 with
  | nil => cases h2
  | cons m M =>
    rw [List.map_cons, List.cons_append] at h2
    obtain ⟨e1, e2⟩ := List.cons.inj h2
    refine ⟨m, M, e1, h1, fun w' v' hp w2 v2 hq => ⟨⟨_, hq, ?_⟩, h.fst, h.oth⟩⟩
    rw [putP_map U8.tenK [m.it] came M hp.old, e2, e1]
    exact rot_round U8.tenK a F G j hj h.fst h.oth

set_option maxRecDepth 100000 in
set_option maxHeartbeats 1600000 in
theorem heapTurns_walk {W : World} (A : Option Addr) (n c : Nat) (zs : List Int) (t : Int) (hz : Ints .u8 W A n zs) (hc : n ≤ c) (hm : c ≤ maxLen) (ht : (Lit.int .u8 t).wf = true) :
    Calls Try.prog 5 #[.slice A n c, .int .u8 t] W fun e w' => e = .returned (.bool true) ∧ Below W.heap.size W w' := by
  obtain ⟨i0, hi, hz0, hz1, hz2⟩ := info_parts infoByteH
  obtain ⟨t0, t1⟩ := bdu8 ht
  have hm' : c ≤ 9223372036854775807 := by unfold maxLen at hm; omega
  obtain ⟨T, hT, hT30⟩ : ∃ T : Nat, t.tmod 30 = (T : Int) ∧ T < 30 := ⟨(t.tmod 30).toNat, by rw [Int.tmod_eq_emod_of_nonneg t0]; omega, by rw [Int.tmod_eq_emod_of_nonneg t0]; omega⟩
  have hTw : IntKind.u8.wrap (T : Int) = (T : Int) := by rw [IntKind.wrap_u8]; omega
  have hTw2 : IntKind.i64.wrap (T : Int) = (T : Int) := by rw [IntKind.wrap_i64]; omega
  obtain ⟨m, hmn, hm30, hmm⟩ : ∃ m, m ≤ n ∧ m ≤ 20 ∧ ((n ≤ 20 ∧ m = n) ∨ (20 < n ∧ m = 20)) := ⟨min n 20, by omega, by omega, by omega⟩
  have HI := Lib.hid (hz.less hmn)
  have hlen : (zs.take m).length = m := (hz.less hmn).1
  obtain ⟨xs, hxs⟩ : ∃ xs, zs.take m = xs := ⟨_, rfl⟩
  rw [hxs] at HI hlen
  have HLEN := Lib.hid hlen
  clear hz hxs hlen ht
  rcases hmm with ⟨h30, hmn2⟩ | ⟨h30, hm2⟩
  · subst hmn2
    have h30I : (m : Int) ≤ 20 := by omega
    go_enter Try.func5, Try.ntmps5
    go_wp2_with fail
    refine (examples_any W).mono ?_
    rintro e w1 ⟨rfl, hb1⟩
    have HB1 := Lib.hid hb1
    have hsz1 := hb1.size
    clear hb1
    go_wp2_with fail
    refine (U8.newO_any none 0 0 [] rfl (by omega) w1 (U8.IntsA.of (ints_none _ _) (fun _ g o h => by cases h))).mono ?_
    rintro e w2 ⟨rfl, hb2, v2, hs2⟩
    have HB2 := Lib.hid (hop HB1.out (Nat.le_refl _) hb2)
    have HS2 := Lib.hid hs2
    obtain ⟨b, hb⟩ : ∃ b, w1.heap.size = b := ⟨_, rfl⟩
    rw [hb] at hsz1 HS2 ⊢
    clear hb hb2 hs2 HB1
    go_wp2_with fail
    refine (U8.pushO_any b v2 _ 0 A m c xs HLEN.out (by omega) w2 HS2.out (U8.IntsA.old_ HI.out HB2.out hsz1 (fun k hk => (HS2.out.own k hk).1))).mono ?_
    rintro e w3 ⟨rfl, v3, hs3, hg3⟩
    have HB3 := Lib.hid (HS2.out.over hsz1 HB2.out hg3)
    rw [show putP U8.tenK 0 ([] : List Int) [] = [] from rfl, Nat.zero_add] at hs3
    have HS3 := Lib.hid hs3
    clear hs3 hg3 HS2 HB2
    go_wp2
    go_loopw [8, 9] (fun lv iv wr => ∃ (k : Nat) (z : Int), k ≤ m ∧ iv = .int .i64 (k : Int) ∧ lv = .int .u8 z ∧ 0 ≤ z ∧ z ≤ 255 ∧ Hid (leastL U8.tenK (xs.take k) = z) ∧ wr = w3) (fun _ iv _ => m - (intOf iv).toNat)
    case atStart => exact ⟨0, 255, Nat.zero_le _, rfl, rfl, by omega, by omega, Lib.hid rfl, rfl⟩
    case round =>
      obtain ⟨k, z, hkm, rfl, rfl, z0, z1, HZ, rfl⟩ := hrel
      by_cases hk : k < m
      · have hkI : (k : Int) < (m : Int) := by omega
        obtain ⟨b1, o1, hA, hlt1, hc1⟩ := (HI.out.below HB3.out).2.2 (by omega)
        have c1 := hc1 k hk
        have hx1 := bdu8 (HI.out.2.1 (xs.getD k 0) (by rw [List.getD_eq_getElem?_getD, List.getElem?_eq_getElem (by rw [HLEN.out]; exact hk)]; exact List.getElem_mem _))
        have hsn : xs.take (k + 1) = xs.take k ++ [xs.getD k 0] := by
          have := HLEN.out
          rw [List.take_succ_eq_append_getElem (by omega), List.getD_eq_getElem?_getD, List.getElem?_eq_getElem (by omega)]
          rfl
        obtain ⟨x, hx⟩ : ∃ x, xs.getD k 0 = x := ⟨_, rfl⟩
        rw [hx] at c1 hx1 hsn
        obtain ⟨hq, y0, y1⟩ := u8_key x hx1.1 hx1.2
        have hst := leastL_snoc U8.tenK (xs.take k) x
        rw [← hsn, HZ.out] at hst
        obtain ⟨y, hy⟩ : ∃ y, U8.tenK x = y := ⟨_, rfl⟩
        rw [hy] at hq y0 y1 hst
        have HST := Lib.hid hst
        obtain ⟨x0, x1⟩ := hx1
        subst hA
        clear hc1 hsn hx hst hy HZ
        by_cases hzy : z ≤ y
        · rw [if_pos hzy] at HST
          go_wp2
          go_round
          case rel => exact ⟨k + 1, z, by omega, by first | rfl | go_num, rfl, z0, z1, HST, by first | rfl | trivial⟩
          case measure => simp [intOf]; omega
        · rw [if_neg hzy] at HST
          go_wp2
          go_round
          case rel => exact ⟨k + 1, y, by omega, by first | rfl | go_num, by rw [if_pos (by omega)], y0, by omega, HST, by first | rfl | trivial⟩
          case measure => simp [intOf]; omega
      · obtain rfl : k = m := by omega
        rw [List.take_of_length_le (by rw [HLEN.out]; exact Nat.le_refl _)] at HZ
        obtain ⟨w4, hw4⟩ : ∃ v, v = wr := ⟨_, rfl⟩
        subst hw4
        have hltb := HS3.out.lt
        obtain ⟨G, HTS, hFG⟩ := turn_start HS3.out
        rw [HZ.out] at HTS hFG
        rw [HLEN.out] at hFG
        have hFl : ∀ j, ((xs.take j).filter fun x => decide (U8.tenK x = z)).length ≤ k := fun j => by
          refine Nat.le_trans (List.length_filter_le _ _) ?_
          have := HLEN.out
          rw [List.length_take]
          omega
        have HFL := Lib.hid hFl
        have hF0 : 0 < k → 0 < (xs.filter fun x => decide (U8.tenK x = z)).length := fun h0 => by
          have h := least_is U8.tenK xs (by rw [HLEN.out]; exact h0) (fun x hx => by
            have := bdu8 (HI.out.2.1 x hx)
            have := (u8_key x this.1 this.2).2.2
            omega)
          rw [HZ.out] at h
          exact h
        have hAp : ∀ fv : Value, (∀ g, fv.ownBlock = some g → w4.heap.size ≤ g) → U8.ApartV v3 fv := fun fv hfv g hg hl => by
          have h1 := (HS3.out.own g hg).2
          have h2 := hfv g hl
          omega
        have HAP := Lib.hid hAp
        have HTS3 := Lib.hid HTS
        have HF0 := Lib.hid hF0
        have HFG := Lib.hid hFG
        obtain ⟨f, hf⟩ : ∃ f, (xs.filter fun x => decide (U8.tenK x = z)) = f := ⟨_, rfl⟩
        rw [hf] at HTS3 HF0 HFG
        have HF := Lib.hid hf
        clear HTS hFG hFl hF0 hAp hf HS3 HZ
        go_wp2
        go_loopw [7, 10] (fun fv iv wr => ∃ j : Nat, j ≤ k ∧ iv = .int .i64 (j : Int) ∧ Hid (OwnI .u8 wr w4.heap.size 5 fv ((xs.take j).filter fun x => decide (U8.tenK x = z))) ∧ Hid (Below w4.heap.size w4 wr)) (fun _ iv _ => k - (intOf iv).toNat)
        case atStart => exact ⟨0, Nat.zero_le _, rfl, Lib.hid (OwnI.nil _ _ _ _), Lib.hid (Below.refl _ _)⟩
        case round =>
          obtain ⟨j, hjk, rfl, HO, HBL⟩ := hrel
          by_cases hj : j < k
          · have hjI : (j : Int) < (k : Int) := by omega
            obtain ⟨b1, o1, hA, hlt1, hc1⟩ := (HI.out.below (hop HB3.out (Nat.le_refl _) HBL.out)).2.2 (by omega)
            have c1 := hc1 j hj
            have hx1 := bdu8 (HI.out.2.1 (xs.getD j 0) (by rw [List.getD_eq_getElem?_getD, List.getElem?_eq_getElem (by rw [HLEN.out]; exact hj)]; exact List.getElem_mem _))
            have hsn : xs.take (j + 1) = xs.take j ++ [xs.getD j 0] := by
              have := HLEN.out
              rw [List.take_succ_eq_append_getElem (by omega), List.getD_eq_getElem?_getD, List.getElem?_eq_getElem (by omega)]
              rfl
            obtain ⟨x, hx⟩ : ∃ x, xs.getD j 0 = x := ⟨_, rfl⟩
            rw [hx] at c1 hx1 hsn
            obtain ⟨hq, y0, y1⟩ := u8_key x hx1.1 hx1.2
            have hfs : (xs.take (j + 1)).filter (fun x => decide (U8.tenK x = z)) = (xs.take j).filter (fun x => decide (U8.tenK x = z)) ++ if U8.tenK x = z then [x] else [] := by
              rw [hsn, List.filter_append, List.filter_cons]
              simp only [decide_eq_true_eq, List.filter_nil]
            obtain ⟨y, hy⟩ : ∃ y, U8.tenK x = y := ⟨_, rfl⟩
            rw [hy] at hq y0 y1 hfs
            obtain ⟨x0, x1⟩ := hx1
            have hl := HFL.out j
            obtain ⟨L, hL⟩ : ∃ L, (xs.take j).filter (fun x => decide (U8.tenK x = z)) = L := ⟨_, rfl⟩
            rw [hL] at hfs HO hl
            have HFS := Lib.hid hfs
            have hsz := HBL.out.size
            subst hA
            clear hc1 hsn hx hy hL hfs
            by_cases hyz : y = z
            · rw [if_pos hyz] at HFS
              have hO := HO.out
              go_wp2_with (at_builtin; refine wpList_append_own _ rfl (.tmp 54) (.tmp 59) 52 rfl w4.heap.size 5 i0 (.int .u8 0) 1 1 Try.underlying52 hi hz0 hz1 hz2 rfl (by decide) _ _ _ rfl (hO.alloc _) ⟨wr.heap.size, 0, none⟩ 1 1 (iV .u8 [x]) rfl rfl (new_cells_at _ _ _ _ (by simp)) (iV_one _ _) (by unfold maxLen; omega) (by omega) (by simp; omega) ?_)
              intro v' w5 hown' hgrow _
              have HB5 := Lib.hid ((HBL.out.alloc hsz _).grown hgrow (by simp; omega) (fun r hr => (World.ownsRow.lt hO r hr).1))
              have HO5 := Lib.hid (show OwnI .u8 w5 w4.heap.size 5 v' ((xs.take (j + 1)).filter fun x => decide (U8.tenK x = z)) from by rw [HFS.out]; exact OwnI.snoc (m := [x]) hown')
              clear hown' hgrow hO
              go_wp2
              go_round
              case rel => exact ⟨j + 1, by omega, by first | rfl | go_num, HO5, HB5⟩
              case measure => simp [intOf]; omega
            · rw [if_neg hyz, List.append_nil] at HFS
              have HO5 := Lib.hid (show OwnI .u8 wr w4.heap.size 5 u7 ((xs.take (j + 1)).filter fun x => decide (U8.tenK x = z)) from by rw [HFS.out]; exact HO.out)
              go_wp2
              go_round
              case rel => exact ⟨j + 1, by omega, by first | rfl | go_num, HO5, HBL⟩
              case measure => simp [intOf]; omega
          · obtain rfl : j = k := by omega
            rw [List.take_of_length_le (by rw [HLEN.out]; exact Nat.le_refl _), HF.out] at HO
            obtain ⟨w5, hw5⟩ : ∃ v, v = wr := ⟨_, rfl⟩
            subst hw5
            have HB5 := Lib.hid (hop HB3.out (Nat.le_refl _) HBL.out)
            obtain ⟨M5, hM5, hM5l⟩ := (TurnS.mk HTS3.out.st HTS3.out.fst HTS3.out.oth).len
            rcases Nat.eq_zero_or_pos j with hj0 | hj0
            · have hMn : M5 = [] := List.eq_nil_of_length_eq_zero (by rw [hM5l, HFG.out]; exact hj0)
              subst hMn
              have HS5 := Lib.hid (hM5.below HBL.out)
              have hjI : ¬ (0 : Int) < (j : Int) := by omega
              have hjz : ((0 : Nat) : Int) = (j : Int) := by omega
              have PO := U8.popO_none b v3 j w5 HS5.out
              have LN := U8.lenO_any b v3 [] j w5 HS5.out
              simp only [List.length_nil, hjz] at LN
              replace PO := Lib.hid PO
              replace LN := Lib.hid LN
              clear hM5 hM5l HS5 hjz HO HTS3 HF0 HFG HAP HF HFL
              go_wp2
              go_loopw [11] (fun iv wr => ∃ i : Nat, i ≤ T ∧ iv = .int .i64 (i : Int) ∧ wr = w5) (fun iv _ => T - (intOf iv).toNat)
              case atStart => exact ⟨0, Nat.zero_le _, rfl, rfl⟩
              case round =>
                obtain ⟨i, hiT, rfl, rfl⟩ := hrel
                by_cases hiT2 : i < T
                · have hiI : (i : Int) < (T : Int) := by omega
                  go_wp2_with fail
                  refine PO.out.mono ?_
                  rintro e w6 ⟨rfl, rfl⟩
                  go_wp2_with fail
                  refine LN.out.mono ?_
                  rintro e w7 ⟨rfl, rfl⟩
                  go_wp2
                  go_round
                  case rel => exact ⟨i + 1, by omega, by first | rfl | go_num, by first | rfl | trivial⟩
                  case measure => simp [intOf]; omega
                · obtain rfl : i = T := by omega
                  go_wp2
                  go_ret
                  exact ⟨by first | rfl | (simp; done), HB5.out⟩
            · have hjI : (0 : Int) < (j : Int) := by omega
              have hfp := HF0.out hj0
              obtain ⟨fl, hfl⟩ : ∃ n, f.length = n := ⟨_, rfl⟩
              have hfl20 : fl ≤ 20 := by have := HFG.out; omega
              have HAV := Lib.hid (HAP.out u7 (fun g hg => (World.ownsRow.lt HO.out g hg).1))
              obtain ⟨g7, c7, rfl, _, _, _⟩ := own_at HO.out hfp
              rw [hfl] at hfp HO HAV ⊢
              have HFLN := Lib.hid hfl
              have hfn : ¬ (fl : Int) = 0 := by omega
              have HTS5 := Lib.hid (show TurnS w5 b v3 f G z j 0 from ⟨by obtain ⟨M, a1, a2⟩ := HTS3.out.st; exact ⟨M, a1.below HBL.out, a2⟩, HTS3.out.fst, HTS3.out.oth⟩)
              clear hM5 hM5l HTS3 HF0 HAP HF HFL HBL hfl
              go_wp2
              go_loopw [11] (fun iv wr => ∃ (i q cm : Nat) (v1 : Value), i ≤ T ∧ iv = .int .i64 (i : Int) ∧ cm ≤ j + i ∧ q < fl ∧ i % fl = q ∧ Hid (TurnS wr b v1 f G z cm q) ∧ Hid (OwnI .u8 wr w4.heap.size 5 (.slice (some ⟨g7, 0, none⟩) fl c7) f) ∧ Hid (U8.ApartV v1 (.slice (some ⟨g7, 0, none⟩) fl c7)) ∧ Hid (Below W.heap.size W wr)) (fun iv _ => T - (intOf iv).toNat)
              case atStart => exact ⟨0, 0, j, v3, Nat.zero_le _, rfl, by omega, hfp, Nat.zero_mod _, HTS5, HO, HAV, HB5⟩
              case round =>
                obtain ⟨i, q, cm, v1, hiT, rfl, hcm, hqf, hiq, HTS, HOF, HA, HB⟩ := hrel
                by_cases hiT2 : i < T
                · have hiI : (i : Int) < (T : Int) := by omega
                  obtain ⟨m1, M1, hm1, hS1, hnext⟩ := HTS.out.pop (by rw [HFLN.out]; exact hqf)
                  rw [HFLN.out] at hnext
                  have hnq : (i + 1) % fl = (q + 1) % fl := by rw [← hiq]; exact (Nat.mod_add_mod i fl 1).symm
                  have hnq2 : (q + 1) % fl < fl := Nat.mod_lt _ (by omega)
                  have PO := U8.popO_any b v1 m1 M1 cm wr hS1
                  have hlt1 := hS1.lt
                  obtain ⟨hg7, hgl7, hcell7⟩ := own_lit HOF.out
                  have cq : wr.cell? ⟨g7, q, none⟩ = some (.int .u8 m1.it) := (hcell7 q (by rw [HFLN.out]; omega)).trans (by rw [hm1, iV, List.getElem?_map, List.getElem?_eq_getElem (by rw [HFLN.out]; exact hqf)]; rfl)
                  have hgood := hS1.good m1 List.mem_cons_self
                  obtain ⟨x, hx⟩ : ∃ x, m1.it = x := ⟨_, rfl⟩
                  rw [hx] at PO cq hgood hnext
                  have hmod : (i : Int).tmod (fl : Int) = (q : Int) := by rw [← hiq]; exact (Int.ofNat_tmod i fl).symm
                  have hqI : (q : Int) < (fl : Int) := by omega
                  have hqw : IntKind.i64.wrap (q : Int) = (q : Int) := by rw [IntKind.wrap_i64]; omega
                  have HS1 := Lib.hid hS1
                  have HNX := Lib.hid hnext
                  have HCQ := Lib.hid cq
                  clear hm1 hS1 hnext hcell7 hx cq HTS hiq
                  go_wp2_with fail
                  refine PO.mono ?_
                  rintro e w6 ⟨rfl, v6, hs6, hg6⟩
                  have HB6 := Lib.hid (HS1.out.over hsz1 HB.out hg6)
                  have HS6 := Lib.hid hs6
                  have HO6 := Lib.hid (U8.OwnI.keptH HOF.out hg6 (by have := HB5.out.size; have := hltb; omega) HA.out)
                  have HA6 := Lib.hid (HA.out.kept HOF.out hg6)
                  have cq : w6.cell? ⟨g7, q, none⟩ = some (.int .u8 x) := (World.cell?_of_block (hg6.block g7 hgl7 (by have := hltb; omega) (fun e => HA.out g7 e.symm rfl))).trans HCQ.out
                  have L6 := Lib.hid (ints_new .u8 w6 5 [x] (by intro z hz; rw [List.mem_singleton.1 hz]; simp [Lit.wf, IntKind.min, IntKind.max, IntKind.signed, IntKind.bits]; omega) w6.heap.size rfl)
                  have HBA : Below w6.heap.size w6 (w6.alloc (.cells (([x].map (Value.int .u8)).toArray) 5)) := (Below.refl _ _).alloc (Nat.le_refl _) _
                  have HS7 := Lib.hid (HS6.out.below HBA)
                  have HB7 := Lib.hid (hop HB6.out (Nat.le_refl _) HBA)
                  have HO7 := Lib.hid (HO6.out.alloc (.cells (([x].map (Value.int .u8)).toArray) 5))
                  obtain ⟨g8, hg8⟩ : ∃ g, w6.heap.size = g := ⟨_, rfl⟩
                  have hb8 := HS6.out.lt
                  have hown8 := HS6.out.own
                  rw [hg8] at L6 hb8 hown8
                  obtain ⟨w7, hw7⟩ : ∃ z, w6.alloc (.cells (([x].map (Value.int .u8)).toArray) 5) = z := ⟨_, rfl⟩
                  rw [hw7] at L6 HS7 HB7 HO7
                  simp only [List.map_cons, List.map_nil] at hw7
                  have PU := Lib.hid (U8.pushO_any b v6 M1 cm (some ⟨g8, 0, none⟩) 1 1 [x] rfl (by omega) w7 HS7.out (U8.IntsA.of L6.out (fun _ g o ho _ => by
                    injection ho with ho
                    injection ho with ho _
                    subst ho
                    exact ⟨by omega, fun e => by have := (hown8 g8 e.symm).2; omega⟩)))
                  clear PO hs6 hg6 HOF HA HB HS1 HCQ HBA L6 hb8 hown8 hgood
                  go_wp2_with fail
                  clear hg8 hw7 cq
                  refine PU.out.mono ?_
                  rintro e w8 ⟨rfl, v8, hs8, hg8⟩
                  have HB8 := Lib.hid (HS7.out.over hsz1 HB7.out hg8)
                  have HO8 := Lib.hid (U8.OwnI.keptH HO7.out hg8 (by have := hltb; omega) HA6.out)
                  have HA8 := Lib.hid (HA6.out.kept HO7.out hg8)
                  have HT8 := Lib.hid (HNX.out w6 v6 HS6.out w8 v8 hs8)
                  obtain ⟨M8, hM8, hM8l⟩ := HT8.out.len
                  have LN := U8.lenO_any b v8 M8 _ w8 hM8
                  rw [hM8l, HFG.out] at LN
                  replace LN := Lib.hid LN
                  clear hs8 hg8 hM8 hM8l PU HNX HS6 HS7 HB7 HO7 HO6 HA6 HB6
                  go_wp2_with fail
                  refine LN.out.mono ?_
                  rintro e w9 ⟨rfl, rfl⟩
                  go_wp2
                  go_round
                  case rel => exact ⟨i + 1, (q + 1) % fl, cm + 1, v8, by omega, by first | rfl | go_num, by omega, hnq2, hnq, HT8, HO8, HA8, HB8⟩
                  case measure => simp [intOf]; omega
                · obtain rfl : i = T := by omega
                  go_wp2
                  go_ret
                  exact ⟨by first | rfl | (simp; done), HB.out⟩
  · have h30I : ¬ (n : Int) ≤ 20 := by omega
    have h30J : (20 : Int) < (n : Int) := by omega
    go_enter Try.func5, Try.ntmps5
    go_wp2_with fail
    refine (examples_any W).mono ?_
    rintro e w1 ⟨rfl, hb1⟩
    have HB1 := Lib.hid hb1
    have hsz1 := hb1.size
    clear hb1
    go_wp2_with fail
    refine (U8.newO_any none 0 0 [] rfl (by omega) w1 (U8.IntsA.of (ints_none _ _) (fun _ g o h => by cases h))).mono ?_
    rintro e w2 ⟨rfl, hb2, v2, hs2⟩
    have HB2 := Lib.hid (hop HB1.out (Nat.le_refl _) hb2)
    have HS2 := Lib.hid hs2
    obtain ⟨b, hb⟩ : ∃ b, w1.heap.size = b := ⟨_, rfl⟩
    rw [hb] at hsz1 HS2 ⊢
    clear hb hb2 hs2 HB1
    go_wp2_with fail
    rw [show (Value.slice A 20 c) = Value.slice A m c by rw [hm2]]
    clear hm2 h30 h30I h30J
    refine (U8.pushO_any b v2 _ 0 A m c xs HLEN.out (by omega) w2 HS2.out (U8.IntsA.old_ HI.out HB2.out hsz1 (fun k hk => (HS2.out.own k hk).1))).mono ?_
    rintro e w3 ⟨rfl, v3, hs3, hg3⟩
    have HB3 := Lib.hid (HS2.out.over hsz1 HB2.out hg3)
    rw [show putP U8.tenK 0 ([] : List Int) [] = [] from rfl, Nat.zero_add] at hs3
    have HS3 := Lib.hid hs3
    clear hs3 hg3 HS2 HB2
    go_wp2
    go_loopw [8, 9] (fun lv iv wr => ∃ (k : Nat) (z : Int), k ≤ m ∧ iv = .int .i64 (k : Int) ∧ lv = .int .u8 z ∧ 0 ≤ z ∧ z ≤ 255 ∧ Hid (leastL U8.tenK (xs.take k) = z) ∧ wr = w3) (fun _ iv _ => m - (intOf iv).toNat)
    case atStart => exact ⟨0, 255, Nat.zero_le _, rfl, rfl, by omega, by omega, Lib.hid rfl, rfl⟩
    case round =>
      obtain ⟨k, z, hkm, rfl, rfl, z0, z1, HZ, rfl⟩ := hrel
      by_cases hk : k < m
      · have hkI : (k : Int) < (m : Int) := by omega
        obtain ⟨b1, o1, hA, hlt1, hc1⟩ := (HI.out.below HB3.out).2.2 (by omega)
        have c1 := hc1 k hk
        have hx1 := bdu8 (HI.out.2.1 (xs.getD k 0) (by rw [List.getD_eq_getElem?_getD, List.getElem?_eq_getElem (by rw [HLEN.out]; exact hk)]; exact List.getElem_mem _))
        have hsn : xs.take (k + 1) = xs.take k ++ [xs.getD k 0] := by
          have := HLEN.out
          rw [List.take_succ_eq_append_getElem (by omega), List.getD_eq_getElem?_getD, List.getElem?_eq_getElem (by omega)]
          rfl
        obtain ⟨x, hx⟩ : ∃ x, xs.getD k 0 = x := ⟨_, rfl⟩
        rw [hx] at c1 hx1 hsn
        obtain ⟨hq, y0, y1⟩ := u8_key x hx1.1 hx1.2
        have hst := leastL_snoc U8.tenK (xs.take k) x
        rw [← hsn, HZ.out] at hst
        obtain ⟨y, hy⟩ : ∃ y, U8.tenK x = y := ⟨_, rfl⟩
        rw [hy] at hq y0 y1 hst
        have HST := Lib.hid hst
        obtain ⟨x0, x1⟩ := hx1
        subst hA
        clear hc1 hsn hx hst hy HZ
        by_cases hzy : z ≤ y
        · rw [if_pos hzy] at HST
          go_wp2
          go_round
          case rel => exact ⟨k + 1, z, by omega, by first | rfl | go_num, rfl, z0, z1, HST, by first | rfl | trivial⟩
          case measure => simp [intOf]; omega
        · rw [if_neg hzy] at HST
          go_wp2
          go_round
          case rel => exact ⟨k + 1, y, by omega, by first | rfl | go_num, by rw [if_pos (by omega)], y0, by omega, HST, by first | rfl | trivial⟩
          case measure => simp [intOf]; omega
      · obtain rfl : k = m := by omega
        rw [List.take_of_length_le (by rw [HLEN.out]; exact Nat.le_refl _)] at HZ
        obtain ⟨w4, hw4⟩ : ∃ v, v = wr := ⟨_, rfl⟩
        subst hw4
        have hltb := HS3.out.lt
        obtain ⟨G, HTS, hFG⟩ := turn_start HS3.out
        rw [HZ.out] at HTS hFG
        rw [HLEN.out] at hFG
        have hFl : ∀ j, ((xs.take j).filter fun x => decide (U8.tenK x = z)).length ≤ k := fun j => by
          refine Nat.le_trans (List.length_filter_le _ _) ?_
          have := HLEN.out
          rw [List.length_take]
          omega
        have HFL := Lib.hid hFl
        have hF0 : 0 < k → 0 < (xs.filter fun x => decide (U8.tenK x = z)).length := fun h0 => by
          have h := least_is U8.tenK xs (by rw [HLEN.out]; exact h0) (fun x hx => by
            have := bdu8 (HI.out.2.1 x hx)
            have := (u8_key x this.1 this.2).2.2
            omega)
          rw [HZ.out] at h
          exact h
        have hAp : ∀ fv : Value, (∀ g, fv.ownBlock = some g → w4.heap.size ≤ g) → U8.ApartV v3 fv := fun fv hfv g hg hl => by
          have h1 := (HS3.out.own g hg).2
          have h2 := hfv g hl
          omega
        have HAP := Lib.hid hAp
        have HTS3 := Lib.hid HTS
        have HF0 := Lib.hid hF0
        have HFG := Lib.hid hFG
        obtain ⟨f, hf⟩ : ∃ f, (xs.filter fun x => decide (U8.tenK x = z)) = f := ⟨_, rfl⟩
        rw [hf] at HTS3 HF0 HFG
        have HF := Lib.hid hf
        clear HTS hFG hFl hF0 hAp hf HS3 HZ
        go_wp2
        go_loopw [7, 10] (fun fv iv wr => ∃ j : Nat, j ≤ k ∧ iv = .int .i64 (j : Int) ∧ Hid (OwnI .u8 wr w4.heap.size 5 fv ((xs.take j).filter fun x => decide (U8.tenK x = z))) ∧ Hid (Below w4.heap.size w4 wr)) (fun _ iv _ => k - (intOf iv).toNat)
        case atStart => exact ⟨0, Nat.zero_le _, rfl, Lib.hid (OwnI.nil _ _ _ _), Lib.hid (Below.refl _ _)⟩
        case round =>
          obtain ⟨j, hjk, rfl, HO, HBL⟩ := hrel
          by_cases hj : j < k
          · have hjI : (j : Int) < (k : Int) := by omega
            obtain ⟨b1, o1, hA, hlt1, hc1⟩ := (HI.out.below (hop HB3.out (Nat.le_refl _) HBL.out)).2.2 (by omega)
            have c1 := hc1 j hj
            have hx1 := bdu8 (HI.out.2.1 (xs.getD j 0) (by rw [List.getD_eq_getElem?_getD, List.getElem?_eq_getElem (by rw [HLEN.out]; exact hj)]; exact List.getElem_mem _))
            have hsn : xs.take (j + 1) = xs.take j ++ [xs.getD j 0] := by
              have := HLEN.out
              rw [List.take_succ_eq_append_getElem (by omega), List.getD_eq_getElem?_getD, List.getElem?_eq_getElem (by omega)]
              rfl
            obtain ⟨x, hx⟩ : ∃ x, xs.getD j 0 = x := ⟨_, rfl⟩
            rw [hx] at c1 hx1 hsn
            obtain ⟨hq, y0, y1⟩ := u8_key x hx1.1 hx1.2
            have hfs : (xs.take (j + 1)).filter (fun x => decide (U8.tenK x = z)) = (xs.take j).filter (fun x => decide (U8.tenK x = z)) ++ if U8.tenK x = z then [x] else [] := by
              rw [hsn, List.filter_append, List.filter_cons]
              simp only [decide_eq_true_eq, List.filter_nil]
            obtain ⟨y, hy⟩ : ∃ y, U8.tenK x = y := ⟨_, rfl⟩
            rw [hy] at hq y0 y1 hfs
            obtain ⟨x0, x1⟩ := hx1
            have hl := HFL.out j
            obtain ⟨L, hL⟩ : ∃ L, (xs.take j).filter (fun x => decide (U8.tenK x = z)) = L := ⟨_, rfl⟩
            rw [hL] at hfs HO hl
            have HFS := Lib.hid hfs
            have hsz := HBL.out.size
            subst hA
            clear hc1 hsn hx hy hL hfs
            by_cases hyz : y = z
            · rw [if_pos hyz] at HFS
              have hO := HO.out
              go_wp2_with (at_builtin; refine wpList_append_own _ rfl (.tmp 54) (.tmp 59) 52 rfl w4.heap.size 5 i0 (.int .u8 0) 1 1 Try.underlying52 hi hz0 hz1 hz2 rfl (by decide) _ _ _ rfl (hO.alloc _) ⟨wr.heap.size, 0, none⟩ 1 1 (iV .u8 [x]) rfl rfl (new_cells_at _ _ _ _ (by simp)) (iV_one _ _) (by unfold maxLen; omega) (by omega) (by simp; omega) ?_)
              intro v' w5 hown' hgrow _
              have HB5 := Lib.hid ((HBL.out.alloc hsz _).grown hgrow (by simp; omega) (fun r hr => (World.ownsRow.lt hO r hr).1))
              have HO5 := Lib.hid (show OwnI .u8 w5 w4.heap.size 5 v' ((xs.take (j + 1)).filter fun x => decide (U8.tenK x = z)) from by rw [HFS.out]; exact OwnI.snoc (m := [x]) hown')
              clear hown' hgrow hO
              go_wp2
              go_round
              case rel => exact ⟨j + 1, by omega, by first | rfl | go_num, HO5, HB5⟩
              case measure => simp [intOf]; omega
            · rw [if_neg hyz, List.append_nil] at HFS
              have HO5 := Lib.hid (show OwnI .u8 wr w4.heap.size 5 u7 ((xs.take (j + 1)).filter fun x => decide (U8.tenK x = z)) from by rw [HFS.out]; exact HO.out)
              go_wp2
              go_round
              case rel => exact ⟨j + 1, by omega, by first | rfl | go_num, HO5, HBL⟩
              case measure => simp [intOf]; omega
          · obtain rfl : j = k := by omega
            rw [List.take_of_length_le (by rw [HLEN.out]; exact Nat.le_refl _), HF.out] at HO
            obtain ⟨w5, hw5⟩ : ∃ v, v = wr := ⟨_, rfl⟩
            subst hw5
            have HB5 := Lib.hid (hop HB3.out (Nat.le_refl _) HBL.out)
            obtain ⟨M5, hM5, hM5l⟩ := (TurnS.mk HTS3.out.st HTS3.out.fst HTS3.out.oth).len
            rcases Nat.eq_zero_or_pos j with hj0 | hj0
            · have hMn : M5 = [] := List.eq_nil_of_length_eq_zero (by rw [hM5l, HFG.out]; exact hj0)
              subst hMn
              have HS5 := Lib.hid (hM5.below HBL.out)
              have hjI : ¬ (0 : Int) < (j : Int) := by omega
              have hjz : ((0 : Nat) : Int) = (j : Int) := by omega
              have PO := U8.popO_none b v3 j w5 HS5.out
              have LN := U8.lenO_any b v3 [] j w5 HS5.out
              simp only [List.length_nil, hjz] at LN
              replace PO := Lib.hid PO
              replace LN := Lib.hid LN
              clear hM5 hM5l HS5 hjz HO HTS3 HF0 HFG HAP HF HFL
              go_wp2
              go_loopw [11] (fun iv wr => ∃ i : Nat, i ≤ T ∧ iv = .int .i64 (i : Int) ∧ wr = w5) (fun iv _ => T - (intOf iv).toNat)
              case atStart => exact ⟨0, Nat.zero_le _, rfl, rfl⟩
              case round =>
                obtain ⟨i, hiT, rfl, rfl⟩ := hrel
                by_cases hiT2 : i < T
                · have hiI : (i : Int) < (T : Int) := by omega
                  go_wp2_with fail
                  refine PO.out.mono ?_
                  rintro e w6 ⟨rfl, rfl⟩
                  go_wp2_with fail
                  refine LN.out.mono ?_
                  rintro e w7 ⟨rfl, rfl⟩
                  go_wp2
                  go_round
                  case rel => exact ⟨i + 1, by omega, by first | rfl | go_num, by first | rfl | trivial⟩
                  case measure => simp [intOf]; omega
                · obtain rfl : i = T := by omega
                  go_wp2
                  go_ret
                  exact ⟨by first | rfl | (simp; done), HB5.out⟩
            · have hjI : (0 : Int) < (j : Int) := by omega
              have hfp := HF0.out hj0
              obtain ⟨fl, hfl⟩ : ∃ n, f.length = n := ⟨_, rfl⟩
              have hfl20 : fl ≤ 20 := by have := HFG.out; omega
              have HAV := Lib.hid (HAP.out u7 (fun g hg => (World.ownsRow.lt HO.out g hg).1))
              obtain ⟨g7, c7, rfl, _, _, _⟩ := own_at HO.out hfp
              rw [hfl] at hfp HO HAV ⊢
              have HFLN := Lib.hid hfl
              have hfn : ¬ (fl : Int) = 0 := by omega
              have HTS5 := Lib.hid (show TurnS w5 b v3 f G z j 0 from ⟨by obtain ⟨M, a1, a2⟩ := HTS3.out.st; exact ⟨M, a1.below HBL.out, a2⟩, HTS3.out.fst, HTS3.out.oth⟩)
              clear hM5 hM5l HTS3 HF0 HAP HF HFL HBL hfl
              go_wp2
              go_loopw [11] (fun iv wr => ∃ (i q cm : Nat) (v1 : Value), i ≤ T ∧ iv = .int .i64 (i : Int) ∧ cm ≤ j + i ∧ q < fl ∧ i % fl = q ∧ Hid (TurnS wr b v1 f G z cm q) ∧ Hid (OwnI .u8 wr w4.heap.size 5 (.slice (some ⟨g7, 0, none⟩) fl c7) f) ∧ Hid (U8.ApartV v1 (.slice (some ⟨g7, 0, none⟩) fl c7)) ∧ Hid (Below W.heap.size W wr)) (fun iv _ => T - (intOf iv).toNat)
              case atStart => exact ⟨0, 0, j, v3, Nat.zero_le _, rfl, by omega, hfp, Nat.zero_mod _, HTS5, HO, HAV, HB5⟩
              case round =>
                obtain ⟨i, q, cm, v1, hiT, rfl, hcm, hqf, hiq, HTS, HOF, HA, HB⟩ := hrel
                by_cases hiT2 : i < T
                · have hiI : (i : Int) < (T : Int) := by omega
                  obtain ⟨m1, M1, hm1, hS1, hnext⟩ := HTS.out.pop (by rw [HFLN.out]; exact hqf)
                  rw [HFLN.out] at hnext
                  have hnq : (i + 1) % fl = (q + 1) % fl := by rw [← hiq]; exact (Nat.mod_add_mod i fl 1).symm
                  have hnq2 : (q + 1) % fl < fl := Nat.mod_lt _ (by omega)
                  have PO := U8.popO_any b v1 m1 M1 cm wr hS1
                  have hlt1 := hS1.lt
                  obtain ⟨hg7, hgl7, hcell7⟩ := own_lit HOF.out
                  have cq : wr.cell? ⟨g7, q, none⟩ = some (.int .u8 m1.it) := (hcell7 q (by rw [HFLN.out]; omega)).trans (by rw [hm1, iV, List.getElem?_map, List.getElem?_eq_getElem (by rw [HFLN.out]; exact hqf)]; rfl)
                  have hgood := hS1.good m1 List.mem_cons_self
                  obtain ⟨x, hx⟩ : ∃ x, m1.it = x := ⟨_, rfl⟩
                  rw [hx] at PO cq hgood hnext
                  have hmod : (i : Int).tmod (fl : Int) = (q : Int) := by rw [← hiq]; exact (Int.ofNat_tmod i fl).symm
                  have hqI : (q : Int) < (fl : Int) := by omega
                  have hqw : IntKind.i64.wrap (q : Int) = (q : Int) := by rw [IntKind.wrap_i64]; omega
                  have HS1 := Lib.hid hS1
                  have HNX := Lib.hid hnext
                  have HCQ := Lib.hid cq
                  clear hm1 hS1 hnext hcell7 hx cq HTS hiq
                  go_wp2_with fail
                  refine PO.mono ?_
                  rintro e w6 ⟨rfl, v6, hs6, hg6⟩
                  have HB6 := Lib.hid (HS1.out.over hsz1 HB.out hg6)
                  have HS6 := Lib.hid hs6
                  have HO6 := Lib.hid (U8.OwnI.keptH HOF.out hg6 (by have := HB5.out.size; have := hltb; omega) HA.out)
                  have HA6 := Lib.hid (HA.out.kept HOF.out hg6)
                  have cq : w6.cell? ⟨g7, q, none⟩ = some (.int .u8 x) := (World.cell?_of_block (hg6.block g7 hgl7 (by have := hltb; omega) (fun e => HA.out g7 e.symm rfl))).trans HCQ.out
                  have L6 := Lib.hid (ints_new .u8 w6 5 [x] (by intro z hz; rw [List.mem_singleton.1 hz]; simp [Lit.wf, IntKind.min, IntKind.max, IntKind.signed, IntKind.bits]; omega) w6.heap.size rfl)
                  have HBA : Below w6.heap.size w6 (w6.alloc (.cells (([x].map (Value.int .u8)).toArray) 5)) := (Below.refl _ _).alloc (Nat.le_refl _) _
                  have HS7 := Lib.hid (HS6.out.below HBA)
                  have HB7 := Lib.hid (hop HB6.out (Nat.le_refl _) HBA)
                  have HO7 := Lib.hid (HO6.out.alloc (.cells (([x].map (Value.int .u8)).toArray) 5))
                  obtain ⟨g8, hg8⟩ : ∃ g, w6.heap.size = g := ⟨_, rfl⟩
                  have hb8 := HS6.out.lt
                  have hown8 := HS6.out.own
                  rw [hg8] at L6 hb8 hown8
                  obtain ⟨w7, hw7⟩ : ∃ z, w6.alloc (.cells (([x].map (Value.int .u8)).toArray) 5) = z := ⟨_, rfl⟩
                  rw [hw7] at L6 HS7 HB7 HO7
                  simp only [List.map_cons, List.map_nil] at hw7
                  have PU := Lib.hid (U8.pushO_any b v6 M1 cm (some ⟨g8, 0, none⟩) 1 1 [x] rfl (by omega) w7 HS7.out (U8.IntsA.of L6.out (fun _ g o ho _ => by
                    injection ho with ho
                    injection ho with ho _
                    subst ho
                    exact ⟨by omega, fun e => by have := (hown8 g8 e.symm).2; omega⟩)))
                  clear PO hs6 hg6 HOF HA HB HS1 HCQ HBA L6 hb8 hown8 hgood
                  go_wp2_with fail
                  clear hg8 hw7 cq
                  refine PU.out.mono ?_
                  rintro e w8 ⟨rfl, v8, hs8, hg8⟩
                  have HB8 := Lib.hid (HS7.out.over hsz1 HB7.out hg8)
                  have HO8 := Lib.hid (U8.OwnI.keptH HO7.out hg8 (by have := hltb; omega) HA6.out)
                  have HA8 := Lib.hid (HA6.out.kept HO7.out hg8)
                  have HT8 := Lib.hid (HNX.out w6 v6 HS6.out w8 v8 hs8)
                  obtain ⟨M8, hM8, hM8l⟩ := HT8.out.len
                  have LN := U8.lenO_any b v8 M8 _ w8 hM8
                  rw [hM8l, HFG.out] at LN
                  replace LN := Lib.hid LN
                  clear hs8 hg8 hM8 hM8l PU HNX HS6 HS7 HB7 HO7 HO6 HA6 HB6
                  go_wp2_with fail
                  refine LN.out.mono ?_
                  rintro e w9 ⟨rfl, rfl⟩
                  go_wp2
                  go_round
                  case rel => exact ⟨i + 1, (q + 1) % fl, cm + 1, v8, by omega, by first | rfl | go_num, by omega, hnq2, hnq, HT8, HO8, HA8, HB8⟩
                  case measure => simp [intOf]; omega
                · obtain rfl : i = T := by omega
                  go_wp2
                  go_ret
                  exact ⟨by first | rfl | (simp; done), HB.out⟩
end Go.Proofs.Ytlicnijhmncoeaa
