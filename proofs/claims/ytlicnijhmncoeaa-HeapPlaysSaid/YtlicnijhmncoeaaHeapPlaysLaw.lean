/- Numbers pushed, popped, drained, deed by deed, as the document's own heap says: the walk of the law. -/
import Derived.Test.YtlicnijhmncoeaaChecked
import Derived.Test.YtlicnijhmncoeaaRows
import Derived.Test.YtlicnijhmncoeaaHeapExam
import Derived.Test.YtlicnijhmncoeaaHeapTwo
import Derived.Test.YtlicnijhmncoeaaDeedOpen
import Derived.Deep.DeepCutAuto
import Derived.Deep.CutBlock
import Derived.Deep.LoopGhost
import Derived.Deep.RegionHeld
namespace Go.Proofs.Ytlicnijhmncoeaa
open Go.RowKit
set_option linter.unusedVariables false
set_option linter.unusedSimpArgs false

theorem u8_kind (k : Int) (k0 : 0 ≤ k) (k1 : k ≤ 255) : ∃ r : Int, IntKind.u8.wrap (k.tmod 6) = r ∧ k.tmod 6 = r ∧ 0 ≤ r ∧ r < 6 := by
  refine ⟨k.tmod 6, ?_, rfl, ?_, ?_⟩ <;> rw [Int.tmod_eq_emod_of_nonneg k0]
  · rw [IntKind.wrap_u8]
    omega
  · omega
  · omega
/-- what every deed keeps -/
structure PlayS (W w : World) (b a : Nat) (came : Nat) : Prop where
  two : ∃ v M cm u X, cm ≤ came ∧ TwoH W w b v M cm a u X ∧ RelP M X cm
theorem ref_new (w : World) : RefH (w.alloc (.cells #[.slice none 0 0] 30)) w.heap.size (.slice none 0 0) [] :=
  ⟨Blk.new _ _ _, OwnI.nil _ _ _ _, fun x hx => absurd hx List.not_mem_nil⟩
theorem two_new {W w : World} {b : Nat} {v : Value} {M : List (KeyP Int)} {came : Nat} (h : HeapO w b v M came) (hb : W.heap.size ≤ b) (hw : Below W.heap.size W w) : TwoH W (w.alloc (.cells #[.slice none 0 0] 30)) b v M came w.heap.size (.slice none 0 0) [] := by
  have h1 := h.lt
  have h2 := h.own
  refine ⟨h.below ((Below.refl _ _).alloc (Nat.le_refl _) _), ref_new w, ⟨by omega, fun e => ?_, fun e => by simp [Value.ownBlock] at e, fun k _ e => by simp [Value.ownBlock] at e⟩, hop hw (Nat.le_refl _) ((Below.refl _ _).alloc (Nat.le_refl _) _), hb, by omega⟩
  have := (h2 _ e).2
  omega

set_option maxRecDepth 100000 in
set_option maxHeartbeats 3200000 in
theorem heapPlays_walk {W : World} (A : Option Addr) (n c : Nat) (zs : List Int) (A2 : Option Addr) (n2 c2 : Nat) (ds : List DeedX) (hz : Ints .i64 W A n zs) (hc : n ≤ c) (hm : c ≤ maxLen) (hnil : A = none → c = 0) (hd : DeedsP W A2 n2 ds) (hc2 : n2 ≤ c2) (hm2 : c2 ≤ maxLen) :
    Calls Try.prog 3 #[.slice A n c, .slice A2 n2 c2] W fun e w' => e = .returned (.bool true) ∧ Below W.heap.size W w' := by
  have hm' : c ≤ 9223372036854775807 := by unfold maxLen at hm; omega
  have hm2' : n2 ≤ 9223372036854775807 := by unfold maxLen at hm2; omega
  obtain ⟨m, hmn, hm30, hmm⟩ : ∃ m, m ≤ n ∧ m ≤ 8 ∧ ((n ≤ 8 ∧ m = n) ∨ (8 < n ∧ m = 8)) := ⟨min n 8, by omega, by omega, by omega⟩
  have HI := Lib.hid (hz.less hmn)
  have hlen : (zs.take m).length = m := (hz.less hmn).1
  obtain ⟨xs, hxs⟩ : ∃ xs, zs.take m = xs := ⟨_, rfl⟩
  rw [hxs] at HI hlen
  have HLEN := Lib.hid hlen
  have HD := Lib.hid hd
  have HNIL := Lib.hid hnil
  clear hz hxs hlen hd hnil
  rcases hmm with ⟨h30, hmn2⟩ | ⟨h30, hm2e⟩
  · subst hmn2
    have h30I : (m : Int) ≤ 8 := by omega
    go_enter Try.func3, Try.ntmps3
    go_wp2_with fail
    refine (examples_any W).mono ?_
    rintro e w1 ⟨rfl, hb1⟩
    have HB1 := Lib.hid hb1
    have hsz1 := hb1.size
    clear hb1
    go_wp2_with fail
    refine (newO_any A m c xs HLEN.out (by omega) w1 (IntsA.old_ HI.out HB1.out hsz1 (fun k hk => by simp [Value.ownBlock] at hk))).mono ?_
    rintro e w2 ⟨rfl, hb2, v2, hs2⟩
    have HB2 := Lib.hid (hop HB1.out (Nat.le_refl _) hb2)
    have HT3 := Lib.hid (two_new hs2 hsz1 HB2.out)
    obtain ⟨b, hb⟩ : ∃ b, w1.heap.size = b := ⟨_, rfl⟩
    rw [hb] at hsz1 HT3 ⊢
    clear hb hb2 hs2 HB1
    obtain ⟨a, ha⟩ : ∃ a, w2.heap.size = a := ⟨_, rfl⟩
    obtain ⟨w3, hw3⟩ : ∃ z, w2.alloc (.cells #[.slice none 0 0] 30) = z := ⟨_, rfl⟩
    rw [hw3, ha] at HT3
    have RP := Lib.hid (refPush_any a (.slice none 0 0) [] A m c xs (by simp) (by omega) HNIL.out w3 HT3.out.rf (HI.out.below HT3.out.bel))
    go_wp2_with fail
    clear ha hw3
    refine RP.out.mono ?_
    rintro e w4 ⟨rfl, u4, hr4, hg4⟩
    have HP4 : Hid (PlayS W w4 b a (8 + 6 * 0)) := Lib.hid ⟨v2, _, m, u4, _, by omega, HT3.out.right hr4 hg4, by
      have := (RelP.nil 0).push xs
      rw [HLEN.out, Nat.zero_add] at this
      exact this⟩
    clear hr4 hg4 RP HT3 HB2
    go_wp2
    go_loopg [8] 30 (fun gk iv wr => ∃ i : Nat, i ≤ 30 ∧ gk = 30 - i ∧ i ≤ n2 ∧ iv = .int .i64 (i : Int) ∧ Hid (PlayS W wr b a (8 + 6 * i)))
    case atStart => exact ⟨0, by omega, by omega, Nat.zero_le _, rfl, HP4⟩
    case round =>
      obtain ⟨i, hi30, rfl, hin, rfl, HP⟩ := hrel
      clear HP4
      have HBW : Hid (Below W.heap.size W wr) := by
        obtain ⟨v, M, cm, u, X, _, h, _⟩ := HP.out.two
        exact Lib.hid h.bel
      rcases (by omega : i < n2 ∧ i < 30 ∨ i = n2 ∨ (i < n2 ∧ i = 30)) with ⟨hi1, hi2⟩ | hi3 | ⟨hi1, hi4⟩
      · have hi1I : (i : Int) < (n2 : Int) := by omega
        have hi2I : (i : Int) < 30 := by omega
        obtain ⟨gd, od, hA2, hgl, hcell⟩ := HD.out.1.2 (by omega)
        have hdl := HD.out.1.1
        obtain ⟨x, hx⟩ : ∃ x, ds[i]? = some x := ⟨_, List.getElem?_eq_getElem (by omega)⟩
        have hgx := HD.out.2 x (List.mem_of_getElem? hx)
        have d0 : wr.cell? ⟨gd, od + i * 2, none⟩ = some (.int .u8 x.k) := (HBW.out.cell (p := ⟨gd, od + i * 2, none⟩) hgl).trans (hcell i 0 x hx (by decide))
        have d1 : wr.cell? ⟨gd, od + i * 2 + 1, none⟩ = some (.slice x.A x.n x.c) := (HBW.out.cell (p := ⟨gd, od + i * 2 + 1, none⟩) hgl).trans (hcell i 1 x hx (by decide))
        obtain ⟨kk, hk1, hk2, hk3, hk4⟩ := u8_kind x.k hgx.k0 hgx.k1
        have hxc := hgx.le
        have hxm : x.c ≤ 9223372036854775807 := by have := hgx.max; unfold maxLen at this; omega
        obtain ⟨p, hpn, hp6, hpp⟩ : ∃ p, p ≤ x.n ∧ p ≤ 6 ∧ ((x.n ≤ 6 ∧ p = x.n) ∨ (6 < x.n ∧ p = 6)) := ⟨min x.n 6, by omega, by omega, by omega⟩
        have HX := Lib.hid (hgx.ints.less hpn)
        have HXN := Lib.hid hgx.nil
        subst hA2
        obtain ⟨xk, hxk⟩ : ∃ z, x.k = z := ⟨_, rfl⟩
        obtain ⟨xA, hxA⟩ : ∃ z, x.A = z := ⟨_, rfl⟩
        obtain ⟨xn, hxn⟩ : ∃ z, x.n = z := ⟨_, rfl⟩
        obtain ⟨xc, hxc'⟩ : ∃ z, x.c = z := ⟨_, rfl⟩
        obtain ⟨ys, hys⟩ : ∃ z, x.xs.take p = z := ⟨_, rfl⟩
        rw [hxk] at d0 hk1 hk2
        rw [hxA, hxn, hxc'] at d1
        rw [hxn] at hpn hpp hxc
        rw [hxc'] at hxc hxm HXN
        rw [hxA] at HXN
        rw [hxA, hys] at HX
        clear hcell hdl hx hgx hxk hxA hxn hxc' hys
        go_upto_region 14 with fail
        go_cut [10] (fun s10 wx => s10 = .slice xA p xc ∧ Hid (Below wr.heap.size wr wx))
        case first =>
          rcases hpp with ⟨h6, hpe⟩ | ⟨h6, hpe⟩
          · subst hpe
            have h6I : (p : Int) ≤ 6 := by omega
            go_quiet (fail)
            go_wp2
            go_meet
            exact ⟨rfl, Lib.hid (below_drewN (Below.refl _ _) _)⟩
          · have h6I : ¬ (xn : Int) ≤ 6 := by omega
            have h6J : (6 : Int) < (xn : Int) := by omega
            subst hpe
            go_quiet (fail)
            go_wp2
            go_meet
            exact ⟨rfl, Lib.hid (below_drewN (Below.refl _ _) _)⟩
        case rest =>
          obtain ⟨rfl, HBx⟩ := hcut
          have hgl2 : gd < wr.heap.size := Nat.lt_of_lt_of_le hgl HBW.out.size
          have e0 : wc.cell? ⟨gd, od + i * 2, none⟩ = some (.int .u8 xk) := (HBx.out.cell (p := ⟨gd, od + i * 2, none⟩) hgl2).trans d0
          have HP5 : Hid (PlayS W wc b a (8 + 6 * i)) := by
            obtain ⟨v, M, cm, u, X, h1, h2, h3⟩ := HP.out.two
            exact Lib.hid ⟨v, M, cm, u, X, h1, h2.below HBx.out, h3⟩
          clear d0 d1 HP HBx hpp
          go_upto_block 2 with fail
          clear e0
          go_cut [9] (fun fv wx => fv = .bool true ∧ Hid (PlayS W wx b a (8 + 6 * (i + 1))))
          case first =>
            obtain ⟨v, M, cm, u, X, hcm, hT, hR⟩ := HP5.out.two
            have HT := Lib.hid hT
            have HR := Lib.hid hR
            clear hT hR HP5
            rcases (by omega : (kk = 3 ∨ kk = 4) ∨ kk = 5 ∨ (¬ kk = 3 ∧ ¬ kk = 4 ∧ ¬ kk = 5)) with hk | hk5 | ⟨hq3, hq4, hq5⟩
            · obtain ⟨y, ok, M', h1, h2⟩ := both_pop HT.out HR.out
              have H2 := Lib.hid h2
              clear h2
              rcases hk with rfl | rfl
              all_goals
                go_wp2_with fail
                refine h1.mono ?_
                clear h1
                rintro e w6 ⟨rfl, v6, hT6⟩
                have H2' := Lib.hid (H2.out w6 v6 hT6)
                clear hT6
                go_wp2_with fail
                refine H2'.out.mono ?_
                rintro e w7 ⟨rfl, u7, Y, hT7, hR7⟩
                have HP7 : Hid (PlayS W w7 b a (8 + 6 * (i + 1))) := Lib.hid ⟨v6, M', cm, u7, Y, by omega, hT7, hR7⟩
                clear hT7 hR7 H2'
                rcases ok with _ | _
                all_goals
                  go_wp2
                  go_meet
                  exact ⟨rfl, HP7⟩
            · subst hk5
              have DR := Lib.hid (drainO_any b v M cm wc HT.out.hp)
              go_wp2_with fail
              refine DR.out.mono ?_
              rintro e w6 ⟨v2, rfl, ho, v', hs, hg⟩
              have HT6 := Lib.hid (HT.out.left hs hg)
              have hul := HT.out.rf.own
              have hal := HT.out.rf.blk.lt
              have hsz6 := hg.size
              obtain ⟨A7, c7, hv2⟩ := own_shape ho
              have hcells : ∀ j (hj : j < M.length), ∃ g, A7 = some ⟨g, 0, none⟩ ∧ wc.heap.size ≤ g ∧ g < w6.heap.size ∧ w6.cell? ⟨g, j, none⟩ = some (.int .i64 M[j].it) := fun j hj => by
                obtain ⟨g, cap, he, h1, h2, h3⟩ := own_at ho (by rw [List.length_map]; omega)
                rw [hv2] at he
                injection he with he _ _
                refine ⟨g, he, h1, h2, (h3 j (by rw [List.length_map]; omega)).trans ?_⟩
                rw [iV, List.getElem?_map, List.getElem?_map, List.getElem?_eq_getElem hj]
                rfl
              have HC := Lib.hid hcells
              have HUL := Lib.hid hul
              have HAL := Lib.hid hal
              have HSZ := Lib.hid hsz6
              rw [List.length_map] at hv2
              obtain ⟨nM, hnM⟩ : ∃ k, M.length = k := ⟨_, rfl⟩
              have HNM := Lib.hid hnM
              rw [hnM] at hv2
              subst hv2
              have hnM6 : nM ≤ 1000000 := by have := HT.out.hp.few; omega
              have HM0 : Hid (RelP (M.drop 0) X cm) := HR
              clear ho hs hg hul hal hsz6 hcells hnM DR HT HR
              go_wp2
              go_loopg [9, 16] nM (fun gk fv iv wx => ∃ (j : Nat) (u2 : Value) (Y : List Int), j ≤ nM ∧ gk = nM - j ∧ fv = .bool true ∧ iv = .int .i64 (j : Int) ∧ Hid (TwoH W wx b v' [] cm a u2 Y) ∧ Hid (RelP (M.drop j) Y cm) ∧ Hid (∀ k, u2.ownBlock = some k → k < wc.heap.size ∨ w6.heap.size ≤ k) ∧ Hid (w6.heap.size ≤ wx.heap.size ∧ ∀ k, wc.heap.size ≤ k → k < w6.heap.size → wx.heap[k]? = w6.heap[k]?))
              case atStart => exact ⟨0, u, X, Nat.zero_le _, rfl, rfl, rfl, HT6, HM0, Lib.hid (fun k hk => .inl (HUL.out k hk).2), Lib.hid ⟨Nat.le_refl _, fun _ _ _ => rfl⟩⟩
              case round =>
                obtain ⟨j, u2, Y, hjn, rfl, rfl, rfl, HT2, HR2, HU2, HK2⟩ := hrel
                clear HM0 HT6
                obtain ⟨w7, hw7⟩ : ∃ v, v = wr := ⟨_, rfl⟩
                subst hw7
                by_cases hj : j < nM
                · have hjI : (j : Int) < (nM : Int) := by omega
                  have hML := HNM.out
                  obtain ⟨m, hm⟩ : ∃ m, M[j]'(by omega) = m := ⟨_, rfl⟩
                  have hMj : M.drop j = m :: M.drop (j + 1) := by rw [← hm]; exact List.drop_eq_getElem_cons (by omega)
                  obtain ⟨g, hA7, hg1, hg2, hcell⟩ := HC.out j (by omega)
                  rw [hm] at hcell
                  rw [hMj] at HR2
                  have hYl := HR2.out.len
                  have hYl2 : (M.drop (j + 1)).length + 1 ≤ nM := by rw [List.length_drop]; omega
                  have RN := ref_next HT2.out (by rw [← hYl, List.length_cons]; omega) HR2.out
                  obtain ⟨y, hy⟩ : ∃ y, m.it = y := ⟨_, rfl⟩
                  rw [hy] at RN hcell
                  replace RN := Lib.hid RN
                  subst hA7
                  have HCELL := Lib.hid hcell
                  clear hML hm hMj hcell hYl hYl2 hy HR2
                  go_wp2_with fail
                  refine RN.out.mono ?_
                  rintro e w8 ⟨rfl, u8, Y8, hT8, hR8, hg8⟩
                  have HT8 := Lib.hid hT8
                  have HR8 := Lib.hid hR8
                  have hsz7 := hg8.size
                  have HU8 := Lib.hid (show ∀ k, u8.ownBlock = some k → k < wc.heap.size ∨ w6.heap.size ≤ k from fun k hk => by
                    rcases hg8.own k hk with h1 | h1
                    · exact HU2.out k h1
                    · have := HK2.out.1
                      exact .inr (by omega))
                  have HK8 := Lib.hid (show w6.heap.size ≤ w8.heap.size ∧ ∀ k, wc.heap.size ≤ k → k < w6.heap.size → w8.heap[k]? = w6.heap[k]? from ⟨Nat.le_trans HK2.out.1 hsz7, fun k k1 k2 => by
                    have h1 := HK2.out.1
                    have h2 := HAL.out
                    exact (hg8.block k (by omega) (by omega) (fun e => by rcases HU2.out k e.symm with h3 | h3 <;> omega)).trans (HK2.out.2 k k1 k2)⟩)
                  have c8 : w8.cell? ⟨g, j, none⟩ = some (.int .i64 y) := (World.cell?_of_block (HK8.out.2 g hg1 hg2)).trans HCELL.out
                  clear hT8 hR8 hg8 RN HT2 HU2 HK2 HCELL hsz7
                  go_wp2
                  go_roundg (nM - (j + 1))
                  case measure => omega
                  case rel => exact ⟨j + 1, u8, Y8, by omega, rfl, rfl, by first | rfl | go_num, HT8, HR8, HU8, HK8⟩
                · obtain rfl : j = nM := by omega
                  rw [List.drop_of_length_le (by rw [HNM.out]; exact Nat.le_refl _)] at HR2
                  have RD := Lib.hid (ref_done HT2.out HR2.out)
                  clear HU2 HK2 HR2
                  go_wp2_with fail
                  refine RD.out.mono ?_
                  rintro e w8 ⟨rfl, u8, hT8⟩
                  have HP7 : Hid (PlayS W w8 b a (8 + 6 * (i + 1))) := Lib.hid ⟨v', [], cm, u8, [], by omega, hT8, RelP.nil _⟩
                  clear hT8 RD HT2
                  go_wp2
                  go_meet
                  exact ⟨rfl, HP7⟩
            · obtain ⟨h1, h2⟩ := both_push HT.out HR.out xA p xc ys HX.out HXN.out (by omega)
              have H2 := Lib.hid h2
              clear h2
              go_wp2_with fail
              refine h1.mono ?_
              clear h1
              rintro e w6 ⟨rfl, v6, hT6⟩
              have H2' := Lib.hid (H2.out w6 v6 hT6)
              clear hT6 H2
              go_wp2_with fail
              refine H2'.out.mono ?_
              rintro e w7 ⟨rfl, u7, Y, hT7, hR7⟩
              have HP7 : Hid (PlayS W w7 b a (8 + 6 * (i + 1))) := Lib.hid ⟨v6, _, cm + p, u7, Y, by omega, hT7, hR7⟩
              clear hT7 hR7 H2'
              go_wp2
              go_meet
              exact ⟨rfl, HP7⟩
          case rest =>
            obtain ⟨rfl, HP6⟩ := hcut
            obtain ⟨w5, hw5⟩ : ∃ v, v = wc := ⟨_, rfl⟩
            obtain ⟨v, M, cm, u, X, hcm, hT, hR⟩ := HP6.out.two
            obtain ⟨y, ok, h1, h2⟩ := both_peek hT hR
            have HR := Lib.hid hR
            have H2 := Lib.hid h2
            clear hT hR h2 HP5 hw5 HP6
            go_wp2_with fail
            refine h1.mono ?_
            clear h1
            rintro e w7 ⟨rfl, rfl⟩
            go_wp2_with fail
            refine H2.out.mono ?_
            rintro e w8 ⟨rfl, hT8⟩
            have hT9 := hT8.below (below_drewN (Below.refl _ _) 1)
            have HP9 : Hid (PlayS W (w8.drewN 1) b a (8 + 6 * (i + 1))) := Lib.hid ⟨v, M, cm, u, X, hcm, hT9, HR.out⟩
            obtain ⟨U, k9, hu, _, _, _, _⟩ := ref_cells hT9.rf
            have c9 : (w8.drewN 1).cell? ⟨a, 0, none⟩ = some (.slice U X.length k9) := by rw [← hu]; exact (hT9.rf.blk.cell 0).trans rfl
            have LN := lenO_any b v M cm (w8.drewN 1) hT9.hp
            rw [HR.out.len] at LN
            obtain ⟨l9, hl9⟩ : ∃ l, X.length = l := ⟨_, rfl⟩
            rw [hl9] at LN c9
            have HLN := Lib.hid LN
            have S0 : True := trivial
            clear hT8 hT9 hu hl9 LN H2 HR
            go_wp2_with fail
            refine wp_region_held_drew (S := fun w' => True) (by kernel_rfl) S0 (fun hHeld => ?_)
            obtain ⟨w9, hw9⟩ : ∃ z, w8.drewN 1 = z := ⟨_, rfl⟩
            have hw9' : w8.drew = w9 := hw9
            rw [hw9] at HP9 c9 HLN
            rw [hw9']
            clear hw9 hw9'
            refine wpAnyH_take (i := 0) (oi := { dst := some 145, op := Go.Op.move (Go.Operand.tmp 9), type := 4, pos := "law.go:68", after := #[], guard := none }) (v := ?_) rfl (by kernel_rfl) (by kernel_rfl) (by kernel_rfl) (fun _ _ _ h => h) (Or.inl ⟨by kernel_rfl, ?_⟩) (by assumption) ?_
            rotate_left
            · intro w _
              first | (go_simp; done) | (go_simp; with_reducible rfl)
            try simp only [Act.put, List.setIfInBounds_toArray, List.set_cons_zero, List.set_cons_succ]
            refine wpAnyH_take (i := 1) (oi := { dst := some 146, op := Go.Op.unOp Go.UnOp.not 4 (Go.Operand.tmp 145), type := 4, pos := "law.go:68", after := #[{ on := 0, ground := Go.Ground.data }], guard := none }) (v := ?_) rfl (by kernel_rfl) (by kernel_rfl) (by kernel_rfl) (fun _ _ _ h => h) (Or.inl ⟨by kernel_rfl, ?_⟩) (by assumption) ?_
            rotate_left
            · intro w _
              first | (go_simp; done) | (go_simp; with_reducible rfl)
            try simp only [Act.put, List.setIfInBounds_toArray, List.set_cons_zero, List.set_cons_succ]
            refine wpAnyH_take (i := 2) (oi := { dst := some 147, op := Go.Op.move (Go.Operand.tmp 146), type := 4, pos := "law.go:68", after := #[{ on := 1, ground := Go.Ground.data }], guard := none }) (v := ?_) rfl (by kernel_rfl) (by kernel_rfl) (by kernel_rfl) (fun _ _ _ h => h) (Or.inl ⟨by kernel_rfl, ?_⟩) (by assumption) ?_
            rotate_left
            · intro w _
              first | (go_simp; done) | (go_simp; with_reducible rfl)
            try simp only [Act.put, List.setIfInBounds_toArray, List.set_cons_zero, List.set_cons_succ]
            refine wpAnyH_take (i := 3) (oi := { dst := some 148, op := Go.Op.move (Go.Operand.tmp 21), type := 3, pos := "law.go:68", after := #[{ on := 2, ground := Go.Ground.guard }], guard := some (2, false) }) (v := ?_) rfl (by kernel_rfl) (by kernel_rfl) (by kernel_rfl) (fun _ _ _ h => h) (Or.inl ⟨by kernel_rfl, ?_⟩) (by assumption) ?_
            rotate_left
            · intro w _
              first | (go_simp; done) | (go_simp; with_reducible rfl)
            try simp only [Act.put, List.setIfInBounds_toArray, List.set_cons_zero, List.set_cons_succ]
            refine wpAnyH_take (i := 4) (oi := { dst := some 149, op := Go.Op.move (Go.Operand.tmp 23), type := 3, pos := "law.go:68", after := #[{ on := 2, ground := Go.Ground.guard }], guard := some (2, false) }) (v := ?_) rfl (by kernel_rfl) (by kernel_rfl) (by kernel_rfl) (fun _ _ _ h => h) (Or.inl ⟨by kernel_rfl, ?_⟩) (by assumption) ?_
            rotate_left
            · intro w _
              first | (go_simp; done) | (go_simp; with_reducible rfl)
            try simp only [Act.put, List.setIfInBounds_toArray, List.set_cons_zero, List.set_cons_succ]
            refine wpAnyH_take (i := 5) (oi := { dst := some 150, op := Go.Op.binOp Go.BinOp.neq 3 (Go.Operand.tmp 148) (Go.Operand.tmp 149) 3, type := 4, pos := "law.go:68", after := #[{ on := 3, ground := Go.Ground.data }, { on := 4, ground := Go.Ground.data }, { on := 2, ground := Go.Ground.guard }], guard := some (2, false) }) (v := ?_) rfl (by kernel_rfl) (by kernel_rfl) (by kernel_rfl) (fun _ _ _ h => h) (Or.inl ⟨by kernel_rfl, ?_⟩) (by assumption) ?_
            rotate_left
            · intro w _
              first | (go_simp; done) | (go_simp; with_reducible rfl)
            try simp only [Act.put, List.setIfInBounds_toArray, List.set_cons_zero, List.set_cons_succ]
            refine wpAnyH_take (i := 6) (oi := { dst := some 151, op := Go.Op.pick (Go.Operand.tmp 147) (Go.Operand.const (Go.Value.bool true)) (Go.Operand.tmp 150), type := 4, pos := "law.go:68", after := #[{ on := 2, ground := Go.Ground.data }, { on := 5, ground := Go.Ground.data }], guard := none }) (v := ?_) rfl (by kernel_rfl) (by kernel_rfl) (by kernel_rfl) (fun _ _ _ h => h) (Or.inl ⟨by kernel_rfl, ?_⟩) (by assumption) ?_
            rotate_left
            · intro w _
              first | (go_simp; done) | (go_simp; with_reducible rfl)
            try simp only [Act.put, List.setIfInBounds_toArray, List.set_cons_zero, List.set_cons_succ]
            refine wpAnyH_take (i := 7) (oi := { dst := some 152, op := Go.Op.move (Go.Operand.tmp 151), type := 4, pos := "law.go:68", after := #[{ on := 6, ground := Go.Ground.data }, { on := 2, ground := Go.Ground.chain }], guard := none }) (v := ?_) rfl (by kernel_rfl) (by kernel_rfl) (by kernel_rfl) (fun _ _ _ h => h) (Or.inl ⟨by kernel_rfl, ?_⟩) (by assumption) ?_
            rotate_left
            · intro w _
              first | (go_simp; done) | (go_simp; with_reducible rfl)
            try simp only [Act.put, List.setIfInBounds_toArray, List.set_cons_zero, List.set_cons_succ]
            refine wpAnyH_take (i := 8) (oi := { dst := some 153, op := Go.Op.move (Go.Operand.tmp 22), type := 4, pos := "law.go:68", after := #[{ on := 7, ground := Go.Ground.guard }], guard := some (7, false) }) (v := ?_) rfl (by kernel_rfl) (by kernel_rfl) (by kernel_rfl) (fun _ _ _ h => h) (Or.inl ⟨by kernel_rfl, ?_⟩) (by assumption) ?_
            rotate_left
            · intro w _
              first | (go_simp; done) | (go_simp; with_reducible rfl)
            try simp only [Act.put, List.setIfInBounds_toArray, List.set_cons_zero, List.set_cons_succ]
            refine wpAnyH_take (i := 9) (oi := { dst := some 154, op := Go.Op.move (Go.Operand.tmp 24), type := 4, pos := "law.go:68", after := #[{ on := 7, ground := Go.Ground.guard }], guard := some (7, false) }) (v := ?_) rfl (by kernel_rfl) (by kernel_rfl) (by kernel_rfl) (fun _ _ _ h => h) (Or.inl ⟨by kernel_rfl, ?_⟩) (by assumption) ?_
            rotate_left
            · intro w _
              first | (go_simp; done) | (go_simp; with_reducible rfl)
            try simp only [Act.put, List.setIfInBounds_toArray, List.set_cons_zero, List.set_cons_succ]
            refine wpAnyH_take (i := 10) (oi := { dst := some 155, op := Go.Op.binOp Go.BinOp.neq 4 (Go.Operand.tmp 153) (Go.Operand.tmp 154) 4, type := 4, pos := "law.go:68", after := #[{ on := 8, ground := Go.Ground.data }, { on := 9, ground := Go.Ground.data }, { on := 7, ground := Go.Ground.guard }], guard := some (7, false) }) (v := ?_) rfl (by kernel_rfl) (by kernel_rfl) (by kernel_rfl) (fun _ _ _ h => h) (Or.inl ⟨by kernel_rfl, ?_⟩) (by assumption) ?_
            rotate_left
            · intro w _
              first | (go_simp; done) | (go_simp; with_reducible rfl)
            try simp only [Act.put, List.setIfInBounds_toArray, List.set_cons_zero, List.set_cons_succ]
            refine wpAnyH_take (i := 11) (oi := { dst := some 156, op := Go.Op.pick (Go.Operand.tmp 152) (Go.Operand.const (Go.Value.bool true)) (Go.Operand.tmp 155), type := 4, pos := "law.go:68", after := #[{ on := 7, ground := Go.Ground.data }, { on := 10, ground := Go.Ground.data }], guard := none }) (v := ?_) rfl (by kernel_rfl) (by kernel_rfl) (by kernel_rfl) (fun _ _ _ h => h) (Or.inl ⟨by kernel_rfl, ?_⟩) (by assumption) ?_
            rotate_left
            · intro w _
              first | (go_simp; done) | (go_simp; with_reducible rfl)
            try simp only [Act.put, List.setIfInBounds_toArray, List.set_cons_zero, List.set_cons_succ]
            refine wpAnyH_take (i := 12) (oi := { dst := some 157, op := Go.Op.move (Go.Operand.tmp 156), type := 4, pos := "law.go:68", after := #[{ on := 11, ground := Go.Ground.data }, { on := 7, ground := Go.Ground.chain }], guard := none }) (v := ?_) rfl (by kernel_rfl) (by kernel_rfl) (by kernel_rfl) (fun _ _ _ h => h) (Or.inl ⟨by kernel_rfl, ?_⟩) (by assumption) ?_
            rotate_left
            · intro w _
              first | (go_simp; done) | (go_simp; with_reducible rfl)
            try simp only [Act.put, List.setIfInBounds_toArray, List.set_cons_zero, List.set_cons_succ]
            refine wpAnyH_take (i := 13) (oi := { dst := some 158, op := Go.Op.move (Go.Operand.tmp 6), type := 25, pos := "law.go:68", after := #[{ on := 12, ground := Go.Ground.guard }], guard := some (12, false) }) (v := ?_) rfl (by kernel_rfl) (by kernel_rfl) (by kernel_rfl) (fun _ _ _ h => h) (Or.inl ⟨by kernel_rfl, ?_⟩) (by assumption) ?_
            rotate_left
            · intro w _
              first | (go_simp; done) | (go_simp; with_reducible rfl)
            try simp only [Act.put, List.setIfInBounds_toArray, List.set_cons_zero, List.set_cons_succ]
            refine wpAnyH_take (i := 15) (oi := { dst := some 160, op := Go.Op.move (Go.Operand.tmp 7), type := 28, pos := "law.go:68", after := #[{ on := 12, ground := Go.Ground.guard }], guard := some (12, false) }) (v := ?_) rfl (by kernel_rfl) (by kernel_rfl) (by kernel_rfl) (fun _ _ _ h => h) (Or.inl ⟨by kernel_rfl, ?_⟩) (by assumption) ?_
            rotate_left
            · intro w _
              first | (go_simp; done) | (go_simp; with_reducible rfl)
            try simp only [Act.put, List.setIfInBounds_toArray, List.set_cons_zero, List.set_cons_succ]
            refine wpAnyH_take (i := 16) (oi := { dst := some 161, op := Go.Op.nilCheck (Go.Operand.tmp 160), type := 0, pos := "law.go:68", after := #[{ on := 15, ground := Go.Ground.data }, { on := 12, ground := Go.Ground.guard }], guard := some (12, false) }) (v := ?_) rfl (by kernel_rfl) (by kernel_rfl) (by kernel_rfl) (fun _ _ _ h => h) (Or.inl ⟨by kernel_rfl, ?_⟩) (by assumption) ?_
            rotate_left
            · intro w _
              first | (go_simp; done) | (go_simp; with_reducible rfl)
            try simp only [Act.put, List.setIfInBounds_toArray, List.set_cons_zero, List.set_cons_succ]
            refine wpAnyH_take (i := 17) (oi := { dst := some 162, op := Go.Op.fieldAddr 30 (Go.Operand.tmp 161) 0, type := 0, pos := "law.go:68", after := #[{ on := 16, ground := Go.Ground.data }, { on := 12, ground := Go.Ground.guard }], guard := some (12, false) }) (v := ?_) rfl (by kernel_rfl) (by kernel_rfl) (by kernel_rfl) (fun _ _ _ h => h) (Or.inl ⟨by kernel_rfl, ?_⟩) (by assumption) ?_
            rotate_left
            · intro w _
              first | (go_simp; done) | (go_simp; with_reducible rfl)
            try simp only [Act.put, List.setIfInBounds_toArray, List.set_cons_zero, List.set_cons_succ]
            refine wpAnyH_ready (rs := [14, 18]) (by kernel_rfl) (by simp) ?_
            refine AllReadyH.cons (o := { dst := some 159, op := Go.Op.call { callee := Go.Callee.value (Go.Operand.func 17), args := #[Go.Operand.tmp 158], argTypes := #[25] }, type := 3, pos := "law.go:68", after := #[{ on := 13, ground := Go.Ground.data }, { on := 12, ground := Go.Ground.chain }, { on := 12, ground := Go.Ground.guard }], guard := some (12, false) }) rfl (fun K hK => ?_) ?_
            ·
              go_simp
              go_at_call 17
              refine HLN.out.mono ?_
              rintro e wm ⟨rfl, rfl⟩
              refine hK.out _ _ S0 (fun _ => ?_)
              clear hK K
              try simp only [Act.put, List.setIfInBounds_toArray, List.set_cons_zero, List.set_cons_succ]
              refine wpAnyH_ready (rs := [18]) (by kernel_rfl) (by simp) ?_
              refine AllReadyH.cons (o := { dst := some 163, op := Go.Op.load 22 (Go.Operand.tmp 162), type := 22, pos := "law.go:68", after := #[{ on := 17, ground := Go.Ground.data }, { on := 12, ground := Go.Ground.guard }], guard := some (12, false) }) rfl (fun K hK => ?_) AllReadyH.nil
              go_simp
              refine hK.out _ _ S0 (fun _ => ?_)
              clear hK K
              try simp only [Act.put, List.setIfInBounds_toArray, List.set_cons_zero, List.set_cons_succ]
              refine wpAnyH_take (i := 19) (oi := { dst := some 164, op := Go.Op.call { callee := Go.Callee.builtin Go.Builtin.len, args := #[Go.Operand.tmp 163], argTypes := #[22] }, type := 3, pos := "law.go:68", after := #[{ on := 18, ground := Go.Ground.data }, { on := 12, ground := Go.Ground.guard }], guard := some (12, false) }) (v := ?_) rfl (by kernel_rfl) (by kernel_rfl) (by kernel_rfl) (fun _ _ _ h => h) (Or.inl ⟨by kernel_rfl, ?_⟩) (by assumption) ?_
              rotate_left
              · intro w _
                first | (go_simp; done) | (go_simp; with_reducible rfl)
              try simp only [Act.put, List.setIfInBounds_toArray, List.set_cons_zero, List.set_cons_succ]
              refine wpAnyH_take (i := 20) (oi := { dst := some 165, op := Go.Op.binOp Go.BinOp.neq 3 (Go.Operand.tmp 159) (Go.Operand.tmp 164) 3, type := 4, pos := "law.go:68", after := #[{ on := 14, ground := Go.Ground.data }, { on := 19, ground := Go.Ground.data }, { on := 12, ground := Go.Ground.guard }], guard := some (12, false) }) (v := ?_) rfl (by kernel_rfl) (by kernel_rfl) (by kernel_rfl) (fun _ _ _ h => h) (Or.inl ⟨by kernel_rfl, ?_⟩) (by assumption) ?_
              rotate_left
              · intro w _
                first | (go_simp; done) | (go_simp; with_reducible rfl)
              try simp only [Act.put, List.setIfInBounds_toArray, List.set_cons_zero, List.set_cons_succ]
              refine wpAnyH_take (i := 21) (oi := { dst := some 166, op := Go.Op.pick (Go.Operand.tmp 157) (Go.Operand.const (Go.Value.bool true)) (Go.Operand.tmp 165), type := 4, pos := "law.go:68", after := #[{ on := 12, ground := Go.Ground.data }, { on := 20, ground := Go.Ground.data }], guard := none }) (v := ?_) rfl (by kernel_rfl) (by kernel_rfl) (by kernel_rfl) (fun _ _ _ h => h) (Or.inl ⟨by kernel_rfl, ?_⟩) (by assumption) ?_
              rotate_left
              · intro w _
                first | (go_simp; done) | (go_simp; with_reducible rfl)
              try simp only [Act.put, List.setIfInBounds_toArray, List.set_cons_zero, List.set_cons_succ]
              refine wpAnyH_done (by kernel_rfl) ?_ _
              go_wp2
              go_roundg (30 - (i + 1))
              case measure => omega
              case rel => exact ⟨i + 1, by omega, rfl, by omega, by first | rfl | go_num, HP9⟩
            refine AllReadyH.cons (o := { dst := some 163, op := Go.Op.load 22 (Go.Operand.tmp 162), type := 22, pos := "law.go:68", after := #[{ on := 17, ground := Go.Ground.data }, { on := 12, ground := Go.Ground.guard }], guard := some (12, false) }) rfl (fun K hK => ?_) AllReadyH.nil
            ·
              go_simp
              refine hK.out _ _ S0 (fun _ => ?_)
              clear hK K
              try simp only [Act.put, List.setIfInBounds_toArray, List.set_cons_zero, List.set_cons_succ]
              refine wpAnyH_take (i := 19) (oi := { dst := some 164, op := Go.Op.call { callee := Go.Callee.builtin Go.Builtin.len, args := #[Go.Operand.tmp 163], argTypes := #[22] }, type := 3, pos := "law.go:68", after := #[{ on := 18, ground := Go.Ground.data }, { on := 12, ground := Go.Ground.guard }], guard := some (12, false) }) (v := ?_) rfl (by kernel_rfl) (by kernel_rfl) (by kernel_rfl) (fun _ _ _ h => h) (Or.inl ⟨by kernel_rfl, ?_⟩) (by assumption) ?_
              rotate_left
              · intro w _
                first | (go_simp; done) | (go_simp; with_reducible rfl)
              try simp only [Act.put, List.setIfInBounds_toArray, List.set_cons_zero, List.set_cons_succ]
              refine wpAnyH_ready (rs := [14]) (by kernel_rfl) (by simp) ?_
              refine AllReadyH.cons (o := { dst := some 159, op := Go.Op.call { callee := Go.Callee.value (Go.Operand.func 17), args := #[Go.Operand.tmp 158], argTypes := #[25] }, type := 3, pos := "law.go:68", after := #[{ on := 13, ground := Go.Ground.data }, { on := 12, ground := Go.Ground.chain }, { on := 12, ground := Go.Ground.guard }], guard := some (12, false) }) rfl (fun K hK => ?_) AllReadyH.nil
              go_simp
              go_at_call 17
              refine HLN.out.mono ?_
              rintro e wm ⟨rfl, rfl⟩
              refine hK.out _ _ S0 (fun _ => ?_)
              clear hK K
              try simp only [Act.put, List.setIfInBounds_toArray, List.set_cons_zero, List.set_cons_succ]
              refine wpAnyH_take (i := 20) (oi := { dst := some 165, op := Go.Op.binOp Go.BinOp.neq 3 (Go.Operand.tmp 159) (Go.Operand.tmp 164) 3, type := 4, pos := "law.go:68", after := #[{ on := 14, ground := Go.Ground.data }, { on := 19, ground := Go.Ground.data }, { on := 12, ground := Go.Ground.guard }], guard := some (12, false) }) (v := ?_) rfl (by kernel_rfl) (by kernel_rfl) (by kernel_rfl) (fun _ _ _ h => h) (Or.inl ⟨by kernel_rfl, ?_⟩) (by assumption) ?_
              rotate_left
              · intro w _
                first | (go_simp; done) | (go_simp; with_reducible rfl)
              try simp only [Act.put, List.setIfInBounds_toArray, List.set_cons_zero, List.set_cons_succ]
              refine wpAnyH_take (i := 21) (oi := { dst := some 166, op := Go.Op.pick (Go.Operand.tmp 157) (Go.Operand.const (Go.Value.bool true)) (Go.Operand.tmp 165), type := 4, pos := "law.go:68", after := #[{ on := 12, ground := Go.Ground.data }, { on := 20, ground := Go.Ground.data }], guard := none }) (v := ?_) rfl (by kernel_rfl) (by kernel_rfl) (by kernel_rfl) (fun _ _ _ h => h) (Or.inl ⟨by kernel_rfl, ?_⟩) (by assumption) ?_
              rotate_left
              · intro w _
                first | (go_simp; done) | (go_simp; with_reducible rfl)
              try simp only [Act.put, List.setIfInBounds_toArray, List.set_cons_zero, List.set_cons_succ]
              refine wpAnyH_done (by kernel_rfl) ?_ _
              go_wp2
              go_roundg (30 - (i + 1))
              case measure => omega
              case rel => exact ⟨i + 1, by omega, rfl, by omega, by first | rfl | go_num, HP9⟩
      · obtain rfl : i = n2 := hi3
        have hiI : ¬ (i : Int) < (i : Int) := by omega
        go_wp2
        go_ret
        exact ⟨by first | rfl | (simp; done), HBW.out⟩
      · have hiI : (i : Int) < (n2 : Int) := by omega
        have hiJ : ¬ (i : Int) < 30 := by omega
        clear hi4
        go_wp2
        go_ret
        exact ⟨by first | rfl | (simp; done), HBW.out⟩
  · have h30I : ¬ (n : Int) ≤ 8 := by omega
    have h30J : (8 : Int) < (n : Int) := by omega
    go_enter Try.func3, Try.ntmps3
    go_wp2_with fail
    refine (examples_any W).mono ?_
    rintro e w1 ⟨rfl, hb1⟩
    have HB1 := Lib.hid hb1
    have hsz1 := hb1.size
    clear hb1
    go_wp2_with fail
    rw [show (Value.slice A 8 c) = Value.slice A m c by rw [hm2e]]
    clear hm2e h30 h30I h30J
    refine (newO_any A m c xs HLEN.out (by omega) w1 (IntsA.old_ HI.out HB1.out hsz1 (fun k hk => by simp [Value.ownBlock] at hk))).mono ?_
    rintro e w2 ⟨rfl, hb2, v2, hs2⟩
    have HB2 := Lib.hid (hop HB1.out (Nat.le_refl _) hb2)
    have HT3 := Lib.hid (two_new hs2 hsz1 HB2.out)
    obtain ⟨b, hb⟩ : ∃ b, w1.heap.size = b := ⟨_, rfl⟩
    rw [hb] at hsz1 HT3 ⊢
    clear hb hb2 hs2 HB1
    obtain ⟨a, ha⟩ : ∃ a, w2.heap.size = a := ⟨_, rfl⟩
    obtain ⟨w3, hw3⟩ : ∃ z, w2.alloc (.cells #[.slice none 0 0] 30) = z := ⟨_, rfl⟩
    rw [hw3, ha] at HT3
    have RP := Lib.hid (refPush_any a (.slice none 0 0) [] A m c xs (by simp) (by omega) HNIL.out w3 HT3.out.rf (HI.out.below HT3.out.bel))
    go_wp2_with fail
    clear ha hw3
    refine RP.out.mono ?_
    rintro e w4 ⟨rfl, u4, hr4, hg4⟩
    have HP4 : Hid (PlayS W w4 b a (8 + 6 * 0)) := Lib.hid ⟨v2, _, m, u4, _, by omega, HT3.out.right hr4 hg4, by
      have := (RelP.nil 0).push xs
      rw [HLEN.out, Nat.zero_add] at this
      exact this⟩
    clear hr4 hg4 RP HT3 HB2
    go_wp2
    go_loopg [8] 30 (fun gk iv wr => ∃ i : Nat, i ≤ 30 ∧ gk = 30 - i ∧ i ≤ n2 ∧ iv = .int .i64 (i : Int) ∧ Hid (PlayS W wr b a (8 + 6 * i)))
    case atStart => exact ⟨0, by omega, by omega, Nat.zero_le _, rfl, HP4⟩
    case round =>
      obtain ⟨i, hi30, rfl, hin, rfl, HP⟩ := hrel
      clear HP4
      have HBW : Hid (Below W.heap.size W wr) := by
        obtain ⟨v, M, cm, u, X, _, h, _⟩ := HP.out.two
        exact Lib.hid h.bel
      rcases (by omega : i < n2 ∧ i < 30 ∨ i = n2 ∨ (i < n2 ∧ i = 30)) with ⟨hi1, hi2⟩ | hi3 | ⟨hi1, hi4⟩
      · have hi1I : (i : Int) < (n2 : Int) := by omega
        have hi2I : (i : Int) < 30 := by omega
        obtain ⟨gd, od, hA2, hgl, hcell⟩ := HD.out.1.2 (by omega)
        have hdl := HD.out.1.1
        obtain ⟨x, hx⟩ : ∃ x, ds[i]? = some x := ⟨_, List.getElem?_eq_getElem (by omega)⟩
        have hgx := HD.out.2 x (List.mem_of_getElem? hx)
        have d0 : wr.cell? ⟨gd, od + i * 2, none⟩ = some (.int .u8 x.k) := (HBW.out.cell (p := ⟨gd, od + i * 2, none⟩) hgl).trans (hcell i 0 x hx (by decide))
        have d1 : wr.cell? ⟨gd, od + i * 2 + 1, none⟩ = some (.slice x.A x.n x.c) := (HBW.out.cell (p := ⟨gd, od + i * 2 + 1, none⟩) hgl).trans (hcell i 1 x hx (by decide))
        obtain ⟨kk, hk1, hk2, hk3, hk4⟩ := u8_kind x.k hgx.k0 hgx.k1
        have hxc := hgx.le
        have hxm : x.c ≤ 9223372036854775807 := by have := hgx.max; unfold maxLen at this; omega
        obtain ⟨p, hpn, hp6, hpp⟩ : ∃ p, p ≤ x.n ∧ p ≤ 6 ∧ ((x.n ≤ 6 ∧ p = x.n) ∨ (6 < x.n ∧ p = 6)) := ⟨min x.n 6, by omega, by omega, by omega⟩
        have HX := Lib.hid (hgx.ints.less hpn)
        have HXN := Lib.hid hgx.nil
        subst hA2
        obtain ⟨xk, hxk⟩ : ∃ z, x.k = z := ⟨_, rfl⟩
        obtain ⟨xA, hxA⟩ : ∃ z, x.A = z := ⟨_, rfl⟩
        obtain ⟨xn, hxn⟩ : ∃ z, x.n = z := ⟨_, rfl⟩
        obtain ⟨xc, hxc'⟩ : ∃ z, x.c = z := ⟨_, rfl⟩
        obtain ⟨ys, hys⟩ : ∃ z, x.xs.take p = z := ⟨_, rfl⟩
        rw [hxk] at d0 hk1 hk2
        rw [hxA, hxn, hxc'] at d1
        rw [hxn] at hpn hpp hxc
        rw [hxc'] at hxc hxm HXN
        rw [hxA] at HXN
        rw [hxA, hys] at HX
        clear hcell hdl hx hgx hxk hxA hxn hxc' hys
        go_upto_region 14 with fail
        go_cut [10] (fun s10 wx => s10 = .slice xA p xc ∧ Hid (Below wr.heap.size wr wx))
        case first =>
          rcases hpp with ⟨h6, hpe⟩ | ⟨h6, hpe⟩
          · subst hpe
            have h6I : (p : Int) ≤ 6 := by omega
            go_quiet (fail)
            go_wp2
            go_meet
            exact ⟨rfl, Lib.hid (below_drewN (Below.refl _ _) _)⟩
          · have h6I : ¬ (xn : Int) ≤ 6 := by omega
            have h6J : (6 : Int) < (xn : Int) := by omega
            subst hpe
            go_quiet (fail)
            go_wp2
            go_meet
            exact ⟨rfl, Lib.hid (below_drewN (Below.refl _ _) _)⟩
        case rest =>
          obtain ⟨rfl, HBx⟩ := hcut
          have hgl2 : gd < wr.heap.size := Nat.lt_of_lt_of_le hgl HBW.out.size
          have e0 : wc.cell? ⟨gd, od + i * 2, none⟩ = some (.int .u8 xk) := (HBx.out.cell (p := ⟨gd, od + i * 2, none⟩) hgl2).trans d0
          have HP5 : Hid (PlayS W wc b a (8 + 6 * i)) := by
            obtain ⟨v, M, cm, u, X, h1, h2, h3⟩ := HP.out.two
            exact Lib.hid ⟨v, M, cm, u, X, h1, h2.below HBx.out, h3⟩
          clear d0 d1 HP HBx hpp
          go_upto_block 2 with fail
          clear e0
          go_cut [9] (fun fv wx => fv = .bool true ∧ Hid (PlayS W wx b a (8 + 6 * (i + 1))))
          case first =>
            obtain ⟨v, M, cm, u, X, hcm, hT, hR⟩ := HP5.out.two
            have HT := Lib.hid hT
            have HR := Lib.hid hR
            clear hT hR HP5
            rcases (by omega : (kk = 3 ∨ kk = 4) ∨ kk = 5 ∨ (¬ kk = 3 ∧ ¬ kk = 4 ∧ ¬ kk = 5)) with hk | hk5 | ⟨hq3, hq4, hq5⟩
            · obtain ⟨y, ok, M', h1, h2⟩ := both_pop HT.out HR.out
              have H2 := Lib.hid h2
              clear h2
              rcases hk with rfl | rfl
              all_goals
                go_wp2_with fail
                refine h1.mono ?_
                clear h1
                rintro e w6 ⟨rfl, v6, hT6⟩
                have H2' := Lib.hid (H2.out w6 v6 hT6)
                clear hT6
                go_wp2_with fail
                refine H2'.out.mono ?_
                rintro e w7 ⟨rfl, u7, Y, hT7, hR7⟩
                have HP7 : Hid (PlayS W w7 b a (8 + 6 * (i + 1))) := Lib.hid ⟨v6, M', cm, u7, Y, by omega, hT7, hR7⟩
                clear hT7 hR7 H2'
                rcases ok with _ | _
                all_goals
                  go_wp2
                  go_meet
                  exact ⟨rfl, HP7⟩
            · subst hk5
              have DR := Lib.hid (drainO_any b v M cm wc HT.out.hp)
              go_wp2_with fail
              refine DR.out.mono ?_
              rintro e w6 ⟨v2, rfl, ho, v', hs, hg⟩
              have HT6 := Lib.hid (HT.out.left hs hg)
              have hul := HT.out.rf.own
              have hal := HT.out.rf.blk.lt
              have hsz6 := hg.size
              obtain ⟨A7, c7, hv2⟩ := own_shape ho
              have hcells : ∀ j (hj : j < M.length), ∃ g, A7 = some ⟨g, 0, none⟩ ∧ wc.heap.size ≤ g ∧ g < w6.heap.size ∧ w6.cell? ⟨g, j, none⟩ = some (.int .i64 M[j].it) := fun j hj => by
                obtain ⟨g, cap, he, h1, h2, h3⟩ := own_at ho (by rw [List.length_map]; omega)
                rw [hv2] at he
                injection he with he _ _
                refine ⟨g, he, h1, h2, (h3 j (by rw [List.length_map]; omega)).trans ?_⟩
                rw [iV, List.getElem?_map, List.getElem?_map, List.getElem?_eq_getElem hj]
                rfl
              have HC := Lib.hid hcells
              have HUL := Lib.hid hul
              have HAL := Lib.hid hal
              have HSZ := Lib.hid hsz6
              rw [List.length_map] at hv2
              obtain ⟨nM, hnM⟩ : ∃ k, M.length = k := ⟨_, rfl⟩
              have HNM := Lib.hid hnM
              rw [hnM] at hv2
              subst hv2
              have hnM6 : nM ≤ 1000000 := by have := HT.out.hp.few; omega
              have HM0 : Hid (RelP (M.drop 0) X cm) := HR
              clear ho hs hg hul hal hsz6 hcells hnM DR HT HR
              go_wp2
              go_loopg [9, 16] nM (fun gk fv iv wx => ∃ (j : Nat) (u2 : Value) (Y : List Int), j ≤ nM ∧ gk = nM - j ∧ fv = .bool true ∧ iv = .int .i64 (j : Int) ∧ Hid (TwoH W wx b v' [] cm a u2 Y) ∧ Hid (RelP (M.drop j) Y cm) ∧ Hid (∀ k, u2.ownBlock = some k → k < wc.heap.size ∨ w6.heap.size ≤ k) ∧ Hid (w6.heap.size ≤ wx.heap.size ∧ ∀ k, wc.heap.size ≤ k → k < w6.heap.size → wx.heap[k]? = w6.heap[k]?))
              case atStart => exact ⟨0, u, X, Nat.zero_le _, rfl, rfl, rfl, HT6, HM0, Lib.hid (fun k hk => .inl (HUL.out k hk).2), Lib.hid ⟨Nat.le_refl _, fun _ _ _ => rfl⟩⟩
              case round =>
                obtain ⟨j, u2, Y, hjn, rfl, rfl, rfl, HT2, HR2, HU2, HK2⟩ := hrel
                clear HM0 HT6
                obtain ⟨w7, hw7⟩ : ∃ v, v = wr := ⟨_, rfl⟩
                subst hw7
                by_cases hj : j < nM
                · have hjI : (j : Int) < (nM : Int) := by omega
                  have hML := HNM.out
                  obtain ⟨m, hm⟩ : ∃ m, M[j]'(by omega) = m := ⟨_, rfl⟩
                  have hMj : M.drop j = m :: M.drop (j + 1) := by rw [← hm]; exact List.drop_eq_getElem_cons (by omega)
                  obtain ⟨g, hA7, hg1, hg2, hcell⟩ := HC.out j (by omega)
                  rw [hm] at hcell
                  rw [hMj] at HR2
                  have hYl := HR2.out.len
                  have hYl2 : (M.drop (j + 1)).length + 1 ≤ nM := by rw [List.length_drop]; omega
                  have RN := ref_next HT2.out (by rw [← hYl, List.length_cons]; omega) HR2.out
                  obtain ⟨y, hy⟩ : ∃ y, m.it = y := ⟨_, rfl⟩
                  rw [hy] at RN hcell
                  replace RN := Lib.hid RN
                  subst hA7
                  have HCELL := Lib.hid hcell
                  clear hML hm hMj hcell hYl hYl2 hy HR2
                  go_wp2_with fail
                  refine RN.out.mono ?_
                  rintro e w8 ⟨rfl, u8, Y8, hT8, hR8, hg8⟩
                  have HT8 := Lib.hid hT8
                  have HR8 := Lib.hid hR8
                  have hsz7 := hg8.size
                  have HU8 := Lib.hid (show ∀ k, u8.ownBlock = some k → k < wc.heap.size ∨ w6.heap.size ≤ k from fun k hk => by
                    rcases hg8.own k hk with h1 | h1
                    · exact HU2.out k h1
                    · have := HK2.out.1
                      exact .inr (by omega))
                  have HK8 := Lib.hid (show w6.heap.size ≤ w8.heap.size ∧ ∀ k, wc.heap.size ≤ k → k < w6.heap.size → w8.heap[k]? = w6.heap[k]? from ⟨Nat.le_trans HK2.out.1 hsz7, fun k k1 k2 => by
                    have h1 := HK2.out.1
                    have h2 := HAL.out
                    exact (hg8.block k (by omega) (by omega) (fun e => by rcases HU2.out k e.symm with h3 | h3 <;> omega)).trans (HK2.out.2 k k1 k2)⟩)
                  have c8 : w8.cell? ⟨g, j, none⟩ = some (.int .i64 y) := (World.cell?_of_block (HK8.out.2 g hg1 hg2)).trans HCELL.out
                  clear hT8 hR8 hg8 RN HT2 HU2 HK2 HCELL hsz7
                  go_wp2
                  go_roundg (nM - (j + 1))
                  case measure => omega
                  case rel => exact ⟨j + 1, u8, Y8, by omega, rfl, rfl, by first | rfl | go_num, HT8, HR8, HU8, HK8⟩
                · obtain rfl : j = nM := by omega
                  rw [List.drop_of_length_le (by rw [HNM.out]; exact Nat.le_refl _)] at HR2
                  have RD := Lib.hid (ref_done HT2.out HR2.out)
                  clear HU2 HK2 HR2
                  go_wp2_with fail
                  refine RD.out.mono ?_
                  rintro e w8 ⟨rfl, u8, hT8⟩
                  have HP7 : Hid (PlayS W w8 b a (8 + 6 * (i + 1))) := Lib.hid ⟨v', [], cm, u8, [], by omega, hT8, RelP.nil _⟩
                  clear hT8 RD HT2
                  go_wp2
                  go_meet
                  exact ⟨rfl, HP7⟩
            · obtain ⟨h1, h2⟩ := both_push HT.out HR.out xA p xc ys HX.out HXN.out (by omega)
              have H2 := Lib.hid h2
              clear h2
              go_wp2_with fail
              refine h1.mono ?_
              clear h1
              rintro e w6 ⟨rfl, v6, hT6⟩
              have H2' := Lib.hid (H2.out w6 v6 hT6)
              clear hT6 H2
              go_wp2_with fail
              refine H2'.out.mono ?_
              rintro e w7 ⟨rfl, u7, Y, hT7, hR7⟩
              have HP7 : Hid (PlayS W w7 b a (8 + 6 * (i + 1))) := Lib.hid ⟨v6, _, cm + p, u7, Y, by omega, hT7, hR7⟩
              clear hT7 hR7 H2'
              go_wp2
              go_meet
              exact ⟨rfl, HP7⟩
          case rest =>
            obtain ⟨rfl, HP6⟩ := hcut
            obtain ⟨w5, hw5⟩ : ∃ v, v = wc := ⟨_, rfl⟩
            obtain ⟨v, M, cm, u, X, hcm, hT, hR⟩ := HP6.out.two
            obtain ⟨y, ok, h1, h2⟩ := both_peek hT hR
            have HR := Lib.hid hR
            have H2 := Lib.hid h2
            clear hT hR h2 HP5 hw5 HP6
            go_wp2_with fail
            refine h1.mono ?_
            clear h1
            rintro e w7 ⟨rfl, rfl⟩
            go_wp2_with fail
            refine H2.out.mono ?_
            rintro e w8 ⟨rfl, hT8⟩
            have hT9 := hT8.below (below_drewN (Below.refl _ _) 1)
            have HP9 : Hid (PlayS W (w8.drewN 1) b a (8 + 6 * (i + 1))) := Lib.hid ⟨v, M, cm, u, X, hcm, hT9, HR.out⟩
            obtain ⟨U, k9, hu, _, _, _, _⟩ := ref_cells hT9.rf
            have c9 : (w8.drewN 1).cell? ⟨a, 0, none⟩ = some (.slice U X.length k9) := by rw [← hu]; exact (hT9.rf.blk.cell 0).trans rfl
            have LN := lenO_any b v M cm (w8.drewN 1) hT9.hp
            rw [HR.out.len] at LN
            obtain ⟨l9, hl9⟩ : ∃ l, X.length = l := ⟨_, rfl⟩
            rw [hl9] at LN c9
            have HLN := Lib.hid LN
            have S0 : True := trivial
            clear hT8 hT9 hu hl9 LN H2 HR
            go_wp2_with fail
            refine wp_region_held_drew (S := fun w' => True) (by kernel_rfl) S0 (fun hHeld => ?_)
            obtain ⟨w9, hw9⟩ : ∃ z, w8.drewN 1 = z := ⟨_, rfl⟩
            have hw9' : w8.drew = w9 := hw9
            rw [hw9] at HP9 c9 HLN
            rw [hw9']
            clear hw9 hw9'
            refine wpAnyH_take (i := 0) (oi := { dst := some 145, op := Go.Op.move (Go.Operand.tmp 9), type := 4, pos := "law.go:68", after := #[], guard := none }) (v := ?_) rfl (by kernel_rfl) (by kernel_rfl) (by kernel_rfl) (fun _ _ _ h => h) (Or.inl ⟨by kernel_rfl, ?_⟩) (by assumption) ?_
            rotate_left
            · intro w _
              first | (go_simp; done) | (go_simp; with_reducible rfl)
            try simp only [Act.put, List.setIfInBounds_toArray, List.set_cons_zero, List.set_cons_succ]
            refine wpAnyH_take (i := 1) (oi := { dst := some 146, op := Go.Op.unOp Go.UnOp.not 4 (Go.Operand.tmp 145), type := 4, pos := "law.go:68", after := #[{ on := 0, ground := Go.Ground.data }], guard := none }) (v := ?_) rfl (by kernel_rfl) (by kernel_rfl) (by kernel_rfl) (fun _ _ _ h => h) (Or.inl ⟨by kernel_rfl, ?_⟩) (by assumption) ?_
            rotate_left
            · intro w _
              first | (go_simp; done) | (go_simp; with_reducible rfl)
            try simp only [Act.put, List.setIfInBounds_toArray, List.set_cons_zero, List.set_cons_succ]
            refine wpAnyH_take (i := 2) (oi := { dst := some 147, op := Go.Op.move (Go.Operand.tmp 146), type := 4, pos := "law.go:68", after := #[{ on := 1, ground := Go.Ground.data }], guard := none }) (v := ?_) rfl (by kernel_rfl) (by kernel_rfl) (by kernel_rfl) (fun _ _ _ h => h) (Or.inl ⟨by kernel_rfl, ?_⟩) (by assumption) ?_
            rotate_left
            · intro w _
              first | (go_simp; done) | (go_simp; with_reducible rfl)
            try simp only [Act.put, List.setIfInBounds_toArray, List.set_cons_zero, List.set_cons_succ]
            refine wpAnyH_take (i := 3) (oi := { dst := some 148, op := Go.Op.move (Go.Operand.tmp 21), type := 3, pos := "law.go:68", after := #[{ on := 2, ground := Go.Ground.guard }], guard := some (2, false) }) (v := ?_) rfl (by kernel_rfl) (by kernel_rfl) (by kernel_rfl) (fun _ _ _ h => h) (Or.inl ⟨by kernel_rfl, ?_⟩) (by assumption) ?_
            rotate_left
            · intro w _
              first | (go_simp; done) | (go_simp; with_reducible rfl)
            try simp only [Act.put, List.setIfInBounds_toArray, List.set_cons_zero, List.set_cons_succ]
            refine wpAnyH_take (i := 4) (oi := { dst := some 149, op := Go.Op.move (Go.Operand.tmp 23), type := 3, pos := "law.go:68", after := #[{ on := 2, ground := Go.Ground.guard }], guard := some (2, false) }) (v := ?_) rfl (by kernel_rfl) (by kernel_rfl) (by kernel_rfl) (fun _ _ _ h => h) (Or.inl ⟨by kernel_rfl, ?_⟩) (by assumption) ?_
            rotate_left
            · intro w _
              first | (go_simp; done) | (go_simp; with_reducible rfl)
            try simp only [Act.put, List.setIfInBounds_toArray, List.set_cons_zero, List.set_cons_succ]
            refine wpAnyH_take (i := 5) (oi := { dst := some 150, op := Go.Op.binOp Go.BinOp.neq 3 (Go.Operand.tmp 148) (Go.Operand.tmp 149) 3, type := 4, pos := "law.go:68", after := #[{ on := 3, ground := Go.Ground.data }, { on := 4, ground := Go.Ground.data }, { on := 2, ground := Go.Ground.guard }], guard := some (2, false) }) (v := ?_) rfl (by kernel_rfl) (by kernel_rfl) (by kernel_rfl) (fun _ _ _ h => h) (Or.inl ⟨by kernel_rfl, ?_⟩) (by assumption) ?_
            rotate_left
            · intro w _
              first | (go_simp; done) | (go_simp; with_reducible rfl)
            try simp only [Act.put, List.setIfInBounds_toArray, List.set_cons_zero, List.set_cons_succ]
            refine wpAnyH_take (i := 6) (oi := { dst := some 151, op := Go.Op.pick (Go.Operand.tmp 147) (Go.Operand.const (Go.Value.bool true)) (Go.Operand.tmp 150), type := 4, pos := "law.go:68", after := #[{ on := 2, ground := Go.Ground.data }, { on := 5, ground := Go.Ground.data }], guard := none }) (v := ?_) rfl (by kernel_rfl) (by kernel_rfl) (by kernel_rfl) (fun _ _ _ h => h) (Or.inl ⟨by kernel_rfl, ?_⟩) (by assumption) ?_
            rotate_left
            · intro w _
              first | (go_simp; done) | (go_simp; with_reducible rfl)
            try simp only [Act.put, List.setIfInBounds_toArray, List.set_cons_zero, List.set_cons_succ]
            refine wpAnyH_take (i := 7) (oi := { dst := some 152, op := Go.Op.move (Go.Operand.tmp 151), type := 4, pos := "law.go:68", after := #[{ on := 6, ground := Go.Ground.data }, { on := 2, ground := Go.Ground.chain }], guard := none }) (v := ?_) rfl (by kernel_rfl) (by kernel_rfl) (by kernel_rfl) (fun _ _ _ h => h) (Or.inl ⟨by kernel_rfl, ?_⟩) (by assumption) ?_
            rotate_left
            · intro w _
              first | (go_simp; done) | (go_simp; with_reducible rfl)
            try simp only [Act.put, List.setIfInBounds_toArray, List.set_cons_zero, List.set_cons_succ]
            refine wpAnyH_take (i := 8) (oi := { dst := some 153, op := Go.Op.move (Go.Operand.tmp 22), type := 4, pos := "law.go:68", after := #[{ on := 7, ground := Go.Ground.guard }], guard := some (7, false) }) (v := ?_) rfl (by kernel_rfl) (by kernel_rfl) (by kernel_rfl) (fun _ _ _ h => h) (Or.inl ⟨by kernel_rfl, ?_⟩) (by assumption) ?_
            rotate_left
            · intro w _
              first | (go_simp; done) | (go_simp; with_reducible rfl)
            try simp only [Act.put, List.setIfInBounds_toArray, List.set_cons_zero, List.set_cons_succ]
            refine wpAnyH_take (i := 9) (oi := { dst := some 154, op := Go.Op.move (Go.Operand.tmp 24), type := 4, pos := "law.go:68", after := #[{ on := 7, ground := Go.Ground.guard }], guard := some (7, false) }) (v := ?_) rfl (by kernel_rfl) (by kernel_rfl) (by kernel_rfl) (fun _ _ _ h => h) (Or.inl ⟨by kernel_rfl, ?_⟩) (by assumption) ?_
            rotate_left
            · intro w _
              first | (go_simp; done) | (go_simp; with_reducible rfl)
            try simp only [Act.put, List.setIfInBounds_toArray, List.set_cons_zero, List.set_cons_succ]
            refine wpAnyH_take (i := 10) (oi := { dst := some 155, op := Go.Op.binOp Go.BinOp.neq 4 (Go.Operand.tmp 153) (Go.Operand.tmp 154) 4, type := 4, pos := "law.go:68", after := #[{ on := 8, ground := Go.Ground.data }, { on := 9, ground := Go.Ground.data }, { on := 7, ground := Go.Ground.guard }], guard := some (7, false) }) (v := ?_) rfl (by kernel_rfl) (by kernel_rfl) (by kernel_rfl) (fun _ _ _ h => h) (Or.inl ⟨by kernel_rfl, ?_⟩) (by assumption) ?_
            rotate_left
            · intro w _
              first | (go_simp; done) | (go_simp; with_reducible rfl)
            try simp only [Act.put, List.setIfInBounds_toArray, List.set_cons_zero, List.set_cons_succ]
            refine wpAnyH_take (i := 11) (oi := { dst := some 156, op := Go.Op.pick (Go.Operand.tmp 152) (Go.Operand.const (Go.Value.bool true)) (Go.Operand.tmp 155), type := 4, pos := "law.go:68", after := #[{ on := 7, ground := Go.Ground.data }, { on := 10, ground := Go.Ground.data }], guard := none }) (v := ?_) rfl (by kernel_rfl) (by kernel_rfl) (by kernel_rfl) (fun _ _ _ h => h) (Or.inl ⟨by kernel_rfl, ?_⟩) (by assumption) ?_
            rotate_left
            · intro w _
              first | (go_simp; done) | (go_simp; with_reducible rfl)
            try simp only [Act.put, List.setIfInBounds_toArray, List.set_cons_zero, List.set_cons_succ]
            refine wpAnyH_take (i := 12) (oi := { dst := some 157, op := Go.Op.move (Go.Operand.tmp 156), type := 4, pos := "law.go:68", after := #[{ on := 11, ground := Go.Ground.data }, { on := 7, ground := Go.Ground.chain }], guard := none }) (v := ?_) rfl (by kernel_rfl) (by kernel_rfl) (by kernel_rfl) (fun _ _ _ h => h) (Or.inl ⟨by kernel_rfl, ?_⟩) (by assumption) ?_
            rotate_left
            · intro w _
              first | (go_simp; done) | (go_simp; with_reducible rfl)
            try simp only [Act.put, List.setIfInBounds_toArray, List.set_cons_zero, List.set_cons_succ]
            refine wpAnyH_take (i := 13) (oi := { dst := some 158, op := Go.Op.move (Go.Operand.tmp 6), type := 25, pos := "law.go:68", after := #[{ on := 12, ground := Go.Ground.guard }], guard := some (12, false) }) (v := ?_) rfl (by kernel_rfl) (by kernel_rfl) (by kernel_rfl) (fun _ _ _ h => h) (Or.inl ⟨by kernel_rfl, ?_⟩) (by assumption) ?_
            rotate_left
            · intro w _
              first | (go_simp; done) | (go_simp; with_reducible rfl)
            try simp only [Act.put, List.setIfInBounds_toArray, List.set_cons_zero, List.set_cons_succ]
            refine wpAnyH_take (i := 15) (oi := { dst := some 160, op := Go.Op.move (Go.Operand.tmp 7), type := 28, pos := "law.go:68", after := #[{ on := 12, ground := Go.Ground.guard }], guard := some (12, false) }) (v := ?_) rfl (by kernel_rfl) (by kernel_rfl) (by kernel_rfl) (fun _ _ _ h => h) (Or.inl ⟨by kernel_rfl, ?_⟩) (by assumption) ?_
            rotate_left
            · intro w _
              first | (go_simp; done) | (go_simp; with_reducible rfl)
            try simp only [Act.put, List.setIfInBounds_toArray, List.set_cons_zero, List.set_cons_succ]
            refine wpAnyH_take (i := 16) (oi := { dst := some 161, op := Go.Op.nilCheck (Go.Operand.tmp 160), type := 0, pos := "law.go:68", after := #[{ on := 15, ground := Go.Ground.data }, { on := 12, ground := Go.Ground.guard }], guard := some (12, false) }) (v := ?_) rfl (by kernel_rfl) (by kernel_rfl) (by kernel_rfl) (fun _ _ _ h => h) (Or.inl ⟨by kernel_rfl, ?_⟩) (by assumption) ?_
            rotate_left
            · intro w _
              first | (go_simp; done) | (go_simp; with_reducible rfl)
            try simp only [Act.put, List.setIfInBounds_toArray, List.set_cons_zero, List.set_cons_succ]
            refine wpAnyH_take (i := 17) (oi := { dst := some 162, op := Go.Op.fieldAddr 30 (Go.Operand.tmp 161) 0, type := 0, pos := "law.go:68", after := #[{ on := 16, ground := Go.Ground.data }, { on := 12, ground := Go.Ground.guard }], guard := some (12, false) }) (v := ?_) rfl (by kernel_rfl) (by kernel_rfl) (by kernel_rfl) (fun _ _ _ h => h) (Or.inl ⟨by kernel_rfl, ?_⟩) (by assumption) ?_
            rotate_left
            · intro w _
              first | (go_simp; done) | (go_simp; with_reducible rfl)
            try simp only [Act.put, List.setIfInBounds_toArray, List.set_cons_zero, List.set_cons_succ]
            refine wpAnyH_ready (rs := [14, 18]) (by kernel_rfl) (by simp) ?_
            refine AllReadyH.cons (o := { dst := some 159, op := Go.Op.call { callee := Go.Callee.value (Go.Operand.func 17), args := #[Go.Operand.tmp 158], argTypes := #[25] }, type := 3, pos := "law.go:68", after := #[{ on := 13, ground := Go.Ground.data }, { on := 12, ground := Go.Ground.chain }, { on := 12, ground := Go.Ground.guard }], guard := some (12, false) }) rfl (fun K hK => ?_) ?_
            ·
              go_simp
              go_at_call 17
              refine HLN.out.mono ?_
              rintro e wm ⟨rfl, rfl⟩
              refine hK.out _ _ S0 (fun _ => ?_)
              clear hK K
              try simp only [Act.put, List.setIfInBounds_toArray, List.set_cons_zero, List.set_cons_succ]
              refine wpAnyH_ready (rs := [18]) (by kernel_rfl) (by simp) ?_
              refine AllReadyH.cons (o := { dst := some 163, op := Go.Op.load 22 (Go.Operand.tmp 162), type := 22, pos := "law.go:68", after := #[{ on := 17, ground := Go.Ground.data }, { on := 12, ground := Go.Ground.guard }], guard := some (12, false) }) rfl (fun K hK => ?_) AllReadyH.nil
              go_simp
              refine hK.out _ _ S0 (fun _ => ?_)
              clear hK K
              try simp only [Act.put, List.setIfInBounds_toArray, List.set_cons_zero, List.set_cons_succ]
              refine wpAnyH_take (i := 19) (oi := { dst := some 164, op := Go.Op.call { callee := Go.Callee.builtin Go.Builtin.len, args := #[Go.Operand.tmp 163], argTypes := #[22] }, type := 3, pos := "law.go:68", after := #[{ on := 18, ground := Go.Ground.data }, { on := 12, ground := Go.Ground.guard }], guard := some (12, false) }) (v := ?_) rfl (by kernel_rfl) (by kernel_rfl) (by kernel_rfl) (fun _ _ _ h => h) (Or.inl ⟨by kernel_rfl, ?_⟩) (by assumption) ?_
              rotate_left
              · intro w _
                first | (go_simp; done) | (go_simp; with_reducible rfl)
              try simp only [Act.put, List.setIfInBounds_toArray, List.set_cons_zero, List.set_cons_succ]
              refine wpAnyH_take (i := 20) (oi := { dst := some 165, op := Go.Op.binOp Go.BinOp.neq 3 (Go.Operand.tmp 159) (Go.Operand.tmp 164) 3, type := 4, pos := "law.go:68", after := #[{ on := 14, ground := Go.Ground.data }, { on := 19, ground := Go.Ground.data }, { on := 12, ground := Go.Ground.guard }], guard := some (12, false) }) (v := ?_) rfl (by kernel_rfl) (by kernel_rfl) (by kernel_rfl) (fun _ _ _ h => h) (Or.inl ⟨by kernel_rfl, ?_⟩) (by assumption) ?_
              rotate_left
              · intro w _
                first | (go_simp; done) | (go_simp; with_reducible rfl)
              try simp only [Act.put, List.setIfInBounds_toArray, List.set_cons_zero, List.set_cons_succ]
              refine wpAnyH_take (i := 21) (oi := { dst := some 166, op := Go.Op.pick (Go.Operand.tmp 157) (Go.Operand.const (Go.Value.bool true)) (Go.Operand.tmp 165), type := 4, pos := "law.go:68", after := #[{ on := 12, ground := Go.Ground.data }, { on := 20, ground := Go.Ground.data }], guard := none }) (v := ?_) rfl (by kernel_rfl) (by kernel_rfl) (by kernel_rfl) (fun _ _ _ h => h) (Or.inl ⟨by kernel_rfl, ?_⟩) (by assumption) ?_
              rotate_left
              · intro w _
                first | (go_simp; done) | (go_simp; with_reducible rfl)
              try simp only [Act.put, List.setIfInBounds_toArray, List.set_cons_zero, List.set_cons_succ]
              refine wpAnyH_done (by kernel_rfl) ?_ _
              go_wp2
              go_roundg (30 - (i + 1))
              case measure => omega
              case rel => exact ⟨i + 1, by omega, rfl, by omega, by first | rfl | go_num, HP9⟩
            refine AllReadyH.cons (o := { dst := some 163, op := Go.Op.load 22 (Go.Operand.tmp 162), type := 22, pos := "law.go:68", after := #[{ on := 17, ground := Go.Ground.data }, { on := 12, ground := Go.Ground.guard }], guard := some (12, false) }) rfl (fun K hK => ?_) AllReadyH.nil
            ·
              go_simp
              refine hK.out _ _ S0 (fun _ => ?_)
              clear hK K
              try simp only [Act.put, List.setIfInBounds_toArray, List.set_cons_zero, List.set_cons_succ]
              refine wpAnyH_take (i := 19) (oi := { dst := some 164, op := Go.Op.call { callee := Go.Callee.builtin Go.Builtin.len, args := #[Go.Operand.tmp 163], argTypes := #[22] }, type := 3, pos := "law.go:68", after := #[{ on := 18, ground := Go.Ground.data }, { on := 12, ground := Go.Ground.guard }], guard := some (12, false) }) (v := ?_) rfl (by kernel_rfl) (by kernel_rfl) (by kernel_rfl) (fun _ _ _ h => h) (Or.inl ⟨by kernel_rfl, ?_⟩) (by assumption) ?_
              rotate_left
              · intro w _
                first | (go_simp; done) | (go_simp; with_reducible rfl)
              try simp only [Act.put, List.setIfInBounds_toArray, List.set_cons_zero, List.set_cons_succ]
              refine wpAnyH_ready (rs := [14]) (by kernel_rfl) (by simp) ?_
              refine AllReadyH.cons (o := { dst := some 159, op := Go.Op.call { callee := Go.Callee.value (Go.Operand.func 17), args := #[Go.Operand.tmp 158], argTypes := #[25] }, type := 3, pos := "law.go:68", after := #[{ on := 13, ground := Go.Ground.data }, { on := 12, ground := Go.Ground.chain }, { on := 12, ground := Go.Ground.guard }], guard := some (12, false) }) rfl (fun K hK => ?_) AllReadyH.nil
              go_simp
              go_at_call 17
              refine HLN.out.mono ?_
              rintro e wm ⟨rfl, rfl⟩
              refine hK.out _ _ S0 (fun _ => ?_)
              clear hK K
              try simp only [Act.put, List.setIfInBounds_toArray, List.set_cons_zero, List.set_cons_succ]
              refine wpAnyH_take (i := 20) (oi := { dst := some 165, op := Go.Op.binOp Go.BinOp.neq 3 (Go.Operand.tmp 159) (Go.Operand.tmp 164) 3, type := 4, pos := "law.go:68", after := #[{ on := 14, ground := Go.Ground.data }, { on := 19, ground := Go.Ground.data }, { on := 12, ground := Go.Ground.guard }], guard := some (12, false) }) (v := ?_) rfl (by kernel_rfl) (by kernel_rfl) (by kernel_rfl) (fun _ _ _ h => h) (Or.inl ⟨by kernel_rfl, ?_⟩) (by assumption) ?_
              rotate_left
              · intro w _
                first | (go_simp; done) | (go_simp; with_reducible rfl)
              try simp only [Act.put, List.setIfInBounds_toArray, List.set_cons_zero, List.set_cons_succ]
              refine wpAnyH_take (i := 21) (oi := { dst := some 166, op := Go.Op.pick (Go.Operand.tmp 157) (Go.Operand.const (Go.Value.bool true)) (Go.Operand.tmp 165), type := 4, pos := "law.go:68", after := #[{ on := 12, ground := Go.Ground.data }, { on := 20, ground := Go.Ground.data }], guard := none }) (v := ?_) rfl (by kernel_rfl) (by kernel_rfl) (by kernel_rfl) (fun _ _ _ h => h) (Or.inl ⟨by kernel_rfl, ?_⟩) (by assumption) ?_
              rotate_left
              · intro w _
                first | (go_simp; done) | (go_simp; with_reducible rfl)
              try simp only [Act.put, List.setIfInBounds_toArray, List.set_cons_zero, List.set_cons_succ]
              refine wpAnyH_done (by kernel_rfl) ?_ _
              go_wp2
              go_roundg (30 - (i + 1))
              case measure => omega
              case rel => exact ⟨i + 1, by omega, rfl, by omega, by first | rfl | go_num, HP9⟩
      · obtain rfl : i = n2 := hi3
        have hiI : ¬ (i : Int) < (i : Int) := by omega
        go_wp2
        go_ret
        exact ⟨by first | rfl | (simp; done), HBW.out⟩
      · have hiI : (i : Int) < (n2 : Int) := by omega
        have hiJ : ¬ (i : Int) < 30 := by omega
        clear hi4
        go_wp2
        go_ret
        exact ⟨by first | rfl | (simp; done), HBW.out⟩
end Go.Proofs.Ytlicnijhmncoeaa
