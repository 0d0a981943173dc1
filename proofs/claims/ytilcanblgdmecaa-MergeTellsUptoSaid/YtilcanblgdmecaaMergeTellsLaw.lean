/- Any lists are merged, or not, as the chapter says; so are the first of some, and those up to an end: the walk of MergeTells. -/
import Derived.Test.YtilcanblgdmecaaMergeTell
import Derived.Deep.DeepCutAuto
import Derived.Deep.CutBlock
namespace Go.Proofs.Ytilcanblgdmecaa
open Go.RowKit
set_option linter.unusedVariables false
set_option linter.unusedSimpArgs false

theorem infoLs : (Try.prog.info? 34).map (fun i => (i.zero, i.size, i.bytes)) = some (some (.slice none 0 0), 1, 24) := by kernel_rfl
theorem infoLsQ : (Try.prog.info? 38).map (fun i => (i.zero, i.size, i.bytes)) = some (some (.slice none 0 0), 1, 24) := by kernel_rfl
set_option maxRecDepth 100000 in
set_option maxHeartbeats 6400000 in
theorem mergeTells_walk {W : World} (AX : Option Addr) (nX cX : Nat) (xx : List ItLs) (x : ItemX) (asc : Bool) (most : Int) (really near : Bool) (hX : GridI W.heap.size W AX nX xx) (hx : GoodI W.heap.size W x) (ux : itemK x ≤ 1048576) (hmw : (Lit.int .i64 most).wf = true) :
    Calls Try.prog 3 #[.slice AX nX cX, x.val, .bool asc, .int .i64 most, .bool really, .bool near] W fun e w' => e = .returned (.bool true) ∧ Below W.heap.size W w' := by
  have h0 : W.heap.size ≤ W.heap.size := Nat.le_refl _
  obtain ⟨i0, hi, hz0, hz1, hz2⟩ := info_parts infoEnt
  obtain ⟨i1, hj, hj0, hj1, hj2⟩ := info_parts infoLs
  obtain ⟨i2, hk, hk0, hk1, hk2⟩ := info_parts infoLsQ
  obtain ⟨m1, m2⟩ : -9223372036854775808 ≤ most ∧ most ≤ 9223372036854775807 := by simpa [Lit.wf, IntKind.min, IntKind.max, IntKind.signed, IntKind.bits] using hmw
  obtain ⟨g7, hg7⟩ : ∃ g, W.heap.size = g := ⟨_, rfl⟩
  obtain ⟨w1, hw1⟩ : ∃ z, W.alloc (.cells #[.int .i64 x.e.ts, .slice x.e.A x.e.n x.e.c, .string x.e.ln, .bool x.own, .int .i8 x.t, .slice x.LA x.Ln x.Lc, .int .u8 (x.k : Int)] 30) = z := ⟨_, rfl⟩
  have K1 : BlkW w1 g7 30 #[.int .i64 x.e.ts, .slice x.e.A x.e.n x.e.c, .string x.e.ln, .bool x.own, .int .i8 x.t, .slice x.LA x.Ln x.Lc, .int .u8 (x.k : Int)] := by rw [← hw1, ← hg7]; exact Blk.new _ _ _
  have hb1 : Below W.heap.size W w1 := by rw [← hw1]; exact (Below.refl _ _).alloc h0 _
  have KI := Lib.hid K1
  have Hb1 := Lib.hid hb1
  have HX := Lib.hid (mergeExamples_any w1)
  have GX := Lib.hid hX
  have IX := Lib.hid (fun w (h : Below W.heap.size W w) => item_any W.heap.size x w (hx.below h))
  have PX := item_put hx ux
  have LX := Lib.hid (fun (a : EntX) (w : World) (h1 : a.b = itemB x) (h2 : Good W.heap.size w a) => show a.n ≤ 1048576 from by
    have k1 := h2.set.1.1
    have k2 : a.b.ls.length ≤ 1048576 := by rw [h1]; exact PX.len
    have k3 : a.b.ls = a.ls := rfl
    rw [k3] at k2
    omega)
  have hxv : x.val = .agg #[.int .i64 x.e.ts, .slice x.e.A x.e.n x.e.c, .string x.e.ln, .bool x.own, .int .i8 x.t, .slice x.LA x.Ln x.Lc, .int .u8 (x.k : Int)] := rfl
  rw [hxv]
  clear hX hx ux hmw K1 hb1 hxv PX
  go_enter Try.func3, Try.ntmps3
  go_wp2_with fail
  refine HX.out.mono ?_
  rintro e w2 ⟨rfl, hb2⟩
  have HB := Lib.hid (hop Hb1.out h0 hb2)
  have KI2 := Lib.hid (KI.out.below hb2)
  clear hb2 HX hw1 hg7 Hb1 KI
  cases near with
  | true =>
    obtain ⟨mo, hmo⟩ : ∃ z, most.tmod 20 = z := ⟨_, rfl⟩
    have hmr : -20 ≤ most.tmod 20 ∧ most.tmod 20 ≤ 20 := by
      rcases Int.le_total 0 most with g | g
      · rw [Int.tmod_eq_emod_of_nonneg g]; omega
      · have e : most.tmod 20 = -((-most) % 20) := by
          rw [← Int.tmod_eq_emod_of_nonneg (by omega), Int.neg_tmod, Int.neg_neg]
        rw [e]; omega
    rw [hmo] at hmr
    have mo1 : -9223372036854775808 ≤ mo := by omega
    have mo2 : mo ≤ 9223372036854775807 := by omega
    have hmw : IntKind.i64.wrap mo = mo := by rw [IntKind.wrap_i64]; omega
    have hmw2 : IntKind.i64.wrap (most.tmod 20) = mo := by rw [hmo]; exact hmw
    go_wp2
    clear hmo hmw2
    go_loopw [14, 15, 16, 17] (fun va vb vc iv wr => ∃ (j : Nat) (xs rs : List LsX) (L : List EntX), j ≤ nX ∧ j ≤ 4 ∧ iv = .int .i64 (j : Int) ∧ Hid (TellS W.heap.size w2.heap.size wr va vb vc xs rs L) ∧ Hid (xs.length = j ∧ rs.length = j ∧ Alike xs rs) ∧ Hid (L.map EntX.b = allB xs) ∧ Hid (totL xs ≤ 6 * j) ∧ Hid (L.length ≤ 6 * j) ∧ Hid (∀ e ∈ L, e.n ≤ 1048576) ∧ Below w2.heap.size w2 wr) (fun _ _ _ iv _ => 4 - (intOf iv).toNat)
    case atStart => exact ⟨0, [], [], [], Nat.zero_le _, Nat.zero_le _, rfl, Lib.hid (TellS.new _ _ _ HB.out.size), Lib.hid ⟨rfl, rfl, rfl⟩, Lib.hid rfl, Lib.hid (Nat.le_refl _), Lib.hid (Nat.le_refl _), Lib.hid (fun e he => absurd he List.not_mem_nil), Below.refl _ _⟩
    case round =>
      obtain ⟨j, xs, rs, L, hjn, hj4, rfl, HT, HXL, HLB, HTO, HLL, HLN, hb⟩ := hrel
      have hsz := hb.size
      by_cases hj2 : j < nX ∧ j < 4
      · obtain ⟨hjx, hjy⟩ := hj2
        have hjI : (j : Int) < (nX : Int) := by omega
        have hjJ : (j : Int) < 4 := by omega
        obtain ⟨g1, o1, rfl, hlt1, hc1⟩ := (GX.out.below (hop HB.out h0 hb)).at_ (by omega)
        obtain ⟨c1, hm1⟩ := hc1 j hjx
        have hgd := GX.out.good _ hm1
        obtain ⟨y, hy⟩ : ∃ y, xx.getD j default = y := ⟨_, rfl⟩
        rw [hy] at c1 hgd
        obtain ⟨yA, yn, yc, yl⟩ := y
        dsimp only at c1 hgd
        have IT := Lib.hid (fun w (h : Below W.heap.size W w) => items_any W.heap.size yA yn yc 6 yl (by have := hgd.2.1; have := hgd.2.2.1; unfold maxLen at this; omega) (by decide) w h.size (hgd.1.below h))
        have GI := Lib.hid (And.intro hgd.1.2 hgd.2.2.2)
        have HBW := Lib.hid (hop HB.out h0 hb)
        have HHB := Lib.hid hb
        clear hc1 hm1 hy hgd hb
        go_wp2_with fail
        refine (IT.out _ HBW.out).mono ?_
        rintro e w3 ⟨v3, L3, rfl, ho, hL, hx3⟩
        have hlen : L3.length ≤ 6 := by
          have h3 := congrArg List.length hL
          rw [List.length_map] at h3
          have := itemsB_len yl 6
          omega
        have N3 := Lib.hid (items_n GI.out.1 GI.out.2 hL ho.2)
        have HOW := Lib.hid (show ∀ k, u16.ownBlock = some k → k < wr.heap.size from fun k hk => (own_ge HT.out.oc hk).2)
        have HT3 := Lib.hid (HT.out.below hx3)
        have HB3 := Lib.hid (hop HHB.out (Nat.le_refl _) hx3)
        have hs3 : wr.heap.size ≤ w3.heap.size := hx3.size
        have ho3 := ho
        obtain ⟨A3, c3, rfl, _, _, _⟩ := ho.ents
        obtain ⟨n3, hn3⟩ : ∃ n, L3.length = n := ⟨_, rfl⟩
        rw [hn3] at ho3 hlen ⊢
        have SO := Lib.hid (sorted_both really W.heap.size wr.heap.size A3 n3 c3 L3 asc hn3 (by omega) N3.out w3 (by have := HBW.out.size; omega) hs3 ho3)
        clear ho hL hx3 ho3 IT GI c1 HT HHB hn3
        go_wp2_with fail
        refine SO.out.mono ?_
        rintro e w4 ⟨v4, M, rfl, ho4, hM, hMn, hx4⟩
        have HT4 := Lib.hid (HT3.out.below hx4)
        have HB4 := Lib.hid (hop HB3.out (Nat.le_refl _) hx4)
        have ho4c := ho4.1
        obtain ⟨A4, c4, rfl, _, hno4, hE4⟩ := ho4.ents
        rw [hM] at hE4 ho4c hno4 ⊢
        have HO4 := Lib.hid (show OwnR EntX.V 3 w4 wr.heap.size 26 (.slice A4 n3 c4) M from ho4.1 |> fun h => by rw [hM] at h; exact h)
        have HE4 := Lib.hid hE4
        have C4 := Lib.hid (OwnR.cap ho4c)
        have HMN := Lib.hid hMn
        have HML := Lib.hid hM
        have HNO := Lib.hid hno4
        -- where the list lies: in none of the rows
        clear ho4 ho4c hM hMn hx4 hE4 hno4 HT3 HB3 SO N3
        have hn36 : n3 ≤ 6 := hlen
        go_wp2_with (at_builtin; refine wpList_append_own_at _ rfl (.tmp 55) (.tmp 57) 32 rfl w2.heap.size 34 i1 (.slice none 0 0) 1 24 Try.underlying32 hj hj0 hj1 hj2 rfl (by decide) _ _ _ rfl (OwnR.alloc HT4.out.oa _) ⟨w4.heap.size, 0, none⟩ 1 1 (LsX.V ⟨A4, n3, c4, M⟩) rfl rfl (new_cells_at _ _ _ _ (by simp)) (lsV_one _) (by unfold maxLen; have := HXL.out.1; omega) (by have := HXL.out.1; omega) (by have := HB4.out.size; simp; omega) ?_)
        intro na w5 hown5 hgrow5 _ hat5
        have hb5 : Below w2.heap.size w2 w5 := (HB4.out.alloc HB4.out.size _).grown hgrow5 (by have := HB4.out.size; simp; omega) (fun r hr => (own_ge HT4.out.oa hr).1)
        have hTa := HT4.out.below ((Below.refl _ _).alloc (Nat.le_refl _) (.cells (LsX.V ⟨A4, n3, c4, M⟩).toArray 34))
        have hT5 := hTa.putA (x := ⟨A4, n3, c4, M⟩) hgrow5 (OwnR.snoc (a := (⟨A4, n3, c4, M⟩ : LsX)) hown5) (by simpa using hat5) ⟨HE4.out.below ((Below.refl _ _).alloc (Nat.le_refl _) _), C4.out⟩ (hTa.off (OwnR.alloc HO4.out _) HML.out HOW.out)
        have hE5 := (hT5.ok.lx ⟨A4, n3, c4, M⟩ (List.mem_append_right _ List.mem_cons_self)).1
        have HT5 := Lib.hid hT5
        have HB5 := Lib.hid hb5
        have RE := Lib.hid (refEntries_own W.heap.size A4 n3 c4 M (by omega) HMN.out w5 hE5)
        clear hown5 hgrow5 hat5 hb5 hTa hT5 hE5 HE4 HO4 HT4 HB4
        go_wp2_with fail
        refine RE.out.mono ?_
        rintro e w6 ⟨Aq, cq, Lq, rfl, hLq, hLqn, hOQ, hlq, hnq, hx6⟩
        have HT6 := Lib.hid (HT5.out.below hx6)
        have HB6 := Lib.hid (hop HB5.out (Nat.le_refl _) hx6)
        have HOQ := Lib.hid hOQ
        have HLQ := Lib.hid hLq
        have HLQN := Lib.hid hLqn
        have HLQL := Lib.hid hlq
        have HNQ := Lib.hid hnq
        clear hx6 hOQ hLq hLqn hlq hnq RE HT5 HB5
        go_wp2_with (at_builtin; refine wpList_append_own_at _ rfl (.tmp 59) (.tmp 62) 33 rfl w2.heap.size 38 i2 (.slice none 0 0) 1 24 Try.underlying33 hk hk0 hk1 hk2 rfl (by decide) _ _ _ rfl (OwnR.alloc HT6.out.ob _) ⟨w6.heap.size, 0, none⟩ 1 1 (LsX.V ⟨Aq, n3, cq, Lq⟩) rfl rfl (new_cells_at _ _ _ _ (by simp)) (lsV_one _) (by unfold maxLen; have := HXL.out.2.1; omega) (by have := HXL.out.2.1; omega) (by have := HB6.out.size; simp; omega) ?_)
        intro nb w7 hown7 hgrow7 _ hat7
        have hb7 : Below w2.heap.size w2 w7 := (HB6.out.alloc HB6.out.size _).grown hgrow7 (by have := HB6.out.size; simp; omega) (fun r hr => (own_ge HT6.out.ob hr).1)
        have hTa := HT6.out.below ((Below.refl _ _).alloc (Nat.le_refl _) (.cells (LsX.V ⟨Aq, n3, cq, Lq⟩).toArray 38))
        have hOQa := HOQ.out.below ((Below.refl _ _).alloc (Nat.le_refl _) (.cells (LsX.V ⟨Aq, n3, cq, Lq⟩).toArray 38))
        have hQE : EntsQ (w6.alloc (.cells (LsX.V ⟨Aq, n3, cq, Lq⟩).toArray 38)) Aq n3 Lq := by
          obtain ⟨A9, c9, e9, hE9⟩ := hOQa.ents
          injection e9 with e91 e92 e93
          subst e91
          rw [← e92] at hE9
          exact hE9
        have hT7 := hTa.putB (x := ⟨Aq, n3, cq, Lq⟩) hgrow7 (OwnR.snoc (a := (⟨Aq, n3, cq, Lq⟩ : LsX)) hown7) (by simpa using hat7) ⟨hQE, HLQN.out, HNQ.out⟩ (hTa.offQ hOQa.1 HLQL.out)
        have hE7 := (hT7.ok.lx ⟨A4, n3, c4, M⟩ (List.mem_append_right _ List.mem_cons_self)).1
        have HT7 := Lib.hid hT7
        have HB7 := Lib.hid hb7
        have HE7 := Lib.hid hE7
        have hs7 : w2.heap.size ≤ w7.heap.size := hb7.size
        have HXL2 := Lib.hid (show (xs ++ [(⟨A4, n3, c4, M⟩ : LsX)]).length = j + 1 ∧ (rs ++ [(⟨Aq, n3, cq, Lq⟩ : LsX)]).length = j + 1 ∧ Alike (xs ++ [(⟨A4, n3, c4, M⟩ : LsX)]) (rs ++ [(⟨Aq, n3, cq, Lq⟩ : LsX)]) from ⟨by rw [List.length_append, HXL.out.1]; rfl, by rw [List.length_append, HXL.out.2.1]; rfl, HXL.out.2.2.put HLQ.out⟩)
        have HLB2 := Lib.hid (show (L ++ M).map EntX.b = allB (xs ++ [(⟨A4, n3, c4, M⟩ : LsX)]) by
          unfold allB
          rw [List.map_append, HLB.out, List.flatMap_append]
          simp [allB])
        have HTO2 := Lib.hid (show totL (xs ++ [(⟨A4, n3, c4, M⟩ : LsX)]) ≤ 6 * (j + 1) by
          have := HTO.out
          unfold totL at *
          rw [List.map_append, List.sum_append]
          simp
          omega)
        have HLL2 := Lib.hid (show (L ++ M).length ≤ 6 * (j + 1) by rw [List.length_append, HML.out]; have := HLL.out; omega)
        have HLN2 := Lib.hid (show ∀ e ∈ L ++ M, e.n ≤ 1048576 from fun e he => by
          rcases List.mem_append.1 he with he | he
          · exact HLN.out e he
          · exact HMN.out e he)
        clear hown7 hgrow7 hat7 hb7 hTa hOQa hQE hT7 hE7 HT6 HB6 HOQ HLQ HLQN HLQL HNQ HXL HLB HTO HLN
        by_cases hn30 : 0 < n3
        · obtain ⟨b3, o3, e3, _, _⟩ := HE7.out.1.2 hn30
          subst e3
          have SRC := Lib.hid (src_row HE7.out.1)
          go_wp2_with (at_builtin; refine wpList_append_own_at _ rfl (.tmp 64) (.tmp 65) 34 rfl w2.heap.size 26 i0 (.agg #[.int .i64 0, .slice none 0 0, .string ⟨#[]⟩]) 3 48 Try.underlying34 hi hz0 hz1 hz2 rfl (by decide) _ _ _ rfl HT7.out.oc ⟨b3, o3, none⟩ n3 c4 (rowV EntX.V M) rfl (by rw [rowV_len entV_len, HML.out]) SRC.out (rowV_one entV_one _) (by unfold maxLen; have := HLL.out; omega) (by have := HLL.out; omega) hs7 ?_)
          intro nc w8 hown8 hgrow8 _ hat8
          have hb8 := HB7.out.grown hgrow8 hs7 (fun r hr => (own_ge HT7.out.oc hr).1)
          have HT8 := Lib.hid (HT7.out.putC hgrow8 (OwnR.snocs (m := M) (by rw [HML.out]; exact hown8)) hat8 HE7.out.2)
          clear hown8 hgrow8 hat8 HT7 HE7 SRC HB7
          go_wp2
          go_round
          case rel => exact ⟨j + 1, _, _, L ++ M, by omega, by omega, by go_num, HT8, HXL2, HLB2, HTO2, HLL2, HLN2, hb8⟩
          case measure => simp [intOf]; omega
        · obtain rfl : n3 = 0 := by omega
          have hM0 : M = [] := List.eq_nil_of_length_eq_zero HML.out
          have HL0 := Lib.hid (show L ++ M = L by rw [hM0, List.append_nil])
          cases A4 with
          | none =>
            obtain ⟨_, rfl⟩ := HNO.out rfl
            have HT8 := Lib.hid HT7.out.same
            rw [← hM0] at HT8
            clear hM0
            go_wp2_with (at_builtin; refine wpList_append_own_none rfl (.tmp 64) (.tmp 65) 34 rfl w2.heap.size 26 i0 3 Try.underlying34 hi _ _ _ rfl HT7.out.oc rfl ?_)
            clear HT7 HE7
            go_wp2
            go_round
            case rel => exact ⟨j + 1, _, _, L ++ M, by omega, by omega, by go_num, HT8, HXL2, HLB2, HTO2, HLL2, HLN2, HB7.out⟩
            case measure => simp [intOf]; omega
          | some a4 =>
            clear hM0
            go_wp2_with (at_builtin; refine wpList_append_own_at _ rfl (.tmp 64) (.tmp 65) 34 rfl w2.heap.size 26 i0 (.agg #[.int .i64 0, .slice none 0 0, .string ⟨#[]⟩]) 3 48 Try.underlying34 hi hz0 hz1 hz2 rfl (by decide) _ _ _ rfl HT7.out.oc a4 0 c4 [] rfl rfl (fun p u hu => by cases hu) (fun u hu => by cases hu) (by unfold maxLen; have := HLL.out; omega) (by have := HLL.out; omega) hs7 ?_)
            intro nc w8 hown8 hgrow8 _ hat8
            have hb8 := HB7.out.grown hgrow8 hs7 (fun r hr => (own_ge HT7.out.oc hr).1)
            have HT8 := Lib.hid (HT7.out.putC (M := M) hgrow8 (by rw [HL0.out]; first | exact hown8 | simpa using hown8) hat8 HE7.out.2)
            clear hown8 hgrow8 hat8 HT7 HE7 HB7
            go_wp2
            go_round
            case rel => exact ⟨j + 1, _, _, L ++ M, by omega, by omega, by go_num, HT8, HXL2, HLB2, HTO2, HLL2, HLN2, hb8⟩
            case measure => simp [intOf]; omega

      · have hends : (¬ (j : Int) < (nX : Int)) ∨ ((j : Int) < (nX : Int) ∧ ¬ (j : Int) < 4) := by omega
        obtain ⟨Aa, ca, hva, _, _, ra⟩ := OwnR.open lsV_len HT.out.oa
        obtain ⟨Ab, cb, hvb, _, _, rb⟩ := OwnR.open lsV_len HT.out.ob
        obtain ⟨Ac, cc, hvc, _, _, rc⟩ := OwnR.open entV_len HT.out.oc
        have hcc := HT.out.oc
        obtain ⟨nL, hnL⟩ : ∃ n, L.length = n := ⟨_, rfl⟩
        rw [HXL.out.1] at hva ra
        rw [HXL.out.2.1] at hvb rb
        rw [hnL] at hvc rc
        rw [hvc] at hcc
        have CC := Lib.hid (OwnR.cap hcc)
        have hnL24 : nL ≤ 24 := by have := HLL.out; omega
        have PL := Lib.hid (show ListsP W.heap.size wr Aa j xs from ⟨ra, HT.out.ok.lx⟩)
        have PQ := Lib.hid (show ListsQ wr Ab j rs from ⟨rb, HT.out.ok.lr⟩)
        have PE := Lib.hid (show Ents W.heap.size wr Ac nL L from ⟨rc, HT.out.ok.lL⟩)
        have KI := Lib.hid (KI2.out.below hb)
        have HB3 := Lib.hid (hop HB.out h0 hb)
        have hto : totL xs ≤ 24 := by have := HTO.out; omega
        have htr : totL rs ≤ 24 := by rw [HXL.out.2.2.tot (fun x hx => (HT.out.ok.lx x hx).1.1.1) (fun x hx => (HT.out.ok.lr x hx).1.1.1)]; exact hto
        have HAL := Lib.hid (HXL.out.2.2.same asc)
        have HXN := Lib.hid (show ∀ x ∈ xs, x.l.length = x.n from fun x hx => (HT.out.ok.lx x hx).1.1.1)
        subst hva
        subst hvb
        subst hvc
        obtain ⟨S, hS⟩ : ∃ S, sortedLs asc xs = S := ⟨_, rfl⟩
        have AL := all_any W.heap.size asc mo Aa j ca xs (by omega) wr HB3.out.size PL.out
        rw [hS] at AL
        replace AL := Lib.hid AL
        have HSS := Lib.hid hS
        have HML := Lib.hid (show (mergeB asc mo xs).length ≤ 24 by
          unfold mergeB
          split
          · have h1 := uniq_len asc (allB xs)
            rw [allB_len xs HXN.out] at h1
            rw [List.length_take]
            omega
          · exact Nat.zero_le _)
        have HMR := Lib.hid (show mergeB asc mo rs = mergeB asc mo xs by unfold mergeB; rw [HAL.out.1, HAL.out.2])
        obtain ⟨v0, hv0⟩ : ∃ v, v = wr := ⟨_, rfl⟩
        subst hv0
        clear hb ra rb rc hcc HT HXL HLB HTO HLL hnL HXN hS hj2 PL HB KI2 hsz
        rcases hends with e1 | ⟨e1, e2⟩
        all_goals
          go_wp2_with fail
          refine AL.out.mono ?_
          rintro e w3 ⟨v19, T, rfl, hO, hT, hx⟩
          replace PQ := Lib.hid (PQ.out.below hx)
          replace PE := Lib.hid (PE.out.below hx)
          replace KI := Lib.hid (KI.out.below hx)
          replace HB3 := Lib.hid (hop HB3.out h0 hx)
          obtain ⟨A19, c19, rfl, _, _, hE⟩ := hO.ents
          obtain ⟨n19, h19⟩ : ∃ n, T.length = n := ⟨_, rfl⟩
          have hn19 : n19 ≤ 24 := by have h1 := congrArg List.length hT; rw [List.length_map, h19] at h1; have := HML.out; omega
          rw [h19] at hE ⊢
          have ER := Lib.hid hE
          have HTT := Lib.hid hT
          have RA := refAll_any asc mo mo1 mo2 Ab j cb rs (by omega) (by omega) w3 PQ.out
          rw [HAL.out.1, HSS.out] at RA
          replace RA := Lib.hid RA
          clear hO hT hx hE h19 AL
          go_wp2_with fail
          refine RA.out.mono ?_
          rintro e w4 ⟨A21, n21, c21, T2, rfl, hE, hT, hx⟩
          replace PE := Lib.hid (PE.out.below hx)
          replace KI := Lib.hid (KI.out.below hx)
          replace ER := Lib.hid (ER.out.below hx)
          replace HB3 := Lib.hid (hop HB3.out h0 hx)
          have hn21 : n21 ≤ 24 := by have h1 := congrArg List.length hT; rw [List.length_map, hE.1.1, HMR.out] at h1; have := HML.out; omega
          have EQ2 := Lib.hid hE
          have HT2 := Lib.hid (hT.trans HMR.out)
          have FI := first_any W.heap.size asc Ac nL cc L CC.out w4 PE.out
          obtain ⟨F, hF⟩ : ∃ F, firstE asc L = F := ⟨_, rfl⟩
          have GF := Lib.hid (show Good W.heap.size w4 F by rw [← hF]; exact firstE_good asc PE.out.2)
          obtain ⟨zo, hzo⟩ : ∃ z, decide (0 < nL) = z := ⟨_, rfl⟩
          rw [hF, hzo] at FI
          unfold entArr at FI
          replace FI := Lib.hid FI
          have HF := Lib.hid hF
          have HZO := Lib.hid hzo
          clear hE hT hx RA PQ hF hzo
          go_wp2_with fail
          refine FI.out.mono ?_
          rintro e w5 ⟨rfl, hx⟩
          replace PE := Lib.hid (PE.out.below hx)
          replace KI := Lib.hid (KI.out.below hx)
          replace ER := Lib.hid (ER.out.below hx)
          replace EQ2 := Lib.hid (EQ2.out.below hx)
          replace GF := Lib.hid (GF.out.below hx)
          replace HB3 := Lib.hid (hop HB3.out h0 hx)
          clear hx FI
          obtain ⟨g23, hg23⟩ : ∃ g, w5.heap.size = g := ⟨_, rfl⟩
          obtain ⟨w6, hw6⟩ : ∃ z, w5.alloc (.cells #[.int .i64 F.ts, .slice F.A F.n F.c, .string F.ln] 26) = z := ⟨_, rfl⟩
          have K23 := Lib.hid (show BlkW w6 g23 26 #[.int .i64 F.ts, .slice F.A F.n F.c, .string F.ln] by rw [← hw6, ← hg23]; exact Blk.new _ _ _)
          have hx : Below w5.heap.size w5 w6 := by rw [← hw6]; exact (Below.refl _ _).alloc (Nat.le_refl _) _
          replace PE := Lib.hid (PE.out.below hx)
          replace KI := Lib.hid (KI.out.below hx)
          replace ER := Lib.hid (ER.out.below hx)
          replace EQ2 := Lib.hid (EQ2.out.below hx)
          replace GF := Lib.hid (GF.out.below hx)
          replace HB3 := Lib.hid (hop HB3.out h0 hx)
          have RE := Lib.hid (refEntries_any W.heap.size Ac nL cc L (by omega) HLN.out w6 PE.out)
          clear hx
          go_wp2_with fail
          clear hw6 hg23
          refine RE.out.mono ?_
          rintro e w7 ⟨Aq, cq, Lq, rfl, hLq, hLqn, hEQ, hx⟩
          replace PE := Lib.hid (PE.out.below hx)
          replace KI := Lib.hid (KI.out.below hx)
          replace ER := Lib.hid (ER.out.below hx)
          replace EQ2 := Lib.hid (EQ2.out.below hx)
          replace GF := Lib.hid (GF.out.below hx)
          replace K23 := Lib.hid (K23.out.below hx)
          replace HB3 := Lib.hid (hop HB3.out h0 hx)
          have RF := refFirst_any asc Aq nL cq Lq (by omega) w7 hEQ hLqn
          obtain ⟨G, hG⟩ : ∃ G, firstE asc Lq = G := ⟨_, rfl⟩
          have GG := Lib.hid (show SmallQ w7 G by rw [← hG]; exact firstE_small asc (fun x hx => ⟨hEQ.2 x hx, hLqn x hx⟩))
          have HFG := Lib.hid (show F.b = G.b by rw [← HF.out, ← hG]; exact firstE_alike hLq.symm)
          rw [hG, HZO.out] at RF
          unfold entArr at RF
          replace RF := Lib.hid RF
          clear hLq hLqn hEQ hx hG RE
          go_wp2_with fail
          refine RF.out.mono ?_
          rintro e w8 ⟨rfl, hx⟩
          replace PE := Lib.hid (PE.out.below hx)
          replace KI := Lib.hid (KI.out.below hx)
          replace ER := Lib.hid (ER.out.below hx)
          replace EQ2 := Lib.hid (EQ2.out.below hx)
          replace GF := Lib.hid (GF.out.below hx)
          replace K23 := Lib.hid (K23.out.below hx)
          replace GG := Lib.hid (GG.out.below hx)
          replace HB3 := Lib.hid (hop HB3.out h0 hx)
          clear hx RF
          obtain ⟨g25, hg25⟩ : ∃ g, w8.heap.size = g := ⟨_, rfl⟩
          obtain ⟨w9, hw9⟩ : ∃ z, w8.alloc (.cells #[.int .i64 G.ts, .slice G.A G.n G.c, .string G.ln] 48) = z := ⟨_, rfl⟩
          have K25 := Lib.hid (show BlkW w9 g25 48 #[.int .i64 G.ts, .slice G.A G.n G.c, .string G.ln] by rw [← hw9, ← hg25]; exact Blk.new _ _ _)
          have hx : Below w8.heap.size w8 w9 := by rw [← hw9]; exact (Below.refl _ _).alloc (Nat.le_refl _) _
          replace PE := Lib.hid (PE.out.below hx)
          replace KI := Lib.hid (KI.out.below hx)
          replace ER := Lib.hid (ER.out.below hx)
          replace EQ2 := Lib.hid (EQ2.out.below hx)
          replace GF := Lib.hid (GF.out.below hx)
          replace K23 := Lib.hid (K23.out.below hx)
          replace GG := Lib.hid (GG.out.below hx)
          replace HB3 := Lib.hid (hop HB3.out h0 hx)
          clear hx
          have a0 : w9.cell? ⟨g7, 0, none⟩ = some (.int .i64 x.e.ts) := (Blk.cell KI.out 0).trans rfl
          have a1 : w9.cell? ⟨g7, 1, none⟩ = some (.slice x.e.A x.e.n x.e.c) := (Blk.cell KI.out 1).trans rfl
          have a2 : w9.cell? ⟨g7, 2, none⟩ = some (.string x.e.ln) := (Blk.cell KI.out 2).trans rfl
          have a3 : w9.cell? ⟨g7, 3, none⟩ = some (.bool x.own) := (Blk.cell KI.out 3).trans rfl
          have a4 : w9.cell? ⟨g7, 4, none⟩ = some (.int .i8 x.t) := (Blk.cell KI.out 4).trans rfl
          have a5 : w9.cell? ⟨g7, 5, none⟩ = some (.slice x.LA x.Ln x.Lc) := (Blk.cell KI.out 5).trans rfl
          have a6 : w9.cell? ⟨g7, 6, none⟩ = some (.int .u8 (x.k : Int)) := (Blk.cell KI.out 6).trans rfl
          go_wp2_with fail
          clear hw9 hg25
          refine (IX.out _ HB3.out).mono ?_
          rintro e w10 ⟨y, rfl, hy, gy, hx⟩
          dsimp only [EntX.val]
          replace PE := Lib.hid (PE.out.below hx)
          replace KI := Lib.hid (KI.out.below hx)
          replace ER := Lib.hid (ER.out.below hx)
          replace EQ2 := Lib.hid (EQ2.out.below hx)
          replace GF := Lib.hid (GF.out.below hx)
          replace K23 := Lib.hid (K23.out.below hx)
          replace GG := Lib.hid (GG.out.below hx)
          replace K25 := Lib.hid (K25.out.below hx)
          replace HB3 := Lib.hid (hop HB3.out h0 hx)
          have HYN := Lib.hid (LX.out y w10 hy gy)
          have GY := Lib.hid gy
          clear hy gy hx a0 a1 a2 a3 a4 a5 a6 KI
          obtain ⟨g27, hg27⟩ : ∃ g, w10.heap.size = g := ⟨_, rfl⟩
          obtain ⟨w11, hw11⟩ : ∃ z, w10.alloc (.cells #[.int .i64 y.ts, .slice y.A y.n y.c, .string y.ln] 26) = z := ⟨_, rfl⟩
          have K27 := Lib.hid (show BlkW w11 g27 26 #[.int .i64 y.ts, .slice y.A y.n y.c, .string y.ln] by rw [← hw11, ← hg27]; exact Blk.new _ _ _)
          have hx : Below w10.heap.size w10 w11 := by rw [← hw11]; exact (Below.refl _ _).alloc (Nat.le_refl _) _
          replace PE := Lib.hid (PE.out.below hx)
          replace ER := Lib.hid (ER.out.below hx)
          replace EQ2 := Lib.hid (EQ2.out.below hx)
          replace GF := Lib.hid (GF.out.below hx)
          replace K23 := Lib.hid (K23.out.below hx)
          replace GG := Lib.hid (GG.out.below hx)
          replace K25 := Lib.hid (K25.out.below hx)
          replace GY := Lib.hid (GY.out.below hx)
          replace HB3 := Lib.hid (hop HB3.out h0 hx)
          have SE1 := Lib.hid (sameEntries_any W.heap.size A19 n19 c19 T A21 n21 c21 T2 (by omega) (by omega) w11 ER.out EQ2.out true ⟨fun _ => HTT.out.trans HT2.out.symm, fun _ => rfl⟩)
          clear hx
          go_wp2_with fail
          clear hw11 hg27
          refine SE1.out.mono ?_
          rintro e w12 ⟨rfl, hx⟩
          replace PE := Lib.hid (PE.out.below hx)
          replace GF := Lib.hid (GF.out.below hx)
          replace K23 := Lib.hid (K23.out.below hx)
          replace GG := Lib.hid (GG.out.below hx)
          replace K25 := Lib.hid (K25.out.below hx)
          replace GY := Lib.hid (GY.out.below hx)
          replace K27 := Lib.hid (K27.out.below hx)
          replace HB3 := Lib.hid (hop HB3.out h0 hx)
          clear hx SE1 ER EQ2
          have f0 : w12.cell? ⟨g23, 0, none⟩ = some (.int .i64 F.ts) := (Blk.cell K23.out 0).trans rfl
          have f1 : w12.cell? ⟨g23, 1, none⟩ = some (.slice F.A F.n F.c) := (Blk.cell K23.out 1).trans rfl
          have f2 : w12.cell? ⟨g23, 2, none⟩ = some (.string F.ln) := (Blk.cell K23.out 2).trans rfl
          have q0 : w12.cell? ⟨g25, 0, none⟩ = some (.int .i64 G.ts) := (Blk.cell K25.out 0).trans rfl
          have q1 : w12.cell? ⟨g25, 1, none⟩ = some (.slice G.A G.n G.c) := (Blk.cell K25.out 1).trans rfl
          have q2 : w12.cell? ⟨g25, 2, none⟩ = some (.string G.ln) := (Blk.cell K25.out 2).trans rfl
          have SM := sameEnt_q F G w12 GF.out GG.out.1
          rw [show sameE F.b G.b = true from sameE_iff.2 HFG.out] at SM
          replace SM := Lib.hid SM
          go_wp2_with fail
          refine SM.out.mono ?_
          rintro e w13 ⟨rfl, hx⟩
          replace PE := Lib.hid (PE.out.below hx)
          replace GY := Lib.hid (GY.out.below hx)
          replace K27 := Lib.hid (K27.out.below hx)
          replace HB3 := Lib.hid (hop HB3.out h0 hx)
          clear hx SM f0 f1 f2 q0 q1 q2 K23 K25 GF GG HFG
          have y0 : w13.cell? ⟨g27, 0, none⟩ = some (.int .i64 y.ts) := (Blk.cell K27.out 0).trans rfl
          have y1 : w13.cell? ⟨g27, 1, none⟩ = some (.slice y.A y.n y.c) := (Blk.cell K27.out 1).trans rfl
          have y2 : w13.cell? ⟨g27, 2, none⟩ = some (.string y.ln) := (Blk.cell K27.out 2).trans rfl
          have S0 : Below w13.heap.size w13 w13.drew ∧ w13.drew.cell? ⟨g27, 0, none⟩ = some (.int .i64 y.ts) ∧ w13.drew.cell? ⟨g27, 1, none⟩ = some (.slice y.A y.n y.c) ∧ w13.drew.cell? ⟨g27, 2, none⟩ = some (.string y.ln) := ⟨(Below.refl _ _).drew, y0, y1, y2⟩
          have HS := Lib.hid (fun (wa wb : World) (hS : Below w13.heap.size w13 wa ∧ wa.cell? ⟨g27, 0, none⟩ = some (.int .i64 y.ts) ∧ wa.cell? ⟨g27, 1, none⟩ = some (.slice y.A y.n y.c) ∧ wa.cell? ⟨g27, 2, none⟩ = some (.string y.ln)) (h : Below wa.heap.size wa wb) => show Below w13.heap.size w13 wb ∧ wb.cell? ⟨g27, 0, none⟩ = some (.int .i64 y.ts) ∧ wb.cell? ⟨g27, 1, none⟩ = some (.slice y.A y.n y.c) ∧ wb.cell? ⟨g27, 2, none⟩ = some (.string y.ln) from by
            obtain ⟨s0, s1, s2, s3⟩ := hS
            exact ⟨hop s0 (Nat.le_refl _) h, (h.cell (p := ⟨g27, 0, none⟩) (block_lt_of_cell s1)).trans s1, (h.cell (p := ⟨g27, 1, none⟩) (block_lt_of_cell s2)).trans s2, (h.cell (p := ⟨g27, 2, none⟩) (block_lt_of_cell s3)).trans s3⟩)
          have UP := Lib.hid (fun w (h : Below w13.heap.size w13 w) => upto_any W.heap.size asc y Ac nL cc L (by omega) w (by have := HB3.out.size; have := h.size; omega) (GY.out.below h) (PE.out.below h))
          have RY := Lib.hid (fun w (h : Below w13.heap.size w13 w) => refEntry_any y HYN.out w (GY.out.below h).set.1)
          have RE := Lib.hid (fun w (h : Below w13.heap.size w13 w) => refEntries_any W.heap.size Ac nL cc L (by omega) HLN.out w (PE.out.below h))
          have HNU := Lib.hid (show ∀ u, (uptoE asc u L).length ≤ 24 from fun u => Nat.le_trans (List.length_filter_le _ _) (by rw [PE.out.1.1]; omega))
          clear y0 y1 y2
          go_wp2
          refine wp_region_held_drew (S := fun w' => Below w13.heap.size w13 w' ∧ w'.cell? ⟨g27, 0, none⟩ = some (.int .i64 y.ts) ∧ w'.cell? ⟨g27, 1, none⟩ = some (.slice y.A y.n y.c) ∧ w'.cell? ⟨g27, 2, none⟩ = some (.string y.ln)) (by kernel_rfl) S0 (fun hHeld => ?_)
          refine wpAnyH_take (i := 0) (oi := { dst := some 102, op := Go.Op.move (Go.Operand.tmp 2), type := 4, pos := "law.go:188", after := #[], guard := none }) (v := ?_) rfl (by kernel_rfl) (by kernel_rfl) (by kernel_rfl) (fun _ _ _ h => h) (Or.inl ⟨by kernel_rfl, ?_⟩) (by assumption) ?_
          rotate_left
          · intro w _
            first | (go_simp; done) | (go_simp; with_reducible rfl)
          try simp only [Act.put, List.setIfInBounds_toArray, List.set_cons_zero, List.set_cons_succ]
          refine wpAnyH_take (i := 1) (oi := { dst := some 103, op := Go.Op.load 26 (Go.Operand.tmp 27), type := 26, pos := "law.go:188", after := #[], guard := none }) (v := ?_) rfl (by kernel_rfl) (by kernel_rfl) (by kernel_rfl) (fun _ _ _ h => h) (Or.inl ⟨by kernel_rfl, ?_⟩) (by assumption) ?_
          rotate_left
          · intro w hSw
            (try dsimp only at hSw)
            go_split_ands
            first | (go_simp; done) | (go_simp; with_reducible rfl)
          try simp only [Act.put, List.setIfInBounds_toArray, List.set_cons_zero, List.set_cons_succ]
          refine wpAnyH_take (i := 2) (oi := { dst := some 104, op := Go.Op.move (Go.Operand.tmp 16), type := 34, pos := "law.go:188", after := #[], guard := none }) (v := ?_) rfl (by kernel_rfl) (by kernel_rfl) (by kernel_rfl) (fun _ _ _ h => h) (Or.inl ⟨by kernel_rfl, ?_⟩) (by assumption) ?_
          rotate_left
          · intro w _
            first | (go_simp; done) | (go_simp; with_reducible rfl)
          try simp only [Act.put, List.setIfInBounds_toArray, List.set_cons_zero, List.set_cons_succ]
          refine wpAnyH_take (i := 4) (oi := { dst := some 106, op := Go.Op.move (Go.Operand.tmp 2), type := 4, pos := "law.go:188", after := #[], guard := none }) (v := ?_) rfl (by kernel_rfl) (by kernel_rfl) (by kernel_rfl) (fun _ _ _ h => h) (Or.inl ⟨by kernel_rfl, ?_⟩) (by assumption) ?_
          rotate_left
          · intro w _
            first | (go_simp; done) | (go_simp; with_reducible rfl)
          try simp only [Act.put, List.setIfInBounds_toArray, List.set_cons_zero, List.set_cons_succ]
          refine wpAnyH_take (i := 5) (oi := { dst := some 107, op := Go.Op.load 26 (Go.Operand.tmp 27), type := 26, pos := "law.go:188", after := #[], guard := none }) (v := ?_) rfl (by kernel_rfl) (by kernel_rfl) (by kernel_rfl) (fun _ _ _ h => h) (Or.inl ⟨by kernel_rfl, ?_⟩) (by assumption) ?_
          rotate_left
          · intro w hSw
            (try dsimp only at hSw)
            go_split_ands
            first | (go_simp; done) | (go_simp; with_reducible rfl)
          try simp only [Act.put, List.setIfInBounds_toArray, List.set_cons_zero, List.set_cons_succ]
          refine wpAnyH_take (i := 7) (oi := { dst := some 109, op := Go.Op.move (Go.Operand.tmp 16), type := 34, pos := "law.go:188", after := #[], guard := none }) (v := ?_) rfl (by kernel_rfl) (by kernel_rfl) (by kernel_rfl) (fun _ _ _ h => h) (Or.inl ⟨by kernel_rfl, ?_⟩) (by assumption) ?_
          rotate_left
          · intro w _
            first | (go_simp; done) | (go_simp; with_reducible rfl)
          try simp only [Act.put, List.setIfInBounds_toArray, List.set_cons_zero, List.set_cons_succ]
          refine wpAnyH_ready (rs := [3]) (by kernel_rfl) (by simp) ?_
          refine AllReadyH.cons (o := { dst := some 105, op := Go.Op.call { callee := Go.Callee.value (Go.Operand.func 19), args := #[Go.Operand.tmp 102, Go.Operand.tmp 103, Go.Operand.tmp 104], argTypes := #[4, 26, 34] }, type := 34, pos := "law.go:188", after := #[{ on := 0, ground := Go.Ground.data }, { on := 1, ground := Go.Ground.data }, { on := 2, ground := Go.Ground.data }], guard := none }) rfl (fun K hK => ?_) AllReadyH.nil
          go_simp
          go_at_call 19
          refine (UP.out _ (show Below w13.heap.size w13 w13.drew from by go_split_ands; assumption)).mono ?_
          rintro e wc1 ⟨vU, rfl, hOU, hb3⟩
          obtain ⟨AU, cU, rfl, _, _, EU⟩ := hOU.ents
          clear hOU
          have Sc1 := HS.out _ _ (by assumption) hb3
          refine hK.out _ _ Sc1 (fun _ => ?_)
          clear hK K hb3
          try simp only [Act.put, List.setIfInBounds_toArray, List.set_cons_zero, List.set_cons_succ]
          refine wpAnyH_ready (rs := [6]) (by kernel_rfl) (by simp) ?_
          refine AllReadyH.cons (o := { dst := some 108, op := Go.Op.call { callee := Go.Callee.value (Go.Operand.func 21), args := #[Go.Operand.tmp 107], argTypes := #[26] }, type := 48, pos := "law.go:188", after := #[{ on := 5, ground := Go.Ground.data }, { on := 3, ground := Go.Ground.chain }], guard := none }) rfl (fun K hK => ?_) AllReadyH.nil
          go_simp
          go_at_call 21
          refine (RY.out _ (show Below w13.heap.size w13 wc1 from by go_split_ands; assumption)).mono ?_
          rintro e wc2 ⟨qe, rfl, hqe, hqn, gqe, hb3⟩
          replace EU := Ents.below EU hb3
          have HQE := Lib.hid hqe
          have HQN := Lib.hid (show qe.n ≤ 1048576 by rw [hqn]; exact HYN.out)
          clear hqe hqn
          have Sc2 := HS.out _ _ (by assumption) hb3
          refine hK.out _ _ Sc2 (fun _ => ?_)
          clear hK K hb3
          try simp only [Act.put, List.setIfInBounds_toArray, List.set_cons_zero, List.set_cons_succ]
          refine wpAnyH_ready (rs := [8]) (by kernel_rfl) (by simp) ?_
          refine AllReadyH.cons (o := { dst := some 110, op := Go.Op.call { callee := Go.Callee.value (Go.Operand.func 11), args := #[Go.Operand.tmp 109], argTypes := #[34] }, type := 38, pos := "law.go:188", after := #[{ on := 7, ground := Go.Ground.data }, { on := 6, ground := Go.Ground.chain }], guard := none }) rfl (fun K hK => ?_) AllReadyH.nil
          go_simp
          go_at_call 11
          refine (RE.out _ (show Below w13.heap.size w13 wc2 from by go_split_ands; assumption)).mono ?_
          rintro e wc3 ⟨Aw, cw, Lw, rfl, hLw, hLwn, EW, hb3⟩
          replace EU := Ents.below EU hb3
          replace gqe := GoodQ.below gqe hb3
          have HLW := Lib.hid hLw
          have HLWN := Lib.hid hLwn
          clear hLw hLwn
          have Sc3 := HS.out _ _ (by assumption) hb3
          refine hK.out _ _ Sc3 (fun _ => ?_)
          clear hK K hb3
          try simp only [Act.put, List.setIfInBounds_toArray, List.set_cons_zero, List.set_cons_succ]
          refine wpAnyH_ready (rs := [9]) (by kernel_rfl) (by simp) ?_
          refine AllReadyH.cons (o := { dst := some 111, op := Go.Op.call { callee := Go.Callee.value (Go.Operand.func 20), args := #[Go.Operand.tmp 106, Go.Operand.tmp 108, Go.Operand.tmp 110], argTypes := #[4, 48, 38] }, type := 38, pos := "law.go:188", after := #[{ on := 4, ground := Go.Ground.data }, { on := 6, ground := Go.Ground.data }, { on := 8, ground := Go.Ground.data }, { on := 8, ground := Go.Ground.chain }], guard := none }) rfl (fun K hK => ?_) AllReadyH.nil
          go_simp
          go_at_call 20
          refine (refUpto_any asc qe Aw nL cw Lw (by omega) _ ⟨gqe, HQN.out⟩ EW HLWN.out).mono ?_
          rintro e wc4 ⟨vV, rfl, hOV, hb3⟩
          obtain ⟨AV, cV, rfl, EV⟩ := OwnEQ.ents hOV
          replace EU := Ents.below EU hb3
          clear hOV
          have Sc4 := HS.out _ _ (by assumption) hb3
          refine hK.out _ _ Sc4 (fun _ => ?_)
          clear hK K hb3
          try simp only [Act.put, List.setIfInBounds_toArray, List.set_cons_zero, List.set_cons_succ]
          refine wpAnyH_ready (rs := [10]) (by kernel_rfl) (by simp) ?_
          refine AllReadyH.cons (o := { dst := some 112, op := Go.Op.call { callee := Go.Callee.value (Go.Operand.func 17), args := #[Go.Operand.tmp 105, Go.Operand.tmp 111], argTypes := #[34, 38] }, type := 4, pos := "law.go:188", after := #[{ on := 3, ground := Go.Ground.data }, { on := 9, ground := Go.Ground.data }, { on := 9, ground := Go.Ground.chain }], guard := none }) rfl (fun K hK => ?_) AllReadyH.nil
          go_simp
          go_at_call 17
          refine (sameEntries_any W.heap.size AU _ cU _ AV _ cV _ (by have := HNU.out y.b; omega) (by have h1 := HNU.out y.b; have h2 := congrArg List.length (uptoE_alike (asc := asc) HQE.out.symm HLW.out.symm); rw [List.length_map, List.length_map] at h2; omega) _ EU EV true ⟨fun _ => uptoE_alike HQE.out.symm HLW.out.symm, fun _ => rfl⟩).mono ?_
          rintro e wc5 ⟨rfl, hb3⟩
          have Sc5 := HS.out _ _ (by assumption) hb3
          refine hK.out _ _ Sc5 (fun _ => ?_)
          clear hK K hb3
          try simp only [Act.put, List.setIfInBounds_toArray, List.set_cons_zero, List.set_cons_succ]
          refine wpAnyH_take (i := 11) (oi := { dst := some 30, op := Go.Op.assign (Go.Operand.tmp 112), type := 4, pos := "law.go:188", after := #[{ on := 10, ground := Go.Ground.data }, { on := 10, ground := Go.Ground.chain }, { on := 0, ground := Go.Ground.phase }, { on := 1, ground := Go.Ground.phase }, { on := 2, ground := Go.Ground.phase }, { on := 3, ground := Go.Ground.phase }, { on := 4, ground := Go.Ground.phase }, { on := 5, ground := Go.Ground.phase }, { on := 6, ground := Go.Ground.phase }, { on := 7, ground := Go.Ground.phase }, { on := 8, ground := Go.Ground.phase }, { on := 9, ground := Go.Ground.phase }, { on := 10, ground := Go.Ground.phase }], guard := none }) (v := ?_) rfl (by kernel_rfl) (by kernel_rfl) (by kernel_rfl) (fun _ _ _ h => h) (Or.inl ⟨by kernel_rfl, ?_⟩) (by assumption) ?_
          rotate_left
          · intro w _
            first | (go_simp; done) | (go_simp; with_reducible rfl)
          try simp only [Act.put, List.setIfInBounds_toArray, List.set_cons_zero, List.set_cons_succ]
          refine wpAnyH_done (by kernel_rfl) ?_ _
          have HF9 := Lib.hid (hop HB3.out h0 (show Below w13.heap.size w13 wc5 from by go_split_ands; assumption))
          go_split_ands
          clear UP RY RE HS
          cases S
          all_goals
            cases zo
            all_goals
              go_wp2
              go_ret
              exact ⟨by first | rfl | (simp; done), HF9.out⟩
  | false =>
    have mo1 := m1
    have mo2 := m2
    go_wp2
    go_loopw [14, 15, 16, 17] (fun va vb vc iv wr => ∃ (j : Nat) (xs rs : List LsX) (L : List EntX), j ≤ nX ∧ j ≤ 4 ∧ iv = .int .i64 (j : Int) ∧ Hid (TellS W.heap.size w2.heap.size wr va vb vc xs rs L) ∧ Hid (xs.length = j ∧ rs.length = j ∧ Alike xs rs) ∧ Hid (L.map EntX.b = allB xs) ∧ Hid (totL xs ≤ 6 * j) ∧ Hid (L.length ≤ 6 * j) ∧ Hid (∀ e ∈ L, e.n ≤ 1048576) ∧ Below w2.heap.size w2 wr) (fun _ _ _ iv _ => 4 - (intOf iv).toNat)
    case atStart => exact ⟨0, [], [], [], Nat.zero_le _, Nat.zero_le _, rfl, Lib.hid (TellS.new _ _ _ HB.out.size), Lib.hid ⟨rfl, rfl, rfl⟩, Lib.hid rfl, Lib.hid (Nat.le_refl _), Lib.hid (Nat.le_refl _), Lib.hid (fun e he => absurd he List.not_mem_nil), Below.refl _ _⟩
    case round =>
      obtain ⟨j, xs, rs, L, hjn, hj4, rfl, HT, HXL, HLB, HTO, HLL, HLN, hb⟩ := hrel
      have hsz := hb.size
      by_cases hj2 : j < nX ∧ j < 4
      · obtain ⟨hjx, hjy⟩ := hj2
        have hjI : (j : Int) < (nX : Int) := by omega
        have hjJ : (j : Int) < 4 := by omega
        obtain ⟨g1, o1, rfl, hlt1, hc1⟩ := (GX.out.below (hop HB.out h0 hb)).at_ (by omega)
        obtain ⟨c1, hm1⟩ := hc1 j hjx
        have hgd := GX.out.good _ hm1
        obtain ⟨y, hy⟩ : ∃ y, xx.getD j default = y := ⟨_, rfl⟩
        rw [hy] at c1 hgd
        obtain ⟨yA, yn, yc, yl⟩ := y
        dsimp only at c1 hgd
        have IT := Lib.hid (fun w (h : Below W.heap.size W w) => items_any W.heap.size yA yn yc 6 yl (by have := hgd.2.1; have := hgd.2.2.1; unfold maxLen at this; omega) (by decide) w h.size (hgd.1.below h))
        have GI := Lib.hid (And.intro hgd.1.2 hgd.2.2.2)
        have HBW := Lib.hid (hop HB.out h0 hb)
        have HHB := Lib.hid hb
        clear hc1 hm1 hy hgd hb
        go_wp2_with fail
        refine (IT.out _ HBW.out).mono ?_
        rintro e w3 ⟨v3, L3, rfl, ho, hL, hx3⟩
        have hlen : L3.length ≤ 6 := by
          have h3 := congrArg List.length hL
          rw [List.length_map] at h3
          have := itemsB_len yl 6
          omega
        have N3 := Lib.hid (items_n GI.out.1 GI.out.2 hL ho.2)
        have HOW := Lib.hid (show ∀ k, u16.ownBlock = some k → k < wr.heap.size from fun k hk => (own_ge HT.out.oc hk).2)
        have HT3 := Lib.hid (HT.out.below hx3)
        have HB3 := Lib.hid (hop HHB.out (Nat.le_refl _) hx3)
        have hs3 : wr.heap.size ≤ w3.heap.size := hx3.size
        have ho3 := ho
        obtain ⟨A3, c3, rfl, _, _, _⟩ := ho.ents
        obtain ⟨n3, hn3⟩ : ∃ n, L3.length = n := ⟨_, rfl⟩
        rw [hn3] at ho3 hlen ⊢
        have SO := Lib.hid (sorted_both really W.heap.size wr.heap.size A3 n3 c3 L3 asc hn3 (by omega) N3.out w3 (by have := HBW.out.size; omega) hs3 ho3)
        clear ho hL hx3 ho3 IT GI c1 HT HHB hn3
        go_wp2_with fail
        refine SO.out.mono ?_
        rintro e w4 ⟨v4, M, rfl, ho4, hM, hMn, hx4⟩
        have HT4 := Lib.hid (HT3.out.below hx4)
        have HB4 := Lib.hid (hop HB3.out (Nat.le_refl _) hx4)
        have ho4c := ho4.1
        obtain ⟨A4, c4, rfl, _, hno4, hE4⟩ := ho4.ents
        rw [hM] at hE4 ho4c hno4 ⊢
        have HO4 := Lib.hid (show OwnR EntX.V 3 w4 wr.heap.size 26 (.slice A4 n3 c4) M from ho4.1 |> fun h => by rw [hM] at h; exact h)
        have HE4 := Lib.hid hE4
        have C4 := Lib.hid (OwnR.cap ho4c)
        have HMN := Lib.hid hMn
        have HML := Lib.hid hM
        have HNO := Lib.hid hno4
        -- where the list lies: in none of the rows
        clear ho4 ho4c hM hMn hx4 hE4 hno4 HT3 HB3 SO N3
        have hn36 : n3 ≤ 6 := hlen
        go_wp2_with (at_builtin; refine wpList_append_own_at _ rfl (.tmp 55) (.tmp 57) 32 rfl w2.heap.size 34 i1 (.slice none 0 0) 1 24 Try.underlying32 hj hj0 hj1 hj2 rfl (by decide) _ _ _ rfl (OwnR.alloc HT4.out.oa _) ⟨w4.heap.size, 0, none⟩ 1 1 (LsX.V ⟨A4, n3, c4, M⟩) rfl rfl (new_cells_at _ _ _ _ (by simp)) (lsV_one _) (by unfold maxLen; have := HXL.out.1; omega) (by have := HXL.out.1; omega) (by have := HB4.out.size; simp; omega) ?_)
        intro na w5 hown5 hgrow5 _ hat5
        have hb5 : Below w2.heap.size w2 w5 := (HB4.out.alloc HB4.out.size _).grown hgrow5 (by have := HB4.out.size; simp; omega) (fun r hr => (own_ge HT4.out.oa hr).1)
        have hTa := HT4.out.below ((Below.refl _ _).alloc (Nat.le_refl _) (.cells (LsX.V ⟨A4, n3, c4, M⟩).toArray 34))
        have hT5 := hTa.putA (x := ⟨A4, n3, c4, M⟩) hgrow5 (OwnR.snoc (a := (⟨A4, n3, c4, M⟩ : LsX)) hown5) (by simpa using hat5) ⟨HE4.out.below ((Below.refl _ _).alloc (Nat.le_refl _) _), C4.out⟩ (hTa.off (OwnR.alloc HO4.out _) HML.out HOW.out)
        have hE5 := (hT5.ok.lx ⟨A4, n3, c4, M⟩ (List.mem_append_right _ List.mem_cons_self)).1
        have HT5 := Lib.hid hT5
        have HB5 := Lib.hid hb5
        have RE := Lib.hid (refEntries_own W.heap.size A4 n3 c4 M (by omega) HMN.out w5 hE5)
        clear hown5 hgrow5 hat5 hb5 hTa hT5 hE5 HE4 HO4 HT4 HB4
        go_wp2_with fail
        refine RE.out.mono ?_
        rintro e w6 ⟨Aq, cq, Lq, rfl, hLq, hLqn, hOQ, hlq, hnq, hx6⟩
        have HT6 := Lib.hid (HT5.out.below hx6)
        have HB6 := Lib.hid (hop HB5.out (Nat.le_refl _) hx6)
        have HOQ := Lib.hid hOQ
        have HLQ := Lib.hid hLq
        have HLQN := Lib.hid hLqn
        have HLQL := Lib.hid hlq
        have HNQ := Lib.hid hnq
        clear hx6 hOQ hLq hLqn hlq hnq RE HT5 HB5
        go_wp2_with (at_builtin; refine wpList_append_own_at _ rfl (.tmp 59) (.tmp 62) 33 rfl w2.heap.size 38 i2 (.slice none 0 0) 1 24 Try.underlying33 hk hk0 hk1 hk2 rfl (by decide) _ _ _ rfl (OwnR.alloc HT6.out.ob _) ⟨w6.heap.size, 0, none⟩ 1 1 (LsX.V ⟨Aq, n3, cq, Lq⟩) rfl rfl (new_cells_at _ _ _ _ (by simp)) (lsV_one _) (by unfold maxLen; have := HXL.out.2.1; omega) (by have := HXL.out.2.1; omega) (by have := HB6.out.size; simp; omega) ?_)
        intro nb w7 hown7 hgrow7 _ hat7
        have hb7 : Below w2.heap.size w2 w7 := (HB6.out.alloc HB6.out.size _).grown hgrow7 (by have := HB6.out.size; simp; omega) (fun r hr => (own_ge HT6.out.ob hr).1)
        have hTa := HT6.out.below ((Below.refl _ _).alloc (Nat.le_refl _) (.cells (LsX.V ⟨Aq, n3, cq, Lq⟩).toArray 38))
        have hOQa := HOQ.out.below ((Below.refl _ _).alloc (Nat.le_refl _) (.cells (LsX.V ⟨Aq, n3, cq, Lq⟩).toArray 38))
        have hQE : EntsQ (w6.alloc (.cells (LsX.V ⟨Aq, n3, cq, Lq⟩).toArray 38)) Aq n3 Lq := by
          obtain ⟨A9, c9, e9, hE9⟩ := hOQa.ents
          injection e9 with e91 e92 e93
          subst e91
          rw [← e92] at hE9
          exact hE9
        have hT7 := hTa.putB (x := ⟨Aq, n3, cq, Lq⟩) hgrow7 (OwnR.snoc (a := (⟨Aq, n3, cq, Lq⟩ : LsX)) hown7) (by simpa using hat7) ⟨hQE, HLQN.out, HNQ.out⟩ (hTa.offQ hOQa.1 HLQL.out)
        have hE7 := (hT7.ok.lx ⟨A4, n3, c4, M⟩ (List.mem_append_right _ List.mem_cons_self)).1
        have HT7 := Lib.hid hT7
        have HB7 := Lib.hid hb7
        have HE7 := Lib.hid hE7
        have hs7 : w2.heap.size ≤ w7.heap.size := hb7.size
        have HXL2 := Lib.hid (show (xs ++ [(⟨A4, n3, c4, M⟩ : LsX)]).length = j + 1 ∧ (rs ++ [(⟨Aq, n3, cq, Lq⟩ : LsX)]).length = j + 1 ∧ Alike (xs ++ [(⟨A4, n3, c4, M⟩ : LsX)]) (rs ++ [(⟨Aq, n3, cq, Lq⟩ : LsX)]) from ⟨by rw [List.length_append, HXL.out.1]; rfl, by rw [List.length_append, HXL.out.2.1]; rfl, HXL.out.2.2.put HLQ.out⟩)
        have HLB2 := Lib.hid (show (L ++ M).map EntX.b = allB (xs ++ [(⟨A4, n3, c4, M⟩ : LsX)]) by
          unfold allB
          rw [List.map_append, HLB.out, List.flatMap_append]
          simp [allB])
        have HTO2 := Lib.hid (show totL (xs ++ [(⟨A4, n3, c4, M⟩ : LsX)]) ≤ 6 * (j + 1) by
          have := HTO.out
          unfold totL at *
          rw [List.map_append, List.sum_append]
          simp
          omega)
        have HLL2 := Lib.hid (show (L ++ M).length ≤ 6 * (j + 1) by rw [List.length_append, HML.out]; have := HLL.out; omega)
        have HLN2 := Lib.hid (show ∀ e ∈ L ++ M, e.n ≤ 1048576 from fun e he => by
          rcases List.mem_append.1 he with he | he
          · exact HLN.out e he
          · exact HMN.out e he)
        clear hown7 hgrow7 hat7 hb7 hTa hOQa hQE hT7 hE7 HT6 HB6 HOQ HLQ HLQN HLQL HNQ HXL HLB HTO HLN
        by_cases hn30 : 0 < n3
        · obtain ⟨b3, o3, e3, _, _⟩ := HE7.out.1.2 hn30
          subst e3
          have SRC := Lib.hid (src_row HE7.out.1)
          go_wp2_with (at_builtin; refine wpList_append_own_at _ rfl (.tmp 64) (.tmp 65) 34 rfl w2.heap.size 26 i0 (.agg #[.int .i64 0, .slice none 0 0, .string ⟨#[]⟩]) 3 48 Try.underlying34 hi hz0 hz1 hz2 rfl (by decide) _ _ _ rfl HT7.out.oc ⟨b3, o3, none⟩ n3 c4 (rowV EntX.V M) rfl (by rw [rowV_len entV_len, HML.out]) SRC.out (rowV_one entV_one _) (by unfold maxLen; have := HLL.out; omega) (by have := HLL.out; omega) hs7 ?_)
          intro nc w8 hown8 hgrow8 _ hat8
          have hb8 := HB7.out.grown hgrow8 hs7 (fun r hr => (own_ge HT7.out.oc hr).1)
          have HT8 := Lib.hid (HT7.out.putC hgrow8 (OwnR.snocs (m := M) (by rw [HML.out]; exact hown8)) hat8 HE7.out.2)
          clear hown8 hgrow8 hat8 HT7 HE7 SRC HB7
          go_wp2
          go_round
          case rel => exact ⟨j + 1, _, _, L ++ M, by omega, by omega, by go_num, HT8, HXL2, HLB2, HTO2, HLL2, HLN2, hb8⟩
          case measure => simp [intOf]; omega
        · obtain rfl : n3 = 0 := by omega
          have hM0 : M = [] := List.eq_nil_of_length_eq_zero HML.out
          have HL0 := Lib.hid (show L ++ M = L by rw [hM0, List.append_nil])
          cases A4 with
          | none =>
            obtain ⟨_, rfl⟩ := HNO.out rfl
            have HT8 := Lib.hid HT7.out.same
            rw [← hM0] at HT8
            clear hM0
            go_wp2_with (at_builtin; refine wpList_append_own_none rfl (.tmp 64) (.tmp 65) 34 rfl w2.heap.size 26 i0 3 Try.underlying34 hi _ _ _ rfl HT7.out.oc rfl ?_)
            clear HT7 HE7
            go_wp2
            go_round
            case rel => exact ⟨j + 1, _, _, L ++ M, by omega, by omega, by go_num, HT8, HXL2, HLB2, HTO2, HLL2, HLN2, HB7.out⟩
            case measure => simp [intOf]; omega
          | some a4 =>
            clear hM0
            go_wp2_with (at_builtin; refine wpList_append_own_at _ rfl (.tmp 64) (.tmp 65) 34 rfl w2.heap.size 26 i0 (.agg #[.int .i64 0, .slice none 0 0, .string ⟨#[]⟩]) 3 48 Try.underlying34 hi hz0 hz1 hz2 rfl (by decide) _ _ _ rfl HT7.out.oc a4 0 c4 [] rfl rfl (fun p u hu => by cases hu) (fun u hu => by cases hu) (by unfold maxLen; have := HLL.out; omega) (by have := HLL.out; omega) hs7 ?_)
            intro nc w8 hown8 hgrow8 _ hat8
            have hb8 := HB7.out.grown hgrow8 hs7 (fun r hr => (own_ge HT7.out.oc hr).1)
            have HT8 := Lib.hid (HT7.out.putC (M := M) hgrow8 (by rw [HL0.out]; first | exact hown8 | simpa using hown8) hat8 HE7.out.2)
            clear hown8 hgrow8 hat8 HT7 HE7 HB7
            go_wp2
            go_round
            case rel => exact ⟨j + 1, _, _, L ++ M, by omega, by omega, by go_num, HT8, HXL2, HLB2, HTO2, HLL2, HLN2, hb8⟩
            case measure => simp [intOf]; omega

      · have hends : (¬ (j : Int) < (nX : Int)) ∨ ((j : Int) < (nX : Int) ∧ ¬ (j : Int) < 4) := by omega
        obtain ⟨Aa, ca, hva, _, _, ra⟩ := OwnR.open lsV_len HT.out.oa
        obtain ⟨Ab, cb, hvb, _, _, rb⟩ := OwnR.open lsV_len HT.out.ob
        obtain ⟨Ac, cc, hvc, _, _, rc⟩ := OwnR.open entV_len HT.out.oc
        have hcc := HT.out.oc
        obtain ⟨nL, hnL⟩ : ∃ n, L.length = n := ⟨_, rfl⟩
        rw [HXL.out.1] at hva ra
        rw [HXL.out.2.1] at hvb rb
        rw [hnL] at hvc rc
        rw [hvc] at hcc
        have CC := Lib.hid (OwnR.cap hcc)
        have hnL24 : nL ≤ 24 := by have := HLL.out; omega
        have PL := Lib.hid (show ListsP W.heap.size wr Aa j xs from ⟨ra, HT.out.ok.lx⟩)
        have PQ := Lib.hid (show ListsQ wr Ab j rs from ⟨rb, HT.out.ok.lr⟩)
        have PE := Lib.hid (show Ents W.heap.size wr Ac nL L from ⟨rc, HT.out.ok.lL⟩)
        have KI := Lib.hid (KI2.out.below hb)
        have HB3 := Lib.hid (hop HB.out h0 hb)
        have hto : totL xs ≤ 24 := by have := HTO.out; omega
        have htr : totL rs ≤ 24 := by rw [HXL.out.2.2.tot (fun x hx => (HT.out.ok.lx x hx).1.1.1) (fun x hx => (HT.out.ok.lr x hx).1.1.1)]; exact hto
        have HAL := Lib.hid (HXL.out.2.2.same asc)
        have HXN := Lib.hid (show ∀ x ∈ xs, x.l.length = x.n from fun x hx => (HT.out.ok.lx x hx).1.1.1)
        subst hva
        subst hvb
        subst hvc
        obtain ⟨S, hS⟩ : ∃ S, sortedLs asc xs = S := ⟨_, rfl⟩
        have AL := all_any W.heap.size asc most Aa j ca xs (by omega) wr HB3.out.size PL.out
        rw [hS] at AL
        replace AL := Lib.hid AL
        have HSS := Lib.hid hS
        have HML := Lib.hid (show (mergeB asc most xs).length ≤ 24 by
          unfold mergeB
          split
          · have h1 := uniq_len asc (allB xs)
            rw [allB_len xs HXN.out] at h1
            rw [List.length_take]
            omega
          · exact Nat.zero_le _)
        have HMR := Lib.hid (show mergeB asc most rs = mergeB asc most xs by unfold mergeB; rw [HAL.out.1, HAL.out.2])
        obtain ⟨v0, hv0⟩ : ∃ v, v = wr := ⟨_, rfl⟩
        subst hv0
        clear hb ra rb rc hcc HT HXL HLB HTO HLL hnL HXN hS hj2 PL HB KI2 hsz
        rcases hends with e1 | ⟨e1, e2⟩
        all_goals
          go_wp2_with fail
          refine AL.out.mono ?_
          rintro e w3 ⟨v19, T, rfl, hO, hT, hx⟩
          replace PQ := Lib.hid (PQ.out.below hx)
          replace PE := Lib.hid (PE.out.below hx)
          replace KI := Lib.hid (KI.out.below hx)
          replace HB3 := Lib.hid (hop HB3.out h0 hx)
          obtain ⟨A19, c19, rfl, _, _, hE⟩ := hO.ents
          obtain ⟨n19, h19⟩ : ∃ n, T.length = n := ⟨_, rfl⟩
          have hn19 : n19 ≤ 24 := by have h1 := congrArg List.length hT; rw [List.length_map, h19] at h1; have := HML.out; omega
          rw [h19] at hE ⊢
          have ER := Lib.hid hE
          have HTT := Lib.hid hT
          have RA := refAll_any asc most mo1 mo2 Ab j cb rs (by omega) (by omega) w3 PQ.out
          rw [HAL.out.1, HSS.out] at RA
          replace RA := Lib.hid RA
          clear hO hT hx hE h19 AL
          go_wp2_with fail
          refine RA.out.mono ?_
          rintro e w4 ⟨A21, n21, c21, T2, rfl, hE, hT, hx⟩
          replace PE := Lib.hid (PE.out.below hx)
          replace KI := Lib.hid (KI.out.below hx)
          replace ER := Lib.hid (ER.out.below hx)
          replace HB3 := Lib.hid (hop HB3.out h0 hx)
          have hn21 : n21 ≤ 24 := by have h1 := congrArg List.length hT; rw [List.length_map, hE.1.1, HMR.out] at h1; have := HML.out; omega
          have EQ2 := Lib.hid hE
          have HT2 := Lib.hid (hT.trans HMR.out)
          have FI := first_any W.heap.size asc Ac nL cc L CC.out w4 PE.out
          obtain ⟨F, hF⟩ : ∃ F, firstE asc L = F := ⟨_, rfl⟩
          have GF := Lib.hid (show Good W.heap.size w4 F by rw [← hF]; exact firstE_good asc PE.out.2)
          obtain ⟨zo, hzo⟩ : ∃ z, decide (0 < nL) = z := ⟨_, rfl⟩
          rw [hF, hzo] at FI
          unfold entArr at FI
          replace FI := Lib.hid FI
          have HF := Lib.hid hF
          have HZO := Lib.hid hzo
          clear hE hT hx RA PQ hF hzo
          go_wp2_with fail
          refine FI.out.mono ?_
          rintro e w5 ⟨rfl, hx⟩
          replace PE := Lib.hid (PE.out.below hx)
          replace KI := Lib.hid (KI.out.below hx)
          replace ER := Lib.hid (ER.out.below hx)
          replace EQ2 := Lib.hid (EQ2.out.below hx)
          replace GF := Lib.hid (GF.out.below hx)
          replace HB3 := Lib.hid (hop HB3.out h0 hx)
          clear hx FI
          obtain ⟨g23, hg23⟩ : ∃ g, w5.heap.size = g := ⟨_, rfl⟩
          obtain ⟨w6, hw6⟩ : ∃ z, w5.alloc (.cells #[.int .i64 F.ts, .slice F.A F.n F.c, .string F.ln] 26) = z := ⟨_, rfl⟩
          have K23 := Lib.hid (show BlkW w6 g23 26 #[.int .i64 F.ts, .slice F.A F.n F.c, .string F.ln] by rw [← hw6, ← hg23]; exact Blk.new _ _ _)
          have hx : Below w5.heap.size w5 w6 := by rw [← hw6]; exact (Below.refl _ _).alloc (Nat.le_refl _) _
          replace PE := Lib.hid (PE.out.below hx)
          replace KI := Lib.hid (KI.out.below hx)
          replace ER := Lib.hid (ER.out.below hx)
          replace EQ2 := Lib.hid (EQ2.out.below hx)
          replace GF := Lib.hid (GF.out.below hx)
          replace HB3 := Lib.hid (hop HB3.out h0 hx)
          have RE := Lib.hid (refEntries_any W.heap.size Ac nL cc L (by omega) HLN.out w6 PE.out)
          clear hx
          go_wp2_with fail
          clear hw6 hg23
          refine RE.out.mono ?_
          rintro e w7 ⟨Aq, cq, Lq, rfl, hLq, hLqn, hEQ, hx⟩
          replace PE := Lib.hid (PE.out.below hx)
          replace KI := Lib.hid (KI.out.below hx)
          replace ER := Lib.hid (ER.out.below hx)
          replace EQ2 := Lib.hid (EQ2.out.below hx)
          replace GF := Lib.hid (GF.out.below hx)
          replace K23 := Lib.hid (K23.out.below hx)
          replace HB3 := Lib.hid (hop HB3.out h0 hx)
          have RF := refFirst_any asc Aq nL cq Lq (by omega) w7 hEQ hLqn
          obtain ⟨G, hG⟩ : ∃ G, firstE asc Lq = G := ⟨_, rfl⟩
          have GG := Lib.hid (show SmallQ w7 G by rw [← hG]; exact firstE_small asc (fun x hx => ⟨hEQ.2 x hx, hLqn x hx⟩))
          have HFG := Lib.hid (show F.b = G.b by rw [← HF.out, ← hG]; exact firstE_alike hLq.symm)
          rw [hG, HZO.out] at RF
          unfold entArr at RF
          replace RF := Lib.hid RF
          clear hLq hLqn hEQ hx hG RE
          go_wp2_with fail
          refine RF.out.mono ?_
          rintro e w8 ⟨rfl, hx⟩
          replace PE := Lib.hid (PE.out.below hx)
          replace KI := Lib.hid (KI.out.below hx)
          replace ER := Lib.hid (ER.out.below hx)
          replace EQ2 := Lib.hid (EQ2.out.below hx)
          replace GF := Lib.hid (GF.out.below hx)
          replace K23 := Lib.hid (K23.out.below hx)
          replace GG := Lib.hid (GG.out.below hx)
          replace HB3 := Lib.hid (hop HB3.out h0 hx)
          clear hx RF
          obtain ⟨g25, hg25⟩ : ∃ g, w8.heap.size = g := ⟨_, rfl⟩
          obtain ⟨w9, hw9⟩ : ∃ z, w8.alloc (.cells #[.int .i64 G.ts, .slice G.A G.n G.c, .string G.ln] 48) = z := ⟨_, rfl⟩
          have K25 := Lib.hid (show BlkW w9 g25 48 #[.int .i64 G.ts, .slice G.A G.n G.c, .string G.ln] by rw [← hw9, ← hg25]; exact Blk.new _ _ _)
          have hx : Below w8.heap.size w8 w9 := by rw [← hw9]; exact (Below.refl _ _).alloc (Nat.le_refl _) _
          replace PE := Lib.hid (PE.out.below hx)
          replace KI := Lib.hid (KI.out.below hx)
          replace ER := Lib.hid (ER.out.below hx)
          replace EQ2 := Lib.hid (EQ2.out.below hx)
          replace GF := Lib.hid (GF.out.below hx)
          replace K23 := Lib.hid (K23.out.below hx)
          replace GG := Lib.hid (GG.out.below hx)
          replace HB3 := Lib.hid (hop HB3.out h0 hx)
          clear hx
          have a0 : w9.cell? ⟨g7, 0, none⟩ = some (.int .i64 x.e.ts) := (Blk.cell KI.out 0).trans rfl
          have a1 : w9.cell? ⟨g7, 1, none⟩ = some (.slice x.e.A x.e.n x.e.c) := (Blk.cell KI.out 1).trans rfl
          have a2 : w9.cell? ⟨g7, 2, none⟩ = some (.string x.e.ln) := (Blk.cell KI.out 2).trans rfl
          have a3 : w9.cell? ⟨g7, 3, none⟩ = some (.bool x.own) := (Blk.cell KI.out 3).trans rfl
          have a4 : w9.cell? ⟨g7, 4, none⟩ = some (.int .i8 x.t) := (Blk.cell KI.out 4).trans rfl
          have a5 : w9.cell? ⟨g7, 5, none⟩ = some (.slice x.LA x.Ln x.Lc) := (Blk.cell KI.out 5).trans rfl
          have a6 : w9.cell? ⟨g7, 6, none⟩ = some (.int .u8 (x.k : Int)) := (Blk.cell KI.out 6).trans rfl
          go_wp2_with fail
          clear hw9 hg25
          refine (IX.out _ HB3.out).mono ?_
          rintro e w10 ⟨y, rfl, hy, gy, hx⟩
          dsimp only [EntX.val]
          replace PE := Lib.hid (PE.out.below hx)
          replace KI := Lib.hid (KI.out.below hx)
          replace ER := Lib.hid (ER.out.below hx)
          replace EQ2 := Lib.hid (EQ2.out.below hx)
          replace GF := Lib.hid (GF.out.below hx)
          replace K23 := Lib.hid (K23.out.below hx)
          replace GG := Lib.hid (GG.out.below hx)
          replace K25 := Lib.hid (K25.out.below hx)
          replace HB3 := Lib.hid (hop HB3.out h0 hx)
          have HYN := Lib.hid (LX.out y w10 hy gy)
          have GY := Lib.hid gy
          clear hy gy hx a0 a1 a2 a3 a4 a5 a6 KI
          obtain ⟨g27, hg27⟩ : ∃ g, w10.heap.size = g := ⟨_, rfl⟩
          obtain ⟨w11, hw11⟩ : ∃ z, w10.alloc (.cells #[.int .i64 y.ts, .slice y.A y.n y.c, .string y.ln] 26) = z := ⟨_, rfl⟩
          have K27 := Lib.hid (show BlkW w11 g27 26 #[.int .i64 y.ts, .slice y.A y.n y.c, .string y.ln] by rw [← hw11, ← hg27]; exact Blk.new _ _ _)
          have hx : Below w10.heap.size w10 w11 := by rw [← hw11]; exact (Below.refl _ _).alloc (Nat.le_refl _) _
          replace PE := Lib.hid (PE.out.below hx)
          replace ER := Lib.hid (ER.out.below hx)
          replace EQ2 := Lib.hid (EQ2.out.below hx)
          replace GF := Lib.hid (GF.out.below hx)
          replace K23 := Lib.hid (K23.out.below hx)
          replace GG := Lib.hid (GG.out.below hx)
          replace K25 := Lib.hid (K25.out.below hx)
          replace GY := Lib.hid (GY.out.below hx)
          replace HB3 := Lib.hid (hop HB3.out h0 hx)
          have SE1 := Lib.hid (sameEntries_any W.heap.size A19 n19 c19 T A21 n21 c21 T2 (by omega) (by omega) w11 ER.out EQ2.out true ⟨fun _ => HTT.out.trans HT2.out.symm, fun _ => rfl⟩)
          clear hx
          go_wp2_with fail
          clear hw11 hg27
          refine SE1.out.mono ?_
          rintro e w12 ⟨rfl, hx⟩
          replace PE := Lib.hid (PE.out.below hx)
          replace GF := Lib.hid (GF.out.below hx)
          replace K23 := Lib.hid (K23.out.below hx)
          replace GG := Lib.hid (GG.out.below hx)
          replace K25 := Lib.hid (K25.out.below hx)
          replace GY := Lib.hid (GY.out.below hx)
          replace K27 := Lib.hid (K27.out.below hx)
          replace HB3 := Lib.hid (hop HB3.out h0 hx)
          clear hx SE1 ER EQ2
          have f0 : w12.cell? ⟨g23, 0, none⟩ = some (.int .i64 F.ts) := (Blk.cell K23.out 0).trans rfl
          have f1 : w12.cell? ⟨g23, 1, none⟩ = some (.slice F.A F.n F.c) := (Blk.cell K23.out 1).trans rfl
          have f2 : w12.cell? ⟨g23, 2, none⟩ = some (.string F.ln) := (Blk.cell K23.out 2).trans rfl
          have q0 : w12.cell? ⟨g25, 0, none⟩ = some (.int .i64 G.ts) := (Blk.cell K25.out 0).trans rfl
          have q1 : w12.cell? ⟨g25, 1, none⟩ = some (.slice G.A G.n G.c) := (Blk.cell K25.out 1).trans rfl
          have q2 : w12.cell? ⟨g25, 2, none⟩ = some (.string G.ln) := (Blk.cell K25.out 2).trans rfl
          have SM := sameEnt_q F G w12 GF.out GG.out.1
          rw [show sameE F.b G.b = true from sameE_iff.2 HFG.out] at SM
          replace SM := Lib.hid SM
          go_wp2_with fail
          refine SM.out.mono ?_
          rintro e w13 ⟨rfl, hx⟩
          replace PE := Lib.hid (PE.out.below hx)
          replace GY := Lib.hid (GY.out.below hx)
          replace K27 := Lib.hid (K27.out.below hx)
          replace HB3 := Lib.hid (hop HB3.out h0 hx)
          clear hx SM f0 f1 f2 q0 q1 q2 K23 K25 GF GG HFG
          have y0 : w13.cell? ⟨g27, 0, none⟩ = some (.int .i64 y.ts) := (Blk.cell K27.out 0).trans rfl
          have y1 : w13.cell? ⟨g27, 1, none⟩ = some (.slice y.A y.n y.c) := (Blk.cell K27.out 1).trans rfl
          have y2 : w13.cell? ⟨g27, 2, none⟩ = some (.string y.ln) := (Blk.cell K27.out 2).trans rfl
          have S0 : Below w13.heap.size w13 w13.drew ∧ w13.drew.cell? ⟨g27, 0, none⟩ = some (.int .i64 y.ts) ∧ w13.drew.cell? ⟨g27, 1, none⟩ = some (.slice y.A y.n y.c) ∧ w13.drew.cell? ⟨g27, 2, none⟩ = some (.string y.ln) := ⟨(Below.refl _ _).drew, y0, y1, y2⟩
          have HS := Lib.hid (fun (wa wb : World) (hS : Below w13.heap.size w13 wa ∧ wa.cell? ⟨g27, 0, none⟩ = some (.int .i64 y.ts) ∧ wa.cell? ⟨g27, 1, none⟩ = some (.slice y.A y.n y.c) ∧ wa.cell? ⟨g27, 2, none⟩ = some (.string y.ln)) (h : Below wa.heap.size wa wb) => show Below w13.heap.size w13 wb ∧ wb.cell? ⟨g27, 0, none⟩ = some (.int .i64 y.ts) ∧ wb.cell? ⟨g27, 1, none⟩ = some (.slice y.A y.n y.c) ∧ wb.cell? ⟨g27, 2, none⟩ = some (.string y.ln) from by
            obtain ⟨s0, s1, s2, s3⟩ := hS
            exact ⟨hop s0 (Nat.le_refl _) h, (h.cell (p := ⟨g27, 0, none⟩) (block_lt_of_cell s1)).trans s1, (h.cell (p := ⟨g27, 1, none⟩) (block_lt_of_cell s2)).trans s2, (h.cell (p := ⟨g27, 2, none⟩) (block_lt_of_cell s3)).trans s3⟩)
          have UP := Lib.hid (fun w (h : Below w13.heap.size w13 w) => upto_any W.heap.size asc y Ac nL cc L (by omega) w (by have := HB3.out.size; have := h.size; omega) (GY.out.below h) (PE.out.below h))
          have RY := Lib.hid (fun w (h : Below w13.heap.size w13 w) => refEntry_any y HYN.out w (GY.out.below h).set.1)
          have RE := Lib.hid (fun w (h : Below w13.heap.size w13 w) => refEntries_any W.heap.size Ac nL cc L (by omega) HLN.out w (PE.out.below h))
          have HNU := Lib.hid (show ∀ u, (uptoE asc u L).length ≤ 24 from fun u => Nat.le_trans (List.length_filter_le _ _) (by rw [PE.out.1.1]; omega))
          clear y0 y1 y2
          go_wp2
          refine wp_region_held_drew (S := fun w' => Below w13.heap.size w13 w' ∧ w'.cell? ⟨g27, 0, none⟩ = some (.int .i64 y.ts) ∧ w'.cell? ⟨g27, 1, none⟩ = some (.slice y.A y.n y.c) ∧ w'.cell? ⟨g27, 2, none⟩ = some (.string y.ln)) (by kernel_rfl) S0 (fun hHeld => ?_)
          refine wpAnyH_take (i := 0) (oi := { dst := some 102, op := Go.Op.move (Go.Operand.tmp 2), type := 4, pos := "law.go:188", after := #[], guard := none }) (v := ?_) rfl (by kernel_rfl) (by kernel_rfl) (by kernel_rfl) (fun _ _ _ h => h) (Or.inl ⟨by kernel_rfl, ?_⟩) (by assumption) ?_
          rotate_left
          · intro w _
            first | (go_simp; done) | (go_simp; with_reducible rfl)
          try simp only [Act.put, List.setIfInBounds_toArray, List.set_cons_zero, List.set_cons_succ]
          refine wpAnyH_take (i := 1) (oi := { dst := some 103, op := Go.Op.load 26 (Go.Operand.tmp 27), type := 26, pos := "law.go:188", after := #[], guard := none }) (v := ?_) rfl (by kernel_rfl) (by kernel_rfl) (by kernel_rfl) (fun _ _ _ h => h) (Or.inl ⟨by kernel_rfl, ?_⟩) (by assumption) ?_
          rotate_left
          · intro w hSw
            (try dsimp only at hSw)
            go_split_ands
            first | (go_simp; done) | (go_simp; with_reducible rfl)
          try simp only [Act.put, List.setIfInBounds_toArray, List.set_cons_zero, List.set_cons_succ]
          refine wpAnyH_take (i := 2) (oi := { dst := some 104, op := Go.Op.move (Go.Operand.tmp 16), type := 34, pos := "law.go:188", after := #[], guard := none }) (v := ?_) rfl (by kernel_rfl) (by kernel_rfl) (by kernel_rfl) (fun _ _ _ h => h) (Or.inl ⟨by kernel_rfl, ?_⟩) (by assumption) ?_
          rotate_left
          · intro w _
            first | (go_simp; done) | (go_simp; with_reducible rfl)
          try simp only [Act.put, List.setIfInBounds_toArray, List.set_cons_zero, List.set_cons_succ]
          refine wpAnyH_take (i := 4) (oi := { dst := some 106, op := Go.Op.move (Go.Operand.tmp 2), type := 4, pos := "law.go:188", after := #[], guard := none }) (v := ?_) rfl (by kernel_rfl) (by kernel_rfl) (by kernel_rfl) (fun _ _ _ h => h) (Or.inl ⟨by kernel_rfl, ?_⟩) (by assumption) ?_
          rotate_left
          · intro w _
            first | (go_simp; done) | (go_simp; with_reducible rfl)
          try simp only [Act.put, List.setIfInBounds_toArray, List.set_cons_zero, List.set_cons_succ]
          refine wpAnyH_take (i := 5) (oi := { dst := some 107, op := Go.Op.load 26 (Go.Operand.tmp 27), type := 26, pos := "law.go:188", after := #[], guard := none }) (v := ?_) rfl (by kernel_rfl) (by kernel_rfl) (by kernel_rfl) (fun _ _ _ h => h) (Or.inl ⟨by kernel_rfl, ?_⟩) (by assumption) ?_
          rotate_left
          · intro w hSw
            (try dsimp only at hSw)
            go_split_ands
            first | (go_simp; done) | (go_simp; with_reducible rfl)
          try simp only [Act.put, List.setIfInBounds_toArray, List.set_cons_zero, List.set_cons_succ]
          refine wpAnyH_take (i := 7) (oi := { dst := some 109, op := Go.Op.move (Go.Operand.tmp 16), type := 34, pos := "law.go:188", after := #[], guard := none }) (v := ?_) rfl (by kernel_rfl) (by kernel_rfl) (by kernel_rfl) (fun _ _ _ h => h) (Or.inl ⟨by kernel_rfl, ?_⟩) (by assumption) ?_
          rotate_left
          · intro w _
            first | (go_simp; done) | (go_simp; with_reducible rfl)
          try simp only [Act.put, List.setIfInBounds_toArray, List.set_cons_zero, List.set_cons_succ]
          refine wpAnyH_ready (rs := [3]) (by kernel_rfl) (by simp) ?_
          refine AllReadyH.cons (o := { dst := some 105, op := Go.Op.call { callee := Go.Callee.value (Go.Operand.func 19), args := #[Go.Operand.tmp 102, Go.Operand.tmp 103, Go.Operand.tmp 104], argTypes := #[4, 26, 34] }, type := 34, pos := "law.go:188", after := #[{ on := 0, ground := Go.Ground.data }, { on := 1, ground := Go.Ground.data }, { on := 2, ground := Go.Ground.data }], guard := none }) rfl (fun K hK => ?_) AllReadyH.nil
          go_simp
          go_at_call 19
          refine (UP.out _ (show Below w13.heap.size w13 w13.drew from by go_split_ands; assumption)).mono ?_
          rintro e wc1 ⟨vU, rfl, hOU, hb3⟩
          obtain ⟨AU, cU, rfl, _, _, EU⟩ := hOU.ents
          clear hOU
          have Sc1 := HS.out _ _ (by assumption) hb3
          refine hK.out _ _ Sc1 (fun _ => ?_)
          clear hK K hb3
          try simp only [Act.put, List.setIfInBounds_toArray, List.set_cons_zero, List.set_cons_succ]
          refine wpAnyH_ready (rs := [6]) (by kernel_rfl) (by simp) ?_
          refine AllReadyH.cons (o := { dst := some 108, op := Go.Op.call { callee := Go.Callee.value (Go.Operand.func 21), args := #[Go.Operand.tmp 107], argTypes := #[26] }, type := 48, pos := "law.go:188", after := #[{ on := 5, ground := Go.Ground.data }, { on := 3, ground := Go.Ground.chain }], guard := none }) rfl (fun K hK => ?_) AllReadyH.nil
          go_simp
          go_at_call 21
          refine (RY.out _ (show Below w13.heap.size w13 wc1 from by go_split_ands; assumption)).mono ?_
          rintro e wc2 ⟨qe, rfl, hqe, hqn, gqe, hb3⟩
          replace EU := Ents.below EU hb3
          have HQE := Lib.hid hqe
          have HQN := Lib.hid (show qe.n ≤ 1048576 by rw [hqn]; exact HYN.out)
          clear hqe hqn
          have Sc2 := HS.out _ _ (by assumption) hb3
          refine hK.out _ _ Sc2 (fun _ => ?_)
          clear hK K hb3
          try simp only [Act.put, List.setIfInBounds_toArray, List.set_cons_zero, List.set_cons_succ]
          refine wpAnyH_ready (rs := [8]) (by kernel_rfl) (by simp) ?_
          refine AllReadyH.cons (o := { dst := some 110, op := Go.Op.call { callee := Go.Callee.value (Go.Operand.func 11), args := #[Go.Operand.tmp 109], argTypes := #[34] }, type := 38, pos := "law.go:188", after := #[{ on := 7, ground := Go.Ground.data }, { on := 6, ground := Go.Ground.chain }], guard := none }) rfl (fun K hK => ?_) AllReadyH.nil
          go_simp
          go_at_call 11
          refine (RE.out _ (show Below w13.heap.size w13 wc2 from by go_split_ands; assumption)).mono ?_
          rintro e wc3 ⟨Aw, cw, Lw, rfl, hLw, hLwn, EW, hb3⟩
          replace EU := Ents.below EU hb3
          replace gqe := GoodQ.below gqe hb3
          have HLW := Lib.hid hLw
          have HLWN := Lib.hid hLwn
          clear hLw hLwn
          have Sc3 := HS.out _ _ (by assumption) hb3
          refine hK.out _ _ Sc3 (fun _ => ?_)
          clear hK K hb3
          try simp only [Act.put, List.setIfInBounds_toArray, List.set_cons_zero, List.set_cons_succ]
          refine wpAnyH_ready (rs := [9]) (by kernel_rfl) (by simp) ?_
          refine AllReadyH.cons (o := { dst := some 111, op := Go.Op.call { callee := Go.Callee.value (Go.Operand.func 20), args := #[Go.Operand.tmp 106, Go.Operand.tmp 108, Go.Operand.tmp 110], argTypes := #[4, 48, 38] }, type := 38, pos := "law.go:188", after := #[{ on := 4, ground := Go.Ground.data }, { on := 6, ground := Go.Ground.data }, { on := 8, ground := Go.Ground.data }, { on := 8, ground := Go.Ground.chain }], guard := none }) rfl (fun K hK => ?_) AllReadyH.nil
          go_simp
          go_at_call 20
          refine (refUpto_any asc qe Aw nL cw Lw (by omega) _ ⟨gqe, HQN.out⟩ EW HLWN.out).mono ?_
          rintro e wc4 ⟨vV, rfl, hOV, hb3⟩
          obtain ⟨AV, cV, rfl, EV⟩ := OwnEQ.ents hOV
          replace EU := Ents.below EU hb3
          clear hOV
          have Sc4 := HS.out _ _ (by assumption) hb3
          refine hK.out _ _ Sc4 (fun _ => ?_)
          clear hK K hb3
          try simp only [Act.put, List.setIfInBounds_toArray, List.set_cons_zero, List.set_cons_succ]
          refine wpAnyH_ready (rs := [10]) (by kernel_rfl) (by simp) ?_
          refine AllReadyH.cons (o := { dst := some 112, op := Go.Op.call { callee := Go.Callee.value (Go.Operand.func 17), args := #[Go.Operand.tmp 105, Go.Operand.tmp 111], argTypes := #[34, 38] }, type := 4, pos := "law.go:188", after := #[{ on := 3, ground := Go.Ground.data }, { on := 9, ground := Go.Ground.data }, { on := 9, ground := Go.Ground.chain }], guard := none }) rfl (fun K hK => ?_) AllReadyH.nil
          go_simp
          go_at_call 17
          refine (sameEntries_any W.heap.size AU _ cU _ AV _ cV _ (by have := HNU.out y.b; omega) (by have h1 := HNU.out y.b; have h2 := congrArg List.length (uptoE_alike (asc := asc) HQE.out.symm HLW.out.symm); rw [List.length_map, List.length_map] at h2; omega) _ EU EV true ⟨fun _ => uptoE_alike HQE.out.symm HLW.out.symm, fun _ => rfl⟩).mono ?_
          rintro e wc5 ⟨rfl, hb3⟩
          have Sc5 := HS.out _ _ (by assumption) hb3
          refine hK.out _ _ Sc5 (fun _ => ?_)
          clear hK K hb3
          try simp only [Act.put, List.setIfInBounds_toArray, List.set_cons_zero, List.set_cons_succ]
          refine wpAnyH_take (i := 11) (oi := { dst := some 30, op := Go.Op.assign (Go.Operand.tmp 112), type := 4, pos := "law.go:188", after := #[{ on := 10, ground := Go.Ground.data }, { on := 10, ground := Go.Ground.chain }, { on := 0, ground := Go.Ground.phase }, { on := 1, ground := Go.Ground.phase }, { on := 2, ground := Go.Ground.phase }, { on := 3, ground := Go.Ground.phase }, { on := 4, ground := Go.Ground.phase }, { on := 5, ground := Go.Ground.phase }, { on := 6, ground := Go.Ground.phase }, { on := 7, ground := Go.Ground.phase }, { on := 8, ground := Go.Ground.phase }, { on := 9, ground := Go.Ground.phase }, { on := 10, ground := Go.Ground.phase }], guard := none }) (v := ?_) rfl (by kernel_rfl) (by kernel_rfl) (by kernel_rfl) (fun _ _ _ h => h) (Or.inl ⟨by kernel_rfl, ?_⟩) (by assumption) ?_
          rotate_left
          · intro w _
            first | (go_simp; done) | (go_simp; with_reducible rfl)
          try simp only [Act.put, List.setIfInBounds_toArray, List.set_cons_zero, List.set_cons_succ]
          refine wpAnyH_done (by kernel_rfl) ?_ _
          have HF9 := Lib.hid (hop HB3.out h0 (show Below w13.heap.size w13 wc5 from by go_split_ands; assumption))
          go_split_ands
          clear UP RY RE HS
          cases S
          all_goals
            cases zo
            all_goals
              go_wp2
              go_ret
              exact ⟨by first | rfl | (simp; done), HF9.out⟩
end Go.Proofs.Ytilcanblgdmecaa
