/- The walk of the law EntryPuts: what entries are put stands one behind the other. -/
import Derived.Test.YtdbflmkjcgiodaaGreatDoorEntFew
namespace Go.Proofs.YtdbflmkjcgiodaaGreatDoor
open Go.RowKit
set_option linter.unusedVariables false
set_option linter.unusedSimpArgs false

theorem box_cells2 {w : World} {g : Nat} {x : ItemX} {t : TypeId} (h : Blk w g t #[.int .i64 x.e.ts, .slice x.e.A x.e.n x.e.c, .string x.e.ln, .bool true, .int .i8 x.t, .slice x.LA x.Ln x.Lc, .int .u8 (x.k : Int)]) : w.cell? ⟨g, 0, none⟩ = some (.int .i64 x.e.ts) ∧ w.cell? ⟨g, 1, none⟩ = some (.slice x.e.A x.e.n x.e.c) ∧ w.cell? ⟨g, 2, none⟩ = some (.string x.e.ln) ∧ w.cell? ⟨g, 3, none⟩ = some (.bool true) ∧ w.cell? ⟨g, 4, none⟩ = some (.int .i8 x.t) ∧ w.cell? ⟨g, 5, none⟩ = some (.slice x.LA x.Ln x.Lc) ∧ w.cell? ⟨g, 6, none⟩ = some (.int .u8 (x.k : Int)) :=
  ⟨(h.cell 0).trans rfl, (h.cell 1).trans rfl, (h.cell 2).trans rfl, (h.cell 3).trans rfl, (h.cell 4).trans rfl, (h.cell 5).trans rfl, (h.cell 6).trans rfl⟩
theorem item_few (B : Nat) (x : ItemX) (w : World) (h : GoodI B w x) :
    Calls Tryz.prog 10 #[.agg #[.int .i64 x.e.ts, .slice x.e.A x.e.n x.e.c, .string x.e.ln, .bool true, .int .i8 x.t, .slice x.LA x.Ln x.Lc, .int .u8 (x.k : Int)]] w fun e w' => ∃ y : EntX, e = .returned y.val ∧ y.b = itemB (ownI x) ∧ Good B w' y ∧ Below w.heap.size w w' :=
  item_any B (ownI x) w (ownI_good h)

set_option maxRecDepth 100000 in
set_option maxHeartbeats 3200000 in
theorem entryPuts_walk {W : World} (A : Option Addr) (n c : Nat) (l : List ItemX) (h1 : ItemsP W.heap.size W A n l) (hnc : n ≤ c) (hcm : c ≤ maxLen) (hl : LibIs W) :
    Calls Tryz.prog 8 #[.slice A n c] W fun e w' => e = .returned (.bool true) ∧ Below W.heap.size W w' := by
  have h0 : W.heap.size ≤ W.heap.size := Nat.le_refl _
  unfold maxLen at hcm
  obtain ⟨i0, hi, hz0, hz1, hz2⟩ := info_parts infoEnt
  have hn : n ≤ 9223372036854775807 := by omega
  have HX := Lib.hid (entExamples_any W hl)
  have HL := Lib.hid hl
  have H1 := Lib.hid h1
  have LN := Lib.hid (ownL_len l)
  have NX := Lib.hid (ownL_next l)
  have FW := Lib.hid (ownL_few h1.2)
  clear h1 hl hnc hcm
  go_enter Tryz.func8, Tryz.ntmps8
  go_wp2_with fail
  refine HX.out.mono ?_
  rintro e w1 ⟨rfl, hb1⟩
  go_wp2
  go_loopw [4, 5, 6] (fun av sv iv wr => ∃ (j : Nat) (L : List EntX) (s : ByteArray), j ≤ n ∧ j ≤ 8 ∧ iv = .int .i64 j ∧ sv = .string s ∧ Hid (s = putsT (ownL l j)) ∧ Hid (L.map EntX.b = ownL l j) ∧ OwnE W.heap.size wr W.heap.size av L ∧ Below W.heap.size W wr) (fun _ _ iv _ => 8 - (intOf iv).toNat)
  case atStart => exact ⟨0, [], .empty, Nat.zero_le _, Nat.zero_le _, rfl, rfl, Lib.hid rfl, Lib.hid rfl, OwnE.nil _ _ _, hb1⟩
  case round =>
    obtain ⟨j, L, s, hjn, hj8, rfl, rfl, HS, HLB, hown, hb⟩ := hrel
    have hsz := hb.size
    have hLl : L.length ≤ 8 := by
      have h3 := congrArg List.length HLB.out
      rw [List.length_map] at h3
      have := LN.out j
      omega
    have hss : s.size ≤ 1600 := by
      have h3 := putsT_size (ownL l j) (FW.out j)
      have := LN.out j
      rw [HS.out]
      omega
    by_cases hj : j < n ∧ j < 8
    · obtain ⟨g1, g2⟩ := hj
      have h2 := H1.out.below hb
      obtain ⟨b1, o1, rfl, hlt1, hc1⟩ := h2.at_ (by omega)
      obtain ⟨⟨c1, c2, c3, c4, c5, c6, c7⟩, gI⟩ := hc1 j g1
      have hjl : j < l.length := by rw [h2.1.1]; exact g1
      have hks := NX.out j hjl
      have hfe := own_few gI
      obtain ⟨x, hx⟩ : ∃ p, l.getD j inil = p := ⟨_, rfl⟩
      rw [hx] at c1 c2 c3 c4 c5 c6 c7 hks gI hfe
      have gI0 : GoodI W.heap.size W x := by
        refine H1.out.2 x ?_
        rw [← hx, List.getD_eq_getElem?_getD, List.getElem?_eq_getElem hjl]
        exact List.getElem_mem _
      have IT := Lib.hid (fun w (h : Below W.heap.size W w) => item_few W.heap.size x w (gI0.below h))
      have hjI : (j : Int) < (n : Int) := by omega
      have hjM : (j : Int) < 8 := by omega
      obtain ⟨bx, hbx⟩ : ∃ b, itemB (ownI x) = b := ⟨_, rfl⟩
      rw [hbx] at hks hfe
      replace IT := IT.out
      simp only [hbx] at IT
      replace IT := Lib.hid IT
      have HKS := Lib.hid hks
      have HFE := Lib.hid hfe
      have HOW := Lib.hid hown
      have Hb := Lib.hid hb
      clear hks hfe hx hc1 h2 hjl gI gI0 hown hb hbx
      go_wp2_with fail
      have hrow : ∀ r, Value.ownBlock _ = some r → W.heap.size ≤ r ∧ r < wr.heap.size := fun r hr => World.ownsRow.lt HOW.out.1 r hr
      have HO2 := HOW.out.alloc (.cells #[.int .i64 x.e.ts, .slice x.e.A x.e.n x.e.c, .string x.e.ln, .bool true, .int .i8 x.t, .slice x.LA x.Ln x.Lc, .int .u8 (x.k : Int)] 29)
      obtain ⟨w2, hw2⟩ : ∃ w, wr.alloc (.cells #[.int .i64 x.e.ts, .slice x.e.A x.e.n x.e.c, .string x.e.ln, .bool true, .int .i8 x.t, .slice x.LA x.Ln x.Lc, .int .u8 (x.k : Int)] 29) = w := ⟨_, rfl⟩
      have hb2 : Below W.heap.size W w2 := by rw [← hw2]; exact Hb.out.alloc hsz _
      have BX : Blk w2 wr.heap.size 29 #[.int .i64 x.e.ts, .slice x.e.A x.e.n x.e.c, .string x.e.ln, .bool true, .int .i8 x.t, .slice x.LA x.Ln x.Lc, .int .u8 (x.k : Int)] := by rw [← hw2]; exact Blk.new wr _ _
      rw [hw2] at HO2 ⊢
      clear hw2
      refine (IT.out _ hb2).mono ?_
      rintro e w3 ⟨y, rfl, hy, gy, hx⟩
      have hb3 := hop hb2 h0 hx
      have hs3 := hb3.size
      have BX3 := BX.below hx BX.lt
      have HO3 := Lib.hid (HO2.below hx)
      obtain ⟨yt, yA, yn, yc, yl, ys⟩ := y
      dsimp only [EntX.val]
      have HY := Lib.hid hy
      have HGY := Lib.hid gy
      have HBX := Lib.hid (BX3.alloc (.cells #[.int .i64 yt, .slice yA yn yc, .string ys] 25))
      have Hb3 := Lib.hid hb3
      clear hx hy gy BX BX3 hb2 hb3 HO2 c1 c2 c3 c4 c5 c6 c7
      go_wp2_with (at_builtin; refine wpList_append_own _ rfl (.tmp 30) (.tmp 33) 37 rfl W.heap.size 25 i0 (.agg #[.int .i64 0, .slice none 0 0, .string ⟨#[]⟩]) 3 48 Tryz.underlying37 hi hz0 hz1 hz2 rfl (by decide) _ _ _ rfl (OwnR.alloc HO3.out.1 _) ⟨w3.heap.size, 0, none⟩ 1 1 (EntX.V ⟨yt, yA, yn, yc, yl, ys⟩) rfl rfl (new_cells_at _ _ _ _ (by simp)) (entV_one _) (by unfold maxLen; omega) (by omega) (by simp; omega) ?_)
      intro v' w4 hown' hgrow _
      have hb4 := (Hb3.out.alloc hs3 _).grown hgrow (by simp; omega) (fun r hr => (World.ownsRow.lt HO3.out.1 r hr).1)
      have hown4 := OwnE.snoc (HO3.out.alloc _) (HGY.out.below ((Below.refl _ _).alloc (Nat.le_refl _) _)) h0 hgrow hown'
      have BX4 := HBX.out.stays hgrow (fun e => by have := (hrow _ e).2; omega)
      obtain ⟨x0, x1, x2, x3, x4, x5, x6⟩ := box_cells2 BX4
      have hmap : (L ++ [(⟨yt, yA, yn, yc, yl, ys⟩ : EntX)]).map EntX.b = ownL l (j + 1) := by
        rw [List.map_append, HLB.out, HKS.out, ← HY.out]
        rfl
      have HMAP := Lib.hid hmap
      have HO4 := Lib.hid hown4
      have Hb4 := Lib.hid hb4
      clear hown' hgrow hmap hown4 BX4 hb4 HBX HO3 Hb3 HGY HY
      go_wp2_with fail
      refine (IT.out _ Hb4.out).mono ?_
      rintro e w5 ⟨y, rfl, hy, gy, hx⟩
      have hb5 := hop Hb4.out h0 hx
      have HO5 := Lib.hid (HO4.out.below hx)
      have PT := put_few y w5 gy (by rw [hy]; exact HFE.out) (HL.out.below hb5)
      rw [hy] at PT
      dsimp only [EntX.val]
      have hTs := HFE.out.size
      obtain ⟨T, hT⟩ : ∃ T, entT bx = T := ⟨_, rfl⟩
      rw [hT] at PT hTs
      have hst : s ++ T = putsT (ownL l (j + 1)) := by rw [HKS.out, putsT_app, putsT_one, ← HS.out, hT]
      have HST := Lib.hid hst
      replace PT := Lib.hid PT
      have Hb5 := Lib.hid hb5
      have q1 : s.size + T.size ≤ 2000 := by omega
      have q2 : ¬ 9223372036854775807 < s.size + T.size := by omega
      clear hx hy gy hb5 HO4 Hb4 x0 x1 x2 x3 x4 x5 x6 hst hT IT
      go_wp2_with fail
      refine PT.out.mono ?_
      rintro e w6 ⟨rfl, hx⟩
      have hb6 := hop Hb5.out h0 hx
      have ho6 := HO5.out.below hx
      clear hx
      go_wp2
      go_round
      case rel => exact ⟨j + 1, _, s ++ T, by omega, by omega, by go_num, rfl, HST, HMAP, ho6, hb6⟩
      case measure => simp [intOf]; omega
    · have hends : (¬ (j : Int) < (n : Int)) ∨ ((j : Int) < (n : Int) ∧ ¬ (j : Int) < 8) := by omega
      have HOW := Lib.hid hown
      have Hb := Lib.hid hb
      have hall : ∀ e ∈ L.map EntX.b, FewE e := by rw [HLB.out]; exact FW.out j
      have HALL := Lib.hid hall
      have hs2 : s = putsT ((L.map EntX.b).drop 0) := by rw [List.drop_zero, HLB.out]; exact HS.out
      have HS2 := Lib.hid hs2
      clear hown hb hj hall hs2
      obtain ⟨AL, cap, rfl, hcap, _, hpL⟩ := HOW.out.ents
      have HPL := Lib.hid hpL
      clear hpL
      rcases hends with e1 | ⟨e1, e2⟩
      all_goals
        obtain ⟨v0, hv0⟩ : ∃ v, v = wr := ⟨_, rfl⟩
        subst hv0
        go_wp2
        go_loopw [5, 8] (fun sv iv w3 => ∃ (i : Nat) (s : ByteArray), i ≤ L.length ∧ iv = .int .i64 i ∧ sv = .string s ∧ Hid (s = putsT ((L.map EntX.b).drop i)) ∧ s.size ≤ 1600 ∧ Below v0.heap.size v0 w3) (fun _ iv _ => L.length - (intOf iv).toNat)
        case atStart => exact ⟨0, s, Nat.zero_le _, rfl, rfl, HS2, hss, Below.refl _ _⟩
        case round =>
          obtain ⟨i, s2, hi2, rfl, rfl, HS3, hss2, hb7⟩ := hrel
          have hbW := hop Hb.out h0 hb7
          by_cases hiL : i < L.length
          · have hiI : (i : Int) < (L.length : Int) := by omega
            obtain ⟨b2, o2, rfl, hlt2, hc2⟩ := (HPL.out.below hb7).at_ (by omega)
            obtain ⟨d0, d1, d2, gy⟩ := hc2 i hiL
            have hd : (L.map EntX.b).drop i = (L.getD i xnil).b :: (L.map EntX.b).drop (i + 1) := by
              rw [List.drop_eq_getElem_cons (by rw [List.length_map]; exact hiL), List.getElem_map, List.getD_eq_getElem?_getD, List.getElem?_eq_getElem hiL]
              rfl
            have hfe : FewE (L.getD i xnil).b := HALL.out _ (List.mem_map.2 ⟨_, by
              rw [List.getD_eq_getElem?_getD, List.getElem?_eq_getElem hiL]
              exact List.getElem_mem _, rfl⟩)
            obtain ⟨y, hy⟩ : ∃ y, L.getD i xnil = y := ⟨_, rfl⟩
            rw [hy] at d0 d1 d2 gy hd hfe
            have hs3 := HS3.out
            rw [hd, putsT] at hs3
            obtain ⟨R, hR⟩ : ∃ R, putsT ((L.map EntX.b).drop (i + 1)) = R := ⟨_, rfl⟩
            rw [hR] at hs3
            have hm1 := ent_some y.b
            have hpe := entP_puts y.b R hfe
            have hex := tail_text (entT y.b) R
            have hsz2 : s2.size = (entT y.b).size + R.size := by rw [hs3, ByteArray.size_append]
            rw [← hs3] at hpe hex
            obtain ⟨m, hm⟩ : ∃ m, (entT y.b).size = m := ⟨_, rfl⟩
            rw [hm] at hm1 hpe hex hsz2
            have PS := Lib.hid (fun w (h : LibIs w) => show Calls Tryz.prog 27 #[.string s2] w fun e w' => ∃ x : EntX, e = .returned (.tuple #[.agg #[.int .i64 x.ts, .slice x.A x.n x.c, .string x.ln], .int .i64 (m : Int), .bool true]) ∧ x.b = y.b ∧ Good 0 w' x ∧ Below w.heap.size w w' from by
              refine (entParse_any s2 (by omega) w h).mono ?_
              rintro e w' ⟨x, rfl, hx, gx, hb⟩
              exact ⟨x, by rw [hpe]; rfl, by rw [hx, hpe]; rfl, gx, hb⟩)
            have q1 : ¬ (m : Int) < 1 := by omega
            have q2 : decide ((m : Int) < 1) = false := decide_eq_false q1
            have q3 : ¬ (s2.size : Int) < (m : Int) := by omega
            have q4 : decide ((s2.size : Int) < (m : Int)) = false := decide_eq_false q3
            have q7 : ¬ s2.size < m := by omega
            have q8 : decide (s2.size < m) = false := decide_eq_false q7
            have q5 : (m : Int) ≤ (s2.size : Int) := by omega
            have q6 : decide (m ≤ s2.size) = true := decide_eq_true (by omega)
            have HEX := Lib.hid hex
            have HR := Lib.hid (show R = putsT ((L.map EntX.b).drop (i + 1)) from hR.symm)
            have hRs : R.size ≤ 1600 := by omega
            have LW := Lib.hid (HL.out.below hbW)
            clear hc2 hd hfe hy hs3 hm1 hpe hex hsz2 hm hR hbW
            go_wp2_with fail
            refine (PS.out _ LW.out).mono ?_
            rintro e w4 ⟨x, rfl, hx, gx, hxb⟩
            have hb8 : Below v0.heap.size v0 w4 := hop hb7 (Nat.le_refl _) hxb
            have BE := Blk.new w4 25 x.arr
            have e0 : (w4.alloc (.cells x.arr 25)).cell? ⟨w4.heap.size, 0, none⟩ = some (.int .i64 x.ts) := (BE.cell 0).trans rfl
            have e1' : (w4.alloc (.cells x.arr 25)).cell? ⟨w4.heap.size, 1, none⟩ = some (.slice x.A x.n x.c) := (BE.cell 1).trans rfl
            have e2' : (w4.alloc (.cells x.arr 25)).cell? ⟨w4.heap.size, 2, none⟩ = some (.string x.ln) := (BE.cell 2).trans rfl
            have hlte := BE.lt
            have hal : Below w4.heap.size w4 (w4.alloc (.cells x.arr 25)) := (Below.refl _ _).alloc (Nat.le_refl _) _
            have hxa := hop hxb (Nat.le_refl _) hal
            have n0 := (hxa.cell (p := ⟨b2, o2 + i * 3, none⟩) hlt2).trans d0
            have n1 := (hxa.cell (p := ⟨b2, o2 + i * 3 + 1, none⟩) hlt2).trans d1
            have n2 := (hxa.cell (p := ⟨b2, o2 + i * 3 + 2, none⟩) hlt2).trans d2
            have gy5 := gy.below hxa
            have gx5 := gx.below hal
            have hb9 : Below v0.heap.size v0 (w4.alloc (.cells x.arr 25)) := hop hb8 (Nat.le_refl _) hal
            have hlt5 : b2 < (w4.alloc (.cells x.arr 25)).heap.size := Nat.lt_of_lt_of_le hlt2 hxa.size
            obtain ⟨w5, hw5⟩ : ∃ w, w4.alloc (.cells x.arr 25) = w := ⟨_, rfl⟩
            rw [hw5] at e0 e1' e2' hlte n0 n1 n2 gy5 gx5 hb9 hlt5
            have SM := Lib.hid (fun w (h : Below w5.heap.size w5 w) => show Calls Tryz.prog 17 #[.agg #[.int .i64 x.ts, .slice x.A x.n x.c, .string x.ln], .agg #[.int .i64 y.ts, .slice y.A y.n y.c, .string y.ln]] w fun e w' => e = .returned (.bool true) ∧ Below w.heap.size w w' from by
              have h2 := same_good x y w (gx5.below h) (gy5.below h)
              rwa [hx, sameE_iff.2 rfl] at h2)
            have HB9 := Lib.hid hb9
            clear hx gx hxb hb8 BE hal hxa d0 d1 d2 gy gy5 gx5 hb9 PS hb7
            go_wp2
            change Code.wp Tryz.prog _ _ _ (w4.alloc (.cells x.arr 25))
            rw [hw5]
            obtain ⟨ge, hge⟩ : ∃ g, w4.heap.size = g := ⟨_, rfl⟩
            rw [hge] at e0 e1' e2' hlte ⊢
            clear hw5 hge
            have S0 : Below w5.heap.size w5 w5.drew := (Below.refl _ _).drew
            go_region_held3 (fun w' => Below w5.heap.size w5 w' ∧ w'.cell? ⟨ge, 0, none⟩ = some (.int .i64 x.ts) ∧ w'.cell? ⟨ge, 1, none⟩ = some (.slice x.A x.n x.c) ∧ w'.cell? ⟨ge, 2, none⟩ = some (.string x.ln) ∧ w'.cell? ⟨b2, o2 + i * 3, none⟩ = some (.int .i64 y.ts) ∧ w'.cell? ⟨b2, o2 + i * 3 + 1, none⟩ = some (.slice y.A y.n y.c) ∧ w'.cell? ⟨b2, o2 + i * 3 + 2, none⟩ = some (.string y.ln))
              (first | assumption | exact ⟨by assumption, by assumption, by assumption, by assumption, by assumption, by assumption, by assumption⟩ | exact ⟨by assumption, (hb3.cell (p := ⟨_, _, none⟩) hlte).trans e0, (hb3.cell (p := ⟨_, _, none⟩) hlte).trans e1', (hb3.cell (p := ⟨_, _, none⟩) hlte).trans e2', (hb3.cell (p := ⟨_, _, none⟩) hlt5).trans n0, (hb3.cell (p := ⟨_, _, none⟩) hlt5).trans n1, (hb3.cell (p := ⟨_, _, none⟩) hlt5).trans n2⟩)
              (first | (go_at_call 17; refine (SM.out _ S0).mono ?_; rintro e w6 ⟨rfl, hb3⟩; replace hb3 : Below w5.heap.size w5 w6 := ⟨hb3.os, hb3.tape, hb3.output, hb3.size, hb3.block⟩))
            all_goals
              have hb10 : Below v0.heap.size v0 _ := hop HB9.out (Nat.le_refl _) hb3
              clear hb3
              go_wp2
              go_round
              case rel => exact ⟨i + 1, R, by omega, by go_num, by rw [HEX.out], HR, hRs, hb10⟩
              case measure => simp [intOf]; omega
          · have hs4 : s2 = .empty := by
              rw [HS3.out, List.drop_of_length_le (by rw [List.length_map]; omega)]
              rfl
            subst hs4
            have HBW := Lib.hid hbW
            have hiI : ¬ (i : Int) < (L.length : Int) := by omega
            clear hbW HS3
            go_wp2
            go_ret
            exact ⟨rfl, HBW.out⟩
end Go.Proofs.YtdbflmkjcgiodaaGreatDoor
