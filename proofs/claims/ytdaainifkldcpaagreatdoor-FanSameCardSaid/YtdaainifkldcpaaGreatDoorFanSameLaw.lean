-- shaken
import Derived.Test.YtdaainifkldcpaaGreatDoorCallAny
import Derived.Test.YtdaainifkldcpaaGreatDoorFanLawBase
namespace Go.Proofs.YtdaainifkldcpaaGreatDoor
open Go.RowKit
set_option linter.unusedVariables false
set_option linter.unusedSimpArgs false
theorem same_fetch {T : List PairB → Bool} {a : AskB} {Rs Xs : List ReplX} {r0 : List EntB} (hX : ∀ x, x ∈ Xs ↔ x ∈ Rs) (h : ∀ x ∈ Rs, x.L.map EntX.b = r0 ∧ replyOf x = ⟨false, 0⟩) (hne : Rs ≠ []) (hs : r0.Pairwise leB) (hl : 1 ≤ a.lim) :
    (!(endsX T a Xs).isEmpty) = moreL T a (mostOf a.lim ⟨false, 0⟩) r0 ∧ (tellsX T a Xs).isEmpty = false ∧
    fetchL a.asc (tellsX T a Xs) (endsX T a Xs) = ddN (tellL T a (mostOf a.lim ⟨false, 0⟩) r0) (tellL T a (mostOf a.lim ⟨false, 0⟩) r0).length := by
  have hu : ∀ x ∈ Rs, upX x = true := fun x hx => by unfold upX; rw [(h x hx).2]; rfl
  have ht : ∀ x ∈ Rs, tellX T a x = tellL T a (mostOf a.lim ⟨false, 0⟩) r0 := fun x hx => by unfold tellX; rw [(h x hx).2, (h x hx).1]
  have hm : ∀ x ∈ Rs, moreX T a x = moreL T a (mostOf a.lim ⟨false, 0⟩) r0 := fun x hx => by unfold moreX; rw [(h x hx).2, (h x hx).1]
  obtain ⟨x0, hx0⟩ := List.exists_mem_of_ne_nil _ hne
  have hsort : SortB a.asc (tellL T a (mostOf a.lim ⟨false, 0⟩) r0) := by
    refine sortB_of ?_
    unfold tellL metL
    exact ((dir_sorted a.asc hs).filter _).sublist (List.take_sublist _ _)
  obtain ⟨t, e⟩ : ∃ t, tellL T a (mostOf a.lim ⟨false, 0⟩) r0 = t := ⟨_, rfl⟩
  obtain ⟨mo, em⟩ : ∃ t, moreL T a (mostOf a.lim ⟨false, 0⟩) r0 = t := ⟨_, rfl⟩
  rw [e] at hsort ht ⊢
  rw [em] at hm ⊢
  have hmem : ∀ u, u ∈ tellsX T a Xs ↔ u ∈ [t] := fun u => by
    rw [List.mem_singleton]
    constructor
    · intro hu1
      obtain ⟨x, hx, rfl⟩ := List.mem_map.1 hu1
      exact ht x ((hX x).1 (List.mem_filter.1 hx).1)
    · rintro rfl
      exact List.mem_map.2 ⟨x0, List.mem_filter.2 ⟨(hX x0).2 hx0, hu x0 hx0⟩, ht x0 hx0⟩
  refine ⟨?_, ?_, ?_⟩
  · rw [more_ends hl]
    cases mo with
    | true => exact List.any_eq_true.2 ⟨x0, (hX x0).2 hx0, by rw [hu x0 hx0, hm x0 hx0]; rfl⟩
    | false =>
      rw [List.any_eq_false]
      intro x hx
      rw [hm x ((hX x).1 hx), Bool.and_false]
      decide
  · have h1 := (hmem t).2 (List.mem_singleton.2 rfl)
    cases h2 : tellsX T a Xs with
    | nil => rw [h2] at h1; cases h1
    | cons => rfl
  · refine ((fetchL_ok a.asc (tellsX T a Xs) (endsX T a Xs)).turn hmem (fun u => Iff.rfl)).alike hsort (fun u hu1 => ?_)
    obtain ⟨x, hx, h1⟩ := List.mem_filterMap.1 hu1
    have hx2 := (hX x).1 (List.mem_filter.1 hx).1
    unfold lastX at h1
    rw [ht x hx2] at h1
    split at h1
    · exact h1
    · cases h1
theorem dd_fresh {t : List EntB} {j : Nat} {e : EntB} (he : t[j]? = some e) (hd : dupB t j = false) : (ddN t t.length)[(ddN t j).length]? = some e ∧ (ddN t (j + 1)).length = (ddN t j).length + 1 := by
  have hj := (List.getElem?_eq_some_iff.1 he).1
  have h1 := ddN_next t j e he
  rw [hd, if_neg (by decide)] at h1
  obtain ⟨r, hr⟩ := ddN_more t (j + 1) (t.length - (j + 1))
  rw [show j + 1 + (t.length - (j + 1)) = t.length by omega] at hr
  refine ⟨?_, by rw [h1, List.length_append]; rfl⟩
  rw [hr, h1, List.append_assoc, List.getElem?_append_right (Nat.le_refl _), Nat.sub_self]
  rfl
theorem ddN_len (q : List EntB) : ∀ n, (ddN q n).length ≤ n
  | 0 => Nat.le_refl _
  | n + 1 => by
    have h := ddN_len q n
    rw [ddN, List.length_append]
    split
    · split
      · rw [List.length_nil]; omega
      · rw [List.length_singleton]; omega
    · rw [List.length_nil]; omega
theorem dd_skip {t : List EntB} {j : Nat} {e : EntB} (he : t[j]? = some e) (hd : dupB t j = true) : (ddN t (j + 1)).length = (ddN t j).length := by
  rw [ddN_next t j e he, hd, if_pos rfl, List.append_nil]
theorem dup_succ {t : List EntB} {m : Nat} {d e : EntB} (h1 : t[m]? = some d) (h2 : t[m + 1]? = some e) : dupB t (m + 1) = sameE d e := by
  rw [dupB, h1, h2]
structure SameX (w0 : Nat) (all : List EntB) (x : ReplX) : Prop where
  k : x.k = 0
  s : x.S = []
  perm : (x.L.map EntX.b).Perm (newE all)
  sort : (x.L.map EntX.b).Pairwise leB
  low : w0 ≤ x.b
theorem FanP.fgO {B g T : Nat} {w w' : World} {f : Nat} {Rs : List ReplX} {ord : List Nat} {rv ov : Value} {cur : Array Value} (h : FanP B w f Rs ord rv ov) (hf : Se.FG g w w') (hb : Blk w g T cur)
    (h1 : T ≠ 115) (h2 : T ≠ 86) (h3 : T ≠ 3) (h4 : T ≠ 85) (h5 : T ≠ 47) (h6 : T ≠ 165) (h7 : T ≠ 140) : FanP B w' f Rs ord rv ov :=
  ⟨h.blk.fg hf (blk_apart h.blk hb h1), OwnR.fgT h.row hf hb h2, OwnR.fgT h.plc hf hb h3, ⟨fun x hx => RepP.fg (h.reps.all x hx) hf hb (blk_apart (h.reps.all x hx).blk hb h7) h4 h5 h6, h.reps.apart⟩, h.low, h.ordok⟩
set_option maxRecDepth 100000 in
set_option maxHeartbeats 6400000 in
theorem fanSame_walk {W : World} (A : Option Addr) (n c : Nat) (l : List ItemX) (many : Int) (cx : CallX) (h1 : ItemsP W.heap.size W A n l) (hnc : n ≤ c) (hcm : c ≤ maxLen) (wm : (Lit.int .u8 many).wf = true) (gc : GoodC W.heap.size W cx) (hl : True) :
    Calls Tryz.prog 7 #[.slice A n c, .int .u8 many, .agg cx.V.toArray] W fun e w' => e = .returned (.bool true) ∧ Below W.heap.size W w' := by
  unfold maxLen at hcm
  have hn : n ≤ 9223372036854775807 := by omega
  have bm := bdu8 wm
  obtain ⟨⟨lo, hi, asc, lim, has, ⟨ats, aA, an, ac, als, aln⟩⟩, own, fr, lg, lm, ⟨⟨ets, jA, jn, jc, els, eln⟩, eo, et, LA, Ln, Lc, lt, ek⟩⟩ := cx
  have bf := gc.fr
  have bl := gc.lg
  have bli := gc.lm
  dsimp only at bf bl bli
  obtain ⟨z4, hz4⟩ : ∃ z, many.tmod 4 = z := ⟨_, rfl⟩
  have bz4 : 0 ≤ z4 ∧ z4 ≤ 3 := by rw [← hz4, Int.tmod_eq_emod_of_nonneg bm.1]; omega
  have hz4a : IntKind.u8.wrap z4 = z4 := by rw [IntKind.wrap_u8]; omega
  have hz4b : IntKind.i64.wrap z4 = z4 := by rw [IntKind.wrap_i64]; omega
  obtain ⟨N, hN⟩ : ∃ N : Nat, 1 + z4 = (N : Int) := ⟨(1 + z4).toNat, by omega⟩
  have bN : 1 ≤ N ∧ N ≤ 4 := by omega
  have hNw : IntKind.i64.wrap (N : Int) = (N : Int) := by rw [IntKind.wrap_i64]; omega
  have GCW := Lib.hid gc
  have IT1 := Lib.hid (fun w (hw : Below W.heap.size W w) (hs : W.heap.size ≤ w.heap.size) => items_any W.heap.size A n c 8 l hn (by decide) w hs (h1.below hw))
  obtain ⟨i1, hinp, hp0, hp1, hp2⟩ := info_parts infoPtrD
  obtain ⟨ql, hql⟩ : ∃ z, fr.tmod 14 = z := ⟨_, rfl⟩
  have bql : -13 ≤ ql ∧ ql ≤ 13 := by
    rw [← hql]
    rcases Int.le_total 0 fr with g | g
    · rw [Int.tmod_eq_emod_of_nonneg g]; omega
    · have e : fr.tmod 14 = -((-fr) % 14) := by
        rw [← Int.tmod_eq_emod_of_nonneg (by omega), Int.neg_tmod, Int.neg_neg]
      rw [e]; omega
  obtain ⟨qh, hqh⟩ : ∃ z, ql + 1 + lg.tmod 30 = z := ⟨_, rfl⟩
  have bqh : ql < qh := by
    have h2 : 0 ≤ lg.tmod 30 := by rw [Int.tmod_eq_emod_of_nonneg bl.1]; omega
    omega
  obtain ⟨qm, hqm⟩ : ∃ z, 1 + lm.tmod 8 = z := ⟨_, rfl⟩
  have bqm : 1 ≤ qm ∧ qm ≤ 8 := by
    have h2 : 0 ≤ lm.tmod 8 ∧ lm.tmod 8 ≤ 7 := by rw [Int.tmod_eq_emod_of_nonneg bli.1]; omega
    omega
  have HQL := Lib.hid hql
  have HQH := Lib.hid hqh
  have HQM := Lib.hid hqm
  clear h1 hnc hcm wm hl bm gc hql hqh hqm bf bl bli
  obtain ⟨gq, hgq⟩ : ∃ g, W.heap.size = g := ⟨_, rfl⟩
  obtain ⟨V, hV⟩ : ∃ z, W.alloc (.cells #[.int .i64 lo, .int .i64 hi, .bool asc, .int .i64 lim, .bool has, .int .i64 ats, .slice aA an ac, .string aln, .bool own, .int .i8 fr, .int .u8 lg, .int .u8 lm, .int .i64 ets, .slice jA jn jc, .string eln, .bool eo, .int .i8 et, .slice LA Ln Lc, .int .u8 (ek : Int)] 55) = z := ⟨_, rfl⟩
  have KQ := Lib.hid (show Blk V gq 55 #[.int .i64 lo, .int .i64 hi, .bool asc, .int .i64 lim, .bool has, .int .i64 ats, .slice aA an ac, .string aln, .bool own, .int .i8 fr, .int .u8 lg, .int .u8 lm, .int .i64 ets, .slice jA jn jc, .string eln, .bool eo, .int .i8 et, .slice LA Ln Lc, .int .u8 (ek : Int)] from by rw [← hV, ← hgq]; exact Blk.new _ _ _)
  have HV := Lib.hid (show Below W.heap.size W V from by rw [← hV]; exact (Below.refl _ _).alloc (Nat.le_refl _) _)
  have HWV := Lib.hid HV.out.size
  have HGQ := Lib.hid hgq
  show Calls Tryz.prog 7 #[.slice A n c, .int .u8 many, .agg #[.int .i64 lo, .int .i64 hi, .bool asc, .int .i64 lim, .bool has, .int .i64 ats, .slice aA an ac, .string aln, .bool own, .int .i8 fr, .int .u8 lg, .int .u8 lm, .int .i64 ets, .slice jA jn jc, .string eln, .bool eo, .int .i8 et, .slice LA Ln Lc, .int .u8 (ek : Int)]] W _
  go_enter Tryz.func7, Tryz.ntmps7
  go_wp2_with fail
  refine (examples20_any V).mono ?_
  rintro e w1 ⟨rfl, hb⟩
  have HB := Lib.hid hb
  clear hb hV hgq
  have hw1 : W.heap.size ≤ w1.heap.size := Nat.le_trans HV.out.size HB.out.size
  have HBW := Lib.hid (HV.out.trans (HB.out.mono HV.out.size))
  go_wp2_with fail
  refine (IT1.out w1 HBW.out hw1).mono ?_
  rintro e w2 ⟨v_, L, rfl, ho, hlb, hb⟩
  obtain ⟨EA, ec, hve⟩ := OwnR.shape ho.1
  subst hve
  have hL8 : L.length ≤ 8 := by
    have h1 := congrArg List.length hlb
    rw [List.length_map] at h1
    rw [h1]
    exact itemsB_len _ _
  obtain ⟨ne, he⟩ : ∃ k, L.length = k := ⟨_, rfl⟩
  have OE := Lib.hid (OwnE.mono ho (Nat.le_refl _) HB.out.size)
  replace HB := Lib.hid (hop HB.out (Nat.le_refl _) hb)
  rw [he] at OE hL8 ⊢
  have HNE := Lib.hid he
  clear ho hlb he IT1 hb HBW hw1
  go_wp2
  go_loopw [9, 10] (fun ov iv wr => ∃ (j : Nat) (Rs : List ReplX), j ≤ N ∧ iv = .int .i64 (j : Nat) ∧ Rs.length = j ∧ Hid (OwnR ptrV 1 wr V.heap.size 86 ov (Rs.map ReplX.b)) ∧ Hid (RepsP 0 wr Rs) ∧ Hid (∀ x ∈ Rs, SameX V.heap.size (L.map EntX.b) x) ∧ Hid (OwnE W.heap.size wr V.heap.size (.slice EA ne ec) L) ∧ Hid (Below V.heap.size V wr)) (fun _ iv _ => N - (intOf iv).toNat)
  case atStart => exact ⟨0, [], Nat.zero_le _, rfl, rfl, Lib.hid (OwnR.nil _ _ _), Lib.hid ⟨(fun x hx => by cases hx), List.Pairwise.nil⟩, Lib.hid (fun x hx => by cases hx), OE, HB⟩
  case round =>
    clear OE HB
    obtain ⟨j, Rs, hjN, rfl, hln, OR, RS, DF, OE, HB⟩ := hrel
    have HLN := Lib.hid hln
    clear hln
    by_cases hj : j < N
    · as_aux_lemma =>
      have jI : (j : Int) < (N : Int) := by omega
      obtain ⟨ovA, ovc, hov⟩ := OwnR.shape OR.out
      rw [List.length_map, HLN.out] at hov
      subst hov
      have NW := Lib.hid (new_any W.heap.size EA ne ec L none 0 0 [] (by omega) (by decide) wr (ents_of OE.out).2.1 (RowR.none _))
      go_wp2_with fail
      refine NW.out.mono ?_
      rintro e w3 ⟨b, R, rv, lv, rfl, hr, hbl, hp, hsd, hb⟩
      have hs_ := HB.out.size
      have DX := Lib.hid (show SameX V.heap.size (L.map EntX.b) ⟨b, [], 0, R, rv, lv⟩ from ⟨rfl, rfl, hp, List.pairwise_map.2 hsd, by show V.heap.size ≤ b; omega⟩)
      have RP := Lib.hid (hr.mono (Nat.zero_le _))
      have BIG := Lib.hid (show ∀ x ∈ Rs, x.b < b from fun x hx => Nat.lt_of_lt_of_le (RS.out.all x hx).blk.lt hbl)
      replace OR := Lib.hid (OwnR.below OR.out hb)
      replace RS := Lib.hid (RS.out.below hb)
      replace OE := Lib.hid (OE.out.below hb)
      replace HB := Lib.hid (hop HB.out (Nat.le_refl _) hb)
      clear hr hbl hp hsd hb NW hs_
      have hbp : Below w3.heap.size w3 (w3.alloc (.cells #[.pointer (some ⟨b, 0, none⟩)] 86)) := (Below.refl _ _).alloc (Nat.le_refl _) _
      have ORA := Lib.hid (OwnR.below OR.out hbp)
      have RSA := Lib.hid (RS.out.below hbp)
      have RPA := Lib.hid (RP.out.below hbp)
      have OEA := Lib.hid (OE.out.below hbp)
      have HBA := Lib.hid (hop HB.out (Nat.le_refl _) hbp)
      have hsz := HBA.out.size
      have hlm : (Rs.map ReplX.b).length = j := by rw [List.length_map]; exact HLN.out
      have ORL := Lib.hid (show (w3.alloc (.cells #[.pointer (some ⟨b, 0, none⟩)] 86)).ownsRow V.heap.size 86 1 (.slice ovA j ovc) j (rowV ptrV (Rs.map ReplX.b)) from by have h := ORA.out; unfold OwnR at h; rw [hlm] at h; exact h)
      have HLM := Lib.hid hlm
      clear hlm OR RS RP OE HB
      go_wp2_with (at_builtin; refine wpList_append_lies _ rfl (.tmp 37) (.tmp 40) 77 rfl V.heap.size 86 i1 (.pointer none) 1 8 Tryz.underlying77 hinp hp0 hp1 hp2 rfl (by decide) _ _ _ rfl ORL.out ⟨w3.heap.size, 0, none⟩ 1 1 (ptrV b) rfl rfl (World.news_of_block (Blk.new _ _ _)) (fun u hu => by rw [List.mem_singleton.1 hu]; rfl) (by decide) (by unfold maxLen; omega) (by omega) hsz _ rfl ?_)
      intro g2 cap2 w4 hown hgrow hg' hlt2
      have hol := own_row_type ORL.out
      have OR4 := Lib.hid (show OwnR ptrV 1 w4 V.heap.size 86 (.slice (some ⟨g2, 0, none⟩) (j + 1) cap2) ((Rs ++ [(⟨b, [], 0, R, rv, lv⟩ : ReplX)]).map ReplX.b) from by
        rw [List.map_append]
        refine OwnR.snoc ?_
        rw [HLM.out]
        exact hown)
      have RS4 := Lib.hid (show RepsP 0 w4 (Rs ++ [(⟨b, [], 0, R, rv, lv⟩ : ReplX)]) from by
        refine ⟨fun x hx => ?_, ?_⟩
        · rcases List.mem_append.1 hx with hx | hx
          · exact RepP.grewP (RSA.out.all x hx) hgrow (fun g e => (hol g e).2)
          · rw [List.mem_singleton.1 hx]
            exact RepP.grewP RPA.out hgrow (fun g e => (hol g e).2)
        · rw [List.map_append]
          refine List.pairwise_append.2 ⟨RSA.out.apart, List.pairwise_singleton _ _, fun x hx y hy => ?_⟩
          obtain ⟨z, hz, rfl⟩ := List.mem_map.1 hx
          rw [List.mem_singleton.1 hy]
          exact Nat.ne_of_lt (BIG.out z hz))
      have OE4 := Lib.hid (show OwnE W.heap.size w4 V.heap.size (.slice EA ne ec) L from ⟨OwnR.grew2 OEA.out.1 hgrow (fun g e1 e2 => by
        obtain ⟨_, cur, h2⟩ := hol g e2
        obtain ⟨_, cur2, h4⟩ := own_row_type OEA.out.1 g e1
        exact cells_ne h2 h4 (by decide)), fun x hx => (OEA.out.2 x hx).grown hgrow (fun g e => ⟨Nat.le_trans HWV.out (hol g e).1, by obtain ⟨_, cur, h2⟩ := hol g e; exact ⟨cur, _, (by decide), h2⟩⟩)⟩)
      have HB4 := Lib.hid (HBA.out.grown hgrow hsz (fun r hr => (hol r hr).1))
      have DF4 := Lib.hid (show ∀ x ∈ Rs ++ [(⟨b, [], 0, R, rv, lv⟩ : ReplX)], SameX V.heap.size (L.map EntX.b) x from fun x hx => by
        rcases List.mem_append.1 hx with hx | hx
        · exact DF.out x hx
        · rw [List.mem_singleton.1 hx]; exact DX.out)
      have LN4 := Lib.hid (show (Rs ++ [(⟨b, [], 0, R, rv, lv⟩ : ReplX)]).length = j + 1 from by rw [List.length_append, HLN.out]; rfl)
      clear hown hgrow hg' hlt2 hol ORL ORA RSA RPA OEA HBA hsz hbp DX BIG HLM
      go_wp2
      go_round
      case rel => exact ⟨j + 1, Rs ++ [(⟨b, [], 0, R, rv, lv⟩ : ReplX)], by omega, by go_num, LN4.out, OR4, RS4, DF4, OE4, HB4⟩
      case measure => first | (simp [intOf]; done) | (simp [intOf]; omega)
    ·
      have jI : ¬ (j : Int) < (N : Int) := by omega
      have jN : j = N := by omega
      subst jN
      obtain ⟨oA, oc, hoe, _, _, hrow⟩ := OwnR.open ptrV_len OR.out
      rw [List.length_map, HLN.out] at hoe hrow
      subst hoe
      have NF := Lib.hid (fanNew_any 0 oA j oc Rs (by omega) (by omega) wr (Nat.zero_le _) hrow RS.out)
      clear OR RS hrow
      go_wp2_with fail
      refine NF.out.mono ?_
      rintro e w7 ⟨f, rv, ov2, rfl, hfp, hfl, hb⟩
      have FP := Lib.hid hfp
      replace OE := Lib.hid (OE.out.below hb)
      replace HB := Lib.hid (hop HB.out (Nat.le_refl _) hb)
      clear hfp hfl hb NF
      go_wp2_with fail
      refine (everyNone_any w7).mono ?_
      rintro e w8 ⟨rfl, hao, hb⟩
      obtain ⟨ma, hma⟩ : ∃ g, w7.heap.size = g := ⟨_, rfl⟩
      rw [hma] at hao ⊢
      have AO := Lib.hid hao
      replace FP := Lib.hid (FP.out.below hb)
      replace OE := Lib.hid (OE.out.below hb)
      replace HB := Lib.hid (hop HB.out (Nat.le_refl _) hb)
      clear hao hma hb
      have gqV : gq < V.heap.size := KQ.out.lt
      replace KQ := Lib.hid (KQ.out.below HB.out gqV)
      have q8_ : w8.cell? ⟨gq, 8, none⟩ = some (.bool own) := (KQ.out.cell 8).trans rfl
      have f8_ := KQ.out.frozen 8
      obtain ⟨x1, hx1⟩ : ∃ z, w8.setCell ⟨gq, 8, none⟩ (.bool true) = z := ⟨_, rfl⟩
      have F1 : Se.FG gq w8 x1 := by rw [← hx1]; exact Se.FG.set_ 8 _
      have hgqW : W.heap.size ≤ gq := Nat.le_of_eq HGQ.out
      have KT := Lib.hid (show Blk x1 gq 55 #[.int .i64 lo, .int .i64 hi, .bool asc, .int .i64 lim, .bool has, .int .i64 ats, .slice aA an ac, .string aln, .bool true, .int .i8 fr, .int .u8 lg, .int .u8 lm, .int .i64 ets, .slice jA jn jc, .string eln, .bool eo, .int .i8 et, .slice LA Ln Lc, .int .u8 (ek : Int)] from by rw [← hx1]; exact KQ.out.set_ 8 (.bool true))
      have FP1 := Lib.hid (FP.out.fgO F1 KQ.out (by decide) (by decide) (by decide) (by decide) (by decide) (by decide) (by decide))
      have AO1 := Lib.hid (AO.out.fg F1 (blk_apart AO.out KQ.out (by decide)))
      have OE1 := Lib.hid (OE.out.fgT F1 hgqW KQ.out (by decide) (by decide))
      have hb8 : Below W.heap.size W w8 := HV.out.trans (HB.out.mono HV.out.size)
      have HBW := Lib.hid (F1.below hb8 hgqW hb8.size)
      clear FP AO OE HB KQ F1 hb8
      have CA := Lib.hid (callA_any W.heap.size ⟨⟨lo, hi, asc, lim, has, ⟨ats, aA, an, ac, als, aln⟩⟩, true, fr, lg, lm, ⟨⟨ets, jA, jn, jc, els, eln⟩, eo, et, LA, Ln, Lc, lt, ek⟩⟩ x1 HBW.out.size (let g := GCW.out.below HBW.out; ⟨g.a, g.fr, g.lg, g.lm, g.e⟩))
      replace CA := Lib.hid (show Calls Tryz.prog 14 #[.agg #[.int .i64 lo, .int .i64 hi, .bool asc, .int .i64 lim, .bool has, .int .i64 ats, .slice aA an ac, .string aln, .bool true, .int .i8 fr, .int .u8 lg, .int .u8 lm, .int .i64 ets, .slice jA jn jc, .string eln, .bool eo, .int .i8 et, .slice LA Ln Lc, .int .u8 (ek : Int)]] x1 fun e w' => ∃ y : EntX, e = .returned (.agg (AskX.V ⟨fr.tmod 14, fr.tmod 14 + 1 + lg.tmod 30, asc, 1 + lm.tmod 8, has, y⟩).toArray) ∧ y.b = itemB _ ∧ Good W.heap.size w' y ∧ Below x1.heap.size x1 w' from CA.out)
      replace CA := CA.out
      rw [HQL.out, HQH.out, HQM.out] at CA
      replace CA := Lib.hid CA
      go_wp2_with (refine wpList_load_row rfl 55 (.tmp 5) rfl gq rfl 55 #[.int .i64 lo, .int .i64 hi, .bool asc, .int .i64 lim, .bool has, .int .i64 ats, .slice aA an ac, .string aln, .bool true, .int .i8 fr, .int .u8 lg, .int .u8 lm, .int .i64 ets, .slice jA jn jc, .string eln, .bool eo, .int .i8 et, .slice LA Ln Lc, .int .u8 (ek : Int)] (0, 0) _ KT.out Tryz.underlying55 rfl (by kernel_rfl) ?_)
      refine CA.out.mono ?_
      rintro e x2 ⟨y, he, _, hyg, hb⟩
      obtain ⟨yts, yA, yn, yc, yls, yln⟩ := y
      replace he : e = .returned (.agg #[.int .i64 ql, .int .i64 qh, .bool asc, .int .i64 qm, .bool has, .int .i64 yts, .slice yA yn yc, .string yln]) := he
      subst he
      have YG := Lib.hid hyg
      clear hyg CA KT hx1 q8_ f8_
      replace FP1 := Lib.hid (FP1.out.below hb)
      replace AO1 := Lib.hid (AO1.out.below hb AO1.out.lt)
      replace OE1 := Lib.hid (OE1.out.below hb)
      replace HBW := Lib.hid (hop HBW.out (Nat.le_refl _) hb)
      clear hb
      have hb_ : Below x2.heap.size x2 (x2.alloc (.cells #[.int .i64 ql, .int .i64 qh, .bool asc, .int .i64 qm, .bool has, .int .i64 yts, .slice yA yn yc, .string yln] 49)) := (Below.refl _ _).alloc (Nat.le_refl _) _
      obtain ⟨g8, hg8⟩ : ∃ g, x2.heap.size = g := ⟨_, rfl⟩
      have K6 := Lib.hid (show Blk (x2.alloc (.cells #[.int .i64 ql, .int .i64 qh, .bool asc, .int .i64 qm, .bool has, .int .i64 yts, .slice yA yn yc, .string yln] 49)) g8 49 #[.int .i64 ql, .int .i64 qh, .bool asc, .int .i64 qm, .bool has, .int .i64 yts, .slice yA yn yc, .string yln] from by rw [← hg8]; exact Blk.new _ _ _)
      obtain ⟨m1, hm1⟩ : ∃ z, x2.alloc (.cells #[.int .i64 ql, .int .i64 qh, .bool asc, .int .i64 qm, .bool has, .int .i64 yts, .slice yA yn yc, .string yln] 49) = z := ⟨_, rfl⟩
      rw [hm1] at hb_ K6
      replace FP1 := Lib.hid (FP1.out.below hb_)
      replace AO1 := Lib.hid (AO1.out.below hb_ AO1.out.lt)
      replace OE1 := Lib.hid (OE1.out.below hb_)
      replace HBW := Lib.hid (hop HBW.out (Nat.le_refl _) hb_)
      replace YG := Lib.hid (YG.out.below hb_)
      clear hb_
      obtain ⟨x0, hx0⟩ : ∃ x, Rs[0]? = some x := ⟨_, List.getElem?_eq_getElem (by rw [HLN.out]; omega)⟩
      have hx0m := List.mem_of_getElem? hx0
      obtain ⟨r0, hr0⟩ : ∃ r, x0.L.map EntX.b = r := ⟨_, rfl⟩
      have S0 := Lib.hid (show r0.Pairwise leB from by rw [← hr0]; exact (DF.out x0 hx0m).sort)
      have P0 := Lib.hid (show r0.Perm (newE (L.map EntX.b)) from by rw [← hr0]; exact (DF.out x0 hx0m).perm)
      have SF := Lib.hid (same_fetch (T := (fun _ => true)) (a := AskX.b ⟨ql, qh, asc, qm, has, ⟨yts, yA, yn, yc, yls, yln⟩⟩) (Rs := Rs) (Xs := orderX Rs (List.range j)) (r0 := r0) (order_mem (fun i hi => by rw [HLN.out]; exact List.mem_range.1 hi) (fun i hi => by rw [HLN.out] at hi; exact List.mem_range.2 hi)) (fun x hx => ⟨sorted_one (DF.out x hx).sort S0.out ((DF.out x hx).perm.trans P0.out.symm), by unfold replyOf; rw [(DF.out x hx).s, (DF.out x hx).k]; rfl⟩) (fun e => by rw [e] at hx0; cases hx0) S0.out bqm.1)
      clear hx0 hx0m hr0
      obtain ⟨t, ht⟩ : ∃ t, tellL (fun _ => true) (AskX.b ⟨ql, qh, asc, qm, has, ⟨yts, yA, yn, yc, yls, yln⟩⟩) (mostOf (AskX.b ⟨ql, qh, asc, qm, has, ⟨yts, yA, yn, yc, yls, yln⟩⟩).lim ⟨false, 0⟩) r0 = t := ⟨_, rfl⟩
      obtain ⟨mm, hmm⟩ : ∃ t, moreL (fun _ => true) (AskX.b ⟨ql, qh, asc, qm, has, ⟨yts, yA, yn, yc, yls, yln⟩⟩) (mostOf (AskX.b ⟨ql, qh, asc, qm, has, ⟨yts, yA, yn, yc, yls, yln⟩⟩).lim ⟨false, 0⟩) r0 = t := ⟨_, rfl⟩
      rw [ht, hmm] at SF
      have HT := Lib.hid ht
      have HMM := Lib.hid hmm
      clear ht hmm
      have newl : (newE (L.map EntX.b)).length ≤ ne := by
        have h2 : (newE (L.map EntX.b)).length ≤ (L.map EntX.b).length := List.length_filter_le _ _
        rw [List.length_map, HNE.out] at h2
        exact h2
      have OKX := Lib.hid (show ∀ x ∈ Rs, OkX W.heap.size (.pointer (some ⟨ma, 0, none⟩)) (fun _ => true) (fun w => Blk w ma 108 #[.slice none 0 0]) x from fun x hx => by
        have d := DF.out x hx
        refine ⟨(by rw [d.k]; decide), (by rw [d.s]; decide), ?_, (fun y hy => (List.mem_filter.1 (d.perm.mem_iff.1 (List.mem_map_of_mem hy))).2), (by unfold replyOf; rw [d.s, d.k]; decide), Nat.le_trans HWV.out d.low, none_test x.b ma⟩
        have h1 := d.perm.length_eq
        rw [List.length_map] at h1
        omega)
      have SRT := Lib.hid (fun x (hx : x ∈ Rs) => (DF.out x hx).sort)
      have BSL := Lib.hid (show ∀ b ∈ Rs.map ReplX.b, W.heap.size ≤ b from fun b hb => by
        obtain ⟨x, hx, rfl⟩ := List.mem_map.1 hb
        exact Nat.le_trans HWV.out (DF.out x hx).low)
      have HAR := Lib.hid (show askR (AskX.b ⟨ql, qh, asc, qm, has, ⟨yts, yA, yn, yc, yls, yln⟩⟩) = true from by
        show (decide (ql < qh) && decide (1 ≤ qm)) = true
        rw [decide_eq_true bqh, decide_eq_true bqm.1]
        rfl)
      have FE := Lib.hid (fetch_lit 0 W.heap.size f (Rs.map ReplX.b) Rs (List.range j) rv ov2 ⟨ma, 0, none⟩ (fun _ => true) (fun w => Blk w ma 108 #[.slice none 0 0]) ⟨ql, qh, asc, qm, has, ⟨yts, yA, yn, yc, yls, yln⟩⟩ (by rw [HLN.out]; omega) ⟨List.nodup_range, fun i hi => by rw [HLN.out]; exact List.mem_range.1 hi⟩ OKX.out SRT.out (fun x hx => List.mem_map_of_mem hx) (fun w w' h hb => h.below hb h.lt) HAR.out (by show qm ≤ _; omega) m1 FP1.out AO1.out YG.out mm 0 (ddN t t.length) _ SF.out.1 (if_neg (by rw [SF.out.2.1]; decide)) SF.out.2.2 rfl)
      clear OKX SRT SF DF
      have a0_ : m1.cell? ⟨g8, 0, none⟩ = some (.int .i64 ql) := (K6.out.cell 0).trans rfl
      have a1_ : m1.cell? ⟨g8, 1, none⟩ = some (.int .i64 qh) := (K6.out.cell 1).trans rfl
      have a2_ : m1.cell? ⟨g8, 2, none⟩ = some (.bool asc) := (K6.out.cell 2).trans rfl
      have a3_ : m1.cell? ⟨g8, 3, none⟩ = some (.int .i64 qm) := (K6.out.cell 3).trans rfl
      have a4_ : m1.cell? ⟨g8, 4, none⟩ = some (.bool has) := (K6.out.cell 4).trans rfl
      have a5_ : m1.cell? ⟨g8, 5, none⟩ = some (.int .i64 yts) := (K6.out.cell 5).trans rfl
      have a6_ : m1.cell? ⟨g8, 6, none⟩ = some (.slice yA yn yc) := (K6.out.cell 6).trans rfl
      have a7_ : m1.cell? ⟨g8, 7, none⟩ = some (.string yln) := (K6.out.cell 7).trans rfl
      have k6lt := K6.out.lt
      go_wp2_with fail
      refine (show Calls Tryz.prog 17 #[.pointer (some ⟨f, 0, none⟩), .agg #[.int .i64 ql, .int .i64 qh, .bool asc, .int .i64 qm, .bool has, .int .i64 yts, .slice yA yn yc, .string yln], .pointer (some ⟨ma, 0, none⟩)] m1 _ from FE.out).mono ?_
      rintro e w9 ⟨vp, Lp, rfl, ho, hm, _, hh⟩
      clear FE k6lt a0_ a1_ a2_ a3_ a4_ a5_ a6_ a7_
      clear hg8 hm1
      clear FP1
      replace OE1 := Lib.hid (OE1.out.hops hh BSL.out (by decide) (by decide))
      replace YG := Lib.hid (YG.out.hops hh BSL.out (by decide))
      replace AO1 := Lib.hid (AO1.out.hopsT hh (by decide))
      replace HBW := Lib.hid (hh.under HBW.out BSL.out HBW.out.size)
      replace K6 := Lib.hid (K6.out.hopsT hh (by decide))
      obtain ⟨pA, pc, hvp⟩ := OwnR.shape ho.1
      subst hvp
      obtain ⟨pn, hpn⟩ : ∃ k, Lp.length = k := ⟨_, rfl⟩
      have PO := Lib.hid ho
      have PM := Lib.hid hm
      have HPN := Lib.hid hpn
      rw [hpn] at PO ⊢
      clear ho hm hpn hh BSL
      go_wp2
      obtain ⟨wd, hwd⟩ : ∃ z, w9.drew = z := ⟨_, rfl⟩
      have hb : Below w9.heap.size w9 wd := by rw [← hwd]; exact (Below.refl _ _).drew
      have SQ0 : (fun w' : World => w'.cell? ⟨g8, 0, none⟩ = some (.int .i64 ql) ∧ w'.cell? ⟨g8, 1, none⟩ = some (.int .i64 qh) ∧ w'.cell? ⟨g8, 2, none⟩ = some (.bool asc) ∧ w'.cell? ⟨g8, 3, none⟩ = some (.int .i64 qm) ∧ w'.cell? ⟨g8, 4, none⟩ = some (.bool has) ∧ w'.cell? ⟨g8, 5, none⟩ = some (.int .i64 yts) ∧ w'.cell? ⟨g8, 6, none⟩ = some (.slice yA yn yc) ∧ w'.cell? ⟨g8, 7, none⟩ = some (.string yln) ∧ True) w9.drew := ⟨(K6.out.cell 0).trans rfl, (K6.out.cell 1).trans rfl, (K6.out.cell 2).trans rfl, (K6.out.cell 3).trans rfl, (K6.out.cell 4).trans rfl, (K6.out.cell 5).trans rfl, (K6.out.cell 6).trans rfl, (K6.out.cell 7).trans rfl, trivial⟩
      replace AO1 := Lib.hid (AO1.out.below hb AO1.out.lt)
      replace HBW := Lib.hid (hop HBW.out (Nat.le_refl _) hb)
      replace K6 := Lib.hid (K6.out.below hb K6.out.lt)
      replace OE1 := Lib.hid (OE1.out.below hb)
      replace YG := Lib.hid (YG.out.below hb)
      replace PO := Lib.hid (PO.out.below hb)
      clear hb
      refine wp_region_held_drew (S := (fun w' : World => w'.cell? ⟨g8, 0, none⟩ = some (.int .i64 ql) ∧ w'.cell? ⟨g8, 1, none⟩ = some (.int .i64 qh) ∧ w'.cell? ⟨g8, 2, none⟩ = some (.bool asc) ∧ w'.cell? ⟨g8, 3, none⟩ = some (.int .i64 qm) ∧ w'.cell? ⟨g8, 4, none⟩ = some (.bool has) ∧ w'.cell? ⟨g8, 5, none⟩ = some (.int .i64 yts) ∧ w'.cell? ⟨g8, 6, none⟩ = some (.slice yA yn yc) ∧ w'.cell? ⟨g8, 7, none⟩ = some (.string yln) ∧ True)) (by kernel_rfl) SQ0 (fun hS => ?_)
      rw [hwd] at hS ⊢
      clear SQ0 hwd
      refine tV 0 ?_; refine tH 2 ?_; refine tV 3 ?_
      have NW := Lib.hid (new_any W.heap.size EA ne ec L none 0 0 [] (by omega) (by decide) wd (ents_of OE1.out).2.1 (RowR.none _))
      refine rdy [1] ?_
      refine rdC (fun K hK => ?_) AllReadyH.nil
      go_simp
      go_at_call 23
      refine NW.out.mono ?_
      rintro e wn ⟨b4, R4, rv4, lv4, rfl, hr, hbl, hp, hsd, hb⟩
      have hs_ := HBW.out.size
      have hWb : W.heap.size ≤ b4 := by omega
      have HP4 := Lib.hid (show (R4.map EntX.b).Perm (newE (L.map EntX.b)) from hp)
      have RP4 := Lib.hid hr
      have LEQ : R4.map EntX.b = r0 := sorted_one (List.pairwise_map.2 hsd) S0.out (hp.trans P0.out.symm)
      clear hr hp hsd NW hbl hs_
      replace AO1 := Lib.hid (AO1.out.below hb AO1.out.lt)
      replace HBW := Lib.hid (hop HBW.out (Nat.le_refl _) hb)
      replace K6 := Lib.hid (K6.out.below hb K6.out.lt)
      replace OE1 := Lib.hid (OE1.out.below hb)
      replace YG := Lib.hid (YG.out.below hb)
      replace PO := Lib.hid (PO.out.below hb)
      clear hb
      clear hS
      have hS : (fun w' : World => w'.cell? ⟨g8, 0, none⟩ = some (.int .i64 ql) ∧ w'.cell? ⟨g8, 1, none⟩ = some (.int .i64 qh) ∧ w'.cell? ⟨g8, 2, none⟩ = some (.bool asc) ∧ w'.cell? ⟨g8, 3, none⟩ = some (.int .i64 qm) ∧ w'.cell? ⟨g8, 4, none⟩ = some (.bool has) ∧ w'.cell? ⟨g8, 5, none⟩ = some (.int .i64 yts) ∧ w'.cell? ⟨g8, 6, none⟩ = some (.slice yA yn yc) ∧ w'.cell? ⟨g8, 7, none⟩ = some (.string yln) ∧ True) wn := ⟨(K6.out.cell 0).trans rfl, (K6.out.cell 1).trans rfl, (K6.out.cell 2).trans rfl, (K6.out.cell 3).trans rfl, (K6.out.cell 4).trans rfl, (K6.out.cell 5).trans rfl, (K6.out.cell 6).trans rfl, (K6.out.cell 7).trans rfl, trivial⟩
      refine hK.out _ _ hS (fun _ => ?_)
      clear hK K
      try simp only [Act.put, pz1, pz2, pz3]
      have RG := Lib.hid (range_lit _ W.heap.size b4 [] 0 R4 rv4 lv4 (.pointer (some ⟨ma, 0, none⟩)) (fun _ => true) (fun w => Blk w ma 108 #[.slice none 0 0]) (none_test b4 ma) ⟨ql, qh, asc, qm, has, ⟨yts, yA, yn, yc, yls, yln⟩⟩ (by decide) (by decide) (by
        have h1 := HP4.out.length_eq
        rw [List.length_map] at h1
        omega) (fun x hx => (List.mem_filter.1 (HP4.out.mem_iff.1 (List.mem_map_of_mem hx))).2) wn RP4.out AO1.out YG.out hWb HAR.out (by show qm ≤ _; omega) (by decide) rfl _ rfl t mm (by rw [LEQ]; exact HT.out) (by rw [LEQ]; exact HMM.out))
      have HQB := Lib.hid (show t.length ≤ 8 from by
        rw [← HT.out, ← LEQ]
        have h1 := HP4.out.length_eq
        rw [List.length_map] at h1
        refine Nat.le_trans (List.length_take_le' _ _) (Nat.le_trans (List.length_filter_le _ _) ?_)
        rw [dirL_len, List.length_map]
        omega)
      clear LEQ HP4
      refine rdy [4] ?_
      refine rdC (fun K hK => ?_) AllReadyH.nil
      go_simp
      go_at_call 29
      refine (show Calls Tryz.prog 29 #[.pointer (some ⟨b4, 0, none⟩), .agg #[.int .i64 ql, .int .i64 qh, .bool asc, .int .i64 qm, .bool has, .int .i64 yts, .slice yA yn yc, .string yln], .pointer (some ⟨ma, 0, none⟩)] wn _ from RG.out).mono ?_
      rintro e wg ⟨v_, Lq, rfl, ho, hm, _, hf⟩
      have fb_ := RP4.out.blk
      replace HBW := Lib.hid (hf.below HBW.out hWb HBW.out.size)
      replace PO := Lib.hid (PO.out.fgT hf (Nat.zero_le _) fb_ (by decide) (by decide))
      replace K6 := Lib.hid (K6.out.fg hf (blk_apart K6.out fb_ (by decide)))
      obtain ⟨qA, qc, hv_⟩ := OwnR.shape ho.1
      subst hv_
      obtain ⟨qn, hqn⟩ : ∃ k, Lq.length = k := ⟨_, rfl⟩
      have QO := Lib.hid (OwnE.mono ho (Nat.le_refl _) (Nat.zero_le _))
      have QM := Lib.hid hm
      have HQN := Lib.hid hqn
      rw [hqn] at QO ⊢
      clear hS
      have hS : (fun w' : World => w'.cell? ⟨g8, 0, none⟩ = some (.int .i64 ql) ∧ w'.cell? ⟨g8, 1, none⟩ = some (.int .i64 qh) ∧ w'.cell? ⟨g8, 2, none⟩ = some (.bool asc) ∧ w'.cell? ⟨g8, 3, none⟩ = some (.int .i64 qm) ∧ w'.cell? ⟨g8, 4, none⟩ = some (.bool has) ∧ w'.cell? ⟨g8, 5, none⟩ = some (.int .i64 yts) ∧ w'.cell? ⟨g8, 6, none⟩ = some (.slice yA yn yc) ∧ w'.cell? ⟨g8, 7, none⟩ = some (.string yln) ∧ True) wg := ⟨(K6.out.cell 0).trans rfl, (K6.out.cell 1).trans rfl, (K6.out.cell 2).trans rfl, (K6.out.cell 3).trans rfl, (K6.out.cell 4).trans rfl, (K6.out.cell 5).trans rfl, (K6.out.cell 6).trans rfl, (K6.out.cell 7).trans rfl, trivial⟩
      refine hK.out _ _ hS (fun _ => ?_)
      clear hK K hS RG hf fb_ ho hm hqn RP4
      try simp only [Act.put, pz1, pz2, pz3]
      refine tV 5 ?_; refine tV 6 ?_; refine tV 7 ?_; refine tV 8 ?_; refine tV 9 ?_; refine tV 10 ?_; refine tV 11 ?_
      refine wpAnyH_done (by kernel_rfl) ?_ _
      have HTL := Lib.hid (show t.length = qn from by rw [← QM.out, List.length_map]; exact HQN.out)
      have HPL := Lib.hid (show (ddN t t.length).length = pn from by rw [← PM.out, List.length_map]; exact HPN.out)
      clear K6 AO1 YG OE1 S0 P0 HAR HT HMM HQL HQH HQM GCW HNE
      obtain ⟨v1, hv1⟩ : ∃ v, v = wg := ⟨_, rfl⟩
      subst hv1
      have HBv := Lib.hid (Below.refl v1.heap.size v1)
      have qn40 : qn ≤ 100 := by
        have h1 := HQB.out
        rw [HTL.out] at h1
        omega
      go_wp2
      go_loopw [22, 23] (fun kv nv wr => ∃ (j kk : Nat), j ≤ qn ∧ kv = .int .i64 (kk : Nat) ∧ nv = .int .i64 (j : Nat) ∧ Hid ((ddN t j).length = kk) ∧ Hid (Below v1.heap.size v1 wr)) (fun _ nv _ => qn - (intOf nv).toNat)
      case atStart => exact ⟨0, 0, Nat.zero_le _, rfl, rfl, Lib.hid rfl, HBv⟩
      case round =>
        clear HBv
        obtain ⟨j, kk, hjq, rfl, rfl, HKK, HBv⟩ := hrel
        by_cases hj : j < qn
        · have jI : (j : Int) < (qn : Int) := by omega
          have jW : IntKind.i64.wrap ((j : Int) + 1) = (j : Int) + 1 := by rw [IntKind.wrap_i64]; omega
          obtain ⟨x, hx⟩ : ∃ x, Lq[j]? = some x := ⟨_, List.getElem?_eq_getElem (by rw [HQN.out]; exact hj)⟩
          have XT := Lib.hid (show t[j]? = some x.b from by rw [← QM.out, List.getElem?_map, hx]; rfl)
          obtain ⟨gx, hqA, xat⟩ := ownE_at (QO.out.below HBv.out) hx
          have HQA := Lib.hid hqA
          have XX := Lib.hid xat
          rcases Nat.eq_zero_or_pos j with j0 | j0
          · as_aux_lemma =>
            have hd : dupB t j = false := by rw [j0]; rfl
            have n1 : ¬ (j : Int) > 0 := by omega
            have n2 : ¬ (0 : Int) < (j : Int) := by omega
            have n3 : ¬ 0 < j := by omega
            have n4 : decide (0 < j) = false := decide_eq_false n3
            have HJ0 := Lib.hid j0
            subst hqA
            clear hx xat hj j0
            go_wp2
            obtain ⟨wd, hwd⟩ : ∃ z, wr.drew = z := ⟨_, rfl⟩
            have hb4 : Below wr.heap.size wr wd := by rw [← hwd]; exact (Below.refl _ _).drew
            have S0 : (fun _ : World => True) wr.drew := trivial
            refine wp_region_held_drew (S := (fun _ : World => True)) (by kernel_rfl) S0 (fun hS => ?_)
            rw [hwd]
            clear S0 hwd
            refine tV 0 ?_; refine tV 1 ?_; refine tV 2 ?_
            refine tN 3 ?_; refine tN 4 ?_; refine tN 5 ?_; refine tN 6 ?_; refine tN 7 ?_; refine tN 8 ?_; refine tN 9 ?_; refine tN 10 ?_; refine tN 11 ?_; refine tN 12 ?_
            refine tV 13 ?_
            refine wpAnyH_done (by kernel_rfl) ?_ _
            clear hS
            replace XX := Lib.hid (XX.out.below hb4)
            replace HBv := Lib.hid (hop HBv.out (Nat.le_refl _) hb4)
            clear hb4 n1 n2 n3 n4 HJ0
            obtain ⟨wr, hwr⟩ : ∃ z, z = wd := ⟨_, rfl⟩
            subst hwr
            obtain ⟨hfr1, hfr2⟩ := dd_fresh XT.out hd
            obtain ⟨z, hz, hzb⟩ : ∃ z, Lp[kk]? = some z ∧ z.b = x.b := by
              rw [HKK.out] at hfr1
              rw [← PM.out, List.getElem?_map] at hfr1
              exact Option.map_eq_some_iff.1 hfr1
            have hkp : kk < pn := by rw [← HPN.out]; exact (List.getElem?_eq_some_iff.1 hz).1
            have kI : ¬ (kk : Int) ≥ (pn : Int) := by omega
            have kIb : ¬ (pn : Int) ≤ (kk : Int) := by omega
            have kI2 : (kk : Int) < (pn : Int) := by omega
            have kN : ¬ pn ≤ kk := by omega
            have kN2 : decide (pn ≤ kk) = false := decide_eq_false kN
            have kI3 : decide ((pn : Int) ≤ (kk : Int)) = false := decide_eq_false kIb
            have kkj : kk ≤ j := by rw [← HKK.out]; exact ddN_len t j
            have kW : IntKind.i64.wrap ((kk : Int) + 1) = (kk : Int) + 1 := by rw [IntKind.wrap_i64]; omega
            obtain ⟨gz, hpA, zat⟩ := ownE_at (PO.out.below HBv.out) hz
            subst hpA
            have ZZ := Lib.hid zat
            have SZ := Lib.hid (fun wd (h1 : Good 0 wd z) (h2 : Good 0 wd x) => sameG z x wd h1 h2)
            have szx : sameE z.b x.b = true := sameE_iff.2 hzb
            simp only [szx] at SZ
            have HK2 := Lib.hid (show (ddN t (j + 1)).length = kk + 1 from by rw [hfr2, HKK.out])
            clear hfr1 hfr2 hz hzb zat szx hd hkp
            go_wp2
            obtain ⟨wd, hwd⟩ : ∃ z, wr.drew = z := ⟨_, rfl⟩
            have hbd : Below wr.heap.size wr wd := by rw [← hwd]; exact (Below.refl _ _).drew
            have X1 := Lib.hid (ZZ.out.below hbd)
            have X2 := Lib.hid (XX.out.below hbd)
            have HBd := Lib.hid hbd
            have S0 : (fun w' : World => w'.cell? ⟨gz, kk * 3, none⟩ = some (.int .i64 z.ts) ∧ w'.cell? ⟨gz, kk * 3 + 1, none⟩ = some (.slice z.A z.n z.c) ∧ w'.cell? ⟨gz, kk * 3 + 2, none⟩ = some (.string z.ln) ∧ w'.cell? ⟨gx, j * 3, none⟩ = some (.int .i64 x.ts) ∧ w'.cell? ⟨gx, j * 3 + 1, none⟩ = some (.slice x.A x.n x.c) ∧ w'.cell? ⟨gx, j * 3 + 2, none⟩ = some (.string x.ln) ∧ True) wr.drew := by rw [hwd]; exact ⟨X1.out.c0, X1.out.c1, X1.out.c2, X2.out.c0, X2.out.c1, X2.out.c2, trivial⟩
            clear hbd
            refine wp_region_held_drew (S := (fun w' : World => w'.cell? ⟨gz, kk * 3, none⟩ = some (.int .i64 z.ts) ∧ w'.cell? ⟨gz, kk * 3 + 1, none⟩ = some (.slice z.A z.n z.c) ∧ w'.cell? ⟨gz, kk * 3 + 2, none⟩ = some (.string z.ln) ∧ w'.cell? ⟨gx, j * 3, none⟩ = some (.int .i64 x.ts) ∧ w'.cell? ⟨gx, j * 3 + 1, none⟩ = some (.slice x.A x.n x.c) ∧ w'.cell? ⟨gx, j * 3 + 2, none⟩ = some (.string x.ln) ∧ True)) (by kernel_rfl) S0 (fun hS => ?_)
            rw [hwd] at hS ⊢
            clear S0 hwd
            refine tV 0 ?_; refine tV 1 ?_; refine tV 2 ?_; refine tV 3 ?_; refine tV 4 ?_; refine tV 5 ?_; refine tV 6 ?_; refine tV 7 ?_; refine tH 8 ?_; refine tV 9 ?_; refine tV 10 ?_; refine tV 11 ?_; refine tH 12 ?_
            refine rdy [13] ?_
            refine rdC (fun K hK => ?_) AllReadyH.nil
            go_simp
            go_at_call 26
            refine (SZ.out wd X1.out.good X2.out.good).mono ?_
            rintro e wz ⟨rfl, hbz⟩
            have hSz : (fun w' : World => w'.cell? ⟨gz, kk * 3, none⟩ = some (.int .i64 z.ts) ∧ w'.cell? ⟨gz, kk * 3 + 1, none⟩ = some (.slice z.A z.n z.c) ∧ w'.cell? ⟨gz, kk * 3 + 2, none⟩ = some (.string z.ln) ∧ w'.cell? ⟨gx, j * 3, none⟩ = some (.int .i64 x.ts) ∧ w'.cell? ⟨gx, j * 3 + 1, none⟩ = some (.slice x.A x.n x.c) ∧ w'.cell? ⟨gx, j * 3 + 2, none⟩ = some (.string x.ln) ∧ True) wz := ⟨(X1.out.below hbz).c0, (X1.out.below hbz).c1, (X1.out.below hbz).c2, (X2.out.below hbz).c0, (X2.out.below hbz).c1, (X2.out.below hbz).c2, trivial⟩
            have HBZ := Lib.hid (hop HBd.out (Nat.le_refl _) hbz)
            refine hK.out _ _ hSz (fun _ => ?_)
            clear hK K hS hSz hbz X1 X2 HBd
            try simp only [Act.put, pz1, pz2, pz3]
            refine tV 14 ?_; refine tV 15 ?_
            refine wpAnyH_done (by kernel_rfl) ?_ _
            have hbz2 := Lib.hid (hop HBv.out (Nat.le_refl _) HBZ.out)
            clear HBZ SZ
            go_wp2
            go_round
            case rel => exact ⟨j + 1, kk + 1, by omega, by go_num, by go_num, HK2, hbz2⟩
            case measure => first | (simp [intOf]; done) | (simp [intOf]; omega)
          · as_aux_lemma =>
            obtain ⟨m, hm⟩ : ∃ m, j = m + 1 := ⟨j - 1, by omega⟩
            obtain ⟨y, hy⟩ : ∃ y, Lq[m]? = some y := ⟨_, List.getElem?_eq_getElem (by rw [HQN.out]; omega)⟩
            have YT := show t[m]? = some y.b from by rw [← QM.out, List.getElem?_map, hy]; rfl
            obtain ⟨gy, hyA, yat⟩ := ownE_at (QO.out.below HBv.out) hy
            rw [hqA] at hyA
            injection hyA with hyA
            injection hyA with hyA _ _
            subst hyA
            have YY := Lib.hid yat
            subst hqA
            have hdd := dup_succ YT (by rw [← hm]; exact XT.out)
            rw [← hm] at hdd
            have n1 : (j : Int) > 0 := by omega
            have n2 : (0 : Int) < (j : Int) := by omega
            have n3 : 0 < j := by omega
            have n4 : decide (0 < j) = true := decide_eq_true n3
            have mW : IntKind.i64.wrap ((j : Int) - 1) = (m : Int) := by rw [IntKind.wrap_i64]; omega
            have mI : (m : Int) < (qn : Int) := by omega
            have HM := Lib.hid hm
            obtain ⟨d, hd⟩ : ∃ d, sameE y.b x.b = d := ⟨_, rfl⟩
            rw [hd] at hdd
            have SM := Lib.hid (fun wd (h1 : Good 0 wd y) (h2 : Good 0 wd x) => sameG y x wd h1 h2)
            simp only [hd] at SM
            have HDD := Lib.hid hdd
            clear hx xat hj j0 hy yat YT hm hdd hd
            go_wp2
            obtain ⟨wd, hwd⟩ : ∃ z, wr.drew = z := ⟨_, rfl⟩
            have hbd : Below wr.heap.size wr wd := by rw [← hwd]; exact (Below.refl _ _).drew
            have X1 := Lib.hid (YY.out.below hbd)
            have X2 := Lib.hid (XX.out.below hbd)
            have HBd := Lib.hid hbd
            have S0 : (fun w' : World => w'.cell? ⟨gx, m * 3, none⟩ = some (.int .i64 y.ts) ∧ w'.cell? ⟨gx, m * 3 + 1, none⟩ = some (.slice y.A y.n y.c) ∧ w'.cell? ⟨gx, m * 3 + 2, none⟩ = some (.string y.ln) ∧ w'.cell? ⟨gx, j * 3, none⟩ = some (.int .i64 x.ts) ∧ w'.cell? ⟨gx, j * 3 + 1, none⟩ = some (.slice x.A x.n x.c) ∧ w'.cell? ⟨gx, j * 3 + 2, none⟩ = some (.string x.ln) ∧ True) wr.drew := by rw [hwd]; exact ⟨X1.out.c0, X1.out.c1, X1.out.c2, X2.out.c0, X2.out.c1, X2.out.c2, trivial⟩
            clear hbd
            refine wp_region_held_drew (S := (fun w' : World => w'.cell? ⟨gx, m * 3, none⟩ = some (.int .i64 y.ts) ∧ w'.cell? ⟨gx, m * 3 + 1, none⟩ = some (.slice y.A y.n y.c) ∧ w'.cell? ⟨gx, m * 3 + 2, none⟩ = some (.string y.ln) ∧ w'.cell? ⟨gx, j * 3, none⟩ = some (.int .i64 x.ts) ∧ w'.cell? ⟨gx, j * 3 + 1, none⟩ = some (.slice x.A x.n x.c) ∧ w'.cell? ⟨gx, j * 3 + 2, none⟩ = some (.string x.ln) ∧ True)) (by kernel_rfl) S0 (fun hS => ?_)
            rw [hwd] at hS ⊢
            clear S0 hwd
            refine tV 0 ?_; refine tV 1 ?_; refine tV 2 ?_; refine tV 3 ?_; refine tV 4 ?_; refine tV 5 ?_; refine tV 6 ?_; refine tH 7 ?_; refine tV 8 ?_; refine tV 9 ?_; refine tV 10 ?_; refine tH 11 ?_
            refine rdy [12] ?_
            refine rdC (fun K hK => ?_) AllReadyH.nil
            go_simp
            go_at_call 26
            refine (SM.out wd X1.out.good X2.out.good).mono ?_
            rintro e wz ⟨rfl, hbz⟩
            have hSz : (fun w' : World => w'.cell? ⟨gx, m * 3, none⟩ = some (.int .i64 y.ts) ∧ w'.cell? ⟨gx, m * 3 + 1, none⟩ = some (.slice y.A y.n y.c) ∧ w'.cell? ⟨gx, m * 3 + 2, none⟩ = some (.string y.ln) ∧ w'.cell? ⟨gx, j * 3, none⟩ = some (.int .i64 x.ts) ∧ w'.cell? ⟨gx, j * 3 + 1, none⟩ = some (.slice x.A x.n x.c) ∧ w'.cell? ⟨gx, j * 3 + 2, none⟩ = some (.string x.ln) ∧ True) wz := ⟨(X1.out.below hbz).c0, (X1.out.below hbz).c1, (X1.out.below hbz).c2, (X2.out.below hbz).c0, (X2.out.below hbz).c1, (X2.out.below hbz).c2, trivial⟩
            have HBZ := Lib.hid (hop HBd.out (Nat.le_refl _) hbz)
            refine hK.out _ _ hSz (fun _ => ?_)
            clear hK K hS hSz hbz X1 X2 HBd
            try simp only [Act.put, pz1, pz2, pz3]
            refine tV 13 ?_
            refine wpAnyH_done (by kernel_rfl) ?_ _
            replace XX := Lib.hid (XX.out.below HBZ.out)
            replace HBv := Lib.hid (hop HBv.out (Nat.le_refl _) HBZ.out)
            clear HBZ SM YY n1 n2 n3 n4 mW mI HM
            obtain ⟨wr, hwr⟩ : ∃ z, z = wz := ⟨_, rfl⟩
            subst hwr
            cases d with
            | true =>
              have HK2 := Lib.hid (show (ddN t (j + 1)).length = kk from by rw [dd_skip XT.out HDD.out, HKK.out])
              go_wp2
              go_round
              case rel => exact ⟨j + 1, kk, by omega, by go_num, by go_num, HK2, HBv⟩
              case measure => first | (simp [intOf]; done) | (simp [intOf]; omega)
            | false => as_aux_lemma =>
              have hd := HDD.out
              obtain ⟨hfr1, hfr2⟩ := dd_fresh XT.out hd
              obtain ⟨z, hz, hzb⟩ : ∃ z, Lp[kk]? = some z ∧ z.b = x.b := by
                rw [HKK.out] at hfr1
                rw [← PM.out, List.getElem?_map] at hfr1
                exact Option.map_eq_some_iff.1 hfr1
              have hkp : kk < pn := by rw [← HPN.out]; exact (List.getElem?_eq_some_iff.1 hz).1
              have kI : ¬ (kk : Int) ≥ (pn : Int) := by omega
              have kIb : ¬ (pn : Int) ≤ (kk : Int) := by omega
              have kI2 : (kk : Int) < (pn : Int) := by omega
              have kN : ¬ pn ≤ kk := by omega
              have kN2 : decide (pn ≤ kk) = false := decide_eq_false kN
              have kI3 : decide ((pn : Int) ≤ (kk : Int)) = false := decide_eq_false kIb
              have kkj : kk ≤ j := by rw [← HKK.out]; exact ddN_len t j
              have kW : IntKind.i64.wrap ((kk : Int) + 1) = (kk : Int) + 1 := by rw [IntKind.wrap_i64]; omega
              obtain ⟨gz, hpA, zat⟩ := ownE_at (PO.out.below HBv.out) hz
              subst hpA
              have ZZ := Lib.hid zat
              have SZ := Lib.hid (fun wd (h1 : Good 0 wd z) (h2 : Good 0 wd x) => sameG z x wd h1 h2)
              have szx : sameE z.b x.b = true := sameE_iff.2 hzb
              simp only [szx] at SZ
              have HK2 := Lib.hid (show (ddN t (j + 1)).length = kk + 1 from by rw [hfr2, HKK.out])
              clear hfr1 hfr2 hz hzb zat szx hd hkp
              go_wp2
              obtain ⟨wd, hwd⟩ : ∃ z, wr.drew = z := ⟨_, rfl⟩
              have hbd : Below wr.heap.size wr wd := by rw [← hwd]; exact (Below.refl _ _).drew
              have X1 := Lib.hid (ZZ.out.below hbd)
              have X2 := Lib.hid (XX.out.below hbd)
              have HBd := Lib.hid hbd
              have S0 : (fun w' : World => w'.cell? ⟨gz, kk * 3, none⟩ = some (.int .i64 z.ts) ∧ w'.cell? ⟨gz, kk * 3 + 1, none⟩ = some (.slice z.A z.n z.c) ∧ w'.cell? ⟨gz, kk * 3 + 2, none⟩ = some (.string z.ln) ∧ w'.cell? ⟨gx, j * 3, none⟩ = some (.int .i64 x.ts) ∧ w'.cell? ⟨gx, j * 3 + 1, none⟩ = some (.slice x.A x.n x.c) ∧ w'.cell? ⟨gx, j * 3 + 2, none⟩ = some (.string x.ln) ∧ True) wr.drew := by rw [hwd]; exact ⟨X1.out.c0, X1.out.c1, X1.out.c2, X2.out.c0, X2.out.c1, X2.out.c2, trivial⟩
              clear hbd
              refine wp_region_held_drew (S := (fun w' : World => w'.cell? ⟨gz, kk * 3, none⟩ = some (.int .i64 z.ts) ∧ w'.cell? ⟨gz, kk * 3 + 1, none⟩ = some (.slice z.A z.n z.c) ∧ w'.cell? ⟨gz, kk * 3 + 2, none⟩ = some (.string z.ln) ∧ w'.cell? ⟨gx, j * 3, none⟩ = some (.int .i64 x.ts) ∧ w'.cell? ⟨gx, j * 3 + 1, none⟩ = some (.slice x.A x.n x.c) ∧ w'.cell? ⟨gx, j * 3 + 2, none⟩ = some (.string x.ln) ∧ True)) (by kernel_rfl) S0 (fun hS => ?_)
              rw [hwd] at hS ⊢
              clear S0 hwd
              refine tV 0 ?_; refine tV 1 ?_; refine tV 2 ?_; refine tV 3 ?_; refine tV 4 ?_; refine tV 5 ?_; refine tV 6 ?_; refine tV 7 ?_; refine tH 8 ?_; refine tV 9 ?_; refine tV 10 ?_; refine tV 11 ?_; refine tH 12 ?_
              refine rdy [13] ?_
              refine rdC (fun K hK => ?_) AllReadyH.nil
              go_simp
              go_at_call 26
              refine (SZ.out wd X1.out.good X2.out.good).mono ?_
              rintro e wz ⟨rfl, hbz⟩
              have hSz : (fun w' : World => w'.cell? ⟨gz, kk * 3, none⟩ = some (.int .i64 z.ts) ∧ w'.cell? ⟨gz, kk * 3 + 1, none⟩ = some (.slice z.A z.n z.c) ∧ w'.cell? ⟨gz, kk * 3 + 2, none⟩ = some (.string z.ln) ∧ w'.cell? ⟨gx, j * 3, none⟩ = some (.int .i64 x.ts) ∧ w'.cell? ⟨gx, j * 3 + 1, none⟩ = some (.slice x.A x.n x.c) ∧ w'.cell? ⟨gx, j * 3 + 2, none⟩ = some (.string x.ln) ∧ True) wz := ⟨(X1.out.below hbz).c0, (X1.out.below hbz).c1, (X1.out.below hbz).c2, (X2.out.below hbz).c0, (X2.out.below hbz).c1, (X2.out.below hbz).c2, trivial⟩
              have HBZ := Lib.hid (hop HBd.out (Nat.le_refl _) hbz)
              refine hK.out _ _ hSz (fun _ => ?_)
              clear hK K hS hSz hbz X1 X2 HBd
              try simp only [Act.put, pz1, pz2, pz3]
              refine tV 14 ?_; refine tV 15 ?_
              refine wpAnyH_done (by kernel_rfl) ?_ _
              have hbz2 := Lib.hid (hop HBv.out (Nat.le_refl _) HBZ.out)
              clear HBZ SZ
              go_wp2
              go_round
              case rel => exact ⟨j + 1, kk + 1, by omega, by go_num, by go_num, HK2, hbz2⟩
              case measure => first | (simp [intOf]; done) | (simp [intOf]; omega)
        · have jI : ¬ (j : Int) < (qn : Int) := by omega
          have hjn : j = qn := by omega
          have hkn : kk = pn := by rw [← HKK.out, ← HPL.out, HTL.out, hjn]
          have HEND := Lib.hid (hop HBW.out (Nat.le_refl _) HBv.out)
          subst hkn
          cases mm <;>
          · go_wp2
            go_ret
            exact ⟨rfl, HEND.out⟩
end Go.Proofs.YtdaainifkldcpaaGreatDoor
