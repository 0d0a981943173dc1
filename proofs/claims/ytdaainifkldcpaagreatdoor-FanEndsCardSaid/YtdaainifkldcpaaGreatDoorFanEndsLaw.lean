-- shaken
import Derived.Test.YtdaainifkldcpaaGreatDoorFanLawBase
import Derived.Test.YtdaainifkldcpaaGreatDoorBase
namespace Go.Proofs.YtdaainifkldcpaaGreatDoor
open Go.RowKit
set_option linter.unusedVariables false
set_option linter.unusedSimpArgs false
theorem in_two {T : List PairB → Bool} {a : AskB} {P C D : List EntB} {m1 m2 : Bool} (h : EndsP T a P C D m1 m2) {e : EntB} (he : e ∈ C ++ D) : ∃ ia ib : Bool, (m1 = true → ∃ u, C.getLast? = some u ∧ (!aheadB u e a.asc) = ia) ∧ (m1 = false → ia = true) ∧ (m2 = true → ∃ u, D.getLast? = some u ∧ (!aheadB u e a.asc) = ib) ∧ (m2 = false → ib = true) ∧ (e ∈ P ↔ (ia && ib) = true) := by
  have key : ∀ (m : Bool) (l : List EntB), (m = true → l ≠ []) → ∃ i : Bool, (m = true → ∃ u, l.getLast? = some u ∧ (!aheadB u e a.asc) = i) ∧ (m = false → i = true) ∧ ((m = true → ∀ u, l.getLast? = some u → aheadB u e a.asc = false) ↔ i = true) := by
    intro m l hl
    cases m with
    | false => exact ⟨true, (fun h => by cases h), (fun _ => rfl), ⟨fun _ => rfl, fun _ h => by cases h⟩⟩
    | true =>
      obtain ⟨u, hu⟩ : ∃ u, l.getLast? = some u := by
        cases h : l.getLast? with
        | none => exact absurd (List.getLast?_eq_none_iff.1 h) (hl rfl)
        | some u => exact ⟨u, rfl⟩
      refine ⟨!aheadB u e a.asc, (fun _ => ⟨u, hu, rfl⟩), (fun h => by cases h), ⟨fun h1 => ?_, fun h1 _ v hv => ?_⟩⟩
      · rw [h1 rfl u hu]; rfl
      · rw [hu] at hv
        obtain rfl := Option.some.inj hv
        cases h2 : aheadB u e a.asc with
        | false => rfl
        | true => rw [h2] at h1; cases h1
  obtain ⟨ia, h1, h2, h3⟩ := key m1 C h.some1
  obtain ⟨ib, h4, h5, h6⟩ := key m2 D h.some2
  refine ⟨ia, ib, h1, h2, h4, h5, ?_⟩
  rw [h.mem e he, h3, h6, Bool.and_eq_true]
theorem last_at {l : List EntX} {u : EntB} (h : (l.map EntX.b).getLast? = some u) : ∃ x i, l[i]? = some x ∧ x.b = u ∧ l.length = i + 1 := by
  rw [List.getLast?_eq_some_iff] at h
  obtain ⟨p, hp⟩ := h
  obtain ⟨q, r, e1, e2, e3⟩ := List.map_eq_append_iff.1 hp
  cases r with
  | nil => cases e3
  | cons x r =>
    cases r with
    | nil =>
      injection e3 with e3 _
      exact ⟨x, q.length, by rw [e1, List.getElem?_append_right (Nat.le_refl _), Nat.sub_self]; rfl, e3, by rw [e1, List.length_append]; rfl⟩
    | cons y r => injection e3 with _ e3; cases e3
set_option maxRecDepth 100000 in
set_option maxHeartbeats 6400000 in
theorem fanEnds_walk {W : World} (A : Option Addr) (n c : Nat) (l : List ItemX) (A2 : Option Addr) (n2 c2 : Nat) (l2 : List ItemX) (most lim : Int) (asc : Bool) (h1 : ItemsP W.heap.size W A n l) (hnc : n ≤ c) (hcm : c ≤ maxLen) (h2 : ItemsP W.heap.size W A2 n2 l2) (hnc2 : n2 ≤ c2) (hcm2 : c2 ≤ maxLen) (wm : (Lit.int .u8 most).wf = true) (wl : (Lit.int .u8 lim).wf = true) (hl : True) :
    Calls Tryz.prog 8 #[.slice A n c, .slice A2 n2 c2, .int .u8 most, .int .u8 lim, .bool asc] W fun e w' => e = .returned (.bool true) ∧ Below W.heap.size W w' := by
  unfold maxLen at hcm hcm2
  have hn : n ≤ 9223372036854775807 := by omega
  have hn2 : n2 ≤ 9223372036854775807 := by omega
  have bm := bdu8 wm
  have bl := bdu8 wl
  obtain ⟨z5, hz5⟩ : ∃ z, most.tmod 5 = z := ⟨_, rfl⟩
  have bz5 : 0 ≤ z5 ∧ z5 ≤ 4 := by rw [← hz5, Int.tmod_eq_emod_of_nonneg bm.1]; omega
  have hz5a : IntKind.u8.wrap z5 = z5 := by rw [IntKind.wrap_u8]; omega
  have hz5b : IntKind.i64.wrap z5 = z5 := by rw [IntKind.wrap_i64]; omega
  obtain ⟨kI, hkI⟩ : ∃ z, 1 + z5 = z := ⟨_, rfl⟩
  have bkI : 1 ≤ kI ∧ kI ≤ 5 := by omega
  have hkw : IntKind.i64.wrap kI = kI := by rw [IntKind.wrap_i64]; omega
  obtain ⟨z6, hz6⟩ : ∃ z, lim.tmod 6 = z := ⟨_, rfl⟩
  have bz6 : 0 ≤ z6 ∧ z6 ≤ 5 := by rw [← hz6, Int.tmod_eq_emod_of_nonneg bl.1]; omega
  have hz6a : IntKind.u8.wrap z6 = z6 := by rw [IntKind.wrap_u8]; omega
  have hz6b : IntKind.i64.wrap z6 = z6 := by rw [IntKind.wrap_i64]; omega
  obtain ⟨nI, hnI⟩ : ∃ z, 1 + z6 = z := ⟨_, rfl⟩
  have bnI : 1 ≤ nI ∧ nI ≤ 6 := by omega
  have hnw : IntKind.i64.wrap nI = nI := by rw [IntKind.wrap_i64]; omega
  have IT1 := Lib.hid (fun w (hw : Below W.heap.size W w) (hs : W.heap.size ≤ w.heap.size) => items_any W.heap.size A n c 8 l hn (by decide) w hs (h1.below hw))
  have IT2 := Lib.hid (fun w (hw : Below W.heap.size W w) (hs : W.heap.size ≤ w.heap.size) => items_any W.heap.size A2 n2 c2 8 l2 hn2 (by decide) w hs (h2.below hw))
  obtain ⟨i0, hinf, hi0, hi1, hi2⟩ := info_parts infoEnF
  clear h1 h2 hnc hcm hnc2 hcm2 wm wl hl bm bl
  go_enter Tryz.func8, Tryz.ntmps8
  go_wp2_with fail
  refine (examples20_any W).mono ?_
  rintro e w1 ⟨rfl, hb⟩
  have HB := Lib.hid hb
  clear hb
  go_wp2_with fail
  refine (IT1.out w1 HB.out HB.out.size).mono ?_
  rintro e w2 ⟨v_, L1, rfl, ho, hlb, hb⟩
  obtain ⟨A1, c1, hve⟩ := OwnR.shape ho.1
  subst hve
  have hL1 : L1.length ≤ 8 := by
    have h1 := congrArg List.length hlb
    rw [List.length_map] at h1
    rw [h1]
    exact itemsB_len _ _
  obtain ⟨e1, he⟩ : ∃ k, L1.length = k := ⟨_, rfl⟩
  have EN1 := Lib.hid ho
  rw [he] at EN1 hL1 ⊢
  clear ho hlb he IT1
  replace HB := Lib.hid (hop HB.out (Nat.le_refl _) hb)
  clear hb
  go_wp2_with fail
  refine (IT2.out w2 HB.out HB.out.size).mono ?_
  rintro e w3 ⟨v_, L2, rfl, ho, hlb, hb⟩
  obtain ⟨A2, c2, hve⟩ := OwnR.shape ho.1
  subst hve
  have hL2 : L2.length ≤ 8 := by
    have h1 := congrArg List.length hlb
    rw [List.length_map] at h1
    rw [h1]
    exact itemsB_len _ _
  obtain ⟨e2, he⟩ : ∃ k, L2.length = k := ⟨_, rfl⟩
  have EN2 := Lib.hid ho
  rw [he] at EN2 hL2 ⊢
  clear ho hlb he IT2
  replace HB := Lib.hid (hop HB.out (Nat.le_refl _) hb)
  replace EN1 := Lib.hid (EN1.out.below hb)
  clear hb
  go_wp2_with fail
  refine (everyNone_any w3).mono ?_
  rintro e w4 ⟨rfl, hao, hb⟩
  obtain ⟨ma, hma⟩ : ∃ g, w3.heap.size = g := ⟨_, rfl⟩
  rw [hma] at hao ⊢
  have AO := Lib.hid hao
  clear hao hma
  replace HB := Lib.hid (hop HB.out (Nat.le_refl _) hb)
  replace EN1 := Lib.hid (EN1.out.below hb)
  replace EN2 := Lib.hid (EN2.out.below hb)
  clear hb
  have hb_ : Below w4.heap.size w4 (w4.alloc (.cells #[.bool false, .int .i64 kI] 85)) := (Below.refl _ _).alloc (Nat.le_refl _) _
  obtain ⟨g5, hg5⟩ : ∃ g, w4.heap.size = g := ⟨_, rfl⟩
  have RE := Lib.hid (show RowR RepB.V 2 (w4.alloc (.cells #[.bool false, .int .i64 kI] 85)) (some ⟨g5, 0, none⟩) 1 [⟨false, kI⟩] from reps_litS w4 [⟨false, kI⟩] 85 g5 hg5)
  obtain ⟨m1, hm1⟩ : ∃ z, w4.alloc (.cells #[.bool false, .int .i64 kI] 85) = z := ⟨_, rfl⟩
  rw [hm1] at hb_ RE
  replace HB := Lib.hid (hop HB.out (Nat.le_refl _) hb_)
  replace EN1 := Lib.hid (EN1.out.below hb_)
  replace EN2 := Lib.hid (EN2.out.below hb_)
  replace AO := Lib.hid (AO.out.below hb_ AO.out.lt)
  clear hb_
  have NW := Lib.hid (new_any W.heap.size A1 e1 c1 L1 (some ⟨g5, 0, none⟩) 1 1 [⟨false, kI⟩] (by omega) (by decide) m1 (ents_of EN1.out).2.1 RE.out)
  clear RE
  go_wp2_with fail
  refine NW.out.mono ?_
  rintro e w5 ⟨b1, R1, rv1, lv1, rfl, hr, hbl, hp, hsd, hb⟩
  have hs_ := HB.out.size
  have hWb1 : W.heap.size ≤ b1 := by omega
  have HP1 := Lib.hid (show (R1.map EntX.b).Perm (newE (L1.map EntX.b)) from hp)
  have SD1 := Lib.hid (show (R1.map EntX.b).Pairwise leB from List.pairwise_map.2 hsd)
  have RP1 := Lib.hid hr
  clear hr hp hsd NW hbl hs_
  clear hg5 hm1
  replace HB := Lib.hid (hop HB.out (Nat.le_refl _) hb)
  replace EN1 := Lib.hid (EN1.out.below hb)
  replace EN2 := Lib.hid (EN2.out.below hb)
  replace AO := Lib.hid (AO.out.below hb AO.out.lt)
  clear hb
  have NW := Lib.hid (new_any W.heap.size A2 e2 c2 L2 none 0 0 [] (by omega) (by decide) w5 (ents_of EN2.out).2.1 (RowR.none _))
  have l1 := RP1.out.blk.lt
  go_wp2_with fail
  refine NW.out.mono ?_
  rintro e w6 ⟨b2, R2, rv2, lv2, rfl, hr, hbl, hp, hsd, hb⟩
  have hs_ := HB.out.size
  have hWb2 : W.heap.size ≤ b2 := by omega
  have HP2 := Lib.hid (show (R2.map EntX.b).Perm (newE (L2.map EntX.b)) from hp)
  have SD2 := Lib.hid (show (R2.map EntX.b).Pairwise leB from List.pairwise_map.2 hsd)
  have RP2 := Lib.hid hr
  clear hr hp hsd NW hbl hs_
  have n12 : b1 ≠ b2 := by have := RP2.out.low; omega
  clear l1
  replace HB := Lib.hid (hop HB.out (Nat.le_refl _) hb)
  replace EN1 := Lib.hid (EN1.out.below hb)
  replace EN2 := Lib.hid (EN2.out.below hb)
  replace AO := Lib.hid (AO.out.below hb AO.out.lt)
  replace RP1 := Lib.hid (RP1.out.below hb)
  clear hb
  have hb_ : Below w6.heap.size w6 (w6.alloc (.cells #[.pointer (some ⟨b1, 0, none⟩), .pointer (some ⟨b2, 0, none⟩)] 86)) := (Below.refl _ _).alloc (Nat.le_refl _) _
  obtain ⟨g6, hg6⟩ : ∃ g, w6.heap.size = g := ⟨_, rfl⟩
  have KP := Lib.hid (show Blk (w6.alloc (.cells #[.pointer (some ⟨b1, 0, none⟩), .pointer (some ⟨b2, 0, none⟩)] 86)) g6 86 #[.pointer (some ⟨b1, 0, none⟩), .pointer (some ⟨b2, 0, none⟩)] from by rw [← hg6]; exact Blk.new _ _ _)
  obtain ⟨m2, hm2⟩ : ∃ z, w6.alloc (.cells #[.pointer (some ⟨b1, 0, none⟩), .pointer (some ⟨b2, 0, none⟩)] 86) = z := ⟨_, rfl⟩
  rw [hm2] at hb_ KP
  replace HB := Lib.hid (hop HB.out (Nat.le_refl _) hb_)
  replace EN1 := Lib.hid (EN1.out.below hb_)
  replace EN2 := Lib.hid (EN2.out.below hb_)
  replace AO := Lib.hid (AO.out.below hb_ AO.out.lt)
  replace RP1 := Lib.hid (RP1.out.below hb_)
  replace RP2 := Lib.hid (RP2.out.below hb_)
  clear hb_
  have RW := Lib.hid (show RowR ptrV 1 m2 (some ⟨g6, 0, none⟩) 2 [b1, b2] from row_blk ptrV_len KP.out)
  have RS := Lib.hid (show RepsP 0 m2 [⟨b1, [⟨false, kI⟩], 0, R1, rv1, lv1⟩, ⟨b2, [], 0, R2, rv2, lv2⟩] from ⟨fun x hx => by
    simp only [List.mem_cons, List.not_mem_nil, or_false] at hx
    rcases hx with rfl | rfl
    · exact RP1.out.mono (Nat.zero_le _)
    · exact RP2.out.mono (Nat.zero_le _), by
    show List.Pairwise (· ≠ ·) [b1, b2]
    simp [n12]⟩)
  have NF := Lib.hid (fanNew_any 0 (some ⟨g6, 0, none⟩) 2 2 [⟨b1, [⟨false, kI⟩], 0, R1, rv1, lv1⟩, ⟨b2, [], 0, R2, rv2, lv2⟩] (by decide) (by decide) m2 (Nat.zero_le _) RW.out RS.out)
  go_wp2_with fail
  refine NF.out.mono ?_
  rintro e w7 ⟨f, rv, ov, rfl, hfp, hfl, hb⟩
  have FP := Lib.hid (show FanP 0 w7 f [⟨b1, [⟨false, kI⟩], 0, R1, rv1, lv1⟩, ⟨b2, [], 0, R2, rv2, lv2⟩] [0, 1] rv ov from hfp)
  clear hfp hfl NF RW RS
  clear hg6 hm2
  clear KP RP1 RP2
  replace HB := Lib.hid (hop HB.out (Nat.le_refl _) hb)
  replace EN1 := Lib.hid (EN1.out.below hb)
  replace EN2 := Lib.hid (EN2.out.below hb)
  replace AO := Lib.hid (AO.out.below hb AO.out.lt)
  clear hb
  have ET := Lib.hid (ends_two (T := (fun _ => true)) (a := AskX.b ⟨-12, 12, asc, nI, false, ⟨0, none, 0, 0, [], ⟨#[]⟩⟩⟩) (x := ⟨b1, [⟨false, kI⟩], 0, R1, rv1, lv1⟩) (y := ⟨b2, [], 0, R2, rv2, lv2⟩) rfl rfl bnI.1)
  obtain ⟨C, hC⟩ : ∃ C, tellX (fun _ => true) (AskX.b ⟨-12, 12, asc, nI, false, ⟨0, none, 0, 0, [], ⟨#[]⟩⟩⟩) ⟨b1, [⟨false, kI⟩], 0, R1, rv1, lv1⟩ = C := ⟨_, rfl⟩
  obtain ⟨D, hD⟩ : ∃ C, tellX (fun _ => true) (AskX.b ⟨-12, 12, asc, nI, false, ⟨0, none, 0, 0, [], ⟨#[]⟩⟩⟩) ⟨b2, [], 0, R2, rv2, lv2⟩ = C := ⟨_, rfl⟩
  obtain ⟨mo1, hm1⟩ : ∃ C, moreX (fun _ => true) (AskX.b ⟨-12, 12, asc, nI, false, ⟨0, none, 0, 0, [], ⟨#[]⟩⟩⟩) ⟨b1, [⟨false, kI⟩], 0, R1, rv1, lv1⟩ = C := ⟨_, rfl⟩
  obtain ⟨mo2, hm2⟩ : ∃ C, moreX (fun _ => true) (AskX.b ⟨-12, 12, asc, nI, false, ⟨0, none, 0, 0, [], ⟨#[]⟩⟩⟩) ⟨b2, [], 0, R2, rv2, lv2⟩ = C := ⟨_, rfl⟩
  obtain ⟨P, hP⟩ : ∃ C, fetchL (AskX.b ⟨-12, 12, asc, nI, false, ⟨0, none, 0, 0, [], ⟨#[]⟩⟩⟩).asc (tellsX (fun _ => true) (AskX.b ⟨-12, 12, asc, nI, false, ⟨0, none, 0, 0, [], ⟨#[]⟩⟩⟩) [⟨b1, [⟨false, kI⟩], 0, R1, rv1, lv1⟩, ⟨b2, [], 0, R2, rv2, lv2⟩]) (endsX (fun _ => true) (AskX.b ⟨-12, 12, asc, nI, false, ⟨0, none, 0, 0, [], ⟨#[]⟩⟩⟩) [⟨b1, [⟨false, kI⟩], 0, R1, rv1, lv1⟩, ⟨b2, [], 0, R2, rv2, lv2⟩]) = C := ⟨_, rfl⟩
  rw [hC, hD, hm1, hm2, hP] at ET
  have HC := Lib.hid hC
  have HD := Lib.hid hD
  have HM1 := Lib.hid hm1
  have HM2 := Lib.hid hm2
  have HPP := Lib.hid hP
  clear hC hD hm1 hm2 hP
  have EP := Lib.hid ET.out.1
  obtain ⟨mm, hmm⟩ : ∃ z, (mo1 || mo2) = z := ⟨_, rfl⟩
  have EMO := Lib.hid (ET.out.2.trans hmm)
  have HMM := Lib.hid hmm
  clear ET hmm
  have BSL := Lib.hid (show ∀ b ∈ [b1, b2], W.heap.size ≤ b from fun b hb => by simp only [List.mem_cons, List.not_mem_nil, or_false] at hb; rcases hb with rfl | rfl; exact hWb1; exact hWb2)
  have OKX := Lib.hid (show ∀ x ∈ ([⟨b1, [⟨false, kI⟩], 0, R1, rv1, lv1⟩, ⟨b2, [], 0, R2, rv2, lv2⟩] : List ReplX), OkX 0 (.pointer (some ⟨ma, 0, none⟩)) (fun _ => true) (fun w => Blk w ma 108 #[.slice none 0 0]) x from fun x hx => by
    simp only [List.mem_cons, List.not_mem_nil, or_false] at hx
    rcases hx with rfl | rfl
    · exact okX_new (L1.map EntX.b) (by decide) (by show 1 ≤ 100000; decide) (by rw [List.length_map, (ents_of EN1.out).1]; omega) (by show kI ≤ _; omega) HP1.out (Nat.zero_le _) (none_test b1 ma)
    · exact okX_new (L2.map EntX.b) (by decide) (by decide) (by rw [List.length_map, (ents_of EN2.out).1]; omega) (by decide) HP2.out (Nat.zero_le _) (none_test b2 ma))
  have SRT := Lib.hid (show ∀ x ∈ ([⟨b1, [⟨false, kI⟩], 0, R1, rv1, lv1⟩, ⟨b2, [], 0, R2, rv2, lv2⟩] : List ReplX), (x.L.map EntX.b).Pairwise leB from fun x hx => by
    simp only [List.mem_cons, List.not_mem_nil, or_false] at hx
    rcases hx with rfl | rfl
    · exact SD1.out
    · exact SD2.out)
  have INB := Lib.hid (show ∀ x ∈ ([⟨b1, [⟨false, kI⟩], 0, R1, rv1, lv1⟩, ⟨b2, [], 0, R2, rv2, lv2⟩] : List ReplX), x.b ∈ [b1, b2] from fun x hx => by
    simp only [List.mem_cons, List.not_mem_nil, or_false] at hx
    rcases hx with rfl | rfl
    · exact List.mem_cons_self
    · exact List.mem_cons_of_mem _ List.mem_cons_self)
  have HAR := Lib.hid (show askR (AskX.b ⟨-12, 12, asc, nI, false, ⟨0, none, 0, 0, [], ⟨#[]⟩⟩⟩) = true from by
    show (decide ((-12 : Int) < 12) && decide (1 ≤ nI)) = true
    rw [decide_eq_true bnI.1]
    rfl)
  have TE := Lib.hid (show (tellsX (fun _ => true) (AskX.b ⟨-12, 12, asc, nI, false, ⟨0, none, 0, 0, [], ⟨#[]⟩⟩⟩) [⟨b1, [⟨false, kI⟩], 0, R1, rv1, lv1⟩, ⟨b2, [], 0, R2, rv2, lv2⟩]).isEmpty = false from rfl)
  have hb_ : Below w7.heap.size w7 (w7.alloc (.cells #[.int .i64 (-12), .int .i64 12, .bool asc, .int .i64 nI, .bool false, .int .i64 0, .slice none 0 0, .string ⟨#[]⟩] 49)) := (Below.refl _ _).alloc (Nat.le_refl _) _
  obtain ⟨g8, hg8⟩ : ∃ g, w7.heap.size = g := ⟨_, rfl⟩
  have K6 := Lib.hid (show Blk (w7.alloc (.cells #[.int .i64 (-12), .int .i64 12, .bool asc, .int .i64 nI, .bool false, .int .i64 0, .slice none 0 0, .string ⟨#[]⟩] 49)) g8 49 #[.int .i64 (-12), .int .i64 12, .bool asc, .int .i64 nI, .bool false, .int .i64 0, .slice none 0 0, .string ⟨#[]⟩] from by rw [← hg8]; exact Blk.new _ _ _)
  obtain ⟨m3, hm3⟩ : ∃ z, w7.alloc (.cells #[.int .i64 (-12), .int .i64 12, .bool asc, .int .i64 nI, .bool false, .int .i64 0, .slice none 0 0, .string ⟨#[]⟩] 49) = z := ⟨_, rfl⟩
  rw [hm3] at hb_ K6
  replace HB := Lib.hid (hop HB.out (Nat.le_refl _) hb_)
  replace EN1 := Lib.hid (EN1.out.below hb_)
  replace EN2 := Lib.hid (EN2.out.below hb_)
  replace AO := Lib.hid (AO.out.below hb_ AO.out.lt)
  replace FP := Lib.hid (FP.out.below hb_)
  clear hb_
  have Hm3 := Lib.hid hm3
  have Hg8 := Lib.hid hg8
  clear hm3 hg8
  have FE := Lib.hid (fetch_lit 0 0 f [b1, b2] [⟨b1, [⟨false, kI⟩], 0, R1, rv1, lv1⟩, ⟨b2, [], 0, R2, rv2, lv2⟩] [0, 1] rv ov ⟨ma, 0, none⟩ (fun _ => true) (fun w => Blk w ma 108 #[.slice none 0 0]) ⟨-12, 12, asc, nI, false, ⟨0, none, 0, 0, [], ⟨#[]⟩⟩⟩ (by show 2 ≤ 4; decide) ⟨by decide, (by show ∀ i ∈ [0, 1], i < 2; decide)⟩ OKX.out SRT.out INB.out (fun w w' h hb => h.below hb h.lt) HAR.out (by show nI ≤ _; omega) m3 FP.out AO.out (good_nilS _ _ _ (by decide) (by decide)) mm 0 P _ EMO.out (if_neg (by show ¬ (tellsX (fun _ => true) (AskX.b ⟨-12, 12, asc, nI, false, ⟨0, none, 0, 0, [], ⟨#[]⟩⟩⟩) [⟨b1, [⟨false, kI⟩], 0, R1, rv1, lv1⟩, ⟨b2, [], 0, R2, rv2, lv2⟩]).isEmpty = true; rw [TE.out]; decide)) HPP.out rfl)
  clear OKX SRT INB TE HPP EMO
  have a0_ : m3.cell? ⟨g8, 0, none⟩ = some (.int .i64 (-12)) := (K6.out.cell 0).trans rfl
  have a1_ : m3.cell? ⟨g8, 1, none⟩ = some (.int .i64 12) := (K6.out.cell 1).trans rfl
  have a2_ : m3.cell? ⟨g8, 2, none⟩ = some (.bool asc) := (K6.out.cell 2).trans rfl
  have a3_ : m3.cell? ⟨g8, 3, none⟩ = some (.int .i64 nI) := (K6.out.cell 3).trans rfl
  have a4_ : m3.cell? ⟨g8, 4, none⟩ = some (.bool false) := (K6.out.cell 4).trans rfl
  have a5_ : m3.cell? ⟨g8, 5, none⟩ = some (.int .i64 0) := (K6.out.cell 5).trans rfl
  have a6_ : m3.cell? ⟨g8, 6, none⟩ = some (.slice none 0 0) := (K6.out.cell 6).trans rfl
  have a7_ : m3.cell? ⟨g8, 7, none⟩ = some (.string ⟨#[]⟩) := (K6.out.cell 7).trans rfl
  have k6lt := K6.out.lt
  go_wp2_with fail
  (try rw [Hm3.out]); (try rw [Hg8.out])
  refine (show Calls Tryz.prog 17 #[.pointer (some ⟨f, 0, none⟩), .agg #[.int .i64 (-12), .int .i64 12, .bool asc, .int .i64 nI, .bool false, .int .i64 0, .slice none 0 0, .string ⟨#[]⟩], .pointer (some ⟨ma, 0, none⟩)] m3 _ from FE.out).mono ?_
  rintro e w9 ⟨vp, Lp, rfl, ho, hm, _, hh⟩
  clear FE k6lt a0_ a1_ a2_ a3_ a4_ a5_ a6_ a7_
  clear FP
  replace EN1 := Lib.hid (EN1.out.hops hh BSL.out (by decide) (by decide))
  replace EN2 := Lib.hid (EN2.out.hops hh BSL.out (by decide) (by decide))
  replace HB := Lib.hid (hh.under HB.out BSL.out HB.out.size)
  replace AO := Lib.hid (AO.out.hopsT hh (by decide))
  replace K6 := Lib.hid (K6.out.hopsT hh (by decide))
  obtain ⟨pA, pc, hvp⟩ := OwnR.shape ho.1
  subst hvp
  obtain ⟨pn, hpn⟩ : ∃ k, Lp.length = k := ⟨_, rfl⟩
  have PO := Lib.hid ho
  have PM := Lib.hid hm
  have HPN := Lib.hid hpn
  rw [hpn] at PO ⊢
  have hpl : pn ≤ C.length + D.length := by
    have h1 := EP.out.len
    rw [← PM.out, List.length_map, HPN.out] at h1
    exact h1
  clear ho hm hpn hh BSL
  go_wp2
  obtain ⟨wd, hwd⟩ : ∃ z, w9.drew = z := ⟨_, rfl⟩
  have hb : Below w9.heap.size w9 wd := by rw [← hwd]; exact (Below.refl _ _).drew
  have SQ0 : (fun w' : World => w'.cell? ⟨g8, 0, none⟩ = some (.int .i64 (-12)) ∧ w'.cell? ⟨g8, 1, none⟩ = some (.int .i64 12) ∧ w'.cell? ⟨g8, 2, none⟩ = some (.bool asc) ∧ w'.cell? ⟨g8, 3, none⟩ = some (.int .i64 nI) ∧ w'.cell? ⟨g8, 4, none⟩ = some (.bool false) ∧ w'.cell? ⟨g8, 5, none⟩ = some (.int .i64 0) ∧ w'.cell? ⟨g8, 6, none⟩ = some (.slice none 0 0) ∧ w'.cell? ⟨g8, 7, none⟩ = some (.string ⟨#[]⟩) ∧ True) w9.drew := ⟨(K6.out.cell 0).trans rfl, (K6.out.cell 1).trans rfl, (K6.out.cell 2).trans rfl, (K6.out.cell 3).trans rfl, (K6.out.cell 4).trans rfl, (K6.out.cell 5).trans rfl, (K6.out.cell 6).trans rfl, (K6.out.cell 7).trans rfl, trivial⟩
  replace HB := Lib.hid (hop HB.out (Nat.le_refl _) hb)
  replace AO := Lib.hid (AO.out.below hb AO.out.lt)
  replace K6 := Lib.hid (K6.out.below hb K6.out.lt)
  replace EN1 := Lib.hid (EN1.out.below hb)
  replace EN2 := Lib.hid (EN2.out.below hb)
  replace PO := Lib.hid (PO.out.below hb)
  clear hb
  refine wp_region_held_drew (S := (fun w' : World => w'.cell? ⟨g8, 0, none⟩ = some (.int .i64 (-12)) ∧ w'.cell? ⟨g8, 1, none⟩ = some (.int .i64 12) ∧ w'.cell? ⟨g8, 2, none⟩ = some (.bool asc) ∧ w'.cell? ⟨g8, 3, none⟩ = some (.int .i64 nI) ∧ w'.cell? ⟨g8, 4, none⟩ = some (.bool false) ∧ w'.cell? ⟨g8, 5, none⟩ = some (.int .i64 0) ∧ w'.cell? ⟨g8, 6, none⟩ = some (.slice none 0 0) ∧ w'.cell? ⟨g8, 7, none⟩ = some (.string ⟨#[]⟩) ∧ True)) (by kernel_rfl) SQ0 (fun hS => ?_)
  rw [hwd] at hS ⊢
  clear SQ0 hwd
  refine tV 0 ?_; refine tV 1 ?_; refine tV 2 ?_; refine tH 5 ?_; refine tV 6 ?_
  refine rdy [3] ?_
  refine rdC (fun K hK => ?_) AllReadyH.nil
  go_simp
  have hb_ : Below wd.heap.size wd (wd.alloc (.cells #[.bool false, .int .i64 kI] 85)) := (Below.refl _ _).alloc (Nat.le_refl _) _
  obtain ⟨gr, hgr⟩ : ∃ g, wd.heap.size = g := ⟨_, rfl⟩
  have RE := Lib.hid (show RowR RepB.V 2 (wd.alloc (.cells #[.bool false, .int .i64 kI] 85)) (some ⟨gr, 0, none⟩) 1 [⟨false, kI⟩] from reps_litS wd [⟨false, kI⟩] 85 gr hgr)
  obtain ⟨m4, hm4⟩ : ∃ z, wd.alloc (.cells #[.bool false, .int .i64 kI] 85) = z := ⟨_, rfl⟩
  rw [hm4] at hb_ RE
  replace HB := Lib.hid (hop HB.out (Nat.le_refl _) hb_)
  replace AO := Lib.hid (AO.out.below hb_ AO.out.lt)
  replace K6 := Lib.hid (K6.out.below hb_ K6.out.lt)
  replace EN1 := Lib.hid (EN1.out.below hb_)
  replace EN2 := Lib.hid (EN2.out.below hb_)
  replace PO := Lib.hid (PO.out.below hb_)
  clear hb_
  rw [hm4, hgr]
  clear hgr hm4
  clear hS
  have hS : (fun w' : World => w'.cell? ⟨g8, 0, none⟩ = some (.int .i64 (-12)) ∧ w'.cell? ⟨g8, 1, none⟩ = some (.int .i64 12) ∧ w'.cell? ⟨g8, 2, none⟩ = some (.bool asc) ∧ w'.cell? ⟨g8, 3, none⟩ = some (.int .i64 nI) ∧ w'.cell? ⟨g8, 4, none⟩ = some (.bool false) ∧ w'.cell? ⟨g8, 5, none⟩ = some (.int .i64 0) ∧ w'.cell? ⟨g8, 6, none⟩ = some (.slice none 0 0) ∧ w'.cell? ⟨g8, 7, none⟩ = some (.string ⟨#[]⟩) ∧ True) m4 := ⟨(K6.out.cell 0).trans rfl, (K6.out.cell 1).trans rfl, (K6.out.cell 2).trans rfl, (K6.out.cell 3).trans rfl, (K6.out.cell 4).trans rfl, (K6.out.cell 5).trans rfl, (K6.out.cell 6).trans rfl, (K6.out.cell 7).trans rfl, trivial⟩
  refine hK.out _ _ hS (fun _ => ?_)
  clear hK K
  try simp only [Act.put, pz1, pz2, pz3]
  have NW := Lib.hid (new_any W.heap.size A1 e1 c1 L1 (some ⟨gr, 0, none⟩) 1 1 [⟨false, kI⟩] (by omega) (by decide) m4 (ents_of EN1.out).2.1 RE.out)
  clear RE
  refine rdy [4] ?_
  refine rdC (fun K hK => ?_) AllReadyH.nil
  go_simp
  go_at_call 23
  refine NW.out.mono ?_
  rintro e wn3 ⟨b3, R3, rv3, lv3, rfl, hr, hbl, hp, hsd, hb⟩
  have hs_ := HB.out.size
  have hWb3 : W.heap.size ≤ b3 := by omega
  have HP3 := Lib.hid (show (R3.map EntX.b).Perm (newE (L1.map EntX.b)) from hp)
  have SD3 := Lib.hid (show (R3.map EntX.b).Pairwise leB from List.pairwise_map.2 hsd)
  have RP3 := Lib.hid hr
  clear hr hp hsd NW hbl hs_
  replace HB := Lib.hid (hop HB.out (Nat.le_refl _) hb)
  replace AO := Lib.hid (AO.out.below hb AO.out.lt)
  replace K6 := Lib.hid (K6.out.below hb K6.out.lt)
  replace EN1 := Lib.hid (EN1.out.below hb)
  replace EN2 := Lib.hid (EN2.out.below hb)
  replace PO := Lib.hid (PO.out.below hb)
  clear hb
  clear hS
  have hS : (fun w' : World => w'.cell? ⟨g8, 0, none⟩ = some (.int .i64 (-12)) ∧ w'.cell? ⟨g8, 1, none⟩ = some (.int .i64 12) ∧ w'.cell? ⟨g8, 2, none⟩ = some (.bool asc) ∧ w'.cell? ⟨g8, 3, none⟩ = some (.int .i64 nI) ∧ w'.cell? ⟨g8, 4, none⟩ = some (.bool false) ∧ w'.cell? ⟨g8, 5, none⟩ = some (.int .i64 0) ∧ w'.cell? ⟨g8, 6, none⟩ = some (.slice none 0 0) ∧ w'.cell? ⟨g8, 7, none⟩ = some (.string ⟨#[]⟩) ∧ True) wn3 := ⟨(K6.out.cell 0).trans rfl, (K6.out.cell 1).trans rfl, (K6.out.cell 2).trans rfl, (K6.out.cell 3).trans rfl, (K6.out.cell 4).trans rfl, (K6.out.cell 5).trans rfl, (K6.out.cell 6).trans rfl, (K6.out.cell 7).trans rfl, trivial⟩
  refine hK.out _ _ hS (fun _ => ?_)
  clear hK K
  try simp only [Act.put, pz1, pz2, pz3]
  have LEQ := sorted_one SD3.out SD1.out (HP3.out.trans HP1.out.symm)
  have RG := Lib.hid (range_lit _ 0 b3 [⟨false, kI⟩] 0 R3 rv3 lv3 (.pointer (some ⟨ma, 0, none⟩)) (fun _ => true) (fun w => Blk w ma 108 #[.slice none 0 0]) (none_test b3 ma) ⟨-12, 12, asc, nI, false, ⟨0, none, 0, 0, [], ⟨#[]⟩⟩⟩ (by decide) (by first | decide | (show 1 ≤ 100000; decide)) (by
    have h1 := HP3.out.length_eq
    have h2 : (newE (L1.map EntX.b)).length ≤ (L1.map EntX.b).length := List.length_filter_le _ _
    rw [List.length_map] at h1 h2
    have h3 := (ents_of EN1.out).1
    omega) (fun x hx => (List.mem_filter.1 (HP3.out.mem_iff.1 (List.mem_map_of_mem hx))).2) wn3 RP3.out AO.out (good_nilS _ _ _ (by decide) (by decide)) (Nat.zero_le _) HAR.out (by show nI ≤ _; omega) (by show kI ≤ _; omega) rfl _ rfl C mo1 (by rw [LEQ]; exact HC.out) (by rw [LEQ]; exact HM1.out))
  clear LEQ HP3 SD3
  refine rdy [7] ?_
  refine rdC (fun K hK => ?_) AllReadyH.nil
  go_simp
  go_at_call 29
  refine (show Calls Tryz.prog 29 #[.pointer (some ⟨b3, 0, none⟩), .agg #[.int .i64 (-12), .int .i64 12, .bool asc, .int .i64 nI, .bool false, .int .i64 0, .slice none 0 0, .string ⟨#[]⟩], .pointer (some ⟨ma, 0, none⟩)] wn3 _ from RG.out).mono ?_
  rintro e wr3 ⟨v_, Lc, rfl, ho, hm, _, hf⟩
  have fb_ := RP3.out.blk
  replace EN1 := Lib.hid (EN1.out.fgT hf hWb3 fb_ (by decide) (by decide))
  replace EN2 := Lib.hid (EN2.out.fgT hf hWb3 fb_ (by decide) (by decide))
  replace HB := Lib.hid (hf.below HB.out hWb3 HB.out.size)
  replace AO := Lib.hid (AO.out.fg hf (blk_apart AO.out fb_ (by decide)))
  replace K6 := Lib.hid (K6.out.fg hf (blk_apart K6.out fb_ (by decide)))
  replace PO := Lib.hid (PO.out.fgT hf (Nat.zero_le _) fb_ (by decide) (by decide))
  obtain ⟨xA, xc, hv_⟩ := OwnR.shape ho.1
  subst hv_
  obtain ⟨xn, hxn⟩ : ∃ k, Lc.length = k := ⟨_, rfl⟩
  have XO := Lib.hid (OwnE.mono ho (Nat.le_refl _) (Nat.zero_le _))
  have XM := Lib.hid hm
  have HXN := Lib.hid hxn
  rw [hxn] at XO ⊢
  clear hS
  have hS : (fun w' : World => w'.cell? ⟨g8, 0, none⟩ = some (.int .i64 (-12)) ∧ w'.cell? ⟨g8, 1, none⟩ = some (.int .i64 12) ∧ w'.cell? ⟨g8, 2, none⟩ = some (.bool asc) ∧ w'.cell? ⟨g8, 3, none⟩ = some (.int .i64 nI) ∧ w'.cell? ⟨g8, 4, none⟩ = some (.bool false) ∧ w'.cell? ⟨g8, 5, none⟩ = some (.int .i64 0) ∧ w'.cell? ⟨g8, 6, none⟩ = some (.slice none 0 0) ∧ w'.cell? ⟨g8, 7, none⟩ = some (.string ⟨#[]⟩) ∧ True) wr3 := ⟨(K6.out.cell 0).trans rfl, (K6.out.cell 1).trans rfl, (K6.out.cell 2).trans rfl, (K6.out.cell 3).trans rfl, (K6.out.cell 4).trans rfl, (K6.out.cell 5).trans rfl, (K6.out.cell 6).trans rfl, (K6.out.cell 7).trans rfl, trivial⟩
  refine hK.out _ _ hS (fun _ => ?_)
  clear hK K hS RG hf fb_ ho hm hxn RP3
  try simp only [Act.put, pz1, pz2, pz3]
  refine tV 8 ?_; refine tV 9 ?_; refine tV 10 ?_; refine tV 11 ?_; refine tV 12 ?_; refine tV 13 ?_; refine tV 14 ?_
  refine wpAnyH_done (by kernel_rfl) ?_ _
  go_wp2
  obtain ⟨wd, hwd⟩ : ∃ z, wr3.drew = z := ⟨_, rfl⟩
  have hb : Below wr3.heap.size wr3 wd := by rw [← hwd]; exact (Below.refl _ _).drew
  have SQ0 : (fun w' : World => w'.cell? ⟨g8, 0, none⟩ = some (.int .i64 (-12)) ∧ w'.cell? ⟨g8, 1, none⟩ = some (.int .i64 12) ∧ w'.cell? ⟨g8, 2, none⟩ = some (.bool asc) ∧ w'.cell? ⟨g8, 3, none⟩ = some (.int .i64 nI) ∧ w'.cell? ⟨g8, 4, none⟩ = some (.bool false) ∧ w'.cell? ⟨g8, 5, none⟩ = some (.int .i64 0) ∧ w'.cell? ⟨g8, 6, none⟩ = some (.slice none 0 0) ∧ w'.cell? ⟨g8, 7, none⟩ = some (.string ⟨#[]⟩) ∧ True) wr3.drew := ⟨(K6.out.cell 0).trans rfl, (K6.out.cell 1).trans rfl, (K6.out.cell 2).trans rfl, (K6.out.cell 3).trans rfl, (K6.out.cell 4).trans rfl, (K6.out.cell 5).trans rfl, (K6.out.cell 6).trans rfl, (K6.out.cell 7).trans rfl, trivial⟩
  replace HB := Lib.hid (hop HB.out (Nat.le_refl _) hb)
  replace AO := Lib.hid (AO.out.below hb AO.out.lt)
  replace K6 := Lib.hid (K6.out.below hb K6.out.lt)
  replace PO := Lib.hid (PO.out.below hb)
  replace EN1 := Lib.hid (EN1.out.below hb)
  replace EN2 := Lib.hid (EN2.out.below hb)
  replace XO := Lib.hid (XO.out.below hb)
  clear hb
  refine wp_region_held_drew (S := (fun w' : World => w'.cell? ⟨g8, 0, none⟩ = some (.int .i64 (-12)) ∧ w'.cell? ⟨g8, 1, none⟩ = some (.int .i64 12) ∧ w'.cell? ⟨g8, 2, none⟩ = some (.bool asc) ∧ w'.cell? ⟨g8, 3, none⟩ = some (.int .i64 nI) ∧ w'.cell? ⟨g8, 4, none⟩ = some (.bool false) ∧ w'.cell? ⟨g8, 5, none⟩ = some (.int .i64 0) ∧ w'.cell? ⟨g8, 6, none⟩ = some (.slice none 0 0) ∧ w'.cell? ⟨g8, 7, none⟩ = some (.string ⟨#[]⟩) ∧ True)) (by kernel_rfl) SQ0 (fun hS => ?_)
  rw [hwd] at hS ⊢
  clear SQ0 hwd
  refine tV 0 ?_; refine tH 2 ?_; refine tV 3 ?_
  have NW := Lib.hid (new_any W.heap.size A2 e2 c2 L2 none 0 0 [] (by omega) (by decide) wd (ents_of EN2.out).2.1 (RowR.none _))
  refine rdy [1] ?_
  refine rdC (fun K hK => ?_) AllReadyH.nil
  go_simp
  go_at_call 23
  refine NW.out.mono ?_
  rintro e wn4 ⟨b4, R4, rv4, lv4, rfl, hr, hbl, hp, hsd, hb⟩
  have hs_ := HB.out.size
  have hWb4 : W.heap.size ≤ b4 := by omega
  have HP4 := Lib.hid (show (R4.map EntX.b).Perm (newE (L2.map EntX.b)) from hp)
  have SD4 := Lib.hid (show (R4.map EntX.b).Pairwise leB from List.pairwise_map.2 hsd)
  have RP4 := Lib.hid hr
  clear hr hp hsd NW hbl hs_
  replace HB := Lib.hid (hop HB.out (Nat.le_refl _) hb)
  replace AO := Lib.hid (AO.out.below hb AO.out.lt)
  replace K6 := Lib.hid (K6.out.below hb K6.out.lt)
  replace PO := Lib.hid (PO.out.below hb)
  replace EN1 := Lib.hid (EN1.out.below hb)
  replace EN2 := Lib.hid (EN2.out.below hb)
  replace XO := Lib.hid (XO.out.below hb)
  clear hb
  clear hS
  have hS : (fun w' : World => w'.cell? ⟨g8, 0, none⟩ = some (.int .i64 (-12)) ∧ w'.cell? ⟨g8, 1, none⟩ = some (.int .i64 12) ∧ w'.cell? ⟨g8, 2, none⟩ = some (.bool asc) ∧ w'.cell? ⟨g8, 3, none⟩ = some (.int .i64 nI) ∧ w'.cell? ⟨g8, 4, none⟩ = some (.bool false) ∧ w'.cell? ⟨g8, 5, none⟩ = some (.int .i64 0) ∧ w'.cell? ⟨g8, 6, none⟩ = some (.slice none 0 0) ∧ w'.cell? ⟨g8, 7, none⟩ = some (.string ⟨#[]⟩) ∧ True) wn4 := ⟨(K6.out.cell 0).trans rfl, (K6.out.cell 1).trans rfl, (K6.out.cell 2).trans rfl, (K6.out.cell 3).trans rfl, (K6.out.cell 4).trans rfl, (K6.out.cell 5).trans rfl, (K6.out.cell 6).trans rfl, (K6.out.cell 7).trans rfl, trivial⟩
  refine hK.out _ _ hS (fun _ => ?_)
  clear hK K
  try simp only [Act.put, pz1, pz2, pz3]
  have LEQ := sorted_one SD4.out SD2.out (HP4.out.trans HP2.out.symm)
  have RG := Lib.hid (range_lit _ 0 b4 [] 0 R4 rv4 lv4 (.pointer (some ⟨ma, 0, none⟩)) (fun _ => true) (fun w => Blk w ma 108 #[.slice none 0 0]) (none_test b4 ma) ⟨-12, 12, asc, nI, false, ⟨0, none, 0, 0, [], ⟨#[]⟩⟩⟩ (by decide) (by first | decide | (show 1 ≤ 100000; decide)) (by
    have h1 := HP4.out.length_eq
    have h2 : (newE (L2.map EntX.b)).length ≤ (L2.map EntX.b).length := List.length_filter_le _ _
    rw [List.length_map] at h1 h2
    have h3 := (ents_of EN2.out).1
    omega) (fun x hx => (List.mem_filter.1 (HP4.out.mem_iff.1 (List.mem_map_of_mem hx))).2) wn4 RP4.out AO.out (good_nilS _ _ _ (by decide) (by decide)) (Nat.zero_le _) HAR.out (by show nI ≤ _; omega) (by decide) rfl _ rfl D mo2 (by rw [LEQ]; exact HD.out) (by rw [LEQ]; exact HM2.out))
  clear LEQ HP4 SD4
  refine rdy [4] ?_
  refine rdC (fun K hK => ?_) AllReadyH.nil
  go_simp
  go_at_call 29
  refine (show Calls Tryz.prog 29 #[.pointer (some ⟨b4, 0, none⟩), .agg #[.int .i64 (-12), .int .i64 12, .bool asc, .int .i64 nI, .bool false, .int .i64 0, .slice none 0 0, .string ⟨#[]⟩], .pointer (some ⟨ma, 0, none⟩)] wn4 _ from RG.out).mono ?_
  rintro e wr4 ⟨v_, Ld, rfl, ho, hm, _, hf⟩
  have fb_ := RP4.out.blk
  replace EN1 := Lib.hid (EN1.out.fgT hf hWb4 fb_ (by decide) (by decide))
  replace EN2 := Lib.hid (EN2.out.fgT hf hWb4 fb_ (by decide) (by decide))
  replace HB := Lib.hid (hf.below HB.out hWb4 HB.out.size)
  replace AO := Lib.hid (AO.out.fg hf (blk_apart AO.out fb_ (by decide)))
  replace K6 := Lib.hid (K6.out.fg hf (blk_apart K6.out fb_ (by decide)))
  replace PO := Lib.hid (PO.out.fgT hf (Nat.zero_le _) fb_ (by decide) (by decide))
  replace XO := Lib.hid (XO.out.fgT hf (Nat.zero_le _) fb_ (by decide) (by decide))
  obtain ⟨dA, dc, hv_⟩ := OwnR.shape ho.1
  subst hv_
  obtain ⟨dn, hdn⟩ : ∃ k, Ld.length = k := ⟨_, rfl⟩
  have DO := Lib.hid (OwnE.mono ho (Nat.le_refl _) (Nat.zero_le _))
  have DM := Lib.hid hm
  have HDN := Lib.hid hdn
  rw [hdn] at DO ⊢
  clear hS
  have hS : (fun w' : World => w'.cell? ⟨g8, 0, none⟩ = some (.int .i64 (-12)) ∧ w'.cell? ⟨g8, 1, none⟩ = some (.int .i64 12) ∧ w'.cell? ⟨g8, 2, none⟩ = some (.bool asc) ∧ w'.cell? ⟨g8, 3, none⟩ = some (.int .i64 nI) ∧ w'.cell? ⟨g8, 4, none⟩ = some (.bool false) ∧ w'.cell? ⟨g8, 5, none⟩ = some (.int .i64 0) ∧ w'.cell? ⟨g8, 6, none⟩ = some (.slice none 0 0) ∧ w'.cell? ⟨g8, 7, none⟩ = some (.string ⟨#[]⟩) ∧ True) wr4 := ⟨(K6.out.cell 0).trans rfl, (K6.out.cell 1).trans rfl, (K6.out.cell 2).trans rfl, (K6.out.cell 3).trans rfl, (K6.out.cell 4).trans rfl, (K6.out.cell 5).trans rfl, (K6.out.cell 6).trans rfl, (K6.out.cell 7).trans rfl, trivial⟩
  refine hK.out _ _ hS (fun _ => ?_)
  clear hK K hS RG hf fb_ ho hm hdn RP4
  try simp only [Act.put, pz1, pz2, pz3]
  refine tV 5 ?_; refine tV 6 ?_; refine tV 7 ?_; refine tV 8 ?_; refine tV 9 ?_; refine tV 10 ?_; refine tV 11 ?_
  refine wpAnyH_done (by kernel_rfl) ?_ _
  have hcl : xn = C.length := by have h1 := congrArg List.length XM.out; rw [List.length_map, HXN.out] at h1; exact h1
  have hdl : dn = D.length := by have h1 := congrArg List.length DM.out; rw [List.length_map, HDN.out] at h1; exact h1
  have lenC : xn ≤ 8 := by
    rw [hcl, ← HC.out]
    refine Nat.le_trans (tellX_len _ _ _) ?_
    have h1 := HP1.out.length_eq
    have h2 : (newE (L1.map EntX.b)).length ≤ (L1.map EntX.b).length := List.length_filter_le _ _
    rw [List.length_map] at h1 h2
    have h3 := (ents_of EN1.out).1
    show R1.length ≤ 8
    omega
  have lenD : dn ≤ 8 := by
    rw [hdl, ← HD.out]
    refine Nat.le_trans (tellX_len _ _ _) ?_
    have h1 := HP2.out.length_eq
    have h2 : (newE (L2.map EntX.b)).length ≤ (L2.map EntX.b).length := List.length_filter_le _ _
    rw [List.length_map] at h1 h2
    have h3 := (ents_of EN2.out).1
    show R2.length ≤ 8
    omega
  have HXL := Lib.hid hcl
  have HDL := Lib.hid hdl
  have HPL := Lib.hid hpl
  clear hcl hdl hpl
  obtain ⟨GA, hGA⟩ : ∃ g, wr4.heap.size = g := ⟨_, rfl⟩
  have hGW : W.heap.size ≤ GA := by rw [← hGA]; exact HB.out.size
  have POL := Lib.hid (fun b (hb : (Value.slice pA pn pc).ownBlock = some b) => (show b < GA from by rw [← hGA]; exact (World.ownsRow.lt PO.out.1 b hb).2))
  have XOL := Lib.hid (fun b (hb : (Value.slice xA xn xc).ownBlock = some b) => (show b < GA from by rw [← hGA]; exact (World.ownsRow.lt XO.out.1 b hb).2))
  have DOL := Lib.hid (fun b (hb : (Value.slice dA dn dc).ownBlock = some b) => (show b < GA from by rw [← hGA]; exact (World.ownsRow.lt DO.out.1 b hb).2))
  have HGA := Lib.hid hGA
  clear hGA
  have XR := Lib.hid (show wr4.ownsRow 0 47 3 (.slice xA xn xc) xn (rowV EntX.V Lc) from by have h := XO.out.1; unfold OwnR at h; rw [HXN.out] at h; exact h)
  go_wp2_with (at_builtin; refine wpList_append_rows rfl (.const (.slice none 0 0)) (.tmp 112) 64 rfl GA 47 i0 (.agg #[.int .i64 0, .slice none 0 0, .string ⟨#[]⟩]) 3 48 Tryz.underlying64 hinf hi0 hi1 hi2 rfl (by decide) (.slice none 0 0) 0 [] rfl (World.ownsRow_nil _ _ _ _) 0 (.slice xA xn xc) xn (rowV EntX.V Lc) rfl XR.out (entV_many _) (by unfold maxLen; omega) (by omega) (Nat.le_of_eq HGA.out.symm) ?_)
  intro t1 wx1 hown hgrow hvb
  have hgn : wr4.grownBy wx1 none := hgrow
  have A1O := Lib.hid (show OwnR EntX.V 3 wx1 GA 47 t1 Lc from by
    unfold OwnR
    rw [HXN.out]
    first | exact hown | (rw [Nat.zero_add] at hown; exact hown))
  replace PO := Lib.hid (PO.out.grewT hgn (fun b e => by cases e))
  replace XO := Lib.hid (XO.out.grewT hgn (fun b e => by cases e))
  replace DO := Lib.hid (DO.out.grewT hgn (fun b e => by cases e))
  replace HB := Lib.hid (HB.out.grown hgn HB.out.size (fun r hr => by cases hr))
  have LP1 := Lib.hid (fun b (hb : (Value.slice pA pn pc).ownBlock = some b) => (World.ownsRow.lt PO.out.1 b hb).2)
  have s1 := hgn.size
  have HGA2 := Lib.hid (show GA ≤ wx1.heap.size from by rw [← HGA.out]; exact s1)
  have FAR := Lib.hid (show ∀ b, t1.ownBlock = some b → (Value.slice pA pn pc).ownBlock ≠ some b ∧ (Value.slice xA xn xc).ownBlock ≠ some b ∧ (Value.slice dA dn dc).ownBlock ≠ some b from fun b hb => by
    have h1 := (World.ownsRow.lt A1O.out b hb).1
    refine ⟨fun e => ?_, fun e => ?_, fun e => ?_⟩
    · have := POL.out b e; omega
    · have := XOL.out b e; omega
    · have := DOL.out b e; omega)
  clear hown hgrow hvb hgn s1 LP1 XR
  have DR := Lib.hid (show wx1.ownsRow 0 47 3 (.slice dA dn dc) dn (rowV EntX.V Ld) from by have h := DO.out.1; unfold OwnR at h; rw [HDN.out] at h; exact h)
  have AR1 := Lib.hid (show wx1.ownsRow GA 47 3 t1 xn (rowV EntX.V Lc) from by have h := A1O.out; unfold OwnR at h; rw [HXN.out] at h; exact h)
  go_wp2_with (at_builtin; refine wpList_append_rows rfl (.tmp 113) (.tmp 114) 64 rfl GA 47 i0 (.agg #[.int .i64 0, .slice none 0 0, .string ⟨#[]⟩]) 3 48 Tryz.underlying64 hinf hi0 hi1 hi2 rfl (by decide) t1 xn (rowV EntX.V Lc) rfl AR1.out 0 (.slice dA dn dc) dn (rowV EntX.V Ld) rfl DR.out (entV_many _) (by unfold maxLen; omega) (by omega) HGA2.out ?_)
  intro t2 wx2 hown hgrow hvb
  have hol := own_row_type A1O.out
  have A2O := Lib.hid (show OwnE 0 wx2 GA t2 (Lc ++ Ld) from ⟨OwnR.snocs (by rw [HXN.out, HDN.out]; exact hown), fun y hy => by
    rcases List.mem_append.1 hy with hy | hy
    · exact (XO.out.2 y hy).kept A1O.out (Nat.zero_le _) hgrow
    · exact (DO.out.2 y hy).kept A1O.out (Nat.zero_le _) hgrow⟩)
  replace PO := Lib.hid (PO.out.grewT hgrow (fun b e => ⟨(FAR.out b e).1, by obtain ⟨_, cur, h2⟩ := hol b e; exact ⟨cur, _, ent_not_pair, h2⟩⟩))
  replace XO := Lib.hid (XO.out.grewT hgrow (fun b e => ⟨(FAR.out b e).2.1, by obtain ⟨_, cur, h2⟩ := hol b e; exact ⟨cur, _, ent_not_pair, h2⟩⟩))
  replace DO := Lib.hid (DO.out.grewT hgrow (fun b e => ⟨(FAR.out b e).2.2, by obtain ⟨_, cur, h2⟩ := hol b e; exact ⟨cur, _, ent_not_pair, h2⟩⟩))
  replace HB := Lib.hid (HB.out.grown hgrow HB.out.size (fun r hr => Nat.le_trans hGW (hol r hr).1))
  obtain ⟨qA, qc, hv_⟩ := OwnR.shape A2O.out.1
  have hqn : (Lc ++ Ld).length = xn + dn := by rw [List.length_append, HXN.out, HDN.out]
  rw [hqn] at hv_
  subst hv_
  obtain ⟨qn, hqe⟩ : ∃ k, xn + dn = k := ⟨_, rfl⟩
  rw [hqe] at A2O hqn ⊢
  have HQN := Lib.hid hqn
  have hpq : pn ≤ qn := by have q1 := HPL.out; have q2 := HXL.out; have q3 := HDL.out; omega
  have hq16 : qn ≤ 16 := by omega
  clear hown hgrow hvb hol FAR A1O AR1 DR HGA HGA2 hqn hqe POL XOL DOL HPL HXL HDL
  obtain ⟨v1, hv1⟩ : ∃ v, v = wx2 := ⟨_, rfl⟩
  subst hv1
  clear EN1 EN2 AO K6 HP1 HP2 SD1 SD2 HAR HC HD HM1 HM2
  have HBv := Lib.hid (Below.refl v1.heap.size v1)
  go_wp2
  go_loopw [31] (fun iv wr => ∃ j : Nat, j ≤ qn ∧ iv = .int .i64 (j : Nat) ∧ Hid (Below v1.heap.size v1 wr)) (fun iv _ => qn - (intOf iv).toNat)
  case atStart => exact ⟨0, Nat.zero_le _, rfl, HBv⟩
  case round =>
    clear HBv
    obtain ⟨jx, hjq, rfl, HBv⟩ := hrel
    by_cases hj : jx < qn
    · have jI : (jx : Int) < (qn : Int) := by omega
      have jW : IntKind.i64.wrap ((jx : Int) + 1) = (jx : Int) + 1 := by rw [IntKind.wrap_i64]; omega
      obtain ⟨x, hx⟩ : ∃ x, (Lc ++ Ld)[jx]? = some x := ⟨_, List.getElem?_eq_getElem (by rw [HQN.out]; exact hj)⟩
      obtain ⟨gx, hqA, xat⟩ := ownE_at (A2O.out.below HBv.out) hx
      subst hqA
      have XX := Lib.hid xat
      have xm : x.b ∈ C ++ D := by
        rw [← XM.out, ← DM.out, ← List.map_append]
        exact List.mem_map_of_mem (List.mem_of_getElem? hx)
      obtain ⟨ia, ib, h1, h2, h3, h4, h5⟩ := in_two EP.out xm
      have AN := Lib.hid (show thereB Lp x.b pn = (ia && ib) from by
        rw [Bool.eq_iff_iff, there_all Lp x.b pn (by rw [HPN.out]; exact Nat.le_refl _), PM.out]
        exact h5)
      have I1 := Lib.hid h1
      have I2 := Lib.hid h2
      have I3 := Lib.hid h3
      have I4 := Lib.hid h4
      replace PO := Lib.hid (PO.out.below HBv.out)
      replace XO := Lib.hid (XO.out.below HBv.out)
      replace DO := Lib.hid (DO.out.below HBv.out)
      clear h1 h2 h3 h4 h5 xm hx xat hj
      cases mo1 with
      | false =>
        obtain rfl := I2.out rfl
        clear I1 I2
        cases mo2 with
        | false =>
          obtain rfl := I4.out rfl
          rw [Bool.and_true] at AN
          clear I3 I4
          obtain ⟨v0, hv0⟩ : ∃ v, v = wr := ⟨_, rfl⟩
          subst hv0
          have HB0 := Lib.hid (Below.refl v0.heap.size v0)
          go_wp2
          go_loopw [33, 34] (fun tv kv wx => ∃ (k : Nat) (bo : Bool), k ≤ pn ∧ tv = .bool bo ∧ kv = .int .i64 (k : Nat) ∧ Hid (thereB Lp x.b k = bo) ∧ Hid (Below v0.heap.size v0 wx)) (fun _ kv _ => pn - (intOf kv).toNat)
          case atStart => exact ⟨0, false, Nat.zero_le _, rfl, rfl, Lib.hid rfl, HB0⟩
          case round =>
            clear HB0
            obtain ⟨k, bo, hkm, rfl, rfl, HK, HBk⟩ := hrel
            by_cases hk : k < pn
            · have kI : (k : Int) < (pn : Int) := by omega
              obtain ⟨y, hy⟩ : ∃ y, Lp[k]? = some y := ⟨_, List.getElem?_eq_getElem (by rw [HPN.out]; exact hk)⟩
              have NXT := Lib.hid (there_next Lp x.b k y hy)
              cases bo with
              | true =>
                have HK2 := Lib.hid (show thereB Lp x.b (k + 1) = true from by rw [NXT.out, HK.out]; rfl)
                clear HK NXT hy
                go_wp2
                go_quiet (fail)
                generalize hw4 : World.drewN _ _ = w4
                have hb4 := Lib.hid (show Below v0.heap.size v0 w4 from by rw [← hw4]; exact below_drewN HBk.out _)
                clear hw4
                go_wp2
                go_round
                case rel => exact ⟨k + 1, true, by omega, rfl, by go_num, HK2, hb4⟩
                case measure => first | (simp [intOf]; done) | (simp [intOf]; omega)
              | false =>
                have HY := Lib.hid hy
                have XW := Lib.hid (XX.out.below HBk.out)
                obtain ⟨gp, hpA, yat⟩ := ownE_at (PO.out.below HBk.out) hy
                subst hpA
                have YY := Lib.hid yat
                have HK2 := Lib.hid (show thereB Lp x.b (k + 1) = sameE y.b x.b from by rw [NXT.out, HK.out]; rfl)
                obtain ⟨q, hq⟩ : ∃ q, sameE y.b x.b = q := ⟨_, rfl⟩
                rw [hq] at HK2
                have SM := Lib.hid (fun wd (h1 : Good 0 wd y) (h2 : Good 0 wd x) => sameG y x wd h1 h2)
                simp only [hq] at SM
                clear hy yat HK NXT hq
                go_wp2
                obtain ⟨wd, hwd⟩ : ∃ z, wr.drew = z := ⟨_, rfl⟩
                have hbd : Below wr.heap.size wr wd := by rw [← hwd]; exact (Below.refl _ _).drew
                have X1 := Lib.hid (YY.out.below hbd)
                have X2 := Lib.hid (XW.out.below hbd)
                have HBd := Lib.hid hbd
                have S0 : (fun w' : World => w'.cell? ⟨gp, k * 3, none⟩ = some (.int .i64 y.ts) ∧ w'.cell? ⟨gp, k * 3 + 1, none⟩ = some (.slice y.A y.n y.c) ∧ w'.cell? ⟨gp, k * 3 + 2, none⟩ = some (.string y.ln) ∧ w'.cell? ⟨gx, jx * 3, none⟩ = some (.int .i64 x.ts) ∧ w'.cell? ⟨gx, jx * 3 + 1, none⟩ = some (.slice x.A x.n x.c) ∧ w'.cell? ⟨gx, jx * 3 + 2, none⟩ = some (.string x.ln) ∧ True) wr.drew := by rw [hwd]; exact ⟨X1.out.c0, X1.out.c1, X1.out.c2, X2.out.c0, X2.out.c1, X2.out.c2, trivial⟩
                clear hbd
                refine wp_region_held_drew (S := (fun w' : World => w'.cell? ⟨gp, k * 3, none⟩ = some (.int .i64 y.ts) ∧ w'.cell? ⟨gp, k * 3 + 1, none⟩ = some (.slice y.A y.n y.c) ∧ w'.cell? ⟨gp, k * 3 + 2, none⟩ = some (.string y.ln) ∧ w'.cell? ⟨gx, jx * 3, none⟩ = some (.int .i64 x.ts) ∧ w'.cell? ⟨gx, jx * 3 + 1, none⟩ = some (.slice x.A x.n x.c) ∧ w'.cell? ⟨gx, jx * 3 + 2, none⟩ = some (.string x.ln) ∧ True)) (by kernel_rfl) S0 (fun hS => ?_)
                rw [hwd] at hS ⊢
                clear S0 hwd
                refine tV 0 ?_; refine tV 1 ?_; refine tV 2 ?_; refine tV 3 ?_; refine tV 4 ?_; refine tH 5 ?_; refine tV 6 ?_; refine tV 7 ?_; refine tV 8 ?_; refine tH 9 ?_
                refine rdy [10] ?_
                refine rdC (fun K hK => ?_) AllReadyH.nil
                go_simp
                go_at_call 26
                refine (SM.out wd X1.out.good X2.out.good).mono ?_
                rintro e wz ⟨rfl, hbz⟩
                have hSz : (fun w' : World => w'.cell? ⟨gp, k * 3, none⟩ = some (.int .i64 y.ts) ∧ w'.cell? ⟨gp, k * 3 + 1, none⟩ = some (.slice y.A y.n y.c) ∧ w'.cell? ⟨gp, k * 3 + 2, none⟩ = some (.string y.ln) ∧ w'.cell? ⟨gx, jx * 3, none⟩ = some (.int .i64 x.ts) ∧ w'.cell? ⟨gx, jx * 3 + 1, none⟩ = some (.slice x.A x.n x.c) ∧ w'.cell? ⟨gx, jx * 3 + 2, none⟩ = some (.string x.ln) ∧ True) wz := ⟨(X1.out.below hbz).c0, (X1.out.below hbz).c1, (X1.out.below hbz).c2, (X2.out.below hbz).c0, (X2.out.below hbz).c1, (X2.out.below hbz).c2, trivial⟩
                have HBZ := Lib.hid (hop HBd.out (Nat.le_refl _) hbz)
                refine hK.out _ _ hSz (fun _ => ?_)
                clear hK K hS hSz hbz X1 X2 HBd
                try simp only [Act.put, pz1, pz2, pz3]
                refine tV 11 ?_; refine tV 12 ?_
                refine wpAnyH_done (by kernel_rfl) ?_ _
                have hbz2 := Lib.hid (hop HBk.out (Nat.le_refl _) HBZ.out)
                clear HBZ SM
                go_wp2
                go_round
                case rel => exact ⟨k + 1, q, by omega, rfl, by go_num, HK2, hbz2⟩
                case measure => first | (simp [intOf]; done) | (simp [intOf]; omega)
            · have kI : ¬ (k : Int) < (pn : Int) := by omega
              obtain rfl : pn = k := by omega
              obtain rfl : bo = true := HK.out.symm.trans AN.out
              have HBO := Lib.hid (hop HBv.out (Nat.le_refl _) HBk.out)
              clear HK AN HBk
              skip
              all_goals
                go_wp2
                go_round
                case rel => exact ⟨jx + 1, by omega, by go_num, HBO⟩
                case measure => first | (simp [intOf]; done) | (simp [intOf]; omega)
        | true =>
          obtain ⟨u2, hu2, ha2⟩ := I3.out rfl
          rw [← DM.out] at hu2
          obtain ⟨y2, i2, hy2, hyb2, hyl2⟩ := last_at hu2
          rw [HDN.out] at hyl2
          have HY2 := Lib.hid hy2
          have nI2 : (dn : Int) > 0 := by omega
          have nI2b : (0 : Int) < (dn : Int) := by omega
          have nN2 : 0 < dn := by omega
          have dN2 : decide (0 < dn) = true := decide_eq_true nN2
          have wI2 : IntKind.i64.wrap ((dn : Int) - 1) = (i2 : Int) := by rw [IntKind.wrap_i64]; omega
          have iI2 : (i2 : Int) < (dn : Int) := by omega
          rw [← hyb2] at ha2
          obtain ⟨a2, hak⟩ : ∃ z, aheadB y2.b x.b asc = z := ⟨_, rfl⟩
          have ha22 : (!a2) = ib := by rw [← ha2, ← hak]; rfl
          have AH2 := Lib.hid (fun wd (h1 : Good 0 wd y2) (h2 : Good 0 wd x) => aheadG y2 x asc wd h1 h2)
          simp only [hak] at AH2
          clear hu2 ha2 hy2 hyb2 hyl2 hak
          clear I3 I4
          rw [Bool.true_and] at AN
          obtain ⟨g2, hv2, yat⟩ := ownE_at DO.out HY2.out
          subst hv2
          have YC := Lib.hid yat
          clear yat
          go_wp2
          obtain ⟨wd, hwd⟩ : ∃ z, wr.drew = z := ⟨_, rfl⟩
          have hbd : Below wr.heap.size wr wd := by rw [← hwd]; exact (Below.refl _ _).drew
          have X1 := Lib.hid (YC.out.below hbd)
          have X2 := Lib.hid (XX.out.below hbd)
          have HBd := Lib.hid hbd
          have S0 : (fun w' : World => w'.cell? ⟨g2, i2 * 3, none⟩ = some (.int .i64 y2.ts) ∧ w'.cell? ⟨g2, i2 * 3 + 1, none⟩ = some (.slice y2.A y2.n y2.c) ∧ w'.cell? ⟨g2, i2 * 3 + 2, none⟩ = some (.string y2.ln) ∧ w'.cell? ⟨gx, jx * 3, none⟩ = some (.int .i64 x.ts) ∧ w'.cell? ⟨gx, jx * 3 + 1, none⟩ = some (.slice x.A x.n x.c) ∧ w'.cell? ⟨gx, jx * 3 + 2, none⟩ = some (.string x.ln) ∧ True) wr.drew := by rw [hwd]; exact ⟨X1.out.c0, X1.out.c1, X1.out.c2, X2.out.c0, X2.out.c1, X2.out.c2, trivial⟩
          clear hbd
          refine wp_region_held_drew (S := (fun w' : World => w'.cell? ⟨g2, i2 * 3, none⟩ = some (.int .i64 y2.ts) ∧ w'.cell? ⟨g2, i2 * 3 + 1, none⟩ = some (.slice y2.A y2.n y2.c) ∧ w'.cell? ⟨g2, i2 * 3 + 2, none⟩ = some (.string y2.ln) ∧ w'.cell? ⟨gx, jx * 3, none⟩ = some (.int .i64 x.ts) ∧ w'.cell? ⟨gx, jx * 3 + 1, none⟩ = some (.slice x.A x.n x.c) ∧ w'.cell? ⟨gx, jx * 3 + 2, none⟩ = some (.string x.ln) ∧ True)) (by kernel_rfl) S0 (fun hS => ?_)
          rw [hwd] at hS ⊢
          clear S0 hwd
          refine tV 0 ?_; refine tV 1 ?_; refine tV 2 ?_; refine tV 3 ?_; refine tV 4 ?_; refine tV 5 ?_; refine tV 6 ?_; refine tH 7 ?_; refine tV 8 ?_; refine tV 9 ?_; refine tV 10 ?_; refine tH 11 ?_; refine tV 12 ?_
          refine rdy [13] ?_
          refine rdC (fun K hK => ?_) AllReadyH.nil
          go_simp
          go_at_call 25
          refine (AH2.out wd X1.out.good X2.out.good).mono ?_
          rintro e wz ⟨rfl, hbz⟩
          have hSz : (fun w' : World => w'.cell? ⟨g2, i2 * 3, none⟩ = some (.int .i64 y2.ts) ∧ w'.cell? ⟨g2, i2 * 3 + 1, none⟩ = some (.slice y2.A y2.n y2.c) ∧ w'.cell? ⟨g2, i2 * 3 + 2, none⟩ = some (.string y2.ln) ∧ w'.cell? ⟨gx, jx * 3, none⟩ = some (.int .i64 x.ts) ∧ w'.cell? ⟨gx, jx * 3 + 1, none⟩ = some (.slice x.A x.n x.c) ∧ w'.cell? ⟨gx, jx * 3 + 2, none⟩ = some (.string x.ln) ∧ True) wz := ⟨(X1.out.below hbz).c0, (X1.out.below hbz).c1, (X1.out.below hbz).c2, (X2.out.below hbz).c0, (X2.out.below hbz).c1, (X2.out.below hbz).c2, trivial⟩
          have HBZ := Lib.hid (hop HBd.out (Nat.le_refl _) hbz)
          refine hK.out _ _ hSz (fun _ => ?_)
          clear hK K hS hSz hbz X1 X2 HBd
          try simp only [Act.put, pz1, pz2, pz3]
          refine tV 14 ?_; refine tV 15 ?_; refine tV 16 ?_
          refine wpAnyH_done (by kernel_rfl) ?_ _
          replace XX := Lib.hid (XX.out.below HBZ.out)
          replace PO := Lib.hid (PO.out.below HBZ.out)
          replace XO := Lib.hid (XO.out.below HBZ.out)
          replace DO := Lib.hid (DO.out.below HBZ.out)
          replace HBv := Lib.hid (hop HBv.out (Nat.le_refl _) HBZ.out)
          (try simp only [ha22])
          clear HBZ AH2 HY2 YC ha22
          obtain ⟨wr, hwr⟩ : ∃ z, z = wz := ⟨_, rfl⟩
          subst hwr
          obtain ⟨v0, hv0⟩ : ∃ v, v = wr := ⟨_, rfl⟩
          subst hv0
          have HB0 := Lib.hid (Below.refl v0.heap.size v0)
          go_wp2
          go_loopw [33, 34] (fun tv kv wx => ∃ (k : Nat) (bo : Bool), k ≤ pn ∧ tv = .bool bo ∧ kv = .int .i64 (k : Nat) ∧ Hid (thereB Lp x.b k = bo) ∧ Hid (Below v0.heap.size v0 wx)) (fun _ kv _ => pn - (intOf kv).toNat)
          case atStart => exact ⟨0, false, Nat.zero_le _, rfl, rfl, Lib.hid rfl, HB0⟩
          case round =>
            clear HB0
            obtain ⟨k, bo, hkm, rfl, rfl, HK, HBk⟩ := hrel
            by_cases hk : k < pn
            · have kI : (k : Int) < (pn : Int) := by omega
              obtain ⟨y, hy⟩ : ∃ y, Lp[k]? = some y := ⟨_, List.getElem?_eq_getElem (by rw [HPN.out]; exact hk)⟩
              have NXT := Lib.hid (there_next Lp x.b k y hy)
              cases bo with
              | true =>
                have HK2 := Lib.hid (show thereB Lp x.b (k + 1) = true from by rw [NXT.out, HK.out]; rfl)
                clear HK NXT hy
                go_wp2
                go_quiet (fail)
                generalize hw4 : World.drewN _ _ = w4
                have hb4 := Lib.hid (show Below v0.heap.size v0 w4 from by rw [← hw4]; exact below_drewN HBk.out _)
                clear hw4
                go_wp2
                go_round
                case rel => exact ⟨k + 1, true, by omega, rfl, by go_num, HK2, hb4⟩
                case measure => first | (simp [intOf]; done) | (simp [intOf]; omega)
              | false =>
                have HY := Lib.hid hy
                have XW := Lib.hid (XX.out.below HBk.out)
                obtain ⟨gp, hpA, yat⟩ := ownE_at (PO.out.below HBk.out) hy
                subst hpA
                have YY := Lib.hid yat
                have HK2 := Lib.hid (show thereB Lp x.b (k + 1) = sameE y.b x.b from by rw [NXT.out, HK.out]; rfl)
                obtain ⟨q, hq⟩ : ∃ q, sameE y.b x.b = q := ⟨_, rfl⟩
                rw [hq] at HK2
                have SM := Lib.hid (fun wd (h1 : Good 0 wd y) (h2 : Good 0 wd x) => sameG y x wd h1 h2)
                simp only [hq] at SM
                clear hy yat HK NXT hq
                go_wp2
                obtain ⟨wd, hwd⟩ : ∃ z, wr.drew = z := ⟨_, rfl⟩
                have hbd : Below wr.heap.size wr wd := by rw [← hwd]; exact (Below.refl _ _).drew
                have X1 := Lib.hid (YY.out.below hbd)
                have X2 := Lib.hid (XW.out.below hbd)
                have HBd := Lib.hid hbd
                have S0 : (fun w' : World => w'.cell? ⟨gp, k * 3, none⟩ = some (.int .i64 y.ts) ∧ w'.cell? ⟨gp, k * 3 + 1, none⟩ = some (.slice y.A y.n y.c) ∧ w'.cell? ⟨gp, k * 3 + 2, none⟩ = some (.string y.ln) ∧ w'.cell? ⟨gx, jx * 3, none⟩ = some (.int .i64 x.ts) ∧ w'.cell? ⟨gx, jx * 3 + 1, none⟩ = some (.slice x.A x.n x.c) ∧ w'.cell? ⟨gx, jx * 3 + 2, none⟩ = some (.string x.ln) ∧ True) wr.drew := by rw [hwd]; exact ⟨X1.out.c0, X1.out.c1, X1.out.c2, X2.out.c0, X2.out.c1, X2.out.c2, trivial⟩
                clear hbd
                refine wp_region_held_drew (S := (fun w' : World => w'.cell? ⟨gp, k * 3, none⟩ = some (.int .i64 y.ts) ∧ w'.cell? ⟨gp, k * 3 + 1, none⟩ = some (.slice y.A y.n y.c) ∧ w'.cell? ⟨gp, k * 3 + 2, none⟩ = some (.string y.ln) ∧ w'.cell? ⟨gx, jx * 3, none⟩ = some (.int .i64 x.ts) ∧ w'.cell? ⟨gx, jx * 3 + 1, none⟩ = some (.slice x.A x.n x.c) ∧ w'.cell? ⟨gx, jx * 3 + 2, none⟩ = some (.string x.ln) ∧ True)) (by kernel_rfl) S0 (fun hS => ?_)
                rw [hwd] at hS ⊢
                clear S0 hwd
                refine tV 0 ?_; refine tV 1 ?_; refine tV 2 ?_; refine tV 3 ?_; refine tV 4 ?_; refine tH 5 ?_; refine tV 6 ?_; refine tV 7 ?_; refine tV 8 ?_; refine tH 9 ?_
                refine rdy [10] ?_
                refine rdC (fun K hK => ?_) AllReadyH.nil
                go_simp
                go_at_call 26
                refine (SM.out wd X1.out.good X2.out.good).mono ?_
                rintro e wz ⟨rfl, hbz⟩
                have hSz : (fun w' : World => w'.cell? ⟨gp, k * 3, none⟩ = some (.int .i64 y.ts) ∧ w'.cell? ⟨gp, k * 3 + 1, none⟩ = some (.slice y.A y.n y.c) ∧ w'.cell? ⟨gp, k * 3 + 2, none⟩ = some (.string y.ln) ∧ w'.cell? ⟨gx, jx * 3, none⟩ = some (.int .i64 x.ts) ∧ w'.cell? ⟨gx, jx * 3 + 1, none⟩ = some (.slice x.A x.n x.c) ∧ w'.cell? ⟨gx, jx * 3 + 2, none⟩ = some (.string x.ln) ∧ True) wz := ⟨(X1.out.below hbz).c0, (X1.out.below hbz).c1, (X1.out.below hbz).c2, (X2.out.below hbz).c0, (X2.out.below hbz).c1, (X2.out.below hbz).c2, trivial⟩
                have HBZ := Lib.hid (hop HBd.out (Nat.le_refl _) hbz)
                refine hK.out _ _ hSz (fun _ => ?_)
                clear hK K hS hSz hbz X1 X2 HBd
                try simp only [Act.put, pz1, pz2, pz3]
                refine tV 11 ?_; refine tV 12 ?_
                refine wpAnyH_done (by kernel_rfl) ?_ _
                have hbz2 := Lib.hid (hop HBk.out (Nat.le_refl _) HBZ.out)
                clear HBZ SM
                go_wp2
                go_round
                case rel => exact ⟨k + 1, q, by omega, rfl, by go_num, HK2, hbz2⟩
                case measure => first | (simp [intOf]; done) | (simp [intOf]; omega)
            · have kI : ¬ (k : Int) < (pn : Int) := by omega
              obtain rfl : pn = k := by omega
              obtain rfl : bo = ib := HK.out.symm.trans AN.out
              have HBO := Lib.hid (hop HBv.out (Nat.le_refl _) HBk.out)
              clear HK AN HBk
              cases bo
              all_goals
                go_wp2
                go_round
                case rel => exact ⟨jx + 1, by omega, by go_num, HBO⟩
                case measure => first | (simp [intOf]; done) | (simp [intOf]; omega)
      | true =>
        obtain ⟨u1, hu1, ha1⟩ := I1.out rfl
        rw [← XM.out] at hu1
        obtain ⟨y1, i1, hy1, hyb1, hyl1⟩ := last_at hu1
        rw [HXN.out] at hyl1
        have HY1 := Lib.hid hy1
        have nI1 : (xn : Int) > 0 := by omega
        have nI1b : (0 : Int) < (xn : Int) := by omega
        have nN1 : 0 < xn := by omega
        have dN1 : decide (0 < xn) = true := decide_eq_true nN1
        have wI1 : IntKind.i64.wrap ((xn : Int) - 1) = (i1 : Int) := by rw [IntKind.wrap_i64]; omega
        have iI1 : (i1 : Int) < (xn : Int) := by omega
        rw [← hyb1] at ha1
        obtain ⟨a1, hak⟩ : ∃ z, aheadB y1.b x.b asc = z := ⟨_, rfl⟩
        have ha21 : (!a1) = ia := by rw [← ha1, ← hak]; rfl
        have AH1 := Lib.hid (fun wd (h1 : Good 0 wd y1) (h2 : Good 0 wd x) => aheadG y1 x asc wd h1 h2)
        simp only [hak] at AH1
        clear hu1 ha1 hy1 hyb1 hyl1 hak
        clear I1 I2
        obtain ⟨g1, hv1, yat⟩ := ownE_at XO.out HY1.out
        subst hv1
        have YC := Lib.hid yat
        clear yat
        go_wp2
        obtain ⟨wd, hwd⟩ : ∃ z, wr.drew = z := ⟨_, rfl⟩
        have hbd : Below wr.heap.size wr wd := by rw [← hwd]; exact (Below.refl _ _).drew
        have X1 := Lib.hid (YC.out.below hbd)
        have X2 := Lib.hid (XX.out.below hbd)
        have HBd := Lib.hid hbd
        have S0 : (fun w' : World => w'.cell? ⟨g1, i1 * 3, none⟩ = some (.int .i64 y1.ts) ∧ w'.cell? ⟨g1, i1 * 3 + 1, none⟩ = some (.slice y1.A y1.n y1.c) ∧ w'.cell? ⟨g1, i1 * 3 + 2, none⟩ = some (.string y1.ln) ∧ w'.cell? ⟨gx, jx * 3, none⟩ = some (.int .i64 x.ts) ∧ w'.cell? ⟨gx, jx * 3 + 1, none⟩ = some (.slice x.A x.n x.c) ∧ w'.cell? ⟨gx, jx * 3 + 2, none⟩ = some (.string x.ln) ∧ True) wr.drew := by rw [hwd]; exact ⟨X1.out.c0, X1.out.c1, X1.out.c2, X2.out.c0, X2.out.c1, X2.out.c2, trivial⟩
        clear hbd
        refine wp_region_held_drew (S := (fun w' : World => w'.cell? ⟨g1, i1 * 3, none⟩ = some (.int .i64 y1.ts) ∧ w'.cell? ⟨g1, i1 * 3 + 1, none⟩ = some (.slice y1.A y1.n y1.c) ∧ w'.cell? ⟨g1, i1 * 3 + 2, none⟩ = some (.string y1.ln) ∧ w'.cell? ⟨gx, jx * 3, none⟩ = some (.int .i64 x.ts) ∧ w'.cell? ⟨gx, jx * 3 + 1, none⟩ = some (.slice x.A x.n x.c) ∧ w'.cell? ⟨gx, jx * 3 + 2, none⟩ = some (.string x.ln) ∧ True)) (by kernel_rfl) S0 (fun hS => ?_)
        rw [hwd] at hS ⊢
        clear S0 hwd
        refine tV 0 ?_; refine tV 1 ?_; refine tV 2 ?_; refine tV 3 ?_; refine tV 4 ?_; refine tV 5 ?_; refine tV 6 ?_; refine tH 7 ?_; refine tV 8 ?_; refine tV 9 ?_; refine tV 10 ?_; refine tH 11 ?_; refine tV 12 ?_
        refine rdy [13] ?_
        refine rdC (fun K hK => ?_) AllReadyH.nil
        go_simp
        go_at_call 25
        refine (AH1.out wd X1.out.good X2.out.good).mono ?_
        rintro e wz ⟨rfl, hbz⟩
        have hSz : (fun w' : World => w'.cell? ⟨g1, i1 * 3, none⟩ = some (.int .i64 y1.ts) ∧ w'.cell? ⟨g1, i1 * 3 + 1, none⟩ = some (.slice y1.A y1.n y1.c) ∧ w'.cell? ⟨g1, i1 * 3 + 2, none⟩ = some (.string y1.ln) ∧ w'.cell? ⟨gx, jx * 3, none⟩ = some (.int .i64 x.ts) ∧ w'.cell? ⟨gx, jx * 3 + 1, none⟩ = some (.slice x.A x.n x.c) ∧ w'.cell? ⟨gx, jx * 3 + 2, none⟩ = some (.string x.ln) ∧ True) wz := ⟨(X1.out.below hbz).c0, (X1.out.below hbz).c1, (X1.out.below hbz).c2, (X2.out.below hbz).c0, (X2.out.below hbz).c1, (X2.out.below hbz).c2, trivial⟩
        have HBZ := Lib.hid (hop HBd.out (Nat.le_refl _) hbz)
        refine hK.out _ _ hSz (fun _ => ?_)
        clear hK K hS hSz hbz X1 X2 HBd
        try simp only [Act.put, pz1, pz2, pz3]
        refine tV 14 ?_; refine tV 15 ?_; refine tV 16 ?_
        refine wpAnyH_done (by kernel_rfl) ?_ _
        replace XX := Lib.hid (XX.out.below HBZ.out)
        replace PO := Lib.hid (PO.out.below HBZ.out)
        replace XO := Lib.hid (XO.out.below HBZ.out)
        replace DO := Lib.hid (DO.out.below HBZ.out)
        replace HBv := Lib.hid (hop HBv.out (Nat.le_refl _) HBZ.out)
        (try simp only [ha21])
        clear HBZ AH1 HY1 YC ha21
        obtain ⟨wr, hwr⟩ : ∃ z, z = wz := ⟨_, rfl⟩
        subst hwr
        cases mo2 with
        | false =>
          obtain rfl := I4.out rfl
          rw [Bool.and_true] at AN
          clear I3 I4
          obtain ⟨v0, hv0⟩ : ∃ v, v = wr := ⟨_, rfl⟩
          subst hv0
          have HB0 := Lib.hid (Below.refl v0.heap.size v0)
          go_wp2
          go_loopw [33, 34] (fun tv kv wx => ∃ (k : Nat) (bo : Bool), k ≤ pn ∧ tv = .bool bo ∧ kv = .int .i64 (k : Nat) ∧ Hid (thereB Lp x.b k = bo) ∧ Hid (Below v0.heap.size v0 wx)) (fun _ kv _ => pn - (intOf kv).toNat)
          case atStart => exact ⟨0, false, Nat.zero_le _, rfl, rfl, Lib.hid rfl, HB0⟩
          case round =>
            clear HB0
            obtain ⟨k, bo, hkm, rfl, rfl, HK, HBk⟩ := hrel
            by_cases hk : k < pn
            · have kI : (k : Int) < (pn : Int) := by omega
              obtain ⟨y, hy⟩ : ∃ y, Lp[k]? = some y := ⟨_, List.getElem?_eq_getElem (by rw [HPN.out]; exact hk)⟩
              have NXT := Lib.hid (there_next Lp x.b k y hy)
              cases bo with
              | true =>
                have HK2 := Lib.hid (show thereB Lp x.b (k + 1) = true from by rw [NXT.out, HK.out]; rfl)
                clear HK NXT hy
                go_wp2
                go_quiet (fail)
                generalize hw4 : World.drewN _ _ = w4
                have hb4 := Lib.hid (show Below v0.heap.size v0 w4 from by rw [← hw4]; exact below_drewN HBk.out _)
                clear hw4
                go_wp2
                go_round
                case rel => exact ⟨k + 1, true, by omega, rfl, by go_num, HK2, hb4⟩
                case measure => first | (simp [intOf]; done) | (simp [intOf]; omega)
              | false =>
                have HY := Lib.hid hy
                have XW := Lib.hid (XX.out.below HBk.out)
                obtain ⟨gp, hpA, yat⟩ := ownE_at (PO.out.below HBk.out) hy
                subst hpA
                have YY := Lib.hid yat
                have HK2 := Lib.hid (show thereB Lp x.b (k + 1) = sameE y.b x.b from by rw [NXT.out, HK.out]; rfl)
                obtain ⟨q, hq⟩ : ∃ q, sameE y.b x.b = q := ⟨_, rfl⟩
                rw [hq] at HK2
                have SM := Lib.hid (fun wd (h1 : Good 0 wd y) (h2 : Good 0 wd x) => sameG y x wd h1 h2)
                simp only [hq] at SM
                clear hy yat HK NXT hq
                go_wp2
                obtain ⟨wd, hwd⟩ : ∃ z, wr.drew = z := ⟨_, rfl⟩
                have hbd : Below wr.heap.size wr wd := by rw [← hwd]; exact (Below.refl _ _).drew
                have X1 := Lib.hid (YY.out.below hbd)
                have X2 := Lib.hid (XW.out.below hbd)
                have HBd := Lib.hid hbd
                have S0 : (fun w' : World => w'.cell? ⟨gp, k * 3, none⟩ = some (.int .i64 y.ts) ∧ w'.cell? ⟨gp, k * 3 + 1, none⟩ = some (.slice y.A y.n y.c) ∧ w'.cell? ⟨gp, k * 3 + 2, none⟩ = some (.string y.ln) ∧ w'.cell? ⟨gx, jx * 3, none⟩ = some (.int .i64 x.ts) ∧ w'.cell? ⟨gx, jx * 3 + 1, none⟩ = some (.slice x.A x.n x.c) ∧ w'.cell? ⟨gx, jx * 3 + 2, none⟩ = some (.string x.ln) ∧ True) wr.drew := by rw [hwd]; exact ⟨X1.out.c0, X1.out.c1, X1.out.c2, X2.out.c0, X2.out.c1, X2.out.c2, trivial⟩
                clear hbd
                refine wp_region_held_drew (S := (fun w' : World => w'.cell? ⟨gp, k * 3, none⟩ = some (.int .i64 y.ts) ∧ w'.cell? ⟨gp, k * 3 + 1, none⟩ = some (.slice y.A y.n y.c) ∧ w'.cell? ⟨gp, k * 3 + 2, none⟩ = some (.string y.ln) ∧ w'.cell? ⟨gx, jx * 3, none⟩ = some (.int .i64 x.ts) ∧ w'.cell? ⟨gx, jx * 3 + 1, none⟩ = some (.slice x.A x.n x.c) ∧ w'.cell? ⟨gx, jx * 3 + 2, none⟩ = some (.string x.ln) ∧ True)) (by kernel_rfl) S0 (fun hS => ?_)
                rw [hwd] at hS ⊢
                clear S0 hwd
                refine tV 0 ?_; refine tV 1 ?_; refine tV 2 ?_; refine tV 3 ?_; refine tV 4 ?_; refine tH 5 ?_; refine tV 6 ?_; refine tV 7 ?_; refine tV 8 ?_; refine tH 9 ?_
                refine rdy [10] ?_
                refine rdC (fun K hK => ?_) AllReadyH.nil
                go_simp
                go_at_call 26
                refine (SM.out wd X1.out.good X2.out.good).mono ?_
                rintro e wz ⟨rfl, hbz⟩
                have hSz : (fun w' : World => w'.cell? ⟨gp, k * 3, none⟩ = some (.int .i64 y.ts) ∧ w'.cell? ⟨gp, k * 3 + 1, none⟩ = some (.slice y.A y.n y.c) ∧ w'.cell? ⟨gp, k * 3 + 2, none⟩ = some (.string y.ln) ∧ w'.cell? ⟨gx, jx * 3, none⟩ = some (.int .i64 x.ts) ∧ w'.cell? ⟨gx, jx * 3 + 1, none⟩ = some (.slice x.A x.n x.c) ∧ w'.cell? ⟨gx, jx * 3 + 2, none⟩ = some (.string x.ln) ∧ True) wz := ⟨(X1.out.below hbz).c0, (X1.out.below hbz).c1, (X1.out.below hbz).c2, (X2.out.below hbz).c0, (X2.out.below hbz).c1, (X2.out.below hbz).c2, trivial⟩
                have HBZ := Lib.hid (hop HBd.out (Nat.le_refl _) hbz)
                refine hK.out _ _ hSz (fun _ => ?_)
                clear hK K hS hSz hbz X1 X2 HBd
                try simp only [Act.put, pz1, pz2, pz3]
                refine tV 11 ?_; refine tV 12 ?_
                refine wpAnyH_done (by kernel_rfl) ?_ _
                have hbz2 := Lib.hid (hop HBk.out (Nat.le_refl _) HBZ.out)
                clear HBZ SM
                go_wp2
                go_round
                case rel => exact ⟨k + 1, q, by omega, rfl, by go_num, HK2, hbz2⟩
                case measure => first | (simp [intOf]; done) | (simp [intOf]; omega)
            · have kI : ¬ (k : Int) < (pn : Int) := by omega
              obtain rfl : pn = k := by omega
              obtain rfl : bo = ia := HK.out.symm.trans AN.out
              have HBO := Lib.hid (hop HBv.out (Nat.le_refl _) HBk.out)
              clear HK AN HBk
              cases bo
              all_goals
                go_wp2
                go_round
                case rel => exact ⟨jx + 1, by omega, by go_num, HBO⟩
                case measure => first | (simp [intOf]; done) | (simp [intOf]; omega)
        | true =>
          cases ia with
          | false =>
            rw [Bool.false_and] at AN
            obtain ⟨u2, hu2, _⟩ := I3.out rfl
            rw [← DM.out] at hu2
            obtain ⟨y2, i2, _, _, hyl2⟩ := last_at hu2
            rw [HDN.out] at hyl2
            have nI2 : (dn : Int) > 0 := by omega
            have nI2b : (0 : Int) < (dn : Int) := by omega
            have nN2 : 0 < dn := by omega
            have dN2 : decide (0 < dn) = true := decide_eq_true nN2
            clear I3 I4 hu2 hyl2
            go_wp2
            obtain ⟨wd, hwd⟩ : ∃ z, wr.drew = z := ⟨_, rfl⟩
            have hb4 : Below wr.heap.size wr wd := by rw [← hwd]; exact (Below.refl _ _).drew
            have S0 : (fun _ : World => True) wr.drew := trivial
            refine wp_region_held_drew (S := (fun _ : World => True)) (by kernel_rfl) S0 (fun hS => ?_)
            rw [hwd]
            clear S0 hwd
            refine tV 0 ?_; refine tV 1 ?_
            refine tN 2 ?_; refine tN 3 ?_; refine tN 4 ?_; refine tN 5 ?_; refine tN 6 ?_; refine tN 7 ?_; refine tN 8 ?_; refine tN 9 ?_; refine tN 10 ?_; refine tN 11 ?_; refine tN 12 ?_; refine tN 13 ?_; refine tN 14 ?_
            refine tV 15 ?_; refine tV 16 ?_
            refine wpAnyH_done (by kernel_rfl) ?_ _
            clear hS
            replace XX := Lib.hid (XX.out.below hb4)
            replace PO := Lib.hid (PO.out.below hb4)
            replace XO := Lib.hid (XO.out.below hb4)
            replace DO := Lib.hid (DO.out.below hb4)
            replace HBv := Lib.hid (hop HBv.out (Nat.le_refl _) hb4)
            clear hb4
            obtain ⟨wr, hwr⟩ : ∃ z, z = wd := ⟨_, rfl⟩
            subst hwr
            obtain ⟨v0, hv0⟩ : ∃ v, v = wr := ⟨_, rfl⟩
            subst hv0
            have HB0 := Lib.hid (Below.refl v0.heap.size v0)
            go_wp2
            go_loopw [33, 34] (fun tv kv wx => ∃ (k : Nat) (bo : Bool), k ≤ pn ∧ tv = .bool bo ∧ kv = .int .i64 (k : Nat) ∧ Hid (thereB Lp x.b k = bo) ∧ Hid (Below v0.heap.size v0 wx)) (fun _ kv _ => pn - (intOf kv).toNat)
            case atStart => exact ⟨0, false, Nat.zero_le _, rfl, rfl, Lib.hid rfl, HB0⟩
            case round =>
              clear HB0
              obtain ⟨k, bo, hkm, rfl, rfl, HK, HBk⟩ := hrel
              by_cases hk : k < pn
              · have kI : (k : Int) < (pn : Int) := by omega
                obtain ⟨y, hy⟩ : ∃ y, Lp[k]? = some y := ⟨_, List.getElem?_eq_getElem (by rw [HPN.out]; exact hk)⟩
                have NXT := Lib.hid (there_next Lp x.b k y hy)
                cases bo with
                | true =>
                  have HK2 := Lib.hid (show thereB Lp x.b (k + 1) = true from by rw [NXT.out, HK.out]; rfl)
                  clear HK NXT hy
                  go_wp2
                  go_quiet (fail)
                  generalize hw4 : World.drewN _ _ = w4
                  have hb4 := Lib.hid (show Below v0.heap.size v0 w4 from by rw [← hw4]; exact below_drewN HBk.out _)
                  clear hw4
                  go_wp2
                  go_round
                  case rel => exact ⟨k + 1, true, by omega, rfl, by go_num, HK2, hb4⟩
                  case measure => first | (simp [intOf]; done) | (simp [intOf]; omega)
                | false =>
                  have HY := Lib.hid hy
                  have XW := Lib.hid (XX.out.below HBk.out)
                  obtain ⟨gp, hpA, yat⟩ := ownE_at (PO.out.below HBk.out) hy
                  subst hpA
                  have YY := Lib.hid yat
                  have HK2 := Lib.hid (show thereB Lp x.b (k + 1) = sameE y.b x.b from by rw [NXT.out, HK.out]; rfl)
                  obtain ⟨q, hq⟩ : ∃ q, sameE y.b x.b = q := ⟨_, rfl⟩
                  rw [hq] at HK2
                  have SM := Lib.hid (fun wd (h1 : Good 0 wd y) (h2 : Good 0 wd x) => sameG y x wd h1 h2)
                  simp only [hq] at SM
                  clear hy yat HK NXT hq
                  go_wp2
                  obtain ⟨wd, hwd⟩ : ∃ z, wr.drew = z := ⟨_, rfl⟩
                  have hbd : Below wr.heap.size wr wd := by rw [← hwd]; exact (Below.refl _ _).drew
                  have X1 := Lib.hid (YY.out.below hbd)
                  have X2 := Lib.hid (XW.out.below hbd)
                  have HBd := Lib.hid hbd
                  have S0 : (fun w' : World => w'.cell? ⟨gp, k * 3, none⟩ = some (.int .i64 y.ts) ∧ w'.cell? ⟨gp, k * 3 + 1, none⟩ = some (.slice y.A y.n y.c) ∧ w'.cell? ⟨gp, k * 3 + 2, none⟩ = some (.string y.ln) ∧ w'.cell? ⟨gx, jx * 3, none⟩ = some (.int .i64 x.ts) ∧ w'.cell? ⟨gx, jx * 3 + 1, none⟩ = some (.slice x.A x.n x.c) ∧ w'.cell? ⟨gx, jx * 3 + 2, none⟩ = some (.string x.ln) ∧ True) wr.drew := by rw [hwd]; exact ⟨X1.out.c0, X1.out.c1, X1.out.c2, X2.out.c0, X2.out.c1, X2.out.c2, trivial⟩
                  clear hbd
                  refine wp_region_held_drew (S := (fun w' : World => w'.cell? ⟨gp, k * 3, none⟩ = some (.int .i64 y.ts) ∧ w'.cell? ⟨gp, k * 3 + 1, none⟩ = some (.slice y.A y.n y.c) ∧ w'.cell? ⟨gp, k * 3 + 2, none⟩ = some (.string y.ln) ∧ w'.cell? ⟨gx, jx * 3, none⟩ = some (.int .i64 x.ts) ∧ w'.cell? ⟨gx, jx * 3 + 1, none⟩ = some (.slice x.A x.n x.c) ∧ w'.cell? ⟨gx, jx * 3 + 2, none⟩ = some (.string x.ln) ∧ True)) (by kernel_rfl) S0 (fun hS => ?_)
                  rw [hwd] at hS ⊢
                  clear S0 hwd
                  refine tV 0 ?_; refine tV 1 ?_; refine tV 2 ?_; refine tV 3 ?_; refine tV 4 ?_; refine tH 5 ?_; refine tV 6 ?_; refine tV 7 ?_; refine tV 8 ?_; refine tH 9 ?_
                  refine rdy [10] ?_
                  refine rdC (fun K hK => ?_) AllReadyH.nil
                  go_simp
                  go_at_call 26
                  refine (SM.out wd X1.out.good X2.out.good).mono ?_
                  rintro e wz ⟨rfl, hbz⟩
                  have hSz : (fun w' : World => w'.cell? ⟨gp, k * 3, none⟩ = some (.int .i64 y.ts) ∧ w'.cell? ⟨gp, k * 3 + 1, none⟩ = some (.slice y.A y.n y.c) ∧ w'.cell? ⟨gp, k * 3 + 2, none⟩ = some (.string y.ln) ∧ w'.cell? ⟨gx, jx * 3, none⟩ = some (.int .i64 x.ts) ∧ w'.cell? ⟨gx, jx * 3 + 1, none⟩ = some (.slice x.A x.n x.c) ∧ w'.cell? ⟨gx, jx * 3 + 2, none⟩ = some (.string x.ln) ∧ True) wz := ⟨(X1.out.below hbz).c0, (X1.out.below hbz).c1, (X1.out.below hbz).c2, (X2.out.below hbz).c0, (X2.out.below hbz).c1, (X2.out.below hbz).c2, trivial⟩
                  have HBZ := Lib.hid (hop HBd.out (Nat.le_refl _) hbz)
                  refine hK.out _ _ hSz (fun _ => ?_)
                  clear hK K hS hSz hbz X1 X2 HBd
                  try simp only [Act.put, pz1, pz2, pz3]
                  refine tV 11 ?_; refine tV 12 ?_
                  refine wpAnyH_done (by kernel_rfl) ?_ _
                  have hbz2 := Lib.hid (hop HBk.out (Nat.le_refl _) HBZ.out)
                  clear HBZ SM
                  go_wp2
                  go_round
                  case rel => exact ⟨k + 1, q, by omega, rfl, by go_num, HK2, hbz2⟩
                  case measure => first | (simp [intOf]; done) | (simp [intOf]; omega)
              · have kI : ¬ (k : Int) < (pn : Int) := by omega
                obtain rfl : pn = k := by omega
                obtain rfl : bo = false := HK.out.symm.trans AN.out
                have HBO := Lib.hid (hop HBv.out (Nat.le_refl _) HBk.out)
                clear HK AN HBk
                skip
                all_goals
                  go_wp2
                  go_round
                  case rel => exact ⟨jx + 1, by omega, by go_num, HBO⟩
                  case measure => first | (simp [intOf]; done) | (simp [intOf]; omega)
          | true =>
            obtain ⟨u2, hu2, ha2⟩ := I3.out rfl
            rw [← DM.out] at hu2
            obtain ⟨y2, i2, hy2, hyb2, hyl2⟩ := last_at hu2
            rw [HDN.out] at hyl2
            have HY2 := Lib.hid hy2
            have nI2 : (dn : Int) > 0 := by omega
            have nI2b : (0 : Int) < (dn : Int) := by omega
            have nN2 : 0 < dn := by omega
            have dN2 : decide (0 < dn) = true := decide_eq_true nN2
            have wI2 : IntKind.i64.wrap ((dn : Int) - 1) = (i2 : Int) := by rw [IntKind.wrap_i64]; omega
            have iI2 : (i2 : Int) < (dn : Int) := by omega
            rw [← hyb2] at ha2
            obtain ⟨a2, hak⟩ : ∃ z, aheadB y2.b x.b asc = z := ⟨_, rfl⟩
            have ha22 : (!a2) = ib := by rw [← ha2, ← hak]; rfl
            have AH2 := Lib.hid (fun wd (h1 : Good 0 wd y2) (h2 : Good 0 wd x) => aheadG y2 x asc wd h1 h2)
            simp only [hak] at AH2
            clear hu2 ha2 hy2 hyb2 hyl2 hak
            clear I3 I4
            rw [Bool.true_and] at AN
            obtain ⟨g2, hv2, yat⟩ := ownE_at DO.out HY2.out
            subst hv2
            have YC := Lib.hid yat
            clear yat
            go_wp2
            obtain ⟨wd, hwd⟩ : ∃ z, wr.drew = z := ⟨_, rfl⟩
            have hbd : Below wr.heap.size wr wd := by rw [← hwd]; exact (Below.refl _ _).drew
            have X1 := Lib.hid (YC.out.below hbd)
            have X2 := Lib.hid (XX.out.below hbd)
            have HBd := Lib.hid hbd
            have S0 : (fun w' : World => w'.cell? ⟨g2, i2 * 3, none⟩ = some (.int .i64 y2.ts) ∧ w'.cell? ⟨g2, i2 * 3 + 1, none⟩ = some (.slice y2.A y2.n y2.c) ∧ w'.cell? ⟨g2, i2 * 3 + 2, none⟩ = some (.string y2.ln) ∧ w'.cell? ⟨gx, jx * 3, none⟩ = some (.int .i64 x.ts) ∧ w'.cell? ⟨gx, jx * 3 + 1, none⟩ = some (.slice x.A x.n x.c) ∧ w'.cell? ⟨gx, jx * 3 + 2, none⟩ = some (.string x.ln) ∧ True) wr.drew := by rw [hwd]; exact ⟨X1.out.c0, X1.out.c1, X1.out.c2, X2.out.c0, X2.out.c1, X2.out.c2, trivial⟩
            clear hbd
            refine wp_region_held_drew (S := (fun w' : World => w'.cell? ⟨g2, i2 * 3, none⟩ = some (.int .i64 y2.ts) ∧ w'.cell? ⟨g2, i2 * 3 + 1, none⟩ = some (.slice y2.A y2.n y2.c) ∧ w'.cell? ⟨g2, i2 * 3 + 2, none⟩ = some (.string y2.ln) ∧ w'.cell? ⟨gx, jx * 3, none⟩ = some (.int .i64 x.ts) ∧ w'.cell? ⟨gx, jx * 3 + 1, none⟩ = some (.slice x.A x.n x.c) ∧ w'.cell? ⟨gx, jx * 3 + 2, none⟩ = some (.string x.ln) ∧ True)) (by kernel_rfl) S0 (fun hS => ?_)
            rw [hwd] at hS ⊢
            clear S0 hwd
            refine tV 0 ?_; refine tV 1 ?_; refine tV 2 ?_; refine tV 3 ?_; refine tV 4 ?_; refine tV 5 ?_; refine tV 6 ?_; refine tH 7 ?_; refine tV 8 ?_; refine tV 9 ?_; refine tV 10 ?_; refine tH 11 ?_; refine tV 12 ?_
            refine rdy [13] ?_
            refine rdC (fun K hK => ?_) AllReadyH.nil
            go_simp
            go_at_call 25
            refine (AH2.out wd X1.out.good X2.out.good).mono ?_
            rintro e wz ⟨rfl, hbz⟩
            have hSz : (fun w' : World => w'.cell? ⟨g2, i2 * 3, none⟩ = some (.int .i64 y2.ts) ∧ w'.cell? ⟨g2, i2 * 3 + 1, none⟩ = some (.slice y2.A y2.n y2.c) ∧ w'.cell? ⟨g2, i2 * 3 + 2, none⟩ = some (.string y2.ln) ∧ w'.cell? ⟨gx, jx * 3, none⟩ = some (.int .i64 x.ts) ∧ w'.cell? ⟨gx, jx * 3 + 1, none⟩ = some (.slice x.A x.n x.c) ∧ w'.cell? ⟨gx, jx * 3 + 2, none⟩ = some (.string x.ln) ∧ True) wz := ⟨(X1.out.below hbz).c0, (X1.out.below hbz).c1, (X1.out.below hbz).c2, (X2.out.below hbz).c0, (X2.out.below hbz).c1, (X2.out.below hbz).c2, trivial⟩
            have HBZ := Lib.hid (hop HBd.out (Nat.le_refl _) hbz)
            refine hK.out _ _ hSz (fun _ => ?_)
            clear hK K hS hSz hbz X1 X2 HBd
            try simp only [Act.put, pz1, pz2, pz3]
            refine tV 14 ?_; refine tV 15 ?_; refine tV 16 ?_
            refine wpAnyH_done (by kernel_rfl) ?_ _
            replace XX := Lib.hid (XX.out.below HBZ.out)
            replace PO := Lib.hid (PO.out.below HBZ.out)
            replace XO := Lib.hid (XO.out.below HBZ.out)
            replace DO := Lib.hid (DO.out.below HBZ.out)
            replace HBv := Lib.hid (hop HBv.out (Nat.le_refl _) HBZ.out)
            (try simp only [ha22])
            clear HBZ AH2 HY2 YC ha22
            obtain ⟨wr, hwr⟩ : ∃ z, z = wz := ⟨_, rfl⟩
            subst hwr
            obtain ⟨v0, hv0⟩ : ∃ v, v = wr := ⟨_, rfl⟩
            subst hv0
            have HB0 := Lib.hid (Below.refl v0.heap.size v0)
            go_wp2
            go_loopw [33, 34] (fun tv kv wx => ∃ (k : Nat) (bo : Bool), k ≤ pn ∧ tv = .bool bo ∧ kv = .int .i64 (k : Nat) ∧ Hid (thereB Lp x.b k = bo) ∧ Hid (Below v0.heap.size v0 wx)) (fun _ kv _ => pn - (intOf kv).toNat)
            case atStart => exact ⟨0, false, Nat.zero_le _, rfl, rfl, Lib.hid rfl, HB0⟩
            case round =>
              clear HB0
              obtain ⟨k, bo, hkm, rfl, rfl, HK, HBk⟩ := hrel
              by_cases hk : k < pn
              · have kI : (k : Int) < (pn : Int) := by omega
                obtain ⟨y, hy⟩ : ∃ y, Lp[k]? = some y := ⟨_, List.getElem?_eq_getElem (by rw [HPN.out]; exact hk)⟩
                have NXT := Lib.hid (there_next Lp x.b k y hy)
                cases bo with
                | true =>
                  have HK2 := Lib.hid (show thereB Lp x.b (k + 1) = true from by rw [NXT.out, HK.out]; rfl)
                  clear HK NXT hy
                  go_wp2
                  go_quiet (fail)
                  generalize hw4 : World.drewN _ _ = w4
                  have hb4 := Lib.hid (show Below v0.heap.size v0 w4 from by rw [← hw4]; exact below_drewN HBk.out _)
                  clear hw4
                  go_wp2
                  go_round
                  case rel => exact ⟨k + 1, true, by omega, rfl, by go_num, HK2, hb4⟩
                  case measure => first | (simp [intOf]; done) | (simp [intOf]; omega)
                | false =>
                  have HY := Lib.hid hy
                  have XW := Lib.hid (XX.out.below HBk.out)
                  obtain ⟨gp, hpA, yat⟩ := ownE_at (PO.out.below HBk.out) hy
                  subst hpA
                  have YY := Lib.hid yat
                  have HK2 := Lib.hid (show thereB Lp x.b (k + 1) = sameE y.b x.b from by rw [NXT.out, HK.out]; rfl)
                  obtain ⟨q, hq⟩ : ∃ q, sameE y.b x.b = q := ⟨_, rfl⟩
                  rw [hq] at HK2
                  have SM := Lib.hid (fun wd (h1 : Good 0 wd y) (h2 : Good 0 wd x) => sameG y x wd h1 h2)
                  simp only [hq] at SM
                  clear hy yat HK NXT hq
                  go_wp2
                  obtain ⟨wd, hwd⟩ : ∃ z, wr.drew = z := ⟨_, rfl⟩
                  have hbd : Below wr.heap.size wr wd := by rw [← hwd]; exact (Below.refl _ _).drew
                  have X1 := Lib.hid (YY.out.below hbd)
                  have X2 := Lib.hid (XW.out.below hbd)
                  have HBd := Lib.hid hbd
                  have S0 : (fun w' : World => w'.cell? ⟨gp, k * 3, none⟩ = some (.int .i64 y.ts) ∧ w'.cell? ⟨gp, k * 3 + 1, none⟩ = some (.slice y.A y.n y.c) ∧ w'.cell? ⟨gp, k * 3 + 2, none⟩ = some (.string y.ln) ∧ w'.cell? ⟨gx, jx * 3, none⟩ = some (.int .i64 x.ts) ∧ w'.cell? ⟨gx, jx * 3 + 1, none⟩ = some (.slice x.A x.n x.c) ∧ w'.cell? ⟨gx, jx * 3 + 2, none⟩ = some (.string x.ln) ∧ True) wr.drew := by rw [hwd]; exact ⟨X1.out.c0, X1.out.c1, X1.out.c2, X2.out.c0, X2.out.c1, X2.out.c2, trivial⟩
                  clear hbd
                  refine wp_region_held_drew (S := (fun w' : World => w'.cell? ⟨gp, k * 3, none⟩ = some (.int .i64 y.ts) ∧ w'.cell? ⟨gp, k * 3 + 1, none⟩ = some (.slice y.A y.n y.c) ∧ w'.cell? ⟨gp, k * 3 + 2, none⟩ = some (.string y.ln) ∧ w'.cell? ⟨gx, jx * 3, none⟩ = some (.int .i64 x.ts) ∧ w'.cell? ⟨gx, jx * 3 + 1, none⟩ = some (.slice x.A x.n x.c) ∧ w'.cell? ⟨gx, jx * 3 + 2, none⟩ = some (.string x.ln) ∧ True)) (by kernel_rfl) S0 (fun hS => ?_)
                  rw [hwd] at hS ⊢
                  clear S0 hwd
                  refine tV 0 ?_; refine tV 1 ?_; refine tV 2 ?_; refine tV 3 ?_; refine tV 4 ?_; refine tH 5 ?_; refine tV 6 ?_; refine tV 7 ?_; refine tV 8 ?_; refine tH 9 ?_
                  refine rdy [10] ?_
                  refine rdC (fun K hK => ?_) AllReadyH.nil
                  go_simp
                  go_at_call 26
                  refine (SM.out wd X1.out.good X2.out.good).mono ?_
                  rintro e wz ⟨rfl, hbz⟩
                  have hSz : (fun w' : World => w'.cell? ⟨gp, k * 3, none⟩ = some (.int .i64 y.ts) ∧ w'.cell? ⟨gp, k * 3 + 1, none⟩ = some (.slice y.A y.n y.c) ∧ w'.cell? ⟨gp, k * 3 + 2, none⟩ = some (.string y.ln) ∧ w'.cell? ⟨gx, jx * 3, none⟩ = some (.int .i64 x.ts) ∧ w'.cell? ⟨gx, jx * 3 + 1, none⟩ = some (.slice x.A x.n x.c) ∧ w'.cell? ⟨gx, jx * 3 + 2, none⟩ = some (.string x.ln) ∧ True) wz := ⟨(X1.out.below hbz).c0, (X1.out.below hbz).c1, (X1.out.below hbz).c2, (X2.out.below hbz).c0, (X2.out.below hbz).c1, (X2.out.below hbz).c2, trivial⟩
                  have HBZ := Lib.hid (hop HBd.out (Nat.le_refl _) hbz)
                  refine hK.out _ _ hSz (fun _ => ?_)
                  clear hK K hS hSz hbz X1 X2 HBd
                  try simp only [Act.put, pz1, pz2, pz3]
                  refine tV 11 ?_; refine tV 12 ?_
                  refine wpAnyH_done (by kernel_rfl) ?_ _
                  have hbz2 := Lib.hid (hop HBk.out (Nat.le_refl _) HBZ.out)
                  clear HBZ SM
                  go_wp2
                  go_round
                  case rel => exact ⟨k + 1, q, by omega, rfl, by go_num, HK2, hbz2⟩
                  case measure => first | (simp [intOf]; done) | (simp [intOf]; omega)
              · have kI : ¬ (k : Int) < (pn : Int) := by omega
                obtain rfl : pn = k := by omega
                obtain rfl : bo = ib := HK.out.symm.trans AN.out
                have HBO := Lib.hid (hop HBv.out (Nat.le_refl _) HBk.out)
                clear HK AN HBk
                cases bo
                all_goals
                  go_wp2
                  go_round
                  case rel => exact ⟨jx + 1, by omega, by go_num, HBO⟩
                  case measure => first | (simp [intOf]; done) | (simp [intOf]; omega)
    · have jI : ¬ (jx : Int) < (qn : Int) := by omega
      have HEND := Lib.hid (hop HB.out (Nat.le_refl _) HBv.out)
      have pq : (pn : Int) ≤ (qn : Int) := by omega
      clear EP PM XM DM
      cases mo1 <;> cases mo2
      all_goals
        have hmm := HMM.out
        first | (obtain rfl : mm = true := hmm.symm) | (obtain rfl : mm = false := hmm.symm)
        clear HMM hmm
        go_wp2
        go_ret
        exact ⟨rfl, HEND.out⟩
end Go.Proofs.YtdaainifkldcpaaGreatDoor
