-- shaken
import Derived.Test.YtbkpoimaienhpaaGreatDoorNfaStep
import Derived.Test.YtbkpoimaienhpaaGreatDoorMem
namespace Go.Proofs.YtbkpoimaienhpaaGreatDoor
open Go.RowKit
set_option linter.unusedVariables false
set_option linter.unusedSimpArgs false
def PrgAt (w : World) (b : Nat) (x : NodeT) : Prop := NF x ∧ sizeT x ≤ 200 ∧ ∃ (base : Nat) (v : Value) (t : ByteArray), PG base w b v (.int .i64 ((progT x).2 : Nat)) (.int .i64 (sizeT x)) (.string t) (progT x).1 ∧ t.data.toList = putT x
theorem PrgAt.below {w w' : World} {b : Nat} {x : NodeT} (h : PrgAt w b x) (hb : Below w.heap.size w w') : PrgAt w' b x := by
  obtain ⟨h1, h2, base, v, t, h3, h4⟩ := h
  exact ⟨h1, h2, base, v, t, h3.below hb, h4⟩
theorem PrgAt.lt {w : World} {b : Nat} {x : NodeT} (h : PrgAt w b x) : b < w.heap.size := by
  obtain ⟨h1, h2, base, v, t, h3, h4⟩ := h
  exact h3.lt
noncomputable def wholeB (l : List UInt8) (x : NodeT) : Bool := @decide (Whole l x) (Classical.propDecidable _)
noncomputable def foundB (l : List UInt8) (x : NodeT) : Bool := @decide (FoundN l x) (Classical.propDecidable _)
theorem wholeB_iff (l : List UInt8) (x : NodeT) : wholeB l x = true ↔ Whole l x := by unfold wholeB; exact @decide_eq_true_iff _ (Classical.propDecidable _)
theorem foundB_iff (l : List UInt8) (x : NodeT) : foundB l x = true ↔ FoundN l x := by unfold foundB; exact @decide_eq_true_iff _ (Classical.propDecidable _)
theorem wholeB_is {l : List UInt8} {x : NodeT} {b : Bool} (h : b = true ↔ Whole l x) : b = wholeB l x := by
  rw [Bool.eq_iff_iff, wholeB_iff]; exact h
theorem foundB_is {l : List UInt8} {x : NodeT} {b : Bool} (h : b = true ↔ FoundN l x) : b = foundB l x := by
  rw [Bool.eq_iff_iff, foundB_iff]; exact h
theorem FrG.mono {base B : Nat} {w : World} {fb sb : Nat} {v : Value} {f : Fr} (h : FrG base w fb sb v f) (hB : B ≤ base) : FrG B w fb sb v f :=
  ⟨h.blk, h.seen, OwnR.mono h.row hB, by have := h.lo; omega⟩
theorem FrG.over {base : Nat} {W w w' : World} {gb tb : Nat} {u u' : Value} {g : Fr} (h : FrG base w gb tb u g) (hb : Below base W w) (hB : base ≤ W.heap.size) (k : KG (fun k => k = gb ∨ k = tb) w u w' u') : Below base W w' :=
  KG.over hb hB k (fun i hi => by
    have := h.lo
    rcases hi with rfl | rfl
    · exact this.1
    · exact this.2) (fun i hi => (World.ownsRow.lt h.row i hi).1)
theorem FrAt.in_ {T : List St} {s : List UInt8} {st : Nat} {B : Nat → Prop} {i : Nat} {f : Fr} (h : FrAt T s st B i f) : ∀ q, q ∈ f.places → q < T.length := fun q hq => by
  obtain ⟨y, hy, _⟩ := ((h.places q).1 hq).2
  exact (List.getElem?_eq_some_iff.1 hy).1
theorem newF_left (m : Nat) : (newF m).left ≤ m := by unfold Fr.left newF; exact Nat.le_trans List.count_le_length (by simp)
def RunR (base : Nat) (W : World) (T : List St) (s : List UInt8) (st : Nat) (B : Nat → Prop) (k : Nat) (nv xv : Value) (wr : World) : Prop :=
  ∃ (fa sa : Nat) (va : Value) (f : Fr) (ga ta : Nat) (ua : Value) (g : Fr), nv = .pointer (some ⟨fa, 0, none⟩) ∧ xv = .pointer (some ⟨ga, 0, none⟩) ∧ FrG base wr fa sa va f ∧ FrG base wr ga ta ua g ∧ Apart2 fa sa va ga ta ua ∧ FrAt T s st B k f ∧ f.seen.length = T.length ∧ g.seen.length = T.length ∧ f.places.length ≤ T.length ∧ Below base W wr
set_option maxHeartbeats 6400000 in
set_option maxRecDepth 100000 in
theorem nfaWhole_any (x : NodeT) (b : Nat) (s : ByteArray) (W : World) (h : PrgAt W b x) (hsz : s.size ≤ 4000000000000000000) :
    Calls Tryz.prog 36 #[.pointer (some ⟨b, 0, none⟩), .string s] W fun e w' => e = .returned (.bool (wholeB s.data.toList x)) ∧ Below W.heap.size W w' := by
  obtain ⟨hN, h200, pbase, pv, t, hP, _⟩ := h
  have hwf := hN.canB
  have hst := prog_start hwf
  have hmany := prog_many hN h200
  have HIN := Lib.hid (fun y (hy : y ∈ (progT x).1) => prog_inn hwf hy)
  have FIRST := Lib.hid (fun (m : Nat) (f : Fr) (h : Ent (progT x).1 0 s.data.toList.length (fun p => p = (progT x).2) (newF m) f) => FrAt.first (B := (fun j => j = 0)) rfl h)
  have LAST := Lib.hid (fun (f : Fr) (h : FrAt (progT x).1 s.data.toList (progT x).2 (fun j => j = 0) s.data.toList.length f) => wholeB_is (whole_at hwf h))
  have NONE := Lib.hid (fun (i : Nat) (f : Fr) (hi : i < s.data.toList.length) (h : FrAt (progT x).1 s.data.toList (progT x).2 (fun j => j = 0) i f) (hp : f.places = []) => (wholeB_is (b := false) ⟨fun e => Bool.noConfusion e, fun e => absurd e (whole_none hwf hi h hp)⟩))
  obtain ⟨T, hT⟩ : ∃ T, (progT x).1 = T := ⟨_, rfl⟩
  obtain ⟨st, hst2⟩ : ∃ st, (progT x).2 = st := ⟨_, rfl⟩
  rw [hT, hst2] at FIRST LAST NONE hP hst
  rw [hT] at HIN hmany
  have hlen : s.data.toList.length = s.size := size_toList s
  rw [hlen] at FIRST LAST
  rw [hlen] at NONE
  obtain ⟨r, hr⟩ : ∃ r, wholeB s.data.toList x = r := ⟨_, rfl⟩
  rw [hr] at LAST NONE ⊢
  obtain ⟨A, c, hv⟩ := own_shape hP.row
  subst hv
  have HPD := Lib.hid (show PG pbase W.drew b (.slice A T.length c) (.int .i64 (st : Nat)) (.int .i64 (sizeT x)) (.string t) T from ⟨hP.blk, hP.row⟩)
  have HP := Lib.hid hP
  have MN := Lib.hid (fun w (hb : Blk w b 110 #[.slice A T.length c, .int .i64 (st : Nat), .int .i64 (sizeT x), .string t]) => nfaMany_any b T.length c A _ _ _ w hb)
  have NF := Lib.hid (fun w => newFront_any T.length (by omega) w)
  have HLEN := Lib.hid hlen
  obtain ⟨y2, hy2⟩ : ∃ y2, Value.int .i64 (sizeT x) = y2 := ⟨_, rfl⟩
  obtain ⟨y3, hy3⟩ : ∃ y3, Value.string t = y3 := ⟨_, rfl⟩
  rw [hy2, hy3] at HPD HP MN
  have HT0 : 0 < T.length := by omega
  have HEN := fun (i : Nat) (hi : i ≤ s.size) (f : Fr) => enter_any T W.heap.size pbase b (.slice A T.length c) (.int .i64 (st : Nat)) y2 y3 i s.size HIN.out (by omega) (by omega) (by omega) f
  replace HEN := Lib.hid HEN
  clear hT hst2 hlen hr hP hwf hN h200 hy2 hy3
  go_enter Tryz.func36, Tryz.ntmps36
  go_wp2
  refine wp_region_held_drew (S := fun w' => True) (by kernel_rfl) trivial (fun hHeld => ?_)
  refine tV 0 ?_; refine tV 1 ?_; refine tV 2 ?_; refine tV 5 ?_; refine tV 6 ?_; refine tV 7 ?_
  refine rdy [3] ?_
  refine rdC (fun K hK => ?_) AllReadyH.nil
  go_simp
  go_at_call 49
  refine (MN.out _ HPD.out.blk).mono ?_
  rintro e wm ⟨rfl, rfl⟩
  refine hK.out _ _ trivial (fun _ => ?_)
  clear hK K
  try simp only [Act.put, pz1, pz2, pz3]
  refine rdy [4] ?_
  refine rdC (fun K hK => ?_) AllReadyH.nil
  go_simp
  go_at_call 48
  refine (NF.out _).mono ?_
  rintro e wa ⟨rfl, ha1, ha2, ha3⟩
  have HA1 := Lib.hid (show FrG W.heap.size wa (W.heap.size + 1) W.heap.size (.slice none 0 0) (newF T.length) from ha1)
  have HA2 := Lib.hid (show Below W.heap.size W wa from (Below.drew (Below.refl W.heap.size W)).trans ha2)
  have HA3 := Lib.hid (show wa.heap.size = W.heap.size + 2 from ha3)
  have HPA := Lib.hid (HPD.out.below ha2)
  clear ha1 ha2 ha3
  refine hK.out _ _ trivial (fun _ => ?_)
  clear hK K
  try simp only [Act.put, pz1, pz2, pz3]
  refine rdy [8] ?_
  refine rdC (fun K hK => ?_) AllReadyH.nil
  go_simp
  go_at_call 49
  refine (MN.out _ HPA.out.blk).mono ?_
  rintro e wm ⟨rfl, rfl⟩
  refine hK.out _ _ trivial (fun _ => ?_)
  clear hK K
  try simp only [Act.put, pz1, pz2, pz3]
  refine rdy [9] ?_
  refine rdC (fun K hK => ?_) AllReadyH.nil
  go_simp
  go_at_call 48
  refine (NF.out _).mono ?_
  rintro e wb ⟨rfl, hb1, hb2, hb3⟩
  have HB1 := Lib.hid hb1
  have HB2 := Lib.hid hb2
  have HPB := Lib.hid (HPA.out.below hb2)
  clear hb1 hb2 hb3
  refine hK.out _ _ trivial (fun _ => ?_)
  clear hK K
  try simp only [Act.put, pz1, pz2, pz3]
  refine tV 10 ?_; refine tV 11 ?_
  refine wpAnyH_done (by kernel_rfl) ?_ _
  clear hHeld MN NF
  have hFA := (HA1.out.below HB2.out)
  have hFB := HB1.out.mono (show W.heap.size ≤ wa.heap.size from HA2.out.size)
  have hsa : wa.heap.size = W.heap.size + 2 := HA3.out
  have hap : Apart2 (W.heap.size + 1) W.heap.size (.slice none 0 0) (wa.heap.size + 1) wa.heap.size (.slice none 0 0) := ⟨by omega, by omega, fun k hk => by cases hk⟩
  have hbl : Below W.heap.size W wb := hop HA2.out (Nat.le_refl _) HB2.out
  have hWb : W.heap.size ≤ wb.heap.size := hbl.size
  have E1 := Lib.hid (HEN.out 0 (Nat.zero_le _) (newF T.length) (W.heap.size + 1) W.heap.size st (.slice none 0 0) wb HPB.out hFA hst List.length_replicate (by have := newF_left T.length; show 0 + _ ≤ _; omega) hWb)
  have HFA := Lib.hid hFA
  have HFB := Lib.hid hFB
  have HAP := Lib.hid hap
  have HBL := Lib.hid hbl
  have p1 := HPB.out.blk.cell 1
  obtain ⟨fa0, hfa0⟩ : ∃ z, W.heap.size + 1 = z := ⟨_, rfl⟩
  obtain ⟨fb0, hfb0⟩ : ∃ z, wa.heap.size + 1 = z := ⟨_, rfl⟩
  have HFA0 := Lib.hid hfa0
  have HFB0 := Lib.hid hfb0
  obtain ⟨B, hBB⟩ : ∃ z, W.heap.size = z := ⟨_, rfl⟩
  obtain ⟨sb0, hsb0⟩ : ∃ z, wa.heap.size = z := ⟨_, rfl⟩
  rw [hfa0, hBB] at E1 HFA
  rw [hfb0, hBB, hsb0] at HFB
  rw [hfa0, hfb0, hBB, hsb0] at HAP
  rw [hBB] at HBL hWb HEN
  try simp only [List.getD_eq_getElem?_getD]
  try rw [hfa0]
  try rw [hfb0]
  have HBB := Lib.hid hBB
  clear hFA hFB hap hbl hfa0 hfb0 hsa hsb0 hBB HA1 HA2 HA3 HB1 HB2 HPA
  go_wp2_with fail
  refine E1.out.mono ?_
  rintro e w1 ⟨v1, f1, rfl, hf1, he1, hk1⟩
  have hR : RunR B W T s.data.toList st (fun j => j = 0) 0 (.pointer (some ⟨fa0, 0, none⟩)) (.pointer (some ⟨fb0, 0, none⟩)) w1 :=
    ⟨fa0, _, v1, f1, fb0, _, _, newF T.length, rfl, rfl, hf1, HFB.out.kept HFA.out HAP.out.symm hk1, (HAP.out.symm.kept HFB.out hk1).symm, FIRST.out T.length f1 he1, he1.len.trans List.length_replicate, List.length_replicate, by
      have := he1.room
      have h2 := newF_left T.length
      have h3 : (newF T.length).places.length = 0 := rfl
      omega, HFA.out.over HBL.out (by rw [HBB.out]; exact Nat.le_refl _) hk1⟩
  have HR := Lib.hid hR
  clear hR hf1 he1 hk1 E1 FIRST p1
  go_wp2
  go_loopw [5, 6, 29] (fun nv xv kv wr => ∃ (k : Nat), k ≤ s.size ∧ kv = .int .i64 (k : Nat) ∧ RunR B W T s.data.toList st (fun j => j = 0) k nv xv wr) (fun _ _ kv _ => s.size - (intOf kv).toNat)
  case atStart =>
    exact ⟨0, Nat.zero_le _, rfl, HR.out⟩
  case round =>
    obtain ⟨k, hk, rfl, ⟨fa, sa, va, f, ga, ta, ua, g, rfl, rfl, hFr, hGr, hAr, hat, hfl, hgl, hpl, hbr⟩⟩ := hrel
    have HFr := Lib.hid hFr
    have HGr := Lib.hid hGr
    have HAr := Lib.hid hAr
    have HAT := Lib.hid hat
    have HFL := Lib.hid hfl
    have HGL := Lib.hid hgl
    have HBR := Lib.hid hbr
    have c0 := hFr.blk.cell 0
    have c2 := hFr.blk.cell 2
    have hBr : B ≤ wr.heap.size := by have := hbr.size; have h2 := HBB.out; omega
    have HPr := Lib.hid (HP.out.below (by rw [HBB.out]; exact hbr))
    obtain ⟨A2, cc, hv⟩ := own_shape hFr.row
    subst hv
    clear hFr hGr hAr hat hfl hgl hbr
    by_cases h : k < s.size
    · have hIk : (k : Int) < (s.size : Int) := by omega
      by_cases h0 : f.places.length = 0
      · have HZ := Lib.hid (NONE.out k f (by omega) HAT.out (List.eq_nil_of_length_eq_zero h0))
        have h0I : ((f.places.length : Int) == 0) = true := by rw [h0]; rfl
        clear h0
        go_wp2
        go_ret
        exact ⟨by rw [HZ.out]; rfl, HBB.out ▸ HBR.out⟩
      · have h0I : ((f.places.length : Int) == 0) = false := by rw [beq_eq_false_iff_ne]; omega
        obtain ⟨bb, hbb⟩ : ∃ bb, s.data.toList[k]? = some bb := ⟨s.data.toList[k]'(by rw [HLEN.out]; exact h), List.getElem?_eq_getElem _⟩
        have ST := Lib.hid (nfaStep_any T B pbase b (.slice A T.length c) (.int .i64 (st : Nat)) y2 y3 k s bb f g fa sa ga ta _ ua wr HIN.out (by omega) hsz hbb HPr.out HFr.out HGr.out HAr.out hBr HAT.out.in_ HGL.out HT0 (by omega))
        have HBBK := Lib.hid hbb
        clear hbb
        go_wp2_with fail
        refine ST.out.mono ?_
        rintro e w2 ⟨u2, g2, rfl, hg2, he2, hk2⟩
        have hR2 : RunR B W T s.data.toList st (fun j => j = 0) (k + 1) (.pointer (some ⟨ga, 0, none⟩)) (.pointer (some ⟨fa, 0, none⟩)) w2 :=
          ⟨ga, ta, u2, g2, fa, sa, _, f, rfl, rfl, hg2, HFr.out.kept HGr.out HAr.out hk2, (HAr.out.kept HFr.out hk2).symm, HAT.out.whole HBBK.out (Nat.le_refl _) (by rw [HLEN.out]; exact he2), he2.len.trans List.length_replicate, HFL.out, by
            have := he2.room
            have h2 := newF_left T.length
            have h3 : (newF T.length).places.length = 0 := rfl
            omega, HGr.out.over HBR.out (by rw [HBB.out]; exact Nat.le_refl _) hk2⟩
        have HR2 := Lib.hid hR2
        clear hR2 hg2 he2 hk2 ST
        go_wp2
        go_round
        case rel => exact ⟨k + 1, by omega, by go_num, HR2.out⟩
        case measure => simp [intOf]; omega
    · obtain rfl : k = s.size := by omega
      have hIk : ¬ (s.size : Int) < (s.size : Int) := by omega
      have HZ := Lib.hid (LAST.out f HAT.out)
      go_wp2
      go_ret
      exact ⟨by rw [HZ.out]; rfl, HBB.out ▸ HBR.out⟩
set_option maxHeartbeats 6400000 in
set_option maxRecDepth 100000 in
theorem nfaFind_any (x : NodeT) (b : Nat) (s : ByteArray) (W : World) (h : PrgAt W b x) (hsz : s.size ≤ 4000000000000000000) :
    Calls Tryz.prog 38 #[.pointer (some ⟨b, 0, none⟩), .string s] W fun e w' => e = .returned (.bool (foundB s.data.toList x)) ∧ Below W.heap.size W w' := by
  obtain ⟨hN, h200, pbase, pv, t, hP, _⟩ := h
  have hwf := hN.canB
  have hst := prog_start hwf
  have hmany := prog_many hN h200
  have HIN := Lib.hid (fun y (hy : y ∈ (progT x).1) => prog_inn hwf hy)
  have FIRST := Lib.hid (fun (m : Nat) (f : Fr) (h : Ent (progT x).1 0 s.data.toList.length (fun p => p = (progT x).2) (newF m) f) => FrAt.first (B := (fun _ => True)) trivial h)
  have LAST := Lib.hid (fun (f : Fr) (hn : ¬ FoundBy s.data.toList x s.data.toList.length) (h : FrAt (progT x).1 s.data.toList (progT x).2 (fun _ => True) s.data.toList.length f) => foundB_is (found_last hwf hn h))
  have NONE := Lib.hid (fun (i : Nat) (f : Fr) (h : FrAt (progT x).1 s.data.toList (progT x).2 (fun _ => True) i f) (hm : f.matched = true) => (foundB_is (b := true) ⟨fun _ => found_at hwf h hm, fun _ => rfl⟩))
  have SUCC := Lib.hid (fun (i : Nat) (f : Fr) (h : FrAt (progT x).1 s.data.toList (progT x).2 (fun _ => True) i f) => foundBy_succ hwf h)
  have ZERO := Lib.hid (foundBy_zero s.data.toList x)
  obtain ⟨T, hT⟩ : ∃ T, (progT x).1 = T := ⟨_, rfl⟩
  obtain ⟨st, hst2⟩ : ∃ st, (progT x).2 = st := ⟨_, rfl⟩
  rw [hT, hst2] at FIRST LAST NONE hP hst
  rw [hT] at HIN hmany
  rw [hT, hst2] at SUCC
  have hlen : s.data.toList.length = s.size := size_toList s
  rw [hlen] at FIRST LAST
  obtain ⟨r, hr⟩ : ∃ r, foundB s.data.toList x = r := ⟨_, rfl⟩
  rw [hr] at LAST NONE ⊢
  obtain ⟨A, c, hv⟩ := own_shape hP.row
  subst hv
  have HPD := Lib.hid (show PG pbase W.drew b (.slice A T.length c) (.int .i64 (st : Nat)) (.int .i64 (sizeT x)) (.string t) T from ⟨hP.blk, hP.row⟩)
  have HP := Lib.hid hP
  have MN := Lib.hid (fun w (hb : Blk w b 110 #[.slice A T.length c, .int .i64 (st : Nat), .int .i64 (sizeT x), .string t]) => nfaMany_any b T.length c A _ _ _ w hb)
  have NF := Lib.hid (fun w => newFront_any T.length (by omega) w)
  have HLEN := Lib.hid hlen
  obtain ⟨y2, hy2⟩ : ∃ y2, Value.int .i64 (sizeT x) = y2 := ⟨_, rfl⟩
  obtain ⟨y3, hy3⟩ : ∃ y3, Value.string t = y3 := ⟨_, rfl⟩
  rw [hy2, hy3] at HPD HP MN
  have HT0 : 0 < T.length := by omega
  have HEN := fun (i : Nat) (hi : i ≤ s.size) (f : Fr) => enter_any T W.heap.size pbase b (.slice A T.length c) (.int .i64 (st : Nat)) y2 y3 i s.size HIN.out (by omega) (by omega) (by omega) f
  replace HEN := Lib.hid HEN
  clear hT hst2 hlen hr hP hwf hN h200 hy2 hy3
  go_enter Tryz.func38, Tryz.ntmps38
  go_wp2
  refine wp_region_held_drew (S := fun w' => True) (by kernel_rfl) trivial (fun hHeld => ?_)
  refine tV 0 ?_; refine tV 1 ?_; refine tV 2 ?_; refine tV 5 ?_; refine tV 6 ?_; refine tV 7 ?_
  refine rdy [3] ?_
  refine rdC (fun K hK => ?_) AllReadyH.nil
  go_simp
  go_at_call 49
  refine (MN.out _ HPD.out.blk).mono ?_
  rintro e wm ⟨rfl, rfl⟩
  refine hK.out _ _ trivial (fun _ => ?_)
  clear hK K
  try simp only [Act.put, pz1, pz2, pz3]
  refine rdy [4] ?_
  refine rdC (fun K hK => ?_) AllReadyH.nil
  go_simp
  go_at_call 48
  refine (NF.out _).mono ?_
  rintro e wa ⟨rfl, ha1, ha2, ha3⟩
  have HA1 := Lib.hid (show FrG W.heap.size wa (W.heap.size + 1) W.heap.size (.slice none 0 0) (newF T.length) from ha1)
  have HA2 := Lib.hid (show Below W.heap.size W wa from (Below.drew (Below.refl W.heap.size W)).trans ha2)
  have HA3 := Lib.hid (show wa.heap.size = W.heap.size + 2 from ha3)
  have HPA := Lib.hid (HPD.out.below ha2)
  clear ha1 ha2 ha3
  refine hK.out _ _ trivial (fun _ => ?_)
  clear hK K
  try simp only [Act.put, pz1, pz2, pz3]
  refine rdy [8] ?_
  refine rdC (fun K hK => ?_) AllReadyH.nil
  go_simp
  go_at_call 49
  refine (MN.out _ HPA.out.blk).mono ?_
  rintro e wm ⟨rfl, rfl⟩
  refine hK.out _ _ trivial (fun _ => ?_)
  clear hK K
  try simp only [Act.put, pz1, pz2, pz3]
  refine rdy [9] ?_
  refine rdC (fun K hK => ?_) AllReadyH.nil
  go_simp
  go_at_call 48
  refine (NF.out _).mono ?_
  rintro e wb ⟨rfl, hb1, hb2, hb3⟩
  have HB1 := Lib.hid hb1
  have HB2 := Lib.hid hb2
  have HPB := Lib.hid (HPA.out.below hb2)
  clear hb1 hb2 hb3
  refine hK.out _ _ trivial (fun _ => ?_)
  clear hK K
  try simp only [Act.put, pz1, pz2, pz3]
  refine tV 10 ?_; refine tV 11 ?_
  refine wpAnyH_done (by kernel_rfl) ?_ _
  clear hHeld MN NF
  have hFA := (HA1.out.below HB2.out)
  have hFB := HB1.out.mono (show W.heap.size ≤ wa.heap.size from HA2.out.size)
  have hsa : wa.heap.size = W.heap.size + 2 := HA3.out
  have hap : Apart2 (W.heap.size + 1) W.heap.size (.slice none 0 0) (wa.heap.size + 1) wa.heap.size (.slice none 0 0) := ⟨by omega, by omega, fun k hk => by cases hk⟩
  have hbl : Below W.heap.size W wb := hop HA2.out (Nat.le_refl _) HB2.out
  have hWb : W.heap.size ≤ wb.heap.size := hbl.size
  have E1 := Lib.hid (HEN.out 0 (Nat.zero_le _) (newF T.length) (W.heap.size + 1) W.heap.size st (.slice none 0 0) wb HPB.out hFA hst List.length_replicate (by have := newF_left T.length; show 0 + _ ≤ _; omega) hWb)
  have HFA := Lib.hid hFA
  have HFB := Lib.hid hFB
  have HAP := Lib.hid hap
  have HBL := Lib.hid hbl
  have p1 := HPB.out.blk.cell 1
  obtain ⟨fa0, hfa0⟩ : ∃ z, W.heap.size + 1 = z := ⟨_, rfl⟩
  obtain ⟨fb0, hfb0⟩ : ∃ z, wa.heap.size + 1 = z := ⟨_, rfl⟩
  have HFA0 := Lib.hid hfa0
  have HFB0 := Lib.hid hfb0
  obtain ⟨B, hBB⟩ : ∃ z, W.heap.size = z := ⟨_, rfl⟩
  obtain ⟨sb0, hsb0⟩ : ∃ z, wa.heap.size = z := ⟨_, rfl⟩
  rw [hfa0, hBB] at E1 HFA
  rw [hfb0, hBB, hsb0] at HFB
  rw [hfa0, hfb0, hBB, hsb0] at HAP
  rw [hBB] at HBL hWb HEN
  try simp only [List.getD_eq_getElem?_getD]
  try rw [hfa0]
  try rw [hfb0]
  have HBB := Lib.hid hBB
  clear hFA hFB hap hbl hfa0 hfb0 hsa hsb0 hBB HA1 HA2 HA3 HB1 HB2 HPA
  go_wp2_with fail
  refine E1.out.mono ?_
  rintro e w1 ⟨v1, f1, rfl, hf1, he1, hk1⟩
  have hR : RunR B W T s.data.toList st (fun _ => True) 0 (.pointer (some ⟨fa0, 0, none⟩)) (.pointer (some ⟨fb0, 0, none⟩)) w1 :=
    ⟨fa0, _, v1, f1, fb0, _, _, newF T.length, rfl, rfl, hf1, HFB.out.kept HFA.out HAP.out.symm hk1, (HAP.out.symm.kept HFB.out hk1).symm, FIRST.out T.length f1 he1, he1.len.trans List.length_replicate, List.length_replicate, by
      have := he1.room
      have h2 := newF_left T.length
      have h3 : (newF T.length).places.length = 0 := rfl
      omega, HFA.out.over HBL.out (by rw [HBB.out]; exact Nat.le_refl _) hk1⟩
  have HR := Lib.hid hR
  clear hR hf1 he1 hk1 E1 FIRST p1
  go_wp2
  go_loopw [5, 6, 29] (fun nv xv kv wr => ∃ (k : Nat), k ≤ s.size ∧ kv = .int .i64 (k : Nat) ∧ RunR B W T s.data.toList st (fun _ => True) k nv xv wr ∧ Hid (¬ FoundBy s.data.toList x k)) (fun _ _ kv _ => s.size - (intOf kv).toNat)
  case atStart =>
    exact ⟨0, Nat.zero_le _, rfl, HR.out, Lib.hid ZERO.out⟩
  case round =>
    obtain ⟨k, hk, rfl, ⟨fa, sa, va, f, ga, ta, ua, g, rfl, rfl, hFr, hGr, hAr, hat, hfl, hgl, hpl, hbr⟩, HNF⟩ := hrel
    have HFr := Lib.hid hFr
    have HGr := Lib.hid hGr
    have HAr := Lib.hid hAr
    have HAT := Lib.hid hat
    have HFL := Lib.hid hfl
    have HGL := Lib.hid hgl
    have HBR := Lib.hid hbr
    have c0 := hFr.blk.cell 0
    have c2 := hFr.blk.cell 2
    have hBr : B ≤ wr.heap.size := by have := hbr.size; have h2 := HBB.out; omega
    have HPr := Lib.hid (HP.out.below (by rw [HBB.out]; exact hbr))
    obtain ⟨A2, cc, hv⟩ := own_shape hFr.row
    subst hv
    clear hFr hGr hAr hat hfl hgl hbr
    by_cases h : k < s.size
    · have hIk : (k : Int) < (s.size : Int) := by omega
      by_cases hm : f.matched = true
      · have HZ := Lib.hid (NONE.out k f HAT.out hm)
        rw [hm] at c2
        clear hm
        go_wp2
        go_ret
        exact ⟨by rw [HZ.out]; rfl, HBB.out ▸ HBR.out⟩
      · have HNF2 := Lib.hid (show ¬ FoundBy s.data.toList x (k + 1) from fun e => ((SUCC.out k f HAT.out).1 e).elim HNF.out hm)
        have hmf : f.matched = false := by simpa using hm
        rw [hmf] at c2
        clear hm hmf
        obtain ⟨bb, hbb⟩ : ∃ bb, s.data.toList[k]? = some bb := ⟨s.data.toList[k]'(by rw [HLEN.out]; exact h), List.getElem?_eq_getElem _⟩
        have ST := Lib.hid (nfaStep_any T B pbase b (.slice A T.length c) (.int .i64 (st : Nat)) y2 y3 k s bb f g fa sa ga ta _ ua wr HIN.out (by omega) hsz hbb HPr.out HFr.out HGr.out HAr.out hBr HAT.out.in_ HGL.out HT0 (by omega))
        have HBBK := Lib.hid hbb
        clear hbb
        go_wp2_with fail
        refine ST.out.mono ?_
        rintro e w2 ⟨u2, g2, rfl, hg2, he2, hk2⟩
        have hG2 := HFr.out.kept HGr.out HAr.out hk2
        have hP2 := HPr.out.front HGr.out hk2
        have hwk : IntKind.i64.wrap ((k : Int) + 1) = ((k + 1 : Nat) : Int) := by rw [IntKind.wrap_i64]; omega
        have hr2 : g2.places.length + g2.left ≤ 1000000 := by
          have := he2.room
          have h2 := newF_left T.length
          have h3 : (newF T.length).places.length = 0 := rfl
          omega
        have E3 := Lib.hid (HEN.out (k + 1) (by omega) g2 ga ta st u2 w2 hP2 hg2 hst (he2.len.trans List.length_replicate) hr2 (Nat.le_trans hBr hk2.size))
        have p1 := hP2.blk.cell 1
        have HG2 := Lib.hid hg2
        have HE2 := Lib.hid he2
        have HK2 := Lib.hid hk2
        have HF2 := Lib.hid hG2
        have HA2 := Lib.hid (HAr.out.kept HFr.out hk2)
        clear hg2 he2 hk2 hG2 hP2 ST hr2
        go_wp2_with fail
        refine E3.out.mono ?_
        rintro e w3 ⟨u3, g3, rfl, hg3, he3, hk3⟩
        have hR2 : RunR B W T s.data.toList st (fun _ => True) (k + 1) (.pointer (some ⟨ga, 0, none⟩)) (.pointer (some ⟨fa, 0, none⟩)) w3 :=
          ⟨ga, ta, u3, g3, fa, sa, _, f, rfl, rfl, hg3, HF2.out.kept HG2.out HA2.out hk3, (HA2.out.kept HF2.out hk3).symm, HAT.out.find HBBK.out (Nat.le_refl _) (by rw [HLEN.out]; exact HE2.out) (by rw [HLEN.out]; exact he3), he3.len.trans (HE2.out.len.trans List.length_replicate), HFL.out, by
            have := he3.room
            have h1 := HE2.out.room
            have h2 := newF_left T.length
            have h3 : (newF T.length).places.length = 0 := rfl
            omega, HG2.out.over (HGr.out.over HBR.out (by rw [HBB.out]; exact Nat.le_refl _) HK2.out) (by rw [HBB.out]; exact Nat.le_refl _) hk3⟩
        have HR2 := Lib.hid hR2
        clear hR2 hg3 he3 hk3 E3 p1
        go_wp2
        go_round
        case rel => exact ⟨k + 1, by omega, by go_num, HR2.out, HNF2⟩
        case measure => simp [intOf]; omega
    · obtain rfl : k = s.size := by omega
      have hIk : ¬ (s.size : Int) < (s.size : Int) := by omega
      have HZ := Lib.hid (LAST.out f HNF.out HAT.out)
      go_wp2
      go_ret
      exact ⟨by rw [HZ.out]; rfl, HBB.out ▸ HBR.out⟩
end Go.Proofs.YtbkpoimaienhpaaGreatDoor
