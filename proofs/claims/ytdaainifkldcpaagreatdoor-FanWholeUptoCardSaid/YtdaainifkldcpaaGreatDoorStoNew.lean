-- shaken
import Derived.Test.YtdaainifkldcpaaGreatDoorStoOwn
import Derived.Test.YtdaainifkldcpaaGreatDoorMem
namespace Go.Proofs.YtdaainifkldcpaaGreatDoor
open Go.RowKit
set_option linter.unusedVariables false
set_option linter.unusedSimpArgs false
theorem Se.FG.set_ {b : Nat} {w : World} (i : Nat) (v : Value) : Se.FG b w (w.setCell ⟨b, i, none⟩ v) := ⟨rfl, rfl, rfl, by simp, fun k hk hg => Below.heap_setCell _ _ _ k hg⟩
theorem Se.FG.below {b B : Nat} {w0 w w' : World} (h : Se.FG b w w') (hb : Below B w0 w) (hB : B ≤ b) (hs : B ≤ w.heap.size) : Below B w0 w' := ⟨h.os.trans hb.os, h.tape.trans hb.tape, h.output.trans hb.output, Nat.le_trans hb.size h.size, fun k hk => (h.block k (by omega) (by omega)).trans (hb.block k hk)⟩
theorem OwnR.shape {α : Type} {V : α → List Value} {s : Nat} {w : World} {B ty : Nat} {v : Value} {l : List α} (h : OwnR V s w B ty v l) : ∃ A cap, v = .slice A l.length cap := own_shape h
theorem Blk.fg {w w' : World} {b g T : Nat} {cs : Array Value} (h : Blk w g T cs) (hf : Se.FG b w w') (hg : g ≠ b) : Blk w' g T cs := (hf.block g h.lt hg).trans h
theorem OwnR.fgT {α : Type} {V : α → List Value} {s : Nat} {w w' : World} {B T T' b : Nat} {v : Value} {l : List α} {cur : Array Value} (h : OwnR V s w B T v l) (hf : Se.FG b w w') (hb : Blk w b T' cur) (hT : T' ≠ T) : OwnR V s w' B T v l := by
  refine ⟨h.1, ?_⟩
  rcases h.2 with h0 | ⟨g, cap, cur', hv, hbg, hh, x⟩
  · exact .inl h0
  · refine .inr ⟨g, cap, cur', hv, hbg, (hf.block g (lt_of_block hh) (fun e => ?_)).trans hh, x⟩
    subst e
    unfold Blk at hb
    rw [hb] at hh
    injection hh with hh
    injection hh with _ hh _
    exact hT hh
theorem Good.fgT {B b T' : Nat} {w w' : World} {x : EntX} {cur : Array Value} (h : Good B w x) (hf : Se.FG b w w') (hB : B ≤ b) (hb : Blk w b T' cur) (hT : T' ≠ 165) : Good B w' x :=
  h.grown hf.grown fun b' e => by
    obtain rfl := Option.some.inj e
    exact ⟨hB, _, _, hT, hb⟩
theorem rep_not_reply : 140 ≠ 85 := by decide
theorem rep_not_ent : 140 ≠ 47 := by decide
theorem rep_not_pair : 140 ≠ 165 := by decide
structure RepP (B : Nat) (w : World) (b : Nat) (S : List RepB) (k : Nat) (L : List EntX) (rv lv : Value) : Prop where
  blk : Blk w b 140 #[rv, .int .i64 (k : Int), lv]
  rep : OwnR RepB.V 2 w B 85 rv S
  ent : OwnE 0 w B lv L
  low : B ≤ b
theorem RepP.below {B : Nat} {w w' : World} {b : Nat} {S : List RepB} {k : Nat} {L : List EntX} {rv lv : Value} (h : RepP B w b S k L rv lv) (hb : Below w.heap.size w w') : RepP B w' b S k L rv lv :=
  ⟨h.blk.below hb h.blk.lt, OwnR.below h.rep hb, h.ent.below hb, h.low⟩
theorem RepP.fg {B : Nat} {w w' : World} {b c T' : Nat} {S : List RepB} {k : Nat} {L : List EntX} {rv lv : Value} {cur : Array Value} (h : RepP B w b S k L rv lv) (hf : Se.FG c w w') (hc : Blk w c T' cur) (hbc : b ≠ c) (h1 : T' ≠ 85) (h2 : T' ≠ 47) (h3 : T' ≠ 165) : RepP B w' b S k L rv lv :=
  ⟨h.blk.fg hf hbc, OwnR.fgT h.rep hf hc h1, ⟨OwnR.fgT h.ent.1 hf hc h2, fun x hx => (h.ent.2 x hx).fgT hf (Nat.zero_le _) hc h3⟩, h.low⟩
theorem RepP.set {B : Nat} {w : World} {b : Nat} {S : List RepB} {k k' : Nat} {L : List EntX} {rv lv : Value} (h : RepP B w b S k L rv lv) : RepP B (w.setCell ⟨b, 1, none⟩ (.int .i64 (k' : Int))) b S k' L rv lv :=
  ⟨h.blk.set_ 1 _, OwnR.fgT h.rep (Se.FG.set_ 1 _) h.blk rep_not_reply, ⟨OwnR.fgT h.ent.1 (Se.FG.set_ 1 _) h.blk rep_not_ent, fun x hx => (h.ent.2 x hx).fgT (Se.FG.set_ 1 _) (Nat.zero_le _) h.blk rep_not_pair⟩, h.low⟩
set_option maxHeartbeats 800000 in
theorem scriptOf_any (A : Option Addr) (n c : Nat) (S : List RepB) (hn : n ≤ 100000) (W : World) (h : RowR RepB.V 2 W A n S) :
    Calls Tryz.prog 49 #[.slice A n c] W fun e w' => ∃ v, e = .returned (.agg #[v, .int .i64 0]) ∧ OwnR RepB.V 2 w' W.heap.size 85 v S ∧ Below W.heap.size W w' := by
  have K := Blk.new W 137 #[.slice none 0 0, .int .i64 0]
  have hb0 : Below W.heap.size W (W.alloc (.cells #[.slice none 0 0, .int .i64 0] 137)) := (Below.refl _ _).alloc (Nat.le_refl _) _
  obtain ⟨w1, hw1⟩ : ∃ z, W.alloc (.cells #[.slice none 0 0, .int .i64 0] 137) = z := ⟨_, rfl⟩
  rw [hw1] at K hb0
  have CL := Lib.hid (cloneR_any A n c S hn w1 (h.below hb0))
  have HB := Lib.hid hb0
  have HK := Lib.hid K
  have hs1 : W.heap.size < w1.heap.size := K.lt
  clear h K hb0
  go_enter Tryz.func49, Tryz.ntmps49
  go_wp2_with fail
  (try rw [hw1])
  refine CL.out.mono ?_
  rintro e w2 ⟨v0, rfl, ho, hb⟩
  obtain ⟨A', c', rfl⟩ := OwnR.shape ho
  have K2 := HK.out.below hb HK.out.lt
  have e0_ := (K2.cell 0).trans (show _ = some (Value.slice none 0 0) from rfl)
  have e1_ := (K2.cell 1).trans (show _ = some (Value.int .i64 0) from rfl)
  have f0_ := K2.frozen 0
  have f1_ := K2.frozen 1
  have HO := Lib.hid (OwnR.mono (OwnR.fgT (OwnR.fgT ho (Se.FG.set_ (b := W.heap.size) 0 (.slice A' S.length c')) K2 (by decide)) (Se.FG.set_ (b := W.heap.size) 1 (.int .i64 0)) (K2.set_ 0 (.slice A' S.length c')) (by decide)) (Nat.le_of_lt hs1))
  have K3 := Lib.hid ((K2.set_ 0 (.slice A' S.length c')).set_ 1 (.int .i64 0))
  have HB2 := Lib.hid (((hop HB.out (Nat.le_refl _) hb).setCell (p := ⟨W.heap.size, 0, none⟩) (Nat.le_refl _) (.slice A' S.length c')).setCell (p := ⟨W.heap.size, 1, none⟩) (Nat.le_refl _) (.int .i64 0))
  clear ho hb K2 HB HK hw1
  go_wp2
  refine bodyPost_ret (results_cell_row rfl _ _ W.heap.size 137 #[(.slice A' S.length c'), .int .i64 0] (0, 0) _ rfl K3.out Tryz.underlying137 rfl (by kernel_rfl)) rfl ?_
  exact ⟨(.slice A' S.length c'), rfl, HO.out, HB2.out⟩
theorem infoEntS : (Tryz.prog.info? 47).map (fun i => (i.zero, i.size, i.bytes)) = some (some (.agg #[.int .i64 0, .slice none 0 0, .string ⟨#[]⟩]), 3, 48) := by kernel_rfl
def NewR (B : Nat) (W : World) (S : List RepB) (es : List EntX) (e : Ending) (w' : World) : Prop :=
  ∃ b L rv lv, e = .returned (.pointer (some ⟨b, 0, none⟩)) ∧ RepP B w' b S 0 L rv lv ∧ B ≤ b ∧ (L.map EntX.b).Perm (newE (es.map EntX.b)) ∧ SortedP L ∧ Below B W w'
theorem OwnR.grew2 {α : Type} {V : α → List Value} {s : Nat} {w w' : World} {B ty : Nat} {v : Value} {l : List α} {r : Option Nat} (h : OwnR V s w B ty v l) (hg : w.grownBy w' r) (hr : ∀ b, v.ownBlock = some b → r ≠ some b) : OwnR V s w' B ty v l := by
  refine ⟨h.1, ?_⟩
  rcases h.2 with h0 | ⟨g, cap, cur, hv, hbg, hh, x⟩
  · exact .inl h0
  · exact .inr ⟨g, cap, cur, hv, hbg, (hg.block g (lt_of_block hh) (fun e => hr g (by rw [hv]; rfl) e.symm)).trans hh, x⟩
theorem rightB_len {ps : List PairB} (h : rightB ps = true) : ps.length ≤ 16 := by
  unfold rightB at h
  rw [Bool.and_eq_true, decide_eq_true_iff] at h
  exact h.1
set_option maxRecDepth 100000 in
set_option maxHeartbeats 3200000 in
theorem new_any (B0 : Nat) (A : Option Addr) (n c : Nat) (es : List EntX) (RA : Option Addr) (rn rc : Nat) (S : List RepB) (hn : n ≤ 12) (hrn : rn ≤ 100000) (W : World) (h : Ents B0 W A n es) (hr : RowR RepB.V 2 W RA rn S) :
    Calls Tryz.prog 23 #[.slice A n c, .slice RA rn rc] W fun e w' => NewR W.heap.size W S es e w' := by
  obtain ⟨i0, hinf, hz0, hz1, hz2⟩ := info_parts infoEntS
  have H1 := Lib.hid h
  have SC := Lib.hid (scriptOf_any RA rn rc S hrn W hr)
  have EL := Lib.hid (show (es.map EntX.b).length = n by rw [List.length_map]; exact h.1.1)
  have hnI : (n : Int) ≤ 12 := by omega
  clear h hr
  go_enter Tryz.func23, Tryz.ntmps23
  go_wp2_with fail
  refine SC.out.mono ?_
  rintro e w1 ⟨rv, rfl, hro, hb⟩
  have hs1 := hb.size
  obtain ⟨b, hbe⟩ : ∃ g, w1.heap.size = g := ⟨_, rfl⟩
  obtain ⟨w2, hw2⟩ : ∃ z, w1.alloc (.cells #[rv, .int .i64 0, .slice none 0 0] 140) = z := ⟨_, rfl⟩
  have HR0 := Lib.hid (show RepP W.heap.size w2 b S 0 [] rv (.slice none 0 0) from by
    rw [← hw2, ← hbe]
    exact ⟨Blk.new _ _ _, OwnR.alloc hro _, OwnE.nil _ _ _, hs1⟩)
  have HB := Lib.hid (show Below W.heap.size W w2 by rw [← hw2]; exact hb.alloc hs1 _)
  have EQ0 := Lib.hid (show ([] : List EntX).map EntX.b = newE ((es.map EntX.b).take 0) from rfl)
  have hbB : W.heap.size ≤ b := by omega
  clear hro hb SC
  go_wp2
  clear hw2 hbe
  go_loopw [14] (fun iv wr => ∃ (j : Nat) (L : List EntX) (lv : Value), j ≤ n ∧ iv = .int .i64 (j : Nat) ∧ Hid (RepP W.heap.size wr b S 0 L rv lv) ∧ Hid (L.map EntX.b = newE ((es.map EntX.b).take j)) ∧ Hid (Below W.heap.size W wr)) (fun iv _ => n - (intOf iv).toNat)
  case atStart => exact ⟨0, [], _, Nat.zero_le _, rfl, HR0, EQ0, HB⟩
  case round =>
    clear HR0 EQ0 HB
    obtain ⟨j, L, lv, hjn, rfl, HRx, EQ, HBx⟩ := hrel
    have hL12 : L.length ≤ j := by
      have h1 := congrArg List.length EQ.out
      rw [List.length_map] at h1
      rw [h1]
      exact newE_len _ _
    by_cases hj : j < n
    · have jI : (j : Int) < (n : Int) := by omega
      have hb2 := H1.out.below HBx.out
      obtain ⟨b1, o1, hA, hlt, hcc⟩ := hb2.at_ (by omega)
      obtain ⟨r0_, r1_, r2_, hgx⟩ := hcc j hj
      subst hA
      have hx : (es.map EntX.b)[j]? = some (es.getD j xnil).b := by
        rw [List.getElem?_map, List.getD_eq_getElem?_getD, List.getElem?_eq_getElem (by rw [H1.out.1.1]; exact hj)]
        rfl
      have NX := Lib.hid (newE_next _ j _ hx)
      obtain ⟨x, hxx⟩ : ∃ x, es.getD j xnil = x := ⟨_, rfl⟩
      rw [hxx] at r0_ r1_ r2_ hgx NX
      obtain ⟨LA, cap, rfl⟩ := OwnR.shape HRx.out.ent.1
      have l512 : ((L.length : Int) == 512) = false := by rw [beq_eq_false_iff_ne]; omega
      have RI := Lib.hid (fun w (hw : Below wr.heap.size wr w) => entRight_any x.ts x.A x.n x.c x.ls x.ln hgx.len w (hgx.set.1.below hw))
      have XG := Lib.hid (fun w (hw : Below wr.heap.size wr w) => hgx.below hw)
      have XR := Lib.hid (show rightE x.b = true → x.n ≤ 1000 from fun hr => by
        have h1 := rightB_len (show rightB x.ls = true by unfold rightE at hr; exact (Bool.and_eq_true _ _ ▸ hr).1)
        have h2 := hgx.set.1.1
        omega)
      obtain ⟨q, hq⟩ : ∃ q, rightE x.b = q := ⟨_, rfl⟩
      replace RI : Hid (∀ w, Below wr.heap.size wr w → Calls Tryz.prog 50 #[.agg #[.int .i64 x.ts, .slice x.A x.n x.c, .string x.ln]] w fun e w' => e = .returned (.bool q) ∧ Below w.heap.size w w') := Lib.hid (fun w hw => by rw [← hq]; exact RI.out w hw)
      rw [hq] at NX XR
      have c2_ : wr.cell? ⟨b, 2, none⟩ = some (.slice LA L.length cap) := (HRx.out.blk.cell 2).trans rfl
      have hbl : b < wr.heap.size := HRx.out.blk.lt
      have LTV := Lib.hid (show ∀ g, (Value.slice LA L.length cap).ownBlock = some g → g < wr.heap.size from fun g hg => (World.ownsRow.lt HRx.out.ent.1 g hg).2)
      obtain ⟨g7, hg7⟩ : ∃ g, wr.heap.size = g := ⟨_, rfl⟩
      obtain ⟨ts, XA, xn, xc, xls, ln⟩ := x
      dsimp only at r0_ r1_ r2_ RI
      have hbA := (Below.refl wr.heap.size wr).alloc (Nat.le_refl _) (.cells #[.int .i64 ts, .slice XA xn xc, .string ln] 47)
      have KA := Blk.new wr 47 #[.int .i64 ts, .slice XA xn xc, .string ln]
      have hBA := HBx.out.alloc HBx.out.size (.cells #[.int .i64 ts, .slice XA xn xc, .string ln] 47)
      have HRA := HRx.out.below hbA
      have XGA := hgx.below hbA
      obtain ⟨wA, hwA⟩ : ∃ z, wr.alloc (.cells #[.int .i64 ts, .slice XA xn xc, .string ln] 47) = z := ⟨_, rfl⟩
      rw [hwA] at hbA KA hBA HRA XGA
      have RIA := Lib.hid (RI.out wA hbA)
      rw [hg7] at KA hbl LTV
      have a0_ : wA.cell? ⟨g7, 0, none⟩ = some (.int .i64 ts) := (KA.cell 0).trans rfl
      have a1_ : wA.cell? ⟨g7, 1, none⟩ = some (.slice XA xn xc) := (KA.cell 1).trans rfl
      have a2_ : wA.cell? ⟨g7, 2, none⟩ = some (.string ln) := (KA.cell 2).trans rfl
      have a3_ : wA.cell? ⟨b, 2, none⟩ = some (.slice LA L.length cap) := (HRA.blk.cell 2).trans rfl
      have HKA := Lib.hid KA
      have HBA := Lib.hid hBA
      have HHR := Lib.hid HRA
      have HXG := Lib.hid XGA
      have BG := Lib.hid (show b ≠ g7 by omega)
      clear hcc hx hxx hgx hb2 hq RI KA hBA HRA XGA hbA
      rw [← hg7] at hbl
      go_wp2_with fail
      (try rw [hwA])
      (try rw [hg7])
      refine RIA.out.mono ?_
      rintro e w8 ⟨rfl, hb⟩
      have K7x := Lib.hid (HKA.out.below hb HKA.out.lt)
      have HRy := Lib.hid (HHR.out.below hb)
      have HBy := Lib.hid (hop HBA.out (Nat.le_refl _) hb)
      have HXy := Lib.hid (HXG.out.below hb)
      clear hb HKA HHR HBA HXG RIA hwA HRx HBx c2_ r0_ r1_ r2_ hbl hg7 a0_ a1_ a2_ a3_
      cases q with
      | false =>
        have HEN := Lib.hid (show L.map EntX.b = newE ((es.map EntX.b).take (j + 1)) by rw [NX.out, EQ.out]; simp)
        go_wp2
        go_round
        case rel => exact ⟨j + 1, _, _, by omega, by go_num, HRy, HEN, HBy⟩
        case measure => first | (simp [intOf]; done) | (simp [intOf]; omega)
      | true =>
        have hx1 := XR.out rfl
        have OW := Lib.hid (fun w (h : Good B0 w ⟨ts, XA, xn, xc, xls, ln⟩) => own_any B0 ⟨ts, XA, xn, xc, xls, ln⟩ hx1 w h)
        replace NX : Hid (newE ((es.map EntX.b).take (j + 1)) = newE ((es.map EntX.b).take j) ++ [(⟨ts, XA, xn, xc, xls, ln⟩ : EntX).b]) := NX
        have SP := Lib.hid (fun w' (K7 : Blk w' g7 47 #[.int .i64 ts, .slice XA xn xc, .string ln]) => show w'.cell? ⟨g7, 0, none⟩ = some (.int .i64 ts) ∧ w'.cell? ⟨g7, 1, none⟩ = some (.slice XA xn xc) ∧ w'.cell? ⟨g7, 2, none⟩ = some (.string ln) ∧ True from ⟨(K7.cell 0).trans rfl, (K7.cell 1).trans rfl, (K7.cell 2).trans rfl, trivial⟩)
        have HR : RepP W.heap.size w8.drew b S 0 L rv (.slice LA L.length cap) := HRy.out.below (below_drewN (Below.refl _ _) 1)
        have K7 : Blk w8.drew g7 47 #[.int .i64 ts, .slice XA xn xc, .string ln] := K7x.out
        have HB0 : Below W.heap.size W w8.drew := below_drewN HBy.out 1
        have XG : Good B0 w8.drew ⟨ts, XA, xn, xc, xls, ln⟩ := HXy.out.below (below_drewN (Below.refl _ _) 1)
        clear HRy K7x HBy HXy hx1 XR
        go_wp2
        refine wp_region_held_drew (S := fun w' => w'.cell? ⟨g7, 0, none⟩ = some (.int .i64 ts) ∧ w'.cell? ⟨g7, 1, none⟩ = some (.slice XA xn xc) ∧ w'.cell? ⟨g7, 2, none⟩ = some (.string ln) ∧ True) (by kernel_rfl) (SP.out w8.drew K7) (fun hS => ?_)
        obtain ⟨w0, hw0⟩ : ∃ z, w8.drew = z := ⟨_, rfl⟩
        rw [hw0] at hS HR K7 HB0 XG ⊢
        clear hw0
        refine tV 0 ?_; refine tV 1 ?_; refine tV 2 ?_; refine tV 3 ?_; refine tH 5 ?_
        refine rdy [4, 6] ?_
        refine rdC (fun K hK => ?_) ?_
        focus
          have c_ : w0.cell? ⟨b, 2, none⟩ = some (.slice LA L.length cap) := (HR.blk.cell 2).trans rfl
          go_simp
          clear c_
          refine hK.out _ _ hS (fun _ => ?_)
          clear hK K
          try simp only [Act.put, pz1, pz2, pz3]
          refine rdy [6] ?_
          refine rdC (fun K hK => ?_) AllReadyH.nil
          go_simp
          go_at_call 51
          refine (OW.out w0 XG).mono ?_
          rintro _ e2 ⟨y, rfl, hyb, hyg, hb3⟩
          replace HR := HR.below hb3
          replace K7 := K7.below hb3 K7.lt
          replace XG := XG.below hb3
          replace HB0 := hop HB0 (Nat.le_refl _) hb3
          clear hb3 hS
          have hS := SP.out e2 K7
          refine hK.out _ _ hS (fun _ => ?_)
          clear hK K
          try simp only [Act.put, pz1, pz2, pz3]
          refine rdy [7] ?_
          refine rdC (fun K hK => ?_) AllReadyH.nil
          go_simp
          have hb3 : Below e2.heap.size e2 (e2.alloc (.cells #[.int .i64 y.ts, .slice y.A y.n y.c, .string y.ln] 47)) := (Below.refl _ _).alloc (Nat.le_refl _) _
          obtain ⟨g6, hg6⟩ : ∃ g, e2.heap.size = g := ⟨_, rfl⟩
          have HN : Blk (e2.alloc (.cells #[.int .i64 y.ts, .slice y.A y.n y.c, .string y.ln] 47)) g6 47 #[.int .i64 y.ts, .slice y.A y.n y.c, .string y.ln] := by rw [← hg6]; exact Blk.new _ _ _
          obtain ⟨wT, hwc⟩ : ∃ z, e2.alloc (.cells #[.int .i64 y.ts, .slice y.A y.n y.c, .string y.ln] 47) = z := ⟨_, rfl⟩
          rw [hwc] at hb3 HN
          rw [hwc, hg6]
          clear hwc hg6
          replace hyg := hyg.below hb3
          replace HR := HR.below hb3
          replace K7 := K7.below hb3 K7.lt
          replace XG := XG.below hb3
          replace HB0 := hop HB0 (Nat.le_refl _) hb3
          clear hb3 hS
          have hS := SP.out wT K7
          refine hK.out _ _ hS (fun _ => ?_)
          clear hK K
          try simp only [Act.put, pz1, pz2, pz3]
        rotate_left 1
        refine rdC (fun K hK => ?_) AllReadyH.nil
        focus
          go_simp
          go_at_call 51
          refine (OW.out w0 XG).mono ?_
          rintro _ e4 ⟨y, rfl, hyb, hyg, hb3⟩
          replace HR := HR.below hb3
          replace K7 := K7.below hb3 K7.lt
          replace XG := XG.below hb3
          replace HB0 := hop HB0 (Nat.le_refl _) hb3
          clear hb3 hS
          have hS := SP.out e4 K7
          refine hK.out _ _ hS (fun _ => ?_)
          clear hK K
          try simp only [Act.put, pz1, pz2, pz3]
          refine rdy [4, 7] ?_
          refine rdC (fun K hK => ?_) ?_
          focus
            have c_ : e4.cell? ⟨b, 2, none⟩ = some (.slice LA L.length cap) := (HR.blk.cell 2).trans rfl
            go_simp
            clear c_
            refine hK.out _ _ hS (fun _ => ?_)
            clear hK K
            try simp only [Act.put, pz1, pz2, pz3]
            refine rdy [7] ?_
            refine rdC (fun K hK => ?_) AllReadyH.nil
            go_simp
            have hb3 : Below e4.heap.size e4 (e4.alloc (.cells #[.int .i64 y.ts, .slice y.A y.n y.c, .string y.ln] 47)) := (Below.refl _ _).alloc (Nat.le_refl _) _
            obtain ⟨g6, hg6⟩ : ∃ g, e4.heap.size = g := ⟨_, rfl⟩
            have HN : Blk (e4.alloc (.cells #[.int .i64 y.ts, .slice y.A y.n y.c, .string y.ln] 47)) g6 47 #[.int .i64 y.ts, .slice y.A y.n y.c, .string y.ln] := by rw [← hg6]; exact Blk.new _ _ _
            obtain ⟨wT, hwc⟩ : ∃ z, e4.alloc (.cells #[.int .i64 y.ts, .slice y.A y.n y.c, .string y.ln] 47) = z := ⟨_, rfl⟩
            rw [hwc] at hb3 HN
            rw [hwc, hg6]
            clear hwc hg6
            replace hyg := hyg.below hb3
            replace HR := HR.below hb3
            replace K7 := K7.below hb3 K7.lt
            replace XG := XG.below hb3
            replace HB0 := hop HB0 (Nat.le_refl _) hb3
            clear hb3 hS
            have hS := SP.out wT K7
            refine hK.out _ _ hS (fun _ => ?_)
            clear hK K
            try simp only [Act.put, pz1, pz2, pz3]
          rotate_left 1
          refine rdC (fun K hK => ?_) AllReadyH.nil
          focus
            go_simp
            have hb3 : Below e4.heap.size e4 (e4.alloc (.cells #[.int .i64 y.ts, .slice y.A y.n y.c, .string y.ln] 47)) := (Below.refl _ _).alloc (Nat.le_refl _) _
            obtain ⟨g6, hg6⟩ : ∃ g, e4.heap.size = g := ⟨_, rfl⟩
            have HN : Blk (e4.alloc (.cells #[.int .i64 y.ts, .slice y.A y.n y.c, .string y.ln] 47)) g6 47 #[.int .i64 y.ts, .slice y.A y.n y.c, .string y.ln] := by rw [← hg6]; exact Blk.new _ _ _
            obtain ⟨wT, hwc⟩ : ∃ z, e4.alloc (.cells #[.int .i64 y.ts, .slice y.A y.n y.c, .string y.ln] 47) = z := ⟨_, rfl⟩
            rw [hwc] at hb3 HN
            rw [hwc, hg6]
            clear hwc hg6
            replace hyg := hyg.below hb3
            replace HR := HR.below hb3
            replace K7 := K7.below hb3 K7.lt
            replace XG := XG.below hb3
            replace HB0 := hop HB0 (Nat.le_refl _) hb3
            clear hb3 hS
            have hS := SP.out wT K7
            refine hK.out _ _ hS (fun _ => ?_)
            clear hK K
            try simp only [Act.put, pz1, pz2, pz3]
            refine rdy [4] ?_
            refine rdC (fun K hK => ?_) AllReadyH.nil
            have c_ : wT.cell? ⟨b, 2, none⟩ = some (.slice LA L.length cap) := (HR.blk.cell 2).trans rfl
            go_simp
            clear c_
            refine hK.out _ _ hS (fun _ => ?_)
            clear hK K
            try simp only [Act.put, pz1, pz2, pz3]
        all_goals
          refine rdy [8] ?_
          refine rdC (fun K hK => ?_) AllReadyH.nil
          have HOl : wT.ownsRow W.heap.size 47 3 (.slice LA L.length cap) L.length (rowV EntX.V L) := HR.ent.1
          refine step_append_lies _ (by rfl) (.tmp 30) (.tmp 33) 64 (by rfl) W.heap.size 47 i0 (.agg #[.int .i64 0, .slice none 0 0, .string ⟨#[]⟩]) 3 48 Tryz.underlying64 hinf hz0 hz1 hz2 rfl (by decide) _ _ _ (by rfl) HOl ⟨_, 0, none⟩ 1 1 (EntX.V y) (by rfl) rfl (World.news_of_block HN) (entV_one y) (by decide) (by unfold maxLen; omega) (by omega) (by have := HB0.size; omega) _ rfl ?_
          intro g2 cap2 e9 hown' hgrow hg' hlt2
          have hol := own_row_type HOl
          have HRb : Blk e9 b 140 #[rv, .int .i64 0, (.slice LA L.length cap)] := (hgrow.block _ HR.blk.lt (fun e => by obtain ⟨_, cur, h2⟩ := hol _ e.symm; have h3 := HR.blk; unfold Blk at h3; rw [h2] at h3; injection h3 with h3; injection h3 with _ h3 _; exact rep_not_ent h3.symm)).trans HR.blk
          have HRr : OwnR RepB.V 2 e9 W.heap.size 85 rv S := OwnR.grew2 HR.rep hgrow (fun g e1 e2 => by obtain ⟨_, cur, h2⟩ := hol _ e2; obtain ⟨_, cur2, h4⟩ := own_row_type HR.rep _ e1; rw [h2] at h4; injection h4 with h4; injection h4 with _ h4 _; exact absurd h4 (by decide))
          have HRe : OwnE 0 e9 W.heap.size (.slice (some ⟨g2, 0, none⟩) (L.length + 1) cap2) (L ++ [y]) := OwnE.snoc HR.ent hyg (Nat.zero_le _) hgrow hown'
          have HBn := HB0.grown hgrow HB0.size (fun g hg => (hol g hg).1)
          have K7n : Blk e9 g7 47 #[.int .i64 ts, .slice XA xn xc, .string ln] := (hgrow.block _ K7.lt (fun e => by have h1 := LTV.out _ e.symm; omega)).trans K7
          have hSn := SP.out e9 K7n
          refine hK.out _ _ hSn (fun _ => ?_)
          clear hown' hgrow hg' hlt2 HOl hol hS
          have hS := hSn
          clear hSn
          clear hK K
          try simp only [Act.put, pz1, pz2, pz3]
          refine tV 9 ?_; refine tV 10 ?_
          refine rdy [11] ?_
          refine rdC (fun K hK => ?_) AllReadyH.nil
          have c_ := HRb.cell 2
          have f_ := HRb.frozen 2
          go_simp
          have K7s := K7n.far (p := ⟨b, 2, none⟩) (by show g7 ≠ b; exact fun e => BG.out e.symm) (.slice (some ⟨g2, 0, none⟩) (L.length + 1) cap2)
          have hSn := SP.out _ K7s
          refine hK.out _ _ hSn (fun _ => ?_)
          clear c_ f_ hSn hS
          clear hK K
          try simp only [Act.put, pz1, pz2, pz3]
          refine wpAnyH_done (by kernel_rfl) ?_ _
          have HNW := Lib.hid (show RepP W.heap.size ((e9.setCell ⟨b, 2, none⟩ (.slice (some ⟨g2, 0, none⟩) (L.length + 1) cap2))) b S 0 (L ++ [y]) rv (.slice (some ⟨g2, 0, none⟩) (L.length + 1) cap2) from ⟨HRb.set_ 2 _, OwnR.fgT HRr (Se.FG.set_ 2 _) HRb rep_not_reply, ⟨OwnR.fgT HRe.1 (Se.FG.set_ 2 _) HRb rep_not_ent, fun x hx => (HRe.2 x hx).fgT (Se.FG.set_ 2 _) (Nat.zero_le _) HRb rep_not_pair⟩, HR.low⟩)
          have HCN := Lib.hid (HBn.setCell (p := ⟨b, 2, none⟩) HR.low (.slice (some ⟨g2, 0, none⟩) (L.length + 1) cap2))
          have HEN := Lib.hid (show (L ++ [y]).map EntX.b = newE ((es.map EntX.b).take (j + 1)) by rw [NX.out, List.map_append, EQ.out, List.map_singleton, hyb])
          clear HR HRb HRr HRe HBn K7 K7n K7s HB0 HN hyg hyb XG
          go_wp2
          go_round
          case rel => exact ⟨j + 1, _, _, by omega, by go_num, HNW, HEN, HCN⟩
          case measure => first | (simp [intOf]; done) | (simp [intOf]; omega)
    · have jI : ¬ (j : Int) < (n : Int) := by omega
      have jn : j = n := by omega
      obtain ⟨LA, cap, rfl⟩ := OwnR.shape HRx.out.ent.1
      have c2_ : wr.cell? ⟨b, 2, none⟩ = some (.slice LA L.length cap) := (HRx.out.blk.cell 2).trans rfl
      have hll : L.length ≤ 12 := by omega
      have SF := Lib.hid (Se.sortFunc_any W.heap.size LA L.length cap L hll wr HRx.out.ent.1 (fun x hx => (HRx.out.ent.2 x hx).mono (Nat.zero_le _)))
      have EQn := Lib.hid (show L.map EntX.b = newE (es.map EntX.b) by rw [EQ.out, jn, List.take_of_length_le (by rw [EL.out]; exact Nat.le_refl _)])
      clear EQ jn
      go_wp2_with fail
      refine SF.out.mono ?_
      rintro e w2 ⟨rfl, L', ho, hp, hsd, hg⟩
      have hol := own_row_type HRx.out.ent.1
      have HRb : Blk w2 b 140 #[rv, .int .i64 0, .slice LA L.length cap] := (hg.block _ HRx.out.blk.lt (fun e => by obtain ⟨_, cur, h2⟩ := hol _ e.symm; have h3 := HRx.out.blk; unfold Blk at h3; rw [h2] at h3; injection h3 with h3; injection h3 with _ h3 _; exact rep_not_ent h3.symm)).trans HRx.out.blk
      have HRr : OwnR RepB.V 2 w2 W.heap.size 85 rv S := OwnR.grew2 HRx.out.rep hg (fun g e1 e2 => by obtain ⟨_, cur, h2⟩ := hol _ e2; obtain ⟨_, cur2, h4⟩ := own_row_type HRx.out.rep _ e1; rw [h2] at h4; injection h4 with h4; injection h4 with _ h4 _; exact absurd h4 (by decide))
      have HRn := Lib.hid (show RepP W.heap.size w2 b S 0 L' rv (.slice LA L.length cap) from ⟨HRb, HRr, ⟨ho, fun x hx => (HRx.out.ent.2 x (hp.mem_iff.1 hx)).kept HRx.out.ent.1 (Nat.zero_le _) hg⟩, HRx.out.low⟩)
      have HBn := Lib.hid (HBx.out.grown hg HBx.out.size (fun r hr => (hol r hr).1))
      have HP := Lib.hid (show (L'.map EntX.b).Perm (newE (es.map EntX.b)) by rw [← EQn.out]; exact hp.map EntX.b)
      have HSD := Lib.hid hsd
      clear ho hp hsd hg hol HRb HRr HRx HBx c2_ SF
      go_wp2
      go_ret
      exact ⟨b, L', rv, _, rfl, HRn.out, hbB, HP.out, HSD.out, HBn.out⟩
end Go.Proofs.YtdaainifkldcpaaGreatDoor
