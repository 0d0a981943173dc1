-- shaken
import Derived.Test.YtbkpoimaienhpaaGreatDoorLabMath
import Derived.Test.YtbkpoimaienhpaaGreatDoorMatOf
import Derived.Deep.AppendLies
namespace Go.Proofs.YtbkpoimaienhpaaGreatDoor
open Go.RowKit Go.Sort
set_option linter.unusedVariables false
set_option linter.unusedSimpArgs false
def findL (ps : List PairB) (nm : ByteArray) : Option PairB := ps.find? (fun p => decide (p.1 = nm))
def getL (ps : List PairB) (nm : ByteArray) : Option ByteArray := (findL ps nm).map (·.2)
set_option maxHeartbeats 800000 in
theorem labGet_any (A : Option Addr) (n c : Nat) (ps : List PairB) (nm : ByteArray) (hn : n ≤ 9223372036854775807) (W : World) (h1 : Pairs W A n ps) :
    Calls Tryz.prog 39 #[.slice A n c, .string nm] W fun e w' => e = .returned (.tuple #[.string ((getL ps nm).getD .empty), .bool (getL ps nm).isSome]) ∧ Below W.heap.size W w' := by
  obtain ⟨T, hT⟩ : ∃ T, getL ps nm = T := ⟨_, rfl⟩
  rw [hT]
  have HT := Lib.hid (show (findL (ps.drop 0) nm).map (·.2) = T by rw [List.drop_zero]; exact hT)
  have H1 := Lib.hid h1
  clear hT h1
  go_enter Tryz.func39, Tryz.ntmps39
  go_wp2
  go_loopw [10] (fun iv wr => ∃ j : Nat, j ≤ n ∧ iv = .int .i64 j ∧ Hid ((findL (ps.drop j) nm).map (·.2) = T) ∧ Below W.heap.size W wr) (fun iv _ => n - (intOf iv).toNat)
  case atStart => exact ⟨0, Nat.zero_le _, rfl, HT, Below.refl _ _⟩
  case round =>
    obtain ⟨j, hjn, rfl, HJ, hb⟩ := hrel
    have hsz := hb.size
    have l1 := H1.out.1
    by_cases hj : j < n
    · obtain ⟨b1, o1, rfl, hlt1, hc1⟩ := (H1.out.below hb).2 (by omega)
      obtain ⟨c1, c2⟩ := hc1 j hj
      have d1 : ps.drop j = ps.getD j pnil :: ps.drop (j + 1) := by
        rw [List.drop_eq_getElem_cons (by omega), List.getD_eq_getElem?_getD, List.getElem?_eq_getElem (by omega)]
        rfl
      obtain ⟨p, hp⟩ : ∃ p, ps.getD j pnil = p := ⟨_, rfl⟩
      rw [hp] at c1 c2 d1
      obtain ⟨p1, p2⟩ := p
      dsimp only at c1 c2
      have hstep : findL (ps.drop j) nm = if p1 = nm then some (p1, p2) else findL (ps.drop (j + 1)) nm := by
        rw [d1]
        unfold findL
        by_cases h : p1 = nm
        · rw [List.find?_cons_of_pos (by simpa using h), if_pos h]
        · rw [List.find?_cons_of_neg (by simpa using h), if_neg h]
      have hjI : (j : Int) < (n : Int) := by omega
      have hj0 := HJ.out
      rw [hstep] at hj0
      clear hc1 hp d1 hstep
      by_cases he : p1 = nm
      · have g := text_same he
        rw [if_pos he] at hj0
        have E := Lib.hid (show T = some p2 from hj0.symm)
        clear he hj0
        go_wp2
        go_ret2
        exact ⟨by rw [E.out]; rfl, hb.alloc hsz _⟩
      · have g := text_other he
        rw [if_neg he] at hj0
        have HN := Lib.hid hj0
        clear he hj0
        go_wp2
        go_round
        case rel => exact ⟨j + 1, by omega, by go_num, HN, hb.alloc hsz _⟩
        case measure => simp [intOf]; omega
    · obtain rfl : j = n := by omega
      have E := Lib.hid (show T = none by rw [← HJ.out, show ps.drop j = [] from List.drop_of_length_le (by omega)]; rfl)
      go_wp2
      go_ret2
      exact ⟨by rw [E.out]; rfl, hb⟩
def ptrV (b : Nat) : List Value := [.pointer (some ⟨b, 0, none⟩)]
theorem ptrV_len (b : Nat) : (ptrV b).length = 1 := rfl
theorem ptrV_one (b : Nat) : ∀ u ∈ ptrV b, u.oneCell' = true := by
  intro u hu
  obtain rfl := List.mem_singleton.1 hu
  rfl
theorem infoPtr : (Tryz.prog.info? 25).map (fun i => (i.zero, i.size, i.bytes)) = some (some (.pointer none), 1, 8) := by kernel_rfl
theorem own_bT {α : Type} {V : α → List Value} {s : Nat} {w : World} {B T : Nat} {v : Value} {l : List α} (h : OwnR V s w B T v l) : ∀ k, v.ownBlock = some k → ∃ cs, Blk w k T cs := fun _ hk => own_blk h hk
set_option maxRecDepth 100000 in
theorem evAdd_any (a b g : Nat) (v : Value) (bs : List Nat) (B : Nat) (W : World) (K : Blk W a 77 #[v]) (ho : OwnR ptrV 1 W B 25 v bs) (hB : B ≤ W.heap.size) (hl : bs.length ≤ 1000) (KG : Blk W g 25 #[.pointer (some ⟨b, 0, none⟩)]) :
    Calls Tryz.prog 27 #[.pointer (some ⟨a, 0, none⟩), .slice (some ⟨g, 0, none⟩) 1 1] W fun e w' => ∃ v' w1, e = .returned (.tuple #[]) ∧ w' = w1.setCell ⟨a, 0, none⟩ v' ∧ W.grownBy w1 v.ownBlock ∧ Blk w1 a 77 #[v] ∧ OwnR ptrV 1 w1 B 25 v' (bs ++ [b]) := by
  obtain ⟨i0, hi, hz0, hz1, hz2⟩ := info_parts infoPtr
  have c0_ := (K.cell 0).trans (show _ = some v from rfl)
  obtain ⟨n, hn⟩ : ∃ n, bs.length = n := ⟨_, rfl⟩
  have HO := Lib.hid (show W.ownsRow B 25 1 v n (rowV ptrV bs) by have h := ho; unfold OwnR at h; rwa [hn] at h)
  have HK := Lib.hid K
  have HT := Lib.hid (own_bT ho)
  have HN := Lib.hid hn
  have HG := Lib.hid KG
  rw [hn] at hl
  clear hn ho K KG
  go_enter Tryz.func27, Tryz.ntmps27
  go_wp2_with (at_builtin; refine wpList_append_lies _ rfl (.tmp 8) (.tmp 9) 73 rfl B 25 i0 (.pointer none) 1 8 Tryz.underlying73 hi hz0 hz1 hz2 rfl (by decide) _ _ _ rfl HO.out ⟨g, 0, none⟩ 1 1 (ptrV b) rfl rfl (World.news_of_block HG.out) (ptrV_one b) (by decide) (by unfold maxLen; omega) (by omega) hB _ rfl ?_)
  intro g2 cap2 w3 hown' hgrow _ _
  have K3 : Blk w3 a 77 #[v] := Save.grown hgrow HT.out _ _ _ HK.out (by decide)
  have d0_ := (K3.cell 0).trans (show _ = some v from rfl)
  have f0_ := K3.frozen 0
  have GR := Lib.hid hgrow
  have OW := Lib.hid (OwnR.snoc (V := ptrV) (s := 1) (l := bs) (a := b) (by rw [HN.out]; exact hown'))
  have K4 := Lib.hid K3
  clear hown' hgrow K3 c0_
  go_wp2
  refine bodyPost_end (results_none rfl _ _ _) rfl ?_
  exact ⟨_, _, rfl, rfl, GR.out, K4.out, OW.out⟩
def OnesP (w : World) (bs : List Nat) (ms : List MatB) : Prop := bs.length = ms.length ∧ ∀ (i b : Nat) (m : MatB), bs[i]? = some b → ms[i]? = some m → OneP w b m.nm m.op m.v
theorem OnesP.below {w w' : World} {bs : List Nat} {ms : List MatB} (h : OnesP w bs ms) (hb : Below w.heap.size w w') : OnesP w' bs ms := ⟨h.1, fun i b m h1 h2 => (h.2 i b m h1 h2).below hb⟩
theorem OnesP.only {w w' : World} {bs : List Nat} {ms : List MatB} {T : TypeId} (h : OnesP w bs ms) (ho : Save T w w') (h0 : 66 ≠ T) (h1 : 110 ≠ T) (h2 : 131 ≠ T) : OnesP w' bs ms := ⟨h.1, fun i b m h3 h4 => (h.2 i b m h3 h4).only ho h0 h1 h2⟩
theorem OnesP.snoc {w : World} {bs : List Nat} {ms : List MatB} {b : Nat} {m : MatB} (h : OnesP w bs ms) (k : OneP w b m.nm m.op m.v) : OnesP w (bs ++ [b]) (ms ++ [m]) := by
  refine ⟨by simp [h.1], fun i b' m' h1 h2 => ?_⟩
  rcases Nat.lt_or_ge i bs.length with hi | hi
  · rw [List.getElem?_append_left hi] at h1
    rw [List.getElem?_append_left (by rw [← h.1]; exact hi)] at h2
    exact h.2 i b' m' h1 h2
  · rw [List.getElem?_append_right hi] at h1
    rw [List.getElem?_append_right (by rw [← h.1]; exact hi)] at h2
    rw [← h.1] at h2
    have hz : i - bs.length = 0 := by
      rcases Nat.eq_zero_or_pos (i - bs.length) with e | e
      · exact e
      · rw [List.getElem?_eq_none (by simp; omega)] at h1; cases h1
    rw [hz] at h1 h2
    obtain rfl : b = b' := by simpa using h1
    obtain rfl : m = m' := by simpa using h2
    exact k
structure AllP (w : World) (a : Nat) (v : Value) (base : Nat) (bs : List Nat) (ms : List MatB) : Prop where
  blk : Blk w a 77 #[v]
  own : OwnR ptrV 1 w base 25 v bs
  ones : OnesP w bs ms
theorem AllP.below {w w' : World} {a base : Nat} {v : Value} {bs : List Nat} {ms : List MatB} (h : AllP w a v base bs ms) (hb : Below w.heap.size w w') : AllP w' a v base bs ms := ⟨h.blk.below hb h.blk.lt, OwnR.below h.own hb, h.ones.below hb⟩
theorem AllP.more {w w1 : World} {a base b : Nat} {v v' : Value} {bs : List Nat} {ms : List MatB} {m : MatB} (h : AllP w a v base bs ms) (hg : w.grownBy w1 v.ownBlock) (K : Blk w1 a 77 #[v]) (ho : OwnR ptrV 1 w1 base 25 v' (bs ++ [b])) (k : OneP w b m.nm m.op m.v) : AllP (w1.setCell ⟨a, 0, none⟩ v') a v' base (bs ++ [b]) (ms ++ [m]) := by
  have o1 := Save.grown hg (own_bT h.own)
  have o2 := Save.set K 0 v'
  exact ⟨K.set_ 0 v', OwnR.only ho o2 (by decide), ((h.ones.only o1 (by decide) (by decide) (by decide)).snoc (k.only o1 (by decide) (by decide) (by decide))).only o2 (by decide) (by decide) (by decide)⟩
def EveryR (B : Nat) (W : World) (ms : List MatB) (e : Ending) (w' : World) : Prop := ∃ a v base bs, e = .returned (.tuple #[.pointer (some ⟨a, 0, none⟩), .int .i64 0]) ∧ AllP w' a v base bs ms ∧ B ≤ a ∧ Below B W w'
theorem take_snocM {α : Type} {l : List α} {j : Nat} {x : α} (h : l[j]? = some x) : l.take (j + 1) = l.take j ++ [x] := by
  rw [List.take_add_one, h]
  rfl
set_option maxRecDepth 100000 in
set_option maxHeartbeats 1600000 in
theorem every_any (A : Option Addr) (n c : Nat) (ms : List MatB) (hn : n ≤ 1000) (W : World) (h1 : RowR matV 3 W A n ms) (hr : ∀ m ∈ ms, rightA m.nm m.op m.v = true) (hl : LibIs W) :
    Calls Tryz.prog 15 #[.slice A n c] W fun e w' => EveryR W.heap.size W ms e w' := by
  have H1 := Lib.hid h1
  have HR := Lib.hid hr
  have HL := Lib.hid hl
  have HL0 := Lib.hid h1.1
  have HB0 := Lib.hid ((Below.refl W.heap.size W).alloc (Nat.le_refl _) (.cells #[.slice none 0 0] 77))
  have HA0 := Lib.hid (show AllP (W.alloc (.cells #[.slice none 0 0] 77)) W.heap.size (.slice none 0 0) W.heap.size [] (ms.take 0) from ⟨Blk.new _ _ _, OwnR.nil _ _ _, rfl, fun i b m h => by cases h⟩)
  clear h1 hr hl
  go_enter Tryz.func15, Tryz.ntmps15
  go_wp2
  go_loopw [11] (fun iv wr => ∃ (j : Nat) (v : Value) (bs : List Nat), j ≤ n ∧ iv = .int .i64 (j : Nat) ∧ bs.length = j ∧ Hid (AllP wr W.heap.size v W.heap.size bs (ms.take j)) ∧ Hid (Below W.heap.size W wr)) (fun iv _ => n - (intOf iv).toNat)
  case atStart => exact ⟨0, .slice none 0 0, [], Nat.zero_le _, rfl, rfl, HA0, HB0⟩
  case round =>
    obtain ⟨j, v, bs, hjn, rfl, hbl, HA, HB⟩ := hrel
    have HBL := Lib.hid hbl
    clear hbl
    by_cases hj : j < n
    · have jI : (j : Int) < (n : Int) := by omega
      obtain ⟨⟨nm, op, vl⟩, hx⟩ : ∃ x, ms[j]? = some x := ⟨_, List.getElem?_eq_getElem (by rw [HL0.out]; exact hj)⟩
      obtain ⟨b1, o1, hA, hlt, hcc⟩ := (H1.out.below HB.out).2 (by omega)
      subst hA
      have r0_ : wr.cell? ⟨b1, o1 + j * 3, none⟩ = some (.string nm) := (hcc j 0 _ hx (by decide)).trans rfl
      have r1_ : wr.cell? ⟨b1, o1 + j * 3 + 1, none⟩ = some (.string op) := (hcc j 1 _ hx (by decide)).trans rfl
      have r2_ : wr.cell? ⟨b1, o1 + j * 3 + 2, none⟩ = some (.string vl) := (hcc j 2 _ hx (by decide)).trans rfl
      have TS := Lib.hid (take_snocM hx)
      have OF := Lib.hid (fun w hl => matOf_yes nm op vl (HR.out _ (List.mem_of_getElem? hx)) w hl)
      have HB1 := Lib.hid (HB.out.alloc HB.out.size (.cells #[.string nm, .string op, .string vl] 30))
      have HA1 := Lib.hid (HA.out.below ((Below.refl _ _).alloc (Nat.le_refl _) (.cells #[.string nm, .string op, .string vl] 30)))
      clear hcc hx HA HB
      go_wp2_with fail
      refine (OF.out _ (HL.out.below HB1.out)).mono ?_
      rintro e w2 ⟨b, rfl, hob, _, hb⟩
      have HA2 := Lib.hid (HA1.out.below hb)
      have HB2 := Lib.hid (hop HB1.out (Nat.le_refl _) hb)
      have HOB := Lib.hid hob
      have hs2 := HB2.out.size
      clear hb hob HA1 HB1 OF r0_ r1_ r2_
      have hbA := (Below.refl w2.heap.size w2).alloc (Nat.le_refl _) (.cells #[.pointer (some ⟨b, 0, none⟩)] 25)
      have HA3 := Lib.hid (HA2.out.below hbA)
      have HO3 := Lib.hid (HOB.out.below hbA)
      have HB3 := Lib.hid (HB2.out.alloc hs2 (.cells #[.pointer (some ⟨b, 0, none⟩)] 25))
      have AD := Lib.hid (evAdd_any W.heap.size b w2.heap.size v bs W.heap.size (w2.alloc (.cells #[.pointer (some ⟨b, 0, none⟩)] 25)) HA3.out.blk HA3.out.own HB3.out.size (by rw [HBL.out]; omega) (Blk.new _ _ _))
      clear hbA HA2 HOB HB2
      go_wp2_with fail
      refine AD.out.mono ?_
      rintro e _ ⟨v', w4, rfl, rfl, hg, K4, ho4⟩
      have HA5 := Lib.hid (HA3.out.more (m := ⟨nm, op, vl⟩) hg K4 ho4 HO3.out)
      have HB5 := Lib.hid ((HB3.out.grown hg HB3.out.size (fun k hk => (World.ownsRow.lt HA3.out.own k hk).1)).setCell (p := ⟨W.heap.size, 0, none⟩) (Nat.le_refl _) v')
      rw [← TS.out] at HA5
      have hbl2 : (bs ++ [b]).length = j + 1 := by rw [List.length_append, HBL.out]; rfl
      have HB6 := Lib.hid hbl2
      clear hg K4 ho4 HA3 HO3 HB3 AD hbl2
      go_wp2
      go_round
      case rel => exact ⟨j + 1, v', bs ++ [b], by omega, by go_num, HB6.out, HA5, HB5⟩
      case measure => first | (simp [intOf]; done) | (simp [intOf]; omega)
    · have jI : ¬ (j : Int) < (n : Int) := by omega
      have HE := Lib.hid (show ms.take j = ms from List.take_of_length_le (by rw [HL0.out]; omega))
      rw [HE.out] at HA
      go_wp2
      go_ret2
      exact ⟨_, v, W.heap.size, bs, rfl, HA.out, Nat.le_refl _, HB.out⟩
noncomputable def tellM (ms : List MatB) (ps : List PairB) : Bool := ms.all fun m => testM m.op m.v ((getL ps m.nm).getD .empty)
set_option maxRecDepth 100000 in
set_option maxHeartbeats 1600000 in
theorem tell_any (a : Nat) (v : Value) (base : Nat) (bs : List Nat) (ms : List MatB) (A : Option Addr) (n c : Nat) (ps : List PairB) (hn : n ≤ 9223372036854775807) (hm : ms.length ≤ 1000) (W : World) (h : AllP W a v base bs ms) (ht : ∀ m ∈ ms, m.op ∈ textOps) (hp : Pairs W A n ps) (hz : ∀ p ∈ ps, p.2.size ≤ 4000000000000000000) :
    Calls Tryz.prog 28 #[.pointer (some ⟨a, 0, none⟩), .slice A n c] W fun e w' => e = .returned (.bool (tellM ms ps)) ∧ Below W.heap.size W w' := by
  have HA := Lib.hid h
  have HP := Lib.hid hp
  have HT := Lib.hid ht
  have HZ := Lib.hid (show ∀ nm, ((getL ps nm).getD .empty).size ≤ 4000000000000000000 from fun nm => by
    unfold getL findL
    cases e : ps.find? (fun p => decide (p.1 = nm)) with
    | none => show (ByteArray.empty).size ≤ _; decide
    | some p => exact hz p (List.mem_of_find?_eq_some e))
  obtain ⟨A', cap, hv, hcap, _, hrow⟩ := OwnR.open ptrV_len h.own
  have hbl := h.ones.1
  obtain ⟨k, hk⟩ : ∃ k, bs.length = k := ⟨_, rfl⟩
  rw [hk] at hv hcap hrow
  have c0_ := (h.blk.cell 0).trans (show _ = some v from rfl)
  rw [hv] at c0_
  have hk1 : k ≤ 1000 := by omega
  have HK := Lib.hid hk
  have HM := Lib.hid (show ms.length = k by omega)
  have HRW := Lib.hid hrow
  obtain ⟨R, hR⟩ : ∃ R, tellM ms ps = R := ⟨_, rfl⟩
  rw [hR]
  have HR := Lib.hid (show tellM (ms.drop 0) ps = R from hR)
  clear h hp ht hz hv hbl hk hR hrow hm
  go_enter Tryz.func28, Tryz.ntmps28
  go_wp2
  go_loopw [14] (fun iv wr => ∃ j : Nat, j ≤ k ∧ iv = .int .i64 (j : Nat) ∧ Hid (tellM (ms.drop j) ps = R) ∧ Hid (Below W.heap.size W wr)) (fun iv _ => k - (intOf iv).toNat)
  case atStart => exact ⟨0, Nat.zero_le _, rfl, HR, Lib.hid (Below.refl _ _)⟩
  case round =>
    obtain ⟨j, hjk, rfl, HJ, HB⟩ := hrel
    by_cases hj : j < k
    · have jI : (j : Int) < (k : Int) := by omega
      obtain ⟨b, hb⟩ : ∃ b, bs[j]? = some b := ⟨_, List.getElem?_eq_getElem (by rw [HK.out]; exact hj)⟩
      obtain ⟨m, hm⟩ : ∃ m, ms[j]? = some m := ⟨_, List.getElem?_eq_getElem (by rw [HM.out]; exact hj)⟩
      obtain ⟨b1, o1, hA, hlt, hcc⟩ := (HRW.out.below HB.out).2 (by omega)
      subst hA
      have r0_ : wr.cell? ⟨b1, o1 + j, none⟩ = some (.pointer (some ⟨b, 0, none⟩)) := by
        rw [show o1 + j = o1 + j * 1 + 0 by omega]
        exact (hcc j 0 b hb (by decide)).trans rfl
      have HO := Lib.hid ((HA.out.ones.2 j b m hb hm).below HB.out)
      have hd : ms.drop j = m :: ms.drop (j + 1) := by
        rw [List.drop_eq_getElem_cons (by rw [HM.out]; exact hj)]
        congr 1
        exact Option.some.inj ((List.getElem?_eq_getElem (by rw [HM.out]; exact hj)).symm.trans hm)
      have hstep : (testM m.op m.v ((getL ps m.nm).getD .empty) && tellM (ms.drop (j + 1)) ps) = R := by
        rw [← HJ.out, hd]
        rfl
      have ON := Lib.hid (fun w (h : OneP w b m.nm m.op m.v) => oneName_any m.nm m.op m.v b w h)
      have GT := Lib.hid (fun w (h : Pairs w A n ps) => labGet_any A n c ps m.nm hn w h)
      have TE := Lib.hid (fun w (h : OneP w b m.nm m.op m.v) => oneTest_any m.nm m.op m.v b ((getL ps m.nm).getD .empty) w h (HT.out m (List.mem_of_getElem? hm)) (HZ.out m.nm))
      obtain ⟨z, hz⟩ : ∃ z, testM m.op m.v ((getL ps m.nm).getD .empty) = z := ⟨_, rfl⟩
      obtain ⟨t, ht⟩ : ∃ t, (getL ps m.nm).getD .empty = t := ⟨_, rfl⟩
      obtain ⟨q, hq⟩ : ∃ q, (getL ps m.nm).isSome = q := ⟨_, rfl⟩
      rw [ht] at hz
      rw [ht, hz] at TE
      rw [ht, hz] at hstep
      rw [ht, hq] at GT
      obtain ⟨nm, op, vl⟩ := m
      have HS := Lib.hid hstep
      clear hcc hb hm hd hstep hz ht hq
      go_wp2_with fail
      refine (ON.out _ HO.out).mono ?_
      rintro e _ ⟨rfl, rfl⟩
      go_wp2_with fail
      refine (GT.out _ (HP.out.below HB.out)).mono ?_
      rintro e w2 ⟨rfl, hb⟩
      have HO2 := Lib.hid (HO.out.below hb)
      have HB2 := Lib.hid (hop HB.out (Nat.le_refl _) hb)
      clear hb HO ON GT r0_
      go_wp2_with fail
      refine (TE.out _ HO2.out).mono ?_
      rintro e w3 ⟨rfl, hb⟩
      have HB3 := Lib.hid (hop HB2.out (Nat.le_refl _) hb)
      clear hb HO2 HB2 TE
      cases z with
      | false =>
        have E := Lib.hid (show R = false by rw [← HS.out]; rfl)
        go_wp2
        go_ret
        exact ⟨by rw [E.out]; rfl, HB3.out⟩
      | true =>
        have E := Lib.hid (show tellM (ms.drop (j + 1)) ps = R by rw [← HS.out]; rfl)
        go_wp2
        go_round
        case rel => exact ⟨j + 1, by omega, by go_num, E, HB3⟩
        case measure => first | (simp [intOf]; done) | (simp [intOf]; omega)
    · have jI : ¬ (j : Int) < (k : Int) := by omega
      have E := Lib.hid (show R = true by rw [← HJ.out, show ms.drop j = [] from List.drop_of_length_le (by rw [HM.out]; omega)]; rfl)
      go_wp2
      go_ret
      exact ⟨by rw [E.out]; rfl, HB.out⟩
theorem allTest_any (a : Nat) (v : Value) (base : Nat) (bs : List Nat) (ms : List MatB) (A : Option Addr) (n c : Nat) (ps : List PairB) (hn : n ≤ 9223372036854775807) (hm : ms.length ≤ 1000) (W : World) (h : AllP W a v base bs ms) (ht : ∀ m ∈ ms, m.op ∈ textOps) (hp : Pairs W A n ps) (hz : ∀ p ∈ ps, p.2.size ≤ 4000000000000000000) :
    Calls Tryz.prog 16 #[.pointer (some ⟨a, 0, none⟩), .slice A n c] W fun e w' => e = .returned (.bool (tellM ms ps)) ∧ Below W.heap.size W w' := by
  have C := Lib.hid (tell_any a v base bs ms A n c ps hn hm W h ht hp hz)
  obtain ⟨z, hz2⟩ : ∃ z, tellM ms ps = z := ⟨_, rfl⟩
  rw [hz2] at C ⊢
  clear hz2 h ht hp hz hm
  go_enter Tryz.func16, Tryz.ntmps16
  go_wp2_with fail
  refine C.out.mono ?_
  rintro e w ⟨rfl, hb⟩
  have HB := Lib.hid hb
  clear hb
  go_wp2
  go_ret
  exact ⟨rfl, HB.out⟩
theorem allMany_any (a : Nat) (v : Value) (base : Nat) (bs : List Nat) (ms : List MatB) (W : World) (h : AllP W a v base bs ms) :
    Calls Tryz.prog 18 #[.pointer (some ⟨a, 0, none⟩)] W fun e w' => e = .returned (.int .i64 (ms.length : Nat)) ∧ W = w' := by
  obtain ⟨A', cap, hv, hcap, _, _⟩ := OwnR.open ptrV_len h.own
  have c0_ := (h.blk.cell 0).trans (show _ = some v from rfl)
  rw [hv, h.ones.1] at c0_
  obtain ⟨k, hk⟩ : ∃ k, ms.length = k := ⟨_, rfl⟩
  rw [hk] at c0_ ⊢
  have c1_ : Calls Tryz.prog 29 #[.pointer (some ⟨a, 0, none⟩)] W fun e w' => e = .returned (.int .i64 (k : Nat)) ∧ W = w' := by
    clear h hv hk hcap
    go_enter Tryz.func29, Tryz.ntmps29
    go_wp2
    go_ret
    exact ⟨rfl, rfl⟩
  have C := Lib.hid c1_
  clear c1_ h hv hk hcap c0_
  go_enter Tryz.func18, Tryz.ntmps18
  go_wp2_with fail
  refine C.out.mono ?_
  rintro e _ ⟨rfl, rfl⟩
  go_wp2
  go_ret
  exact ⟨rfl, rfl⟩
end Go.Proofs.YtbkpoimaienhpaaGreatDoor
