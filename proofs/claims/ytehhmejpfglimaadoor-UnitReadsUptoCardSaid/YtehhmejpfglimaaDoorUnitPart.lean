/- A number and a unit of a text. -/
import Derived.Test.YtehhmejpfglimaaDoorUnitScale
import Derived.Test.YtehhmejpfglimaaDoorNum2
namespace Go.Proofs.YtehhmejpfglimaaDoor
open Go.RowKit
set_option linter.unusedVariables false

theorem goodK_dig : goodK [0] = digC := by
  funext c
  unfold goodK digC kindB
  simp
theorem goodK_let : goodK [1] = letC := by
  funext c
  unfold goodK letC kindB
  simp
def dIn (t : ByteArray) (k : Nat) : List UInt8 := (t.data.toList.drop k).takeWhile digC
theorem part_list (p : ByteArray) (i j : Nat) : (p.extract i j).data.toList = (p.data.toList.take j).drop i := by
  rw [ByteArray.data_extract, Array.toList_extract]
  simp [List.extract, List.drop_take]
theorem ext_list (t : ByteArray) (i d : Nat) (p : UInt8 → Bool) (h : d = ((t.data.toList.drop i).takeWhile p).length) : (t.extract i (i + d)).data.toList = (t.data.toList.drop i).takeWhile p := by
  rw [part_list, List.drop_take, show i + d - i = d by omega, h]
  exact (List.prefix_iff_eq_take.1 (List.takeWhile_prefix p)).symm
theorem extract_txt (t : ByteArray) (i : Nat) (p : UInt8 → Bool) : t.extract i (runTo p t i) = txt ((t.data.toList.drop i).takeWhile p) :=
  text_ext1 (by rw [txt_list]; exact ext_list t i _ p rfl)

theorem at_drop (t : ByteArray) (k : Nat) (hk : k < t.size) : ∃ r, t.data.toList.drop k = t[k] :: r := by
  have hl : k < t.data.toList.length := by rw [size_toList]; exact hk
  refine ⟨t.data.toList.drop (k + 1), ?_⟩
  rw [List.drop_eq_getElem_cons hl]
  rfl
theorem take_minus (t : ByteArray) (k : Nat) (hk : k < t.size) (h : digC t[k] = true) : takeR t k [minus] = none := by
  unfold takeR
  rw [List.find?_eq_none]
  intro s hs
  rw [List.mem_singleton.1 hs]
  unfold prefB
  intro h2
  rw [Bool.and_eq_true, decide_eq_true_eq, decide_eq_true_eq] at h2
  obtain ⟨h3, h4⟩ := h2
  have e := congrArg (fun s : ByteArray => s.data.toList) h4
  obtain ⟨r, hr⟩ := at_drop t k hk
  have e2 : ((t.extract k t.size).extract 0 minus.size).data.toList = [t[k]] := by
    have h5 : minus.size = 1 := rfl
    rw [part_list, part_list, h5, List.drop_zero, List.take_of_length_le (i := t.size) (by rw [size_toList]; exact Nat.le_refl _), hr]
    rfl
  have e3 : ([t[k]] : List UInt8) = [45] := by rw [← e2]; exact e
  injection e3 with e3
  rw [e3] at h
  revert h; decide

theorem mul_two0 (a b : Int) (a0 : -9223372036854775808 ≤ a) (a1 : a ≤ 9223372036854775807) : mulR [a, b] = timesO a b := by
  simp only [mulR, List.foldl_cons, List.foldl_nil, stepR, Option.bind_some, Int.one_mul, timesO_eq]
  rw [if_pos ⟨a0, a1⟩]
  rfl
theorem mul_pair (w : World) (gg : Nat) (hg : gg = w.heap.size) (t : TypeId) (a b : Int) (wa : (Lit.int .i64 a).wf = true) (wb : (Lit.int .i64 b).wf = true) :
    Calls Tryd.prog 47 #[.slice (some ⟨gg, 0, none⟩) 2 2] (w.alloc (.cells #[.int .i64 a, .int .i64 b] t)) fun e w' => e = .returned (.tuple #[.int .i64 ((timesO a b).getD 0), .bool (timesO a b).isSome]) ∧ Below (w.alloc (.cells #[.int .i64 a, .int .i64 b] t)).heap.size (w.alloc (.cells #[.int .i64 a, .int .i64 b] t)) w' := by
  have h := same_below (mul_any (some ⟨gg, 0, none⟩) 2 2 [a, b] (by decide) _ (ints_lit w t [a, b] (by simp [wa, wb]) gg hg))
  rw [mul_two0 a b (bdi64 wa).1 (bdi64 wa).2] at h
  exact h
theorem drop_run (p : UInt8 → Bool) (t : ByteArray) (k : Nat) : t.data.toList.drop (runTo p t k) = (t.data.toList.drop k).dropWhile p := by
  unfold runTo
  rw [← List.drop_drop]
  conv => lhs; arg 2; rw [← List.takeWhile_append_dropWhile (p := p) (l := t.data.toList.drop k)]
  rw [List.drop_left' rfl]
/-- a part at k: what it comes to, its unit, how many bytes it has -/
def partP (U : List (List UInt8 × Int)) (t : ByteArray) (k : Nat) : Option (Int × Nat × Nat) :=
  (partS U (t.data.toList.drop k)).bind fun x => (timesO x.1 (manyU U x.2.1)).map fun m => (m, x.2.1, x.2.2)
def boxed (w : World) (g n : Nat) (h : Nat) : Prop := w.cell? ⟨h, 0, none⟩ = some (.slice (some ⟨g, 0, none⟩) n n)

set_option maxRecDepth 100000 in
set_option maxHeartbeats 400000 in
theorem part_any (g n : Nat) (U : List (List UInt8 × Int)) (hn : U.length = n) (hn6 : n ≤ 100) (hU : ∀ u ∈ U, (Lit.int .i64 u.2).wf = true) (hE : placeU U [] = none) (b : Nat) (ty : TypeId) (cs : Array Value) (t : ByteArray) (k : Nat) (W : World) (hR : Rd W b ty cs t k) (hI : UnitsIs W g U) (hgb : g ≠ b) (hB : ∀ w, W.grownBy w (some b) → LibIs w) (hs : t.size ≤ 281474976710656) :
    Calls Tryd.prog 38 #[.agg #[.slice (some ⟨g, 0, none⟩) n n], .pointer (some ⟨b, 0, none⟩)] W fun e w' =>
      Hid (∀ x, partP U t k = some x → e = .returned (.tuple #[.int .i64 x.1, .int .i64 (x.2.1 : Int), .bool true]) ∧ Rd w' b ty (cs.setIfInBounds 1 (.int .i64 (k + x.2.2 : Nat))) t (k + x.2.2)) ∧ Hid (partP U t k = none → ∃ a p, e = .returned (.tuple #[.int .i64 a, .int .i64 p, .bool false])) ∧ W.grownBy w' (some b) := by
  have hkt := hR.le
  have hbl := hR.lt
  have HR := Lib.hid hR
  have HI := Lib.hid hI
  have HBB := Lib.hid hB
  have HU := Lib.hid hU
  have HE := Lib.hid hE
  have HN := Lib.hid hn
  clear hI hB hU hE hn
  by_cases hk : k < t.size
  · obtain ⟨c, hc⟩ : ∃ c, t[k] = c := ⟨_, rfl⟩
    have HP := Lib.hid (peek_more b ty cs t k hk c hc (W.alloc (.cells #[.slice (some ⟨g, 0, none⟩) n n] 44)) (hR.alloc _))
    obtain ⟨x, hx⟩ : ∃ x, digC c = x := ⟨_, rfl⟩
    have HIS := Lib.hid (fun (w : World) (gg : Nat) (hgg : gg = w.heap.size) => is_any c.toNat c.toNat_lt (some ⟨gg, 0, none⟩) 1 1 [0] (by decide) _ (ints_lit w 71 [0] (by decide) gg hgg))
    have hg0 : (([0] : List Int).any fun k => kindB k c.toNat) = x := by rw [← hx, ← goodK_dig]; rfl
    simp only [hg0] at HIS
    cases x with
    | false =>
      have hno : partP U t k = none := by
        obtain ⟨r, hr⟩ := at_drop t k hk
        unfold partP partS
        rw [hr, hc, List.takeWhile_cons_of_neg (by rw [hx]; decide), parse_nil]
        rfl
      have E := Lib.hid hno
      clear hR hno hg0 hc hx
      go_enter Tryd.func38, Tryd.ntmps38
      go_wp2_with fail
      refine HP.out.mono ?_
      rintro e w1 ⟨rfl, q, rfl⟩
      go_wp2_with fail
      refine (HIS.out _ _ (by simp)).mono ?_
      rintro e w2 ⟨rfl, rfl⟩
      go_wp2
      go_ret3
      exact ⟨Lib.hid (fun x h => by rw [E.out] at h; cases h), Lib.hid (fun _ => ⟨0, 0, rfl⟩), World.grownBy.trans (grown_drewN (World.grownBy_alloc W _ _) q) (World.grownBy_alloc _ _ _)⟩
    | true =>
      -- the number
      have hdg : digC t[k] = true := by rw [hc]; exact hx
      have htk : takeTo t k [minus] = k := takeTo_none (take_minus t k hk hdg)
      have hne : numEnd t k = runTo digC t k := by unfold numEnd; rw [htk, goodK_dig]
      have hnum : numR t k = parseZ (txt ((t.data.toList.drop k).takeWhile digC)) := by unfold numR; rw [hne, extract_txt]
      have hnto : numTo t k = if (numR t k).isSome then runTo digC t k else k := by unfold numTo numR; rw [hne]
      have HNUM := Lib.hid hnum
      have HNTO := Lib.hid hnto
      have hnle : numTo t k ≤ t.size := by
        rw [hnto]
        split
        · exact runTo_le _ _ _ hkt
        · exact hkt
      clear hR hg0 hc hx htk hne hnum hnto hdg
      go_enter Tryd.func38, Tryd.ntmps38
      go_wp2_with fail
      refine HP.out.mono ?_
      rintro e w1 ⟨rfl, q, rfl⟩
      go_wp2_with fail
      refine (HIS.out _ _ (by simp)).mono ?_
      rintro e w2 ⟨rfl, rfl⟩
      have hg2 : W.grownBy (((W.alloc (.cells #[.slice (some ⟨g, 0, none⟩) n n] 44)).drewN q).alloc (.cells (([0] : List Int).map (Value.int .i64)).toArray 71)) (some b) := World.grownBy.trans (grown_drewN (World.grownBy_alloc W _ _) q) (World.grownBy_alloc _ _ _)
      have hR2 := ((HR.out.alloc (.cells #[.slice (some ⟨g, 0, none⟩) n n] 44)).drewN q).alloc (.cells (([0] : List Int).map (Value.int .i64)).toArray 71)
      have hbox : ((((W.alloc (.cells #[.slice (some ⟨g, 0, none⟩) n n] 44)).drewN q).alloc (.cells (([0] : List Int).map (Value.int .i64)).toArray 71))).cell? ⟨W.heap.size, 0, none⟩ = some (.slice (some ⟨g, 0, none⟩) n n) := by
        rw [((((Blk.new W 44 #[.slice (some ⟨g, 0, none⟩) n n]).drewN q).alloc _).cell 0)]
        rfl
      have hbb : W.heap.size ≠ b := by omega
      obtain ⟨w2, hw2⟩ : ∃ w2, (((W.alloc (.cells #[.slice (some ⟨g, 0, none⟩) n n] 44)).drewN q).alloc (.cells (([0] : List Int).map (Value.int .i64)).toArray 71)) = w2 := ⟨_, rfl⟩
      rw [hw2] at hg2 hR2 hbox
      have HNM := Lib.hid (number_any b ty cs t k w2 hR2 (HBB.out _ hg2) (fun w h => HBB.out _ (World.grownBy.trans hg2 h)) hs)
      subst hw2
      have HG2 := Lib.hid hg2
      have HBX := Lib.hid hbox
      clear hR2 HP HIS hg2 hbox
      obtain ⟨z, hz⟩ : ∃ z, numR t k = z := ⟨_, rfl⟩
      obtain ⟨p, hp⟩ : ∃ p, numTo t k = p := ⟨_, rfl⟩
      rw [hz, hp] at HNM
      rw [hp] at hnle
      have HZ := Lib.hid hz
      have HPP := Lib.hid hp
      clear hz hp
      go_wp2_with fail
      refine HNM.out.mono ?_
      rintro e w3 ⟨rfl, hR3, hg3⟩
      have hg3' := World.grownBy.trans HG2.out hg3
      have hbox3 := cell_kept_by HBX.out hg3 hbb
      have hI3 := HI.out.kept hg3' hgb
      have hb3 := hR3.lt
      have hbx3 : W.heap.size < w3.heap.size := block_lt_of_cell hbox3
      have HG3 := Lib.hid hg3'
      have HI3 := Lib.hid hI3
      have HR3 := Lib.hid hR3
      clear HG2 HBX HNM hg3 hg3' hI3 hR3
      have RUN := Lib.hid (run_any b ty _ t p (some ⟨w3.heap.size, 0, none⟩) 1 1 [1] (by decide) (w3.alloc (.cells #[.int .i64 1] 71)).drew ((HR3.out.alloc _).drewN 1) ((ints_lit w3 71 [1] (by decide) _ rfl).below (below_drewN (Below.refl _ _) 1)) (by intro a h; injection h with h; rw [← h]; show w3.heap.size ≠ b; omega))
      have HKEEP := Lib.hid (fun (w4 : World) (h : (w3.alloc (.cells #[.int .i64 1] 71)).drew.grownBy w4 (some b)) => cell_kept_by (p := ⟨W.heap.size, 0, none⟩) (v := .slice (some ⟨g, 0, none⟩) n n) (by rw [← hbox3]; exact World.cell?_of_block (heap_alloc_old w3 _ hbx3)) h hbb)
      have HKEEP2 := Lib.hid (fun (w4 w5 : World) (h : (w3.alloc (.cells #[.int .i64 1] 71)).drew.grownBy w4 (some b)) (h2 : Below w4.heap.size w4 w5) => (h2.cell (p := ⟨W.heap.size, 0, none⟩) (block_lt_of_cell (HKEEP.out w4 h))).trans (HKEEP.out w4 h))
      obtain ⟨nm, hnm⟩ : ∃ x, t.extract p (runTo (goodK [1]) t p) = x := ⟨_, rfl⟩
      rw [hnm] at RUN
      have PL := Lib.hid (fun w h => place_any g n U HN.out hn6 nm w h)
      have HNMX := Lib.hid hnm
      have HQ := Lib.hid (runTo_le (goodK [1]) t p hnle)
      obtain ⟨q2, hq2⟩ : ∃ x, runTo (goodK [1]) t p = x := ⟨_, rfl⟩
      rw [hq2] at RUN HQ
      have HQ2 := Lib.hid hq2
      clear hnm hq2
      cases z with
      | none =>
        have hno : partP U t k = none := by
          have h := HNUM.out
          rw [HZ.out] at h
          unfold partP partS
          rw [← h]
          rfl
        have E := Lib.hid hno
        obtain ⟨pv, hpv⟩ : ∃ x, placeI U nm = x := ⟨_, rfl⟩
        rw [hpv] at PL
        clear hno hpv
        go_wp2
        go_region_held3 (fun w' => w'.cell? ⟨W.heap.size, 0, none⟩ = some (.slice (some ⟨g, 0, none⟩) n n)) (first | go_keep | exact HKEEP.out _ hg4 | exact HKEEP2.out _ _ hg4 hb5)
          (first | (go_at_call 46; refine RUN.out.mono ?_; rintro e w4 ⟨rfl, hR4, hg4⟩) | (go_at_call 45; refine (PL.out _ (HI3.out.kept (World.grownBy.trans (grown_drewN (World.grownBy_alloc w3 _ _) 1) hg4) hgb)).mono ?_; rintro e w5 ⟨rfl, hb5⟩))
        go_wp2
        go_ret3
        exact ⟨Lib.hid (fun x h => by rw [E.out] at h; cases h), Lib.hid (fun _ => ⟨0, 0, rfl⟩), World.grownBy.trans HG3.out (World.grownBy.trans (World.grownBy.trans (grown_drewN (World.grownBy_alloc w3 _ _) 1) hg4) (grown_of_below hb5 _))⟩
      | some n0 =>
        obtain ⟨⟨n00, n01⟩, _⟩ := (parseZ_iff _ _).1 (HNUM.out.symm.trans HZ.out)
        have wn0 : (Lit.int .i64 n0).wf = true := by simp [Lit.wf, IntKind.min, IntKind.max, IntKind.signed, IntKind.bits]; omega
        have hpd : p = runTo digC t k := by rw [← HPP.out, HNTO.out, HZ.out]; rfl
        have hdr : t.data.toList.drop p = (t.data.toList.drop k).dropWhile digC := by rw [hpd, drop_run]
        have hnm2 : nm.data.toList = ((t.data.toList.drop k).dropWhile digC).takeWhile letC := by rw [← HNMX.out, goodK_let, extract_txt, txt_list, hdr]
        have hq : q2 = k + (((t.data.toList.drop k).takeWhile digC).length + (((t.data.toList.drop k).dropWhile digC).takeWhile letC).length) := by
          rw [← HQ2.out, goodK_let]
          have e1 : runTo letC t p = p + ((t.data.toList.drop p).takeWhile letC).length := rfl
          rw [e1, hdr]
          have e2 : runTo digC t k = k + ((t.data.toList.drop k).takeWhile digC).length := rfl
          omega
        have hpar : parseZ (txt ((t.data.toList.drop k).takeWhile digC)) = some n0 := HNUM.out.symm.trans HZ.out
        cases hpl : placeU U nm.data.toList with
        | none =>
          have hno : partP U t k = none := by
            unfold partP partS
            rw [hpar, ← hnm2, hpl]
            rfl
          have E := Lib.hid hno
          rw [placeI_none hpl] at PL
          clear hno hpl hpar hq hnm2 hdr hpd
          go_wp2
          go_region_held3 (fun w' => w'.cell? ⟨W.heap.size, 0, none⟩ = some (.slice (some ⟨g, 0, none⟩) n n)) (first | go_keep | exact HKEEP.out _ hg4 | exact HKEEP2.out _ _ hg4 hb5)
            (first | (go_at_call 46; refine RUN.out.mono ?_; rintro e w4 ⟨rfl, hR4, hg4⟩) | (go_at_call 45; refine (PL.out _ (HI3.out.kept (World.grownBy.trans (grown_drewN (World.grownBy_alloc w3 _ _) 1) hg4) hgb)).mono ?_; rintro e w5 ⟨rfl, hb5⟩))
          go_wp2
          go_ret3
          exact ⟨Lib.hid (fun x h => by rw [E.out] at h; cases h), Lib.hid (fun _ => ⟨0, 0, rfl⟩), World.grownBy.trans HG3.out (World.grownBy.trans (World.grownBy.trans (grown_drewN (World.grownBy_alloc w3 _ _) 1) hg4) (grown_of_below hb5 _))⟩
        | some i =>
          have hil : i < U.length := by
            unfold placeU at hpl
            rw [List.findIdx?_eq_some_iff_getElem] at hpl
            exact hpl.1
          have hin : i < n := by rw [← HN.out]; exact hil
          have wm : (Lit.int .i64 (manyU U i)).wf = true := by
            unfold manyU
            rw [List.getD_eq_getElem?_getD, List.getElem?_eq_getElem hil]
            exact HU.out _ (List.getElem_mem hil)
          have hpt : partP U t k = (timesO n0 (manyU U i)).map fun m => (m, i, ((t.data.toList.drop k).takeWhile digC).length + (((t.data.toList.drop k).dropWhile digC).takeWhile letC).length) := by
            unfold partP partS
            rw [hpar, ← hnm2, hpl]
            rfl
          have hcell : ∀ w, UnitsIs w g U → w.cell? ⟨g, i * 2 + 1, none⟩ = some (.int .i64 (manyU U i)) := fun w h => (h.2 i hil).2
          rw [placeI_some hpl] at PL
          obtain ⟨m, hm⟩ : ∃ x, manyU U i = x := ⟨_, rfl⟩
          rw [hm] at wm hpt
          simp only [hm] at hcell
          have HM := Lib.hid (fun w gg hg t => mul_pair w gg hg t n0 m wn0 wm)
          obtain ⟨o, ho⟩ : ∃ x, timesO n0 m = x := ⟨_, rfl⟩
          rw [ho] at hpt
          simp only [ho] at HM
          have HPT := Lib.hid hpt
          have HC := Lib.hid hcell
          have HQQ := Lib.hid hq
          have hi100 : i ≤ 100 := by omega
          have hin' : (i : Int) < (n : Int) := by omega
          clear hpl hpar hq hnm2 hdr hpd hil wm hpt hcell hm ho wn0 n00 n01
          go_wp2
          go_region_held3 (fun w' => w'.cell? ⟨W.heap.size, 0, none⟩ = some (.slice (some ⟨g, 0, none⟩) n n)) (first | go_keep | exact HKEEP.out _ hg4 | exact HKEEP2.out _ _ hg4 hb5)
            (first | (go_at_call 46; refine RUN.out.mono ?_; rintro e w4 ⟨rfl, hR4, hg4⟩) | (go_at_call 45; refine (PL.out _ (HI3.out.kept (World.grownBy.trans (grown_drewN (World.grownBy_alloc w3 _ _) 1) hg4) hgb)).mono ?_; rintro e w5 ⟨rfl, hb5⟩))
          have hbx5 := HKEEP2.out _ _ hg4 hb5
          have hI5 := (HI3.out.kept (World.grownBy.trans (grown_drewN (World.grownBy_alloc w3 _ _) 1) hg4) hgb).below hb5
          have cu := HC.out _ hI5
          have hg5 : W.grownBy w5 (some b) := World.grownBy.trans HG3.out (World.grownBy.trans (World.grownBy.trans (grown_drewN (World.grownBy_alloc w3 _ _) 1) hg4) (grown_of_below hb5 _))
          have hR5 := hR4.below hb5 hR4.lt
          have HG5 := Lib.hid hg5
          have HR5 := Lib.hid hR5
          clear hI5 hg5 hR5 hg4 hb5 hR4
          go_wp2_with fail
          refine (HM.out _ _ rfl _).mono ?_
          rintro e w6 ⟨rfl, hb6⟩
          have hg6 : W.grownBy w6 (some b) := World.grownBy.trans HG5.out (World.grownBy.trans (World.grownBy_alloc w5 _ _) (grown_of_below hb6 _))
          have hR6 := (HR5.out.alloc _).below hb6 (HR5.out.alloc _).lt
          have HR6 := Lib.hid hR6
          clear hR6 hb6
          cases o with
          | some r =>
            go_wp2
            go_ret3
            refine ⟨Lib.hid (fun x h => ?_), Lib.hid (fun h => ?_), hg6⟩
            · rw [HPT.out] at h
              injection h with h
              subst h
              refine ⟨rfl, ?_⟩
              have hh := HR6.out
              rw [set_twice, HQQ.out] at hh
              exact hh
            · rw [HPT.out] at h; cases h
          | none =>
            go_wp2
            go_ret3
            refine ⟨Lib.hid (fun x h => ?_), Lib.hid (fun h => ⟨_, _, rfl⟩), hg6⟩
            rw [HPT.out] at h
            cases h
  · obtain rfl : k = t.size := by omega
    have HP := Lib.hid (peek_end b ty cs t (W.alloc (.cells #[.slice (some ⟨g, 0, none⟩) n n] 44)) (hR.alloc _))
    have HIS := Lib.hid (fun (w : World) (gg : Nat) (hgg : gg = w.heap.size) => is_any 0 (by decide) (some ⟨gg, 0, none⟩) 1 1 [0] (by decide) _ (ints_lit w 71 [0] (by decide) gg hgg))
    have hg0 : (([0] : List Int).any fun k => kindB k 0) = false := by decide
    simp only [hg0] at HIS
    have hno : partP U t t.size = none := by
      unfold partP partS
      rw [List.drop_of_length_le (by rw [size_toList]; exact Nat.le_refl _), List.takeWhile_nil, parse_nil]
      rfl
    have E := Lib.hid hno
    clear hR hno hg0 hk
    go_enter Tryd.func38, Tryd.ntmps38
    go_wp2_with fail
    refine HP.out.mono ?_
    rintro e w1 ⟨rfl, q, rfl⟩
    go_wp2_with fail
    refine (HIS.out _ _ (by simp)).mono ?_
    rintro e w2 ⟨rfl, rfl⟩
    go_wp2
    go_ret3
    exact ⟨Lib.hid (fun x h => by rw [E.out] at h; cases h), Lib.hid (fun _ => ⟨0, 0, rfl⟩), World.grownBy.trans (grown_drewN (World.grownBy_alloc W _ _) q) (World.grownBy_alloc _ _ _)⟩
end Go.Proofs.YtehhmejpfglimaaDoor
