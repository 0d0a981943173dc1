/- The walk of the law EntryTells: entries are told as the document tells them. -/
import Derived.Test.YtdbflmkjcgiodaaGreatDoorRefEntOrd
namespace Go.Proofs.YtdbflmkjcgiodaaGreatDoor
open Go.RowKit
set_option linter.unusedVariables false
set_option linter.unusedSimpArgs false

def boxT (x : ItemX) : Array Value := #[.int .i64 x.e.ts, .slice x.e.A x.e.n x.e.c, .string x.e.ln, .bool x.own, .int .i8 x.t, .slice x.LA x.Ln x.Lc, .int .u8 (x.k : Int)]
theorem boxT_cells {w : World} {g : Nat} {x : ItemX} {t : TypeId} (h : Blk w g t (boxT x)) : w.cell? ⟨g, 0, none⟩ = some (.int .i64 x.e.ts) ∧ w.cell? ⟨g, 1, none⟩ = some (.slice x.e.A x.e.n x.e.c) ∧ w.cell? ⟨g, 2, none⟩ = some (.string x.e.ln) ∧ w.cell? ⟨g, 3, none⟩ = some (.bool x.own) ∧ w.cell? ⟨g, 4, none⟩ = some (.int .i8 x.t) ∧ w.cell? ⟨g, 5, none⟩ = some (.slice x.LA x.Ln x.Lc) ∧ w.cell? ⟨g, 6, none⟩ = some (.int .u8 (x.k : Int)) :=
  ⟨(h.cell 0).trans rfl, (h.cell 1).trans rfl, (h.cell 2).trans rfl, (h.cell 3).trans rfl, (h.cell 4).trans rfl, (h.cell 5).trans rfl, (h.cell 6).trans rfl⟩
theorem refRight_good (q : EntX) (w : World) (g : GoodQ w q) (hn : q.n ≤ 1048576) : Calls Tryz.prog 14 #[.agg #[.int .i64 q.ts, .slice q.A q.n q.c, .string q.ln]] w fun e w' => e = .returned (.bool (rightE q.b)) ∧ Below w.heap.size w w' :=
  refEntRight_any q.ts q.A q.n q.c q.ls q.ln (by omega) w g.set
theorem refOrder_good (p q : EntX) (w : World) (gp : GoodQ w p) (gq : GoodQ w q) (hp : p.n ≤ 1048576) (hq : q.n ≤ 1048576) : Calls Tryz.prog 16 #[.agg #[.int .i64 p.ts, .slice p.A p.n p.c, .string p.ln], .agg #[.int .i64 q.ts, .slice q.A q.n q.c, .string q.ln]] w fun e w' => e = .returned (.int .i64 (entC p.b q.b)) ∧ Below w.heap.size w w' :=
  refEntOrder_any p.ts q.ts p.A q.A p.n q.n p.c q.c p.ls q.ls p.ln q.ln (by omega) (by omega) w gp.set gq.set
theorem refAhead_good (p q : EntX) (asc : Bool) (w : World) (gp : GoodQ w p) (gq : GoodQ w q) (hp : p.n ≤ 1048576) (hq : q.n ≤ 1048576) : Calls Tryz.prog 19 #[.agg #[.int .i64 p.ts, .slice p.A p.n p.c, .string p.ln], .agg #[.int .i64 q.ts, .slice q.A q.n q.c, .string q.ln], .bool asc] w fun e w' => e = .returned (.bool (aheadB p.b q.b asc)) ∧ Below w.heap.size w w' :=
  refEntAhead_any p.ts q.ts p.A q.A p.n q.n p.c q.c p.ls q.ls p.ln q.ln asc (by omega) (by omega) w gp.set gq.set
theorem refPut_good (q : EntX) (w : World) (g : GoodQ w q) (hn : q.n ≤ 1048576) (hp : PutE q.b) : Calls Tryz.prog 22 #[.agg #[.int .i64 q.ts, .slice q.A q.n q.c, .string q.ln]] w fun e w' => e = .returned (.string (entT q.b)) ∧ Below w.heap.size w w' :=
  refEntPut_any q.ts q.A q.n q.c q.ls q.ln hp hn w g.set
theorem items_small {B : Nat} {w : World} {l : List ItemX} {L : List EntX} (h : ∀ x ∈ l, GoodI B w x) (ul : sumN (l.map itemK) ≤ 1048576) (e : L.map EntX.b = itemsB l 8) : ∀ x ∈ L, x.ls.length ≤ 1048576 := by
  intro x hx
  have hm : x.b ∈ itemsB l 8 := by rw [← e]; exact List.mem_map_of_mem hx
  unfold itemsB at hm
  obtain ⟨i, hi, hb⟩ := List.mem_map.1 hm
  have hi' := List.mem_of_mem_take hi
  have hk : itemK i ≤ sumN (l.map itemK) := sumN_mem (List.mem_map.2 ⟨i, hi', rfl⟩)
  have PU := (item_put (h i hi') (by omega)).len
  rw [hb] at PU
  exact PU

set_option maxRecDepth 100000 in
set_option maxHeartbeats 6400000 in
theorem entryTells_walk {W : World} (x y : ItemX) (A : Option Addr) (n c : Nat) (l : List ItemX) (asc : Bool) (hx : GoodI W.heap.size W x) (ux : itemK x ≤ 1048576) (hy : GoodI W.heap.size W y) (uy : itemK y ≤ 1048576)
    (h1 : ItemsP W.heap.size W A n l) (ul : sumN (l.map itemK) ≤ 1048576) (hnc : n ≤ c) (hcm : c ≤ maxLen) (hl : LibIs W) :
    Calls Tryz.prog 3 #[x.val, y.val, .slice A n c, .bool asc] W fun e w' => e = .returned (.bool true) ∧ Below W.heap.size W w' := by
  have h0 : W.heap.size ≤ W.heap.size := Nat.le_refl _
  unfold maxLen at hcm
  have HL := Lib.hid hl
  have HX := Lib.hid (fun w h => entExamples_any w (hl.below h))
  have IX := fun w h => item_any W.heap.size x w (hx.below h)
  have IY := fun w h => item_any W.heap.size y w (hy.below h)
  have PX := item_put hx ux
  have PY := item_put hy uy
  have IT := Lib.hid (fun w (h : Below W.heap.size W w) => show Calls Tryz.prog 12 #[.slice A n c, .int .i64 8] w _ from items_any W.heap.size A n c 8 l (by omega) (by decide) w h.size (h1.below h))
  have SMA := Lib.hid (fun (L : List EntX) (e : L.map EntX.b = itemsB l 8) => items_small h1.2 ul e)
  obtain ⟨ex, hex⟩ : ∃ e, itemB x = e := ⟨_, rfl⟩
  obtain ⟨ey, hey⟩ : ∃ e, itemB y = e := ⟨_, rfl⟩
  simp only [hex] at IX
  simp only [hey] at IY
  rw [hex] at PX
  rw [hey] at PY
  have HPX := Lib.hid PX
  have LX := Lib.hid (fun (a : EntX) (w : World) (h1 : a.b = ex) (h2 : Good W.heap.size w a) => show a.n ≤ 1048576 from by
    have k1 : a.ls.length = a.n := h2.set.1.1
    have k2 : a.b.ls.length ≤ 1048576 := by rw [h1]; exact PX.len
    rw [← k1]; exact k2)
  have LY := Lib.hid (fun (a : EntX) (w : World) (h1 : a.b = ey) (h2 : Good W.heap.size w a) => show a.n ≤ 1048576 from by
    have k1 : a.ls.length = a.n := h2.set.1.1
    have k2 : a.b.ls.length ≤ 1048576 := by rw [h1]; exact PY.len
    rw [← k1]; exact k2)
  dsimp only [ItemX.val] at IX IY ⊢
  replace IX := Lib.hid IX
  replace IY := Lib.hid IY
  clear hx hy hl ux uy h1 ul hex hey PX PY hnc hcm
  go_enter Tryz.func3, Tryz.ntmps3
  go_wp2_with fail
  obtain ⟨w0, hw0⟩ : ∃ w, (W.alloc (.cells (boxT x) 29)).alloc (.cells (boxT y) 29) = w := ⟨_, rfl⟩
  have BX : Blk w0 W.heap.size 29 (boxT x) := by rw [← hw0]; exact (Blk.new W _ _).alloc _
  have BY : Blk w0 (W.heap.size + 1) 29 (boxT y) := by rw [← hw0]; exact blk_next W _ _ _
  have H : Held W w0 [] := Held.nil (by rw [← hw0]; exact ((Below.refl _ _).alloc h0 _).alloc (by simp) _)
  change Calls Tryz.prog _ _ ((W.alloc (.cells (boxT x) 29)).alloc (.cells (boxT y) 29)) _
  rw [hw0]
  clear hw0
  refine (HX.out _ H.below).mono ?_
  rintro e w1 ⟨rfl, hx⟩
  replace H := H.next hx
  replace BX := BX.below hx BX.lt
  replace BY := BY.below hx BY.lt
  clear hx
  obtain ⟨x0, x1, x2, x3, x4, x5, x6⟩ := boxT_cells BX
  have HBY := Lib.hid BY
  have HH := Lib.hid H
  clear BX BY H HX
  go_wp2_with fail
  refine (IX.out _ HH.out.below).mono ?_
  rintro e w2 ⟨a, rfl, ha, ga, hx⟩
  have H := HH.out.next hx
  have HNa := Lib.hid (LX.out a _ ha ga)
  have BY := (HBY.out.below hx HBY.out.lt).alloc (.cells #[.int .i64 a.ts, .slice a.A a.n a.c, .string a.ln] 25)
  clear hx HH HBY IX LX x0 x1 x2 x3 x4 x5 x6
  dsimp only [EntX.val]
  have H2 := H.push (x := a) (g := w2.heap.size) rfl ga
  change Held W (w2.alloc (.cells #[.int .i64 a.ts, .slice a.A a.n a.c, .string a.ln] 25)) _ at H2
  obtain ⟨x0, x1, x2, x3, x4, x5, x6⟩ := boxT_cells BY
  have HH := Lib.hid H2
  have Hha := Lib.hid ha
  clear H H2 ga ha BY
  go_wp2_with fail
  obtain ⟨w3, hw⟩ : ∃ w', w2.alloc (.cells #[.int .i64 a.ts, .slice a.A a.n a.c, .string a.ln] 25) = w' := ⟨_, rfl⟩
  obtain ⟨ga0, hg0⟩ : ∃ g, w2.heap.size = g := ⟨_, rfl⟩
  replace HH := HH.out
  rw [hw, hg0] at HH
  replace HH := Lib.hid HH
  rw [hw] at x0 x1 x2 x3 x4 x5 x6
  rw [hw, hg0]
  clear hw hg0
  refine (IY.out _ HH.out.below).mono ?_
  rintro e w4 ⟨b, rfl, hb, gb, hx⟩
  have H := HH.out.next hx
  have HNb := Lib.hid (LY.out b _ hb gb)
  clear hx HH IY LY x0 x1 x2 x3 x4 x5 x6
  dsimp only [EntX.val]
  have H2 := H.push (x := b) (g := w4.heap.size) rfl gb
  change Held W (w4.alloc (.cells #[.int .i64 b.ts, .slice b.A b.n b.c, .string b.ln] 25)) _ at H2
  obtain ⟨ka0, ka1, ka2⟩ := H2.cells (.tail _ (.head _))
  obtain ⟨kb0, kb1, kb2⟩ := H2.cells (.head _)
  have HH := Lib.hid H2
  have Hhb := Lib.hid hb
  clear H H2 gb hb
  go_wp2_with fail
  obtain ⟨w5, hw⟩ : ∃ w', w4.alloc (.cells #[.int .i64 b.ts, .slice b.A b.n b.c, .string b.ln] 25) = w' := ⟨_, rfl⟩
  obtain ⟨gb0, hg0⟩ : ∃ g, w4.heap.size = g := ⟨_, rfl⟩
  replace HH := HH.out
  rw [hw, hg0] at HH
  replace HH := Lib.hid HH
  rw [hw] at ka0 ka1 ka2 kb0 kb1 kb2
  rw [hg0] at kb0 kb1 kb2
  rw [hw, hg0]
  clear hw hg0
  refine (refEntry_any a HNa.out _ (HH.out.good (.tail _ (.head _))).set.1).mono ?_
  rintro e w6 ⟨r, rfl, hr, hrn, gr, hx⟩
  have Hgr := Lib.hid (gr.below ((Below.refl _ _).alloc (Nat.le_refl _) (.cells #[.int .i64 r.ts, .slice r.A r.n r.c, .string r.ln] 35)))
  have H := (HH.out.next hx).alloc (.cells #[.int .i64 r.ts, .slice r.A r.n r.c, .string r.ln] 35)
  have Hhr := Lib.hid (hr.trans Hha.out)
  have HNr := Lib.hid (show r.n ≤ 1048576 by rw [hrn]; exact HNa.out)
  have BR := Blk.new w6 35 #[.int .i64 r.ts, .slice r.A r.n r.c, .string r.ln]
  clear hx HH ka0 ka1 ka2 kb0 kb1 kb2 hr hrn gr
  obtain ⟨ka0, ka1, ka2⟩ := H.cells (.tail _ (.head _))
  obtain ⟨kb0, kb1, kb2⟩ := H.cells (.head _)
  go_wp2_with fail
  obtain ⟨w7, hw⟩ : ∃ w', w6.alloc (.cells #[.int .i64 r.ts, .slice r.A r.n r.c, .string r.ln] 35) = w' := ⟨_, rfl⟩
  obtain ⟨gr0, hg0⟩ : ∃ g, w6.heap.size = g := ⟨_, rfl⟩
  replace Hgr := Hgr.out
  rw [hw] at H BR Hgr ka0 ka1 ka2 kb0 kb1 kb2
  rw [hg0] at BR
  rw [hw, hg0]
  clear hw hg0
  replace Hgr := Lib.hid Hgr
  have HH := Lib.hid H
  have HBR := Lib.hid BR
  clear H BR ka0 ka1 ka2 kb0 kb1 kb2
  refine (refEntry_any b HNb.out _ (HH.out.good (.head _)).set.1).mono ?_
  rintro e w8 ⟨q, rfl, hq, hqn, gq, hx⟩
  have Hgq := Lib.hid (gq.below ((Below.refl _ _).alloc (Nat.le_refl _) (.cells #[.int .i64 q.ts, .slice q.A q.n q.c, .string q.ln] 35)))
  replace Hgr := Lib.hid ((Hgr.out.below hx).below ((Below.refl _ _).alloc (Nat.le_refl _) (.cells #[.int .i64 q.ts, .slice q.A q.n q.c, .string q.ln] 35)))
  have H := (HH.out.next hx).alloc (.cells #[.int .i64 q.ts, .slice q.A q.n q.c, .string q.ln] 35)
  have Hhq := Lib.hid (hq.trans Hhb.out)
  have HNq := Lib.hid (show q.n ≤ 1048576 by rw [hqn]; exact HNb.out)
  have BR := (HBR.out.below hx HBR.out.lt).alloc (.cells #[.int .i64 q.ts, .slice q.A q.n q.c, .string q.ln] 35)
  have BQ := Blk.new w8 35 #[.int .i64 q.ts, .slice q.A q.n q.c, .string q.ln]
  clear hx HH HBR hq hqn gq
  go_wp2_with fail
  obtain ⟨w9, hw⟩ : ∃ w', w8.alloc (.cells #[.int .i64 q.ts, .slice q.A q.n q.c, .string q.ln] 35) = w' := ⟨_, rfl⟩
  obtain ⟨gq0, hg0⟩ : ∃ g, w8.heap.size = g := ⟨_, rfl⟩
  replace Hgr := Hgr.out
  replace Hgq := Hgq.out
  rw [hw] at H BR BQ Hgr Hgq
  rw [hg0] at BQ
  rw [hw, hg0]
  clear hw hg0
  refine (IT.out _ H.below).mono ?_
  rintro e w11 ⟨v, L, rfl, hown, hmap, hx⟩
  replace H := H.next hx
  replace BR := BR.below hx BR.lt
  replace BQ := BQ.below hx BQ.lt
  replace Hgr := Hgr.below hx
  replace Hgq := Hgq.below hx
  obtain ⟨A3, cap, rfl, _, _, he⟩ := hown.ents
  have hsm := SMA.out L hmap
  have hns : ∀ z ∈ L, z.n ≤ 1048576 := fun z hz => by
    have k1 : z.ls.length = z.n := (he.2 z hz).set.1.1
    rw [← k1]; exact hsm z hz
  have hLl : L.length ≤ 8 := by
    have h3 := congrArg List.length hmap
    rw [List.length_map] at h3
    have := itemsB_len l 8
    omega
  obtain ⟨m, hm⟩ : ∃ m, L.length = m := ⟨_, rfl⟩
  rw [hm] at he hLl
  rw [hm]
  obtain ⟨ka0, ka1, ka2⟩ := H.cells (.tail _ (.head _))
  obtain ⟨kb0, kb1, kb2⟩ := H.cells (.head _)
  have kr0 : w11.cell? ⟨gr0, 0, none⟩ = some (.int .i64 r.ts) := (BR.cell 0).trans rfl
  have kr1 : w11.cell? ⟨gr0, 1, none⟩ = some (.slice r.A r.n r.c) := (BR.cell 1).trans rfl
  have kr2 : w11.cell? ⟨gr0, 2, none⟩ = some (.string r.ln) := (BR.cell 2).trans rfl
  have kq0 : w11.cell? ⟨gq0, 0, none⟩ = some (.int .i64 q.ts) := (BQ.cell 0).trans rfl
  have kq1 : w11.cell? ⟨gq0, 1, none⟩ = some (.slice q.A q.n q.c) := (BQ.cell 1).trans rfl
  have kq2 : w11.cell? ⟨gq0, 2, none⟩ = some (.string q.ln) := (BQ.cell 2).trans rfl
  have GA := H.good (.tail _ (.head _))
  have GB := H.good (.head _)
  have K13 := fun w (h : Below w11.heap.size w11 w) => right_good_ent a w (GA.below h)
  have K14 := fun w (h : Below w11.heap.size w11 w) => refRight_good r w (Hgr.below h) HNr.out
  have K15 := fun w (h : Below w11.heap.size w11 w) => ord_good a b w (GA.below h) (GB.below h)
  have K16 := fun w (h : Below w11.heap.size w11 w) => refOrder_good r q w (Hgr.below h) (Hgq.below h) HNr.out HNq.out
  have K17 := fun w (h : Below w11.heap.size w11 w) => same_good a b w (GA.below h) (GB.below h)
  have K18 := fun w (h : Below w11.heap.size w11 w) => ahead_good a b asc w (GA.below h) (GB.below h)
  have K19 := fun w (h : Below w11.heap.size w11 w) => refAhead_good r q asc w (Hgr.below h) (Hgq.below h) HNr.out HNq.out
  have K20 := fun w (h : Below w11.heap.size w11 w) => entCost_any a.ts a.A a.n a.c a.ln w (by have := HPX.out.line; rw [← Hha.out] at this; have h3 : a.ln.size ≤ 4000000 := this; omega)
  have K21 := fun w (h : Below w11.heap.size w11 w) => put_ent a w (GA.below h) (by rw [Hha.out]; exact HPX.out) (HL.out.below (hop H.below h0 h))
  have K22 := fun w (h : Below w11.heap.size w11 w) => refPut_good r w (Hgr.below h) HNr.out (by rw [Hhr.out]; exact HPX.out)
  have hLm := Lib.hid hLl
  have K23 := fun w (h : Below w11.heap.size w11 w) => entSorted_any asc A3 m cap L (by omega) W.heap.size w (he.below h)
  have K25 := Lib.hid (fun w (h : Below w11.heap.size w11 w) => refEntries_any W.heap.size A3 m cap L (by omega) hns w (he.below h))
  simp only [sameE_ord] at K17
  simp only [Hha.out] at K13 K15 K17 K18 K21
  simp only [Hhb.out] at K15 K17 K18
  simp only [Hhr.out] at K14 K16 K19 K22
  simp only [Hhq.out] at K16 K19
  have hdc : decide (entC ex ey = 0) = (entC ex ey == 0) := by rw [Bool.eq_iff_iff, beq_iff_eq, decide_eq_true_iff]
  simp only [hdc] at K17
  obtain ⟨R, hR⟩ : ∃ R, rightE ex = R := ⟨_, rfl⟩
  obtain ⟨o, ho⟩ : ∃ o, entC ex ey = o := ⟨_, rfl⟩
  obtain ⟨z, hz⟩ : ∃ z, (o == 0) = z := ⟨_, rfl⟩
  obtain ⟨d, hd⟩ : ∃ d, aheadB ex ey asc = d := ⟨_, rfl⟩
  obtain ⟨T, hT⟩ : ∃ T, entT ex = T := ⟨_, rfl⟩
  obtain ⟨so, hso⟩ : ∃ s, sortedE asc L = s := ⟨_, rfl⟩
  simp only [hR] at K13 K14
  simp only [ho] at K15 K16
  simp only [ho, hz] at K17
  simp only [hd] at K18 K19
  simp only [hT] at K21 K22
  simp only [hso] at K23
  have HSO := Lib.hid (fun (L' : List EntX) (h : L'.map EntX.b = L.map EntX.b) => show sortedE asc L' = so from (sortedE_map asc L' L h).trans hso)
  have HB := Lib.hid H.below
  have hoo : (o == o) = true := by simp
  have hTT : (T.toList == T.toList) = true := by simp
  replace K13 := Lib.hid K13
  replace K14 := Lib.hid K14
  replace K15 := Lib.hid K15
  replace K16 := Lib.hid K16
  replace K17 := Lib.hid K17
  replace K18 := Lib.hid K18
  replace K19 := Lib.hid K19
  replace K20 := Lib.hid K20
  replace K21 := Lib.hid K21
  replace K22 := Lib.hid K22
  replace K23 := Lib.hid K23
  have HS := Lib.hid (fun (w w' : World) (hS : Below w11.heap.size w11 w ∧ w.cell? ⟨ga0, 0, none⟩ = some (.int .i64 a.ts) ∧ w.cell? ⟨ga0, 1, none⟩ = some (.slice a.A a.n a.c) ∧ w.cell? ⟨ga0, 2, none⟩ = some (.string a.ln) ∧ w.cell? ⟨gb0, 0, none⟩ = some (.int .i64 b.ts) ∧ w.cell? ⟨gb0, 1, none⟩ = some (.slice b.A b.n b.c) ∧ w.cell? ⟨gb0, 2, none⟩ = some (.string b.ln) ∧ w.cell? ⟨gr0, 0, none⟩ = some (.int .i64 r.ts) ∧ w.cell? ⟨gr0, 1, none⟩ = some (.slice r.A r.n r.c) ∧ w.cell? ⟨gr0, 2, none⟩ = some (.string r.ln) ∧ w.cell? ⟨gq0, 0, none⟩ = some (.int .i64 q.ts) ∧ w.cell? ⟨gq0, 1, none⟩ = some (.slice q.A q.n q.c) ∧ w.cell? ⟨gq0, 2, none⟩ = some (.string q.ln)) (hx : Below w.heap.size w w') =>
      show Below w11.heap.size w11 w' ∧ w'.cell? ⟨ga0, 0, none⟩ = some (.int .i64 a.ts) ∧ w'.cell? ⟨ga0, 1, none⟩ = some (.slice a.A a.n a.c) ∧ w'.cell? ⟨ga0, 2, none⟩ = some (.string a.ln) ∧ w'.cell? ⟨gb0, 0, none⟩ = some (.int .i64 b.ts) ∧ w'.cell? ⟨gb0, 1, none⟩ = some (.slice b.A b.n b.c) ∧ w'.cell? ⟨gb0, 2, none⟩ = some (.string b.ln) ∧ w'.cell? ⟨gr0, 0, none⟩ = some (.int .i64 r.ts) ∧ w'.cell? ⟨gr0, 1, none⟩ = some (.slice r.A r.n r.c) ∧ w'.cell? ⟨gr0, 2, none⟩ = some (.string r.ln) ∧ w'.cell? ⟨gq0, 0, none⟩ = some (.int .i64 q.ts) ∧ w'.cell? ⟨gq0, 1, none⟩ = some (.slice q.A q.n q.c) ∧ w'.cell? ⟨gq0, 2, none⟩ = some (.string q.ln) from by
        obtain ⟨hb, a0, a1, a2, b0, b1, b2, s0, s1, s2, q0, q1, q2⟩ := hS
        have z1 := block_lt_of_cell a0
        have z2 := block_lt_of_cell b0
        have z3 := block_lt_of_cell s0
        have z4 := block_lt_of_cell q0
        exact ⟨hop hb (Nat.le_refl _) hx, (hx.cell (p := ⟨_, 0, none⟩) z1).trans a0, (hx.cell (p := ⟨_, 1, none⟩) z1).trans a1, (hx.cell (p := ⟨_, 2, none⟩) z1).trans a2, (hx.cell (p := ⟨_, 0, none⟩) z2).trans b0, (hx.cell (p := ⟨_, 1, none⟩) z2).trans b1, (hx.cell (p := ⟨_, 2, none⟩) z2).trans b2, (hx.cell (p := ⟨_, 0, none⟩) z3).trans s0, (hx.cell (p := ⟨_, 1, none⟩) z3).trans s1, (hx.cell (p := ⟨_, 2, none⟩) z3).trans s2, (hx.cell (p := ⟨_, 0, none⟩) z4).trans q0, (hx.cell (p := ⟨_, 1, none⟩) z4).trans q1, (hx.cell (p := ⟨_, 2, none⟩) z4).trans q2⟩)
  have S0 := HS.out w11 w11.drew ⟨Below.refl _ _, ka0, ka1, ka2, kb0, kb1, kb2, kr0, kr1, kr2, kq0, kq1, kq2⟩ ((Below.refl _ _).drew)
  clear GA GB ka0 ka1 ka2 kb0 kb1 kb2 kr0 kr1 kr2 kq0 kq1 kq2 hown hmap hsm hns he hm hLl hdc hR ho hd hT hso H BR BQ Hgr Hgq hx IT SMA
  go_wp2
  refine wp_region_held_drew (S := fun w' => Below w11.heap.size w11 w' ∧ w'.cell? ⟨ga0, 0, none⟩ = some (.int .i64 a.ts) ∧ w'.cell? ⟨ga0, 1, none⟩ = some (.slice a.A a.n a.c) ∧ w'.cell? ⟨ga0, 2, none⟩ = some (.string a.ln) ∧ w'.cell? ⟨gb0, 0, none⟩ = some (.int .i64 b.ts) ∧ w'.cell? ⟨gb0, 1, none⟩ = some (.slice b.A b.n b.c) ∧ w'.cell? ⟨gb0, 2, none⟩ = some (.string b.ln) ∧ w'.cell? ⟨gr0, 0, none⟩ = some (.int .i64 r.ts) ∧ w'.cell? ⟨gr0, 1, none⟩ = some (.slice r.A r.n r.c) ∧ w'.cell? ⟨gr0, 2, none⟩ = some (.string r.ln) ∧ w'.cell? ⟨gq0, 0, none⟩ = some (.int .i64 q.ts) ∧ w'.cell? ⟨gq0, 1, none⟩ = some (.slice q.A q.n q.c) ∧ w'.cell? ⟨gq0, 2, none⟩ = some (.string q.ln)) (by kernel_rfl) S0 (fun hHeld => ?_)
  refine wpAnyH_take (i := 0) (oi := { dst := some 28, op := Go.Op.move (Go.Operand.tmp 9), type := 4, pos := "law.go:162", after := #[], guard := none }) (v := ?_) rfl (by kernel_rfl) (by kernel_rfl) (by kernel_rfl) (fun _ _ _ h => h) (Or.inl ⟨by kernel_rfl, ?_⟩) (by assumption) ?_
  rotate_left
  · intro w _
    first | (go_simp; done) | (go_simp; with_reducible rfl)
  try simp only [Act.put, List.setIfInBounds_toArray, List.set_cons_zero, List.set_cons_succ]
  refine wpAnyH_take (i := 1) (oi := { dst := some 29, op := Go.Op.move (Go.Operand.tmp 28), type := 4, pos := "law.go:162", after := #[{ on := 0, ground := Go.Ground.data }], guard := none }) (v := ?_) rfl (by kernel_rfl) (by kernel_rfl) (by kernel_rfl) (fun _ _ _ h => h) (Or.inl ⟨by kernel_rfl, ?_⟩) (by assumption) ?_
  rotate_left
  · intro w _
    first | (go_simp; done) | (go_simp; with_reducible rfl)
  try simp only [Act.put, List.setIfInBounds_toArray, List.set_cons_zero, List.set_cons_succ]
  refine wpAnyH_take (i := 2) (oi := { dst := some 30, op := Go.Op.load 25 (Go.Operand.tmp 10), type := 25, pos := "law.go:162", after := #[{ on := 1, ground := Go.Ground.guard }], guard := some (1, true) }) (v := ?_) rfl (by kernel_rfl) (by kernel_rfl) (by kernel_rfl) (fun _ _ _ h => h) (Or.inl ⟨by kernel_rfl, ?_⟩) (by assumption) ?_
  rotate_left
  · intro w hSw
    (try dsimp only at hSw)
    go_split_ands
    first | (go_simp; done) | (go_simp; with_reducible rfl)
  try simp only [Act.put, List.setIfInBounds_toArray, List.set_cons_zero, List.set_cons_succ]
  refine wpAnyH_take (i := 4) (oi := { dst := some 32, op := Go.Op.load 35 (Go.Operand.tmp 12), type := 35, pos := "law.go:162", after := #[{ on := 1, ground := Go.Ground.guard }], guard := some (1, true) }) (v := ?_) rfl (by kernel_rfl) (by kernel_rfl) (by kernel_rfl) (fun _ _ _ h => h) (Or.inl ⟨by kernel_rfl, ?_⟩) (by assumption) ?_
  rotate_left
  · intro w hSw
    (try dsimp only at hSw)
    go_split_ands
    first | (go_simp; done) | (go_simp; with_reducible rfl)
  try simp only [Act.put, List.setIfInBounds_toArray, List.set_cons_zero, List.set_cons_succ]
  refine wpAnyH_ready (rs := [3]) (by kernel_rfl) (by simp) ?_
  refine AllReadyH.cons (o := { dst := some 31, op := Go.Op.call { callee := Go.Callee.value (Go.Operand.func 13), args := #[Go.Operand.tmp 30], argTypes := #[25] }, type := 4, pos := "law.go:162", after := #[{ on := 2, ground := Go.Ground.data }, { on := 1, ground := Go.Ground.chain }, { on := 1, ground := Go.Ground.guard }], guard := some (1, true) }) rfl (fun K hK => ?_) AllReadyH.nil
  go_simp
  go_at_call 13
  refine (K13.out _ (by go_split_ands; assumption)).mono ?_
  rintro e wc1 ⟨rfl, hb3⟩
  have S1 := HS.out _ _ (by assumption) hb3
  refine hK.out _ _ S1 (fun _ => ?_)
  clear hK K hb3
  try simp only [Act.put, List.setIfInBounds_toArray, List.set_cons_zero, List.set_cons_succ]
  refine wpAnyH_ready (rs := [5]) (by kernel_rfl) (by simp) ?_
  refine AllReadyH.cons (o := { dst := some 33, op := Go.Op.call { callee := Go.Callee.value (Go.Operand.func 14), args := #[Go.Operand.tmp 32], argTypes := #[35] }, type := 4, pos := "law.go:162", after := #[{ on := 4, ground := Go.Ground.data }, { on := 3, ground := Go.Ground.chain }, { on := 1, ground := Go.Ground.guard }], guard := some (1, true) }) rfl (fun K hK => ?_) AllReadyH.nil
  go_simp
  go_at_call 14
  refine (K14.out _ (by go_split_ands; assumption)).mono ?_
  rintro e wc2 ⟨rfl, hb3⟩
  have S2 := HS.out _ _ (by assumption) hb3
  refine hK.out _ _ S2 (fun _ => ?_)
  clear hK K hb3
  try simp only [Act.put, List.setIfInBounds_toArray, List.set_cons_zero, List.set_cons_succ]
  refine wpAnyH_take (i := 6) (oi := { dst := some 34, op := Go.Op.binOp Go.BinOp.eql 4 (Go.Operand.tmp 31) (Go.Operand.tmp 33) 4, type := 4, pos := "law.go:162", after := #[{ on := 3, ground := Go.Ground.data }, { on := 5, ground := Go.Ground.data }, { on := 1, ground := Go.Ground.guard }], guard := some (1, true) }) (v := ?_) rfl (by kernel_rfl) (by kernel_rfl) (by kernel_rfl) (fun _ _ _ h => h) (Or.inl ⟨by kernel_rfl, ?_⟩) (by assumption) ?_
  rotate_left
  · intro w _
    first | (go_simp; done) | (go_simp; with_reducible rfl)
  try simp only [Act.put, List.setIfInBounds_toArray, List.set_cons_zero, List.set_cons_succ]
  refine wpAnyH_take (i := 7) (oi := { dst := some 35, op := Go.Op.pick (Go.Operand.tmp 29) (Go.Operand.tmp 34) (Go.Operand.const (Go.Value.bool false)), type := 4, pos := "law.go:162", after := #[{ on := 1, ground := Go.Ground.data }, { on := 6, ground := Go.Ground.data }], guard := none }) (v := ?_) rfl (by kernel_rfl) (by kernel_rfl) (by kernel_rfl) (fun _ _ _ h => h) (Or.inl ⟨by kernel_rfl, ?_⟩) (by assumption) ?_
  rotate_left
  · intro w _
    first | (go_simp; done) | (go_simp; with_reducible rfl)
  try simp only [Act.put, List.setIfInBounds_toArray, List.set_cons_zero, List.set_cons_succ]
  refine wpAnyH_take (i := 8) (oi := { dst := some 36, op := Go.Op.move (Go.Operand.tmp 35), type := 4, pos := "law.go:162", after := #[{ on := 7, ground := Go.Ground.data }, { on := 5, ground := Go.Ground.chain }], guard := none }) (v := ?_) rfl (by kernel_rfl) (by kernel_rfl) (by kernel_rfl) (fun _ _ _ h => h) (Or.inl ⟨by kernel_rfl, ?_⟩) (by assumption) ?_
  rotate_left
  · intro w _
    first | (go_simp; done) | (go_simp; with_reducible rfl)
  try simp only [Act.put, List.setIfInBounds_toArray, List.set_cons_zero, List.set_cons_succ]
  refine wpAnyH_take (i := 9) (oi := { dst := some 37, op := Go.Op.load 25 (Go.Operand.tmp 10), type := 25, pos := "law.go:162", after := #[{ on := 8, ground := Go.Ground.guard }], guard := some (8, true) }) (v := ?_) rfl (by kernel_rfl) (by kernel_rfl) (by kernel_rfl) (fun _ _ _ h => h) (Or.inl ⟨by kernel_rfl, ?_⟩) (by assumption) ?_
  rotate_left
  · intro w hSw
    (try dsimp only at hSw)
    go_split_ands
    first | (go_simp; done) | (go_simp; with_reducible rfl)
  try simp only [Act.put, List.setIfInBounds_toArray, List.set_cons_zero, List.set_cons_succ]
  refine wpAnyH_take (i := 10) (oi := { dst := some 38, op := Go.Op.load 25 (Go.Operand.tmp 11), type := 25, pos := "law.go:162", after := #[{ on := 8, ground := Go.Ground.guard }], guard := some (8, true) }) (v := ?_) rfl (by kernel_rfl) (by kernel_rfl) (by kernel_rfl) (fun _ _ _ h => h) (Or.inl ⟨by kernel_rfl, ?_⟩) (by assumption) ?_
  rotate_left
  · intro w hSw
    (try dsimp only at hSw)
    go_split_ands
    first | (go_simp; done) | (go_simp; with_reducible rfl)
  try simp only [Act.put, List.setIfInBounds_toArray, List.set_cons_zero, List.set_cons_succ]
  refine wpAnyH_take (i := 12) (oi := { dst := some 40, op := Go.Op.load 35 (Go.Operand.tmp 12), type := 35, pos := "law.go:162", after := #[{ on := 8, ground := Go.Ground.guard }], guard := some (8, true) }) (v := ?_) rfl (by kernel_rfl) (by kernel_rfl) (by kernel_rfl) (fun _ _ _ h => h) (Or.inl ⟨by kernel_rfl, ?_⟩) (by assumption) ?_
  rotate_left
  · intro w hSw
    (try dsimp only at hSw)
    go_split_ands
    first | (go_simp; done) | (go_simp; with_reducible rfl)
  try simp only [Act.put, List.setIfInBounds_toArray, List.set_cons_zero, List.set_cons_succ]
  refine wpAnyH_take (i := 13) (oi := { dst := some 41, op := Go.Op.load 35 (Go.Operand.tmp 13), type := 35, pos := "law.go:162", after := #[{ on := 8, ground := Go.Ground.guard }], guard := some (8, true) }) (v := ?_) rfl (by kernel_rfl) (by kernel_rfl) (by kernel_rfl) (fun _ _ _ h => h) (Or.inl ⟨by kernel_rfl, ?_⟩) (by assumption) ?_
  rotate_left
  · intro w hSw
    (try dsimp only at hSw)
    go_split_ands
    first | (go_simp; done) | (go_simp; with_reducible rfl)
  try simp only [Act.put, List.setIfInBounds_toArray, List.set_cons_zero, List.set_cons_succ]
  refine wpAnyH_ready (rs := [11]) (by kernel_rfl) (by simp) ?_
  refine AllReadyH.cons (o := { dst := some 39, op := Go.Op.call { callee := Go.Callee.value (Go.Operand.func 15), args := #[Go.Operand.tmp 37, Go.Operand.tmp 38], argTypes := #[25, 25] }, type := 3, pos := "law.go:162", after := #[{ on := 9, ground := Go.Ground.data }, { on := 10, ground := Go.Ground.data }, { on := 8, ground := Go.Ground.chain }, { on := 8, ground := Go.Ground.guard }], guard := some (8, true) }) rfl (fun K hK => ?_) AllReadyH.nil
  go_simp
  go_at_call 15
  refine (K15.out _ (by go_split_ands; assumption)).mono ?_
  rintro e wc3 ⟨rfl, hb3⟩
  have S3 := HS.out _ _ (by assumption) hb3
  refine hK.out _ _ S3 (fun _ => ?_)
  clear hK K hb3
  try simp only [Act.put, List.setIfInBounds_toArray, List.set_cons_zero, List.set_cons_succ]
  refine wpAnyH_ready (rs := [14]) (by kernel_rfl) (by simp) ?_
  refine AllReadyH.cons (o := { dst := some 42, op := Go.Op.call { callee := Go.Callee.value (Go.Operand.func 16), args := #[Go.Operand.tmp 40, Go.Operand.tmp 41], argTypes := #[35, 35] }, type := 3, pos := "law.go:162", after := #[{ on := 12, ground := Go.Ground.data }, { on := 13, ground := Go.Ground.data }, { on := 11, ground := Go.Ground.chain }, { on := 8, ground := Go.Ground.guard }], guard := some (8, true) }) rfl (fun K hK => ?_) AllReadyH.nil
  go_simp
  go_at_call 16
  refine (K16.out _ (by go_split_ands; assumption)).mono ?_
  rintro e wc4 ⟨rfl, hb3⟩
  have S4 := HS.out _ _ (by assumption) hb3
  refine hK.out _ _ S4 (fun _ => ?_)
  clear hK K hb3
  try simp only [Act.put, List.setIfInBounds_toArray, List.set_cons_zero, List.set_cons_succ]
  refine wpAnyH_take (i := 15) (oi := { dst := some 43, op := Go.Op.binOp Go.BinOp.eql 3 (Go.Operand.tmp 39) (Go.Operand.tmp 42) 3, type := 4, pos := "law.go:162", after := #[{ on := 11, ground := Go.Ground.data }, { on := 14, ground := Go.Ground.data }, { on := 8, ground := Go.Ground.guard }], guard := some (8, true) }) (v := ?_) rfl (by kernel_rfl) (by kernel_rfl) (by kernel_rfl) (fun _ _ _ h => h) (Or.inl ⟨by kernel_rfl, ?_⟩) (by assumption) ?_
  rotate_left
  · intro w _
    first | (go_simp; done) | (go_simp; with_reducible rfl)
  try simp only [Act.put, List.setIfInBounds_toArray, List.set_cons_zero, List.set_cons_succ]
  refine wpAnyH_take (i := 16) (oi := { dst := some 44, op := Go.Op.pick (Go.Operand.tmp 36) (Go.Operand.tmp 43) (Go.Operand.const (Go.Value.bool false)), type := 4, pos := "law.go:162", after := #[{ on := 8, ground := Go.Ground.data }, { on := 15, ground := Go.Ground.data }], guard := none }) (v := ?_) rfl (by kernel_rfl) (by kernel_rfl) (by kernel_rfl) (fun _ _ _ h => h) (Or.inl ⟨by kernel_rfl, ?_⟩) (by assumption) ?_
  rotate_left
  · intro w _
    first | (go_simp; done) | (go_simp; with_reducible rfl)
  try simp only [Act.put, List.setIfInBounds_toArray, List.set_cons_zero, List.set_cons_succ]
  refine wpAnyH_take (i := 17) (oi := { dst := some 45, op := Go.Op.move (Go.Operand.tmp 44), type := 4, pos := "law.go:162", after := #[{ on := 16, ground := Go.Ground.data }, { on := 14, ground := Go.Ground.chain }], guard := none }) (v := ?_) rfl (by kernel_rfl) (by kernel_rfl) (by kernel_rfl) (fun _ _ _ h => h) (Or.inl ⟨by kernel_rfl, ?_⟩) (by assumption) ?_
  rotate_left
  · intro w _
    first | (go_simp; done) | (go_simp; with_reducible rfl)
  try simp only [Act.put, List.setIfInBounds_toArray, List.set_cons_zero, List.set_cons_succ]
  refine wpAnyH_take (i := 18) (oi := { dst := some 46, op := Go.Op.load 25 (Go.Operand.tmp 10), type := 25, pos := "law.go:162", after := #[{ on := 17, ground := Go.Ground.guard }], guard := some (17, true) }) (v := ?_) rfl (by kernel_rfl) (by kernel_rfl) (by kernel_rfl) (fun _ _ _ h => h) (Or.inl ⟨by kernel_rfl, ?_⟩) (by assumption) ?_
  rotate_left
  · intro w hSw
    (try dsimp only at hSw)
    go_split_ands
    first | (go_simp; done) | (go_simp; with_reducible rfl)
  try simp only [Act.put, List.setIfInBounds_toArray, List.set_cons_zero, List.set_cons_succ]
  refine wpAnyH_take (i := 19) (oi := { dst := some 47, op := Go.Op.load 25 (Go.Operand.tmp 11), type := 25, pos := "law.go:162", after := #[{ on := 17, ground := Go.Ground.guard }], guard := some (17, true) }) (v := ?_) rfl (by kernel_rfl) (by kernel_rfl) (by kernel_rfl) (fun _ _ _ h => h) (Or.inl ⟨by kernel_rfl, ?_⟩) (by assumption) ?_
  rotate_left
  · intro w hSw
    (try dsimp only at hSw)
    go_split_ands
    first | (go_simp; done) | (go_simp; with_reducible rfl)
  try simp only [Act.put, List.setIfInBounds_toArray, List.set_cons_zero, List.set_cons_succ]
  refine wpAnyH_take (i := 21) (oi := { dst := some 49, op := Go.Op.load 35 (Go.Operand.tmp 12), type := 35, pos := "law.go:162", after := #[{ on := 17, ground := Go.Ground.guard }], guard := some (17, true) }) (v := ?_) rfl (by kernel_rfl) (by kernel_rfl) (by kernel_rfl) (fun _ _ _ h => h) (Or.inl ⟨by kernel_rfl, ?_⟩) (by assumption) ?_
  rotate_left
  · intro w hSw
    (try dsimp only at hSw)
    go_split_ands
    first | (go_simp; done) | (go_simp; with_reducible rfl)
  try simp only [Act.put, List.setIfInBounds_toArray, List.set_cons_zero, List.set_cons_succ]
  refine wpAnyH_take (i := 22) (oi := { dst := some 50, op := Go.Op.load 35 (Go.Operand.tmp 13), type := 35, pos := "law.go:162", after := #[{ on := 17, ground := Go.Ground.guard }], guard := some (17, true) }) (v := ?_) rfl (by kernel_rfl) (by kernel_rfl) (by kernel_rfl) (fun _ _ _ h => h) (Or.inl ⟨by kernel_rfl, ?_⟩) (by assumption) ?_
  rotate_left
  · intro w hSw
    (try dsimp only at hSw)
    go_split_ands
    first | (go_simp; done) | (go_simp; with_reducible rfl)
  try simp only [Act.put, List.setIfInBounds_toArray, List.set_cons_zero, List.set_cons_succ]
  refine wpAnyH_ready (rs := [20]) (by kernel_rfl) (by simp) ?_
  refine AllReadyH.cons (o := { dst := some 48, op := Go.Op.call { callee := Go.Callee.value (Go.Operand.func 17), args := #[Go.Operand.tmp 46, Go.Operand.tmp 47], argTypes := #[25, 25] }, type := 4, pos := "law.go:162", after := #[{ on := 18, ground := Go.Ground.data }, { on := 19, ground := Go.Ground.data }, { on := 17, ground := Go.Ground.chain }, { on := 17, ground := Go.Ground.guard }], guard := some (17, true) }) rfl (fun K hK => ?_) AllReadyH.nil
  go_simp
  go_at_call 17
  refine (K17.out _ (by go_split_ands; assumption)).mono ?_
  rintro e wc5 ⟨rfl, hb3⟩
  have S5 := HS.out _ _ (by assumption) hb3
  refine hK.out _ _ S5 (fun _ => ?_)
  clear hK K hb3
  try simp only [Act.put, List.setIfInBounds_toArray, List.set_cons_zero, List.set_cons_succ]
  refine wpAnyH_ready (rs := [23]) (by kernel_rfl) (by simp) ?_
  refine AllReadyH.cons (o := { dst := some 51, op := Go.Op.call { callee := Go.Callee.value (Go.Operand.func 16), args := #[Go.Operand.tmp 49, Go.Operand.tmp 50], argTypes := #[35, 35] }, type := 3, pos := "law.go:162", after := #[{ on := 21, ground := Go.Ground.data }, { on := 22, ground := Go.Ground.data }, { on := 20, ground := Go.Ground.chain }, { on := 17, ground := Go.Ground.guard }], guard := some (17, true) }) rfl (fun K hK => ?_) AllReadyH.nil
  go_simp
  go_at_call 16
  refine (K16.out _ (by go_split_ands; assumption)).mono ?_
  rintro e wc6 ⟨rfl, hb3⟩
  have S6 := HS.out _ _ (by assumption) hb3
  refine hK.out _ _ S6 (fun _ => ?_)
  clear hK K hb3
  try simp only [Act.put, List.setIfInBounds_toArray, List.set_cons_zero, List.set_cons_succ]
  refine wpAnyH_take (i := 24) (oi := { dst := some 52, op := Go.Op.binOp Go.BinOp.eql 3 (Go.Operand.tmp 51) (Go.Operand.const (Go.Value.int Go.IntKind.i64 0)) 3, type := 4, pos := "law.go:162", after := #[{ on := 23, ground := Go.Ground.data }, { on := 17, ground := Go.Ground.guard }], guard := some (17, true) }) (v := ?_) rfl (by kernel_rfl) (by kernel_rfl) (by kernel_rfl) (fun _ _ _ h => h) (Or.inl ⟨by kernel_rfl, ?_⟩) (by assumption) ?_
  rotate_left
  · intro w _
    first | (go_simp; done) | (go_simp; with_reducible rfl)
  try simp only [Act.put, List.setIfInBounds_toArray, List.set_cons_zero, List.set_cons_succ]
  refine wpAnyH_take (i := 25) (oi := { dst := some 53, op := Go.Op.binOp Go.BinOp.eql 4 (Go.Operand.tmp 48) (Go.Operand.tmp 52) 4, type := 4, pos := "law.go:162", after := #[{ on := 20, ground := Go.Ground.data }, { on := 24, ground := Go.Ground.data }, { on := 17, ground := Go.Ground.guard }], guard := some (17, true) }) (v := ?_) rfl (by kernel_rfl) (by kernel_rfl) (by kernel_rfl) (fun _ _ _ h => h) (Or.inl ⟨by kernel_rfl, ?_⟩) (by assumption) ?_
  rotate_left
  · intro w _
    first | (go_simp; done) | (go_simp; with_reducible rfl)
  try simp only [Act.put, List.setIfInBounds_toArray, List.set_cons_zero, List.set_cons_succ]
  refine wpAnyH_take (i := 26) (oi := { dst := some 54, op := Go.Op.pick (Go.Operand.tmp 45) (Go.Operand.tmp 53) (Go.Operand.const (Go.Value.bool false)), type := 4, pos := "law.go:162", after := #[{ on := 17, ground := Go.Ground.data }, { on := 25, ground := Go.Ground.data }], guard := none }) (v := ?_) rfl (by kernel_rfl) (by kernel_rfl) (by kernel_rfl) (fun _ _ _ h => h) (Or.inl ⟨by kernel_rfl, ?_⟩) (by assumption) ?_
  rotate_left
  · intro w _
    first | (go_simp; done) | (go_simp; with_reducible rfl)
  try simp only [Act.put, List.setIfInBounds_toArray, List.set_cons_zero, List.set_cons_succ]
  refine wpAnyH_take (i := 27) (oi := { dst := some 55, op := Go.Op.move (Go.Operand.tmp 54), type := 4, pos := "law.go:162", after := #[{ on := 26, ground := Go.Ground.data }, { on := 23, ground := Go.Ground.chain }], guard := none }) (v := ?_) rfl (by kernel_rfl) (by kernel_rfl) (by kernel_rfl) (fun _ _ _ h => h) (Or.inl ⟨by kernel_rfl, ?_⟩) (by assumption) ?_
  rotate_left
  · intro w _
    first | (go_simp; done) | (go_simp; with_reducible rfl)
  try simp only [Act.put, List.setIfInBounds_toArray, List.set_cons_zero, List.set_cons_succ]
  refine wpAnyH_take (i := 28) (oi := { dst := some 56, op := Go.Op.load 25 (Go.Operand.tmp 10), type := 25, pos := "law.go:162", after := #[{ on := 27, ground := Go.Ground.guard }], guard := some (27, true) }) (v := ?_) rfl (by kernel_rfl) (by kernel_rfl) (by kernel_rfl) (fun _ _ _ h => h) (Or.inl ⟨by kernel_rfl, ?_⟩) (by assumption) ?_
  rotate_left
  · intro w hSw
    (try dsimp only at hSw)
    go_split_ands
    first | (go_simp; done) | (go_simp; with_reducible rfl)
  try simp only [Act.put, List.setIfInBounds_toArray, List.set_cons_zero, List.set_cons_succ]
  refine wpAnyH_take (i := 29) (oi := { dst := some 57, op := Go.Op.load 25 (Go.Operand.tmp 11), type := 25, pos := "law.go:162", after := #[{ on := 27, ground := Go.Ground.guard }], guard := some (27, true) }) (v := ?_) rfl (by kernel_rfl) (by kernel_rfl) (by kernel_rfl) (fun _ _ _ h => h) (Or.inl ⟨by kernel_rfl, ?_⟩) (by assumption) ?_
  rotate_left
  · intro w hSw
    (try dsimp only at hSw)
    go_split_ands
    first | (go_simp; done) | (go_simp; with_reducible rfl)
  try simp only [Act.put, List.setIfInBounds_toArray, List.set_cons_zero, List.set_cons_succ]
  refine wpAnyH_take (i := 30) (oi := { dst := some 58, op := Go.Op.move (Go.Operand.tmp 3), type := 4, pos := "law.go:162", after := #[{ on := 27, ground := Go.Ground.guard }], guard := some (27, true) }) (v := ?_) rfl (by kernel_rfl) (by kernel_rfl) (by kernel_rfl) (fun _ _ _ h => h) (Or.inl ⟨by kernel_rfl, ?_⟩) (by assumption) ?_
  rotate_left
  · intro w _
    first | (go_simp; done) | (go_simp; with_reducible rfl)
  try simp only [Act.put, List.setIfInBounds_toArray, List.set_cons_zero, List.set_cons_succ]
  refine wpAnyH_take (i := 32) (oi := { dst := some 60, op := Go.Op.load 35 (Go.Operand.tmp 12), type := 35, pos := "law.go:162", after := #[{ on := 27, ground := Go.Ground.guard }], guard := some (27, true) }) (v := ?_) rfl (by kernel_rfl) (by kernel_rfl) (by kernel_rfl) (fun _ _ _ h => h) (Or.inl ⟨by kernel_rfl, ?_⟩) (by assumption) ?_
  rotate_left
  · intro w hSw
    (try dsimp only at hSw)
    go_split_ands
    first | (go_simp; done) | (go_simp; with_reducible rfl)
  try simp only [Act.put, List.setIfInBounds_toArray, List.set_cons_zero, List.set_cons_succ]
  refine wpAnyH_take (i := 33) (oi := { dst := some 61, op := Go.Op.load 35 (Go.Operand.tmp 13), type := 35, pos := "law.go:162", after := #[{ on := 27, ground := Go.Ground.guard }], guard := some (27, true) }) (v := ?_) rfl (by kernel_rfl) (by kernel_rfl) (by kernel_rfl) (fun _ _ _ h => h) (Or.inl ⟨by kernel_rfl, ?_⟩) (by assumption) ?_
  rotate_left
  · intro w hSw
    (try dsimp only at hSw)
    go_split_ands
    first | (go_simp; done) | (go_simp; with_reducible rfl)
  try simp only [Act.put, List.setIfInBounds_toArray, List.set_cons_zero, List.set_cons_succ]
  refine wpAnyH_take (i := 34) (oi := { dst := some 62, op := Go.Op.move (Go.Operand.tmp 3), type := 4, pos := "law.go:162", after := #[{ on := 27, ground := Go.Ground.guard }], guard := some (27, true) }) (v := ?_) rfl (by kernel_rfl) (by kernel_rfl) (by kernel_rfl) (fun _ _ _ h => h) (Or.inl ⟨by kernel_rfl, ?_⟩) (by assumption) ?_
  rotate_left
  · intro w _
    first | (go_simp; done) | (go_simp; with_reducible rfl)
  try simp only [Act.put, List.setIfInBounds_toArray, List.set_cons_zero, List.set_cons_succ]
  refine wpAnyH_ready (rs := [31]) (by kernel_rfl) (by simp) ?_
  refine AllReadyH.cons (o := { dst := some 59, op := Go.Op.call { callee := Go.Callee.value (Go.Operand.func 18), args := #[Go.Operand.tmp 56, Go.Operand.tmp 57, Go.Operand.tmp 58], argTypes := #[25, 25, 4] }, type := 4, pos := "law.go:162", after := #[{ on := 28, ground := Go.Ground.data }, { on := 29, ground := Go.Ground.data }, { on := 30, ground := Go.Ground.data }, { on := 27, ground := Go.Ground.chain }, { on := 27, ground := Go.Ground.guard }], guard := some (27, true) }) rfl (fun K hK => ?_) AllReadyH.nil
  go_simp
  go_at_call 18
  refine (K18.out _ (by go_split_ands; assumption)).mono ?_
  rintro e wc7 ⟨rfl, hb3⟩
  have S7 := HS.out _ _ (by assumption) hb3
  refine hK.out _ _ S7 (fun _ => ?_)
  clear hK K hb3
  try simp only [Act.put, List.setIfInBounds_toArray, List.set_cons_zero, List.set_cons_succ]
  refine wpAnyH_ready (rs := [35]) (by kernel_rfl) (by simp) ?_
  refine AllReadyH.cons (o := { dst := some 63, op := Go.Op.call { callee := Go.Callee.value (Go.Operand.func 19), args := #[Go.Operand.tmp 60, Go.Operand.tmp 61, Go.Operand.tmp 62], argTypes := #[35, 35, 4] }, type := 4, pos := "law.go:162", after := #[{ on := 32, ground := Go.Ground.data }, { on := 33, ground := Go.Ground.data }, { on := 34, ground := Go.Ground.data }, { on := 31, ground := Go.Ground.chain }, { on := 27, ground := Go.Ground.guard }], guard := some (27, true) }) rfl (fun K hK => ?_) AllReadyH.nil
  go_simp
  go_at_call 19
  refine (K19.out _ (by go_split_ands; assumption)).mono ?_
  rintro e wc8 ⟨rfl, hb3⟩
  have S8 := HS.out _ _ (by assumption) hb3
  refine hK.out _ _ S8 (fun _ => ?_)
  clear hK K hb3
  try simp only [Act.put, List.setIfInBounds_toArray, List.set_cons_zero, List.set_cons_succ]
  refine wpAnyH_take (i := 36) (oi := { dst := some 64, op := Go.Op.binOp Go.BinOp.eql 4 (Go.Operand.tmp 59) (Go.Operand.tmp 63) 4, type := 4, pos := "law.go:162", after := #[{ on := 31, ground := Go.Ground.data }, { on := 35, ground := Go.Ground.data }, { on := 27, ground := Go.Ground.guard }], guard := some (27, true) }) (v := ?_) rfl (by kernel_rfl) (by kernel_rfl) (by kernel_rfl) (fun _ _ _ h => h) (Or.inl ⟨by kernel_rfl, ?_⟩) (by assumption) ?_
  rotate_left
  · intro w _
    first | (go_simp; done) | (go_simp; with_reducible rfl)
  try simp only [Act.put, List.setIfInBounds_toArray, List.set_cons_zero, List.set_cons_succ]
  refine wpAnyH_take (i := 37) (oi := { dst := some 65, op := Go.Op.pick (Go.Operand.tmp 55) (Go.Operand.tmp 64) (Go.Operand.const (Go.Value.bool false)), type := 4, pos := "law.go:162", after := #[{ on := 27, ground := Go.Ground.data }, { on := 36, ground := Go.Ground.data }], guard := none }) (v := ?_) rfl (by kernel_rfl) (by kernel_rfl) (by kernel_rfl) (fun _ _ _ h => h) (Or.inl ⟨by kernel_rfl, ?_⟩) (by assumption) ?_
  rotate_left
  · intro w _
    first | (go_simp; done) | (go_simp; with_reducible rfl)
  try simp only [Act.put, List.setIfInBounds_toArray, List.set_cons_zero, List.set_cons_succ]
  refine wpAnyH_take (i := 38) (oi := { dst := some 66, op := Go.Op.move (Go.Operand.tmp 65), type := 4, pos := "law.go:162", after := #[{ on := 37, ground := Go.Ground.data }, { on := 35, ground := Go.Ground.chain }], guard := none }) (v := ?_) rfl (by kernel_rfl) (by kernel_rfl) (by kernel_rfl) (fun _ _ _ h => h) (Or.inl ⟨by kernel_rfl, ?_⟩) (by assumption) ?_
  rotate_left
  · intro w _
    first | (go_simp; done) | (go_simp; with_reducible rfl)
  try simp only [Act.put, List.setIfInBounds_toArray, List.set_cons_zero, List.set_cons_succ]
  refine wpAnyH_take (i := 39) (oi := { dst := some 67, op := Go.Op.load 25 (Go.Operand.tmp 10), type := 25, pos := "law.go:162", after := #[{ on := 38, ground := Go.Ground.guard }], guard := some (38, true) }) (v := ?_) rfl (by kernel_rfl) (by kernel_rfl) (by kernel_rfl) (fun _ _ _ h => h) (Or.inl ⟨by kernel_rfl, ?_⟩) (by assumption) ?_
  rotate_left
  · intro w hSw
    (try dsimp only at hSw)
    go_split_ands
    first | (go_simp; done) | (go_simp; with_reducible rfl)
  try simp only [Act.put, List.setIfInBounds_toArray, List.set_cons_zero, List.set_cons_succ]
  refine wpAnyH_take (i := 41) (oi := { dst := some 69, op := Go.Op.fieldAddr 25 (Go.Operand.tmp 10) 2, type := 0, pos := "law.go:162", after := #[{ on := 38, ground := Go.Ground.guard }], guard := some (38, true) }) (v := ?_) rfl (by kernel_rfl) (by kernel_rfl) (by kernel_rfl) (fun _ _ _ h => h) (Or.inl ⟨by kernel_rfl, ?_⟩) (by assumption) ?_
  rotate_left
  · intro w _
    first | (go_simp; done) | (go_simp; with_reducible rfl)
  try simp only [Act.put, List.setIfInBounds_toArray, List.set_cons_zero, List.set_cons_succ]
  refine wpAnyH_take (i := 42) (oi := { dst := some 70, op := Go.Op.load 9 (Go.Operand.tmp 69), type := 9, pos := "law.go:162", after := #[{ on := 41, ground := Go.Ground.data }, { on := 38, ground := Go.Ground.guard }], guard := some (38, true) }) (v := ?_) rfl (by kernel_rfl) (by kernel_rfl) (by kernel_rfl) (fun _ _ _ h => h) (Or.inl ⟨by kernel_rfl, ?_⟩) (by assumption) ?_
  rotate_left
  · intro w hSw
    (try dsimp only at hSw)
    go_split_ands
    first | (go_simp; done) | (go_simp; with_reducible rfl)
  try simp only [Act.put, List.setIfInBounds_toArray, List.set_cons_zero, List.set_cons_succ]
  refine wpAnyH_take (i := 43) (oi := { dst := some 71, op := Go.Op.call { callee := Go.Callee.builtin Go.Builtin.len, args := #[Go.Operand.tmp 70], argTypes := #[9] }, type := 3, pos := "law.go:162", after := #[{ on := 42, ground := Go.Ground.data }, { on := 38, ground := Go.Ground.guard }], guard := some (38, true) }) (v := ?_) rfl (by kernel_rfl) (by kernel_rfl) (by kernel_rfl) (fun _ _ _ h => h) (Or.inl ⟨by kernel_rfl, ?_⟩) (by assumption) ?_
  rotate_left
  · intro w _
    first | (go_simp; done) | (go_simp; with_reducible rfl)
  try simp only [Act.put, List.setIfInBounds_toArray, List.set_cons_zero, List.set_cons_succ]
  refine wpAnyH_ready (rs := [40]) (by kernel_rfl) (by simp) ?_
  refine AllReadyH.cons (o := { dst := some 68, op := Go.Op.call { callee := Go.Callee.value (Go.Operand.func 20), args := #[Go.Operand.tmp 67], argTypes := #[25] }, type := 2, pos := "law.go:162", after := #[{ on := 39, ground := Go.Ground.data }, { on := 38, ground := Go.Ground.chain }, { on := 38, ground := Go.Ground.guard }], guard := some (38, true) }) rfl (fun K hK => ?_) AllReadyH.nil
  go_simp
  go_at_call 20
  refine (K20.out _ (by go_split_ands; assumption)).mono ?_
  rintro e wc9 ⟨rfl, hb3⟩
  have S9 := HS.out _ _ (by assumption) hb3
  refine hK.out _ _ S9 (fun _ => ?_)
  clear hK K hb3
  try simp only [Act.put, List.setIfInBounds_toArray, List.set_cons_zero, List.set_cons_succ]
  refine wpAnyH_take (i := 44) (oi := { dst := some 72, op := Go.Op.binOp Go.BinOp.eql 2 (Go.Operand.tmp 68) (Go.Operand.tmp 71) 2, type := 4, pos := "law.go:162", after := #[{ on := 40, ground := Go.Ground.data }, { on := 43, ground := Go.Ground.data }, { on := 38, ground := Go.Ground.guard }], guard := some (38, true) }) (v := ?_) rfl (by kernel_rfl) (by kernel_rfl) (by kernel_rfl) (fun _ _ _ h => h) (Or.inl ⟨by kernel_rfl, ?_⟩) (by assumption) ?_
  rotate_left
  · intro w _
    first | (go_simp; done) | (go_simp; with_reducible rfl)
  try simp only [Act.put, List.setIfInBounds_toArray, List.set_cons_zero, List.set_cons_succ]
  refine wpAnyH_take (i := 45) (oi := { dst := some 73, op := Go.Op.pick (Go.Operand.tmp 66) (Go.Operand.tmp 72) (Go.Operand.const (Go.Value.bool false)), type := 4, pos := "law.go:162", after := #[{ on := 38, ground := Go.Ground.data }, { on := 44, ground := Go.Ground.data }], guard := none }) (v := ?_) rfl (by kernel_rfl) (by kernel_rfl) (by kernel_rfl) (fun _ _ _ h => h) (Or.inl ⟨by kernel_rfl, ?_⟩) (by assumption) ?_
  rotate_left
  · intro w _
    first | (go_simp; done) | (go_simp; with_reducible rfl)
  try simp only [Act.put, List.setIfInBounds_toArray, List.set_cons_zero, List.set_cons_succ]
  refine wpAnyH_take (i := 46) (oi := { dst := some 74, op := Go.Op.move (Go.Operand.tmp 73), type := 4, pos := "law.go:162", after := #[{ on := 45, ground := Go.Ground.data }, { on := 40, ground := Go.Ground.chain }], guard := none }) (v := ?_) rfl (by kernel_rfl) (by kernel_rfl) (by kernel_rfl) (fun _ _ _ h => h) (Or.inl ⟨by kernel_rfl, ?_⟩) (by assumption) ?_
  rotate_left
  · intro w _
    first | (go_simp; done) | (go_simp; with_reducible rfl)
  try simp only [Act.put, List.setIfInBounds_toArray, List.set_cons_zero, List.set_cons_succ]
  refine wpAnyH_take (i := 47) (oi := { dst := some 75, op := Go.Op.load 25 (Go.Operand.tmp 10), type := 25, pos := "law.go:162", after := #[{ on := 46, ground := Go.Ground.guard }], guard := some (46, true) }) (v := ?_) rfl (by kernel_rfl) (by kernel_rfl) (by kernel_rfl) (fun _ _ _ h => h) (Or.inl ⟨by kernel_rfl, ?_⟩) (by assumption) ?_
  rotate_left
  · intro w hSw
    (try dsimp only at hSw)
    go_split_ands
    first | (go_simp; done) | (go_simp; with_reducible rfl)
  try simp only [Act.put, List.setIfInBounds_toArray, List.set_cons_zero, List.set_cons_succ]
  refine wpAnyH_take (i := 49) (oi := { dst := some 77, op := Go.Op.load 35 (Go.Operand.tmp 12), type := 35, pos := "law.go:162", after := #[{ on := 46, ground := Go.Ground.guard }], guard := some (46, true) }) (v := ?_) rfl (by kernel_rfl) (by kernel_rfl) (by kernel_rfl) (fun _ _ _ h => h) (Or.inl ⟨by kernel_rfl, ?_⟩) (by assumption) ?_
  rotate_left
  · intro w hSw
    (try dsimp only at hSw)
    go_split_ands
    first | (go_simp; done) | (go_simp; with_reducible rfl)
  try simp only [Act.put, List.setIfInBounds_toArray, List.set_cons_zero, List.set_cons_succ]
  refine wpAnyH_ready (rs := [48]) (by kernel_rfl) (by simp) ?_
  refine AllReadyH.cons (o := { dst := some 76, op := Go.Op.call { callee := Go.Callee.value (Go.Operand.func 21), args := #[Go.Operand.tmp 75], argTypes := #[25] }, type := 9, pos := "law.go:162", after := #[{ on := 47, ground := Go.Ground.data }, { on := 46, ground := Go.Ground.chain }, { on := 46, ground := Go.Ground.guard }], guard := some (46, true) }) rfl (fun K hK => ?_) AllReadyH.nil
  go_simp
  go_at_call 21
  refine (K21.out _ (by go_split_ands; assumption)).mono ?_
  rintro e wc10 ⟨rfl, hb3⟩
  have S10 := HS.out _ _ (by assumption) hb3
  refine hK.out _ _ S10 (fun _ => ?_)
  clear hK K hb3
  try simp only [Act.put, List.setIfInBounds_toArray, List.set_cons_zero, List.set_cons_succ]
  refine wpAnyH_ready (rs := [50]) (by kernel_rfl) (by simp) ?_
  refine AllReadyH.cons (o := { dst := some 78, op := Go.Op.call { callee := Go.Callee.value (Go.Operand.func 22), args := #[Go.Operand.tmp 77], argTypes := #[35] }, type := 9, pos := "law.go:162", after := #[{ on := 49, ground := Go.Ground.data }, { on := 48, ground := Go.Ground.chain }, { on := 46, ground := Go.Ground.guard }], guard := some (46, true) }) rfl (fun K hK => ?_) AllReadyH.nil
  go_simp
  go_at_call 22
  refine (K22.out _ (by go_split_ands; assumption)).mono ?_
  rintro e wc11 ⟨rfl, hb3⟩
  have S11 := HS.out _ _ (by assumption) hb3
  refine hK.out _ _ S11 (fun _ => ?_)
  clear hK K hb3
  try simp only [Act.put, List.setIfInBounds_toArray, List.set_cons_zero, List.set_cons_succ]
  refine wpAnyH_take (i := 51) (oi := { dst := some 79, op := Go.Op.binOp Go.BinOp.eql 9 (Go.Operand.tmp 76) (Go.Operand.tmp 78) 9, type := 4, pos := "law.go:162", after := #[{ on := 48, ground := Go.Ground.data }, { on := 50, ground := Go.Ground.data }, { on := 46, ground := Go.Ground.guard }], guard := some (46, true) }) (v := ?_) rfl (by kernel_rfl) (by kernel_rfl) (by kernel_rfl) (fun _ _ _ h => h) (Or.inl ⟨by kernel_rfl, ?_⟩) (by assumption) ?_
  rotate_left
  · intro w _
    first | (go_simp; done) | (go_simp; with_reducible rfl)
  try simp only [Act.put, List.setIfInBounds_toArray, List.set_cons_zero, List.set_cons_succ]
  refine wpAnyH_take (i := 52) (oi := { dst := some 80, op := Go.Op.pick (Go.Operand.tmp 74) (Go.Operand.tmp 79) (Go.Operand.const (Go.Value.bool false)), type := 4, pos := "law.go:162", after := #[{ on := 46, ground := Go.Ground.data }, { on := 51, ground := Go.Ground.data }], guard := none }) (v := ?_) rfl (by kernel_rfl) (by kernel_rfl) (by kernel_rfl) (fun _ _ _ h => h) (Or.inl ⟨by kernel_rfl, ?_⟩) (by assumption) ?_
  rotate_left
  · intro w _
    first | (go_simp; done) | (go_simp; with_reducible rfl)
  try simp only [Act.put, List.setIfInBounds_toArray, List.set_cons_zero, List.set_cons_succ]
  refine wpAnyH_take (i := 53) (oi := { dst := some 81, op := Go.Op.move (Go.Operand.tmp 80), type := 4, pos := "law.go:162", after := #[{ on := 52, ground := Go.Ground.data }, { on := 50, ground := Go.Ground.chain }], guard := none }) (v := ?_) rfl (by kernel_rfl) (by kernel_rfl) (by kernel_rfl) (fun _ _ _ h => h) (Or.inl ⟨by kernel_rfl, ?_⟩) (by assumption) ?_
  rotate_left
  · intro w _
    first | (go_simp; done) | (go_simp; with_reducible rfl)
  try simp only [Act.put, List.setIfInBounds_toArray, List.set_cons_zero, List.set_cons_succ]
  refine wpAnyH_take (i := 54) (oi := { dst := some 82, op := Go.Op.move (Go.Operand.tmp 3), type := 4, pos := "law.go:162", after := #[{ on := 53, ground := Go.Ground.guard }], guard := some (53, true) }) (v := ?_) rfl (by kernel_rfl) (by kernel_rfl) (by kernel_rfl) (fun _ _ _ h => h) (Or.inl ⟨by kernel_rfl, ?_⟩) (by assumption) ?_
  rotate_left
  · intro w _
    first | (go_simp; done) | (go_simp; with_reducible rfl)
  try simp only [Act.put, List.setIfInBounds_toArray, List.set_cons_zero, List.set_cons_succ]
  refine wpAnyH_take (i := 55) (oi := { dst := some 83, op := Go.Op.move (Go.Operand.tmp 14), type := 37, pos := "law.go:162", after := #[{ on := 53, ground := Go.Ground.guard }], guard := some (53, true) }) (v := ?_) rfl (by kernel_rfl) (by kernel_rfl) (by kernel_rfl) (fun _ _ _ h => h) (Or.inl ⟨by kernel_rfl, ?_⟩) (by assumption) ?_
  rotate_left
  · intro w _
    first | (go_simp; done) | (go_simp; with_reducible rfl)
  try simp only [Act.put, List.setIfInBounds_toArray, List.set_cons_zero, List.set_cons_succ]
  refine wpAnyH_take (i := 57) (oi := { dst := some 85, op := Go.Op.move (Go.Operand.tmp 3), type := 4, pos := "law.go:162", after := #[{ on := 53, ground := Go.Ground.guard }], guard := some (53, true) }) (v := ?_) rfl (by kernel_rfl) (by kernel_rfl) (by kernel_rfl) (fun _ _ _ h => h) (Or.inl ⟨by kernel_rfl, ?_⟩) (by assumption) ?_
  rotate_left
  · intro w _
    first | (go_simp; done) | (go_simp; with_reducible rfl)
  try simp only [Act.put, List.setIfInBounds_toArray, List.set_cons_zero, List.set_cons_succ]
  refine wpAnyH_take (i := 58) (oi := { dst := some 86, op := Go.Op.move (Go.Operand.tmp 14), type := 37, pos := "law.go:162", after := #[{ on := 53, ground := Go.Ground.guard }], guard := some (53, true) }) (v := ?_) rfl (by kernel_rfl) (by kernel_rfl) (by kernel_rfl) (fun _ _ _ h => h) (Or.inl ⟨by kernel_rfl, ?_⟩) (by assumption) ?_
  rotate_left
  · intro w _
    first | (go_simp; done) | (go_simp; with_reducible rfl)
  try simp only [Act.put, List.setIfInBounds_toArray, List.set_cons_zero, List.set_cons_succ]
  refine wpAnyH_ready (rs := [56]) (by kernel_rfl) (by simp) ?_
  refine AllReadyH.cons (o := { dst := some 84, op := Go.Op.call { callee := Go.Callee.value (Go.Operand.func 23), args := #[Go.Operand.tmp 82, Go.Operand.tmp 83], argTypes := #[4, 37] }, type := 4, pos := "law.go:162", after := #[{ on := 54, ground := Go.Ground.data }, { on := 55, ground := Go.Ground.data }, { on := 53, ground := Go.Ground.chain }, { on := 53, ground := Go.Ground.guard }], guard := some (53, true) }) rfl (fun K hK => ?_) AllReadyH.nil
  go_simp
  go_at_call 23
  refine (K23.out _ (by go_split_ands; assumption)).mono ?_
  rintro e wc12 ⟨rfl, hb3⟩
  have S12 := HS.out _ _ (by assumption) hb3
  refine hK.out _ _ S12 (fun _ => ?_)
  clear hK K hb3
  try simp only [Act.put, List.setIfInBounds_toArray, List.set_cons_zero, List.set_cons_succ]
  refine wpAnyH_ready (rs := [59]) (by kernel_rfl) (by simp) ?_
  refine AllReadyH.cons (o := { dst := some 87, op := Go.Op.call { callee := Go.Callee.value (Go.Operand.func 25), args := #[Go.Operand.tmp 86], argTypes := #[37] }, type := 51, pos := "law.go:162", after := #[{ on := 58, ground := Go.Ground.data }, { on := 56, ground := Go.Ground.chain }, { on := 53, ground := Go.Ground.guard }], guard := some (53, true) }) rfl (fun K hK => ?_) AllReadyH.nil
  go_simp
  go_at_call 25
  refine (K25.out _ (by go_split_ands; assumption)).mono ?_
  rintro e wc13 ⟨A4, c4, L4, rfl, hm4, hn4, he4, hb3⟩
  have K24 := refEntSorted_any asc A4 m c4 L4 (by have := hLm.out; omega) (fun z hz => by have := hn4 z hz; omega) wc13 he4
  simp only [HSO.out L4 hm4] at K24
  replace K24 := Lib.hid K24
  clear hm4 hn4 he4
  have S13 := HS.out _ _ (by assumption) hb3
  refine hK.out _ _ S13 (fun _ => ?_)
  clear hK K hb3
  try simp only [Act.put, List.setIfInBounds_toArray, List.set_cons_zero, List.set_cons_succ]
  refine wpAnyH_ready (rs := [60]) (by kernel_rfl) (by simp) ?_
  refine AllReadyH.cons (o := { dst := some 88, op := Go.Op.call { callee := Go.Callee.value (Go.Operand.func 24), args := #[Go.Operand.tmp 85, Go.Operand.tmp 87], argTypes := #[4, 51] }, type := 4, pos := "law.go:162", after := #[{ on := 57, ground := Go.Ground.data }, { on := 59, ground := Go.Ground.data }, { on := 59, ground := Go.Ground.chain }, { on := 53, ground := Go.Ground.guard }], guard := some (53, true) }) rfl (fun K hK => ?_) AllReadyH.nil
  go_simp
  go_at_call 24
  refine K24.out.mono ?_
  rintro e wc14 ⟨rfl, hb3⟩
  have S14 := HS.out _ _ (by assumption) hb3
  refine hK.out _ _ S14 (fun _ => ?_)
  clear hK K hb3
  try simp only [Act.put, List.setIfInBounds_toArray, List.set_cons_zero, List.set_cons_succ]
  refine wpAnyH_take (i := 61) (oi := { dst := some 89, op := Go.Op.binOp Go.BinOp.eql 4 (Go.Operand.tmp 84) (Go.Operand.tmp 88) 4, type := 4, pos := "law.go:162", after := #[{ on := 56, ground := Go.Ground.data }, { on := 60, ground := Go.Ground.data }, { on := 53, ground := Go.Ground.guard }], guard := some (53, true) }) (v := ?_) rfl (by kernel_rfl) (by kernel_rfl) (by kernel_rfl) (fun _ _ _ h => h) (Or.inl ⟨by kernel_rfl, ?_⟩) (by assumption) ?_
  rotate_left
  · intro w _
    first | (go_simp; done) | (go_simp; with_reducible rfl)
  try simp only [Act.put, List.setIfInBounds_toArray, List.set_cons_zero, List.set_cons_succ]
  refine wpAnyH_take (i := 62) (oi := { dst := some 90, op := Go.Op.pick (Go.Operand.tmp 81) (Go.Operand.tmp 89) (Go.Operand.const (Go.Value.bool false)), type := 4, pos := "law.go:162", after := #[{ on := 53, ground := Go.Ground.data }, { on := 61, ground := Go.Ground.data }], guard := none }) (v := ?_) rfl (by kernel_rfl) (by kernel_rfl) (by kernel_rfl) (fun _ _ _ h => h) (Or.inl ⟨by kernel_rfl, ?_⟩) (by assumption) ?_
  rotate_left
  · intro w _
    first | (go_simp; done) | (go_simp; with_reducible rfl)
  try simp only [Act.put, List.setIfInBounds_toArray, List.set_cons_zero, List.set_cons_succ]
  refine wpAnyH_take (i := 63) (oi := { dst := some 8, op := Go.Op.assign (Go.Operand.tmp 90), type := 4, pos := "law.go:162", after := ([{ on := 62, ground := Go.Ground.data }, { on := 60, ground := Go.Ground.chain }, { on := 0, ground := Go.Ground.phase }, { on := 1, ground := Go.Ground.phase }, { on := 2, ground := Go.Ground.phase }, { on := 3, ground := Go.Ground.phase }, { on := 4, ground := Go.Ground.phase }, { on := 5, ground := Go.Ground.phase }, { on := 6, ground := Go.Ground.phase }, { on := 7, ground := Go.Ground.phase }, { on := 8, ground := Go.Ground.phase }, { on := 9, ground := Go.Ground.phase }, { on := 10, ground := Go.Ground.phase }, { on := 11, ground := Go.Ground.phase }, { on := 12, ground := Go.Ground.phase }, { on := 13, ground := Go.Ground.phase }, { on := 14, ground := Go.Ground.phase }, { on := 15, ground := Go.Ground.phase }, { on := 16, ground := Go.Ground.phase }, { on := 17, ground := Go.Ground.phase }, { on := 18, ground := Go.Ground.phase }, { on := 19, ground := Go.Ground.phase }, { on := 20, ground := Go.Ground.phase }, { on := 21, ground := Go.Ground.phase }, { on := 22, ground := Go.Ground.phase }, { on := 23, ground := Go.Ground.phase }, { on := 24, ground := Go.Ground.phase }, { on := 25, ground := Go.Ground.phase }, { on := 26, ground := Go.Ground.phase }, { on := 27, ground := Go.Ground.phase }, { on := 28, ground := Go.Ground.phase }, { on := 29, ground := Go.Ground.phase }].append [{ on := 30, ground := Go.Ground.phase }, { on := 31, ground := Go.Ground.phase }, { on := 32, ground := Go.Ground.phase }, { on := 33, ground := Go.Ground.phase }, { on := 34, ground := Go.Ground.phase }, { on := 35, ground := Go.Ground.phase }, { on := 36, ground := Go.Ground.phase }, { on := 37, ground := Go.Ground.phase }, { on := 38, ground := Go.Ground.phase }, { on := 39, ground := Go.Ground.phase }, { on := 40, ground := Go.Ground.phase }, { on := 41, ground := Go.Ground.phase }, { on := 42, ground := Go.Ground.phase }, { on := 43, ground := Go.Ground.phase }, { on := 44, ground := Go.Ground.phase }, { on := 45, ground := Go.Ground.phase }, { on := 46, ground := Go.Ground.phase }, { on := 47, ground := Go.Ground.phase }, { on := 48, ground := Go.Ground.phase }, { on := 49, ground := Go.Ground.phase }, { on := 50, ground := Go.Ground.phase }, { on := 51, ground := Go.Ground.phase }, { on := 52, ground := Go.Ground.phase }, { on := 53, ground := Go.Ground.phase }, { on := 54, ground := Go.Ground.phase }, { on := 55, ground := Go.Ground.phase }, { on := 56, ground := Go.Ground.phase }, { on := 57, ground := Go.Ground.phase }, { on := 58, ground := Go.Ground.phase }, { on := 59, ground := Go.Ground.phase }, { on := 60, ground := Go.Ground.phase }, { on := 61, ground := Go.Ground.phase }, { on := 62, ground := Go.Ground.phase }]).toArray, guard := none }) (v := ?_) rfl (by kernel_rfl) (by kernel_rfl) (by kernel_rfl) (fun _ _ _ h => h) (Or.inl ⟨by kernel_rfl, ?_⟩) (by assumption) ?_
  rotate_left
  · intro w _
    first | (go_simp; done) | (go_simp; with_reducible rfl)
  try simp only [Act.put, List.setIfInBounds_toArray, List.set_cons_zero, List.set_cons_succ]
  refine wpAnyH_done (by kernel_rfl) ?_ _
  go_wp2
  go_ret
  exact ⟨by first | rfl | (simp; done), hop HB.out h0 (by go_split_ands; assumption)⟩
end Go.Proofs.YtdbflmkjcgiodaaGreatDoor
