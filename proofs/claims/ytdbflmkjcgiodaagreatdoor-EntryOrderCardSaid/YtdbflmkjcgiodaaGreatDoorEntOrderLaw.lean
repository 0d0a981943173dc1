/- The walk of the law EntryOrder: entries stand in one order. -/
import Derived.Test.YtdbflmkjcgiodaaGreatDoorEntHeld
import Derived.Test.YtdbflmkjcgiodaaGreatDoorItemOpen
import Derived.Test.YtdbflmkjcgiodaaGreatDoorEntExam
namespace Go.Proofs.YtdbflmkjcgiodaaGreatDoor
open Go.RowKit
set_option linter.unusedVariables false
set_option linter.unusedSimpArgs false

def ItemX.arr (x : ItemX) : Array Value := #[.int .i64 x.e.ts, .slice x.e.A x.e.n x.e.c, .string x.e.ln, .bool x.own, .int .i8 x.t, .slice x.LA x.Ln x.Lc, .int .u8 (x.k : Int)]
theorem box_cells {w : World} {g : Nat} {x : ItemX} {t : TypeId} (h : Blk w g t x.arr) : w.cell? ⟨g, 0, none⟩ = some (.int .i64 x.e.ts) ∧ w.cell? ⟨g, 1, none⟩ = some (.slice x.e.A x.e.n x.e.c) ∧ w.cell? ⟨g, 2, none⟩ = some (.string x.e.ln) ∧ w.cell? ⟨g, 3, none⟩ = some (.bool x.own) ∧ w.cell? ⟨g, 4, none⟩ = some (.int .i8 x.t) ∧ w.cell? ⟨g, 5, none⟩ = some (.slice x.LA x.Ln x.Lc) ∧ w.cell? ⟨g, 6, none⟩ = some (.int .u8 (x.k : Int)) :=
  ⟨(h.cell 0).trans rfl, (h.cell 1).trans rfl, (h.cell 2).trans rfl, (h.cell 3).trans rfl, (h.cell 4).trans rfl, (h.cell 5).trans rfl, (h.cell 6).trans rfl⟩

set_option maxRecDepth 100000 in
set_option maxHeartbeats 3200000 in
theorem entryOrder_walk {W : World} (x y z : ItemX) (hx : GoodI W.heap.size W x) (hy : GoodI W.heap.size W y) (hz : GoodI W.heap.size W z) (hl : LibIs W) :
    Calls Tryz.prog 6 #[x.val, y.val, z.val] W fun e w' => e = .returned (.bool true) ∧ Below W.heap.size W w' := by
  have h0 : W.heap.size ≤ W.heap.size := Nat.le_refl _
  have HX := Lib.hid (fun w h => entExamples_any w (hl.below h))
  have IX := fun w h => item_any W.heap.size x w (hx.below h)
  have IY := fun w h => item_any W.heap.size y w (hy.below h)
  have IZ := fun w h => item_any W.heap.size z w (hz.below h)
  dsimp only [ItemX.val] at IX IY IZ ⊢
  replace IX := Lib.hid IX
  replace IY := Lib.hid IY
  replace IZ := Lib.hid IZ
  clear hx hy hz hl
  go_enter Tryz.func6, Tryz.ntmps6
  go_wp2_with fail
  obtain ⟨w0, hw0⟩ : ∃ w, ((W.alloc (.cells x.arr 29)).alloc (.cells y.arr 29)).alloc (.cells z.arr 29) = w := ⟨_, rfl⟩
  have BX : Blk w0 W.heap.size 29 x.arr := by rw [← hw0]; exact ((Blk.new W _ _).alloc _).alloc _
  have BY : Blk w0 (W.heap.size + 1) 29 y.arr := by rw [← hw0]; exact (blk_next W _ _ _).alloc _
  have BZ : Blk w0 (W.heap.size + 1 + 1) 29 z.arr := by
    rw [← hw0]
    have h := blk_next (W.alloc (.cells x.arr 29)) (.cells y.arr 29) 29 z.arr
    rwa [show (W.alloc (.cells x.arr 29)).heap.size = W.heap.size + 1 by simp] at h
  have H : Held W w0 [] := Held.nil (by rw [← hw0]; exact (((Below.refl _ _).alloc h0 _).alloc (by simp) _).alloc (by simp; omega) _)
  change Calls Tryz.prog _ _ (((W.alloc (.cells x.arr 29)).alloc (.cells y.arr 29)).alloc (.cells z.arr 29)) _
  rw [hw0]
  clear hw0
  refine (HX.out _ H.below).mono ?_
  rintro e w1 ⟨rfl, hx⟩
  replace H := H.next hx
  replace BX := BX.below hx BX.lt
  replace BY := BY.below hx BY.lt
  replace BZ := BZ.below hx BZ.lt
  clear hx
  obtain ⟨x0, x1, x2, x3, x4, x5, x6⟩ := box_cells BX
  have HBY := Lib.hid BY
  have HBZ := Lib.hid BZ
  have HH := Lib.hid H
  clear BX BY BZ H HX
  go_wp2_with fail
  refine (IX.out _ HH.out.below).mono ?_
  rintro e w2 ⟨a, rfl, ha, ga, hx⟩
  have H := HH.out.next hx
  have BY := (HBY.out.below hx HBY.out.lt).alloc (.cells #[.int .i64 a.ts, .slice a.A a.n a.c, .string a.ln] 25)
  have BZ := (HBZ.out.below hx HBZ.out.lt).alloc (.cells #[.int .i64 a.ts, .slice a.A a.n a.c, .string a.ln] 25)
  clear hx HH HBY HBZ IX x0 x1 x2 x3 x4 x5 x6
  dsimp only [EntX.val]
  have H2 := H.push (x := a) (g := w2.heap.size) rfl ga
  change Held W (w2.alloc (.cells #[.int .i64 a.ts, .slice a.A a.n a.c, .string a.ln] 25)) _ at H2
  obtain ⟨x0, x1, x2, x3, x4, x5, x6⟩ := box_cells BY
  have HBY := Lib.hid BY
  have HBZ := Lib.hid BZ
  have HH := Lib.hid H2
  have Hha := Lib.hid ha
  clear H H2 ga ha BY BZ
  go_wp2_with fail
  obtain ⟨w3, hw⟩ : ∃ w', w2.alloc (.cells #[.int .i64 a.ts, .slice a.A a.n a.c, .string a.ln] 25) = w' := ⟨_, rfl⟩
  obtain ⟨ga0, hg0⟩ : ∃ g, w2.heap.size = g := ⟨_, rfl⟩
  replace HH := HH.out
  rw [hw, hg0] at HH
  replace HH := Lib.hid HH
  replace HBY := HBY.out
  rw [hw] at HBY
  replace HBY := Lib.hid HBY
  replace HBZ := HBZ.out
  rw [hw] at HBZ
  replace HBZ := Lib.hid HBZ
  rw [hw] at x0 x1 x2 x3 x4 x5 x6
  rw [hw, hg0]
  clear hw hg0
  refine (IY.out _ HH.out.below).mono ?_
  rintro e w4 ⟨b, rfl, hb, gb, hx⟩
  have H := HH.out.next hx
  have BZ := (HBZ.out.below hx HBZ.out.lt).alloc (.cells #[.int .i64 b.ts, .slice b.A b.n b.c, .string b.ln] 25)
  clear hx HH HBZ IY x0 x1 x2 x3 x4 x5 x6
  dsimp only [EntX.val]
  have H2 := H.push (x := b) (g := w4.heap.size) rfl gb
  change Held W (w4.alloc (.cells #[.int .i64 b.ts, .slice b.A b.n b.c, .string b.ln] 25)) _ at H2
  obtain ⟨x0, x1, x2, x3, x4, x5, x6⟩ := box_cells BZ
  have HBZ := Lib.hid BZ
  have HH := Lib.hid H2
  have Hhb := Lib.hid hb
  clear H H2 gb hb BZ
  go_wp2_with fail
  obtain ⟨w5, hw⟩ : ∃ w', w4.alloc (.cells #[.int .i64 b.ts, .slice b.A b.n b.c, .string b.ln] 25) = w' := ⟨_, rfl⟩
  obtain ⟨gb0, hg0⟩ : ∃ g, w4.heap.size = g := ⟨_, rfl⟩
  replace HH := HH.out
  rw [hw, hg0] at HH
  replace HH := Lib.hid HH
  replace HBZ := HBZ.out
  rw [hw] at HBZ
  replace HBZ := Lib.hid HBZ
  rw [hw] at x0 x1 x2 x3 x4 x5 x6
  rw [hw, hg0]
  clear hw hg0
  refine (IZ.out _ HH.out.below).mono ?_
  rintro e w6 ⟨c, rfl, hc, gc, hx⟩
  have H := HH.out.next hx
  clear hx HH  IZ x0 x1 x2 x3 x4 x5 x6
  dsimp only [EntX.val]
  have H2 := H.push (x := c) (g := w6.heap.size) rfl gc
  change Held W (w6.alloc (.cells #[.int .i64 c.ts, .slice c.A c.n c.c, .string c.ln] 25)) _ at H2
  obtain ⟨ka0, ka1, ka2⟩ := H2.cells (.tail _ (.tail _ (.head _)))
  obtain ⟨kb0, kb1, kb2⟩ := H2.cells (.tail _ (.head _))
  obtain ⟨kc0, kc1, kc2⟩ := H2.cells (.head _)
  have HH := Lib.hid H2
  have Hhc := Lib.hid hc
  clear H H2 gc hc 
  go_wp2_with fail
  obtain ⟨w7, hw⟩ : ∃ w', w6.alloc (.cells #[.int .i64 c.ts, .slice c.A c.n c.c, .string c.ln] 25) = w' := ⟨_, rfl⟩
  obtain ⟨gc0, hg0⟩ : ∃ g, w6.heap.size = g := ⟨_, rfl⟩
  replace HH := HH.out
  rw [hw, hg0] at HH
  replace HH := Lib.hid HH
  rw [hw] at ka0 ka1 ka2 kb0 kb1 kb2 kc0 kc1 kc2
  rw [hg0] at kc0 kc1 kc2
  rw [hw, hg0]
  clear hw hg0
  obtain ⟨o, r, sm, p, q, eo, er, es, ep, eq, h3⟩ := ord_two a.b b.b
  obtain ⟨s, t, e1, e2, h2⟩ := ord_three a.b b.b c.b
  rw [eo] at h2
  have OAB := fun w h1 h2 => ord_good a b (B1 := W.heap.size) (B2 := W.heap.size) w h1 h2
  have OBA := fun w h1 h2 => ord_good b a (B1 := W.heap.size) (B2 := W.heap.size) w h1 h2
  have OBC := fun w h1 h2 => ord_good b c (B1 := W.heap.size) (B2 := W.heap.size) w h1 h2
  have OAC := fun w h1 h2 => ord_good a c (B1 := W.heap.size) (B2 := W.heap.size) w h1 h2
  have SAB := fun w h1 h2 => same_good a b (B1 := W.heap.size) (B2 := W.heap.size) w h1 h2
  have AT := fun w h1 h2 => ahead_good a b true (B1 := W.heap.size) (B2 := W.heap.size) w h1 h2
  have AF := fun w h1 h2 => ahead_good a b false (B1 := W.heap.size) (B2 := W.heap.size) w h1 h2
  simp only [eo] at OAB
  simp only [er] at OBA
  simp only [e1] at OBC
  simp only [e2] at OAC
  simp only [es] at SAB
  simp only [ep] at AT
  simp only [eq] at AF
  replace OAB := Lib.hid OAB
  replace OBA := Lib.hid OBA
  replace OBC := Lib.hid OBC
  replace OAC := Lib.hid OAC
  replace SAB := Lib.hid SAB
  replace AT := Lib.hid AT
  replace AF := Lib.hid AF
  have H3 := Lib.hid (show (o = 1 ∧ r = -1 ∧ sm = false ∧ p = false ∧ q = true ∧ ¬ a.ts < b.ts) ∨ (o = 0 ∧ r = 0 ∧ sm = true ∧ p = false ∧ q = false ∧ a.ts = b.ts) ∨ (o = -1 ∧ r = 1 ∧ sm = false ∧ p = true ∧ q = false ∧ ¬ b.ts < a.ts) from h3)
  have H2 := Lib.hid h2
  clear eo er e1 e2 es ep eq h2 h3 Hha Hhb Hhc
  refine (OAB.out _ (HH.out.good (.tail _ (.tail _ (.head _)))) (HH.out.good (.tail _ (.head _)))).mono ?_
  rintro e w8 ⟨rfl, hx⟩
  have H := HH.out.next hx
  clear HH hx OAB ka0 ka1 ka2 kb0 kb1 kb2 kc0 kc1 kc2
  obtain ⟨ka0, ka1, ka2⟩ := H.cells (.tail _ (.tail _ (.head _)))
  obtain ⟨kb0, kb1, kb2⟩ := H.cells (.tail _ (.head _))
  obtain ⟨kc0, kc1, kc2⟩ := H.cells (.head _)
  have HH := Lib.hid H
  clear H
  rcases H3.out with ⟨rfl, rfl, rfl, rfl, rfl, ht⟩ | ⟨rfl, rfl, rfl, rfl, rfl, ht⟩ | ⟨rfl, rfl, rfl, rfl, rfl, ht⟩
  · clear H3 H2
    by_cases hts : a.ts = b.ts
    · have ht1 : (a.ts == b.ts) = true := by rw [hts]; simp
      clear ht hts
      go_wp2_with fail
      refine (OBA.out _ (HH.out.good (.tail _ (.head _))) (HH.out.good (.tail _ (.tail _ (.head _))))).mono ?_
      rintro e w9 ⟨rfl, hx⟩
      have H := HH.out.next hx
      clear HH hx ka0 ka1 ka2 kb0 kb1 kb2 kc0 kc1 kc2
      obtain ⟨ka0, ka1, ka2⟩ := H.cells (.tail _ (.tail _ (.head _)))
      obtain ⟨kb0, kb1, kb2⟩ := H.cells (.tail _ (.head _))
      obtain ⟨kc0, kc1, kc2⟩ := H.cells (.head _)
      have HH := Lib.hid H
      clear H
      go_wp2_with fail
      refine (SAB.out _ (HH.out.good (.tail _ (.tail _ (.head _)))) (HH.out.good (.tail _ (.head _)))).mono ?_
      rintro e w10 ⟨rfl, hx⟩
      have H := HH.out.next hx
      clear HH hx ka0 ka1 ka2 kb0 kb1 kb2 kc0 kc1 kc2
      obtain ⟨ka0, ka1, ka2⟩ := H.cells (.tail _ (.tail _ (.head _)))
      obtain ⟨kb0, kb1, kb2⟩ := H.cells (.tail _ (.head _))
      obtain ⟨kc0, kc1, kc2⟩ := H.cells (.head _)
      have HH := Lib.hid H
      clear H
      go_wp2_with fail
      refine (AT.out _ (HH.out.good (.tail _ (.tail _ (.head _)))) (HH.out.good (.tail _ (.head _)))).mono ?_
      rintro e w11 ⟨rfl, hx⟩
      have H := HH.out.next hx
      clear HH hx ka0 ka1 ka2 kb0 kb1 kb2 kc0 kc1 kc2
      obtain ⟨ka0, ka1, ka2⟩ := H.cells (.tail _ (.tail _ (.head _)))
      obtain ⟨kb0, kb1, kb2⟩ := H.cells (.tail _ (.head _))
      obtain ⟨kc0, kc1, kc2⟩ := H.cells (.head _)
      have HH := Lib.hid H
      clear H
      go_wp2_with fail
      refine (AF.out _ (HH.out.good (.tail _ (.tail _ (.head _)))) (HH.out.good (.tail _ (.head _)))).mono ?_
      rintro e w12 ⟨rfl, hx⟩
      have H := HH.out.next hx
      clear HH hx ka0 ka1 ka2 kb0 kb1 kb2 kc0 kc1 kc2
      obtain ⟨ka0, ka1, ka2⟩ := H.cells (.tail _ (.tail _ (.head _)))
      obtain ⟨kb0, kb1, kb2⟩ := H.cells (.tail _ (.head _))
      obtain ⟨kc0, kc1, kc2⟩ := H.cells (.head _)
      have HH := Lib.hid H
      clear H
      go_wp2
      go_ret
      exact ⟨by first | rfl | (simp; done), HH.out.below⟩
    · have ht1 : (a.ts == b.ts) = false := by rw [beq_eq_false_iff_ne]; exact hts
      have ht2 : decide (a.ts < b.ts) = false := by exact decide_eq_false ht
      clear ht hts
      go_wp2_with fail
      refine (OBA.out _ (HH.out.good (.tail _ (.head _))) (HH.out.good (.tail _ (.tail _ (.head _))))).mono ?_
      rintro e w9 ⟨rfl, hx⟩
      have H := HH.out.next hx
      clear HH hx ka0 ka1 ka2 kb0 kb1 kb2 kc0 kc1 kc2
      obtain ⟨ka0, ka1, ka2⟩ := H.cells (.tail _ (.tail _ (.head _)))
      obtain ⟨kb0, kb1, kb2⟩ := H.cells (.tail _ (.head _))
      obtain ⟨kc0, kc1, kc2⟩ := H.cells (.head _)
      have HH := Lib.hid H
      clear H
      go_wp2_with fail
      refine (SAB.out _ (HH.out.good (.tail _ (.tail _ (.head _)))) (HH.out.good (.tail _ (.head _)))).mono ?_
      rintro e w10 ⟨rfl, hx⟩
      have H := HH.out.next hx
      clear HH hx ka0 ka1 ka2 kb0 kb1 kb2 kc0 kc1 kc2
      obtain ⟨ka0, ka1, ka2⟩ := H.cells (.tail _ (.tail _ (.head _)))
      obtain ⟨kb0, kb1, kb2⟩ := H.cells (.tail _ (.head _))
      obtain ⟨kc0, kc1, kc2⟩ := H.cells (.head _)
      have HH := Lib.hid H
      clear H
      go_wp2_with fail
      refine (AT.out _ (HH.out.good (.tail _ (.tail _ (.head _)))) (HH.out.good (.tail _ (.head _)))).mono ?_
      rintro e w11 ⟨rfl, hx⟩
      have H := HH.out.next hx
      clear HH hx ka0 ka1 ka2 kb0 kb1 kb2 kc0 kc1 kc2
      obtain ⟨ka0, ka1, ka2⟩ := H.cells (.tail _ (.tail _ (.head _)))
      obtain ⟨kb0, kb1, kb2⟩ := H.cells (.tail _ (.head _))
      obtain ⟨kc0, kc1, kc2⟩ := H.cells (.head _)
      have HH := Lib.hid H
      clear H
      go_wp2_with fail
      refine (AF.out _ (HH.out.good (.tail _ (.tail _ (.head _)))) (HH.out.good (.tail _ (.head _)))).mono ?_
      rintro e w12 ⟨rfl, hx⟩
      have H := HH.out.next hx
      clear HH hx ka0 ka1 ka2 kb0 kb1 kb2 kc0 kc1 kc2
      obtain ⟨ka0, ka1, ka2⟩ := H.cells (.tail _ (.tail _ (.head _)))
      obtain ⟨kb0, kb1, kb2⟩ := H.cells (.tail _ (.head _))
      obtain ⟨kc0, kc1, kc2⟩ := H.cells (.head _)
      have HH := Lib.hid H
      clear H
      go_wp2
      go_ret
      exact ⟨by first | rfl | (simp; done), HH.out.below⟩
  · rcases H2.out with ⟨hs, hs2, ht3⟩ | hs
    · have ht4 : decide (0 < t) = false := decide_eq_false (by have := ht3 (by omega); omega)
      clear ht3 H3 H2
      have ht1 : (a.ts == b.ts) = true := by rw [ht]; simp
      clear ht
      go_wp2_with fail
      refine (OBC.out _ (HH.out.good (.tail _ (.head _))) (HH.out.good (.head _))).mono ?_
      rintro e w9 ⟨rfl, hx⟩
      have H := HH.out.next hx
      clear HH hx ka0 ka1 ka2 kb0 kb1 kb2 kc0 kc1 kc2
      obtain ⟨ka0, ka1, ka2⟩ := H.cells (.tail _ (.tail _ (.head _)))
      obtain ⟨kb0, kb1, kb2⟩ := H.cells (.tail _ (.head _))
      obtain ⟨kc0, kc1, kc2⟩ := H.cells (.head _)
      have HH := Lib.hid H
      clear H
      go_wp2_with fail
      refine (OAC.out _ (HH.out.good (.tail _ (.tail _ (.head _)))) (HH.out.good (.head _))).mono ?_
      rintro e w10 ⟨rfl, hx⟩
      have H := HH.out.next hx
      clear HH hx ka0 ka1 ka2 kb0 kb1 kb2 kc0 kc1 kc2
      obtain ⟨ka0, ka1, ka2⟩ := H.cells (.tail _ (.tail _ (.head _)))
      obtain ⟨kb0, kb1, kb2⟩ := H.cells (.tail _ (.head _))
      obtain ⟨kc0, kc1, kc2⟩ := H.cells (.head _)
      have HH := Lib.hid H
      clear H
      go_wp2_with fail
      refine (OBA.out _ (HH.out.good (.tail _ (.head _))) (HH.out.good (.tail _ (.tail _ (.head _))))).mono ?_
      rintro e w11 ⟨rfl, hx⟩
      have H := HH.out.next hx
      clear HH hx ka0 ka1 ka2 kb0 kb1 kb2 kc0 kc1 kc2
      obtain ⟨ka0, ka1, ka2⟩ := H.cells (.tail _ (.tail _ (.head _)))
      obtain ⟨kb0, kb1, kb2⟩ := H.cells (.tail _ (.head _))
      obtain ⟨kc0, kc1, kc2⟩ := H.cells (.head _)
      have HH := Lib.hid H
      clear H
      go_wp2_with fail
      refine (SAB.out _ (HH.out.good (.tail _ (.tail _ (.head _)))) (HH.out.good (.tail _ (.head _)))).mono ?_
      rintro e w12 ⟨rfl, hx⟩
      have H := HH.out.next hx
      clear HH hx ka0 ka1 ka2 kb0 kb1 kb2 kc0 kc1 kc2
      obtain ⟨ka0, ka1, ka2⟩ := H.cells (.tail _ (.tail _ (.head _)))
      obtain ⟨kb0, kb1, kb2⟩ := H.cells (.tail _ (.head _))
      obtain ⟨kc0, kc1, kc2⟩ := H.cells (.head _)
      have HH := Lib.hid H
      clear H
      go_wp2_with fail
      refine (AT.out _ (HH.out.good (.tail _ (.tail _ (.head _)))) (HH.out.good (.tail _ (.head _)))).mono ?_
      rintro e w13 ⟨rfl, hx⟩
      have H := HH.out.next hx
      clear HH hx ka0 ka1 ka2 kb0 kb1 kb2 kc0 kc1 kc2
      obtain ⟨ka0, ka1, ka2⟩ := H.cells (.tail _ (.tail _ (.head _)))
      obtain ⟨kb0, kb1, kb2⟩ := H.cells (.tail _ (.head _))
      obtain ⟨kc0, kc1, kc2⟩ := H.cells (.head _)
      have HH := Lib.hid H
      clear H
      go_wp2_with fail
      refine (AF.out _ (HH.out.good (.tail _ (.tail _ (.head _)))) (HH.out.good (.tail _ (.head _)))).mono ?_
      rintro e w14 ⟨rfl, hx⟩
      have H := HH.out.next hx
      clear HH hx ka0 ka1 ka2 kb0 kb1 kb2 kc0 kc1 kc2
      obtain ⟨ka0, ka1, ka2⟩ := H.cells (.tail _ (.tail _ (.head _)))
      obtain ⟨kb0, kb1, kb2⟩ := H.cells (.tail _ (.head _))
      obtain ⟨kc0, kc1, kc2⟩ := H.cells (.head _)
      have HH := Lib.hid H
      clear H
      go_wp2
      go_ret
      exact ⟨by first | rfl | (simp; done), HH.out.below⟩
    · clear H3 H2
      have ht1 : (a.ts == b.ts) = true := by rw [ht]; simp
      clear ht
      go_wp2_with fail
      refine (OBC.out _ (HH.out.good (.tail _ (.head _))) (HH.out.good (.head _))).mono ?_
      rintro e w9 ⟨rfl, hx⟩
      have H := HH.out.next hx
      clear HH hx ka0 ka1 ka2 kb0 kb1 kb2 kc0 kc1 kc2
      obtain ⟨ka0, ka1, ka2⟩ := H.cells (.tail _ (.tail _ (.head _)))
      obtain ⟨kb0, kb1, kb2⟩ := H.cells (.tail _ (.head _))
      obtain ⟨kc0, kc1, kc2⟩ := H.cells (.head _)
      have HH := Lib.hid H
      clear H
      go_wp2_with fail
      refine (OBA.out _ (HH.out.good (.tail _ (.head _))) (HH.out.good (.tail _ (.tail _ (.head _))))).mono ?_
      rintro e w10 ⟨rfl, hx⟩
      have H := HH.out.next hx
      clear HH hx ka0 ka1 ka2 kb0 kb1 kb2 kc0 kc1 kc2
      obtain ⟨ka0, ka1, ka2⟩ := H.cells (.tail _ (.tail _ (.head _)))
      obtain ⟨kb0, kb1, kb2⟩ := H.cells (.tail _ (.head _))
      obtain ⟨kc0, kc1, kc2⟩ := H.cells (.head _)
      have HH := Lib.hid H
      clear H
      go_wp2_with fail
      refine (SAB.out _ (HH.out.good (.tail _ (.tail _ (.head _)))) (HH.out.good (.tail _ (.head _)))).mono ?_
      rintro e w11 ⟨rfl, hx⟩
      have H := HH.out.next hx
      clear HH hx ka0 ka1 ka2 kb0 kb1 kb2 kc0 kc1 kc2
      obtain ⟨ka0, ka1, ka2⟩ := H.cells (.tail _ (.tail _ (.head _)))
      obtain ⟨kb0, kb1, kb2⟩ := H.cells (.tail _ (.head _))
      obtain ⟨kc0, kc1, kc2⟩ := H.cells (.head _)
      have HH := Lib.hid H
      clear H
      go_wp2_with fail
      refine (AT.out _ (HH.out.good (.tail _ (.tail _ (.head _)))) (HH.out.good (.tail _ (.head _)))).mono ?_
      rintro e w12 ⟨rfl, hx⟩
      have H := HH.out.next hx
      clear HH hx ka0 ka1 ka2 kb0 kb1 kb2 kc0 kc1 kc2
      obtain ⟨ka0, ka1, ka2⟩ := H.cells (.tail _ (.tail _ (.head _)))
      obtain ⟨kb0, kb1, kb2⟩ := H.cells (.tail _ (.head _))
      obtain ⟨kc0, kc1, kc2⟩ := H.cells (.head _)
      have HH := Lib.hid H
      clear H
      go_wp2_with fail
      refine (AF.out _ (HH.out.good (.tail _ (.tail _ (.head _)))) (HH.out.good (.tail _ (.head _)))).mono ?_
      rintro e w13 ⟨rfl, hx⟩
      have H := HH.out.next hx
      clear HH hx ka0 ka1 ka2 kb0 kb1 kb2 kc0 kc1 kc2
      obtain ⟨ka0, ka1, ka2⟩ := H.cells (.tail _ (.tail _ (.head _)))
      obtain ⟨kb0, kb1, kb2⟩ := H.cells (.tail _ (.head _))
      obtain ⟨kc0, kc1, kc2⟩ := H.cells (.head _)
      have HH := Lib.hid H
      clear H
      go_wp2
      go_ret
      exact ⟨by first | rfl | (simp; done), HH.out.below⟩
  · rcases H2.out with ⟨hs, hs2, ht3⟩ | hs
    · have ht4 : decide (0 < t) = false := decide_eq_false (by have := ht3 (by omega); omega)
      clear ht3 H3 H2
      by_cases hts : a.ts = b.ts
      · have ht1 : (a.ts == b.ts) = true := by rw [hts]; simp
        clear ht hts
        go_wp2_with fail
        refine (OBC.out _ (HH.out.good (.tail _ (.head _))) (HH.out.good (.head _))).mono ?_
        rintro e w9 ⟨rfl, hx⟩
        have H := HH.out.next hx
        clear HH hx ka0 ka1 ka2 kb0 kb1 kb2 kc0 kc1 kc2
        obtain ⟨ka0, ka1, ka2⟩ := H.cells (.tail _ (.tail _ (.head _)))
        obtain ⟨kb0, kb1, kb2⟩ := H.cells (.tail _ (.head _))
        obtain ⟨kc0, kc1, kc2⟩ := H.cells (.head _)
        have HH := Lib.hid H
        clear H
        go_wp2_with fail
        refine (OAC.out _ (HH.out.good (.tail _ (.tail _ (.head _)))) (HH.out.good (.head _))).mono ?_
        rintro e w10 ⟨rfl, hx⟩
        have H := HH.out.next hx
        clear HH hx ka0 ka1 ka2 kb0 kb1 kb2 kc0 kc1 kc2
        obtain ⟨ka0, ka1, ka2⟩ := H.cells (.tail _ (.tail _ (.head _)))
        obtain ⟨kb0, kb1, kb2⟩ := H.cells (.tail _ (.head _))
        obtain ⟨kc0, kc1, kc2⟩ := H.cells (.head _)
        have HH := Lib.hid H
        clear H
        go_wp2_with fail
        refine (OBA.out _ (HH.out.good (.tail _ (.head _))) (HH.out.good (.tail _ (.tail _ (.head _))))).mono ?_
        rintro e w11 ⟨rfl, hx⟩
        have H := HH.out.next hx
        clear HH hx ka0 ka1 ka2 kb0 kb1 kb2 kc0 kc1 kc2
        obtain ⟨ka0, ka1, ka2⟩ := H.cells (.tail _ (.tail _ (.head _)))
        obtain ⟨kb0, kb1, kb2⟩ := H.cells (.tail _ (.head _))
        obtain ⟨kc0, kc1, kc2⟩ := H.cells (.head _)
        have HH := Lib.hid H
        clear H
        go_wp2_with fail
        refine (SAB.out _ (HH.out.good (.tail _ (.tail _ (.head _)))) (HH.out.good (.tail _ (.head _)))).mono ?_
        rintro e w12 ⟨rfl, hx⟩
        have H := HH.out.next hx
        clear HH hx ka0 ka1 ka2 kb0 kb1 kb2 kc0 kc1 kc2
        obtain ⟨ka0, ka1, ka2⟩ := H.cells (.tail _ (.tail _ (.head _)))
        obtain ⟨kb0, kb1, kb2⟩ := H.cells (.tail _ (.head _))
        obtain ⟨kc0, kc1, kc2⟩ := H.cells (.head _)
        have HH := Lib.hid H
        clear H
        go_wp2_with fail
        refine (AT.out _ (HH.out.good (.tail _ (.tail _ (.head _)))) (HH.out.good (.tail _ (.head _)))).mono ?_
        rintro e w13 ⟨rfl, hx⟩
        have H := HH.out.next hx
        clear HH hx ka0 ka1 ka2 kb0 kb1 kb2 kc0 kc1 kc2
        obtain ⟨ka0, ka1, ka2⟩ := H.cells (.tail _ (.tail _ (.head _)))
        obtain ⟨kb0, kb1, kb2⟩ := H.cells (.tail _ (.head _))
        obtain ⟨kc0, kc1, kc2⟩ := H.cells (.head _)
        have HH := Lib.hid H
        clear H
        go_wp2_with fail
        refine (AF.out _ (HH.out.good (.tail _ (.tail _ (.head _)))) (HH.out.good (.tail _ (.head _)))).mono ?_
        rintro e w14 ⟨rfl, hx⟩
        have H := HH.out.next hx
        clear HH hx ka0 ka1 ka2 kb0 kb1 kb2 kc0 kc1 kc2
        obtain ⟨ka0, ka1, ka2⟩ := H.cells (.tail _ (.tail _ (.head _)))
        obtain ⟨kb0, kb1, kb2⟩ := H.cells (.tail _ (.head _))
        obtain ⟨kc0, kc1, kc2⟩ := H.cells (.head _)
        have HH := Lib.hid H
        clear H
        go_wp2
        go_ret
        exact ⟨by first | rfl | (simp; done), HH.out.below⟩
      · have ht1 : (a.ts == b.ts) = false := by rw [beq_eq_false_iff_ne]; exact hts
        have ht2 : decide (a.ts < b.ts) = true := by exact decide_eq_true (by omega)
        clear ht hts
        go_wp2_with fail
        refine (OBC.out _ (HH.out.good (.tail _ (.head _))) (HH.out.good (.head _))).mono ?_
        rintro e w9 ⟨rfl, hx⟩
        have H := HH.out.next hx
        clear HH hx ka0 ka1 ka2 kb0 kb1 kb2 kc0 kc1 kc2
        obtain ⟨ka0, ka1, ka2⟩ := H.cells (.tail _ (.tail _ (.head _)))
        obtain ⟨kb0, kb1, kb2⟩ := H.cells (.tail _ (.head _))
        obtain ⟨kc0, kc1, kc2⟩ := H.cells (.head _)
        have HH := Lib.hid H
        clear H
        go_wp2_with fail
        refine (OAC.out _ (HH.out.good (.tail _ (.tail _ (.head _)))) (HH.out.good (.head _))).mono ?_
        rintro e w10 ⟨rfl, hx⟩
        have H := HH.out.next hx
        clear HH hx ka0 ka1 ka2 kb0 kb1 kb2 kc0 kc1 kc2
        obtain ⟨ka0, ka1, ka2⟩ := H.cells (.tail _ (.tail _ (.head _)))
        obtain ⟨kb0, kb1, kb2⟩ := H.cells (.tail _ (.head _))
        obtain ⟨kc0, kc1, kc2⟩ := H.cells (.head _)
        have HH := Lib.hid H
        clear H
        go_wp2_with fail
        refine (OBA.out _ (HH.out.good (.tail _ (.head _))) (HH.out.good (.tail _ (.tail _ (.head _))))).mono ?_
        rintro e w11 ⟨rfl, hx⟩
        have H := HH.out.next hx
        clear HH hx ka0 ka1 ka2 kb0 kb1 kb2 kc0 kc1 kc2
        obtain ⟨ka0, ka1, ka2⟩ := H.cells (.tail _ (.tail _ (.head _)))
        obtain ⟨kb0, kb1, kb2⟩ := H.cells (.tail _ (.head _))
        obtain ⟨kc0, kc1, kc2⟩ := H.cells (.head _)
        have HH := Lib.hid H
        clear H
        go_wp2_with fail
        refine (SAB.out _ (HH.out.good (.tail _ (.tail _ (.head _)))) (HH.out.good (.tail _ (.head _)))).mono ?_
        rintro e w12 ⟨rfl, hx⟩
        have H := HH.out.next hx
        clear HH hx ka0 ka1 ka2 kb0 kb1 kb2 kc0 kc1 kc2
        obtain ⟨ka0, ka1, ka2⟩ := H.cells (.tail _ (.tail _ (.head _)))
        obtain ⟨kb0, kb1, kb2⟩ := H.cells (.tail _ (.head _))
        obtain ⟨kc0, kc1, kc2⟩ := H.cells (.head _)
        have HH := Lib.hid H
        clear H
        go_wp2_with fail
        refine (AT.out _ (HH.out.good (.tail _ (.tail _ (.head _)))) (HH.out.good (.tail _ (.head _)))).mono ?_
        rintro e w13 ⟨rfl, hx⟩
        have H := HH.out.next hx
        clear HH hx ka0 ka1 ka2 kb0 kb1 kb2 kc0 kc1 kc2
        obtain ⟨ka0, ka1, ka2⟩ := H.cells (.tail _ (.tail _ (.head _)))
        obtain ⟨kb0, kb1, kb2⟩ := H.cells (.tail _ (.head _))
        obtain ⟨kc0, kc1, kc2⟩ := H.cells (.head _)
        have HH := Lib.hid H
        clear H
        go_wp2_with fail
        refine (AF.out _ (HH.out.good (.tail _ (.tail _ (.head _)))) (HH.out.good (.tail _ (.head _)))).mono ?_
        rintro e w14 ⟨rfl, hx⟩
        have H := HH.out.next hx
        clear HH hx ka0 ka1 ka2 kb0 kb1 kb2 kc0 kc1 kc2
        obtain ⟨ka0, ka1, ka2⟩ := H.cells (.tail _ (.tail _ (.head _)))
        obtain ⟨kb0, kb1, kb2⟩ := H.cells (.tail _ (.head _))
        obtain ⟨kc0, kc1, kc2⟩ := H.cells (.head _)
        have HH := Lib.hid H
        clear H
        go_wp2
        go_ret
        exact ⟨by first | rfl | (simp; done), HH.out.below⟩
    · clear H3 H2
      by_cases hts : a.ts = b.ts
      · have ht1 : (a.ts == b.ts) = true := by rw [hts]; simp
        clear ht hts
        go_wp2_with fail
        refine (OBC.out _ (HH.out.good (.tail _ (.head _))) (HH.out.good (.head _))).mono ?_
        rintro e w9 ⟨rfl, hx⟩
        have H := HH.out.next hx
        clear HH hx ka0 ka1 ka2 kb0 kb1 kb2 kc0 kc1 kc2
        obtain ⟨ka0, ka1, ka2⟩ := H.cells (.tail _ (.tail _ (.head _)))
        obtain ⟨kb0, kb1, kb2⟩ := H.cells (.tail _ (.head _))
        obtain ⟨kc0, kc1, kc2⟩ := H.cells (.head _)
        have HH := Lib.hid H
        clear H
        go_wp2_with fail
        refine (OBA.out _ (HH.out.good (.tail _ (.head _))) (HH.out.good (.tail _ (.tail _ (.head _))))).mono ?_
        rintro e w10 ⟨rfl, hx⟩
        have H := HH.out.next hx
        clear HH hx ka0 ka1 ka2 kb0 kb1 kb2 kc0 kc1 kc2
        obtain ⟨ka0, ka1, ka2⟩ := H.cells (.tail _ (.tail _ (.head _)))
        obtain ⟨kb0, kb1, kb2⟩ := H.cells (.tail _ (.head _))
        obtain ⟨kc0, kc1, kc2⟩ := H.cells (.head _)
        have HH := Lib.hid H
        clear H
        go_wp2_with fail
        refine (SAB.out _ (HH.out.good (.tail _ (.tail _ (.head _)))) (HH.out.good (.tail _ (.head _)))).mono ?_
        rintro e w11 ⟨rfl, hx⟩
        have H := HH.out.next hx
        clear HH hx ka0 ka1 ka2 kb0 kb1 kb2 kc0 kc1 kc2
        obtain ⟨ka0, ka1, ka2⟩ := H.cells (.tail _ (.tail _ (.head _)))
        obtain ⟨kb0, kb1, kb2⟩ := H.cells (.tail _ (.head _))
        obtain ⟨kc0, kc1, kc2⟩ := H.cells (.head _)
        have HH := Lib.hid H
        clear H
        go_wp2_with fail
        refine (AT.out _ (HH.out.good (.tail _ (.tail _ (.head _)))) (HH.out.good (.tail _ (.head _)))).mono ?_
        rintro e w12 ⟨rfl, hx⟩
        have H := HH.out.next hx
        clear HH hx ka0 ka1 ka2 kb0 kb1 kb2 kc0 kc1 kc2
        obtain ⟨ka0, ka1, ka2⟩ := H.cells (.tail _ (.tail _ (.head _)))
        obtain ⟨kb0, kb1, kb2⟩ := H.cells (.tail _ (.head _))
        obtain ⟨kc0, kc1, kc2⟩ := H.cells (.head _)
        have HH := Lib.hid H
        clear H
        go_wp2_with fail
        refine (AF.out _ (HH.out.good (.tail _ (.tail _ (.head _)))) (HH.out.good (.tail _ (.head _)))).mono ?_
        rintro e w13 ⟨rfl, hx⟩
        have H := HH.out.next hx
        clear HH hx ka0 ka1 ka2 kb0 kb1 kb2 kc0 kc1 kc2
        obtain ⟨ka0, ka1, ka2⟩ := H.cells (.tail _ (.tail _ (.head _)))
        obtain ⟨kb0, kb1, kb2⟩ := H.cells (.tail _ (.head _))
        obtain ⟨kc0, kc1, kc2⟩ := H.cells (.head _)
        have HH := Lib.hid H
        clear H
        go_wp2
        go_ret
        exact ⟨by first | rfl | (simp; done), HH.out.below⟩
      · have ht1 : (a.ts == b.ts) = false := by rw [beq_eq_false_iff_ne]; exact hts
        have ht2 : decide (a.ts < b.ts) = true := by exact decide_eq_true (by omega)
        clear ht hts
        go_wp2_with fail
        refine (OBC.out _ (HH.out.good (.tail _ (.head _))) (HH.out.good (.head _))).mono ?_
        rintro e w9 ⟨rfl, hx⟩
        have H := HH.out.next hx
        clear HH hx ka0 ka1 ka2 kb0 kb1 kb2 kc0 kc1 kc2
        obtain ⟨ka0, ka1, ka2⟩ := H.cells (.tail _ (.tail _ (.head _)))
        obtain ⟨kb0, kb1, kb2⟩ := H.cells (.tail _ (.head _))
        obtain ⟨kc0, kc1, kc2⟩ := H.cells (.head _)
        have HH := Lib.hid H
        clear H
        go_wp2_with fail
        refine (OBA.out _ (HH.out.good (.tail _ (.head _))) (HH.out.good (.tail _ (.tail _ (.head _))))).mono ?_
        rintro e w10 ⟨rfl, hx⟩
        have H := HH.out.next hx
        clear HH hx ka0 ka1 ka2 kb0 kb1 kb2 kc0 kc1 kc2
        obtain ⟨ka0, ka1, ka2⟩ := H.cells (.tail _ (.tail _ (.head _)))
        obtain ⟨kb0, kb1, kb2⟩ := H.cells (.tail _ (.head _))
        obtain ⟨kc0, kc1, kc2⟩ := H.cells (.head _)
        have HH := Lib.hid H
        clear H
        go_wp2_with fail
        refine (SAB.out _ (HH.out.good (.tail _ (.tail _ (.head _)))) (HH.out.good (.tail _ (.head _)))).mono ?_
        rintro e w11 ⟨rfl, hx⟩
        have H := HH.out.next hx
        clear HH hx ka0 ka1 ka2 kb0 kb1 kb2 kc0 kc1 kc2
        obtain ⟨ka0, ka1, ka2⟩ := H.cells (.tail _ (.tail _ (.head _)))
        obtain ⟨kb0, kb1, kb2⟩ := H.cells (.tail _ (.head _))
        obtain ⟨kc0, kc1, kc2⟩ := H.cells (.head _)
        have HH := Lib.hid H
        clear H
        go_wp2_with fail
        refine (AT.out _ (HH.out.good (.tail _ (.tail _ (.head _)))) (HH.out.good (.tail _ (.head _)))).mono ?_
        rintro e w12 ⟨rfl, hx⟩
        have H := HH.out.next hx
        clear HH hx ka0 ka1 ka2 kb0 kb1 kb2 kc0 kc1 kc2
        obtain ⟨ka0, ka1, ka2⟩ := H.cells (.tail _ (.tail _ (.head _)))
        obtain ⟨kb0, kb1, kb2⟩ := H.cells (.tail _ (.head _))
        obtain ⟨kc0, kc1, kc2⟩ := H.cells (.head _)
        have HH := Lib.hid H
        clear H
        go_wp2_with fail
        refine (AF.out _ (HH.out.good (.tail _ (.tail _ (.head _)))) (HH.out.good (.tail _ (.head _)))).mono ?_
        rintro e w13 ⟨rfl, hx⟩
        have H := HH.out.next hx
        clear HH hx ka0 ka1 ka2 kb0 kb1 kb2 kc0 kc1 kc2
        obtain ⟨ka0, ka1, ka2⟩ := H.cells (.tail _ (.tail _ (.head _)))
        obtain ⟨kb0, kb1, kb2⟩ := H.cells (.tail _ (.head _))
        obtain ⟨kc0, kc1, kc2⟩ := H.cells (.head _)
        have HH := Lib.hid H
        clear H
        go_wp2
        go_ret
        exact ⟨by first | rfl | (simp; done), HH.out.below⟩
end Go.Proofs.YtdbflmkjcgiodaaGreatDoor
