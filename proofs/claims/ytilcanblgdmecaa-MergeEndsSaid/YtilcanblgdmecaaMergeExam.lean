/- The chapter's examples of merging: the walk. -/
import Derived.Test.YtilcanblgdmecaaMergeFirst
import Derived.Deep.DeepCutAuto
import Derived.Deep.CutBlock
namespace Go.Proofs.Ytilcanblgdmecaa
open Go.RowKit
set_option linter.unusedVariables false
set_option linter.unusedSimpArgs false

def mA : EntX := ⟨1, none, 0, 0, [], ⟨#[97]⟩⟩
def mB : EntX := ⟨2, none, 0, 0, [], ⟨#[98]⟩⟩
def mC : EntX := ⟨3, none, 0, 0, [], ⟨#[99]⟩⟩
theorem good_m {B : Nat} {w : World} {x : EntX} (h : x = mA ∨ x = mB ∨ x = mC) : Good B w x := by
  rcases h with rfl | rfl | rfl
  all_goals exact ⟨⟨pairs_none w, fun h => absurd h (by decide)⟩, by decide, by decide, by decide⟩
def mOk (x : EntX) : Prop := x = mA ∨ x = mB ∨ x = mC
theorem ents_m {w w' : World} (l : List EntX) (h : ∀ x ∈ l, mOk x) (g : Nat) (hg : w.heap.size = g) (T : TypeId) (hw : w.alloc (.cells (rowV EntX.V l).toArray T) = w') : Ents 0 w' (some ⟨g, 0, none⟩) l.length l := by
  rw [← hw]
  exact ents_lit w l 0 T (fun x hx => good_m (h x hx)) g hg
theorem lists_m {w w' : World} (ls : List LsX) (h : ∀ x ∈ ls, Ents 0 w x.A x.n x.l ∧ x.n ≤ x.c ∧ x.c ≤ maxLen) (g : Nat) (hg : w.heap.size = g) (T : TypeId) (hw : w.alloc (.cells (rowV LsX.V ls).toArray T) = w') : ListsP 0 w' (some ⟨g, 0, none⟩) ls.length ls := by
  rw [← hw]
  refine ⟨⟨rfl, fun hn => ⟨g, 0, rfl, by rw [← hg]; simp, fun j i a hj hi => ?_⟩⟩, fun x hx => ⟨(h x hx).1.below ((Below.refl _ _).alloc (Nat.le_refl _) _), (h x hx).2⟩⟩
  have hb : Blk (w.alloc (.cells (rowV LsX.V ls).toArray T)) g T (rowV LsX.V ls).toArray := by rw [← hg]; exact Blk.new _ _ _
  rw [hb.cell, ← rowV_at lsV_len ls j i a hj hi]
  simp
theorem ex_m1 : mergeB true 9 [⟨none, 2, 2, [mA, mC]⟩, ⟨none, 3, 3, [mA, mB, mB]⟩] = [mA.b, mB.b, mC.b] := by kernel_rfl
theorem ex_m2 : mergeB false 2 [⟨none, 2, 2, [mC, mA]⟩, ⟨none, 1, 1, [mB]⟩] = [mC.b, mB.b] := by kernel_rfl
theorem ex_s1 : sortedLs true [⟨none, 2, 2, [mA, mC]⟩, ⟨none, 3, 3, [mA, mB, mB]⟩] = true := by kernel_rfl
theorem ex_s2 : sortedLs false [⟨none, 2, 2, [mC, mA]⟩, ⟨none, 1, 1, [mB]⟩] = true := by kernel_rfl
theorem ex_s3 : sortedLs true [⟨none, 2, 2, [mB, mA]⟩] = false := by kernel_rfl
theorem ex_f : firstE false [mA, mC, mB] = mC := by kernel_rfl
theorem ex_u : uptoE true mB.b [mA, mB, mC] = [mA, mB] := by kernel_rfl
/-- the three entries stand in blocks of their own -/
structure Three (w : World) (ga gb gc : Nat) : Prop where
  a : Blk w ga 26 #[.int .i64 1, .slice none 0 0, .string ⟨#[97]⟩]
  b : Blk w gb 26 #[.int .i64 2, .slice none 0 0, .string ⟨#[98]⟩]
  c : Blk w gc 26 #[.int .i64 3, .slice none 0 0, .string ⟨#[99]⟩]
theorem Three.below {w w' : World} {ga gb gc : Nat} (h : Three w ga gb gc) (hb : Below w.heap.size w w') : Three w' ga gb gc := ⟨h.a.below hb h.a.lt, h.b.below hb h.b.lt, h.c.below hb h.c.lt⟩
theorem map_three {T : List EntX} {x y z : EntB} (h : T.map EntX.b = [x, y, z]) : ∃ a b c, T = [a, b, c] ∧ a.b = x ∧ b.b = y ∧ c.b = z := by
  match T, h with
  | [a, b, c], h =>
    simp only [List.map_cons, List.map_nil, List.cons.injEq, and_true] at h
    exact ⟨a, b, c, rfl, h.1, h.2.1, h.2.2⟩
theorem map_two {T : List EntX} {x y : EntB} (h : T.map EntX.b = [x, y]) : ∃ a b, T = [a, b] ∧ a.b = x ∧ b.b = y := by
  match T, h with
  | [a, b], h =>
    simp only [List.map_cons, List.map_nil, List.cons.injEq, and_true] at h
    exact ⟨a, b, rfl, h.1, h.2⟩

set_option maxRecDepth 100000 in
set_option maxHeartbeats 1600000 in
theorem mergeExamples_any (W : World) : Calls Try.prog 8 #[] W fun e w' => e = .returned (.bool true) ∧ Below W.heap.size W w' := by
  obtain ⟨ga, hga⟩ : ∃ g, W.heap.size = g := ⟨_, rfl⟩
  obtain ⟨w1, hw1⟩ : ∃ z, W.alloc (.cells #[.int .i64 1, .slice none 0 0, .string ⟨#[97]⟩] 26) = z := ⟨_, rfl⟩
  have bw1 : Below W.heap.size W w1 := by rw [← hw1]; exact (Below.refl _ _).alloc (Nat.le_refl _) _
  obtain ⟨gb, hgb⟩ : ∃ g, w1.heap.size = g := ⟨_, rfl⟩
  obtain ⟨w2, hw2⟩ : ∃ z, w1.alloc (.cells #[.int .i64 2, .slice none 0 0, .string ⟨#[98]⟩] 26) = z := ⟨_, rfl⟩
  have bw2 : Below w1.heap.size w1 w2 := by rw [← hw2]; exact (Below.refl _ _).alloc (Nat.le_refl _) _
  obtain ⟨gc, hgc⟩ : ∃ g, w2.heap.size = g := ⟨_, rfl⟩
  obtain ⟨w3, hw3⟩ : ∃ z, w2.alloc (.cells #[.int .i64 3, .slice none 0 0, .string ⟨#[99]⟩] 26) = z := ⟨_, rfl⟩
  have bw3 : Below w2.heap.size w2 w3 := by rw [← hw3]; exact (Below.refl _ _).alloc (Nat.le_refl _) _
  have Kw3 : Three w3 ga gb gc := by
    refine ⟨?_, ?_, ?_⟩
    · have k1 : Blk w1 ga 26 #[.int .i64 1, .slice none 0 0, .string ⟨#[97]⟩] := by rw [← hw1, ← hga]; exact Blk.new _ _ _
      have k2 := k1.below bw2 k1.lt
      exact k2.below bw3 k2.lt
    · have k1 : Blk w2 gb 26 #[.int .i64 2, .slice none 0 0, .string ⟨#[98]⟩] := by rw [← hw2, ← hgb]; exact Blk.new _ _ _
      exact k1.below bw3 k1.lt
    · rw [← hw3, ← hgc]; exact Blk.new _ _ _
  have HBw3 := Lib.hid (hop (hop bw1 (Nat.le_refl _) bw2) (Nat.le_refl _) bw3)
  have fA0w3 : w3.cell? ⟨ga, 0, none⟩ = some (.int .i64 1) := (Kw3.a.cell 0).trans rfl
  have fA1w3 : w3.cell? ⟨ga, 1, none⟩ = some (.slice none 0 0) := (Kw3.a.cell 1).trans rfl
  have fA2w3 : w3.cell? ⟨ga, 2, none⟩ = some (.string ⟨#[97]⟩) := (Kw3.a.cell 2).trans rfl
  have fC0w3 : w3.cell? ⟨gc, 0, none⟩ = some (.int .i64 3) := (Kw3.c.cell 0).trans rfl
  have fC1w3 : w3.cell? ⟨gc, 1, none⟩ = some (.slice none 0 0) := (Kw3.c.cell 1).trans rfl
  have fC2w3 : w3.cell? ⟨gc, 2, none⟩ = some (.string ⟨#[99]⟩) := (Kw3.c.cell 2).trans rfl
  obtain ⟨s10, hs10⟩ : ∃ g, w3.heap.size = g := ⟨_, rfl⟩
  obtain ⟨w4, hw4⟩ : ∃ z, w3.alloc (.cells #[.int .i64 1, .slice none 0 0, .string ⟨#[97]⟩, .int .i64 3, .slice none 0 0, .string ⟨#[99]⟩] 26) = z := ⟨_, rfl⟩
  have bw4 : Below w3.heap.size w3 w4 := by rw [← hw4]; exact (Below.refl _ _).alloc (Nat.le_refl _) _
  have Kw4 := Kw3.below bw4
  have HBw4 := Lib.hid (hop HBw3.out (Nat.le_refl _) bw4)
  have Rs10 := ents_m (w := w3) (w' := w4) [mA, mC] (by intro x hx; simp only [List.mem_cons, List.mem_nil_iff, or_false] at hx; unfold mOk; rcases hx with rfl | rfl <;> simp) s10 hs10 26 hw4
  have fA0w4 : w4.cell? ⟨ga, 0, none⟩ = some (.int .i64 1) := (Kw4.a.cell 0).trans rfl
  have fA1w4 : w4.cell? ⟨ga, 1, none⟩ = some (.slice none 0 0) := (Kw4.a.cell 1).trans rfl
  have fA2w4 : w4.cell? ⟨ga, 2, none⟩ = some (.string ⟨#[97]⟩) := (Kw4.a.cell 2).trans rfl
  have fB0w4 : w4.cell? ⟨gb, 0, none⟩ = some (.int .i64 2) := (Kw4.b.cell 0).trans rfl
  have fB1w4 : w4.cell? ⟨gb, 1, none⟩ = some (.slice none 0 0) := (Kw4.b.cell 1).trans rfl
  have fB2w4 : w4.cell? ⟨gb, 2, none⟩ = some (.string ⟨#[98]⟩) := (Kw4.b.cell 2).trans rfl
  obtain ⟨s11, hs11⟩ : ∃ g, w4.heap.size = g := ⟨_, rfl⟩
  obtain ⟨w5, hw5⟩ : ∃ z, w4.alloc (.cells #[.int .i64 1, .slice none 0 0, .string ⟨#[97]⟩, .int .i64 2, .slice none 0 0, .string ⟨#[98]⟩, .int .i64 2, .slice none 0 0, .string ⟨#[98]⟩] 26) = z := ⟨_, rfl⟩
  have bw5 : Below w4.heap.size w4 w5 := by rw [← hw5]; exact (Below.refl _ _).alloc (Nat.le_refl _) _
  have Kw5 := Kw4.below bw5
  have HBw5 := Lib.hid (hop HBw4.out (Nat.le_refl _) bw5)
  have Rs11 := ents_m (w := w4) (w' := w5) [mA, mB, mB] (by intro x hx; simp only [List.mem_cons, List.mem_nil_iff, or_false] at hx; unfold mOk; rcases hx with rfl | rfl | rfl <;> simp) s11 hs11 26 hw5
  obtain ⟨q1, hq1⟩ : ∃ g, w5.heap.size = g := ⟨_, rfl⟩
  obtain ⟨w6, hw6⟩ : ∃ z, w5.alloc (.cells #[.slice (some ⟨s10, 0, none⟩) 2 2, .slice (some ⟨s11, 0, none⟩) 3 3] 34) = z := ⟨_, rfl⟩
  have bw6 : Below w5.heap.size w5 w6 := by rw [← hw6]; exact (Below.refl _ _).alloc (Nat.le_refl _) _
  have Kw6 := Kw5.below bw6
  have HBw6 := Lib.hid (hop HBw5.out (Nat.le_refl _) bw6)
  have LS1 : ListsP 0 w6 (some ⟨q1, 0, none⟩) 2 ([⟨some ⟨s10, 0, none⟩, 2, 2, [mA, mC]⟩, ⟨some ⟨s11, 0, none⟩, 3, 3, [mA, mB, mB]⟩] : List LsX) := lists_m [⟨some ⟨s10, 0, none⟩, 2, 2, [mA, mC]⟩, ⟨some ⟨s11, 0, none⟩, 3, 3, [mA, mB, mB]⟩] (by
      intro x hx
      simp only [List.mem_cons, List.mem_nil_iff, or_false] at hx
      rcases hx with rfl | rfl
      · exact ⟨(Rs10).below bw5, Nat.le_refl _, by unfold maxLen; dsimp only; omega⟩
      · exact ⟨Rs11, Nat.le_refl _, by unfold maxLen; dsimp only; omega⟩
      ) q1 hq1 34 hw6
  have AL1 := all_any 0 true 9 (some ⟨q1, 0, none⟩) 2 2 [⟨some ⟨s10, 0, none⟩, 2, 2, [mA, mC]⟩, ⟨some ⟨s11, 0, none⟩, 3, 3, [mA, mB, mB]⟩] (by simp [totL]) w6 (Nat.zero_le _) LS1
  rw [show sortedLs true ([⟨some ⟨s10, 0, none⟩, 2, 2, [mA, mC]⟩, ⟨some ⟨s11, 0, none⟩, 3, 3, [mA, mB, mB]⟩] : List LsX) = true from by kernel_rfl] at AL1
  rw [show mergeB true 9 ([⟨some ⟨s10, 0, none⟩, 2, 2, [mA, mC]⟩, ⟨some ⟨s11, 0, none⟩, 3, 3, [mA, mB, mB]⟩] : List LsX) = [mA.b, mB.b, mC.b] from by kernel_rfl] at AL1
  replace AL1 := Lib.hid AL1
  have HK1 := Lib.hid Kw6
  clear Kw3 Kw4 Kw5 Kw6 LS1 Rs10 Rs11 bw4 bw5 bw6 bw1 bw2 bw3
  go_enter Try.func8, Try.ntmps8
  go_wp2_with fail
  refine AL1.out.mono ?_
  rintro e w7 ⟨v1, T1, rfl, ho1, hT1, hx1⟩
  have Kw7 := HK1.out.below hx1
  have HBw7 := Lib.hid (hop HBw6.out (Nat.le_refl _) hx1)
  clear hw4 hw5 hw6 hs10 hs11 hq1 AL1 HK1 HBw3 HBw4 HBw5 HBw6 hw1 hw2 hw3 hga hgb hgc 
  obtain ⟨x1, y1, z1, rfl, hx1b, hy1b, hz1b⟩ := map_three hT1
  obtain ⟨gl, cl, rfl, hgl, hltl, hcpl, hcl⟩ := OwnR.at_ entV_len ho1.1 (by simp)
  have l1 : w7.cell? ⟨gl, 3, none⟩ = some (.int .i64 2) := by
    have h1 := hcl 1 0 y1 rfl (by decide)
    rw [show y1.V[0]? = some (.int .i64 y1.ts) from rfl, show y1.ts = 2 from congrArg EntB.ts hy1b] at h1
    exact h1
  clear ho1 hT1 hcl hx1 hx1b hy1b hz1b hgl
  dsimp only [List.length_cons, List.length_nil]
  have fA0w7 : w7.cell? ⟨ga, 0, none⟩ = some (.int .i64 1) := (Kw7.a.cell 0).trans rfl
  have fA1w7 : w7.cell? ⟨ga, 1, none⟩ = some (.slice none 0 0) := (Kw7.a.cell 1).trans rfl
  have fA2w7 : w7.cell? ⟨ga, 2, none⟩ = some (.string ⟨#[97]⟩) := (Kw7.a.cell 2).trans rfl
  have fC0w7 : w7.cell? ⟨gc, 0, none⟩ = some (.int .i64 3) := (Kw7.c.cell 0).trans rfl
  have fC1w7 : w7.cell? ⟨gc, 1, none⟩ = some (.slice none 0 0) := (Kw7.c.cell 1).trans rfl
  have fC2w7 : w7.cell? ⟨gc, 2, none⟩ = some (.string ⟨#[99]⟩) := (Kw7.c.cell 2).trans rfl
  obtain ⟨s20, hs20⟩ : ∃ g, w7.heap.size = g := ⟨_, rfl⟩
  obtain ⟨w8, hw8⟩ : ∃ z, w7.alloc (.cells #[.int .i64 3, .slice none 0 0, .string ⟨#[99]⟩, .int .i64 1, .slice none 0 0, .string ⟨#[97]⟩] 26) = z := ⟨_, rfl⟩
  have bw8 : Below w7.heap.size w7 w8 := by rw [← hw8]; exact (Below.refl _ _).alloc (Nat.le_refl _) _
  have Kw8 := Kw7.below bw8
  have HBw8 := Lib.hid (hop HBw7.out (Nat.le_refl _) bw8)
  have Rs20 := ents_m (w := w7) (w' := w8) [mC, mA] (by intro x hx; simp only [List.mem_cons, List.mem_nil_iff, or_false] at hx; unfold mOk; rcases hx with rfl | rfl <;> simp) s20 hs20 26 hw8
  have fB0w8 : w8.cell? ⟨gb, 0, none⟩ = some (.int .i64 2) := (Kw8.b.cell 0).trans rfl
  have fB1w8 : w8.cell? ⟨gb, 1, none⟩ = some (.slice none 0 0) := (Kw8.b.cell 1).trans rfl
  have fB2w8 : w8.cell? ⟨gb, 2, none⟩ = some (.string ⟨#[98]⟩) := (Kw8.b.cell 2).trans rfl
  obtain ⟨s21, hs21⟩ : ∃ g, w8.heap.size = g := ⟨_, rfl⟩
  obtain ⟨w9, hw9⟩ : ∃ z, w8.alloc (.cells #[.int .i64 2, .slice none 0 0, .string ⟨#[98]⟩] 26) = z := ⟨_, rfl⟩
  have bw9 : Below w8.heap.size w8 w9 := by rw [← hw9]; exact (Below.refl _ _).alloc (Nat.le_refl _) _
  have Kw9 := Kw8.below bw9
  have HBw9 := Lib.hid (hop HBw8.out (Nat.le_refl _) bw9)
  have Rs21 := ents_m (w := w8) (w' := w9) [mB] (by intro x hx; simp only [List.mem_cons, List.mem_nil_iff, or_false] at hx; unfold mOk; subst hx; simp) s21 hs21 26 hw9
  obtain ⟨q2, hq2⟩ : ∃ g, w9.heap.size = g := ⟨_, rfl⟩
  obtain ⟨w10, hw10⟩ : ∃ z, w9.alloc (.cells #[.slice (some ⟨s20, 0, none⟩) 2 2, .slice (some ⟨s21, 0, none⟩) 1 1] 34) = z := ⟨_, rfl⟩
  have bw10 : Below w9.heap.size w9 w10 := by rw [← hw10]; exact (Below.refl _ _).alloc (Nat.le_refl _) _
  have Kw10 := Kw9.below bw10
  have HBw10 := Lib.hid (hop HBw9.out (Nat.le_refl _) bw10)
  have LS2 : ListsP 0 w10 (some ⟨q2, 0, none⟩) 2 ([⟨some ⟨s20, 0, none⟩, 2, 2, [mC, mA]⟩, ⟨some ⟨s21, 0, none⟩, 1, 1, [mB]⟩] : List LsX) := lists_m [⟨some ⟨s20, 0, none⟩, 2, 2, [mC, mA]⟩, ⟨some ⟨s21, 0, none⟩, 1, 1, [mB]⟩] (by
      intro x hx
      simp only [List.mem_cons, List.mem_nil_iff, or_false] at hx
      rcases hx with rfl | rfl
      · exact ⟨(Rs20).below bw9, Nat.le_refl _, by unfold maxLen; dsimp only; omega⟩
      · exact ⟨Rs21, Nat.le_refl _, by unfold maxLen; dsimp only; omega⟩
      ) q2 hq2 34 hw10
  have AL2 := all_any 0 false 2 (some ⟨q2, 0, none⟩) 2 2 [⟨some ⟨s20, 0, none⟩, 2, 2, [mC, mA]⟩, ⟨some ⟨s21, 0, none⟩, 1, 1, [mB]⟩] (by simp [totL]) w10 (Nat.zero_le _) LS2
  rw [show sortedLs false ([⟨some ⟨s20, 0, none⟩, 2, 2, [mC, mA]⟩, ⟨some ⟨s21, 0, none⟩, 1, 1, [mB]⟩] : List LsX) = true from by kernel_rfl] at AL2
  rw [show mergeB false 2 ([⟨some ⟨s20, 0, none⟩, 2, 2, [mC, mA]⟩, ⟨some ⟨s21, 0, none⟩, 1, 1, [mB]⟩] : List LsX) = [mC.b, mB.b] from by kernel_rfl] at AL2
  replace AL2 := Lib.hid AL2
  have HK2 := Lib.hid Kw10
  have Hbw8 := Lib.hid bw8
  have Hbw9 := Lib.hid bw9
  have Hbw10 := Lib.hid bw10
  clear Kw7 Kw8 Kw9 Kw10 LS2 Rs20 Rs21 bw8 bw9 bw10
  go_wp2_with fail
  refine AL2.out.mono ?_
  rintro e w11 ⟨v2, T2, rfl, ho2, hT2, hx2⟩
  have Kw11 := HK2.out.below hx2
  have HBw11 := Lib.hid (hop HBw10.out (Nat.le_refl _) hx2)
  have HCw11 := Lib.hid (hop (hop (hop (Hbw8.out) (Nat.le_refl _) Hbw9.out) (Nat.le_refl _) Hbw10.out) (Nat.le_refl _) hx2)
  have l1_ : w11.cell? ⟨gl, 3, none⟩ = some (.int .i64 2) := (HCw11.out.cell (p := ⟨gl, 3, none⟩) (block_lt_of_cell l1)).trans l1
  clear l1
  have l1 := l1_
  clear l1_
  clear HCw11
  clear hw8 hw9 hw10 hs20 hs21 hq2 AL2 HK2 HBw7 HBw8 HBw9 HBw10 Hbw8 Hbw9 Hbw10
  obtain ⟨x2, y2, rfl, hx2b, hy2b⟩ := map_two hT2
  obtain ⟨gm, cm, rfl, hgm, hltm, hcpm, hcm⟩ := OwnR.at_ entV_len ho2.1 (by simp)
  have m0 : w11.cell? ⟨gm, 0, none⟩ = some (.int .i64 3) := by
    have h1 := hcm 0 0 x2 rfl (by decide)
    rw [show x2.V[0]? = some (.int .i64 x2.ts) from rfl, show x2.ts = 3 from congrArg EntB.ts hx2b] at h1
    exact h1
  have m1 : w11.cell? ⟨gm, 3, none⟩ = some (.int .i64 2) := by
    have h1 := hcm 1 0 y2 rfl (by decide)
    rw [show y2.V[0]? = some (.int .i64 y2.ts) from rfl, show y2.ts = 2 from congrArg EntB.ts hy2b] at h1
    exact h1
  clear ho2 hT2 hcm hx2 hx2b hy2b hgm
  dsimp only [List.length_cons, List.length_nil]
  have fA0w11 : w11.cell? ⟨ga, 0, none⟩ = some (.int .i64 1) := (Kw11.a.cell 0).trans rfl
  have fA1w11 : w11.cell? ⟨ga, 1, none⟩ = some (.slice none 0 0) := (Kw11.a.cell 1).trans rfl
  have fA2w11 : w11.cell? ⟨ga, 2, none⟩ = some (.string ⟨#[97]⟩) := (Kw11.a.cell 2).trans rfl
  have fB0w11 : w11.cell? ⟨gb, 0, none⟩ = some (.int .i64 2) := (Kw11.b.cell 0).trans rfl
  have fB1w11 : w11.cell? ⟨gb, 1, none⟩ = some (.slice none 0 0) := (Kw11.b.cell 1).trans rfl
  have fB2w11 : w11.cell? ⟨gb, 2, none⟩ = some (.string ⟨#[98]⟩) := (Kw11.b.cell 2).trans rfl
  obtain ⟨s30, hs30⟩ : ∃ g, w11.heap.size = g := ⟨_, rfl⟩
  obtain ⟨w12, hw12⟩ : ∃ z, w11.alloc (.cells #[.int .i64 2, .slice none 0 0, .string ⟨#[98]⟩, .int .i64 1, .slice none 0 0, .string ⟨#[97]⟩] 26) = z := ⟨_, rfl⟩
  have bw12 : Below w11.heap.size w11 w12 := by rw [← hw12]; exact (Below.refl _ _).alloc (Nat.le_refl _) _
  have Kw12 := Kw11.below bw12
  have HBw12 := Lib.hid (hop HBw11.out (Nat.le_refl _) bw12)
  have Rs30 := ents_m (w := w11) (w' := w12) [mB, mA] (by intro x hx; simp only [List.mem_cons, List.mem_nil_iff, or_false] at hx; unfold mOk; rcases hx with rfl | rfl <;> simp) s30 hs30 26 hw12
  obtain ⟨q3, hq3⟩ : ∃ g, w12.heap.size = g := ⟨_, rfl⟩
  obtain ⟨w13, hw13⟩ : ∃ z, w12.alloc (.cells #[.slice (some ⟨s30, 0, none⟩) 2 2] 34) = z := ⟨_, rfl⟩
  have bw13 : Below w12.heap.size w12 w13 := by rw [← hw13]; exact (Below.refl _ _).alloc (Nat.le_refl _) _
  have Kw13 := Kw12.below bw13
  have HBw13 := Lib.hid (hop HBw12.out (Nat.le_refl _) bw13)
  have LS3 : ListsP 0 w13 (some ⟨q3, 0, none⟩) 1 ([⟨some ⟨s30, 0, none⟩, 2, 2, [mB, mA]⟩] : List LsX) := lists_m [⟨some ⟨s30, 0, none⟩, 2, 2, [mB, mA]⟩] (by
      intro x hx
      simp only [List.mem_cons, List.mem_nil_iff, or_false] at hx
      subst hx
      · exact ⟨Rs30, Nat.le_refl _, by unfold maxLen; dsimp only; omega⟩
      ) q3 hq3 34 hw13
  have AL3 := all_any 0 true 9 (some ⟨q3, 0, none⟩) 1 1 [⟨some ⟨s30, 0, none⟩, 2, 2, [mB, mA]⟩] (by simp [totL]) w13 (Nat.zero_le _) LS3
  rw [show sortedLs true ([⟨some ⟨s30, 0, none⟩, 2, 2, [mB, mA]⟩] : List LsX) = false from by kernel_rfl] at AL3
  replace AL3 := Lib.hid AL3
  have HK3 := Lib.hid Kw13
  have Hbw12 := Lib.hid bw12
  have Hbw13 := Lib.hid bw13
  clear Kw11 Kw12 Kw13 LS3 Rs30 bw12 bw13
  go_wp2_with fail
  refine AL3.out.mono ?_
  rintro e w14 ⟨v3, T3, rfl, ho3, hT3, hx3⟩
  have Kw14 := HK3.out.below hx3
  have HBw14 := Lib.hid (hop HBw13.out (Nat.le_refl _) hx3)
  have HCw14 := Lib.hid (hop (hop (Hbw12.out) (Nat.le_refl _) Hbw13.out) (Nat.le_refl _) hx3)
  have l1_ : w14.cell? ⟨gl, 3, none⟩ = some (.int .i64 2) := (HCw14.out.cell (p := ⟨gl, 3, none⟩) (block_lt_of_cell l1)).trans l1
  clear l1
  have l1 := l1_
  clear l1_
  have m0_ : w14.cell? ⟨gm, 0, none⟩ = some (.int .i64 3) := (HCw14.out.cell (p := ⟨gm, 0, none⟩) (block_lt_of_cell m0)).trans m0
  clear m0
  have m0 := m0_
  clear m0_
  have m1_ : w14.cell? ⟨gm, 3, none⟩ = some (.int .i64 2) := (HCw14.out.cell (p := ⟨gm, 3, none⟩) (block_lt_of_cell m1)).trans m1
  clear m1
  have m1 := m1_
  clear m1_
  clear HCw14
  clear hw12 hw13 hs30 hq3 AL3 HK3 HBw11 HBw12 HBw13 Hbw12 Hbw13
  clear ho3 hT3 hx3
  have fA0w14 : w14.cell? ⟨ga, 0, none⟩ = some (.int .i64 1) := (Kw14.a.cell 0).trans rfl
  have fA1w14 : w14.cell? ⟨ga, 1, none⟩ = some (.slice none 0 0) := (Kw14.a.cell 1).trans rfl
  have fA2w14 : w14.cell? ⟨ga, 2, none⟩ = some (.string ⟨#[97]⟩) := (Kw14.a.cell 2).trans rfl
  have fB0w14 : w14.cell? ⟨gb, 0, none⟩ = some (.int .i64 2) := (Kw14.b.cell 0).trans rfl
  have fB1w14 : w14.cell? ⟨gb, 1, none⟩ = some (.slice none 0 0) := (Kw14.b.cell 1).trans rfl
  have fB2w14 : w14.cell? ⟨gb, 2, none⟩ = some (.string ⟨#[98]⟩) := (Kw14.b.cell 2).trans rfl
  have fC0w14 : w14.cell? ⟨gc, 0, none⟩ = some (.int .i64 3) := (Kw14.c.cell 0).trans rfl
  have fC1w14 : w14.cell? ⟨gc, 1, none⟩ = some (.slice none 0 0) := (Kw14.c.cell 1).trans rfl
  have fC2w14 : w14.cell? ⟨gc, 2, none⟩ = some (.string ⟨#[99]⟩) := (Kw14.c.cell 2).trans rfl
  obtain ⟨s4, hs4⟩ : ∃ g, w14.heap.size = g := ⟨_, rfl⟩
  obtain ⟨w15, hw15⟩ : ∃ z, w14.alloc (.cells #[.int .i64 1, .slice none 0 0, .string ⟨#[97]⟩, .int .i64 3, .slice none 0 0, .string ⟨#[99]⟩, .int .i64 2, .slice none 0 0, .string ⟨#[98]⟩] 26) = z := ⟨_, rfl⟩
  have bw15 : Below w14.heap.size w14 w15 := by rw [← hw15]; exact (Below.refl _ _).alloc (Nat.le_refl _) _
  have Kw15 := Kw14.below bw15
  have HBw15 := Lib.hid (hop HBw14.out (Nat.le_refl _) bw15)
  have Rs4 := ents_m (w := w14) (w' := w15) [mA, mC, mB] (by intro x hx; simp only [List.mem_cons, List.mem_nil_iff, or_false] at hx; unfold mOk; rcases hx with rfl | rfl | rfl <;> simp) s4 hs4 26 hw15
  have C4 := Lib.hid (show Calls Try.prog 14 #[.bool false, .slice (some ⟨s4, 0, none⟩) 3 3] w15 fun e w' => e = .returned (.tuple #[.agg #[.int .i64 3, .slice none 0 0, .string ⟨#[99]⟩], .bool true]) ∧ Below w15.heap.size w15 w' from first_any 0 false (some ⟨s4, 0, none⟩) 3 3 [mA, mC, mB] ⟨Nat.le_refl _, by unfold maxLen; decide⟩ w15 Rs4)
  have HK4 := Lib.hid Kw15
  have Hbw15 := Lib.hid bw15
  clear Kw14 Kw15 Rs4 bw15
  go_wp2_with fail
  refine C4.out.mono ?_
  rintro e w16 ⟨rfl, hx4⟩
  have Kw16 := HK4.out.below hx4
  have HBw16 := Lib.hid (hop HBw15.out (Nat.le_refl _) hx4)
  have HCw16 := Lib.hid (hop (Hbw15.out) (Nat.le_refl _) hx4)
  have l1_ : w16.cell? ⟨gl, 3, none⟩ = some (.int .i64 2) := (HCw16.out.cell (p := ⟨gl, 3, none⟩) (block_lt_of_cell l1)).trans l1
  clear l1
  have l1 := l1_
  clear l1_
  have m0_ : w16.cell? ⟨gm, 0, none⟩ = some (.int .i64 3) := (HCw16.out.cell (p := ⟨gm, 0, none⟩) (block_lt_of_cell m0)).trans m0
  clear m0
  have m0 := m0_
  clear m0_
  have m1_ : w16.cell? ⟨gm, 3, none⟩ = some (.int .i64 2) := (HCw16.out.cell (p := ⟨gm, 3, none⟩) (block_lt_of_cell m1)).trans m1
  clear m1
  have m1 := m1_
  clear m1_
  clear HCw16
  clear hw15 hs4 C4 HK4 HBw14 HBw15 Hbw15 hx4
  obtain ⟨gf, hgf⟩ : ∃ g, w16.heap.size = g := ⟨_, rfl⟩
  obtain ⟨w17, hw17⟩ : ∃ z, w16.alloc (.cells #[.int .i64 3, .slice none 0 0, .string ⟨#[99]⟩] 26) = z := ⟨_, rfl⟩
  have bw17 : Below w16.heap.size w16 w17 := by rw [← hw17]; exact (Below.refl _ _).alloc (Nat.le_refl _) _
  have Kw17 := Kw16.below bw17
  have HBw17 := Lib.hid (hop HBw16.out (Nat.le_refl _) bw17)
  have HCw17 := Lib.hid (bw17)
  have l1_ : w17.cell? ⟨gl, 3, none⟩ = some (.int .i64 2) := (HCw17.out.cell (p := ⟨gl, 3, none⟩) (block_lt_of_cell l1)).trans l1
  clear l1
  have l1 := l1_
  clear l1_
  have m0_ : w17.cell? ⟨gm, 0, none⟩ = some (.int .i64 3) := (HCw17.out.cell (p := ⟨gm, 0, none⟩) (block_lt_of_cell m0)).trans m0
  clear m0
  have m0 := m0_
  clear m0_
  have m1_ : w17.cell? ⟨gm, 3, none⟩ = some (.int .i64 2) := (HCw17.out.cell (p := ⟨gm, 3, none⟩) (block_lt_of_cell m1)).trans m1
  clear m1
  have m1 := m1_
  clear m1_
  clear HCw17
  have ff : w17.cell? ⟨gf, 0, none⟩ = some (.int .i64 3) := by rw [← hw17, ← hgf]; exact ((Blk.new _ _ _ : Blk _ _ 26 #[.int .i64 3, .slice none 0 0, .string ⟨#[99]⟩]).cell 0).trans rfl
  have C5 := Lib.hid (show Calls Try.prog 14 #[.bool true, .slice none 0 0] w17 fun e w' => e = .returned (.tuple #[.agg #[.int .i64 0, .slice none 0 0, .string ⟨#[]⟩], .bool false]) ∧ Below w17.heap.size w17 w' from first_any 0 true none 0 0 [] ⟨Nat.le_refl _, by unfold maxLen; decide⟩ w17 (Ents.none _ _))
  have HK5 := Lib.hid Kw17
  clear Kw16 Kw17 bw17 HBw16
  go_wp2_with fail
  clear hw17 hgf
  refine C5.out.mono ?_
  rintro e w18 ⟨rfl, hx5⟩
  have Kw18 := HK5.out.below hx5
  have HBw18 := Lib.hid (hop HBw17.out (Nat.le_refl _) hx5)
  have HCw18 := Lib.hid (hx5)
  have l1_ : w18.cell? ⟨gl, 3, none⟩ = some (.int .i64 2) := (HCw18.out.cell (p := ⟨gl, 3, none⟩) (block_lt_of_cell l1)).trans l1
  clear l1
  have l1 := l1_
  clear l1_
  have m0_ : w18.cell? ⟨gm, 0, none⟩ = some (.int .i64 3) := (HCw18.out.cell (p := ⟨gm, 0, none⟩) (block_lt_of_cell m0)).trans m0
  clear m0
  have m0 := m0_
  clear m0_
  have m1_ : w18.cell? ⟨gm, 3, none⟩ = some (.int .i64 2) := (HCw18.out.cell (p := ⟨gm, 3, none⟩) (block_lt_of_cell m1)).trans m1
  clear m1
  have m1 := m1_
  clear m1_
  have ff_ : w18.cell? ⟨gf, 0, none⟩ = some (.int .i64 3) := (HCw18.out.cell (p := ⟨gf, 0, none⟩) (block_lt_of_cell ff)).trans ff
  clear ff
  have ff := ff_
  clear ff_
  clear HCw18
  clear C5 HK5 HBw17 hx5
  go_upto_region 9 with (fail)
  obtain ⟨gn, hgn⟩ : ∃ g, w18.heap.size = g := ⟨_, rfl⟩
  obtain ⟨w19, hw19⟩ : ∃ z, w18.alloc (.cells #[.int .i64 0, .slice none 0 0, .string ⟨#[]⟩] 26) = z := ⟨_, rfl⟩
  have bw19 : Below w18.heap.size w18 w19 := by rw [← hw19]; exact (Below.refl _ _).alloc (Nat.le_refl _) _
  rw [hw19, hgn]
  clear hgn
  have Kw19 := Kw18.below bw19
  have HBw19 := Lib.hid (hop HBw18.out (Nat.le_refl _) bw19)
  have HCw19 := Lib.hid (bw19)
  have l1_ : w19.cell? ⟨gl, 3, none⟩ = some (.int .i64 2) := (HCw19.out.cell (p := ⟨gl, 3, none⟩) (block_lt_of_cell l1)).trans l1
  clear l1
  have l1 := l1_
  clear l1_
  have m0_ : w19.cell? ⟨gm, 0, none⟩ = some (.int .i64 3) := (HCw19.out.cell (p := ⟨gm, 0, none⟩) (block_lt_of_cell m0)).trans m0
  clear m0
  have m0 := m0_
  clear m0_
  have m1_ : w19.cell? ⟨gm, 3, none⟩ = some (.int .i64 2) := (HCw19.out.cell (p := ⟨gm, 3, none⟩) (block_lt_of_cell m1)).trans m1
  clear m1
  have m1 := m1_
  clear m1_
  have ff_ : w19.cell? ⟨gf, 0, none⟩ = some (.int .i64 3) := (HCw19.out.cell (p := ⟨gf, 0, none⟩) (block_lt_of_cell ff)).trans ff
  clear ff
  have ff := ff_
  clear ff_
  clear HCw19
  clear Kw18 bw19 HBw18 hw19
  have fB0w19 : w19.cell? ⟨gb, 0, none⟩ = some (.int .i64 2) := (Kw19.b.cell 0).trans rfl
  have fB1w19 : w19.cell? ⟨gb, 1, none⟩ = some (.slice none 0 0) := (Kw19.b.cell 1).trans rfl
  have fB2w19 : w19.cell? ⟨gb, 2, none⟩ = some (.string ⟨#[98]⟩) := (Kw19.b.cell 2).trans rfl
  have fA0w19 : w19.cell? ⟨ga, 0, none⟩ = some (.int .i64 1) := (Kw19.a.cell 0).trans rfl
  have fA1w19 : w19.cell? ⟨ga, 1, none⟩ = some (.slice none 0 0) := (Kw19.a.cell 1).trans rfl
  have fA2w19 : w19.cell? ⟨ga, 2, none⟩ = some (.string ⟨#[97]⟩) := (Kw19.a.cell 2).trans rfl
  have fB0w19 : w19.cell? ⟨gb, 0, none⟩ = some (.int .i64 2) := (Kw19.b.cell 0).trans rfl
  have fB1w19 : w19.cell? ⟨gb, 1, none⟩ = some (.slice none 0 0) := (Kw19.b.cell 1).trans rfl
  have fB2w19 : w19.cell? ⟨gb, 2, none⟩ = some (.string ⟨#[98]⟩) := (Kw19.b.cell 2).trans rfl
  have fC0w19 : w19.cell? ⟨gc, 0, none⟩ = some (.int .i64 3) := (Kw19.c.cell 0).trans rfl
  have fC1w19 : w19.cell? ⟨gc, 1, none⟩ = some (.slice none 0 0) := (Kw19.c.cell 1).trans rfl
  have fC2w19 : w19.cell? ⟨gc, 2, none⟩ = some (.string ⟨#[99]⟩) := (Kw19.c.cell 2).trans rfl
  obtain ⟨s6, hs6⟩ : ∃ g, w19.heap.size = g := ⟨_, rfl⟩
  obtain ⟨w20, hw20⟩ : ∃ z, w19.alloc (.cells #[.int .i64 1, .slice none 0 0, .string ⟨#[97]⟩, .int .i64 2, .slice none 0 0, .string ⟨#[98]⟩, .int .i64 3, .slice none 0 0, .string ⟨#[99]⟩] 26) = z := ⟨_, rfl⟩
  have bw20 : Below w19.heap.size w19 w20 := by rw [← hw20]; exact (Below.refl _ _).alloc (Nat.le_refl _) _
  have Kw20 := Kw19.below bw20
  have HBw20 := Lib.hid (hop HBw19.out (Nat.le_refl _) bw20)
  have Rs6 := ents_m (w := w19) (w' := w20) [mA, mB, mC] (by intro x hx; simp only [List.mem_cons, List.mem_nil_iff, or_false] at hx; unfold mOk; rcases hx with rfl | rfl | rfl <;> simp) s6 hs6 26 hw20
  have C6 := Lib.hid (show Calls Try.prog 19 #[.bool true, .agg #[.int .i64 2, .slice none 0 0, .string ⟨#[98]⟩], .slice (some ⟨s6, 0, none⟩) 3 3] w20 fun e w' => ∃ v, e = .returned v ∧ OwnE 0 w' w20.heap.size v [mA, mB] ∧ Below w20.heap.size w20 w' from upto_any 0 true mB (some ⟨s6, 0, none⟩) 3 3 [mA, mB, mC] (by decide) w20 (Nat.zero_le _) (good_m (.inr (.inl rfl))) Rs6)
  have HK6 := Lib.hid Kw20
  have Hbw20 := Lib.hid bw20
  clear Kw19 Kw20 Rs6 bw20
  go_wp2_with fail
  refine C6.out.mono ?_
  rintro e w21 ⟨v6, rfl, ho6, hx6⟩
  obtain ⟨A6, c6, rfl, _, _, _⟩ := OwnR.open entV_len ho6.1
  have HCw21 := Lib.hid (hop (Hbw20.out) (Nat.le_refl _) hx6)
  have l1_ : w21.cell? ⟨gl, 3, none⟩ = some (.int .i64 2) := (HCw21.out.cell (p := ⟨gl, 3, none⟩) (block_lt_of_cell l1)).trans l1
  clear l1
  have l1 := l1_
  clear l1_
  have m0_ : w21.cell? ⟨gm, 0, none⟩ = some (.int .i64 3) := (HCw21.out.cell (p := ⟨gm, 0, none⟩) (block_lt_of_cell m0)).trans m0
  clear m0
  have m0 := m0_
  clear m0_
  have m1_ : w21.cell? ⟨gm, 3, none⟩ = some (.int .i64 2) := (HCw21.out.cell (p := ⟨gm, 3, none⟩) (block_lt_of_cell m1)).trans m1
  clear m1
  have m1 := m1_
  clear m1_
  have ff_ : w21.cell? ⟨gf, 0, none⟩ = some (.int .i64 3) := (HCw21.out.cell (p := ⟨gf, 0, none⟩) (block_lt_of_cell ff)).trans ff
  clear ff
  have ff := ff_
  clear ff_
  clear HCw21
  have HBF := Lib.hid (hop HBw20.out (Nat.le_refl _) hx6)
  clear hw20 hs6 C6 HK6 HBw19 HBw20 Hbw20 hx6 ho6
  dsimp only [List.length_cons, List.length_nil]
  go_wp2
  go_ret
  exact ⟨by first | rfl | (simp; done), HBF.out⟩
end Go.Proofs.Ytilcanblgdmecaa
