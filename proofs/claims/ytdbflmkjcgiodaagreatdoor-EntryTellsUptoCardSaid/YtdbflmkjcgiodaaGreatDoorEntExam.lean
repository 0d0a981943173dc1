/- Entries that a call holds in blocks of its own; the order of three, by one step.
   The chapter's examples of entries are so. -/
import Derived.Test.YtdbflmkjcgiodaaGreatDoorItems
import Derived.Test.YtdbflmkjcgiodaaGreatDoorEntParse
import Derived.Test.YtdbflmkjcgiodaaGreatDoorEntPut
namespace Go.Proofs.YtdbflmkjcgiodaaGreatDoor
open Go.RowKit
set_option linter.unusedVariables false
set_option linter.unusedSimpArgs false

def EntX.arr (x : EntX) : Array Value := #[.int .i64 x.ts, .slice x.A x.n x.c, .string x.ln]
structure Held (W w : World) (l : List (Nat × EntX)) : Prop where
  below : Below W.heap.size W w
  blk : ∀ p ∈ l, Blk w p.1 25 p.2.arr ∧ Good W.heap.size w p.2
section
variable {W w w' : World} {l : List (Nat × EntX)}
theorem Held.nil (h : Below W.heap.size W w) : Held W w [] := ⟨h, fun p hp => by cases hp⟩
theorem Held.next (h : Held W w l) (hx : Below w.heap.size w w') : Held W w' l :=
  ⟨hop h.below (Nat.le_refl _) hx, fun p hp => ⟨(h.blk p hp).1.below hx (h.blk p hp).1.lt, (h.blk p hp).2.below hx⟩⟩
theorem Held.alloc (h : Held W w l) (o : Obj) : Held W (w.alloc o) l := h.next ((Below.refl _ _).alloc (Nat.le_refl _) o)
theorem Held.drewN (h : Held W w l) (q : Nat) : Held W (w.drewN q) l := h.next (below_drewN (Below.refl _ _) q)
theorem Held.push (h : Held W w l) {x : EntX} {g : Nat} (hg : w.heap.size = g) (hx : Good W.heap.size w x) : Held W (w.alloc (.cells x.arr 25)) ((g, x) :: l) :=
  ⟨(h.alloc _).below, fun p hp => by
    rcases List.mem_cons.1 hp with rfl | hp
    · exact ⟨by rw [← hg]; exact Blk.new w _ _, hx.below ((Below.refl _ _).alloc (Nat.le_refl _) _)⟩
    · exact (h.alloc _).blk p hp⟩
theorem Held.cells (h : Held W w l) {g : Nat} {x : EntX} (hm : (g, x) ∈ l) : w.cell? ⟨g, 0, none⟩ = some (.int .i64 x.ts) ∧ w.cell? ⟨g, 1, none⟩ = some (.slice x.A x.n x.c) ∧ w.cell? ⟨g, 2, none⟩ = some (.string x.ln) := by
  obtain ⟨hb, _⟩ := h.blk _ hm
  exact ⟨(hb.cell 0).trans rfl, (hb.cell 1).trans rfl, (hb.cell 2).trans rfl⟩
theorem Held.good (h : Held W w l) {g : Nat} {x : EntX} (hm : (g, x) ∈ l) : Good W.heap.size w x := (h.blk _ hm).2
end
theorem ord_good (a b : EntX) {B1 B2 : Nat} (w : World) (ha : Good B1 w a) (hb : Good B2 w b) :
    Calls Tryz.prog 15 #[.agg #[.int .i64 a.ts, .slice a.A a.n a.c, .string a.ln], .agg #[.int .i64 b.ts, .slice b.A b.n b.c, .string b.ln]] w fun e w' => e = .returned (.int .i64 (entC a.b b.b)) ∧ Below w.heap.size w w' :=
  entOrder_any a.ts b.ts a.A b.A a.n b.n a.c b.c a.ls b.ls a.ln b.ln ha.len hb.len w ha.set.1 hb.set.1
theorem same_good (a b : EntX) {B1 B2 : Nat} (w : World) (ha : Good B1 w a) (hb : Good B2 w b) :
    Calls Tryz.prog 17 #[.agg #[.int .i64 a.ts, .slice a.A a.n a.c, .string a.ln], .agg #[.int .i64 b.ts, .slice b.A b.n b.c, .string b.ln]] w fun e w' => e = .returned (.bool (sameE a.b b.b)) ∧ Below w.heap.size w w' :=
  entSame_any a.ts b.ts a.A b.A a.n b.n a.c b.c a.ls b.ls a.ln b.ln ha.len hb.len w ha.set.1 hb.set.1
theorem ahead_good (a b : EntX) (asc : Bool) {B1 B2 : Nat} (w : World) (ha : Good B1 w a) (hb : Good B2 w b) :
    Calls Tryz.prog 18 #[.agg #[.int .i64 a.ts, .slice a.A a.n a.c, .string a.ln], .agg #[.int .i64 b.ts, .slice b.A b.n b.c, .string b.ln], .bool asc] w fun e w' => e = .returned (.bool (aheadB a.b b.b asc)) ∧ Below w.heap.size w w' :=
  entAhead_any a.ts b.ts a.A b.A a.n b.n a.c b.c a.ls b.ls a.ln b.ln asc ha.len hb.len w ha.set.1 hb.set.1
theorem right_good_ent (a : EntX) {B1 : Nat} (w : World) (ha : Good B1 w a) :
    Calls Tryz.prog 13 #[.agg #[.int .i64 a.ts, .slice a.A a.n a.c, .string a.ln]] w fun e w' => e = .returned (.bool (rightE a.b)) ∧ Below w.heap.size w w' :=
  entRight_any a.ts a.A a.n a.c a.ls a.ln ha.len w ha.set.1

/-- what the order says of two, by one step: less, the same, more -/
theorem ord_two (a b : EntB) : ∃ o r : Int, ∃ s p q : Bool, entC a b = o ∧ entC b a = r ∧ sameE a b = s ∧ aheadB a b true = p ∧ aheadB a b false = q ∧
    ((o = 1 ∧ r = -1 ∧ s = false ∧ p = false ∧ q = true ∧ ¬ a.ts < b.ts) ∨ (o = 0 ∧ r = 0 ∧ s = true ∧ p = false ∧ q = false ∧ a.ts = b.ts) ∨ (o = -1 ∧ r = 1 ∧ s = false ∧ p = true ∧ q = false ∧ ¬ b.ts < a.ts)) := by
  refine ⟨_, _, _, _, _, rfl, rfl, rfl, rfl, rfl, ?_⟩
  have h1 := entC_ord.anti a b
  have h2 := entC_vals a b
  have h3 : ∀ x y : EntB, 0 ≤ entC x y → ¬ x.ts < y.ts := fun x y h hlt => by
    have h4 : cmpZ x.ts y.ts = -1 := by unfold cmpZ; rw [if_pos hlt]
    unfold entC at h
    rw [h4, if_neg (by decide)] at h
    omega
  unfold aheadB
  rw [if_pos rfl, if_neg (by decide), sameE_ord]
  rcases h2 with h2 | h2 | h2
  · refine .inr (.inr ⟨h2, by omega, decide_eq_false (by omega), decide_eq_true (by omega), decide_eq_false (by omega), h3 b a (by omega)⟩)
  · have h5 := entC_zero.1 h2
    refine .inr (.inl ⟨h2, by omega, decide_eq_true h2, decide_eq_false (by omega), decide_eq_false (by omega), by rw [h5]⟩)
  · exact .inl ⟨h2, by omega, decide_eq_false (by omega), decide_eq_false (by omega), decide_eq_true (by omega), h3 a b (by omega)⟩
theorem ord_three (a b c : EntB) : ∃ s t : Int, entC b c = s ∧ entC a c = t ∧ ((s ≤ 0 ∧ decide (0 < s) = false ∧ (entC a b ≤ 0 → t ≤ 0)) ∨ decide (s ≤ 0) = false) := by
  refine ⟨_, _, rfl, rfl, ?_⟩
  by_cases h : entC b c ≤ 0
  · exact .inl ⟨h, decide_eq_false (by omega), fun h2 => entC_ord.trans _ _ _ h2 h⟩
  · exact .inr (decide_eq_false h)
end Go.Proofs.YtdbflmkjcgiodaaGreatDoor
namespace Go.Proofs.YtdbflmkjcgiodaaGreatDoor
open Go.RowKit
set_option linter.unusedVariables false
set_option linter.unusedSimpArgs false

def exA : EntB := ⟨-5, [(⟨#[97]⟩, ⟨#[49]⟩)], ⟨#[120]⟩⟩
def exB : EntB := ⟨-5, [(⟨#[97]⟩, ⟨#[49]⟩)], ⟨#[121]⟩⟩
def tx12 : ByteArray := ⟨#[45, 53, 123, 97, 61, 34, 49, 34, 125, 34, 120, 34]⟩
theorem ex_put : entT exA = tx12 := by decide +kernel
theorem ex_right : rightE exA = true := by decide +kernel
theorem ex_size : (entL exA).length = 12 := by rw [← entT_size, ex_put]; rfl
theorem ex_parse : entP (tx12 ++ (⟨#[122]⟩ : ByteArray)) = some (exA, 12) := by
  rw [entP_text _ exA [122] (by decide) (by decide) ex_right (by rw [text_joined, ← ex_put, entT_list]), ex_size]
theorem ex_bad : entP ⟨#[53, 123, 125]⟩ = none := by
  have e : (⟨#[53, 123, 125]⟩ : ByteArray).data.toList = (entL ⟨5, [], .empty⟩).take 3 := by decide +kernel
  exact entP_short _ ⟨5, [], .empty⟩ 3 (by decide) (by decide) (by decide +kernel) (by decide +kernel) e
theorem ex_order : entC exA exB = -1 := by decide +kernel
theorem ex_ahead1 : aheadB exA exB true = true := by decide +kernel
theorem ex_ahead2 : aheadB exB exA false = true := by decide +kernel
theorem ex_same : sameE exA exA = true := by decide +kernel
theorem ex_sorted (a b : EntX) (ha : a.b = exA) (hb : b.b = exB) : sortedE true [a, a, b] = true ∧ sortedE false [a, b] = false := by
  simp only [sortedE, sortedGo, ha, hb]
  exact ⟨by decide +kernel, by decide +kernel⟩
theorem ents_lit (w : World) (l : List EntX) (B : Nat) (T : TypeId) (h : ∀ x ∈ l, Good B w x) (g : Nat) (hg : w.heap.size = g) : Ents B (w.alloc (.cells (rowV EntX.V l).toArray T)) (some ⟨g, 0, none⟩) l.length l := by
  refine ⟨⟨rfl, fun hn => ⟨g, 0, rfl, by simp [← hg], fun j i a hj hi => ?_⟩⟩, fun x hx => (h x hx).below ((Below.refl _ _).alloc (Nat.le_refl _) _)⟩
  have hb := Blk.new w T (rowV EntX.V l).toArray
  rw [hg] at hb
  rw [show 0 + j * 3 + i = j * 3 + i by omega, hb.cell, List.getElem?_toArray, rowV_at entV_len l j i a hj hi]
theorem entX_b (x : EntX) (e : EntB) (h : x.b = e) : x.ts = e.ts ∧ x.ls = e.ls ∧ x.ln = e.ln := by rw [← h]; exact ⟨rfl, rfl, rfl⟩

theorem set_lit (w : World) (ps : List PairB) (B g : Nat) (hg : w.heap.size = g) : SetAt B (w.alloc (.cells (pVs ps).toArray 66)) (some ⟨g, 0, none⟩) ps.length ps :=
  ⟨pairs_lit w ps g hg.symm, fun _ a ha => .inr ⟨(pVs ps).toArray, by
    obtain rfl : a = ⟨g, 0, none⟩ := (Option.some.inj ha).symm
    subst hg
    exact Blk.new w _ _⟩⟩
theorem put_exA (g : Nat) (w : World) (h : Pairs w (some ⟨g, 0, none⟩) 1 [(⟨#[97]⟩, ⟨#[49]⟩)]) (hl : LibIs w) :
    Calls Tryz.prog 21 #[.agg #[.int .i64 (-5), .slice (some ⟨g, 0, none⟩) 1 1, .string ⟨#[120]⟩]] w fun e w' => e = .returned (.string tx12) ∧ Below w.heap.size w w' := by
  rw [← ex_put]
  exact entPut_any (-5) (some ⟨g, 0, none⟩) 1 1 [(⟨#[97]⟩, ⟨#[49]⟩)] ⟨#[120]⟩ (by decide) (by decide +kernel) (by decide) (by decide) (by decide) (by decide) w h hl
theorem parse_exA (w : World) (hl : LibIs w) : Calls Tryz.prog 27 #[.string (tx12 ++ (⟨#[122]⟩ : ByteArray))] w fun e w' => ∃ x : EntX, e = .returned (.tuple #[.agg #[.int .i64 x.ts, .slice x.A x.n x.c, .string x.ln], .int .i64 12, .bool true]) ∧ x.b = exA ∧ Good 0 w' x ∧ Below w.heap.size w w' := by
  refine (entParse_any _ (by decide) w hl).mono ?_
  rintro e w' ⟨x, rfl, hx, gx, hb⟩
  exact ⟨x, by rw [ex_parse]; rfl, by rw [hx, ex_parse]; rfl, gx, hb⟩
theorem parse_exB (w : World) (hl : LibIs w) : Calls Tryz.prog 27 #[.string ⟨#[53, 123, 125]⟩] w fun e w' => ∃ x : EntX, e = .returned (.tuple #[.agg #[.int .i64 x.ts, .slice x.A x.n x.c, .string x.ln], .int .i64 0, .bool false]) ∧ Below w.heap.size w w' := by
  refine (entParse_any _ (by decide) w hl).mono ?_
  rintro e w' ⟨x, rfl, hx, gx, hb⟩
  exact ⟨x, by rw [ex_bad]; rfl, hb⟩

set_option maxRecDepth 100000 in
set_option maxHeartbeats 1600000 in
theorem entExamples_any (W : World) (hl : LibIs W) : Calls Tryz.prog 9 #[] W fun e w' => e = .returned (.bool true) ∧ Below W.heap.size W w' := by
  have h0 : W.heap.size ≤ W.heap.size := Nat.le_refl _
  have HL := Lib.hid hl
  obtain ⟨s, hs⟩ : ∃ s, tx12 = s := ⟨_, rfl⟩
  have C1 := fun g w h hl => put_exA g w h hl
  have C2 := fun w h => parse_exA w h
  rw [hs] at C1 C2
  have HC1 := Lib.hid C1
  have HC2 := Lib.hid C2
  have HC3 := Lib.hid (fun w h => parse_exB w h)
  have hz : s.size = 12 := by rw [← hs]; rfl
  have g1 : s.size + (⟨#[122]⟩ : ByteArray).size ≤ 100 := by rw [hz]; decide
  have g2 : ¬ 9223372036854775807 < s.size + (⟨#[122]⟩ : ByteArray).size := by omega
  have hq : s.toList = [45, 53, 123, 97, 61, 34, 49, 34, 125, 34, 120, 34] := by rw [← hs]; decide +kernel
  clear hl hs hz C1 C2
  go_enter Tryz.func9, Tryz.ntmps9
  go_wp2_with fail
  obtain ⟨a, ha⟩ : ∃ a : EntX, a = ⟨-5, some ⟨W.heap.size, 0, none⟩, 1, 1, [(⟨#[97]⟩, ⟨#[49]⟩)], ⟨#[120]⟩⟩ := ⟨_, rfl⟩
  obtain ⟨b, hb⟩ : ∃ b : EntX, b = ⟨-5, some ⟨W.heap.size + 1 + 1, 0, none⟩, 1, 1, [(⟨#[97]⟩, ⟨#[49]⟩)], ⟨#[121]⟩⟩ := ⟨_, rfl⟩
  have hab : a.b = exA := by rw [ha]; rfl
  have hbb : b.b = exB := by rw [hb]; rfl
  have H1 : Held W (W.alloc (.cells #[.string ⟨#[97]⟩, .string ⟨#[49]⟩] 66)) [] := (Held.nil (Below.refl _ _)).alloc _
  have GA : Good W.heap.size (W.alloc (.cells #[.string ⟨#[97]⟩, .string ⟨#[49]⟩] 66)) a := by
    rw [ha]
    exact ⟨set_lit W [(⟨#[97]⟩, ⟨#[49]⟩)] _ _ rfl, by show 1 ≤ _; decide, by show _ ≤ (-5 : Int); decide, by show (-5 : Int) ≤ _; decide⟩
  have H2 := (H1.push (g := W.heap.size + 1) (by simp) GA).alloc (.cells #[.string ⟨#[97]⟩, .string ⟨#[49]⟩] 66)
  have GB : Good W.heap.size (((W.alloc (.cells #[.string ⟨#[97]⟩, .string ⟨#[49]⟩] 66)).alloc (.cells a.arr 25)).alloc (.cells #[.string ⟨#[97]⟩, .string ⟨#[49]⟩] 66)) b := by
    rw [hb]
    exact ⟨set_lit _ [(⟨#[97]⟩, ⟨#[49]⟩)] _ _ (by simp), by show 1 ≤ _; decide, by show _ ≤ (-5 : Int); decide, by show (-5 : Int) ≤ _; decide⟩
  have H := H2.push (g := W.heap.size + 1 + 1 + 1) (by simp) GB
  obtain ⟨w4, hw4⟩ : ∃ w, ((((W.alloc (.cells #[.string ⟨#[97]⟩, .string ⟨#[49]⟩] 66)).alloc (.cells #[.int .i64 (-5), .slice (some ⟨W.heap.size, 0, none⟩) 1 1, .string ⟨#[120]⟩] 25)).alloc (.cells #[.string ⟨#[97]⟩, .string ⟨#[49]⟩] 66)).alloc (.cells #[.int .i64 (-5), .slice (some ⟨W.heap.size + 1 + 1, 0, none⟩) 1 1, .string ⟨#[121]⟩] 25)) = w := ⟨_, rfl⟩
  have hw5 : (((W.alloc (.cells #[.string ⟨#[97]⟩, .string ⟨#[49]⟩] 66)).alloc (.cells a.arr 25)).alloc (.cells #[.string ⟨#[97]⟩, .string ⟨#[49]⟩] 66)).alloc (.cells b.arr 25) = w4 := by rw [← hw4, ha, hb]; rfl
  rw [hw5] at H
  have HP : Pairs w4 (some ⟨W.heap.size, 0, none⟩) 1 [(⟨#[97]⟩, ⟨#[49]⟩)] := by
    have h := (H.good (g := W.heap.size + 1) (x := a) (.tail _ (.head _))).set.1
    rw [ha] at h
    exact h
  have C1 := Lib.hid (HC1.out W.heap.size w4 HP (HL.out.below H.below))
  obtain ⟨gb, hgb⟩ : ∃ g, W.heap.size + 1 + 1 + 1 = g := ⟨_, rfl⟩
  obtain ⟨ga, hga⟩ : ∃ g, W.heap.size + 1 = g := ⟨_, rfl⟩
  rw [hgb, hga] at H
  rw [hw4, hgb, hga]
  have HH := Lib.hid H
  have HAB := Lib.hid hab
  have HBB := Lib.hid hbb
  clear H1 GA H2 GB hw4 hw5 HP hgb hga ha hb hab hbb HC1 H
  refine C1.out.mono ?_
  rintro e w5 ⟨rfl, hx⟩
  have HH5 := Lib.hid (HH.out.next hx)
  clear hx HH C1
  go_wp2_with fail
  refine (HC2.out _ (HL.out.below HH5.out.below)).mono ?_
  rintro e w6 ⟨c, rfl, hc, gc, hx⟩
  have H6 := (HH5.out.next hx).push (x := c) (g := w6.heap.size) rfl (gc.mono (Nat.zero_le _))
  change Held W (w6.alloc (.cells #[.int .i64 c.ts, .slice c.A c.n c.c, .string c.ln] 25)) _ at H6
  have HH6 := Lib.hid H6
  have HCB := Lib.hid hc
  clear hx HH5 HC2 hc gc H6
  go_wp2_with fail
  obtain ⟨w7, hw7⟩ : ∃ w, w6.alloc (.cells #[.int .i64 c.ts, .slice c.A c.n c.c, .string c.ln] 25) = w := ⟨_, rfl⟩
  obtain ⟨gc, hgc⟩ : ∃ g, w6.heap.size = g := ⟨_, rfl⟩
  replace HH6 := HH6.out
  rw [hw7, hgc] at HH6
  rw [hw7, hgc]
  replace HH6 := Lib.hid HH6
  clear hw7 hgc
  refine (HC3.out _ (HL.out.below HH6.out.below)).mono ?_
  rintro e w8 ⟨d, rfl, hx⟩
  have H := (HH6.out.next hx).alloc (.cells #[.int .i64 d.ts, .slice d.A d.n d.c, .string d.ln] 25)
  obtain ⟨ka0, ka1, ka2⟩ := H.cells (.tail _ (.tail _ (.head _)))
  obtain ⟨kb0, kb1, kb2⟩ := H.cells (.tail _ (.head _))
  obtain ⟨kc0, kc1, kc2⟩ := H.cells (.head _)
  have HH := Lib.hid H
  clear hx HH6 HC3 H
  go_wp2_with fail
  obtain ⟨w9, hw9⟩ : ∃ w, w8.alloc (.cells #[.int .i64 d.ts, .slice d.A d.n d.c, .string d.ln] 25) = w := ⟨_, rfl⟩
  replace HH := HH.out
  rw [hw9] at HH ka0 ka1 ka2 kb0 kb1 kb2 kc0 kc1 kc2
  rw [hw9]
  replace HH := Lib.hid HH
  clear hw9
  have K := same_good a c w9 (HH.out.good (.tail _ (.tail _ (.head _)))) (HH.out.good (.head _))
  rw [HAB.out, HCB.out, ex_same] at K
  replace K := Lib.hid K
  refine K.out.mono ?_
  clear K
  rintro e w10 ⟨rfl, hx⟩
  have H := HH.out.next hx
  clear hx HH ka0 ka1 ka2 kb0 kb1 kb2 kc0 kc1 kc2
  obtain ⟨ka0, ka1, ka2⟩ := H.cells (.tail _ (.tail _ (.head _)))
  obtain ⟨kb0, kb1, kb2⟩ := H.cells (.tail _ (.head _))
  obtain ⟨kc0, kc1, kc2⟩ := H.cells (.head _)
  have HH := Lib.hid H
  clear H
  have K := ord_good a b w10 (HH.out.good (.tail _ (.tail _ (.head _)))) (HH.out.good (.tail _ (.head _)))
  rw [HAB.out, HBB.out, ex_order] at K
  replace K := Lib.hid K
  go_wp2_with fail
  refine K.out.mono ?_
  clear K
  rintro e w11 ⟨rfl, hx⟩
  have H := HH.out.next hx
  clear hx HH ka0 ka1 ka2 kb0 kb1 kb2 kc0 kc1 kc2
  obtain ⟨ka0, ka1, ka2⟩ := H.cells (.tail _ (.tail _ (.head _)))
  obtain ⟨kb0, kb1, kb2⟩ := H.cells (.tail _ (.head _))
  obtain ⟨kc0, kc1, kc2⟩ := H.cells (.head _)
  have HH := Lib.hid H
  clear H
  have K := ahead_good a b true w11 (HH.out.good (.tail _ (.tail _ (.head _)))) (HH.out.good (.tail _ (.head _)))
  rw [HAB.out, HBB.out, ex_ahead1] at K
  replace K := Lib.hid K
  go_wp2_with fail
  refine K.out.mono ?_
  clear K
  rintro e w12 ⟨rfl, hx⟩
  have H := HH.out.next hx
  clear hx HH ka0 ka1 ka2 kb0 kb1 kb2 kc0 kc1 kc2
  obtain ⟨ka0, ka1, ka2⟩ := H.cells (.tail _ (.tail _ (.head _)))
  obtain ⟨kb0, kb1, kb2⟩ := H.cells (.tail _ (.head _))
  obtain ⟨kc0, kc1, kc2⟩ := H.cells (.head _)
  have HH := Lib.hid H
  clear H
  have K := ahead_good b a false w12 (HH.out.good (.tail _ (.head _))) (HH.out.good (.tail _ (.tail _ (.head _))))
  rw [HAB.out, HBB.out, ex_ahead2] at K
  replace K := Lib.hid K
  go_wp2_with fail
  refine K.out.mono ?_
  clear K
  rintro e w13 ⟨rfl, hx⟩
  have H := HH.out.next hx
  clear hx HH ka0 ka1 ka2 kb0 kb1 kb2 kc0 kc1 kc2
  obtain ⟨ka0, ka1, ka2⟩ := H.cells (.tail _ (.tail _ (.head _)))
  obtain ⟨kb0, kb1, kb2⟩ := H.cells (.tail _ (.head _))
  obtain ⟨kc0, kc1, kc2⟩ := H.cells (.head _)
  have HH := Lib.hid H
  clear H
  have hal : a.ln = ⟨#[120]⟩ := (entX_b a exA HAB.out).2.2
  have KC := entCost_any a.ts a.A a.n a.c a.ln w13 (by rw [hal]; decide)
  rw [show ((a.ln.size : Nat) : Int) = 1 from by rw [hal]; rfl] at KC
  have K := Lib.hid KC
  clear KC hal
  go_wp2_with fail
  refine K.out.mono ?_
  clear K
  rintro e w14 ⟨rfl, hx⟩
  have H := HH.out.next hx
  clear hx HH ka0 ka1 ka2 kb0 kb1 kb2 kc0 kc1 kc2
  obtain ⟨ka0, ka1, ka2⟩ := H.cells (.tail _ (.tail _ (.head _)))
  obtain ⟨kb0, kb1, kb2⟩ := H.cells (.tail _ (.head _))
  obtain ⟨kc0, kc1, kc2⟩ := H.cells (.head _)
  have HH := Lib.hid H
  clear H
  have K := right_good_ent a w14 (HH.out.good (.tail _ (.tail _ (.head _))))
  rw [HAB.out, ex_right] at K
  replace K := Lib.hid K
  go_wp2_with fail
  refine K.out.mono ?_
  clear K
  rintro e w15 ⟨rfl, hx⟩
  have H := HH.out.next hx
  clear hx HH ka0 ka1 ka2 kb0 kb1 kb2 kc0 kc1 kc2
  obtain ⟨ka0, ka1, ka2⟩ := H.cells (.tail _ (.tail _ (.head _)))
  obtain ⟨kb0, kb1, kb2⟩ := H.cells (.tail _ (.head _))
  obtain ⟨kc0, kc1, kc2⟩ := H.cells (.head _)
  have HH := Lib.hid H
  clear H
  have hs := ents_lit w15 [a, a, b] W.heap.size 25 (by intro x hx; simp only [List.mem_cons, List.mem_nil_iff, or_false] at hx; rcases hx with rfl | rfl | rfl <;> first | exact (HH.out.good (.tail _ (.tail _ (.head _)))) | exact (HH.out.good (.tail _ (.head _)))) _ rfl
  change Ents W.heap.size (w15.alloc (.cells #[.int .i64 a.ts, .slice a.A a.n a.c, .string a.ln, .int .i64 a.ts, .slice a.A a.n a.c, .string a.ln, .int .i64 b.ts, .slice b.A b.n b.c, .string b.ln] 25)) _ 3 _ at hs
  have K := entSorted_any true (some ⟨w15.heap.size, 0, none⟩) 3 3 [a, a, b] (by decide) W.heap.size (w15.alloc (.cells #[.int .i64 a.ts, .slice a.A a.n a.c, .string a.ln, .int .i64 a.ts, .slice a.A a.n a.c, .string a.ln, .int .i64 b.ts, .slice b.A b.n b.c, .string b.ln] 25)) hs
  rw [(ex_sorted a b HAB.out HBB.out).1] at K
  replace K := Lib.hid K
  have H2 := HH.out.alloc (.cells #[.int .i64 a.ts, .slice a.A a.n a.c, .string a.ln, .int .i64 a.ts, .slice a.A a.n a.c, .string a.ln, .int .i64 b.ts, .slice b.A b.n b.c, .string b.ln] 25)
  replace HH := Lib.hid H2
  clear hs H2
  go_wp2_with fail
  refine K.out.mono ?_
  clear K
  rintro e w16 ⟨rfl, hx⟩
  have H := HH.out.next hx
  clear hx HH ka0 ka1 ka2 kb0 kb1 kb2 kc0 kc1 kc2
  obtain ⟨ka0, ka1, ka2⟩ := H.cells (.tail _ (.tail _ (.head _)))
  obtain ⟨kb0, kb1, kb2⟩ := H.cells (.tail _ (.head _))
  obtain ⟨kc0, kc1, kc2⟩ := H.cells (.head _)
  have HH := Lib.hid H
  clear H
  have hs := ents_lit w16 [a, b] W.heap.size 25 (by intro x hx; simp only [List.mem_cons, List.mem_nil_iff, or_false] at hx; rcases hx with rfl | rfl <;> first | exact (HH.out.good (.tail _ (.tail _ (.head _)))) | exact (HH.out.good (.tail _ (.head _)))) _ rfl
  change Ents W.heap.size (w16.alloc (.cells #[.int .i64 a.ts, .slice a.A a.n a.c, .string a.ln, .int .i64 b.ts, .slice b.A b.n b.c, .string b.ln] 25)) _ 2 _ at hs
  have K := entSorted_any false (some ⟨w16.heap.size, 0, none⟩) 2 2 [a, b] (by decide) W.heap.size (w16.alloc (.cells #[.int .i64 a.ts, .slice a.A a.n a.c, .string a.ln, .int .i64 b.ts, .slice b.A b.n b.c, .string b.ln] 25)) hs
  rw [(ex_sorted a b HAB.out HBB.out).2] at K
  replace K := Lib.hid K
  have H2 := HH.out.alloc (.cells #[.int .i64 a.ts, .slice a.A a.n a.c, .string a.ln, .int .i64 b.ts, .slice b.A b.n b.c, .string b.ln] 25)
  replace HH := Lib.hid H2
  clear hs H2
  go_wp2_with fail
  refine K.out.mono ?_
  clear K
  rintro e w17 ⟨rfl, hx⟩
  have H := HH.out.next hx
  clear hx HH ka0 ka1 ka2 kb0 kb1 kb2 kc0 kc1 kc2
  obtain ⟨ka0, ka1, ka2⟩ := H.cells (.tail _ (.tail _ (.head _)))
  obtain ⟨kb0, kb1, kb2⟩ := H.cells (.tail _ (.head _))
  obtain ⟨kc0, kc1, kc2⟩ := H.cells (.head _)
  have HH := Lib.hid H
  clear H
  go_wp2
  go_ret
  exact ⟨rfl, HH.out.below⟩
end Go.Proofs.YtdbflmkjcgiodaaGreatDoor
