-- shaken
import Derived.Test.YtkkpmhdhoppojaaGreatDoorStoNone
namespace Go.Proofs.YtkkpmhdhoppojaaGreatDoor
open Go.RowKit
set_option linter.unusedVariables false
set_option linter.unusedSimpArgs false
theorem ents_litS (w : World) (l : List EntX) (B : Nat) (T : TypeId) (h : ∀ x ∈ l, Good B w x) (g : Nat) (hg : w.heap.size = g) : Ents B (w.alloc (.cells (rowV EntX.V l).toArray T)) (some ⟨g, 0, none⟩) l.length l := by
  subst hg
  refine ⟨⟨rfl, fun hn => ⟨_, 0, rfl, by simp, fun j i a hj hi => ?_⟩⟩, fun x hx => (h x hx).below ((Below.refl _ _).alloc (Nat.le_refl _) _)⟩
  rw [(Blk.new w T _).cell, Nat.zero_add, List.getElem?_toArray]
  exact rowV_at entV_len l j i a hj hi
theorem reps_litS (w : World) (l : List RepB) (T : TypeId) (g : Nat) (hg : w.heap.size = g) : RowR RepB.V 2 (w.alloc (.cells (rowV RepB.V l).toArray T)) (some ⟨g, 0, none⟩) l.length l := by
  subst hg
  refine ⟨rfl, fun hn => ⟨_, 0, rfl, by simp, fun j i a hj hi => ?_⟩⟩
  rw [(Blk.new w T _).cell, Nat.zero_add, List.getElem?_toArray]
  exact rowV_at repV_len l j i a hj hi
theorem OwnE.fgT {B B' b T' : Nat} {w w' : World} {v : Value} {l : List EntX} {cur : Array Value} (h : OwnE B w B' v l) (hf : Se.FG b w w') (hB : B ≤ b) (hb : Blk w b T' cur) (h1 : T' ≠ 56) (h2 : T' ≠ 123) : OwnE B w' B' v l :=
  ⟨OwnR.fgT h.1 hf hb h1, fun x hx => (h.2 x hx).fgT hf hB hb h2⟩
def RangeL (B : Nat) (W : World) (b : Nat) (S : List RepB) (k : Nat) (L : List EntX) (rv lv : Value) (M : List EntB) (more : Bool) (e : Ending) (w' : World) : Prop :=
  ∃ v Lt, e = .returned (.tuple #[v, .bool more, .int .i64 0]) ∧ OwnE 0 w' W.heap.size v Lt ∧ Lt.map EntX.b = M ∧ RepP B w' b S (k + 1) L rv lv ∧ Se.FG b W w'
theorem range_lit (B B1 b : Nat) (S : List RepB) (k : Nat) (L : List EntX) (rv lv M : Value) (T : List PairB → Bool) (AO : World → Prop) (tp : TestP b M T AO) (a : AskX) (hk : k ≤ 1000000) (hS : S.length ≤ 100000) (hL : L.length ≤ 1000) (hR : ∀ x ∈ L, rightE x.b = true) (W : World) (h : RepP B W b S k L rv lv) (hao : AO W) (ha : Good B1 W a.af) (hB1 : B1 ≤ b) (har : askR a.b = true) (hlm : a.lim ≤ 9223372036854775807) (hmm : (replyAt S k).most ≤ 9223372036854775807) (hf : (replyAt S k).fail = false)
    (m : Int) (hm : mostOf a.lim (replyAt S k) = m) (N : List EntB) (more : Bool) (h1 : tellL T a.b m (L.map EntX.b) = N) (h2 : moreL T a.b m (L.map EntX.b) = more) :
    Calls Tryz.prog 18 #[.pointer (some ⟨b, 0, none⟩), .agg a.V.toArray, M] W fun e w' => RangeL B W b S k L rv lv N more e w' := by
  refine (range_any B B1 b S k L rv lv M T AO tp a hk hS hL hR W h hao ha hB1 har hlm hmm hf).mono ?_
  rintro e w' ⟨v, Lt, he, q1, q2, q3, q4⟩
  have e0 : mostOf a.b.lim (replyAt S k) = m := hm
  rw [e0] at he q2
  rw [h2] at he
  exact ⟨v, Lt, he, q1, by rw [q2, h1], q3, q4⟩
theorem own_oneE {w : World} {B : Nat} {v : Value} {l : List EntX} {e : EntB} (h : OwnE 0 w B v l) (hl : l.map EntX.b = [e]) : ∃ g c, v = .slice (some ⟨g, 0, none⟩) 1 c ∧ w.cell? ⟨g, 0, none⟩ = some (.int .i64 e.ts) ∧ w.cell? ⟨g, 2, none⟩ = some (.string e.ln) := by
  obtain ⟨x, rfl⟩ : ∃ x, l = [x] := by
    match l, hl with
    | [x], _ => exact ⟨x, rfl⟩
  have hx : x.b = e := by simpa using hl
  obtain ⟨g, c, hv, _, _, _, hc⟩ := OwnR.at_ entV_len h.1 (by simp)
  refine ⟨g, c, hv, ?_, ?_⟩
  · have h1 := hc 0 0 x rfl (by decide)
    rw [← hx]
    exact h1
  · have h1 := hc 0 2 x rfl (by decide)
    rw [← hx]
    exact h1
def eA : EntB := ⟨1, [], ⟨#[97]⟩⟩
def eB : EntB := ⟨2, [], ⟨#[98]⟩⟩
theorem two_sorted (L : List EntX) (hp : (L.map EntX.b).Perm (newE [eB, eA])) (hs : SortedP L) : L.map EntX.b = [eA, eB] := by
  have h1 : newE [eB, eA] = [eB, eA] := by unfold newE; rw [List.filter_eq_self]; decide +kernel
  rw [h1] at hp
  have h2 : (L.map EntX.b).Pairwise leB := List.pairwise_map.2 hs
  refine List.Perm.eq_of_pairwise (le := leB) (fun a b _ _ x y => leB_both x y) h2 ?_ (hp.trans (List.Perm.swap _ _ _))
  refine List.Pairwise.cons (fun y hy => ?_) (List.pairwise_singleton _ _)
  rw [List.mem_singleton.1 hy]
  unfold leB
  decide +kernel
theorem good_nilS (w : World) (ts : Int) (ln : ByteArray) (h0 : -9223372036854775808 ≤ ts) (h1 : ts ≤ 9223372036854775807) : Good 0 w ⟨ts, none, 0, 0, [], ln⟩ :=
  ⟨⟨⟨rfl, fun h => absurd h (Nat.lt_irrefl 0)⟩, fun h => absurd h (Nat.lt_irrefl 0)⟩, Nat.zero_le _, h0, h1⟩
set_option maxRecDepth 100000 in
set_option maxHeartbeats 3200000 in
theorem examples14_any (W : World) : Calls Tryz.prog 7 #[] W fun e w' => e = .returned (.bool true) ∧ Below W.heap.size W w' := by
  obtain ⟨g0, hg0⟩ : ∃ g, W.heap.size = g := ⟨_, rfl⟩
  have gW : g0 ≤ W.heap.size := by omega
  have HG0 := Lib.hid hg0
  have HB := Lib.hid ((Below.refl g0 W).alloc (by omega) (.cells #[.int .i64 1, .slice none 0 0, .string ⟨#[97]⟩] 56))
  have K0 := Lib.hid (show Blk (W.alloc (.cells #[.int .i64 1, .slice none 0 0, .string ⟨#[97]⟩] 56)) g0 56 #[.int .i64 1, .slice none 0 0, .string ⟨#[97]⟩] by rw [← hg0]; exact Blk.new _ _ _)
  obtain ⟨w0, hw0⟩ : ∃ z, W.alloc (.cells #[.int .i64 1, .slice none 0 0, .string ⟨#[97]⟩] 56) = z := ⟨_, rfl⟩
  rw [hw0] at HB K0
  have z0 := HB.out.size
  obtain ⟨g1, hg1⟩ : ∃ g, w0.heap.size = g := ⟨_, rfl⟩
  have gg1 : g0 < g1 := by rw [← hg1]; exact K0.out.lt
  have K1 := Lib.hid (show Blk (w0.alloc (.cells #[.int .i64 2, .slice none 0 0, .string ⟨#[98]⟩] 56)) g1 56 #[.int .i64 2, .slice none 0 0, .string ⟨#[98]⟩] by rw [← hg1]; exact Blk.new _ _ _)
  replace K0 := Lib.hid (K0.out.alloc (.cells #[.int .i64 2, .slice none 0 0, .string ⟨#[98]⟩] 56))
  replace HB := Lib.hid (HB.out.alloc (by omega) (.cells #[.int .i64 2, .slice none 0 0, .string ⟨#[98]⟩] 56))
  obtain ⟨w1, hw1⟩ : ∃ z, w0.alloc (.cells #[.int .i64 2, .slice none 0 0, .string ⟨#[98]⟩] 56) = z := ⟨_, rfl⟩
  rw [hw1] at HB K0 K1
  have e0_ : w1.cell? ⟨g0, 0, none⟩ = some (.int .i64 1) := (K0.out.cell 0).trans rfl
  have e1_ : w1.cell? ⟨g0, 1, none⟩ = some (.slice none 0 0) := (K0.out.cell 1).trans rfl
  have e2_ : w1.cell? ⟨g0, 2, none⟩ = some (.string ⟨#[97]⟩) := (K0.out.cell 2).trans rfl
  have f0_ : w1.cell? ⟨g1, 0, none⟩ = some (.int .i64 2) := (K1.out.cell 0).trans rfl
  have f1_ : w1.cell? ⟨g1, 1, none⟩ = some (.slice none 0 0) := (K1.out.cell 1).trans rfl
  have f2_ : w1.cell? ⟨g1, 2, none⟩ = some (.string ⟨#[98]⟩) := (K1.out.cell 2).trans rfl
  have z1 := HB.out.size
  have k1lt := K1.out.lt
  obtain ⟨g2, hg2⟩ : ∃ g, w1.heap.size = g := ⟨_, rfl⟩
  have EN0 := ents_litS w1 [⟨2, none, 0, 0, [], ⟨#[98]⟩⟩, ⟨1, none, 0, 0, [], ⟨#[97]⟩⟩] 0 56 (fun x hx => by
    rcases List.mem_cons.1 hx with rfl | hx
    · exact good_nilS _ _ _ (by decide) (by decide)
    · rw [List.mem_singleton.1 hx]
      exact good_nilS _ _ _ (by decide) (by decide)) g2 hg2
  replace EN0 : Ents 0 (w1.alloc (.cells #[.int .i64 2, .slice none 0 0, .string ⟨#[98]⟩, .int .i64 1, .slice none 0 0, .string ⟨#[97]⟩] 56)) (some ⟨g2, 0, none⟩) 2 [⟨2, none, 0, 0, [], ⟨#[98]⟩⟩, ⟨1, none, 0, 0, [], ⟨#[97]⟩⟩] := EN0
  replace K0 := Lib.hid (K0.out.alloc (.cells #[.int .i64 2, .slice none 0 0, .string ⟨#[98]⟩, .int .i64 1, .slice none 0 0, .string ⟨#[97]⟩] 56))
  replace K1 := Lib.hid (K1.out.alloc (.cells #[.int .i64 2, .slice none 0 0, .string ⟨#[98]⟩, .int .i64 1, .slice none 0 0, .string ⟨#[97]⟩] 56))
  replace HB := Lib.hid (HB.out.alloc (by omega) (.cells #[.int .i64 2, .slice none 0 0, .string ⟨#[98]⟩, .int .i64 1, .slice none 0 0, .string ⟨#[97]⟩] 56))
  obtain ⟨w2, hw2⟩ : ∃ z, w1.alloc (.cells #[.int .i64 2, .slice none 0 0, .string ⟨#[98]⟩, .int .i64 1, .slice none 0 0, .string ⟨#[97]⟩] 56) = z := ⟨_, rfl⟩
  rw [hw2] at HB K0 K1 EN0
  have z2 := HB.out.size
  obtain ⟨g3, hg3⟩ : ∃ g, w2.heap.size = g := ⟨_, rfl⟩
  have RE0 := reps_litS w2 [⟨true, 0⟩, ⟨false, 1⟩] 32 g3 hg3
  replace RE0 : RowR RepB.V 2 (w2.alloc (.cells #[.bool true, .int .i64 0, .bool false, .int .i64 1] 32)) (some ⟨g3, 0, none⟩) 2 [⟨true, 0⟩, ⟨false, 1⟩] := RE0
  have EN1 := EN0.below ((Below.refl w2.heap.size w2).alloc (Nat.le_refl _) (.cells #[.bool true, .int .i64 0, .bool false, .int .i64 1] 32))
  replace K0 := Lib.hid (K0.out.alloc (.cells #[.bool true, .int .i64 0, .bool false, .int .i64 1] 32))
  replace K1 := Lib.hid (K1.out.alloc (.cells #[.bool true, .int .i64 0, .bool false, .int .i64 1] 32))
  replace HB := Lib.hid (HB.out.alloc (by omega) (.cells #[.bool true, .int .i64 0, .bool false, .int .i64 1] 32))
  obtain ⟨w3, hw3⟩ : ∃ z, w2.alloc (.cells #[.bool true, .int .i64 0, .bool false, .int .i64 1] 32) = z := ⟨_, rfl⟩
  rw [hw3] at HB K0 K1 EN1 RE0
  have NW := Lib.hid (new_any 0 (some ⟨g2, 0, none⟩) 2 2 _ (some ⟨g3, 0, none⟩) 2 2 _ (by decide) (by decide) w3 EN1 RE0)
  have z3 := HB.out.size
  have lt0 := K0.out.lt
  have lt1 := K1.out.lt
  clear EN0 EN1 RE0
  go_enter Tryz.func7, Tryz.ntmps7
  go_wp2_with fail
  refine NW.out.mono ?_
  rintro e w4 ⟨b, L, rv, lv, rfl, hr, hbl, hp, hsd, hb⟩
  have LM := Lib.hid (two_sorted L hp hsd)
  have LL : L.length = 2 := by have h1 := congrArg List.length LM.out; rw [List.length_map] at h1; exact h1
  have LR := Lib.hid (show ∀ x ∈ L, rightE x.b = true from fun x hx => by
    have h1 := (List.mem_filter.1 (hp.mem_iff.1 (List.mem_map_of_mem hx))).2
    exact h1)
  have n0 : g0 ≠ b := by omega
  have n1 : g1 ≠ b := by omega
  have hB0 : g0 ≤ b := by omega
  have RP := Lib.hid hr
  replace K0 := Lib.hid (K0.out.below hb K0.out.lt)
  replace K1 := Lib.hid (K1.out.below hb K1.out.lt)
  replace HB := Lib.hid (hop HB.out (by omega) hb)
  clear hb
  clear hr hp hsd hbl NW hw0 hw1 hw2 hw3 hg0 hg1 hg2 hg3 e0_ e1_ e2_ f0_ f1_ f2_ z0 z1 z2 z3 k1lt lt0 lt1 gg1
  go_wp2_with fail
  refine (everyNone_any w4).mono ?_
  rintro e w5 ⟨rfl, hao, hb⟩
  have z4 := HB.out.size
  have bl4 := RP.out.blk.lt
  have AO := Lib.hid hao
  have nm : w4.heap.size ≠ b := by omega
  obtain ⟨ma, hma⟩ : ∃ g, w4.heap.size = g := ⟨_, rfl⟩
  rw [hma] at AO nm
  replace K0 := Lib.hid (K0.out.below hb K0.out.lt)
  replace K1 := Lib.hid (K1.out.below hb K1.out.lt)
  replace HB := Lib.hid (hop HB.out (by omega) hb)
  replace RP := Lib.hid (RP.out.below hb)
  clear hb
  clear hao
  have z5 := HB.out.size
  have bl5 := RP.out.blk.lt
  obtain ⟨g6, hg6⟩ : ∃ g, w5.heap.size = g := ⟨_, rfl⟩
  have n6 : g6 ≠ b := by omega
  have NE0 := Lib.hid (show g0 ≠ g6 by have := K0.out.lt; omega)
  have NEM := Lib.hid (show ma ≠ g6 by have := AO.out.lt; omega)
  have g06 : g0 ≤ g6 := by have := K0.out.lt; omega
  have hb : Below w5.heap.size w5 (w5.alloc (.cells #[.int .i64 0, .int .i64 5, .bool true, .int .i64 9, .bool false, .int .i64 0, .slice none 0 0, .string ⟨#[]⟩] 58)) := (Below.refl _ _).alloc (Nat.le_refl _) _
  have K6 := Lib.hid (show Blk (w5.alloc (.cells #[.int .i64 0, .int .i64 5, .bool true, .int .i64 9, .bool false, .int .i64 0, .slice none 0 0, .string ⟨#[]⟩] 58)) g6 58 #[.int .i64 0, .int .i64 5, .bool true, .int .i64 9, .bool false, .int .i64 0, .slice none 0 0, .string ⟨#[]⟩] by rw [← hg6]; exact Blk.new _ _ _)
  obtain ⟨w6, hw6⟩ : ∃ z, w5.alloc (.cells #[.int .i64 0, .int .i64 5, .bool true, .int .i64 9, .bool false, .int .i64 0, .slice none 0 0, .string ⟨#[]⟩] 58) = z := ⟨_, rfl⟩
  rw [hw6] at hb K6
  replace K0 := Lib.hid (K0.out.below hb K0.out.lt)
  replace K1 := Lib.hid (K1.out.below hb K1.out.lt)
  replace HB := Lib.hid (hop HB.out (by omega) hb)
  replace RP := Lib.hid (RP.out.below hb)
  replace AO := Lib.hid (AO.out.below hb AO.out.lt)
  clear hb
  rw [hma]
  have HW6 := Lib.hid hw6
  have HG6 := Lib.hid hg6
  clear hw6 hg6
  go_wp2_with fail
  rw [HW6.out, HG6.out]
  refine ((show Calls Tryz.prog 18 #[.pointer (some ⟨b, 0, none⟩), .agg #[.int .i64 0, .int .i64 5, .bool true, .int .i64 9, .bool false, .int .i64 0, .slice none 0 0, .string ⟨#[]⟩], .pointer (some ⟨ma, 0, none⟩)] w6 _ from rangeDown_any _ b _ 0 L rv lv _ ⟨0, 5, true, 9, false, ⟨0, none, 0, 0, [], ⟨#[]⟩⟩⟩ (by decide) (by decide) w6 RP.out (by decide) rfl)).mono ?_
  rintro e w7 ⟨rfl, hr, hf⟩
  replace K0 := Lib.hid (K0.out.fg hf n0)
  replace K1 := Lib.hid (K1.out.fg hf n1)
  replace HB := Lib.hid (Se.FG.below hf HB.out (by omega) (by have := HB.out.size; omega))
  replace AO := Lib.hid (AO.out.fg hf nm)
  replace K6 := Lib.hid (K6.out.fg hf n6)
  replace RP := Lib.hid hr
  clear hr hf hma z4 z5 bl4 bl5
  have a0_ : w7.cell? ⟨g6, 0, none⟩ = some (.int .i64 0) := (K6.out.cell 0).trans rfl
  have a1_ : w7.cell? ⟨g6, 1, none⟩ = some (.int .i64 5) := (K6.out.cell 1).trans rfl
  have a2_ : w7.cell? ⟨g6, 2, none⟩ = some (.bool true) := (K6.out.cell 2).trans rfl
  have a3_ : w7.cell? ⟨g6, 3, none⟩ = some (.int .i64 9) := (K6.out.cell 3).trans rfl
  have a4_ : w7.cell? ⟨g6, 4, none⟩ = some (.bool false) := (K6.out.cell 4).trans rfl
  have a5_ : w7.cell? ⟨g6, 5, none⟩ = some (.int .i64 0) := (K6.out.cell 5).trans rfl
  have a6_ : w7.cell? ⟨g6, 6, none⟩ = some (.slice none 0 0) := (K6.out.cell 6).trans rfl
  have a7_ : w7.cell? ⟨g6, 7, none⟩ = some (.string ⟨#[]⟩) := (K6.out.cell 7).trans rfl
  go_wp2_with fail
  refine ((show Calls Tryz.prog 18 #[.pointer (some ⟨b, 0, none⟩), .agg #[.int .i64 0, .int .i64 5, .bool true, .int .i64 9, .bool false, .int .i64 0, .slice none 0 0, .string ⟨#[]⟩], .pointer (some ⟨ma, 0, none⟩)] w7 _ from range_lit _ 0 b _ 1 L rv lv _ (fun _ => true) _ (none_test b ma) ⟨0, 5, true, 9, false, ⟨0, none, 0, 0, [], ⟨#[]⟩⟩⟩ (by decide) (by decide) (by omega) LR.out w7 RP.out AO.out (good_nilS _ _ _ (by decide) (by decide)) (Nat.zero_le _) (by decide) (by decide) (by decide) rfl 1 rfl [eA] true (by rw [LM.out]; kernel_rfl) (by rw [LM.out]; kernel_rfl))).mono ?_
  rintro e w8 ⟨v1, L1, rfl, ho, hm1, hr, hf⟩
  replace K0 := Lib.hid (K0.out.fg hf n0)
  replace K1 := Lib.hid (K1.out.fg hf n1)
  replace HB := Lib.hid (Se.FG.below hf HB.out (by omega) (by have := HB.out.size; omega))
  replace AO := Lib.hid (AO.out.fg hf nm)
  replace K6 := Lib.hid (K6.out.fg hf n6)
  replace RP := Lib.hid hr
  have OL := Lib.hid ho
  have ML := Lib.hid hm1
  clear hr hf ho hm1
  clear a0_ a1_ a2_ a3_ a4_ a5_ a6_ a7_
  have w0g : g0 ≠ g6 := NE0.out
  have wbg : b ≠ g6 := fun e => n6 e.symm
  have mag : ma ≠ g6 := NEM.out
  have k1 := K6.out.set_ 4 (.bool true)
  have k2 := k1.set_ 5 (.int .i64 1)
  have k3 := k2.set_ 6 (.slice none 0 0)
  have k4 := k3.set_ 7 (.string ⟨#[97]⟩)
  have s1 := Se.FG.set_ (b := g6) (w := w8) 4 (.bool true)
  have s2 := Se.FG.set_ (b := g6) (w := w8.setCell ⟨g6, 4, none⟩ (.bool true)) 5 (.int .i64 1)
  have s3 := Se.FG.set_ (b := g6) (w := (w8.setCell ⟨g6, 4, none⟩ (.bool true)).setCell ⟨g6, 5, none⟩ (.int .i64 1)) 6 (.slice none 0 0)
  have s4 := Se.FG.set_ (b := g6) (w := ((w8.setCell ⟨g6, 4, none⟩ (.bool true)).setCell ⟨g6, 5, none⟩ (.int .i64 1)).setCell ⟨g6, 6, none⟩ (.slice none 0 0)) 7 (.string ⟨#[97]⟩)
  have SS := ((s1.trans s2).trans s3).trans s4
  have k6 := K6.out
  have g0_ : w8.cell? ⟨g6, 4, none⟩ = some (.bool false) := (k6.cell 4).trans rfl
  have g1_ := k6.frozen 4
  have j0_ : (w8.setCell ⟨g6, 4, none⟩ (.bool true)).cell? ⟨g0, 0, none⟩ = some (.int .i64 1) := ((K0.out.far (p := ⟨g6, 4, none⟩) w0g _).cell 0).trans rfl
  have j1_ : (w8.setCell ⟨g6, 4, none⟩ (.bool true)).cell? ⟨g0, 1, none⟩ = some (.slice none 0 0) := ((K0.out.far (p := ⟨g6, 4, none⟩) w0g _).cell 1).trans rfl
  have j2_ : (w8.setCell ⟨g6, 4, none⟩ (.bool true)).cell? ⟨g0, 2, none⟩ = some (.string ⟨#[97]⟩) := ((K0.out.far (p := ⟨g6, 4, none⟩) w0g _).cell 2).trans rfl
  have h5_ : (w8.setCell ⟨g6, 4, none⟩ (.bool true)).cell? ⟨g6, 5, none⟩ = some (.int .i64 0) := (k1.cell 5).trans rfl
  have h6_ : (w8.setCell ⟨g6, 4, none⟩ (.bool true)).cell? ⟨g6, 6, none⟩ = some (.slice none 0 0) := (k1.cell 6).trans rfl
  have h7_ : (w8.setCell ⟨g6, 4, none⟩ (.bool true)).cell? ⟨g6, 7, none⟩ = some (.string ⟨#[]⟩) := (k1.cell 7).trans rfl
  have i5_ := k1.frozen 5
  have i6_ := k1.frozen 6
  have i7_ := k1.frozen 7
  have KN := Lib.hid (show Blk ((((w8.setCell ⟨g6, 4, none⟩ (.bool true)).setCell ⟨g6, 5, none⟩ (.int .i64 1)).setCell ⟨g6, 6, none⟩ (.slice none 0 0)).setCell ⟨g6, 7, none⟩ (.string ⟨#[97]⟩)) g6 58 #[.int .i64 0, .int .i64 5, .bool true, .int .i64 9, .bool true, .int .i64 1, .slice none 0 0, .string ⟨#[97]⟩] from k4)
  have hf := SS
  replace HB := Lib.hid (Se.FG.below hf HB.out (by omega) (by have := HB.out.size; omega))
  replace K0 := Lib.hid (K0.out.fg hf w0g)
  replace AO := Lib.hid (AO.out.fg hf mag)
  replace RP := Lib.hid (RP.out.fg hf k6 wbg (by decide) (by decide) (by decide))
  replace OL := Lib.hid (OL.out.fgT hf (Nat.zero_le _) k6 (by decide) (by decide))
  obtain ⟨w9, hw9⟩ : ∃ z, ((((w8.setCell ⟨g6, 4, none⟩ (.bool true)).setCell ⟨g6, 5, none⟩ (.int .i64 1)).setCell ⟨g6, 6, none⟩ (.slice none 0 0)).setCell ⟨g6, 7, none⟩ (.string ⟨#[97]⟩)) = z := ⟨_, rfl⟩
  rw [hw9] at KN HB K0 AO RP OL
  clear K6 k1 k2 k3 k4 k6 s1 s2 s3 s4 SS hf
  have K6 := KN
  clear KN
  have b0_ : w9.cell? ⟨g6, 0, none⟩ = some (.int .i64 0) := (K6.out.cell 0).trans rfl
  have b1_ : w9.cell? ⟨g6, 1, none⟩ = some (.int .i64 5) := (K6.out.cell 1).trans rfl
  have b2_ : w9.cell? ⟨g6, 2, none⟩ = some (.bool true) := (K6.out.cell 2).trans rfl
  have b3_ : w9.cell? ⟨g6, 3, none⟩ = some (.int .i64 9) := (K6.out.cell 3).trans rfl
  have b4_ : w9.cell? ⟨g6, 4, none⟩ = some (.bool true) := (K6.out.cell 4).trans rfl
  have b5_ : w9.cell? ⟨g6, 5, none⟩ = some (.int .i64 1) := (K6.out.cell 5).trans rfl
  have b6_ : w9.cell? ⟨g6, 6, none⟩ = some (.slice none 0 0) := (K6.out.cell 6).trans rfl
  have b7_ : w9.cell? ⟨g6, 7, none⟩ = some (.string ⟨#[97]⟩) := (K6.out.cell 7).trans rfl
  go_wp2_with fail
  refine ((show Calls Tryz.prog 18 #[.pointer (some ⟨b, 0, none⟩), .agg #[.int .i64 0, .int .i64 5, .bool true, .int .i64 9, .bool true, .int .i64 1, .slice none 0 0, .string ⟨#[97]⟩], .pointer (some ⟨ma, 0, none⟩)] w9 _ from range_lit _ 0 b _ 2 L rv lv _ (fun _ => true) _ (none_test b ma) ⟨0, 5, true, 9, true, ⟨1, none, 0, 0, [], ⟨#[97]⟩⟩⟩ (by decide) (by decide) (by omega) LR.out w9 RP.out AO.out (good_nilS _ _ _ (by decide) (by decide)) (Nat.zero_le _) (by decide) (by decide) (by decide) rfl 9 rfl [eB] false (by rw [LM.out]; kernel_rfl) (by rw [LM.out]; kernel_rfl))).mono ?_
  rintro e w10 ⟨v2, L2, rfl, ho, hm2, hr, hf⟩
  replace HB := Lib.hid (Se.FG.below hf HB.out (by omega) (by have := HB.out.size; omega))
  replace AO := Lib.hid (AO.out.fg hf nm)
  replace OL := Lib.hid (OL.out.fgT hf (Nat.zero_le _) RP.out.blk rep_not_ent rep_not_pair)
  replace K6 := Lib.hid (K6.out.fg hf n6)
  replace RP := Lib.hid hr
  have OM := Lib.hid ho
  have MM := Lib.hid hm2
  clear hr hf ho hm2 b0_ b1_ b2_ b3_ b4_ b5_ b6_ b7_ hw9 g0_ g1_ j0_ j1_ j2_ h5_ h6_ h7_ i5_ i6_ i7_
  go_wp2_with fail
  refine ((show Calls Tryz.prog 18 #[.pointer (some ⟨b, 0, none⟩), .agg #[.int .i64 0, .int .i64 0, .bool false, .int .i64 0, .bool false, .int .i64 0, .slice none 0 0, .string ⟨#[]⟩], .pointer (some ⟨ma, 0, none⟩)] w10 _ from rangeBad_any ⟨0, 0, false, 0, false, ⟨0, none, 0, 0, [], ⟨#[]⟩⟩⟩ _ _ w10 (by decide))).mono ?_
  rintro e w11 ⟨rfl, hb⟩
  replace RP := Lib.hid (RP.out.below hb)
  replace OL := Lib.hid (OL.out.below hb)
  replace OM := Lib.hid (OM.out.below hb)
  replace K6 := Lib.hid (K6.out.below hb K6.out.lt)
  replace HB := Lib.hid (hop HB.out (by omega) hb)
  clear hb
  have b0_ : w11.cell? ⟨g6, 0, none⟩ = some (.int .i64 0) := (K6.out.cell 0).trans rfl
  have b1_ : w11.cell? ⟨g6, 1, none⟩ = some (.int .i64 5) := (K6.out.cell 1).trans rfl
  have b2_ : w11.cell? ⟨g6, 2, none⟩ = some (.bool true) := (K6.out.cell 2).trans rfl
  have b3_ : w11.cell? ⟨g6, 3, none⟩ = some (.int .i64 9) := (K6.out.cell 3).trans rfl
  have b4_ : w11.cell? ⟨g6, 4, none⟩ = some (.bool true) := (K6.out.cell 4).trans rfl
  have b5_ : w11.cell? ⟨g6, 5, none⟩ = some (.int .i64 1) := (K6.out.cell 5).trans rfl
  have b6_ : w11.cell? ⟨g6, 6, none⟩ = some (.slice none 0 0) := (K6.out.cell 6).trans rfl
  have b7_ : w11.cell? ⟨g6, 7, none⟩ = some (.string ⟨#[97]⟩) := (K6.out.cell 7).trans rfl
  go_wp2_with fail
  refine ((show Calls Tryz.prog 18 #[.pointer (some ⟨b, 0, none⟩), .agg #[.int .i64 0, .int .i64 5, .bool true, .int .i64 9, .bool true, .int .i64 1, .slice none 0 0, .string ⟨#[97]⟩], .pointer none] w11 _ from rangeNil_any ⟨0, 5, true, 9, true, ⟨1, none, 0, 0, [], ⟨#[97]⟩⟩⟩ _ w11 (by decide +kernel))).mono ?_
  rintro e w12 ⟨rfl, hb⟩
  replace RP := Lib.hid (RP.out.below hb)
  replace OL := Lib.hid (OL.out.below hb)
  replace OM := Lib.hid (OM.out.below hb)
  replace K6 := Lib.hid (K6.out.below hb K6.out.lt)
  replace HB := Lib.hid (hop HB.out (by omega) hb)
  clear hb b0_ b1_ b2_ b3_ b4_ b5_ b6_ b7_
  obtain ⟨gl, cl, rfl, l0_, _⟩ := own_oneE OL.out ML.out
  obtain ⟨gk, ck, rfl, _, l2_⟩ := own_oneE OM.out MM.out
  replace l0_ : w12.cell? ⟨gl, 0, none⟩ = some (.int .i64 1) := l0_
  replace l2_ : w12.cell? ⟨gk, 2, none⟩ = some (.string ⟨#[98]⟩) := l2_
  have CL := Lib.hid (calls_any _ b _ 3 L rv lv w12 RP.out)
  have LN := Lib.hid (len_any _ b _ 3 L rv lv w12 RP.out)
  rw [LL] at LN
  have AR := Lib.hid (show Calls Tryz.prog 22 #[.agg #[.int .i64 0, .int .i64 5, .bool true, .int .i64 9, .bool true, .int .i64 1, .slice none 0 0, .string ⟨#[97]⟩]] w12 fun e w' => e = .returned (.bool true) ∧ Below w12.heap.size w12 w' from askRight_any ⟨0, 5, true, 9, true, ⟨1, none, 0, 0, [], ⟨#[97]⟩⟩⟩ w12)
  have b0_ : w12.cell? ⟨g6, 0, none⟩ = some (.int .i64 0) := (K6.out.cell 0).trans rfl
  have b1_ : w12.cell? ⟨g6, 1, none⟩ = some (.int .i64 5) := (K6.out.cell 1).trans rfl
  have b2_ : w12.cell? ⟨g6, 2, none⟩ = some (.bool true) := (K6.out.cell 2).trans rfl
  have b3_ : w12.cell? ⟨g6, 3, none⟩ = some (.int .i64 9) := (K6.out.cell 3).trans rfl
  have b4_ : w12.cell? ⟨g6, 4, none⟩ = some (.bool true) := (K6.out.cell 4).trans rfl
  have b5_ : w12.cell? ⟨g6, 5, none⟩ = some (.int .i64 1) := (K6.out.cell 5).trans rfl
  have b6_ : w12.cell? ⟨g6, 6, none⟩ = some (.slice none 0 0) := (K6.out.cell 6).trans rfl
  have b7_ : w12.cell? ⟨g6, 7, none⟩ = some (.string ⟨#[97]⟩) := (K6.out.cell 7).trans rfl
  clear RP OL OM K6
  go_wp2_with fail
  refine CL.out.mono ?_
  rintro e w13 ⟨rfl, rfl⟩
  go_wp2_with fail
  refine LN.out.mono ?_
  rintro e w14 ⟨rfl, rfl⟩
  go_wp2_with fail
  refine AR.out.mono ?_
  rintro e w15 ⟨rfl, hb⟩
  have HB2 := Lib.hid (hop HB.out gW hb)
  clear hb AR CL LN HB
  go_wp2
  go_ret
  exact ⟨rfl, by rw [HG0.out]; exact HB2.out⟩
end Go.Proofs.YtkkpmhdhoppojaaGreatDoor
