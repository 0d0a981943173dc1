-- shaken
import Derived.Test.YtdaainifkldcpaaGreatDoorStoRange
namespace Go.Proofs.YtdaainifkldcpaaGreatDoor
open Go.RowKit
set_option linter.unusedVariables false
set_option linter.unusedSimpArgs false
set_option maxRecDepth 100000 in
set_option maxHeartbeats 1600000 in
theorem rangeDown_any (B b : Nat) (S : List RepB) (k : Nat) (L : List EntX) (rv lv : Value) (ad : Addr) (a : AskX) (hk : k ≤ 1000000) (hS : S.length ≤ 100000) (W : World) (h : RepP B W b S k L rv lv) (har : askR a.b = true) (hf : (replyAt S k).fail = true) :
    Calls Tryz.prog 29 #[.pointer (some ⟨b, 0, none⟩), .agg a.V.toArray, .pointer (some ad)] W fun e w' => e = .returned (.tuple #[.slice none 0 0, .bool false, .int .i64 7]) ∧ RepP B w' b S (k + 1) L rv lv ∧ Se.FG b W w' := by
  obtain ⟨lo, hi, asc, lim, has, ⟨ats, aA, an, ac, als, aln⟩⟩ := a
  have hbA : Below W.heap.size W (W.alloc (.cells #[.int .i64 lo, .int .i64 hi, .bool asc, .int .i64 lim, .bool has, .int .i64 ats, .slice aA an ac, .string aln] 49)) := (Below.refl _ _).alloc (Nat.le_refl _) _
  have KA := Blk.new W 49 #[.int .i64 lo, .int .i64 hi, .bool asc, .int .i64 lim, .bool has, .int .i64 ats, .slice aA an ac, .string aln]
  obtain ⟨g0, hg0⟩ : ∃ g, W.heap.size = g := ⟨_, rfl⟩
  obtain ⟨w1, hw1⟩ : ∃ z, W.alloc (.cells #[.int .i64 lo, .int .i64 hi, .bool asc, .int .i64 lim, .bool has, .int .i64 ats, .slice aA an ac, .string aln] 49) = z := ⟨_, rfl⟩
  rw [hw1] at hbA KA
  have AR := Lib.hid (askRight_any ⟨lo, hi, asc, lim, has, ⟨ats, aA, an, ac, als, aln⟩⟩ w1)
  rw [har] at AR
  have HKA := Lib.hid (show Blk w1 g0 49 #[.int .i64 lo, .int .i64 hi, .bool asc, .int .i64 lim, .bool has, .int .i64 ats, .slice aA an ac, .string aln] by rw [← hg0]; exact KA)
  have HB1 := Lib.hid hbA
  have SZ := Lib.hid hg0
  replace AR : Hid (Calls Tryz.prog 37 #[.agg #[.int .i64 lo, .int .i64 hi, .bool asc, .int .i64 lim, .bool has, .int .i64 ats, .slice aA an ac, .string aln]] w1 fun e w' => e = .returned (.bool true) ∧ Below w1.heap.size w1 w') := AR
  have a0_ : w1.cell? ⟨g0, 0, none⟩ = some (.int .i64 lo) := (HKA.out.cell 0).trans rfl
  have a1_ : w1.cell? ⟨g0, 1, none⟩ = some (.int .i64 hi) := (HKA.out.cell 1).trans rfl
  have a2_ : w1.cell? ⟨g0, 2, none⟩ = some (.bool asc) := (HKA.out.cell 2).trans rfl
  have a3_ : w1.cell? ⟨g0, 3, none⟩ = some (.int .i64 lim) := (HKA.out.cell 3).trans rfl
  have a4_ : w1.cell? ⟨g0, 4, none⟩ = some (.bool has) := (HKA.out.cell 4).trans rfl
  have a5_ : w1.cell? ⟨g0, 5, none⟩ = some (.int .i64 ats) := (HKA.out.cell 5).trans rfl
  have a6_ : w1.cell? ⟨g0, 6, none⟩ = some (.slice aA an ac) := (HKA.out.cell 6).trans rfl
  have a7_ : w1.cell? ⟨g0, 7, none⟩ = some (.string aln) := (HKA.out.cell 7).trans rfl
  have HRP := Lib.hid (h.below hbA)
  have CA := Lib.hid (fun w (h : RepP B w b S k L rv lv) => call_any B b S k L rv lv (by omega) hS w h)
  obtain ⟨⟨fl, mo⟩, hr⟩ : ∃ r, replyAt S k = r := ⟨_, rfl⟩
  rw [hr] at CA hf
  dsimp only at hf
  subst hf
  replace CA : Hid (∀ w, RepP B w b S k L rv lv → Calls Tryz.prog 58 #[.pointer (some ⟨b, 0, none⟩)] w fun e w' => e = .returned (.agg #[.bool true, .int .i64 mo]) ∧ RepP B w' b S (k + 1) L rv lv ∧ Se.FG b w w') := CA
  have F1 := Lib.hid (Se.FG.of_below (g := b) hbA)
  clear KA hbA har h hr HB1
  show Calls Tryz.prog 29 #[.pointer (some ⟨b, 0, none⟩), .agg #[.int .i64 lo, .int .i64 hi, .bool asc, .int .i64 lim, .bool has, .int .i64 ats, .slice aA an ac, .string aln], .pointer (some ad)] W _
  go_enter Tryz.func29, Tryz.ntmps29
  go_wp2_with fail
  (try rw [hw1])
  (try rw [SZ.out])
  refine AR.out.mono ?_
  rintro e w2 ⟨rfl, hb⟩
  replace HRP := Lib.hid (HRP.out.below hb)
  replace F1 := Lib.hid (F1.out.trans (Se.FG.of_below hb))
  clear hb a0_ a1_ a2_ a3_ a4_ a5_ a6_ a7_ hw1 AR hg0
  go_wp2_with fail
  refine (CA.out w2 HRP.out).mono ?_
  rintro e w3 ⟨rfl, hr1, hf1⟩
  replace HRP := Lib.hid hr1
  replace F1 := Lib.hid (F1.out.trans hf1)
  clear hr1 hf1 CA
  obtain ⟨gR, hgR⟩ : ∃ g, w3.heap.size = g := ⟨_, rfl⟩
  have hb : Below w3.heap.size w3 (w3.alloc (.cells #[.bool true, .int .i64 mo] 85)) := (Below.refl _ _).alloc (Nat.le_refl _) _
  have KR : Blk (w3.alloc (.cells #[.bool true, .int .i64 mo] 85)) gR 85 #[.bool true, .int .i64 mo] := by rw [← hgR]; exact Blk.new _ _ _
  obtain ⟨w4, hw4⟩ : ∃ z, w3.alloc (.cells #[.bool true, .int .i64 mo] 85) = z := ⟨_, rfl⟩
  rw [hw4] at hb KR
  replace HRP := Lib.hid (HRP.out.below hb)
  replace F1 := Lib.hid (F1.out.trans (Se.FG.of_below hb))
  have s0_ : w4.cell? ⟨gR, 0, none⟩ = some (.bool true) := (KR.cell 0).trans rfl
  clear hb KR
  go_wp2
  go_ret3
  exact ⟨rfl, HRP.out, F1.out⟩
set_option maxHeartbeats 800000 in
theorem everyNone_any (W : World) : Calls Tryz.prog 13 #[.slice none 0 0] W fun e w' => e = .returned (.tuple #[.pointer (some ⟨W.heap.size, 0, none⟩), .int .i64 0]) ∧ Blk w' W.heap.size 108 #[.slice none 0 0] ∧ Below W.heap.size W w' := by
  have KA := Lib.hid (Blk.new W 108 #[.slice none 0 0])
  have HB := Lib.hid ((Below.refl W.heap.size W).alloc (Nat.le_refl _) (.cells #[.slice none 0 0] 108))
  go_enter Tryz.func13, Tryz.ntmps13
  go_wp2
  go_loopw [11] (fun iv wr => iv = .int .i64 0 ∧ Hid (Blk wr W.heap.size 108 #[.slice none 0 0]) ∧ Hid (Below W.heap.size W wr)) (fun _ _ => 0)
  case atStart => exact ⟨rfl, KA, HB⟩
  case round =>
    obtain ⟨rfl, KA, HB⟩ := hrel
    go_wp2
    go_ret2
    exact ⟨rfl, KA.out, HB.out⟩
theorem tellNone_any (ma : Nat) (A : Option Addr) (n c : Nat) (W : World) (h : Blk W ma 108 #[.slice none 0 0]) : Calls Tryz.prog 90 #[.pointer (some ⟨ma, 0, none⟩), .slice A n c] W fun e w' => e = .returned (.bool true) ∧ W = w' := by
  have c0_ : W.cell? ⟨ma, 0, none⟩ = some (.slice none 0 0) := (h.cell 0).trans rfl
  clear h
  go_enter Tryz.func90, Tryz.ntmps90
  go_wp2
  go_loopw [14] (fun iv wr => iv = .int .i64 0 ∧ W = wr) (fun _ _ => 0)
  case atStart => exact ⟨rfl, rfl⟩
  case round =>
    obtain ⟨rfl, rfl⟩ := hrel
    go_wp2
    go_ret
    exact ⟨rfl, rfl⟩
theorem testNone_any (ma : Nat) (A : Option Addr) (n c : Nat) (W : World) (h : Blk W ma 108 #[.slice none 0 0]) : Calls Tryz.prog 61 #[.pointer (some ⟨ma, 0, none⟩), .slice A n c] W fun e w' => e = .returned (.bool true) ∧ Below W.heap.size W w' := by
  have C := Lib.hid (tellNone_any ma A n c W h)
  clear h
  go_enter Tryz.func61, Tryz.ntmps61
  go_wp2_with fail
  refine C.out.mono ?_
  rintro e w2 ⟨rfl, rfl⟩
  go_wp2
  go_ret
  exact ⟨rfl, Below.refl _ _⟩
theorem none_test (b ma : Nat) : TestP b (.pointer (some ⟨ma, 0, none⟩)) (fun _ => true) (fun w => Blk w ma 108 #[.slice none 0 0]) :=
  ⟨fun w w' h hb => h.below hb h.lt, fun w w' cur h hf hb => h.fg hf (fun e => by
    subst e
    unfold Blk at h hb
    rw [h] at hb
    injection hb with hb
    injection hb with _ hb _
    exact absurd hb (by decide)), fun w A n c ps h _ _ _ => testNone_any ma A n c w h, ⟨_, rfl⟩⟩
theorem calls_any (B b : Nat) (S : List RepB) (k : Nat) (L : List EntX) (rv lv : Value) (W : World) (h : RepP B W b S k L rv lv) :
    Calls Tryz.prog 48 #[.pointer (some ⟨b, 0, none⟩)] W fun e w' => e = .returned (.int .i64 (k : Int)) ∧ W = w' := by
  have c1_ : W.cell? ⟨b, 1, none⟩ = some (.int .i64 (k : Int)) := (h.blk.cell 1).trans rfl
  have C1 : Calls Tryz.prog 76 #[.pointer (some ⟨b, 0, none⟩)] W fun e w' => e = .returned (.int .i64 (k : Int)) ∧ W = w' := by
    clear h
    go_enter Tryz.func76, Tryz.ntmps76
    go_wp2
    go_ret
    exact ⟨rfl, rfl⟩
  have C := Lib.hid C1
  clear C1 h c1_
  go_enter Tryz.func48, Tryz.ntmps48
  go_wp2_with fail
  refine C.out.mono ?_
  rintro e w2 ⟨rfl, rfl⟩
  go_wp2
  go_ret
  exact ⟨rfl, rfl⟩
theorem rowV_set {α : Type} {V : α → List Value} {s : Nat} (hV : ∀ a, (V a).length = s) : ∀ (l : List α) (j i : Nat) (a a' : α) (u : Value), l[j]? = some a → i < s → V a' = (V a).set i u → rowV V (l.set j a') = (rowV V l).set (j * s + i) u
  | [], j, i, a, a', u, h, _, _ => by cases h
  | x :: l, 0, i, a, a', u, h, hi, hv => by
    obtain rfl : x = a := Option.some.inj h
    show V a' ++ rowV V l = (V x ++ rowV V l).set (0 * s + i) u
    rw [Nat.zero_mul, Nat.zero_add, List.set_append_left _ _ (by rw [hV]; exact hi), hv]
  | x :: l, j + 1, i, a, a', u, h, hi, hv => by
    have ih := rowV_set hV l j i a a' u h hi hv
    show V x ++ rowV V (l.set j a') = (V x ++ rowV V l).set ((j + 1) * s + i) u
    rw [ih, List.set_append_right _ _ (by rw [hV, Nat.succ_mul]; omega), hV]
    congr 2
    rw [Nat.succ_mul]
    omega
theorem own_setV {α : Type} {V : α → List Value} {s : Nat} (hV : ∀ a, (V a).length = s) {w : World} {B T g n cap : Nat} {l : List α} (h : OwnR V s w B T (.slice (some ⟨g, 0, none⟩) n cap) l) (j i : Nat) (a a' : α) (u : Value) (hj : l[j]? = some a) (hi : i < s) (hv : V a' = (V a).set i u) :
    OwnR V s (w.setCell ⟨g, j * s + i, none⟩ u) B T (.slice (some ⟨g, 0, none⟩) n cap) (l.set j a') := by
  have h1 := h.1
  rcases h.2 with ⟨e, _⟩ | ⟨g', cap', cur, e, hbg, hh, hnc, hcm, hcs, ht⟩
  · cases e
  · injection e with e1 e2 e3
    injection e1 with e1
    injection e1 with e1 _ _
    subst e1 e2 e3
    unfold OwnR
    rw [List.length_set]
    refine ⟨by rw [rowV_len hV, List.length_set], .inr ⟨g, cap, cur.setIfInBounds (j * s + i) u, rfl, hbg, Blk.set_ hh (j * s + i) u, hnc, hcm, by rw [Array.size_setIfInBounds]; exact hcs, ?_⟩⟩
    rw [Array.toList_setIfInBounds, List.take_set, ht, rowV_set hV l j i a a' u hj hi hv]
def numRep (r : RepB) : Prop := -9223372036854775808 ≤ r.most ∧ r.most ≤ 9223372036854775807
theorem ents_litS (w : World) (l : List EntX) (B : Nat) (T : TypeId) (h : ∀ x ∈ l, Good B w x) (g : Nat) (hg : w.heap.size = g) : Ents B (w.alloc (.cells (rowV EntX.V l).toArray T)) (some ⟨g, 0, none⟩) l.length l := by
  subst hg
  refine ⟨⟨rfl, fun hn => ⟨_, 0, rfl, by simp, fun j i a hj hi => ?_⟩⟩, fun x hx => (h x hx).below ((Below.refl _ _).alloc (Nat.le_refl _) _)⟩
  rw [(Blk.new w T _).cell, Nat.zero_add, List.getElem?_toArray]
  exact rowV_at entV_len l j i a hj hi
theorem reps_litS (w : World) (l : List RepB) (T : TypeId) (g : Nat) (hg : w.heap.size = g) : RowR RepB.V 2 (w.alloc (.cells (rowV RepB.V l).toArray T)) (some ⟨g, 0, none⟩) l.length l := by
  subst hg
  refine ⟨rfl, fun hn => ⟨_, 0, rfl, by simp, fun j i a hj hi => ?_⟩⟩
  rw [(Blk.new w T _).cell, Nat.zero_add, List.getElem?_toArray]
  exact rowV_at repV_len l j i a hj hi
theorem OwnE.fgT {B B' b T' : Nat} {w w' : World} {v : Value} {l : List EntX} {cur : Array Value} (h : OwnE B w B' v l) (hf : Se.FG b w w') (hB : B ≤ b) (hb : Blk w b T' cur) (h1 : T' ≠ 47) (h2 : T' ≠ 165) : OwnE B w' B' v l :=
  ⟨OwnR.fgT h.1 hf hb h1, fun x hx => (h.2 x hx).fgT hf hB hb h2⟩
theorem own_oneE {w : World} {B : Nat} {v : Value} {l : List EntX} {e : EntB} (h : OwnE 0 w B v l) (hl : l.map EntX.b = [e]) : ∃ g c, v = .slice (some ⟨g, 0, none⟩) 1 c ∧ w.cell? ⟨g, 0, none⟩ = some (.int .i64 e.ts) ∧ w.cell? ⟨g, 2, none⟩ = some (.string e.ln) := by
  obtain ⟨x, rfl⟩ : ∃ x, l = [x] := by
    match l, hl with
    | [x], _ => exact ⟨x, rfl⟩
  have hx : x.b = e := by simpa using hl
  obtain ⟨g, c, hv, _, _, _, hc⟩ := OwnR.at_ entV_len h.1 (by simp)
  refine ⟨g, c, hv, ?_, ?_⟩
  · have h1 := hc 0 0 x rfl (by decide)
    rw [← hx]
    exact h1
  · have h1 := hc 0 2 x rfl (by decide)
    rw [← hx]
    exact h1
def eA : EntB := ⟨1, [], ⟨#[97]⟩⟩
def eB : EntB := ⟨2, [], ⟨#[98]⟩⟩
theorem two_sorted (L : List EntX) (hp : (L.map EntX.b).Perm (newE [eB, eA])) (hs : SortedP L) : L.map EntX.b = [eA, eB] := by
  have h1 : newE [eB, eA] = [eB, eA] := by unfold newE; rw [List.filter_eq_self]; decide +kernel
  rw [h1] at hp
  have h2 : (L.map EntX.b).Pairwise leB := List.pairwise_map.2 hs
  refine List.Perm.eq_of_pairwise (le := leB) (fun a b _ _ x y => leB_both x y) h2 ?_ (hp.trans (List.Perm.swap _ _ _))
  refine List.Pairwise.cons (fun y hy => ?_) (List.pairwise_singleton _ _)
  rw [List.mem_singleton.1 hy]
  unfold leB
  decide +kernel
theorem good_nilS (w : World) (ts : Int) (ln : ByteArray) (h0 : -9223372036854775808 ≤ ts) (h1 : ts ≤ 9223372036854775807) : Good 0 w ⟨ts, none, 0, 0, [], ln⟩ :=
  ⟨⟨⟨rfl, fun h => absurd h (Nat.lt_irrefl 0)⟩, fun h => absurd h (Nat.lt_irrefl 0)⟩, Nat.zero_le _, h0, h1⟩
end Go.Proofs.YtdaainifkldcpaaGreatDoor
