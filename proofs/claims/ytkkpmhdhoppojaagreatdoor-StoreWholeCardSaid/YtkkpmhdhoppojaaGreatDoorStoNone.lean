-- shaken
import Derived.Test.YtkkpmhdhoppojaaGreatDoorStoRange
namespace Go.Proofs.YtkkpmhdhoppojaaGreatDoor
open Go.RowKit
set_option linter.unusedVariables false
set_option linter.unusedSimpArgs false
set_option maxRecDepth 100000 in
set_option maxHeartbeats 1600000 in
theorem rangeBad_any (a : AskX) (P M : Value) (W : World) (har : askR a.b = false) :
    Calls Tryz.prog 18 #[P, .agg a.V.toArray, M] W fun e w' => e = .returned (.tuple #[.slice none 0 0, .bool false, .int .i64 1]) ∧ Below W.heap.size W w' := by
  obtain ⟨lo, hi, asc, lim, has, ⟨ats, aA, an, ac, als, aln⟩⟩ := a
  have hbA : Below W.heap.size W (W.alloc (.cells #[.int .i64 lo, .int .i64 hi, .bool asc, .int .i64 lim, .bool has, .int .i64 ats, .slice aA an ac, .string aln] 58)) := (Below.refl _ _).alloc (Nat.le_refl _) _
  have KA := Blk.new W 58 #[.int .i64 lo, .int .i64 hi, .bool asc, .int .i64 lim, .bool has, .int .i64 ats, .slice aA an ac, .string aln]
  obtain ⟨g0, hg0⟩ : ∃ g, W.heap.size = g := ⟨_, rfl⟩
  obtain ⟨w1, hw1⟩ : ∃ z, W.alloc (.cells #[.int .i64 lo, .int .i64 hi, .bool asc, .int .i64 lim, .bool has, .int .i64 ats, .slice aA an ac, .string aln] 58) = z := ⟨_, rfl⟩
  rw [hw1] at hbA KA
  have AR := Lib.hid (askRight_any ⟨lo, hi, asc, lim, has, ⟨ats, aA, an, ac, als, aln⟩⟩ w1)
  rw [har] at AR
  have HKA := Lib.hid (show Blk w1 g0 58 #[.int .i64 lo, .int .i64 hi, .bool asc, .int .i64 lim, .bool has, .int .i64 ats, .slice aA an ac, .string aln] by rw [← hg0]; exact KA)
  have HB1 := Lib.hid hbA
  have SZ := Lib.hid hg0
  replace AR : Hid (Calls Tryz.prog 22 #[.agg #[.int .i64 lo, .int .i64 hi, .bool asc, .int .i64 lim, .bool has, .int .i64 ats, .slice aA an ac, .string aln]] w1 fun e w' => e = .returned (.bool false) ∧ Below w1.heap.size w1 w') := AR
  have a0_ : w1.cell? ⟨g0, 0, none⟩ = some (.int .i64 lo) := (HKA.out.cell 0).trans rfl
  have a1_ : w1.cell? ⟨g0, 1, none⟩ = some (.int .i64 hi) := (HKA.out.cell 1).trans rfl
  have a2_ : w1.cell? ⟨g0, 2, none⟩ = some (.bool asc) := (HKA.out.cell 2).trans rfl
  have a3_ : w1.cell? ⟨g0, 3, none⟩ = some (.int .i64 lim) := (HKA.out.cell 3).trans rfl
  have a4_ : w1.cell? ⟨g0, 4, none⟩ = some (.bool has) := (HKA.out.cell 4).trans rfl
  have a5_ : w1.cell? ⟨g0, 5, none⟩ = some (.int .i64 ats) := (HKA.out.cell 5).trans rfl
  have a6_ : w1.cell? ⟨g0, 6, none⟩ = some (.slice aA an ac) := (HKA.out.cell 6).trans rfl
  have a7_ : w1.cell? ⟨g0, 7, none⟩ = some (.string aln) := (HKA.out.cell 7).trans rfl
  clear KA hbA har
  show Calls Tryz.prog 18 #[P, .agg #[.int .i64 lo, .int .i64 hi, .bool asc, .int .i64 lim, .bool has, .int .i64 ats, .slice aA an ac, .string aln], M] W _
  go_enter Tryz.func18, Tryz.ntmps18
  go_wp2_with fail
  (try rw [hw1])
  (try rw [SZ.out])
  refine AR.out.mono ?_
  rintro e w2 ⟨rfl, hb⟩
  have HB2 := Lib.hid (hop HB1.out (by have := HB1.out.size; omega) hb)
  clear hb a0_ a1_ a2_ a3_ a4_ a5_ a6_ a7_ hw1 AR hg0
  go_wp2
  go_ret3
  exact ⟨rfl, HB2.out⟩
set_option maxRecDepth 100000 in
set_option maxHeartbeats 1600000 in
theorem rangeNil_any (a : AskX) (P : Value) (W : World) (har : askR a.b = true) :
    Calls Tryz.prog 18 #[P, .agg a.V.toArray, .pointer none] W fun e w' => e = .returned (.tuple #[.slice none 0 0, .bool false, .int .i64 1]) ∧ Below W.heap.size W w' := by
  obtain ⟨lo, hi, asc, lim, has, ⟨ats, aA, an, ac, als, aln⟩⟩ := a
  have hbA : Below W.heap.size W (W.alloc (.cells #[.int .i64 lo, .int .i64 hi, .bool asc, .int .i64 lim, .bool has, .int .i64 ats, .slice aA an ac, .string aln] 58)) := (Below.refl _ _).alloc (Nat.le_refl _) _
  have KA := Blk.new W 58 #[.int .i64 lo, .int .i64 hi, .bool asc, .int .i64 lim, .bool has, .int .i64 ats, .slice aA an ac, .string aln]
  obtain ⟨g0, hg0⟩ : ∃ g, W.heap.size = g := ⟨_, rfl⟩
  obtain ⟨w1, hw1⟩ : ∃ z, W.alloc (.cells #[.int .i64 lo, .int .i64 hi, .bool asc, .int .i64 lim, .bool has, .int .i64 ats, .slice aA an ac, .string aln] 58) = z := ⟨_, rfl⟩
  rw [hw1] at hbA KA
  have AR := Lib.hid (askRight_any ⟨lo, hi, asc, lim, has, ⟨ats, aA, an, ac, als, aln⟩⟩ w1)
  rw [har] at AR
  have HKA := Lib.hid (show Blk w1 g0 58 #[.int .i64 lo, .int .i64 hi, .bool asc, .int .i64 lim, .bool has, .int .i64 ats, .slice aA an ac, .string aln] by rw [← hg0]; exact KA)
  have HB1 := Lib.hid hbA
  have SZ := Lib.hid hg0
  replace AR : Hid (Calls Tryz.prog 22 #[.agg #[.int .i64 lo, .int .i64 hi, .bool asc, .int .i64 lim, .bool has, .int .i64 ats, .slice aA an ac, .string aln]] w1 fun e w' => e = .returned (.bool true) ∧ Below w1.heap.size w1 w') := AR
  have a0_ : w1.cell? ⟨g0, 0, none⟩ = some (.int .i64 lo) := (HKA.out.cell 0).trans rfl
  have a1_ : w1.cell? ⟨g0, 1, none⟩ = some (.int .i64 hi) := (HKA.out.cell 1).trans rfl
  have a2_ : w1.cell? ⟨g0, 2, none⟩ = some (.bool asc) := (HKA.out.cell 2).trans rfl
  have a3_ : w1.cell? ⟨g0, 3, none⟩ = some (.int .i64 lim) := (HKA.out.cell 3).trans rfl
  have a4_ : w1.cell? ⟨g0, 4, none⟩ = some (.bool has) := (HKA.out.cell 4).trans rfl
  have a5_ : w1.cell? ⟨g0, 5, none⟩ = some (.int .i64 ats) := (HKA.out.cell 5).trans rfl
  have a6_ : w1.cell? ⟨g0, 6, none⟩ = some (.slice aA an ac) := (HKA.out.cell 6).trans rfl
  have a7_ : w1.cell? ⟨g0, 7, none⟩ = some (.string aln) := (HKA.out.cell 7).trans rfl
  clear KA hbA har
  show Calls Tryz.prog 18 #[P, .agg #[.int .i64 lo, .int .i64 hi, .bool asc, .int .i64 lim, .bool has, .int .i64 ats, .slice aA an ac, .string aln], .pointer none] W _
  go_enter Tryz.func18, Tryz.ntmps18
  go_wp2_with fail
  (try rw [hw1])
  (try rw [SZ.out])
  refine AR.out.mono ?_
  rintro e w2 ⟨rfl, hb⟩
  have HB2 := Lib.hid (hop HB1.out (by have := HB1.out.size; omega) hb)
  clear hb a0_ a1_ a2_ a3_ a4_ a5_ a6_ a7_ hw1 AR hg0
  go_wp2
  go_ret3
  exact ⟨rfl, HB2.out⟩
set_option maxRecDepth 100000 in
set_option maxHeartbeats 1600000 in
theorem rangeDown_any (B b : Nat) (S : List RepB) (k : Nat) (L : List EntX) (rv lv : Value) (ad : Addr) (a : AskX) (hk : k ≤ 1000000) (hS : S.length ≤ 100000) (W : World) (h : RepP B W b S k L rv lv) (har : askR a.b = true) (hf : (replyAt S k).fail = true) :
    Calls Tryz.prog 18 #[.pointer (some ⟨b, 0, none⟩), .agg a.V.toArray, .pointer (some ad)] W fun e w' => e = .returned (.tuple #[.slice none 0 0, .bool false, .int .i64 7]) ∧ RepP B w' b S (k + 1) L rv lv ∧ Se.FG b W w' := by
  obtain ⟨lo, hi, asc, lim, has, ⟨ats, aA, an, ac, als, aln⟩⟩ := a
  have hbA : Below W.heap.size W (W.alloc (.cells #[.int .i64 lo, .int .i64 hi, .bool asc, .int .i64 lim, .bool has, .int .i64 ats, .slice aA an ac, .string aln] 58)) := (Below.refl _ _).alloc (Nat.le_refl _) _
  have KA := Blk.new W 58 #[.int .i64 lo, .int .i64 hi, .bool asc, .int .i64 lim, .bool has, .int .i64 ats, .slice aA an ac, .string aln]
  obtain ⟨g0, hg0⟩ : ∃ g, W.heap.size = g := ⟨_, rfl⟩
  obtain ⟨w1, hw1⟩ : ∃ z, W.alloc (.cells #[.int .i64 lo, .int .i64 hi, .bool asc, .int .i64 lim, .bool has, .int .i64 ats, .slice aA an ac, .string aln] 58) = z := ⟨_, rfl⟩
  rw [hw1] at hbA KA
  have AR := Lib.hid (askRight_any ⟨lo, hi, asc, lim, has, ⟨ats, aA, an, ac, als, aln⟩⟩ w1)
  rw [har] at AR
  have HKA := Lib.hid (show Blk w1 g0 58 #[.int .i64 lo, .int .i64 hi, .bool asc, .int .i64 lim, .bool has, .int .i64 ats, .slice aA an ac, .string aln] by rw [← hg0]; exact KA)
  have HB1 := Lib.hid hbA
  have SZ := Lib.hid hg0
  replace AR : Hid (Calls Tryz.prog 22 #[.agg #[.int .i64 lo, .int .i64 hi, .bool asc, .int .i64 lim, .bool has, .int .i64 ats, .slice aA an ac, .string aln]] w1 fun e w' => e = .returned (.bool true) ∧ Below w1.heap.size w1 w') := AR
  have a0_ : w1.cell? ⟨g0, 0, none⟩ = some (.int .i64 lo) := (HKA.out.cell 0).trans rfl
  have a1_ : w1.cell? ⟨g0, 1, none⟩ = some (.int .i64 hi) := (HKA.out.cell 1).trans rfl
  have a2_ : w1.cell? ⟨g0, 2, none⟩ = some (.bool asc) := (HKA.out.cell 2).trans rfl
  have a3_ : w1.cell? ⟨g0, 3, none⟩ = some (.int .i64 lim) := (HKA.out.cell 3).trans rfl
  have a4_ : w1.cell? ⟨g0, 4, none⟩ = some (.bool has) := (HKA.out.cell 4).trans rfl
  have a5_ : w1.cell? ⟨g0, 5, none⟩ = some (.int .i64 ats) := (HKA.out.cell 5).trans rfl
  have a6_ : w1.cell? ⟨g0, 6, none⟩ = some (.slice aA an ac) := (HKA.out.cell 6).trans rfl
  have a7_ : w1.cell? ⟨g0, 7, none⟩ = some (.string aln) := (HKA.out.cell 7).trans rfl
  have HRP := Lib.hid (h.below hbA)
  have CA := Lib.hid (fun w (h : RepP B w b S k L rv lv) => call_any B b S k L rv lv (by omega) hS w h)
  obtain ⟨⟨fl, mo⟩, hr⟩ : ∃ r, replyAt S k = r := ⟨_, rfl⟩
  rw [hr] at CA hf
  dsimp only at hf
  subst hf
  replace CA : Hid (∀ w, RepP B w b S k L rv lv → Calls Tryz.prog 39 #[.pointer (some ⟨b, 0, none⟩)] w fun e w' => e = .returned (.agg #[.bool true, .int .i64 mo]) ∧ RepP B w' b S (k + 1) L rv lv ∧ Se.FG b w w') := CA
  have F1 := Lib.hid (Se.FG.of_below (g := b) hbA)
  clear KA hbA har h hr HB1
  show Calls Tryz.prog 18 #[.pointer (some ⟨b, 0, none⟩), .agg #[.int .i64 lo, .int .i64 hi, .bool asc, .int .i64 lim, .bool has, .int .i64 ats, .slice aA an ac, .string aln], .pointer (some ad)] W _
  go_enter Tryz.func18, Tryz.ntmps18
  go_wp2_with fail
  (try rw [hw1])
  (try rw [SZ.out])
  refine AR.out.mono ?_
  rintro e w2 ⟨rfl, hb⟩
  replace HRP := Lib.hid (HRP.out.below hb)
  replace F1 := Lib.hid (F1.out.trans (Se.FG.of_below hb))
  clear hb a0_ a1_ a2_ a3_ a4_ a5_ a6_ a7_ hw1 AR hg0
  go_wp2_with fail
  refine (CA.out w2 HRP.out).mono ?_
  rintro e w3 ⟨rfl, hr1, hf1⟩
  replace HRP := Lib.hid hr1
  replace F1 := Lib.hid (F1.out.trans hf1)
  clear hr1 hf1 CA
  obtain ⟨gR, hgR⟩ : ∃ g, w3.heap.size = g := ⟨_, rfl⟩
  have hb : Below w3.heap.size w3 (w3.alloc (.cells #[.bool true, .int .i64 mo] 32)) := (Below.refl _ _).alloc (Nat.le_refl _) _
  have KR : Blk (w3.alloc (.cells #[.bool true, .int .i64 mo] 32)) gR 32 #[.bool true, .int .i64 mo] := by rw [← hgR]; exact Blk.new _ _ _
  obtain ⟨w4, hw4⟩ : ∃ z, w3.alloc (.cells #[.bool true, .int .i64 mo] 32) = z := ⟨_, rfl⟩
  rw [hw4] at hb KR
  replace HRP := Lib.hid (HRP.out.below hb)
  replace F1 := Lib.hid (F1.out.trans (Se.FG.of_below hb))
  have s0_ : w4.cell? ⟨gR, 0, none⟩ = some (.bool true) := (KR.cell 0).trans rfl
  clear hb KR
  go_wp2
  go_ret3
  exact ⟨rfl, HRP.out, F1.out⟩
set_option maxHeartbeats 800000 in
theorem everyNone_any (W : World) : Calls Tryz.prog 15 #[.slice none 0 0] W fun e w' => e = .returned (.tuple #[.pointer (some ⟨W.heap.size, 0, none⟩), .int .i64 0]) ∧ Blk w' W.heap.size 106 #[.slice none 0 0] ∧ Below W.heap.size W w' := by
  have KA := Lib.hid (Blk.new W 106 #[.slice none 0 0])
  have HB := Lib.hid ((Below.refl W.heap.size W).alloc (Nat.le_refl _) (.cells #[.slice none 0 0] 106))
  go_enter Tryz.func15, Tryz.ntmps15
  go_wp2
  go_loopw [11] (fun iv wr => iv = .int .i64 0 ∧ Hid (Blk wr W.heap.size 106 #[.slice none 0 0]) ∧ Hid (Below W.heap.size W wr)) (fun _ _ => 0)
  case atStart => exact ⟨rfl, KA, HB⟩
  case round =>
    obtain ⟨rfl, KA, HB⟩ := hrel
    go_wp2
    go_ret2
    exact ⟨rfl, KA.out, HB.out⟩
theorem tellNone_any (ma : Nat) (A : Option Addr) (n c : Nat) (W : World) (h : Blk W ma 106 #[.slice none 0 0]) : Calls Tryz.prog 63 #[.pointer (some ⟨ma, 0, none⟩), .slice A n c] W fun e w' => e = .returned (.bool true) ∧ W = w' := by
  have c0_ : W.cell? ⟨ma, 0, none⟩ = some (.slice none 0 0) := (h.cell 0).trans rfl
  clear h
  go_enter Tryz.func63, Tryz.ntmps63
  go_wp2
  go_loopw [14] (fun iv wr => iv = .int .i64 0 ∧ W = wr) (fun _ _ => 0)
  case atStart => exact ⟨rfl, rfl⟩
  case round =>
    obtain ⟨rfl, rfl⟩ := hrel
    go_wp2
    go_ret
    exact ⟨rfl, rfl⟩
theorem testNone_any (ma : Nat) (A : Option Addr) (n c : Nat) (W : World) (h : Blk W ma 106 #[.slice none 0 0]) : Calls Tryz.prog 42 #[.pointer (some ⟨ma, 0, none⟩), .slice A n c] W fun e w' => e = .returned (.bool true) ∧ Below W.heap.size W w' := by
  have C := Lib.hid (tellNone_any ma A n c W h)
  clear h
  go_enter Tryz.func42, Tryz.ntmps42
  go_wp2_with fail
  refine C.out.mono ?_
  rintro e w2 ⟨rfl, rfl⟩
  go_wp2
  go_ret
  exact ⟨rfl, Below.refl _ _⟩
theorem none_test (b ma : Nat) : TestP b (.pointer (some ⟨ma, 0, none⟩)) (fun _ => true) (fun w => Blk w ma 106 #[.slice none 0 0]) :=
  ⟨fun w w' h hb => h.below hb h.lt, fun w w' cur h hf hb => h.fg hf (fun e => by
    subst e
    unfold Blk at h hb
    rw [h] at hb
    injection hb with hb
    injection hb with _ hb _
    exact absurd hb (by decide)), fun w A n c ps h _ _ _ => testNone_any ma A n c w h, ⟨_, rfl⟩⟩
theorem calls_any (B b : Nat) (S : List RepB) (k : Nat) (L : List EntX) (rv lv : Value) (W : World) (h : RepP B W b S k L rv lv) :
    Calls Tryz.prog 21 #[.pointer (some ⟨b, 0, none⟩)] W fun e w' => e = .returned (.int .i64 (k : Int)) ∧ W = w' := by
  have c1_ : W.cell? ⟨b, 1, none⟩ = some (.int .i64 (k : Int)) := (h.blk.cell 1).trans rfl
  have C1 : Calls Tryz.prog 46 #[.pointer (some ⟨b, 0, none⟩)] W fun e w' => e = .returned (.int .i64 (k : Int)) ∧ W = w' := by
    clear h
    go_enter Tryz.func46, Tryz.ntmps46
    go_wp2
    go_ret
    exact ⟨rfl, rfl⟩
  have C := Lib.hid C1
  clear C1 h c1_
  go_enter Tryz.func21, Tryz.ntmps21
  go_wp2_with fail
  refine C.out.mono ?_
  rintro e w2 ⟨rfl, rfl⟩
  go_wp2
  go_ret
  exact ⟨rfl, rfl⟩
theorem len_any (B b : Nat) (S : List RepB) (k : Nat) (L : List EntX) (rv lv : Value) (W : World) (h : RepP B W b S k L rv lv) :
    Calls Tryz.prog 24 #[.pointer (some ⟨b, 0, none⟩)] W fun e w' => e = .returned (.int .i64 (L.length : Int)) ∧ W = w' := by
  obtain ⟨A, c, hv⟩ := OwnR.shape h.ent.1
  have c2_ : W.cell? ⟨b, 2, none⟩ = some (.slice A L.length c) := (h.blk.cell 2).trans (by rw [hv]; rfl)
  clear h hv
  go_enter Tryz.func24, Tryz.ntmps24
  go_wp2
  go_ret
  exact ⟨rfl, rfl⟩
end Go.Proofs.YtkkpmhdhoppojaaGreatDoor
