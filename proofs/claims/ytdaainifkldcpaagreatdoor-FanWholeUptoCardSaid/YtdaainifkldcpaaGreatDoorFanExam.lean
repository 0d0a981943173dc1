-- shaken
import Derived.Test.YtdaainifkldcpaaGreatDoorFanMore
namespace Go.Proofs.YtdaainifkldcpaaGreatDoor
open Go.RowKit
set_option linter.unusedVariables false
set_option linter.unusedSimpArgs false
theorem one_new (L : List EntX) (hp : (L.map EntX.b).Perm (newE [eB])) : L.map EntX.b = [eB] := by
  have h1 : newE [eB] = [eB] := by kernel_rfl
  rw [h1] at hp
  exact List.perm_singleton.1 hp
theorem row_blk {α : Type} {V : α → List Value} {s : Nat} (hV : ∀ a, (V a).length = s) {w : World} {g T : Nat} {l : List α} {cs : Array Value} (h : Blk w g T cs) (hc : cs.toList = rowV V l := by rfl) : RowR V s w (some ⟨g, 0, none⟩) l.length l := by
  refine ⟨rfl, fun _ => ⟨g, 0, rfl, h.lt, fun j i a ha hi => ?_⟩⟩
  rw [h.cell, ← Array.getElem?_toList, hc, Nat.zero_add]
  exact rowV_at hV l j i a ha hi
theorem RepP.mono {B B' : Nat} {w : World} {b : Nat} {S : List RepB} {k : Nat} {L : List EntX} {rv lv : Value} (h : RepP B w b S k L rv lv) (hB : B' ≤ B) : RepP B' w b S k L rv lv := ⟨h.blk, OwnR.mono h.rep hB, h.ent.mono (Nat.le_refl _) hB, Nat.le_trans hB h.low⟩
set_option maxRecDepth 100000 in
set_option maxHeartbeats 3200000 in
theorem examples20_any (W : World) : Calls Tryz.prog 9 #[] W fun e w' => e = .returned (.bool true) ∧ Below W.heap.size W w' := by
  have HB := Lib.hid (Below.refl W.heap.size W)
  have hb_ : Below W.heap.size W (W.alloc (.cells #[.int .i64 1, .slice none 0 0, .string ⟨#[97]⟩] 47)) := (Below.refl _ _).alloc (Nat.le_refl _) _
  obtain ⟨g0, hg0⟩ : ∃ g, W.heap.size = g := ⟨_, rfl⟩
  have K0 := Lib.hid (show Blk (W.alloc (.cells #[.int .i64 1, .slice none 0 0, .string ⟨#[97]⟩] 47)) g0 47 #[.int .i64 1, .slice none 0 0, .string ⟨#[97]⟩] from by rw [← hg0]; exact Blk.new _ _ _)
  obtain ⟨m1, hm1⟩ : ∃ z, W.alloc (.cells #[.int .i64 1, .slice none 0 0, .string ⟨#[97]⟩] 47) = z := ⟨_, rfl⟩
  rw [hm1] at hb_ K0
  replace HB := Lib.hid (hop HB.out (Nat.le_refl _) hb_)
  clear hb_
  have hb_ : Below m1.heap.size m1 (m1.alloc (.cells #[.int .i64 2, .slice none 0 0, .string ⟨#[98]⟩] 47)) := (Below.refl _ _).alloc (Nat.le_refl _) _
  obtain ⟨g1, hg1⟩ : ∃ g, m1.heap.size = g := ⟨_, rfl⟩
  have K1 := Lib.hid (show Blk (m1.alloc (.cells #[.int .i64 2, .slice none 0 0, .string ⟨#[98]⟩] 47)) g1 47 #[.int .i64 2, .slice none 0 0, .string ⟨#[98]⟩] from by rw [← hg1]; exact Blk.new _ _ _)
  obtain ⟨m2, hm2⟩ : ∃ z, m1.alloc (.cells #[.int .i64 2, .slice none 0 0, .string ⟨#[98]⟩] 47) = z := ⟨_, rfl⟩
  rw [hm2] at hb_ K1
  replace HB := Lib.hid (hop HB.out (Nat.le_refl _) hb_)
  replace K0 := Lib.hid (K0.out.below hb_ K0.out.lt)
  clear hb_
  have e0_ : m2.cell? ⟨g0, 0, none⟩ = some (.int .i64 1) := (K0.out.cell 0).trans rfl
  have e1_ : m2.cell? ⟨g0, 1, none⟩ = some (.slice none 0 0) := (K0.out.cell 1).trans rfl
  have e2_ : m2.cell? ⟨g0, 2, none⟩ = some (.string ⟨#[97]⟩) := (K0.out.cell 2).trans rfl
  have f0_ : m2.cell? ⟨g1, 0, none⟩ = some (.int .i64 2) := (K1.out.cell 0).trans rfl
  have f1_ : m2.cell? ⟨g1, 1, none⟩ = some (.slice none 0 0) := (K1.out.cell 1).trans rfl
  have f2_ : m2.cell? ⟨g1, 2, none⟩ = some (.string ⟨#[98]⟩) := (K1.out.cell 2).trans rfl
  have hb_ : Below m2.heap.size m2 (m2.alloc (.cells #[.int .i64 1, .slice none 0 0, .string ⟨#[97]⟩, .int .i64 2, .slice none 0 0, .string ⟨#[98]⟩] 47)) := (Below.refl _ _).alloc (Nat.le_refl _) _
  obtain ⟨g2, hg2⟩ : ∃ g, m2.heap.size = g := ⟨_, rfl⟩
  have EN := Lib.hid (show Ents 0 (m2.alloc (.cells #[.int .i64 1, .slice none 0 0, .string ⟨#[97]⟩, .int .i64 2, .slice none 0 0, .string ⟨#[98]⟩] 47)) (some ⟨g2, 0, none⟩) 2 [⟨1, none, 0, 0, [], ⟨#[97]⟩⟩, ⟨2, none, 0, 0, [], ⟨#[98]⟩⟩] from ents_litS m2 [⟨1, none, 0, 0, [], ⟨#[97]⟩⟩, ⟨2, none, 0, 0, [], ⟨#[98]⟩⟩] 0 47 (fun x hx => by simp only [List.mem_cons, List.not_mem_nil, or_false] at hx; rcases hx with rfl | rfl <;> exact good_nilS _ _ _ (by decide) (by decide)) g2 hg2)
  obtain ⟨m3, hm3⟩ : ∃ z, m2.alloc (.cells #[.int .i64 1, .slice none 0 0, .string ⟨#[97]⟩, .int .i64 2, .slice none 0 0, .string ⟨#[98]⟩] 47) = z := ⟨_, rfl⟩
  rw [hm3] at hb_ EN
  replace HB := Lib.hid (hop HB.out (Nat.le_refl _) hb_)
  replace K0 := Lib.hid (K0.out.below hb_ K0.out.lt)
  replace K1 := Lib.hid (K1.out.below hb_ K1.out.lt)
  clear hb_
  have hb_ : Below m3.heap.size m3 (m3.alloc (.cells #[.bool false, .int .i64 1, .bool true, .int .i64 0] 85)) := (Below.refl _ _).alloc (Nat.le_refl _) _
  obtain ⟨g3, hg3⟩ : ∃ g, m3.heap.size = g := ⟨_, rfl⟩
  have RE := Lib.hid (show RowR RepB.V 2 (m3.alloc (.cells #[.bool false, .int .i64 1, .bool true, .int .i64 0] 85)) (some ⟨g3, 0, none⟩) 2 [⟨false, 1⟩, ⟨true, 0⟩] from reps_litS m3 [⟨false, 1⟩, ⟨true, 0⟩] 85 g3 hg3)
  obtain ⟨m4, hm4⟩ : ∃ z, m3.alloc (.cells #[.bool false, .int .i64 1, .bool true, .int .i64 0] 85) = z := ⟨_, rfl⟩
  rw [hm4] at hb_ RE
  replace HB := Lib.hid (hop HB.out (Nat.le_refl _) hb_)
  replace K0 := Lib.hid (K0.out.below hb_ K0.out.lt)
  replace K1 := Lib.hid (K1.out.below hb_ K1.out.lt)
  replace EN := Lib.hid (EN.out.below hb_)
  clear hb_
  have NW := Lib.hid (new_any 0 (some ⟨g2, 0, none⟩) 2 2 _ (some ⟨g3, 0, none⟩) 2 2 _ (by decide) (by decide) m4 EN.out RE.out)
  clear EN RE
  have k0lt := K0.out.lt
  have k1lt := K1.out.lt
  go_enter Tryz.func9, Tryz.ntmps9
  go_wp2_with fail
  refine NW.out.mono ?_
  rintro e w1 ⟨b1, L1, rv1, lv1, rfl, hr, hbl, hp, hsd, hb⟩
  have hs_ := HB.out.size
  have hWb1 : W.heap.size ≤ b1 := by omega
  have PM1 := Lib.hid (show L1.map EntX.b = [eA, eB] from by
    refine two_sorted L1 ?_ hsd
    exact hp.trans (by
      have e1 : newE [eA, eB] = [eA, eB] := by kernel_rfl
      have e2 : newE [eB, eA] = [eB, eA] := by kernel_rfl
      show (newE [eA, eB]).Perm (newE [eB, eA])
      rw [e1, e2]
      exact List.Perm.swap _ _ _))
  have HP1 := Lib.hid (show (L1.map EntX.b).Perm (newE [eA, eB]) from hp)
  have SD1 := Lib.hid (show (L1.map EntX.b).Pairwise leB from List.pairwise_map.2 hsd)
  have RP1 := Lib.hid hr
  clear hr hp hsd NW hbl hs_
  clear hg0 hm1 hg1 hm2 hg2 hm3 hg3 hm4
  clear k0lt k1lt e0_ e1_ e2_ f0_ f1_ f2_
  replace HB := Lib.hid (hop HB.out (Nat.le_refl _) hb)
  replace K0 := Lib.hid (K0.out.below hb K0.out.lt)
  replace K1 := Lib.hid (K1.out.below hb K1.out.lt)
  clear hb
  have f0_ : w1.cell? ⟨g1, 0, none⟩ = some (.int .i64 2) := (K1.out.cell 0).trans rfl
  have f1_ : w1.cell? ⟨g1, 1, none⟩ = some (.slice none 0 0) := (K1.out.cell 1).trans rfl
  have f2_ : w1.cell? ⟨g1, 2, none⟩ = some (.string ⟨#[98]⟩) := (K1.out.cell 2).trans rfl
  have k1lt := K1.out.lt
  have hb_ : Below w1.heap.size w1 (w1.alloc (.cells #[.int .i64 2, .slice none 0 0, .string ⟨#[98]⟩] 47)) := (Below.refl _ _).alloc (Nat.le_refl _) _
  obtain ⟨g4, hg4⟩ : ∃ g, w1.heap.size = g := ⟨_, rfl⟩
  have EN := Lib.hid (show Ents 0 (w1.alloc (.cells #[.int .i64 2, .slice none 0 0, .string ⟨#[98]⟩] 47)) (some ⟨g4, 0, none⟩) 1 [⟨2, none, 0, 0, [], ⟨#[98]⟩⟩] from ents_litS w1 [⟨2, none, 0, 0, [], ⟨#[98]⟩⟩] 0 47 (fun x hx => by rw [List.mem_singleton.1 hx]; exact good_nilS _ _ _ (by decide) (by decide)) g4 hg4)
  obtain ⟨m5, hm5⟩ : ∃ z, w1.alloc (.cells #[.int .i64 2, .slice none 0 0, .string ⟨#[98]⟩] 47) = z := ⟨_, rfl⟩
  rw [hm5] at hb_ EN
  replace HB := Lib.hid (hop HB.out (Nat.le_refl _) hb_)
  replace K0 := Lib.hid (K0.out.below hb_ K0.out.lt)
  replace K1 := Lib.hid (K1.out.below hb_ K1.out.lt)
  replace RP1 := Lib.hid (RP1.out.below hb_)
  clear hb_
  have hb_ : Below m5.heap.size m5 (m5.alloc (.cells #[.bool false, .int .i64 0, .bool true, .int .i64 0] 85)) := (Below.refl _ _).alloc (Nat.le_refl _) _
  obtain ⟨g5, hg5⟩ : ∃ g, m5.heap.size = g := ⟨_, rfl⟩
  have RE := Lib.hid (show RowR RepB.V 2 (m5.alloc (.cells #[.bool false, .int .i64 0, .bool true, .int .i64 0] 85)) (some ⟨g5, 0, none⟩) 2 [⟨false, 0⟩, ⟨true, 0⟩] from reps_litS m5 [⟨false, 0⟩, ⟨true, 0⟩] 85 g5 hg5)
  obtain ⟨m6, hm6⟩ : ∃ z, m5.alloc (.cells #[.bool false, .int .i64 0, .bool true, .int .i64 0] 85) = z := ⟨_, rfl⟩
  rw [hm6] at hb_ RE
  replace HB := Lib.hid (hop HB.out (Nat.le_refl _) hb_)
  replace K0 := Lib.hid (K0.out.below hb_ K0.out.lt)
  replace K1 := Lib.hid (K1.out.below hb_ K1.out.lt)
  replace RP1 := Lib.hid (RP1.out.below hb_)
  replace EN := Lib.hid (EN.out.below hb_)
  clear hb_
  have NW := Lib.hid (new_any 0 (some ⟨g4, 0, none⟩) 1 1 _ (some ⟨g5, 0, none⟩) 2 2 _ (by decide) (by decide) m6 EN.out RE.out)
  clear EN RE
  have l1 := RP1.out.blk.lt
  go_wp2_with fail
  refine NW.out.mono ?_
  rintro e w2 ⟨b2, L2, rv2, lv2, rfl, hr, hbl, hp, hsd, hb⟩
  have hs_ := HB.out.size
  have hWb2 : W.heap.size ≤ b2 := by omega
  have n12 : b1 ≠ b2 := by omega
  have PM2 := Lib.hid (one_new L2 hp)
  have HP2 := Lib.hid (show (L2.map EntX.b).Perm (newE [eB]) from hp)
  have SD2 := Lib.hid (show (L2.map EntX.b).Pairwise leB from List.pairwise_map.2 hsd)
  have RP2 := Lib.hid hr
  clear hr hp hsd NW hbl hs_ l1 k1lt f0_ f1_ f2_
  clear hg4 hm5 hg5 hm6
  replace HB := Lib.hid (hop HB.out (Nat.le_refl _) hb)
  replace K0 := Lib.hid (K0.out.below hb K0.out.lt)
  replace K1 := Lib.hid (K1.out.below hb K1.out.lt)
  replace RP1 := Lib.hid (RP1.out.below hb)
  clear hb
  clear K0 K1
  have hb_ : Below w2.heap.size w2 (w2.alloc (.cells #[.pointer (some ⟨b1, 0, none⟩), .pointer (some ⟨b2, 0, none⟩)] 86)) := (Below.refl _ _).alloc (Nat.le_refl _) _
  obtain ⟨g6, hg6⟩ : ∃ g, w2.heap.size = g := ⟨_, rfl⟩
  have KP := Lib.hid (show Blk (w2.alloc (.cells #[.pointer (some ⟨b1, 0, none⟩), .pointer (some ⟨b2, 0, none⟩)] 86)) g6 86 #[.pointer (some ⟨b1, 0, none⟩), .pointer (some ⟨b2, 0, none⟩)] from by rw [← hg6]; exact Blk.new _ _ _)
  obtain ⟨m7, hm7⟩ : ∃ z, w2.alloc (.cells #[.pointer (some ⟨b1, 0, none⟩), .pointer (some ⟨b2, 0, none⟩)] 86) = z := ⟨_, rfl⟩
  rw [hm7] at hb_ KP
  replace HB := Lib.hid (hop HB.out (Nat.le_refl _) hb_)
  replace RP1 := Lib.hid (RP1.out.below hb_)
  replace RP2 := Lib.hid (RP2.out.below hb_)
  clear hb_
  have RW := Lib.hid (show RowR ptrV 1 m7 (some ⟨g6, 0, none⟩) 2 [b1, b2] from row_blk ptrV_len KP.out)
  have RS := Lib.hid (show RepsP 0 m7 [⟨b1, [⟨false, 1⟩, ⟨true, 0⟩], 0, L1, rv1, lv1⟩, ⟨b2, [⟨false, 0⟩, ⟨true, 0⟩], 0, L2, rv2, lv2⟩] from ⟨fun x hx => by
    simp only [List.mem_cons, List.not_mem_nil, or_false] at hx
    rcases hx with rfl | rfl
    · exact RP1.out.mono (Nat.zero_le _)
    · exact RP2.out.mono (Nat.zero_le _), by
    show List.Pairwise (· ≠ ·) [b1, b2]
    simp [n12]⟩)
  have NF := Lib.hid (fanNew_any 0 (some ⟨g6, 0, none⟩) 2 2 [⟨b1, [⟨false, 1⟩, ⟨true, 0⟩], 0, L1, rv1, lv1⟩, ⟨b2, [⟨false, 0⟩, ⟨true, 0⟩], 0, L2, rv2, lv2⟩] (by decide) (by decide) m7 (Nat.zero_le _) RW.out RS.out)
  go_wp2_with fail
  refine NF.out.mono ?_
  rintro e w3 ⟨f, rv, ov, rfl, hfp, hfl, hb⟩
  have hs_ := HB.out.size
  have hWf : W.heap.size ≤ f := by omega
  have FP := Lib.hid (show FanP 0 w3 f [⟨b1, [⟨false, 1⟩, ⟨true, 0⟩], 0, L1, rv1, lv1⟩, ⟨b2, [⟨false, 0⟩, ⟨true, 0⟩], 0, L2, rv2, lv2⟩] [0, 1] rv ov from hfp)
  clear hfp hfl hs_ NF RW RS
  clear hg6 hm7
  clear KP RP1 RP2
  replace HB := Lib.hid (hop HB.out (Nat.le_refl _) hb)
  clear hb
  go_wp2_with fail
  refine (fanNewNone_any w3).mono ?_
  rintro e _ ⟨rfl, rfl⟩
  have hb_ : Below w3.heap.size w3 (w3.alloc (.cells #[.pointer (some ⟨b1, 0, none⟩), .pointer none] 86)) := (Below.refl _ _).alloc (Nat.le_refl _) _
  obtain ⟨g7, hg7⟩ : ∃ g, w3.heap.size = g := ⟨_, rfl⟩
  have KP := Lib.hid (show Blk (w3.alloc (.cells #[.pointer (some ⟨b1, 0, none⟩), .pointer none] 86)) g7 86 #[.pointer (some ⟨b1, 0, none⟩), .pointer none] from by rw [← hg7]; exact Blk.new _ _ _)
  obtain ⟨m8, hm8⟩ : ∃ z, w3.alloc (.cells #[.pointer (some ⟨b1, 0, none⟩), .pointer none] 86) = z := ⟨_, rfl⟩
  rw [hm8] at hb_ KP
  replace HB := Lib.hid (hop HB.out (Nat.le_refl _) hb_)
  replace FP := Lib.hid (FP.out.below hb_)
  clear hb_
  have NN := Lib.hid (fanNewNil_any (some ⟨g7, 0, none⟩) 2 2 [some b1, none] (by decide) (by decide) rfl m8 (row_blk (V := ptrO) (fun _ => rfl) KP.out))
  go_wp2_with fail
  refine NN.out.mono ?_
  rintro e _ ⟨rfl, rfl⟩
  clear NN
  clear hg7 hm8
  clear KP
  go_wp2_with fail
  refine (everyNone_any m8).mono ?_
  rintro e w5 ⟨rfl, hao, hb⟩
  obtain ⟨ma, hma⟩ : ∃ g, m8.heap.size = g := ⟨_, rfl⟩
  rw [hma] at hao ⊢
  have AO := Lib.hid hao
  clear hao hma
  replace HB := Lib.hid (hop HB.out (Nat.le_refl _) hb)
  replace FP := Lib.hid (FP.out.below hb)
  clear hb
  have hb_ : Below w5.heap.size w5 (w5.alloc (.cells #[.int .i64 0, .int .i64 9, .bool true, .int .i64 5, .bool false, .int .i64 0, .slice none 0 0, .string ⟨#[]⟩] 49)) := (Below.refl _ _).alloc (Nat.le_refl _) _
  obtain ⟨g8, hg8⟩ : ∃ g, w5.heap.size = g := ⟨_, rfl⟩
  have K6 := Lib.hid (show Blk (w5.alloc (.cells #[.int .i64 0, .int .i64 9, .bool true, .int .i64 5, .bool false, .int .i64 0, .slice none 0 0, .string ⟨#[]⟩] 49)) g8 49 #[.int .i64 0, .int .i64 9, .bool true, .int .i64 5, .bool false, .int .i64 0, .slice none 0 0, .string ⟨#[]⟩] from by rw [← hg8]; exact Blk.new _ _ _)
  obtain ⟨m9, hm9⟩ : ∃ z, w5.alloc (.cells #[.int .i64 0, .int .i64 9, .bool true, .int .i64 5, .bool false, .int .i64 0, .slice none 0 0, .string ⟨#[]⟩] 49) = z := ⟨_, rfl⟩
  rw [hm9] at hb_ K6
  replace HB := Lib.hid (hop HB.out (Nat.le_refl _) hb_)
  replace FP := Lib.hid (FP.out.below hb_)
  replace AO := Lib.hid (AO.out.below hb_ AO.out.lt)
  clear hb_
  have Hm9 := Lib.hid hm9
  have Hg8 := Lib.hid hg8
  clear hm9 hg8
  have BSL := Lib.hid (show ∀ b ∈ [b1, b2], W.heap.size ≤ b from fun b hb => by simp only [List.mem_cons, List.not_mem_nil, or_false] at hb; rcases hb with rfl | rfl; exact hWb1; exact hWb2)
  have ORD := Lib.hid (show OrdP 2 [0, 1] from ⟨by decide, by decide⟩)
  have OKX := Lib.hid (show ∀ x ∈ ([⟨b1, [⟨false, 1⟩, ⟨true, 0⟩], 0, L1, rv1, lv1⟩, ⟨b2, [⟨false, 0⟩, ⟨true, 0⟩], 0, L2, rv2, lv2⟩] : List ReplX), OkX 0 (.pointer (some ⟨ma, 0, none⟩)) (fun _ => true) (fun w => Blk w ma 108 #[.slice none 0 0]) x from fun x hx => by
    simp only [List.mem_cons, List.not_mem_nil, or_false] at hx
    rcases hx with rfl | rfl
    · exact okX_new [eA, eB] (by decide) (by decide) (by decide) (by decide) HP1.out (Nat.zero_le _) (none_test b1 ma)
    · exact okX_new [eB] (by decide) (by decide) (by decide) (by decide) HP2.out (Nat.zero_le _) (none_test b2 ma))
  have SRT := Lib.hid (show ∀ x ∈ ([⟨b1, [⟨false, 1⟩, ⟨true, 0⟩], 0, L1, rv1, lv1⟩, ⟨b2, [⟨false, 0⟩, ⟨true, 0⟩], 0, L2, rv2, lv2⟩] : List ReplX), (x.L.map EntX.b).Pairwise leB from fun x hx => by
    simp only [List.mem_cons, List.not_mem_nil, or_false] at hx
    rcases hx with rfl | rfl
    · exact SD1.out
    · exact SD2.out)
  have INB := Lib.hid (show ∀ x ∈ ([⟨b1, [⟨false, 1⟩, ⟨true, 0⟩], 0, L1, rv1, lv1⟩, ⟨b2, [⟨false, 0⟩, ⟨true, 0⟩], 0, L2, rv2, lv2⟩] : List ReplX), x.b ∈ [b1, b2] from fun x hx => by
    simp only [List.mem_cons, List.not_mem_nil, or_false] at hx
    rcases hx with rfl | rfl
    · exact List.mem_cons_self
    · exact List.mem_cons_of_mem _ List.mem_cons_self)
  have ETL := Lib.hid (show tellsX (fun _ => true) (AskX.b ⟨0, 9, true, 5, false, ⟨0, none, 0, 0, [], ⟨#[]⟩⟩⟩) (orderX [⟨b1, [⟨false, 1⟩, ⟨true, 0⟩], 0, L1, rv1, lv1⟩, ⟨b2, [⟨false, 0⟩, ⟨true, 0⟩], 0, L2, rv2, lv2⟩] [0, 1]) = [[eA], [eB]] from by
    rw [tells_seen]
    show tells0 (fun _ => true) _ [(⟨false, 1⟩, L1.map EntX.b), (⟨false, 0⟩, L2.map EntX.b)] = _
    rw [PM1.out, PM2.out]
    kernel_rfl)
  have EEN := Lib.hid (show endsX (fun _ => true) (AskX.b ⟨0, 9, true, 5, false, ⟨0, none, 0, 0, [], ⟨#[]⟩⟩⟩) (orderX [⟨b1, [⟨false, 1⟩, ⟨true, 0⟩], 0, L1, rv1, lv1⟩, ⟨b2, [⟨false, 0⟩, ⟨true, 0⟩], 0, L2, rv2, lv2⟩] [0, 1]) = [eA] from by
    rw [ends_seen]
    show ends0 (fun _ => true) _ [(⟨false, 1⟩, L1.map EntX.b), (⟨false, 0⟩, L2.map EntX.b)] = _
    rw [PM1.out, PM2.out]
    kernel_rfl)
  have FE := Lib.hid (fetch_lit 0 0 f [b1, b2] [⟨b1, [⟨false, 1⟩, ⟨true, 0⟩], 0, L1, rv1, lv1⟩, ⟨b2, [⟨false, 0⟩, ⟨true, 0⟩], 0, L2, rv2, lv2⟩] [0, 1] rv ov ⟨ma, 0, none⟩ (fun _ => true) (fun w => Blk w ma 108 #[.slice none 0 0]) ⟨0, 9, true, 5, false, ⟨0, none, 0, 0, [], ⟨#[]⟩⟩⟩ (by show 2 ≤ 4; decide) ORD.out OKX.out SRT.out INB.out (fun w w' h hb => h.below hb h.lt) (by decide +kernel) (by decide) m9 FP.out AO.out (good_nilS _ _ _ (by decide) (by decide)) true 0 [eA] [⟨b1, [⟨false, 1⟩, ⟨true, 0⟩], 1, L1, rv1, lv1⟩, ⟨b2, [⟨false, 0⟩, ⟨true, 0⟩], 1, L2, rv2, lv2⟩] (by rw [EEN.out]; rfl) (by rw [ETL.out]; rfl) (by rw [ETL.out, EEN.out]; kernel_rfl) rfl)
  clear OKX SRT INB ETL EEN
  have a0_ : m9.cell? ⟨g8, 0, none⟩ = some (.int .i64 0) := (K6.out.cell 0).trans rfl
  have a1_ : m9.cell? ⟨g8, 1, none⟩ = some (.int .i64 9) := (K6.out.cell 1).trans rfl
  have a2_ : m9.cell? ⟨g8, 2, none⟩ = some (.bool true) := (K6.out.cell 2).trans rfl
  have a3_ : m9.cell? ⟨g8, 3, none⟩ = some (.int .i64 5) := (K6.out.cell 3).trans rfl
  have a4_ : m9.cell? ⟨g8, 4, none⟩ = some (.bool false) := (K6.out.cell 4).trans rfl
  have a5_ : m9.cell? ⟨g8, 5, none⟩ = some (.int .i64 0) := (K6.out.cell 5).trans rfl
  have a6_ : m9.cell? ⟨g8, 6, none⟩ = some (.slice none 0 0) := (K6.out.cell 6).trans rfl
  have a7_ : m9.cell? ⟨g8, 7, none⟩ = some (.string ⟨#[]⟩) := (K6.out.cell 7).trans rfl
  have k6lt := K6.out.lt
  go_wp2_with fail
  (try rw [Hm9.out]); (try rw [Hg8.out])
  refine (show Calls Tryz.prog 17 #[.pointer (some ⟨f, 0, none⟩), .agg #[.int .i64 0, .int .i64 9, .bool true, .int .i64 5, .bool false, .int .i64 0, .slice none 0 0, .string ⟨#[]⟩], .pointer (some ⟨ma, 0, none⟩)] m9 _ from FE.out).mono ?_
  rintro e w7 ⟨vp, Lfp, rfl, ho, hm, hfp, hh⟩
  replace FP := Lib.hid hfp
  clear hfp FE k6lt a0_ a1_ a2_ a3_ a4_ a5_ a6_ a7_
  replace HB := Lib.hid (hh.under HB.out BSL.out HB.out.size)
  replace AO := Lib.hid (AO.out.hopsT hh (by decide))
  replace K6 := Lib.hid (K6.out.hopsT hh (by decide))
  have Vp := Lib.hid ho
  have VMp := Lib.hid hm
  clear ho hm hh
  obtain ⟨gp, cp, hvp, _, _⟩ := own_oneE (OwnE.mono Vp.out (Nat.le_refl _) (Nat.zero_le _)) VMp.out
  subst hvp
  have OKX := Lib.hid (show ∀ x ∈ ([⟨b1, [⟨false, 1⟩, ⟨true, 0⟩], 1, L1, rv1, lv1⟩, ⟨b2, [⟨false, 0⟩, ⟨true, 0⟩], 1, L2, rv2, lv2⟩] : List ReplX), OkX 0 (.pointer (some ⟨ma, 0, none⟩)) (fun _ => true) (fun w => Blk w ma 108 #[.slice none 0 0]) x from fun x hx => by
    simp only [List.mem_cons, List.not_mem_nil, or_false] at hx
    rcases hx with rfl | rfl
    · exact okX_new [eA, eB] (by decide) (by decide) (by decide) (by decide) HP1.out (Nat.zero_le _) (none_test b1 ma)
    · exact okX_new [eB] (by decide) (by decide) (by decide) (by decide) HP2.out (Nat.zero_le _) (none_test b2 ma))
  have SRT := Lib.hid (show ∀ x ∈ ([⟨b1, [⟨false, 1⟩, ⟨true, 0⟩], 1, L1, rv1, lv1⟩, ⟨b2, [⟨false, 0⟩, ⟨true, 0⟩], 1, L2, rv2, lv2⟩] : List ReplX), (x.L.map EntX.b).Pairwise leB from fun x hx => by
    simp only [List.mem_cons, List.not_mem_nil, or_false] at hx
    rcases hx with rfl | rfl
    · exact SD1.out
    · exact SD2.out)
  have INB := Lib.hid (show ∀ x ∈ ([⟨b1, [⟨false, 1⟩, ⟨true, 0⟩], 1, L1, rv1, lv1⟩, ⟨b2, [⟨false, 0⟩, ⟨true, 0⟩], 1, L2, rv2, lv2⟩] : List ReplX), x.b ∈ [b1, b2] from fun x hx => by
    simp only [List.mem_cons, List.not_mem_nil, or_false] at hx
    rcases hx with rfl | rfl
    · exact List.mem_cons_self
    · exact List.mem_cons_of_mem _ List.mem_cons_self)
  have ETL := Lib.hid (show tellsX (fun _ => true) (AskX.b ⟨0, 9, true, 5, false, ⟨0, none, 0, 0, [], ⟨#[]⟩⟩⟩) (orderX [⟨b1, [⟨false, 1⟩, ⟨true, 0⟩], 1, L1, rv1, lv1⟩, ⟨b2, [⟨false, 0⟩, ⟨true, 0⟩], 1, L2, rv2, lv2⟩] [0, 1]) = [] from by
    rw [tells_seen]
    show tells0 (fun _ => true) _ [(⟨true, 0⟩, L1.map EntX.b), (⟨true, 0⟩, L2.map EntX.b)] = _
    rw [PM1.out, PM2.out]
    kernel_rfl)
  have EEN := Lib.hid (show endsX (fun _ => true) (AskX.b ⟨0, 9, true, 5, false, ⟨0, none, 0, 0, [], ⟨#[]⟩⟩⟩) (orderX [⟨b1, [⟨false, 1⟩, ⟨true, 0⟩], 1, L1, rv1, lv1⟩, ⟨b2, [⟨false, 0⟩, ⟨true, 0⟩], 1, L2, rv2, lv2⟩] [0, 1]) = [] from by
    rw [ends_seen]
    show ends0 (fun _ => true) _ [(⟨true, 0⟩, L1.map EntX.b), (⟨true, 0⟩, L2.map EntX.b)] = _
    rw [PM1.out, PM2.out]
    kernel_rfl)
  have FE := Lib.hid (fetch_lit 0 0 f [b1, b2] [⟨b1, [⟨false, 1⟩, ⟨true, 0⟩], 1, L1, rv1, lv1⟩, ⟨b2, [⟨false, 0⟩, ⟨true, 0⟩], 1, L2, rv2, lv2⟩] [0, 1] rv ov ⟨ma, 0, none⟩ (fun _ => true) (fun w => Blk w ma 108 #[.slice none 0 0]) ⟨0, 9, true, 5, false, ⟨0, none, 0, 0, [], ⟨#[]⟩⟩⟩ (by show 2 ≤ 4; decide) ORD.out OKX.out SRT.out INB.out (fun w w' h hb => h.below hb h.lt) (by decide +kernel) (by decide) w7 FP.out AO.out (good_nilS _ _ _ (by decide) (by decide)) false 7 [] [⟨b1, [⟨false, 1⟩, ⟨true, 0⟩], 2, L1, rv1, lv1⟩, ⟨b2, [⟨false, 0⟩, ⟨true, 0⟩], 2, L2, rv2, lv2⟩] (by rw [EEN.out]; rfl) (by rw [ETL.out]; rfl) (by rw [ETL.out, EEN.out]; kernel_rfl) rfl)
  clear OKX SRT INB ETL EEN
  have a0_ : w7.cell? ⟨g8, 0, none⟩ = some (.int .i64 0) := (K6.out.cell 0).trans rfl
  have a1_ : w7.cell? ⟨g8, 1, none⟩ = some (.int .i64 9) := (K6.out.cell 1).trans rfl
  have a2_ : w7.cell? ⟨g8, 2, none⟩ = some (.bool true) := (K6.out.cell 2).trans rfl
  have a3_ : w7.cell? ⟨g8, 3, none⟩ = some (.int .i64 5) := (K6.out.cell 3).trans rfl
  have a4_ : w7.cell? ⟨g8, 4, none⟩ = some (.bool false) := (K6.out.cell 4).trans rfl
  have a5_ : w7.cell? ⟨g8, 5, none⟩ = some (.int .i64 0) := (K6.out.cell 5).trans rfl
  have a6_ : w7.cell? ⟨g8, 6, none⟩ = some (.slice none 0 0) := (K6.out.cell 6).trans rfl
  have a7_ : w7.cell? ⟨g8, 7, none⟩ = some (.string ⟨#[]⟩) := (K6.out.cell 7).trans rfl
  have k6lt := K6.out.lt
  go_wp2_with fail
  (try rw [Hm9.out]); (try rw [Hg8.out])
  refine (show Calls Tryz.prog 17 #[.pointer (some ⟨f, 0, none⟩), .agg #[.int .i64 0, .int .i64 9, .bool true, .int .i64 5, .bool false, .int .i64 0, .slice none 0 0, .string ⟨#[]⟩], .pointer (some ⟨ma, 0, none⟩)] w7 _ from FE.out).mono ?_
  rintro e w8 ⟨vq, Lfq, rfl, ho, hm, hfp, hh⟩
  replace FP := Lib.hid hfp
  clear hfp FE k6lt a0_ a1_ a2_ a3_ a4_ a5_ a6_ a7_
  replace HB := Lib.hid (hh.under HB.out BSL.out HB.out.size)
  replace AO := Lib.hid (AO.out.hopsT hh (by decide))
  replace K6 := Lib.hid (K6.out.hopsT hh (by decide))
  replace Vp := Lib.hid (Vp.out.hops hh (fun _ _ => Nat.zero_le _) (by decide) (by decide))
  obtain ⟨vAq, vcq, hvq⟩ := OwnR.shape ho.1
  subst hvq
  clear ho hm hh
  have hb_ : Below w8.heap.size w8 (w8.alloc (.cells #[.int .i64 2] 3)) := (Below.refl _ _).alloc (Nat.le_refl _) _
  obtain ⟨g9, hg9⟩ : ∃ g, w8.heap.size = g := ⟨_, rfl⟩
  have KI := Lib.hid (show Blk (w8.alloc (.cells #[.int .i64 2] 3)) g9 3 #[.int .i64 2] from by rw [← hg9]; exact Blk.new _ _ _)
  obtain ⟨m10, hm10⟩ : ∃ z, w8.alloc (.cells #[.int .i64 2] 3) = z := ⟨_, rfl⟩
  rw [hm10] at hb_ KI
  replace HB := Lib.hid (hop HB.out (Nat.le_refl _) hb_)
  replace FP := Lib.hid (FP.out.below hb_)
  replace AO := Lib.hid (AO.out.below hb_ AO.out.lt)
  replace K6 := Lib.hid (K6.out.below hb_ K6.out.lt)
  replace Vp := Lib.hid (Vp.out.below hb_)
  clear hb_
  have ORC := Lib.hid (fanOrder_any 0 f [⟨b1, [⟨false, 1⟩, ⟨true, 0⟩], 2, L1, rv1, lv1⟩, ⟨b2, [⟨false, 0⟩, ⟨true, 0⟩], 2, L2, rv2, lv2⟩] [0, 1] rv ov (some ⟨g9, 0, none⟩) 1 1 [2] (by show 2 ≤ 4; decide) (by decide) (fun z hz => by rw [List.mem_singleton.1 hz]; exact ⟨by decide, by decide⟩) m10 (Nat.zero_le _) FP.out (row_blk (V := numV) (fun _ => rfl) KI.out) (fun b o e => by
    injection e with e
    injection e with e _ _
    subst e
    exact blk_apart KI.out FP.out.blk (by decide)))
  go_wp2_with fail
  refine ORC.out.mono ?_
  rintro e w9 ⟨rfl, ov2, hfp, hf⟩
  have fb_ := FP.out.blk
  clear ORC ORD
  clear hg9 hm10
  replace HB := Lib.hid (hf.below HB.out hWf HB.out.size)
  replace AO := Lib.hid (AO.out.fg hf (blk_apart AO.out fb_ (by decide)))
  replace K6 := Lib.hid (K6.out.fg hf (blk_apart K6.out fb_ (by decide)))
  replace Vp := Lib.hid (Vp.out.fgT hf (Nat.zero_le _) fb_ (by decide) (by decide))
  replace KI := Lib.hid (KI.out.fg hf (blk_apart KI.out fb_ (by decide)))
  replace FP := Lib.hid (show FanP 0 w9 f [⟨b1, [⟨false, 1⟩, ⟨true, 0⟩], 2, L1, rv1, lv1⟩, ⟨b2, [⟨false, 0⟩, ⟨true, 0⟩], 2, L2, rv2, lv2⟩] [1, 0] rv ov2 from hfp)
  clear hfp hf fb_
  have ORD := Lib.hid (show OrdP 2 [1, 0] from ⟨by decide, by decide⟩)
  obtain ⟨ov, hov⟩ : ∃ z, ov2 = z := ⟨_, rfl⟩
  subst hov
  clear KI
  have OKX := Lib.hid (show ∀ x ∈ ([⟨b1, [⟨false, 1⟩, ⟨true, 0⟩], 2, L1, rv1, lv1⟩, ⟨b2, [⟨false, 0⟩, ⟨true, 0⟩], 2, L2, rv2, lv2⟩] : List ReplX), OkX 0 (.pointer (some ⟨ma, 0, none⟩)) (fun _ => true) (fun w => Blk w ma 108 #[.slice none 0 0]) x from fun x hx => by
    simp only [List.mem_cons, List.not_mem_nil, or_false] at hx
    rcases hx with rfl | rfl
    · exact okX_new [eA, eB] (by decide) (by decide) (by decide) (by decide) HP1.out (Nat.zero_le _) (none_test b1 ma)
    · exact okX_new [eB] (by decide) (by decide) (by decide) (by decide) HP2.out (Nat.zero_le _) (none_test b2 ma))
  have SRT := Lib.hid (show ∀ x ∈ ([⟨b1, [⟨false, 1⟩, ⟨true, 0⟩], 2, L1, rv1, lv1⟩, ⟨b2, [⟨false, 0⟩, ⟨true, 0⟩], 2, L2, rv2, lv2⟩] : List ReplX), (x.L.map EntX.b).Pairwise leB from fun x hx => by
    simp only [List.mem_cons, List.not_mem_nil, or_false] at hx
    rcases hx with rfl | rfl
    · exact SD1.out
    · exact SD2.out)
  have INB := Lib.hid (show ∀ x ∈ ([⟨b1, [⟨false, 1⟩, ⟨true, 0⟩], 2, L1, rv1, lv1⟩, ⟨b2, [⟨false, 0⟩, ⟨true, 0⟩], 2, L2, rv2, lv2⟩] : List ReplX), x.b ∈ [b1, b2] from fun x hx => by
    simp only [List.mem_cons, List.not_mem_nil, or_false] at hx
    rcases hx with rfl | rfl
    · exact List.mem_cons_self
    · exact List.mem_cons_of_mem _ List.mem_cons_self)
  have ETL := Lib.hid (show tellsX (fun _ => true) (AskX.b ⟨0, 9, true, 5, false, ⟨0, none, 0, 0, [], ⟨#[]⟩⟩⟩) (orderX [⟨b1, [⟨false, 1⟩, ⟨true, 0⟩], 2, L1, rv1, lv1⟩, ⟨b2, [⟨false, 0⟩, ⟨true, 0⟩], 2, L2, rv2, lv2⟩] [1, 0]) = [[eB], [eA, eB]] from by
    rw [tells_seen]
    show tells0 (fun _ => true) _ [(⟨false, 0⟩, L2.map EntX.b), (⟨false, 0⟩, L1.map EntX.b)] = _
    rw [PM1.out, PM2.out]
    kernel_rfl)
  have EEN := Lib.hid (show endsX (fun _ => true) (AskX.b ⟨0, 9, true, 5, false, ⟨0, none, 0, 0, [], ⟨#[]⟩⟩⟩) (orderX [⟨b1, [⟨false, 1⟩, ⟨true, 0⟩], 2, L1, rv1, lv1⟩, ⟨b2, [⟨false, 0⟩, ⟨true, 0⟩], 2, L2, rv2, lv2⟩] [1, 0]) = [] from by
    rw [ends_seen]
    show ends0 (fun _ => true) _ [(⟨false, 0⟩, L2.map EntX.b), (⟨false, 0⟩, L1.map EntX.b)] = _
    rw [PM1.out, PM2.out]
    kernel_rfl)
  have FE := Lib.hid (fetch_lit 0 0 f [b1, b2] [⟨b1, [⟨false, 1⟩, ⟨true, 0⟩], 2, L1, rv1, lv1⟩, ⟨b2, [⟨false, 0⟩, ⟨true, 0⟩], 2, L2, rv2, lv2⟩] [1, 0] rv ov2 ⟨ma, 0, none⟩ (fun _ => true) (fun w => Blk w ma 108 #[.slice none 0 0]) ⟨0, 9, true, 5, false, ⟨0, none, 0, 0, [], ⟨#[]⟩⟩⟩ (by show 2 ≤ 4; decide) ORD.out OKX.out SRT.out INB.out (fun w w' h hb => h.below hb h.lt) (by decide +kernel) (by decide) w9 FP.out AO.out (good_nilS _ _ _ (by decide) (by decide)) false 0 [eA, eB] [⟨b1, [⟨false, 1⟩, ⟨true, 0⟩], 3, L1, rv1, lv1⟩, ⟨b2, [⟨false, 0⟩, ⟨true, 0⟩], 3, L2, rv2, lv2⟩] (by rw [EEN.out]; rfl) (by rw [ETL.out]; rfl) (by rw [ETL.out, EEN.out]; kernel_rfl) rfl)
  clear OKX SRT INB ETL EEN
  have a0_ : w9.cell? ⟨g8, 0, none⟩ = some (.int .i64 0) := (K6.out.cell 0).trans rfl
  have a1_ : w9.cell? ⟨g8, 1, none⟩ = some (.int .i64 9) := (K6.out.cell 1).trans rfl
  have a2_ : w9.cell? ⟨g8, 2, none⟩ = some (.bool true) := (K6.out.cell 2).trans rfl
  have a3_ : w9.cell? ⟨g8, 3, none⟩ = some (.int .i64 5) := (K6.out.cell 3).trans rfl
  have a4_ : w9.cell? ⟨g8, 4, none⟩ = some (.bool false) := (K6.out.cell 4).trans rfl
  have a5_ : w9.cell? ⟨g8, 5, none⟩ = some (.int .i64 0) := (K6.out.cell 5).trans rfl
  have a6_ : w9.cell? ⟨g8, 6, none⟩ = some (.slice none 0 0) := (K6.out.cell 6).trans rfl
  have a7_ : w9.cell? ⟨g8, 7, none⟩ = some (.string ⟨#[]⟩) := (K6.out.cell 7).trans rfl
  have k6lt := K6.out.lt
  go_wp2_with fail
  (try rw [Hm9.out]); (try rw [Hg8.out])
  refine (show Calls Tryz.prog 17 #[.pointer (some ⟨f, 0, none⟩), .agg #[.int .i64 0, .int .i64 9, .bool true, .int .i64 5, .bool false, .int .i64 0, .slice none 0 0, .string ⟨#[]⟩], .pointer (some ⟨ma, 0, none⟩)] w9 _ from FE.out).mono ?_
  rintro e w10 ⟨vr, Lfr, rfl, ho, hm, hfp, hh⟩
  replace FP := Lib.hid hfp
  clear hfp FE k6lt a0_ a1_ a2_ a3_ a4_ a5_ a6_ a7_
  replace HB := Lib.hid (hh.under HB.out BSL.out HB.out.size)
  replace AO := Lib.hid (AO.out.hopsT hh (by decide))
  replace K6 := Lib.hid (K6.out.hopsT hh (by decide))
  replace Vp := Lib.hid (Vp.out.hops hh (fun _ _ => Nat.zero_le _) (by decide) (by decide))
  have Vr := Lib.hid ho
  have VMr := Lib.hid hm
  clear ho hm hh
  have HR2 := Lib.hid (show Lfr.length = 2 from by
    have h1 := congrArg List.length VMr.out
    rwa [List.length_map] at h1)
  obtain ⟨rA, rc, hvr⟩ := OwnR.shape Vr.out.1
  rw [HR2.out] at hvr
  subst hvr
  clear Vr
  clear VMr HR2
  have FB := Lib.hid (fetchBad_any ⟨0, 0, false, 0, false, ⟨0, none, 0, 0, [], ⟨#[]⟩⟩⟩ (.pointer (some ⟨f, 0, none⟩)) (.pointer (some ⟨ma, 0, none⟩)) w10 (by decide +kernel))
  go_wp2_with fail
  refine (show Calls Tryz.prog 17 #[.pointer (some ⟨f, 0, none⟩), .agg #[.int .i64 0, .int .i64 0, .bool false, .int .i64 0, .bool false, .int .i64 0, .slice none 0 0, .string ⟨#[]⟩], .pointer (some ⟨ma, 0, none⟩)] w10 _ from FB.out).mono ?_
  rintro e w11 ⟨rfl, hb⟩
  clear FB
  replace HB := Lib.hid (hop HB.out (Nat.le_refl _) hb)
  replace FP := Lib.hid (FP.out.below hb)
  replace AO := Lib.hid (AO.out.below hb AO.out.lt)
  replace K6 := Lib.hid (K6.out.below hb K6.out.lt)
  replace Vp := Lib.hid (Vp.out.below hb)
  clear hb
  obtain ⟨gp2, cp2, hvp2, p0_, _⟩ := own_oneE (OwnE.mono Vp.out (Nat.le_refl _) (Nat.zero_le _)) VMp.out
  injection hvp2 with h1 _ h3
  injection h1 with h1
  injection h1 with h1 _ _
  subst h1 h3
  have CA := Lib.hid (fanCalls_any 0 f [⟨b1, [⟨false, 1⟩, ⟨true, 0⟩], 3, L1, rv1, lv1⟩, ⟨b2, [⟨false, 0⟩, ⟨true, 0⟩], 3, L2, rv2, lv2⟩] [1, 0] rv ov2 (by show 2 ≤ 4; decide) (fun x hx => by
    simp only [List.mem_cons, List.not_mem_nil, or_false] at hx
    rcases hx with rfl | rfl <;> (show 3 ≤ 1000000; decide)) w11 FP.out)
  obtain ⟨RA, rrc, hrv⟩ := OwnR.shape FP.out.row
  have MC := Lib.hid (manyFan_any f rv ov2 RA 2 rrc hrv w11 FP.out.blk)
  have c6 : callsX [⟨b1, [⟨false, 1⟩, ⟨true, 0⟩], 3, L1, rv1, lv1⟩, ⟨b2, [⟨false, 0⟩, ⟨true, 0⟩], 3, L2, rv2, lv2⟩] = 6 := rfl
  rw [c6] at CA
  clear c6 hrv
  have p1_ : w11.cell? ⟨gp, 0, none⟩ = some (.int .i64 1) := p0_
  clear p0_
  go_wp2_with fail
  refine CA.out.mono ?_
  rintro e _ ⟨rfl, rfl⟩
  go_wp2_with fail
  refine MC.out.mono ?_
  rintro e _ ⟨rfl, rfl⟩
  go_wp2
  go_ret
  exact ⟨rfl, HB.out⟩
end Go.Proofs.YtdaainifkldcpaaGreatDoor
