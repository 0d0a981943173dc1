-- shaken
import Derived.Test.YtbkpoimaienhpaaGreatDoorMatEvery
import Derived.Test.YtbkpoimaienhpaaGreatDoorAstStage
namespace Go.Proofs.YtbkpoimaienhpaaGreatDoor
open Go.RowKit
set_option linter.unusedVariables false
set_option linter.unusedSimpArgs false
def xpL : List UInt8 := [120, 43]
def xpT : NodeT := .rep (.one (oneB 120)) 1 (-1)
theorem xp_read : exprP (xpL.length + 1) false xpL = .ok xpT [] := rfl
theorem xp_parse : parseB xpL = (xpT, 2, 0) := by
  have h : RD xpL xpT := xp_read
  rw [h.parse (by decide), show sizeT xpT = 2 by decide +kernel]
  rfl
theorem xp_yes : Whole [120, 120] xpT := (times_whole 2 120 1 (-1)).2 (by decide)
theorem xp_no : ¬ Whole [120, 121] xpT := fun h => by
  have k := ((times_match [120, 121] 120 1 (-1) 0 2).1 h).1
  exact absurd (k.2 1 (by decide) (by decide)) (by decide)
def otL : List UInt8 := [49, 124, 50]
def otT : NodeT := altT [catT (ones [49]), catT (ones [50])]
theorem ot_read : exprP (otL.length + 1) false otL = .ok otT [] := rfl
theorem ot_parse : parseB otL = (otT, 3, 0) := by
  have h : RD otL otT := ot_read
  rw [h.parse (by decide), show sizeT otT = 3 by decide +kernel]
  rfl
theorem ot_whole (s : List UInt8) : Whole s otT ↔ s = [49] ∨ s = [50] := by
  unfold otT
  have h1 : WF (catT (ones [49])) := (RD.nf (l := [49]) (show RD [49] (catT (ones [49])) from rfl)).canB
  have h2 : WF (catT (ones [50])) := (RD.nf (l := [50]) (show RD [50] (catT (ones [50])) from rfl)).canB
  rw [or_whole s h1 h2, plain_whole, plain_whole]
def edL : List UInt8 := [101, 36]
def edT : NodeT := catT (ones [101] ++ [finT])
theorem ed_read : exprP (edL.length + 1) false edL = .ok edT [] := rfl
theorem ed_parse : parseB edL = (edT, 2, 0) := by
  have h : RD edL edT := ed_read
  rw [h.parse (by decide), show sizeT edT = 2 by decide +kernel]
  rfl
theorem ed_found (s : List UInt8) : FoundN s edT ↔ 1 ≤ s.length ∧ s.drop (s.length - 1) = [101] := lend_found s [101]
theorem ex_xp : exprOf ⟨#[120, 43]⟩ = xpT := congrArg Prod.fst xp_parse
theorem ex_ot : exprOf ⟨#[49, 124, 50]⟩ = otT := congrArg Prod.fst ot_parse
theorem ex_ed : exprOf ⟨#[101, 36]⟩ = edT := congrArg Prod.fst ed_parse
theorem ok_xp : okB ⟨#[120, 43]⟩ = true := by unfold okB; rw [show (⟨#[120, 43]⟩ : ByteArray).data.toList = xpL from rfl, xp_parse]; rfl
theorem ok_ot : okB ⟨#[49, 124, 50]⟩ = true := by unfold okB; rw [show (⟨#[49, 124, 50]⟩ : ByteArray).data.toList = otL from rfl, ot_parse]; rfl
theorem ok_ed : okB ⟨#[101, 36]⟩ = true := by unfold okB; rw [show (⟨#[101, 36]⟩ : ByteArray).data.toList = edL from rfl, ed_parse]; rfl
theorem in_t0 : (⟨#[61]⟩ : ByteArray) ∈ textOps := List.mem_cons_self
theorem in_t2 : (⟨#[61, 126]⟩ : ByteArray) ∈ textOps := List.mem_cons_of_mem _ (List.mem_cons_of_mem _ List.mem_cons_self)
theorem in_t3 : (⟨#[33, 126]⟩ : ByteArray) ∈ textOps := List.mem_cons_of_mem _ (List.mem_cons_of_mem _ (List.mem_cons_of_mem _ List.mem_cons_self))
theorem in_l2 : (⟨#[124, 126]⟩ : ByteArray) ∈ lineOps := List.mem_cons_of_mem _ (List.mem_cons_of_mem _ List.mem_cons_self)
theorem bool_no {b : Bool} (h : ¬ b = true) : b = false := by cases b <;> simp_all
theorem x_one : testM ⟨#[33, 126]⟩ ⟨#[120, 43]⟩ ⟨#[120, 120]⟩ = false := by
  rw [testM_nw, ex_xp, (wholeB_iff _ _).2 xp_yes]
  rfl
theorem x_two : testM ⟨#[33, 126]⟩ ⟨#[120, 43]⟩ ⟨#[120, 121]⟩ = true := by
  rw [testM_nw, ex_xp, bool_no (fun h => xp_no ((wholeB_iff _ _).1 h))]
  rfl
def exMs : List MatB := [⟨⟨#[97]⟩, ⟨#[61]⟩, ⟨#[]⟩⟩, ⟨⟨#[98]⟩, ⟨#[61, 126]⟩, ⟨#[49, 124, 50]⟩⟩]
theorem x_all (t : ByteArray) : tellM exMs [(⟨#[98]⟩, t)] = wholeB t.data.toList otT := by
  unfold tellM exMs
  rw [List.all_cons, List.all_cons, List.all_nil, Bool.and_true, testM_eq, testM_w, ex_ot]
  have h1 : (getL [((⟨#[98]⟩ : ByteArray), t)] ⟨#[97]⟩).getD .empty = ⟨#[]⟩ := by unfold getL findL; rfl
  have h2 : (getL [((⟨#[98]⟩ : ByteArray), t)] ⟨#[98]⟩).getD .empty = t := by unfold getL findL; rw [List.find?_cons_of_pos (by simp)]; rfl
  show (eqT ((getL [((⟨#[98]⟩ : ByteArray), t)] ⟨#[97]⟩).getD .empty) ⟨#[]⟩ && wholeB ((getL [((⟨#[98]⟩ : ByteArray), t)] ⟨#[98]⟩).getD .empty).data.toList otT) = _
  rw [h1, h2, show eqT ⟨#[]⟩ ⟨#[]⟩ = true from beq_self_eq_true _, Bool.true_and]
theorem x_three : tellM exMs [(⟨#[98]⟩, ⟨#[50]⟩)] = true := by
  rw [x_all, wholeB_iff, ot_whole]
  exact .inr rfl
theorem x_four : tellM exMs [(⟨#[98]⟩, ⟨#[51]⟩)] = false := by
  rw [x_all]
  refine bool_no (fun h => ?_)
  rcases (ot_whole _).1 ((wholeB_iff _ _).1 h) with h | h <;> exact absurd h (by decide)
theorem x_five : lineM ⟨#[124, 126]⟩ ⟨#[101, 36]⟩ ⟨#[97, 98, 101]⟩ = true := by
  rw [lineM_f, ex_ed, foundB_iff, ed_found]
  exact ⟨by decide, by decide⟩
theorem x_six : lineM ⟨#[124, 126]⟩ ⟨#[101, 36]⟩ ⟨#[101, 98]⟩ = false := by
  rw [lineM_f, ex_ed]
  refine bool_no (fun h => ?_)
  exact absurd ((ed_found _).1 ((foundB_iff _ _).1 h)).2 (by decide)
theorem ex_right : ∀ m ∈ exMs, rightA m.nm m.op m.v = true := by
  intro m hm
  unfold exMs at hm
  rcases List.mem_cons.1 hm with rfl | hm
  · decide +kernel
  · obtain rfl := List.mem_singleton.1 hm
    unfold rightA fitsB
    rw [ok_ot]
    decide +kernel
theorem ex_right1 : rightA ⟨#[97]⟩ ⟨#[33, 126]⟩ ⟨#[120, 43]⟩ = true := by
  unfold rightA fitsB
  rw [ok_xp]
  decide +kernel
theorem ex_line : fitsB lineOps ⟨#[124, 126]⟩ ⟨#[101, 36]⟩ = true := by
  unfold fitsB
  rw [ok_ed]
  decide +kernel
theorem ex_no : rightA ⟨#[]⟩ ⟨#[]⟩ ⟨#[]⟩ = false := by decide +kernel
theorem ex_ops : ∀ m ∈ exMs, m.op ∈ textOps := by
  intro m hm
  unfold exMs at hm
  rcases List.mem_cons.1 hm with rfl | hm
  · exact in_t0
  · obtain rfl := List.mem_singleton.1 hm
    exact in_t2
theorem one_pair (w : World) (x y : ByteArray) : Pairs (w.alloc (.cells #[.string x, .string y] 53)) (some ⟨w.heap.size, 0, none⟩) 1 [(x, y)] := by
  have K := Blk.new w 53 #[.string x, .string y]
  refine ⟨rfl, fun _ => ⟨w.heap.size, 0, rfl, K.lt, fun j hj => ?_⟩⟩
  obtain rfl : j = 0 := by omega
  exact ⟨(K.cell 0).trans rfl, (K.cell 1).trans rfl⟩
theorem ex_row (w : World) : RowR matV 3 (w.alloc (.cells #[.string ⟨#[97]⟩, .string ⟨#[61]⟩, .string ⟨#[]⟩, .string ⟨#[98]⟩, .string ⟨#[61, 126]⟩, .string ⟨#[49, 124, 50]⟩] 30)) (some ⟨w.heap.size, 0, none⟩) 2 exMs := by
  have K := Blk.new w 30 #[.string ⟨#[97]⟩, .string ⟨#[61]⟩, .string ⟨#[]⟩, .string ⟨#[98]⟩, .string ⟨#[61, 126]⟩, .string ⟨#[49, 124, 50]⟩]
  refine ⟨rfl, fun _ => ⟨w.heap.size, 0, rfl, K.lt, fun j i x hj hi => ?_⟩⟩
  unfold exMs at hj
  have hj2 : j < 2 := by
    rcases Nat.lt_or_ge j 2 with h | h
    · exact h
    · rw [List.getElem?_eq_none (by simpa using h)] at hj; cases hj
  rcases (by omega : j = 0 ∨ j = 1) with rfl | rfl <;> (obtain rfl := Option.some.inj hj; rcases (by omega : i = 0 ∨ i = 1 ∨ i = 2) with rfl | rfl | rfl <;> exact (K.cell _).trans rfl)
set_option maxRecDepth 100000 in
set_option maxHeartbeats 3200000 in
theorem examples11_any (W : World) (hl : LibIs W) (hm : MaxAt W) :
    Calls Tryz.prog 7 #[] W fun e w' => e = .returned (.bool true) ∧ Below W.heap.size W w' := by
  have HL := Lib.hid hl
  have HM := Lib.hid hm
  have HB := Lib.hid (Below.refl W.heap.size W)
  clear hl hm
  go_enter Tryz.func7, Tryz.ntmps7
  go_wp2_with fail
  refine (matOf_yes ⟨#[97]⟩ ⟨#[33, 126]⟩ ⟨#[120, 43]⟩ ex_right1 _ (HL.out.below HB.out)).mono ?_
  rintro e w1 ⟨b1, rfl, h1, _, hb⟩
  replace HB := Lib.hid (hop HB.out (Nat.le_refl _) hb)
  clear hb
  have O1 := Lib.hid h1
  clear h1
  go_wp2_with fail
  refine (matOf_no ⟨#[]⟩ ⟨#[]⟩ ⟨#[]⟩ ex_no _ (HL.out.below HB.out)).mono ?_
  rintro e w2 ⟨rfl, hb⟩
  replace O1 := Lib.hid (O1.out.below hb)
  replace HB := Lib.hid (hop HB.out (Nat.le_refl _) hb)
  clear hb
  have hs_ := HB.out.size
  have hb := (Below.refl w2.heap.size w2).alloc (Nat.le_refl _) (.cells #[.string ⟨#[97]⟩, .string ⟨#[61]⟩, .string ⟨#[]⟩, .string ⟨#[98]⟩, .string ⟨#[61, 126]⟩, .string ⟨#[49, 124, 50]⟩] 30)
  replace O1 := Lib.hid (O1.out.below hb)
  replace HB := Lib.hid (hop HB.out (Nat.le_refl _) hb)
  clear hb
  go_wp2_with fail
  refine (every_any (some ⟨w2.heap.size, 0, none⟩) 2 2 exMs (by decide) _ (ex_row w2) ex_right (HL.out.below HB.out)).mono ?_
  rintro e w3 ⟨a1, v1, base1, bs1, rfl, h1, _, hb⟩
  replace O1 := Lib.hid (O1.out.below hb)
  replace HB := Lib.hid (hop HB.out (Nat.le_refl _) hb)
  clear hb
  have OA := Lib.hid h1
  clear h1
  go_wp2_with fail
  refine (lineOf_yes ⟨#[124, 126]⟩ ⟨#[101, 36]⟩ ex_line _ (HL.out.below HB.out)).mono ?_
  rintro e w4 ⟨l1, rfl, h1, _, hb⟩
  replace O1 := Lib.hid (O1.out.below hb)
  replace OA := Lib.hid (OA.out.below hb)
  replace HB := Lib.hid (hop HB.out (Nat.le_refl _) hb)
  clear hb
  have OL := Lib.hid h1
  clear h1
  go_wp2_with fail
  refine (lineOf_kind 2 ⟨#[]⟩ ⟨#[]⟩ ⟨#[]⟩ 0 0 (by decide) _).mono ?_
  rintro e w5 ⟨rfl, hb⟩
  replace O1 := Lib.hid (O1.out.below hb)
  replace OA := Lib.hid (OA.out.below hb)
  replace OL := Lib.hid (OL.out.below hb)
  replace HB := Lib.hid (hop HB.out (Nat.le_refl _) hb)
  clear hb
  go_wp2_with fail
  refine (oneName_any ⟨#[97]⟩ ⟨#[33, 126]⟩ ⟨#[120, 43]⟩ b1 _ O1.out).mono ?_
  rintro e _ ⟨rfl, rfl⟩
  have C_ := oneTest_any ⟨#[97]⟩ ⟨#[33, 126]⟩ ⟨#[120, 43]⟩ b1 ⟨#[120, 120]⟩ w5 O1.out in_t3 (by decide)
  rw [x_one] at C_
  go_wp2_with fail
  refine C_.mono ?_
  rintro e w6 ⟨rfl, hb⟩
  clear C_
  replace O1 := Lib.hid (O1.out.below hb)
  replace OA := Lib.hid (OA.out.below hb)
  replace OL := Lib.hid (OL.out.below hb)
  replace HB := Lib.hid (hop HB.out (Nat.le_refl _) hb)
  clear hb
  have C_ := oneTest_any ⟨#[97]⟩ ⟨#[33, 126]⟩ ⟨#[120, 43]⟩ b1 ⟨#[120, 121]⟩ w6 O1.out in_t3 (by decide)
  rw [x_two] at C_
  go_wp2_with fail
  refine C_.mono ?_
  rintro e w7 ⟨rfl, hb⟩
  clear C_
  replace O1 := Lib.hid (O1.out.below hb)
  replace OA := Lib.hid (OA.out.below hb)
  replace OL := Lib.hid (OL.out.below hb)
  replace HB := Lib.hid (hop HB.out (Nat.le_refl _) hb)
  clear hb
  go_wp2_with fail
  refine (allMany_any a1 v1 base1 bs1 exMs w7 OA.out).mono ?_
  rintro e _ ⟨rfl, rfl⟩
  have hb := (Below.refl w7.heap.size w7).alloc (Nat.le_refl _) (.cells #[.string ⟨#[98]⟩, .string ⟨#[50]⟩] 53)
  replace O1 := Lib.hid (O1.out.below hb)
  replace OA := Lib.hid (OA.out.below hb)
  replace OL := Lib.hid (OL.out.below hb)
  replace HB := Lib.hid (hop HB.out (Nat.le_refl _) hb)
  clear hb
  have C_ := allTest_any a1 v1 base1 bs1 exMs (some ⟨w7.heap.size, 0, none⟩) 1 1 [(⟨#[98]⟩, ⟨#[50]⟩)] (by decide) (by decide) (w7.alloc (.cells #[.string ⟨#[98]⟩, .string ⟨#[50]⟩] 53)) OA.out ex_ops (one_pair w7 ⟨#[98]⟩ ⟨#[50]⟩) (fun p hp => by obtain rfl := List.mem_singleton.1 hp; decide)
  rw [x_three] at C_
  go_wp2_with fail
  refine C_.mono ?_
  rintro e w8 ⟨rfl, hb⟩
  clear C_
  replace O1 := Lib.hid (O1.out.below hb)
  replace OA := Lib.hid (OA.out.below hb)
  replace OL := Lib.hid (OL.out.below hb)
  replace HB := Lib.hid (hop HB.out (Nat.le_refl _) hb)
  clear hb
  have hb := (Below.refl w8.heap.size w8).alloc (Nat.le_refl _) (.cells #[.string ⟨#[98]⟩, .string ⟨#[51]⟩] 53)
  replace O1 := Lib.hid (O1.out.below hb)
  replace OA := Lib.hid (OA.out.below hb)
  replace OL := Lib.hid (OL.out.below hb)
  replace HB := Lib.hid (hop HB.out (Nat.le_refl _) hb)
  clear hb
  have C_ := allTest_any a1 v1 base1 bs1 exMs (some ⟨w8.heap.size, 0, none⟩) 1 1 [(⟨#[98]⟩, ⟨#[51]⟩)] (by decide) (by decide) (w8.alloc (.cells #[.string ⟨#[98]⟩, .string ⟨#[51]⟩] 53)) OA.out ex_ops (one_pair w8 ⟨#[98]⟩ ⟨#[51]⟩) (fun p hp => by obtain rfl := List.mem_singleton.1 hp; decide)
  rw [x_four] at C_
  go_wp2_with fail
  refine C_.mono ?_
  rintro e w9 ⟨rfl, hb⟩
  clear C_
  replace O1 := Lib.hid (O1.out.below hb)
  replace OA := Lib.hid (OA.out.below hb)
  replace OL := Lib.hid (OL.out.below hb)
  replace HB := Lib.hid (hop HB.out (Nat.le_refl _) hb)
  clear hb
  have C_ := lineTest_any ⟨#[124, 126]⟩ ⟨#[101, 36]⟩ l1 ⟨#[97, 98, 101]⟩ w9 OL.out in_l2 (by decide) (HM.out.below HB.out)
  rw [x_five] at C_
  go_wp2_with fail
  refine C_.mono ?_
  rintro e w10 ⟨rfl, hb⟩
  clear C_
  replace O1 := Lib.hid (O1.out.below hb)
  replace OA := Lib.hid (OA.out.below hb)
  replace OL := Lib.hid (OL.out.below hb)
  replace HB := Lib.hid (hop HB.out (Nat.le_refl _) hb)
  clear hb
  have C_ := lineTest_any ⟨#[124, 126]⟩ ⟨#[101, 36]⟩ l1 ⟨#[101, 98]⟩ w10 OL.out in_l2 (by decide) (HM.out.below HB.out)
  rw [x_six] at C_
  go_wp2_with fail
  refine C_.mono ?_
  rintro e w11 ⟨rfl, hb⟩
  clear C_
  replace O1 := Lib.hid (O1.out.below hb)
  replace OA := Lib.hid (OA.out.below hb)
  replace OL := Lib.hid (OL.out.below hb)
  replace HB := Lib.hid (hop HB.out (Nat.le_refl _) hb)
  clear hb
  go_wp2
  go_ret
  exact ⟨rfl, HB.out⟩
end Go.Proofs.YtbkpoimaienhpaaGreatDoor
