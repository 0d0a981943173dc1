-- shaken
import Derived.Test.YtbkpoimaienhpaaGreatDoorShelf
import Derived.Shelf.Vars
import Derived.Test.YtbkpoimaienhpaaGreatDoorBase
import Derived.Test.YtbkpoimaienhpaaGreatDoorMem
import Derived.Test.YtbkpoimaienhpaaGreatDoorAstStage
namespace Go.Proofs.YtbkpoimaienhpaaGreatDoor
open Go.RowKit
set_option linter.unusedVariables false
set_option linter.unusedSimpArgs false
theorem suf_any (op : ByteArray) (hz : op.size ≤ 9223372036854775807) (W : World) : Calls Tryz.prog 32 #[.string op, .string ⟨#[126]⟩] W fun e w' => e = .returned (.bool (sufT op)) ∧ W = w' :=
  (Tryz.strings_HasSuffix op ⟨#[126]⟩ W hz).mono fun _ _ ⟨h1, h2⟩ => ⟨h1, h2.symm⟩
set_option maxRecDepth 100000 in
set_option maxHeartbeats 1600000 in
theorem against_no (op v : ByteArray) (hz : op.size ≤ 9223372036854775807) (h : sufT op = false) (W : World) :
    Calls Tryz.prog 20 #[.string op, .string v] W fun e w' => e = .returned (.agg #[.string op, .string v, .pointer none]) ∧ Below W.heap.size W w' := by
  have K4 := Lib.hid ((Blk.new W 61 #[.string ⟨#[]⟩, .string ⟨#[]⟩, .pointer none]).alloc (.cells #[.string op, .string v, .pointer none] 61))
  have K5 := Lib.hid (blk_next W (.cells #[.string ⟨#[]⟩, .string ⟨#[]⟩, .pointer none] 61) 61 #[.string op, .string v, .pointer none])
  have HB := Lib.hid (show Below W.heap.size W ((W.alloc (.cells #[.string ⟨#[]⟩, .string ⟨#[]⟩, .pointer none] 61)).alloc (.cells #[.string op, .string v, .pointer none] 61)) from ((Below.refl W.heap.size W).alloc (Nat.le_refl _) (.cells #[.string ⟨#[]⟩, .string ⟨#[]⟩, .pointer none] 61)).alloc (by simp) (.cells #[.string op, .string v, .pointer none] 61))
  have SU := Lib.hid (fun w => suf_any op hz w)
  rw [h] at SU
  obtain ⟨w2, hw2⟩ : ∃ z, ((W.alloc (.cells #[.string ⟨#[]⟩, .string ⟨#[]⟩, .pointer none] 61)).alloc (.cells #[.string op, .string v, .pointer none] 61)) = z := ⟨_, rfl⟩
  have HW := Lib.hid hw2
  rw [hw2] at K4 K5 HB
  clear hw2 h
  go_enter Tryz.func20, Tryz.ntmps20
  go_wp2_with fail
  rw [HW.out]
  refine (SU.out _).mono ?_
  rintro e _ ⟨rfl, rfl⟩
  clear HW
  have c0_ := (K5.out.cell 0).trans (show _ = some (Value.string op) from rfl)
  have c1_ := (K5.out.cell 1).trans (show _ = some (Value.string v) from rfl)
  have c2_ := (K5.out.cell 2).trans (show _ = some (.pointer none) from rfl)
  have d0_ := K4.out.cell 0
  have d1_ := K4.out.cell 1
  have d2_ := K4.out.cell 2
  have f0_ := K4.out.frozen 0
  have f1_ := K4.out.frozen 1
  have f2_ := K4.out.frozen 2
  have HB2 := Lib.hid (((HB.out.setCell (p := ⟨W.heap.size, 0, none⟩) (Nat.le_refl _) (.string op)).setCell (p := ⟨W.heap.size, 1, none⟩) (Nat.le_refl _) (.string v)).setCell (p := ⟨W.heap.size, 2, none⟩) (Nat.le_refl _) (.pointer none))
  have K6 := Lib.hid (((K4.out.set_ 0 (.string op)).set_ 1 (.string v)).set_ 2 (.pointer none))
  go_wp2
  refine bodyPost_ret (results_cell_row rfl _ _ W.heap.size 61 #[.string op, .string v, .pointer none] (0, 0) _ rfl K6.out Tryz.underlying61 rfl (by kernel_rfl)) rfl ?_
  exact ⟨rfl, HB2.out⟩
set_option maxRecDepth 100000 in
set_option maxHeartbeats 1600000 in
theorem against_ok (op v : ByteArray) (hz : op.size ≤ 9223372036854775807) (h : sufT op = true) (ho : okB v = true) (W : World) (hl : LibIs W) :
    Calls Tryz.prog 20 #[.string op, .string v] W fun e w' => ∃ b, e = .returned (.agg #[.string op, .string v, .pointer (some ⟨b, 0, none⟩)]) ∧ PrgAt w' b (exprOf v) ∧ Below W.heap.size W w' := by
  have K4 := Lib.hid ((Blk.new W 61 #[.string ⟨#[]⟩, .string ⟨#[]⟩, .pointer none]).alloc (.cells #[.string op, .string v, .pointer none] 61))
  have K5 := Lib.hid (blk_next W (.cells #[.string ⟨#[]⟩, .string ⟨#[]⟩, .pointer none] 61) 61 #[.string op, .string v, .pointer none])
  have HB := Lib.hid (show Below W.heap.size W ((W.alloc (.cells #[.string ⟨#[]⟩, .string ⟨#[]⟩, .pointer none] 61)).alloc (.cells #[.string op, .string v, .pointer none] 61)) from ((Below.refl W.heap.size W).alloc (Nat.le_refl _) (.cells #[.string ⟨#[]⟩, .string ⟨#[]⟩, .pointer none] 61)).alloc (by simp) (.cells #[.string op, .string v, .pointer none] 61))
  have SU := Lib.hid (fun w => suf_any op hz w)
  rw [h] at SU
  obtain ⟨w2, hw2⟩ : ∃ z, ((W.alloc (.cells #[.string ⟨#[]⟩, .string ⟨#[]⟩, .pointer none] 61)).alloc (.cells #[.string op, .string v, .pointer none] 61)) = z := ⟨_, rfl⟩
  have HW := Lib.hid hw2
  rw [hw2] at K4 K5 HB
  have OF := Lib.hid (of_ok v (exprOf v) _ w2 (hl.below HB.out) (ok_parse ho))
  clear hw2 h hl ho
  go_enter Tryz.func20, Tryz.ntmps20
  go_wp2_with fail
  rw [HW.out]
  refine (SU.out _).mono ?_
  rintro e _ ⟨rfl, rfl⟩
  clear HW
  go_wp2_with fail
  refine OF.out.mono ?_
  rintro e w3 ⟨b, rfl, hp, _, hb⟩
  have J4 := K4.out.below hb K4.out.lt
  have J5 := K5.out.below hb K5.out.lt
  have HB3 := hop HB.out (Nat.le_refl _) hb
  have m2_ := J5.cell 2
  have n2_ := J5.frozen 2
  have K5s := Lib.hid (J5.set_ 2 (.pointer (some ⟨b, 0, none⟩)))
  have K4s := Lib.hid (J4.far (p := ⟨W.heap.size + 1, 2, none⟩) (by show W.heap.size ≠ W.heap.size + 1; omega) (.pointer (some ⟨b, 0, none⟩)))
  have HP := Lib.hid (hp.only (Save.set J5 2 (.pointer (some ⟨b, 0, none⟩))) (by decide) (by decide))
  have HBs := Lib.hid (HB3.setCell (p := ⟨W.heap.size + 1, 2, none⟩) (by show W.heap.size ≤ W.heap.size + 1; omega) (.pointer (some ⟨b, 0, none⟩)))
  obtain ⟨w4, hw4⟩ : ∃ z, w3.setCell ⟨W.heap.size + 1, 2, none⟩ (.pointer (some ⟨b, 0, none⟩)) = z := ⟨_, rfl⟩
  rw [hw4] at K5s K4s HP HBs
  have c0_ := (K5s.out.cell 0).trans (show _ = some (Value.string op) from rfl)
  have c1_ := (K5s.out.cell 1).trans (show _ = some (Value.string v) from rfl)
  have c2_ := (K5s.out.cell 2).trans (show _ = some ((.pointer (some ⟨b, 0, none⟩))) from rfl)
  have d0_ := K4s.out.cell 0
  have d1_ := K4s.out.cell 1
  have d2_ := K4s.out.cell 2
  have f0_ := K4s.out.frozen 0
  have f1_ := K4s.out.frozen 1
  have f2_ := K4s.out.frozen 2
  have P1 := Lib.hid ((Save.set K4s.out 0 (.string op)))
  have K41 := Lib.hid (K4s.out.set_ 0 (.string op))
  have K42 := Lib.hid (K41.out.set_ 1 (.string v))
  have K43 := Lib.hid (K42.out.set_ 2 (.pointer (some ⟨b, 0, none⟩)))
  have HP1 := Lib.hid (((HP.out.only (Save.set K4s.out 0 (.string op)) (by decide) (by decide)).only (Save.set K41.out 1 (.string v)) (by decide) (by decide)).only (Save.set K42.out 2 (.pointer (some ⟨b, 0, none⟩))) (by decide) (by decide))
  have HB2 := Lib.hid (((HBs.out.setCell (p := ⟨W.heap.size, 0, none⟩) (Nat.le_refl _) (.string op)).setCell (p := ⟨W.heap.size, 1, none⟩) (Nat.le_refl _) (.string v)).setCell (p := ⟨W.heap.size, 2, none⟩) (Nat.le_refl _) (.pointer (some ⟨b, 0, none⟩)))
  clear hb hp J4 J5 HB3 K4 K5 HB OF SU K5s K4s HP HBs P1
  go_wp2
  refine bodyPost_ret (results_cell_row rfl _ _ W.heap.size 61 #[.string op, .string v, (.pointer (some ⟨b, 0, none⟩))] (0, 0) _ rfl K43.out Tryz.underlying61 rfl (by kernel_rfl)) rfl ?_
  exact ⟨_, rfl, HP1.out, HB2.out⟩
theorem against_any (op v : ByteArray) (hz : op.size ≤ 9223372036854775807) (h : sufT op = true → okB v = true) (W : World) (hl : LibIs W) :
    Calls Tryz.prog 20 #[.string op, .string v] W fun e w' => ∃ p, e = .returned (.agg #[.string op, .string v, p]) ∧ ProgP w' p op v ∧ Below W.heap.size W w' := by
  cases hs : sufT op with
  | false => exact (against_no op v hz hs W).mono fun e w' ⟨h1, h2⟩ => ⟨_, h1, ⟨fun _ => rfl, (fun k => by rw [hs] at k; cases k)⟩, h2⟩
  | true => exact (against_ok op v hz hs (h hs) W hl).mono fun e w' ⟨b, h1, h2, h3⟩ => ⟨_, h1, ⟨(fun k => by rw [hs] at k; cases k), fun _ => ⟨b, rfl, h2⟩⟩, h3⟩
set_option maxRecDepth 100000 in
set_option maxHeartbeats 1600000 in
theorem matOf_yes (nm op v : ByteArray) (h : rightA nm op v = true) (W : World) (hl : LibIs W) :
    Calls Tryz.prog 9 #[.agg #[.string nm, .string op, .string v]] W fun e w' => ∃ b, e = .returned (.tuple #[.pointer (some ⟨b, 0, none⟩), .int .i64 0]) ∧ OneP w' b nm op v ∧ W.heap.size ≤ b ∧ Below W.heap.size W w' := by
  obtain ⟨ho, _, hk⟩ := fits_in (show fitsB textOps op v = true by unfold rightA at h; rw [Bool.and_eq_true] at h; exact h.2)
  have hz : op.size ≤ 9223372036854775807 := by rcases text_four ho with rfl | rfl | rfl | rfl <;> decide
  have HL := Lib.hid hl
  have AG := Lib.hid (fun w hl => against_any op v hz (fun k => hk ((suf_text ho).symm.trans k)) w hl)
  have HB := Lib.hid ((Below.refl W.heap.size W).alloc (Nat.le_refl _) (.cells #[.string nm, .string op, .string v] 30))
  have BK := Lib.hid (Blk.new W 30 #[.string nm, .string op, .string v])
  have RM := Lib.hid (fun w hl => rightMatcher_any nm op v w hl)
  rw [h] at RM
  have c0_ := (BK.out.cell 0).trans (show _ = some (Value.string nm) from rfl)
  have c1_ := (BK.out.cell 1).trans (show _ = some (Value.string op) from rfl)
  have c2_ := (BK.out.cell 2).trans (show _ = some (Value.string v) from rfl)
  clear ho hk hz h hl
  go_enter Tryz.func9, Tryz.ntmps9
  go_wp2_with fail
  refine (RM.out _ (HL.out.below HB.out)).mono ?_
  rintro e w1 ⟨rfl, hb⟩
  have KB := BK.out.below hb BK.out.lt
  have HB0 := hop HB.out (Nat.le_refl _) hb
  clear hb HB BK RM c0_ c1_ c2_
  go_wp2
  replace KB : Blk w1.drew W.heap.size 30 #[.string nm, .string op, .string v] := KB
  replace HB0 : Below W.heap.size W w1.drew := below_drewN HB0 1
  refine wp_region_held_drew (S := fun w' => w'.cell? ⟨W.heap.size, 0, none⟩ = some (.string nm) ∧ w'.cell? ⟨W.heap.size, 1, none⟩ = some (.string op) ∧ w'.cell? ⟨W.heap.size, 2, none⟩ = some (.string v) ∧ True) (by kernel_rfl) ⟨(KB.cell 0).trans rfl, (KB.cell 1).trans rfl, (KB.cell 2).trans rfl, trivial⟩ (fun hS => ?_)
  obtain ⟨w0, hw0⟩ : ∃ z, w1.drew = z := ⟨_, rfl⟩
  rw [hw0] at hS HB0 KB ⊢
  clear hw0
  refine tV 0 ?_; refine tH 1 ?_; refine tV 2 ?_; refine tH 3 ?_; refine tV 5 ?_; refine tH 6 ?_
  refine rdy [4] ?_
  refine rdC (fun K hK => ?_) AllReadyH.nil
  go_simp
  go_at_call 20
  refine (AG.out w0 (HL.out.below HB0)).mono ?_
  rintro _ e1 ⟨p, rfl, hp, hb3⟩
  replace KB := KB.below hb3 KB.lt
  replace HB0 := hop HB0 (Nat.le_refl _) hb3
  clear hS hb3
  have hS : e1.cell? ⟨W.heap.size, 0, none⟩ = some (.string nm) ∧ e1.cell? ⟨W.heap.size, 1, none⟩ = some (.string op) ∧ e1.cell? ⟨W.heap.size, 2, none⟩ = some (.string v) ∧ True := ⟨(KB.cell 0).trans rfl, (KB.cell 1).trans rfl, (KB.cell 2).trans rfl, trivial⟩
  refine hK.out _ _ hS (fun _ => ?_)
  clear hK K
  try simp only [Act.put, pz1, pz2, pz3]
  refine tV 7 ?_; refine tV 8 ?_
  refine rdy [9] ?_
  refine rdC (fun K hK => ?_) AllReadyH.nil
  go_simp
  have hb3 : Below e1.heap.size e1 (e1.alloc (.cells #[.string op, .string v, p, .string nm] 66)) := (Below.refl _ _).alloc (Nat.le_refl _) _
  obtain ⟨g, hg⟩ : ∃ g, e1.heap.size = g := ⟨_, rfl⟩
  have KO : Blk (e1.alloc (.cells #[.string op, .string v, p, .string nm] 66)) g 66 #[.string op, .string v, p, .string nm] := by rw [← hg]; exact Blk.new _ _ _
  have hge : W.heap.size ≤ g := by rw [← hg]; exact HB0.size
  obtain ⟨wT, hwc⟩ : ∃ z, e1.alloc (.cells #[.string op, .string v, p, .string nm] 66) = z := ⟨_, rfl⟩
  rw [hwc] at hb3 KO
  rw [hwc, hg]
  clear hwc hg
  replace KB := KB.below hb3 KB.lt
  replace HB0 := hop HB0 (Nat.le_refl _) hb3
  replace hp := hp.below hb3
  clear hS hb3
  have hS : wT.cell? ⟨W.heap.size, 0, none⟩ = some (.string nm) ∧ wT.cell? ⟨W.heap.size, 1, none⟩ = some (.string op) ∧ wT.cell? ⟨W.heap.size, 2, none⟩ = some (.string v) ∧ True := ⟨(KB.cell 0).trans rfl, (KB.cell 1).trans rfl, (KB.cell 2).trans rfl, trivial⟩
  refine hK.out _ _ hS (fun _ => ?_)
  clear hK K
  try simp only [Act.put, pz1, pz2, pz3]
  refine tV 10 ?_; refine tV 11 ?_
  refine wpAnyH_done (by kernel_rfl) ?_ _
  go_wp2
  go_ret2
  exact ⟨_, rfl, ⟨p, KO, hp⟩, hge, HB0⟩
set_option maxRecDepth 100000 in
set_option maxHeartbeats 1600000 in
theorem matOf_no (nm op v : ByteArray) (h : rightA nm op v = false) (W : World) (hl : LibIs W) :
    Calls Tryz.prog 9 #[.agg #[.string nm, .string op, .string v]] W fun e w' => e = .returned (.tuple #[.pointer none, .int .i64 1]) ∧ Below W.heap.size W w' := by
  have HL := Lib.hid hl
  have HB := Lib.hid ((Below.refl W.heap.size W).alloc (Nat.le_refl _) (.cells #[.string nm, .string op, .string v] 30))
  have BK := Lib.hid (Blk.new W 30 #[.string nm, .string op, .string v])
  have RM := Lib.hid (fun w hl => rightMatcher_any nm op v w hl)
  rw [h] at RM
  have c0_ := (BK.out.cell 0).trans (show _ = some (Value.string nm) from rfl)
  have c1_ := (BK.out.cell 1).trans (show _ = some (Value.string op) from rfl)
  have c2_ := (BK.out.cell 2).trans (show _ = some (Value.string v) from rfl)
  clear h hl
  go_enter Tryz.func9, Tryz.ntmps9
  go_wp2_with fail
  refine (RM.out _ (HL.out.below HB.out)).mono ?_
  rintro e w1 ⟨rfl, hb⟩
  have HB0 := Lib.hid (hop HB.out (Nat.le_refl _) hb)
  clear hb HB BK RM c0_ c1_ c2_
  go_wp2
  go_ret2
  exact ⟨rfl, HB0.out⟩
set_option maxRecDepth 100000 in
set_option maxHeartbeats 1600000 in
theorem lineOf_yes (op v : ByteArray) (h : fitsB lineOps op v = true) (W : World) (hl : LibIs W) :
    Calls Tryz.prog 10 #[.agg #[.int .i64 1, .string ⟨#[]⟩, .string op, .string v, .int .i64 0, .int .i64 0]] W fun e w' => ∃ b, e = .returned (.tuple #[.pointer (some ⟨b, 0, none⟩), .int .i64 0]) ∧ LineP w' b op v ∧ W.heap.size ≤ b ∧ Below W.heap.size W w' := by
  obtain ⟨ho, _, hk⟩ := fits_in h
  have hz : op.size ≤ 9223372036854775807 := by rcases line_four ho with rfl | rfl | rfl | rfl <;> decide
  have hr : rightS ⟨1, ⟨#[]⟩, op, v, 0, 0⟩ = true := by
    unfold rightS
    rw [if_pos rfl, eqStg_self, h]
    rfl
  have HL := Lib.hid hl
  have AG := Lib.hid (fun w hl => against_any op v hz (fun k => hk ((suf_line ho).symm.trans k)) w hl)
  have RS := Lib.hid (fun w hl => rightStage_any 1 ⟨#[]⟩ op v 0 0 (by unfold Num64; decide) w hl)
  rw [hr] at RS
  have HB := Lib.hid ((Below.refl W.heap.size W).alloc (Nat.le_refl _) (.cells #[.int .i64 1, .string ⟨#[]⟩, .string op, .string v, .int .i64 0, .int .i64 0] 35))
  have BK := Lib.hid (Blk.new W 35 #[.int .i64 1, .string ⟨#[]⟩, .string op, .string v, .int .i64 0, .int .i64 0])
  obtain ⟨c0_, c1_, c2_, c3_, c4_, c5_⟩ : _ ∧ _ ∧ _ ∧ _ ∧ _ ∧ _ := ⟨(BK.out.cell 0).trans (show _ = some (Value.int .i64 1) from rfl), (BK.out.cell 1).trans (show _ = some (Value.string ⟨#[]⟩) from rfl), (BK.out.cell 2).trans (show _ = some (Value.string op) from rfl), (BK.out.cell 3).trans (show _ = some (Value.string v) from rfl), (BK.out.cell 4).trans (show _ = some (Value.int .i64 0) from rfl), (BK.out.cell 5).trans (show _ = some (Value.int .i64 0) from rfl)⟩
  clear ho hk hz h hl hr
  go_enter Tryz.func10, Tryz.ntmps10
  go_wp2_with fail
  refine (RS.out _ (HL.out.below HB.out)).mono ?_
  rintro e w1 ⟨rfl, hb⟩
  have KB := Lib.hid (BK.out.below hb BK.out.lt)
  have HB0 := Lib.hid (hop HB.out (Nat.le_refl _) hb)
  clear hb HB BK RS c0_ c1_ c2_ c3_ c4_ c5_
  have c2_ := (KB.out.cell 2).trans (show _ = some (Value.string op) from rfl)
  have c3_ := (KB.out.cell 3).trans (show _ = some (Value.string v) from rfl)
  go_wp2_with fail
  refine (AG.out _ (HL.out.below HB0.out)).mono ?_
  rintro e w2 ⟨p, rfl, hp, hb⟩
  have HP := Lib.hid hp
  have HB2 := Lib.hid (hop HB0.out (Nat.le_refl _) hb)
  have hs2 := HB2.out.size
  clear hb hp c2_ c3_ KB
  go_wp2
  go_ret2
  exact ⟨_, rfl, ⟨p, Blk.new _ _ _, HP.out.below ((Below.refl _ _).alloc (Nat.le_refl _) _)⟩, hs2, HB2.out.alloc hs2 _⟩
set_option maxRecDepth 100000 in
set_option maxHeartbeats 1600000 in
theorem lineOf_kind (kd : Int) (nm op v : ByteArray) (nu un : Int) (hk : kd ≠ 1) (W : World) :
    Calls Tryz.prog 10 #[.agg #[.int .i64 kd, .string nm, .string op, .string v, .int .i64 nu, .int .i64 un]] W fun e w' => e = .returned (.tuple #[.pointer none, .int .i64 1]) ∧ Below W.heap.size W w' := by
  have h1 : (kd == 1) = false := beq_eq_false_iff_ne.2 hk
  have h2 : (kd != 1) = true := by rw [bne, h1]; rfl
  have HB := Lib.hid ((Below.refl W.heap.size W).alloc (Nat.le_refl _) (.cells #[.int .i64 kd, .string nm, .string op, .string v, .int .i64 nu, .int .i64 un] 35))
  have BK := Lib.hid (Blk.new W 35 #[.int .i64 kd, .string nm, .string op, .string v, .int .i64 nu, .int .i64 un])
  have c0_ := (BK.out.cell 0).trans (show _ = some (Value.int .i64 kd) from rfl)
  go_enter Tryz.func10, Tryz.ntmps10
  go_wp2
  go_ret2
  exact ⟨rfl, HB.out⟩
theorem matIs_any (b : Nat) (t : ByteArray) (v : ByteArray) (W : World) (h : W.cell? ⟨b, 1, none⟩ = some (.string v)) :
    Calls Tryz.prog 22 #[.pointer (some ⟨b, 0, none⟩), .string t] W fun e w' => e = .returned (.bool (eqT t v)) ∧ W = w' := by
  unfold eqT
  go_enter Tryz.func22, Tryz.ntmps22
  go_wp2
  go_ret
  exact ⟨rfl, rfl⟩
theorem matWhole_any (b : Nat) (t : ByteArray) (pb : Nat) (x : NodeT) (ht : t.size ≤ 4000000000000000000) (W : World) (h : W.cell? ⟨b, 2, none⟩ = some (.pointer (some ⟨pb, 0, none⟩))) (hp : PrgAt W pb x) :
    Calls Tryz.prog 23 #[.pointer (some ⟨b, 0, none⟩), .string t] W fun e w' => e = .returned (.bool (wholeB t.data.toList x)) ∧ Below W.heap.size W w' := by
  have C := Lib.hid (nfaWhole_any x pb t W hp ht)
  clear hp
  go_enter Tryz.func23, Tryz.ntmps23
  go_wp2_with fail
  refine C.out.mono ?_
  rintro e w ⟨rfl, hb⟩
  have HB := Lib.hid hb
  clear hb
  go_wp2
  go_ret
  exact ⟨rfl, HB.out⟩
theorem matFound_any (b : Nat) (t : ByteArray) (pb : Nat) (x : NodeT) (ht : t.size ≤ 4000000000000000000) (W : World) (h : W.cell? ⟨b, 2, none⟩ = some (.pointer (some ⟨pb, 0, none⟩))) (hp : PrgAt W pb x) :
    Calls Tryz.prog 25 #[.pointer (some ⟨b, 0, none⟩), .string t] W fun e w' => e = .returned (.bool (foundB t.data.toList x)) ∧ Below W.heap.size W w' := by
  have C := Lib.hid (nfaFind_any x pb t W hp ht)
  clear hp
  go_enter Tryz.func25, Tryz.ntmps25
  go_wp2_with fail
  refine C.out.mono ?_
  rintro e w ⟨rfl, hb⟩
  have HB := Lib.hid hb
  clear hb
  go_wp2
  go_ret
  exact ⟨rfl, HB.out⟩
def MaxAt (w : World) : Prop := ∃ m, w.cell? ⟨0, 0, none⟩ = some (.int .i64 m)
theorem MaxAt.below {w w' : World} (h : MaxAt w) (hb : Below w.heap.size w w') : MaxAt w' := by
  obtain ⟨m, hm⟩ := h
  exact ⟨m, (hb.cell (World.block_lt_of_cell? w _ hm)).trans hm⟩
theorem maxAt_of {W : World} (h : W.ShapedOpen Tryz.prog) : MaxAt W :=
  cell_of_shapedOpen_int (zero := #[.int .i64 0]) (t := 3) h (of_decide_eq_true (by kernel_rfl)) (by kernel_rfl) rfl (by kernel_rfl) (by kernel_rfl) Tryz.underlying3
theorem matWithin_any (b : Nat) (t : ByteArray) (v : ByteArray) (ht : t.size < 4294967281) (W : World) (h : W.cell? ⟨b, 1, none⟩ = some (.string v)) (hm : MaxAt W) :
    Calls Tryz.prog 24 #[.pointer (some ⟨b, 0, none⟩), .string t] W fun e w' => e = .returned (.bool (hasT t v)) ∧ W = w' := by
  obtain ⟨m, hm⟩ := hm
  have C := Lib.hid (Tryz.strings_Contains t v m W ht hm)
  clear hm
  go_enter Tryz.func24, Tryz.ntmps24
  go_wp2_with fail
  refine C.out.mono ?_
  rintro e w ⟨rfl, hw⟩
  have HW := Lib.hid hw
  clear hw
  go_wp2
  go_ret
  exact ⟨rfl, HW.out.symm⟩
set_option maxRecDepth 100000 in
set_option maxHeartbeats 1600000 in
theorem oneTest_any (nm op v : ByteArray) (b : Nat) (t : ByteArray) (W : World) (h : OneP W b nm op v) (ho : op ∈ textOps) (ht : t.size ≤ 4000000000000000000) :
    Calls Tryz.prog 11 #[.pointer (some ⟨b, 0, none⟩), .string t] W fun e w' => e = .returned (.bool (testM op v t)) ∧ Below W.heap.size W w' := by
  obtain ⟨p, hk, hp0, hp1⟩ := h
  have c0_ := (hk.cell 0).trans (show _ = some (Value.string op) from rfl)
  have c1_ := (hk.cell 1).trans (show _ = some (Value.string v) from rfl)
  have c2_ := (hk.cell 2).trans (show _ = some p from rfl)
  rcases text_four ho with rfl | rfl | rfl | rfl
  · rw [testM_eq]
    have C := Lib.hid (matIs_any b t v W c1_)
    obtain ⟨z, hz⟩ : ∃ z, eqT t v = z := ⟨_, rfl⟩
    rw [hz] at C ⊢
    clear hz hk hp0 hp1
    go_enter Tryz.func11, Tryz.ntmps11
    go_wp2_with fail
    refine C.out.mono ?_
    rintro e _ ⟨rfl, rfl⟩
    go_wp2
    go_ret
    exact ⟨rfl, Below.refl _ _⟩
  · rw [testM_ne]
    have C := Lib.hid (matIs_any b t v W c1_)
    obtain ⟨z, hz⟩ : ∃ z, eqT t v = z := ⟨_, rfl⟩
    rw [hz] at C ⊢
    clear hz hk hp0 hp1
    go_enter Tryz.func11, Tryz.ntmps11
    go_wp2_with fail
    refine C.out.mono ?_
    rintro e _ ⟨rfl, rfl⟩
    go_wp2
    go_ret
    exact ⟨rfl, Below.refl _ _⟩
  · rw [testM_w]
    obtain ⟨pb, rfl, hp⟩ := hp1 (by decide)
    have C := Lib.hid (matWhole_any b t pb (exprOf v) ht W c2_ hp)
    obtain ⟨z, hz⟩ : ∃ z, wholeB t.data.toList (exprOf v) = z := ⟨_, rfl⟩
    rw [hz] at C ⊢
    clear hz hk hp0 hp1 hp
    go_enter Tryz.func11, Tryz.ntmps11
    go_wp2_with fail
    refine C.out.mono ?_
    rintro e w ⟨rfl, hb⟩
    have HB := Lib.hid hb
    clear hb
    go_wp2
    go_ret
    exact ⟨rfl, HB.out⟩
  · rw [testM_nw]
    obtain ⟨pb, rfl, hp⟩ := hp1 (by decide)
    have C := Lib.hid (matWhole_any b t pb (exprOf v) ht W c2_ hp)
    obtain ⟨z, hz⟩ : ∃ z, wholeB t.data.toList (exprOf v) = z := ⟨_, rfl⟩
    rw [hz] at C ⊢
    clear hz hk hp0 hp1 hp
    go_enter Tryz.func11, Tryz.ntmps11
    go_wp2_with fail
    refine C.out.mono ?_
    rintro e w ⟨rfl, hb⟩
    have HB := Lib.hid hb
    clear hb
    go_wp2
    go_ret
    exact ⟨rfl, HB.out⟩
set_option maxRecDepth 100000 in
set_option maxHeartbeats 1600000 in
theorem lineTest_any (op v : ByteArray) (b : Nat) (t : ByteArray) (W : World) (h : LineP W b op v) (ho : op ∈ lineOps) (ht : t.size < 4294967281) (hm : MaxAt W) :
    Calls Tryz.prog 12 #[.pointer (some ⟨b, 0, none⟩), .string t] W fun e w' => e = .returned (.bool (lineM op v t)) ∧ Below W.heap.size W w' := by
  obtain ⟨p, hk, hp0, hp1⟩ := h
  have c0_ := (hk.cell 0).trans (show _ = some (Value.string op) from rfl)
  have c1_ := (hk.cell 1).trans (show _ = some (Value.string v) from rfl)
  have c2_ := (hk.cell 2).trans (show _ = some p from rfl)
  rcases line_four ho with rfl | rfl | rfl | rfl
  · rw [lineM_in]
    have C := Lib.hid (matWithin_any b t v ht W c1_ hm)
    obtain ⟨z, hz⟩ : ∃ z, hasT t v = z := ⟨_, rfl⟩
    rw [hz] at C ⊢
    clear hz hk hp0 hp1 hm
    go_enter Tryz.func12, Tryz.ntmps12
    go_wp2_with fail
    refine C.out.mono ?_
    rintro e _ ⟨rfl, rfl⟩
    go_wp2
    go_ret
    exact ⟨rfl, Below.refl _ _⟩
  · rw [lineM_out]
    have C := Lib.hid (matWithin_any b t v ht W c1_ hm)
    obtain ⟨z, hz⟩ : ∃ z, hasT t v = z := ⟨_, rfl⟩
    rw [hz] at C ⊢
    clear hz hk hp0 hp1 hm
    go_enter Tryz.func12, Tryz.ntmps12
    go_wp2_with fail
    refine C.out.mono ?_
    rintro e _ ⟨rfl, rfl⟩
    go_wp2
    go_ret
    exact ⟨rfl, Below.refl _ _⟩
  · rw [lineM_f]
    obtain ⟨pb, rfl, hp⟩ := hp1 (by decide)
    have C := Lib.hid (matFound_any b t pb (exprOf v) (by omega) W c2_ hp)
    obtain ⟨z, hz⟩ : ∃ z, foundB t.data.toList (exprOf v) = z := ⟨_, rfl⟩
    rw [hz] at C ⊢
    clear hz hk hp0 hp1 hp hm
    go_enter Tryz.func12, Tryz.ntmps12
    go_wp2_with fail
    refine C.out.mono ?_
    rintro e w ⟨rfl, hb⟩
    have HB := Lib.hid hb
    clear hb
    go_wp2
    go_ret
    exact ⟨rfl, HB.out⟩
  · rw [lineM_nf]
    obtain ⟨pb, rfl, hp⟩ := hp1 (by decide)
    have C := Lib.hid (matFound_any b t pb (exprOf v) (by omega) W c2_ hp)
    obtain ⟨z, hz⟩ : ∃ z, foundB t.data.toList (exprOf v) = z := ⟨_, rfl⟩
    rw [hz] at C ⊢
    clear hz hk hp0 hp1 hp hm
    go_enter Tryz.func12, Tryz.ntmps12
    go_wp2_with fail
    refine C.out.mono ?_
    rintro e w ⟨rfl, hb⟩
    have HB := Lib.hid hb
    clear hb
    go_wp2
    go_ret
    exact ⟨rfl, HB.out⟩
theorem oneName_any (nm op v : ByteArray) (b : Nat) (W : World) (h : OneP W b nm op v) :
    Calls Tryz.prog 17 #[.pointer (some ⟨b, 0, none⟩)] W fun e w' => e = .returned (.string nm) ∧ W = w' := by
  obtain ⟨p, hk, _⟩ := h
  have c3_ := (hk.cell 3).trans (show _ = some (Value.string nm) from rfl)
  go_enter Tryz.func17, Tryz.ntmps17
  go_wp2
  go_ret
  exact ⟨rfl, rfl⟩
end Go.Proofs.YtbkpoimaienhpaaGreatDoor
