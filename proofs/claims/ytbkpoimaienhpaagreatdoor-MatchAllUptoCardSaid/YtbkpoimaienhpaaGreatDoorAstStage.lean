-- shaken
import Derived.Test.YtbkpoimaienhpaaGreatDoorAstFit
import Derived.Test.YtbkpoimaienhpaaGreatDoorBase
import Derived.Test.YtbkpoimaienhpaaGreatDoorNfaFind
import Derived.Lib.IndexMore
namespace Go.Proofs.YtbkpoimaienhpaaGreatDoor
open Go.RowKit
set_option linter.unusedVariables false
set_option linter.unusedSimpArgs false
def litOk (n u : Int) : Bool := if u = 0 then true else if u = 1 ∨ u = 2 then decide (0 ≤ n) else false
def litT (n u : Int) : ByteArray := if u = 0 then itoaS n else if u = 1 then (if n < 0 then ⟨#[]⟩ else txt (spanB n)) else if u = 2 then (if n < 0 then ⟨#[]⟩ else txt (sizeB n)) else ⟨#[]⟩
theorem literal_any (n u : Int) (h0 : -9223372036854775808 ≤ n) (h1 : n ≤ 9223372036854775807) (W : World) (hl : LibIs W) :
    Calls Tryz.prog 47 #[.int .i64 n, .int .i64 u] W fun e w' => e = .returned (.tuple #[.string (litT n u), .bool (litOk n u)]) ∧ Below W.heap.size W w' := by
  obtain ⟨t, ht⟩ : ∃ t, litT n u = t := ⟨_, rfl⟩
  obtain ⟨o, ho⟩ : ∃ o, litOk n u = o := ⟨_, rfl⟩
  rw [ht, ho]
  unfold litT at ht
  unfold litOk at ho
  by_cases u0 : u = 0
  · subst u0
    rw [if_pos rfl] at ht ho
    have CT := Lib.hid (text_any n h0 h1 W hl)
    rw [ht] at CT
    clear ht hl h0 h1
    subst ho
    go_enter Tryz.func47, Tryz.ntmps47
    go_wp2_with fail
    refine CT.out.mono ?_
    rintro e w1 ⟨rfl, hb⟩
    go_wp2
    go_ret2
    exact ⟨rfl, hb⟩
  · have g0 : (u == 0) = false := beq_eq_false_iff_ne.2 u0
    rw [if_neg u0] at ht ho
    by_cases u1 : u = 1
    · subst u1
      rw [if_pos rfl] at ht
      rw [if_pos (.inl rfl)] at ho
      have CT := Lib.hid (span_any n h0 h1 W hl)
      rw [ht, ho] at CT
      clear ht hl h0 h1 ho
      go_enter Tryz.func47, Tryz.ntmps47
      go_wp2_with fail
      refine CT.out.mono ?_
      rintro e w1 ⟨rfl, hb⟩
      go_wp2
      go_ret2
      exact ⟨rfl, hb⟩
    · have g1 : (u == 1) = false := beq_eq_false_iff_ne.2 u1
      rw [if_neg u1] at ht
      by_cases u2 : u = 2
      · subst u2
        rw [if_pos rfl] at ht
        rw [if_pos (.inr rfl)] at ho
        have CT := Lib.hid (uSize_any n h0 h1 W hl)
        rw [ht, ho] at CT
        clear ht hl h0 h1 ho
        go_enter Tryz.func47, Tryz.ntmps47
        go_wp2_with fail
        refine CT.out.mono ?_
        rintro e w1 ⟨rfl, hb⟩
        go_wp2
        go_ret2
        exact ⟨rfl, hb⟩
      · have g2 : (u == 2) = false := beq_eq_false_iff_ne.2 u2
        rw [if_neg u2] at ht
        rw [if_neg (fun h => h.elim u1 u2)] at ho
        subst ht ho
        clear hl h0 h1
        go_enter Tryz.func47, Tryz.ntmps47
        go_wp2
        go_ret2
        exact ⟨rfl, Below.refl _ _⟩
def logL : List UInt8 := [108, 111, 103, 102, 109, 116]
def rightC (s : StgB) : Bool := litOk s.num s.unit && (nameB s.nm && (!(s.nm.toList == logL) && amongB s.op numOps))
def Num64 (n : Int) : Prop := -9223372036854775808 ≤ n ∧ n ≤ 9223372036854775807
theorem rightCompare_any (k : Int) (nm op v : ByteArray) (n u : Int) (hn : Num64 n) (W : World) (hl : LibIs W) :
    Calls Tryz.prog 35 #[.agg #[.int .i64 k, .string nm, .string op, .string v, .int .i64 n, .int .i64 u]] W fun e w' => e = .returned (.bool (rightC ⟨k, nm, op, v, n, u⟩)) ∧ Below W.heap.size W w' := by
  have HB0 := Lib.hid ((Below.refl W.heap.size W).alloc (Nat.le_refl _) (.cells #[.int .i64 k, .string nm, .string op, .string v, .int .i64 n, .int .i64 u] 35))
  have BK := Lib.hid (Blk.new W 35 #[.int .i64 k, .string nm, .string op, .string v, .int .i64 n, .int .i64 u])
  have CL := Lib.hid (literal_any n u hn.1 hn.2 _ (hl.below HB0.out))
  have NM := Lib.hid (fun w => name_any nm w)
  have AM := Lib.hid (fun w => astAmong_any op (some ⟨w.heap.size, 0, none⟩) 6 6 numOps (by decide) _ (texts_lit8 w 9 numOps _ rfl))
  obtain ⟨f, hf⟩ : ∃ f, rightC ⟨k, nm, op, v, n, u⟩ = f := ⟨_, rfl⟩
  rw [hf]
  unfold rightC at hf
  obtain ⟨t, ht⟩ : ∃ t, litT n u = t := ⟨_, rfl⟩
  obtain ⟨b1, h1⟩ : ∃ b, litOk n u = b := ⟨_, rfl⟩
  obtain ⟨b2, h2⟩ : ∃ b, nameB nm = b := ⟨_, rfl⟩
  obtain ⟨b3, h3⟩ : ∃ b, (nm.toList == logL) = b := ⟨_, rfl⟩
  obtain ⟨b4, h4⟩ : ∃ b, amongB op numOps = b := ⟨_, rfl⟩
  simp only [h1, h2, h3, h4] at hf
  rw [ht, h1] at CL
  rw [h2] at NM
  rw [h4] at AM
  clear ht h1 h2 h4 hl hn
  go_enter Tryz.func35, Tryz.ntmps35
  go_wp2_with fail
  refine CL.out.mono ?_
  rintro e w1 ⟨rfl, hb⟩
  have HB := Lib.hid (hop HB0.out (Nat.le_refl _) hb)
  have BK1 := Lib.hid (BK.out.below hb (by simp))
  clear hb HB0 BK CL
  have d1 := BK1.out.cell 1
  have d2 := BK1.out.cell 2
  cases b1 with
  | false =>
    subst hf
    go_wp2
    go_ret
    exact ⟨rfl, HB.out⟩
  | true =>
    go_wp2_with fail
    refine (NM.out _).mono ?_
    rintro e w2 ⟨rfl, hb⟩
    have HB2 := Lib.hid (hop HB.out (Nat.le_refl _) hb)
    have BK2 := Lib.hid (BK1.out.below hb BK1.out.lt)
    clear hb HB BK1 d1 d2
    have d1 := BK2.out.cell 1
    have d2 := BK2.out.cell 2
    cases b2 with
    | false =>
      subst hf
      go_wp2
      go_ret
      exact ⟨rfl, HB2.out⟩
    | true =>
      cases b3 with
      | true =>
        have h3b : nm.toList = [108, 111, 103, 102, 109, 116] := eq_of_beq h3
        subst hf
        go_wp2
        go_ret
        exact ⟨rfl, HB2.out⟩
      | false =>
        have h3b : ¬ nm.toList = [108, 111, 103, 102, 109, 116] := fun h => by rw [h] at h3; exact absurd h3 (by decide)
        unfold logL at h3
        have H3 := Lib.hid h3
        clear h3
        go_wp2_with fail
        refine (AM.out _).mono ?_
        rintro e w3 ⟨rfl, rfl⟩
        have HB3 := Lib.hid (HB2.out.alloc HB2.out.size (.cells (numOps.map Value.string).toArray 9))
        subst hf
        go_wp2
        go_ret
        exact ⟨by show Ending.returned (.bool (!(nm.toList == [108, 111, 103, 102, 109, 116]) && b4)) = _; rw [H3.out]; rfl, HB3.out⟩
theorem no_text {x : ByteArray} (h : ¬ x = ⟨#[]⟩) : ¬ x.toList = [] ∧ x.toList.isEmpty = false := by
  have h1 : ¬ x.toList = [] := fun e => h (text_ext1 (by rw [← Lib.toList_data, e]))
  refine ⟨h1, ?_⟩
  cases h2 : x.toList with
  | nil => exact absurd h2 h1
  | cons a b => rfl
theorem eqStg_no {a b : StgB} (h : ¬ a = b) : eqStg a b = false := by
  cases hq : eqStg a b with
  | false => rfl
  | true =>
    unfold eqStg at hq
    simp only [Bool.and_eq_true, beq_iff_eq] at hq
    obtain ⟨h1, h2, h3, h4, h5, h6⟩ := hq
    rw [Lib.toList_data, Lib.toList_data] at h2 h3 h4
    refine absurd ?_ h
    obtain ⟨k, nm, op, v, n, u⟩ := a
    obtain ⟨k', nm', op', v', n', u'⟩ := b
    simp only at h1 h2 h3 h4 h5 h6
    rw [h1, text_ext1 h2, text_ext1 h3, text_ext1 h4, h5, h6]
theorem eqStg_self (a : StgB) : eqStg a a = true := by simp [eqStg]
def rightS (s : StgB) : Bool :=
  if s.kind = 1 then eqStg s ⟨1, ⟨#[]⟩, s.op, s.v, 0, 0⟩ && fitsB lineOps s.op s.v
  else if s.kind = 2 then eqStg s ⟨2, ⟨#[]⟩, ⟨#[]⟩, ⟨#[]⟩, 0, 0⟩
  else if s.kind = 3 then eqStg s ⟨3, s.nm, s.op, s.v, 0, 0⟩ && (!(s.nm.toList == logL) && rightA s.nm s.op s.v)
  else if s.kind = 4 then eqStg s ⟨4, s.nm, s.op, ⟨#[]⟩, s.num, s.unit⟩ && rightC s
  else false
theorem rightStage1_any (nm op v : ByteArray) (n u : Int) (hn : Num64 n) (W : World) (hl : LibIs W) :
    Calls Tryz.prog 21 #[.agg #[.int .i64 1, .string nm, .string op, .string v, .int .i64 n, .int .i64 u]] W fun e w' => e = .returned (.bool (rightS ⟨1, nm, op, v, n, u⟩)) ∧ Below W.heap.size W w' := by
  by_cases h : nm = (⟨#[]⟩ : ByteArray)
  · subst h
    by_cases h : n = 0
    · subst h
      by_cases h : u = 0
      · subst h
        have hf : rightS ⟨1, ⟨#[]⟩, op, v, 0, 0⟩ = fitsB lineOps op v := by
          unfold rightS
          simp only [if_true]
          rw [eqStg_self]; rfl
        rw [hf]
        have HB0 := Lib.hid ((Below.refl W.heap.size W).alloc (Nat.le_refl _) (.cells #[.int .i64 1, .string ⟨#[]⟩, .string op, .string v, .int .i64 0, .int .i64 0] 35))
        have BK := Lib.hid (Blk.new W 35 #[.int .i64 1, .string ⟨#[]⟩, .string op, .string v, .int .i64 0, .int .i64 0])
        have FT := Lib.hid (fits_any op v (some ⟨W.heap.size + 1, 0, none⟩) 4 4 lineOps (by decide) _ (texts_lit8 (W.alloc (.cells #[.int .i64 1, .string ⟨#[]⟩, .string op, .string v, .int .i64 0, .int .i64 0] 35)) 9 lineOps (W.heap.size + 1) (by simp)) (hl.below (HB0.out.alloc (by simp) _)))
        have HB1 := Lib.hid (HB0.out.alloc (by simp) (.cells (lineOps.map Value.string).toArray 9))
        obtain ⟨b, hb_⟩ : ∃ b, fitsB lineOps op v = b := ⟨_, rfl⟩
        rw [hb_] at FT ⊢
        clear hf hl hn hb_
        have c0 := BK.out.cell 0
        go_enter Tryz.func21, Tryz.ntmps21
        go_wp2_with fail
        refine FT.out.mono ?_
        rintro e w1 ⟨rfl, hb⟩
        have HB := Lib.hid (hop HB1.out (Nat.le_refl _) hb)
        clear hb
        go_wp2
        go_ret
        exact ⟨rfl, HB.out⟩
      ·
        have hf : rightS ⟨1, ⟨#[]⟩, op, v, 0, u⟩ = false := by
          unfold rightS
          simp only [if_true]
          rw [eqStg_no (fun e => h (congrArg StgB.unit e))]; rfl
        rw [hf]
        clear hf hl hn
        have h1 : (u == 0) = false := beq_eq_false_iff_ne.2 h
        have HB0 := Lib.hid ((Below.refl W.heap.size W).alloc (Nat.le_refl _) (.cells #[.int .i64 1, .string ⟨#[]⟩, .string op, .string v, .int .i64 0, .int .i64 u] 35))
        have BK := Lib.hid (Blk.new W 35 #[.int .i64 1, .string ⟨#[]⟩, .string op, .string v, .int .i64 0, .int .i64 u])
        have c0 := BK.out.cell 0
        go_enter Tryz.func21, Tryz.ntmps21
        go_wp2
        go_ret
        exact ⟨rfl, HB0.out⟩
    ·
      have hf : rightS ⟨1, ⟨#[]⟩, op, v, n, u⟩ = false := by
        unfold rightS
        simp only [if_true]
        rw [eqStg_no (fun e => h (congrArg StgB.num e))]; rfl
      rw [hf]
      clear hf hl hn
      have h1 : (n == 0) = false := beq_eq_false_iff_ne.2 h
      have HB0 := Lib.hid ((Below.refl W.heap.size W).alloc (Nat.le_refl _) (.cells #[.int .i64 1, .string ⟨#[]⟩, .string op, .string v, .int .i64 n, .int .i64 u] 35))
      have BK := Lib.hid (Blk.new W 35 #[.int .i64 1, .string ⟨#[]⟩, .string op, .string v, .int .i64 n, .int .i64 u])
      have c0 := BK.out.cell 0
      go_enter Tryz.func21, Tryz.ntmps21
      go_wp2
      go_ret
      exact ⟨rfl, HB0.out⟩
  ·
    have hf : rightS ⟨1, nm, op, v, n, u⟩ = false := by
      unfold rightS
      simp only [if_true]
      rw [eqStg_no (fun e => h (congrArg StgB.nm e))]; rfl
    rw [hf]
    clear hf hl hn
    obtain ⟨h1, h2⟩ := no_text h
    have HB0 := Lib.hid ((Below.refl W.heap.size W).alloc (Nat.le_refl _) (.cells #[.int .i64 1, .string nm, .string op, .string v, .int .i64 n, .int .i64 u] 35))
    have BK := Lib.hid (Blk.new W 35 #[.int .i64 1, .string nm, .string op, .string v, .int .i64 n, .int .i64 u])
    have c0 := BK.out.cell 0
    go_enter Tryz.func21, Tryz.ntmps21
    go_wp2
    go_ret
    exact ⟨rfl, HB0.out⟩
theorem rightStage2_any (nm op v : ByteArray) (n u : Int) (hn : Num64 n) (W : World) (hl : LibIs W) :
    Calls Tryz.prog 21 #[.agg #[.int .i64 2, .string nm, .string op, .string v, .int .i64 n, .int .i64 u]] W fun e w' => e = .returned (.bool (rightS ⟨2, nm, op, v, n, u⟩)) ∧ Below W.heap.size W w' := by
  by_cases h : nm = (⟨#[]⟩ : ByteArray)
  · subst h
    by_cases h : op = (⟨#[]⟩ : ByteArray)
    · subst h
      by_cases h : v = (⟨#[]⟩ : ByteArray)
      · subst h
        by_cases h : n = 0
        · subst h
          by_cases h : u = 0
          · subst h
            have hf : rightS ⟨2, ⟨#[]⟩, ⟨#[]⟩, ⟨#[]⟩, 0, 0⟩ = true := by
              unfold rightS
              simp only [show ¬ (2 : Int) = 1 by decide, if_false, if_true]
              rw [eqStg_self]
            rw [hf]
            clear hf hl hn
            have HB0 := Lib.hid ((Below.refl W.heap.size W).alloc (Nat.le_refl _) (.cells #[.int .i64 2, .string ⟨#[]⟩, .string ⟨#[]⟩, .string ⟨#[]⟩, .int .i64 0, .int .i64 0] 35))
            have BK := Lib.hid (Blk.new W 35 #[.int .i64 2, .string ⟨#[]⟩, .string ⟨#[]⟩, .string ⟨#[]⟩, .int .i64 0, .int .i64 0])
            have c0 := BK.out.cell 0
            go_enter Tryz.func21, Tryz.ntmps21
            go_wp2
            go_ret
            exact ⟨rfl, HB0.out⟩
          ·
            have hf : rightS ⟨2, ⟨#[]⟩, ⟨#[]⟩, ⟨#[]⟩, 0, u⟩ = false := by
              unfold rightS
              simp only [show ¬ (2 : Int) = 1 by decide, if_false, if_true]
              rw [eqStg_no (fun e => h (congrArg StgB.unit e))]
            rw [hf]
            clear hf hl hn
            have h1 : (u == 0) = false := beq_eq_false_iff_ne.2 h
            have HB0 := Lib.hid ((Below.refl W.heap.size W).alloc (Nat.le_refl _) (.cells #[.int .i64 2, .string ⟨#[]⟩, .string ⟨#[]⟩, .string ⟨#[]⟩, .int .i64 0, .int .i64 u] 35))
            have BK := Lib.hid (Blk.new W 35 #[.int .i64 2, .string ⟨#[]⟩, .string ⟨#[]⟩, .string ⟨#[]⟩, .int .i64 0, .int .i64 u])
            have c0 := BK.out.cell 0
            go_enter Tryz.func21, Tryz.ntmps21
            go_wp2
            go_ret
            exact ⟨rfl, HB0.out⟩
        ·
          have hf : rightS ⟨2, ⟨#[]⟩, ⟨#[]⟩, ⟨#[]⟩, n, u⟩ = false := by
            unfold rightS
            simp only [show ¬ (2 : Int) = 1 by decide, if_false, if_true]
            rw [eqStg_no (fun e => h (congrArg StgB.num e))]
          rw [hf]
          clear hf hl hn
          have h1 : (n == 0) = false := beq_eq_false_iff_ne.2 h
          have HB0 := Lib.hid ((Below.refl W.heap.size W).alloc (Nat.le_refl _) (.cells #[.int .i64 2, .string ⟨#[]⟩, .string ⟨#[]⟩, .string ⟨#[]⟩, .int .i64 n, .int .i64 u] 35))
          have BK := Lib.hid (Blk.new W 35 #[.int .i64 2, .string ⟨#[]⟩, .string ⟨#[]⟩, .string ⟨#[]⟩, .int .i64 n, .int .i64 u])
          have c0 := BK.out.cell 0
          go_enter Tryz.func21, Tryz.ntmps21
          go_wp2
          go_ret
          exact ⟨rfl, HB0.out⟩
      ·
        have hf : rightS ⟨2, ⟨#[]⟩, ⟨#[]⟩, v, n, u⟩ = false := by
          unfold rightS
          simp only [show ¬ (2 : Int) = 1 by decide, if_false, if_true]
          rw [eqStg_no (fun e => h (congrArg StgB.v e))]
        rw [hf]
        clear hf hl hn
        obtain ⟨h1, h2⟩ := no_text h
        have HB0 := Lib.hid ((Below.refl W.heap.size W).alloc (Nat.le_refl _) (.cells #[.int .i64 2, .string ⟨#[]⟩, .string ⟨#[]⟩, .string v, .int .i64 n, .int .i64 u] 35))
        have BK := Lib.hid (Blk.new W 35 #[.int .i64 2, .string ⟨#[]⟩, .string ⟨#[]⟩, .string v, .int .i64 n, .int .i64 u])
        have c0 := BK.out.cell 0
        go_enter Tryz.func21, Tryz.ntmps21
        go_wp2
        go_ret
        exact ⟨rfl, HB0.out⟩
    ·
      have hf : rightS ⟨2, ⟨#[]⟩, op, v, n, u⟩ = false := by
        unfold rightS
        simp only [show ¬ (2 : Int) = 1 by decide, if_false, if_true]
        rw [eqStg_no (fun e => h (congrArg StgB.op e))]
      rw [hf]
      clear hf hl hn
      obtain ⟨h1, h2⟩ := no_text h
      have HB0 := Lib.hid ((Below.refl W.heap.size W).alloc (Nat.le_refl _) (.cells #[.int .i64 2, .string ⟨#[]⟩, .string op, .string v, .int .i64 n, .int .i64 u] 35))
      have BK := Lib.hid (Blk.new W 35 #[.int .i64 2, .string ⟨#[]⟩, .string op, .string v, .int .i64 n, .int .i64 u])
      have c0 := BK.out.cell 0
      go_enter Tryz.func21, Tryz.ntmps21
      go_wp2
      go_ret
      exact ⟨rfl, HB0.out⟩
  ·
    have hf : rightS ⟨2, nm, op, v, n, u⟩ = false := by
      unfold rightS
      simp only [show ¬ (2 : Int) = 1 by decide, if_false, if_true]
      rw [eqStg_no (fun e => h (congrArg StgB.nm e))]
    rw [hf]
    clear hf hl hn
    obtain ⟨h1, h2⟩ := no_text h
    have HB0 := Lib.hid ((Below.refl W.heap.size W).alloc (Nat.le_refl _) (.cells #[.int .i64 2, .string nm, .string op, .string v, .int .i64 n, .int .i64 u] 35))
    have BK := Lib.hid (Blk.new W 35 #[.int .i64 2, .string nm, .string op, .string v, .int .i64 n, .int .i64 u])
    have c0 := BK.out.cell 0
    go_enter Tryz.func21, Tryz.ntmps21
    go_wp2
    go_ret
    exact ⟨rfl, HB0.out⟩
theorem rightStage3_any (nm op v : ByteArray) (n u : Int) (hn : Num64 n) (W : World) (hl : LibIs W) :
    Calls Tryz.prog 21 #[.agg #[.int .i64 3, .string nm, .string op, .string v, .int .i64 n, .int .i64 u]] W fun e w' => e = .returned (.bool (rightS ⟨3, nm, op, v, n, u⟩)) ∧ Below W.heap.size W w' := by
  by_cases h : n = 0
  · subst h
    by_cases h : u = 0
    · subst h
      have hf : rightS ⟨3, nm, op, v, 0, 0⟩ = (!(nm.toList == logL) && rightA nm op v) := by
        unfold rightS
        simp only [show ¬ (3 : Int) = 1 by decide, show ¬ (3 : Int) = 2 by decide, if_false, if_true]
        rw [eqStg_self]; rfl
      rw [hf]
      have HB0 := Lib.hid ((Below.refl W.heap.size W).alloc (Nat.le_refl _) (.cells #[.int .i64 3, .string nm, .string op, .string v, .int .i64 0, .int .i64 0] 35))
      have BK := Lib.hid (Blk.new W 35 #[.int .i64 3, .string nm, .string op, .string v, .int .i64 0, .int .i64 0])
      obtain ⟨b2, h2⟩ : ∃ b, (nm.toList == logL) = b := ⟨_, rfl⟩
      obtain ⟨b3, h3⟩ : ∃ b, rightA nm op v = b := ⟨_, rfl⟩
      have TO := Lib.hid (fun w => testOf_any nm op v w)
      have RT := Lib.hid (fun w (hb : Below W.heap.size W w) => testRight_any op v nm w (hl.below hb))
      rw [h2, h3]
      rw [h3] at RT
      clear hf h3 hl hn
      have c0 := BK.out.cell 0
      cases b2 with
      | true =>
        have h2b : nm.toList = [108, 111, 103, 102, 109, 116] := eq_of_beq h2
        clear h2
        go_enter Tryz.func21, Tryz.ntmps21
        go_wp2
        go_ret
        exact ⟨rfl, HB0.out⟩
      | false =>
        have h2b : ¬ nm.toList = [108, 111, 103, 102, 109, 116] := fun h => by rw [h] at h2; exact absurd h2 (by decide)
        unfold logL at h2
        have H2 := Lib.hid h2
        clear h2
        go_enter Tryz.func21, Tryz.ntmps21
        go_wp2_with fail
        refine (TO.out _).mono ?_
        rintro e w1 ⟨rfl, hb⟩
        have HB1 := Lib.hid (hop HB0.out (Nat.le_refl _) hb)
        clear hb
        go_wp2_with fail
        refine (RT.out _ HB1.out).mono ?_
        rintro e w2 ⟨rfl, hb⟩
        have HB2 := Lib.hid (hop HB1.out (Nat.le_refl _) hb)
        clear hb
        go_wp2
        go_ret
        exact ⟨by first | rfl | (show Ending.returned (.bool (!(nm.toList == [108, 111, 103, 102, 109, 116]) && b3)) = _; rw [H2.out]), HB2.out⟩
    ·
      have hf : rightS ⟨3, nm, op, v, 0, u⟩ = false := by
        unfold rightS
        simp only [show ¬ (3 : Int) = 1 by decide, show ¬ (3 : Int) = 2 by decide, if_false, if_true]
        rw [eqStg_no (fun e => h (congrArg StgB.unit e))]; rfl
      rw [hf]
      clear hf hl hn
      have h1 : (u == 0) = false := beq_eq_false_iff_ne.2 h
      have HB0 := Lib.hid ((Below.refl W.heap.size W).alloc (Nat.le_refl _) (.cells #[.int .i64 3, .string nm, .string op, .string v, .int .i64 0, .int .i64 u] 35))
      have BK := Lib.hid (Blk.new W 35 #[.int .i64 3, .string nm, .string op, .string v, .int .i64 0, .int .i64 u])
      have c0 := BK.out.cell 0
      go_enter Tryz.func21, Tryz.ntmps21
      go_wp2
      go_ret
      exact ⟨rfl, HB0.out⟩
  ·
    have hf : rightS ⟨3, nm, op, v, n, u⟩ = false := by
      unfold rightS
      simp only [show ¬ (3 : Int) = 1 by decide, show ¬ (3 : Int) = 2 by decide, if_false, if_true]
      rw [eqStg_no (fun e => h (congrArg StgB.num e))]; rfl
    rw [hf]
    clear hf hl hn
    have h1 : (n == 0) = false := beq_eq_false_iff_ne.2 h
    have HB0 := Lib.hid ((Below.refl W.heap.size W).alloc (Nat.le_refl _) (.cells #[.int .i64 3, .string nm, .string op, .string v, .int .i64 n, .int .i64 u] 35))
    have BK := Lib.hid (Blk.new W 35 #[.int .i64 3, .string nm, .string op, .string v, .int .i64 n, .int .i64 u])
    have c0 := BK.out.cell 0
    go_enter Tryz.func21, Tryz.ntmps21
    go_wp2
    go_ret
    exact ⟨rfl, HB0.out⟩
theorem rightStage4_any (nm op v : ByteArray) (n u : Int) (hn : Num64 n) (W : World) (hl : LibIs W) :
    Calls Tryz.prog 21 #[.agg #[.int .i64 4, .string nm, .string op, .string v, .int .i64 n, .int .i64 u]] W fun e w' => e = .returned (.bool (rightS ⟨4, nm, op, v, n, u⟩)) ∧ Below W.heap.size W w' := by
  by_cases h : v = (⟨#[]⟩ : ByteArray)
  · subst h
    have hf : rightS ⟨4, nm, op, ⟨#[]⟩, n, u⟩ = rightC ⟨4, nm, op, ⟨#[]⟩, n, u⟩ := by
      rw [rightS]
      simp only [show ¬ (4 : Int) = 1 by decide, show ¬ (4 : Int) = 2 by decide, show ¬ (4 : Int) = 3 by decide, if_false, if_true]
      rw [eqStg_self]; rfl
    rw [hf]
    have HB0 := Lib.hid ((Below.refl W.heap.size W).alloc (Nat.le_refl _) (.cells #[.int .i64 4, .string nm, .string op, .string ⟨#[]⟩, .int .i64 n, .int .i64 u] 35))
    have BK := Lib.hid (Blk.new W 35 #[.int .i64 4, .string nm, .string op, .string ⟨#[]⟩, .int .i64 n, .int .i64 u])
    obtain ⟨b2, h2⟩ : ∃ b, rightC ⟨4, nm, op, ⟨#[]⟩, n, u⟩ = b := ⟨_, rfl⟩
    have RC := Lib.hid (rightCompare_any 4 nm op ⟨#[]⟩ n u hn _ (hl.below HB0.out))
    rw [h2] at RC ⊢
    clear hf h2 hl hn
    have c0 := BK.out.cell 0
    go_enter Tryz.func21, Tryz.ntmps21
    go_wp2_with fail
    refine RC.out.mono ?_
    rintro e w1 ⟨rfl, hb⟩
    have HB := Lib.hid (hop HB0.out (Nat.le_refl _) hb)
    clear hb
    go_wp2
    go_ret
    exact ⟨rfl, HB.out⟩
  ·
    have hf : rightS ⟨4, nm, op, v, n, u⟩ = false := by
      unfold rightS
      simp only [show ¬ (4 : Int) = 1 by decide, show ¬ (4 : Int) = 2 by decide, show ¬ (4 : Int) = 3 by decide, if_false, if_true]
      rw [eqStg_no (fun e => h (congrArg StgB.v e))]; rfl
    rw [hf]
    clear hf hl hn
    obtain ⟨h1, h2⟩ := no_text h
    have HB0 := Lib.hid ((Below.refl W.heap.size W).alloc (Nat.le_refl _) (.cells #[.int .i64 4, .string nm, .string op, .string v, .int .i64 n, .int .i64 u] 35))
    have BK := Lib.hid (Blk.new W 35 #[.int .i64 4, .string nm, .string op, .string v, .int .i64 n, .int .i64 u])
    have c0 := BK.out.cell 0
    go_enter Tryz.func21, Tryz.ntmps21
    go_wp2
    go_ret
    exact ⟨rfl, HB0.out⟩
theorem rightStage_any (k : Int) (nm op v : ByteArray) (n u : Int) (hn : Num64 n) (W : World) (hl : LibIs W) :
    Calls Tryz.prog 21 #[.agg #[.int .i64 k, .string nm, .string op, .string v, .int .i64 n, .int .i64 u]] W fun e w' => e = .returned (.bool (rightS ⟨k, nm, op, v, n, u⟩)) ∧ Below W.heap.size W w' := by
  by_cases k1 : k = 1
  · subst k1; exact rightStage1_any nm op v n u hn W hl
  by_cases k2 : k = 2
  · subst k2; exact rightStage2_any nm op v n u hn W hl
  by_cases k3 : k = 3
  · subst k3; exact rightStage3_any nm op v n u hn W hl
  by_cases k4 : k = 4
  · subst k4; exact rightStage4_any nm op v n u hn W hl
  have hf : rightS ⟨k, nm, op, v, n, u⟩ = false := by
    unfold rightS
    simp only [k1, k2, k3, k4, if_false]
  rw [hf]
  have g1 : (k == 1) = false := beq_eq_false_iff_ne.2 k1
  have g2 : (k == 2) = false := beq_eq_false_iff_ne.2 k2
  have g3 : (k == 3) = false := beq_eq_false_iff_ne.2 k3
  have g4 : (k == 4) = false := beq_eq_false_iff_ne.2 k4
  clear hf hl hn
  have HB0 := Lib.hid ((Below.refl W.heap.size W).alloc (Nat.le_refl _) (.cells #[.int .i64 k, .string nm, .string op, .string v, .int .i64 n, .int .i64 u] 35))
  have BK := Lib.hid (Blk.new W 35 #[.int .i64 k, .string nm, .string op, .string v, .int .i64 n, .int .i64 u])
  have c0 := BK.out.cell 0
  go_enter Tryz.func21, Tryz.ntmps21
  go_wp2
  go_ret
  exact ⟨rfl, HB0.out⟩
def eqT (a b : ByteArray) : Bool := a.toList == b.toList
def hasT (s sub : ByteArray) : Bool := Lib.contains s.data.toList sub.data.toList
def exprOf (v : ByteArray) : NodeT := (parseB v.data.toList).1
def sufT (op : ByteArray) : Bool := Lib.hasSuffix op.data.toList [126]
noncomputable def testM (op v t : ByteArray) : Bool :=
  if op.data.toList = [61] then eqT t v else if op.data.toList = [33, 61] then !eqT t v else if op.data.toList = [61, 126] then wholeB t.data.toList (exprOf v) else !wholeB t.data.toList (exprOf v)
noncomputable def lineM (op v t : ByteArray) : Bool :=
  if op.data.toList = [124, 61] then hasT t v else if op.data.toList = [33, 61] then !hasT t v else if op.data.toList = [124, 126] then foundB t.data.toList (exprOf v) else !foundB t.data.toList (exprOf v)
theorem testM_eq (v t : ByteArray) : testM ⟨#[61]⟩ v t = eqT t v := rfl
theorem testM_ne (v t : ByteArray) : testM ⟨#[33, 61]⟩ v t = !eqT t v := rfl
theorem testM_w (v t : ByteArray) : testM ⟨#[61, 126]⟩ v t = wholeB t.data.toList (exprOf v) := rfl
theorem testM_nw (v t : ByteArray) : testM ⟨#[33, 126]⟩ v t = !wholeB t.data.toList (exprOf v) := rfl
theorem lineM_in (v t : ByteArray) : lineM ⟨#[124, 61]⟩ v t = hasT t v := rfl
theorem lineM_out (v t : ByteArray) : lineM ⟨#[33, 61]⟩ v t = !hasT t v := rfl
theorem lineM_f (v t : ByteArray) : lineM ⟨#[124, 126]⟩ v t = foundB t.data.toList (exprOf v) := rfl
theorem lineM_nf (v t : ByteArray) : lineM ⟨#[33, 126]⟩ v t = !foundB t.data.toList (exprOf v) := rfl
theorem text_four {op : ByteArray} (h : op ∈ textOps) : op = ⟨#[61]⟩ ∨ op = ⟨#[33, 61]⟩ ∨ op = ⟨#[61, 126]⟩ ∨ op = ⟨#[33, 126]⟩ := by
  simpa only [textOps, List.mem_cons, List.not_mem_nil, or_false] using h
theorem line_four {op : ByteArray} (h : op ∈ lineOps) : op = ⟨#[124, 61]⟩ ∨ op = ⟨#[33, 61]⟩ ∨ op = ⟨#[124, 126]⟩ ∨ op = ⟨#[33, 126]⟩ := by
  simpa only [lineOps, List.mem_cons, List.not_mem_nil, or_false] using h
theorem among_in {s : ByteArray} {ss : List ByteArray} (h : amongB s ss = true) : s ∈ ss := by
  unfold amongB at h
  obtain ⟨x, hx, he⟩ := List.any_eq_true.1 h
  rw [← (eqB_iff x s).1 he]
  exact hx
theorem fits_in {ops : List ByteArray} {op v : ByteArray} (h : fitsB ops op v = true) : op ∈ ops ∧ v.size ≤ 256 ∧ (amongB op exprOps = true → okB v = true) := by
  unfold fitsB at h
  simp only [Bool.and_eq_true, decide_eq_true_eq, Bool.or_eq_true, Bool.not_eq_true'] at h
  refine ⟨among_in h.1, h.2.1, fun k => ?_⟩
  rcases h.2.2 with h2 | h2
  · rw [h2] at k; cases k
  · exact h2
theorem suf_text {op : ByteArray} (h : op ∈ textOps) : sufT op = amongB op exprOps := by
  rcases text_four h with rfl | rfl | rfl | rfl <;> decide +kernel
theorem suf_line {op : ByteArray} (h : op ∈ lineOps) : sufT op = amongB op exprOps := by
  rcases line_four h with rfl | rfl | rfl | rfl <;> decide +kernel
theorem ok_parse {v : ByteArray} (h : okB v = true) : parseB v.data.toList = (exprOf v, (parseB v.data.toList).2.1, 0) := by
  unfold okB at h
  have h2 : (parseB v.data.toList).2.2 = 0 := by simpa using h
  unfold exprOf
  rw [← h2]
theorem blk_type {w : World} {g : Nat} {t t' : TypeId} {cs cs' : Array Value} (h : Blk w g t cs) (k : Blk w g t' cs') : t = t' := by
  unfold Blk at h k
  rw [h] at k
  injection k with k
  injection k with _ k _
def Save (T : TypeId) (w w' : World) : Prop := ∀ k t cs, Blk w k t cs → t ≠ T → Blk w' k t cs
theorem Save.set {w : World} {g : Nat} {T : TypeId} {cs : Array Value} (K : Blk w g T cs) (i : Nat) (u : Value) : Save T w (w.setCell ⟨g, i, none⟩ u) :=
  fun k t cs h ht => h.far (p := ⟨g, i, none⟩) (fun e => ht (by obtain rfl : k = g := e; exact blk_type h K)) u
theorem Save.grown {w w' : World} {T : TypeId} {r : Option Nat} (h : w.grownBy w' r) (hr : ∀ k, r = some k → ∃ cs, Blk w k T cs) : Save T w w' :=
  fun k t cs hk ht => (h.block k hk.lt (fun e => by obtain ⟨c, hc⟩ := hr k e.symm; exact ht (blk_type hk hc))).trans hk
theorem Save.below {w w' : World} (T : TypeId) (hb : Below w.heap.size w w') : Save T w w' := fun _ _ _ h _ => h.below hb h.lt
theorem OwnR.only {α : Type} {V : α → List Value} {s : Nat} {w w' : World} {B ty T : Nat} {v : Value} {l : List α} (h : OwnR V s w B ty v l) (ho : Save T w w') (ht : ty ≠ T) : OwnR V s w' B ty v l := by
  refine ⟨h.1, ?_⟩
  rcases h.2 with h0 | ⟨g, cap, cur, hv, hg, hh, hx⟩
  · exact .inl h0
  · exact .inr ⟨g, cap, cur, hv, hg, ho g ty cur hh ht, hx⟩
theorem PrgAt.only {w w' : World} {b : Nat} {x : NodeT} {T : TypeId} (h : PrgAt w b x) (ho : Save T w w') (h1 : 110 ≠ T) (h2 : 131 ≠ T) : PrgAt w' b x := by
  obtain ⟨hn, hs, base, v, t, hp, ht⟩ := h
  exact ⟨hn, hs, base, v, t, ⟨ho _ _ _ hp.blk h1, OwnR.only hp.row ho h2⟩, ht⟩
def ProgP (w : World) (p : Value) (op v : ByteArray) : Prop := (sufT op = false → p = .pointer none) ∧ (sufT op = true → ∃ b, p = .pointer (some ⟨b, 0, none⟩) ∧ PrgAt w b (exprOf v))
theorem ProgP.below {w w' : World} {p : Value} {op v : ByteArray} (h : ProgP w p op v) (hb : Below w.heap.size w w') : ProgP w' p op v :=
  ⟨h.1, fun k => by obtain ⟨b, h1, h2⟩ := h.2 k; exact ⟨b, h1, h2.below hb⟩⟩
theorem ProgP.only {w w' : World} {p : Value} {op v : ByteArray} {T : TypeId} (h : ProgP w p op v) (ho : Save T w w') (h1 : 110 ≠ T) (h2 : 131 ≠ T) : ProgP w' p op v :=
  ⟨h.1, fun k => by obtain ⟨b, h3, h4⟩ := h.2 k; exact ⟨b, h3, h4.only ho h1 h2⟩⟩
def OneP (w : World) (b : Nat) (nm op v : ByteArray) : Prop := ∃ p, Blk w b 66 #[.string op, .string v, p, .string nm] ∧ ProgP w p op v
theorem OneP.below {w w' : World} {b : Nat} {nm op v : ByteArray} (h : OneP w b nm op v) (hb : Below w.heap.size w w') : OneP w' b nm op v := by
  obtain ⟨p, h1, h2⟩ := h
  exact ⟨p, h1.below hb h1.lt, h2.below hb⟩
theorem OneP.only {w w' : World} {b : Nat} {nm op v : ByteArray} {T : TypeId} (h : OneP w b nm op v) (ho : Save T w w') (h0 : 66 ≠ T) (h1 : 110 ≠ T) (h2 : 131 ≠ T) : OneP w' b nm op v := by
  obtain ⟨p, h3, h4⟩ := h
  exact ⟨p, ho _ _ _ h3 h0, h4.only ho h1 h2⟩
def LineP (w : World) (b : Nat) (op v : ByteArray) : Prop := ∃ p, Blk w b 69 #[.string op, .string v, p] ∧ ProgP w p op v
theorem LineP.below {w w' : World} {b : Nat} {op v : ByteArray} (h : LineP w b op v) (hb : Below w.heap.size w w') : LineP w' b op v := by
  obtain ⟨p, h1, h2⟩ := h
  exact ⟨p, h1.below hb h1.lt, h2.below hb⟩
end Go.Proofs.YtbkpoimaienhpaaGreatDoor
