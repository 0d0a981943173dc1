/- The walk of the law LogfmtMany: however long a line is, there are so many fields at most, and each is right. -/
import Derived.Test.YtimmfmgnjpcdoaaLogExam
import Derived.Test.YtimmfmgnjpcdoaaLogLine
import Derived.Test.YtimmfmgnjpcdoaaLabSets
namespace Go.Proofs.Ytimmfmgnjpcdoaa
open Go.RowKit
set_option linter.unusedVariables false
set_option linter.unusedSimpArgs false

structure One8 (w : World) (g n : Nat) : Prop where
  blk : Blk w g 5 #[.int .u8 (n : Int)]
theorem One8.below {w w' : World} {g n : Nat} (h : One8 w g n) (hb : Below w.heap.size w w') : One8 w' g n := ⟨h.blk.below hb h.blk.lt⟩
theorem One8.conv {w : World} {g n : Nat} (h : One8 w g n) (hn : n < 256) : (convert 22 9 (.slice (some ⟨g, 0, none⟩) 1 1)).run Try.prog w = .ok (.string ⟨#[UInt8.ofNat n]⟩) w := by
  have h2 : (UInt8.ofNat n).toNat = n := by simp; omega
  have ho : OwnB w 0 5 (.slice (some ⟨g, 0, none⟩) 1 1) [UInt8.ofNat n] := by
    refine ⟨by simp [bV], .inr ⟨g, 1, _, rfl, Nat.zero_le _, h.blk, Nat.le_refl _, by decide, rfl, by simp [bV, h2]⟩⟩
  exact conv_own ho
theorem allR_ok (t : ByteArray) : ∀ f k m, ∀ p ∈ allR t f k m, okF p = true
  | 0, k, m => fun p hp => by cases hp
  | f + 1, k, m => fun p hp => by
    rw [allR_succ] at hp
    split at hp
    · cases hp
    · split at hp
      · cases hp
      · split at hp
        · next hok =>
          rcases List.mem_cons.1 hp with rfl | hp
          · exact hok
          · exact allR_ok t f _ _ p hp
        · exact allR_ok t f _ _ p hp
theorem allF_ok (t : ByteArray) : ∀ p ∈ allF t, nameB p.1 = true ∧ p.2.size ≤ 256 := fun p hp => by
  have h := allR_ok t _ _ _ p hp
  unfold okF at h
  rw [Bool.and_eq_true] at h
  exact ⟨h.1, of_decide_eq_true h.2⟩
theorem rightGo_set : ∀ (l : List PairB) (prev : Option ByteArray), (∀ p ∈ l, nameB p.1 = true ∧ p.2.size ≤ 256) → l.Pairwise RiseP → (∀ q, prev = some q → ∀ p ∈ l, txtC q p.1 < 0) → rightGo prev l = true
  | [], _, _, _, _ => rfl
  | p :: l, prev, h1, h2, h3 => by
    rw [rightGo, Bool.and_eq_true]
    have hp := h1 p List.mem_cons_self
    rw [List.pairwise_cons] at h2
    refine ⟨?_, rightGo_set l (some p.1) (fun q hq => h1 q (List.mem_cons_of_mem _ hq)) h2.2 (fun q hq r hr => by injection hq with hq; subst hq; exact h2.1 r hr)⟩
    unfold okAt
    rw [hp.1, decide_eq_true hp.2]
    cases prev with
    | none => rfl
    | some q =>
      have := h3 q rfl p List.mem_cons_self
      simp [this]
theorem ofL_sub (ps : List PairB) : ∀ p ∈ ofL ps, p ∈ ps := fun p hp => by
  rw [ofL_mem] at hp
  have := List.mem_of_getLast? hp
  rw [List.mem_filter] at this
  unfold namedL at this
  exact (List.mem_filter.1 this.1).1
theorem ofF_right (t : ByteArray) : rightB (ofF t) = true := by
  unfold rightB
  rw [decide_eq_true (by unfold ofF; rw [List.length_take]; omega), Bool.true_and]
  refine rightGo_set _ _ (fun p hp => ?_) ?_ (fun q h => by cases h)
  · have h1 : p ∈ ofL (allF t).reverse := List.mem_of_mem_take hp
    exact allF_ok t p (List.mem_reverse.1 (ofL_sub _ p h1))
  · exact (ofL_rise _).sublist (List.take_sublist _ _)
set_option maxRecDepth 100000 in
set_option maxHeartbeats 3200000 in
theorem logfmtMany_walk {W : World} (A : Option Addr) (len c : Nat) (zs : List Int) (tm : Int) (hz : Ints .u8 W A len zs) (hlc : len ≤ c) (hcm : c ≤ maxLen) (wt : (Lit.int .u8 tm).wf = true) :
    Calls Try.prog 6 #[.slice A len c, .int .u8 tm] W fun e w' => e = .returned (.bool true) ∧ Below W.heap.size W w' := by
  have h0 : W.heap.size ≤ W.heap.size := Nat.le_refl _
  obtain ⟨b0, b1⟩ := bdu8 wt
  unfold maxLen at hcm
  obtain ⟨m, hm⟩ : ∃ m : Nat, (m : Int) = tm % 20 := ⟨(tm % 20).toNat, by omega⟩
  have hm20 : m < 20 := by omega
  have hmI : tm % 20 = (m : Int) := hm.symm
  have hmT : tm.tmod 20 = (m : Int) := by rw [Int.tmod_eq_emod_of_nonneg (by omega)]; exact hmI
  have hmW : IntKind.u8.wrap (m : Int) = (m : Int) := by rw [IntKind.wrap_u8]; omega
  have hmV : IntKind.i64.wrap (m : Int) = (m : Int) := by rw [IntKind.wrap_i64]; omega
  have HX := Lib.hid (logExamples_any W)
  have LN := fun w (h : Hid (Ints .u8 w A len zs)) => line_any A len c zs (by omega) w h.out
  have hls : (lineS zs (min len 40)).size ≤ 360 := by have := lineS_size zs (min len 40); omega
  obtain ⟨ln, hln⟩ : ∃ s, lineS zs (min len 40) = s := ⟨_, rfl⟩
  simp only [hln] at LN
  rw [hln] at hls
  replace LN := Lib.hid LN
  have HZ := Lib.hid hz
  clear hz hln hm wt
  go_enter Try.func6, Try.ntmps6
  go_wp2_with fail
  refine HX.out.mono ?_
  rintro e w ⟨rfl, hb0⟩
  have HB0 := Lib.hid hb0
  have HZ1 := Lib.hid (HZ.out.below hb0)
  clear hb0 HZ HX
  go_wp2
  go_loopw [6, 7] (fun sv iv wr => ∃ (i : Nat) (t : ByteArray), i ≤ m ∧ iv = .int .i64 i ∧ sv = .string t ∧ t.size ≤ 370 * i ∧ Hid (Below w.heap.size w wr)) (fun _ iv _ => m - (intOf iv).toNat)
  case atStart => exact ⟨0, ⟨#[]⟩, Nat.zero_le _, rfl, rfl, by decide, Lib.hid (Below.refl _ _)⟩
  case round =>
    obtain ⟨i, t, him, rfl, rfl, hts, HB⟩ := hrel
    by_cases hi : i < m
    · have hiI : (i : Int) < (m : Int) := by omega
      obtain ⟨n, hn⟩ : ∃ n, n = 97 + i := ⟨_, rfl⟩
      have hnI : 97 + (i : Int) = (n : Int) := by omega
      have hnW : IntKind.u8.wrap (n : Int) = (n : Int) := by rw [IntKind.wrap_u8]; omega
      have hiW : IntKind.u8.wrap (i : Int) = (i : Int) := by rw [IntKind.wrap_u8]; omega
      have hn256 : n < 256 := by omega
      have hwi : IntKind.i64.wrap ((i : Int) + 1) = (i : Int) + 1 := by rw [IntKind.wrap_i64]; omega
      have hys : (⟨#[UInt8.ofNat n]⟩ : ByteArray).size = 1 := rfl
      obtain ⟨y, hy⟩ : ∃ y, (⟨#[UInt8.ofNat n]⟩ : ByteArray) = y := ⟨_, rfl⟩
      have CV := Lib.hid (fun (w : World) g (h : One8 w g n) => show (convert 22 9 (.slice (some ⟨g, 0, none⟩) 1 1)).run Try.prog w = .ok (.string y) w from by rw [← hy]; exact h.conv hn256)
      rw [hy] at hys
      have q1 : (⟨#[32, 107]⟩ : ByteArray).size = 2 := rfl
      have q2 : (⟨#[61, 118]⟩ : ByteArray).size = 2 := rfl
      have s1 : ¬ 9223372036854775807 < t.size + ln.size := by omega
      have s2 : ¬ 9223372036854775807 < t.size + ln.size + 2 := by omega
      have s3 : ¬ 9223372036854775807 < t.size + ln.size + 2 + y.size := by omega
      have s4 : ¬ 9223372036854775807 < t.size + ln.size + 2 + y.size + 2 := by omega
      have s3' : ¬ 9223372036854775807 < t.size + ln.size + 2 + 1 := by omega
      have s4' : ¬ 9223372036854775807 < t.size + ln.size + 2 + 1 + 2 := by omega
      have r2 : ¬ 9223372036854775807 < (t ++ ln).size + (⟨#[32, 107]⟩ : ByteArray).size := by rw [ByteArray.size_append, q1]; omega
      have r3 : ¬ 9223372036854775807 < (t ++ ln ++ (⟨#[32, 107]⟩ : ByteArray)).size + y.size := by rw [ByteArray.size_append, ByteArray.size_append, q1]; omega
      have r4 : ¬ 9223372036854775807 < (t ++ ln ++ (⟨#[32, 107]⟩ : ByteArray) ++ y).size + (⟨#[61, 118]⟩ : ByteArray).size := by rw [ByteArray.size_append, ByteArray.size_append, ByteArray.size_append, q1, q2]; omega
      have HSZ := Lib.hid (show (t ++ ln ++ (⟨#[32, 107]⟩ : ByteArray) ++ y ++ (⟨#[61, 118]⟩ : ByteArray)).size ≤ 370 * (i + 1) by rw [ByteArray.size_append, ByteArray.size_append, ByteArray.size_append, ByteArray.size_append, q1, q2]; omega)
      have HZR := Lib.hid (fun wx (h : Below wr.heap.size wr wx) => Lib.hid ((HZ1.out.below HB.out).below h))
      have S0 : Below wr.heap.size wr wr.drew := below_drewN (Below.refl _ _) 1
      have HS := Lib.hid (fun (wa wb : World) (hS : Below wr.heap.size wr wa) (h : Below wa.heap.size wa wb) => hop hS (Nat.le_refl _) h)
      clear hn hy q1 q2
      go_wp2_with fail
      refine wp_region_held_drew (S := fun w' => Below wr.heap.size wr w') (by kernel_rfl) S0 (fun hHeld => ?_)
      refine wpAnyH_take (i := 0) (oi := { dst := some 20, op := Go.Op.move (Go.Operand.tmp 6), type := 9, pos := "keeps.go:71", after := #[], guard := none }) (v := ?_) rfl (by kernel_rfl) (by kernel_rfl) (by kernel_rfl) (fun _ _ _ h => h) (Or.inl ⟨by kernel_rfl, ?_⟩) (by assumption) ?_
      rotate_left
      · intro w _
        first | (go_simp; done) | (go_simp; with_reducible rfl)
      try simp only [Act.put, List.setIfInBounds_toArray, List.set_cons_zero, List.set_cons_succ]
      refine wpAnyH_take (i := 1) (oi := { dst := some 21, op := Go.Op.move (Go.Operand.tmp 0), type := 22, pos := "keeps.go:71", after := #[], guard := none }) (v := ?_) rfl (by kernel_rfl) (by kernel_rfl) (by kernel_rfl) (fun _ _ _ h => h) (Or.inl ⟨by kernel_rfl, ?_⟩) (by assumption) ?_
      rotate_left
      · intro w _
        first | (go_simp; done) | (go_simp; with_reducible rfl)
      try simp only [Act.put, List.setIfInBounds_toArray, List.set_cons_zero, List.set_cons_succ]
      refine wpAnyH_take (i := 5) (oi := { dst := some 25, op := Go.Op.move (Go.Operand.tmp 7), type := 3, pos := "keeps.go:71", after := #[], guard := none }) (v := ?_) rfl (by kernel_rfl) (by kernel_rfl) (by kernel_rfl) (fun _ _ _ h => h) (Or.inl ⟨by kernel_rfl, ?_⟩) (by assumption) ?_
      rotate_left
      · intro w _
        first | (go_simp; done) | (go_simp; with_reducible rfl)
      try simp only [Act.put, List.setIfInBounds_toArray, List.set_cons_zero, List.set_cons_succ]
      refine wpAnyH_take (i := 6) (oi := { dst := some 26, op := Go.Op.convert 3 5 (Go.Operand.tmp 25), type := 5, pos := "keeps.go:71", after := #[{ on := 5, ground := Go.Ground.data }], guard := none }) (v := ?_) rfl (by kernel_rfl) (by kernel_rfl) (by kernel_rfl) (fun _ _ _ h => h) (Or.inl ⟨by kernel_rfl, ?_⟩) (by assumption) ?_
      rotate_left
      · intro w _
        first | (go_simp; done) | (go_simp; with_reducible rfl)
      try simp only [Act.put, List.setIfInBounds_toArray, List.set_cons_zero, List.set_cons_succ]
      refine wpAnyH_take (i := 7) (oi := { dst := some 27, op := Go.Op.binOp Go.BinOp.add 5 (Go.Operand.const (Go.Value.int Go.IntKind.u8 97)) (Go.Operand.tmp 26) 5, type := 5, pos := "keeps.go:71", after := #[{ on := 6, ground := Go.Ground.data }], guard := none }) (v := ?_) rfl (by kernel_rfl) (by kernel_rfl) (by kernel_rfl) (fun _ _ _ h => h) (Or.inl ⟨by kernel_rfl, ?_⟩) (by assumption) ?_
      rotate_left
      · intro w _
        first | (go_simp; done) | (go_simp; with_reducible rfl)
      try simp only [Act.put, List.setIfInBounds_toArray, List.set_cons_zero, List.set_cons_succ]
      refine wpAnyH_ready (rs := [2, 8]) (by kernel_rfl) (by simp) ?_
      refine AllReadyH.cons (o := { dst := some 22, op := Go.Op.call { callee := Go.Callee.value (Go.Operand.func 9), args := #[Go.Operand.tmp 21], argTypes := #[22] }, type := 9, pos := "keeps.go:71", after := #[{ on := 1, ground := Go.Ground.data }], guard := none }) rfl (fun K hK => ?_) ?_
      ·
        go_simp
        go_at_call 9
        refine (LN.out _ (HZR.out _ (by assumption))).mono ?_
        rintro e wc1 ⟨rfl, hb3⟩
        have Sc1 := HS.out _ _ (by assumption) hb3
        refine hK.out _ _ Sc1 (fun _ => ?_)
        clear hK K hb3
        try simp only [Act.put, List.setIfInBounds_toArray, List.set_cons_zero, List.set_cons_succ]
        refine wpAnyH_take (i := 3) (oi := { dst := some 23, op := Go.Op.binOp Go.BinOp.add 9 (Go.Operand.tmp 20) (Go.Operand.tmp 22) 9, type := 9, pos := "keeps.go:71", after := #[{ on := 0, ground := Go.Ground.data }, { on := 2, ground := Go.Ground.data }], guard := none }) (v := ?_) rfl (by kernel_rfl) (by kernel_rfl) (by kernel_rfl) (fun _ _ _ h => h) (Or.inl ⟨by kernel_rfl, ?_⟩) (by assumption) ?_
        rotate_left
        · intro w _
          first | (go_simp; done) | (go_simp; with_reducible rfl)
        try simp only [Act.put, List.setIfInBounds_toArray, List.set_cons_zero, List.set_cons_succ]
        refine wpAnyH_take (i := 4) (oi := { dst := some 24, op := Go.Op.binOp Go.BinOp.add 9 (Go.Operand.tmp 23) (Go.Operand.const (Go.Value.string { data := #[32, 107] })) 9, type := 9, pos := "keeps.go:71", after := #[{ on := 3, ground := Go.Ground.data }], guard := none }) (v := ?_) rfl (by kernel_rfl) (by kernel_rfl) (by kernel_rfl) (fun _ _ _ h => h) (Or.inl ⟨by kernel_rfl, ?_⟩) (by assumption) ?_
        rotate_left
        · intro w _
          first | (go_simp; done) | (go_simp; with_reducible rfl)
        try simp only [Act.put, List.setIfInBounds_toArray, List.set_cons_zero, List.set_cons_succ]
        refine wpAnyH_ready (rs := [8]) (by kernel_rfl) (by simp) ?_
        refine AllReadyH.cons (o := { dst := some 28, op := Go.Op.buildSlice 22 1 #[(0, Go.Operand.tmp 27)], type := 22, pos := "keeps.go:71", after := #[{ on := 7, ground := Go.Ground.data }], guard := none }) rfl (fun K hK => ?_) AllReadyH.nil
        go_simp
        have hb3 : Below wc1.heap.size wc1 (wc1.alloc (.cells #[.int .u8 (n : Int)] 5)) := (Below.refl _ _).alloc (Nat.le_refl _) _
        obtain ⟨g8, hg8⟩ : ∃ g, wc1.heap.size = g := ⟨_, rfl⟩
        have HO8 : One8 (wc1.alloc (.cells #[.int .u8 (n : Int)] 5)) g8 n := ⟨by rw [← hg8]; exact Blk.new _ _ _⟩
        obtain ⟨wc2, hwwc2⟩ : ∃ z, (wc1.alloc (.cells #[.int .u8 (n : Int)] 5)) = z := ⟨_, rfl⟩
        have Hb3 := Lib.hid hb3
        have HHO8 := Lib.hid HO8
        clear hb3 HO8
        rw [hwwc2] at Hb3 HHO8
        rw [hwwc2, hg8]
        have hb3 := Hb3.out
        have HO8 := HHO8.out
        clear hwwc2 Hb3 HHO8 hg8
        have Sc2 := HS.out _ _ (by assumption) hb3
        refine hK.out _ _ Sc2 (fun _ => ?_)
        clear hK K hb3
        try simp only [Act.put, List.setIfInBounds_toArray, List.set_cons_zero, List.set_cons_succ]
        refine wpAnyH_ready (rs := [9]) (by kernel_rfl) (by simp) ?_
        refine AllReadyH.cons (o := { dst := some 29, op := Go.Op.convert 22 9 (Go.Operand.tmp 28), type := 9, pos := "keeps.go:71", after := #[{ on := 8, ground := Go.Ground.data }], guard := none }) rfl (fun K hK => ?_) AllReadyH.nil
        have cvv := CV.out _ _ HO8
        go_simp
        refine hK.out _ _ (by assumption) (fun _ => ?_)
        clear cvv
        clear hK K
        try simp only [Act.put, List.setIfInBounds_toArray, List.set_cons_zero, List.set_cons_succ]
        refine wpAnyH_take (i := 10) (oi := { dst := some 30, op := Go.Op.binOp Go.BinOp.add 9 (Go.Operand.tmp 24) (Go.Operand.tmp 29) 9, type := 9, pos := "keeps.go:71", after := #[{ on := 4, ground := Go.Ground.data }, { on := 9, ground := Go.Ground.data }], guard := none }) (v := ?_) rfl (by kernel_rfl) (by kernel_rfl) (by kernel_rfl) (fun _ _ _ h => h) (Or.inl ⟨by kernel_rfl, ?_⟩) (by assumption) ?_
        rotate_left
        · intro w _
          first | (go_simp; done) | (go_simp; with_reducible rfl)
        try simp only [Act.put, List.setIfInBounds_toArray, List.set_cons_zero, List.set_cons_succ]
        refine wpAnyH_take (i := 11) (oi := { dst := some 31, op := Go.Op.binOp Go.BinOp.add 9 (Go.Operand.tmp 30) (Go.Operand.const (Go.Value.string { data := #[61, 118] })) 9, type := 9, pos := "keeps.go:71", after := #[{ on := 10, ground := Go.Ground.data }], guard := none }) (v := ?_) rfl (by kernel_rfl) (by kernel_rfl) (by kernel_rfl) (fun _ _ _ h => h) (Or.inl ⟨by kernel_rfl, ?_⟩) (by assumption) ?_
        rotate_left
        · intro w _
          first | (go_simp; done) | (go_simp; with_reducible rfl)
        try simp only [Act.put, List.setIfInBounds_toArray, List.set_cons_zero, List.set_cons_succ]
        refine wpAnyH_take (i := 12) (oi := { dst := some 6, op := Go.Op.assign (Go.Operand.tmp 31), type := 9, pos := "keeps.go:71", after := #[{ on := 11, ground := Go.Ground.data }, { on := 2, ground := Go.Ground.chain }, { on := 0, ground := Go.Ground.phase }, { on := 1, ground := Go.Ground.phase }, { on := 2, ground := Go.Ground.phase }, { on := 3, ground := Go.Ground.phase }, { on := 4, ground := Go.Ground.phase }, { on := 5, ground := Go.Ground.phase }, { on := 6, ground := Go.Ground.phase }, { on := 7, ground := Go.Ground.phase }, { on := 8, ground := Go.Ground.phase }, { on := 9, ground := Go.Ground.phase }, { on := 10, ground := Go.Ground.phase }, { on := 11, ground := Go.Ground.phase }], guard := none }) (v := ?_) rfl (by kernel_rfl) (by kernel_rfl) (by kernel_rfl) (fun _ _ _ h => h) (Or.inl ⟨by kernel_rfl, ?_⟩) (by assumption) ?_
        rotate_left
        · intro w _
          first | (go_simp; done) | (go_simp; with_reducible rfl)
        try simp only [Act.put, List.setIfInBounds_toArray, List.set_cons_zero, List.set_cons_succ]
        refine wpAnyH_done (by kernel_rfl) ?_ _
        have HBN := Lib.hid (hop HB.out (Nat.le_refl _) (by assumption))
        go_wp2
        go_round
        case rel => exact ⟨i + 1, _, by omega, by go_num, rfl, HSZ.out, HBN⟩
        case measure => simp [intOf]; omega
      refine AllReadyH.cons (o := { dst := some 28, op := Go.Op.buildSlice 22 1 #[(0, Go.Operand.tmp 27)], type := 22, pos := "keeps.go:71", after := #[{ on := 7, ground := Go.Ground.data }], guard := none }) rfl (fun K hK => ?_) AllReadyH.nil
      ·
        go_simp
        have hb3 : Below wr.drew.heap.size wr.drew (wr.alloc (.cells #[.int .u8 (n : Int)] 5)).drew := (Below.refl _ _).alloc (Nat.le_refl _) _
        obtain ⟨g8, hg8⟩ : ∃ g, wr.heap.size = g := ⟨_, rfl⟩
        have HO8 : One8 (wr.alloc (.cells #[.int .u8 (n : Int)] 5)).drew g8 n := ⟨by rw [← hg8]; exact Blk.new _ _ _⟩
        obtain ⟨wc4, hwwc4⟩ : ∃ z, (wr.alloc (.cells #[.int .u8 (n : Int)] 5)).drew = z := ⟨_, rfl⟩
        have Hb3 := Lib.hid hb3
        have HHO8 := Lib.hid HO8
        clear hb3 HO8
        rw [hwwc4] at Hb3 HHO8
        rw [hwwc4, hg8]
        have hb3 := Hb3.out
        have HO8 := HHO8.out
        clear hwwc4 Hb3 HHO8 hg8
        have Sc4 := HS.out _ _ (by assumption) hb3
        refine hK.out _ _ Sc4 (fun _ => ?_)
        clear hK K hb3
        try simp only [Act.put, List.setIfInBounds_toArray, List.set_cons_zero, List.set_cons_succ]
        refine wpAnyH_ready (rs := [2, 9]) (by kernel_rfl) (by simp) ?_
        refine AllReadyH.cons (o := { dst := some 22, op := Go.Op.call { callee := Go.Callee.value (Go.Operand.func 9), args := #[Go.Operand.tmp 21], argTypes := #[22] }, type := 9, pos := "keeps.go:71", after := #[{ on := 1, ground := Go.Ground.data }], guard := none }) rfl (fun K hK => ?_) ?_
        ·
          go_simp
          go_at_call 9
          refine (LN.out _ (HZR.out _ (by assumption))).mono ?_
          rintro e wc5 ⟨rfl, hb3⟩
          have HO8_ := HO8.below hb3
          clear HO8
          have HO8 := HO8_
          clear HO8_
          have Sc5 := HS.out _ _ (by assumption) hb3
          refine hK.out _ _ Sc5 (fun _ => ?_)
          clear hK K hb3
          try simp only [Act.put, List.setIfInBounds_toArray, List.set_cons_zero, List.set_cons_succ]
          refine wpAnyH_take (i := 3) (oi := { dst := some 23, op := Go.Op.binOp Go.BinOp.add 9 (Go.Operand.tmp 20) (Go.Operand.tmp 22) 9, type := 9, pos := "keeps.go:71", after := #[{ on := 0, ground := Go.Ground.data }, { on := 2, ground := Go.Ground.data }], guard := none }) (v := ?_) rfl (by kernel_rfl) (by kernel_rfl) (by kernel_rfl) (fun _ _ _ h => h) (Or.inl ⟨by kernel_rfl, ?_⟩) (by assumption) ?_
          rotate_left
          · intro w _
            first | (go_simp; done) | (go_simp; with_reducible rfl)
          try simp only [Act.put, List.setIfInBounds_toArray, List.set_cons_zero, List.set_cons_succ]
          refine wpAnyH_take (i := 4) (oi := { dst := some 24, op := Go.Op.binOp Go.BinOp.add 9 (Go.Operand.tmp 23) (Go.Operand.const (Go.Value.string { data := #[32, 107] })) 9, type := 9, pos := "keeps.go:71", after := #[{ on := 3, ground := Go.Ground.data }], guard := none }) (v := ?_) rfl (by kernel_rfl) (by kernel_rfl) (by kernel_rfl) (fun _ _ _ h => h) (Or.inl ⟨by kernel_rfl, ?_⟩) (by assumption) ?_
          rotate_left
          · intro w _
            first | (go_simp; done) | (go_simp; with_reducible rfl)
          try simp only [Act.put, List.setIfInBounds_toArray, List.set_cons_zero, List.set_cons_succ]
          refine wpAnyH_ready (rs := [9]) (by kernel_rfl) (by simp) ?_
          refine AllReadyH.cons (o := { dst := some 29, op := Go.Op.convert 22 9 (Go.Operand.tmp 28), type := 9, pos := "keeps.go:71", after := #[{ on := 8, ground := Go.Ground.data }], guard := none }) rfl (fun K hK => ?_) AllReadyH.nil
          have cvv := CV.out _ _ HO8
          go_simp
          refine hK.out _ _ (by assumption) (fun _ => ?_)
          clear cvv
          clear hK K
          try simp only [Act.put, List.setIfInBounds_toArray, List.set_cons_zero, List.set_cons_succ]
          refine wpAnyH_take (i := 10) (oi := { dst := some 30, op := Go.Op.binOp Go.BinOp.add 9 (Go.Operand.tmp 24) (Go.Operand.tmp 29) 9, type := 9, pos := "keeps.go:71", after := #[{ on := 4, ground := Go.Ground.data }, { on := 9, ground := Go.Ground.data }], guard := none }) (v := ?_) rfl (by kernel_rfl) (by kernel_rfl) (by kernel_rfl) (fun _ _ _ h => h) (Or.inl ⟨by kernel_rfl, ?_⟩) (by assumption) ?_
          rotate_left
          · intro w _
            first | (go_simp; done) | (go_simp; with_reducible rfl)
          try simp only [Act.put, List.setIfInBounds_toArray, List.set_cons_zero, List.set_cons_succ]
          refine wpAnyH_take (i := 11) (oi := { dst := some 31, op := Go.Op.binOp Go.BinOp.add 9 (Go.Operand.tmp 30) (Go.Operand.const (Go.Value.string { data := #[61, 118] })) 9, type := 9, pos := "keeps.go:71", after := #[{ on := 10, ground := Go.Ground.data }], guard := none }) (v := ?_) rfl (by kernel_rfl) (by kernel_rfl) (by kernel_rfl) (fun _ _ _ h => h) (Or.inl ⟨by kernel_rfl, ?_⟩) (by assumption) ?_
          rotate_left
          · intro w _
            first | (go_simp; done) | (go_simp; with_reducible rfl)
          try simp only [Act.put, List.setIfInBounds_toArray, List.set_cons_zero, List.set_cons_succ]
          refine wpAnyH_take (i := 12) (oi := { dst := some 6, op := Go.Op.assign (Go.Operand.tmp 31), type := 9, pos := "keeps.go:71", after := #[{ on := 11, ground := Go.Ground.data }, { on := 2, ground := Go.Ground.chain }, { on := 0, ground := Go.Ground.phase }, { on := 1, ground := Go.Ground.phase }, { on := 2, ground := Go.Ground.phase }, { on := 3, ground := Go.Ground.phase }, { on := 4, ground := Go.Ground.phase }, { on := 5, ground := Go.Ground.phase }, { on := 6, ground := Go.Ground.phase }, { on := 7, ground := Go.Ground.phase }, { on := 8, ground := Go.Ground.phase }, { on := 9, ground := Go.Ground.phase }, { on := 10, ground := Go.Ground.phase }, { on := 11, ground := Go.Ground.phase }], guard := none }) (v := ?_) rfl (by kernel_rfl) (by kernel_rfl) (by kernel_rfl) (fun _ _ _ h => h) (Or.inl ⟨by kernel_rfl, ?_⟩) (by assumption) ?_
          rotate_left
          · intro w _
            first | (go_simp; done) | (go_simp; with_reducible rfl)
          try simp only [Act.put, List.setIfInBounds_toArray, List.set_cons_zero, List.set_cons_succ]
          refine wpAnyH_done (by kernel_rfl) ?_ _
          have HBN := Lib.hid (hop HB.out (Nat.le_refl _) (by assumption))
          go_wp2
          go_round
          case rel => exact ⟨i + 1, _, by omega, by go_num, rfl, HSZ.out, HBN⟩
          case measure => simp [intOf]; omega
        refine AllReadyH.cons (o := { dst := some 29, op := Go.Op.convert 22 9 (Go.Operand.tmp 28), type := 9, pos := "keeps.go:71", after := #[{ on := 8, ground := Go.Ground.data }], guard := none }) rfl (fun K hK => ?_) AllReadyH.nil
        ·
          have cvv := CV.out _ _ HO8
          go_simp
          refine hK.out _ _ (by assumption) (fun _ => ?_)
          clear cvv
          clear hK K
          try simp only [Act.put, List.setIfInBounds_toArray, List.set_cons_zero, List.set_cons_succ]
          refine wpAnyH_ready (rs := [2]) (by kernel_rfl) (by simp) ?_
          refine AllReadyH.cons (o := { dst := some 22, op := Go.Op.call { callee := Go.Callee.value (Go.Operand.func 9), args := #[Go.Operand.tmp 21], argTypes := #[22] }, type := 9, pos := "keeps.go:71", after := #[{ on := 1, ground := Go.Ground.data }], guard := none }) rfl (fun K hK => ?_) AllReadyH.nil
          go_simp
          go_at_call 9
          refine (LN.out _ (HZR.out _ (by assumption))).mono ?_
          rintro e wc8 ⟨rfl, hb3⟩
          have HO8_ := HO8.below hb3
          clear HO8
          have HO8 := HO8_
          clear HO8_
          have Sc8 := HS.out _ _ (by assumption) hb3
          refine hK.out _ _ Sc8 (fun _ => ?_)
          clear hK K hb3
          try simp only [Act.put, List.setIfInBounds_toArray, List.set_cons_zero, List.set_cons_succ]
          refine wpAnyH_take (i := 3) (oi := { dst := some 23, op := Go.Op.binOp Go.BinOp.add 9 (Go.Operand.tmp 20) (Go.Operand.tmp 22) 9, type := 9, pos := "keeps.go:71", after := #[{ on := 0, ground := Go.Ground.data }, { on := 2, ground := Go.Ground.data }], guard := none }) (v := ?_) rfl (by kernel_rfl) (by kernel_rfl) (by kernel_rfl) (fun _ _ _ h => h) (Or.inl ⟨by kernel_rfl, ?_⟩) (by assumption) ?_
          rotate_left
          · intro w _
            first | (go_simp; done) | (go_simp; with_reducible rfl)
          try simp only [Act.put, List.setIfInBounds_toArray, List.set_cons_zero, List.set_cons_succ]
          refine wpAnyH_take (i := 4) (oi := { dst := some 24, op := Go.Op.binOp Go.BinOp.add 9 (Go.Operand.tmp 23) (Go.Operand.const (Go.Value.string { data := #[32, 107] })) 9, type := 9, pos := "keeps.go:71", after := #[{ on := 3, ground := Go.Ground.data }], guard := none }) (v := ?_) rfl (by kernel_rfl) (by kernel_rfl) (by kernel_rfl) (fun _ _ _ h => h) (Or.inl ⟨by kernel_rfl, ?_⟩) (by assumption) ?_
          rotate_left
          · intro w _
            first | (go_simp; done) | (go_simp; with_reducible rfl)
          try simp only [Act.put, List.setIfInBounds_toArray, List.set_cons_zero, List.set_cons_succ]
          refine wpAnyH_take (i := 10) (oi := { dst := some 30, op := Go.Op.binOp Go.BinOp.add 9 (Go.Operand.tmp 24) (Go.Operand.tmp 29) 9, type := 9, pos := "keeps.go:71", after := #[{ on := 4, ground := Go.Ground.data }, { on := 9, ground := Go.Ground.data }], guard := none }) (v := ?_) rfl (by kernel_rfl) (by kernel_rfl) (by kernel_rfl) (fun _ _ _ h => h) (Or.inl ⟨by kernel_rfl, ?_⟩) (by assumption) ?_
          rotate_left
          · intro w _
            first | (go_simp; done) | (go_simp; with_reducible rfl)
          try simp only [Act.put, List.setIfInBounds_toArray, List.set_cons_zero, List.set_cons_succ]
          refine wpAnyH_take (i := 11) (oi := { dst := some 31, op := Go.Op.binOp Go.BinOp.add 9 (Go.Operand.tmp 30) (Go.Operand.const (Go.Value.string { data := #[61, 118] })) 9, type := 9, pos := "keeps.go:71", after := #[{ on := 10, ground := Go.Ground.data }], guard := none }) (v := ?_) rfl (by kernel_rfl) (by kernel_rfl) (by kernel_rfl) (fun _ _ _ h => h) (Or.inl ⟨by kernel_rfl, ?_⟩) (by assumption) ?_
          rotate_left
          · intro w _
            first | (go_simp; done) | (go_simp; with_reducible rfl)
          try simp only [Act.put, List.setIfInBounds_toArray, List.set_cons_zero, List.set_cons_succ]
          refine wpAnyH_take (i := 12) (oi := { dst := some 6, op := Go.Op.assign (Go.Operand.tmp 31), type := 9, pos := "keeps.go:71", after := #[{ on := 11, ground := Go.Ground.data }, { on := 2, ground := Go.Ground.chain }, { on := 0, ground := Go.Ground.phase }, { on := 1, ground := Go.Ground.phase }, { on := 2, ground := Go.Ground.phase }, { on := 3, ground := Go.Ground.phase }, { on := 4, ground := Go.Ground.phase }, { on := 5, ground := Go.Ground.phase }, { on := 6, ground := Go.Ground.phase }, { on := 7, ground := Go.Ground.phase }, { on := 8, ground := Go.Ground.phase }, { on := 9, ground := Go.Ground.phase }, { on := 10, ground := Go.Ground.phase }, { on := 11, ground := Go.Ground.phase }], guard := none }) (v := ?_) rfl (by kernel_rfl) (by kernel_rfl) (by kernel_rfl) (fun _ _ _ h => h) (Or.inl ⟨by kernel_rfl, ?_⟩) (by assumption) ?_
          rotate_left
          · intro w _
            first | (go_simp; done) | (go_simp; with_reducible rfl)
          try simp only [Act.put, List.setIfInBounds_toArray, List.set_cons_zero, List.set_cons_succ]
          refine wpAnyH_done (by kernel_rfl) ?_ _
          have HBN := Lib.hid (hop HB.out (Nat.le_refl _) (by assumption))
          go_wp2
          go_round
          case rel => exact ⟨i + 1, _, by omega, by go_num, rfl, HSZ.out, HBN⟩
          case measure => simp [intOf]; omega
    · obtain rfl : m = i := by omega
      have hiI : ¬ (m : Int) < (m : Int) := by omega
      have AL := all_any t (by omega) wr
      have HOK := Lib.hid (allF_ok t)
      have hln2 := allF_len t
      obtain ⟨l, hl⟩ : ∃ l, allF t = l := ⟨_, rfl⟩
      rw [hl] at AL hln2
      replace HOK := HOK.out
      rw [hl] at HOK
      replace HOK := Lib.hid HOK
      replace AL := Lib.hid AL
      have HB1 := Lib.hid (hop HB0.out (Nat.le_refl _) HB.out)
      have hts2 : t.size ≤ 16000000 := by omega
      have OF := Lib.hid (fun w => logOf_any t hts2 w)
      have HRT := Lib.hid (fun (A : Option Addr) (n c : Nat) (w : World) (hn : n ≤ 16) (h : Hid (Pairs w A n (ofF t))) => show Calls Try.prog 22 #[.slice A n c] w fun e w' => e = .returned (.bool true) ∧ Below w.heap.size w w' from by
        have h2 := right_any A n c (ofF t) (by omega) w h.out
        rw [ofF_right] at h2
        exact h2)
      clear hl hi HB HB0 HZ1 LN
      go_wp2_with fail
      refine AL.out.mono ?_
      rintro e w2 ⟨v, rfl, hown, hx⟩
      obtain ⟨A2, n2, c2, rfl, hn2, hA2, hp2⟩ := OwnP.capL hown
      have HP := Lib.hid hp2
      have HB2 := Lib.hid (hop HB1.out h0 hx)
      have hn64 : n2 ≤ 64 := by omega
      clear hown hx hn2 hA2 hp2 AL HB1 hln2
      go_wp2
      go_loopw [9] (fun iv wr => ∃ i : Nat, i ≤ n2 ∧ iv = .int .i64 i ∧ Hid (Below w2.heap.size w2 wr)) (fun iv _ => n2 - (intOf iv).toNat)
      case atStart => exact ⟨0, Nat.zero_le _, rfl, Lib.hid (Below.refl _ _)⟩
      case round =>
        obtain ⟨i, hin, rfl, HB⟩ := hrel
        by_cases hi : i < n2
        · have hiI : (i : Int) < (n2 : Int) := by omega
          have hpw := HP.out.below HB.out
          obtain ⟨b1, o1, rfl, hlt1, hc1⟩ := hpw.2 (by omega)
          obtain ⟨e1, e2⟩ := hc1 i hi
          have hok := HOK.out (l.getD i pnil) (by
            have := hpw.1
            rw [List.getD_eq_getElem?_getD, List.getElem?_eq_getElem (by omega)]
            exact List.getElem_mem _)
          obtain ⟨⟨p1, p2⟩, hp⟩ : ∃ p, l.getD i pnil = p := ⟨_, rfl⟩
          rw [hp] at e1 e2 hok
          dsimp only at e1 e2 hok
          have NM := Lib.hid (show Calls Try.prog 20 #[.string p1] wr fun e w' => e = .returned (.bool true) ∧ Below wr.heap.size wr w' from hok.1 ▸ name_any p1 wr)
          have hv : ¬ (256 : Int) < (p2.size : Int) := by omega
          clear hpw hc1 hp hok
          go_wp2_with fail
          refine NM.out.mono ?_
          rintro e w3 ⟨rfl, hx⟩
          have f2 : w3.cell? ⟨b1, o1 + i * 2 + 1, none⟩ = some (.string p2) := (hx.cell (p := ⟨b1, o1 + i * 2 + 1, none⟩) hlt1).trans e2
          have HB3 := Lib.hid (hop HB.out (Nat.le_refl _) hx)
          clear hx e1 e2 NM
          go_wp2
          go_round
          case rel => exact ⟨i + 1, by omega, by go_num, HB3⟩
          case measure => simp [intOf]; omega
        · obtain rfl : n2 = i := by omega
          have HB3 := Lib.hid (hop HB2.out (Nat.le_refl _) HB.out)
          have hnI : (n2 : Int) ≤ 64 := by omega
          have hnl : ¬ (n2 : Int) < (n2 : Int) := by omega
          clear hi HB HB2 HP
          go_wp2_with fail
          refine (OF.out _).mono ?_
          rintro e w4 ⟨A4, n4, c4, rfl, hn4, _, _, hx⟩
          have HB4 := Lib.hid (hop HB3.out (Nat.le_refl _) hx)
          have hn4I : (n4 : Int) ≤ 16 := by omega
          clear hx
          go_wp2_with fail
          refine (OF.out _).mono ?_
          rintro e w5 ⟨A5, n5, c5, rfl, hn5, hp5, _, hx⟩
          have HB5 := Lib.hid (hop HB4.out (Nat.le_refl _) hx)
          have RT := Lib.hid (HRT.out A5 n5 c5 w5 hn5 hp5)
          clear hx
          go_wp2_with fail
          refine RT.out.mono ?_
          rintro e w6 ⟨rfl, hx⟩
          have hb6 := hop HB5.out (Nat.le_refl _) hx
          clear hx
          go_wp2
          go_ret
          exact ⟨by first | rfl | simp, hb6⟩
end Go.Proofs.Ytimmfmgnjpcdoaa
