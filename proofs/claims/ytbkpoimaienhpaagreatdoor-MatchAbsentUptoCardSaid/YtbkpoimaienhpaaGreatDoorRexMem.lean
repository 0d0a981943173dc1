-- shaken
import Derived.Test.YtbkpoimaienhpaaGreatDoorRexScan
namespace Go.Proofs.YtbkpoimaienhpaaGreatDoor
open Go.RowKit
set_option linter.unusedVariables false
set_option linter.unusedSimpArgs false
theorem Ps.four {w : World} {b g : Nat} {t : ByteArray} {k o : Nat} {f : Bool} {e : Int} (h : Ps w b t k o f e) (hg : b ≠ g) (x y z v : Value) : Ps ((((w.setCell ⟨g, 0, none⟩ x).setCell ⟨g, 1, none⟩ y).setCell ⟨g, 2, none⟩ z).setCell ⟨g, 3, none⟩ v) b t k o f e :=
  (((h.far hg _).far hg _).far hg _).far hg _
theorem grown_four {W w : World} {r : Option Nat} (h : W.grownBy w r) {g : Nat} (hg : W.heap.size ≤ g) (x y z v : Value) : W.grownBy ((((w.setCell ⟨g, 0, none⟩ x).setCell ⟨g, 1, none⟩ y).setCell ⟨g, 2, none⟩ z).setCell ⟨g, 3, none⟩ v) r :=
  grown_new (grown_new (grown_new (grown_new h hg _) hg _) hg _) hg _
theorem grown_hop {W w w' : World} {r : Option Nat} (h : W.grownBy w r) (hb : Below w.heap.size w w') : W.grownBy w' r := World.grownBy.trans h (grown_of_below hb r)
theorem grown_alloc {W w : World} {r : Option Nat} (h : W.grownBy w r) (x : Obj) : W.grownBy (w.alloc x) r := World.grownBy.trans h (World.grownBy_alloc _ _ _)
def SetPost (x : Option (Nat × List UInt8)) (t : ByteArray) (S : Nat) (ok : Bool) (k : Nat) : Prop :=
  match x with
  | none => ok = false
  | some (T, r) => ok = true ∧ S = T ∧ atL t k = r
theorem spec_idx : ∀ n, n < 256 → (decide (Lib.indexByte [92, 46, 91, 93, 40, 41, 42, 43, 63, 123, 125, 124, 94, 36] (Nat.toUInt8 n) < 0)) = !(spec.contains (Nat.toUInt8 n)) := by decide +kernel
theorem cspec_idx : ∀ n, n < 256 → (decide (Lib.indexByte [92, 93, 45, 94] (Nat.toUInt8 n) < 0)) = !(cspec.contains (Nat.toUInt8 n)) := by decide +kernel
theorem special_any (c : UInt8) : ∃ z : Int, (∀ w, Calls Tryz.prog 133 #[.string ⟨#[92, 46, 91, 93, 40, 41, 42, 43, 63, 123, 125, 124, 94, 36]⟩, .int .u8 (c.toNat : Int)] w fun e w' => e = .returned (.int .i64 z) ∧ w' = w) ∧ (z < 0 ↔ ¬ c ∈ spec) := by
  refine ⟨Lib.indexByte [92, 46, 91, 93, 40, 41, 42, 43, 63, 123, 125, 124, 94, 36] c, fun w => ?_, ?_⟩
  · have h := Tryz.strings_IndexByte ⟨#[92, 46, 91, 93, 40, 41, 42, 43, 63, 123, 125, 124, 94, 36]⟩ (c.toNat : Int) w
    simpa using h
  · have h := spec_idx c.toNat c.toNat_lt
    have e : Nat.toUInt8 c.toNat = c := UInt8.ofNat_toNat
    rw [e] at h
    rw [← decide_eq_true_iff (p := Lib.indexByte _ c < 0), h]
    simp
theorem cspecial_any (c : UInt8) : ∃ z : Int, (∀ w, Calls Tryz.prog 133 #[.string ⟨#[92, 93, 45, 94]⟩, .int .u8 (c.toNat : Int)] w fun e w' => e = .returned (.int .i64 z) ∧ w' = w) ∧ (z < 0 ↔ ¬ c ∈ cspec) := by
  refine ⟨Lib.indexByte [92, 93, 45, 94] c, fun w => ?_, ?_⟩
  · have h := Tryz.strings_IndexByte ⟨#[92, 93, 45, 94]⟩ (c.toNat : Int) w
    simpa using h
  · have h := cspec_idx c.toNat c.toNat_lt
    have e : Nat.toUInt8 c.toNat = c := UInt8.ofNat_toNat
    rw [e] at h
    rw [← decide_eq_true_iff (p := Lib.indexByte _ c < 0), h]
    simp
def nilC : Array Value := #[.int .i64 0, .int .u64 0, .int .u64 0, .int .u64 0, .int .u64 0, .int .i64 0, .int .i64 0, .slice none 0 0]
theorem grown_self (W : World) (r : Option Nat) : W.grownBy W r := grown_of_below (Below.refl _ _) r
theorem grown_set {W w : World} {b : Nat} (h : W.grownBy w (some b)) (i : Nat) (v : Value) : W.grownBy (w.setCell ⟨b, i, none⟩ v) (some b) :=
  ⟨h.os, h.tape, h.output, by simp [World.setCell]; exact h.size, fun k hk hr => (Below.heap_setCell w ⟨b, i, none⟩ v k (fun e => hr (congrArg some e))).trans (h.block k hk hr)⟩
set_option maxHeartbeats 800000 in
theorem fail_any (b : Nat) (at' : Int) (t : ByteArray) (k o : Nat) (f : Bool) (e0 : Int) (W : World) (h : Ps W b t k o f e0) :
    Calls Tryz.prog 128 #[.pointer (some ⟨b, 0, none⟩), .int .i64 at'] W fun e w' => e = .returned (.agg nilC) ∧ Ps w' b t k o true (if f then e0 else at') ∧ W.grownBy w' (some b) := by
  have hlt := h.lt
  have c3 := h.fault
  have f3 := h.blk.frozen 3
  have c4 := h.place
  have f4 := h.blk.frozen 4
  have HP := Lib.hid h
  clear h
  cases f with
  | false =>
    go_enter Tryz.func128, Tryz.ntmps128
    go_wp2
    refine bodyPost_ret (results_cell_row rfl _ _ W.heap.size 97 nilC (0, 0) _ rfl (new_at _ 97 nilC _ (by simp)) Tryz.underlying97 rfl (by kernel_rfl)) rfl ?_
    exact ⟨rfl, ⟨(((HP.out.blk.set_ 3 (.bool true)).set_ 4 (.int .i64 at')).alloc _ : Blk _ b 145 (psC t k o true at')), HP.out.le, HP.out.sz⟩, grown_alloc (grown_set (grown_set (grown_self W (some b)) 3 _) 4 _) _⟩
  | true =>
    go_enter Tryz.func128, Tryz.ntmps128
    go_wp2
    refine bodyPost_ret (results_cell_row rfl _ _ W.heap.size 97 nilC (0, 0) _ rfl (new_at _ 97 nilC _ (by simp)) Tryz.underlying97 rfl (by kernel_rfl)) rfl ?_
    exact ⟨rfl, HP.out.alloc _, grown_alloc (grown_self W (some b)) _⟩
theorem zero_new (W : World) : Blk (W.alloc (.cells #[.int .u64 0, .int .u64 0, .int .u64 0, .int .u64 0] 94)) W.heap.size 94 (setC 0) := by rw [setC_zero]; exact Blk.new _ _ _
theorem escP_cons (b : UInt8) (r : List UInt8) : escP (b :: r) = if b = 110 then some (oneB 10, r) else
    if b = 116 then some (oneB 9, r) else
    if b = 100 then some (withB 0 48 57, r) else
    if b = 119 then some (withB (withB (withB (withB 0 48 57) 65 90) 97 122) 95 95, r) else
    if b = 115 then some (withB (withB (withB 0 9 10) 13 13) 32 32, r) else
    if b = 45 ∨ b ∈ spec then some (oneB b.toNat, r) else none := rfl
set_option maxRecDepth 100000 in
set_option maxHeartbeats 3200000 in
theorem escape_any (b : Nat) (t : ByteArray) (k o : Nat) (f : Bool) (e0 : Int) (W : World) (h : Ps W b t k o f e0) :
    Calls Tryz.prog 144 #[.pointer (some ⟨b, 0, none⟩)] W fun e w' => ∃ S ok j, e = .returned (.tuple #[setV S, .bool ok]) ∧ Ps w' b t j o f e0 ∧ W.grownBy w' (some b) ∧ SetPost (escP (atL t k)) t S ok j := by
  have hlt := h.lt
  have hbn : W.heap.size ≠ b := by omega
  have HK0 := Lib.hid (zero_new W)
  cases hl : atL t k with
  | nil =>
    have NX := Lib.hid (next0 b t k o f e0 hl (W.alloc (.cells #[.int .u64 0, .int .u64 0, .int .u64 0, .int .u64 0] 94)) (h.alloc _))
    clear h
    go_enter Tryz.func144, Tryz.ntmps144
    go_wp2_with fail
    refine NX.out.mono ?_
    rintro e w1 ⟨rfl, hp, hg⟩
    have HP1 := Lib.hid hp
    have HG1 := Lib.hid (World.grownBy.trans (World.grownBy_alloc W (.cells #[.int .u64 0, .int .u64 0, .int .u64 0, .int .u64 0] 94) (some b)) hg)
    have hk := HK0.out.kept hg hbn
    have HK1 := Lib.hid hk
    obtain ⟨⟨d0, d1, d2, d3⟩, f0, f1, f2, f3⟩ := set_cells hk
    clear hk hg hp NX HK0
    go_wp2
    refine bodyPost_ret (results_row_tmp rfl _ _ W.heap.size 94 (setC 0) (0, 0) _ rfl (set_four HK1.out _ _ _ _) Tryz.underlying94 rfl (by kernel_rfl)) rfl ?_
    exact ⟨0, false, k, rfl, HP1.out.four (Ne.symm hbn) _ _ _ _, grown_four HG1.out (Nat.le_refl _) _ _ _ _, rfl⟩
  | cons c r =>
    have NX := next1 b t k o f e0 c r hl (W.alloc (.cells #[.int .u64 0, .int .u64 0, .int .u64 0, .int .u64 0] 94)) (h.alloc _)
    rw [escP_cons]
    have hn256 := c.toNat_lt
    obtain ⟨z, hz1, hz2⟩ := special_any c
    obtain ⟨n, hn⟩ : ∃ n, c.toNat = n := ⟨_, rfl⟩
    rw [hn] at NX hn256
    simp only [hn] at hz1 ⊢
    replace NX := Lib.hid NX
    have HZ := Lib.hid hz1
    have HZ2 := Lib.hid hz2
    have SN := Lib.hid (fun x hx w => single_any x hx w)
    clear h hz1 hz2
    by_cases h110 : c = 110
    · obtain rfl : n = 110 := by rw [← hn, h110]; rfl
      rw [if_pos h110]
      clear hn
      have SO := Lib.hid (fun w => SN.out 10 (by omega) w)
      obtain ⟨T, hT⟩ : ∃ T, oneB 10 = T := ⟨_, rfl⟩
      rw [hT] at SO ⊢
      clear hT SN
      go_enter Tryz.func144, Tryz.ntmps144
      go_wp2_with fail
      refine NX.out.mono ?_
      rintro e w1 ⟨rfl, ⟨hp, hr⟩, hg⟩
      have HP1 := Lib.hid hp
      have HR1 := Lib.hid hr
      have HG1 := Lib.hid (World.grownBy.trans (World.grownBy_alloc W (.cells #[.int .u64 0, .int .u64 0, .int .u64 0, .int .u64 0] 94) (some b)) hg)
      have HK1 := Lib.hid (HK0.out.kept hg hbn)
      clear hg hp hr NX HK0
      go_wp2_with fail
      refine (SO.out _).mono ?_
      rintro e w2 ⟨rfl, hx⟩
      have HP2 := Lib.hid (HP1.out.belowS hx)
      have HG2 := Lib.hid (grown_hop HG1.out hx)
      have hk := HK1.out.below hx HK1.out.lt
      have HK2 := Lib.hid hk
      obtain ⟨⟨d0, d1, d2, d3⟩, f0, f1, f2, f3⟩ := set_cells hk
      clear hk hx SO HP1 HG1 HK1
      unfold setV setC
      go_wp2
      refine bodyPost_ret (results_row_tmp rfl _ _ W.heap.size 94 (setC T) (0, 0) _ rfl (set_four HK2.out _ _ _ _) Tryz.underlying94 rfl (by kernel_rfl)) rfl ?_
      exact ⟨T, true, k + 1, rfl, HP2.out.four (Ne.symm hbn) _ _ _ _, grown_four HG2.out (Nat.le_refl _) _ _ _ _, ⟨rfl, rfl, HR1.out⟩⟩
    · rw [if_neg h110]
      have g110 : ((n : Int) == 110) = false := by
        rw [beq_eq_false_iff_ne]
        intro e
        exact h110 (UInt8.toNat_inj.1 (by rw [hn]; exact Int.ofNat.inj e))
      by_cases h116 : c = 116
      · obtain rfl : n = 116 := by rw [← hn, h116]; rfl
        rw [if_pos h116]
        clear hn
        have SO := Lib.hid (fun w => SN.out 9 (by omega) w)
        obtain ⟨T, hT⟩ : ∃ T, oneB 9 = T := ⟨_, rfl⟩
        rw [hT] at SO ⊢
        clear hT SN
        go_enter Tryz.func144, Tryz.ntmps144
        go_wp2_with fail
        refine NX.out.mono ?_
        rintro e w1 ⟨rfl, ⟨hp, hr⟩, hg⟩
        have HP1 := Lib.hid hp
        have HR1 := Lib.hid hr
        have HG1 := Lib.hid (World.grownBy.trans (World.grownBy_alloc W (.cells #[.int .u64 0, .int .u64 0, .int .u64 0, .int .u64 0] 94) (some b)) hg)
        have HK1 := Lib.hid (HK0.out.kept hg hbn)
        clear hg hp hr NX HK0
        go_wp2_with fail
        refine (SO.out _).mono ?_
        rintro e w2 ⟨rfl, hx⟩
        have HP2 := Lib.hid (HP1.out.belowS hx)
        have HG2 := Lib.hid (grown_hop HG1.out hx)
        have hk := HK1.out.below hx HK1.out.lt
        have HK2 := Lib.hid hk
        obtain ⟨⟨d0, d1, d2, d3⟩, f0, f1, f2, f3⟩ := set_cells hk
        clear hk hx SO HP1 HG1 HK1
        unfold setV setC
        go_wp2
        refine bodyPost_ret (results_row_tmp rfl _ _ W.heap.size 94 (setC T) (0, 0) _ rfl (set_four HK2.out _ _ _ _) Tryz.underlying94 rfl (by kernel_rfl)) rfl ?_
        exact ⟨T, true, k + 1, rfl, HP2.out.four (Ne.symm hbn) _ _ _ _, grown_four HG2.out (Nat.le_refl _) _ _ _ _, ⟨rfl, rfl, HR1.out⟩⟩
      · rw [if_neg h116]
        have g116 : ((n : Int) == 116) = false := by
          rw [beq_eq_false_iff_ne]
          intro e
          exact h116 (UInt8.toNat_inj.1 (by rw [hn]; exact Int.ofNat.inj e))
        by_cases h100 : c = 100
        · obtain rfl : n = 100 := by rw [← hn, h100]; rfl
          rw [if_pos h100]
          clear hn
          have SO := Lib.hid (fun w => setOf_any (some ⟨w.heap.size, 0, none⟩) 1 1 [(48, 57)] (by decide) (by decide) _ (spans_lit w [(48, 57)] _ rfl))
          have hx0 : setV (foldB [(48, 57)]) = setV (withB 0 48 57) := rfl
          rw [hx0] at SO
          obtain ⟨T, hT⟩ : ∃ T, withB 0 48 57 = T := ⟨_, rfl⟩
          rw [hT] at SO ⊢
          clear hT SN
          go_enter Tryz.func144, Tryz.ntmps144
          go_wp2_with fail
          refine NX.out.mono ?_
          rintro e w1 ⟨rfl, ⟨hp, hr⟩, hg⟩
          have HP1 := Lib.hid hp
          have HR1 := Lib.hid hr
          have HG1 := Lib.hid (World.grownBy.trans (World.grownBy_alloc W (.cells #[.int .u64 0, .int .u64 0, .int .u64 0, .int .u64 0] 94) (some b)) hg)
          have HK1 := Lib.hid (HK0.out.kept hg hbn)
          clear hg hp hr NX HK0
          go_wp2_with fail
          refine (SO.out _).mono ?_
          rintro e w2 ⟨rfl, hx⟩
          have HP2 := Lib.hid ((HP1.out.alloc (.cells (rowV spanV [(48, 57)]).toArray 189)).belowS hx)
          have HG2 := Lib.hid (grown_hop (grown_alloc HG1.out (.cells (rowV spanV [(48, 57)]).toArray 189)) hx)
          have hk := (HK1.out.alloc (.cells (rowV spanV [(48, 57)]).toArray 189)).below hx (HK1.out.alloc _).lt
          have HK2 := Lib.hid hk
          obtain ⟨⟨d0, d1, d2, d3⟩, f0, f1, f2, f3⟩ := set_cells hk
          clear hk hx SO HP1 HG1 HK1
          unfold setV setC
          go_wp2
          refine bodyPost_ret (results_row_tmp rfl _ _ W.heap.size 94 (setC T) (0, 0) _ rfl (set_four HK2.out _ _ _ _) Tryz.underlying94 rfl (by kernel_rfl)) rfl ?_
          exact ⟨T, true, k + 1, rfl, HP2.out.four (Ne.symm hbn) _ _ _ _, grown_four HG2.out (Nat.le_refl _) _ _ _ _, ⟨rfl, rfl, HR1.out⟩⟩
        · rw [if_neg h100]
          have g100 : ((n : Int) == 100) = false := by
            rw [beq_eq_false_iff_ne]
            intro e
            exact h100 (UInt8.toNat_inj.1 (by rw [hn]; exact Int.ofNat.inj e))
          by_cases h119 : c = 119
          · obtain rfl : n = 119 := by rw [← hn, h119]; rfl
            rw [if_pos h119]
            clear hn
            have SO := Lib.hid (fun w => setOf_any (some ⟨w.heap.size, 0, none⟩) 4 4 [(48, 57), (65, 90), (97, 122), (95, 95)] (by decide) (by decide) _ (spans_lit w [(48, 57), (65, 90), (97, 122), (95, 95)] _ rfl))
            have hx0 : setV (foldB [(48, 57), (65, 90), (97, 122), (95, 95)]) = setV (withB (withB (withB (withB 0 48 57) 65 90) 97 122) 95 95) := rfl
            rw [hx0] at SO
            obtain ⟨T, hT⟩ : ∃ T, withB (withB (withB (withB 0 48 57) 65 90) 97 122) 95 95 = T := ⟨_, rfl⟩
            rw [hT] at SO ⊢
            clear hT SN
            go_enter Tryz.func144, Tryz.ntmps144
            go_wp2_with fail
            refine NX.out.mono ?_
            rintro e w1 ⟨rfl, ⟨hp, hr⟩, hg⟩
            have HP1 := Lib.hid hp
            have HR1 := Lib.hid hr
            have HG1 := Lib.hid (World.grownBy.trans (World.grownBy_alloc W (.cells #[.int .u64 0, .int .u64 0, .int .u64 0, .int .u64 0] 94) (some b)) hg)
            have HK1 := Lib.hid (HK0.out.kept hg hbn)
            clear hg hp hr NX HK0
            go_wp2_with fail
            refine (SO.out _).mono ?_
            rintro e w2 ⟨rfl, hx⟩
            have HP2 := Lib.hid ((HP1.out.alloc (.cells (rowV spanV [(48, 57), (65, 90), (97, 122), (95, 95)]).toArray 189)).belowS hx)
            have HG2 := Lib.hid (grown_hop (grown_alloc HG1.out (.cells (rowV spanV [(48, 57), (65, 90), (97, 122), (95, 95)]).toArray 189)) hx)
            have hk := (HK1.out.alloc (.cells (rowV spanV [(48, 57), (65, 90), (97, 122), (95, 95)]).toArray 189)).below hx (HK1.out.alloc _).lt
            have HK2 := Lib.hid hk
            obtain ⟨⟨d0, d1, d2, d3⟩, f0, f1, f2, f3⟩ := set_cells hk
            clear hk hx SO HP1 HG1 HK1
            unfold setV setC
            go_wp2
            refine bodyPost_ret (results_row_tmp rfl _ _ W.heap.size 94 (setC T) (0, 0) _ rfl (set_four HK2.out _ _ _ _) Tryz.underlying94 rfl (by kernel_rfl)) rfl ?_
            exact ⟨T, true, k + 1, rfl, HP2.out.four (Ne.symm hbn) _ _ _ _, grown_four HG2.out (Nat.le_refl _) _ _ _ _, ⟨rfl, rfl, HR1.out⟩⟩
          · rw [if_neg h119]
            have g119 : ((n : Int) == 119) = false := by
              rw [beq_eq_false_iff_ne]
              intro e
              exact h119 (UInt8.toNat_inj.1 (by rw [hn]; exact Int.ofNat.inj e))
            by_cases h115 : c = 115
            · obtain rfl : n = 115 := by rw [← hn, h115]; rfl
              rw [if_pos h115]
              clear hn
              have SO := Lib.hid (fun w => setOf_any (some ⟨w.heap.size, 0, none⟩) 3 3 [(9, 10), (13, 13), (32, 32)] (by decide) (by decide) _ (spans_lit w [(9, 10), (13, 13), (32, 32)] _ rfl))
              have hx0 : setV (foldB [(9, 10), (13, 13), (32, 32)]) = setV (withB (withB (withB 0 9 10) 13 13) 32 32) := rfl
              rw [hx0] at SO
              obtain ⟨T, hT⟩ : ∃ T, withB (withB (withB 0 9 10) 13 13) 32 32 = T := ⟨_, rfl⟩
              rw [hT] at SO ⊢
              clear hT SN
              go_enter Tryz.func144, Tryz.ntmps144
              go_wp2_with fail
              refine NX.out.mono ?_
              rintro e w1 ⟨rfl, ⟨hp, hr⟩, hg⟩
              have HP1 := Lib.hid hp
              have HR1 := Lib.hid hr
              have HG1 := Lib.hid (World.grownBy.trans (World.grownBy_alloc W (.cells #[.int .u64 0, .int .u64 0, .int .u64 0, .int .u64 0] 94) (some b)) hg)
              have HK1 := Lib.hid (HK0.out.kept hg hbn)
              clear hg hp hr NX HK0
              go_wp2_with fail
              refine (SO.out _).mono ?_
              rintro e w2 ⟨rfl, hx⟩
              have HP2 := Lib.hid ((HP1.out.alloc (.cells (rowV spanV [(9, 10), (13, 13), (32, 32)]).toArray 189)).belowS hx)
              have HG2 := Lib.hid (grown_hop (grown_alloc HG1.out (.cells (rowV spanV [(9, 10), (13, 13), (32, 32)]).toArray 189)) hx)
              have hk := (HK1.out.alloc (.cells (rowV spanV [(9, 10), (13, 13), (32, 32)]).toArray 189)).below hx (HK1.out.alloc _).lt
              have HK2 := Lib.hid hk
              obtain ⟨⟨d0, d1, d2, d3⟩, f0, f1, f2, f3⟩ := set_cells hk
              clear hk hx SO HP1 HG1 HK1
              unfold setV setC
              go_wp2
              refine bodyPost_ret (results_row_tmp rfl _ _ W.heap.size 94 (setC T) (0, 0) _ rfl (set_four HK2.out _ _ _ _) Tryz.underlying94 rfl (by kernel_rfl)) rfl ?_
              exact ⟨T, true, k + 1, rfl, HP2.out.four (Ne.symm hbn) _ _ _ _, grown_four HG2.out (Nat.le_refl _) _ _ _ _, ⟨rfl, rfl, HR1.out⟩⟩
            · rw [if_neg h115]
              have g115 : ((n : Int) == 115) = false := by
                rw [beq_eq_false_iff_ne]
                intro e
                exact h115 (UInt8.toNat_inj.1 (by rw [hn]; exact Int.ofNat.inj e))
              by_cases h45 : c = 45
              · obtain rfl : n = 45 := by rw [← hn, h45]; rfl
                rw [if_pos (Or.inl h45)]
                clear hn
                have SO := Lib.hid (fun w => SN.out 45 (by omega) w)
                obtain ⟨T, hT⟩ : ∃ T, oneB 45 = T := ⟨_, rfl⟩
                rw [hT] at SO ⊢
                clear hT SN
                go_enter Tryz.func144, Tryz.ntmps144
                go_wp2_with fail
                refine NX.out.mono ?_
                rintro e w1 ⟨rfl, ⟨hp, hr⟩, hg⟩
                have HP1 := Lib.hid hp
                have HR1 := Lib.hid hr
                have HG1 := Lib.hid (World.grownBy.trans (World.grownBy_alloc W (.cells #[.int .u64 0, .int .u64 0, .int .u64 0, .int .u64 0] 94) (some b)) hg)
                have HK1 := Lib.hid (HK0.out.kept hg hbn)
                clear hg hp hr NX HK0
                go_wp2_with fail
                refine (SO.out _).mono ?_
                rintro e w2 ⟨rfl, hx⟩
                have HP2 := Lib.hid (HP1.out.belowS hx)
                have HG2 := Lib.hid (grown_hop HG1.out hx)
                have hk := HK1.out.below hx HK1.out.lt
                have HK2 := Lib.hid hk
                obtain ⟨⟨d0, d1, d2, d3⟩, f0, f1, f2, f3⟩ := set_cells hk
                clear hk hx SO HP1 HG1 HK1
                unfold setV setC
                go_wp2
                refine bodyPost_ret (results_row_tmp rfl _ _ W.heap.size 94 (setC T) (0, 0) _ rfl (set_four HK2.out _ _ _ _) Tryz.underlying94 rfl (by kernel_rfl)) rfl ?_
                exact ⟨T, true, k + 1, rfl, HP2.out.four (Ne.symm hbn) _ _ _ _, grown_four HG2.out (Nat.le_refl _) _ _ _ _, ⟨rfl, rfl, HR1.out⟩⟩
              · have g45 : ((n : Int) == 45) = false := by
                  rw [beq_eq_false_iff_ne]
                  intro e
                  exact h45 (UInt8.toNat_inj.1 (by rw [hn]; exact Int.ofNat.inj e))
                have g45' : ((n : Int) != 45) = true := by rw [bne, g45]; rfl
                have g45'' : ¬ (n : Int) = 45 := by simpa using g45
                by_cases hs : c ∈ spec
                · rw [if_pos (Or.inr hs)]
                  have hzz : ¬ z < 0 := fun q => (HZ2.out.1 q) hs
                  clear hn
                  have SO := Lib.hid (fun w => SN.out n (by omega) w)
                  obtain ⟨T, hT⟩ : ∃ T, oneB n = T := ⟨_, rfl⟩
                  rw [hT] at SO ⊢
                  clear hT SN
                  go_enter Tryz.func144, Tryz.ntmps144
                  go_wp2_with fail
                  refine NX.out.mono ?_
                  rintro e w1 ⟨rfl, ⟨hp, hr⟩, hg⟩
                  have HP1 := Lib.hid hp
                  have HR1 := Lib.hid hr
                  have HG1 := Lib.hid (World.grownBy.trans (World.grownBy_alloc W (.cells #[.int .u64 0, .int .u64 0, .int .u64 0, .int .u64 0] 94) (some b)) hg)
                  have HK1 := Lib.hid (HK0.out.kept hg hbn)
                  clear hg hp hr NX HK0
                  go_wp2_with fail
                  refine (HZ.out _).mono ?_
                  rintro e w5 ⟨rfl, rfl⟩
                  go_wp2_with fail
                  refine (SO.out _).mono ?_
                  rintro e w2 ⟨rfl, hx⟩
                  have HP2 := Lib.hid (HP1.out.belowS hx)
                  have HG2 := Lib.hid (grown_hop HG1.out hx)
                  have hk := HK1.out.below hx HK1.out.lt
                  have HK2 := Lib.hid hk
                  obtain ⟨⟨d0, d1, d2, d3⟩, f0, f1, f2, f3⟩ := set_cells hk
                  clear hk hx SO HP1 HG1 HK1
                  unfold setV setC
                  go_wp2
                  refine bodyPost_ret (results_row_tmp rfl _ _ W.heap.size 94 (setC T) (0, 0) _ rfl (set_four HK2.out _ _ _ _) Tryz.underlying94 rfl (by kernel_rfl)) rfl ?_
                  exact ⟨T, true, k + 1, rfl, HP2.out.four (Ne.symm hbn) _ _ _ _, grown_four HG2.out (Nat.le_refl _) _ _ _ _, ⟨rfl, rfl, HR1.out⟩⟩
                · rw [if_neg (by rintro (q | q); exact h45 q; exact hs q)]
                  have hzz : z < 0 := HZ2.out.2 hs
                  clear hn SN
                  go_enter Tryz.func144, Tryz.ntmps144
                  go_wp2_with fail
                  refine NX.out.mono ?_
                  rintro e w1 ⟨rfl, ⟨hp, hr⟩, hg⟩
                  have HP1 := Lib.hid hp
                  have HG1 := Lib.hid (World.grownBy.trans (World.grownBy_alloc W (.cells #[.int .u64 0, .int .u64 0, .int .u64 0, .int .u64 0] 94) (some b)) hg)
                  have hk := HK0.out.kept hg hbn
                  have HK1 := Lib.hid hk
                  obtain ⟨⟨d0, d1, d2, d3⟩, f0, f1, f2, f3⟩ := set_cells hk
                  clear hk hg hp hr NX HK0
                  go_wp2_with fail
                  refine (HZ.out _).mono ?_
                  rintro e w5 ⟨rfl, rfl⟩
                  go_wp2
                  refine bodyPost_ret (results_row_tmp rfl _ _ W.heap.size 94 (setC 0) (0, 0) _ rfl (set_four HK1.out _ _ _ _) Tryz.underlying94 rfl (by kernel_rfl)) rfl ?_
                  exact ⟨0, false, k + 1, rfl, HP1.out.four (Ne.symm hbn) _ _ _ _, grown_four HG1.out (Nat.le_refl _) _ _ _ _, rfl⟩
theorem memP_cons (b : UInt8) (r : List UInt8) : memP (b :: r) = if b = 92 then escP r else if b ∈ cspec then none else some (oneB b.toNat, r) := rfl
set_option maxRecDepth 100000 in
set_option maxHeartbeats 3200000 in
theorem member_any (b : Nat) (t : ByteArray) (k o : Nat) (f : Bool) (e0 : Int) (W : World) (h : Ps W b t k o f e0) :
    Calls Tryz.prog 154 #[.pointer (some ⟨b, 0, none⟩)] W fun e w' => ∃ S ok j, e = .returned (.tuple #[setV S, .bool ok]) ∧ Ps w' b t j o f e0 ∧ W.grownBy w' (some b) ∧ SetPost (memP (atL t k)) t S ok j := by
  have hlt := h.lt
  have hbn : W.heap.size ≠ b := by omega
  have HK0 := Lib.hid (zero_new W)
  cases hl : atL t k with
  | nil =>
    have NX := Lib.hid (next0 b t k o f e0 hl (W.alloc (.cells #[.int .u64 0, .int .u64 0, .int .u64 0, .int .u64 0] 94)) (h.alloc _))
    clear h
    go_enter Tryz.func154, Tryz.ntmps154
    go_wp2_with fail
    refine NX.out.mono ?_
    rintro e w1 ⟨rfl, hp, hg⟩
    have HP1 := Lib.hid hp
    have HG1 := Lib.hid (World.grownBy.trans (World.grownBy_alloc W (.cells #[.int .u64 0, .int .u64 0, .int .u64 0, .int .u64 0] 94) (some b)) hg)
    have hk := HK0.out.kept hg hbn
    have HK1 := Lib.hid hk
    obtain ⟨⟨d0, d1, d2, d3⟩, f0, f1, f2, f3⟩ := set_cells hk
    clear hk hg hp NX HK0
    go_wp2
    refine bodyPost_ret (results_row_tmp rfl _ _ W.heap.size 94 (setC 0) (0, 0) _ rfl (set_four HK1.out _ _ _ _) Tryz.underlying94 rfl (by kernel_rfl)) rfl ?_
    exact ⟨0, false, k, rfl, HP1.out.four (Ne.symm hbn) _ _ _ _, grown_four HG1.out (Nat.le_refl _) _ _ _ _, rfl⟩
  | cons c r =>
    have NX := next1 b t k o f e0 c r hl (W.alloc (.cells #[.int .u64 0, .int .u64 0, .int .u64 0, .int .u64 0] 94)) (h.alloc _)
    rw [memP_cons]
    have hn256 := c.toNat_lt
    obtain ⟨z, hz1, hz2⟩ := cspecial_any c
    obtain ⟨n, hn⟩ : ∃ n, c.toNat = n := ⟨_, rfl⟩
    rw [hn] at NX hn256
    simp only [hn] at hz1 ⊢
    replace NX := Lib.hid NX
    have HZ := Lib.hid hz1
    have HZ2 := Lib.hid hz2
    have SN := Lib.hid (fun x hx w => single_any x hx w)
    clear h hz1 hz2
    by_cases h92 : c = 92
    · obtain rfl : n = 92 := by rw [← hn, h92]; rfl
      rw [if_pos h92]
      have EP := Lib.hid (fun w h => escape_any b t (k + 1) o f e0 w h)
      clear hn SN HZ HZ2
      go_enter Tryz.func154, Tryz.ntmps154
      go_wp2_with fail
      refine NX.out.mono ?_
      rintro e w1 ⟨rfl, ⟨hp, hr⟩, hg⟩
      have HP1 := Lib.hid hp
      have HR1 := Lib.hid hr
      have HG1 := Lib.hid (World.grownBy.trans (World.grownBy_alloc W (.cells #[.int .u64 0, .int .u64 0, .int .u64 0, .int .u64 0] 94) (some b)) hg)
      have HK1 := Lib.hid (HK0.out.kept hg hbn)
      clear hg hp hr NX HK0
      go_wp2_with fail
      refine (EP.out _ HP1.out).mono ?_
      rintro e w2 ⟨S, ok, j, rfl, hp, hg, hpost⟩
      have HP2 := Lib.hid hp
      have HG2 := Lib.hid (World.grownBy.trans HG1.out hg)
      have HPO := Lib.hid hpost
      have hk := HK1.out.kept hg hbn
      have HK2 := Lib.hid hk
      obtain ⟨⟨d0, d1, d2, d3⟩, f0, f1, f2, f3⟩ := set_cells hk
      clear hk hg hp hpost EP HP1 HG1 HK1
      unfold setV setC
      go_wp2
      refine bodyPost_ret (results_row_tmp rfl _ _ W.heap.size 94 (setC S) (0, 0) _ rfl (set_four HK2.out _ _ _ _) Tryz.underlying94 rfl (by kernel_rfl)) rfl ?_
      refine ⟨S, ok, j, rfl, HP2.out.four (Ne.symm hbn) _ _ _ _, grown_four HG2.out (Nat.le_refl _) _ _ _ _, ?_⟩
      have hq := HPO.out
      rw [HR1.out] at hq
      exact hq
    · have g92 : ((n : Int) == 92) = false := by
        rw [beq_eq_false_iff_ne]
        intro e
        exact h92 (UInt8.toNat_inj.1 (by rw [hn]; exact Int.ofNat.inj e))
      rw [if_neg h92]
      clear hn
      have SO := Lib.hid (fun w => SN.out n hn256 w)
      by_cases hs : c ∈ cspec
      · rw [if_pos hs]
        have hzz : ¬ z < 0 := fun q => (HZ2.out.1 q) hs
        clear SN
        go_enter Tryz.func154, Tryz.ntmps154
        go_wp2_with fail
        refine NX.out.mono ?_
        rintro e w1 ⟨rfl, ⟨hp, hr⟩, hg⟩
        have HP1 := Lib.hid hp
        have HG1 := Lib.hid (World.grownBy.trans (World.grownBy_alloc W (.cells #[.int .u64 0, .int .u64 0, .int .u64 0, .int .u64 0] 94) (some b)) hg)
        have HK1 := Lib.hid (HK0.out.kept hg hbn)
        clear hg hp hr NX HK0
        go_wp2_with fail
        refine (SO.out _).mono ?_
        rintro e w2 ⟨rfl, hx⟩
        have HP2 := Lib.hid (HP1.out.belowS hx)
        have HG2 := Lib.hid (grown_hop HG1.out hx)
        have hk := HK1.out.below hx HK1.out.lt
        have HK2 := Lib.hid hk
        obtain ⟨⟨d0, d1, d2, d3⟩, f0, f1, f2, f3⟩ := set_cells hk
        clear hk hx SO HP1 HG1 HK1
        go_wp2_with fail
        refine (HZ.out _).mono ?_
        rintro e w5 ⟨rfl, rfl⟩
        unfold setV setC
        go_wp2
        refine bodyPost_ret (results_row_tmp rfl _ _ W.heap.size 94 (setC (oneB n)) (0, 0) _ rfl (set_four HK2.out _ _ _ _) Tryz.underlying94 rfl (by kernel_rfl)) rfl ?_
        exact ⟨oneB n, decide (z < 0), k + 1, rfl, HP2.out.four (Ne.symm hbn) _ _ _ _, grown_four HG2.out (Nat.le_refl _) _ _ _ _, decide_eq_false (by omega)⟩
      · rw [if_neg hs]
        have hzz : z < 0 := HZ2.out.2 hs
        clear SN
        go_enter Tryz.func154, Tryz.ntmps154
        go_wp2_with fail
        refine NX.out.mono ?_
        rintro e w1 ⟨rfl, ⟨hp, hr⟩, hg⟩
        have HP1 := Lib.hid hp
        have HR1 := Lib.hid hr
        have HG1 := Lib.hid (World.grownBy.trans (World.grownBy_alloc W (.cells #[.int .u64 0, .int .u64 0, .int .u64 0, .int .u64 0] 94) (some b)) hg)
        have HK1 := Lib.hid (HK0.out.kept hg hbn)
        clear hg hp hr NX HK0
        go_wp2_with fail
        refine (SO.out _).mono ?_
        rintro e w2 ⟨rfl, hx⟩
        have HP2 := Lib.hid (HP1.out.belowS hx)
        have HG2 := Lib.hid (grown_hop HG1.out hx)
        have hk := HK1.out.below hx HK1.out.lt
        have HK2 := Lib.hid hk
        obtain ⟨⟨d0, d1, d2, d3⟩, f0, f1, f2, f3⟩ := set_cells hk
        clear hk hx SO HP1 HG1 HK1
        go_wp2_with fail
        refine (HZ.out _).mono ?_
        rintro e w5 ⟨rfl, rfl⟩
        unfold setV setC
        go_wp2
        refine bodyPost_ret (results_row_tmp rfl _ _ W.heap.size 94 (setC (oneB n)) (0, 0) _ rfl (set_four HK2.out _ _ _ _) Tryz.underlying94 rfl (by kernel_rfl)) rfl ?_
        exact ⟨oneB n, true, k + 1, rfl, HP2.out.four (Ne.symm hbn) _ _ _ _, grown_four HG2.out (Nat.le_refl _) _ _ _ _, ⟨rfl, rfl, HR1.out⟩⟩
end Go.Proofs.YtbkpoimaienhpaaGreatDoor
