/- One atom: the walk of atom. -/
import Derived.Test.YtojjeignijpiaaaGreatDoorRexGroup
namespace Go.Proofs.YtojjeignijpiaaaGreatDoor
open Go.RowKit
set_option linter.unusedVariables false
set_option linter.unusedSimpArgs false

theorem atomP_is (E : List UInt8 → Res NodeT) (b : UInt8) (r : List UInt8) : atomP E (b :: r) =
    if b = 40 then groupP E r
    else if b = 46 then .ok (.one anyB) r
    else if b = 94 then .ok (.mk 2 0 0 0 []) r
    else if b = 36 then .ok (.mk 3 0 0 0 []) r
    else if b = 92 then foundP (r.length + 1) (escP r)
    else if b = 91 then foundP (r.length + 1) (classP r)
    else if b ∈ spec then .bad (r.length + 1)
    else .ok (.one (oneB b.toNat)) r := rfl
theorem found_res {w : World} {B : Nat} {t : ByteArray} {k k0 j : Nat} {R : Option (Nat × List UInt8)} {x : NodeX} {f : Bool} {e : Int} {m : Nat} (h : FoundPost R t (k0 : Int) x j f e) (hm : (k0 : Int) = (t.size : Int) - (m : Int)) (hk : k ≤ t.size) : NodeRes w B t k j (foundP m R) x f e := by
  cases R with
  | none =>
    obtain ⟨rfl, rfl, rfl⟩ := h
    exact ⟨⟨GoodN.nil _ _, wf_nil⟩, rfl, hm, by show 0 + k ≤ t.size; omega⟩
  | some y =>
    obtain ⟨S, r⟩ := y
    obtain ⟨rfl, rfl, hS, hr⟩ := h
    exact ⟨⟨GoodN.one _ _ hS, wf_one S⟩, rfl, rfl, hr⟩
theorem NodeRes.frame8 {w : World} {B C : Nat} {t : ByteArray} {k k2 j : Nat} {R : Res NodeT} {x : NodeX} {f : Bool} {e : Int} (h : NodeRes w C t k2 j R x f e) (hk : k ≤ k2) (g : Nat) (hg : g < C) (hB : B ≤ C) (x0 x1 x2 x3 x4 x5 x6 x7 : Value) : NodeRes ((((((((w.setCell ⟨g, 0, none⟩ x0).setCell ⟨g, 1, none⟩ x1).setCell ⟨g, 2, none⟩ x2).setCell ⟨g, 3, none⟩ x3).setCell ⟨g, 4, none⟩ x4).setCell ⟨g, 5, none⟩ x5).setCell ⟨g, 6, none⟩ x6).setCell ⟨g, 7, none⟩ x7) B t k j R x f e := by
  obtain ⟨⟨h1, h2⟩, h3⟩ := h
  refine ⟨⟨(good_eight2 h1 (fun q hq e => by omega) _ _ _ _ _ _ _ _).weaken (fun q hq _ => by omega), h2⟩, ?_⟩
  cases R with
  | ok n r => exact h3
  | bad m => exact ⟨h3.1, h3.2.1, by have := h3.2.2; omega⟩
theorem anyB_lt : anyB < 2 ^ 256 := notB_lt (oneB_lt 10 (by decide))
set_option maxRecDepth 100000 in
set_option maxHeartbeats 6400000 in
theorem atom_any (fuel : Nat) (HE : ExprC fuel) (b : Nat) (t : ByteArray) (k o : Nat) (e0 : Int) (c : UInt8) (r : List UInt8) (W : World) (h : Ps W b t k o false e0) (hl : LibF W b) (ho : o ≤ k) (hf : (atL t k).length < fuel + 1) (hat : atL t k = c :: r) :
    Calls Tryz.prog 61 #[.pointer (some ⟨b, 0, none⟩)] W fun e w' => ∃ x j f e1, e = .returned (.agg (nodeC x)) ∧ Ps w' b t j o f e1 ∧ W.grownBy w' (some b) ∧ NodeRes w' W.heap.size t k j (atomP (exprP fuel true) (atL t k)) x f e1 := by
  have hmf : ∀ (fn : Fn) (first cap : Array Value) (w : World), (Instr.makeFunc fn first cap).run Tryz.prog w = .ok (.func fn first cap) w := fun _ _ _ _ => rfl
  have hlt := h.lt
  have hbn : W.heap.size ≠ b := by omega
  have htz := h.sz
  have hkt := h.le
  have hlen : (r.length : Int) + 1 = (t.size : Int) - (k : Int) := by
    have := at_len t k
    rw [hat, List.length_cons] at this
    omega
  have HLEN := Lib.hid hlen
  have hk1 : k + 1 ≤ t.size := by omega
  rw [hat, List.length_cons] at hf
  have HK0 := Lib.hid (Blk.new W 36 #[.int .i64 0, .int .u64 0, .int .u64 0, .int .u64 0, .int .u64 0, .int .i64 0, .int .i64 0, .slice none 0 0])
  have AT := Lib.hid (place_any b t k o false e0 _ (h.alloc (.cells #[.int .i64 0, .int .u64 0, .int .u64 0, .int .u64 0, .int .u64 0, .int .i64 0, .int .i64 0, .slice none 0 0] 36)))
  have NX := next1 b t k o false e0 c r hat _ (h.alloc (.cells #[.int .i64 0, .int .u64 0, .int .u64 0, .int .u64 0, .int .u64 0, .int .i64 0, .int .i64 0, .slice none 0 0] 36))
  have HG0 := Lib.hid (World.grownBy_alloc W (.cells #[.int .i64 0, .int .u64 0, .int .u64 0, .int .u64 0, .int .u64 0, .int .i64 0, .int .i64 0, .slice none 0 0] 36) (some b))
  have HL := Lib.hid hl
  rw [hat, atomP_is]
  have hn256 := c.toNat_lt
  obtain ⟨z, hz1, hz2⟩ := special_any c
  obtain ⟨n, hn⟩ : ∃ n, c.toNat = n := ⟨_, rfl⟩
  rw [hn] at NX hn256
  simp only [hn] at hz1 ⊢
  replace NX := Lib.hid NX
  have HZ := Lib.hid hz1
  have HZ2 := Lib.hid hz2
  clear h hl hz1 hz2 hat hlen
  by_cases h40 : c = 40
  · obtain rfl : n = 40 := by rw [← hn, h40]; rfl
    rw [if_pos h40]
    clear hn
    go_enter Tryz.func61, Tryz.ntmps61
    go_wp2_with fail
    refine AT.out.mono ?_
    rintro e w0 ⟨rfl, rfl⟩
    go_wp2_with fail
    refine NX.out.mono ?_
    rintro e w1 ⟨rfl, ⟨hp, hr⟩, hg⟩
    have HP1 := Lib.hid hp
    have HR1 := Lib.hid hr
    have HG1 := Lib.hid (World.grownBy.trans HG0.out hg)
    have HK1 := Lib.hid (HK0.out.kept hg hbn)
    have hs1 : W.heap.size < w1.heap.size := HK1.out.lt
    clear hp hr hg AT NX HG0 HK0
    have GP := Lib.hid (group_any fuel HE b t (k + 1) o e0 w1 HP1.out (HL.out.next HG1.out) (by omega) (by rw [HR1.out]; omega))
    rw [HR1.out] at GP
    go_wp2_with fail
    refine GP.out.mono ?_
    rintro e w2 ⟨x, j, f, e1, rfl, hp, hg, hres⟩
    have VP := Lib.hid hp
    have VG := Lib.hid (World.grownBy.trans HG1.out hg)
    have VK := Lib.hid (HK1.out.kept hg hbn)
    have HRES := Lib.hid hres
    clear hp hg hres GP HP1 HG1 HK1
    unfold nodeC nodeV
    have hk9 := VK.out
    obtain ⟨⟨d0, d1, d2, d3, d4, d5, d6, d7⟩, f0, f1, f2, f3, f4, f5, f6, f7⟩ := nil_cells hk9
    clear hk9
    go_wp2
    refine bodyPost_ret (results_cell_row rfl _ _ W.heap.size 36 (nodeC x) (0, 0) _ rfl (blk_eight VK.out nilX_lit _ _ _ _ _ _ _ _) Tryz.underlying36 rfl (by kernel_rfl)) rfl ?_
    refine ⟨x, j, f, e1, rfl, ps_eight VP.out (Ne.symm hbn) _ _ _ _ _ _ _ _, grown_eight VG.out (Nat.le_refl _) _ _ _ _ _ _ _ _, ?_⟩
    exact HRES.out.frame8 (Nat.le_succ _) _ hs1 (Nat.le_of_lt hs1) _ _ _ _ _ _ _ _
  · rw [if_neg h40]
    have g40 : ((n : Int) == 40) = false := by
      rw [beq_eq_false_iff_ne]
      intro e
      exact h40 (UInt8.toNat_inj.1 (by rw [hn]; exact Int.ofNat.inj e))
    by_cases h46 : c = 46
    · obtain rfl : n = 46 := by rw [← hn, h46]; rfl
      rw [if_pos h46]
      clear hn
      go_enter Tryz.func61, Tryz.ntmps61
      go_wp2_with fail
      refine AT.out.mono ?_
      rintro e w0 ⟨rfl, rfl⟩
      go_wp2_with fail
      refine NX.out.mono ?_
      rintro e w1 ⟨rfl, ⟨hp, hr⟩, hg⟩
      have HP1 := Lib.hid hp
      have HR1 := Lib.hid hr
      have HG1 := Lib.hid (World.grownBy.trans HG0.out hg)
      have HK1 := Lib.hid (HK0.out.kept hg hbn)
      have hs1 : W.heap.size < w1.heap.size := HK1.out.lt
      clear hp hr hg AT NX HG0 HK0
      have OO := Lib.hid (show ∀ w, Calls Tryz.prog 71 #[.agg #[.int .u64 (word anyB 0 : Nat), .int .u64 (word anyB 1 : Nat), .int .u64 (word anyB 2 : Nat), .int .u64 (word anyB 3 : Nat)]] w (fun e w' => e = .returned (.agg #[.int .i64 1, .int .u64 (word anyB 0 : Nat), .int .u64 (word anyB 1 : Nat), .int .u64 (word anyB 2 : Nat), .int .u64 (word anyB 3 : Nat), .int .i64 0, .int .i64 0, .slice none 0 0]) ∧ Below w.heap.size w w') from fun w => oneOf_any anyB w)
      have SN := Lib.hid anyByte_any
      go_wp2_with fail
      refine (SN.out _).mono ?_
      rintro e w2 ⟨rfl, hx⟩
      have QP := Lib.hid (HP1.out.belowS hx)
      have QG := Lib.hid (grown_hop HG1.out hx)
      have QK := Lib.hid (HK1.out.below hx HK1.out.lt)
      clear hx HP1 HG1 HK1
      try unfold setV
      try unfold setC
      go_wp2_with fail
      refine (OO.out _).mono ?_
      rintro e w3 ⟨rfl, hx⟩
      have VP := Lib.hid (QP.out.belowS hx)
      have VG := Lib.hid (grown_hop QG.out hx)
      have VK := Lib.hid (QK.out.below hx QK.out.lt)
      clear hx QP QG QK
      have hk9 := VK.out
      obtain ⟨⟨d0, d1, d2, d3, d4, d5, d6, d7⟩, f0, f1, f2, f3, f4, f5, f6, f7⟩ := nil_cells hk9
      clear hk9
      go_wp2
      refine bodyPost_ret (results_cell_row rfl _ _ W.heap.size 36 #[.int .i64 1, .int .u64 (word anyB 0 : Nat), .int .u64 (word anyB 1 : Nat), .int .u64 (word anyB 2 : Nat), .int .u64 (word anyB 3 : Nat), .int .i64 0, .int .i64 0, .slice none 0 0] (0, 0) _ rfl (blk_eight VK.out nilX_lit _ _ _ _ _ _ _ _) Tryz.underlying36 rfl (by kernel_rfl)) rfl ?_
      refine ⟨oneX anyB, k + 1, false, e0, rfl, ps_eight VP.out (Ne.symm hbn) _ _ _ _ _ _ _ _, grown_eight VG.out (Nat.le_refl _) _ _ _ _ _ _ _ _, ?_⟩
      exact ⟨⟨GoodN.one _ _ anyB_lt, wf_one _⟩, rfl, rfl, HR1.out⟩
    · rw [if_neg h46]
      have g46 : ((n : Int) == 46) = false := by
        rw [beq_eq_false_iff_ne]
        intro e
        exact h46 (UInt8.toNat_inj.1 (by rw [hn]; exact Int.ofNat.inj e))
      by_cases h94 : c = 94
      · obtain rfl : n = 94 := by rw [← hn, h94]; rfl
        rw [if_pos h94]
        clear hn
        go_enter Tryz.func61, Tryz.ntmps61
        go_wp2_with fail
        refine AT.out.mono ?_
        rintro e w0 ⟨rfl, rfl⟩
        go_wp2_with fail
        refine NX.out.mono ?_
        rintro e w1 ⟨rfl, ⟨hp, hr⟩, hg⟩
        have HP1 := Lib.hid hp
        have HR1 := Lib.hid hr
        have HG1 := Lib.hid (World.grownBy.trans HG0.out hg)
        have HK1 := Lib.hid (HK0.out.kept hg hbn)
        have hs1 : W.heap.size < w1.heap.size := HK1.out.lt
        clear hp hr hg AT NX HG0 HK0
        have VP := HP1
        have VG := HG1
        have VK := HK1
        have hk9 := VK.out
        obtain ⟨⟨d0, d1, d2, d3, d4, d5, d6, d7⟩, f0, f1, f2, f3, f4, f5, f6, f7⟩ := nil_cells hk9
        clear hk9
        go_wp2
        refine bodyPost_ret (results_cell_row rfl _ _ W.heap.size 36 #[.int .i64 2, .int .u64 0, .int .u64 0, .int .u64 0, .int .u64 0, .int .i64 0, .int .i64 0, .slice none 0 0] (0, 0) _ rfl (blk_eight VK.out nilX_lit _ _ _ _ _ _ _ _) Tryz.underlying36 rfl (by kernel_rfl)) rfl ?_
        refine ⟨(.mk 2 0 0 0 none 0 0 []), k + 1, false, e0, congrArg (fun c => Ending.returned (.agg c)) (mkX_c 2 0 0 none 0 0 []), ps_eight VP.out (Ne.symm hbn) _ _ _ _ _ _ _ _, grown_eight VG.out (Nat.le_refl _) _ _ _ _ _ _ _ _, ?_⟩
        exact ⟨⟨.mk (by decide) (fun _ => ⟨rfl, rfl⟩) ⟨Nat.le_refl _, Nat.zero_le _⟩ (RowR.none _) (fun h => absurd h (by decide)) (fun _ h => by cases h), by rintro (h | h) <;> cases h⟩, rfl, rfl, HR1.out⟩
      · rw [if_neg h94]
        have g94 : ((n : Int) == 94) = false := by
          rw [beq_eq_false_iff_ne]
          intro e
          exact h94 (UInt8.toNat_inj.1 (by rw [hn]; exact Int.ofNat.inj e))
        by_cases h36 : c = 36
        · obtain rfl : n = 36 := by rw [← hn, h36]; rfl
          rw [if_pos h36]
          clear hn
          go_enter Tryz.func61, Tryz.ntmps61
          go_wp2_with fail
          refine AT.out.mono ?_
          rintro e w0 ⟨rfl, rfl⟩
          go_wp2_with fail
          refine NX.out.mono ?_
          rintro e w1 ⟨rfl, ⟨hp, hr⟩, hg⟩
          have HP1 := Lib.hid hp
          have HR1 := Lib.hid hr
          have HG1 := Lib.hid (World.grownBy.trans HG0.out hg)
          have HK1 := Lib.hid (HK0.out.kept hg hbn)
          have hs1 : W.heap.size < w1.heap.size := HK1.out.lt
          clear hp hr hg AT NX HG0 HK0
          have VP := HP1
          have VG := HG1
          have VK := HK1
          have hk9 := VK.out
          obtain ⟨⟨d0, d1, d2, d3, d4, d5, d6, d7⟩, f0, f1, f2, f3, f4, f5, f6, f7⟩ := nil_cells hk9
          clear hk9
          go_wp2
          refine bodyPost_ret (results_cell_row rfl _ _ W.heap.size 36 #[.int .i64 3, .int .u64 0, .int .u64 0, .int .u64 0, .int .u64 0, .int .i64 0, .int .i64 0, .slice none 0 0] (0, 0) _ rfl (blk_eight VK.out nilX_lit _ _ _ _ _ _ _ _) Tryz.underlying36 rfl (by kernel_rfl)) rfl ?_
          refine ⟨(.mk 3 0 0 0 none 0 0 []), k + 1, false, e0, congrArg (fun c => Ending.returned (.agg c)) (mkX_c 3 0 0 none 0 0 []), ps_eight VP.out (Ne.symm hbn) _ _ _ _ _ _ _ _, grown_eight VG.out (Nat.le_refl _) _ _ _ _ _ _ _ _, ?_⟩
          exact ⟨⟨.mk (by decide) (fun _ => ⟨rfl, rfl⟩) ⟨Nat.le_refl _, Nat.zero_le _⟩ (RowR.none _) (fun h => absurd h (by decide)) (fun _ h => by cases h), by rintro (h | h) <;> cases h⟩, rfl, rfl, HR1.out⟩
        · rw [if_neg h36]
          have g36 : ((n : Int) == 36) = false := by
            rw [beq_eq_false_iff_ne]
            intro e
            exact h36 (UInt8.toNat_inj.1 (by rw [hn]; exact Int.ofNat.inj e))
          by_cases h92 : c = 92
          · obtain rfl : n = 92 := by rw [← hn, h92]; rfl
            rw [if_pos h92]
            clear hn
            go_enter Tryz.func61, Tryz.ntmps61
            go_wp2_with fail
            refine AT.out.mono ?_
            rintro e w0 ⟨rfl, rfl⟩
            go_wp2_with fail
            refine NX.out.mono ?_
            rintro e w1 ⟨rfl, ⟨hp, hr⟩, hg⟩
            have HP1 := Lib.hid hp
            have HR1 := Lib.hid hr
            have HG1 := Lib.hid (World.grownBy.trans HG0.out hg)
            have HK1 := Lib.hid (HK0.out.kept hg hbn)
            have hs1 : W.heap.size < w1.heap.size := HK1.out.lt
            clear hp hr hg AT NX HG0 HK0
            have FD := Lib.hid (found_esc b (k : Int) t (k + 1) o e0 w1 HP1.out)
            rw [HR1.out] at FD
            go_wp2_with fail
            refine FD.out.mono ?_
            rintro e w2 ⟨x, j, f, e1, rfl, hp, hg, hpost⟩
            have VP := Lib.hid hp
            have VG := Lib.hid (World.grownBy.trans HG1.out hg)
            have VK := Lib.hid (HK1.out.kept hg hbn)
            have HRES := Lib.hid (found_res (w := w2) (B := w1.heap.size) (k := k) (m := r.length + 1) hpost (by have := HLEN.out; omega) hkt)
            clear hp hg hpost FD HP1 HG1 HK1
            unfold nodeC nodeV
            have hk9 := VK.out
            obtain ⟨⟨d0, d1, d2, d3, d4, d5, d6, d7⟩, f0, f1, f2, f3, f4, f5, f6, f7⟩ := nil_cells hk9
            clear hk9
            go_wp2
            refine bodyPost_ret (results_cell_row rfl _ _ W.heap.size 36 (nodeC x) (0, 0) _ rfl (blk_eight VK.out nilX_lit _ _ _ _ _ _ _ _) Tryz.underlying36 rfl (by kernel_rfl)) rfl ?_
            refine ⟨x, j, f, e1, rfl, ps_eight VP.out (Ne.symm hbn) _ _ _ _ _ _ _ _, grown_eight VG.out (Nat.le_refl _) _ _ _ _ _ _ _ _, ?_⟩
            exact HRES.out.frame8 (Nat.le_refl _) _ hs1 (Nat.le_of_lt hs1) _ _ _ _ _ _ _ _
          · rw [if_neg h92]
            have g92 : ((n : Int) == 92) = false := by
              rw [beq_eq_false_iff_ne]
              intro e
              exact h92 (UInt8.toNat_inj.1 (by rw [hn]; exact Int.ofNat.inj e))
            by_cases h91 : c = 91
            · obtain rfl : n = 91 := by rw [← hn, h91]; rfl
              rw [if_pos h91]
              clear hn
              go_enter Tryz.func61, Tryz.ntmps61
              go_wp2_with fail
              refine AT.out.mono ?_
              rintro e w0 ⟨rfl, rfl⟩
              go_wp2_with fail
              refine NX.out.mono ?_
              rintro e w1 ⟨rfl, ⟨hp, hr⟩, hg⟩
              have HP1 := Lib.hid hp
              have HR1 := Lib.hid hr
              have HG1 := Lib.hid (World.grownBy.trans HG0.out hg)
              have HK1 := Lib.hid (HK0.out.kept hg hbn)
              have hs1 : W.heap.size < w1.heap.size := HK1.out.lt
              clear hp hr hg AT NX HG0 HK0
              have FD := Lib.hid (found_cls b (k : Int) t (k + 1) o e0 w1 HP1.out)
              rw [HR1.out] at FD
              go_wp2_with fail
              refine FD.out.mono ?_
              rintro e w2 ⟨x, j, f, e1, rfl, hp, hg, hpost⟩
              have VP := Lib.hid hp
              have VG := Lib.hid (World.grownBy.trans HG1.out hg)
              have VK := Lib.hid (HK1.out.kept hg hbn)
              have HRES := Lib.hid (found_res (w := w2) (B := w1.heap.size) (k := k) (m := r.length + 1) hpost (by have := HLEN.out; omega) hkt)
              clear hp hg hpost FD HP1 HG1 HK1
              unfold nodeC nodeV
              have hk9 := VK.out
              obtain ⟨⟨d0, d1, d2, d3, d4, d5, d6, d7⟩, f0, f1, f2, f3, f4, f5, f6, f7⟩ := nil_cells hk9
              clear hk9
              go_wp2
              refine bodyPost_ret (results_cell_row rfl _ _ W.heap.size 36 (nodeC x) (0, 0) _ rfl (blk_eight VK.out nilX_lit _ _ _ _ _ _ _ _) Tryz.underlying36 rfl (by kernel_rfl)) rfl ?_
              refine ⟨x, j, f, e1, rfl, ps_eight VP.out (Ne.symm hbn) _ _ _ _ _ _ _ _, grown_eight VG.out (Nat.le_refl _) _ _ _ _ _ _ _ _, ?_⟩
              exact HRES.out.frame8 (Nat.le_refl _) _ hs1 (Nat.le_of_lt hs1) _ _ _ _ _ _ _ _
            · rw [if_neg h91]
              have g91 : ((n : Int) == 91) = false := by
                rw [beq_eq_false_iff_ne]
                intro e
                exact h91 (UInt8.toNat_inj.1 (by rw [hn]; exact Int.ofNat.inj e))
              by_cases hs : c ∈ spec
              · rw [if_pos hs]
                have hzz : ¬ z < 0 := fun q => (HZ2.out.1 q) hs
                have hz0 : 0 ≤ z := by omega
                clear hn
                go_enter Tryz.func61, Tryz.ntmps61
                go_wp2_with fail
                refine AT.out.mono ?_
                rintro e w0 ⟨rfl, rfl⟩
                go_wp2_with fail
                refine NX.out.mono ?_
                rintro e w1 ⟨rfl, ⟨hp, hr⟩, hg⟩
                have HP1 := Lib.hid hp
                have HR1 := Lib.hid hr
                have HG1 := Lib.hid (World.grownBy.trans HG0.out hg)
                have HK1 := Lib.hid (HK0.out.kept hg hbn)
                have hs1 : W.heap.size < w1.heap.size := HK1.out.lt
                clear hp hr hg AT NX HG0 HK0
                have FL := Lib.hid (fail_any b (k : Int) t (k + 1) o false e0 w1 HP1.out)
                go_wp2_with fail
                refine (HZ.out _).mono ?_
                rintro e w5 ⟨rfl, rfl⟩
                go_wp2_with fail
                refine FL.out.mono ?_
                rintro e w2 ⟨rfl, hp, hg⟩
                have VP := Lib.hid (show Ps w2 b t (k + 1) o true (k : Int) from hp)
                have VG := Lib.hid (World.grownBy.trans HG1.out hg)
                have VK := Lib.hid (HK1.out.kept hg hbn)
                clear hp hg FL HP1 HG1 HK1
                try unfold nilC
                have hk9 := VK.out
                obtain ⟨⟨d0, d1, d2, d3, d4, d5, d6, d7⟩, f0, f1, f2, f3, f4, f5, f6, f7⟩ := nil_cells hk9
                clear hk9
                go_wp2
                refine bodyPost_ret (results_cell_row rfl _ _ W.heap.size 36 nilC (0, 0) _ rfl (blk_eight VK.out nilX_lit _ _ _ _ _ _ _ _) Tryz.underlying36 rfl (by kernel_rfl)) rfl ?_
                refine ⟨nilX, k + 1, true, (k : Int), rfl, ps_eight VP.out (Ne.symm hbn) _ _ _ _ _ _ _ _, grown_eight VG.out (Nat.le_refl _) _ _ _ _ _ _ _ _, ?_⟩
                exact ⟨⟨GoodN.nil _ _, wf_nil⟩, rfl, by have := HLEN.out; omega, by show 0 + k ≤ t.size; omega⟩
              · rw [if_neg hs]
                have hzz : z < 0 := HZ2.out.2 hs
                have hz0 : ¬ 0 ≤ z := by omega
                clear hn
                go_enter Tryz.func61, Tryz.ntmps61
                go_wp2_with fail
                refine AT.out.mono ?_
                rintro e w0 ⟨rfl, rfl⟩
                go_wp2_with fail
                refine NX.out.mono ?_
                rintro e w1 ⟨rfl, ⟨hp, hr⟩, hg⟩
                have HP1 := Lib.hid hp
                have HR1 := Lib.hid hr
                have HG1 := Lib.hid (World.grownBy.trans HG0.out hg)
                have HK1 := Lib.hid (HK0.out.kept hg hbn)
                have hs1 : W.heap.size < w1.heap.size := HK1.out.lt
                clear hp hr hg AT NX HG0 HK0
                have OO := Lib.hid (show ∀ w, Calls Tryz.prog 71 #[.agg #[.int .u64 (word (oneB n) 0 : Nat), .int .u64 (word (oneB n) 1 : Nat), .int .u64 (word (oneB n) 2 : Nat), .int .u64 (word (oneB n) 3 : Nat)]] w (fun e w' => e = .returned (.agg #[.int .i64 1, .int .u64 (word (oneB n) 0 : Nat), .int .u64 (word (oneB n) 1 : Nat), .int .u64 (word (oneB n) 2 : Nat), .int .u64 (word (oneB n) 3 : Nat), .int .i64 0, .int .i64 0, .slice none 0 0]) ∧ Below w.heap.size w w') from fun w => oneOf_any (oneB n) w)
                have SN := Lib.hid (fun w => single_any n hn256 w)
                go_wp2_with fail
                refine (HZ.out _).mono ?_
                rintro e w5 ⟨rfl, rfl⟩
                go_wp2_with fail
                refine (SN.out _).mono ?_
                rintro e w2 ⟨rfl, hx⟩
                have QP := Lib.hid (HP1.out.belowS hx)
                have QG := Lib.hid (grown_hop HG1.out hx)
                have QK := Lib.hid (HK1.out.below hx HK1.out.lt)
                clear hx HP1 HG1 HK1
                try unfold setV
                try unfold setC
                go_wp2_with fail
                refine (OO.out _).mono ?_
                rintro e w3 ⟨rfl, hx⟩
                have VP := Lib.hid (QP.out.belowS hx)
                have VG := Lib.hid (grown_hop QG.out hx)
                have VK := Lib.hid (QK.out.below hx QK.out.lt)
                clear hx QP QG QK
                have hk9 := VK.out
                obtain ⟨⟨d0, d1, d2, d3, d4, d5, d6, d7⟩, f0, f1, f2, f3, f4, f5, f6, f7⟩ := nil_cells hk9
                clear hk9
                go_wp2
                refine bodyPost_ret (results_cell_row rfl _ _ W.heap.size 36 #[.int .i64 1, .int .u64 (word (oneB n) 0 : Nat), .int .u64 (word (oneB n) 1 : Nat), .int .u64 (word (oneB n) 2 : Nat), .int .u64 (word (oneB n) 3 : Nat), .int .i64 0, .int .i64 0, .slice none 0 0] (0, 0) _ rfl (blk_eight VK.out nilX_lit _ _ _ _ _ _ _ _) Tryz.underlying36 rfl (by kernel_rfl)) rfl ?_
                refine ⟨oneX (oneB n), k + 1, false, e0, rfl, ps_eight VP.out (Ne.symm hbn) _ _ _ _ _ _ _ _, grown_eight VG.out (Nat.le_refl _) _ _ _ _ _ _ _ _, ?_⟩
                exact ⟨⟨GoodN.one _ _ (oneB_lt n hn256), wf_one _⟩, rfl, rfl, HR1.out⟩
end Go.Proofs.YtojjeignijpiaaaGreatDoor
