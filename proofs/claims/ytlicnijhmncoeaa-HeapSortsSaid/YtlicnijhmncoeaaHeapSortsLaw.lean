/- What is drained is sorted, those alike in the order in which they came, whenever they came: the walk of the law. -/
import Derived.Test.YtlicnijhmncoeaaChecked
import Derived.Test.YtlicnijhmncoeaaRows
import Derived.Test.YtlicnijhmncoeaaHeapExam
import Derived.Test.YtlicnijhmncoeaaHeap2Two
namespace Go.Proofs.Ytlicnijhmncoeaa.T2
open Go.RowKit
set_option linter.unusedVariables false
set_option linter.unusedSimpArgs false

set_option maxRecDepth 100000 in
set_option maxHeartbeats 4000000 in
theorem heapSorts_walk {W : World} (A : Option Addr) (n c : Nat) (zs : List ByteArray) (f : Int) (hz : Texts W A n zs) (hc : n ≤ c) (hm : c ≤ maxLen) (hlong : ∀ s ∈ zs, s.size ≤ maxLen) (hf : (Lit.int .u8 f).wf = true) :
    Calls Try.prog 4 #[.slice A n c, .int .u8 f] W fun e w' => e = .returned (.bool true) ∧ Below W.heap.size W w' := by
  have hm' : c ≤ 9223372036854775807 := by unfold maxLen at hm; omega
  obtain ⟨i0, hi, hz0, hz1, hz2⟩ := info_parts infoThing
  obtain ⟨m, hmn, hm40, hmm⟩ : ∃ m, m ≤ n ∧ m ≤ 40 ∧ (m = n ∨ m = 40) := ⟨min n 40, by omega, by omega, by omega⟩
  have hfb : 0 ≤ f ∧ f ≤ 255 := by simpa [Lit.wf, IntKind.min, IntKind.max, IntKind.signed, IntKind.bits] using hf
  obtain ⟨f0, f1⟩ := hfb
  have hnz : zs.length = n := hz.1
  have HZ := Lib.hid hz
  have HLO := Lib.hid hlong
  clear hz hlong hf
  go_enter Try.func4, Try.ntmps4
  go_wp2_with fail
  refine (examples_any W).mono ?_
  rintro e w1 ⟨rfl, hb1⟩
  have HB1 := Lib.hid hb1
  clear hb1
  go_wp2
  go_loopw [6, 7] (fun lv iv wr => ∃ j : Nat, j ≤ m ∧ iv = .int .i64 (j : Int) ∧ Hid (OwnR twC 2 wr W.heap.size 43 lv (twos zs j)) ∧ Hid (Below W.heap.size W wr)) (fun _ iv _ => m - (intOf iv).toNat)
  case atStart => exact ⟨0, Nat.zero_le _, rfl, Lib.hid (OwnR.nil _ _ _), HB1⟩
  case round =>
    obtain ⟨j, hjm, rfl, HO, HB⟩ := hrel
    by_cases hj : j < m
    · have hjn : (j : Int) < (n : Int) := by omega
      have hj40 : (j : Int) < 40 := by omega
      obtain ⟨b0, off, hA, hlt0, hcell⟩ := HZ.out.2 (by omega : 0 < n)
      subst hA
      obtain ⟨ts, hts⟩ : ∃ z, zs.getD j .empty = z := ⟨_, rfl⟩
      have hcj : wr.cell? ⟨b0, off + j, none⟩ = some (.string ts) := by
        rw [← hts]
        exact (HB.out.cell (p := ⟨b0, off + j, none⟩) hlt0).trans (hcell j (by omega))
      have HTS := Lib.hid (show twos zs (j + 1) = twos zs j ++ [⟨ts, (j : Int)⟩] by rw [twos_succ, ← hts]; rfl)
      have hO := HO.out
      unfold OwnR at hO
      rw [twos_len] at hO
      have hszw := HB.out.size
      clear hcell hts HO hlt0
      go_wp2_with (at_builtin; refine wpList_append_lies _ rfl (.tmp 29) (.tmp 36) 41 rfl W.heap.size 43 i0 (.agg #[.string .empty, .int .i64 0]) 2 24 Try.underlying41 hi hz0 hz1 hz2 rfl (by decide) _ _ _ rfl (World.ownsRow.alloc hO _) ⟨wr.heap.size, 0, none⟩ 1 1 (twC ⟨ts, (j : Int)⟩) rfl rfl (new_cells_at _ _ _ _ (by simp)) (twC_one _) (by omega) (by unfold maxLen; omega) (by omega) (by simp; omega) _ rfl ?_)
      intro g cap w4 hown4 hgrow hg4 hlt4
      have HO4 := Lib.hid (show OwnR twC 2 w4 W.heap.size 43 (.slice (some ⟨g, 0, none⟩) (j + 1) cap) (twos zs (j + 1)) from by
        rw [HTS.out]
        exact OwnR.snoc (by rw [twos_len]; exact hown4))
      have HB4 := Lib.hid ((HB.out.alloc hszw (.cells #[.string ts, .int .i64 (j : Int)] 43)).grown hgrow (by simp; omega) (fun r hr => (World.ownsRow.lt hO r hr).1))
      clear hown4 hgrow hg4 hO HTS HB
      go_wp2
      go_round
      case rel => exact ⟨j + 1, by omega, by first | rfl | go_num, HO4, HB4⟩
      case measure => simp [intOf]; omega
    · obtain rfl : j = m := by omega
      obtain ⟨A5, c5, rfl⟩ := own_shape HO.out
      rw [twos_len] at HO ⊢
      have HAL := Lib.hid (AllT.of HO.out)
      have hcap5 : j ≤ c5 := by
        have := OwnR.open twC_len HO.out
        obtain ⟨A', cap', e, h1, _⟩ := this
        injection e with _ e2 e3
        rw [twos_len] at h1
        omega
      have hcapm : c5 ≤ 9223372036854775807 := by
        rcases HO.out.2 with ⟨e, _⟩ | ⟨g, cap, cur, e, _, _, _, hm, _⟩
        · injection e with _ _ e3
          omega
        · injection e with _ _ e3
          unfold maxLen at hm
          omega
      obtain ⟨k, hk⟩ : ∃ k : Nat, k = f.toNat % (j + 1) := ⟨_, rfl⟩
      have hkj : k ≤ j := by
        have := Nat.mod_lt f.toNat (show 0 < j + 1 by omega)
        omega
      have hrem : Int.tmod f ((j : Int) + 1) = (k : Int) := by
        rw [hk, Int.tmod_eq_emod_of_nonneg f0, show ((j : Int) + 1) = ((j + 1 : Nat) : Int) by omega, show f = ((f.toNat : Nat) : Int) by omega, ← Int.natCast_emod]
        simp
      have hwj : IntKind.i64.wrap ((j : Int) + 1) = (j : Int) + 1 := by rw [IntKind.wrap_i64]; omega
      have hwk : IntKind.i64.wrap (k : Int) = (k : Int) := by rw [IntKind.wrap_i64]; omega
      have hwf : IntKind.i64.wrap f = f := by rw [IntKind.wrap_i64]; omega
      have hguard : ((j : Int) < (n : Int) ∧ ¬ (j : Int) < 40) ∨ ¬ (j : Int) < (n : Int) := by omega
      have hA0 : Option.map (fun x => Addr.add x 0) A5 = A5 := by
        cases A5 with
        | none => rfl
        | some p => obtain ⟨b, o, s⟩ := p; cases s <;> rfl
      have hj1 : ¬ ((j : Int) + 1 = 0) := by omega
      have hA5 : Hid (c5 = k) ∨ (¬ c5 = k ∧ ∃ g, A5 = some ⟨g, 0, none⟩) := by
        by_cases h : c5 = k
        · exact .inl (Lib.hid h)
        · refine .inr ⟨h, ?_⟩
          rcases HO.out.2 with ⟨e, _⟩ | ⟨g, cap, cur, e, _⟩
          · injection e with _ _ e3
            omega
          · injection e with e1 _ _
            exact ⟨g, e1⟩
      obtain ⟨A6, hA6, hIB⟩ : ∃ A6, (if c5 = k then A5 else Option.map (fun x => Addr.add x (k * 2)) A5) = A6 ∧ (∀ (b : Nat) (v : Value) (w : World) (lim : Nat), AllT w lim A5 j zs → lim ≤ b → (∀ i, v.ownBlock = some i → b ≤ i) → IntsA b v w A6 ((twos zs j).drop k)) := by
        refine ⟨_, rfl, fun b v w lim hall hlb hv => ?_⟩
        rcases hA5 with h | ⟨h, g, rfl⟩
        · rw [List.drop_of_length_le (by rw [twos_len]; have := h.out; omega)]
          exact IntsA.none_ _ _ _ _
        · rw [if_neg h]
          have e : Option.map (fun x => Addr.add x (k * 2)) (some (⟨g, 0, none⟩ : Addr)) = some ⟨g, k * 2, none⟩ := by
            simp [Addr.add]
            omega
          rw [e]
          exact hall.behind HLO.out (by omega) (by omega) hlb hv
      have HIB := Lib.hid hIB
      have hkc : (k : Int) ≤ (c5 : Int) := by omega
      have hkjI : (k : Int) ≤ (j : Int) := by omega
      have hjz : j ≤ zs.length := by omega
      have hWb := HB.out.size
      have hnone : ∀ i, (Value.slice none 0 0).ownBlock = some i → wr.heap.size ≤ i := fun i hi => by simp [Value.ownBlock] at hi
      have hIA : IntsA wr.heap.size (.slice none 0 0) wr A5 (twos zs k) := HAL.out.front HLO.out hjz (by omega) (Nat.le_refl _) hnone hkj
      have HNW := Lib.hid (newO_any A5 k c5 (twos zs k) (twos_len zs k) (by omega) wr hIA)
      clear hk HO hnone hIA hIB hA5
      have hcase : (((j : Int) < (n : Int) ∧ ¬ (j : Int) < 40) ∨ (¬ (j : Int) < (n : Int) ∧ True)) := by
        rcases hguard with h | h
        · exact .inl h
        · exact .inr ⟨h, trivial⟩
      clear hguard
      rename_i Kx hKx
      have TAIL : ∀ x16 x17 x18 x19 x20 x21 x22 x23 x24 x25 x26 x27 x28 x29 x30 x31 x32 x33 x34 x35 x36 x37 : Value, Kx { tmps := #[.slice A n c, .int .u8 f, undef, undef, .bool false, .bool true, .slice A5 j c5, .int .i64 (j : Int), undef, undef, undef, undef, undef, undef, undef, undef, x16, x17, x18, x19, x20, x21, x22, x23, x24, x25, x26, x27, x28, x29, x30, x31, x32, x33, x34, x35, x36, x37, undef, undef, undef, undef, undef, undef, undef, undef, undef, undef, undef, undef, undef, undef, undef, undef, undef, undef, undef, undef, undef, undef, undef, undef, undef, undef, undef, undef, undef, undef, undef, undef, undef, undef, undef, undef, undef, undef, undef, undef, undef, undef, undef, undef, undef, undef, undef, undef, undef, undef, undef, undef, undef, undef, undef, undef, undef, undef, undef, undef, undef, undef, undef, undef, undef, undef, undef, undef, undef, undef, undef, undef, undef, undef, undef, undef, undef, undef, undef, undef, undef, undef, undef, undef, undef, undef, undef, undef, undef, undef, undef, undef, undef, undef, undef, undef, undef, undef, undef, undef, undef, undef, undef, undef, undef, undef, undef, undef, undef, undef, undef, undef, undef, undef, undef, undef, undef, undef, undef, undef, undef, undef, undef, undef, undef, undef, undef, undef, undef, undef, undef, undef, undef, undef, undef, undef, undef, undef, undef, undef, undef, undef, undef, undef, undef, undef, undef, undef, undef, undef, undef, undef, undef, undef, undef, undef, undef], defers := [] } wr := by
        intro x16 x17 x18 x19 x20 x21 x22 x23 x24 x25 x26 x27 x28 x29 x30 x31 x32 x33 x34 x35 x36 x37
        refine hKx _ _ ?_
        clear hKx hcase hi hz0 hz1 hz2 hc hm hm' HB1 hcapm
        go_wp2_with fail
        refine HNW.out.mono ?_
        clear HNW
        rintro e w2 ⟨rfl, hb2, v2, hs2⟩
        have HAL2 := Lib.hid (HAL.out.below hb2)
        have HB2 := Lib.hid (hop HB.out (Nat.le_refl _) hb2)
        have HS2 := Lib.hid hs2
        obtain ⟨b, hb⟩ : ∃ b, wr.heap.size = b := ⟨_, rfl⟩
        rw [hb] at hWb HAL2 HS2 ⊢
        clear hb hb2 hs2 HB HAL
        go_wp2_with fail
        refine (newO_any none 0 0 [] rfl (by omega) w2 (IntsA.none_ _ _ _ _)).mono ?_
        rintro e w3 ⟨rfl, hb3, u3, hs3⟩
        have HT := Lib.hid (show TwoS W w3 b v2 (allP zs k) k w2.heap.size u3 (allP zs 0) 0 b _ j zs from by
          have h1 := HS2.out.lt
          have h2 := HS2.out.own
          have h3 := hs3.own
          refine ⟨HS2.out.below hb3, hs3, ⟨by omega, fun e => ?_, fun e => ?_, fun i hi e => ?_⟩, hop HB2.out (Nat.le_refl _) hb3, HAL2.out.below hb3, hWb, Nat.le_refl _, by omega⟩
          · have := h2 _ e; omega
          · have := h3 _ e; omega
          · have := h2 _ hi; have := h3 _ e; omega)
        obtain ⟨a, ha⟩ : ∃ a, w2.heap.size = a := ⟨_, rfl⟩
        rw [ha] at HT ⊢
        clear ha hb3 hs3 HS2 HB2 HAL2
        go_wp2_with fail
        refine (pushO_any b v2 (allP zs k) k A6 _ _ ((twos zs j).drop k) ?_ ?_ w3 HT.out.hp ?_).mono ?_
        · rw [List.length_drop, twos_len]
        · omega
        · exact HIB.out b v2 w3 b HT.out.all (Nat.le_refl _) (fun i hi => Nat.le_of_lt (HT.out.hp.own i hi).1)
        rintro e w4 ⟨rfl, v4, hs4, hg4⟩
        rw [allP_rest zs hkj, show k + (j - k) = j by omega] at hs4
        have HT4 := Lib.hid (HT.out.left hs4 hg4)
        clear hs4 hg4 HT
        go_wp2
        go_loopw [11] (fun iv wr => ∃ (i : Nat) (u : Value), i ≤ j ∧ iv = .int .i64 (i : Int) ∧ Hid (TwoS W wr b v4 (allP zs j) j a u (allP zs i) i b _ j zs)) (fun iv _ => j - (intOf iv).toNat)
        case atStart => exact ⟨0, u3, Nat.zero_le _, rfl, HT4⟩
        case round =>
          obtain ⟨i, u, hij, rfl, HU⟩ := hrel
          by_cases hi : i < j
          · have hiI : (i : Int) < (j : Int) := by omega
            obtain ⟨g, hA, hgl, hcell⟩ := HU.out.all.2 (by omega)
            cases hA
            obtain ⟨c0, c1⟩ := hcell i hi
            have hgood := twos_good zs HLO.out hjz (by omega) (twF zs i) (List.mem_of_getElem? (twos_get zs hi))
            have HGT := Lib.hid hgood
            have HTF := Lib.hid (show twF zs i = ⟨zs.getD i .empty, (i : Int)⟩ from rfl)
            obtain ⟨ts, hts⟩ : ∃ z, zs.getD i .empty = z := ⟨_, rfl⟩
            rw [hts] at c0 HTF
            clear hcell hgood hts
            obtain ⟨g6, hg6⟩ : ∃ g, wr.heap.size = g := ⟨_, rfl⟩
            obtain ⟨w5, hw5⟩ : ∃ z, wr.alloc (.cells #[.string ts, .int .i64 (i : Int)] 43) = z := ⟨_, rfl⟩
            have K5 : Blk w5 g6 43 #[.string ts, .int .i64 (i : Int)] := by rw [← hw5, ← hg6]; exact Blk.new _ _ _
            have hb5 : Below wr.heap.size wr w5 := by rw [← hw5]; exact (Below.refl _ _).alloc (Nat.le_refl _) _
            have HU5 := Lib.hid (HU.out.below hb5)
            have hlt := HU.out.rf.lt
            have hown := HU.out.rf.own
            have PU := pushO_any a u (allP zs i) i (some ⟨g6, 0, none⟩) 1 1 [twF zs i] rfl (by omega) w5 HU5.out.rf (IntsA.one HGT.out (by rw [HTF.out]; exact K5) (by omega) (fun e => by have := (hown _ e).2; omega))
            rw [allP_succ] at PU
            replace PU := Lib.hid PU
            clear hb5 K5 hlt hown HU HGT HTF hgl
            go_wp2_with fail
            clear hw5 hg6
            refine PU.out.mono ?_
            rintro e w6 ⟨rfl, u6, hs6, hg6⟩
            have HU6 := Lib.hid (HU5.out.right hs6 hg6)
            clear hs6 hg6 HU5 PU
            go_wp2
            go_round
            case rel => exact ⟨i + 1, u6, by omega, by first | rfl | go_num, HU6⟩
            case measure => simp [intOf]; omega
          · obtain rfl : i = j := by omega
            go_wp2_with fail
            refine (drainO_any b v4 (allP zs i) i wr HU.out.hp).mono ?_
            rintro e w7 ⟨v7, rfl, ho7, v8, hs7, hg7⟩
            have HAP := Lib.hid (show ApartV u v7 from fun k hk hl => by
              have h1 := (HU.out.rf.own k hk).2
              have h2 := (World.ownsRow.lt ho7 k hl).1
              omega)
            have HB0 := Lib.hid HU.out.rf.lt
            have HU7 := Lib.hid (HU.out.left hs7 hg7)
            obtain ⟨A7, c7, rfl⟩ := own_shape ho7
            have HO7 := Lib.hid ho7
            rw [List.length_map, allP_len] at HO7 HAP ⊢
            obtain ⟨B7, hB7⟩ : ∃ B, wr.heap.size = B := ⟨_, rfl⟩
            rw [hB7] at HO7 HB0
            have LN1 := lenO_any b v8 [] i w7 HU7.out.hp
            have LN2 := lenO_any a u (allP zs i) i w7 HU7.out.rf
            rw [allP_len] at LN2
            replace LN1 := Lib.hid LN1
            replace LN2 := Lib.hid LN2
            clear ho7 hs7 hg7 hB7 HU
            go_wp2_with fail
            refine LN1.out.mono ?_
            rintro e w8 ⟨rfl, rfl⟩
            go_wp2_with fail
            refine LN2.out.mono ?_
            rintro e w9 ⟨rfl, rfl⟩
            clear LN1 LN2
            go_wp2
            go_loopw [13] (fun iv wr => ∃ (q : Nat) (u1 : Value), q ≤ i ∧ iv = .int .i64 (q : Int) ∧ Hid (TwoS W wr b v8 [] i a u1 ((allP zs i).drop q) i b _ i zs) ∧ Hid (OwnR twC 2 wr B7 43 (.slice A7 i c7) ((allP zs i).map KeyP.it)) ∧ Hid (ApartV u1 (.slice A7 i c7))) (fun iv _ => i - (intOf iv).toNat)
            case atStart => exact ⟨0, u, Nat.zero_le _, rfl, HU7, HO7, HAP⟩
            case round =>
              obtain ⟨q, u1, hqi, rfl, HU, HO, HA⟩ := hrel
              by_cases hq : q < i
              · have hqI : (q : Int) < (i : Int) := by omega
                have hLL := allP_len zs i
                obtain ⟨y, hy⟩ : ∃ y, (allP zs i)[q]'(by omega) = y := ⟨_, rfl⟩
                have hy? : (allP zs i)[q]? = some y := by rw [← hy]; exact List.getElem?_eq_getElem (by omega)
                have hMk : (allP zs i).drop q = y :: (allP zs i).drop (q + 1) := by rw [← hy]; exact List.drop_eq_getElem_cons (by omega)
                obtain ⟨hp, hyit⟩ := allP_at zs i y (List.mem_of_getElem? hy?)
                have PO := popO_any a u1 y ((allP zs i).drop (q + 1)) i wr (by rw [← hMk]; exact HU.out.rf)
                have hstep : q = 0 ∨ ∃ r z, r + 1 = q ∧ (allP zs i)[r]? = some z ∧ z.at_ < i ∧ z.it = twF zs z.at_ ∧ (z.it.s.size < y.it.s.size ∨ (z.it.s.size = y.it.s.size ∧ z.at_ < y.at_)) := by
                  rcases Nat.eq_zero_or_pos q with h | h
                  · exact .inl h
                  · obtain ⟨r, hr⟩ : ∃ r, r + 1 = q := ⟨q - 1, by omega⟩
                    have hz? : (allP zs i)[r]? = some ((allP zs i)[r]'(by omega)) := List.getElem?_eq_getElem (by omega)
                    obtain ⟨h1, h2⟩ := allP_at zs i _ (List.mem_of_getElem? hz?)
                    exact .inr ⟨r, _, hr, hz?, h1, h2, allP_step zs i r _ y hz? (by rw [hr]; exact hy?)⟩
                have HY := Lib.hid (show ((allP zs i).map KeyP.it)[q]? = some (twF zs y.at_) by rw [List.getElem?_map, hy?, ← hyit]; rfl)
                obtain ⟨p, hpp⟩ : ∃ p, y.at_ = p := ⟨_, rfl⟩
                rw [hpp] at hp hyit hstep HY
                obtain ⟨ts, hts⟩ : ∃ z, zs.getD p .empty = z := ⟨_, rfl⟩
                have hys : y.it.s = ts := by rw [hyit, ← hts]; rfl
                have hyn : y.it.n = (p : Int) := by rw [hyit]; rfl
                rw [hys, hyn] at PO
                rw [hys] at hstep
                have HTF := Lib.hid (show twF zs p = ⟨ts, (p : Int)⟩ by rw [← hts]; rfl)
                have HTS := Lib.hid hts
                replace PO := Lib.hid PO
                have hpI : (p : Int) < (i : Int) := by omega
                have b1 : decide ((p : Int) < 0) = false := decide_eq_false (by omega)
                have b2 : decide ((i : Int) ≤ (p : Int)) = false := decide_eq_false (by omega)
                have b3 : decide (i ≤ p) = false := decide_eq_false (by omega)
                have hstep2 : (decide (0 < q) = false ∧ decide ((0 : Int) < (q : Int)) = false) ∨ ∃ r ps p', r + 1 = q ∧ Hid (((allP zs i).map KeyP.it)[r]? = some (⟨ps, ((p' : Nat) : Int)⟩ : TwoX)) ∧ (ps.size < ts.size ∨ (ps.size = ts.size ∧ p' < p)) := by
                  rcases hstep with h | ⟨r, z, h1, h2, h3, h4, h5⟩
                  · exact .inl ⟨decide_eq_false (by omega), decide_eq_false (by omega)⟩
                  · refine .inr ⟨r, z.it.s, z.at_, h1, Lib.hid ?_, h5⟩
                    rw [List.getElem?_map, h2, Option.map_some]
                    have h6 : z.it.n = (z.at_ : Int) := by rw [h4]; rfl
                    rw [← h6]
                clear hLL hy hy? hMk hyit hpp hts hys hyn hstep
                go_wp2_with fail
                refine PO.out.mono ?_
                clear PO
                rintro e w10 ⟨rfl, u2, hs10, hg10⟩
                have HUa := Lib.hid (HU.out.right hs10 hg10)
                have HOa := Lib.hid (OwnR.keptH HO.out hg10 HB0.out HA.out)
                have HAa := Lib.hid (HA.out.keptR HO.out hg10)
                clear hs10 hg10 HU HO HA
                obtain ⟨g14, hg14⟩ : ∃ g, w10.heap.size = g := ⟨_, rfl⟩
                obtain ⟨w11, hw11⟩ : ∃ z, w10.alloc (.cells #[.string ts, .int .i64 (p : Int)] 43) = z := ⟨_, rfl⟩
                have hb11 : Below w10.heap.size w10 w11 := by rw [← hw11]; exact (Below.refl _ _).alloc (Nat.le_refl _) _
                have K14 : Blk w11 g14 43 #[.string ts, .int .i64 (p : Int)] := by rw [← hw11, ← hg14]; exact Blk.new _ _ _
                have d0 : w11.cell? ⟨g14, 0, none⟩ = some (.string ts) := (K14.cell 0).trans rfl
                have d1 : w11.cell? ⟨g14, 1, none⟩ = some (.int .i64 (p : Int)) := (K14.cell 1).trans rfl
                have HUb := Lib.hid (HUa.out.below hb11)
                have HOb := Lib.hid (HOa.out.below hb11)
                clear hb11 K14 HUa HOa
                obtain ⟨g5, hA5, _, hcell5⟩ := HUb.out.all.2 (by omega)
                cases hA5
                obtain ⟨a0, a1⟩ := hcell5 p hp
                rw [HTS.out] at a0
                obtain ⟨g7, cap7, hv7, _, _, _, hcell7⟩ := OwnR.at_ twC_len HOb.out (by rw [List.length_map, allP_len]; omega)
                have hA7 : A7 = some ⟨g7, 0, none⟩ := by injection hv7
                subst hA7
                have o0 : w11.cell? ⟨g7, q * 2, none⟩ = some (.string ts) := by
                  have := hcell7 q 0 _ HY.out (by omega)
                  rw [HTF.out] at this
                  exact this
                have o1 : w11.cell? ⟨g7, q * 2 + 1, none⟩ = some (.int .i64 (p : Int)) := by
                  have := hcell7 q 1 _ HY.out (by omega)
                  rw [HTF.out] at this
                  exact this
                have HC7 := Lib.hid hcell7
                clear hv7 hcell7 hcell5 HY HTF HTS
                have HC := Lib.hid hstep2
                clear hstep2
                go_wp2
                clear hw11 hg14
                refine wp_region_quiet_lit (by kernel_rfl) (by kernel_rfl) ?_
                repeat (generalize hst : ({ tmps := _, defers := _ } : Act) = st; refine wpQuiet_step (fun K hK => ?_); subst hst; go_simp; refine hK _ ?_; clear hK K)
                refine wpQuiet_nil ?_
                intro _ hw'
                obtain ⟨nq1, hw''⟩ := hw'
                subst hw''
                clear a0 a1 d0 d1 b1 b2 b3 hpI hp
                rcases HC.out with ⟨c1, c2⟩ | ⟨r, ps, p', hrq, HR, hcmp | ⟨hcmp, hpp⟩⟩
                · clear HC HC7 o0 o1
                  go_wp2
                  refine wp_region_quiet_lit (by kernel_rfl) (by kernel_rfl) ?_
                  repeat (generalize hst : ({ tmps := _, defers := _ } : Act) = st; refine wpQuiet_step (fun K hK => ?_); subst hst; go_simp; refine hK _ ?_; clear hK K)
                  refine wpQuiet_nil ?_
                  intro _ hw'
                  obtain ⟨nq2, hw''⟩ := hw'
                  subst hw''
                  go_wp2
                  go_round
                  case rel => exact ⟨q + 1, u2, by omega, by first | rfl | go_num, Lib.hid (HUb.out.below (below_drewN (Below.refl _ _) _)), Lib.hid (HOb.out.below (below_drewN (Below.refl _ _) _)), HAa⟩
                  case measure => simp [intOf]; omega
                · have hwp : IntKind.i64.wrap ((q : Int) - 1) = (r : Int) := by rw [IntKind.wrap_i64]; omega
                  have hri : (r : Int) < (i : Int) := by omega
                  have c1 : decide (0 < q) = true := decide_eq_true (by omega)
                  have c2 : decide ((0 : Int) < (q : Int)) = true := decide_eq_true (by omega)
                  have r0 : w11.cell? ⟨g7, r * 2, none⟩ = some (.string ps) := HC7.out r 0 _ HR.out (by omega)
                  have r1 : w11.cell? ⟨g7, r * 2 + 1, none⟩ = some (.int .i64 (p' : Int)) := HC7.out r 1 _ HR.out (by omega)
                  have e1 : decide (ts.size < ps.size) = false := decide_eq_false (by omega)
                  have e2 : decide ((ts.size : Int) < (ps.size : Int)) = false := decide_eq_false (by omega)
                  have e3 : ¬ ps.size = ts.size := by omega
                  have e4 : ((ps.size : Int) == (ts.size : Int)) = false := by rw [beq_eq_false_iff_ne]; omega
                  have e5 : (ps.size == ts.size) = false := by rw [beq_eq_false_iff_ne]; omega
                  have e6 : ¬ (ps.size : Int) = (ts.size : Int) := by omega
                  clear HC HC7 hcmp hrq HR
                  go_wp2
                  refine wp_region_quiet_lit (by kernel_rfl) (by kernel_rfl) ?_
                  repeat (generalize hst : ({ tmps := _, defers := _ } : Act) = st; refine wpQuiet_step (fun K hK => ?_); subst hst; go_simp; refine hK _ ?_; clear hK K)
                  refine wpQuiet_nil ?_
                  intro _ hw'
                  obtain ⟨nq2, hw''⟩ := hw'
                  subst hw''
                  go_wp2
                  go_round
                  case rel => exact ⟨q + 1, u2, by omega, by first | rfl | go_num, Lib.hid (HUb.out.below (below_drewN (Below.refl _ _) _)), Lib.hid (HOb.out.below (below_drewN (Below.refl _ _) _)), HAa⟩
                  case measure => simp [intOf]; omega
                · have hwp : IntKind.i64.wrap ((q : Int) - 1) = (r : Int) := by rw [IntKind.wrap_i64]; omega
                  have hri : (r : Int) < (i : Int) := by omega
                  have c1 : decide (0 < q) = true := decide_eq_true (by omega)
                  have c2 : decide ((0 : Int) < (q : Int)) = true := decide_eq_true (by omega)
                  have r0 : w11.cell? ⟨g7, r * 2, none⟩ = some (.string ps) := HC7.out r 0 _ HR.out (by omega)
                  have r1 : w11.cell? ⟨g7, r * 2 + 1, none⟩ = some (.int .i64 (p' : Int)) := HC7.out r 1 _ HR.out (by omega)
                  have e1 : decide ((p : Int) ≤ (p' : Int)) = false := decide_eq_false (by omega)
                  have e2 : decide (p ≤ p') = false := decide_eq_false (by omega)
                  have e3 : ¬ (p : Int) ≤ (p' : Int) := by omega
                  have e4 : ¬ p ≤ p' := by omega
                  clear HC HC7 hrq HR hpp
                  go_wp2
                  refine wp_region_quiet_lit (by kernel_rfl) (by kernel_rfl) ?_
                  repeat (generalize hst : ({ tmps := _, defers := _ } : Act) = st; refine wpQuiet_step (fun K hK => ?_); subst hst; go_simp; refine hK _ ?_; clear hK K)
                  refine wpQuiet_nil ?_
                  intro _ hw'
                  obtain ⟨nq2, hw''⟩ := hw'
                  subst hw''
                  go_wp2
                  go_round
                  case rel => exact ⟨q + 1, u2, by omega, by first | rfl | go_num, Lib.hid (HUb.out.below (below_drewN (Below.refl _ _) _)), Lib.hid (HOb.out.below (below_drewN (Below.refl _ _) _)), HAa⟩
                  case measure => simp [intOf]; omega
              · obtain rfl : q = i := by omega
                have HB9 := Lib.hid HU.out.bel
                clear HU HO HA HU7 HO7 HAP
                go_wp2
                go_ret
                exact ⟨by first | rfl | (simp; done), HB9.out⟩
      rcases hcase with ⟨hg1, hg2⟩ | ⟨hg1, hg2⟩
      · clear hKx
        go_wp2
        exact TAIL _ _ _ _ _ _ _ _ _ _ _ _ _ _ _ _ _ _ _ _ _ _
      · clear hKx
        go_wp2
        exact TAIL _ _ _ _ _ _ _ _ _ _ _ _ _ _ _ _ _ _ _ _ _ _
end Go.Proofs.Ytlicnijhmncoeaa.T2
