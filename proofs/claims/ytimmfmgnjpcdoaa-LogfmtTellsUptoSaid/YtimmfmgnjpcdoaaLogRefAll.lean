/- The document's fields of a line: the walks of its space and All. -/
import Derived.Test.YtimmfmgnjpcdoaaLogAll
import Derived.Test.YtimmfmgnjpcdoaaLogRef
namespace Go.Proofs.Ytimmfmgnjpcdoaa
open Go.RowKit
set_option linter.unusedVariables false
set_option linter.unusedSimpArgs false

theorem space_is (c : UInt8) : goodK [3] c = (decide (c.toNat = 32) || decide (c.toNat = 9) || decide (c.toNat = 10)) := by
  simp [goodK, kindB]
set_option maxHeartbeats 800000 in
theorem refSpace_any (c : UInt8) (W : World) :
    Calls Try.prog 27 #[.int .u8 (c.toNat : Int)] W fun e w' => e = .returned (.bool (goodK [3] c)) ∧ W = w' := by
  have hc := c.toNat_lt
  have E := Lib.hid (space_is c)
  obtain ⟨n, hn⟩ : ∃ n, c.toNat = n := ⟨_, rfl⟩
  replace E := E.out
  rw [hn] at E hc ⊢
  have E := Lib.hid E
  clear hn
  by_cases h1 : n = 32
  · have HE := Lib.hid (show goodK [3] c = true by rw [E.out, decide_eq_true h1]; rfl)
    subst h1
    go_enter Try.func27, Try.ntmps27
    go_wp2
    go_ret
    exact ⟨by first | rfl | exact ret_bool HE.out.symm, rfl⟩
  · have f1 : ((n : Int) == 32) = false := by rw [beq_eq_false_iff_ne]; omega
    have g1 : ¬ (n : Int) = 32 := by omega
    by_cases h2 : n = 9
    · have HE := Lib.hid (show goodK [3] c = true by rw [E.out, decide_eq_true h2]; simp)
      subst h2
      go_enter Try.func27, Try.ntmps27
      go_wp2
      go_ret
      exact ⟨by first | rfl | exact ret_bool HE.out.symm, rfl⟩
    · have f2 : ((n : Int) == 9) = false := by rw [beq_eq_false_iff_ne]; omega
      have g2 : ¬ (n : Int) = 9 := by omega
      by_cases h3 : n = 10
      · have HE := Lib.hid (show goodK [3] c = true by rw [E.out, decide_eq_true h3]; simp)
        subst h3
        clear f1 f2 g1 g2
        go_enter Try.func27, Try.ntmps27
        go_wp2
        go_ret
        exact ⟨by first | rfl | exact ret_bool HE.out.symm, rfl⟩
      · have f3 : ((n : Int) == 10) = false := by rw [beq_eq_false_iff_ne]; omega
        have g3 : ¬ (n : Int) = 10 := by omega
        have HE := Lib.hid (show goodK [3] c = false by rw [E.out, decide_eq_false h1, decide_eq_false h2, decide_eq_false h3]; rfl)
        go_enter Try.func27, Try.ntmps27
        go_wp2
        go_ret
        exact ⟨by rw [HE.out]; first | rfl | (simp; omega), rfl⟩
theorem run_stops {p : UInt8 → Bool} {t : ByteArray} {k : Nat} (h : runTo p t k < t.size) (c : UInt8) (hc : t.data.toList[runTo p t k]? = some c) : p c = false := by
  cases hp : p c with
  | false => rfl
  | true =>
    have h1 := run_skip (p := p) (t := t) (runTo p t k - k) k (fun i h1 h2 => run_all k i h1 (by omega))
    have hge := run_ge (p := p) (t := t) k
    rw [show k + (runTo p t k - k) = runTo p t k by omega, run_step1 hc, if_pos hp] at h1
    have := run_ge (p := p) (t := t) (runTo p t k + 1)
    omega
theorem key_facts {c : UInt8} (h : keyB c = true) : goodK [3] c = false ∧ c.toNat ≠ 61 ∧ c.toNat ≠ 34 := by
  unfold keyB valB at h
  rw [Bool.and_eq_true, Bool.and_eq_true] at h
  obtain ⟨h1, h2, h3⟩ := h
  refine ⟨by simpa using h1, fun e => ?_, fun e => ?_⟩
  · rw [show c = 61 from UInt8.toNat_inj.1 e] at h2
    exact absurd h2 (by decide)
  · rw [show c = 34 from UInt8.toNat_inj.1 e] at h3
    exact absurd h3 (by decide)
theorem key_not {c : UInt8} (h : keyB c = false) : goodK [3] c = true ∨ (goodK [3] c = false ∧ c = 61) ∨ (goodK [3] c = false ∧ c = 34) := by
  cases hs : goodK [3] c with
  | true => exact .inl rfl
  | false =>
    unfold keyB valB at h
    rw [hs] at h
    by_cases h1 : c = 61
    · exact .inr (.inl ⟨rfl, h1⟩)
    · by_cases h2 : c = 34
      · exact .inr (.inr ⟨rfl, h2⟩)
      · rw [beq_eq_false_iff_ne.2 h1, beq_eq_false_iff_ne.2 h2] at h
        cases h
theorem byte_list {t : ByteArray} {j : Nat} (h : j < t.size) : t.data.toList[j]? = some t[j] := by
  rw [Array.getElem?_toList]
  exact Array.getElem?_eq_getElem (show j < t.data.size from h)
theorem eq_at {t : ByteArray} {j : Nat} (h : j < t.size) : takeR t j [eqS] = if t[j] = 61 then some eqS else none := by
  rw [show eqS = (⟨#[61]⟩ : ByteArray) from rfl, takeR_byte, head_at t j h]
  by_cases h2 : t[j] = 61
  · rw [if_pos (by rw [h2]), if_pos h2]
  · rw [if_neg (fun e => h2 (Option.some.inj e)), if_neg h2]
theorem eq_end {t : ByteArray} {j : Nat} (h : t.size ≤ j) : takeR t j [eqS] = none := by
  rw [show eqS = (⟨#[61]⟩ : ByteArray) from rfl, takeR_byte, head_end t j h, if_neg (by decide)]
/-- the loop over a line: what is still to come -/
theorem allR_skip {t : ByteArray} {k : Nat} {c : UInt8} (hc : t.data.toList[k]? = some c) (hp : keyB c = false) (f m : Nat) : allR t f k m = allR t f (k + 1) m := by
  cases f with
  | zero => rfl
  | succ f =>
    rw [allR_succ, allR_succ]
    have e : fieldR t k = fieldR t (k + 1) := field_skip (Nat.le_succ _) (fun i h1 h2 => by
      obtain rfl : i = k := by omega
      exact ⟨c, hc, by unfold notKey; rw [hp]; rfl⟩)
    rw [e]
theorem allR_end (t : ByteArray) (f m : Nat) : allR t f t.size m = [] := by
  cases f with
  | zero => rfl
  | succ f =>
    rw [allR_succ]
    have e : fieldR t t.size = none := by
      unfold fieldR
      rw [run_end (Nat.le_refl _), if_neg (Nat.lt_irrefl _)]
    rw [e]
    split <;> rfl
theorem fieldR_here {t : ByteArray} {j : Nat} {c : UInt8} (hc : t.data.toList[j]? = some c) (hj : j < t.size) (hp : keyB c = true) : fieldR t j = some ((t.extract j (runTo keyB t j), (valR t (runTo keyB t j)).1), (valR t (runTo keyB t j)).2) := by
  have e : runTo notKey t j = j := by
    rw [run_step1 hc, if_neg (by unfold notKey; rw [hp]; decide)]
  unfold fieldR
  rw [e, if_pos hj]
set_option maxRecDepth 100000 in
set_option maxHeartbeats 6400000 in
theorem refAll_any (t : ByteArray) (hs : t.size ≤ 16000000) (W : World) :
    Calls Try.prog 13 #[.string t] W fun e w' => ∃ v, e = .returned v ∧ OwnQ w' W.heap.size v (allF t) ∧ Below W.heap.size W w' := by
  have h0 : W.heap.size ≤ W.heap.size := Nat.le_refl _
  obtain ⟨i0, hinf, hz0, hz1, hz2⟩ := info_parts infoPair6
  obtain ⟨T, hT⟩ : ∃ T, allF t = T := ⟨_, rfl⟩
  rw [hT]
  have HT := Lib.hid (show ∃ f, t.size < f + 0 ∧ [] ++ allR t f 0 (64 - ([] : List PairB).length) = T from ⟨t.size + 1, by omega, hT⟩)
  clear hT
  go_enter Try.func13, Try.ntmps13
  go_wp2
  go_loopw [3, 4] (fun sv iv wr => ∃ (l : List PairB) (k : Nat), l.length ≤ 64 ∧ k ≤ t.size ∧ iv = .int .i64 k ∧ Hid (OwnQ wr W.heap.size sv l) ∧ Hid (∃ f, t.size < f + k ∧ l ++ allR t f k (64 - l.length) = T) ∧ Hid (Below W.heap.size W wr)) (fun _ iv _ => t.size - (intOf iv).toNat)
  case atStart => exact ⟨[], 0, by decide, Nat.zero_le _, rfl, Lib.hid (OwnR.nil _ _ _), HT, Lib.hid (Below.refl _ _)⟩
  case round =>
    clear HT
    obtain ⟨l, k, hl, hkt, rfl, HO, HT, HB⟩ := hrel
    obtain ⟨A, cap, hv, _, _, _⟩ := HO.out.pairs
    subst hv
    obtain ⟨n, hn⟩ : ∃ n, l.length = n := ⟨_, rfl⟩
    have HN := Lib.hid hn
    rw [hn] at hl ⊢
    replace HO := HO.out
    rw [hn] at HO
    replace HO := Lib.hid HO
    clear hn
    by_cases hgo : k < t.size ∧ n < 64
    · obtain ⟨hk, hlt⟩ := hgo
      have hkI : (k : Int) < (t.size : Int) := by omega
      have hltI : (n : Int) < 64 := by omega
      have hrl : k ≤ runTo keyB t k := run_ge k
      have hrt : runTo keyB t k ≤ t.size := runTo_le _ _ _ hkt
      obtain ⟨r, hr⟩ : ∃ r, runTo keyB t k = r := ⟨_, rfl⟩
      have HRA := Lib.hid (fun i (h1 : k ≤ i) (h2 : i < runTo keyB t k) => run_all (p := keyB) (t := t) k i h1 h2)
      have HR := Lib.hid hr
      rw [hr] at hrl hrt
      clear hr
      obtain ⟨v0, hv0⟩ : ∃ v, v = wr := ⟨_, rfl⟩
      subst hv0
      go_wp2
      go_loopw [4] (fun iv wx => ∃ j : Nat, k ≤ j ∧ j ≤ r ∧ iv = .int .i64 j ∧ v0 = wx) (fun iv _ => t.size - (intOf iv).toNat)
      case atStart => exact ⟨k, Nat.le_refl _, hrl, rfl, by first | rfl | trivial⟩
      case round =>
        obtain ⟨j, hkj, hjr, rfl, rfl⟩ := hrel
        by_cases hj : j < r
        · obtain ⟨c, hc, hk1⟩ := HRA.out j hkj (by rw [HR.out]; exact hj)
          have hjN : j < t.size := by omega
          have hjsI : (j : Int) < (t.size : Int) := by omega
          have hcc : t[j]'hjN = c := by have h := byte_list (t := t) (j := j) hjN; rw [hc] at h; exact (Option.some.inj h).symm
          obtain ⟨hsp, h61, h34⟩ := key_facts hk1
          have SPC := refSpace_any c v0
          rw [hsp] at SPC
          have SPC := Lib.hid SPC
          have g1 : ¬ (c.toNat : Int) = 61 := by omega
          have g2 : ((c.toNat : Int) == 61) = false := by rw [beq_eq_false_iff_ne]; exact g1
          have g3 : ¬ (c.toNat : Int) = 34 := by omega
          have g4 : ((c.toNat : Int) == 34) = false := by rw [beq_eq_false_iff_ne]; exact g3
          have g5 : ((c.toNat : Int) != 61) = true := by rw [bne, g2]; rfl
          have g6 : ((c.toNat : Int) != 34) = true := by rw [bne, g4]; rfl
          have g7 : decide ((c.toNat : Int) = 61) = false := decide_eq_false g1
          have g8 : decide ((c.toNat : Int) = 34) = false := decide_eq_false g3
          have g9 : decide (c.toNat = 61) = false := decide_eq_false h61
          have g10 : decide (c.toNat = 34) = false := decide_eq_false h34
          clear hc hk1 hsp
          go_wp2_with fail
          refine SPC.out.mono ?_
          rintro e w8 ⟨rfl, rfl⟩
          go_wp2
          go_round
          case rel => exact ⟨j + 1, by omega, by omega, by go_num, by first | rfl | trivial⟩
          case measure => simp [intOf]; omega
        · obtain rfl : r = j := by omega
          by_cases hrs : r < t.size
          · have hrsI : (r : Int) < (t.size : Int) := by omega
            have HSTOP := Lib.hid (show keyB (t[r]'hrs) = false from run_stops (p := keyB) (t := t) (k := k) (by rw [HR.out]; exact hrs) _ (by rw [HR.out]; exact byte_list hrs))
            obtain ⟨c, hcc⟩ : ∃ c, t[r]'hrs = c := ⟨_, rfl⟩
            have hkf := HSTOP.out
            rw [hcc] at hkf
            rcases key_not hkf with hsp | ⟨hsp, hq⟩ | ⟨hsp, hq⟩
            · have HEQ := Lib.hid (show takeR t r [eqS] = none by rw [eq_at hrs, hcc, if_neg (fun e => by rw [e] at hsp; exact absurd hsp (by decide))])
              have g1 : ¬ (c.toNat : Int) = 61 := by
                intro e
                have e2 : c = 61 := UInt8.toNat_inj.1 (show c.toNat = 61 by omega)
                rw [e2] at hsp
                exact absurd hsp (by decide)
              have g2 : ((c.toNat : Int) == 61) = false := by rw [beq_eq_false_iff_ne]; exact g1
              have SPC := refSpace_any c v0
              rw [hsp] at SPC
              have SPC := Lib.hid SPC
              clear hsp hkf
              by_cases hrk : k = r
              · subst hrk
                have HKB := Lib.hid (show keyB (t[k]'hk) = false from HSTOP.out)
                go_wp2_with fail
                refine SPC.out.mono ?_
                rintro e w8 ⟨rfl, rfl⟩
                have HN3 := Lib.hid (show ∃ f, t.size < f + (k + 1) ∧ l ++ allR t f (k + 1) (64 - l.length) = T from by
                  obtain ⟨f, hf, he⟩ := HT.out
                  rw [allR_skip (byte_list hk) HKB.out] at he
                  exact ⟨f, by omega, he⟩)
                go_wp2
                go_round
                case rel => exact ⟨l, k + 1, by rw [HN.out]; omega, by omega, by first | rfl | go_num, HO, HN3, HB⟩
                case measure => simp [intOf]; omega
              · have HKB := Lib.hid (show keyB (t[k]'hk) = true from by
                  obtain ⟨c2, hc2, hk2⟩ := HRA.out k (Nat.le_refl _) (by rw [HR.out]; omega)
                  rw [byte_list hk] at hc2
                  rw [Option.some.inj hc2]
                  exact hk2)
                have hfr := fieldR_here (byte_list hk) hk HKB.out
                rw [HR.out] at hfr
                have HSS := Lib.hid (show ∃ f, t.size < (f + 1) + k ∧ l ++ (if okF (t.extract k r, (valR t r).1) = true then (t.extract k r, (valR t r).1) :: allR t f (valR t r).2 (64 - n - 1) else allR t f (valR t r).2 (64 - n)) = T from by
                  obtain ⟨f, hf, he⟩ := HT.out
                  obtain ⟨f2, rfl⟩ : ∃ f2, f = f2 + 1 := ⟨f - 1, by omega⟩
                  refine ⟨f2, hf, ?_⟩
                  rw [allR_succ, HN.out, if_neg (by omega), hfr] at he
                  exact he)
                clear hfr
                obtain ⟨key, hkey⟩ : ∃ s, t.extract k r = s := ⟨_, rfl⟩
                have HKEY := Lib.hid hkey
                have HST := Lib.hid (show ∃ f, t.size < (f + 1) + k ∧ l ++ (if okF (key, (⟨#[]⟩ : ByteArray)) = true then (key, (⟨#[]⟩ : ByteArray)) :: allR t f r (64 - n - 1) else allR t f r (64 - n)) = T from by
                  have h := HSS.out
                  have hv : valR t r = (.empty, r) := by unfold valR; rw [HEQ.out]
                  rw [hv, HKEY.out] at h
                  exact h)
                obtain ⟨pos, hpos⟩ : ∃ p, p = r := ⟨_, rfl⟩
                subst hpos
                have HPOS := Lib.hid (show k < pos ∧ pos ≤ t.size by omega)
                have hle : (k : Int) ≤ (pos : Int) := by omega
                have hne : ((pos : Int) == (k : Int)) = false := by rw [beq_eq_false_iff_ne]; omega
                have hne2 : ¬ (pos : Int) = (k : Int) := by omega
                have hne3 : ¬ pos = k := by omega
                obtain ⟨vl, hvl⟩ : ∃ s : ByteArray, s = ⟨#[]⟩ := ⟨_, rfl⟩
                have HVL := Lib.hid hvl
                clear hvl
                go_wp2_with fail
                refine SPC.out.mono ?_
                rintro e w8 ⟨rfl, rfl⟩
                go_wp2_with fail
                have HOw := Lib.hid (HO.out.alloc (.cells #[.string key, .string ⟨#[]⟩] 54))
                have HBw := Lib.hid (HB.out.alloc HB.out.size (.cells #[.string key, .string ⟨#[]⟩] 54))
                have B1 := Blk.new v0 54 #[.string key, .string ⟨#[]⟩]
                obtain ⟨gp, hgp⟩ : ∃ g, v0.heap.size = g := ⟨_, rfl⟩
                obtain ⟨w7, hw7⟩ : ∃ z, v0.alloc (.cells #[.string key, .string ⟨#[]⟩] 54) = z := ⟨_, rfl⟩
                replace HOw := HOw.out
                replace HBw := HBw.out
                rw [hw7] at HOw HBw
                rw [hw7, hgp] at B1
                rw [hw7, hgp]
                have e0 : w7.cell? ⟨gp, 0, none⟩ = some (.string key) := (B1.cell 0).trans rfl
                have e1 : w7.cell? ⟨gp, 1, none⟩ = some (.string vl) := by rw [HVL.out]; exact (B1.cell 1).trans rfl
                have HST := Lib.hid (show ∃ f, t.size < (f + 1) + k ∧ l ++ (if okF (key, vl) = true then (key, vl) :: allR t f pos (64 - n - 1) else allR t f pos (64 - n)) = T from by rw [HVL.out]; exact HST.out)
                replace HOw := Lib.hid HOw
                replace HBw := Lib.hid HBw
                clear hw7 hgp B1 hne hne2 hne3 hle
                have NM := Lib.hid (refName_any key w7)
                cases hnb : nameB key with
                | false =>
                  have HN3 := Lib.hid (show ∃ f, t.size < f + pos ∧ l ++ allR t f pos (64 - l.length) = T from by
                    obtain ⟨f, hf, he⟩ := HST.out
                    rw [show okF (key, vl) = false by unfold okF; rw [hnb]; rfl, if_neg (by decide)] at he
                    exact ⟨f, by have := HPOS.out; omega, by rw [HN.out]; exact he⟩)
                  replace NM := NM.out
                  rw [hnb] at NM
                  replace NM := Lib.hid NM
                  clear hnb
                  refine NM.out.mono ?_
                  rintro e w8 ⟨rfl, rfl⟩
                  go_wp2
                  go_round
                  case rel => exact ⟨l, pos, by rw [HN.out]; omega, HPOS.out.2, by first | rfl | go_num, HOw, HN3, HBw⟩
                  case measure => simp [intOf]; have := HPOS.out; omega
                | true =>
                  replace NM := NM.out
                  rw [hnb] at NM
                  replace NM := Lib.hid NM
                  by_cases hv : vl.size ≤ 256
                  · have hvI : (vl.size : Int) ≤ 256 := by omega
                    have HN3 := Lib.hid (show ∃ f, t.size < f + pos ∧ (l ++ [(key, vl)]) ++ allR t f pos (64 - (n + 1)) = T from by
                      obtain ⟨f, hf, he⟩ := HST.out
                      rw [show okF (key, vl) = true by unfold okF; rw [hnb, decide_eq_true hv]; rfl, if_pos rfl] at he
                      exact ⟨f, by have := HPOS.out; omega, by rw [List.append_assoc]; exact he⟩)
                    clear hnb
                    refine NM.out.mono ?_
                    rintro e w8 ⟨rfl, rfl⟩
                    have hown := HOw.out
                    have hbw := HBw.out
                    have hsw := hbw.size
                    unfold OwnQ OwnR at hown
                    rw [HN.out] at hown
                    go_wp2_with (at_builtin; refine wpList_append_own _ rfl (.tmp 114) (.tmp 116) 30 rfl W.heap.size 54 i0 (.agg #[.string ⟨#[]⟩, .string ⟨#[]⟩]) 2 32 Try.underlying30 hinf hz0 hz1 hz2 rfl (by decide) _ _ _ rfl (World.ownsRow.alloc hown _) ⟨w7.heap.size, 0, none⟩ 1 1 (pairV (key, vl)) rfl rfl (new_cells_at _ _ _ _ (by simp)) (pairV_one _) (by unfold maxLen; omega) (by omega) (by simp; omega) ?_)
                    intro v' w9 hown' hgrow _
                    have HO9 := Lib.hid (show OwnQ w9 W.heap.size v' (l ++ [(key, vl)]) from OwnR.snoc (a := ((key, vl) : PairB)) (by rw [HN.out]; exact hown'))
                    have HB9 := Lib.hid ((hbw.alloc hsw (.cells #[.string key, .string vl] 54)).grown hgrow (by simp; omega) (fun r hr => (World.ownsRow.lt hown r hr).1))
                    clear hown' hgrow hown hbw hsw
                    go_wp2
                    go_round
                    case rel => exact ⟨l ++ [(key, vl)], pos, by rw [List.length_append, List.length_singleton, HN.out]; omega, HPOS.out.2, by first | rfl | go_num, HO9, Lib.hid (by rw [List.length_append, List.length_singleton, HN.out]; exact HN3.out), HB9⟩
                    case measure => simp [intOf]; have := HPOS.out; omega
                  · have hvI : ¬ (vl.size : Int) ≤ 256 := by omega
                    have HN3 := Lib.hid (show ∃ f, t.size < f + pos ∧ l ++ allR t f pos (64 - l.length) = T from by
                      obtain ⟨f, hf, he⟩ := HST.out
                      rw [show okF (key, vl) = false by unfold okF; rw [decide_eq_false hv, Bool.and_false], if_neg (by decide)] at he
                      exact ⟨f, by have := HPOS.out; omega, by rw [HN.out]; exact he⟩)
                    clear hnb
                    refine NM.out.mono ?_
                    rintro e w8 ⟨rfl, rfl⟩
                    go_wp2
                    go_round
                    case rel => exact ⟨l, pos, by rw [HN.out]; omega, HPOS.out.2, by first | rfl | go_num, HOw, HN3, HBw⟩
                    case measure => simp [intOf]; have := HPOS.out; omega
            · have HEQ := Lib.hid (show takeR t r [eqS] = some eqS by rw [eq_at hrs, hcc, if_pos hq])
              have g1 : (c.toNat : Int) = 61 := by rw [hq]; rfl
              have SPC := refSpace_any c v0
              rw [hsp] at SPC
              have SPC := Lib.hid SPC
              clear hsp hkf
              subst hq
              clear g1
              by_cases hrk : k = r
              · subst hrk
                have HKB := Lib.hid (show keyB (t[k]'hk) = false from HSTOP.out)
                go_wp2_with fail
                refine SPC.out.mono ?_
                rintro e w8 ⟨rfl, rfl⟩
                have HN3 := Lib.hid (show ∃ f, t.size < f + (k + 1) ∧ l ++ allR t f (k + 1) (64 - l.length) = T from by
                  obtain ⟨f, hf, he⟩ := HT.out
                  rw [allR_skip (byte_list hk) HKB.out] at he
                  exact ⟨f, by omega, he⟩)
                go_wp2
                go_round
                case rel => exact ⟨l, k + 1, by rw [HN.out]; omega, by omega, by first | rfl | go_num, HO, HN3, HB⟩
                case measure => simp [intOf]; omega
              · have HKB := Lib.hid (show keyB (t[k]'hk) = true from by
                  obtain ⟨c2, hc2, hk2⟩ := HRA.out k (Nat.le_refl _) (by rw [HR.out]; omega)
                  rw [byte_list hk] at hc2
                  rw [Option.some.inj hc2]
                  exact hk2)
                have hfr := fieldR_here (byte_list hk) hk HKB.out
                rw [HR.out] at hfr
                have HSS := Lib.hid (show ∃ f, t.size < (f + 1) + k ∧ l ++ (if okF (t.extract k r, (valR t r).1) = true then (t.extract k r, (valR t r).1) :: allR t f (valR t r).2 (64 - n - 1) else allR t f (valR t r).2 (64 - n)) = T from by
                  obtain ⟨f, hf, he⟩ := HT.out
                  obtain ⟨f2, rfl⟩ : ∃ f2, f = f2 + 1 := ⟨f - 1, by omega⟩
                  refine ⟨f2, hf, ?_⟩
                  rw [allR_succ, HN.out, if_neg (by omega), hfr] at he
                  exact he)
                clear hfr
                obtain ⟨key, hkey⟩ : ∃ s, t.extract k r = s := ⟨_, rfl⟩
                have HKEY := Lib.hid hkey
                obtain ⟨r1, hr1⟩ : ∃ r1, r1 = r + 1 := ⟨_, rfl⟩
                have hr1I : (r : Int) + 1 = (r1 : Int) := by omega
                have hr1W : IntKind.i64.wrap (r1 : Int) = (r1 : Int) := by rw [IntKind.wrap_i64]; omega
                have hr1t : r1 ≤ t.size := by omega
                have hr1J : (r1 : Int) ≤ (t.size : Int) := by omega
                have hvr : valR t r = (if (quoR t r1).2.2 = true then (⟨(quoR t r1).1.toArray⟩, r1 + (quoR t r1).2.1) else (t.extract r1 (runTo valB t r1), runTo valB t r1)) := by unfold valR; rw [HEQ.out, hr1]
                have hqn := quo_none (t := t) (k := r1)
                have hql := quoR_le t r1 hr1t
                have GT := fun w => refGet_any (t.extract r1 t.size) (by rw [ByteArray.size_extract]; omega) w
                have e9 : getR (t.extract r1 t.size).data.toList = quoR t r1 := rfl
                simp only [e9] at GT
                obtain ⟨⟨lv, m, ok⟩, hq⟩ : ∃ x, quoR t r1 = x := ⟨_, rfl⟩
                rw [hq] at hvr hqn hql
                simp only [hq] at GT
                dsimp only at hvr hqn hql
                replace GT := Lib.hid GT
                have HR1 := Lib.hid hr1
                have hle : (k : Int) ≤ (r : Int) := by omega
                have hne : ((r : Int) == (k : Int)) = false := by rw [beq_eq_false_iff_ne]; omega
                have hne2 : ¬ (r : Int) = (k : Int) := by omega
                have hne3 : ¬ r = k := by omega
                have hlt9 : k < r1 := by omega
                have B1 := Lib.hid (Blk.new v0 54 #[.string key, .string ⟨#[]⟩])
                have HVR := Lib.hid hvr
                clear e9 hq hr1 hvr
                go_wp2_with fail
                refine SPC.out.mono ?_
                rintro e w8 ⟨rfl, rfl⟩
                go_wp2_with fail
                refine (GT.out _).mono ?_
                rintro e w3 ⟨rfl, hx⟩
                have HB3 := Lib.hid (hop ((Below.refl v0.heap.size v0).alloc (Nat.le_refl _) (.cells #[.string key, .string ⟨#[]⟩] 54)) (Nat.le_refl _) hx)
                have b3 := B1.out.below hx (by simp)
                have k0 := (b3.cell 0).trans rfl
                have k1 := (b3.cell 1).trans rfl
                have f0 := b3.frozen 0
                have f1 := b3.frozen 1
                clear hx b3 B1 hne hne2 hne3 hle
                cases ok with
                | true =>
                  obtain ⟨vl, hvl⟩ : ∃ s : ByteArray, (⟨lv.toArray⟩ : ByteArray) = s := ⟨_, rfl⟩
                  obtain ⟨pos, hpos⟩ : ∃ p, p = r1 + m := ⟨_, rfl⟩
                  have hposI : (r1 : Int) + (m : Int) = (pos : Int) := by omega
                  have hposW : IntKind.i64.wrap (pos : Int) = (pos : Int) := by rw [IntKind.wrap_i64]; omega
                  have HPOS := Lib.hid (show k < pos ∧ pos ≤ t.size by omega)
                  have HST := Lib.hid (show ∃ f, t.size < (f + 1) + k ∧ l ++ (if okF (key, vl) = true then (key, vl) :: allR t f pos (64 - n - 1) else allR t f pos (64 - n)) = T from by
                    have h := HSS.out
                    rw [HVR.out, if_pos rfl, HKEY.out, hvl, ← hpos] at h
                    exact h)
                  rw [hvl]
                  clear hvl hpos hqn hql
                  go_wp2_with fail
                  have BX := (HB3.out).setCell (p := ⟨v0.heap.size, 1, none⟩) (Nat.le_refl _) (.string vl)
                  have HOw := Lib.hid (HO.out.below BX)
                  have HBw := Lib.hid (hop HB.out h0 BX)
                  have e0 : (w3.setCell ⟨v0.heap.size, 1, none⟩ (.string vl)).cell? ⟨v0.heap.size, 0, none⟩ = some (.string key) := by go_simp
                  have e1 : (w3.setCell ⟨v0.heap.size, 1, none⟩ (.string vl)).cell? ⟨v0.heap.size, 1, none⟩ = some (.string vl) := by go_simp
                  obtain ⟨gp, hgp⟩ : ∃ g, v0.heap.size = g := ⟨_, rfl⟩
                  obtain ⟨w7, hw7⟩ : ∃ z, w3.setCell ⟨v0.heap.size, 1, none⟩ (.string vl) = z := ⟨_, rfl⟩
                  replace HOw := HOw.out
                  replace HBw := HBw.out
                  rw [hw7] at HOw HBw e0 e1
                  rw [hgp] at e0 e1 hw7
                  try rw [hgp]
                  rw [hw7]
                  replace HOw := Lib.hid HOw
                  replace HBw := Lib.hid HBw
                  clear hw7 hgp BX k0 k1 f0 f1
                  have NM := Lib.hid (refName_any key w7)
                  cases hnb : nameB key with
                  | false =>
                    have HN3 := Lib.hid (show ∃ f, t.size < f + pos ∧ l ++ allR t f pos (64 - l.length) = T from by
                      obtain ⟨f, hf, he⟩ := HST.out
                      rw [show okF (key, vl) = false by unfold okF; rw [hnb]; rfl, if_neg (by decide)] at he
                      exact ⟨f, by have := HPOS.out; omega, by rw [HN.out]; exact he⟩)
                    replace NM := NM.out
                    rw [hnb] at NM
                    replace NM := Lib.hid NM
                    clear hnb
                    refine NM.out.mono ?_
                    rintro e w8 ⟨rfl, rfl⟩
                    go_wp2
                    go_round
                    case rel => exact ⟨l, pos, by rw [HN.out]; omega, HPOS.out.2, by first | rfl | go_num, HOw, HN3, HBw⟩
                    case measure => simp [intOf]; have := HPOS.out; omega
                  | true =>
                    replace NM := NM.out
                    rw [hnb] at NM
                    replace NM := Lib.hid NM
                    by_cases hv : vl.size ≤ 256
                    · have hvI : (vl.size : Int) ≤ 256 := by omega
                      have HN3 := Lib.hid (show ∃ f, t.size < f + pos ∧ (l ++ [(key, vl)]) ++ allR t f pos (64 - (n + 1)) = T from by
                        obtain ⟨f, hf, he⟩ := HST.out
                        rw [show okF (key, vl) = true by unfold okF; rw [hnb, decide_eq_true hv]; rfl, if_pos rfl] at he
                        exact ⟨f, by have := HPOS.out; omega, by rw [List.append_assoc]; exact he⟩)
                      clear hnb
                      refine NM.out.mono ?_
                      rintro e w8 ⟨rfl, rfl⟩
                      have hown := HOw.out
                      have hbw := HBw.out
                      have hsw := hbw.size
                      unfold OwnQ OwnR at hown
                      rw [HN.out] at hown
                      go_wp2_with (at_builtin; refine wpList_append_own _ rfl (.tmp 114) (.tmp 116) 30 rfl W.heap.size 54 i0 (.agg #[.string ⟨#[]⟩, .string ⟨#[]⟩]) 2 32 Try.underlying30 hinf hz0 hz1 hz2 rfl (by decide) _ _ _ rfl (World.ownsRow.alloc hown _) ⟨w7.heap.size, 0, none⟩ 1 1 (pairV (key, vl)) rfl rfl (new_cells_at _ _ _ _ (by simp)) (pairV_one _) (by unfold maxLen; omega) (by omega) (by simp; omega) ?_)
                      intro v' w9 hown' hgrow _
                      have HO9 := Lib.hid (show OwnQ w9 W.heap.size v' (l ++ [(key, vl)]) from OwnR.snoc (a := ((key, vl) : PairB)) (by rw [HN.out]; exact hown'))
                      have HB9 := Lib.hid ((hbw.alloc hsw (.cells #[.string key, .string vl] 54)).grown hgrow (by simp; omega) (fun r hr => (World.ownsRow.lt hown r hr).1))
                      clear hown' hgrow hown hbw hsw
                      go_wp2
                      go_round
                      case rel => exact ⟨l ++ [(key, vl)], pos, by rw [List.length_append, List.length_singleton, HN.out]; omega, HPOS.out.2, by first | rfl | go_num, HO9, Lib.hid (by rw [List.length_append, List.length_singleton, HN.out]; exact HN3.out), HB9⟩
                      case measure => simp [intOf]; have := HPOS.out; omega
                    · have hvI : ¬ (vl.size : Int) ≤ 256 := by omega
                      have HN3 := Lib.hid (show ∃ f, t.size < f + pos ∧ l ++ allR t f pos (64 - l.length) = T from by
                        obtain ⟨f, hf, he⟩ := HST.out
                        rw [show okF (key, vl) = false by unfold okF; rw [decide_eq_false hv, Bool.and_false], if_neg (by decide)] at he
                        exact ⟨f, by have := HPOS.out; omega, by rw [HN.out]; exact he⟩)
                      clear hnb
                      refine NM.out.mono ?_
                      rintro e w8 ⟨rfl, rfl⟩
                      go_wp2
                      go_round
                      case rel => exact ⟨l, pos, by rw [HN.out]; omega, HPOS.out.2, by first | rfl | go_num, HOw, HN3, HBw⟩
                      case measure => simp [intOf]; have := HPOS.out; omega
                | false =>
                  have hm0 := hqn rfl
                  subst hm0
                  have hrl2 : r1 ≤ runTo valB t r1 := run_ge r1
                  have hrt2 : runTo valB t r1 ≤ t.size := runTo_le _ _ _ hr1t
                  have HRV := Lib.hid (fun i (h1 : r1 ≤ i) (h2 : i < runTo valB t r1) => run_all (p := valB) (t := t) r1 i h1 h2)
                  obtain ⟨pos, hpos⟩ : ∃ p, runTo valB t r1 = p := ⟨_, rfl⟩
                  have HPV := Lib.hid hpos
                  rw [hpos] at hrl2 hrt2
                  obtain ⟨vl, hvl⟩ : ∃ s : ByteArray, t.extract r1 pos = s := ⟨_, rfl⟩
                  have HVL := Lib.hid hvl
                  have HPOS := Lib.hid (show k < pos ∧ pos ≤ t.size by omega)
                  have HST := Lib.hid (show ∃ f, t.size < (f + 1) + k ∧ l ++ (if okF (key, vl) = true then (key, vl) :: allR t f pos (64 - n - 1) else allR t f pos (64 - n)) = T from by
                    have h := HSS.out
                    rw [HVR.out, if_neg (by decide), HKEY.out, hpos, hvl] at h
                    exact h)
                  clear hvl hpos hqn hql
                  obtain ⟨v3, hv3⟩ : ∃ v, v = w3 := ⟨_, rfl⟩
                  subst hv3
                  go_wp2
                  go_loopw [8] (fun iv wx => ∃ q : Nat, r1 + q ≤ pos ∧ iv = .int .i64 q ∧ v3 = wx) (fun iv _ => t.size - (intOf iv).toNat)
                  case atStart => exact ⟨0, by omega, rfl, by first | rfl | trivial⟩
                  case round =>
                    obtain ⟨q, hqp, rfl, rfl⟩ := hrel
                    obtain ⟨j2, hj2⟩ : ∃ j2, j2 = r1 + q := ⟨_, rfl⟩
                    have hj2I : (r1 : Int) + (q : Int) = (j2 : Int) := by omega
                    have hj2W : IntKind.i64.wrap (j2 : Int) = (j2 : Int) := by rw [IntKind.wrap_i64]; omega
                    by_cases hj3 : j2 < pos
                    · obtain ⟨c, hc, hk1⟩ := HRV.out j2 (by omega) (by rw [HPV.out]; exact hj3)
                      have hj2s : (j2 : Int) < (t.size : Int) := by omega
                      have hj2N : j2 < t.size := by omega
                      have hcc : t[j2]'(by omega) = c := by have h := byte_list (t := t) (j := j2) (by omega); rw [hc] at h; exact (Option.some.inj h).symm
                      have hsp : goodK [3] c = false := by unfold valB at hk1; simpa using hk1
                      have SPC := refSpace_any c v3
                      rw [hsp] at SPC
                      have SPC := Lib.hid SPC
                      have hwq : IntKind.i64.wrap ((q : Int) + 1) = (q : Int) + 1 := by rw [IntKind.wrap_i64]; omega
                      have HJ := Lib.hid hj2
                      clear hc hk1 hsp hj2
                      go_wp2_with fail
                      refine SPC.out.mono ?_
                      rintro e w8 ⟨rfl, rfl⟩
                      go_wp2
                      go_round
                      case rel => exact ⟨q + 1, by have := HJ.out; omega, by go_num, by first | rfl | trivial⟩
                      case measure => simp [intOf]; have := HJ.out; omega
                    · obtain rfl : pos = j2 := by omega
                      have hle3 : (r1 : Int) ≤ (pos : Int) := by omega
                      clear hj2
                      by_cases hps : pos < t.size
                      · have hpsI : (pos : Int) < (t.size : Int) := by omega
                        have hst := run_stops (p := valB) (t := t) (k := r1) (by rw [HPV.out]; exact hps)
                        obtain ⟨c, hcc⟩ : ∃ c, t[pos]'hps = c := ⟨_, rfl⟩
                        have hsp : goodK [3] c = true := by
                          have h2 := hst (t[pos]'hps) (by rw [HPV.out]; exact byte_list hps)
                          rw [hcc] at h2
                          unfold valB at h2
                          simpa using h2
                        have SPC := refSpace_any c v3
                        rw [hsp] at SPC
                        have SPC := Lib.hid SPC
                        clear hst hsp
                        go_wp2_with fail
                        refine SPC.out.mono ?_
                        rintro e w8 ⟨rfl, rfl⟩
                        go_wp2_with fail
                        rw [HVL.out]
                        have BX := (HB3.out).setCell (p := ⟨v0.heap.size, 1, none⟩) (Nat.le_refl _) (.string vl)
                        have HOw := Lib.hid (HO.out.below BX)
                        have HBw := Lib.hid (hop HB.out h0 BX)
                        have e0 : (v3.setCell ⟨v0.heap.size, 1, none⟩ (.string vl)).cell? ⟨v0.heap.size, 0, none⟩ = some (.string key) := by go_simp
                        have e1 : (v3.setCell ⟨v0.heap.size, 1, none⟩ (.string vl)).cell? ⟨v0.heap.size, 1, none⟩ = some (.string vl) := by go_simp
                        obtain ⟨gp, hgp⟩ : ∃ g, v0.heap.size = g := ⟨_, rfl⟩
                        obtain ⟨w7, hw7⟩ : ∃ z, v3.setCell ⟨v0.heap.size, 1, none⟩ (.string vl) = z := ⟨_, rfl⟩
                        replace HOw := HOw.out
                        replace HBw := HBw.out
                        rw [hw7] at HOw HBw e0 e1
                        rw [hgp] at e0 e1 hw7
                        try rw [hgp]
                        rw [hw7]
                        replace HOw := Lib.hid HOw
                        replace HBw := Lib.hid HBw
                        clear hw7 hgp BX k0 k1 f0 f1
                        have NM := Lib.hid (refName_any key w7)
                        cases hnb : nameB key with
                        | false =>
                          have HN3 := Lib.hid (show ∃ f, t.size < f + pos ∧ l ++ allR t f pos (64 - l.length) = T from by
                            obtain ⟨f, hf, he⟩ := HST.out
                            rw [show okF (key, vl) = false by unfold okF; rw [hnb]; rfl, if_neg (by decide)] at he
                            exact ⟨f, by have := HPOS.out; omega, by rw [HN.out]; exact he⟩)
                          replace NM := NM.out
                          rw [hnb] at NM
                          replace NM := Lib.hid NM
                          clear hnb
                          refine NM.out.mono ?_
                          rintro e w8 ⟨rfl, rfl⟩
                          go_wp2
                          go_round
                          case rel => exact ⟨l, pos, by rw [HN.out]; omega, HPOS.out.2, by first | rfl | go_num, HOw, HN3, HBw⟩
                          case measure => simp [intOf]; have := HPOS.out; omega
                        | true =>
                          replace NM := NM.out
                          rw [hnb] at NM
                          replace NM := Lib.hid NM
                          by_cases hv : vl.size ≤ 256
                          · have hvI : (vl.size : Int) ≤ 256 := by omega
                            have HN3 := Lib.hid (show ∃ f, t.size < f + pos ∧ (l ++ [(key, vl)]) ++ allR t f pos (64 - (n + 1)) = T from by
                              obtain ⟨f, hf, he⟩ := HST.out
                              rw [show okF (key, vl) = true by unfold okF; rw [hnb, decide_eq_true hv]; rfl, if_pos rfl] at he
                              exact ⟨f, by have := HPOS.out; omega, by rw [List.append_assoc]; exact he⟩)
                            clear hnb
                            refine NM.out.mono ?_
                            rintro e w8 ⟨rfl, rfl⟩
                            have hown := HOw.out
                            have hbw := HBw.out
                            have hsw := hbw.size
                            unfold OwnQ OwnR at hown
                            rw [HN.out] at hown
                            go_wp2_with (at_builtin; refine wpList_append_own _ rfl (.tmp 114) (.tmp 116) 30 rfl W.heap.size 54 i0 (.agg #[.string ⟨#[]⟩, .string ⟨#[]⟩]) 2 32 Try.underlying30 hinf hz0 hz1 hz2 rfl (by decide) _ _ _ rfl (World.ownsRow.alloc hown _) ⟨w7.heap.size, 0, none⟩ 1 1 (pairV (key, vl)) rfl rfl (new_cells_at _ _ _ _ (by simp)) (pairV_one _) (by unfold maxLen; omega) (by omega) (by simp; omega) ?_)
                            intro v' w9 hown' hgrow _
                            have HO9 := Lib.hid (show OwnQ w9 W.heap.size v' (l ++ [(key, vl)]) from OwnR.snoc (a := ((key, vl) : PairB)) (by rw [HN.out]; exact hown'))
                            have HB9 := Lib.hid ((hbw.alloc hsw (.cells #[.string key, .string vl] 54)).grown hgrow (by simp; omega) (fun r hr => (World.ownsRow.lt hown r hr).1))
                            clear hown' hgrow hown hbw hsw
                            go_wp2
                            go_round
                            case rel => exact ⟨l ++ [(key, vl)], pos, by rw [List.length_append, List.length_singleton, HN.out]; omega, HPOS.out.2, by first | rfl | go_num, HO9, Lib.hid (by rw [List.length_append, List.length_singleton, HN.out]; exact HN3.out), HB9⟩
                            case measure => simp [intOf]; have := HPOS.out; omega
                          · have hvI : ¬ (vl.size : Int) ≤ 256 := by omega
                            have HN3 := Lib.hid (show ∃ f, t.size < f + pos ∧ l ++ allR t f pos (64 - l.length) = T from by
                              obtain ⟨f, hf, he⟩ := HST.out
                              rw [show okF (key, vl) = false by unfold okF; rw [decide_eq_false hv, Bool.and_false], if_neg (by decide)] at he
                              exact ⟨f, by have := HPOS.out; omega, by rw [HN.out]; exact he⟩)
                            clear hnb
                            refine NM.out.mono ?_
                            rintro e w8 ⟨rfl, rfl⟩
                            go_wp2
                            go_round
                            case rel => exact ⟨l, pos, by rw [HN.out]; omega, HPOS.out.2, by first | rfl | go_num, HOw, HN3, HBw⟩
                            case measure => simp [intOf]; have := HPOS.out; omega
                      · have hpsI : ¬ (pos : Int) < (t.size : Int) := by omega
                        go_wp2_with fail
                        rw [HVL.out]
                        have BX := (HB3.out).setCell (p := ⟨v0.heap.size, 1, none⟩) (Nat.le_refl _) (.string vl)
                        have HOw := Lib.hid (HO.out.below BX)
                        have HBw := Lib.hid (hop HB.out h0 BX)
                        have e0 : (v3.setCell ⟨v0.heap.size, 1, none⟩ (.string vl)).cell? ⟨v0.heap.size, 0, none⟩ = some (.string key) := by go_simp
                        have e1 : (v3.setCell ⟨v0.heap.size, 1, none⟩ (.string vl)).cell? ⟨v0.heap.size, 1, none⟩ = some (.string vl) := by go_simp
                        obtain ⟨gp, hgp⟩ : ∃ g, v0.heap.size = g := ⟨_, rfl⟩
                        obtain ⟨w7, hw7⟩ : ∃ z, v3.setCell ⟨v0.heap.size, 1, none⟩ (.string vl) = z := ⟨_, rfl⟩
                        replace HOw := HOw.out
                        replace HBw := HBw.out
                        rw [hw7] at HOw HBw e0 e1
                        rw [hgp] at e0 e1 hw7
                        try rw [hgp]
                        rw [hw7]
                        replace HOw := Lib.hid HOw
                        replace HBw := Lib.hid HBw
                        clear hw7 hgp BX k0 k1 f0 f1
                        have NM := Lib.hid (refName_any key w7)
                        cases hnb : nameB key with
                        | false =>
                          have HN3 := Lib.hid (show ∃ f, t.size < f + pos ∧ l ++ allR t f pos (64 - l.length) = T from by
                            obtain ⟨f, hf, he⟩ := HST.out
                            rw [show okF (key, vl) = false by unfold okF; rw [hnb]; rfl, if_neg (by decide)] at he
                            exact ⟨f, by have := HPOS.out; omega, by rw [HN.out]; exact he⟩)
                          replace NM := NM.out
                          rw [hnb] at NM
                          replace NM := Lib.hid NM
                          clear hnb
                          refine NM.out.mono ?_
                          rintro e w8 ⟨rfl, rfl⟩
                          go_wp2
                          go_round
                          case rel => exact ⟨l, pos, by rw [HN.out]; omega, HPOS.out.2, by first | rfl | go_num, HOw, HN3, HBw⟩
                          case measure => simp [intOf]; have := HPOS.out; omega
                        | true =>
                          replace NM := NM.out
                          rw [hnb] at NM
                          replace NM := Lib.hid NM
                          by_cases hv : vl.size ≤ 256
                          · have hvI : (vl.size : Int) ≤ 256 := by omega
                            have HN3 := Lib.hid (show ∃ f, t.size < f + pos ∧ (l ++ [(key, vl)]) ++ allR t f pos (64 - (n + 1)) = T from by
                              obtain ⟨f, hf, he⟩ := HST.out
                              rw [show okF (key, vl) = true by unfold okF; rw [hnb, decide_eq_true hv]; rfl, if_pos rfl] at he
                              exact ⟨f, by have := HPOS.out; omega, by rw [List.append_assoc]; exact he⟩)
                            clear hnb
                            refine NM.out.mono ?_
                            rintro e w8 ⟨rfl, rfl⟩
                            have hown := HOw.out
                            have hbw := HBw.out
                            have hsw := hbw.size
                            unfold OwnQ OwnR at hown
                            rw [HN.out] at hown
                            go_wp2_with (at_builtin; refine wpList_append_own _ rfl (.tmp 114) (.tmp 116) 30 rfl W.heap.size 54 i0 (.agg #[.string ⟨#[]⟩, .string ⟨#[]⟩]) 2 32 Try.underlying30 hinf hz0 hz1 hz2 rfl (by decide) _ _ _ rfl (World.ownsRow.alloc hown _) ⟨w7.heap.size, 0, none⟩ 1 1 (pairV (key, vl)) rfl rfl (new_cells_at _ _ _ _ (by simp)) (pairV_one _) (by unfold maxLen; omega) (by omega) (by simp; omega) ?_)
                            intro v' w9 hown' hgrow _
                            have HO9 := Lib.hid (show OwnQ w9 W.heap.size v' (l ++ [(key, vl)]) from OwnR.snoc (a := ((key, vl) : PairB)) (by rw [HN.out]; exact hown'))
                            have HB9 := Lib.hid ((hbw.alloc hsw (.cells #[.string key, .string vl] 54)).grown hgrow (by simp; omega) (fun r hr => (World.ownsRow.lt hown r hr).1))
                            clear hown' hgrow hown hbw hsw
                            go_wp2
                            go_round
                            case rel => exact ⟨l ++ [(key, vl)], pos, by rw [List.length_append, List.length_singleton, HN.out]; omega, HPOS.out.2, by first | rfl | go_num, HO9, Lib.hid (by rw [List.length_append, List.length_singleton, HN.out]; exact HN3.out), HB9⟩
                            case measure => simp [intOf]; have := HPOS.out; omega
                          · have hvI : ¬ (vl.size : Int) ≤ 256 := by omega
                            have HN3 := Lib.hid (show ∃ f, t.size < f + pos ∧ l ++ allR t f pos (64 - l.length) = T from by
                              obtain ⟨f, hf, he⟩ := HST.out
                              rw [show okF (key, vl) = false by unfold okF; rw [decide_eq_false hv, Bool.and_false], if_neg (by decide)] at he
                              exact ⟨f, by have := HPOS.out; omega, by rw [HN.out]; exact he⟩)
                            clear hnb
                            refine NM.out.mono ?_
                            rintro e w8 ⟨rfl, rfl⟩
                            go_wp2
                            go_round
                            case rel => exact ⟨l, pos, by rw [HN.out]; omega, HPOS.out.2, by first | rfl | go_num, HOw, HN3, HBw⟩
                            case measure => simp [intOf]; have := HPOS.out; omega
            · have g1 : ¬ (c.toNat : Int) = 61 := by rw [hq]; decide
              have HEQ := Lib.hid (show takeR t r [eqS] = none by rw [eq_at hrs, hcc, if_neg (fun e => by rw [hq] at e; exact absurd e (by decide))])
              have g2 : ((c.toNat : Int) == 61) = false := by rw [beq_eq_false_iff_ne]; exact g1
              have g3 : (c.toNat : Int) = 34 := by rw [hq]; rfl
              have SPC := refSpace_any c v0
              rw [hsp] at SPC
              have SPC := Lib.hid SPC
              clear hsp hkf
              subst hq
              clear g1 g2 g3
              by_cases hrk : k = r
              · subst hrk
                have HKB := Lib.hid (show keyB (t[k]'hk) = false from HSTOP.out)
                go_wp2_with fail
                refine SPC.out.mono ?_
                rintro e w8 ⟨rfl, rfl⟩
                have HN3 := Lib.hid (show ∃ f, t.size < f + (k + 1) ∧ l ++ allR t f (k + 1) (64 - l.length) = T from by
                  obtain ⟨f, hf, he⟩ := HT.out
                  rw [allR_skip (byte_list hk) HKB.out] at he
                  exact ⟨f, by omega, he⟩)
                go_wp2
                go_round
                case rel => exact ⟨l, k + 1, by rw [HN.out]; omega, by omega, by first | rfl | go_num, HO, HN3, HB⟩
                case measure => simp [intOf]; omega
              · have HKB := Lib.hid (show keyB (t[k]'hk) = true from by
                  obtain ⟨c2, hc2, hk2⟩ := HRA.out k (Nat.le_refl _) (by rw [HR.out]; omega)
                  rw [byte_list hk] at hc2
                  rw [Option.some.inj hc2]
                  exact hk2)
                have hfr := fieldR_here (byte_list hk) hk HKB.out
                rw [HR.out] at hfr
                have HSS := Lib.hid (show ∃ f, t.size < (f + 1) + k ∧ l ++ (if okF (t.extract k r, (valR t r).1) = true then (t.extract k r, (valR t r).1) :: allR t f (valR t r).2 (64 - n - 1) else allR t f (valR t r).2 (64 - n)) = T from by
                  obtain ⟨f, hf, he⟩ := HT.out
                  obtain ⟨f2, rfl⟩ : ∃ f2, f = f2 + 1 := ⟨f - 1, by omega⟩
                  refine ⟨f2, hf, ?_⟩
                  rw [allR_succ, HN.out, if_neg (by omega), hfr] at he
                  exact he)
                clear hfr
                obtain ⟨key, hkey⟩ : ∃ s, t.extract k r = s := ⟨_, rfl⟩
                have HKEY := Lib.hid hkey
                have HST := Lib.hid (show ∃ f, t.size < (f + 1) + k ∧ l ++ (if okF (key, (⟨#[]⟩ : ByteArray)) = true then (key, (⟨#[]⟩ : ByteArray)) :: allR t f r (64 - n - 1) else allR t f r (64 - n)) = T from by
                  have h := HSS.out
                  have hv : valR t r = (.empty, r) := by unfold valR; rw [HEQ.out]
                  rw [hv, HKEY.out] at h
                  exact h)
                obtain ⟨pos, hpos⟩ : ∃ p, p = r := ⟨_, rfl⟩
                subst hpos
                have HPOS := Lib.hid (show k < pos ∧ pos ≤ t.size by omega)
                have hle : (k : Int) ≤ (pos : Int) := by omega
                have hne : ((pos : Int) == (k : Int)) = false := by rw [beq_eq_false_iff_ne]; omega
                have hne2 : ¬ (pos : Int) = (k : Int) := by omega
                have hne3 : ¬ pos = k := by omega
                obtain ⟨vl, hvl⟩ : ∃ s : ByteArray, s = ⟨#[]⟩ := ⟨_, rfl⟩
                have HVL := Lib.hid hvl
                clear hvl
                go_wp2_with fail
                refine SPC.out.mono ?_
                rintro e w8 ⟨rfl, rfl⟩
                go_wp2_with fail
                have HOw := Lib.hid (HO.out.alloc (.cells #[.string key, .string ⟨#[]⟩] 54))
                have HBw := Lib.hid (HB.out.alloc HB.out.size (.cells #[.string key, .string ⟨#[]⟩] 54))
                have B1 := Blk.new v0 54 #[.string key, .string ⟨#[]⟩]
                obtain ⟨gp, hgp⟩ : ∃ g, v0.heap.size = g := ⟨_, rfl⟩
                obtain ⟨w7, hw7⟩ : ∃ z, v0.alloc (.cells #[.string key, .string ⟨#[]⟩] 54) = z := ⟨_, rfl⟩
                replace HOw := HOw.out
                replace HBw := HBw.out
                rw [hw7] at HOw HBw
                rw [hw7, hgp] at B1
                rw [hw7, hgp]
                have e0 : w7.cell? ⟨gp, 0, none⟩ = some (.string key) := (B1.cell 0).trans rfl
                have e1 : w7.cell? ⟨gp, 1, none⟩ = some (.string vl) := by rw [HVL.out]; exact (B1.cell 1).trans rfl
                have HST := Lib.hid (show ∃ f, t.size < (f + 1) + k ∧ l ++ (if okF (key, vl) = true then (key, vl) :: allR t f pos (64 - n - 1) else allR t f pos (64 - n)) = T from by rw [HVL.out]; exact HST.out)
                replace HOw := Lib.hid HOw
                replace HBw := Lib.hid HBw
                clear hw7 hgp B1 hne hne2 hne3 hle
                have NM := Lib.hid (refName_any key w7)
                cases hnb : nameB key with
                | false =>
                  have HN3 := Lib.hid (show ∃ f, t.size < f + pos ∧ l ++ allR t f pos (64 - l.length) = T from by
                    obtain ⟨f, hf, he⟩ := HST.out
                    rw [show okF (key, vl) = false by unfold okF; rw [hnb]; rfl, if_neg (by decide)] at he
                    exact ⟨f, by have := HPOS.out; omega, by rw [HN.out]; exact he⟩)
                  replace NM := NM.out
                  rw [hnb] at NM
                  replace NM := Lib.hid NM
                  clear hnb
                  refine NM.out.mono ?_
                  rintro e w8 ⟨rfl, rfl⟩
                  go_wp2
                  go_round
                  case rel => exact ⟨l, pos, by rw [HN.out]; omega, HPOS.out.2, by first | rfl | go_num, HOw, HN3, HBw⟩
                  case measure => simp [intOf]; have := HPOS.out; omega
                | true =>
                  replace NM := NM.out
                  rw [hnb] at NM
                  replace NM := Lib.hid NM
                  by_cases hv : vl.size ≤ 256
                  · have hvI : (vl.size : Int) ≤ 256 := by omega
                    have HN3 := Lib.hid (show ∃ f, t.size < f + pos ∧ (l ++ [(key, vl)]) ++ allR t f pos (64 - (n + 1)) = T from by
                      obtain ⟨f, hf, he⟩ := HST.out
                      rw [show okF (key, vl) = true by unfold okF; rw [hnb, decide_eq_true hv]; rfl, if_pos rfl] at he
                      exact ⟨f, by have := HPOS.out; omega, by rw [List.append_assoc]; exact he⟩)
                    clear hnb
                    refine NM.out.mono ?_
                    rintro e w8 ⟨rfl, rfl⟩
                    have hown := HOw.out
                    have hbw := HBw.out
                    have hsw := hbw.size
                    unfold OwnQ OwnR at hown
                    rw [HN.out] at hown
                    go_wp2_with (at_builtin; refine wpList_append_own _ rfl (.tmp 114) (.tmp 116) 30 rfl W.heap.size 54 i0 (.agg #[.string ⟨#[]⟩, .string ⟨#[]⟩]) 2 32 Try.underlying30 hinf hz0 hz1 hz2 rfl (by decide) _ _ _ rfl (World.ownsRow.alloc hown _) ⟨w7.heap.size, 0, none⟩ 1 1 (pairV (key, vl)) rfl rfl (new_cells_at _ _ _ _ (by simp)) (pairV_one _) (by unfold maxLen; omega) (by omega) (by simp; omega) ?_)
                    intro v' w9 hown' hgrow _
                    have HO9 := Lib.hid (show OwnQ w9 W.heap.size v' (l ++ [(key, vl)]) from OwnR.snoc (a := ((key, vl) : PairB)) (by rw [HN.out]; exact hown'))
                    have HB9 := Lib.hid ((hbw.alloc hsw (.cells #[.string key, .string vl] 54)).grown hgrow (by simp; omega) (fun r hr => (World.ownsRow.lt hown r hr).1))
                    clear hown' hgrow hown hbw hsw
                    go_wp2
                    go_round
                    case rel => exact ⟨l ++ [(key, vl)], pos, by rw [List.length_append, List.length_singleton, HN.out]; omega, HPOS.out.2, by first | rfl | go_num, HO9, Lib.hid (by rw [List.length_append, List.length_singleton, HN.out]; exact HN3.out), HB9⟩
                    case measure => simp [intOf]; have := HPOS.out; omega
                  · have hvI : ¬ (vl.size : Int) ≤ 256 := by omega
                    have HN3 := Lib.hid (show ∃ f, t.size < f + pos ∧ l ++ allR t f pos (64 - l.length) = T from by
                      obtain ⟨f, hf, he⟩ := HST.out
                      rw [show okF (key, vl) = false by unfold okF; rw [decide_eq_false hv, Bool.and_false], if_neg (by decide)] at he
                      exact ⟨f, by have := HPOS.out; omega, by rw [HN.out]; exact he⟩)
                    clear hnb
                    refine NM.out.mono ?_
                    rintro e w8 ⟨rfl, rfl⟩
                    go_wp2
                    go_round
                    case rel => exact ⟨l, pos, by rw [HN.out]; omega, HPOS.out.2, by first | rfl | go_num, HOw, HN3, HBw⟩
                    case measure => simp [intOf]; have := HPOS.out; omega
          · have hrsI : ¬ (r : Int) < (t.size : Int) := by omega
            have hrsB : decide (r < t.size) = false := decide_eq_false hrs
            have hrsJ : decide ((r : Int) < (t.size : Int)) = false := decide_eq_false hrsI
            have HEQ := Lib.hid (eq_end (t := t) (j := r) (by omega))
            have HKB := Lib.hid (show keyB (t[k]'hk) = true from by
              obtain ⟨c2, hc2, hk2⟩ := HRA.out k (Nat.le_refl _) (by rw [HR.out]; omega)
              rw [byte_list hk] at hc2
              rw [Option.some.inj hc2]
              exact hk2)
            have hfr := fieldR_here (byte_list hk) hk HKB.out
            rw [HR.out] at hfr
            have HSS := Lib.hid (show ∃ f, t.size < (f + 1) + k ∧ l ++ (if okF (t.extract k r, (valR t r).1) = true then (t.extract k r, (valR t r).1) :: allR t f (valR t r).2 (64 - n - 1) else allR t f (valR t r).2 (64 - n)) = T from by
              obtain ⟨f, hf, he⟩ := HT.out
              obtain ⟨f2, rfl⟩ : ∃ f2, f = f2 + 1 := ⟨f - 1, by omega⟩
              refine ⟨f2, hf, ?_⟩
              rw [allR_succ, HN.out, if_neg (by omega), hfr] at he
              exact he)
            clear hfr
            obtain ⟨key, hkey⟩ : ∃ s, t.extract k r = s := ⟨_, rfl⟩
            have HKEY := Lib.hid hkey
            have HST := Lib.hid (show ∃ f, t.size < (f + 1) + k ∧ l ++ (if okF (key, (⟨#[]⟩ : ByteArray)) = true then (key, (⟨#[]⟩ : ByteArray)) :: allR t f r (64 - n - 1) else allR t f r (64 - n)) = T from by
              have h := HSS.out
              have hv : valR t r = (.empty, r) := by unfold valR; rw [HEQ.out]
              rw [hv, HKEY.out] at h
              exact h)
            obtain ⟨pos, hpos⟩ : ∃ p, p = r := ⟨_, rfl⟩
            subst hpos
            have HPOS := Lib.hid (show k < pos ∧ pos ≤ t.size by omega)
            have hle : (k : Int) ≤ (pos : Int) := by omega
            have hne : ((pos : Int) == (k : Int)) = false := by rw [beq_eq_false_iff_ne]; omega
            have hne2 : ¬ (pos : Int) = (k : Int) := by omega
            have hne3 : ¬ pos = k := by omega
            obtain ⟨vl, hvl⟩ : ∃ s : ByteArray, s = ⟨#[]⟩ := ⟨_, rfl⟩
            have HVL := Lib.hid hvl
            clear hvl
            go_wp2_with fail
            have HOw := Lib.hid (HO.out.alloc (.cells #[.string key, .string ⟨#[]⟩] 54))
            have HBw := Lib.hid (HB.out.alloc HB.out.size (.cells #[.string key, .string ⟨#[]⟩] 54))
            have B1 := Blk.new v0 54 #[.string key, .string ⟨#[]⟩]
            obtain ⟨gp, hgp⟩ : ∃ g, v0.heap.size = g := ⟨_, rfl⟩
            obtain ⟨w7, hw7⟩ : ∃ z, v0.alloc (.cells #[.string key, .string ⟨#[]⟩] 54) = z := ⟨_, rfl⟩
            replace HOw := HOw.out
            replace HBw := HBw.out
            rw [hw7] at HOw HBw
            rw [hw7, hgp] at B1
            rw [hw7, hgp]
            have e0 : w7.cell? ⟨gp, 0, none⟩ = some (.string key) := (B1.cell 0).trans rfl
            have e1 : w7.cell? ⟨gp, 1, none⟩ = some (.string vl) := by rw [HVL.out]; exact (B1.cell 1).trans rfl
            have HST := Lib.hid (show ∃ f, t.size < (f + 1) + k ∧ l ++ (if okF (key, vl) = true then (key, vl) :: allR t f pos (64 - n - 1) else allR t f pos (64 - n)) = T from by rw [HVL.out]; exact HST.out)
            replace HOw := Lib.hid HOw
            replace HBw := Lib.hid HBw
            clear hw7 hgp B1 hne hne2 hne3 hle
            have NM := Lib.hid (refName_any key w7)
            cases hnb : nameB key with
            | false =>
              have HN3 := Lib.hid (show ∃ f, t.size < f + pos ∧ l ++ allR t f pos (64 - l.length) = T from by
                obtain ⟨f, hf, he⟩ := HST.out
                rw [show okF (key, vl) = false by unfold okF; rw [hnb]; rfl, if_neg (by decide)] at he
                exact ⟨f, by have := HPOS.out; omega, by rw [HN.out]; exact he⟩)
              replace NM := NM.out
              rw [hnb] at NM
              replace NM := Lib.hid NM
              clear hnb
              refine NM.out.mono ?_
              rintro e w8 ⟨rfl, rfl⟩
              go_wp2
              go_round
              case rel => exact ⟨l, pos, by rw [HN.out]; omega, HPOS.out.2, by first | rfl | go_num, HOw, HN3, HBw⟩
              case measure => simp [intOf]; have := HPOS.out; omega
            | true =>
              replace NM := NM.out
              rw [hnb] at NM
              replace NM := Lib.hid NM
              by_cases hv : vl.size ≤ 256
              · have hvI : (vl.size : Int) ≤ 256 := by omega
                have HN3 := Lib.hid (show ∃ f, t.size < f + pos ∧ (l ++ [(key, vl)]) ++ allR t f pos (64 - (n + 1)) = T from by
                  obtain ⟨f, hf, he⟩ := HST.out
                  rw [show okF (key, vl) = true by unfold okF; rw [hnb, decide_eq_true hv]; rfl, if_pos rfl] at he
                  exact ⟨f, by have := HPOS.out; omega, by rw [List.append_assoc]; exact he⟩)
                clear hnb
                refine NM.out.mono ?_
                rintro e w8 ⟨rfl, rfl⟩
                have hown := HOw.out
                have hbw := HBw.out
                have hsw := hbw.size
                unfold OwnQ OwnR at hown
                rw [HN.out] at hown
                go_wp2_with (at_builtin; refine wpList_append_own _ rfl (.tmp 114) (.tmp 116) 30 rfl W.heap.size 54 i0 (.agg #[.string ⟨#[]⟩, .string ⟨#[]⟩]) 2 32 Try.underlying30 hinf hz0 hz1 hz2 rfl (by decide) _ _ _ rfl (World.ownsRow.alloc hown _) ⟨w7.heap.size, 0, none⟩ 1 1 (pairV (key, vl)) rfl rfl (new_cells_at _ _ _ _ (by simp)) (pairV_one _) (by unfold maxLen; omega) (by omega) (by simp; omega) ?_)
                intro v' w9 hown' hgrow _
                have HO9 := Lib.hid (show OwnQ w9 W.heap.size v' (l ++ [(key, vl)]) from OwnR.snoc (a := ((key, vl) : PairB)) (by rw [HN.out]; exact hown'))
                have HB9 := Lib.hid ((hbw.alloc hsw (.cells #[.string key, .string vl] 54)).grown hgrow (by simp; omega) (fun r hr => (World.ownsRow.lt hown r hr).1))
                clear hown' hgrow hown hbw hsw
                go_wp2
                go_round
                case rel => exact ⟨l ++ [(key, vl)], pos, by rw [List.length_append, List.length_singleton, HN.out]; omega, HPOS.out.2, by first | rfl | go_num, HO9, Lib.hid (by rw [List.length_append, List.length_singleton, HN.out]; exact HN3.out), HB9⟩
                case measure => simp [intOf]; have := HPOS.out; omega
              · have hvI : ¬ (vl.size : Int) ≤ 256 := by omega
                have HN3 := Lib.hid (show ∃ f, t.size < f + pos ∧ l ++ allR t f pos (64 - l.length) = T from by
                  obtain ⟨f, hf, he⟩ := HST.out
                  rw [show okF (key, vl) = false by unfold okF; rw [decide_eq_false hv, Bool.and_false], if_neg (by decide)] at he
                  exact ⟨f, by have := HPOS.out; omega, by rw [HN.out]; exact he⟩)
                clear hnb
                refine NM.out.mono ?_
                rintro e w8 ⟨rfl, rfl⟩
                go_wp2
                go_round
                case rel => exact ⟨l, pos, by rw [HN.out]; omega, HPOS.out.2, by first | rfl | go_num, HOw, HN3, HBw⟩
                case measure => simp [intOf]; have := HPOS.out; omega
    · have HE := Lib.hid (show l = T from by
        obtain ⟨f, _, he⟩ := HT.out
        rw [HN.out] at he
        by_cases h : k < t.size
        · rw [show n = 64 by omega] at he
          cases f with
          | zero => rw [← he]; simp [allR]
          | succ f => rw [← he, allR_succ, if_pos rfl, List.append_nil]
        · rw [show k = t.size by omega, allR_end, List.append_nil] at he
          exact he)
      have hends : (¬ (k : Int) < (t.size : Int)) ∨ ((k : Int) < (t.size : Int) ∧ ¬ (n : Int) < 64) := by omega
      clear hgo
      rcases hends with e1 | ⟨e1, e2⟩
      all_goals
        go_wp2
        go_ret
        exact ⟨_, rfl, by rw [← HE.out]; exact HO.out, HB.out⟩
end Go.Proofs.Ytimmfmgnjpcdoaa
