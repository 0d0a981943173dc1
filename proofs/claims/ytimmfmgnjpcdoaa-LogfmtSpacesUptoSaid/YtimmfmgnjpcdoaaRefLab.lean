/- The document's own labels: a name; labels as the document's; are they the same.
   The document's own labels: a name, a right set, a text.
   The document's own labels: a right set, a text. -/
import Derived.Test.YtimmfmgnjpcdoaaTagsOpen
import Derived.Test.YtimmfmgnjpcdoaaLabNames
import Derived.Test.YtimmfmgnjpcdoaaBase
import Derived.Test.YtimmfmgnjpcdoaaRefPut
import Derived.Test.YtimmfmgnjpcdoaaLabBackMath
import Derived.Test.YtimmfmgnjpcdoaaLabOrderLaw
import Derived.Deep.AppendLies
import Derived.Deep.RegionHeld3
import Derived.Deep.QuietTactic
import Derived.BigQuiet
namespace Go.Proofs.Ytimmfmgnjpcdoaa
open Go.RowKit
set_option linter.unusedVariables false
set_option linter.unusedSimpArgs false

theorem infoPair6 : (Try.prog.info? 54).map (fun i => (i.zero, i.size, i.bytes)) = some (some (.agg #[.string ⟨#[]⟩, .string ⟨#[]⟩]), 2, 32) := by kernel_rfl
/-- v is a slice of the document's labels that the call owns -/
def OwnQ (w : World) (B : Nat) (v : Value) (l : List PairB) : Prop := OwnR pairV 2 w B 54 v l
theorem OwnQ.pairs {w : World} {B : Nat} {v : Value} {l : List PairB} (h : OwnQ w B v l) : ∃ A cap, v = .slice A l.length cap ∧ l.length ≤ cap ∧ (A = none → l.length = 0 ∧ cap = 0) ∧ Pairs w A l.length l := by
  obtain ⟨A, cap, rfl, hc, hn, h1, h2⟩ := OwnR.open pairV_len h
  refine ⟨A, cap, rfl, hc, hn, rfl, fun h0 => ?_⟩
  obtain ⟨b, off, rfl, hlt, hcell⟩ := h2 h0
  refine ⟨b, off, rfl, hlt, fun j hj => ?_⟩
  have hj1 : l[j]? = some (l.getD j pnil) := by
    rw [List.getD_eq_getElem?_getD, List.getElem?_eq_getElem hj]
    rfl
  exact ⟨hcell j 0 _ hj1 (by decide), hcell j 1 _ hj1 (by decide)⟩
set_option maxRecDepth 100000 in
set_option maxHeartbeats 800000 in
theorem refPairs_any (A : Option Addr) (n c : Nat) (ps : List PairB) (hn : n ≤ 1048576) (W : World) (h1 : Pairs W A n ps) :
    Calls Try.prog 18 #[.slice A n c] W fun e w' => ∃ v, e = .returned v ∧ OwnQ w' W.heap.size v ps ∧ Below W.heap.size W w' := by
  have h0 : W.heap.size ≤ W.heap.size := Nat.le_refl _
  obtain ⟨i0, hi, hz0, hz1, hz2⟩ := info_parts infoPair6
  have H1 := Lib.hid h1
  have hl := h1.1
  have HL := Lib.hid hl
  clear h1 hl
  go_enter Try.func18, Try.ntmps18
  go_wp2
  go_loopw [3, 4] (fun lv iv wr => ∃ j : Nat, j ≤ n ∧ iv = .int .i64 j ∧ OwnQ wr W.heap.size lv (ps.take j) ∧ Below W.heap.size W wr) (fun _ iv _ => n - (intOf iv).toNat)
  case atStart => exact ⟨0, Nat.zero_le _, rfl, OwnR.nil _ _ _, Below.refl _ _⟩
  case round =>
    obtain ⟨j, hjn, rfl, hown, hb⟩ := hrel
    have hsz := hb.size
    by_cases hj : j < n
    · have hjI : (j : Int) < (n : Int) := by omega
      obtain ⟨b1, o1, rfl, hlt1, hc1⟩ := (H1.out.below hb).2 (by omega)
      have hltW : b1 < W.heap.size := by
        obtain ⟨b2, o2, e, hlt, _⟩ := H1.out.2 (by omega)
        injection e with e
        injection e with e _
        rw [e]; exact hlt
      obtain ⟨c1, c2⟩ := hc1 j hj
      have hsn : ps.take (j + 1) = ps.take j ++ [ps.getD j pnil] := by
        have := HL.out
        rw [List.take_succ_eq_append_getElem (by omega), List.getD_eq_getElem?_getD, List.getElem?_eq_getElem (by omega)]
        rfl
      have hll : (ps.take j).length ≤ 1048576 := by rw [List.length_take]; omega
      obtain ⟨⟨p1, p2⟩, hp⟩ : ∃ p, ps.getD j pnil = p := ⟨_, rfl⟩
      rw [hp] at c1 c2 hsn
      obtain ⟨l, hl⟩ : ∃ l, ps.take j = l := ⟨_, rfl⟩
      rw [hl] at hown hll hsn
      dsimp only at c1 c2
      have HSN := Lib.hid hsn
      clear hc1 hp hl hsn
      go_wp2
      go_region_held3 (fun w' => w'.cell? ⟨b1, o1 + j * 2, none⟩ = some (.string p1) ∧ w'.cell? ⟨b1, o1 + j * 2 + 1, none⟩ = some (.string p2)) (first | go_keep | (refine ⟨?_, ?_⟩ <;> (rw [hgrow.cell_far _ (by simp; omega) (fun h => by have := (World.ownsRow.lt hown b1 h.symm).1; omega)]; first | exact told _ _ _ _ hlt1 c1 | exact told _ _ _ _ hlt1 c2 | assumption)))
        ((refine step_append_lies _ (by rfl) (.tmp 11) (.tmp 23) 30 (by rfl) W.heap.size 54 i0 (.agg #[.string ⟨#[]⟩, .string ⟨#[]⟩]) 2 32 Try.underlying30 hi hz0 hz1 hz2 rfl (by decide) _ _ _ (by rfl) (OwnR.alloc hown _) ⟨_, 0, none⟩ 1 1 (pairV (p1, p2)) (by rfl) rfl (new_cells _ _ _) (pairV_one _) (by omega) (by unfold maxLen; omega) (by omega) (by simp; omega) _ rfl ?_; intro g cap w2 hown' hgrow hg hlt2))
      have hb2 := (((hb.alloc hsz _).drew)).grown hgrow (by simp; omega) (fun r hr => (World.ownsRow.lt hown r hr).1)
      have hown2 := OwnR.snoc (a := ((p1, p2) : PairB)) hown'
      rw [← HSN.out] at hown2
      clear hown' hgrow
      go_wp2
      go_round
      case rel => exact ⟨j + 1, by omega, by go_num, hown2, hb2⟩
      case measure => simp [intOf]; omega
    · obtain rfl : j = n := by omega
      have E := Lib.hid (show ps.take j = ps from List.take_of_length_le (by rw [HL.out]; exact Nat.le_refl _))
      go_wp2
      go_ret
      exact ⟨_, rfl, by rw [E.out] at hown; exact hown, hb⟩

set_option maxRecDepth 100000 in
set_option maxHeartbeats 800000 in
theorem samePairs_any (A B : Option Addr) (n m c d : Nat) (ps qs : List PairB) (hn : n ≤ 9223372036854775807) (W : World) (h1 : Pairs W A n ps) (h2 : Pairs W B m qs) :
    Calls Try.prog 11 #[.slice A n c, .slice B m d] W fun e w' => e = .returned (.bool (decide (ps = qs))) ∧ Below W.heap.size W w' := by
  by_cases hnm : n = m
  · subst hnm
    obtain ⟨T, hT⟩ : ∃ T, decide (ps = qs) = T := ⟨_, rfl⟩
    rw [hT]
    have HT := Lib.hid (show decide (ps.drop 0 = qs.drop 0) = T by rw [List.drop_zero, List.drop_zero]; exact hT)
    have H1 := Lib.hid h1
    have H2 := Lib.hid h2
    have g0 : ((n : Int) != (n : Int)) = false := by simp
    clear hT h1 h2
    go_enter Try.func11, Try.ntmps11
    go_wp2
    go_loopw [5] (fun iv wr => ∃ j : Nat, j ≤ n ∧ iv = .int .i64 j ∧ Hid (decide (ps.drop j = qs.drop j) = T) ∧ ∃ q, wr = W.drewN q) (fun iv _ => n - (intOf iv).toNat)
    case atStart => exact ⟨0, Nat.zero_le _, rfl, HT, 0, rfl⟩
    case round =>
      obtain ⟨j, hjn, rfl, HJ, q, rfl⟩ := hrel
      have l1 := H1.out.1
      have l2 := H2.out.1
      by_cases hj : j < n
      · have hjI : (j : Int) < (n : Int) := by omega
        obtain ⟨b1, o1, rfl, hlt1, hc1⟩ := H1.out.2 (by omega)
        obtain ⟨b2, o2, rfl, hlt2, hc2⟩ := H2.out.2 (by omega)
        obtain ⟨c1, c2⟩ := hc1 j hj
        obtain ⟨c3, c4⟩ := hc2 j hj
        have d1 : ps.drop j = ps.getD j pnil :: ps.drop (j + 1) := by
          rw [List.drop_eq_getElem_cons (by omega), List.getD_eq_getElem?_getD, List.getElem?_eq_getElem (by omega)]
          rfl
        have d2 : qs.drop j = qs.getD j pnil :: qs.drop (j + 1) := by
          rw [List.drop_eq_getElem_cons (by omega), List.getD_eq_getElem?_getD, List.getElem?_eq_getElem (by omega)]
          rfl
        obtain ⟨⟨p1, p2⟩, hp⟩ : ∃ p, ps.getD j pnil = p := ⟨_, rfl⟩
        obtain ⟨⟨q1, q2⟩, hq⟩ : ∃ p, qs.getD j pnil = p := ⟨_, rfl⟩
        rw [hp] at c1 c2 d1
        rw [hq] at c3 c4 d2
        have hJ := HJ.out
        rw [d1, d2] at hJ
        dsimp only at c1 c2 c3 c4
        clear hc1 hc2 hp hq d1 d2
        by_cases e1 : p1 = q1
        · subst e1
          by_cases e2 : p2 = q2
          · subst e2
            have HN := Lib.hid (show decide (ps.drop (j + 1) = qs.drop (j + 1)) = T by
              rw [← hJ, decide_eq_decide]
              exact ⟨fun h => by rw [h], fun h => by injection h⟩)
            clear hJ l1 l2
            go_wp2
            refine wp_region_quiet_lit (by kernel_rfl) (by kernel_rfl) ?_
            repeat (generalize hst : ({ tmps := _, defers := _ } : Act) = st; refine wpQuiet_step (fun K hK => ?_); subst hst; go_simp; refine hK _ ?_; clear hK K)
            refine wpQuiet_nil ?_
            intro _ hw'
            obtain ⟨nq, hw''⟩ := hw'
            subst hw''
            go_wp2
            go_round
            case rel => exact ⟨j + 1, by omega, by go_num, HN, _, rfl⟩
            case measure => simp [intOf]; omega
          · have E := Lib.hid (show T = false from by rw [← hJ]; exact decide_eq_false (fun h => by injection h with h; injection h with _ h; exact e2 h))
            have t2 : (p2.toList == q2.toList) = false := text_other e2
            clear hJ l1 l2 e2
            go_wp2
            refine wp_region_quiet_lit (by kernel_rfl) (by kernel_rfl) ?_
            repeat (generalize hst : ({ tmps := _, defers := _ } : Act) = st; refine wpQuiet_step (fun K hK => ?_); subst hst; go_simp; refine hK _ ?_; clear hK K)
            refine wpQuiet_nil ?_
            intro _ hw'
            obtain ⟨nq, hw''⟩ := hw'
            subst hw''
            go_wp2
            go_ret
            exact ⟨ret_bool E.out.symm, by first | exact below_drewN (Below.refl _ _) _ | exact below_drewN (below_drewN (Below.refl _ _) _) _⟩
        · have E := Lib.hid (show T = false from by rw [← hJ]; exact decide_eq_false (fun h => by injection h with h; injection h with h; exact e1 h))
          have t1 : (p1.toList == q1.toList) = false := text_other e1
          clear hJ l1 l2 e1
          go_wp2
          refine wp_region_quiet_lit (by kernel_rfl) (by kernel_rfl) ?_
          repeat (generalize hst : ({ tmps := _, defers := _ } : Act) = st; refine wpQuiet_step (fun K hK => ?_); subst hst; go_simp; refine hK _ ?_; clear hK K)
          refine wpQuiet_nil ?_
          intro _ hw'
          obtain ⟨nq, hw''⟩ := hw'
          subst hw''
          go_wp2
          go_ret
          exact ⟨ret_bool E.out.symm, by first | exact below_drewN (Below.refl _ _) _ | exact below_drewN (below_drewN (Below.refl _ _) _) _⟩
      · obtain rfl : j = n := by omega
        have E := Lib.hid (show T = true from by rw [← HJ.out, show ps.drop j = [] from List.drop_eq_nil_of_le (by omega), show qs.drop j = [] from List.drop_eq_nil_of_le (by omega)]; rfl)
        clear l1 l2
        go_wp2
        go_ret
        exact ⟨ret_bool E.out.symm, by first | exact below_drewN (Below.refl _ _) _ | exact below_drewN (below_drewN (Below.refl _ _) _) _⟩
  · have E := Lib.hid (show decide (ps = qs) = false from decide_eq_false (fun e => hnm (by rw [← h1.1, ← h2.1, e])))
    have g0 : ((n : Int) != (m : Int)) = true := by rw [bne_iff_ne]; omega
    clear h1 h2 hnm
    go_enter Try.func11, Try.ntmps11
    go_wp2
    go_ret
    exact ⟨ret_bool E.out.symm, Below.refl _ _⟩
/-- may a byte stand in a name? -/
def letB (n : Nat) (first : Bool) : Bool := kindB 1 n || (decide (n = 95) || (!first && kindB 0 n))
set_option maxHeartbeats 1600000 in
theorem refLet_any (n : Nat) (hn : n < 256) (first : Bool) (W : World) :
    Calls Try.prog 48 #[.int .u8 (n : Int), .bool first] W fun e w' => e = .returned (.bool (letB n first)) ∧ W = w' := by
  rcases (by omega : n < 48 ∨ (48 ≤ n ∧ n ≤ 57) ∨ (57 < n ∧ n < 65) ∨ (65 ≤ n ∧ n ≤ 90) ∨ (90 < n ∧ n < 95) ∨ n = 95 ∨ n = 96 ∨ (97 ≤ n ∧ n ≤ 122) ∨ (122 < n)) with h | ⟨h, h2⟩ | ⟨h, h2⟩ | ⟨h, h2⟩ | ⟨h, h2⟩ | h | h | ⟨h, h2⟩ | h
  · have e : letB n first = false := by cases first <;> simp [letB, kindB] <;> omega
    rw [e]
    have n95 : ((n : Int) == 95) = false := by rw [beq_eq_false_iff_ne]; omega
    have x0 : n < 48 := by omega
    have x1 : n < 65 := by omega
    have x2 : n < 97 := by omega
    clear e h
    cases first
    all_goals
      go_enter Try.func48, Try.ntmps48
      go_wp2
      go_ret
      first | exact ⟨rfl, rfl⟩ | exact ⟨ret_bool (by simp; omega), rfl⟩
  · have e : letB n first = !first := by cases first <;> simp [letB, kindB] <;> omega
    rw [e]
    have n95 : ((n : Int) == 95) = false := by rw [beq_eq_false_iff_ne]; omega
    have x0 : 48 ≤ n := by omega
    have x1 : n ≤ 57 := by omega
    have x2 : n < 65 := by omega
    have x3 : n < 97 := by omega
    clear e h h2
    cases first
    all_goals
      go_enter Try.func48, Try.ntmps48
      go_wp2
      go_ret
      first | exact ⟨rfl, rfl⟩ | exact ⟨ret_bool (by simp; omega), rfl⟩
  · have e : letB n first = false := by cases first <;> simp [letB, kindB] <;> omega
    rw [e]
    have n95 : ((n : Int) == 95) = false := by rw [beq_eq_false_iff_ne]; omega
    have x0 : 57 < n := by omega
    have x1 : 48 ≤ n := by omega
    have x2 : n < 65 := by omega
    have x3 : n < 97 := by omega
    clear e h h2
    cases first
    all_goals
      go_enter Try.func48, Try.ntmps48
      go_wp2
      go_ret
      first | exact ⟨rfl, rfl⟩ | exact ⟨ret_bool (by simp; omega), rfl⟩
  · have e : letB n first = true := by cases first <;> simp [letB, kindB] <;> omega
    rw [e]
    have n95 : ((n : Int) == 95) = false := by rw [beq_eq_false_iff_ne]; omega
    have x0 : 65 ≤ n := by omega
    have x1 : n ≤ 90 := by omega
    clear e h h2
    cases first
    all_goals
      go_enter Try.func48, Try.ntmps48
      go_wp2
      go_ret
      first | exact ⟨rfl, rfl⟩ | exact ⟨ret_bool (by simp; omega), rfl⟩
  · have e : letB n first = false := by cases first <;> simp [letB, kindB] <;> omega
    rw [e]
    have n95 : ((n : Int) == 95) = false := by rw [beq_eq_false_iff_ne]; omega
    have x0 : 65 ≤ n := by omega
    have x1 : 90 < n := by omega
    have x2 : n < 97 := by omega
    have x3 : 48 ≤ n := by omega
    have x4 : 57 < n := by omega
    clear e h h2
    cases first
    all_goals
      go_enter Try.func48, Try.ntmps48
      go_wp2
      go_ret
      first | exact ⟨rfl, rfl⟩ | exact ⟨ret_bool (by simp; omega), rfl⟩
  · have e : letB n first = true := by cases first <;> simp [letB, kindB] <;> omega
    rw [e]
    have n95 : ((n : Int) == 95) = true := by rw [beq_iff_eq]; omega
    have x0 : 65 ≤ n := by omega
    have x1 : 90 < n := by omega
    have x2 : n < 97 := by omega
    clear e h
    cases first
    all_goals
      go_enter Try.func48, Try.ntmps48
      go_wp2
      go_ret
      first | exact ⟨rfl, rfl⟩ | exact ⟨ret_bool (by simp; omega), rfl⟩
  · have e : letB n first = false := by cases first <;> simp [letB, kindB] <;> omega
    rw [e]
    have n95 : ((n : Int) == 95) = false := by rw [beq_eq_false_iff_ne]; omega
    have x0 : 65 ≤ n := by omega
    have x1 : 90 < n := by omega
    have x2 : n < 97 := by omega
    have x3 : 48 ≤ n := by omega
    have x4 : 57 < n := by omega
    clear e h
    cases first
    all_goals
      go_enter Try.func48, Try.ntmps48
      go_wp2
      go_ret
      first | exact ⟨rfl, rfl⟩ | exact ⟨ret_bool (by simp; omega), rfl⟩
  · have e : letB n first = true := by cases first <;> simp [letB, kindB] <;> omega
    rw [e]
    have n95 : ((n : Int) == 95) = false := by rw [beq_eq_false_iff_ne]; omega
    have x0 : 65 ≤ n := by omega
    have x1 : 90 < n := by omega
    have x2 : 97 ≤ n := by omega
    have x3 : n ≤ 122 := by omega
    clear e h h2
    cases first
    all_goals
      go_enter Try.func48, Try.ntmps48
      go_wp2
      go_ret
      first | exact ⟨rfl, rfl⟩ | exact ⟨ret_bool (by simp; omega), rfl⟩
  · have e : letB n first = false := by cases first <;> simp [letB, kindB] <;> omega
    rw [e]
    have n95 : ((n : Int) == 95) = false := by rw [beq_eq_false_iff_ne]; omega
    have x0 : 65 ≤ n := by omega
    have x1 : 90 < n := by omega
    have x2 : 97 ≤ n := by omega
    have x3 : 122 < n := by omega
    have x4 : 48 ≤ n := by omega
    have x5 : 57 < n := by omega
    clear e h
    cases first
    all_goals
      go_enter Try.func48, Try.ntmps48
      go_wp2
      go_ret
      first | exact ⟨rfl, rfl⟩ | exact ⟨ret_bool (by simp; omega), rfl⟩
end Go.Proofs.Ytimmfmgnjpcdoaa
namespace Go.Proofs.Ytimmfmgnjpcdoaa
open Go.RowKit
set_option linter.unusedVariables false
set_option linter.unusedSimpArgs false

/-- are the bytes from k on a name's? -/
def letsK (s : ByteArray) (k : Nat) : Bool := (s.data.toList.drop k).all (goodK [0, 1, 2])
theorem let_good (c : UInt8) : letB c.toNat false = goodK [0, 1, 2] c := by
  unfold letB goodK
  simp only [List.any_cons, List.any_nil, Bool.or_false, Bool.not_false, Bool.true_and]
  have : kindB 2 c.toNat = decide (c.toNat = 95) := rfl
  rw [this]
  cases kindB 0 c.toNat <;> cases kindB 1 c.toNat <;> cases decide (c.toNat = 95) <;> rfl
theorem let_first (c : UInt8) : letB c.toNat true = (goodK [0, 1, 2] c && !goodK [0] c) := by
  have h : ∀ b : Fin 256, letB (UInt8.ofNat b.1).toNat true = (goodK [0, 1, 2] (UInt8.ofNat b.1) && !goodK [0] (UInt8.ofNat b.1)) := by decide +kernel
  have := h ⟨c.toNat, c.toNat_lt⟩
  rwa [show UInt8.ofNat c.toNat = c by simp] at this
theorem name_first {s : ByteArray} (h : 0 < s.size) (h2 : s.size ≤ 32) : nameB s = (letB s[0].toNat true && letsK s 1) := by
  obtain ⟨r, hr⟩ := bytes_at0 s h
  unfold nameB letsK
  rw [decide_eq_true h, decide_eq_true h2, hr, List.head?_cons, Option.all_some, List.all_cons, List.drop_succ_cons, List.drop_zero, let_first]
  cases goodK [0] s[0] <;> cases goodK [0, 1, 2] s[0] <;> rfl
theorem lets_next {s : ByteArray} {k : Nat} (hk : k < s.size) : letsK s k = (letB s[k].toNat false && letsK s (k + 1)) := by
  unfold letsK
  rw [drop_cons s k hk, List.all_cons, let_good]
theorem lets_end (s : ByteArray) : letsK s s.size = true := by
  unfold letsK
  rw [List.drop_eq_nil_of_le (by rw [size_toList]; exact Nat.le_refl _)]
  rfl
set_option maxRecDepth 100000 in
set_option maxHeartbeats 800000 in
theorem refName_any (s : ByteArray) (W : World) :
    Calls Try.prog 29 #[.string s] W fun e w' => e = .returned (.bool (nameB s)) ∧ W = w' := by
  by_cases h0 : s.size = 0
  · rw [nameB_none h0]
    have hI : (s.size : Int) < 1 := by omega
    have hI2 : s.size < 1 := by omega
    have hI3 : decide ((s.size : Int) < 1) = true := decide_eq_true hI
    clear h0
    go_enter Try.func29, Try.ntmps29
    go_wp2
    go_ret
    exact ⟨rfl, rfl⟩
  · by_cases h32 : 32 < s.size
    · rw [nameB_long h32]
      have hI : (32 : Int) < (s.size : Int) := by omega
      have hI1 : ¬ (s.size : Int) < 1 := by omega
      have hI2 : ¬ s.size < 1 := by omega
      go_enter Try.func29, Try.ntmps29
      go_wp2
      go_ret
      exact ⟨rfl, rfl⟩
    · have hp : 0 < s.size := by omega
      have hle : s.size ≤ 32 := by omega
      have hnm := name_first hp hle
      obtain ⟨T, hT⟩ : ∃ T, nameB s = T := ⟨_, rfl⟩
      rw [hT] at hnm ⊢
      have HN := Lib.hid hnm
      have hI1 : ¬ (s.size : Int) < 1 := by omega
      have hI2 : ¬ s.size < 1 := by omega
      have hI3 : ¬ (32 : Int) < (s.size : Int) := by omega
      have LT := Lib.hid (fun n hn b w => refLet_any n hn b w)
      clear h0 h32 hnm hT
      go_enter Try.func29, Try.ntmps29
      go_wp2
      go_loopw [3] (fun iv wr => ∃ k : Nat, k ≤ s.size ∧ iv = .int .i64 k ∧ Hid (0 < k → letsK s k = T) ∧ wr = W) (fun iv _ => s.size - (intOf iv).toNat)
      case atStart => exact ⟨0, Nat.zero_le _, rfl, Lib.hid (fun h => by omega), rfl⟩
      case round =>
        obtain ⟨k, hk, rfl, HK, rfl⟩ := hrel
        by_cases hlt : k < s.size
        · have hltI : (k : Int) < (s.size : Int) := by omega
          obtain ⟨fb, hfb, hfbI⟩ : ∃ fb : Bool, fb = decide (k = 0) ∧ ((k : Int) == 0) = fb := ⟨_, rfl, by rw [Bool.eq_iff_iff, beq_iff_eq, decide_eq_true_iff]; omega⟩
          have hstep : T = (letB s[k].toNat fb && letsK s (k + 1)) := by
            by_cases hk0 : k = 0
            · subst hk0
              rw [hfb, HN.out]
              rfl
            · rw [hfb, decide_eq_false hk0, ← HK.out (by omega), lets_next hlt]
          obtain ⟨c, hc⟩ : ∃ c, s[k] = c := ⟨_, rfl⟩
          rw [hc] at hstep
          have hn256 := c.toNat_lt
          obtain ⟨n, hn⟩ : ∃ n, c.toNat = n := ⟨_, rfl⟩
          rw [hn] at hstep hn256
          have L1 := fun w => LT.out n hn256 fb w
          obtain ⟨y, hy⟩ : ∃ y, letB n fb = y := ⟨_, rfl⟩
          rw [hy] at hstep
          simp only [hy] at L1
          replace L1 := Lib.hid L1
          clear hy hfb
          cases y with
          | true =>
            have HG := Lib.hid (fun (_ : 0 < k + 1) => show letsK s (k + 1) = T from hstep.symm)
            clear hstep
            go_wp2_with fail
            refine (L1.out _).mono ?_
            rintro e w ⟨rfl, rfl⟩
            go_wp2
            go_round
            case rel => exact ⟨k + 1, by omega, by go_num, HG, by first | rfl | trivial⟩
            case measure => simp [intOf]; omega
          | false =>
            have E := Lib.hid (show T = false from hstep)
            clear hstep
            go_wp2_with fail
            refine (L1.out _).mono ?_
            rintro e w ⟨rfl, rfl⟩
            go_wp2
            go_ret
            exact ⟨ret_bool E.out.symm, rfl⟩
        · obtain rfl : k = s.size := by omega
          have E := Lib.hid (show T = true from by rw [← HK.out hp, lets_end])
          go_wp2
          go_ret
          exact ⟨ret_bool E.out.symm, rfl⟩
end Go.Proofs.Ytimmfmgnjpcdoaa
namespace Go.Proofs.Ytimmfmgnjpcdoaa
open Go.RowKit
set_option linter.unusedVariables false
set_option linter.unusedSimpArgs false

end Go.Proofs.Ytimmfmgnjpcdoaa
