/- The document's own spans and sizes. -/
import Derived.Test.YtehhmejpfglimaaDoorUnitTell
import Derived.Test.YtehhmejpfglimaaDoorRefText
namespace Go.Proofs.YtehhmejpfglimaaDoor
open Go.RowKit
set_option linter.unusedVariables false

def durF : List Int := [3600000000000, 60000000000, 1000000000, 1000000, 1000, 1]
def sizF : List Int := [1073741824, 1048576, 1024, 1]
def durN : List ByteArray := [⟨#[104]⟩, ⟨#[109]⟩, ⟨#[115]⟩, ⟨#[109, 115]⟩, ⟨#[117, 115]⟩, ⟨#[110, 115]⟩]
def sizN : List ByteArray := [⟨#[71, 66]⟩, ⟨#[77, 66]⟩, ⟨#[75, 66]⟩, ⟨#[66]⟩]
theorem texts_lit (w : World) (t : TypeId) (ss : List ByteArray) (g : Nat) (hg : g = w.heap.size) : Texts (w.alloc (.cells (ss.map Value.string).toArray t)) (some ⟨g, 0, none⟩) ss.length ss := by
  subst hg
  refine ⟨rfl, fun hn => ⟨_, _, rfl, by simp, fun j hj => ?_⟩⟩
  rw [Nat.zero_add, (Blk.new w t _).cell j]
  simp [hj, List.getD_eq_getElem?_getD]
theorem factors_any (W : World) :
    (Calls Tryd.prog 27 #[.bool false] W fun e w' => ∃ g, e = .returned (.slice (some ⟨g, 0, none⟩) 6 6) ∧ W.heap.size ≤ g ∧ Ints .i64 w' (some ⟨g, 0, none⟩) 6 durF ∧ Below W.heap.size W w') ∧
    (Calls Tryd.prog 27 #[.bool true] W fun e w' => ∃ g, e = .returned (.slice (some ⟨g, 0, none⟩) 4 4) ∧ W.heap.size ≤ g ∧ Ints .i64 w' (some ⟨g, 0, none⟩) 4 sizF ∧ Below W.heap.size W w') := by
  constructor
  · go_enter Tryd.func27, Tryd.ntmps27
    go_wp2
    go_ret
    exact ⟨_, rfl, Nat.le_refl _, ints_new .i64 W 2 durF (by decide) _ rfl, (Below.refl _ _).alloc (Nat.le_refl _) _⟩
  · go_enter Tryd.func27, Tryd.ntmps27
    go_wp2
    go_ret
    exact ⟨_, rfl, Nat.le_refl _, ints_new .i64 W 2 sizF (by decide) _ rfl, (Below.refl _ _).alloc (Nat.le_refl _) _⟩
theorem names_any (W : World) :
    (Calls Tryd.prog 32 #[.bool false] W fun e w' => ∃ g, e = .returned (.slice (some ⟨g, 0, none⟩) 6 6) ∧ W.heap.size ≤ g ∧ Texts w' (some ⟨g, 0, none⟩) 6 durN ∧ Below W.heap.size W w') ∧
    (Calls Tryd.prog 32 #[.bool true] W fun e w' => ∃ g, e = .returned (.slice (some ⟨g, 0, none⟩) 4 4) ∧ W.heap.size ≤ g ∧ Texts w' (some ⟨g, 0, none⟩) 4 sizN ∧ Below W.heap.size W w') := by
  constructor
  · go_enter Tryd.func32, Tryd.ntmps32
    go_wp2
    go_ret
    exact ⟨_, rfl, Nat.le_refl _, texts_lit W 9 durN _ rfl, (Below.refl _ _).alloc (Nat.le_refl _) _⟩
  · go_enter Tryd.func32, Tryd.ntmps32
    go_wp2
    go_ret
    exact ⟨_, rfl, Nat.le_refl _, texts_lit W 9 sizN _ rfl, (Below.refl _ _).alloc (Nat.le_refl _) _⟩
theorem dur_lists : ∀ j, j < 6 → durF.getD j 0 = (durU.getD j ([], 0)).2 ∧ durN.getD j .empty = txt (durU.getD j ([], 0)).1 := by
  intro j hj
  rcases (by omega : j = 0 ∨ j = 1 ∨ j = 2 ∨ j = 3 ∨ j = 4 ∨ j = 5) with rfl | rfl | rfl | rfl | rfl | rfl <;> exact ⟨rfl, rfl⟩
theorem siz_lists : ∀ j, j < 4 → sizF.getD j 0 = (sizU.getD j ([], 0)).2 ∧ sizN.getD j .empty = txt (sizU.getD j ([], 0)).1 := by
  intro j hj
  rcases (by omega : j = 0 ∨ j = 1 ∨ j = 2 ∨ j = 3) with rfl | rfl | rfl | rfl <;> exact ⟨rfl, rfl⟩

set_option maxRecDepth 100000 in
set_option maxHeartbeats 1600000 in
theorem refSpan_any (n : Int) (h0 : -9223372036854775808 ≤ n) (h1 : n ≤ 9223372036854775807) (W : World) :
    Calls Tryd.prog 17 #[.int .i64 n] W fun e w' => e = .returned (.tuple #[.string (if n < 0 then ⟨#[]⟩ else txt (spanB n)), .bool (decide (0 ≤ n))]) ∧ Below W.heap.size W w' := by
  by_cases hneg : n < 0
  · rw [if_pos hneg, decide_eq_false (by omega)]
    go_enter Tryd.func17, Tryd.ntmps17
    go_wp2
    go_ret2
    exact ⟨rfl, Below.refl _ _⟩
  · rw [if_neg hneg, decide_eq_true (by omega)]
    have hn' : 0 ≤ n := by omega
    by_cases hn : n = 0
    · subst hn
      have e : txt (spanB 0) = ⟨#[48, 115]⟩ := by rw [show spanB 0 = [48, 115] by unfold spanB; rw [if_pos rfl]]; rfl
      rw [e]
      clear hneg
      go_enter Tryd.func17, Tryd.ntmps17
      go_wp2
      go_ret2
      exact ⟨rfl, Below.refl _ _⟩
    · have hsp : spanB n = spanL durU n := by unfold spanB; rw [if_neg hn]
      have gn : (n == 0) = false := by rw [beq_eq_false_iff_ne]; exact hn
      rw [hsp]
      obtain ⟨T, hT⟩ : ∃ x, spanL durU n = x := ⟨_, rfl⟩
      have HT := Lib.hid hT
      rw [hT]
      have HF := Lib.hid (fun w => (factors_any w).1)
      have HN := Lib.hid (fun w => (names_any w).1)
      clear hsp hT hn hneg
      go_enter Tryd.func17, Tryd.ntmps17
      go_wp2_with fail
      refine (HF.out _).mono ?_
      rintro e w1 ⟨g, rfl, hg, hF, hb1⟩
      go_wp2_with fail
      refine (HN.out _).mono ?_
      rintro e w2 ⟨g2, rfl, hg2, hN, hb2⟩
      have hF2 := hF.below hb2
      have hb := hop hb1 (Nat.le_refl _) hb2
      have HF2 := Lib.hid hF2
      have HN2 := Lib.hid hN
      have HB := Lib.hid hb
      clear hF hF2 hN hb hb1 hb2 hg hg2
      go_wp2
      go_loopw [0, 4, 7] (fun nv tv iv wr => ∃ (j : Nat) (m : Int) (t : ByteArray), j ≤ 6 ∧ iv = .int .i64 j ∧ nv = .int .i64 m ∧ tv = .string t ∧ 0 ≤ m ∧ m ≤ 9223372036854775807 ∧ t.size ≤ j * 30 ∧ Hid (t.data.toList ++ spanL (durU.drop j) m = T) ∧ Below w2.heap.size w2 wr) (fun _ _ iv _ => 6 - (intOf iv).toNat)
      case atStart => exact ⟨0, n, ⟨#[]⟩, by omega, rfl, rfl, rfl, hn', h1, by decide, Lib.hid (by rw [List.drop_zero]; exact (List.nil_append _).trans HT.out), Below.refl _ _⟩
      case round =>
        obtain ⟨j, m, t, hj, rfl, rfl, rfl, m0, m1, hts, HC, hb⟩ := hrel
        have hsz := hb.size
        by_cases hj6 : j < 6
        · have hFz := HF2.out.below hb
          have hNz := HN2.out.below hb
          obtain ⟨b1, o1, e1, hlt1, hc1⟩ := hFz.2.2 (by decide)
          injection e1 with e1
          injection e1 with e1 e1'
          subst e1 e1'
          obtain ⟨b2, o2, e2, hlt2, hc2⟩ := hNz.2 (by decide)
          injection e2 with e2
          injection e2 with e2 e2'
          subst e2 e2'
          have c1 := hc1 j hj6
          have c0 := hc2 j hj6
          rw [Nat.zero_add, (dur_lists j hj6).1] at c1
          rw [Nat.zero_add, (dur_lists j hj6).2] at c0
          obtain ⟨u1, u2, u3⟩ := unit_ok j hj6
          have hdr : durU.drop j = durU.getD j ([], 0) :: durU.drop (j + 1) := by
            rw [List.drop_eq_getElem_cons (show j < durU.length from hj6), List.getD_eq_getElem?_getD, List.getElem?_eq_getElem (show j < durU.length from hj6)]
            rfl
          have hsp : spanL (durU.drop j) m = (if (durU.getD j ([], 0)).2 ≤ m then Lib.itoa (m.tdiv (durU.getD j ([], 0)).2) ++ (durU.getD j ([], 0)).1 else []) ++ spanL (durU.drop (j + 1)) (m.tmod (durU.getD j ([], 0)).2) := by rw [hdr, spanL]
          obtain ⟨⟨nm, f⟩, hu⟩ : ∃ u, durU.getD j ([], 0) = u := ⟨_, rfl⟩
          rw [hu] at c0 c1 u1 u2 u3 hsp
          dsimp only at c0 c1 u1 u2 u3 hsp
          have hns := txt_size nm
          obtain ⟨x, hx⟩ : ∃ x, txt nm = x := ⟨_, rfl⟩
          have hxl : x.data.toList = nm := by rw [← hx, txt_list]
          rw [hx] at c0 hns
          obtain ⟨d0, d1, r0, r1⟩ := tdiv_ok m f m0 m1 u1
          have hmod0 : m < f → m.tmod f = m := fun h => by rw [Int.tmod_eq_emod_of_nonneg m0]; exact Int.emod_eq_of_lt m0 h
          obtain ⟨q, hq⟩ : ∃ q, m.tdiv f = q := ⟨_, rfl⟩
          obtain ⟨r, hr⟩ : ∃ r, m.tmod f = r := ⟨_, rfl⟩
          rw [hq] at hsp d0 d1
          rw [hr] at hsp r0 r1 hmod0
          have hq2 : IntKind.i64.wrap q = q := by rw [IntKind.wrap_i64]; omega
          have hq3 : wrap64 q = q := wrap_in q ⟨by omega, by omega⟩
          have hf0 : ¬ f = 0 := by omega
          have HSP := Lib.hid hsp
          have HXL := Lib.hid hxl
          have HMOD := Lib.hid hmod0
          have hjI : (j : Int) < 6 := by omega
          have hj0 : (0 : Int) ≤ (j : Int) := by omega
          clear hdr hu hx hsp hxl hc1 hc2 hFz hNz hmod0
          by_cases hfm : f ≤ m
          · have TX := Lib.hid (fun w => refText_any q (by omega) (by omega) w)
            have hqs := itoaS_size q (by omega) (by omega)
            obtain ⟨y, hy⟩ : ∃ y, itoaS q = y := ⟨_, rfl⟩
            simp only [hy] at TX hqs
            have HY := Lib.hid hy
            have gg1 : t.size + y.size ≤ 300 := by omega
            have gg2 : t.size + y.size + x.size ≤ 300 := by omega
            have e1 : ¬ 9223372036854775807 < t.size + y.size := by omega
            have e2 : ¬ 9223372036854775807 < t.size + y.size + x.size := by omega
            have gg3 : (t ++ y ++ x).size ≤ (j + 1) * 30 := by rw [ByteArray.size_append, ByteArray.size_append]; omega
            have hnx := Lib.hid (show (t ++ y ++ x).data.toList ++ spanL (durU.drop (j + 1)) r = T by
              rw [← HC.out, HSP.out, if_pos hfm, text_joined, text_joined, HXL.out, ← HY.out, itoaS_list]
              simp)
            clear hy hns
            go_wp2
            go_region_held3 (fun w' => w'.cell? ⟨g2, j, none⟩ = some (.string x) ∧ w'.cell? ⟨g, j, none⟩ = some (.int .i64 f)) (first | go_keep | (rw [hb3.cell (by simpa using hlt2), hb3.cell (by simpa using hlt1)]; exact ⟨c0, c1⟩))
              (first | (go_at_call 22; refine (TX.out _).mono ?_; rintro e w3 ⟨rfl, hb3⟩))
            rename_i hHeld
            have hb4 : Below w2.heap.size w2 w3 := (below_drewN hb 1).trans (hb3.mono (by simpa using hsz))
            obtain ⟨k1, k2⟩ := hHeld
            have HB4 := Lib.hid hb4
            clear hb4 hb3 hb
            go_wp2
            go_round
            case rel => exact ⟨j + 1, r, _, by omega, by go_num, rfl, rfl, r0, by omega, gg3, hnx, HB4.out⟩
            case measure => simp [intOf]; omega
          · have hfm' : m < f := by omega
            have hrm := HMOD.out hfm'
            have hnx := Lib.hid (show t.data.toList ++ spanL (durU.drop (j + 1)) m = T by
              rw [← HC.out, HSP.out, if_neg hfm, List.nil_append, hrm])
            clear hns hfm hrm
            go_wp2
            go_round
            case rel => exact ⟨j + 1, m, t, by omega, by go_num, rfl, rfl, m0, m1, by omega, hnx, hb⟩
            case measure => simp [intOf]; omega
        · obtain rfl : j = 6 := by omega
          have E := Lib.hid (show t = txt T from text_ext1 (by
            rw [txt_list, ← HC.out, show durU.drop 6 = [] from rfl, spanL, List.append_nil]))
          have hfin := hop HB.out (Nat.le_refl _) hb
          go_wp2
          go_ret2
          exact ⟨by rw [← E.out]; rfl, hfin⟩

set_option maxRecDepth 100000 in
set_option maxHeartbeats 1600000 in
theorem refSize_any2 (n : Int) (h0 : -9223372036854775808 ≤ n) (h1 : n ≤ 9223372036854775807) (W : World) :
    Calls Tryd.prog 19 #[.int .i64 n] W fun e w' => e = .returned (.tuple #[.string (if n < 0 then ⟨#[]⟩ else txt (sizeB n)), .bool (decide (0 ≤ n))]) ∧ Below W.heap.size W w' := by
  by_cases hneg : n < 0
  · rw [if_pos hneg, decide_eq_false (by omega)]
    go_enter Tryd.func19, Tryd.ntmps19
    go_wp2
    go_ret2
    exact ⟨rfl, Below.refl _ _⟩
  · rw [if_neg hneg, decide_eq_true (by omega)]
    have hn' : 0 ≤ n := by omega
    by_cases hn : n = 0
    · subst hn
      have e : txt (sizeB 0) = ⟨#[48, 66]⟩ := by rw [show sizeB 0 = [48, 66] by unfold sizeB; rw [if_pos rfl]]; rfl
      rw [e]
      clear hneg
      go_enter Tryd.func19, Tryd.ntmps19
      go_wp2
      go_ret2
      exact ⟨rfl, Below.refl _ _⟩
    · have hsp : sizeB n = sizeL sizU n := by unfold sizeB; rw [if_neg hn]
      have gn : (n == 0) = false := by rw [beq_eq_false_iff_ne]; exact hn
      rw [hsp]
      obtain ⟨T, hT⟩ : ∃ x, sizeL sizU n = x := ⟨_, rfl⟩
      have HT := Lib.hid hT
      rw [hT]
      have HF := Lib.hid (fun w => (factors_any w).2)
      have HN := Lib.hid (fun w => (names_any w).2)
      clear hsp hT hn hneg
      go_enter Tryd.func19, Tryd.ntmps19
      go_wp2_with fail
      refine (HF.out _).mono ?_
      rintro e w1 ⟨g, rfl, hg, hF, hb1⟩
      go_wp2_with fail
      refine (HN.out _).mono ?_
      rintro e w2 ⟨g2, rfl, hg2, hN, hb2⟩
      have hF2 := hF.below hb2
      have hb := hop hb1 (Nat.le_refl _) hb2
      have HF2 := Lib.hid hF2
      have HN2 := Lib.hid hN
      have HB := Lib.hid hb
      clear hF hF2 hN hb hb1 hb2 hg hg2
      go_wp2
      go_loopw [6] (fun iv wr => ∃ (j : Nat), j ≤ 4 ∧ iv = .int .i64 j ∧ Hid (sizeL (sizU.drop j) n = T) ∧ Hid (j = 4 → False) ∧ Below w2.heap.size w2 wr) (fun iv _ => 4 - (intOf iv).toNat)
      case atStart => exact ⟨0, by omega, rfl, Lib.hid (by rw [List.drop_zero]; exact HT.out), Lib.hid (fun h => by cases h), Below.refl _ _⟩
      case round =>
        obtain ⟨j, hj, rfl, HC, H4, hb⟩ := hrel
        have hsz := hb.size
        have hj4 : j < 4 := by
          rcases Nat.lt_or_ge j 4 with h | h
          · exact h
          · exact absurd (H4.out (by omega)) id
        have hFz := HF2.out.below hb
        have hNz := HN2.out.below hb
        obtain ⟨b1, o1, e1, hlt1, hc1⟩ := hFz.2.2 (by decide)
        injection e1 with e1
        injection e1 with e1 e1'
        subst e1 e1'
        obtain ⟨b2, o2, e2, hlt2, hc2⟩ := hNz.2 (by decide)
        injection e2 with e2
        injection e2 with e2 e2'
        subst e2 e2'
        have c1 := hc1 j hj4
        have c0 := hc2 j hj4
        rw [Nat.zero_add, (siz_lists j hj4).1] at c1
        rw [Nat.zero_add, (siz_lists j hj4).2] at c0
        obtain ⟨u1, u2, u3⟩ := unit_ok2 j hj4
        have hdr : sizU.drop j = sizU.getD j ([], 0) :: sizU.drop (j + 1) := by
          rw [List.drop_eq_getElem_cons (show j < sizU.length from hj4), List.getD_eq_getElem?_getD, List.getElem?_eq_getElem (show j < sizU.length from hj4)]
          rfl
        have hsp : sizeL (sizU.drop j) n = if n.tmod (sizU.getD j ([], 0)).2 = 0 then Lib.itoa (n.tdiv (sizU.getD j ([], 0)).2) ++ (sizU.getD j ([], 0)).1 else sizeL (sizU.drop (j + 1)) n := by rw [hdr, sizeL]
        have hlast : j = 3 → (sizU.getD j ([], 0)).2 = 1 := by rintro rfl; rfl
        obtain ⟨⟨nm, f⟩, hu⟩ : ∃ u, sizU.getD j ([], 0) = u := ⟨_, rfl⟩
        rw [hu] at c0 c1 u1 u2 u3 hsp hlast
        dsimp only at c0 c1 u1 u2 u3 hsp hlast
        have hns := txt_size nm
        obtain ⟨x, hx⟩ : ∃ x, txt nm = x := ⟨_, rfl⟩
        have hxl : x.data.toList = nm := by rw [← hx, txt_list]
        rw [hx] at c0 hns
        obtain ⟨d0, d1, r0, r1⟩ := tdiv_ok n f hn' h1 u1
        have hr3 : j = 3 → n.tmod f = 0 := fun h => by rw [hlast h]; exact Int.tmod_one n
        obtain ⟨q, hq⟩ : ∃ q, n.tdiv f = q := ⟨_, rfl⟩
        obtain ⟨r, hr⟩ : ∃ r, n.tmod f = r := ⟨_, rfl⟩
        rw [hq] at hsp d0 d1
        rw [hr] at hsp r0 r1 hr3
        have hq2 : IntKind.i64.wrap q = q := by rw [IntKind.wrap_i64]; omega
        have hq3 : wrap64 q = q := wrap_in q ⟨by omega, by omega⟩
        have hf0 : ¬ f = 0 := by omega
        have HSP := Lib.hid hsp
        have HXL := Lib.hid hxl
        have HR3 := Lib.hid hr3
        have hjI : (j : Int) < 4 := by omega
        have hj0 : (0 : Int) ≤ (j : Int) := by omega
        clear hdr hu hx hsp hxl hc1 hc2 hFz hNz hr3 hlast
        by_cases hr0 : r = 0
        · have gr : (r == 0) = true := by rw [hr0]; rfl
          have TX := Lib.hid (fun w => refText_any q (by omega) (by omega) w)
          have hqs := itoaS_size q (by omega) (by omega)
          obtain ⟨y, hy⟩ : ∃ y, itoaS q = y := ⟨_, rfl⟩
          simp only [hy] at TX hqs
          have gg1 : y.size + x.size ≤ 300 := by omega
          have e1 : ¬ 9223372036854775807 < y.size + x.size := by omega
          have E := Lib.hid (show y ++ x = txt T from text_ext1 (by
            rw [txt_list, ← HC.out, HSP.out, if_pos hr0, text_joined, HXL.out, ← hy, itoaS_list]))
          clear hy hns hr0
          go_wp2
          go_region_held3 (fun w' => w'.cell? ⟨g2, j, none⟩ = some (.string x) ∧ w'.cell? ⟨g, j, none⟩ = some (.int .i64 f)) (first | go_keep | (rw [hb3.cell (by simpa using hlt2), hb3.cell (by simpa using hlt1)]; exact ⟨c0, c1⟩))
            (first | (go_at_call 22; refine (TX.out _).mono ?_; rintro e w3 ⟨rfl, hb3⟩))
          have hb4 : Below w2.heap.size w2 w3 := (below_drewN hb 1).trans (hb3.mono (by simpa using hsz))
          have hfin := hop HB.out (Nat.le_refl _) hb4
          go_wp2
          go_ret2
          exact ⟨by rw [← E.out]; rfl, hfin⟩
        · have gr : (r == 0) = false := by rw [beq_eq_false_iff_ne]; exact hr0
          have hnx := Lib.hid (show sizeL (sizU.drop (j + 1)) n = T by rw [← HC.out, HSP.out, if_neg hr0])
          have hn3 := Lib.hid (show j + 1 = 4 → False from fun h => hr0 (HR3.out (by omega)))
          clear hns hr0
          go_wp2
          go_round
          case rel => exact ⟨j + 1, by omega, by go_num, hnx, hn3, hb⟩
          case measure => simp [intOf]; omega
end Go.Proofs.YtehhmejpfglimaaDoor
