/- The walk of the law UnitSizes: what Size tells is the number by the greatest unit that divides it, and that unit's name. -/
import Derived.Test.YtehhmejpfglimaaDoorUnitLong
import Derived.Test.YtehhmejpfglimaaDoorRefUnit
namespace Go.Proofs.YtehhmejpfglimaaDoor
open Go.RowKit
set_option linter.unusedVariables false

def upN : List ByteArray := [⟨#[66]⟩, ⟨#[75, 66]⟩, ⟨#[77, 66]⟩, ⟨#[71, 66]⟩]
def upK (k : Nat) : Int := [1, 1024, 1048576, 1073741824].getD k 0
theorem sizes_told (m : Int) (k : Nat) (hk : k < 4) (h1 : 1 ≤ m) (h2 : m ≤ 65536) (h : m % 1024 ≠ 0 ∨ k = 3) : sizeB (m * upK k) = (itoaS m ++ upN.getD k .empty).data.toList := by
  have hl : (itoaS m ++ upN.getD k .empty).data.toList = Lib.itoa m ++ (upN.getD k .empty).data.toList := by rw [text_joined, itoaS_list]
  rw [hl]
  unfold sizeB
  rcases (by omega : k = 0 ∨ k = 1 ∨ k = 2 ∨ k = 3) with rfl | rfl | rfl | rfl
  · show (if m * 1 = 0 then _ else sizeL ((_, (1073741824 : Int)) :: (_, (1048576 : Int)) :: (_, (1024 : Int)) :: (_, (1 : Int)) :: []) (m * 1)) = _
    have e0 : m * 1 = m := Int.mul_one m
    rw [e0, if_neg (by omega)]
    rw [sizeL, if_neg (by rw [Int.tmod_eq_emod_of_nonneg (by omega)]; show ¬ m % 1073741824 = 0; omega), sizeL, if_neg (by rw [Int.tmod_eq_emod_of_nonneg (by omega)]; show ¬ m % 1048576 = 0; omega), sizeL, if_neg (by rw [Int.tmod_eq_emod_of_nonneg (by omega)]; show ¬ m % 1024 = 0; omega), sizeL, if_pos (Int.tmod_one m)]
    rw [show m.tdiv 1 = m from Int.tdiv_one m]
    rfl
  · show (if m * 1024 = 0 then _ else sizeL ((_, (1073741824 : Int)) :: (_, (1048576 : Int)) :: (_, (1024 : Int)) :: _ :: []) (m * 1024)) = _
    rw [if_neg (by omega)]
    rw [sizeL, if_neg (by rw [Int.tmod_eq_emod_of_nonneg (by omega)]; show ¬ m * 1024 % 1073741824 = 0; omega), sizeL, if_neg (by rw [Int.tmod_eq_emod_of_nonneg (by omega)]; show ¬ m * 1024 % 1048576 = 0; omega), sizeL, if_pos (by rw [Int.tmod_eq_emod_of_nonneg (by omega)]; show m * 1024 % 1024 = 0; omega)]
    rw [show (m * 1024).tdiv 1024 = m by rw [Int.tdiv_eq_ediv_of_nonneg (by omega)]; omega]
    rfl
  · show (if m * 1048576 = 0 then _ else sizeL ((_, (1073741824 : Int)) :: (_, (1048576 : Int)) :: _ :: _ :: []) (m * 1048576)) = _
    rw [if_neg (by omega)]
    rw [sizeL, if_neg (by rw [Int.tmod_eq_emod_of_nonneg (by omega)]; show ¬ m * 1048576 % 1073741824 = 0; omega), sizeL, if_pos (by rw [Int.tmod_eq_emod_of_nonneg (by omega)]; show m * 1048576 % 1048576 = 0; omega)]
    rw [show (m * 1048576).tdiv 1048576 = m by rw [Int.tdiv_eq_ediv_of_nonneg (by omega)]; omega]
    rfl
  · show (if m * 1073741824 = 0 then _ else sizeL ((_, (1073741824 : Int)) :: _ :: _ :: _ :: []) (m * 1073741824)) = _
    rw [if_neg (by omega)]
    rw [sizeL, if_pos (by rw [Int.tmod_eq_emod_of_nonneg (by omega)]; show m * 1073741824 % 1073741824 = 0; omega)]
    rw [show (m * 1073741824).tdiv 1073741824 = m by rw [Int.tdiv_eq_ediv_of_nonneg (by omega)]; omega]
    rfl
theorem upK_step (m : Int) (k : Nat) (hk : k < 3) (h : m % 1024 = 0) : (m / 1024) * upK (k + 1) = m * upK k := by
  rcases (by omega : k = 0 ∨ k = 1 ∨ k = 2) with rfl | rfl | rfl
  · show m / 1024 * 1024 = m * 1; omega
  · show m / 1024 * 1048576 = m * 1024; omega
  · show m / 1024 * 1073741824 = m * 1048576; omega
theorem upK_pow (k : Nat) (hk : k < 4) : upK k = 2 ^ (10 * k) := by
  rcases (by omega : k = 0 ∨ k = 1 ∨ k = 2 ∨ k = 3) with rfl | rfl | rfl | rfl <;> decide
theorem upN_len (k : Nat) (hk : k < 4) : (upN.getD k .empty).size ≤ 2 := by
  rcases (by omega : k = 0 ∨ k = 1 ∨ k = 2 ∨ k = 3) with rfl | rfl | rfl | rfl <;> decide

set_option maxRecDepth 100000 in
set_option maxHeartbeats 1600000 in
theorem unitSizes_walk {W : World} (n u : Int) (wn : (Lit.int .u16 n).wf = true) (wu : (Lit.int .u8 u).wf = true) (hl : LibIs W) :
    Calls Tryd.prog 9 #[.int .u16 n, .int .u8 u] W fun e w' => e = .returned (.bool true) ∧ Below W.heap.size W w' := by
  have h0 : W.heap.size ≤ W.heap.size := Nat.le_refl _
  obtain ⟨n0, n1⟩ := bdu16 wn
  obtain ⟨o0, o1⟩ := bdu8 wu
  have HX := Lib.hid (unitExamples_any W hl)
  obtain ⟨k, hk, hku⟩ : ∃ k : Nat, k < 4 ∧ u % 4 = (k : Int) := ⟨(u % 4).toNat, by omega, by omega⟩
  obtain ⟨m, hm⟩ : ∃ m : Int, n + 1 = m := ⟨_, rfl⟩
  have m1 : 1 ≤ m := by omega
  have m2 : m ≤ 65536 := by omega
  have hw1 : IntKind.i64.wrap (n + 1) = m := by rw [IntKind.wrap_i64]; omega
  have hkI : (k : Int) < 4 := by omega
  obtain ⟨N, hN⟩ : ∃ N, m * upK k = N := ⟨_, rfl⟩
  have hN0 : 0 ≤ N ∧ N ≤ 70368744177664 := by
    rw [← hN]
    rcases (by omega : k = 0 ∨ k = 1 ∨ k = 2 ∨ k = 3) with rfl | rfl | rfl | rfl
    · show 0 ≤ m * 1 ∧ m * 1 ≤ _; omega
    · show 0 ≤ m * 1024 ∧ m * 1024 ≤ _; omega
    · show 0 ≤ m * 1048576 ∧ m * 1048576 ≤ _; omega
    · show 0 ≤ m * 1073741824 ∧ m * 1073741824 ≤ _; omega
  have hw2 : wrap64 (m * 2 ^ (10 * k)) = N := by
    rw [← upK_pow k hk, hN]
    exact wrap_in N ⟨by omega, by omega⟩
  obtain ⟨T, hT⟩ : ∃ T, txt (sizeB N) = T := ⟨_, rfl⟩
  have A1 := fun w h => siz_some w h N (by omega) (by omega) T (by rw [← hT, txt_list])
  rw [← hw2] at A1
  replace A1 := Lib.hid A1
  have HT := Lib.hid hT
  have HN := Lib.hid hN
  have hmn : (m.toNat : Int) = m := by omega
  clear hT hN hw2 hN0
  go_enter Tryd.func9, Tryd.ntmps9
  go_wp2_with fail
  refine HX.out.mono ?_
  rintro e w ⟨rfl, hb⟩
  go_wp2_with fail
  have hsz := hb.size
  have HL := Lib.hid (texts_lit w 9 upN w.heap.size rfl)
  refine (A1.out _ (hl.below (hb.alloc hsz _))).mono ?_
  rintro e w2 ⟨rfl, hx⟩
  have HB := Lib.hid (hop (hb.alloc hsz _) h0 hx)
  have HL2 := Lib.hid (HL.out.below hx)
  have hgl : w.heap.size < w2.heap.size := by have := hx.size; simp at this; omega
  clear hx HL
  go_wp2
  go_loopw [7, 8] (fun kv mv wr => ∃ (j x : Nat), kv = .int .i64 j ∧ mv = .int .i64 x ∧ j < 4 ∧ 1 ≤ x ∧ x ≤ 65536 ∧ Hid ((x : Int) * upK j = N) ∧ Below w2.heap.size w2 wr) (fun kv _ _ => 4 - (intOf kv).toNat)
  case atStart => exact ⟨k, m.toNat, rfl, by rw [hmn], hk, by omega, by omega, by rw [hmn]; exact HN, Below.refl _ _⟩
  case round =>
    obtain ⟨j, x, rfl, rfl, hj, x1, x2, HC, hb2⟩ := hrel
    have hsz2 := hb2.size
    obtain ⟨r, hr⟩ : ∃ r, x % 1024 = r := ⟨_, rfl⟩
    obtain ⟨q, hq⟩ : ∃ r, x / 1024 = r := ⟨_, rfl⟩
    have i1 : (x : Int) % 1024 = (r : Int) := by omega
    have i2 : (x : Int) / 1024 = (q : Int) := by omega
    by_cases hgo : r = 0 ∧ j < 3
    · obtain ⟨hr0, hj3⟩ := hgo
      have hnx := Lib.hid (show (q : Int) * upK (j + 1) = N by rw [← HC.out, ← i2]; exact upK_step _ j hj3 (by omega))
      have q1 : 1 ≤ q := by omega
      have q2 : q ≤ 65536 := by omega
      have j3 : (j : Int) < 3 := by omega
      subst hr0
      clear hr hq
      go_wp2
      go_round
      case rel => exact ⟨j + 1, q, by go_num, rfl, by omega, q1, q2, hnx, hb2⟩
      case measure => simp [intOf]; omega
    · have E := Lib.hid (show T = itoaS (x : Int) ++ upN.getD j .empty by
        rw [← HT.out, ← HC.out]
        exact text_ext1 (by rw [txt_list]; exact sizes_told _ j hj (by omega) (by omega) (by omega)))
      have hLz := HL2.out.below hb2
      obtain ⟨b2, o2, e2, hlt2, hc2⟩ := hLz.2 (by decide)
      injection e2 with e2
      injection e2 with e2 e2'
      subst e2 e2'
      have c0 := hc2 j hj
      rw [Nat.zero_add] at c0
      have nl := upN_len j hj
      obtain ⟨nm, hnm⟩ : ∃ nm, upN.getD j .empty = nm := ⟨_, rfl⟩
      rw [hnm] at c0 nl E
      have LG := Lib.hid (fun w => long_any x (by omega) w)
      have ys := itoaS_size (x : Int) (by omega) (by omega)
      obtain ⟨y, hy⟩ : ∃ y, itoaS (x : Int) = y := ⟨_, rfl⟩
      simp only [hy] at LG ys E
      have g1 : y.size + nm.size ≤ 100 := by omega
      have e1 : ¬ 9223372036854775807 < y.size + nm.size := by omega
      have hjI : (j : Int) < 4 := by omega
      clear hnm hy hc2 hLz hr hq
      have hw3 : IntKind.u32.wrap (x : Int) = (x : Int) := by rw [IntKind.wrap_u32]; omega
      have hj0 : (0 : Int) ≤ (j : Int) := by omega
      by_cases hr0 : r = 0
      · have gj : ¬ (j : Int) < 3 := by omega
        have gj2 : (3 : Int) ≤ (j : Int) := by omega
        subst hr0
        clear hgo
        go_wp2
        go_region_held3 (fun w' => w'.cell? ⟨w.heap.size, j, none⟩ = some (.string nm)) (first | go_keep | (rw [hb3.cell (by simpa using hlt2)]; exact c0))
            (first | (go_at_call 21; refine (LG.out _).mono ?_; rintro e w3 ⟨rfl, hb3⟩))
        have hb4 : Below w2.heap.size w2 w3 := (below_drewN hb2 1).trans (hb3.mono (by simpa using hsz2))
        have hfin := hop HB.out (Nat.le_refl _) hb4
        go_wp2
        go_ret
        exact ⟨by rw [E.out]; simp, hfin⟩
      · have gr : ¬ (r : Int) = 0 := by omega
        clear hgo
        go_wp2
        go_region_held3 (fun w' => w'.cell? ⟨w.heap.size, j, none⟩ = some (.string nm)) (first | go_keep | (rw [hb3.cell (by simpa using hlt2)]; exact c0))
            (first | (go_at_call 21; refine (LG.out _).mono ?_; rintro e w3 ⟨rfl, hb3⟩))
        have hb4 : Below w2.heap.size w2 w3 := (below_drewN hb2 1).trans (hb3.mono (by simpa using hsz2))
        have hfin := hop HB.out (Nat.le_refl _) hb4
        go_wp2
        go_ret
        exact ⟨by rw [E.out]; simp, hfin⟩
end Go.Proofs.YtehhmejpfglimaaDoor
