/- Some labels by their parts, at most so many. -/
import Derived.Test.YtimfabnjopkhdaaLabTags
namespace Go.Proofs.Ytimfabnjopkhdaa
open Go.RowKit
set_option linter.unusedVariables false

theorem tag_any (t : TagB) (hk : t.k < 256) (W : World) :
    Calls Try.prog 32 #[.agg #[.string t.nm, .string t.vl, .bool t.own, .int .u8 (t.k : Int)]] W fun e w' => e = .returned (.agg #[.string (tagP t).1, .string (tagP t).2]) ∧ Below W.heap.size W w' := by
  obtain ⟨nm, vl, own, k⟩ := t
  cases own with
  | false => exact tag_as nm vl k W
  | true =>
    have hk' : k < 256 := hk
    exact tag_own nm vl k (k / 5) (k % 5) (k / 5 % 8) (by omega) (by omega) (by rw [Int.tmod_eq_emod_of_nonneg (by omega)]; omega) (by omega) (by rw [IntKind.wrap_u8]; omega) (by rw [Int.tmod_eq_emod_of_nonneg (by omega)]; omega) W

/-- a slice of labels by their parts that can be read -/
def TagsP (w : World) (A : Option Addr) (n : Nat) (ts : List TagB) : Prop :=
  ts.length = n ∧ (∀ t ∈ ts, t.k < 256) ∧ (0 < n → ∃ b off, A = some ⟨b, off, none⟩ ∧ b < w.heap.size ∧ ∀ j, j < n →
    w.cell? ⟨b, off + j * 4, none⟩ = some (.string (ts.getD j default).nm) ∧ w.cell? ⟨b, off + j * 4 + 1, none⟩ = some (.string (ts.getD j default).vl) ∧
    w.cell? ⟨b, off + j * 4 + 2, none⟩ = some (.bool (ts.getD j default).own) ∧ w.cell? ⟨b, off + j * 4 + 3, none⟩ = some (.int .u8 ((ts.getD j default).k : Int)))
theorem TagsP.below {w w' : World} {A : Option Addr} {n : Nat} {ts : List TagB} (h : TagsP w A n ts) (hb : Below w.heap.size w w') : TagsP w' A n ts :=
  ⟨h.1, h.2.1, fun hn => by
    obtain ⟨b, off, e, hlt, hc⟩ := h.2.2 hn
    exact ⟨b, off, e, Nat.lt_of_lt_of_le hlt hb.size, fun j hj => ⟨(hb.cell (p := ⟨b, off + j * 4, none⟩) hlt).trans (hc j hj).1, (hb.cell (p := ⟨b, off + j * 4 + 1, none⟩) hlt).trans (hc j hj).2.1, (hb.cell (p := ⟨b, off + j * 4 + 2, none⟩) hlt).trans (hc j hj).2.2.1, (hb.cell (p := ⟨b, off + j * 4 + 3, none⟩) hlt).trans (hc j hj).2.2.2⟩⟩⟩
theorem tags_none (w : World) : TagsP w none 0 [] := ⟨rfl, fun _ h => by (cases h), fun h => absurd h (by omega)⟩
def tagsL (ts : List TagB) (most : Nat) : List PairB := (ts.take most).map tagP
theorem tagsL_len (ts : List TagB) (most : Nat) : (tagsL ts most).length ≤ most := by
  unfold tagsL
  rw [List.length_map, List.length_take]
  omega
theorem tagsL_next (ts : List TagB) (j : Nat) (hj : j < ts.length) : tagsL ts (j + 1) = tagsL ts j ++ [tagP (ts.getD j default)] := by
  unfold tagsL
  rw [List.take_succ_eq_append_getElem hj, List.map_append, List.getD_eq_getElem?_getD, List.getElem?_eq_getElem hj]
  rfl

set_option maxRecDepth 100000 in
set_option maxHeartbeats 1600000 in
theorem tags_any (A : Option Addr) (n c most : Nat) (ts : List TagB) (hn : n ≤ 9223372036854775807) (hm : most ≤ 1000000) (W : World) (h1 : TagsP W A n ts) :
    Calls Try.prog 11 #[.slice A n c, .int .i64 (most : Int)] W fun e w' => ∃ v, e = .returned v ∧ OwnP w' W.heap.size v (tagsL ts most) ∧ Below W.heap.size W w' := by
  have h0 : W.heap.size ≤ W.heap.size := Nat.le_refl _
  obtain ⟨i0, hi, hz0, hz1, hz2⟩ := info_parts infoPair
  have H1 := Lib.hid h1
  have LN := Lib.hid (tagsL_len ts)
  have NX := Lib.hid (tagsL_next ts)
  clear h1
  go_enter Try.func11, Try.ntmps11
  go_wp2
  go_loopw [5, 6] (fun sv iv wr => ∃ j : Nat, j ≤ n ∧ j ≤ most ∧ iv = .int .i64 j ∧ OwnP wr W.heap.size sv (tagsL ts j) ∧ Below W.heap.size W wr) (fun _ iv _ => most - (intOf iv).toNat)
  case atStart => exact ⟨0, Nat.zero_le _, Nat.zero_le _, rfl, OwnP.nil _ _, Below.refl _ _⟩
  case round =>
    obtain ⟨j, hjn, hjm, rfl, hown, hb⟩ := hrel
    have hsz := hb.size
    by_cases hj : j < n ∧ j < most
    · obtain ⟨g1, g2⟩ := hj
      have h2 := H1.out.below hb
      obtain ⟨b1, o1, rfl, hlt1, hc1⟩ := h2.2.2 (by omega)
      obtain ⟨c1, c2, c3, c4⟩ := hc1 j g1
      have hjl : j < ts.length := by rw [h2.1]; exact g1
      have hks := NX.out j hjl
      have hkk := h2.2.1 (ts.getD j default) (by
        rw [List.getD_eq_getElem?_getD, List.getElem?_eq_getElem hjl]
        exact List.getElem_mem _)
      obtain ⟨t, ht⟩ : ∃ p, ts.getD j default = p := ⟨_, rfl⟩
      rw [ht] at c1 c2 c3 c4 hks hkk
      have TG := Lib.hid (fun w => tag_any t hkk w)
      have hjI : (j : Int) < (n : Int) := by omega
      have hjM : (j : Int) < (most : Int) := by omega
      obtain ⟨L, hL⟩ : ∃ L, tagsL ts j = L := ⟨_, rfl⟩
      have hLl := LN.out j
      rw [hL] at hown hks hLl
      obtain ⟨⟨p1, p2⟩, hp⟩ : ∃ p, tagP t = p := ⟨_, rfl⟩
      rw [hp] at hks
      have TG2 := TG.out
      simp only [hp] at TG2
      replace TG := Lib.hid TG2
      have HKS := Lib.hid hks
      obtain ⟨nm, vl, own, k⟩ := t
      dsimp only at c1 c2 c3 c4 TG2
      replace TG := Lib.hid TG2
      clear hks ht hL hc1 h2 hjl hkk hp TG2
      go_wp2_with fail
      refine (TG.out _).mono ?_
      rintro e w2 ⟨rfl, hx⟩
      have hb2 := hop hb h0 hx
      have ho2 := hown.below hx
      have hs2 := hb2.size
      clear hx c1 c2 c3 c4 hown hb
      go_wp2_with (at_builtin; refine wpList_append_own _ rfl (.tmp 18) (.tmp 24) 24 rfl W.heap.size 29 i0 (.agg #[.string ⟨#[]⟩, .string ⟨#[]⟩]) 2 32 Try.underlying24 hi hz0 hz1 hz2 rfl (by decide) _ _ _ rfl (ho2.alloc _) ⟨w2.heap.size, 0, none⟩ 1 1 (pairV (p1, p2)) rfl rfl (new_cells_at _ _ _ _ (by simp)) (pairV_one _) (by unfold maxLen; omega) (by omega) (by simp; omega) ?_)
      intro v' w3 hown' hgrow _
      have hb3 := (hb2.alloc hs2 _).grown hgrow (by simp; omega) (fun r hr => (World.ownsRow.lt ho2 r hr).1)
      have hown3 := OwnP.snoc (p := (p1, p2)) hown'
      rw [← HKS.out] at hown3
      clear hown' hgrow
      go_wp2
      go_round
      case rel => exact ⟨j + 1, by omega, by omega, by go_num, hown3, hb3⟩
      case measure => simp [intOf]; omega
    · have hends : (¬ (j : Int) < (n : Int)) ∨ ((j : Int) < (n : Int) ∧ ¬ (j : Int) < (most : Int)) := by omega
      have hfin : tagsL ts most = tagsL ts j := by
        rcases (by omega : j = most ∨ j = n) with e | e
        · rw [e]
        · unfold tagsL
          rw [List.take_of_length_le (by rw [H1.out.1]; omega), List.take_of_length_le (by rw [H1.out.1]; omega)]
      have HF := Lib.hid hfin
      clear hfin hj
      rcases hends with e1 | ⟨e1, e2⟩
      all_goals
        go_wp2
        go_ret
        exact ⟨_, rfl, by rw [HF.out]; exact hown, hb⟩
end Go.Proofs.Ytimfabnjopkhdaa
