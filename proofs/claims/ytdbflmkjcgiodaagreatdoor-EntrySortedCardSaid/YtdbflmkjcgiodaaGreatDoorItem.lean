/- Labels of few, an entry by its parts. -/
import Derived.Test.YtdbflmkjcgiodaaGreatDoorEntRow
import Derived.Test.YtdbflmkjcgiodaaGreatDoorLabTags
namespace Go.Proofs.YtdbflmkjcgiodaaGreatDoor
open Go.RowKit
set_option linter.unusedVariables false
set_option linter.unusedSimpArgs false

def ownT (t : TagB) : TagB := ⟨t.nm, t.vl, true, t.k⟩
def few2L (ts : List TagB) : List PairB := tagsL (ts.map ownT) 2
def fewL (ts : List TagB) : List PairB := ofL (few2L ts)
theorem few2_next (ts : List TagB) (j : Nat) (hj : j < ts.length) : tagsL (ts.map ownT) (j + 1) = tagsL (ts.map ownT) j ++ [tagP (ownT (ts.getD j default))] := by
  rw [tagsL_next _ j (by rw [List.length_map]; exact hj)]
  congr 2
  rw [List.getD_eq_getElem?_getD, List.getD_eq_getElem?_getD, List.getElem?_map, List.getElem?_eq_getElem hj]
  rfl
theorem SetAt.ofP {B B' : Nat} {w : World} {v : Value} {l : List PairB} (h : OwnP w B' v l) : ∃ A n c, v = .slice A n c ∧ n = l.length ∧ SetAt B w A n l := by
  obtain ⟨A, cap, rfl, _, hp⟩ := h.pairs
  refine ⟨A, _, cap, rfl, rfl, hp, fun h0 a ha => ?_⟩
  rcases h.2 with ⟨e, h1⟩ | ⟨g, cap2, cur, e, _, hh, _⟩
  · omega
  · injection e with e1 _ _
    rw [ha] at e1
    injection e1 with e1
    subst e1
    exact .inr ⟨cur, hh⟩

set_option maxRecDepth 100000 in
set_option maxHeartbeats 1600000 in
theorem few2_any (A : Option Addr) (n c : Nat) (ts : List TagB) (hn : n ≤ 9223372036854775807) (W : World) (h1 : TagsP W A n ts) :
    Calls Tryz.prog 30 #[.slice A n c] W fun e w' => ∃ v, e = .returned v ∧ OwnP w' W.heap.size v (fewL ts) ∧ Below W.heap.size W w' := by
  have h0 : W.heap.size ≤ W.heap.size := Nat.le_refl _
  obtain ⟨i0, hi, hz0, hz1, hz2⟩ := info_parts infoPair
  have H1 := Lib.hid h1
  have LN := Lib.hid (tagsL_len (ts.map ownT))
  have NX := Lib.hid (few2_next ts)
  have OF := Lib.hid (fun A k c w (hk : k ≤ 16777216) (h : Pairs w A k (few2L ts)) => of_labels A k c (few2L ts) hk (Nat.lt_of_le_of_lt (List.length_filter_le _ _) (by have := tagsL_len (ts.map ownT) 2; unfold few2L; omega)) w h)
  clear h1
  go_enter Tryz.func30, Tryz.ntmps30
  go_wp2
  go_loopw [3, 4] (fun sv iv wr => ∃ j : Nat, j ≤ n ∧ j ≤ 2 ∧ iv = .int .i64 j ∧ OwnP wr W.heap.size sv (tagsL (ts.map ownT) j) ∧ Below W.heap.size W wr) (fun _ iv _ => 2 - (intOf iv).toNat)
  case atStart => exact ⟨0, Nat.zero_le _, Nat.zero_le _, rfl, OwnP.nil _ _, Below.refl _ _⟩
  case round =>
    obtain ⟨j, hjn, hjm, rfl, hown, hb⟩ := hrel
    have hsz := hb.size
    by_cases hj : j < n ∧ j < 2
    · obtain ⟨g1, g2⟩ := hj
      have h2 := H1.out.below hb
      obtain ⟨b1, o1, rfl, hlt1, hc1⟩ := h2.2.2 (by omega)
      obtain ⟨c1, c2, c3, c4⟩ := hc1 j g1
      have hjl : j < ts.length := by rw [h2.1]; exact g1
      have hks := NX.out j hjl
      have hkk := h2.2.1 (ts.getD j default) (by
        rw [List.getD_eq_getElem?_getD, List.getElem?_eq_getElem hjl]
        exact List.getElem_mem _)
      obtain ⟨t, ht⟩ : ∃ p, ts.getD j default = p := ⟨_, rfl⟩
      rw [ht] at c1 c2 c3 c4 hks hkk
      have TG := fun w => tag_any (ownT t) (by exact hkk) w
      have hjI : (j : Int) < (n : Int) := by omega
      have hjM : (j : Int) < 2 := by omega
      obtain ⟨L, hL⟩ : ∃ L, tagsL (ts.map ownT) j = L := ⟨_, rfl⟩
      have hLl := LN.out j
      rw [hL] at hown hks hLl
      obtain ⟨⟨p1, p2⟩, hp⟩ : ∃ p, tagP (ownT t) = p := ⟨_, rfl⟩
      rw [hp] at hks
      simp only [hp] at TG
      have HKS := Lib.hid hks
      obtain ⟨nm, vl, own, k⟩ := t
      dsimp only at c1 c2 c3 c4
      replace TG : ∀ w, Calls Tryz.prog 57 #[.agg #[.string nm, .string vl, .bool true, .int .u8 (k : Int)]] w fun e w' => e = .returned (.agg #[.string p1, .string p2]) ∧ Below w.heap.size w w' := TG
      replace TG := Lib.hid TG
      clear hks ht hL hc1 h2 hjl hkk hp
      go_wp2_with fail
      have hb1 : Below W.heap.size W (wr.alloc (.cells #[.string nm, .string vl, .bool true, .int .u8 (k : Int)] 101)) := hb.alloc hsz _
      have ho1 := hown.alloc (.cells #[.string nm, .string vl, .bool true, .int .u8 (k : Int)] 101)
      refine (TG.out _).mono ?_
      rintro e w2 ⟨rfl, hx⟩
      have hb2 := hop hb1 h0 hx
      have ho2 := ho1.below hx
      have hs2 := hb2.size
      clear hx c1 c2 c3 c4 hown hb ho1 hb1
      go_wp2_with (at_builtin; refine wpList_append_own _ rfl (.tmp 21) (.tmp 24) 22 rfl W.heap.size 66 i0 (.agg #[.string ⟨#[]⟩, .string ⟨#[]⟩]) 2 32 Tryz.underlying22 hi hz0 hz1 hz2 rfl (by decide) _ _ _ rfl (ho2.alloc _) ⟨w2.heap.size, 0, none⟩ 1 1 (pairV (p1, p2)) rfl rfl (new_cells_at _ _ _ _ (by simp)) (pairV_one _) (by unfold maxLen; omega) (by omega) (by simp; omega) ?_)
      intro v' w3 hown' hgrow _
      have hb3 := (hb2.alloc hs2 _).grown hgrow (by simp; omega) (fun r hr => (World.ownsRow.lt ho2 r hr).1)
      have hown3 := OwnP.snoc (p := (p1, p2)) hown'
      rw [← HKS.out] at hown3
      clear hown' hgrow
      go_wp2
      go_round
      case rel => exact ⟨j + 1, by omega, by omega, by go_num, hown3, hb3⟩
      case measure => simp [intOf]; omega
    · have hends : (¬ (j : Int) < (n : Int)) ∨ ((j : Int) < (n : Int) ∧ ¬ (j : Int) < 2) := by omega
      have hfin : few2L ts = tagsL (ts.map ownT) j := by
        unfold few2L
        rcases (by omega : j = 2 ∨ j = n) with e | e
        · rw [e]
        · unfold tagsL
          have hl := H1.out.1
          rw [List.take_of_length_le (by rw [List.length_map]; omega), List.take_of_length_le (by rw [List.length_map]; omega)]
      rw [← hfin] at hown
      obtain ⟨A2, cap2, rfl, hcap2, hp2⟩ := hown.pairs
      have hl2 : (few2L ts).length ≤ 16777216 := by have := tagsL_len (ts.map ownT) 2; unfold few2L; omega
      have OF2 := Lib.hid (OF.out A2 _ cap2 wr hl2 hp2)
      clear hfin hj hown hp2 hl2 OF
      rcases hends with e1 | ⟨e1, e2⟩
      all_goals
        go_wp2_with fail
        refine OF2.out.mono ?_
        rintro e w5 ⟨v, rfl, ho5, hx⟩
        have hb5 := hop hb h0 hx
        have ho6 := ho5.mono hsz
        clear hx ho5
        go_wp2
        go_ret
        exact ⟨_, rfl, ho6, hb5⟩
end Go.Proofs.YtdbflmkjcgiodaaGreatDoor
