/- Sets of any number of labels: Of, With. -/
import Derived.Test.YtimmfmgnjpcdoaaSymStable
import Derived.Test.YtimmfmgnjpcdoaaLabWith
namespace Go.Proofs.Ytimmfmgnjpcdoaa
open Go.RowKit Go.Sort Sy
set_option linter.unusedVariables false
set_option linter.unusedSimpArgs false

/-- a row of the call's own, as labels that lie in a block -/
theorem own_sortW {w : World} {B : Nat} {v : Value} {l : List PairB} (h : OwnP w B v l) : (v = .slice none 0 0 ∧ l = []) ∨ ∃ g cap, v = .slice (some ⟨g, 0, none⟩) l.length cap ∧ B ≤ g ∧ g < w.heap.size ∧ l.length ≤ cap ∧ SortW w g (tagL l) := by
  rcases h.2 with ⟨hv, h0⟩ | ⟨g, cap, cur, rfl, hg, hh, hc, hm, hs, ht⟩
  · exact .inl ⟨hv, List.eq_nil_of_length_eq_zero h0⟩
  · have hb : Blk w g 39 cur := hh
    have e1 : ∀ t, t < l.length * 2 → cur[t]? = (pVs l)[t]? := fun t h2 => by
      rw [← ht, List.getElem?_take_of_lt h2]
      simp
    refine .inr ⟨g, cap, rfl, hg, hb.lt, hc, cur, hb, by rw [tagL_len, hs]; exact Nat.mul_le_mul_right 2 hc, fun j hj => ?_⟩
    rw [tagL_len] at hj
    rw [tagL_at l j hj, e1 _ (by omega), e1 _ (by omega), pVs_at l _ (by omega), pVs_at l _ (by omega)]
    rw [show j * 2 / 2 = j by omega, show j * 2 % 2 = 0 by omega, show (j * 2 + 1) / 2 = j by omega, show (j * 2 + 1) % 2 = 1 by omega]
    exact ⟨rfl, rfl⟩
theorem sortW_pairs {w : World} {g : Nat} {L : List (KeyP PairB)} (h : SortW w g L) : Pairs w (some ⟨g, 0, none⟩) (L.map (fun x => x.it)).length (L.map (fun x => x.it)) := by
  obtain ⟨cur, hb, hs, hc⟩ := h
  refine ⟨rfl, fun _ => ⟨g, 0, rfl, hb.lt, fun j hj => ?_⟩⟩
  rw [List.length_map] at hj
  obtain ⟨c1, c2⟩ := hc j hj
  have e : (L.map (fun x => x.it)).getD j pnil = (getP L j).it := by
    rw [List.getD_eq_getElem?_getD, List.getElem?_map, getP_eq hj]
    rfl
  rw [e, Nat.zero_add]
  exact ⟨(hb.cell _).trans c1, (hb.cell _).trans c2⟩
set_option maxHeartbeats 800000 in
theorem sortBig0_any (g cap n : Nat) (l : List PairB) (hl : l.length = n) (hn : n ≤ 1000000) (W : World) (h : SortW W g (tagL l)) :
    Calls Try.prog 37 #[.slice (some ⟨g, 0, none⟩) n cap, .func (.func 38) #[] #[]] W fun e w' => e = .returned (.tuple #[]) ∧ Pairs w' (some ⟨g, 0, none⟩) n (sortL l) ∧ W.grownBy w' (some g) := by
  have C := Lib.hid (stableBig_any g cap n (tagL l) (by rw [tagL_len, hl]) hn (fun i hi => by rw [tagL_at l i (by omega)]) W h)
  have HF := Lib.hid (fun (L : List (KeyP PairB)) (hp : L.Perm (tagL l)) (hu : Up nameC L 0 n) => show L.map (fun x => x.it) = sortL l from tag_sorted l L hp (by rw [hl]; exact hu))
  have HL := Lib.hid hl
  clear h hl
  go_enter Try.func37, Try.ntmps37
  go_wp2_with fail
  refine C.out.mono ?_
  rintro e w ⟨rfl, L, hs, hp, hu, hg⟩
  have HW := Lib.hid (show Pairs w (some ⟨g, 0, none⟩) n (sortL l) ∧ W.grownBy w (some g) from by
    have h1 := sortW_pairs hs
    rw [HF.out L hp hu, sortL_length, HL.out] at h1
    exact ⟨h1, hg.grown⟩)
  clear hs hp hu hg
  go_wp2
  go_end0
  exact ⟨rfl, HW.out⟩
/-- any slice of labels of the call's own -/
theorem sortBig_any (B : Nat) (v : Value) (l : List PairB) (hn : l.length ≤ 1000000) (W : World) (h : OwnP W B v l) (hB : B ≤ W.heap.size) :
    ∃ A cap, v = .slice A l.length cap ∧ Calls Try.prog 37 #[.slice A l.length cap, .func (.func 38) #[] #[]] W fun e w' => e = .returned (.tuple #[]) ∧ Pairs w' A l.length (sortL l) ∧ Below B W w' := by
  rcases own_sortW h with ⟨rfl, rfl⟩ | ⟨g, cap, rfl, hBg, hg, hc, hr⟩
  · refine ⟨none, 0, rfl, (sortNone_any W).mono ?_⟩
    rintro e w' ⟨rfl, rfl⟩
    have e0 : sortL [] = [] := List.eq_nil_of_length_eq_zero (sortL_length [])
    exact ⟨rfl, by rw [e0]; exact pairs_none _, Below.refl _ _⟩
  · refine ⟨_, cap, rfl, (sortBig0_any g cap l.length l rfl hn W hr).mono ?_⟩
    rintro e w' ⟨rfl, hp, hgr⟩
    exact ⟨rfl, hp, (Below.refl B W).grown hgr hB (fun r hr => by cases hr; exact hBg)⟩
set_option maxRecDepth 100000 in
set_option maxHeartbeats 1600000 in
theorem of_big (A : Option Addr) (n c : Nat) (ps : List PairB) (hn : n ≤ 16777216) (h20 : (namedL ps).length ≤ 1000000) (W : World) (h1 : Pairs W A n ps) :
    Calls Try.prog 23 #[.slice A n c] W fun e w' => ∃ v, e = .returned v ∧ OwnP w' W.heap.size v (ofL ps) ∧ Below W.heap.size W w' := by
  have h0 : W.heap.size ≤ W.heap.size := Nat.le_refl _
  obtain ⟨i0, hi, hz0, hz1, hz2⟩ := info_parts infoPair
  have H1 := Lib.hid h1
  have LN := Lib.hid (namedL_len ps)
  have NT := Lib.hid (fun j (hj : j < n) => namedL_take ps j (by rw [h1.1]; exact hj))
  have hfull : ps.take n = ps := List.take_of_length_le (by rw [h1.1]; exact Nat.le_refl _)
  have HF := Lib.hid hfull
  have H20 := Lib.hid h20
  obtain ⟨z, hz⟩ : ∃ z, ofL ps = z := ⟨_, rfl⟩
  rw [hz]
  have HO := Lib.hid (show lastsL (sortL (namedL ps)) = z from hz)
  clear h1 hfull h20 hz
  go_enter Try.func23, Try.ntmps23
  go_wp2
  go_loopw [3, 8] (fun sv iv wr => ∃ j : Nat, j ≤ n ∧ iv = .int .i64 j ∧ OwnP wr W.heap.size sv (namedL (ps.take j)) ∧ Below W.heap.size W wr) (fun _ iv _ => n - (intOf iv).toNat)
  case atStart => exact ⟨0, Nat.zero_le _, rfl, OwnP.nil _ _, Below.refl _ _⟩
  case round =>
    obtain ⟨j, hjn, rfl, hown, hb⟩ := hrel
    have hsz := hb.size
    by_cases hj : j < n
    · obtain ⟨b1, o1, rfl, hlt1, hc1⟩ := (H1.out.below hb).2 (by omega)
      obtain ⟨c1, c2⟩ := hc1 j hj
      have hks := NT.out j hj
      obtain ⟨p, hp⟩ : ∃ p, ps.getD j pnil = p := ⟨_, rfl⟩
      rw [hp] at c1 c2 hks
      obtain ⟨p1, p2⟩ := p
      dsimp only at c1 c2 hks
      have hjI : (j : Int) < (n : Int) := by omega
      obtain ⟨L, hL⟩ : ∃ L, namedL (ps.take j) = L := ⟨_, rfl⟩
      have hLl := LN.out j
      rw [hL] at hown hks hLl
      have NM := fun w => name_any p1 w
      obtain ⟨nb, hnb⟩ : ∃ b, nameB p1 = b := ⟨_, rfl⟩
      rw [hnb] at hks
      simp only [hnb] at NM
      replace NM := Lib.hid NM
      have HKS := Lib.hid hks
      have B1 := Blk.new wr 39 #[.string p1, .string p2]
      have hba : Below W.heap.size W (wr.alloc (.cells #[.string p1, .string p2] 39)) := hb.alloc hsz _
      have hoa := hown.alloc (.cells #[.string p1, .string p2] 39)
      have hz0' : wr.heap.size < (wr.alloc (.cells #[.string p1, .string p2] 39)).heap.size := by simp
      clear hks hp hL hc1 hown hb hnb
      go_wp2_with fail
      refine (NM.out _).mono ?_
      rintro e w2 ⟨rfl, hx⟩
      have k1 : w2.cell? ⟨wr.heap.size, 0, none⟩ = some (.string p1) := (hx.cell (p := ⟨wr.heap.size, 0, none⟩) hz0').trans ((B1.cell 0).trans rfl)
      have k2 : w2.cell? ⟨wr.heap.size, 1, none⟩ = some (.string p2) := (hx.cell (p := ⟨wr.heap.size, 1, none⟩) hz0').trans ((B1.cell 1).trans rfl)
      have hb2 := hop hba h0 hx
      have ho2 := hoa.below hx
      have hs2 := hb2.size
      have hks := HKS.out
      clear hx B1 hba hoa hz0' c1 c2
      cases nb with
      | true =>
        rw [if_pos rfl] at hks
        have HK2 := Lib.hid hks
        clear hks
        go_wp2_with (at_builtin; refine wpList_append_own _ rfl (.tmp 15) (.tmp 17) 32 rfl W.heap.size 39 i0 (.agg #[.string ⟨#[]⟩, .string ⟨#[]⟩]) 2 32 Try.underlying32 hi hz0 hz1 hz2 rfl (by decide) _ _ _ rfl (ho2.alloc _) ⟨w2.heap.size, 0, none⟩ 1 1 (pairV (p1, p2)) rfl rfl (new_cells_at _ _ _ _ (by simp)) (pairV_one _) (by unfold maxLen; omega) (by omega) (by simp; omega) ?_)
        intro v' w3 hown' hgrow _
        have hb3 := (hb2.alloc hs2 _).grown hgrow (by simp; omega) (fun r hr => (World.ownsRow.lt ho2 r hr).1)
        have hown3 := OwnP.snoc (p := (p1, p2)) hown'
        rw [← HK2.out] at hown3
        clear hown' hgrow
        go_wp2
        go_round
        case rel => exact ⟨j + 1, by omega, by go_num, hown3, hb3⟩
        case measure => simp [intOf]; omega
      | false =>
        rw [if_neg (by decide)] at hks
        have hown3 := ho2
        rw [← hks] at hown3
        clear hks
        go_wp2
        go_round
        case rel => exact ⟨j + 1, by omega, by go_num, hown3, hb2⟩
        case measure => simp [intOf]; omega
    · obtain rfl : j = n := by omega
      rw [HF.out] at hown
      obtain ⟨A2, cap, rfl, hS⟩ := sortBig_any _ _ _ H20.out _ hown hsz
      have HS := Lib.hid hS
      have LS := fun w hp => lasts_any A2 (namedL ps).length cap (sortL (namedL ps)) (by have := H20.out; omega) w hp
      replace LS := Lib.hid LS
      obtain ⟨m, hm⟩ : ∃ m, (namedL ps).length = m := ⟨_, rfl⟩
      obtain ⟨r, hr⟩ : ∃ r, sortL (namedL ps) = r := ⟨_, rfl⟩
      replace HS := HS.out
      replace LS := LS.out
      replace HO := HO.out
      simp only [hr] at HO
      simp only [hm, hr] at HS LS
      replace HS := Lib.hid HS
      replace LS := Lib.hid LS
      replace HO := Lib.hid HO
      rw [hm] at hown ⊢
      clear hS hm hr
      go_wp2_with fail
      refine HS.out.mono ?_
      rintro e w2 ⟨rfl, hp, hx⟩
      have hb2 := hb.trans hx
      have hLL := Lib.hid (LS.out w2 hp)
      clear hp hx
      go_wp2_with fail
      refine hLL.out.mono ?_
      rintro e w3 ⟨v, rfl, ho3, hx⟩
      have hb3 := hop hb2 h0 hx
      have ho4 := ho3.mono hb2.size
      rw [HO.out] at ho4
      clear ho3 hx
      go_wp2
      go_ret
      exact ⟨_, rfl, ho4, hb3⟩
end Go.Proofs.Ytimmfmgnjpcdoaa
