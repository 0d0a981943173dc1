/- The walk of the law EntrySorted: entries that were put in their order one by one are sorted. -/
import Derived.Test.YtdbflmkjcgiodaaGreatDoorEntExam
import Derived.Test.YtdbflmkjcgiodaaGreatDoorEntSortMath
import Derived.Laws.AppendOwnNone
namespace Go.Proofs.YtdbflmkjcgiodaaGreatDoor
open Go.RowKit
set_option linter.unusedVariables false
set_option linter.unusedSimpArgs false

theorem OwnE.src {B B' : Nat} {w : World} {v : Value} {l : List EntX} (h : OwnE B w B' v l) (h0 : 0 < l.length) : ∃ g cap, v = .slice (some ⟨g, 0, none⟩) l.length cap ∧ B' ≤ g ∧ g < w.heap.size ∧ l.length ≤ cap ∧ (∀ (j i : Nat) (a : EntX), l[j]? = some a → i < 3 → w.cell? ⟨g, j * 3 + i, none⟩ = (EntX.V a)[i]?) := OwnR.at_ entV_len h.1 h0
theorem src_from {w : World} {g : Nat} {l : List EntX} (h : ∀ (j i : Nat) (a : EntX), l[j]? = some a → i < 3 → w.cell? ⟨g, j * 3 + i, none⟩ = (EntX.V a)[i]?) (k : Nat) : ∀ (j : Nat) (u : Value), (rowV EntX.V (l.drop k))[j]? = some u → w.cell? ((⟨g, k * 3, none⟩ : Addr).add j) = some u := by
  intro j u hu
  have hlt : j < (l.drop k).length * 3 := by
    rcases Nat.lt_or_ge j ((l.drop k).length * 3) with h1 | h1
    · exact h1
    · rw [List.getElem?_eq_none (by rw [rowV_len entV_len]; exact h1)] at hu; cases hu
  have hq : (l.drop k)[j / 3]? = some ((l.drop k).getD (j / 3) xnil) := by
    rw [List.getD_eq_getElem?_getD, List.getElem?_eq_getElem (by omega)]
    rfl
  have e := rowV_at entV_len (l.drop k) (j / 3) (j % 3) _ hq (by omega)
  rw [show j / 3 * 3 + j % 3 = j by omega, hu] at e
  rw [List.getElem?_drop] at hq
  have hc := h (k + j / 3) (j % 3) _ hq (by omega)
  rw [ints_add, show k * 3 + j = (k + j / 3) * 3 + j % 3 by omega, hc, e]
theorem src_upto {w : World} {g : Nat} {l : List EntX} (h : ∀ (j i : Nat) (a : EntX), l[j]? = some a → i < 3 → w.cell? ⟨g, j * 3 + i, none⟩ = (EntX.V a)[i]?) (k : Nat) : ∀ (j : Nat) (u : Value), (rowV EntX.V (l.take k))[j]? = some u → w.cell? ((⟨g, 0, none⟩ : Addr).add j) = some u := by
  have h2 := src_from (l := l.take k) (g := g) (w := w) (fun j i a hj hi => h j i a (by
    rw [List.getElem?_take] at hj
    split at hj
    · exact hj
    · cases hj) hi) 0
  rw [List.drop_zero, Nat.zero_mul] at h2
  exact h2

theorem own_made (w : World) (x : EntX) (o : Obj) (cp : Nat) (h1 : 1 ≤ cp) (h2 : cp ≤ maxLen) (B : Nat) (hB : B ≤ w.heap.size + 1) :
    OwnR EntX.V 3 ((w.alloc o).alloc (.cells (#[.int .i64 x.ts, .slice x.A x.n x.c, .string x.ln] ++ Builtin.zeroCells #[.int .i64 0, .slice none 0 0, .string ⟨#[]⟩] (cp - 1)) 25)).drew B 25 (.slice (some ⟨w.heap.size + 1, 0, none⟩) 1 cp) [x] := by
  refine ⟨rfl, .inr ⟨w.heap.size + 1, cp, _, rfl, hB, (blk_next w o _ _).drew, h1, h2, ?_, ?_⟩⟩
  · rw [Array.size_append, size_zeroCells]
    show 3 + (cp - 1) * 3 = cp * 3
    omega
  · rw [Array.toList_append]
    rfl

set_option maxRecDepth 100000 in
set_option maxHeartbeats 6400000 in
theorem entrySorted_walk {W : World} (A : Option Addr) (n c : Nat) (l : List ItemX) (h1 : ItemsP W.heap.size W A n l) (hnc : n ≤ c) (hcm : c ≤ maxLen) (hl : LibIs W) :
    Calls Tryz.prog 7 #[.slice A n c] W fun e w' => e = .returned (.bool true) ∧ Below W.heap.size W w' := by
  have h0 : W.heap.size ≤ W.heap.size := Nat.le_refl _
  unfold maxLen at hcm
  obtain ⟨i0, hi, hz0, hz1, hz2⟩ := info_parts infoEnt
  have hn : n ≤ 9223372036854775807 := by omega
  have HX := Lib.hid (entExamples_any W hl)
  have IT := Lib.hid (fun w (h : Below W.heap.size W w) => items_any W.heap.size A n c 10 l hn (by decide) w h.size (h1.below h))
  have LN := Lib.hid (itemsB_len l 10)
  clear h1 hl hnc hcm hn
  go_enter Tryz.func7, Tryz.ntmps7
  go_wp2_with fail
  refine HX.out.mono ?_
  rintro e w1 ⟨rfl, hb1⟩
  go_wp2_with fail
  refine (IT.out _ hb1).mono ?_
  rintro e w2 ⟨v, L, rfl, hown, hLB, hx⟩
  have hbW := hop hb1 h0 hx
  have hL10 : L.length ≤ 10 := by
    have h3 := congrArg List.length hLB
    rw [List.length_map] at h3
    have := LN.out
    omega
  have hown2 : OwnE W.heap.size w2 W.heap.size v L := hown.mono (Nat.le_refl _) hb1.size
  obtain ⟨AL, cap, rfl, hcap, _, hpL⟩ := hown2.ents
  have HPL := Lib.hid hpL
  have HbW := Lib.hid hbW
  clear hx hown hown2 hLB hpL hbW HX IT LN hb1
  have hWw : W.heap.size ≤ w2.heap.size := HbW.out.size
  go_wp2
  go_loopw [5, 6] (fun ov iv wr => ∃ (j : Nat) (M : List EntX), j ≤ L.length ∧ iv = .int .i64 j ∧ Hid (M.length = j) ∧ Hid (SortedP M) ∧ Hid (j = 0 → ov = .slice none 0 0) ∧ OwnE W.heap.size wr w2.heap.size ov M ∧ Below w2.heap.size w2 wr) (fun _ iv _ => L.length - (intOf iv).toNat)
  case atStart => exact ⟨0, [], Nat.zero_le _, rfl, Lib.hid rfl, Lib.hid .nil, Lib.hid fun _ => rfl, OwnE.nil _ _ _, Below.refl _ _⟩
  case round =>
    obtain ⟨j, M, hjL, rfl, HML, HMS, HO0, hown, hb⟩ := hrel
    have hsz := hb.size
    by_cases hj : j < L.length
    · have hjI : (j : Int) < (L.length : Int) := by omega
      obtain ⟨b1, o1, rfl, hlt1, hc1⟩ := (HPL.out.below hb).at_ (by omega)
      obtain ⟨c1, c2, c3, gx⟩ := hc1 j hj
      obtain ⟨x, hx⟩ : ∃ x, L.getD j xnil = x := ⟨_, rfl⟩
      rw [hx] at c1 c2 c3 gx
      have HGX := Lib.hid gx
      clear hc1 hx gx
      rcases Nat.eq_zero_or_pos j with hj0 | hj0
      · obtain rfl := HO0.out hj0
        have hM : M = [] := List.eq_nil_of_length_eq_zero (by rw [HML.out]; exact hj0)
        subst hM
        have HJ0 := Lib.hid hj0
        obtain ⟨v0, hv0⟩ : ∃ v, v = wr := ⟨_, rfl⟩
        subst hv0
        have Hb := Lib.hid hb
        clear hb hown HML HMS HO0 hj0
        go_wp2
        go_loopw [7] (fun av w3 => av = .int .i64 0 ∧ ∃ q, w3 = v0.drewN q) (fun _ _ => 0)
        case atStart => exact ⟨rfl, 0, rfl⟩
        case round =>
          obtain ⟨rfl, q, rfl⟩ := hrel
          have q0 : Below v0.heap.size v0 (v0.drewN q) := below_drewN (Below.refl _ _) q
          go_wp2
          go_quiet (fail)
          generalize hw4 : World.drewN _ _ = w4
          have hb4 : Below v0.heap.size v0 w4 := by rw [← hw4]; exact below_drewN q0 _
          clear hw4 q0
          have d1 := (hb4.cell (p := ⟨b1, o1 + j * 3, none⟩) hlt1).trans c1
          have d2 := (hb4.cell (p := ⟨b1, o1 + j * 3 + 1, none⟩) hlt1).trans c2
          have d3 := (hb4.cell (p := ⟨b1, o1 + j * 3 + 2, none⟩) hlt1).trans c3
          have hs4 := hb4.size
          have hs4' : v0.heap.size ≤ w4.heap.size + 1 := by omega
          have Hb4 := Lib.hid hb4
          have HGX4 := Lib.hid (HGX.out.below hb4)
          have MD := Lib.hid (own_made w4 x (.cells #[.int .i64 x.ts, .slice x.A x.n x.c, .string x.ln] 25) _ (grownCap_ge w4 1 0 25) (grownCap_le_maxLen w4 1 0 25 (by decide)) v0.heap.size hs4')
          clear hb4
          go_wp2_with (at_builtin; refine wpList_append_own_none rfl (.tmp 53) (.tmp 56) 37 rfl v0.heap.size 25 i0 3 Tryz.underlying37 hi _ _ _ rfl MD.out rfl ?_)
          go_wp2
          go_round
          case rel => exact ⟨j + 1, [x], by omega, by go_num, Lib.hid (by rw [HJ0.out]; rfl), Lib.hid (List.pairwise_singleton _ _), Lib.hid (fun h => by omega), ⟨OwnR.mono MD.out hsz, fun y hy => by
            rw [List.mem_singleton.1 hy]
            exact HGX4.out.below (below_drewN ((((Below.refl _ _).alloc (Nat.le_refl _) _)).alloc (by simp) _) 1)⟩, hop Hb.out (Nat.le_refl _) (below_drewN ((Hb4.out.alloc hs4 _).alloc (by simp; omega) _) 1)⟩
          case measure => simp [intOf]; omega
      · obtain ⟨g, cp, rfl, hgB, hglt, hcp, hsrc⟩ := hown.src (by rw [HML.out]; exact hj0)
        have hgm := hown.2
        obtain ⟨v0, hv0⟩ : ∃ v, v = wr := ⟨_, rfl⟩
        subst hv0
        have hml := HML.out
        rw [hml] at hcp
        rw [hml]
        have Hb := Lib.hid hb
        have HSRC := Lib.hid hsrc
        have HGM := Lib.hid hgm
        clear hb hown HO0 hml hsrc hgm
        go_wp2
        go_loopw [7] (fun av w3 => ∃ k : Nat, k ≤ j ∧ av = .int .i64 k ∧ Hid (∀ i, k ≤ i → i < j → aheadB x.b (M.getD i xnil).b true = true) ∧ Below v0.heap.size v0 w3) (fun av _ => (intOf av).toNat)
        case atStart => exact ⟨j, Nat.le_refl _, rfl, Lib.hid (fun i h1 h2 => by omega), Below.refl _ _⟩
        case round =>
          obtain ⟨k, hkj, rfl, HK, hb3⟩ := hrel
          rcases Nat.eq_zero_or_pos k with hk0 | hk0
          · have q1 : decide (0 < k) = false := decide_eq_false (by omega)
            have q2 : ¬ 0 < k := by omega
            have q3 : ¬ (0 : Int) < (k : Int) := by omega
            have HKK := Lib.hid (show k = 0 ∨ aheadB x.b (M.getD (k - 1) xnil).b true = false from .inl hk0)
            have hck0 : ¬ cp = k := by omega
            have q0 := hb3
            clear hb3 hk0
            go_wp2
            go_quiet (fail)
            generalize hw4 : World.drewN _ _ = w4
            have hb4 : Below v0.heap.size v0 w4 := by rw [← hw4]; exact below_drewN q0 _
            clear hw4 q0
            have d1 := (hb4.cell (p := ⟨b1, o1 + j * 3, none⟩) hlt1).trans c1
            have d2 := (hb4.cell (p := ⟨b1, o1 + j * 3 + 1, none⟩) hlt1).trans c2
            have d3 := (hb4.cell (p := ⟨b1, o1 + j * 3 + 2, none⟩) hlt1).trans c3
            have hs4 := hb4.size
            have ho4 : OwnE W.heap.size w4 v0.heap.size (.slice none 0 0) [] := OwnE.nil _ _ _
            have HO4 := Lib.hid ho4
            have Hb4 := Lib.hid hb4
            have HGX4 := Lib.hid (HGX.out.below hb4)
            have src4 := Lib.hid (src_upto (fun p i a h1 h2 => (hb4.cell (p := ⟨g, p * 3 + i, none⟩) hglt).trans (HSRC.out p i a h1 h2)) k)
            have gm4 := Lib.hid (fun (y : EntX) (hy : y ∈ M.take k) => (HGM.out y (List.mem_of_mem_take hy)).below hb4)
            have tl := Lib.hid (show (M.take k).length = k from by rw [List.length_take, HML.out]; omega)
            have kI : (k : Int) ≤ (j : Int) := by omega
            have kcp : (k : Int) ≤ (cp : Int) := by omega
            clear ho4 hb4
            go_wp2_with (at_builtin; refine wpList_append_own _ rfl (.tmp 41) (.tmp 44) 37 rfl v0.heap.size 25 i0 (.agg #[.int .i64 0, .slice none 0 0, .string ⟨#[]⟩]) 3 48 Tryz.underlying37 hi hz0 hz1 hz2 rfl (by decide) _ _ _ rfl HO4.out.1 ⟨g, 0, none⟩ k cp (rowV EntX.V (M.take k)) rfl (by rw [rowV_len entV_len, tl.out]) src4.out (rowV_one entV_one _) (by show 0 + k ≤ maxLen; unfold maxLen; omega) (by show (0 + k) * 48 ≤ _; omega) hs4 ?_)
            intro n1 w5 hown1 hgrow1 _
            have hb5 := Hb4.out.grown hgrow1 hs4 (fun r hr => by cases hr)
            have ho5 := OwnE.snocs (m := M.take k) HO4.out gm4.out (Nat.le_trans hWw hsz) hgrow1 (by rw [tl.out, List.length_nil, Nat.zero_add]; exact hown1)
            rw [List.nil_append] at ho5
            have HO5 := Lib.hid ho5
            have Hb5 := Lib.hid hb5
            have hs5 := hb5.size
            have HGX5 := Lib.hid (HGX.out.below hb5)
            clear hown1 hgrow1 HO4 d1 d2 d3 src4 gm4 ho5
            have d1 := (hb5.cell (p := ⟨b1, o1 + j * 3, none⟩) hlt1).trans c1
            have d2 := (hb5.cell (p := ⟨b1, o1 + j * 3 + 1, none⟩) hlt1).trans c2
            have d3 := (hb5.cell (p := ⟨b1, o1 + j * 3 + 2, none⟩) hlt1).trans c3
            clear hb5
            go_wp2_with (at_builtin; refine wpList_append_own _ rfl (.tmp 46) (.tmp 51) 37 rfl v0.heap.size 25 i0 (.agg #[.int .i64 0, .slice none 0 0, .string ⟨#[]⟩]) 3 48 Tryz.underlying37 hi hz0 hz1 hz2 rfl (by decide) _ _ _ rfl (OwnR.alloc HO5.out.1 _) ⟨w5.heap.size, 0, none⟩ 1 1 (EntX.V x) rfl rfl (new_cells_at _ _ _ _ (by simp)) (entV_one _) (by rw [tl.out]; unfold maxLen; omega) (by rw [tl.out]; omega) (by simp; omega) ?_)
            intro n2 w6 hown2 hgrow2 _
            have hb6 := (Hb5.out.alloc hs5 _).grown hgrow2 (by simp; omega) (fun r hr => (World.ownsRow.lt HO5.out.1 r hr).1)
            have ho6 := OwnE.snoc (x := x) (HO5.out.alloc _) (HGX5.out.below ((Below.refl _ _).alloc (Nat.le_refl _) _)) (Nat.le_trans hWw hsz) hgrow2 (by rw [List.length_take]; exact hown2)
            have HO6 := Lib.hid ho6
            have Hb6 := Lib.hid hb6
            have hs6 := hb6.size
            have src6 := Lib.hid (src_from (fun p i a h1 h2 => (hb6.cell (p := ⟨g, p * 3 + i, none⟩) hglt).trans (HSRC.out p i a h1 h2)) k)
            have gm6 := Lib.hid (fun (y : EntX) (hy : y ∈ M.drop k) => (HGM.out y (List.mem_of_mem_drop hy)).below hb6)
            have dl := Lib.hid (show (M.drop k).length = j - k from by rw [List.length_drop, HML.out])
            have tl6 := Lib.hid (show (M.take k ++ [x]).length = k + 1 from by rw [List.length_append, tl.out]; rfl)
            have qj : ((j : Int) - (k : Int)) = ((j - k : Nat) : Int) := by omega
            have qc : ((cp : Int) - (k : Int)) = ((cp - k : Nat) : Int) := by omega
            have rs := Lib.hid (ins_sorted M x k HMS.out (by rw [HML.out]; omega) (fun i h1 h2 => HK.out i h1 (by rw [HML.out] at h2; exact h2)) HKK.out)
            have rl := Lib.hid (show (M.take k ++ [x] ++ M.drop k).length = j + 1 from by rw [List.length_append, tl6.out, dl.out]; first | done | omega)
            clear hown2 hgrow2 HO5 d1 d2 d3 ho6 hb6
            go_wp2_with (at_builtin; refine wpList_append_own _ rfl (.tmp 53) (.tmp 56) 37 rfl v0.heap.size 25 i0 (.agg #[.int .i64 0, .slice none 0 0, .string ⟨#[]⟩]) 3 48 Tryz.underlying37 hi hz0 hz1 hz2 rfl (by decide) _ _ _ rfl HO6.out.1 ⟨g, k * 3, none⟩ (j - k) (cp - k) (rowV EntX.V (M.drop k)) rfl (by rw [rowV_len entV_len, dl.out]) src6.out (rowV_one entV_one _) (by rw [tl6.out]; unfold maxLen; omega) (by rw [tl6.out]; omega) hs6 ?_)
            intro n3 w7 hown3 hgrow3 _
            have hb7 := Hb6.out.grown hgrow3 hs6 (fun r hr => (World.ownsRow.lt HO6.out.1 r hr).1)
            have ho7 := OwnE.snocs (m := M.drop k) HO6.out gm6.out (Nat.le_trans hWw hsz) hgrow3 (by rw [tl6.out, dl.out]; simpa [tl6.out, HML.out, Nat.min_eq_left hkj] using hown3)
            have HO7 := Lib.hid (ho7.mono (Nat.le_refl _) hsz)
            clear hown3 hgrow3 HO6 ho7 src6 gm6
            go_wp2
            go_round
            case rel => exact ⟨j + 1, _, by omega, by go_num, rl, rs, Lib.hid (fun h => by omega), HO7.out, hop Hb.out (Nat.le_refl _) hb7⟩
            case measure => simp [intOf]; omega
          · obtain ⟨i, hki⟩ : ∃ i, k = i + 1 := ⟨k - 1, by omega⟩
            have hwp : IntKind.i64.wrap ((k : Int) - 1) = (i : Int) := by rw [IntKind.wrap_i64]; omega
            have q1 : decide (0 < k) = true := decide_eq_true (by omega)
            have q2 : 0 < k := by omega
            have q3 : (0 : Int) < (k : Int) := by omega
            have q4 : (i : Int) < (j : Int) := by omega
            have hiq : M[i]? = some (M.getD i xnil) := by
              have := HML.out
              rw [List.getD_eq_getElem?_getD, List.getElem?_eq_getElem (by omega)]
              rfl
            have hgy := (HGM.out _ (List.mem_of_getElem? hiq)).below hb3
            have y1 := (hb3.cell (p := ⟨g, i * 3 + 0, none⟩) hglt).trans (HSRC.out i 0 _ hiq (by decide))
            have y2 := (hb3.cell (p := ⟨g, i * 3 + 1, none⟩) hglt).trans (HSRC.out i 1 _ hiq (by decide))
            have y3 := (hb3.cell (p := ⟨g, i * 3 + 2, none⟩) hglt).trans (HSRC.out i 2 _ hiq (by decide))
            rw [Nat.add_zero] at y1
            obtain ⟨y, hy⟩ : ∃ y, M.getD i xnil = y := ⟨_, rfl⟩
            rw [hy] at hgy y1 y2 y3
            replace y1 : wr.cell? ⟨g, i * 3, none⟩ = some (.int .i64 y.ts) := y1
            replace y2 : wr.cell? ⟨g, i * 3 + 1, none⟩ = some (.slice y.A y.n y.c) := y2
            replace y3 : wr.cell? ⟨g, i * 3 + 2, none⟩ = some (.string y.ln) := y3
            have d1 := (hb3.cell (p := ⟨b1, o1 + j * 3, none⟩) hlt1).trans c1
            have d2 := (hb3.cell (p := ⟨b1, o1 + j * 3 + 1, none⟩) hlt1).trans c2
            have d3 := (hb3.cell (p := ⟨b1, o1 + j * 3 + 2, none⟩) hlt1).trans c3
            have hl1 : b1 < wr.heap.size := Nat.lt_of_lt_of_le hlt1 hb3.size
            have hl2 : g < wr.heap.size := Nat.lt_of_lt_of_le hglt hb3.size
            have hgx3 := HGX.out.below hb3
            have AH := fun w (h : Below wr.heap.size wr w) => ahead_good x y true w (hgx3.below h) (hgy.below h)
            obtain ⟨z, hz⟩ : ∃ z, aheadB x.b y.b true = z := ⟨_, rfl⟩
            simp only [hz] at AH
            replace AH := Lib.hid AH
            have HKI := Lib.hid hki
            have HYY := Lib.hid hy
            have HZ := Lib.hid hz
            have Hb3 := Lib.hid hb3
            have S0 : Below wr.heap.size wr wr.drew := (Below.refl _ _).drew
            clear hki hiq hgy hy hz hgx3 hb3 hk0
            go_wp2
            go_region_held3 (fun w' => Below wr.heap.size wr w' ∧ w'.cell? ⟨b1, o1 + j * 3, none⟩ = some (.int .i64 x.ts) ∧ w'.cell? ⟨b1, o1 + j * 3 + 1, none⟩ = some (.slice x.A x.n x.c) ∧ w'.cell? ⟨b1, o1 + j * 3 + 2, none⟩ = some (.string x.ln) ∧ w'.cell? ⟨g, i * 3, none⟩ = some (.int .i64 y.ts) ∧ w'.cell? ⟨g, i * 3 + 1, none⟩ = some (.slice y.A y.n y.c) ∧ w'.cell? ⟨g, i * 3 + 2, none⟩ = some (.string y.ln))
              (first | assumption | exact ⟨by assumption, by assumption, by assumption, by assumption, by assumption, by assumption, by assumption⟩ | exact ⟨by assumption, (hb5.cell (p := ⟨_, _, none⟩) hl1).trans d1, (hb5.cell (p := ⟨_, _, none⟩) hl1).trans d2, (hb5.cell (p := ⟨_, _, none⟩) hl1).trans d3, (hb5.cell (p := ⟨_, _, none⟩) hl2).trans y1, (hb5.cell (p := ⟨_, _, none⟩) hl2).trans y2, (hb5.cell (p := ⟨_, _, none⟩) hl2).trans y3⟩)
              (first | (go_at_call 18; refine (AH.out _ S0).mono ?_; rintro e w4 ⟨rfl, hb5⟩; replace hb5 : Below wr.heap.size wr w4 := ⟨hb5.os, hb5.tape, hb5.output, hb5.size, hb5.block⟩))
            all_goals
              have hb4 := hop Hb3.out (Nat.le_refl _) hb5
              clear hb5 d1 d2 d3 y1 y2 y3 S0 AH
              cases z with
              | true =>
                have HK2 := Lib.hid (show ∀ p, i ≤ p → p < j → aheadB x.b (M.getD p xnil).b true = true from fun p h1 h2 => by
                  rcases (by omega : p = i ∨ i + 1 ≤ p) with e | e
                  · rw [e, HYY.out]; exact HZ.out
                  · exact HK.out p (by rw [HKI.out]; exact e) h2)
                have hij : i ≤ j := by omega
                have hik : i < k := by rw [HKI.out]; omega
                go_wp2
                go_round
                case rel => exact ⟨i, hij, by go_num, HK2, hb4⟩
                case measure => simp [intOf]; omega
              | false =>
                have HKK := Lib.hid (show k = 0 ∨ aheadB x.b (M.getD (k - 1) xnil).b true = false from .inr (by
                  rw [HKI.out, Nat.add_sub_cancel, HYY.out]
                  exact HZ.out))
                by_cases hck : cp = k
                · obtain rfl : k = j := by omega
                  obtain rfl : k = cp := hck.symm
                  have d1 := (hb4.cell (p := ⟨b1, o1 + k * 3, none⟩) hlt1).trans c1
                  have d2 := (hb4.cell (p := ⟨b1, o1 + k * 3 + 1, none⟩) hlt1).trans c2
                  have d3 := (hb4.cell (p := ⟨b1, o1 + k * 3 + 2, none⟩) hlt1).trans c3
                  have hs4 := hb4.size
                  have ho4 : OwnE W.heap.size w4 v0.heap.size (.slice none 0 0) [] := OwnE.nil _ _ _
                  have HO4 := Lib.hid ho4
                  have Hb4 := Lib.hid hb4
                  have HGX4 := Lib.hid (HGX.out.below hb4)
                  have src4 := Lib.hid (src_upto (fun p i a h1 h2 => (hb4.cell (p := ⟨g, p * 3 + i, none⟩) hglt).trans (HSRC.out p i a h1 h2)) k)
                  have gm4 := Lib.hid (fun (y : EntX) (hy : y ∈ M.take k) => (HGM.out y (List.mem_of_mem_take hy)).below hb4)
                  have tl := Lib.hid (show (M.take k).length = k from by rw [List.length_take, HML.out]; omega)
                  have kI : (k : Int) ≤ (k : Int) := by omega
                  have kcp : (k : Int) ≤ (k : Int) := by omega
                  clear ho4 hb4
                  go_wp2_with (at_builtin; refine wpList_append_own _ rfl (.tmp 41) (.tmp 44) 37 rfl v0.heap.size 25 i0 (.agg #[.int .i64 0, .slice none 0 0, .string ⟨#[]⟩]) 3 48 Tryz.underlying37 hi hz0 hz1 hz2 rfl (by decide) _ _ _ rfl HO4.out.1 ⟨g, 0, none⟩ k k (rowV EntX.V (M.take k)) rfl (by rw [rowV_len entV_len, tl.out]) src4.out (rowV_one entV_one _) (by show 0 + k ≤ maxLen; unfold maxLen; omega) (by show (0 + k) * 48 ≤ _; omega) hs4 ?_)
                  intro n1 w5 hown1 hgrow1 _
                  have hb5 := Hb4.out.grown hgrow1 hs4 (fun r hr => by cases hr)
                  have ho5 := OwnE.snocs (m := M.take k) HO4.out gm4.out (Nat.le_trans hWw hsz) hgrow1 (by rw [tl.out, List.length_nil, Nat.zero_add]; exact hown1)
                  rw [List.nil_append] at ho5
                  have HO5 := Lib.hid ho5
                  have Hb5 := Lib.hid hb5
                  have hs5 := hb5.size
                  have HGX5 := Lib.hid (HGX.out.below hb5)
                  clear hown1 hgrow1 HO4 d1 d2 d3 src4 gm4 ho5
                  have d1 := (hb5.cell (p := ⟨b1, o1 + k * 3, none⟩) hlt1).trans c1
                  have d2 := (hb5.cell (p := ⟨b1, o1 + k * 3 + 1, none⟩) hlt1).trans c2
                  have d3 := (hb5.cell (p := ⟨b1, o1 + k * 3 + 2, none⟩) hlt1).trans c3
                  clear hb5
                  go_wp2_with (at_builtin; refine wpList_append_own _ rfl (.tmp 46) (.tmp 51) 37 rfl v0.heap.size 25 i0 (.agg #[.int .i64 0, .slice none 0 0, .string ⟨#[]⟩]) 3 48 Tryz.underlying37 hi hz0 hz1 hz2 rfl (by decide) _ _ _ rfl (OwnR.alloc HO5.out.1 _) ⟨w5.heap.size, 0, none⟩ 1 1 (EntX.V x) rfl rfl (new_cells_at _ _ _ _ (by simp)) (entV_one _) (by rw [tl.out]; unfold maxLen; omega) (by rw [tl.out]; omega) (by simp; omega) ?_)
                  intro n2 w6 hown2 hgrow2 _
                  have hb6 := (Hb5.out.alloc hs5 _).grown hgrow2 (by simp; omega) (fun r hr => (World.ownsRow.lt HO5.out.1 r hr).1)
                  have ho6 := OwnE.snoc (x := x) (HO5.out.alloc _) (HGX5.out.below ((Below.refl _ _).alloc (Nat.le_refl _) _)) (Nat.le_trans hWw hsz) hgrow2 (by rw [List.length_take]; exact hown2)
                  have HO6 := Lib.hid ho6
                  have Hb6 := Lib.hid hb6
                  have hs6 := hb6.size
                  have src6 := Lib.hid (src_from (fun p i a h1 h2 => (hb6.cell (p := ⟨g, p * 3 + i, none⟩) hglt).trans (HSRC.out p i a h1 h2)) k)
                  have gm6 := Lib.hid (fun (y : EntX) (hy : y ∈ M.drop k) => (HGM.out y (List.mem_of_mem_drop hy)).below hb6)
                  have dl := Lib.hid (show (M.drop k).length = 0 from by rw [List.length_drop, HML.out, Nat.sub_self])
                  have tl6 := Lib.hid (show (M.take k ++ [x]).length = k + 1 from by rw [List.length_append, tl.out]; rfl)
                  have qj : ((k : Int) - (k : Int)) = ((k - k : Nat) : Int) := by omega
                  have qc : ((k : Int) - (k : Int)) = ((k - k : Nat) : Int) := by omega
                  have rs := Lib.hid (ins_sorted M x k HMS.out (by rw [HML.out]; omega) (fun i h1 h2 => HK.out i h1 (by rw [HML.out] at h2; exact h2)) HKK.out)
                  have rl := Lib.hid (show (M.take k ++ [x] ++ M.drop k).length = k + 1 from by rw [List.length_append, tl6.out, dl.out]; first | done | omega)
                  clear hown2 hgrow2 HO5 d1 d2 d3 ho6 hb6
                  go_wp2_with (at_builtin; refine wpList_append_own _ rfl (.tmp 53) (.tmp 56) 37 rfl v0.heap.size 25 i0 (.agg #[.int .i64 0, .slice none 0 0, .string ⟨#[]⟩]) 3 48 Tryz.underlying37 hi hz0 hz1 hz2 rfl (by decide) _ _ _ rfl HO6.out.1 ⟨g, 0, none⟩ 0 0 (rowV EntX.V (M.drop k)) rfl (by rw [rowV_len entV_len, dl.out]) (fun p u hu => by rw [List.drop_eq_nil_of_le (by rw [HML.out]; exact Nat.le_refl _)] at hu; cases hu) (rowV_one entV_one _) (by rw [tl6.out]; unfold maxLen; omega) (by rw [tl6.out]; omega) hs6 ?_)
                  intro n3 w7 hown3 hgrow3 _
                  have hb7 := Hb6.out.grown hgrow3 hs6 (fun r hr => (World.ownsRow.lt HO6.out.1 r hr).1)
                  have ho7 := OwnE.snocs (m := M.drop k) HO6.out gm6.out (Nat.le_trans hWw hsz) hgrow3 (by rw [tl6.out, dl.out]; simpa [tl6.out, HML.out, Nat.min_eq_left hkj] using hown3)
                  have HO7 := Lib.hid (ho7.mono (Nat.le_refl _) hsz)
                  clear hown3 hgrow3 HO6 ho7 src6 gm6
                  go_wp2
                  go_round
                  case rel => exact ⟨k + 1, _, by omega, by go_num, rl, rs, Lib.hid (fun h => by omega), HO7.out, hop Hb.out (Nat.le_refl _) hb7⟩
                  case measure => simp [intOf]; omega
                · skip
                  have d1 := (hb4.cell (p := ⟨b1, o1 + j * 3, none⟩) hlt1).trans c1
                  have d2 := (hb4.cell (p := ⟨b1, o1 + j * 3 + 1, none⟩) hlt1).trans c2
                  have d3 := (hb4.cell (p := ⟨b1, o1 + j * 3 + 2, none⟩) hlt1).trans c3
                  have hs4 := hb4.size
                  have ho4 : OwnE W.heap.size w4 v0.heap.size (.slice none 0 0) [] := OwnE.nil _ _ _
                  have HO4 := Lib.hid ho4
                  have Hb4 := Lib.hid hb4
                  have HGX4 := Lib.hid (HGX.out.below hb4)
                  have src4 := Lib.hid (src_upto (fun p i a h1 h2 => (hb4.cell (p := ⟨g, p * 3 + i, none⟩) hglt).trans (HSRC.out p i a h1 h2)) k)
                  have gm4 := Lib.hid (fun (y : EntX) (hy : y ∈ M.take k) => (HGM.out y (List.mem_of_mem_take hy)).below hb4)
                  have tl := Lib.hid (show (M.take k).length = k from by rw [List.length_take, HML.out]; omega)
                  have kI : (k : Int) ≤ (j : Int) := by omega
                  have kcp : (k : Int) ≤ (cp : Int) := by omega
                  clear ho4 hb4
                  go_wp2_with (at_builtin; refine wpList_append_own _ rfl (.tmp 41) (.tmp 44) 37 rfl v0.heap.size 25 i0 (.agg #[.int .i64 0, .slice none 0 0, .string ⟨#[]⟩]) 3 48 Tryz.underlying37 hi hz0 hz1 hz2 rfl (by decide) _ _ _ rfl HO4.out.1 ⟨g, 0, none⟩ k cp (rowV EntX.V (M.take k)) rfl (by rw [rowV_len entV_len, tl.out]) src4.out (rowV_one entV_one _) (by show 0 + k ≤ maxLen; unfold maxLen; omega) (by show (0 + k) * 48 ≤ _; omega) hs4 ?_)
                  intro n1 w5 hown1 hgrow1 _
                  have hb5 := Hb4.out.grown hgrow1 hs4 (fun r hr => by cases hr)
                  have ho5 := OwnE.snocs (m := M.take k) HO4.out gm4.out (Nat.le_trans hWw hsz) hgrow1 (by rw [tl.out, List.length_nil, Nat.zero_add]; exact hown1)
                  rw [List.nil_append] at ho5
                  have HO5 := Lib.hid ho5
                  have Hb5 := Lib.hid hb5
                  have hs5 := hb5.size
                  have HGX5 := Lib.hid (HGX.out.below hb5)
                  clear hown1 hgrow1 HO4 d1 d2 d3 src4 gm4 ho5
                  have d1 := (hb5.cell (p := ⟨b1, o1 + j * 3, none⟩) hlt1).trans c1
                  have d2 := (hb5.cell (p := ⟨b1, o1 + j * 3 + 1, none⟩) hlt1).trans c2
                  have d3 := (hb5.cell (p := ⟨b1, o1 + j * 3 + 2, none⟩) hlt1).trans c3
                  clear hb5
                  go_wp2_with (at_builtin; refine wpList_append_own _ rfl (.tmp 46) (.tmp 51) 37 rfl v0.heap.size 25 i0 (.agg #[.int .i64 0, .slice none 0 0, .string ⟨#[]⟩]) 3 48 Tryz.underlying37 hi hz0 hz1 hz2 rfl (by decide) _ _ _ rfl (OwnR.alloc HO5.out.1 _) ⟨w5.heap.size, 0, none⟩ 1 1 (EntX.V x) rfl rfl (new_cells_at _ _ _ _ (by simp)) (entV_one _) (by rw [tl.out]; unfold maxLen; omega) (by rw [tl.out]; omega) (by simp; omega) ?_)
                  intro n2 w6 hown2 hgrow2 _
                  have hb6 := (Hb5.out.alloc hs5 _).grown hgrow2 (by simp; omega) (fun r hr => (World.ownsRow.lt HO5.out.1 r hr).1)
                  have ho6 := OwnE.snoc (x := x) (HO5.out.alloc _) (HGX5.out.below ((Below.refl _ _).alloc (Nat.le_refl _) _)) (Nat.le_trans hWw hsz) hgrow2 (by rw [List.length_take]; exact hown2)
                  have HO6 := Lib.hid ho6
                  have Hb6 := Lib.hid hb6
                  have hs6 := hb6.size
                  have src6 := Lib.hid (src_from (fun p i a h1 h2 => (hb6.cell (p := ⟨g, p * 3 + i, none⟩) hglt).trans (HSRC.out p i a h1 h2)) k)
                  have gm6 := Lib.hid (fun (y : EntX) (hy : y ∈ M.drop k) => (HGM.out y (List.mem_of_mem_drop hy)).below hb6)
                  have dl := Lib.hid (show (M.drop k).length = j - k from by rw [List.length_drop, HML.out])
                  have tl6 := Lib.hid (show (M.take k ++ [x]).length = k + 1 from by rw [List.length_append, tl.out]; rfl)
                  have qj : ((j : Int) - (k : Int)) = ((j - k : Nat) : Int) := by omega
                  have qc : ((cp : Int) - (k : Int)) = ((cp - k : Nat) : Int) := by omega
                  have rs := Lib.hid (ins_sorted M x k HMS.out (by rw [HML.out]; omega) (fun i h1 h2 => HK.out i h1 (by rw [HML.out] at h2; exact h2)) HKK.out)
                  have rl := Lib.hid (show (M.take k ++ [x] ++ M.drop k).length = j + 1 from by rw [List.length_append, tl6.out, dl.out]; first | done | omega)
                  clear hown2 hgrow2 HO5 d1 d2 d3 ho6 hb6
                  go_wp2_with (at_builtin; refine wpList_append_own _ rfl (.tmp 53) (.tmp 56) 37 rfl v0.heap.size 25 i0 (.agg #[.int .i64 0, .slice none 0 0, .string ⟨#[]⟩]) 3 48 Tryz.underlying37 hi hz0 hz1 hz2 rfl (by decide) _ _ _ rfl HO6.out.1 ⟨g, k * 3, none⟩ (j - k) (cp - k) (rowV EntX.V (M.drop k)) rfl (by rw [rowV_len entV_len, dl.out]) src6.out (rowV_one entV_one _) (by rw [tl6.out]; unfold maxLen; omega) (by rw [tl6.out]; omega) hs6 ?_)
                  intro n3 w7 hown3 hgrow3 _
                  have hb7 := Hb6.out.grown hgrow3 hs6 (fun r hr => (World.ownsRow.lt HO6.out.1 r hr).1)
                  have ho7 := OwnE.snocs (m := M.drop k) HO6.out gm6.out (Nat.le_trans hWw hsz) hgrow3 (by rw [tl6.out, dl.out]; simpa [tl6.out, HML.out, Nat.min_eq_left hkj] using hown3)
                  have HO7 := Lib.hid (ho7.mono (Nat.le_refl _) hsz)
                  clear hown3 hgrow3 HO6 ho7 src6 gm6
                  go_wp2
                  go_round
                  case rel => exact ⟨j + 1, _, by omega, by go_num, rl, rs, Lib.hid (fun h => by omega), HO7.out, hop Hb.out (Nat.le_refl _) hb7⟩
                  case measure => simp [intOf]; omega
    · have hjN : ¬ (j : Int) < (L.length : Int) := by omega
      rcases Nat.eq_zero_or_pos j with hj0 | hj0
      · obtain rfl := HO0.out hj0
        have HBA := Lib.hid (hop HbW.out h0 hb)
        have E1 := Lib.hid (fun w => entSorted_any true none 0 0 [] (by decide) 0 w (Ents.none _ _))
        have E2 := Lib.hid (fun w => entSorted_any false none 0 0 [] (by decide) 0 w (Ents.none _ _))
        obtain ⟨v0, hv0⟩ : ∃ v, v = wr := ⟨_, rfl⟩
        subst hv0
        clear hb hown HO0 HMS HML hj hj0 hsz
        go_wp2
        go_loopw [9, 10] (fun bv iv w3 => bv = .slice none 0 0 ∧ iv = .int .i64 (-1) ∧ Below W.heap.size W w3) (fun _ _ _ => 0)
        case atStart => exact ⟨rfl, rfl, HBA.out⟩
        case round =>
          obtain ⟨rfl, rfl, hb3⟩ := hrel
          have H3 := Lib.hid hb3
          clear hb3
          go_wp2
          go_quiet (fail)
          generalize hw4 : World.drewN _ _ = w4
          have hb4 : Below W.heap.size W w4 := by rw [← hw4]; exact below_drewN H3.out _
          have H4 := Lib.hid hb4
          clear hw4 hb4 H3
          go_wp2_with fail
          refine (E1.out _).mono ?_
          rintro e w5 ⟨rfl, hx⟩
          have H5 := Lib.hid (hop H4.out h0 hx)
          clear hx
          rw [show sortedE true [] = true from rfl]
          go_wp2_with fail
          refine (E2.out _).mono ?_
          rintro e w6 ⟨rfl, hx⟩
          have H6 := Lib.hid (hop H5.out h0 hx)
          clear hx
          rw [show sortedE false [] = true from rfl]
          go_wp2_with fail
          refine (E2.out _).mono ?_
          rintro e w7 ⟨rfl, hx⟩
          have H7 := Lib.hid (hop H6.out h0 hx)
          clear hx
          rw [show sortedE false [] = true from rfl]
          go_wp2
          go_ret
          exact ⟨by first | rfl | (simp; done), H7.out⟩
      · have hents := hown.ents
        obtain ⟨g, cp, rfl, hgB, hglt, hcp, hsrc⟩ := hown.src (by rw [HML.out]; exact hj0)
        have hgm := hown.2
        have hpe : Ents W.heap.size wr (some ⟨g, 0, none⟩) j M := by
          obtain ⟨A2, c2, e2, _, _, h2⟩ := hents
          injection e2 with e2 e3 e4
          subst e2
          rw [HML.out] at h2
          exact h2
        obtain ⟨v0, hv0⟩ : ∃ v, v = wr := ⟨_, rfl⟩
        subst hv0
        have hml := HML.out
        rw [hml] at hcp
        rw [hml]
        have HBA := Lib.hid (hop HbW.out h0 hb)
        have HSRC := Lib.hid hsrc
        have HGM := Lib.hid hgm
        have HPE := Lib.hid hpe
        have hj10 : j ≤ 10 := by omega
        have hw1 : IntKind.i64.wrap ((j : Int) - 1) = (j : Int) - 1 := by rw [IntKind.wrap_i64]; omega
        clear hb hown HO0 hml hsrc hgm hj hpe hents
        go_wp2
        go_loopw [9, 10] (fun bv iv w3 => ∃ (k : Nat) (K : List EntX) (z : Int), k ≤ j ∧ iv = .int .i64 z ∧ Hid (z = (k : Int) - 1) ∧ Hid (K = (M.drop k).reverse) ∧ OwnE W.heap.size w3 v0.heap.size bv K ∧ Below v0.heap.size v0 w3) (fun _ iv _ => (intOf iv + 1).toNat)
        case atStart => exact ⟨j, [], _, Nat.le_refl _, rfl, Lib.hid rfl, Lib.hid (by rw [List.drop_eq_nil_of_le (by rw [HML.out]; exact Nat.le_refl _)]; rfl), OwnE.nil _ _ _, Below.refl _ _⟩
        case round =>
          obtain ⟨k, K, z, hkj, rfl, HZ, HK, hown3, hb3⟩ := hrel
          have hs3 := hb3.size
          have hKl : K.length = j - k := by rw [HK.out, List.length_reverse, List.length_drop, HML.out]
          rcases Nat.eq_zero_or_pos k with hk0 | hk0
          · obtain rfl : z = -1 := by rw [HZ.out, hk0]; rfl
            have HKM := Lib.hid (show K = M.reverse from by rw [HK.out, hk0, List.drop_zero])
            have hKj : K.length = j := by omega
            obtain ⟨i, hij⟩ : ∃ i, j = i + 1 := ⟨j - 1, by omega⟩
            have hwp : IntKind.i64.wrap ((j : Int) - 1) = (i : Int) := by rw [IntKind.wrap_i64]; omega
            have q1 : ((j : Int) == 0) = false := by rw [beq_eq_false_iff_ne]; omega
            have q2 : ¬ (j : Int) = 0 := by omega
            have q4 : (i : Int) < (j : Int) := by omega
            have q5 : (0 : Int) < (j : Int) := by omega
            have q6 : ¬ j = 0 := by omega
            have q7 : (0 : Int) ≤ (j : Int) - 1 := by omega
            have q8 : (j : Int) - 1 < (j : Int) := by omega
            have q9 : ((j : Int) - 1).toNat = j - 1 := by omega
            have xq : M[0]? = some (M.getD 0 xnil) := by
              have := HML.out
              rw [List.getD_eq_getElem?_getD, List.getElem?_eq_getElem (by omega)]
              rfl
            have xg := (HGM.out _ (List.mem_of_getElem? xq)).below hb3
            have x1 := (hb3.cell (p := ⟨g, 0 * 3 + 0, none⟩) hglt).trans (HSRC.out 0 0 _ xq (by decide))
            have x2 := (hb3.cell (p := ⟨g, 0 * 3 + 1, none⟩) hglt).trans (HSRC.out 0 1 _ xq (by decide))
            have x3 := (hb3.cell (p := ⟨g, 0 * 3 + 2, none⟩) hglt).trans (HSRC.out 0 2 _ xq (by decide))
            rw [Nat.add_zero] at x1
            have yq : M[i]? = some (M.getD i xnil) := by
              have := HML.out
              rw [List.getD_eq_getElem?_getD, List.getElem?_eq_getElem (by omega)]
              rfl
            have yg := (HGM.out _ (List.mem_of_getElem? yq)).below hb3
            have y1 := (hb3.cell (p := ⟨g, i * 3 + 0, none⟩) hglt).trans (HSRC.out i 0 _ yq (by decide))
            have y2 := (hb3.cell (p := ⟨g, i * 3 + 1, none⟩) hglt).trans (HSRC.out i 1 _ yq (by decide))
            have y3 := (hb3.cell (p := ⟨g, i * 3 + 2, none⟩) hglt).trans (HSRC.out i 2 _ yq (by decide))
            rw [Nat.add_zero] at y1
            have hle := level_ends M HMS.out (by rw [HML.out]; exact hj0)
            rw [HML.out, show j - 1 = i by omega] at hle
            have hents3 := hown3.ents
            obtain ⟨x, hx⟩ : ∃ y, M.getD 0 xnil = y := ⟨_, rfl⟩
            obtain ⟨y, hy⟩ : ∃ y, M.getD i xnil = y := ⟨_, rfl⟩
            rw [hx] at xg x1 x2 x3 hle
            rw [hy] at yg y1 y2 y3 hle
            replace x1 : wr.cell? ⟨g, 0, none⟩ = some (.int .i64 x.ts) := by rw [Nat.zero_mul] at x1; exact x1
            replace x2 : wr.cell? ⟨g, 1, none⟩ = some (.slice x.A x.n x.c) := by rw [Nat.zero_mul] at x2; exact x2
            replace x3 : wr.cell? ⟨g, 2, none⟩ = some (.string x.ln) := by rw [Nat.zero_mul] at x3; exact x3
            replace y1 : wr.cell? ⟨g, i * 3, none⟩ = some (.int .i64 y.ts) := y1
            replace y2 : wr.cell? ⟨g, i * 3 + 1, none⟩ = some (.slice y.A y.n y.c) := y2
            replace y3 : wr.cell? ⟨g, i * 3 + 2, none⟩ = some (.string y.ln) := y3
            have hl2 : g < wr.heap.size := Nat.lt_of_lt_of_le hglt hb3.size
            have SM := fun w (h : Below wr.heap.size wr w) => same_good x y w (xg.below h) (yg.below h)
            obtain ⟨sm, hsm⟩ : ∃ z, sameE x.b y.b = z := ⟨_, rfl⟩
            simp only [hsm] at SM
            rw [hsm] at hle
            replace SM := Lib.hid SM
            obtain ⟨AK, ck, rfl, hck1, _, hpk⟩ := hents3
            rw [hKj] at hpk hck1
            rw [hKj]
            have E1 := fun w (h : Below v0.heap.size v0 w) => entSorted_any true (some ⟨g, 0, none⟩) j cp M (by omega) W.heap.size w (HPE.out.below h)
            have E2 := fun w (h : Below wr.heap.size wr w) => entSorted_any false AK j ck K (by omega) W.heap.size w (hpk.below h)
            have E3 := fun w (h : Below v0.heap.size v0 w) => entSorted_any false (some ⟨g, 0, none⟩) j cp M (by omega) W.heap.size w (HPE.out.below h)
            simp only [rises M HMS.out] at E1
            simp only [HKM.out, falls_back M HMS.out] at E2
            simp only [hle] at E3
            replace E1 := Lib.hid E1
            replace E2 := Lib.hid E2
            replace E3 := Lib.hid E3
            have Hb3 := Lib.hid hb3
            have S0 : Below wr.heap.size wr wr.drew := (Below.refl _ _).drew
            clear hij hle hx hy hsm xq yq xg yg hpk hown3 hb3 hKl hKj hk0 hw1 q7 q8 q9
            go_wp2
            go_region_held3 (fun w' => Below wr.heap.size wr w' ∧ w'.cell? ⟨g, 0, none⟩ = some (.int .i64 x.ts) ∧ w'.cell? ⟨g, 1, none⟩ = some (.slice x.A x.n x.c) ∧ w'.cell? ⟨g, 2, none⟩ = some (.string x.ln) ∧ w'.cell? ⟨g, i * 3, none⟩ = some (.int .i64 y.ts) ∧ w'.cell? ⟨g, i * 3 + 1, none⟩ = some (.slice y.A y.n y.c) ∧ w'.cell? ⟨g, i * 3 + 2, none⟩ = some (.string y.ln))
              (first | assumption | exact ⟨by assumption, by assumption, by assumption, by assumption, by assumption, by assumption, by assumption⟩ | exact ⟨by assumption, (hb5.cell (p := ⟨_, _, none⟩) hl2).trans x1, (hb5.cell (p := ⟨_, _, none⟩) hl2).trans x2, (hb5.cell (p := ⟨_, _, none⟩) hl2).trans x3, (hb5.cell (p := ⟨_, _, none⟩) hl2).trans y1, (hb5.cell (p := ⟨_, _, none⟩) hl2).trans y2, (hb5.cell (p := ⟨_, _, none⟩) hl2).trans y3⟩)
              (first | (go_at_call 17; refine (SM.out _ S0).mono ?_; rintro e w4 ⟨rfl, hb5⟩; replace hb5 : Below wr.heap.size wr w4 := ⟨hb5.os, hb5.tape, hb5.output, hb5.size, hb5.block⟩))
            all_goals
              have H4 := Lib.hid (show Below wr.heap.size wr _ from hb5)
              clear hb5 x1 x2 x3 y1 y2 y3 S0 SM
              go_wp2_with fail
              refine (E1.out _ (hop Hb3.out (Nat.le_refl _) H4.out)).mono ?_
              rintro e w5 ⟨rfl, hx⟩
              have H5 := Lib.hid (hop H4.out (Nat.le_refl _) hx)
              clear hx
              go_wp2_with fail
              refine (E2.out _ H5.out).mono ?_
              rintro e w6 ⟨rfl, hx⟩
              have H6 := Lib.hid (hop H5.out (Nat.le_refl _) hx)
              clear hx
              go_wp2_with fail
              refine (E3.out _ (hop Hb3.out (Nat.le_refl _) H6.out)).mono ?_
              rintro e w7 ⟨rfl, hx⟩
              have H7 := Lib.hid (hop HBA.out h0 (hop Hb3.out (Nat.le_refl _) (hop H6.out (Nat.le_refl _) hx)))
              clear hx
              go_wp2
              go_ret
              exact ⟨by first | rfl | (simp; done), H7.out⟩
          · obtain ⟨i, hki⟩ : ∃ i, k = i + 1 := ⟨k - 1, by omega⟩
            obtain rfl : z = (i : Int) := by have := HZ.out; omega
            have hwp : IntKind.i64.wrap ((i : Int) - 1) = (i : Int) - 1 := by rw [IntKind.wrap_i64]; omega
            have q4 : (i : Int) < (j : Int) := by omega
            have yq : M[i]? = some (M.getD i xnil) := by
              have := HML.out
              rw [List.getD_eq_getElem?_getD, List.getElem?_eq_getElem (by omega)]
              rfl
            have yg := (HGM.out _ (List.mem_of_getElem? yq)).below hb3
            have y1 := (hb3.cell (p := ⟨g, i * 3 + 0, none⟩) hglt).trans (HSRC.out i 0 _ yq (by decide))
            have y2 := (hb3.cell (p := ⟨g, i * 3 + 1, none⟩) hglt).trans (HSRC.out i 1 _ yq (by decide))
            have y3 := (hb3.cell (p := ⟨g, i * 3 + 2, none⟩) hglt).trans (HSRC.out i 2 _ yq (by decide))
            rw [Nat.add_zero] at y1
            have hrev : (M.drop i).reverse = K ++ [M.getD i xnil] := by
              have hlt : i < M.length := by rw [HML.out]; omega
              rw [HK.out, hki, List.drop_eq_getElem_cons hlt, List.reverse_cons, List.getD_eq_getElem?_getD, List.getElem?_eq_getElem hlt]
              rfl
            obtain ⟨y, hy⟩ : ∃ y, M.getD i xnil = y := ⟨_, rfl⟩
            rw [hy] at yg y1 y2 y3 hrev
            replace y1 : wr.cell? ⟨g, i * 3, none⟩ = some (.int .i64 y.ts) := y1
            replace y2 : wr.cell? ⟨g, i * 3 + 1, none⟩ = some (.slice y.A y.n y.c) := y2
            replace y3 : wr.cell? ⟨g, i * 3 + 2, none⟩ = some (.string y.ln) := y3
            have hKl10 : K.length ≤ 10 := by omega
            have HREV := Lib.hid hrev.symm
            have HGY := Lib.hid yg
            have HO3 := Lib.hid hown3
            have Hb3 := Lib.hid hb3
            have hij : i ≤ j := by omega
            clear hki hy yq yg hrev hown3 hb3 hk0 hKl
            go_wp2_with (at_builtin; refine wpList_append_own _ rfl (.tmp 65) (.tmp 70) 37 rfl v0.heap.size 25 i0 (.agg #[.int .i64 0, .slice none 0 0, .string ⟨#[]⟩]) 3 48 Tryz.underlying37 hi hz0 hz1 hz2 rfl (by decide) _ _ _ rfl (OwnR.alloc HO3.out.1 _) ⟨wr.heap.size, 0, none⟩ 1 1 (EntX.V y) rfl rfl (new_cells_at _ _ _ _ (by simp)) (entV_one _) (by unfold maxLen; omega) (by omega) (by simp; omega) ?_)
            intro n2 w6 hown2 hgrow2 _
            have hb6 := (Hb3.out.alloc hs3 _).grown hgrow2 (by simp; omega) (fun r hr => (World.ownsRow.lt HO3.out.1 r hr).1)
            have ho6 := OwnE.snoc (x := y) (HO3.out.alloc _) (HGY.out.below ((Below.refl _ _).alloc (Nat.le_refl _) _)) HBA.out.size hgrow2 hown2
            clear hown2 hgrow2
            go_wp2
            go_round
            case rel => exact ⟨i, _, _, hij, rfl, Lib.hid rfl, HREV, ho6, hb6⟩
            case measure => simp [intOf]
end Go.Proofs.YtdbflmkjcgiodaaGreatDoor
