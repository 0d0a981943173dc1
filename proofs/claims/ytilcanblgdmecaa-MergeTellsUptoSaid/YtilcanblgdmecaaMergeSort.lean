/- Entries put in their order one by one, held against one another as the document's: the walk of sorted.
   What the laws of merging stand on: lists that are in their order are merged; how many entries there are. -/
import Derived.Test.YtilcanblgdmecaaMergeFirst
import Derived.Test.YtilcanblgdmecaaEntSortedLaw
import Derived.Test.YtilcanblgdmecaaRefEntOrd
import Derived.Laws.AppendOwnNone
namespace Go.Proofs.Ytilcanblgdmecaa
open Go.RowKit
set_option linter.unusedVariables false
set_option linter.unusedSimpArgs false

/-- none comes ahead of one that it stands behind -/
def SortedA (asc : Bool) (l : List EntX) : Prop := l.Pairwise fun x y => aheadB y.b x.b asc = false
theorem ins_sortedA (asc : Bool) (l : List EntX) (x : EntX) (k : Nat) (h : SortedA asc l) (hk : k ≤ l.length) (h1 : ∀ j, k ≤ j → j < l.length → aheadB x.b (l.getD j xnil).b asc = true) (h2 : k = 0 ∨ aheadB x.b (l.getD (k - 1) xnil).b asc = false) : SortedA asc (l.take k ++ [x] ++ l.drop k) := by
  have hs : SortedA asc (l.take k ++ l.drop k) := by rw [List.take_append_drop]; exact h
  obtain ⟨s1, s2, s3⟩ := List.pairwise_append.1 hs
  rw [List.append_assoc]
  refine List.pairwise_append.2 ⟨s1, ?_, ?_⟩
  · refine List.pairwise_append.2 ⟨List.pairwise_singleton _ _, s2, fun a ha y hy => ?_⟩
    rw [List.mem_singleton.1 ha]
    obtain ⟨i, hi, rfl⟩ := List.mem_iff_getElem.1 hy
    rw [List.length_drop] at hi
    have := h1 (k + i) (by omega) (by omega)
    rw [List.getD_eq_getElem?_getD, List.getElem?_eq_getElem (by omega)] at this
    rw [List.getElem_drop]
    exact ahead_anti this
  · intro a ha y hy
    rcases List.mem_append.1 hy with hy | hy
    · rw [List.mem_singleton.1 hy]
      rcases h2 with h2 | h2
      · subst h2
        rw [List.take_zero] at ha
        exact absurd ha List.not_mem_nil
      · obtain ⟨i, hi, rfl⟩ := List.mem_iff_getElem.1 ha
        rw [List.length_take] at hi
        rw [List.getElem_take]
        rw [List.getD_eq_getElem?_getD, List.getElem?_eq_getElem (by omega)] at h2
        rcases Nat.lt_or_ge i (k - 1) with h3 | h3
        · have := List.pairwise_iff_getElem.1 h i (k - 1) (by omega) (by omega) h3
          exact ahead_not h2 this
        · obtain rfl : i = k - 1 := by omega
          exact h2
    · exact s3 a ha y hy
theorem sortedA_E {asc : Bool} {l : List EntX} (h : SortedA asc l) : sortedE asc l = true := by
  cases l with
  | nil => rfl
  | cons x l =>
    show sortedGo asc x l = true
    induction l generalizing x with
    | nil => rfl
    | cons y l ih =>
      have h' := List.pairwise_cons.1 h
      rw [sortedGo, h'.1 y List.mem_cons_self, if_neg (by decide)]
      exact ih y h'.2

set_option maxRecDepth 100000 in
set_option maxHeartbeats 6400000 in
theorem sorted_any (B : Nat) (A : Option Addr) (c : Nat) (l : List EntX) (asc : Bool) (hL : l.length ≤ 100) (hln : ∀ x ∈ l, x.n ≤ 1048576) (W : World) (hB : B ≤ W.heap.size) (h1 : Ents B W A l.length l) :
    Calls Try.prog 9 #[.slice A l.length c, .bool asc, .bool true] W fun e w' => ∃ v M, e = .returned v ∧ OwnE B w' W.heap.size v M ∧ SortedA asc M ∧ M.length = l.length ∧ (∀ x ∈ M, x.n ≤ 1048576) ∧ Below W.heap.size W w' := by
  have h0 : W.heap.size ≤ W.heap.size := Nat.le_refl _
  obtain ⟨i0, hi, hz0, hz1, hz2⟩ := info_parts infoEnt
  have HPL := Lib.hid h1
  have HLN := Lib.hid hln
  have hWw := hB
  clear h1 hln
  go_enter Try.func9, Try.ntmps9
  go_wp2
  go_loopw [7, 8] (fun ov iv wr => ∃ (j : Nat) (M : List EntX), j ≤ l.length ∧ iv = .int .i64 j ∧ Hid (M.length = j) ∧ Hid (SortedA asc M) ∧ Hid (∀ x ∈ M, x.n ≤ 1048576) ∧ Hid (j = 0 → ov = .slice none 0 0) ∧ OwnE B wr W.heap.size ov M ∧ Below W.heap.size W wr) (fun _ iv _ => l.length - (intOf iv).toNat)
  case atStart => exact ⟨0, [], Nat.zero_le _, rfl, Lib.hid rfl, Lib.hid List.Pairwise.nil, Lib.hid (fun x hx => absurd hx List.not_mem_nil), Lib.hid fun _ => rfl, OwnE.nil _ _ _, Below.refl _ _⟩
  case round =>
    obtain ⟨j, M, hjL, rfl, HML, HMS, HMN, HO0, hown, hb⟩ := hrel
    have hsz := hb.size
    by_cases hj : j < l.length
    · have hjI : (j : Int) < (l.length : Int) := by omega
      obtain ⟨b1, o1, rfl, hlt1, hc1⟩ := (HPL.out.below hb).at_ (by omega)
      obtain ⟨c1, c2, c3, gx⟩ := hc1 j hj
      obtain ⟨x, hx⟩ : ∃ x, l.getD j xnil = x := ⟨_, rfl⟩
      rw [hx] at c1 c2 c3 gx
      have HGX := Lib.hid gx
      have HXN := Lib.hid (show x.n ≤ 1048576 by rw [← hx]; exact HLN.out _ (by rw [List.getD_eq_getElem?_getD, List.getElem?_eq_getElem hj]; exact List.getElem_mem _))
      clear hc1 hx gx
      rcases Nat.eq_zero_or_pos j with hj0 | hj0
      · obtain rfl := HO0.out hj0
        have hM : M = [] := List.eq_nil_of_length_eq_zero (by rw [HML.out]; exact hj0)
        subst hM
        have HJ0 := Lib.hid hj0
        obtain ⟨v0, hv0⟩ : ∃ v, v = wr := ⟨_, rfl⟩
        subst hv0
        have Hb := Lib.hid hb
        clear hb hown HML HMS HMN HO0 hj0
        go_wp2
        go_loopw [9] (fun av w3 => av = .int .i64 0 ∧ ∃ q, w3 = v0.drewN q) (fun _ _ => 0)
        case atStart => exact ⟨rfl, 0, rfl⟩
        case round =>
          obtain ⟨rfl, q, rfl⟩ := hrel
          have q0 : Below v0.heap.size v0 (v0.drewN q) := below_drewN (Below.refl _ _) q
          go_wp2
          go_quiet (fail)
          generalize hw4 : World.drewN _ _ = w4
          have hb4 : Below v0.heap.size v0 w4 := by rw [← hw4]; exact below_drewN q0 _
          clear hw4 q0
          have d1 := (hb4.cell (p := ⟨b1, o1 + j * 3, none⟩) hlt1).trans c1
          have d2 := (hb4.cell (p := ⟨b1, o1 + j * 3 + 1, none⟩) hlt1).trans c2
          have d3 := (hb4.cell (p := ⟨b1, o1 + j * 3 + 2, none⟩) hlt1).trans c3
          have hs4 := hb4.size
          have hs4' : v0.heap.size ≤ w4.heap.size + 1 := by omega
          have Hb4 := Lib.hid hb4
          have HGX4 := Lib.hid (HGX.out.below hb4)
          have MD := Lib.hid (own_made w4 x (.cells #[.int .i64 x.ts, .slice x.A x.n x.c, .string x.ln] 26) _ (grownCap_ge w4 1 0 26) (grownCap_le_maxLen w4 1 0 26 (by decide)) v0.heap.size hs4')
          clear hb4
          go_wp2_with (at_builtin; refine wpList_append_own_none rfl (.tmp 53) (.tmp 56) 34 rfl v0.heap.size 26 i0 3 Try.underlying34 hi _ _ _ rfl MD.out rfl ?_)
          go_wp2
          go_round
          case rel => exact ⟨j + 1, [x], by omega, by go_num, Lib.hid (by rw [HJ0.out]; rfl), Lib.hid (List.pairwise_singleton _ _), Lib.hid (fun y hy => by rw [List.mem_singleton.1 hy]; exact HXN.out), Lib.hid (fun h => by omega), ⟨OwnR.mono MD.out hsz, fun y hy => by
            rw [List.mem_singleton.1 hy]
            exact HGX4.out.below (below_drewN ((((Below.refl _ _).alloc (Nat.le_refl _) _)).alloc (by simp) _) 1)⟩, hop Hb.out (Nat.le_refl _) (below_drewN ((Hb4.out.alloc hs4 _).alloc (by simp; omega) _) 1)⟩
          case measure => simp [intOf]; omega
      · obtain ⟨g, cp, rfl, hgB, hglt, hcp, hsrc⟩ := hown.src (by rw [HML.out]; exact hj0)
        have hgm := hown.2
        obtain ⟨v0, hv0⟩ : ∃ v, v = wr := ⟨_, rfl⟩
        subst hv0
        have hml := HML.out
        rw [hml] at hcp
        rw [hml]
        have Hb := Lib.hid hb
        have HSRC := Lib.hid hsrc
        have HGM := Lib.hid hgm
        clear hb hown HO0 hml hsrc hgm
        go_wp2
        go_loopw [9] (fun av w3 => ∃ k : Nat, k ≤ j ∧ av = .int .i64 k ∧ Hid (∀ i, k ≤ i → i < j → aheadB x.b (M.getD i xnil).b asc = true) ∧ Below v0.heap.size v0 w3) (fun av _ => (intOf av).toNat)
        case atStart => exact ⟨j, Nat.le_refl _, rfl, Lib.hid (fun i h1 h2 => by omega), Below.refl _ _⟩
        case round =>
          obtain ⟨k, hkj, rfl, HK, hb3⟩ := hrel
          rcases Nat.eq_zero_or_pos k with hk0 | hk0
          · have q1 : decide (0 < k) = false := decide_eq_false (by omega)
            have q2 : ¬ 0 < k := by omega
            have q3 : ¬ (0 : Int) < (k : Int) := by omega
            have HKK := Lib.hid (show k = 0 ∨ aheadB x.b (M.getD (k - 1) xnil).b asc = false from .inl hk0)
            have hck0 : ¬ cp = k := by omega
            have q0 := hb3
            clear hb3 hk0
            go_wp2
            go_quiet (fail)
            generalize hw4 : World.drewN _ _ = w4
            have hb4 : Below v0.heap.size v0 w4 := by rw [← hw4]; exact below_drewN q0 _
            clear hw4 q0
            have d1 := (hb4.cell (p := ⟨b1, o1 + j * 3, none⟩) hlt1).trans c1
            have d2 := (hb4.cell (p := ⟨b1, o1 + j * 3 + 1, none⟩) hlt1).trans c2
            have d3 := (hb4.cell (p := ⟨b1, o1 + j * 3 + 2, none⟩) hlt1).trans c3
            have hs4 := hb4.size
            have ho4 : OwnE B w4 v0.heap.size (.slice none 0 0) [] := OwnE.nil _ _ _
            have HO4 := Lib.hid ho4
            have Hb4 := Lib.hid hb4
            have HGX4 := Lib.hid (HGX.out.below hb4)
            have src4 := Lib.hid (src_upto (fun p i a h1 h2 => (hb4.cell (p := ⟨g, p * 3 + i, none⟩) hglt).trans (HSRC.out p i a h1 h2)) k)
            have gm4 := Lib.hid (fun (y : EntX) (hy : y ∈ M.take k) => (HGM.out y (List.mem_of_mem_take hy)).below hb4)
            have tl := Lib.hid (show (M.take k).length = k from by rw [List.length_take, HML.out]; omega)
            have kI : (k : Int) ≤ (j : Int) := by omega
            have kcp : (k : Int) ≤ (cp : Int) := by omega
            clear ho4 hb4
            go_wp2_with (at_builtin; refine wpList_append_own _ rfl (.tmp 41) (.tmp 44) 34 rfl v0.heap.size 26 i0 (.agg #[.int .i64 0, .slice none 0 0, .string ⟨#[]⟩]) 3 48 Try.underlying34 hi hz0 hz1 hz2 rfl (by decide) _ _ _ rfl HO4.out.1 ⟨g, 0, none⟩ k cp (rowV EntX.V (M.take k)) rfl (by rw [rowV_len entV_len, tl.out]) src4.out (rowV_one entV_one _) (by show 0 + k ≤ maxLen; unfold maxLen; omega) (by show (0 + k) * 48 ≤ _; omega) hs4 ?_)
            intro n1 w5 hown1 hgrow1 _
            have hb5 := Hb4.out.grown hgrow1 hs4 (fun r hr => by cases hr)
            have ho5 := OwnE.snocs (m := M.take k) HO4.out gm4.out (Nat.le_trans hWw hsz) hgrow1 (by rw [tl.out, List.length_nil, Nat.zero_add]; exact hown1)
            rw [List.nil_append] at ho5
            have HO5 := Lib.hid ho5
            have Hb5 := Lib.hid hb5
            have hs5 := hb5.size
            have HGX5 := Lib.hid (HGX.out.below hb5)
            clear hown1 hgrow1 HO4 d1 d2 d3 src4 gm4 ho5
            have d1 := (hb5.cell (p := ⟨b1, o1 + j * 3, none⟩) hlt1).trans c1
            have d2 := (hb5.cell (p := ⟨b1, o1 + j * 3 + 1, none⟩) hlt1).trans c2
            have d3 := (hb5.cell (p := ⟨b1, o1 + j * 3 + 2, none⟩) hlt1).trans c3
            clear hb5
            go_wp2_with (at_builtin; refine wpList_append_own _ rfl (.tmp 46) (.tmp 51) 34 rfl v0.heap.size 26 i0 (.agg #[.int .i64 0, .slice none 0 0, .string ⟨#[]⟩]) 3 48 Try.underlying34 hi hz0 hz1 hz2 rfl (by decide) _ _ _ rfl (OwnR.alloc HO5.out.1 _) ⟨w5.heap.size, 0, none⟩ 1 1 (EntX.V x) rfl rfl (new_cells_at _ _ _ _ (by simp)) (entV_one _) (by rw [tl.out]; unfold maxLen; omega) (by rw [tl.out]; omega) (by simp; omega) ?_)
            intro n2 w6 hown2 hgrow2 _
            have hb6 := (Hb5.out.alloc hs5 _).grown hgrow2 (by simp; omega) (fun r hr => (World.ownsRow.lt HO5.out.1 r hr).1)
            have ho6 := OwnE.snoc (x := x) (HO5.out.alloc _) (HGX5.out.below ((Below.refl _ _).alloc (Nat.le_refl _) _)) (Nat.le_trans hWw hsz) hgrow2 (by rw [List.length_take]; exact hown2)
            have HO6 := Lib.hid ho6
            have Hb6 := Lib.hid hb6
            have hs6 := hb6.size
            have src6 := Lib.hid (src_from (fun p i a h1 h2 => (hb6.cell (p := ⟨g, p * 3 + i, none⟩) hglt).trans (HSRC.out p i a h1 h2)) k)
            have gm6 := Lib.hid (fun (y : EntX) (hy : y ∈ M.drop k) => (HGM.out y (List.mem_of_mem_drop hy)).below hb6)
            have dl := Lib.hid (show (M.drop k).length = j - k from by rw [List.length_drop, HML.out])
            have tl6 := Lib.hid (show (M.take k ++ [x]).length = k + 1 from by rw [List.length_append, tl.out]; rfl)
            have qj : ((j : Int) - (k : Int)) = ((j - k : Nat) : Int) := by omega
            have qc : ((cp : Int) - (k : Int)) = ((cp - k : Nat) : Int) := by omega
            have rs := Lib.hid (ins_sortedA asc M x k HMS.out (by rw [HML.out]; omega) (fun i h1 h2 => HK.out i h1 (by rw [HML.out] at h2; exact h2)) HKK.out)
            have rn := Lib.hid (show ∀ q ∈ M.take k ++ [x] ++ M.drop k, q.n ≤ 1048576 from fun q hq => by
              rcases List.mem_append.1 hq with hq | hq
              · rcases List.mem_append.1 hq with hq | hq
                · exact HMN.out q (List.mem_of_mem_take hq)
                · rw [List.mem_singleton.1 hq]; exact HXN.out
              · exact HMN.out q (List.mem_of_mem_drop hq))
            have rl := Lib.hid (show (M.take k ++ [x] ++ M.drop k).length = j + 1 from by rw [List.length_append, tl6.out, dl.out]; first | done | omega)
            clear hown2 hgrow2 HO5 d1 d2 d3 ho6 hb6
            go_wp2_with (at_builtin; refine wpList_append_own _ rfl (.tmp 53) (.tmp 56) 34 rfl v0.heap.size 26 i0 (.agg #[.int .i64 0, .slice none 0 0, .string ⟨#[]⟩]) 3 48 Try.underlying34 hi hz0 hz1 hz2 rfl (by decide) _ _ _ rfl HO6.out.1 ⟨g, k * 3, none⟩ (j - k) (cp - k) (rowV EntX.V (M.drop k)) rfl (by rw [rowV_len entV_len, dl.out]) src6.out (rowV_one entV_one _) (by rw [tl6.out]; unfold maxLen; omega) (by rw [tl6.out]; omega) hs6 ?_)
            intro n3 w7 hown3 hgrow3 _
            have hb7 := Hb6.out.grown hgrow3 hs6 (fun r hr => (World.ownsRow.lt HO6.out.1 r hr).1)
            have ho7 := OwnE.snocs (m := M.drop k) HO6.out gm6.out (Nat.le_trans hWw hsz) hgrow3 (by rw [tl6.out, dl.out]; simpa [tl6.out, HML.out, Nat.min_eq_left hkj] using hown3)
            have HO7 := Lib.hid (ho7.mono (Nat.le_refl _) hsz)
            clear hown3 hgrow3 HO6 ho7 src6 gm6
            go_wp2
            go_round
            case rel => exact ⟨j + 1, _, by omega, by go_num, rl, rs, rn, Lib.hid (fun h => by omega), HO7.out, hop Hb.out (Nat.le_refl _) hb7⟩
            case measure => simp [intOf]; omega
          · obtain ⟨i, hki⟩ : ∃ i, k = i + 1 := ⟨k - 1, by omega⟩
            have hwp : IntKind.i64.wrap ((k : Int) - 1) = (i : Int) := by rw [IntKind.wrap_i64]; omega
            have q1 : decide (0 < k) = true := decide_eq_true (by omega)
            have q2 : 0 < k := by omega
            have q3 : (0 : Int) < (k : Int) := by omega
            have q4 : (i : Int) < (j : Int) := by omega
            have hiq : M[i]? = some (M.getD i xnil) := by
              have := HML.out
              rw [List.getD_eq_getElem?_getD, List.getElem?_eq_getElem (by omega)]
              rfl
            have hgy := (HGM.out _ (List.mem_of_getElem? hiq)).below hb3
            have hyn := HMN.out _ (List.mem_of_getElem? hiq)
            have y1 := (hb3.cell (p := ⟨g, i * 3 + 0, none⟩) hglt).trans (HSRC.out i 0 _ hiq (by decide))
            have y2 := (hb3.cell (p := ⟨g, i * 3 + 1, none⟩) hglt).trans (HSRC.out i 1 _ hiq (by decide))
            have y3 := (hb3.cell (p := ⟨g, i * 3 + 2, none⟩) hglt).trans (HSRC.out i 2 _ hiq (by decide))
            rw [Nat.add_zero] at y1
            obtain ⟨y, hy⟩ : ∃ y, M.getD i xnil = y := ⟨_, rfl⟩
            rw [hy] at hgy y1 y2 y3 hyn
            replace y1 : wr.cell? ⟨g, i * 3, none⟩ = some (.int .i64 y.ts) := y1
            replace y2 : wr.cell? ⟨g, i * 3 + 1, none⟩ = some (.slice y.A y.n y.c) := y2
            replace y3 : wr.cell? ⟨g, i * 3 + 2, none⟩ = some (.string y.ln) := y3
            have d1 := (hb3.cell (p := ⟨b1, o1 + j * 3, none⟩) hlt1).trans c1
            have d2 := (hb3.cell (p := ⟨b1, o1 + j * 3 + 1, none⟩) hlt1).trans c2
            have d3 := (hb3.cell (p := ⟨b1, o1 + j * 3 + 2, none⟩) hlt1).trans c3
            have hl1 : b1 < wr.heap.size := Nat.lt_of_lt_of_le hlt1 hb3.size
            have hl2 : g < wr.heap.size := Nat.lt_of_lt_of_le hglt hb3.size
            have hgx3 := HGX.out.below hb3
            obtain ⟨z, hz⟩ : ∃ z, aheadB x.b y.b asc = z := ⟨_, rfl⟩
            have RX := Lib.hid (fun w (h : Below wr.heap.size wr w) => refEntry_any x HXN.out w (hgx3.below h).set.1)
            have RY := Lib.hid (fun w (h : Below wr.heap.size wr w) => refEntry_any y hyn w (hgy.below h).set.1)
            have RA := Lib.hid (fun (q r : EntX) (w : World) (h1 : q.b = x.b) (h2 : r.b = y.b) (g1 : GoodQ w q) (g2 : GoodQ w r) (n1 : q.n ≤ 1048576) (n2 : r.n ≤ 1048576) => show Calls Try.prog 24 #[.agg #[.int .i64 q.ts, .slice q.A q.n q.c, .string q.ln], .agg #[.int .i64 r.ts, .slice r.A r.n r.c, .string r.ln], .bool asc] w fun e w' => e = .returned (.bool z) ∧ Below w.heap.size w w' from by
              refine (refEntAhead_any q.ts r.ts q.A r.A q.n r.n q.c r.c q.ls r.ls q.ln r.ln asc (by omega) (by omega) w g1.set g2.set).mono ?_
              rintro e w' ⟨rfl, hb⟩
              refine ⟨?_, hb⟩
              rw [← hz, ← h1, ← h2]
              rfl)
            have HKI := Lib.hid hki
            have HYN := Lib.hid (show y.n ≤ 1048576 from hyn)
            have HYY := Lib.hid hy
            have HZ := Lib.hid hz
            have Hb3 := Lib.hid hb3
            have S0 : Below wr.heap.size wr wr.drew ∧ wr.drew.cell? ⟨b1, o1 + j * 3, none⟩ = some (.int .i64 x.ts) ∧ wr.drew.cell? ⟨b1, o1 + j * 3 + 1, none⟩ = some (.slice x.A x.n x.c) ∧ wr.drew.cell? ⟨b1, o1 + j * 3 + 2, none⟩ = some (.string x.ln) ∧ wr.drew.cell? ⟨g, i * 3, none⟩ = some (.int .i64 y.ts) ∧ wr.drew.cell? ⟨g, i * 3 + 1, none⟩ = some (.slice y.A y.n y.c) ∧ wr.drew.cell? ⟨g, i * 3 + 2, none⟩ = some (.string y.ln) := ⟨(Below.refl _ _).drew, d1, d2, d3, y1, y2, y3⟩
            have HS := Lib.hid (fun (wa wb : World) (hS : Below wr.heap.size wr wa ∧ wa.cell? ⟨b1, o1 + j * 3, none⟩ = some (.int .i64 x.ts) ∧ wa.cell? ⟨b1, o1 + j * 3 + 1, none⟩ = some (.slice x.A x.n x.c) ∧ wa.cell? ⟨b1, o1 + j * 3 + 2, none⟩ = some (.string x.ln) ∧ wa.cell? ⟨g, i * 3, none⟩ = some (.int .i64 y.ts) ∧ wa.cell? ⟨g, i * 3 + 1, none⟩ = some (.slice y.A y.n y.c) ∧ wa.cell? ⟨g, i * 3 + 2, none⟩ = some (.string y.ln)) (h : Below wa.heap.size wa wb) => show Below wr.heap.size wr wb ∧ wb.cell? ⟨b1, o1 + j * 3, none⟩ = some (.int .i64 x.ts) ∧ wb.cell? ⟨b1, o1 + j * 3 + 1, none⟩ = some (.slice x.A x.n x.c) ∧ wb.cell? ⟨b1, o1 + j * 3 + 2, none⟩ = some (.string x.ln) ∧ wb.cell? ⟨g, i * 3, none⟩ = some (.int .i64 y.ts) ∧ wb.cell? ⟨g, i * 3 + 1, none⟩ = some (.slice y.A y.n y.c) ∧ wb.cell? ⟨g, i * 3 + 2, none⟩ = some (.string y.ln) from by
              obtain ⟨s0, s1, s2, s3, s4, s5, s6⟩ := hS
              exact ⟨hop s0 (Nat.le_refl _) h, (h.cell (p := ⟨b1, o1 + j * 3, none⟩) (block_lt_of_cell s1)).trans s1, (h.cell (p := ⟨b1, o1 + j * 3 + 1, none⟩) (block_lt_of_cell s2)).trans s2, (h.cell (p := ⟨b1, o1 + j * 3 + 2, none⟩) (block_lt_of_cell s3)).trans s3, (h.cell (p := ⟨g, i * 3, none⟩) (block_lt_of_cell s4)).trans s4, (h.cell (p := ⟨g, i * 3 + 1, none⟩) (block_lt_of_cell s5)).trans s5, (h.cell (p := ⟨g, i * 3 + 2, none⟩) (block_lt_of_cell s6)).trans s6⟩)
            clear hki hiq hgy hy hz hgx3 hb3 hk0 hyn
            go_wp2
            refine wp_region_held_drew (S := fun w' => Below wr.heap.size wr w' ∧ w'.cell? ⟨b1, o1 + j * 3, none⟩ = some (.int .i64 x.ts) ∧ w'.cell? ⟨b1, o1 + j * 3 + 1, none⟩ = some (.slice x.A x.n x.c) ∧ w'.cell? ⟨b1, o1 + j * 3 + 2, none⟩ = some (.string x.ln) ∧ w'.cell? ⟨g, i * 3, none⟩ = some (.int .i64 y.ts) ∧ w'.cell? ⟨g, i * 3 + 1, none⟩ = some (.slice y.A y.n y.c) ∧ w'.cell? ⟨g, i * 3 + 2, none⟩ = some (.string y.ln)) (by kernel_rfl) S0 (fun hHeld => ?_)
            refine wpAnyH_take (i := 0) (oi := { dst := some 22, op := Go.Op.move (Go.Operand.tmp 9), type := 3, pos := "law.go:152", after := #[], guard := none }) (v := ?_) rfl (by kernel_rfl) (by kernel_rfl) (by kernel_rfl) (fun _ _ _ h => h) (Or.inl ⟨by kernel_rfl, ?_⟩) (by assumption) ?_
            rotate_left
            · intro w _
              first | (go_simp; done) | (go_simp; with_reducible rfl)
            try simp only [Act.put, List.setIfInBounds_toArray, List.set_cons_zero, List.set_cons_succ]
            refine wpAnyH_take (i := 1) (oi := { dst := some 23, op := Go.Op.binOp Go.BinOp.gtr 3 (Go.Operand.tmp 22) (Go.Operand.const (Go.Value.int Go.IntKind.i64 0)) 3, type := 4, pos := "law.go:152", after := #[{ on := 0, ground := Go.Ground.data }], guard := none }) (v := ?_) rfl (by kernel_rfl) (by kernel_rfl) (by kernel_rfl) (fun _ _ _ h => h) (Or.inl ⟨by kernel_rfl, ?_⟩) (by assumption) ?_
            rotate_left
            · intro w _
              first | (go_simp; done) | (go_simp; with_reducible rfl)
            try simp only [Act.put, List.setIfInBounds_toArray, List.set_cons_zero, List.set_cons_succ]
            refine wpAnyH_take (i := 2) (oi := { dst := some 24, op := Go.Op.move (Go.Operand.tmp 23), type := 4, pos := "law.go:152", after := #[{ on := 1, ground := Go.Ground.data }], guard := none }) (v := ?_) rfl (by kernel_rfl) (by kernel_rfl) (by kernel_rfl) (fun _ _ _ h => h) (Or.inl ⟨by kernel_rfl, ?_⟩) (by assumption) ?_
            rotate_left
            · intro w _
              first | (go_simp; done) | (go_simp; with_reducible rfl)
            try simp only [Act.put, List.setIfInBounds_toArray, List.set_cons_zero, List.set_cons_succ]
            refine wpAnyH_take (i := 3) (oi := { dst := some 25, op := Go.Op.move (Go.Operand.tmp 0), type := 34, pos := "law.go:152", after := #[{ on := 2, ground := Go.Ground.guard }], guard := some (2, true) }) (v := ?_) rfl (by kernel_rfl) (by kernel_rfl) (by kernel_rfl) (fun _ _ _ h => h) (Or.inl ⟨by kernel_rfl, ?_⟩) (by assumption) ?_
            rotate_left
            · intro w _
              first | (go_simp; done) | (go_simp; with_reducible rfl)
            try simp only [Act.put, List.setIfInBounds_toArray, List.set_cons_zero, List.set_cons_succ]
            refine wpAnyH_take (i := 4) (oi := { dst := some 26, op := Go.Op.move (Go.Operand.tmp 8), type := 3, pos := "law.go:152", after := #[{ on := 2, ground := Go.Ground.guard }], guard := some (2, true) }) (v := ?_) rfl (by kernel_rfl) (by kernel_rfl) (by kernel_rfl) (fun _ _ _ h => h) (Or.inl ⟨by kernel_rfl, ?_⟩) (by assumption) ?_
            rotate_left
            · intro w _
              first | (go_simp; done) | (go_simp; with_reducible rfl)
            try simp only [Act.put, List.setIfInBounds_toArray, List.set_cons_zero, List.set_cons_succ]
            refine wpAnyH_take (i := 5) (oi := { dst := some 27, op := Go.Op.indexAddr 34 (Go.Operand.tmp 25) (Go.Operand.tmp 26), type := 0, pos := "law.go:152", after := #[{ on := 3, ground := Go.Ground.data }, { on := 4, ground := Go.Ground.data }, { on := 2, ground := Go.Ground.guard }], guard := some (2, true) }) (v := ?_) rfl (by kernel_rfl) (by kernel_rfl) (by kernel_rfl) (fun _ _ _ h => h) (Or.inl ⟨by kernel_rfl, ?_⟩) (by assumption) ?_
            rotate_left
            · intro w _
              first | (go_simp; done) | (go_simp; with_reducible rfl)
            try simp only [Act.put, List.setIfInBounds_toArray, List.set_cons_zero, List.set_cons_succ]
            refine wpAnyH_take (i := 6) (oi := { dst := some 28, op := Go.Op.load 26 (Go.Operand.tmp 27), type := 26, pos := "law.go:152", after := #[{ on := 5, ground := Go.Ground.data }, { on := 2, ground := Go.Ground.guard }], guard := some (2, true) }) (v := ?_) rfl (by kernel_rfl) (by kernel_rfl) (by kernel_rfl) (fun _ _ _ h => h) (Or.inl ⟨by kernel_rfl, ?_⟩) (by assumption) ?_
            rotate_left
            · intro w hSw
              (try dsimp only at hSw)
              go_split_ands
              first | (go_simp; done) | (go_simp; with_reducible rfl)
            try simp only [Act.put, List.setIfInBounds_toArray, List.set_cons_zero, List.set_cons_succ]
            refine wpAnyH_take (i := 8) (oi := { dst := some 30, op := Go.Op.move (Go.Operand.tmp 7), type := 34, pos := "law.go:152", after := #[{ on := 2, ground := Go.Ground.guard }], guard := some (2, true) }) (v := ?_) rfl (by kernel_rfl) (by kernel_rfl) (by kernel_rfl) (fun _ _ _ h => h) (Or.inl ⟨by kernel_rfl, ?_⟩) (by assumption) ?_
            rotate_left
            · intro w _
              first | (go_simp; done) | (go_simp; with_reducible rfl)
            try simp only [Act.put, List.setIfInBounds_toArray, List.set_cons_zero, List.set_cons_succ]
            refine wpAnyH_take (i := 9) (oi := { dst := some 31, op := Go.Op.move (Go.Operand.tmp 9), type := 3, pos := "law.go:152", after := #[{ on := 2, ground := Go.Ground.guard }], guard := some (2, true) }) (v := ?_) rfl (by kernel_rfl) (by kernel_rfl) (by kernel_rfl) (fun _ _ _ h => h) (Or.inl ⟨by kernel_rfl, ?_⟩) (by assumption) ?_
            rotate_left
            · intro w _
              first | (go_simp; done) | (go_simp; with_reducible rfl)
            try simp only [Act.put, List.setIfInBounds_toArray, List.set_cons_zero, List.set_cons_succ]
            refine wpAnyH_take (i := 10) (oi := { dst := some 32, op := Go.Op.binOp Go.BinOp.sub 3 (Go.Operand.tmp 31) (Go.Operand.const (Go.Value.int Go.IntKind.i64 1)) 3, type := 3, pos := "law.go:152", after := #[{ on := 9, ground := Go.Ground.data }, { on := 2, ground := Go.Ground.guard }], guard := some (2, true) }) (v := ?_) rfl (by kernel_rfl) (by kernel_rfl) (by kernel_rfl) (fun _ _ _ h => h) (Or.inl ⟨by kernel_rfl, ?_⟩) (by assumption) ?_
            rotate_left
            · intro w _
              first | (go_simp; done) | (go_simp; with_reducible rfl)
            try simp only [Act.put, List.setIfInBounds_toArray, List.set_cons_zero, List.set_cons_succ]
            refine wpAnyH_take (i := 11) (oi := { dst := some 33, op := Go.Op.indexAddr 34 (Go.Operand.tmp 30) (Go.Operand.tmp 32), type := 0, pos := "law.go:152", after := #[{ on := 8, ground := Go.Ground.data }, { on := 10, ground := Go.Ground.data }, { on := 2, ground := Go.Ground.guard }], guard := some (2, true) }) (v := ?_) rfl (by kernel_rfl) (by kernel_rfl) (by kernel_rfl) (fun _ _ _ h => h) (Or.inl ⟨by kernel_rfl, ?_⟩) (by assumption) ?_
            rotate_left
            · intro w _
              first | (go_simp; done) | (go_simp; with_reducible rfl)
            try simp only [Act.put, List.setIfInBounds_toArray, List.set_cons_zero, List.set_cons_succ]
            refine wpAnyH_take (i := 12) (oi := { dst := some 34, op := Go.Op.load 26 (Go.Operand.tmp 33), type := 26, pos := "law.go:152", after := #[{ on := 11, ground := Go.Ground.data }, { on := 2, ground := Go.Ground.guard }], guard := some (2, true) }) (v := ?_) rfl (by kernel_rfl) (by kernel_rfl) (by kernel_rfl) (fun _ _ _ h => h) (Or.inl ⟨by kernel_rfl, ?_⟩) (by assumption) ?_
            rotate_left
            · intro w hSw
              (try dsimp only at hSw)
              go_split_ands
              first | (go_simp; done) | (go_simp; with_reducible rfl)
            try simp only [Act.put, List.setIfInBounds_toArray, List.set_cons_zero, List.set_cons_succ]
            refine wpAnyH_take (i := 14) (oi := { dst := some 36, op := Go.Op.move (Go.Operand.tmp 1), type := 4, pos := "law.go:152", after := #[{ on := 2, ground := Go.Ground.guard }], guard := some (2, true) }) (v := ?_) rfl (by kernel_rfl) (by kernel_rfl) (by kernel_rfl) (fun _ _ _ h => h) (Or.inl ⟨by kernel_rfl, ?_⟩) (by assumption) ?_
            rotate_left
            · intro w _
              first | (go_simp; done) | (go_simp; with_reducible rfl)
            try simp only [Act.put, List.setIfInBounds_toArray, List.set_cons_zero, List.set_cons_succ]
            refine wpAnyH_ready (rs := [7]) (by kernel_rfl) (by simp) ?_
            refine AllReadyH.cons (o := { dst := some 29, op := Go.Op.call { callee := Go.Callee.value (Go.Operand.func 21), args := #[Go.Operand.tmp 28], argTypes := #[26] }, type := 48, pos := "law.go:152", after := #[{ on := 6, ground := Go.Ground.data }, { on := 2, ground := Go.Ground.chain }, { on := 2, ground := Go.Ground.guard }], guard := some (2, true) }) rfl (fun K hK => ?_) AllReadyH.nil
            go_simp
            go_at_call 21
            refine (RX.out _ (show Below wr.heap.size wr wr.drew from by go_split_ands; assumption)).mono ?_
            rintro e wc1 ⟨qx, rfl, hqx, hnx, gqx, hb3⟩
            have HNX := Lib.hid (show qx.n ≤ 1048576 by rw [hnx]; exact HXN.out)
            have HQX := Lib.hid hqx
            clear hqx hnx
            try replace gqy := GoodQ.below gqy hb3
            have Sc1 := HS.out _ _ (by assumption) hb3
            refine hK.out _ _ Sc1 (fun _ => ?_)
            clear hK K hb3
            try simp only [Act.put, List.setIfInBounds_toArray, List.set_cons_zero, List.set_cons_succ]
            refine wpAnyH_ready (rs := [13]) (by kernel_rfl) (by simp) ?_
            refine AllReadyH.cons (o := { dst := some 35, op := Go.Op.call { callee := Go.Callee.value (Go.Operand.func 21), args := #[Go.Operand.tmp 34], argTypes := #[26] }, type := 48, pos := "law.go:152", after := #[{ on := 12, ground := Go.Ground.data }, { on := 7, ground := Go.Ground.chain }, { on := 2, ground := Go.Ground.guard }], guard := some (2, true) }) rfl (fun K hK => ?_) AllReadyH.nil
            go_simp
            go_at_call 21
            refine (RY.out _ (show Below wr.heap.size wr wc1 from by go_split_ands; assumption)).mono ?_
            rintro e wc2 ⟨qy, rfl, hqy, hny, gqy, hb3⟩
            have HNY := Lib.hid (show qy.n ≤ 1048576 by rw [hny]; exact HYN.out)
            have HQY := Lib.hid hqy
            clear hqy hny
            try replace gqx := GoodQ.below gqx hb3
            have Sc2 := HS.out _ _ (by assumption) hb3
            refine hK.out _ _ Sc2 (fun _ => ?_)
            clear hK K hb3
            try simp only [Act.put, List.setIfInBounds_toArray, List.set_cons_zero, List.set_cons_succ]
            refine wpAnyH_ready (rs := [15]) (by kernel_rfl) (by simp) ?_
            refine AllReadyH.cons (o := { dst := some 37, op := Go.Op.call { callee := Go.Callee.value (Go.Operand.func 24), args := #[Go.Operand.tmp 29, Go.Operand.tmp 35, Go.Operand.tmp 36], argTypes := #[48, 48, 4] }, type := 4, pos := "law.go:152", after := #[{ on := 7, ground := Go.Ground.data }, { on := 13, ground := Go.Ground.data }, { on := 14, ground := Go.Ground.data }, { on := 13, ground := Go.Ground.chain }, { on := 2, ground := Go.Ground.guard }], guard := some (2, true) }) rfl (fun K hK => ?_) AllReadyH.nil
            go_simp
            go_at_call 24
            refine (RA.out _ _ _ HQX.out HQY.out gqx gqy HNX.out HNY.out).mono ?_
            rintro e wc3 ⟨rfl, hb3⟩
            have Sc3 := HS.out _ _ (by assumption) hb3
            refine hK.out _ _ Sc3 (fun _ => ?_)
            clear hK K hb3
            try simp only [Act.put, List.setIfInBounds_toArray, List.set_cons_zero, List.set_cons_succ]
            refine wpAnyH_take (i := 16) (oi := { dst := some 38, op := Go.Op.pick (Go.Operand.tmp 24) (Go.Operand.tmp 37) (Go.Operand.const (Go.Value.bool false)), type := 4, pos := "law.go:152", after := #[{ on := 2, ground := Go.Ground.data }, { on := 15, ground := Go.Ground.data }], guard := none }) (v := ?_) rfl (by kernel_rfl) (by kernel_rfl) (by kernel_rfl) (fun _ _ _ h => h) (Or.inl ⟨by kernel_rfl, ?_⟩) (by assumption) ?_
            rotate_left
            · intro w _
              first | (go_simp; done) | (go_simp; with_reducible rfl)
            try simp only [Act.put, List.setIfInBounds_toArray, List.set_cons_zero, List.set_cons_succ]
            refine wpAnyH_done (by kernel_rfl) ?_ _
            have hb5 := (show Below wr.heap.size wr wc3 from by go_split_ands; assumption)
            have hb4 := hop Hb3.out (Nat.le_refl _) hb5
            clear hb5 d1 d2 d3 y1 y2 y3 RX RY RA HQX HQY gqx gqy HNX HNY
            go_split_ands
            cases z with
            | true =>
              have HK2 := Lib.hid (show ∀ p, i ≤ p → p < j → aheadB x.b (M.getD p xnil).b asc = true from fun p h1 h2 => by
                rcases (by omega : p = i ∨ i + 1 ≤ p) with e | e
                · rw [e, HYY.out]; exact HZ.out
                · exact HK.out p (by rw [HKI.out]; exact e) h2)
              have hij : i ≤ j := by omega
              have hik : i < k := by rw [HKI.out]; omega
              go_wp2
              go_round
              case rel => exact ⟨i, hij, by go_num, HK2, hb4⟩
              case measure => simp [intOf]; omega
            | false =>
              have HKK := Lib.hid (show k = 0 ∨ aheadB x.b (M.getD (k - 1) xnil).b asc = false from .inr (by
                rw [HKI.out, Nat.add_sub_cancel, HYY.out]
                exact HZ.out))
              by_cases hck : cp = k
              · obtain rfl : k = j := by omega
                obtain rfl : k = cp := hck.symm
                have d1 := (hb4.cell (p := ⟨b1, o1 + k * 3, none⟩) hlt1).trans c1
                have d2 := (hb4.cell (p := ⟨b1, o1 + k * 3 + 1, none⟩) hlt1).trans c2
                have d3 := (hb4.cell (p := ⟨b1, o1 + k * 3 + 2, none⟩) hlt1).trans c3
                have hs4 := hb4.size
                have ho4 : OwnE B wc3 v0.heap.size (.slice none 0 0) [] := OwnE.nil _ _ _
                have HO4 := Lib.hid ho4
                have Hb4 := Lib.hid hb4
                have HGX4 := Lib.hid (HGX.out.below hb4)
                have src4 := Lib.hid (src_upto (fun p i a h1 h2 => (hb4.cell (p := ⟨g, p * 3 + i, none⟩) hglt).trans (HSRC.out p i a h1 h2)) k)
                have gm4 := Lib.hid (fun (y : EntX) (hy : y ∈ M.take k) => (HGM.out y (List.mem_of_mem_take hy)).below hb4)
                have tl := Lib.hid (show (M.take k).length = k from by rw [List.length_take, HML.out]; omega)
                have kI : (k : Int) ≤ (k : Int) := by omega
                have kcp : (k : Int) ≤ (k : Int) := by omega
                clear ho4 hb4
                go_wp2_with (at_builtin; refine wpList_append_own _ rfl (.tmp 41) (.tmp 44) 34 rfl v0.heap.size 26 i0 (.agg #[.int .i64 0, .slice none 0 0, .string ⟨#[]⟩]) 3 48 Try.underlying34 hi hz0 hz1 hz2 rfl (by decide) _ _ _ rfl HO4.out.1 ⟨g, 0, none⟩ k k (rowV EntX.V (M.take k)) rfl (by rw [rowV_len entV_len, tl.out]) src4.out (rowV_one entV_one _) (by show 0 + k ≤ maxLen; unfold maxLen; omega) (by show (0 + k) * 48 ≤ _; omega) hs4 ?_)
                intro n1 w5 hown1 hgrow1 _
                have hb5 := Hb4.out.grown hgrow1 hs4 (fun r hr => by cases hr)
                have ho5 := OwnE.snocs (m := M.take k) HO4.out gm4.out (Nat.le_trans hWw hsz) hgrow1 (by rw [tl.out, List.length_nil, Nat.zero_add]; exact hown1)
                rw [List.nil_append] at ho5
                have HO5 := Lib.hid ho5
                have Hb5 := Lib.hid hb5
                have hs5 := hb5.size
                have HGX5 := Lib.hid (HGX.out.below hb5)
                clear hown1 hgrow1 HO4 d1 d2 d3 src4 gm4 ho5
                have d1 := (hb5.cell (p := ⟨b1, o1 + k * 3, none⟩) hlt1).trans c1
                have d2 := (hb5.cell (p := ⟨b1, o1 + k * 3 + 1, none⟩) hlt1).trans c2
                have d3 := (hb5.cell (p := ⟨b1, o1 + k * 3 + 2, none⟩) hlt1).trans c3
                clear hb5
                go_wp2_with (at_builtin; refine wpList_append_own _ rfl (.tmp 46) (.tmp 51) 34 rfl v0.heap.size 26 i0 (.agg #[.int .i64 0, .slice none 0 0, .string ⟨#[]⟩]) 3 48 Try.underlying34 hi hz0 hz1 hz2 rfl (by decide) _ _ _ rfl (OwnR.alloc HO5.out.1 _) ⟨w5.heap.size, 0, none⟩ 1 1 (EntX.V x) rfl rfl (new_cells_at _ _ _ _ (by simp)) (entV_one _) (by rw [tl.out]; unfold maxLen; omega) (by rw [tl.out]; omega) (by simp; omega) ?_)
                intro n2 w6 hown2 hgrow2 _
                have hb6 := (Hb5.out.alloc hs5 _).grown hgrow2 (by simp; omega) (fun r hr => (World.ownsRow.lt HO5.out.1 r hr).1)
                have ho6 := OwnE.snoc (x := x) (HO5.out.alloc _) (HGX5.out.below ((Below.refl _ _).alloc (Nat.le_refl _) _)) (Nat.le_trans hWw hsz) hgrow2 (by rw [List.length_take]; exact hown2)
                have HO6 := Lib.hid ho6
                have Hb6 := Lib.hid hb6
                have hs6 := hb6.size
                have src6 := Lib.hid (src_from (fun p i a h1 h2 => (hb6.cell (p := ⟨g, p * 3 + i, none⟩) hglt).trans (HSRC.out p i a h1 h2)) k)
                have gm6 := Lib.hid (fun (y : EntX) (hy : y ∈ M.drop k) => (HGM.out y (List.mem_of_mem_drop hy)).below hb6)
                have dl := Lib.hid (show (M.drop k).length = 0 from by rw [List.length_drop, HML.out, Nat.sub_self])
                have tl6 := Lib.hid (show (M.take k ++ [x]).length = k + 1 from by rw [List.length_append, tl.out]; rfl)
                have qj : ((k : Int) - (k : Int)) = ((k - k : Nat) : Int) := by omega
                have qc : ((k : Int) - (k : Int)) = ((k - k : Nat) : Int) := by omega
                have rs := Lib.hid (ins_sortedA asc M x k HMS.out (by rw [HML.out]; omega) (fun i h1 h2 => HK.out i h1 (by rw [HML.out] at h2; exact h2)) HKK.out)
                have rn := Lib.hid (show ∀ q ∈ M.take k ++ [x] ++ M.drop k, q.n ≤ 1048576 from fun q hq => by
                  rcases List.mem_append.1 hq with hq | hq
                  · rcases List.mem_append.1 hq with hq | hq
                    · exact HMN.out q (List.mem_of_mem_take hq)
                    · rw [List.mem_singleton.1 hq]; exact HXN.out
                  · exact HMN.out q (List.mem_of_mem_drop hq))
                have rl := Lib.hid (show (M.take k ++ [x] ++ M.drop k).length = k + 1 from by rw [List.length_append, tl6.out, dl.out]; first | done | omega)
                clear hown2 hgrow2 HO5 d1 d2 d3 ho6 hb6
                go_wp2_with (at_builtin; refine wpList_append_own _ rfl (.tmp 53) (.tmp 56) 34 rfl v0.heap.size 26 i0 (.agg #[.int .i64 0, .slice none 0 0, .string ⟨#[]⟩]) 3 48 Try.underlying34 hi hz0 hz1 hz2 rfl (by decide) _ _ _ rfl HO6.out.1 ⟨g, 0, none⟩ 0 0 (rowV EntX.V (M.drop k)) rfl (by rw [rowV_len entV_len, dl.out]) (fun p u hu => by rw [List.drop_eq_nil_of_le (by rw [HML.out]; exact Nat.le_refl _)] at hu; cases hu) (rowV_one entV_one _) (by rw [tl6.out]; unfold maxLen; omega) (by rw [tl6.out]; omega) hs6 ?_)
                intro n3 w7 hown3 hgrow3 _
                have hb7 := Hb6.out.grown hgrow3 hs6 (fun r hr => (World.ownsRow.lt HO6.out.1 r hr).1)
                have ho7 := OwnE.snocs (m := M.drop k) HO6.out gm6.out (Nat.le_trans hWw hsz) hgrow3 (by rw [tl6.out, dl.out]; simpa [tl6.out, HML.out, Nat.min_eq_left hkj] using hown3)
                have HO7 := Lib.hid (ho7.mono (Nat.le_refl _) hsz)
                clear hown3 hgrow3 HO6 ho7 src6 gm6
                go_wp2
                go_round
                case rel => exact ⟨k + 1, _, by omega, by go_num, rl, rs, rn, Lib.hid (fun h => by omega), HO7.out, hop Hb.out (Nat.le_refl _) hb7⟩
                case measure => simp [intOf]; omega
              · skip
                have d1 := (hb4.cell (p := ⟨b1, o1 + j * 3, none⟩) hlt1).trans c1
                have d2 := (hb4.cell (p := ⟨b1, o1 + j * 3 + 1, none⟩) hlt1).trans c2
                have d3 := (hb4.cell (p := ⟨b1, o1 + j * 3 + 2, none⟩) hlt1).trans c3
                have hs4 := hb4.size
                have ho4 : OwnE B wc3 v0.heap.size (.slice none 0 0) [] := OwnE.nil _ _ _
                have HO4 := Lib.hid ho4
                have Hb4 := Lib.hid hb4
                have HGX4 := Lib.hid (HGX.out.below hb4)
                have src4 := Lib.hid (src_upto (fun p i a h1 h2 => (hb4.cell (p := ⟨g, p * 3 + i, none⟩) hglt).trans (HSRC.out p i a h1 h2)) k)
                have gm4 := Lib.hid (fun (y : EntX) (hy : y ∈ M.take k) => (HGM.out y (List.mem_of_mem_take hy)).below hb4)
                have tl := Lib.hid (show (M.take k).length = k from by rw [List.length_take, HML.out]; omega)
                have kI : (k : Int) ≤ (j : Int) := by omega
                have kcp : (k : Int) ≤ (cp : Int) := by omega
                clear ho4 hb4
                go_wp2_with (at_builtin; refine wpList_append_own _ rfl (.tmp 41) (.tmp 44) 34 rfl v0.heap.size 26 i0 (.agg #[.int .i64 0, .slice none 0 0, .string ⟨#[]⟩]) 3 48 Try.underlying34 hi hz0 hz1 hz2 rfl (by decide) _ _ _ rfl HO4.out.1 ⟨g, 0, none⟩ k cp (rowV EntX.V (M.take k)) rfl (by rw [rowV_len entV_len, tl.out]) src4.out (rowV_one entV_one _) (by show 0 + k ≤ maxLen; unfold maxLen; omega) (by show (0 + k) * 48 ≤ _; omega) hs4 ?_)
                intro n1 w5 hown1 hgrow1 _
                have hb5 := Hb4.out.grown hgrow1 hs4 (fun r hr => by cases hr)
                have ho5 := OwnE.snocs (m := M.take k) HO4.out gm4.out (Nat.le_trans hWw hsz) hgrow1 (by rw [tl.out, List.length_nil, Nat.zero_add]; exact hown1)
                rw [List.nil_append] at ho5
                have HO5 := Lib.hid ho5
                have Hb5 := Lib.hid hb5
                have hs5 := hb5.size
                have HGX5 := Lib.hid (HGX.out.below hb5)
                clear hown1 hgrow1 HO4 d1 d2 d3 src4 gm4 ho5
                have d1 := (hb5.cell (p := ⟨b1, o1 + j * 3, none⟩) hlt1).trans c1
                have d2 := (hb5.cell (p := ⟨b1, o1 + j * 3 + 1, none⟩) hlt1).trans c2
                have d3 := (hb5.cell (p := ⟨b1, o1 + j * 3 + 2, none⟩) hlt1).trans c3
                clear hb5
                go_wp2_with (at_builtin; refine wpList_append_own _ rfl (.tmp 46) (.tmp 51) 34 rfl v0.heap.size 26 i0 (.agg #[.int .i64 0, .slice none 0 0, .string ⟨#[]⟩]) 3 48 Try.underlying34 hi hz0 hz1 hz2 rfl (by decide) _ _ _ rfl (OwnR.alloc HO5.out.1 _) ⟨w5.heap.size, 0, none⟩ 1 1 (EntX.V x) rfl rfl (new_cells_at _ _ _ _ (by simp)) (entV_one _) (by rw [tl.out]; unfold maxLen; omega) (by rw [tl.out]; omega) (by simp; omega) ?_)
                intro n2 w6 hown2 hgrow2 _
                have hb6 := (Hb5.out.alloc hs5 _).grown hgrow2 (by simp; omega) (fun r hr => (World.ownsRow.lt HO5.out.1 r hr).1)
                have ho6 := OwnE.snoc (x := x) (HO5.out.alloc _) (HGX5.out.below ((Below.refl _ _).alloc (Nat.le_refl _) _)) (Nat.le_trans hWw hsz) hgrow2 (by rw [List.length_take]; exact hown2)
                have HO6 := Lib.hid ho6
                have Hb6 := Lib.hid hb6
                have hs6 := hb6.size
                have src6 := Lib.hid (src_from (fun p i a h1 h2 => (hb6.cell (p := ⟨g, p * 3 + i, none⟩) hglt).trans (HSRC.out p i a h1 h2)) k)
                have gm6 := Lib.hid (fun (y : EntX) (hy : y ∈ M.drop k) => (HGM.out y (List.mem_of_mem_drop hy)).below hb6)
                have dl := Lib.hid (show (M.drop k).length = j - k from by rw [List.length_drop, HML.out])
                have tl6 := Lib.hid (show (M.take k ++ [x]).length = k + 1 from by rw [List.length_append, tl.out]; rfl)
                have qj : ((j : Int) - (k : Int)) = ((j - k : Nat) : Int) := by omega
                have qc : ((cp : Int) - (k : Int)) = ((cp - k : Nat) : Int) := by omega
                have rs := Lib.hid (ins_sortedA asc M x k HMS.out (by rw [HML.out]; omega) (fun i h1 h2 => HK.out i h1 (by rw [HML.out] at h2; exact h2)) HKK.out)
                have rn := Lib.hid (show ∀ q ∈ M.take k ++ [x] ++ M.drop k, q.n ≤ 1048576 from fun q hq => by
                  rcases List.mem_append.1 hq with hq | hq
                  · rcases List.mem_append.1 hq with hq | hq
                    · exact HMN.out q (List.mem_of_mem_take hq)
                    · rw [List.mem_singleton.1 hq]; exact HXN.out
                  · exact HMN.out q (List.mem_of_mem_drop hq))
                have rl := Lib.hid (show (M.take k ++ [x] ++ M.drop k).length = j + 1 from by rw [List.length_append, tl6.out, dl.out]; first | done | omega)
                clear hown2 hgrow2 HO5 d1 d2 d3 ho6 hb6
                go_wp2_with (at_builtin; refine wpList_append_own _ rfl (.tmp 53) (.tmp 56) 34 rfl v0.heap.size 26 i0 (.agg #[.int .i64 0, .slice none 0 0, .string ⟨#[]⟩]) 3 48 Try.underlying34 hi hz0 hz1 hz2 rfl (by decide) _ _ _ rfl HO6.out.1 ⟨g, k * 3, none⟩ (j - k) (cp - k) (rowV EntX.V (M.drop k)) rfl (by rw [rowV_len entV_len, dl.out]) src6.out (rowV_one entV_one _) (by rw [tl6.out]; unfold maxLen; omega) (by rw [tl6.out]; omega) hs6 ?_)
                intro n3 w7 hown3 hgrow3 _
                have hb7 := Hb6.out.grown hgrow3 hs6 (fun r hr => (World.ownsRow.lt HO6.out.1 r hr).1)
                have ho7 := OwnE.snocs (m := M.drop k) HO6.out gm6.out (Nat.le_trans hWw hsz) hgrow3 (by rw [tl6.out, dl.out]; simpa [tl6.out, HML.out, Nat.min_eq_left hkj] using hown3)
                have HO7 := Lib.hid (ho7.mono (Nat.le_refl _) hsz)
                clear hown3 hgrow3 HO6 ho7 src6 gm6
                go_wp2
                go_round
                case rel => exact ⟨j + 1, _, by omega, by go_num, rl, rs, rn, Lib.hid (fun h => by omega), HO7.out, hop Hb.out (Nat.le_refl _) hb7⟩
                case measure => simp [intOf]; omega
    · obtain rfl : j = l.length := by omega
      have HR := Lib.hid (show OwnE B wr W.heap.size _ M ∧ SortedA asc M ∧ M.length = l.length ∧ (∀ x ∈ M, x.n ≤ 1048576) ∧ Below W.heap.size W wr from ⟨hown, HMS.out, HML.out, HMN.out, hb⟩)
      clear hown hb HMS HML HMN HO0
      go_wp2
      go_ret
      first | exact ⟨_, M, rfl, HR.out⟩ | exact ⟨_, rfl, M, HR.out⟩
end Go.Proofs.Ytilcanblgdmecaa
namespace Go.Proofs.Ytilcanblgdmecaa
open Go.RowKit
set_option linter.unusedVariables false
set_option linter.unusedSimpArgs false

theorem items_few {B : Nat} {w : World} {l : List ItemX} {L : List EntX} {most : Nat} (h : ∀ x ∈ l, GoodI B w x) (ul : sumN (l.map itemK) ≤ 1048576) (e : L.map EntX.b = itemsB l most) : ∀ x ∈ L, x.ls.length ≤ 1048576 := by
  intro x hx
  have h1 : x.b ∈ itemsB l most := by rw [← e]; exact List.mem_map.2 ⟨x, hx, rfl⟩
  obtain ⟨y, hy, hb⟩ := List.mem_map.1 h1
  have hy := List.mem_of_mem_take hy
  have hk : itemK y ≤ 1048576 := Nat.le_trans (sumN_mem (List.mem_map.2 ⟨y, hy, rfl⟩)) ul
  have := (item_put (h y hy) hk).len
  rw [hb] at this
  exact this
theorem items_n {B : Nat} {w w' : World} {l : List ItemX} {L : List EntX} {most : Nat} (h : ∀ x ∈ l, GoodI B w x) (ul : sumN (l.map itemK) ≤ 1048576) (e : L.map EntX.b = itemsB l most) (hg : ∀ x ∈ L, Good B w' x) : ∀ x ∈ L, x.n ≤ 1048576 := fun x hx => by
  have h1 := items_few h ul e x hx
  have h2 := (hg x hx).set.1.1
  omega
theorem insB_len (asc : Bool) (x : EntB) (l : List EntB) : (insB asc x l).length ≤ l.length + 1 := by
  induction l with
  | nil => simp [insB]
  | cons y l ih =>
    unfold insB
    split
    · simp
    · split
      · simp only [List.length_cons]; omega
      · simp
theorem uniq_len (asc : Bool) (l : List EntB) : (uniqB asc l).length ≤ l.length := by
  have h : ∀ (l m : List EntB), (l.foldl (fun out x => insB asc x out) m).length ≤ m.length + l.length := by
    intro l
    induction l with
    | nil => intro m; simp
    | cons x l ih =>
      intro m
      have h1 := ih (insB asc x m)
      have h2 := insB_len asc x m
      rw [List.foldl_cons, List.length_cons]
      omega
  have := h l []
  simpa [uniqB] using this
theorem allB_len (ls : List LsX) (h : ∀ x ∈ ls, x.l.length = x.n) : (allB ls).length = totL ls := by
  induction ls with
  | nil => rfl
  | cons x ls ih =>
    have h1 := ih fun y hy => h y (List.mem_cons_of_mem _ hy)
    unfold allB totL at *
    rw [List.flatMap_cons, List.length_append, List.length_map, List.map_cons, List.sum_cons, h1, h x List.mem_cons_self]
theorem lists_B {B : Nat} {w w' : World} (ls : List LsX) (h : ∀ x ∈ ls, Ents B w x.A x.n x.l ∧ x.n ≤ x.c ∧ x.c ≤ maxLen) (g : Nat) (hg : w.heap.size = g) (T : TypeId) (hw : w.alloc (.cells (rowV LsX.V ls).toArray T) = w') : ListsP B w' (some ⟨g, 0, none⟩) ls.length ls := by
  rw [← hw]
  refine ⟨⟨rfl, fun hn => ⟨g, 0, rfl, by rw [← hg]; simp, fun j i a hj hi => ?_⟩⟩, fun x hx => ⟨(h x hx).1.below ((Below.refl _ _).alloc (Nat.le_refl _) _), (h x hx).2⟩⟩
  have hb : Blk (w.alloc (.cells (rowV LsX.V ls).toArray T)) g T (rowV LsX.V ls).toArray := by rw [← hg]; exact Blk.new _ _ _
  rw [hb.cell, ← rowV_at lsV_len ls j i a hj hi]
  simp
/-- lists that are in their order are merged -/
theorem all_lists (B : Nat) (asc : Bool) (most : Int) (ls : List LsX) (k : Nat) (hk : ls.length = k) (w w' : World) (g : Nat) (hg : w.heap.size = g) (T : TypeId) (hw : w.alloc (.cells (rowV LsX.V ls).toArray T) = w')
    (h : ∀ x ∈ ls, Ents B w x.A x.n x.l ∧ x.n ≤ x.c ∧ x.c ≤ maxLen) (z : Bool) (hs : sortedLs asc ls = z) (hN : k + totL ls ≤ 1000000) (hB : B ≤ w.heap.size) :
    Calls Try.prog 12 #[.bool asc, .int .i64 most, .slice (some ⟨g, 0, none⟩) k k] w' fun e w'' => ∃ (A : Option Addr) (n c : Nat) (L : List EntX), e = .returned (.tuple #[.slice A n c, .bool z]) ∧ Ents B w'' A n L ∧ L.length = n ∧ (n ≤ c ∧ c ≤ maxLen) ∧ L.map EntX.b = mergeB asc most ls ∧ Below w'.heap.size w' w'' := by
  subst hk
  have hsz : w.heap.size ≤ w'.heap.size := by rw [← hw]; simp
  refine (all_any B asc most (some ⟨g, 0, none⟩) ls.length ls.length ls hN w' (by omega) (lists_B ls h g hg T hw)).mono ?_
  rintro e w'' ⟨v, L, rfl, hO, hL, hb⟩
  have hc := hO.1
  obtain ⟨A, c, rfl, _, _, hE⟩ := hO.ents
  exact ⟨A, L.length, c, L, by rw [hs], hE, rfl, OwnR.cap hc, hL, hb⟩
theorem merge_whole {asc : Bool} {ls : List LsX} {most : Int} (hs : sortedLs asc ls = true) (h : ∀ x ∈ ls, x.l.length = x.n) (hm : totL ls ≤ most.toNat) : mergeB asc most ls = uniqB asc (allB ls) := by
  unfold mergeB
  rw [if_pos hs, List.take_of_length_le]
  have := uniq_len asc (allB ls)
  rw [allB_len ls h] at this
  omega
theorem take_b {T S : List EntX} {R : List EntB} {n i : Nat} {x y : EntX} (hT : T.map EntX.b = R) (hS : S.map EntX.b = R.take n) (hx : S[i]? = some x) (hy : T[i]? = some y) : x.b = y.b := by
  have h1 : (S.map EntX.b)[i]? = some x.b := by rw [List.getElem?_map, hx]; rfl
  have h2 : (T.map EntX.b)[i]? = some y.b := by rw [List.getElem?_map, hy]; rfl
  rw [hS] at h1
  rw [hT] at h2
  rw [List.getElem?_take] at h1
  split at h1
  · rw [h2] at h1
    injection h1 with h1
    exact h1.symm
  · cases h1
end Go.Proofs.Ytilcanblgdmecaa
