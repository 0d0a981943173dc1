/- The document's answer about lists that are merged: the walk of its All. -/
import Derived.Test.YtilcanblgdmecaaMergeRef
import Derived.Laws.AppendOwnNone
namespace Go.Proofs.Ytilcanblgdmecaa
open Go.RowKit
set_option linter.unusedVariables false
set_option linter.unusedSimpArgs false

/-- a slice of lists of the document's entries that can be read -/
structure ListsQ (w : World) (A : Option Addr) (n : Nat) (ls : List LsX) : Prop where
  row : RowR LsX.V 1 w A n ls
  good : ∀ x ∈ ls, EntsQ w x.A x.n x.l ∧ (∀ e ∈ x.l, e.n ≤ 1048576) ∧ (x.A = none → x.n = 0 ∧ x.c = 0)
theorem ListsQ.below {w w' : World} {A : Option Addr} {n : Nat} {ls : List LsX} (h : ListsQ w A n ls) (hb : Below w.heap.size w w') : ListsQ w' A n ls :=
  ⟨h.row.below hb, fun x hx => ⟨(h.good x hx).1.below hb, (h.good x hx).2⟩⟩
theorem ListsQ.at_ {w : World} {A : Option Addr} {n : Nat} {ls : List LsX} (h : ListsQ w A n ls) (hn : 0 < n) : ∃ g o, A = some ⟨g, o, none⟩ ∧ g < w.heap.size ∧ ∀ j, j < n →
    w.cell? ⟨g, o + j, none⟩ = some (.slice (ls.getD j default).A (ls.getD j default).n (ls.getD j default).c) ∧ ls.getD j default ∈ ls ∧ ls[j]? = some (ls.getD j default) := by
  obtain ⟨b, off, e, hlt, hc⟩ := h.row.2 hn
  refine ⟨b, off, e, hlt, fun j hj => ?_⟩
  have hg : ls[j]? = some (ls.getD j default) := by
    have := h.row.1
    rw [List.getD_eq_getElem?_getD, List.getElem?_eq_getElem (by omega)]
    rfl
  have h1 := hc j 0 _ hg (by decide)
  rw [Nat.mul_one, Nat.add_zero] at h1
  exact ⟨h1, List.mem_of_getElem? hg, hg⟩
/-- what is in a row of entries, cell by cell -/
theorem src_row {w : World} {b o n : Nat} {l : List EntX} (h : RowR EntX.V 3 w (some ⟨b, o, none⟩) n l) : ∀ (j : Nat) (u : Value), (rowV EntX.V l)[j]? = some u → w.cell? ((⟨b, o, none⟩ : Addr).add j) = some u := by
  intro j u hu
  have hlt : j < l.length * 3 := by
    rcases Nat.lt_or_ge j (l.length * 3) with h1 | h1
    · exact h1
    · rw [List.getElem?_eq_none (by rw [rowV_len entV_len]; exact h1)] at hu; cases hu
  obtain ⟨b2, o2, e, _, hc⟩ := h.2 (by have := h.1; omega)
  injection e with e
  injection e with e1 e2
  subst e1 e2
  have hq : l[j / 3]? = some (l.getD (j / 3) xnil) := by
    rw [List.getD_eq_getElem?_getD, List.getElem?_eq_getElem (by omega)]
    rfl
  have e := rowV_at entV_len l (j / 3) (j % 3) _ hq (by omega)
  rw [show j / 3 * 3 + j % 3 = j by omega, hu] at e
  have hc := hc (j / 3) (j % 3) _ hq (by omega)
  rw [ints_add, show o + j = o + j / 3 * 3 + j % 3 by omega, hc, e]
theorem OwnEQ.snocs {B' : Nat} {w w' : World} {v v' : Value} {l m : List EntX} (h : OwnEQ w B' v l) (hx : ∀ x ∈ m, GoodQ w x) (hg : w.grownBy w' v.ownBlock) (ho : w'.ownsRow B' 48 3 v' (l.length + m.length) (rowV EntX.V l ++ rowV EntX.V m)) : OwnEQ w' B' v' (l ++ m) :=
  ⟨OwnR.snocs ho, fun y hy => by
    rcases List.mem_append.1 hy with hy | hy
    · exact (h.2 y hy).kept h.1 hg
    · exact (hx y hy).kept h.1 hg⟩
theorem OwnEQ.nil (w : World) (B' : Nat) : OwnEQ w B' (.slice none 0 0) [] := ⟨OwnR.nil _ _ _, fun x hx => by cases hx⟩
theorem own_madeQ (w : World) (x : EntX) (o : Obj) (cp : Nat) (h1 : 1 ≤ cp) (h2 : cp ≤ maxLen) (B : Nat) (hB : B ≤ w.heap.size + 1) :
    OwnR EntX.V 3 ((w.alloc o).alloc (.cells (#[.int .i64 x.ts, .slice x.A x.n x.c, .string x.ln] ++ Builtin.zeroCells #[.int .i64 0, .slice none 0 0, .string ⟨#[]⟩] (cp - 1)) 48)).drew B 48 (.slice (some ⟨w.heap.size + 1, 0, none⟩) 1 cp) [x] := by
  refine ⟨rfl, .inr ⟨w.heap.size + 1, cp, _, rfl, hB, (blk_next w o _ _).drew, h1, h2, ?_, ?_⟩⟩
  · rw [Array.size_append, size_zeroCells]
    show 3 + (cp - 1) * 3 = cp * 3
    omega
  · rw [Array.toList_append]
    rfl
theorem refOrder_q (p q : EntX) (w : World) (hp : SmallQ w p) (hq : SmallQ w q) : Calls Try.prog 31 #[.agg #[.int .i64 p.ts, .slice p.A p.n p.c, .string p.ln], .agg #[.int .i64 q.ts, .slice q.A q.n q.c, .string q.ln]] w fun e w' => e = .returned (.int .i64 (entC p.b q.b)) ∧ Below w.heap.size w w' :=
  refEntOrder_any p.ts q.ts p.A q.A p.n q.n p.c q.c p.ls q.ls p.ln q.ln (by have := hp.2; omega) (by have := hq.2; omega) w hp.1.set hq.1.set
theorem sortedLs_next {asc : Bool} {ls : List LsX} {j : Nat} (hj : j < ls.length) : sortedLs asc (ls.take (j + 1)) = (sortedLs asc (ls.take j) && sortedE asc (ls.getD j default).l) := by
  unfold sortedLs
  rw [take_next ls j hj, List.all_append]
  simp
theorem allB_snoc (ls : List LsX) (j : Nat) (hj : j < ls.length) : allB (ls.take (j + 1)) = allB (ls.take j) ++ (ls.getD j default).l.map EntX.b := by
  unfold allB
  rw [take_next ls j hj, List.flatMap_append]
  simp
/-- put where it belongs, it stands strictly -/
theorem ins_strict {asc : Bool} {M : List EntX} {x : EntX} {k : Nat} (h : StrictB asc (M.map EntX.b)) (hk : k ≤ M.length) (h1 : ∀ i, k ≤ i → i < M.length → aheadB x.b (M.getD i xnil).b asc = true) (h2 : k = 0 ∨ aheadB (M.getD (k - 1) xnil).b x.b asc = true) : StrictB asc ((M.take k ++ [x] ++ M.drop k).map EntX.b) := by
  unfold StrictB at *
  rw [List.pairwise_map] at *
  have hs := h
  rw [← List.take_append_drop k M] at hs
  obtain ⟨s1, s2, s3⟩ := List.pairwise_append.1 hs
  rw [List.append_assoc]
  refine List.pairwise_append.2 ⟨s1, ?_, ?_⟩
  · refine List.pairwise_append.2 ⟨List.pairwise_singleton _ _, s2, fun a ha y hy => ?_⟩
    rw [List.mem_singleton.1 ha]
    obtain ⟨i, hi, rfl⟩ := List.mem_iff_getElem.1 hy
    rw [List.length_drop] at hi
    have := h1 (k + i) (by omega) (by omega)
    rw [List.getD_eq_getElem?_getD, List.getElem?_eq_getElem (by omega)] at this
    rw [List.getElem_drop]
    exact this
  · intro a ha y hy
    rcases List.mem_append.1 hy with hy | hy
    · rw [List.mem_singleton.1 hy]
      rcases h2 with h2 | h2
      · subst h2
        rw [List.take_zero] at ha
        exact absurd ha List.not_mem_nil
      · obtain ⟨i, hi, rfl⟩ := List.mem_iff_getElem.1 ha
        rw [List.length_take] at hi
        rw [List.getElem_take]
        rw [List.getD_eq_getElem?_getD, List.getElem?_eq_getElem (by omega)] at h2
        rcases Nat.lt_or_ge i (k - 1) with h3 | h3
        · exact ahead_trans (List.pairwise_iff_getElem.1 h i (k - 1) (by omega) (by omega) h3) h2
        · obtain rfl : i = k - 1 := by omega
          exact h2
    · exact s3 a ha y hy
theorem ins_mem {M : List EntX} {x : EntX} {k : Nat} (y : EntX) : y ∈ M.take k ++ [x] ++ M.drop k ↔ y = x ∨ y ∈ M := by
  rw [List.append_assoc, List.mem_append, List.mem_append, List.mem_singleton]
  conv => rhs; rw [← List.take_append_drop k M, List.mem_append]
  constructor
  · rintro (h | h | h)
    · exact .inr (.inl h)
    · exact .inl h
    · exact .inr (.inr h)
  · rintro (h | h | h)
    · exact .inr (.inl h)
    · exact .inl h
    · exact .inr (.inr h)

set_option maxRecDepth 100000 in
set_option maxHeartbeats 6400000 in
theorem refAll_any (asc : Bool) (most : Int) (hm1 : -9223372036854775808 ≤ most) (hm2 : most ≤ 9223372036854775807) (A : Option Addr) (n c : Nat) (ls : List LsX) (hn : n ≤ 100) (hN : totL ls ≤ 100) (W : World) (h : ListsQ W A n ls) :
    Calls Try.prog 13 #[.bool asc, .int .i64 most, .slice A n c] W fun e w' => ∃ (A' : Option Addr) (n' c' : Nat) (L : List EntX), e = .returned (.tuple #[.slice A' n' c', .bool (sortedLs asc ls)]) ∧ EntsQ w' A' n' L ∧ L.map EntX.b = mergeB asc most ls ∧ Below W.heap.size W w' := by
  have h0 : W.heap.size ≤ W.heap.size := Nat.le_refl _
  obtain ⟨i0, hi, hz0, hz1, hz2⟩ := info_parts infoEntQ
  obtain ⟨S, hS⟩ : ∃ S, sortedLs asc ls = S := ⟨_, rfl⟩
  have H1 := Lib.hid h
  have HS := Lib.hid hS
  have HLN := Lib.hid h.row.1
  rw [hS]
  clear h hS
  go_enter Try.func13, Try.ntmps13
  go_wp2
  go_loopw [8, 9] (fun av iv wr => ∃ (j : Nat) (L : List EntX), j ≤ n ∧ iv = .int .i64 (j : Int) ∧ Hid (sortedLs asc (ls.take j) = true) ∧ Hid (OwnEQ wr W.heap.size av L) ∧ Hid (L.map EntX.b = allB (ls.take j)) ∧ Hid (L.length = totL (ls.take j)) ∧ Hid (∀ x ∈ L, x.n ≤ 1048576) ∧ Below W.heap.size W wr) (fun _ iv _ => n - (intOf iv).toNat)
  case atStart => exact ⟨0, [], Nat.zero_le _, rfl, Lib.hid (by rw [List.take_zero]; rfl), Lib.hid (OwnEQ.nil _ _), Lib.hid (by rw [List.take_zero]; rfl), Lib.hid (by rw [List.take_zero]; rfl), Lib.hid (fun x hx => absurd hx List.not_mem_nil), Below.refl _ _⟩
  case round =>
    obtain ⟨j, L, hjn, rfl, HSJ, HO, HLB, HLL, HLS, hb⟩ := hrel
    have hsz := hb.size
    by_cases hj : j < n
    · have hjI : (j : Int) < (n : Int) := by omega
      have hjl : j < ls.length := by rw [HLN.out]; exact hj
      obtain ⟨g1, o1, rfl, hlt1, hc1⟩ := (H1.out.below hb).at_ (by omega)
      obtain ⟨c1, hm1, _⟩ := hc1 j hj
      have hgx := (H1.out.below hb).good _ hm1
      have hsn := sortedLs_next (asc := asc) hjl
      have hbn := allB_snoc ls j hjl
      have htn := totL_next ls j hjl
      have htl := totL_le ls (j + 1)
      have hsat : S = true → sortedE asc (ls.getD j default).l = true := fun e => sortedLs_at (HS.out.trans e) _ hm1
      obtain ⟨x, hx⟩ : ∃ x, ls.getD j default = x := ⟨_, rfl⟩
      rw [hx] at c1 hgx hsn hbn htn hsat
      obtain ⟨xA, xn, xc, xl⟩ := x
      dsimp only at c1 hgx hsn hbn htn hsat
      have hxl : xl.length = xn := hgx.1.1.1
      have SO := Lib.hid (fun w (h : Below wr.heap.size wr w) => refEntSorted_any asc xA xn xc xl (by omega) (fun e he => Nat.le_trans (hgx.2.1 e he) (by decide)) w (hgx.1.below h))
      obtain ⟨z, hz⟩ : ∃ z, sortedE asc xl = z := ⟨_, rfl⟩
      rw [hz] at hsn hsat
      replace SO := SO.out
      simp only [hz] at SO
      replace SO := Lib.hid SO
      have HGX := Lib.hid hgx
      have HSN := Lib.hid hsn
      have HBN := Lib.hid hbn
      have HSAT := Lib.hid hsat
      have HTN := Lib.hid (show L.length + xn = totL (ls.take (j + 1)) by rw [htn, HLL.out])
      have hLx : L.length + xn ≤ 100 := by have := HTN.out; omega
      have HXL := Lib.hid hxl
      clear hc1 hm1 hgx hx hz hsn hbn htn htl hsat hjl hxl
      go_wp2_with fail
      refine (SO.out _ (Below.refl _ _)).mono ?_
      rintro e w2 ⟨rfl, hx2⟩
      have hb2 := hop hb h0 hx2
      have c12 := (hx2.cell (p := ⟨g1, o1 + j, none⟩) hlt1).trans c1
      have HO2 := Lib.hid (HO.out.below hx2)
      have HE2 := Lib.hid (HGX.out.1.below hx2)
      have hs2 := hb2.size
      clear hx2 c1 hb SO HO
      cases z with
      | false =>
        have E : S = false := by
          cases S with
          | false => rfl
          | true => exact absurd (HSAT.out rfl) (by decide)
        have HR := Lib.hid (show ∃ (A' : Option Addr) (n' c' : Nat) (L : List EntX), (.slice none 0 0 : Value) = .slice A' n' c' ∧ EntsQ w2 A' n' L ∧ L.map EntX.b = mergeB asc most ls ∧ Below W.heap.size W w2 from ⟨none, 0, 0, [], rfl, ⟨RowR.none _, fun x hx => absurd hx List.not_mem_nil⟩, by unfold mergeB; rw [HS.out, E]; rfl, hb2⟩)
        subst E
        clear HSAT HSN HSJ
        go_wp2
        (try simp only [Exit.inBlock, Exit.then])
        refine bodyPost_ret (results_tmp2 rfl _ _ _) rfl ?_
        obtain ⟨A', n', c', L', e1, r⟩ := HR.out
        injection e1 with e1 e2 e3
        subst e1 e2 e3
        exact ⟨none, 0, 0, L', rfl, r⟩
      | true =>
        have HSJ2 := Lib.hid (show sortedLs asc (ls.take (j + 1)) = true by rw [HSN.out, HSJ.out]; rfl)
        have HLS2 := Lib.hid (show ∀ e ∈ L ++ xl, e.n ≤ 1048576 from fun e he => by
          rcases List.mem_append.1 he with he | he
          · exact HLS.out e he
          · exact HGX.out.2.1 e he)
        have HLB2 := Lib.hid (show (L ++ xl).map EntX.b = allB (ls.take (j + 1)) by rw [List.map_append, HBN.out, HLB.out])
        have HLL2 := Lib.hid (show (L ++ xl).length = totL (ls.take (j + 1)) by rw [List.length_append, HXL.out]; exact HTN.out)
        cases xA with
        | none =>
          obtain ⟨rfl, rfl⟩ := HGX.out.2.2 rfl
          have hxnil : xl = [] := List.eq_nil_of_length_eq_zero HXL.out
          have HN := Lib.hid (show OwnEQ w2 W.heap.size _ (L ++ xl) by rw [hxnil, List.append_nil]; exact HO2.out)
          clear hxnil HLB HLL HLS HBN HTN HXL HSN HSJ HSAT HE2 HGX
          go_wp2_with (at_builtin; refine wpList_append_own_none rfl (.tmp 27) (.tmp 31) 38 rfl W.heap.size 48 i0 3 Try.underlying38 hi _ _ _ rfl HO2.out.1 rfl ?_)
          clear HO2
          go_wp2
          go_round
          case rel => exact ⟨j + 1, L ++ xl, by omega, by go_num, HSJ2, HN, HLB2, HLL2, HLS2, hb2⟩
          case measure => simp [intOf]; omega
        | some xa =>
          obtain ⟨xb, xo, xf⟩ := xa
          by_cases hx0 : 0 < xn
          · obtain ⟨b3, o3, e3, _, _⟩ := HE2.out.1.2 hx0
            injection e3 with e3
            injection e3 with e4 e5 e6
            subst e4 e5 e6
            have SRC := Lib.hid (src_row HE2.out.1)
            clear HLB HLL HLS HBN HTN HSN HSJ HSAT
            go_wp2_with (at_builtin; refine wpList_append_own _ rfl (.tmp 27) (.tmp 31) 38 rfl W.heap.size 48 i0 (.agg #[.int .i64 0, .slice none 0 0, .string ⟨#[]⟩]) 3 48 Try.underlying38 hi hz0 hz1 hz2 rfl (by decide) _ _ _ rfl HO2.out.1 ⟨xb, xo, none⟩ xn xc (rowV EntX.V xl) rfl (by rw [rowV_len entV_len, HXL.out]) SRC.out (rowV_one entV_one _) (by unfold maxLen; omega) (by omega) hs2 ?_)
            intro nv w3 hown' hgrow _
            have hb3 := hb2.grown hgrow hs2 (fun r hr => (World.ownsRow.lt HO2.out.1 r hr).1)
            have HN := Lib.hid (OwnEQ.snocs (m := xl) HO2.out HE2.out.2 hgrow (by rw [HXL.out]; exact hown'))
            clear hown' hgrow HO2 SRC HE2 HGX
            go_wp2
            go_round
            case rel => exact ⟨j + 1, L ++ xl, by omega, by go_num, HSJ2, HN, HLB2, HLL2, HLS2, hb3⟩
            case measure => simp [intOf]; omega
          · obtain rfl : xn = 0 := by omega
            have hxnil : xl = [] := List.eq_nil_of_length_eq_zero HXL.out
            subst hxnil
            clear HLB HLL HLS HBN HTN HSN HSJ HSAT
            go_wp2_with (at_builtin; refine wpList_append_own _ rfl (.tmp 27) (.tmp 31) 38 rfl W.heap.size 48 i0 (.agg #[.int .i64 0, .slice none 0 0, .string ⟨#[]⟩]) 3 48 Try.underlying38 hi hz0 hz1 hz2 rfl (by decide) _ _ _ rfl HO2.out.1 ⟨xb, xo, xf⟩ 0 xc [] rfl rfl (fun p u hu => by cases hu) (fun u hu => by cases hu) (by unfold maxLen; omega) (by omega) hs2 ?_)
            intro nv w3 hown' hgrow _
            have hb3 := hb2.grown hgrow hs2 (fun r hr => (World.ownsRow.lt HO2.out.1 r hr).1)
            have HN := Lib.hid (show OwnEQ w3 W.heap.size nv (L ++ []) from ⟨by rw [List.append_nil]; exact hown', fun y hy => by rw [List.append_nil] at hy; exact (HO2.out.2 y hy).kept HO2.out.1 hgrow⟩)
            clear hown' hgrow HO2 HE2 HGX
            go_wp2
            go_round
            case rel => exact ⟨j + 1, L ++ [], by omega, by go_num, HSJ2, HN, HLB2, HLL2, HLS2, hb3⟩
            case measure => simp [intOf]; omega
    · obtain rfl : n = j := by omega
      have hlt : ls.take n = ls := List.take_of_length_le (by rw [HLN.out]; exact Nat.le_refl _)
      have E : S = true := by rw [← HS.out]; have := HSJ.out; rwa [hlt] at this
      have hLL := HLL.out
      rw [hlt] at hLL
      have HLB2 := Lib.hid (show L.map EntX.b = allB ls by have := HLB.out; rwa [hlt] at this)
      obtain ⟨AL, cL, rfl, hE⟩ := HO.out.ents
      have HEL := Lib.hid hE
      obtain ⟨N, hNN⟩ : ∃ N, L.length = N := ⟨_, rfl⟩
      have HN := Lib.hid hNN
      have hN100 : N ≤ 100 := by omega
      rw [hNN] at HEL ⊢
      subst E
      have HB0 := Lib.hid hb
      obtain ⟨w2, hw2⟩ : ∃ v, v = wr := ⟨_, rfl⟩
      subst hw2
      have hWw : W.heap.size ≤ w2.heap.size := hsz
      clear hb hlt hLL hE hNN HLB HLL HO HSJ hj hsz
      go_wp2
      go_loopw [10, 11] (fun ov iv wr => ∃ (j : Nat) (M : List EntX), j ≤ N ∧ iv = .int .i64 (j : Int) ∧ M.length ≤ j ∧ Hid (StrictB asc (M.map EntX.b)) ∧ Hid (∀ e, e ∈ M.map EntX.b ↔ e ∈ (L.take j).map EntX.b) ∧ Hid (∀ x ∈ M, x.n ≤ 1048576) ∧ Hid (M = [] → ov = .slice none 0 0) ∧ Hid (OwnEQ wr w2.heap.size ov M) ∧ Below w2.heap.size w2 wr) (fun _ iv _ => N - (intOf iv).toNat)
      case atStart => exact ⟨0, [], Nat.zero_le _, rfl, Nat.le_refl _, Lib.hid List.Pairwise.nil, Lib.hid (fun e => by rw [List.take_zero]), Lib.hid (fun x hx => absurd hx List.not_mem_nil), Lib.hid (fun _ => rfl), Lib.hid (OwnEQ.nil _ _), Below.refl _ _⟩
      case round =>
        obtain ⟨j, M, hjN, rfl, hMj, HMS, HMM, HMN, HM0, HO, hb⟩ := hrel
        have hsz := hb.size
        by_cases hj : j < N
        · have hjI : (j : Int) < (N : Int) := by omega
          obtain ⟨b1, o1, rfl, hlt1, hc1⟩ := (HEL.out.below hb).at_ (by omega)
          obtain ⟨c1, c2, c3, hmem, gx⟩ := hc1 j hj
          have hxn := HLS.out _ hmem
          have hjl : j < L.length := by rw [HN.out]; exact hj
          have hks : L.take (j + 1) = L.take j ++ [L.getD j xnil] := by
            rw [List.take_succ_eq_append_getElem hjl, List.getD_eq_getElem?_getD, List.getElem?_eq_getElem hjl]
            rfl
          obtain ⟨x, hx⟩ : ∃ x, L.getD j xnil = x := ⟨_, rfl⟩
          rw [hx] at c1 c2 c3 gx hxn hks
          have HGX := Lib.hid (show SmallQ wr x from ⟨gx, hxn⟩)
          -- what the next list holds, in either case
          have HNEXT := Lib.hid (show ∀ K : List EntX, (∀ y, y ∈ K ↔ y = x ∨ y ∈ M) → ∀ e, e ∈ K.map EntX.b ↔ e ∈ (L.take (j + 1)).map EntX.b from fun K hK e => by
            rw [hks, List.map_append, List.mem_append, ← HMM.out e, List.mem_map]
            constructor
            · rintro ⟨y, hy, rfl⟩
              rcases (hK y).1 hy with rfl | hy
              · exact .inr List.mem_cons_self
              · exact .inl (List.mem_map.2 ⟨y, hy, rfl⟩)
            · rintro (he | he)
              · obtain ⟨y, hy, rfl⟩ := List.mem_map.1 he
                exact ⟨y, (hK y).2 (.inr hy), rfl⟩
              · rw [List.map_cons, List.map_nil, List.mem_singleton] at he
                exact ⟨x, (hK x).2 (.inl rfl), he.symm⟩)
          have HSKIP := Lib.hid (show x.b ∈ M.map EntX.b → ∀ e, e ∈ M.map EntX.b ↔ e ∈ (L.take (j + 1)).map EntX.b from fun hxM e => by
            rw [hks, List.map_append, List.mem_append, ← HMM.out e]
            constructor
            · exact .inl
            · rintro (he | he)
              · exact he
              · rw [List.map_cons, List.map_nil, List.mem_singleton] at he
                rw [he]; exact hxM)
          clear hc1 hmem gx hxn hjl hks hx
          obtain ⟨m, hmM⟩ : ∃ m, M.length = m := ⟨_, rfl⟩
          have HML := Lib.hid hmM
          obtain ⟨v0, hv0⟩ : ∃ v, v = wr := ⟨_, rfl⟩
          subst hv0
          have Hb := Lib.hid hb
          rcases Nat.eq_zero_or_pos m with hm0 | hm0
          · have hM : M = [] := List.eq_nil_of_length_eq_zero (by rw [hmM]; exact hm0)
            obtain rfl := HM0.out hM
            subst hM
            have HNX := Lib.hid (HNEXT.out [x] (fun y => by simp))
            clear hb HML HMS HMM HMN HM0 HO HNEXT HSKIP hmM hm0
            go_wp2
            go_loopw [12] (fun av w3 => av = .int .i64 0 ∧ ∃ q, w3 = v0.drewN q) (fun _ _ => 0)
            case atStart => exact ⟨rfl, 0, rfl⟩
            case round =>
              obtain ⟨rfl, q, rfl⟩ := hrel
              have q0 : Below v0.heap.size v0 (v0.drewN q) := below_drewN (Below.refl _ _) q
              go_wp2
              go_quiet (fail)
              generalize hw3 : World.drewN _ _ = w3
              have hb3 : Below v0.heap.size v0 w3 := by rw [← hw3]; exact below_drewN q0 _
              clear hw3 q0
              go_wp2
              go_quiet (fail)
              generalize hw4 : World.drewN _ _ = w4
              have hb4 : Below v0.heap.size v0 w4 := by rw [← hw4]; exact below_drewN hb3 _
              clear hw4 hb3
              have d1 := (hb4.cell (p := ⟨b1, o1 + j * 3, none⟩) hlt1).trans c1
              have d2 := (hb4.cell (p := ⟨b1, o1 + j * 3 + 1, none⟩) hlt1).trans c2
              have d3 := (hb4.cell (p := ⟨b1, o1 + j * 3 + 2, none⟩) hlt1).trans c3
              have hs4 := hb4.size
              have hs4' : v0.heap.size ≤ w4.heap.size + 1 := by omega
              have Hb4 := Lib.hid hb4
              have HGX4 := Lib.hid (HGX.out.below hb4)
              have MD := Lib.hid (own_madeQ w4 x (.cells #[.int .i64 x.ts, .slice x.A x.n x.c, .string x.ln] 48) _ (grownCap_ge w4 1 0 48) (grownCap_le_maxLen w4 1 0 48 (by decide)) v0.heap.size hs4')
              clear hb4
              go_wp2_with (at_builtin; refine wpList_append_own_none rfl (.tmp 85) (.tmp 88) 38 rfl v0.heap.size 48 i0 3 Try.underlying38 hi _ _ _ rfl MD.out rfl ?_)
              go_wp2
              go_round
              case rel => exact ⟨j + 1, [x], by omega, by go_num, by simp, Lib.hid (List.pairwise_singleton _ _), HNX, Lib.hid (fun y hy => by rw [List.mem_singleton.1 hy]; exact HGX.out.2), Lib.hid (fun h => by cases h), Lib.hid ⟨OwnR.mono MD.out hsz, fun y hy => by
                rw [List.mem_singleton.1 hy]
                exact HGX4.out.1.below (below_drewN ((((Below.refl _ _).alloc (Nat.le_refl _) _)).alloc (by simp) _) 1)⟩, hop Hb.out (Nat.le_refl _) (below_drewN ((Hb4.out.alloc hs4 _).alloc (by simp; omega) _) 1)⟩
              case measure => simp [intOf]; omega
          · obtain ⟨g, cp, rfl, hgB, hglt, hcp, hsrc⟩ := OwnR.at_ entV_len HO.out.1 (by omega)
            have hgm := HO.out.2
            have HO0 := HO
            rw [hmM] at hcp
            rw [hmM]
            have HSRC := Lib.hid hsrc
            have HGM := Lib.hid hgm
            have hm100 : m ≤ 100 := by omega
            have hmj : m ≤ j := by omega
            clear hb hmM hsrc hgm HO HM0
            go_wp2
            go_loopw [12] (fun av w3 => ∃ k : Nat, k ≤ m ∧ av = .int .i64 k ∧ Hid (∀ i, k ≤ i → i < m → aheadB x.b (M.getD i xnil).b asc = true) ∧ Below v0.heap.size v0 w3) (fun av _ => (intOf av).toNat)
            case atStart => exact ⟨m, Nat.le_refl _, rfl, Lib.hid (fun i h1 h2 => by omega), Below.refl _ _⟩
            case round =>
              obtain ⟨k, hkm, rfl, HK, hb3⟩ := hrel
              rcases Nat.eq_zero_or_pos k with hk0 | hk0
              · have q1 : decide (0 < k) = false := decide_eq_false (by omega)
                have q2 : ¬ 0 < k := by omega
                have q3 : ¬ (0 : Int) < (k : Int) := by omega
                have HKK := Lib.hid (show k = 0 ∨ aheadB (M.getD (k - 1) xnil).b x.b asc = true from .inl hk0)
                have hck0 : ¬ cp = k := by omega
                have q0 := hb3
                clear hb3 hk0
                go_wp2
                go_quiet (fail)
                generalize hw3 : World.drewN _ _ = w3
                have hb3 : Below v0.heap.size v0 w3 := by rw [← hw3]; exact below_drewN q0 _
                clear hw3 q0
                go_wp2
                go_quiet (fail)
                generalize hw4 : World.drewN _ _ = w4
                have hb4 : Below v0.heap.size v0 w4 := by rw [← hw4]; exact below_drewN hb3 _
                clear hw4 hb3
                have d1 := (hb4.cell (p := ⟨b1, o1 + j * 3, none⟩) hlt1).trans c1
                have d2 := (hb4.cell (p := ⟨b1, o1 + j * 3 + 1, none⟩) hlt1).trans c2
                have d3 := (hb4.cell (p := ⟨b1, o1 + j * 3 + 2, none⟩) hlt1).trans c3
                have hs4 := hb4.size
                have HO4 := Lib.hid (OwnEQ.nil w4 v0.heap.size)
                have Hb4 := Lib.hid hb4
                have src4 := Lib.hid (src_upto (fun p i a h1 h2 => (hb4.cell (p := ⟨g, p * 3 + i, none⟩) hglt).trans (HSRC.out p i a h1 h2)) k)
                have gm4 := Lib.hid (fun (y : EntX) (hy : y ∈ M.take k) => (HGM.out y (List.mem_of_mem_take hy)).below hb4)
                have tl := Lib.hid (show (M.take k).length = k from by rw [List.length_take, HML.out]; omega)
                have kI : (k : Int) ≤ (m : Int) := by omega
                have kcp : (k : Int) ≤ (cp : Int) := by omega
                clear hb4
                go_wp2_with (at_builtin; refine wpList_append_own _ rfl (.tmp 73) (.tmp 76) 38 rfl v0.heap.size 48 i0 (.agg #[.int .i64 0, .slice none 0 0, .string ⟨#[]⟩]) 3 48 Try.underlying38 hi hz0 hz1 hz2 rfl (by decide) _ _ _ rfl HO4.out.1 ⟨g, 0, none⟩ k cp (rowV EntX.V (M.take k)) rfl (by rw [rowV_len entV_len, tl.out]) src4.out (rowV_one entV_one _) (by show 0 + k ≤ maxLen; unfold maxLen; omega) (by show (0 + k) * 48 ≤ _; omega) hs4 ?_)
                intro n1 w5 hown1 hgrow1 _
                have hb5 := Hb4.out.grown hgrow1 hs4 (fun r hr => by cases hr)
                have ho5 := OwnEQ.snocs (m := M.take k) HO4.out gm4.out hgrow1 (by rw [tl.out, List.length_nil, Nat.zero_add]; exact hown1)
                rw [List.nil_append] at ho5
                have HO5 := Lib.hid ho5
                have Hb5 := Lib.hid hb5
                have hs5 := hb5.size
                have HGX5 := Lib.hid (HGX.out.below hb5)
                clear hown1 hgrow1 HO4 d1 d2 d3 src4 gm4 ho5
                have d1 := (hb5.cell (p := ⟨b1, o1 + j * 3, none⟩) hlt1).trans c1
                have d2 := (hb5.cell (p := ⟨b1, o1 + j * 3 + 1, none⟩) hlt1).trans c2
                have d3 := (hb5.cell (p := ⟨b1, o1 + j * 3 + 2, none⟩) hlt1).trans c3
                clear hb5
                go_wp2_with (at_builtin; refine wpList_append_own _ rfl (.tmp 78) (.tmp 83) 38 rfl v0.heap.size 48 i0 (.agg #[.int .i64 0, .slice none 0 0, .string ⟨#[]⟩]) 3 48 Try.underlying38 hi hz0 hz1 hz2 rfl (by decide) _ _ _ rfl (OwnR.alloc HO5.out.1 _) ⟨w5.heap.size, 0, none⟩ 1 1 (EntX.V x) rfl rfl (new_cells_at _ _ _ _ (by simp)) (entV_one _) (by rw [tl.out]; unfold maxLen; omega) (by rw [tl.out]; omega) (by simp; omega) ?_)
                intro n2 w6 hown2 hgrow2 _
                have hb6 := (Hb5.out.alloc hs5 _).grown hgrow2 (by simp; omega) (fun r hr => (World.ownsRow.lt HO5.out.1 r hr).1)
                have ho6 := OwnEQ.snoc (x := x) (HO5.out.alloc _) (HGX5.out.1.below ((Below.refl _ _).alloc (Nat.le_refl _) _)) hgrow2 (by rw [List.length_take]; exact hown2)
                have HO6 := Lib.hid ho6
                have Hb6 := Lib.hid hb6
                have hs6 := hb6.size
                have src6 := Lib.hid (src_from (fun p i a h1 h2 => (hb6.cell (p := ⟨g, p * 3 + i, none⟩) hglt).trans (HSRC.out p i a h1 h2)) k)
                have gm6 := Lib.hid (fun (y : EntX) (hy : y ∈ M.drop k) => (HGM.out y (List.mem_of_mem_drop hy)).below hb6)
                have dl := Lib.hid (show (M.drop k).length = m - k from by rw [List.length_drop, HML.out])
                have tl6 := Lib.hid (show (M.take k ++ [x]).length = k + 1 from by rw [List.length_append, tl.out]; rfl)
                have qj : ((m : Int) - (k : Int)) = ((m - k : Nat) : Int) := by omega
                have qc : ((cp : Int) - (k : Int)) = ((cp - k : Nat) : Int) := by omega
                have rs := Lib.hid (ins_strict HMS.out (by rw [HML.out]; omega) (fun i h1 h2 => HK.out i h1 (by rw [HML.out] at h2; exact h2)) HKK.out)
                have rn := Lib.hid (show ∀ q ∈ M.take k ++ [x] ++ M.drop k, q.n ≤ 1048576 from fun q hq => by
                  rcases (ins_mem q).1 hq with rfl | hq
                  · exact HGX.out.2
                  · exact HMN.out q hq)
                have rx := Lib.hid (HNEXT.out (M.take k ++ [x] ++ M.drop k) (fun y => ins_mem y))
                have rl := Lib.hid (show (M.take k ++ [x] ++ M.drop k).length = m + 1 from by rw [List.length_append, tl6.out, dl.out]; first | done | omega)
                clear hown2 hgrow2 HO5 d1 d2 d3 ho6 hb6
                go_wp2_with (at_builtin; refine wpList_append_own _ rfl (.tmp 85) (.tmp 88) 38 rfl v0.heap.size 48 i0 (.agg #[.int .i64 0, .slice none 0 0, .string ⟨#[]⟩]) 3 48 Try.underlying38 hi hz0 hz1 hz2 rfl (by decide) _ _ _ rfl HO6.out.1 ⟨g, k * 3, none⟩ (m - k) (cp - k) (rowV EntX.V (M.drop k)) rfl (by rw [rowV_len entV_len, dl.out]) src6.out (rowV_one entV_one _) (by rw [tl6.out]; unfold maxLen; omega) (by rw [tl6.out]; omega) hs6 ?_)
                intro n3 w7 hown3 hgrow3 _
                have hb7 := Hb6.out.grown hgrow3 hs6 (fun r hr => (World.ownsRow.lt HO6.out.1 r hr).1)
                have ho7 := OwnEQ.snocs (m := M.drop k) HO6.out gm6.out hgrow3 (by rw [tl6.out, dl.out]; simpa [tl6.out, HML.out, Nat.min_eq_left hkm] using hown3)
                have HO7 := Lib.hid (show OwnEQ w7 w2.heap.size n3 (M.take k ++ [x] ++ M.drop k) from ⟨OwnR.mono ho7.1 hsz, ho7.2⟩)
                clear hown3 hgrow3 HO6 ho7 src6 gm6
                go_wp2
                go_round
                case rel => exact ⟨j + 1, _, by omega, by go_num, by rw [rl.out]; omega, rs, rx, rn, Lib.hid (fun h => absurd h (by simp)), HO7, hop Hb.out (Nat.le_refl _) hb7⟩
                case measure => simp [intOf]; omega
              · obtain ⟨i, hki⟩ : ∃ i, k = i + 1 := ⟨k - 1, by omega⟩
                have hwp : IntKind.i64.wrap ((k : Int) - 1) = (i : Int) := by rw [IntKind.wrap_i64]; omega
                have q1 : decide (0 < k) = true := decide_eq_true (by omega)
                have q2 : 0 < k := by omega
                have q3 : (0 : Int) < (k : Int) := by omega
                have q4 : (i : Int) < (m : Int) := by omega
                have hiq : M[i]? = some (M.getD i xnil) := by
                  have := HML.out
                  rw [List.getD_eq_getElem?_getD, List.getElem?_eq_getElem (by omega)]
                  rfl
                have y1 := (hb3.cell (p := ⟨g, i * 3 + 0, none⟩) hglt).trans (HSRC.out i 0 _ hiq (by decide))
                have y2 := (hb3.cell (p := ⟨g, i * 3 + 1, none⟩) hglt).trans (HSRC.out i 1 _ hiq (by decide))
                have y3 := (hb3.cell (p := ⟨g, i * 3 + 2, none⟩) hglt).trans (HSRC.out i 2 _ hiq (by decide))
                rw [Nat.add_zero] at y1
                have hgy : SmallQ v0 (M.getD i xnil) := ⟨HGM.out _ (List.mem_of_getElem? hiq), HMN.out _ (List.mem_of_getElem? hiq)⟩
                obtain ⟨y, hy⟩ : ∃ y, M.getD i xnil = y := ⟨_, rfl⟩
                rw [hy] at hgy y1 y2 y3 hiq
                replace y1 : wr.cell? ⟨g, i * 3, none⟩ = some (.int .i64 y.ts) := y1
                replace y2 : wr.cell? ⟨g, i * 3 + 1, none⟩ = some (.slice y.A y.n y.c) := y2
                replace y3 : wr.cell? ⟨g, i * 3 + 2, none⟩ = some (.string y.ln) := y3
                have d1 := (hb3.cell (p := ⟨b1, o1 + j * 3, none⟩) hlt1).trans c1
                have d2 := (hb3.cell (p := ⟨b1, o1 + j * 3 + 1, none⟩) hlt1).trans c2
                have d3 := (hb3.cell (p := ⟨b1, o1 + j * 3 + 2, none⟩) hlt1).trans c3
                have hl1 : b1 < wr.heap.size := Nat.lt_of_lt_of_le hlt1 hb3.size
                have hl2 : g < wr.heap.size := Nat.lt_of_lt_of_le hglt hb3.size
                have HGY := Lib.hid (hgy.below hb3)
                have HGX3 := Lib.hid (HGX.out.below hb3)
                have AH := fun w (h : Below wr.heap.size wr w) => refAhead_q x y asc w (HGX3.out.below h) (HGY.out.below h)
                obtain ⟨z, hz⟩ : ∃ z, aheadB x.b y.b asc = z := ⟨_, rfl⟩
                simp only [hz] at AH
                replace AH := Lib.hid AH
                have HKI := Lib.hid hki
                have HYY := Lib.hid hy
                have HYQ := Lib.hid hiq
                have HZ := Lib.hid hz
                have Hb3 := Lib.hid hb3
                have S0 : Below wr.heap.size wr wr.drew := (Below.refl _ _).drew
                clear hki hiq hgy hy hz hb3 hk0
                go_wp2
                go_region_held3 (fun w' => Below wr.heap.size wr w' ∧ w'.cell? ⟨b1, o1 + j * 3, none⟩ = some (.int .i64 x.ts) ∧ w'.cell? ⟨b1, o1 + j * 3 + 1, none⟩ = some (.slice x.A x.n x.c) ∧ w'.cell? ⟨b1, o1 + j * 3 + 2, none⟩ = some (.string x.ln) ∧ w'.cell? ⟨g, i * 3, none⟩ = some (.int .i64 y.ts) ∧ w'.cell? ⟨g, i * 3 + 1, none⟩ = some (.slice y.A y.n y.c) ∧ w'.cell? ⟨g, i * 3 + 2, none⟩ = some (.string y.ln))
                  (first | assumption | exact ⟨by assumption, by assumption, by assumption, by assumption, by assumption, by assumption, by assumption⟩ | exact ⟨by assumption, (hb5.cell (p := ⟨_, _, none⟩) hl1).trans d1, (hb5.cell (p := ⟨_, _, none⟩) hl1).trans d2, (hb5.cell (p := ⟨_, _, none⟩) hl1).trans d3, (hb5.cell (p := ⟨_, _, none⟩) hl2).trans y1, (hb5.cell (p := ⟨_, _, none⟩) hl2).trans y2, (hb5.cell (p := ⟨_, _, none⟩) hl2).trans y3⟩)
                  (first | (go_at_call 24; refine (AH.out _ S0).mono ?_; rintro e w3 ⟨rfl, hb5⟩; replace hb5 : Below wr.heap.size wr w3 := ⟨hb5.os, hb5.tape, hb5.output, hb5.size, hb5.block⟩))
                all_goals
                  have hb3 := hop Hb3.out (Nat.le_refl _) hb5
                  have HGY3 := Lib.hid (HGY.out.below hb5)
                  have HGX4 := Lib.hid (HGX3.out.below hb5)
                  have f1 := (hb5.cell (p := ⟨b1, o1 + j * 3, none⟩) hl1).trans d1
                  have f2 := (hb5.cell (p := ⟨b1, o1 + j * 3 + 1, none⟩) hl1).trans d2
                  have f3 := (hb5.cell (p := ⟨b1, o1 + j * 3 + 2, none⟩) hl1).trans d3
                  have g1 := (hb5.cell (p := ⟨g, i * 3, none⟩) hl2).trans y1
                  have g2 := (hb5.cell (p := ⟨g, i * 3 + 1, none⟩) hl2).trans y2
                  have g3 := (hb5.cell (p := ⟨g, i * 3 + 2, none⟩) hl2).trans y3
                  have hl13 : b1 < w3.heap.size := Nat.lt_of_lt_of_le hl1 hb5.size
                  have hl23 : g < w3.heap.size := Nat.lt_of_lt_of_le hl2 hb5.size
                  clear hb5 d1 d2 d3 y1 y2 y3 S0 AH HGY HGX3 Hb3
                  cases z with
                  | true =>
                    have HK2 := Lib.hid (show ∀ p, i ≤ p → p < m → aheadB x.b (M.getD p xnil).b asc = true from fun p h1 h2 => by
                      rcases (by omega : p = i ∨ i + 1 ≤ p) with e | e
                      · rw [e, HYY.out]; exact HZ.out
                      · exact HK.out p (by rw [HKI.out]; exact e) h2)
                    have hij : i ≤ m := by omega
                    have hik : i < k := by rw [HKI.out]; omega
                    clear f1 f2 f3 g1 g2 g3
                    go_wp2
                    go_round
                    case rel => exact ⟨i, hij, by go_num, HK2, hb3⟩
                    case measure => simp [intOf]; omega
                  | false =>
                    have OR := fun w (h : Below w3.heap.size w3 w) => refOrder_q x y w (HGX4.out.below h) (HGY3.out.below h)
                    obtain ⟨o, ho⟩ : ∃ o, entC x.b y.b = o := ⟨_, rfl⟩
                    simp only [ho] at OR
                    replace OR := Lib.hid OR
                    have HOO := Lib.hid ho
                    have Hb3 := Lib.hid hb3
                    have S0 : Below w3.heap.size w3 w3.drew := (Below.refl _ _).drew
                    have hkl : k ≤ m := hkm
                    clear ho hb3
                    go_wp2
                    go_region_held3 (fun w' => Below w3.heap.size w3 w' ∧ w'.cell? ⟨b1, o1 + j * 3, none⟩ = some (.int .i64 x.ts) ∧ w'.cell? ⟨b1, o1 + j * 3 + 1, none⟩ = some (.slice x.A x.n x.c) ∧ w'.cell? ⟨b1, o1 + j * 3 + 2, none⟩ = some (.string x.ln) ∧ w'.cell? ⟨g, i * 3, none⟩ = some (.int .i64 y.ts) ∧ w'.cell? ⟨g, i * 3 + 1, none⟩ = some (.slice y.A y.n y.c) ∧ w'.cell? ⟨g, i * 3 + 2, none⟩ = some (.string y.ln))
                      (first | assumption | exact ⟨by assumption, by assumption, by assumption, by assumption, by assumption, by assumption, by assumption⟩ | exact ⟨by assumption, (hb5.cell (p := ⟨_, _, none⟩) hl13).trans f1, (hb5.cell (p := ⟨_, _, none⟩) hl13).trans f2, (hb5.cell (p := ⟨_, _, none⟩) hl13).trans f3, (hb5.cell (p := ⟨_, _, none⟩) hl23).trans g1, (hb5.cell (p := ⟨_, _, none⟩) hl23).trans g2, (hb5.cell (p := ⟨_, _, none⟩) hl23).trans g3⟩)
                      (first | (go_at_call 31; refine (OR.out _ S0).mono ?_; rintro e w4 ⟨rfl, hb5⟩; replace hb5 : Below w3.heap.size w3 w4 := ⟨hb5.os, hb5.tape, hb5.output, hb5.size, hb5.block⟩))
                    all_goals
                      have hb4 := hop Hb3.out (Nat.le_refl _) hb5
                      clear hb5 f1 f2 f3 g1 g2 g3 S0 OR HGY3 HGX4 Hb3
                      by_cases ho0 : o = 0
                      · have hxM : x.b ∈ M.map EntX.b := List.mem_map.2 ⟨y, List.mem_of_getElem? HYQ.out, (entC_zero.1 (HOO.out.trans ho0)).symm⟩
                        have HMM2 := Lib.hid (HSKIP.out hxM)
                        subst ho0
                        have HO9 := Lib.hid (show OwnEQ w4 w2.heap.size (.slice (some ⟨g, 0, none⟩) m cp) M from by have := HO0.out.below hb4; rwa [HML.out] at this)
                        clear hxM
                        go_wp2
                        go_round
                        case rel => exact ⟨j + 1, M, by omega, by go_num, by rw [HML.out]; omega, HMS, HMM2, HMN, Lib.hid (fun h => absurd (show m = 0 by have := HML.out; rw [h] at this; exact this.symm) (show ¬ m = 0 by omega)), HO9, hop Hb.out (Nat.le_refl _) hb4⟩
                        case measure => simp [intOf]; omega
                      · have HKK := Lib.hid (show k = 0 ∨ aheadB (M.getD (k - 1) xnil).b x.b asc = true from .inr (by
                          rw [HKI.out, Nat.add_sub_cancel, HYY.out]
                          cases h1 : aheadB y.b x.b asc
                          · exact absurd (HOO.out.symm.trans (entC_zero.2 (ahead_total HZ.out h1))) ho0
                          · rfl))
                        by_cases hck : cp = k
                        · obtain rfl : k = m := by omega
                          obtain rfl : k = cp := hck.symm
                          have d1 := (hb4.cell (p := ⟨b1, o1 + j * 3, none⟩) hlt1).trans c1
                          have d2 := (hb4.cell (p := ⟨b1, o1 + j * 3 + 1, none⟩) hlt1).trans c2
                          have d3 := (hb4.cell (p := ⟨b1, o1 + j * 3 + 2, none⟩) hlt1).trans c3
                          have hs4 := hb4.size
                          have HO4 := Lib.hid (OwnEQ.nil w4 v0.heap.size)
                          have Hb4 := Lib.hid hb4
                          have src4 := Lib.hid (src_upto (fun p i a h1 h2 => (hb4.cell (p := ⟨g, p * 3 + i, none⟩) hglt).trans (HSRC.out p i a h1 h2)) k)
                          have gm4 := Lib.hid (fun (y : EntX) (hy : y ∈ M.take k) => (HGM.out y (List.mem_of_mem_take hy)).below hb4)
                          have tl := Lib.hid (show (M.take k).length = k from by rw [List.length_take, HML.out]; omega)
                          have kI : (k : Int) ≤ (k : Int) := by omega
                          have kcp : (k : Int) ≤ (k : Int) := by omega
                          clear hb4
                          go_wp2_with (at_builtin; refine wpList_append_own _ rfl (.tmp 73) (.tmp 76) 38 rfl v0.heap.size 48 i0 (.agg #[.int .i64 0, .slice none 0 0, .string ⟨#[]⟩]) 3 48 Try.underlying38 hi hz0 hz1 hz2 rfl (by decide) _ _ _ rfl HO4.out.1 ⟨g, 0, none⟩ k k (rowV EntX.V (M.take k)) rfl (by rw [rowV_len entV_len, tl.out]) src4.out (rowV_one entV_one _) (by show 0 + k ≤ maxLen; unfold maxLen; omega) (by show (0 + k) * 48 ≤ _; omega) hs4 ?_)
                          intro n1 w5 hown1 hgrow1 _
                          have hb5 := Hb4.out.grown hgrow1 hs4 (fun r hr => by cases hr)
                          have ho5 := OwnEQ.snocs (m := M.take k) HO4.out gm4.out hgrow1 (by rw [tl.out, List.length_nil, Nat.zero_add]; exact hown1)
                          rw [List.nil_append] at ho5
                          have HO5 := Lib.hid ho5
                          have Hb5 := Lib.hid hb5
                          have hs5 := hb5.size
                          have HGX5 := Lib.hid (HGX.out.below hb5)
                          clear hown1 hgrow1 HO4 d1 d2 d3 src4 gm4 ho5
                          have d1 := (hb5.cell (p := ⟨b1, o1 + j * 3, none⟩) hlt1).trans c1
                          have d2 := (hb5.cell (p := ⟨b1, o1 + j * 3 + 1, none⟩) hlt1).trans c2
                          have d3 := (hb5.cell (p := ⟨b1, o1 + j * 3 + 2, none⟩) hlt1).trans c3
                          clear hb5
                          go_wp2_with (at_builtin; refine wpList_append_own _ rfl (.tmp 78) (.tmp 83) 38 rfl v0.heap.size 48 i0 (.agg #[.int .i64 0, .slice none 0 0, .string ⟨#[]⟩]) 3 48 Try.underlying38 hi hz0 hz1 hz2 rfl (by decide) _ _ _ rfl (OwnR.alloc HO5.out.1 _) ⟨w5.heap.size, 0, none⟩ 1 1 (EntX.V x) rfl rfl (new_cells_at _ _ _ _ (by simp)) (entV_one _) (by rw [tl.out]; unfold maxLen; omega) (by rw [tl.out]; omega) (by simp; omega) ?_)
                          intro n2 w6 hown2 hgrow2 _
                          have hb6 := (Hb5.out.alloc hs5 _).grown hgrow2 (by simp; omega) (fun r hr => (World.ownsRow.lt HO5.out.1 r hr).1)
                          have ho6 := OwnEQ.snoc (x := x) (HO5.out.alloc _) (HGX5.out.1.below ((Below.refl _ _).alloc (Nat.le_refl _) _)) hgrow2 (by rw [List.length_take]; exact hown2)
                          have HO6 := Lib.hid ho6
                          have Hb6 := Lib.hid hb6
                          have hs6 := hb6.size
                          have src6 := Lib.hid (src_from (fun p i a h1 h2 => (hb6.cell (p := ⟨g, p * 3 + i, none⟩) hglt).trans (HSRC.out p i a h1 h2)) k)
                          have gm6 := Lib.hid (fun (y : EntX) (hy : y ∈ M.drop k) => (HGM.out y (List.mem_of_mem_drop hy)).below hb6)
                          have dl := Lib.hid (show (M.drop k).length = 0 from by rw [List.length_drop, HML.out, Nat.sub_self])
                          have tl6 := Lib.hid (show (M.take k ++ [x]).length = k + 1 from by rw [List.length_append, tl.out]; rfl)
                          have qj : ((k : Int) - (k : Int)) = ((k - k : Nat) : Int) := by omega
                          have qc : ((k : Int) - (k : Int)) = ((k - k : Nat) : Int) := by omega
                          have rs := Lib.hid (ins_strict HMS.out (by rw [HML.out]; omega) (fun i h1 h2 => HK.out i h1 (by rw [HML.out] at h2; exact h2)) HKK.out)
                          have rn := Lib.hid (show ∀ q ∈ M.take k ++ [x] ++ M.drop k, q.n ≤ 1048576 from fun q hq => by
                            rcases (ins_mem q).1 hq with rfl | hq
                            · exact HGX.out.2
                            · exact HMN.out q hq)
                          have rx := Lib.hid (HNEXT.out (M.take k ++ [x] ++ M.drop k) (fun y => ins_mem y))
                          have rl := Lib.hid (show (M.take k ++ [x] ++ M.drop k).length = k + 1 from by rw [List.length_append, tl6.out, dl.out]; first | done | omega)
                          clear hown2 hgrow2 HO5 d1 d2 d3 ho6 hb6
                          go_wp2_with (at_builtin; refine wpList_append_own _ rfl (.tmp 85) (.tmp 88) 38 rfl v0.heap.size 48 i0 (.agg #[.int .i64 0, .slice none 0 0, .string ⟨#[]⟩]) 3 48 Try.underlying38 hi hz0 hz1 hz2 rfl (by decide) _ _ _ rfl HO6.out.1 ⟨g, 0, none⟩ 0 0 (rowV EntX.V (M.drop k)) rfl (by rw [rowV_len entV_len, dl.out]) (fun p u hu => by rw [List.drop_eq_nil_of_le (by rw [HML.out]; exact Nat.le_refl _)] at hu; cases hu) (rowV_one entV_one _) (by rw [tl6.out]; unfold maxLen; omega) (by rw [tl6.out]; omega) hs6 ?_)
                          intro n3 w7 hown3 hgrow3 _
                          have hb7 := Hb6.out.grown hgrow3 hs6 (fun r hr => (World.ownsRow.lt HO6.out.1 r hr).1)
                          have ho7 := OwnEQ.snocs (m := M.drop k) HO6.out gm6.out hgrow3 (by rw [tl6.out, dl.out]; simpa [tl6.out, HML.out, Nat.min_eq_left hkm] using hown3)
                          have HO7 := Lib.hid (show OwnEQ w7 w2.heap.size n3 (M.take k ++ [x] ++ M.drop k) from ⟨OwnR.mono ho7.1 hsz, ho7.2⟩)
                          clear hown3 hgrow3 HO6 ho7 src6 gm6
                          go_wp2
                          go_round
                          case rel => exact ⟨j + 1, _, by omega, by go_num, by rw [rl.out]; omega, rs, rx, rn, Lib.hid (fun h => absurd h (by simp)), HO7, hop Hb.out (Nat.le_refl _) hb7⟩
                          case measure => simp [intOf]; omega
                        · skip
                          have d1 := (hb4.cell (p := ⟨b1, o1 + j * 3, none⟩) hlt1).trans c1
                          have d2 := (hb4.cell (p := ⟨b1, o1 + j * 3 + 1, none⟩) hlt1).trans c2
                          have d3 := (hb4.cell (p := ⟨b1, o1 + j * 3 + 2, none⟩) hlt1).trans c3
                          have hs4 := hb4.size
                          have HO4 := Lib.hid (OwnEQ.nil w4 v0.heap.size)
                          have Hb4 := Lib.hid hb4
                          have src4 := Lib.hid (src_upto (fun p i a h1 h2 => (hb4.cell (p := ⟨g, p * 3 + i, none⟩) hglt).trans (HSRC.out p i a h1 h2)) k)
                          have gm4 := Lib.hid (fun (y : EntX) (hy : y ∈ M.take k) => (HGM.out y (List.mem_of_mem_take hy)).below hb4)
                          have tl := Lib.hid (show (M.take k).length = k from by rw [List.length_take, HML.out]; omega)
                          have kI : (k : Int) ≤ (m : Int) := by omega
                          have kcp : (k : Int) ≤ (cp : Int) := by omega
                          clear hb4
                          go_wp2_with (at_builtin; refine wpList_append_own _ rfl (.tmp 73) (.tmp 76) 38 rfl v0.heap.size 48 i0 (.agg #[.int .i64 0, .slice none 0 0, .string ⟨#[]⟩]) 3 48 Try.underlying38 hi hz0 hz1 hz2 rfl (by decide) _ _ _ rfl HO4.out.1 ⟨g, 0, none⟩ k cp (rowV EntX.V (M.take k)) rfl (by rw [rowV_len entV_len, tl.out]) src4.out (rowV_one entV_one _) (by show 0 + k ≤ maxLen; unfold maxLen; omega) (by show (0 + k) * 48 ≤ _; omega) hs4 ?_)
                          intro n1 w5 hown1 hgrow1 _
                          have hb5 := Hb4.out.grown hgrow1 hs4 (fun r hr => by cases hr)
                          have ho5 := OwnEQ.snocs (m := M.take k) HO4.out gm4.out hgrow1 (by rw [tl.out, List.length_nil, Nat.zero_add]; exact hown1)
                          rw [List.nil_append] at ho5
                          have HO5 := Lib.hid ho5
                          have Hb5 := Lib.hid hb5
                          have hs5 := hb5.size
                          have HGX5 := Lib.hid (HGX.out.below hb5)
                          clear hown1 hgrow1 HO4 d1 d2 d3 src4 gm4 ho5
                          have d1 := (hb5.cell (p := ⟨b1, o1 + j * 3, none⟩) hlt1).trans c1
                          have d2 := (hb5.cell (p := ⟨b1, o1 + j * 3 + 1, none⟩) hlt1).trans c2
                          have d3 := (hb5.cell (p := ⟨b1, o1 + j * 3 + 2, none⟩) hlt1).trans c3
                          clear hb5
                          go_wp2_with (at_builtin; refine wpList_append_own _ rfl (.tmp 78) (.tmp 83) 38 rfl v0.heap.size 48 i0 (.agg #[.int .i64 0, .slice none 0 0, .string ⟨#[]⟩]) 3 48 Try.underlying38 hi hz0 hz1 hz2 rfl (by decide) _ _ _ rfl (OwnR.alloc HO5.out.1 _) ⟨w5.heap.size, 0, none⟩ 1 1 (EntX.V x) rfl rfl (new_cells_at _ _ _ _ (by simp)) (entV_one _) (by rw [tl.out]; unfold maxLen; omega) (by rw [tl.out]; omega) (by simp; omega) ?_)
                          intro n2 w6 hown2 hgrow2 _
                          have hb6 := (Hb5.out.alloc hs5 _).grown hgrow2 (by simp; omega) (fun r hr => (World.ownsRow.lt HO5.out.1 r hr).1)
                          have ho6 := OwnEQ.snoc (x := x) (HO5.out.alloc _) (HGX5.out.1.below ((Below.refl _ _).alloc (Nat.le_refl _) _)) hgrow2 (by rw [List.length_take]; exact hown2)
                          have HO6 := Lib.hid ho6
                          have Hb6 := Lib.hid hb6
                          have hs6 := hb6.size
                          have src6 := Lib.hid (src_from (fun p i a h1 h2 => (hb6.cell (p := ⟨g, p * 3 + i, none⟩) hglt).trans (HSRC.out p i a h1 h2)) k)
                          have gm6 := Lib.hid (fun (y : EntX) (hy : y ∈ M.drop k) => (HGM.out y (List.mem_of_mem_drop hy)).below hb6)
                          have dl := Lib.hid (show (M.drop k).length = m - k from by rw [List.length_drop, HML.out])
                          have tl6 := Lib.hid (show (M.take k ++ [x]).length = k + 1 from by rw [List.length_append, tl.out]; rfl)
                          have qj : ((m : Int) - (k : Int)) = ((m - k : Nat) : Int) := by omega
                          have qc : ((cp : Int) - (k : Int)) = ((cp - k : Nat) : Int) := by omega
                          have rs := Lib.hid (ins_strict HMS.out (by rw [HML.out]; omega) (fun i h1 h2 => HK.out i h1 (by rw [HML.out] at h2; exact h2)) HKK.out)
                          have rn := Lib.hid (show ∀ q ∈ M.take k ++ [x] ++ M.drop k, q.n ≤ 1048576 from fun q hq => by
                            rcases (ins_mem q).1 hq with rfl | hq
                            · exact HGX.out.2
                            · exact HMN.out q hq)
                          have rx := Lib.hid (HNEXT.out (M.take k ++ [x] ++ M.drop k) (fun y => ins_mem y))
                          have rl := Lib.hid (show (M.take k ++ [x] ++ M.drop k).length = m + 1 from by rw [List.length_append, tl6.out, dl.out]; first | done | omega)
                          clear hown2 hgrow2 HO5 d1 d2 d3 ho6 hb6
                          go_wp2_with (at_builtin; refine wpList_append_own _ rfl (.tmp 85) (.tmp 88) 38 rfl v0.heap.size 48 i0 (.agg #[.int .i64 0, .slice none 0 0, .string ⟨#[]⟩]) 3 48 Try.underlying38 hi hz0 hz1 hz2 rfl (by decide) _ _ _ rfl HO6.out.1 ⟨g, k * 3, none⟩ (m - k) (cp - k) (rowV EntX.V (M.drop k)) rfl (by rw [rowV_len entV_len, dl.out]) src6.out (rowV_one entV_one _) (by rw [tl6.out]; unfold maxLen; omega) (by rw [tl6.out]; omega) hs6 ?_)
                          intro n3 w7 hown3 hgrow3 _
                          have hb7 := Hb6.out.grown hgrow3 hs6 (fun r hr => (World.ownsRow.lt HO6.out.1 r hr).1)
                          have ho7 := OwnEQ.snocs (m := M.drop k) HO6.out gm6.out hgrow3 (by rw [tl6.out, dl.out]; simpa [tl6.out, HML.out, Nat.min_eq_left hkm] using hown3)
                          have HO7 := Lib.hid (show OwnEQ w7 w2.heap.size n3 (M.take k ++ [x] ++ M.drop k) from ⟨OwnR.mono ho7.1 hsz, ho7.2⟩)
                          clear hown3 hgrow3 HO6 ho7 src6 gm6
                          go_wp2
                          go_round
                          case rel => exact ⟨j + 1, _, by omega, by go_num, by rw [rl.out]; omega, rs, rx, rn, Lib.hid (fun h => absurd h (by simp)), HO7, hop Hb.out (Nat.le_refl _) hb7⟩
                          case measure => simp [intOf]; omega
        · obtain rfl : N = j := by omega
          have hLt : L.take N = L := List.take_of_length_le (by rw [HN.out]; exact Nat.le_refl _)
          have HU := Lib.hid (show M.map EntX.b = uniqB asc (allB ls) from strict_same HMS.out (uniq_strict _ _) (fun e => by
            rw [uniq_mem, HMM.out e, hLt, HLB2.out]))
          obtain ⟨m, hmM⟩ : ∃ m, M.length = m := ⟨_, rfl⟩
          have hmN : m ≤ N := by omega
          obtain ⟨q, hq⟩ : ∃ q : Nat, (q : Int) = min (m : Int) (max most 0) := ⟨(min (m : Int) (max most 0)).toNat, by omega⟩
          have hqm : q ≤ m := by omega
          have HT := Lib.hid (show (M.take q).map EntX.b = mergeB asc most ls by
            unfold mergeB
            rw [if_pos HS.out, ← HU.out, List.map_take]
            by_cases h1 : most.toNat ≤ m
            · rw [show q = most.toNat by omega]
            · rw [show q = m by omega, List.take_of_length_le (by rw [List.length_map]; omega), List.take_of_length_le (by rw [List.length_map]; omega)])
          have HBF := Lib.hid (hop HB0.out h0 hb)
          have HTK := Lib.hid (show ∀ (A' : Option Addr), RowR EntX.V 3 wr A' m M → EntsQ wr A' q (M.take q) from fun A' hr => ⟨⟨by rw [List.length_take]; omega, fun h => by
            obtain ⟨b, off, e, hlt, hc⟩ := hr.2 (by omega)
            exact ⟨b, off, e, hlt, fun j i a hj hi => hc j i a (by
              rw [List.getElem?_take] at hj
              split at hj
              · exact hj
              · cases hj) hi⟩⟩, fun x hx => HO.out.2 x (List.mem_of_mem_take hx)⟩)
          have hqI : (q : Int) ≤ (m : Int) := by omega
          rcases Nat.eq_zero_or_pos m with hm0 | hm0
          · obtain rfl := HM0.out (List.eq_nil_of_length_eq_zero (by omega))
            have hq0 : q = 0 := by omega
            subst hq0
            have HR := Lib.hid (And.intro (HTK.out none ⟨hmM, fun h => by omega⟩) (And.intro HT.out HBF.out))
            have q1 : min (0 : Int) (max most 0) = 0 := by omega
            subst hm0
            clear hb HMS HMM HO HM0 HU HT HTK HBF hq hmM
            go_wp2
            (try simp only [Exit.inBlock, Exit.then])
            refine bodyPost_ret (results_tmp2 rfl _ _ _) rfl ?_
            exact ⟨none, 0, 0, M.take 0, rfl, HR.out⟩
          · obtain ⟨g, cp, rfl, hgB, hglt, hcp, hsrc⟩ := OwnR.at_ entV_len HO.out.1 (by omega)
            obtain ⟨A2, c2, e2, _, _, hrow⟩ := OwnR.open entV_len HO.out.1
            injection e2 with e3 e4 e5
            subst e3
            rw [hmM] at hrow hcp ⊢
            have HR := Lib.hid (And.intro (HTK.out _ hrow) (And.intro HT.out HBF.out))
            have hqc : (q : Int) ≤ (cp : Int) := by omega
            have hq' := hq.symm
            have hq0 : (0 : Int) ≤ (q : Int) := by omega
            clear hb HMS HMM HO HM0 HU HT HTK HBF hq hmM hrow hsrc e4 e5
            go_wp2
            (try simp only [Exit.inBlock, Exit.then])
            refine bodyPost_ret (results_tmp2 rfl _ _ _) rfl ?_
            exact ⟨_, q, cp, M.take q, rfl, HR.out⟩
end Go.Proofs.Ytilcanblgdmecaa
