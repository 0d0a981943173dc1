/- The document's own heap of numbers: what it lies as, and what is put in. -/
import Derived.Test.YtlicnijhmncoeaaHeapBox
import Derived.Laws.AppendOwnNone
namespace Go.Proofs.Ytlicnijhmncoeaa
open Go.RowKit
set_option linter.unusedVariables false
set_option linter.unusedSimpArgs false

theorem infoIntR : (Try.prog.info? 3).map (fun i => (i.zero, i.size, i.bytes)) = some (some (.int .i64 0), 1, 8) := by kernel_rfl
structure RefH (w : World) (a : Nat) (v : Value) (X : List Int) : Prop where
  blk : Blk w a 30 #[v]
  row : OwnI .i64 w (a + 1) 3 v X
  good : ∀ x ∈ X, -9223372036854775808 ≤ x ∧ x ≤ 9223372036854775807
theorem OwnI.below_ {k : IntKind} {w w' : World} {B e : Nat} {v : Value} {l : List Int} (h : OwnI k w B e v l) (hb : Below w.heap.size w w') : OwnI k w' B e v l := by
  refine ⟨h.1, ?_⟩
  rcases h.2 with h0 | ⟨g, cap, cur, rfl, hg, hh, x⟩
  · exact .inl h0
  · exact .inr ⟨g, cap, cur, rfl, hg, (hb.block g (lt_of_block hh)).trans hh, x⟩
theorem OwnI.far {k : IntKind} {w : World} {B e : Nat} {v : Value} {l : List Int} (h : OwnI k w B e v l) {p : Addr} (hp : p.block < B) (u : Value) : OwnI k (w.setCell p u) B e v l := by
  refine ⟨h.1, ?_⟩
  rcases h.2 with h0 | ⟨g, cap, cur, rfl, hg, hh, x⟩
  · exact .inl h0
  · exact .inr ⟨g, cap, cur, rfl, hg, (Below.heap_setCell w p u g (by omega)).trans hh, x⟩
theorem OwnI.mono_ {k : IntKind} {w : World} {B B' e : Nat} {v : Value} {l : List Int} (h : OwnI k w B e v l) (hB : B' ≤ B) : OwnI k w B' e v l := by
  refine ⟨h.1, ?_⟩
  rcases h.2 with h0 | ⟨g, cap, cur, rfl, hg, hh, x⟩
  · exact .inl h0
  · exact .inr ⟨g, cap, cur, rfl, Nat.le_trans hB hg, hh, x⟩
theorem RefH.below {w w' : World} {a : Nat} {v : Value} {X : List Int} (h : RefH w a v X) (hb : Below w.heap.size w w') : RefH w' a v X := ⟨h.blk.below hb h.blk.lt, h.row.below_ hb, h.good⟩
theorem RefH.own {w : World} {a : Nat} {v : Value} {X : List Int} (h : RefH w a v X) : ∀ k, v.ownBlock = some k → a < k ∧ k < w.heap.size := by
  intro k hk
  have := World.ownsRow.lt h.row k hk
  omega
/-- a new row laid behind the document's heap -/
theorem ref_state {w w2 : World} {a : Nat} {v v2 : Value} {X Y : List Int} (h : RefH w a v X) (hb : Below w.heap.size w w2) (hr : OwnI .i64 w2 w.heap.size 3 v2 Y) (hY : ∀ x ∈ Y, -9223372036854775808 ≤ x ∧ x ≤ 9223372036854775807) :
    RefH (w2.setCell ⟨a, 0, none⟩ v2) a v2 Y ∧ HG a w v (w2.setCell ⟨a, 0, none⟩ v2) v2 := by
  have hlt := h.blk.lt
  refine ⟨⟨?_, (hr.far (p := ⟨a, 0, none⟩) hlt v2).mono_ hlt, hY⟩, ?_⟩
  · have := (h.blk.below hb hlt).set_ 0 v2
    simpa using this
  · refine ⟨hb.os, hb.tape, hb.output, by simpa using hb.size, fun k hk hka _ => ?_, fun k hk => ?_⟩
    · exact (Below.heap_setCell w2 ⟨a, 0, none⟩ v2 k hka).trans (hb.block k hk)
    · exact .inr (World.ownsRow.lt hr k hk).1
/-- the cells that a row's part has -/
theorem row_news {w : World} {B e g n cap : Nat} {X : List Int} (h : OwnI .i64 w B e (.slice (some ⟨g, 0, none⟩) n cap) X) (o m : Nat) (hm : o + m ≤ X.length) : ∀ (j : Nat) (u : Value), (iV .i64 ((X.drop o).take m))[j]? = some u → w.cell? ((⟨g, o, none⟩ : Addr).add j) = some u := by
  intro j u hu
  have hj : j < m := by
    rcases Nat.lt_or_ge j m with hj | hj
    · exact hj
    · rw [List.getElem?_eq_none (by simp [iV]; omega)] at hu
      cases hu
  have hn : n = X.length := by
    obtain ⟨A, cap', hv⟩ := own_shape h
    injection hv
  rw [ints_add]
  rcases h.2 with ⟨h0, _⟩ | ⟨g', cap', cur, hv, hg, hh, hc, hmx, hs, ht⟩
  · cases h0
  · injection hv with hv1 _ _
    injection hv1 with hv1
    injection hv1 with hv1
    subst hv1
    rw [cell_of_row _ _ _ _ _ _ hh]
    have h1 : cur.toList[o + j]? = (iV .i64 X)[o + j]? := by
      rw [← ht, List.getElem?_take_of_lt (by omega)]
    rw [Array.getElem?_toList] at h1
    rw [h1, ← hu]
    simp only [iV, List.getElem?_map]
    rw [List.getElem?_take_of_lt hj, List.getElem?_drop]
theorem ints_news {w : World} {p : Addr} {n : Nat} {xs : List Int} (h : Ints .i64 w (some p) n xs) : ∀ (j : Nat) (u : Value), (iV .i64 xs)[j]? = some u → w.cell? (p.add j) = some u := by
  intro j u hu
  have hj : j < n := by
    rcases Nat.lt_or_ge j n with hj | hj
    · exact hj
    · rw [List.getElem?_eq_none (by simp [iV, h.1]; omega)] at hu
      cases hu
  obtain ⟨b, off, he, hlt, hc⟩ := h.2.2 (by omega)
  injection he with he
  subst he
  rw [ints_add, hc j hj, ← hu, iV, List.getElem?_map, List.getD_eq_getElem?_getD, List.getElem?_eq_getElem (by rw [h.1]; exact hj)]
  rfl

set_option maxRecDepth 100000 in
set_option maxHeartbeats 1600000 in
theorem refPush_any (a : Nat) (v : Value) (X : List Int) (A : Option Addr) (n c : Nat) (xs : List Int) (hX : X.length ≤ 1000000) (hn6 : n ≤ 1000000) (hnil : A = none → c = 0) (w : World) (h : RefH w a v X) (hx : Ints .i64 w A n xs) :
    Calls Try.prog 10 #[.pointer (some ⟨a, 0, none⟩), .slice A n c] w fun e w' => e = .returned (.tuple #[]) ∧ ∃ v', RefH w' a v' (X ++ xs) ∧ HG a w v w' v' := by
  obtain ⟨i0, hi, hz0, hz1, hz2⟩ := info_parts infoIntR
  have hxl := hx.1
  have c0 : w.cell? ⟨a, 0, none⟩ = some v := (h.blk.cell 0).trans rfl
  have f0 := h.blk.frozen 0
  have hgood : ∀ x ∈ X ++ xs, -9223372036854775808 ≤ x ∧ x ≤ 9223372036854775807 := fun x hx' => by
    rcases List.mem_append.1 hx' with h1 | h1
    · exact h.good x h1
    · exact bdi64 (hx.2.1 x h1)
  have HF := Lib.hid (fun (w2 : World) (v2 : Value) (hb : Below w.heap.size w w2) (hr : OwnI .i64 w2 w.heap.size 3 v2 (X ++ xs)) => ref_state h hb hr hgood)
  have HX := Lib.hid hx
  have HH := Lib.hid h
  have hla := h.blk.lt
  have nil0 : w.ownsRow w.heap.size 3 1 (.slice none 0 0) 0 [] := World.ownsRow_nil _ _ _ _
  rcases h.row.2 with ⟨hv, h0⟩ | ⟨g, cap, cur, hv, hg, hh, hcp, hmx, hs, ht⟩
  · subst hv
    have hXn : X = [] := List.eq_nil_of_length_eq_zero h0
    subst hXn
    cases A with
    | none =>
      obtain rfl : c = 0 := hnil rfl
      have hn0 : n = 0 := by
        rcases Nat.eq_zero_or_pos n with h1 | h1
        · exact h1
        · obtain ⟨b, off, he, _⟩ := hx.2.2 h1
          cases he
      subst hn0
      have hxn : xs = [] := List.eq_nil_of_length_eq_zero hxl
      subst hxn
      clear h hx hgood hxl
      go_enter Try.func10, Try.ntmps10
      go_wp2
      refine bodyPost_end (results_none rfl _ _ _) rfl ?_
      exact ⟨rfl, _, HF.out w _ (Below.refl _ _) (OwnI.nil _ _ _ _)⟩
    | some p =>
      have hN0 := nil0
      clear h hx hgood
      go_enter Try.func10, Try.ntmps10
      go_wp2_with (at_builtin; refine wpList_append_own _ rfl (.tmp 9) (.tmp 10) 22 rfl w.heap.size 3 i0 (.int .i64 0) 1 8 Try.underlying22 hi hz0 hz1 hz2 rfl (by decide) _ _ _ rfl hN0 p n c (iV .i64 xs) rfl (by simp [iV, hxl]) (ints_news HX.out) (iV_one _ _) (by unfold maxLen; omega) (by omega) (Nat.le_refl _) ?_)
      intro v2 w2 hown2 hgrow2 _
      have hb2 := (Below.refl w.heap.size w).grown hgrow2 (Nat.le_refl _) (fun r hr => by cases hr)
      obtain ⟨A2, k2, rfl⟩ := own_shape hown2
      have c2 := (hb2.cell (p := ⟨a, 0, none⟩) hla).trans c0
      have f2 : w2.frozen? ⟨a, 0, none⟩ = false := (HH.out.blk.below hb2 hla).frozen 0
      clear hgrow2
      go_wp2
      refine bodyPost_end (results_none rfl _ _ _) rfl ?_
      exact ⟨rfl, _, HF.out w2 _ hb2 (by unfold OwnI; simpa [hxl] using hown2)⟩
  · subst hv
    have HNX := Lib.hid (show ∀ (j : Nat) (u : Value), (iV .i64 X)[j]? = some u → w.cell? ((⟨g, 0, none⟩ : Addr).add j) = some u from by
      have := row_news h.row 0 X.length (by omega)
      rw [List.drop_zero, List.take_length] at this
      exact this)
    cases A with
    | none =>
      obtain rfl : c = 0 := hnil rfl
      have hn0 : n = 0 := by
        rcases Nat.eq_zero_or_pos n with h1 | h1
        · exact h1
        · obtain ⟨b, off, he, _⟩ := hx.2.2 h1
          cases he
      subst hn0
      have hxn : xs = [] := List.eq_nil_of_length_eq_zero hxl
      subst hxn
      clear h hx hgood hxl hs ht
      go_enter Try.func10, Try.ntmps10
      go_wp2_with (at_builtin; refine wpList_append_own _ rfl (.const (.slice none 0 0)) (.tmp 8) 22 rfl w.heap.size 3 i0 (.int .i64 0) 1 8 Try.underlying22 hi hz0 hz1 hz2 rfl (by decide) _ _ _ rfl nil0 ⟨g, 0, none⟩ X.length cap (iV .i64 X) rfl (by simp [iV]) HNX.out (iV_one _ _) (by unfold maxLen; omega) (by omega) (Nat.le_refl _) ?_)
      intro v1 w1 hown1 hgrow1 _
      have hb1 := (Below.refl w.heap.size w).grown hgrow1 (Nat.le_refl _) (fun r hr => by cases hr)
      have HO1 := Lib.hid (show OwnI .i64 w1 w.heap.size 3 v1 X from by unfold OwnI; simpa using hown1)
      have c1 := (hb1.cell (p := ⟨a, 0, none⟩) hla).trans c0
      have f1 : w1.frozen? ⟨a, 0, none⟩ = false := (HH.out.blk.below hb1 hla).frozen 0
      have hO1 := HO1.out
      unfold OwnI at hO1
      clear hown1 hgrow1
      obtain ⟨A1, k1, rfl⟩ := own_shape hO1
      go_wp2_with (at_builtin; refine wpList_append_own_none rfl (.tmp 9) (.tmp 10) 22 rfl w.heap.size 3 i0 1 Try.underlying22 hi _ _ _ rfl hO1 rfl ?_)
      go_wp2
      refine bodyPost_end (results_none rfl _ _ _) rfl ?_
      exact ⟨rfl, _, HF.out w1 _ hb1 (by rw [List.append_nil]; exact HO1.out)⟩
    | some p =>
      clear h hx hgood hs ht
      go_enter Try.func10, Try.ntmps10
      go_wp2_with (at_builtin; refine wpList_append_own _ rfl (.const (.slice none 0 0)) (.tmp 8) 22 rfl w.heap.size 3 i0 (.int .i64 0) 1 8 Try.underlying22 hi hz0 hz1 hz2 rfl (by decide) _ _ _ rfl nil0 ⟨g, 0, none⟩ X.length cap (iV .i64 X) rfl (by simp [iV]) HNX.out (iV_one _ _) (by unfold maxLen; omega) (by omega) (Nat.le_refl _) ?_)
      intro v1 w1 hown1 hgrow1 _
      have hb1 := (Below.refl w.heap.size w).grown hgrow1 (Nat.le_refl _) (fun r hr => by cases hr)
      have HO1 := Lib.hid (show OwnI .i64 w1 w.heap.size 3 v1 X from by unfold OwnI; simpa using hown1)
      have c1 := (hb1.cell (p := ⟨a, 0, none⟩) hla).trans c0
      have f1 : w1.frozen? ⟨a, 0, none⟩ = false := (HH.out.blk.below hb1 hla).frozen 0
      have hO1 := HO1.out
      unfold OwnI at hO1
      clear hown1 hgrow1
      go_wp2_with (at_builtin; refine wpList_append_own _ rfl (.tmp 9) (.tmp 10) 22 rfl w.heap.size 3 i0 (.int .i64 0) 1 8 Try.underlying22 hi hz0 hz1 hz2 rfl (by decide) _ _ _ rfl hO1 p n c (iV .i64 xs) rfl (by simp [iV, hxl]) (ints_news (HX.out.below hb1)) (iV_one _ _) (by unfold maxLen; omega) (by omega) hb1.size ?_)
      intro v2 w2 hown2 hgrow2 _
      have hb2 := hb1.grown hgrow2 hb1.size (fun r hr => (World.ownsRow.lt hO1 r hr).1)
      obtain ⟨A2, k2, rfl⟩ := own_shape hown2
      have c2 := (hb2.cell (p := ⟨a, 0, none⟩) hla).trans c0
      have f2 : w2.frozen? ⟨a, 0, none⟩ = false := (HH.out.blk.below hb2 hla).frozen 0
      clear hgrow2
      go_wp2
      refine bodyPost_end (results_none rfl _ _ _) rfl ?_
      exact ⟨rfl, _, HF.out w2 _ hb2 (OwnI.snoc (l := X) (m := xs) (by rw [hxl]; exact hown2))⟩
end Go.Proofs.Ytlicnijhmncoeaa
