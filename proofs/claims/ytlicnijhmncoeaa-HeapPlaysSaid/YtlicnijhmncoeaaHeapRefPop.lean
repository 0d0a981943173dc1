/- The first one of the document's heap peeked at, and taken out: the walks of its Peek and Pop. -/
import Derived.Test.YtlicnijhmncoeaaHeapFirst
namespace Go.Proofs.Ytlicnijhmncoeaa
open Go.RowKit
set_option linter.unusedVariables false
set_option linter.unusedSimpArgs false

set_option maxRecDepth 100000 in
set_option maxHeartbeats 1600000 in
theorem refPeek_any (a : Nat) (v : Value) (X : List Int) (hX : X.length ≤ 1000000) (w : World) (h : RefH w a v X) :
    Calls Try.prog 16 #[.pointer (some ⟨a, 0, none⟩)] w fun e w' => (∃ (x : Int) (ok : Bool), e = .returned (.tuple #[.int .i64 x, .bool ok]) ∧ ((X = [] ∧ x = 0 ∧ ok = false) ∨ ∃ q : Nat, FirstK X X.length (q : Int) ∧ q < X.length ∧ x = X.getD q 0 ∧ ok = true)) ∧ Below w.heap.size w w' := by
  have FI := Lib.hid (first_any a v X hX w h)
  obtain ⟨A, cap, rfl, hc, hm, hnil, hat⟩ := ref_cells h
  have hc0 : w.cell? ⟨a, 0, none⟩ = some (.slice A X.length cap) := (h.blk.cell 0).trans rfl
  have hla := h.blk.lt
  obtain ⟨n, hn⟩ : ∃ n, X.length = n := ⟨_, rfl⟩
  have HN := Lib.hid hn
  rw [hn] at hc hat hX hc0 FI ⊢
  have HAT := Lib.hid hat
  have HC0 := Lib.hid hc0
  clear h hn hat hnil hc0
  go_enter Try.func16, Try.ntmps16
  go_wp2_with fail
  refine FI.out.mono ?_
  rintro e w1 ⟨at_, rfl, hf, hb⟩
  rcases hf with ⟨hn0, rfl⟩ | ⟨q, rfl, hq, h1, h2⟩
  · have hXn : X = [] := List.eq_nil_of_length_eq_zero (by rw [HN.out]; exact hn0)
    have HXN := Lib.hid hXn
    have HB := Lib.hid hb
    clear hn0 hb hXn
    go_wp2
    (try simp only [Exit.inBlock, Exit.then])
    refine bodyPost_ret (results_tmp2 rfl _ _ _) rfl ?_
    exact ⟨⟨0, false, by first | rfl | (simp; done), .inl ⟨HXN.out, rfl, rfl⟩⟩, HB.out⟩
  · obtain ⟨g, hA, hgl, hcell⟩ := HAT.out (by omega)
    have cq := (hb.cell (p := ⟨g, q, none⟩) hgl).trans (hcell q hq)
    have c0 := (hb.cell (p := ⟨a, 0, none⟩) hla).trans HC0.out
    have HFQ := Lib.hid (show FirstK X n (q : Int) from .inr ⟨q, rfl, hq, h1, h2⟩)
    have hq0 : ¬ (q : Int) < 0 := by omega
    have hqI : (q : Int) < (n : Int) := by omega
    obtain ⟨x, hx⟩ : ∃ x, X.getD q 0 = x := ⟨_, rfl⟩
    rw [hx] at cq
    have HXQ := Lib.hid hx
    have HB := Lib.hid hb
    subst hA
    clear h1 h2 hcell hx hb HAT
    go_wp2
    (try simp only [Exit.inBlock, Exit.then])
    refine bodyPost_ret (results_tmp2 rfl _ _ _) rfl ?_
    exact ⟨⟨x, true, by first | rfl | (simp; done), .inr ⟨q, HFQ.out, hq, HXQ.out.symm, rfl⟩⟩, HB.out⟩

set_option maxRecDepth 100000 in
set_option maxHeartbeats 1600000 in
theorem refPop_any (a : Nat) (v : Value) (X : List Int) (hX : X.length ≤ 1000000) (w : World) (h : RefH w a v X) :
    Calls Try.prog 12 #[.pointer (some ⟨a, 0, none⟩)] w fun e w' => ∃ (x : Int) (ok : Bool) (Y : List Int) (v' : Value), e = .returned (.tuple #[.int .i64 x, .bool ok]) ∧ RefH w' a v' Y ∧ HG a w v w' v' ∧ ((X = [] ∧ x = 0 ∧ ok = false ∧ Y = []) ∨ ∃ q : Nat, FirstK X X.length (q : Int) ∧ q < X.length ∧ x = X.getD q 0 ∧ ok = true ∧ Y = X.take q ++ X.drop (q + 1)) := by
  have FI := Lib.hid (first_any a v X hX w h)
  have HH := Lib.hid h
  obtain ⟨i0, hi, hz0, hz1, hz2⟩ := info_parts infoIntR
  obtain ⟨A, cap, rfl, hc, hm, hnil, hat⟩ := ref_cells h
  have hc0 : w.cell? ⟨a, 0, none⟩ = some (.slice A X.length cap) := (h.blk.cell 0).trans rfl
  have hla := h.blk.lt
  obtain ⟨n, hn⟩ : ∃ n, X.length = n := ⟨_, rfl⟩
  have HN := Lib.hid hn
  rw [hn] at hc hat hX hc0 FI HH ⊢
  have HAT := Lib.hid hat
  have HC0 := Lib.hid hc0
  clear h hn hat hnil hc0
  go_enter Try.func12, Try.ntmps12
  go_wp2_with fail
  refine FI.out.mono ?_
  rintro e w1 ⟨at_, rfl, hf, hb⟩
  have H1 := Lib.hid (HH.out.below hb)
  have HG1 := Lib.hid (HG.of_below (b := a) (v := .slice A n cap) hb)
  rcases hf with ⟨hn0, rfl⟩ | ⟨q, rfl, hq, h1, h2⟩
  · have hXn : X = [] := List.eq_nil_of_length_eq_zero (by rw [HN.out]; exact hn0)
    have HXN := Lib.hid hXn
    clear hn0 hb
    go_wp2
    (try simp only [Exit.inBlock, Exit.then])
    refine bodyPost_ret (results_tmp2 rfl _ _ _) rfl ?_
    exact ⟨0, false, X, _, by first | rfl | (simp; done), H1.out, HG1.out, .inl ⟨HXN.out, rfl, rfl, HXN.out⟩⟩
  · obtain ⟨g, hA, hgl, hcell⟩ := HAT.out (by omega)
    subst hA
    have cq := (hb.cell (p := ⟨g, q, none⟩) hgl).trans (hcell q hq)
    have c0 := (hb.cell (p := ⟨a, 0, none⟩) hla).trans HC0.out
    have HFQ := Lib.hid (show FirstK X n (q : Int) from .inr ⟨q, rfl, hq, h1, h2⟩)
    have hq0 : ¬ (q : Int) < 0 := by omega
    have hqI : (q : Int) < (n : Int) := by omega
    obtain ⟨x, hx⟩ : ∃ x, X.getD q 0 = x := ⟨_, rfl⟩
    rw [hx] at cq
    have HXQ := Lib.hid hx
    have hlt1 : a < w1.heap.size := H1.out.blk.lt
    have hm' : cap ≤ 9223372036854775807 := by unfold maxLen at hm; omega
    have NW1 := Lib.hid (show ∀ (j : Nat) (u : Value), (iV .i64 (X.take q))[j]? = some u → w1.cell? ((⟨g, 0, none⟩ : Addr).add j) = some u from by
      have := row_news H1.out.row 0 q (by rw [HN.out]; omega)
      rw [List.drop_zero] at this
      exact this)
    have nil0 : w1.ownsRow w1.heap.size 3 1 (.slice none 0 0) 0 [] := World.ownsRow_nil _ _ _ _
    have hl1 : (X.take q).length = q := by rw [List.length_take, HN.out]; omega
    have hl2 : (X.drop (q + 1)).length = n - (q + 1) := by rw [List.length_drop, HN.out]
    clear h1 h2 hcell hx hb HAT HC0 FI
    go_wp2_with (at_builtin; refine wpList_append_own _ rfl (.tmp 18) (.tmp 24) 22 rfl w1.heap.size 3 i0 (.int .i64 0) 1 8 Try.underlying22 hi hz0 hz1 hz2 rfl (by decide) _ _ _ rfl nil0 ⟨g, 0, none⟩ q cap (iV .i64 (X.take q)) rfl (by rw [iV, List.length_map, hl1, Nat.mul_one]) NW1.out (iV_one _ _) (by unfold maxLen; omega) (by omega) (Nat.le_refl _) ?_)
    intro v2 w2 hown2 hgrow2 _
    have hb2 := (Below.refl w1.heap.size w1).grown hgrow2 (Nat.le_refl _) (fun r hr => by cases hr)
    have HO2 := Lib.hid (show OwnI .i64 w2 w1.heap.size 3 v2 (X.take q) from by unfold OwnI; simpa [hl1] using hown2)
    obtain ⟨A2, k2, rfl⟩ := own_shape hown2
    have hO2 := HO2.out
    unfold OwnI at hO2
    rw [hl1] at hO2
    have c2 := (hb2.cell (p := ⟨a, 0, none⟩) hlt1).trans c0
    have H2 := Lib.hid (H1.out.below hb2)
    have NW2 := Lib.hid (show ∀ (j : Nat) (u : Value), (iV .i64 (X.drop (q + 1)))[j]? = some u → w2.cell? ((⟨g, q + 1, none⟩ : Addr).add j) = some u from by
      have := row_news H2.out.row (q + 1) (n - (q + 1)) (by rw [HN.out]; omega)
      rw [List.take_of_length_le (by rw [hl2]; exact Nat.le_refl _)] at this
      exact this)
    clear hown2 hgrow2 NW1 nil0
    rcases Nat.lt_or_ge (q + 1) cap with hqc | hqc
    · go_wp2_with (at_builtin; refine wpList_append_own _ rfl (.tmp 27) (.tmp 34) 22 rfl w1.heap.size 3 i0 (.int .i64 0) 1 8 Try.underlying22 hi hz0 hz1 hz2 rfl (by decide) _ _ _ rfl hO2 ⟨g, q + 1, none⟩ (n - (q + 1)) (cap - (q + 1)) (iV .i64 (X.drop (q + 1))) rfl (by rw [iV, List.length_map, hl2, Nat.mul_one]) NW2.out (iV_one _ _) (by unfold maxLen; omega) (by omega) hb2.size ?_)
      intro v3 w3 hown3 hgrow3 _
      obtain ⟨A3, k3, rfl⟩ := own_shape hown3
      have hb3 := hb2.grown hgrow3 hb2.size (fun r hr => (World.ownsRow.lt hO2 r hr).1)
      have HF := Lib.hid (ref_state H1.out hb3 (show OwnI .i64 w3 w1.heap.size 3 _ (X.take q ++ X.drop (q + 1)) from OwnI.snoc (l := X.take q) (m := X.drop (q + 1)) (by rw [hl1, hl2]; exact hown3)) (fun y hy => H1.out.good y (by
        rcases List.mem_append.1 hy with hy | hy
        · exact List.mem_of_mem_take hy
        · exact List.mem_of_mem_drop hy)))
      have c3 := (hb3.cell (p := ⟨a, 0, none⟩) hlt1).trans c0
      have f3 : w3.frozen? ⟨a, 0, none⟩ = false := (H1.out.blk.below hb3 hlt1).frozen 0
      clear hown3 hgrow3
      go_wp2
      (try simp only [Exit.inBlock, Exit.then])
      refine bodyPost_ret (results_tmp2 rfl _ _ _) rfl ?_
      exact ⟨x, true, _, _, by first | rfl | (simp; done), HF.out.1, HG1.out.trans HF.out.2, .inr ⟨q, HFQ.out, hq, HXQ.out.symm, rfl, rfl⟩⟩
    · have hD : X.drop (q + 1) = [] := List.drop_of_length_le (by rw [HN.out]; omega)
      have NW3 := Lib.hid (show ∀ (j : Nat) (u : Value), (iV .i64 (X.drop (q + 1)))[j]? = some u → w2.cell? ((⟨g, 0, none⟩ : Addr).add j) = some u from fun j u hu => by
        rw [hD] at hu
        simp [iV] at hu)
      have hceq : cap = q + 1 := by omega
      clear hD
      go_wp2_with (at_builtin; refine wpList_append_own _ rfl (.tmp 27) (.tmp 34) 22 rfl w1.heap.size 3 i0 (.int .i64 0) 1 8 Try.underlying22 hi hz0 hz1 hz2 rfl (by decide) _ _ _ rfl hO2 ⟨g, 0, none⟩ (n - (q + 1)) 0 (iV .i64 (X.drop (q + 1))) rfl (by rw [iV, List.length_map, hl2, Nat.mul_one]) NW3.out (iV_one _ _) (by unfold maxLen; omega) (by omega) hb2.size ?_)
      intro v3 w3 hown3 hgrow3 _
      obtain ⟨A3, k3, rfl⟩ := own_shape hown3
      have hb3 := hb2.grown hgrow3 hb2.size (fun r hr => (World.ownsRow.lt hO2 r hr).1)
      have HF := Lib.hid (ref_state H1.out hb3 (show OwnI .i64 w3 w1.heap.size 3 _ (X.take q ++ X.drop (q + 1)) from OwnI.snoc (l := X.take q) (m := X.drop (q + 1)) (by rw [hl1, hl2]; exact hown3)) (fun y hy => H1.out.good y (by
        rcases List.mem_append.1 hy with hy | hy
        · exact List.mem_of_mem_take hy
        · exact List.mem_of_mem_drop hy)))
      have c3 := (hb3.cell (p := ⟨a, 0, none⟩) hlt1).trans c0
      have f3 : w3.frozen? ⟨a, 0, none⟩ = false := (H1.out.blk.below hb3 hlt1).frozen 0
      clear hown3 hgrow3
      go_wp2
      (try simp only [Exit.inBlock, Exit.then])
      refine bodyPost_ret (results_tmp2 rfl _ _ _) rfl ?_
      exact ⟨x, true, _, _, by first | rfl | (simp; done), HF.out.1, HG1.out.trans HF.out.2, .inr ⟨q, HFQ.out, hq, HXQ.out.symm, rfl, rfl⟩⟩
end Go.Proofs.Ytlicnijhmncoeaa
