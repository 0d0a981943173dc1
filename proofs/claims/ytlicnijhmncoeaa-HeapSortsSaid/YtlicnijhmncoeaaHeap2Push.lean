/- Things put into a heap: the walk of Push. -/
import Derived.Test.YtlicnijhmncoeaaHeap2Add
import Derived.Test.YtlicnijhmncoeaaHeapOrd
namespace Go.Proofs.Ytlicnijhmncoeaa.T2
open Go.RowKit
set_option linter.unusedVariables false
set_option linter.unusedSimpArgs false

/-- a row of numbers that a heap's calls leave alone -/
structure IntsA (b : Nat) (v : Value) (w : World) (A : Option Addr) (xs : List TwoX) : Prop where
  good : ∀ x ∈ xs, GoodT x
  at_ : 0 < xs.length → ∃ g o, A = some ⟨g, o, none⟩ ∧ g < w.heap.size ∧ g ≠ b ∧ some g ≠ v.ownBlock ∧ ∀ j, j < xs.length → w.cell? ⟨g, o + j * 2, none⟩ = some (.string (xs.getD j default).s) ∧ w.cell? ⟨g, o + j * 2 + 1, none⟩ = some (.int .i64 (xs.getD j default).n)
theorem IntsA.kept {b : Nat} {v v' : Value} {w w' : World} {A : Option Addr} {xs : List TwoX} (h : IntsA b v w A xs) (hg : HG b w v w' v') : IntsA b v' w' A xs := by
  refine ⟨h.good, fun h0 => ?_⟩
  obtain ⟨g, o, rfl, h1, h2, h3, h4⟩ := h.at_ h0
  have h5 := hg.size
  refine ⟨g, o, rfl, by omega, h2, fun e => ?_, fun j hj => ?_⟩
  · rcases hg.own g e.symm with k | k
    · exact h3 k.symm
    · omega
  · exact ⟨(World.cell?_of_block (hg.block g h1 h2 h3)).trans (h4 j hj).1, (World.cell?_of_block (hg.block g h1 h2 h3)).trans (h4 j hj).2⟩
set_option maxRecDepth 100000 in
set_option maxHeartbeats 1600000 in
theorem push_any (b : Nat) (v : Value) (L : List (KeyP TwoX)) (came : Nat) (A : Option Addr) (n c : Nat) (xs : List TwoX) (hn : xs.length = n) (hcm : came + n ≤ 1000000) (w : World) (h : HeapSt w b v L came) (hh : IsHeapP tenK L) (hx : IntsA b v w A xs) :
    Calls Try.prog 20 #[.pointer (some ⟨b, 0, none⟩), .slice A n c] w fun e w' => e = .returned (.tuple #[]) ∧ ∃ v' L', HeapSt w' b v' L' (came + n) ∧ L'.Perm (L ++ itemsP came xs) ∧ IsHeapP tenK L' ∧ HG b w v w' v' := by
  have H0 := Lib.hid h
  have HH0 := Lib.hid hh
  have HX := Lib.hid hx
  have HN := Lib.hid hn
  clear h hh hx hn
  go_enter Try.func20, Try.ntmps20
  go_wp2
  go_loopw [8] (fun iv wr => ∃ (j : Nat) (v1 : Value) (L1 : List (KeyP TwoX)), j ≤ n ∧ iv = .int .i64 (j : Int) ∧ Hid (HeapSt wr b v1 L1 (came + j)) ∧ Hid (L1.Perm (L ++ itemsP came (xs.take j))) ∧ Hid (IsHeapP tenK L1) ∧ Hid (HG b w v wr v1)) (fun iv _ => n - (intOf iv).toNat)
  case atStart => exact ⟨0, v, L, Nat.zero_le _, rfl, H0, Lib.hid (by simp [itemsP]), HH0, Lib.hid (HG.refl _ _ _)⟩
  case round =>
    obtain ⟨j, v1, L1, hjn, rfl, HS, HP, HH, HGG⟩ := hrel
    by_cases hj : j < n
    · have hjI : (j : Int) < (n : Int) := by omega
      have hx1 := HX.out.kept HGG.out
      obtain ⟨g, o, hA, hlt, _, _, hc⟩ := hx1.at_ (by rw [HN.out]; omega)
      obtain ⟨hcj, hcj2⟩ := hc j (by rw [HN.out]; exact hj)
      have hgx := hx1.good (xs.getD j default) (by rw [List.getD_eq_getElem?_getD, List.getElem?_eq_getElem (by rw [HN.out]; exact hj)]; exact List.getElem_mem _)
      have hsn : xs.take (j + 1) = xs.take j ++ [xs.getD j default] := by
        have := HN.out
        rw [List.take_succ_eq_append_getElem (by omega), List.getD_eq_getElem?_getD, List.getElem?_eq_getElem (by omega)]
        rfl
      have hlj : (xs.take j).length = j := by rw [List.length_take, HN.out]; omega
      obtain ⟨x, hx⟩ : ∃ x, xs.getD j default = x := ⟨_, rfl⟩
      rw [hx] at hcj hcj2 hgx hsn
      have HI := Lib.hid (show L ++ itemsP came (xs.take (j + 1)) = (L ++ itemsP came (xs.take j)) ++ [⟨x, came + j⟩] by
        rw [hsn, itemsP_snoc, hlj, List.append_assoc])
      subst hA
      clear hx1 hc hx hsn hlj
      obtain ⟨g5, hg5⟩ : ∃ g, wr.heap.size = g := ⟨_, rfl⟩
      obtain ⟨w1, hw1⟩ : ∃ z, wr.alloc (.cells #[.string x.s, .int .i64 x.n] 43) = z := ⟨_, rfl⟩
      have KX0 : BlkW w1 g5 43 #[.string x.s, .int .i64 x.n] := by rw [← hw1, ← hg5]; exact Blk.new _ _ _
      have hb1 : Below wr.heap.size wr w1 := by rw [← hw1]; exact (Below.refl _ _).alloc (Nat.le_refl _) _
      have hdr : Below w1.heap.size w1 w1.drew := below_drewN (Below.refl _ _) 1
      have KX : BlkW w1.drew g5 43 #[.string x.s, .int .i64 x.n] := KX0.below hdr
      have HSA := Lib.hid (show HeapSt w1.drew b v1 L1 (came + j) from (HS.out.below hb1).below hdr)
      have HGA := Lib.hid (show HG b w v w1.drew v1 from (HGG.out.trans (HG.of_below hb1)).trans (HG.of_below hdr))
      have S0 : True := trivial
      clear KX0 hb1 hdr HS HGG
      go_wp2
      clear hw1 hg5
      refine wp_region_held_drew (S := fun w' => True) (by kernel_rfl) S0 (fun hHeld => ?_)
      obtain ⟨w0, hw0⟩ : ∃ z, w1.drew = z := ⟨_, rfl⟩
      rw [hw0] at KX HSA HGA ⊢
      clear hw0 hHeld
      refine wpAnyH_take (i := 0) (oi := { dst := some 12, op := Go.Op.move (Go.Operand.tmp 0), type := 44, pos := "heap.go:33", after := #[], guard := none }) (v := ?_) rfl (by kernel_rfl) (by kernel_rfl) (by kernel_rfl) (fun _ _ _ h => h) (Or.inl ⟨by kernel_rfl, ?_⟩) (by assumption) ?_
      rotate_left
      · intro w _
        first | (go_simp; done) | (go_simp; with_reducible rfl)
      try simp only [Act.put, List.setIfInBounds_toArray, List.set_cons_zero, List.set_cons_succ]
      refine wpAnyH_take (i := 1) (oi := { dst := some 13, op := Go.Op.move (Go.Operand.tmp 0), type := 44, pos := "heap.go:33", after := #[], guard := none }) (v := ?_) rfl (by kernel_rfl) (by kernel_rfl) (by kernel_rfl) (fun _ _ _ h => h) (Or.inl ⟨by kernel_rfl, ?_⟩) (by assumption) ?_
      rotate_left
      · intro w _
        first | (go_simp; done) | (go_simp; with_reducible rfl)
      try simp only [Act.put, List.setIfInBounds_toArray, List.set_cons_zero, List.set_cons_succ]
      refine wpAnyH_take (i := 2) (oi := { dst := some 14, op := Go.Op.nilCheck (Go.Operand.tmp 13), type := 0, pos := "heap.go:33", after := #[{ on := 1, ground := Go.Ground.data }], guard := none }) (v := ?_) rfl (by kernel_rfl) (by kernel_rfl) (by kernel_rfl) (fun _ _ _ h => h) (Or.inl ⟨by kernel_rfl, ?_⟩) (by assumption) ?_
      rotate_left
      · intro w _
        first | (go_simp; done) | (go_simp; with_reducible rfl)
      try simp only [Act.put, List.setIfInBounds_toArray, List.set_cons_zero, List.set_cons_succ]
      refine wpAnyH_take (i := 3) (oi := { dst := some 15, op := Go.Op.fieldAddr 84 (Go.Operand.tmp 14) 0, type := 0, pos := "heap.go:33", after := #[{ on := 2, ground := Go.Ground.data }], guard := none }) (v := ?_) rfl (by kernel_rfl) (by kernel_rfl) (by kernel_rfl) (fun _ _ _ h => h) (Or.inl ⟨by kernel_rfl, ?_⟩) (by assumption) ?_
      rotate_left
      · intro w _
        first | (go_simp; done) | (go_simp; with_reducible rfl)
      try simp only [Act.put, List.setIfInBounds_toArray, List.set_cons_zero, List.set_cons_succ]
      refine wpAnyH_ready (rs := [4]) (by kernel_rfl) (by simp) ?_
      refine AllReadyH.cons (o := { dst := some 16, op := Go.Op.load 43 (Go.Operand.tmp 5), type := 43, pos := "heap.go:33", after := #[], guard := none }) rfl (fun K hK => ?_) AllReadyH.nil
      have x0 : w0.cell? ⟨g5, 0, none⟩ = some (.string x.s) := (Blk.cell KX 0).trans rfl
      have x1 : w0.cell? ⟨g5, 1, none⟩ = some (.int .i64 x.n) := (Blk.cell KX 1).trans rfl
      go_simp
      clear x0 x1
      refine hK.out _ _ S0 (fun _ => ?_)
      clear hK K
      try simp only [Act.put, List.setIfInBounds_toArray, List.set_cons_zero, List.set_cons_succ]
      refine wpAnyH_ready (rs := [5]) (by kernel_rfl) (by simp) ?_
      refine AllReadyH.cons (o := { dst := some 17, op := Go.Op.call { callee := Go.Callee.value (Go.Operand.func 45), args := #[Go.Operand.tmp 15, Go.Operand.tmp 16], argTypes := #[82, 43] }, type := 3, pos := "heap.go:33", after := #[{ on := 3, ground := Go.Ground.data }, { on := 4, ground := Go.Ground.data }], guard := none }) rfl (fun K hK => ?_) AllReadyH.nil
      go_simp
      go_at_call 45
      refine (hadd_any b v1 L1 (came + j) x hgx (by omega) _ HSA.out).mono ?_
      rintro e w2 ⟨rfl, v2, hs2, hg2⟩
      have HS2 := Lib.hid hs2
      have HG2 := Lib.hid (HGA.out.trans hg2)
      have HU2 := Lib.hid (up_new tenK HH.out (⟨x, came + j⟩ : KeyP TwoX))
      have hl1 := HSA.out.few
      clear hs2 hg2
      refine hK.out _ _ S0 (fun _ => ?_)
      clear hK K
      try simp only [Act.put, List.setIfInBounds_toArray, List.set_cons_zero, List.set_cons_succ]
      refine wpAnyH_ready (rs := [6]) (by kernel_rfl) (by simp) ?_
      refine AllReadyH.cons (o := { dst := some 18, op := Go.Op.call { callee := Go.Callee.value (Go.Operand.func 44), args := #[Go.Operand.tmp 12, Go.Operand.tmp 17], argTypes := #[44, 3] }, type := 0, pos := "heap.go:33", after := #[{ on := 0, ground := Go.Ground.data }, { on := 5, ground := Go.Ground.data }, { on := 5, ground := Go.Ground.chain }], guard := none }) rfl (fun K hK => ?_) AllReadyH.nil
      go_simp
      go_at_call 44
      refine (rise_any b v2 (L1 ++ [⟨x, came + j⟩]) (came + j + 1) L1.length HU2.out w2 HS2.out).mono ?_
      rintro e w3 ⟨rfl, L3, hp3, hh3, hs3, hg3⟩
      have HP3 := Lib.hid (show L3.Perm (L ++ itemsP came (xs.take (j + 1))) by
        rw [HI.out]
        exact hp3.trans (HP.out.append_right _))
      have HH3 := Lib.hid hh3
      have HS3 := Lib.hid hs3
      have HG3 := Lib.hid (HG2.out.trans hg3)
      clear hp3 hh3 hs3 hg3 HS2 HG2 HU2 HI HP
      refine hK.out _ _ S0 (fun _ => ?_)
      clear hK K
      try simp only [Act.put, List.setIfInBounds_toArray, List.set_cons_zero, List.set_cons_succ]
      refine wpAnyH_done (by kernel_rfl) ?_ _
      go_wp2
      go_round
      case rel => exact ⟨j + 1, v2, L3, by omega, by first | rfl | go_num, HS3, HP3, HH3, HG3⟩
      case measure => simp [intOf]; omega
    · obtain rfl : j = n := by omega
      have E : xs.take j = xs := List.take_of_length_le (by rw [HN.out]; exact Nat.le_refl _)
      rw [E] at HP
      clear E
      go_wp2
      refine bodyPost_end (results_none rfl _ _ _) rfl ?_
      exact ⟨rfl, v1, L1, HS.out, HP.out, HH.out, HGG.out⟩
end Go.Proofs.Ytlicnijhmncoeaa.T2
