/- Things put into a heap: the walk of Push. -/
import Derived.Test.YtlicnijhmncoeaaHeapAdd
import Derived.Test.YtlicnijhmncoeaaHeapOrd
namespace Go.Proofs.Ytlicnijhmncoeaa
open Go.RowKit
set_option linter.unusedVariables false
set_option linter.unusedSimpArgs false

/-- a row of numbers that a heap's calls leave alone -/
structure IntsA (b : Nat) (v : Value) (w : World) (A : Option Addr) (xs : List Int) : Prop where
  good : ∀ x ∈ xs, -9223372036854775808 ≤ x ∧ x ≤ 9223372036854775807
  at_ : 0 < xs.length → ∃ g o, A = some ⟨g, o, none⟩ ∧ g < w.heap.size ∧ g ≠ b ∧ some g ≠ v.ownBlock ∧ ∀ j, j < xs.length → w.cell? ⟨g, o + j, none⟩ = some (.int .i64 (xs.getD j 0))
theorem IntsA.kept {b : Nat} {v v' : Value} {w w' : World} {A : Option Addr} {xs : List Int} (h : IntsA b v w A xs) (hg : HG b w v w' v') : IntsA b v' w' A xs := by
  refine ⟨h.good, fun h0 => ?_⟩
  obtain ⟨g, o, rfl, h1, h2, h3, h4⟩ := h.at_ h0
  have h5 := hg.size
  refine ⟨g, o, rfl, by omega, h2, fun e => ?_, fun j hj => ?_⟩
  · rcases hg.own g e.symm with k | k
    · exact h3 k.symm
    · omega
  · exact (World.cell?_of_block (hg.block g h1 h2 h3)).trans (h4 j hj)
set_option maxRecDepth 100000 in
set_option maxHeartbeats 1600000 in
theorem push_any (b : Nat) (v : Value) (L : List (KeyP Int)) (came : Nat) (A : Option Addr) (n c : Nat) (xs : List Int) (hn : xs.length = n) (hcm : came + n ≤ 1000000) (w : World) (h : HeapSt w b v L came) (hh : IsHeapP tenK L) (hx : IntsA b v w A xs) :
    Calls Try.prog 14 #[.pointer (some ⟨b, 0, none⟩), .slice A n c] w fun e w' => e = .returned (.tuple #[]) ∧ ∃ v' L', HeapSt w' b v' L' (came + n) ∧ L'.Perm (L ++ itemsP came xs) ∧ IsHeapP tenK L' ∧ HG b w v w' v' := by
  have H0 := Lib.hid h
  have HH0 := Lib.hid hh
  have HX := Lib.hid hx
  have HN := Lib.hid hn
  clear h hh hx hn
  go_enter Try.func14, Try.ntmps14
  go_wp2
  go_loopw [8] (fun iv wr => ∃ (j : Nat) (v1 : Value) (L1 : List (KeyP Int)), j ≤ n ∧ iv = .int .i64 (j : Int) ∧ Hid (HeapSt wr b v1 L1 (came + j)) ∧ Hid (L1.Perm (L ++ itemsP came (xs.take j))) ∧ Hid (IsHeapP tenK L1) ∧ Hid (HG b w v wr v1)) (fun iv _ => n - (intOf iv).toNat)
  case atStart => exact ⟨0, v, L, Nat.zero_le _, rfl, H0, Lib.hid (by simp [itemsP]), HH0, Lib.hid (HG.refl _ _ _)⟩
  case round =>
    obtain ⟨j, v1, L1, hjn, rfl, HS, HP, HH, HGG⟩ := hrel
    by_cases hj : j < n
    · have hjI : (j : Int) < (n : Int) := by omega
      have hx1 := HX.out.kept HGG.out
      obtain ⟨g, o, hA, hlt, _, _, hc⟩ := hx1.at_ (by rw [HN.out]; omega)
      have hcj := hc j (by rw [HN.out]; exact hj)
      have hgx := hx1.good (xs.getD j 0) (by rw [List.getD_eq_getElem?_getD, List.getElem?_eq_getElem (by rw [HN.out]; exact hj)]; exact List.getElem_mem _)
      have hsn : xs.take (j + 1) = xs.take j ++ [xs.getD j 0] := by
        have := HN.out
        rw [List.take_succ_eq_append_getElem (by omega), List.getD_eq_getElem?_getD, List.getElem?_eq_getElem (by omega)]
        rfl
      have hlj : (xs.take j).length = j := by rw [List.length_take, HN.out]; omega
      obtain ⟨x, hx⟩ : ∃ x, xs.getD j 0 = x := ⟨_, rfl⟩
      rw [hx] at hcj hgx hsn
      obtain ⟨x1, x2⟩ := hgx
      have HI := Lib.hid (show L ++ itemsP came (xs.take (j + 1)) = (L ++ itemsP came (xs.take j)) ++ [⟨x, came + j⟩] by
        rw [hsn, itemsP_snoc, hlj, List.append_assoc])
      subst hA
      clear hx1 hc hx hsn hlj
      go_wp2_with fail
      refine (hadd_any b v1 L1 (came + j) x x1 x2 (by omega) _ HS.out).mono ?_
      rintro e w2 ⟨rfl, v2, hs2, hg2⟩
      have HS2 := Lib.hid hs2
      have HG2 := Lib.hid (HGG.out.trans hg2)
      have HU2 := Lib.hid (up_new tenK HH.out (⟨x, came + j⟩ : KeyP Int))
      have hl1 := HS.out.few
      clear hs2 hg2 HS HGG HH
      go_wp2_with fail
      refine (rise_any b v2 (L1 ++ [⟨x, came + j⟩]) (came + j + 1) L1.length HU2.out w2 HS2.out).mono ?_
      rintro e w3 ⟨rfl, L3, hp3, hh3, hs3, hg3⟩
      have HP3 := Lib.hid (show L3.Perm (L ++ itemsP came (xs.take (j + 1))) by
        rw [HI.out]
        exact hp3.trans (HP.out.append_right _))
      have HH3 := Lib.hid hh3
      have HS3 := Lib.hid hs3
      have HG3 := Lib.hid (HG2.out.trans hg3)
      clear hp3 hh3 hs3 hg3 HS2 HG2 HU2 HI HP
      go_wp2
      go_round
      case rel => exact ⟨j + 1, v2, L3, by omega, by first | rfl | go_num, HS3, HP3, HH3, HG3⟩
      case measure => simp [intOf]; omega
    · obtain rfl : j = n := by omega
      have E : xs.take j = xs := List.take_of_length_le (by rw [HN.out]; exact Nat.le_refl _)
      rw [E] at HP
      clear E
      go_wp2
      refine bodyPost_end (results_none rfl _ _ _) rfl ?_
      exact ⟨rfl, v1, L1, HS.out, HP.out, HH.out, HGG.out⟩
end Go.Proofs.Ytlicnijhmncoeaa
