/- Labels put as a line of fields: the walks of logfmt's Put and of the document's. -/
import Derived.Test.YtimmfmgnjpcdoaaLabText

namespace Go.Proofs.Ytimmfmgnjpcdoaa
open Go.RowKit
set_option linter.unusedVariables false
set_option linter.unusedSimpArgs false

/-- labels as a line of fields -/
def lineT (ps : List PairB) : ByteArray := ⟨(joinB ⟨#[32]⟩ (ps.map partT)).toArray⟩
set_option maxRecDepth 100000 in
set_option maxHeartbeats 800000 in
theorem logPut_any (A : Option Addr) (n c : Nat) (ps : List PairB) (hn : n ≤ 1048576) (hJ : (joinB ⟨#[32]⟩ (ps.map partT)).length ≤ 700000000) (hps : ∀ p ∈ ps, p.1.size ≤ 1048576 ∧ p.2.size ≤ 1048576) (W : World) (h1 : Pairs W A n ps) :
    Calls Try.prog 16 #[.slice A n c] W fun e w' => e = .returned (.string (lineT ps)) ∧ Below W.heap.size W w' := by
  have h0 : W.heap.size ≤ W.heap.size := Nat.le_refl _
  obtain ⟨i0, hi, hz0, hz1, hz2⟩ := info_parts infoStr
  have hmk : ∀ u : World, (Instr.makeSlice 53 (.int .i64 (n : Int)) (.int .i64 (n : Int))).run Try.prog u =
      .ok (.slice (some ⟨u.heap.size, 0, none⟩) n n) (u.alloc (.cells (madeCells #[.string ⟨#[]⟩] n) 9)) := fun u => by
    have h := run_make (P := Try.prog) u 53 9 i0 (.string ⟨#[]⟩) Try.underlying53 hi hz0 .i64 .i64 (n : Int) (n : Int) (by omega) (by omega) (by rw [hz2]; omega) (by omega)
    rw [Int.toNat_natCast] at h
    simpa [hz1, Value.cells] using h
  have H1 := Lib.hid h1
  have hl := h1.1
  have HL := Lib.hid hl
  have HPS := Lib.hid hps
  have hgd : ∀ j, j < n → (ps.map partT).getD j .empty = partT (ps.getD j pnil) := fun j hj => by
    rw [List.getD_eq_getElem?_getD, List.getElem?_map, List.getD_eq_getElem?_getD, List.getElem?_eq_getElem (by omega)]
    rfl
  have HGD := Lib.hid hgd
  have hR0 : RowT (W.alloc (.cells (madeCells #[.string ⟨#[]⟩] n) 9)) W.heap.size n 0 (ps.map partT) (madeCells #[.string ⟨#[]⟩] n) := ⟨Blk.new _ _ _, by simp [madeCells], fun i hi => absurd hi (by omega), fun i hi => ⟨⟨#[]⟩, made_cell n i hi⟩⟩
  have HR0 := Lib.hid hR0
  clear h1 hl hps hgd hR0
  go_enter Try.func16, Try.ntmps16
  go_wp2
  go_loopw [11] (fun iv wr => ∃ (j : Nat) (cs : Array Value), j ≤ n ∧ iv = .int .i64 j ∧ RowT wr W.heap.size n j (ps.map partT) cs ∧ Below W.heap.size W wr) (fun iv _ => n - (intOf iv).toNat)
  case atStart => exact ⟨0, _, Nat.zero_le _, rfl, HR0.out, (Below.refl _ _).alloc (Nat.le_refl _) _⟩
  case round =>
    obtain ⟨j, cs, hjn, rfl, hR, hb⟩ := hrel
    have hsz := hb.size
    by_cases hj : j < n
    · obtain ⟨b1, o1, rfl, hlt1, hc1⟩ := (H1.out.below hb).2 (by omega)
      obtain ⟨c1, c2⟩ := hc1 j hj
      have hg := HGD.out j hj
      have hmem := HPS.out (ps.getD j pnil) (by
        rw [List.getD_eq_getElem?_getD, List.getElem?_eq_getElem (by rw [HL.out]; exact hj)]
        exact List.getElem_mem _)
      obtain ⟨p, hp⟩ : ∃ p, ps.getD j pnil = p := ⟨_, rfl⟩
      rw [hp] at c1 c2 hg hmem
      obtain ⟨p1, p2⟩ := p
      dsimp only at c1 c2 hmem
      have hjI : (j : Int) < (n : Int) := by omega
      have PT := Lib.hid (fun w => put_any p2 (by omega) w)
      have hps := putS_size p2
      obtain ⟨x, hx⟩ : ∃ x, putS p2 = x := ⟨_, rfl⟩
      have hx2 : (⟨(putB p2.data.toList).toArray⟩ : ByteArray) = x := hx
      replace PT := PT.out
      simp only [hx2] at PT
      replace PT := Lib.hid PT
      have hg2 : (ps.map partT).getD j .empty = p1 ++ (⟨#[61]⟩ : ByteArray) ++ x := by rw [hg, ← hx]; rfl
      have HG := Lib.hid hg2
      rw [hx] at hps
      have one : (⟨#[61]⟩ : ByteArray).size = 1 := rfl
      have g1 : p1.size + (⟨#[61]⟩ : ByteArray).size ≤ 2000000 := by rw [one]; omega
      have g2 : (p1 ++ (⟨#[61]⟩ : ByteArray)).size + x.size ≤ 8000000 := by rw [ByteArray.size_append, one]; omega
      have g3 : ¬ 9223372036854775807 < p1.size + (⟨#[61]⟩ : ByteArray).size + x.size := by rw [one]; omega
      have g4 : ¬ 9223372036854775807 < p1.size + (⟨#[61]⟩ : ByteArray).size := by rw [one]; omega
      have g5 : ¬ 9223372036854775807 < p1.size + 1 := by omega
      have g6 : ¬ 9223372036854775807 < p1.size + 1 + x.size := by omega
      have B1 := Blk.new wr 39 #[.string p1, .string p2]
      have k1 : (wr.alloc (.cells #[.string p1, .string p2] 39)).cell? ⟨wr.heap.size, 0, none⟩ = some (.string p1) := (B1.cell 0).trans rfl
      have k2 : (wr.alloc (.cells #[.string p1, .string p2] 39)).cell? ⟨wr.heap.size, 1, none⟩ = some (.string p2) := (B1.cell 1).trans rfl
      have hba : Below W.heap.size W (wr.alloc (.cells #[.string p1, .string p2] 39)) := hb.alloc hsz _
      have hRa : RowT (wr.alloc (.cells #[.string p1, .string p2] 39)) W.heap.size n j (ps.map partT) cs := hR.below ((Below.refl _ _).alloc (Nat.le_refl _) _)
      have hz0' : wr.heap.size < (wr.alloc (.cells #[.string p1, .string p2] 39)).heap.size := by simp
      have hgl : W.heap.size < (wr.alloc (.cells #[.string p1, .string p2] 39)).heap.size := by simp; omega
      have hfz := hRa.blk.frozen j
      obtain ⟨old, hold⟩ := hRa.all_ j hj
      have hco : ((wr.alloc (.cells #[.string p1, .string p2] 39)).cell? ⟨W.heap.size, j, none⟩).isSome = true := by rw [(hRa.blk.cell j).trans hold]; rfl
      have hgf : ∀ w3 : World, RowT w3 W.heap.size n j (ps.map partT) cs → w3.cell? ⟨W.heap.size, j, none⟩ = some (.string old) := fun w3 h => (h.blk.cell j).trans hold
      have HGF := Lib.hid hgf
      clear hold hgf
      obtain ⟨w0, hw0⟩ : ∃ w, wr.alloc (.cells #[.string p1, .string p2] 39) = w := ⟨_, rfl⟩
      rw [hw0] at k1 k2 hba hRa hfz hz0' hgl hco
      have HW0 := Lib.hid hw0
      have HRA := Lib.hid hRa
      clear hp hg hmem hc1 hx hx2 hg2 B1 hw0 hR hb hRa one
      go_wp2
      rw [HW0.out]
      clear c1 c2
      go_region_law (first | (go_simp; go_at_call 33; refine (PT.out _).mono ?_; rintro e w3 ⟨rfl, hb3⟩; have k1' := (hb3.cell (p := ⟨wr.heap.size, 0, none⟩) hz0').trans k1; have k2' := (hb3.cell (p := ⟨wr.heap.size, 1, none⟩) hz0').trans k2; have f3 := (RowT.below HRA.out.drew hb3).blk.frozen j; have c3 := HGF.out _ (RowT.below HRA.out.drew hb3)))
      all_goals
        have hR4 := (RowT.below HRA.out.drew hb3).store hj
        rw [HG.out] at hR4
        have hb4 : Below W.heap.size W w3 := (below_drewN hba 1).trans (hb3.mono hba.size)
        have hb5 := hb4.setCell (p := ⟨W.heap.size, j, none⟩) (Nat.le_refl _) (.string (p1 ++ (⟨#[61]⟩ : ByteArray) ++ x))
        clear hb3 k1' k2' f3 c3
        go_wp2
        go_round
        case rel => exact ⟨j + 1, _, by omega, by go_num, hR4, hb5⟩
        case measure => simp [intOf]; omega
    · obtain rfl : j = n := by omega
      have hT := hR.texts (by rw [List.length_map]; exact HL.out)
      have C := Lib.hid (join_any ⟨#[32]⟩ (some ⟨W.heap.size, 0, none⟩) j j (ps.map partT) (by omega) (Nat.le_refl _) (by omega) wr hT)
      obtain ⟨J, hJJ⟩ : ∃ J, (⟨(joinB ⟨#[32]⟩ (ps.map partT)).toArray⟩ : ByteArray) = J := ⟨_, rfl⟩
      have hJs : J.size = (joinB ⟨#[32]⟩ (ps.map partT)).length := by rw [← hJJ]; simp [ByteArray.size]
      replace C := C.out
      rw [hJJ] at C
      replace C := Lib.hid C
      have E := Lib.hid hJJ
      have hJ9 : J.size ≤ 700000000 := by omega
      clear hT hJ hJJ hJs hR
      go_wp2_with fail
      refine C.out.mono ?_
      rintro e w3 ⟨rfl, hx⟩
      have hfin := hop hb h0 hx
      clear hx
      go_wp2
      go_ret
      exact ⟨by unfold lineT; rw [E.out]; rfl, hfin⟩
end Go.Proofs.Ytimmfmgnjpcdoaa
