/- What a set is put as. -/
import Derived.Test.YtimfabnjopkhdaaLabOf
import Derived.Test.YtimfabnjopkhdaaTexts
import Derived.Deep.RegionHeld3
import Derived.Deep.RegionLaw
import Derived.Deep.AppendLies
namespace Go.Proofs.Ytimfabnjopkhdaa
open Go.RowKit Go.Sort
set_option linter.unusedVariables false
set_option linter.unusedSimpArgs false

def putS (s : ByteArray) : ByteArray := ⟨(putB s.data.toList).toArray⟩
def partT (p : PairB) : ByteArray := p.1 ++ (⟨#[61]⟩ : ByteArray) ++ putS p.2
/-- a row of texts, the first ones written -/
structure RowT (w : World) (g n j : Nat) (ss : List ByteArray) (cs : Array Value) : Prop where
  blk : Blk w g 9 cs
  size : cs.size = n
  at_ : ∀ i, i < j → cs[i]? = some (.string (ss.getD i .empty))
  all_ : ∀ i, i < n → ∃ s, cs[i]? = some (.string s)
theorem RowT.below {w w' : World} {g n j : Nat} {ss : List ByteArray} {cs : Array Value} (h : RowT w g n j ss cs) (hb : Below w.heap.size w w') : RowT w' g n j ss cs := ⟨h.blk.below hb h.blk.lt, h.size, h.at_, h.all_⟩
theorem RowT.drew {w : World} {g n j : Nat} {ss : List ByteArray} {cs : Array Value} (h : RowT w g n j ss cs) : RowT w.drew g n j ss cs := ⟨h.blk, h.size, h.at_, h.all_⟩
theorem RowT.store {w : World} {g n j : Nat} {ss : List ByteArray} {cs : Array Value} (h : RowT w g n j ss cs) (hj : j < n) : RowT (w.setCell ⟨g, j, none⟩ (.string (ss.getD j .empty))) g n (j + 1) ss (cs.setIfInBounds j (.string (ss.getD j .empty))) := by
  refine ⟨h.blk.set_ j _, by rw [Array.size_setIfInBounds]; exact h.size, fun i hi => ?_, fun i hi => ?_⟩
  · by_cases e : i = j
    · subst e
      rw [Array.getElem?_setIfInBounds_self_of_lt (by rw [h.size]; exact hj)]
    · rw [Array.getElem?_setIfInBounds_ne (Ne.symm e)]
      exact h.at_ i (by omega)
  · by_cases e : i = j
    · subst e
      exact ⟨_, Array.getElem?_setIfInBounds_self_of_lt (by rw [h.size]; exact hj)⟩
    · rw [Array.getElem?_setIfInBounds_ne (Ne.symm e)]
      exact h.all_ i hi
theorem RowT.texts {w : World} {g n : Nat} {ss : List ByteArray} {cs : Array Value} (h : RowT w g n n ss cs) (hl : ss.length = n) : Texts w (some ⟨g, 0, none⟩) n ss :=
  ⟨hl, fun _ => ⟨g, 0, rfl, h.blk.lt, fun j hj => by rw [Nat.zero_add, h.blk.cell j]; exact h.at_ j hj⟩⟩
theorem made_cell (n i : Nat) (h : i < n) : (madeCells #[Value.string ⟨#[]⟩] n)[i]? = some (.string ⟨#[]⟩) := by
  simp [madeCells, h, Nat.mod_one]
theorem join_le : ∀ (ss : List ByteArray) (sep : ByteArray) (M : Nat), (∀ x ∈ ss, x.size ≤ M) → (joinB sep ss).length ≤ ss.length * (M + sep.size)
  | [], sep, M, _ => Nat.zero_le _
  | [x], sep, M, h => by
    have hx := h x (by simp)
    show (Lib.join [x.data.toList] sep.data.toList).length ≤ _
    rw [Lib.join_one, size_toList, List.length_singleton, Nat.one_mul]
    omega
  | x :: y :: r, sep, M, h => by
    have hx := h x (by simp)
    have ih := join_le (y :: r) sep M (fun z hz => h z (by simp [hz]))
    have e : joinB sep (x :: y :: r) = x.data.toList ++ sep.data.toList ++ joinB sep (y :: r) := by
      unfold joinB
      simp only [List.map_cons, Lib.join_cons, Lib.joinTail, List.flatten_cons, List.append_assoc]
    rw [e, List.length_append, List.length_append, size_toList, size_toList, List.length_cons, Nat.succ_mul]
    omega
theorem infoStr : (Try.prog.info? 9).map (fun i => (i.zero, i.size, i.bytes)) = some (some (.string ⟨#[]⟩), 1, 16) := by kernel_rfl
theorem putS_size (s : ByteArray) : (putS s).size ≤ 4 * s.size + 2 := by
  have h := (flat_len s.data.toList).2
  rw [size_toList] at h
  unfold putS
  show (putB s.data.toList).toArray.size ≤ _
  rw [List.size_toArray]
  unfold putB
  rw [List.length_cons, List.length_append, List.length_singleton]
  omega

set_option maxRecDepth 100000 in
set_option maxHeartbeats 800000 in
theorem text_long (A : Option Addr) (n c : Nat) (ps : List PairB) (hn : n ≤ 1048576) (hJ : (joinB ⟨#[44]⟩ (ps.map partT)).length ≤ 700000000) (hps : ∀ p ∈ ps, p.1.size ≤ 1048576 ∧ p.2.size ≤ 1048576) (W : World) (h1 : Pairs W A n ps) :
    Calls Try.prog 24 #[.slice A n c] W fun e w' => e = .returned (.string ((⟨#[123]⟩ : ByteArray) ++ (⟨(joinB ⟨#[44]⟩ (ps.map partT)).toArray⟩ : ByteArray) ++ (⟨#[125]⟩ : ByteArray))) ∧ Below W.heap.size W w' := by
  have h0 : W.heap.size ≤ W.heap.size := Nat.le_refl _
  obtain ⟨i0, hi, hz0, hz1, hz2⟩ := info_parts infoStr
  have hmk : ∀ u : World, (Instr.makeSlice 71 (.int .i64 (n : Int)) (.int .i64 (n : Int))).run Try.prog u =
      .ok (.slice (some ⟨u.heap.size, 0, none⟩) n n) (u.alloc (.cells (madeCells #[.string ⟨#[]⟩] n) 9)) := fun u => by
    have h := run_make (P := Try.prog) u 71 9 i0 (.string ⟨#[]⟩) Try.underlying71 hi hz0 .i64 .i64 (n : Int) (n : Int) (by omega) (by omega) (by rw [hz2]; omega) (by omega)
    rw [Int.toNat_natCast] at h
    simpa [hz1, Value.cells] using h
  have H1 := Lib.hid h1
  have hl := h1.1
  have HL := Lib.hid hl
  have HPS := Lib.hid hps
  have hgd : ∀ j, j < n → (ps.map partT).getD j .empty = partT (ps.getD j pnil) := fun j hj => by
    rw [List.getD_eq_getElem?_getD, List.getElem?_map, List.getD_eq_getElem?_getD, List.getElem?_eq_getElem (by omega)]
    rfl
  have HGD := Lib.hid hgd
  have hR0 : RowT (W.alloc (.cells (madeCells #[.string ⟨#[]⟩] n) 9)) W.heap.size n 0 (ps.map partT) (madeCells #[.string ⟨#[]⟩] n) := ⟨Blk.new _ _ _, by simp [madeCells], fun i hi => absurd hi (by omega), fun i hi => ⟨⟨#[]⟩, made_cell n i hi⟩⟩
  have HR0 := Lib.hid hR0
  clear h1 hl hps hgd hR0
  go_enter Try.func24, Try.ntmps24
  go_wp2
  go_loopw [11] (fun iv wr => ∃ (j : Nat) (cs : Array Value), j ≤ n ∧ iv = .int .i64 j ∧ RowT wr W.heap.size n j (ps.map partT) cs ∧ Below W.heap.size W wr) (fun iv _ => n - (intOf iv).toNat)
  case atStart => exact ⟨0, _, Nat.zero_le _, rfl, HR0.out, (Below.refl _ _).alloc (Nat.le_refl _) _⟩
  case round =>
    obtain ⟨j, cs, hjn, rfl, hR, hb⟩ := hrel
    have hsz := hb.size
    by_cases hj : j < n
    · obtain ⟨b1, o1, rfl, hlt1, hc1⟩ := (H1.out.below hb).2 (by omega)
      obtain ⟨c1, c2⟩ := hc1 j hj
      have hg := HGD.out j hj
      have hmem := HPS.out (ps.getD j pnil) (by
        rw [List.getD_eq_getElem?_getD, List.getElem?_eq_getElem (by rw [HL.out]; exact hj)]
        exact List.getElem_mem _)
      obtain ⟨p, hp⟩ : ∃ p, ps.getD j pnil = p := ⟨_, rfl⟩
      rw [hp] at c1 c2 hg hmem
      obtain ⟨p1, p2⟩ := p
      dsimp only at c1 c2 hmem
      have hjI : (j : Int) < (n : Int) := by omega
      have PT := Lib.hid (fun w => put_any p2 (by omega) w)
      have hps := putS_size p2
      obtain ⟨x, hx⟩ : ∃ x, putS p2 = x := ⟨_, rfl⟩
      have hx2 : (⟨(putB p2.data.toList).toArray⟩ : ByteArray) = x := hx
      replace PT := PT.out
      simp only [hx2] at PT
      replace PT := Lib.hid PT
      have hg2 : (ps.map partT).getD j .empty = p1 ++ (⟨#[61]⟩ : ByteArray) ++ x := by rw [hg, ← hx]; rfl
      have HG := Lib.hid hg2
      rw [hx] at hps
      have one : (⟨#[61]⟩ : ByteArray).size = 1 := rfl
      have g1 : p1.size + (⟨#[61]⟩ : ByteArray).size ≤ 2000000 := by rw [one]; omega
      have g2 : (p1 ++ (⟨#[61]⟩ : ByteArray)).size + x.size ≤ 8000000 := by rw [ByteArray.size_append, one]; omega
      have g3 : ¬ 9223372036854775807 < p1.size + (⟨#[61]⟩ : ByteArray).size + x.size := by rw [one]; omega
      have g4 : ¬ 9223372036854775807 < p1.size + (⟨#[61]⟩ : ByteArray).size := by rw [one]; omega
      have g5 : ¬ 9223372036854775807 < p1.size + 1 := by omega
      have g6 : ¬ 9223372036854775807 < p1.size + 1 + x.size := by omega
      have B1 := Blk.new wr 29 #[.string p1, .string p2]
      have k1 : (wr.alloc (.cells #[.string p1, .string p2] 29)).cell? ⟨wr.heap.size, 0, none⟩ = some (.string p1) := (B1.cell 0).trans rfl
      have k2 : (wr.alloc (.cells #[.string p1, .string p2] 29)).cell? ⟨wr.heap.size, 1, none⟩ = some (.string p2) := (B1.cell 1).trans rfl
      have hba : Below W.heap.size W (wr.alloc (.cells #[.string p1, .string p2] 29)) := hb.alloc hsz _
      have hRa : RowT (wr.alloc (.cells #[.string p1, .string p2] 29)) W.heap.size n j (ps.map partT) cs := hR.below ((Below.refl _ _).alloc (Nat.le_refl _) _)
      have hz0' : wr.heap.size < (wr.alloc (.cells #[.string p1, .string p2] 29)).heap.size := by simp
      have hgl : W.heap.size < (wr.alloc (.cells #[.string p1, .string p2] 29)).heap.size := by simp; omega
      have hfz := hRa.blk.frozen j
      obtain ⟨old, hold⟩ := hRa.all_ j hj
      have hco : ((wr.alloc (.cells #[.string p1, .string p2] 29)).cell? ⟨W.heap.size, j, none⟩).isSome = true := by rw [(hRa.blk.cell j).trans hold]; rfl
      have hgf : ∀ w3 : World, RowT w3 W.heap.size n j (ps.map partT) cs → w3.cell? ⟨W.heap.size, j, none⟩ = some (.string old) := fun w3 h => (h.blk.cell j).trans hold
      have HGF := Lib.hid hgf
      clear hold hgf
      obtain ⟨w0, hw0⟩ : ∃ w, wr.alloc (.cells #[.string p1, .string p2] 29) = w := ⟨_, rfl⟩
      rw [hw0] at k1 k2 hba hRa hfz hz0' hgl hco
      have HW0 := Lib.hid hw0
      have HRA := Lib.hid hRa
      clear hp hg hmem hc1 hx hx2 hg2 B1 hw0 hR hb hRa one
      go_wp2
      rw [HW0.out]
      clear c1 c2
      go_region_law (first | (go_simp; go_at_call 39; refine (PT.out _).mono ?_; rintro e w3 ⟨rfl, hb3⟩; have k1' := (hb3.cell (p := ⟨wr.heap.size, 0, none⟩) hz0').trans k1; have k2' := (hb3.cell (p := ⟨wr.heap.size, 1, none⟩) hz0').trans k2; have f3 := (RowT.below HRA.out.drew hb3).blk.frozen j; have c3 := HGF.out _ (RowT.below HRA.out.drew hb3)))
      all_goals
        have hR4 := (RowT.below HRA.out.drew hb3).store hj
        rw [HG.out] at hR4
        have hb4 : Below W.heap.size W w3 := (below_drewN hba 1).trans (hb3.mono hba.size)
        have hb5 := hb4.setCell (p := ⟨W.heap.size, j, none⟩) (Nat.le_refl _) (.string (p1 ++ (⟨#[61]⟩ : ByteArray) ++ x))
        clear hb3 k1' k2' f3 c3
        go_wp2
        go_round
        case rel => exact ⟨j + 1, _, by omega, by go_num, hR4, hb5⟩
        case measure => simp [intOf]; omega
    · obtain rfl : j = n := by omega
      have hT := hR.texts (by rw [List.length_map]; exact HL.out)
      have C := Lib.hid (join_any ⟨#[44]⟩ (some ⟨W.heap.size, 0, none⟩) j j (ps.map partT) (by omega) (Nat.le_refl _) (by omega) wr hT)
      obtain ⟨J, hJJ⟩ : ∃ J, (⟨(joinB ⟨#[44]⟩ (ps.map partT)).toArray⟩ : ByteArray) = J := ⟨_, rfl⟩
      have hJs : J.size = (joinB ⟨#[44]⟩ (ps.map partT)).length := by rw [← hJJ]; simp [ByteArray.size]
      replace C := C.out
      rw [hJJ] at C
      replace C := Lib.hid C
      have E := Lib.hid hJJ
      have hJ9 : J.size ≤ 700000000 := by omega
      have s1 : (⟨#[123]⟩ : ByteArray).size = 1 := rfl
      have s2 : (⟨#[125]⟩ : ByteArray).size = 1 := rfl
      have g1 : (⟨#[123]⟩ : ByteArray).size + J.size ≤ 800000000 := by omega
      have g2 : ((⟨#[123]⟩ : ByteArray) ++ J).size + (⟨#[125]⟩ : ByteArray).size ≤ 900000000 := by rw [ByteArray.size_append]; omega
      have g3 : ¬ 9223372036854775807 < (⟨#[123]⟩ : ByteArray).size + J.size + (⟨#[125]⟩ : ByteArray).size := by omega
      have g4 : ¬ 9223372036854775807 < (⟨#[123]⟩ : ByteArray).size + J.size := by omega
      clear hT hJ hJJ hJs hR s1 s2
      go_wp2_with fail
      refine C.out.mono ?_
      rintro e w3 ⟨rfl, hx⟩
      have hfin := hop hb h0 hx
      clear hx
      go_wp2
      go_ret
      exact ⟨by rw [E.out]; rfl, hfin⟩
theorem text_labels (A : Option Addr) (n c : Nat) (ps : List PairB) (hn : n ≤ 100) (hps : ∀ p ∈ ps, p.1.size ≤ 1048576 ∧ p.2.size ≤ 1048576) (W : World) (h1 : Pairs W A n ps) :
    Calls Try.prog 24 #[.slice A n c] W fun e w' => e = .returned (.string ((⟨#[123]⟩ : ByteArray) ++ (⟨(joinB ⟨#[44]⟩ (ps.map partT)).toArray⟩ : ByteArray) ++ (⟨#[125]⟩ : ByteArray))) ∧ Below W.heap.size W w' := by
  refine text_long A n c ps (by omega) ?_ hps W h1
  have hJ := join_le (ps.map partT) ⟨#[44]⟩ 6000000 (fun x hx => by
    obtain ⟨p, hp, rfl⟩ := List.mem_map.1 hx
    have h1 := hps p hp
    have h2 := putS_size p.2
    unfold partT
    rw [ByteArray.size_append, ByteArray.size_append]
    have one : (⟨#[61]⟩ : ByteArray).size = 1 := rfl
    omega)
  rw [List.length_map, h1.1] at hJ
  have one : (⟨#[44]⟩ : ByteArray).size = 1 := rfl
  rw [one] at hJ
  have hj7 : n * (6000000 + 1) ≤ 100 * 6000001 := Nat.mul_le_mul hn (Nat.le_refl _)
  omega
end Go.Proofs.Ytimfabnjopkhdaa
