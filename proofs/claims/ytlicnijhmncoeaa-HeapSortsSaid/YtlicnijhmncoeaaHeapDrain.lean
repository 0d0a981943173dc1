/- All that is in a heap taken out, one by one: the walk of Drain. -/
import Derived.Test.YtlicnijhmncoeaaHeapBox
import Derived.Laws.MakeOwn
namespace Go.Proofs.Ytlicnijhmncoeaa
open Go.RowKit
set_option linter.unusedVariables false
set_option linter.unusedSimpArgs false

def sliceN : Value → Nat
  | .slice _ n _ => n
  | _ => 0
theorem infoThing : (Try.prog.info? 3).map (fun i => (i.zero, i.size, i.bytes)) = some (some (.int .i64 0), 1, 8) := by kernel_rfl
theorem made_own (w : World) (n : Nat) (e : Nat) (B : Nat) (hB : B ≤ w.heap.size) (hn : n ≤ 16777216) : OwnI .i64 (w.alloc (.cells (madeCells #[.int .i64 0] n) e)) B e (.slice (some ⟨w.heap.size, 0, none⟩) 0 n) [] :=
  World.ownsRow_made w _ n hB (by unfold maxLen; omega) (by simp [madeCells])
theorem OwnI.sliceN {k : IntKind} {w : World} {B e : Nat} {lv : Value} {l : List Int} (h : OwnI k w B e lv l) : sliceN lv = l.length := by
  obtain ⟨A, cap, rfl⟩ := own_shape h
  rfl
set_option maxRecDepth 100000 in
set_option maxHeartbeats 1600000 in
theorem drainO_any (b : Nat) (v : Value) (M : List (KeyP Int)) (came : Nat) (w : World) (h : HeapO w b v M came) :
    Calls Try.prog 13 #[.pointer (some ⟨b, 0, none⟩)] w fun e w' => ∃ v2, e = .returned v2 ∧ OwnI .i64 w' w.heap.size 3 v2 (M.map KeyP.it) ∧ ∃ v', HeapO w' b v' [] came ∧ HG b w v w' v' := by
  obtain ⟨i0, hi, hz0, hz1, hz2⟩ := info_parts infoThing
  obtain ⟨hf1, hf2⟩ := h.few
  have hlt := h.lt
  have hown := h.own
  obtain ⟨n, hn⟩ : ∃ n, M.length = n := ⟨_, rfl⟩
  rw [hn] at hf1
  have hn6 : n ≤ 1000000 := by omega
  have hmk : ∀ u : World, (Instr.makeSlice 22 (.int .i64 0) (.int .i64 (n : Int))).run Try.prog u =
      .ok (.slice (some ⟨u.heap.size, 0, none⟩) 0 n) (u.alloc (.cells (madeCells #[.int .i64 0] n) 3)) := fun u => by
    have h := run_make (P := Try.prog) u 22 3 i0 (.int .i64 0) Try.underlying22 hi hz0 .i64 .i64 0 (n : Int) (by omega) (by omega) (by rw [hz2]; omega) (by omega)
    rw [Int.toNat_natCast] at h
    simpa [hz1, Value.cells] using h
  have MN := manyO_any b v M came w h
  rw [hn] at MN
  have HN := Lib.hid hn
  have H0 := Lib.hid h
  have HL := Lib.hid hlt
  have HO0 := Lib.hid (made_own w n 3 w.heap.size (Nat.le_refl _) (by omega))
  have HAP := Lib.hid (show ApartV v (.slice (some ⟨w.heap.size, 0, none⟩) 0 n) from fun k hk hl => by
    have h1 := (hown k hk).2
    have h2 : w.heap.size = k := by simpa [Value.ownBlock] using hl
    omega)
  clear h hn hlt hown hf1 hf2
  go_enter Try.func13, Try.ntmps13
  go_wp2_with fail
  refine MN.mono ?_
  rintro e w1 ⟨rfl, rfl⟩
  have HG0 := Lib.hid ((HG.refl b w1 v).alloc (.cells (madeCells #[.int .i64 0] n) 3))
  have HS0 := Lib.hid (H0.out.below ((Below.refl _ _).alloc (Nat.le_refl _) (.cells (madeCells #[.int .i64 0] n) 3)))
  go_wp2
  clear hmk MN
  go_loopw [3] (fun lv wr => ∃ (j : Nat) (v1 : Value), j ≤ n ∧ Hid (OwnI .i64 wr w1.heap.size 3 lv ((M.map KeyP.it).take j)) ∧ Hid (HeapO wr b v1 (M.drop j) came) ∧ Hid (HG b w1 v wr v1) ∧ Hid (ApartV v1 lv)) (fun lv _ => n - sliceN lv)
  case atStart => exact ⟨0, v, Nat.zero_le _, HO0, HS0, HG0, HAP⟩
  case round =>
    obtain ⟨j, v1, hjn, HO, HS, HGG, HA⟩ := hrel
    have MN := manyO_any b v1 (M.drop j) came wr HS.out
    rw [List.length_drop, HN.out] at MN
    by_cases hj : j < n
    · have hpos : (0 : Int) < ((n - j : Nat) : Int) := by omega
      have hMj : M.drop j = M[j]'(by rw [HN.out]; exact hj) :: M.drop (j + 1) := List.drop_eq_getElem_cons (by rw [HN.out]; exact hj)
      have hsn : (M.map KeyP.it).take (j + 1) = (M.map KeyP.it).take j ++ [(M[j]'(by rw [HN.out]; exact hj)).it] := by
        rw [List.take_succ_eq_append_getElem (by rw [List.length_map, HN.out]; exact hj)]
        simp
      obtain ⟨m, hm⟩ : ∃ m, M[j]'(by rw [HN.out]; exact hj) = m := ⟨_, rfl⟩
      rw [hm] at hMj hsn
      have HSN := Lib.hid hsn
      have PP := popO_any b v1 m (M.drop (j + 1)) came wr (by rw [← hMj]; exact HS.out)
      have hlj : ((M.map KeyP.it).take j).length = j := by rw [List.length_take, List.length_map, HN.out]; omega
      obtain ⟨x, hx⟩ : ∃ x, m.it = x := ⟨_, rfl⟩
      rw [hx] at HSN PP
      replace PP := Lib.hid PP
      obtain ⟨d, hd⟩ : ∃ d, n - j = d := ⟨_, rfl⟩
      rw [hd] at MN hpos
      obtain ⟨xs, hxs⟩ : ∃ xs, (M.map KeyP.it).take j = xs := ⟨_, rfl⟩
      rw [hxs] at HO HSN hlj
      have HLJ := Lib.hid hlj
      clear hm hx hMj hsn hd hxs hlj HS
      go_wp2_with fail
      refine MN.mono ?_
      rintro e w2 ⟨rfl, rfl⟩
      go_wp2_with fail
      refine (PP.out).mono ?_
      rintro e w3 ⟨rfl, v3, hs3, hg3⟩
      have HG3 := Lib.hid (HGG.out.trans hg3)
      have HS3 := Lib.hid hs3
      have HO3 := Lib.hid (OwnI.keptH HO.out hg3 HL.out HA.out)
      have HA3 := Lib.hid (HA.out.kept HO.out hg3)
      have HSL := Lib.hid (OwnI.sliceN HO3.out)
      rw [HLJ.out] at HSL
      have hsz3 : w1.heap.size ≤ w3.heap.size := HG3.out.size
      clear hs3 hg3 HO HA HGG PP MN
      have hO3 := HO3.out
      unfold OwnI at hO3
      rw [HLJ.out] at hO3
      go_wp2_with (at_builtin; refine wpList_append_lies _ rfl (.tmp 21) (.tmp 23) 22 rfl w1.heap.size 3 i0 (.int .i64 0) 1 8 Try.underlying22 hi hz0 hz1 hz2 rfl (by decide) _ _ _ rfl (World.ownsRow.alloc hO3 _) ⟨w3.heap.size, 0, none⟩ 1 1 (iV .i64 [x]) rfl rfl (new_cells_at _ _ _ _ (by simp)) (iV_one _ _) (by omega) (by unfold maxLen; omega) (by omega) (by simp; omega) _ rfl ?_)
      intro g cap w4 hown4 hgrow hg4 hlt4
      have HO4 := Lib.hid (show OwnI .i64 w4 w1.heap.size 3 (.slice (some ⟨g, 0, none⟩) (j + 1) cap) ((M.map KeyP.it).take (j + 1)) from by
        rw [HSN.out]
        exact OwnI.snoc (m := [x]) (by rw [HLJ.out]; exact hown4))
      have HG4 := Lib.hid ((HG3.out.alloc _).grown (B := 0) hgrow (fun k hk => (World.ownsRow.lt hO3 k hk).1))
      have HB4 : Below w3.heap.size w3 (w3.alloc (.cells #[.int .i64 x] 3)) := (Below.refl _ _).alloc (Nat.le_refl _) _
      have hsb := HB4.size
      have HS4 := Lib.hid ((HS3.out.below HB4).kept (w' := w4) (hgrow.block b (Nat.lt_of_lt_of_le HS3.out.lt hsb) (fun e => by have h1 := (World.ownsRow.lt hO3 b e.symm).1; have h2 := HL.out; omega)) (fun k hk => hgrow.block k (Nat.lt_of_lt_of_le (HS3.out.own k hk).2 hsb) (fun e => HA3.out k hk e.symm)))
      have HA4 := Lib.hid (show ApartV v3 (.slice (some ⟨g, 0, none⟩) (j + 1) cap) from fun k hk hl => by
        have h1 : g = k := by simpa [Value.ownBlock] using hl
        subst h1
        rcases hg4 with h2 | h2
        · exact HA3.out g hk h2
        · have h3 := (HS3.out.own g hk).2
          omega)
      clear hown4 hgrow hg4 HB4 hsb hO3 HO3 HA3 HS3 HG3
      go_wp2
      go_round
      case rel => exact ⟨j + 1, v3, by omega, HO4, HS4, HG4, HA4⟩
      case measure =>
        have := HSL.out
        simp only [sliceN] at this ⊢
        simp [this]
        omega
    · obtain rfl : j = n := by omega
      have hz : j - j = 0 := Nat.sub_self j
      rw [hz] at MN
      have hE : (M.map KeyP.it).take j = M.map KeyP.it := List.take_of_length_le (by rw [List.length_map, HN.out]; exact Nat.le_refl _)
      have hD : M.drop j = [] := List.drop_of_length_le (by rw [HN.out]; exact Nat.le_refl _)
      rw [hE] at HO
      rw [hD] at HS
      clear hE hD hz
      go_wp2_with fail
      refine MN.mono ?_
      rintro e w2 ⟨rfl, rfl⟩
      go_wp2
      go_ret
      exact ⟨_, by first | rfl | trivial, HO.out, v1, HS.out, HGG.out⟩
end Go.Proofs.Ytlicnijhmncoeaa
