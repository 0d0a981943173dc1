/- Put: a text in quotes: the whole of it. -/
import Derived.Test.YtnhbahfpinijiaaPut
namespace Go.Proofs.Ytnhbahfpinijiaa
open Go.RowKit
set_option linter.unusedVariables false

def putB (l : List UInt8) : List UInt8 := 34 :: (l.flatMap formB ++ [34])
theorem flat_len (l : List UInt8) : l.length ≤ (l.flatMap formB).length ∧ (l.flatMap formB).length ≤ 4 * l.length := by
  induction l with
  | nil => simp
  | cons b l ih =>
    have := formB_len b
    simp only [List.flatMap_cons, List.length_append, List.length_cons]
    omega
theorem take_flat (s : ByteArray) (k : Nat) (h : k < s.size) : (s.data.toList.take (k + 1)).flatMap formB = (s.data.toList.take k).flatMap formB ++ formB s[k] := by
  rw [List.take_succ_eq_append_getElem (by simpa using h), List.flatMap_append]
  simp
  rfl
theorem made_own {w : World} (n : Nat) (e : Nat) (B : Nat) (hB : B ≤ w.heap.size) (hn : n ≤ 16777216) : OwnB (w.alloc (.cells (madeCells #[.int .u8 0] n) e)) B e (.slice (some ⟨w.heap.size, 0, none⟩) 0 n) [] :=
  World.ownsRow_made w _ n hB (by unfold maxLen; omega) (by simp [madeCells])

set_option maxHeartbeats 800000 in
theorem put_any (s : ByteArray) (hs : s.size ≤ 4000000) (W : World) :
    Calls Try.prog 14 #[.string s] W fun e w' => e = .returned (.string ⟨(putB s.data.toList).toArray⟩) ∧ Below W.heap.size W w' := by
  obtain ⟨i0, hi, hz0, hz1, hz2⟩ := info_parts infoU8
  have hmk : ∀ u : World, (Instr.makeSlice 22 (.int .i64 0) (.int .i64 ((s.size : Int) + 2))).run Try.prog u =
      .ok (.slice (some ⟨u.heap.size, 0, none⟩) 0 (s.size + 2)) (u.alloc (.cells (madeCells #[.int .u8 0] (s.size + 2)) 5)) := fun u => by
    have h := run_make (P := Try.prog) u 22 5 i0 (.int .u8 0) Try.underlying22 hi hz0 .i64 .i64 0 ((s.size + 2 : Nat) : Int) (by omega) (by omega) (by rw [hz2]; omega) (by omega)
    rw [Int.toNat_natCast] at h
    simpa [hz1, Value.cells] using h
  go_enter Try.func14, Try.ntmps14
  go_wp2_with (at_builtin; refine wpList_append_own _ rfl (.tmp 9) (.tmp 10) 22 rfl W.heap.size 5 i0 (.int .u8 0) 1 1 Try.underlying22 hi hz0 hz1 hz2 rfl (by decide) _ _ _ rfl ((made_own (w := W) (s.size + 2) 5 W.heap.size (Nat.le_refl _) (by omega)).alloc _) ⟨W.heap.size + 1, 0, none⟩ 1 1 (bV [34]) rfl rfl (new_cells_at _ _ _ _ (by simp)) (bV_one _) (by simp [maxLen]) (by simp) (by simp; omega) ?_)
  intro v1 w1 hown1 hgrow1 _
  have hown1' : OwnB w1 W.heap.size 5 v1 (34 :: (s.data.toList.take 0).flatMap formB) := OwnB.snoc (l := []) (m := [34]) hown1
  have hbel1 := (((Below.refl W.heap.size W).alloc (Nat.le_refl _) _).alloc (by simp) _).grown hgrow1 (by simp; omega) (fun r hr => by simp [Value.ownBlock] at hr; omega)
  clear hown1 hgrow1 hmk
  go_wp2
  go_loopw [3, 14] (fun v i wr => ∃ k : Nat, k ≤ s.size ∧ i = .int .i64 k ∧ OwnB wr W.heap.size 5 v (34 :: (s.data.toList.take k).flatMap formB) ∧ Below W.heap.size W wr) (fun _ i _ => s.size - (intOf i).toNat)
  case atStart => exact ⟨0, Nat.zero_le _, rfl, hown1', hbel1⟩
  case round =>
    obtain ⟨k, hk, rfl, hown, hbel⟩ := hrel
    have hfl := (flat_len (s.data.toList.take k)).2
    have htk : (s.data.toList.take k).length ≤ s.size := by rw [List.length_take]; simp; omega
    have hle : (34 :: (s.data.toList.take k).flatMap formB).length ≤ 16777216 := by rw [List.length_cons]; omega
    by_cases hkn : k < s.size
    · have HE := Lib.hid (take_flat s k hkn)
      go_wp2_with (go_at_call 21; refine (appendByte_any s[k] _ _ W.heap.size _ hown hbel.size hle).mono ?_; rintro e w2 ⟨v2, rfl, hown2, hbel2⟩)
      go_roundw
      case rel => exact ⟨k + 1, by omega, by go_num, by rw [HE.out, ← List.cons_append]; exact hown2, hbel.trans hbel2⟩
      case measure => simp [intOf]; omega
    · obtain rfl : k = s.size := by omega
      have hsz := hbel.size
      rw [List.take_of_length_le (by simp)] at hown hle
      obtain ⟨L, hL⟩ : ∃ L, L = 34 :: s.data.toList.flatMap formB := ⟨_, rfl⟩
      rw [← hL] at hown hle
      have HL := Lib.hid hL
      clear hL
      go_wp2_with (at_builtin; refine wpList_append_own _ rfl (.tmp 23) (.tmp 24) 22 rfl W.heap.size 5 i0 (.int .u8 0) 1 1 Try.underlying22 hi hz0 hz1 hz2 rfl (by decide) _ _ _ rfl (hown.alloc _) ⟨wr.heap.size, 0, none⟩ 1 1 (bV [34]) rfl rfl (new_cells _ _ _) (bV_one _) (by unfold maxLen; omega) (by omega) (by simp; omega) ?_)
      intro v3 w3 hown3 hgrow3 _
      have hbel3 := (hbel.alloc hbel.size _).grown hgrow3 (by simp; omega) (fun r hr => (World.ownsRow.lt hown r hr).1)
      have hconv := own_text (P := Try.prog) (src := 22) (dst := 9) (OwnB.snoc hown3) Try.underlying22 Try.underlying5 Try.underlying9
      clear hown3 hgrow3
      go_wp2
      go_ret
      exact ⟨by rw [HL.out]; rfl, hbel3⟩
end Go.Proofs.Ytnhbahfpinijiaa
