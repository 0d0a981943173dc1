import Derived.Test.YtmdpdffifpbbeaaReverse
namespace Go.Proofs.Ytmdpdffifpbbeaa
open Go.RowKit

def told (f t w : Int) (n : Nat) (asc : Bool) : List (Int × Int) := if asc then pieces f t w n n else (pieces f t w n n).reverse

set_option maxHeartbeats 400000 in
theorem all_any (asc : Bool) (f t w : Int) (hf : -9223372036854775808 ≤ f) (ht : t ≤ 9223372036854775807) (hlt : f < t) (hw : 1 ≤ w) (hw2 : w ≤ 9223372036854775807) (n : Nat) (hn : Hid ((n : Int) = (t - f - 1) / w + 1)) (hn1 : n ≤ 64) (W : World) :
    Calls Try.prog 11 #[.int .i64 f, .int .i64 t, .int .i64 w, .bool asc] W fun e w' => ∃ g, e = .returned (.tuple #[.slice (some ⟨g, 0, none⟩) n n, .int .i64 0]) ∧ W.heap.size ≤ g ∧ Blk w' g 35 (spanCells (told f t w n asc)).toArray ∧ Below W.heap.size W w' := by
  obtain ⟨i0, hi, hz0, hz1, hz2⟩ := info_parts info35
  have hmk : ∀ u : World, (Instr.makeSlice 28 (.int .i64 (n : Int)) (.int .i64 (n : Int))).run Try.prog u =
      .ok (.slice (some ⟨u.heap.size, 0, none⟩) n n) (u.alloc (.cells (madeCells #[.int .i64 0, .int .i64 0] (n * 2)) 35)) := fun u => by
    have h := run_make (P := Try.prog) u 28 35 i0 (.agg #[.int .i64 0, .int .i64 0]) Try.underlying28 hi hz0 .i64 .i64 (n : Int) (n : Int) (by omega) (Int.le_refl _) (by rw [hz2]; omega) (by omega)
    rw [Int.toNat_natCast] at h
    simpa [hz1, Value.cells] using h
  have hfit := fits_of f t w n hlt hw hn.out
  go_enter Try.func11, Try.ntmps11
  go_wp2_with (go_at_call 9; refine (many_ok f t w hf ht hlt hw hw2 (by have := hn.out; omega) _).mono ?_; rintro e w' ⟨rfl, rfl⟩; rw [← hn.out])
  go_loopw [0, 28] (fun a i wr => ∃ k : Nat, k ≤ n ∧ i = .int .i64 k ∧ a = .int .i64 (startAt f w n k) ∧ Blk wr W.heap.size 35 (spanCells (pieces f t w n k) ++ zeros (2 * (n - k))).toArray ∧ Below W.heap.size W wr) (fun _ i _ => n - (intOf i).toNat)
  case atStart =>
    refine ⟨0, Nat.zero_le _, rfl, ?_, ?_, (Below.refl _ _).alloc (Nat.le_refl _) _⟩
    · simp [startAt]; intro h; have := hfit.pos; omega
    · rw [← made_zeros]; exact Blk.new _ _ _
  case round =>
    obtain ⟨k, hk, rfl, rfl, hb, hbel⟩ := hrel
    by_cases hkn : k < n
    · obtain ⟨s, hs⟩ : ∃ s, s = startAt f w n k := ⟨_, rfl⟩
      have hs1 := hfit.start_le k hkn
      have hs2 : s = f + k * w := by rw [hs]; simp [startAt, hkn]
      rw [← hs]
      obtain ⟨v0, c0⟩ := cells_some f t w n k 0 hkn (by omega)
      obtain ⟨v1, c1⟩ := cells_some f t w n k 1 hkn (by omega)
      rw [Nat.add_zero, ← hb.cell] at c0
      rw [← hb.cell] at c1
      have f0 := hb.frozen (k * 2)
      have f1 := hb.frozen (k * 2 + 1)
      have hbs : f ≤ s ∧ s < t := by rw [hs2]; exact hs1
      have HS := Lib.hid hs
      have HS2 := Lib.hid hs2
      clear hs hs2 hs1
      obtain ⟨hbs1, hbs2⟩ := hbs
      by_cases hlast : k + 1 < n
      · have hbw : s + w < t := by
          have := (hfit.start_le (k + 1) hlast).2
          rw [HS2.out]
          have e := succ_mul' k w
          have e2 : (((k + 1 : Nat) : Int)) * w = ((k : Int) + 1) * w := by rw [Int.natCast_add]; rfl
          omega
        have c2 : (((wr.setCell ⟨W.heap.size, k * 2, none⟩ (.int .i64 s)).setCell ⟨W.heap.size, k * 2 + 1, none⟩ (.int .i64 t)).setCell ⟨W.heap.size, k * 2 + 1, none⟩ (.int .i64 (s + w))).cell? ⟨W.heap.size, k * 2 + 1, none⟩ = some (.int .i64 (s + w)) := by
          rw [(((hb.set_ _ _).set_ _ _).set_ _ _).cell, Array.getElem?_setIfInBounds_self_of_lt]
          simp [spanCells_len, pieces_len, zeros]; omega
        go_wp2
        go_roundw
        case rel =>
          refine ⟨k + 1, by omega, by go_num, ?_, ?_, (((hbel.setCell (Nat.le_refl _) _).setCell (Nat.le_refl _) _).setCell (Nat.le_refl _) _)⟩
          · rw [HS2.out, startAt, if_pos hlast, Int.natCast_add, Int.natCast_one, succ_mul', Int.add_assoc]
          · have hp : piece f t w n k = (s, s + w) := by rw [HS2.out, piece, if_pos hlast, succ_mul', Int.add_assoc]
            rw [← round_cells f t w n k hkn _ _ hp]
            have := ((hb.set_ (k * 2) (.int .i64 s)).set_ (k * 2 + 1) (.int .i64 t)).set_ (k * 2 + 1) (.int .i64 (s + w))
            rwa [Array.setIfInBounds_setIfInBounds] at this
        case measure => simp [intOf]; omega
      · go_wp2
        go_roundw
        case rel =>
          refine ⟨k + 1, by omega, by go_num, ?_, ?_, ((hbel.setCell (Nat.le_refl _) _).setCell (Nat.le_refl _) _)⟩
          · have e : (n : Int) - 1 = k := by omega
            rw [HS2.out, startAt, if_neg hlast, e]
          · have hp : piece f t w n k = (s, t) := by rw [HS2.out, piece, if_neg hlast]
            rw [← round_cells f t w n k hkn _ _ hp]
            exact (hb.set_ (k * 2) (.int .i64 s)).set_ (k * 2 + 1) (.int .i64 t)
        case measure => simp [intOf]; omega
    · obtain rfl : k = n := by omega
      have hb' : Blk wr W.heap.size 35 (spanCells (pieces f t w k k)).toArray := by simpa [zeros] using hb
      cases asc
      · go_wp2_with (go_at_call 15; refine (reverse_any (pieces f t w k k) W.heap.size k W.heap.size (pieces_len _ _ _ _ _) hfit.pos hn1 _ hb' (Nat.le_refl _)).mono ?_; rintro e w' ⟨rfl, hb2, hbel2⟩)
        go_ret2
        exact ⟨W.heap.size, rfl, Nat.le_refl _, hb2, hbel.trans hbel2⟩
      · go_wp2
        go_ret2
        exact ⟨W.heap.size, rfl, Nat.le_refl _, hb', hbel⟩
end Go.Proofs.Ytmdpdffifpbbeaa
