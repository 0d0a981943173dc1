/- Labels put as a line of fields by the document's own Put: the walk. -/
import Derived.Test.YtimmfmgnjpcdoaaLogPut
import Derived.Test.YtimmfmgnjpcdoaaRefParse6
namespace Go.Proofs.Ytimmfmgnjpcdoaa
open Go.RowKit
set_option linter.unusedVariables false
set_option linter.unusedSimpArgs false

/-- the text after so many labels -/
def lineTo (ps : List PairB) : Nat → ByteArray
  | 0 => ⟨#[]⟩
  | j + 1 => (if j = 0 then lineTo ps j else lineTo ps j ++ (⟨#[32]⟩ : ByteArray)) ++ (ps.getD j pnil).1 ++ (⟨#[61]⟩ : ByteArray) ++ putS (ps.getD j pnil).2
theorem lineTo_list (ps : List PairB) (j : Nat) (hj : j ≤ ps.length) : (lineTo ps j).data.toList = Lib.join ((ps.take j).map partL) [32] := by
  induction j with
  | zero => rfl
  | succ j ih =>
    have h := ih (by omega)
    have hs : (ps.take (j + 1)).map partL = (ps.take j).map partL ++ [partL (ps.getD j pnil)] := by
      rw [List.take_succ_eq_append_getElem (by omega), List.map_append, List.getD_eq_getElem?_getD, List.getElem?_eq_getElem (by omega)]
      rfl
    have hp : partL (ps.getD j pnil) = (ps.getD j pnil).1.data.toList ++ 61 :: (putS (ps.getD j pnil).2).data.toList := by
      unfold partL putS
      rfl
    rw [hs, join_snoc, lineTo, text_joined, text_joined, text_joined, hp]
    by_cases h0 : j = 0
    · subst h0
      rw [if_pos rfl, h, List.take_zero, List.map_nil, if_pos rfl]
      simp [Lib.join_nil]
    · have hne : ¬ (ps.take j).map partL = [] := by
        intro e
        have := congrArg List.length e
        rw [List.length_map, List.length_take] at this
        simp only [List.length_nil] at this
        omega
      rw [if_neg h0, if_neg hne, text_joined, h]
      simp
theorem lineTo_all (ps : List PairB) : lineTo ps ps.length = lineT ps := by
  refine text_ext1 ?_
  rw [lineTo_list ps _ (Nat.le_refl _), List.take_length]
  unfold lineT joinB
  show Lib.join (ps.map partL) [32] = Lib.join ((ps.map partT).map (·.data.toList)) [32]
  rw [List.map_map]
  congr 1
  exact (List.map_congr_left fun q _ => part_list q).symm
theorem lineTo_size (ps : List PairB) (hps : ∀ p ∈ ps, p.1.size ≤ 1048576 ∧ p.2.size ≤ 1048576) (j : Nat) (hj : j ≤ ps.length) : (lineTo ps j).size ≤ 1 + j * 6000000 := by
  induction j with
  | zero => exact Nat.zero_le _
  | succ j ih =>
    have h := ih (by omega)
    have hm : ps.getD j pnil ∈ ps := by
      rw [List.getD_eq_getElem?_getD, List.getElem?_eq_getElem (by omega)]
      exact List.getElem_mem _
    have h1 := hps _ hm
    have h2 := putS_size (ps.getD j pnil).2
    have one : (⟨#[61]⟩ : ByteArray).size = 1 := rfl
    have two : (⟨#[32]⟩ : ByteArray).size = 1 := rfl
    rw [lineTo, ByteArray.size_append, ByteArray.size_append, ByteArray.size_append, one]
    have h3 : (if j = 0 then lineTo ps j else lineTo ps j ++ (⟨#[32]⟩ : ByteArray)).size ≤ (lineTo ps j).size + 1 := by
      split
      · omega
      · rw [ByteArray.size_append, two]; exact Nat.le_refl _
    rw [Nat.succ_mul]
    omega
set_option maxRecDepth 100000 in
set_option maxHeartbeats 800000 in
theorem refLogPut_any (A : Option Addr) (n c : Nat) (ps : List PairB) (hn : n ≤ 1048576) (hps : ∀ p ∈ ps, p.1.size ≤ 1048576 ∧ p.2.size ≤ 1048576) (W : World) (h1 : Pairs W A n ps) :
    Calls Try.prog 17 #[.slice A n c] W fun e w' => e = .returned (.string (lineT ps)) ∧ Below W.heap.size W w' := by
  have h0 : W.heap.size ≤ W.heap.size := Nat.le_refl _
  have H1 := Lib.hid h1
  have HL := Lib.hid h1.1
  have HPS := Lib.hid hps
  have HSZ := Lib.hid (lineTo_size ps hps)
  have one : (⟨#[61]⟩ : ByteArray).size = 1 := rfl
  have two : (⟨#[32]⟩ : ByteArray).size = 1 := rfl
  clear h1 hps
  go_enter Try.func17, Try.ntmps17
  go_wp2
  go_loopw [3, 4] (fun sv iv wr => ∃ (j : Nat) (t : ByteArray), j ≤ n ∧ iv = .int .i64 j ∧ sv = .string t ∧ Hid (t = lineTo ps j) ∧ t.size ≤ 1 + j * 6000000 ∧ Below W.heap.size W wr) (fun _ iv _ => n - (intOf iv).toNat)
  case atStart => exact ⟨0, ⟨#[]⟩, Nat.zero_le _, rfl, rfl, Lib.hid rfl, by decide, Below.refl _ _⟩
  case round =>
    obtain ⟨j, t, hjn, rfl, rfl, HT, hts, hb⟩ := hrel
    have hsz := hb.size
    by_cases hj : j < n
    · have hjI : (j : Int) < (n : Int) := by omega
      obtain ⟨b1, o1, rfl, hlt1, hc1⟩ := (H1.out.below hb).2 (by omega)
      obtain ⟨c1, c2⟩ := hc1 j hj
      have hnx : lineTo ps (j + 1) = (if j = 0 then lineTo ps j else lineTo ps j ++ (⟨#[32]⟩ : ByteArray)) ++ (ps.getD j pnil).1 ++ (⟨#[61]⟩ : ByteArray) ++ putS (ps.getD j pnil).2 := rfl
      rw [← HT.out] at hnx
      have hsz2 := HSZ.out (j + 1) (by have := HL.out; omega)
      have hmem : ps.getD j pnil ∈ ps := by
        have := HL.out
        rw [List.getD_eq_getElem?_getD, List.getElem?_eq_getElem (by omega)]
        exact List.getElem_mem _
      have hpz := HPS.out _ hmem
      obtain ⟨⟨p1, p2⟩, hp⟩ : ∃ p, ps.getD j pnil = p := ⟨_, rfl⟩
      rw [hp] at c1 c2 hnx hpz
      dsimp only at c1 c2 hnx hpz
      have PT := fun w => refPut_any p2 (by omega) w
      have hput := putS_size p2
      have hx0 : (⟨(putB p2.data.toList).toArray⟩ : ByteArray) = putS p2 := rfl
      simp only [hx0] at PT
      obtain ⟨x, hx⟩ : ∃ x, putS p2 = x := ⟨_, rfl⟩
      rw [hx] at hnx hput
      simp only [hx] at PT
      replace PT := Lib.hid PT
      have hjb : j * 6000000 ≤ 6291456000000 := by omega
      have HNX := Lib.hid hnx
      have HS2 := Lib.hid hsz2
      clear hc1 hmem hp hx hx0 hnx hsz2
      by_cases hj0 : j = 0
      · have z1 : ¬ (0 : Int) < (j : Int) := by omega
        have z2 : ¬ 0 < j := by omega
        have E := Lib.hid (show t ++ p1 ++ (⟨#[61]⟩ : ByteArray) ++ x = lineTo ps (j + 1) from by rw [HNX.out, if_pos hj0])
        have s1 : ¬ 9223372036854775807 < t.size + p1.size := by omega
        have s2 : ¬ 9223372036854775807 < (t ++ p1).size + (⟨#[61]⟩ : ByteArray).size := by rw [ByteArray.size_append, one]; omega
        have s3 : ¬ 9223372036854775807 < (t ++ p1 ++ (⟨#[61]⟩ : ByteArray)).size + x.size := by rw [ByteArray.size_append, ByteArray.size_append, one]; omega
        have s4 : ¬ 9223372036854775807 < (t ++ p1).size + 1 := by rw [ByteArray.size_append]; omega
        have t1 : ¬ 9223372036854775807 < t.size + p1.size + 1 := by omega
        have t2 : ¬ 9223372036854775807 < t.size + p1.size + 1 + x.size := by omega
        have t3 : ¬ 9223372036854775807 < t.size + 1 + p1.size := by omega
        have t4 : ¬ 9223372036854775807 < t.size + 1 + p1.size + 1 := by omega
        have t5 : ¬ 9223372036854775807 < t.size + 1 + p1.size + 1 + x.size := by omega
        clear hj0 one two
        go_wp2
        go_region_held3 (fun w' => w'.cell? ⟨b1, o1 + j * 2, none⟩ = some (.string p1) ∧ w'.cell? ⟨b1, o1 + j * 2 + 1, none⟩ = some (.string p2)) (first | go_keep | (rw [hb3.cell (by simpa using hlt1), hb3.cell (by simpa using hlt1)]; exact ⟨c1, c2⟩))
          (first | (go_at_call 35; refine (PT.out _).mono ?_; rintro e w3 ⟨rfl, hb3⟩))
        have hb4 : Below W.heap.size W w3 := hop (below_drewN hb 1) h0 hb3
        clear hb3
        go_wp2
        go_round
        case rel => exact ⟨j + 1, _, by omega, by go_num, rfl, Lib.hid E.out, by rw [E.out]; exact HS2.out, hb4⟩
        case measure => simp [intOf]; omega
      · have z1 : (0 : Int) < (j : Int) := by omega
        have z2 : 0 < j := by omega
        have E := Lib.hid (show t ++ (⟨#[32]⟩ : ByteArray) ++ p1 ++ (⟨#[61]⟩ : ByteArray) ++ x = lineTo ps (j + 1) from by rw [HNX.out, if_neg hj0])
        have s0 : ¬ 9223372036854775807 < t.size + (⟨#[32]⟩ : ByteArray).size := by rw [two]; omega
        have s00 : ¬ 9223372036854775807 < t.size + 1 := by omega
        have s1 : ¬ 9223372036854775807 < (t ++ (⟨#[32]⟩ : ByteArray)).size + p1.size := by rw [ByteArray.size_append, two]; omega
        have s2 : ¬ 9223372036854775807 < (t ++ (⟨#[32]⟩ : ByteArray) ++ p1).size + (⟨#[61]⟩ : ByteArray).size := by rw [ByteArray.size_append, ByteArray.size_append, one, two]; omega
        have s3 : ¬ 9223372036854775807 < (t ++ (⟨#[32]⟩ : ByteArray) ++ p1 ++ (⟨#[61]⟩ : ByteArray)).size + x.size := by rw [ByteArray.size_append, ByteArray.size_append, ByteArray.size_append, one, two]; omega
        have s4 : ¬ 9223372036854775807 < (t ++ (⟨#[32]⟩ : ByteArray) ++ p1).size + 1 := by rw [ByteArray.size_append, ByteArray.size_append, two]; omega
        have t1 : ¬ 9223372036854775807 < t.size + p1.size + 1 := by omega
        have t2 : ¬ 9223372036854775807 < t.size + p1.size + 1 + x.size := by omega
        have t3 : ¬ 9223372036854775807 < t.size + 1 + p1.size := by omega
        have t4 : ¬ 9223372036854775807 < t.size + 1 + p1.size + 1 := by omega
        have t5 : ¬ 9223372036854775807 < t.size + 1 + p1.size + 1 + x.size := by omega
        clear hj0 one two
        go_wp2
        go_region_held3 (fun w' => w'.cell? ⟨b1, o1 + j * 2, none⟩ = some (.string p1) ∧ w'.cell? ⟨b1, o1 + j * 2 + 1, none⟩ = some (.string p2)) (first | go_keep | (rw [hb3.cell (by simpa using hlt1), hb3.cell (by simpa using hlt1)]; exact ⟨c1, c2⟩))
          (first | (go_at_call 35; refine (PT.out _).mono ?_; rintro e w3 ⟨rfl, hb3⟩))
        have hb4 : Below W.heap.size W w3 := hop (below_drewN hb 1) h0 hb3
        clear hb3
        go_wp2
        go_round
        case rel => exact ⟨j + 1, _, by omega, by go_num, rfl, Lib.hid E.out, by rw [E.out]; exact HS2.out, hb4⟩
        case measure => simp [intOf]; omega
    · obtain rfl : j = n := by omega
      have E := Lib.hid (show t = lineT ps from by rw [HT.out, ← HL.out, lineTo_all])
      go_wp2
      go_ret
      exact ⟨by rw [← E.out]; rfl, hb⟩
end Go.Proofs.Ytimmfmgnjpcdoaa
