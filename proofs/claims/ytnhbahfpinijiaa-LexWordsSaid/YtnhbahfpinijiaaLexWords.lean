/- A text of words, some of which are none: short. -/
import Derived.Test.YtnhbahfpinijiaaLexExam
namespace Go.Proofs.Ytnhbahfpinijiaa
open Go.RowKit
set_option linter.unusedVariables false

def partsT : List ByteArray := [⟨#[123]⟩, ⟨#[125]⟩, ⟨#[44]⟩, ⟨#[61]⟩, ⟨#[33, 61]⟩, ⟨#[61, 126]⟩, ⟨#[33, 126]⟩, ⟨#[124, 61]⟩, ⟨#[124, 126]⟩, ⟨#[124]⟩, ⟨#[61, 61]⟩, ⟨#[62]⟩, ⟨#[62, 61]⟩, ⟨#[60]⟩, ⟨#[60, 61]⟩, ⟨#[97, 112, 112]⟩, ⟨#[108, 118, 108]⟩, ⟨#[108, 111, 103, 102, 109, 116]⟩, ⟨#[34, 97, 34]⟩, ⟨#[34, 120, 42, 34]⟩, ⟨#[53]⟩, ⟨#[53, 109]⟩, ⟨#[50, 75, 66]⟩, ⟨#[45, 55]⟩, ⟨#[32]⟩, ⟨#[10]⟩, ⟨#[34]⟩, ⟨#[92]⟩, ⟨#[59]⟩, ⟨#[45]⟩, ⟨#[95, 97, 57]⟩, ⟨#[48, 120]⟩]
theorem part_size (i : Nat) : (partsT.getD i .empty).size ≤ 6 := by
  rcases Nat.lt_or_ge i 32 with h | h
  · have h2 : ∀ j : Fin 32, (partsT.getD j.1 .empty).size ≤ 6 := by decide
    exact h2 ⟨i, h⟩
  · rw [List.getD_eq_getElem?_getD, List.getElem?_eq_none h]
    decide
set_option maxRecDepth 100000 in
set_option maxHeartbeats 800000 in
theorem words_any (A : Option Addr) (n c : Nat) (zs : List Int) (hn : n ≤ 9223372036854775807) (W : World) (h1 : Ints .u8 W A n zs) :
    Calls Try.prog 9 #[.slice A n c] W fun e w' => ∃ s : ByteArray, e = .returned (.string s) ∧ s.size ≤ 240 ∧ Below W.heap.size W w' := by
  have hb0 : Below W.heap.size W (W.alloc (.cells (partsT.map Value.string).toArray 9)) := (Below.refl _ _).alloc (Nat.le_refl _) _
  have B0 : ∀ i, i < 32 → (W.alloc (.cells (partsT.map Value.string).toArray 9)).cell? ⟨W.heap.size, i, none⟩ = some (.string (partsT.getD i .empty)) := fun i hi => by
    rw [(Blk.new W 9 (partsT.map Value.string).toArray).cell i, List.getElem?_toArray, List.getElem?_map, List.getElem?_eq_getElem hi, List.getD_eq_getElem?_getD, List.getElem?_eq_getElem hi]
    rfl
  have H1 := Lib.hid (h1.below hb0)
  have HL := h1.1
  have HW := Lib.hid h1.2.1
  clear h1
  go_enter Try.func9, Try.ntmps9
  go_wp2
  obtain ⟨w0, hw0⟩ : ∃ w, W.alloc (.cells (partsT.map Value.string).toArray 9) = w := ⟨_, rfl⟩
  have e0 : (W.alloc (.cells (partsT.map Value.string).toArray 9)) = W.alloc (Obj.cells #[Value.string ⟨#[123]⟩, .string ⟨#[125]⟩, .string ⟨#[44]⟩, .string ⟨#[61]⟩, .string ⟨#[33, 61]⟩, .string ⟨#[61, 126]⟩, .string ⟨#[33, 126]⟩, .string ⟨#[124, 61]⟩, .string ⟨#[124, 126]⟩, .string ⟨#[124]⟩, .string ⟨#[61, 61]⟩, .string ⟨#[62]⟩, .string ⟨#[62, 61]⟩, .string ⟨#[60]⟩, .string ⟨#[60, 61]⟩, .string ⟨#[97, 112, 112]⟩, .string ⟨#[108, 118, 108]⟩, .string ⟨#[108, 111, 103, 102, 109, 116]⟩, .string ⟨#[34, 97, 34]⟩, .string ⟨#[34, 120, 42, 34]⟩, .string ⟨#[53]⟩, .string ⟨#[53, 109]⟩, .string ⟨#[50, 75, 66]⟩, .string ⟨#[45, 55]⟩, .string ⟨#[32]⟩, .string ⟨#[10]⟩, .string ⟨#[34]⟩, .string ⟨#[92]⟩, .string ⟨#[59]⟩, .string ⟨#[45]⟩, .string ⟨#[95, 97, 57]⟩, .string ⟨#[48, 120]⟩] 9) := rfl
  rw [hw0] at H1 B0 hb0 e0
  rw [← e0]
  have HB0 := Lib.hid hb0
  have HC := Lib.hid B0
  clear hw0 e0 hb0 B0
  go_loopw [4, 5] (fun sv iv wr => ∃ (j : Nat) (s : ByteArray), j ≤ n ∧ j ≤ 40 ∧ s.size ≤ 6 * j ∧ sv = .string s ∧ iv = .int .i64 j ∧ ∃ q, wr = w0.drewN q) (fun _ iv _ => 40 - (intOf iv).toNat)
  case atStart => exact ⟨0, ⟨#[]⟩, Nat.zero_le _, Nat.zero_le _, Nat.le_refl _, rfl, rfl, 0, rfl⟩
  case round =>
    obtain ⟨j, s, hj, hj40, hsz, rfl, rfl, q, rfl⟩ := hrel
    by_cases hlt : j < n ∧ j < 40
    · obtain ⟨g1, g2⟩ := hlt
      have g1I : (j : Int) < (n : Int) := by omega
      have g2I : (j : Int) < 40 := by omega
      obtain ⟨b1, o1, rfl, hlt1, hc1⟩ := H1.out.2.2 (by omega)
      have cj : (w0.drewN q).cell? ⟨b1, o1 + j, none⟩ = _ := hc1 j g1
      obtain ⟨z0, z1⟩ := bdu8 (HW.out (zs.getD j 0) (by
        rw [List.getD_eq_getElem?_getD, List.getElem?_eq_getElem (by omega)]
        exact List.getElem_mem _))
      obtain ⟨z, hz⟩ : ∃ z, zs.getD j 0 = z := ⟨_, rfl⟩
      rw [hz] at cj z0 z1
      obtain ⟨i, hi, hmod, hmod2⟩ : ∃ i : Nat, i < 32 ∧ (z < 220 → (z % 26) % 32 = (i : Int)) ∧ (¬ z < 220 → z % 32 = (i : Int)) := by
        by_cases h : z < 220
        · exact ⟨((z % 26) % 32).toNat, by omega, fun _ => by omega, fun h2 => absurd h h2⟩
        · exact ⟨(z % 32).toNat, by omega, fun h2 => absurd h2 h, fun _ => by omega⟩
      have hcell : (w0.drewN q).cell? ⟨W.heap.size, i, none⟩ = _ := HC.out i hi
      have hps := part_size i
      obtain ⟨p, hp⟩ : ∃ p, partsT.getD i .empty = p := ⟨_, rfl⟩
      rw [hp] at hcell hps
      have hov : s.size + p.size ≤ 9223372036854775806 := by omega
      have hsz2 : (s ++ p).size ≤ 6 * (j + 1) := by rw [ByteArray.size_append]; omega
      have HS2 := Lib.hid hsz2
      have iI : (i : Int) < 32 := by omega
      clear hz hp hc1 hsz2
      by_cases h220 : z < 220
      · have hm : z % 26 % 32 = (i : Int) := hmod h220
        have hm0 : 0 ≤ z % 26 := by omega
        have hm1 : z % 26 < 26 := by omega
        clear hmod hmod2
        go_wp2
        go_round
        case rel => exact ⟨j + 1, _, g1, g2, HS2.out, rfl, by go_num, q, rfl⟩
        case measure => simp [intOf]; omega
      · have hm : z % 32 = (i : Int) := hmod2 h220
        clear hmod hmod2
        go_wp2
        go_round
        case rel => exact ⟨j + 1, _, g1, g2, HS2.out, rfl, by go_num, q, rfl⟩
        case measure => simp [intOf]; omega
    · rcases (by omega : j = n ∨ (j = 40 ∧ 40 < n)) with rfl | ⟨rfl, h40⟩
      · go_wp2
        go_ret
        exact ⟨s, rfl, by omega, below_drewN HB0.out q⟩
      · have hI : (40 : Int) < (n : Int) := by omega
        go_wp2
        go_ret
        exact ⟨s, rfl, by omega, below_drewN HB0.out q⟩
end Go.Proofs.Ytnhbahfpinijiaa
