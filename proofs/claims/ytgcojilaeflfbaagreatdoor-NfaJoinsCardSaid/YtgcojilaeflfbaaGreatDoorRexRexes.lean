-- shaken
import Derived.Test.YtgcojilaeflfbaaGreatDoorRexLaws
import Derived.Test.YtgcojilaeflfbaaGreatDoorRexExam
namespace Go.Proofs.YtgcojilaeflfbaaGreatDoor
open Go.RowKit
set_option linter.unusedVariables false
set_option linter.unusedSimpArgs false
def partT : List ByteArray := [⟨#[97]⟩, ⟨#[98]⟩, ⟨#[99]⟩, ⟨#[46]⟩, ⟨#[124]⟩, ⟨#[42]⟩, ⟨#[43]⟩, ⟨#[63]⟩, ⟨#[40]⟩, ⟨#[41]⟩, ⟨#[123, 50, 125]⟩, ⟨#[123, 49, 44, 51, 125]⟩, ⟨#[123, 50, 44, 125]⟩, ⟨#[94]⟩, ⟨#[36]⟩, ⟨#[91, 97, 45, 99, 93]⟩, ⟨#[91, 94, 97, 93]⟩, ⟨#[92, 100]⟩, ⟨#[92, 119]⟩, ⟨#[92, 46]⟩, ⟨#[97, 98]⟩, ⟨#[40, 97, 124, 98, 41]⟩, ⟨#[91]⟩, ⟨#[93]⟩, ⟨#[123]⟩, ⟨#[92]⟩, ⟨#[45]⟩, ⟨#[97, 42]⟩, ⟨#[40, 97, 98, 41, 43]⟩, ⟨#[91, 92, 93, 45, 93]⟩, ⟨#[123, 51, 44, 50, 125]⟩, ⟨#[123, 50, 49, 125]⟩]
theorem partT_len : partT.length = 32 := rfl
theorem partT_size : ∀ i : Fin 32, (partT.getD i.1 .empty).size ≤ 5 := by decide
theorem partV_at (i : Nat) (h : i < 32) : (partT.map Value.string)[i]? = some (.string (partT.getD i .empty)) := by
  rw [List.getElem?_map, List.getElem?_eq_getElem (by rw [partT_len]; exact h), List.getD_eq_getElem?_getD, List.getElem?_eq_getElem (by rw [partT_len]; exact h)]
  rfl
set_option maxRecDepth 100000 in
set_option maxHeartbeats 3200000 in
theorem rexes_any {W : World} (A : Option Addr) (len c : Nat) (zs : List Int) (h1 : Ints .u8 W A len zs) (hnc : len ≤ c) (hcm : c ≤ maxLen) :
    Calls Tryz.prog 10 #[.slice A len c] W fun e w' => (∃ s : ByteArray, e = .returned (.string s) ∧ s.size ≤ 80) ∧ Below W.heap.size W w' := by
  unfold maxLen at hcm
  have HI := Lib.hid (h1.below ((Below.refl W.heap.size W).alloc (Nat.le_refl _) (.cells (partT.map Value.string).toArray 9)))
  have HB0 := Lib.hid ((Below.refl W.heap.size W).alloc (Nat.le_refl _) (.cells (partT.map Value.string).toArray 9))
  have HK0 := Lib.hid (Blk.new W 9 (partT.map Value.string).toArray)
  obtain ⟨v0, hv0⟩ : ∃ v, W.alloc (.cells (partT.map Value.string).toArray 9) = v := ⟨_, rfl⟩
  rw [hv0] at HI HB0 HK0
  have HV0 := Lib.hid hv0
  clear h1 hv0
  unfold partT at HV0
  simp only [List.map_cons, List.map_nil] at HV0
  go_enter Tryz.func10, Tryz.ntmps10
  go_wp2
  rw [HV0.out]
  go_loopw [4, 5] (fun sv iv wr => ∃ (n : Nat) (s : ByteArray), n ≤ len ∧ n ≤ 16 ∧ iv = .int .i64 n ∧ sv = .string s ∧ s.size ≤ 5 * n ∧ wr = v0) (fun _ iv _ => len - (intOf iv).toNat)
  case atStart => exact ⟨0, ⟨#[]⟩, Nat.zero_le _, Nat.zero_le _, rfl, rfl, Nat.le_refl _, rfl⟩
  case round =>
    obtain ⟨n, s, hnl, hn16, rfl, rfl, hss, rfl⟩ := hrel
    by_cases hgo : n < len ∧ n < 16
    · obtain ⟨g1, g2⟩ := hgo
      have hzz := HI.out
      obtain ⟨bb, off, rfl, hlt, hc⟩ := hzz.2.2 (by omega)
      have c0 := hc n g1
      have hwf := hzz.2.1 (zs.getD n 0) (by
        rw [List.getD_eq_getElem?_getD, List.getElem?_eq_getElem (by rw [hzz.1]; exact g1)]
        exact List.getElem_mem _)
      obtain ⟨x0, x1⟩ := bdu8 hwf
      obtain ⟨q, hq⟩ : ∃ x : Nat, zs.getD n 0 = (x : Int) := ⟨(zs.getD n 0).toNat, by omega⟩
      rw [hq] at c0 x1
      have nI : (n : Int) < (len : Int) := by omega
      have n16 : (n : Int) < 16 := by omega
      by_cases h200 : q < 200
      · have q200 : (q : Int) < 200 := by omega
        obtain ⟨r, hr⟩ : ∃ r, q % 22 = r := ⟨_, rfl⟩
        have hr22 : r < 22 := by omega
        have i1 : (q : Int) % 22 = (r : Int) := by omega
        have i2 : (q : Int).tmod 22 = (r : Int) := by rw [Int.tmod_eq_emod_of_nonneg (by omega)]; exact i1
        have hw1 : IntKind.u8.wrap (r : Int) = (r : Int) := by rw [IntKind.wrap_u8]; omega
        have i3 : (r : Int) % 32 = (r : Int) := by omega
        have i4 : (r : Int).tmod 32 = (r : Int) := by rw [Int.tmod_eq_emod_of_nonneg (by omega)]; exact i3
        have hrI : (r : Int) < 32 := by omega
        have d0 : wr.cell? ⟨W.heap.size, r, none⟩ = some (.string (partT.getD r .empty)) := (HK0.out.cell r).trans (by rw [List.getElem?_toArray]; exact partV_at r (by omega))
        have hsz := partT_size ⟨r, by omega⟩
        obtain ⟨t, ht⟩ : ∃ t, partT.getD r .empty = t := ⟨_, rfl⟩
        rw [ht] at d0
        simp only [ht] at hsz
        have s1 : ¬ 9223372036854775807 < s.size + t.size := by omega
        clear hc hzz hwf hq hr ht
        go_wp2_with fail
        go_round
        case rel => exact ⟨n + 1, _, by omega, by omega, by go_num, rfl, by rw [ByteArray.size_append]; omega, by trivial⟩
        case measure => simp [intOf]; omega
      · have q200 : ¬ (q : Int) < 200 := by omega
        obtain ⟨r, hr⟩ : ∃ r, q % 32 = r := ⟨_, rfl⟩
        have hr32 : r < 32 := by omega
        have i3 : (q : Int) % 32 = (r : Int) := by omega
        have i4 : (q : Int).tmod 32 = (r : Int) := by rw [Int.tmod_eq_emod_of_nonneg (by omega)]; exact i3
        have hw1 : IntKind.u8.wrap (r : Int) = (r : Int) := by rw [IntKind.wrap_u8]; omega
        have hrI : (r : Int) < 32 := by omega
        have d0 : wr.cell? ⟨W.heap.size, r, none⟩ = some (.string (partT.getD r .empty)) := (HK0.out.cell r).trans (by rw [List.getElem?_toArray]; exact partV_at r (by omega))
        have hsz := partT_size ⟨r, by omega⟩
        obtain ⟨t, ht⟩ : ∃ t, partT.getD r .empty = t := ⟨_, rfl⟩
        rw [ht] at d0
        simp only [ht] at hsz
        have s1 : ¬ 9223372036854775807 < s.size + t.size := by omega
        clear hc hzz hwf hq hr ht
        go_wp2_with fail
        go_round
        case rel => exact ⟨n + 1, _, by omega, by omega, by go_num, rfl, by rw [ByteArray.size_append]; omega, by trivial⟩
        case measure => simp [intOf]; omega
    · have hends : (¬ (n : Int) < (len : Int)) ∨ ((n : Int) < (len : Int) ∧ ¬ (n : Int) < 16) := by omega
      rcases hends with e1 | ⟨e1, e2⟩
      all_goals
        go_wp2
        go_ret
        exact ⟨⟨_, rfl, by omega⟩, HB0.out⟩
end Go.Proofs.YtgcojilaeflfbaaGreatDoor
