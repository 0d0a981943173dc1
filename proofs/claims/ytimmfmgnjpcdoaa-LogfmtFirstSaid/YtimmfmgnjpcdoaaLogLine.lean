/- A line of fields, some of which are none, as the laws make it: the walk of line. -/
import Derived.Test.YtimmfmgnjpcdoaaLabTags
namespace Go.Proofs.Ytimmfmgnjpcdoaa
open Go.RowKit
set_option linter.unusedVariables false
set_option linter.unusedSimpArgs false

def linePs : List ByteArray := [⟨#[97, 112, 112, 61, 97]⟩, ⟨#[108, 118, 108, 61, 98]⟩, ⟨#[110, 61, 55]⟩, ⟨#[100, 117, 114, 61, 53, 109]⟩, ⟨#[32]⟩, ⟨#[61]⟩, ⟨#[34]⟩, ⟨#[97]⟩, ⟨#[120, 61, 34, 113, 32, 114, 34]⟩, ⟨#[120, 61, 34]⟩, ⟨#[57, 61, 49]⟩, ⟨#[95, 98, 61]⟩, ⟨#[9]⟩, ⟨#[92]⟩, ⟨#[115, 105, 122, 101, 61, 50, 75, 66]⟩, ⟨#[110, 61, 56]⟩, ⟨#[61, 61]⟩]
theorem linePs_small : ∀ j, j < 17 → (linePs.getD j .empty).size ≤ 8 := by decide
/-- the line that these bytes make, the first i of them -/
def lineS (zs : List Int) : Nat → ByteArray
  | 0 => .empty
  | i + 1 => if (zs.getD i 0).toNat < 170 then lineS zs i ++ linePs.getD ((zs.getD i 0).toNat % 17) .empty ++ ⟨#[32]⟩ else lineS zs i ++ linePs.getD ((zs.getD i 0).toNat % 17) .empty
theorem lineS_size (zs : List Int) : ∀ i, (lineS zs i).size ≤ 9 * i
  | 0 => Nat.le_refl _
  | i + 1 => by
    have h := lineS_size zs i
    have h1 := linePs_small ((zs.getD i 0).toNat % 17) (Nat.mod_lt _ (by decide))
    have h2 : (⟨#[32]⟩ : ByteArray).size = 1 := rfl
    unfold lineS
    split
    · rw [ByteArray.size_append, ByteArray.size_append, h2]
      omega
    · rw [ByteArray.size_append]
      omega
set_option maxRecDepth 100000 in
set_option maxHeartbeats 1600000 in
theorem line_any (A : Option Addr) (len c : Nat) (zs : List Int) (hl : len ≤ 9223372036854775807) (W : World) (hz : Ints .u8 W A len zs) :
    Calls Try.prog 9 #[.slice A len c] W fun e w' => e = .returned (.string (lineS zs (min len 40))) ∧ Below W.heap.size W w' := by
  have HP := Lib.hid (fun j (hj : j < 17) => show (W.alloc (.cells #[.string ⟨#[97, 112, 112, 61, 97]⟩, .string ⟨#[108, 118, 108, 61, 98]⟩, .string ⟨#[110, 61, 55]⟩, .string ⟨#[100, 117, 114, 61, 53, 109]⟩, .string ⟨#[32]⟩, .string ⟨#[61]⟩, .string ⟨#[34]⟩, .string ⟨#[97]⟩, .string ⟨#[120, 61, 34, 113, 32, 114, 34]⟩, .string ⟨#[120, 61, 34]⟩, .string ⟨#[57, 61, 49]⟩, .string ⟨#[95, 98, 61]⟩, .string ⟨#[9]⟩, .string ⟨#[92]⟩, .string ⟨#[115, 105, 122, 101, 61, 50, 75, 66]⟩, .string ⟨#[110, 61, 56]⟩, .string ⟨#[61, 61]⟩] 9)).cell? ⟨W.heap.size, j, none⟩ = some (.string (linePs.getD j .empty)) from tlit W linePs W.heap.size rfl j hj)
  have HB := Lib.hid (show Below W.heap.size W (W.alloc (.cells #[.string ⟨#[97, 112, 112, 61, 97]⟩, .string ⟨#[108, 118, 108, 61, 98]⟩, .string ⟨#[110, 61, 55]⟩, .string ⟨#[100, 117, 114, 61, 53, 109]⟩, .string ⟨#[32]⟩, .string ⟨#[61]⟩, .string ⟨#[34]⟩, .string ⟨#[97]⟩, .string ⟨#[120, 61, 34, 113, 32, 114, 34]⟩, .string ⟨#[120, 61, 34]⟩, .string ⟨#[57, 61, 49]⟩, .string ⟨#[95, 98, 61]⟩, .string ⟨#[9]⟩, .string ⟨#[92]⟩, .string ⟨#[115, 105, 122, 101, 61, 50, 75, 66]⟩, .string ⟨#[110, 61, 56]⟩, .string ⟨#[61, 61]⟩] 9)) from (Below.refl _ _).alloc (Nat.le_refl _) _)
  have HZ := Lib.hid (hz.below HB.out)
  clear hz
  go_enter Try.func9, Try.ntmps9
  go_wp2
  obtain ⟨g, hg⟩ : ∃ g, W.heap.size = g := ⟨_, rfl⟩
  obtain ⟨w1, hw1⟩ : ∃ z, W.alloc (.cells #[.string ⟨#[97, 112, 112, 61, 97]⟩, .string ⟨#[108, 118, 108, 61, 98]⟩, .string ⟨#[110, 61, 55]⟩, .string ⟨#[100, 117, 114, 61, 53, 109]⟩, .string ⟨#[32]⟩, .string ⟨#[61]⟩, .string ⟨#[34]⟩, .string ⟨#[97]⟩, .string ⟨#[120, 61, 34, 113, 32, 114, 34]⟩, .string ⟨#[120, 61, 34]⟩, .string ⟨#[57, 61, 49]⟩, .string ⟨#[95, 98, 61]⟩, .string ⟨#[9]⟩, .string ⟨#[92]⟩, .string ⟨#[115, 105, 122, 101, 61, 50, 75, 66]⟩, .string ⟨#[110, 61, 56]⟩, .string ⟨#[61, 61]⟩] 9) = z := ⟨_, rfl⟩
  have HG := Lib.hid hg
  replace HP := HP.out
  replace HB := HB.out
  replace HZ := HZ.out
  simp only [hw1, hg] at HP
  rw [hw1] at HB HZ ⊢
  rw [hg]
  replace HP := Lib.hid HP
  replace HB := Lib.hid HB
  replace HZ := Lib.hid HZ
  clear hw1 hg
  go_loopw [4, 5] (fun sv iv wr => ∃ (i : Nat) (t : ByteArray), i ≤ 40 ∧ i ≤ len ∧ iv = .int .i64 i ∧ sv = .string t ∧ t.size ≤ 9 * i ∧ Hid (t = lineS zs i) ∧ w1 = wr) (fun _ iv _ => 40 - (intOf iv).toNat)
  case atStart => exact ⟨0, .empty, by omega, Nat.zero_le _, rfl, rfl, by decide, Lib.hid rfl, by first | rfl | trivial⟩
  case round =>
    obtain ⟨j, t, hj6, hjl, rfl, rfl, hts, HT, rfl⟩ := hrel
    by_cases hgo : j < len ∧ j < 40
    · obtain ⟨g1, g2⟩ := hgo
      have hzz := HZ.out
      obtain ⟨bb, off, rfl, hlt, hc⟩ := hzz.2.2 (by omega)
      have c0 := hc j g1
      have hwf := hzz.2.1 (zs.getD j 0) (by
        rw [List.getD_eq_getElem?_getD, List.getElem?_eq_getElem (by rw [hzz.1]; exact g1)]
        exact List.getElem_mem _)
      obtain ⟨x0, x1⟩ := bdu8 hwf
      obtain ⟨x, hx⟩ : ∃ x : Nat, zs.getD j 0 = (x : Int) := ⟨(zs.getD j 0).toNat, by omega⟩
      have HNX := Lib.hid (show lineS zs (j + 1) = if x < 170 then t ++ linePs.getD (x % 17) .empty ++ ⟨#[32]⟩ else t ++ linePs.getD (x % 17) .empty from by
        rw [lineS, hx, Int.toNat_natCast, HT.out])
      rw [hx] at c0 x1
      have jI : (j : Int) < (len : Int) := by omega
      have j6 : (j : Int) < 40 := by omega
      obtain ⟨r, hr⟩ : ∃ r, x % 17 = r := ⟨_, rfl⟩
      have hr17 : r < 17 := by omega
      have i1 : (x : Int) % 17 = (r : Int) := by omega
      have i2 : (x : Int).tmod 17 = (r : Int) := by rw [Int.tmod_eq_emod_of_nonneg (by omega)]; exact i1
      have hw1 : IntKind.u8.wrap (r : Int) = (r : Int) := by rw [IntKind.wrap_u8]; omega
      have hrI : (r : Int) < 17 := by omega
      have cp := HP.out r hr17
      have hps := linePs_small r hr17
      replace HNX := HNX.out
      rw [hr] at HNX
      obtain ⟨p, hp⟩ : ∃ p, linePs.getD r .empty = p := ⟨_, rfl⟩
      rw [hp] at cp hps HNX
      replace HNX := Lib.hid HNX
      have sp : (⟨#[32]⟩ : ByteArray).size = 1 := rfl
      have s2 : ¬ 9223372036854775807 < t.size + p.size := by omega
      have s3 : ¬ 9223372036854775807 < t.size + p.size + 1 := by omega
      have s4 : ¬ 9223372036854775807 < (t ++ p).size + (⟨#[32]⟩ : ByteArray).size := by rw [ByteArray.size_append, sp]; omega
      have s5 : ¬ 9223372036854775807 < (t ++ p).size + 1 := by rw [ByteArray.size_append]; omega
      have z1 : (t ++ p).size ≤ 9 * (j + 1) := by rw [ByteArray.size_append]; omega
      have z2 : (t ++ p ++ (⟨#[32]⟩ : ByteArray)).size ≤ 9 * (j + 1) := by rw [ByteArray.size_append, ByteArray.size_append, sp]; omega
      have Z1 := Lib.hid z1
      have Z2 := Lib.hid z2
      clear hc hzz hwf hx hr hp sp z1 z2
      by_cases h170 : x < 170
      · have hI : (x : Int) < 170 := by omega
        have HE := Lib.hid (show t ++ p ++ ⟨#[32]⟩ = lineS zs (j + 1) by rw [HNX.out, if_pos h170])
        go_wp2_with fail
        go_round
        case rel => exact ⟨j + 1, _, by omega, by omega, by go_num, rfl, Z2.out, HE, by first | rfl | trivial⟩
        case measure => simp [intOf]; omega
      · have hI : ¬ (x : Int) < 170 := by omega
        have HE := Lib.hid (show t ++ p = lineS zs (j + 1) by rw [HNX.out, if_neg h170])
        go_wp2_with fail
        go_round
        case rel => exact ⟨j + 1, _, by omega, by omega, by go_num, rfl, Z1.out, HE, by first | rfl | trivial⟩
        case measure => simp [intOf]; omega
    · have hends : ((¬ (j : Int) < (len : Int)) ∨ ((j : Int) < (len : Int) ∧ ¬ (j : Int) < 40)) ∧ j = min len 40 := by omega
      have HE := Lib.hid (show t = lineS zs (min len 40) by rw [HT.out, ← hends.2])
      have hends1 := hends.1
      clear hgo hends
      rcases hends1 with e1 | ⟨e1, e2⟩
      all_goals
        go_wp2
        go_ret
        exact ⟨by rw [HE.out]; rfl, HB.out⟩
end Go.Proofs.Ytimmfmgnjpcdoaa
