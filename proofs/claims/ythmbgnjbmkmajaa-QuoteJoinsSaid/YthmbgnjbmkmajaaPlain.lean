/- The walk of the law QuotePlain: what is put has bytes from 32 to 126 alone, begins and ends with a quote, and is at most four times as long, and two. -/
import Derived.Test.YthmbgnjbmkmajaaExam
namespace Go.Proofs.Ythmbgnjbmkmajaa
open Go.RowKit
set_option linter.unusedVariables false

theorem form_plain : ∀ b : UInt8, ∀ c ∈ formB b, 32 ≤ c.toNat ∧ c.toNat ≤ 126 := by
  have h : ∀ b : Fin 256, (formB (UInt8.ofNat b.1)).all (fun c => decide (32 ≤ c.toNat) && decide (c.toNat ≤ 126)) = true := by decide +kernel
  intro b c hc
  have h2 := h ⟨b.toNat, b.toNat_lt⟩
  simp only [UInt8.ofNat_toNat, List.all_eq_true, Bool.and_eq_true, decide_eq_true_eq] at h2
  exact h2 c hc
theorem put_plain (l : List UInt8) : ∀ c ∈ putB l, 32 ≤ c.toNat ∧ c.toNat ≤ 126 := by
  intro c hc
  simp only [putB, List.mem_cons, List.mem_append, List.mem_flatMap, List.not_mem_nil, or_false] at hc
  rcases hc with rfl | ⟨b, _, hb⟩ | rfl
  · decide
  · exact form_plain b c hb
  · decide
theorem put_len (l : List UInt8) : l.length + 2 ≤ (putB l).length ∧ (putB l).length ≤ 4 * l.length + 2 := by
  have := flat_len l
  simp only [putB, List.length_cons, List.length_append, List.length_nil]
  omega
structure PutIs (s p : ByteArray) : Prop where
  lo : s.size + 2 ≤ p.size
  hi : p.size ≤ 4 * s.size + 2
  plain : ∀ k (h : k < p.size), 32 ≤ p[k].toNat ∧ p[k].toNat ≤ 126
  first : ∀ h : 0 < p.size, p[0] = 34
  last : ∀ h : p.size - 1 < p.size, p[p.size - 1] = 34
theorem byte_get (l : List UInt8) (k : Nat) (h : k < l.length) : ((⟨l.toArray⟩ : ByteArray)[k]'(by simpa [ByteArray.size] using h)) = l[k] := rfl
theorem put_is (s : ByteArray) : PutIs s ⟨(putB s.data.toList).toArray⟩ := by
  have hl := put_len s.data.toList
  have hz : (⟨(putB s.data.toList).toArray⟩ : ByteArray).size = (putB s.data.toList).length := by simp [ByteArray.size]
  rw [size_toList] at hl
  refine ⟨by rw [hz]; omega, by rw [hz]; omega, fun k h => ?_, fun h => rfl, fun h => ?_⟩
  · have hk : k < (putB s.data.toList).length := by rw [← hz]; exact h
    exact put_plain _ _ (by rw [byte_get _ k hk]; exact List.getElem_mem hk)
  · have hk : (⟨(putB s.data.toList).toArray⟩ : ByteArray).size - 1 < (putB s.data.toList).length := by rw [hz]; omega
    rw [byte_get _ _ hk]
    have e : (putB s.data.toList)[(⟨(putB s.data.toList).toArray⟩ : ByteArray).size - 1]? = some 34 := by
      rw [hz]
      simp [putB]
    rw [List.getElem?_eq_getElem hk] at e
    exact Option.some.inj e

set_option maxHeartbeats 800000 in
theorem plain_walk (s : ByteArray) (hs : s.size ≤ 1048576) (W : World) (hm : MaxIs W) :
    Calls Try.prog 6 #[.string s] W fun e w' => e = .returned (.bool true) ∧ Below W.heap.size W w' := by
  obtain ⟨p, hp⟩ : ∃ p : ByteArray, p = ⟨(putB s.data.toList).toArray⟩ := ⟨_, rfl⟩
  have hput := fun w => put_any s (by omega) w
  have his := put_is s
  rw [← hp] at his
  simp only [← hp] at hput
  have HP := Lib.hid hput
  clear hput hp
  obtain ⟨lo, hi, plain, first, last⟩ := his
  have f1 := first (by omega)
  have f2 := last (by omega)
  have h0 : 0 < p.size := by omega
  have h1 : p.size - 1 < p.size := by omega
  obtain ⟨c0, hc0⟩ : ∃ c, p[0] = c := ⟨_, rfl⟩
  obtain ⟨c1, hc1⟩ : ∃ c, p[p.size - 1] = c := ⟨_, rfl⟩
  rw [hc0] at f1
  rw [hc1] at f2
  have g0 := byte_eq c0 34 f1
  have g1 := byte_eq c1 34 f2
  obtain ⟨g0, _⟩ := g0
  obtain ⟨g1, _⟩ := g1
  replace g0 : ((c0.toNat : Int) == 34) = true := g0
  replace g1 : ((c1.toNat : Int) == 34) = true := g1
  have PL := Lib.hid plain
  clear plain first last f1 f2
  have hi' : (p.size : Int) ≤ 4 * (s.size : Int) + 2 := by omega
  go_enter Try.func6, Try.ntmps6
  go_wp2_with fail
  refine (examples_any _ hm).mono ?_
  rintro e w1 ⟨rfl, hb1⟩
  go_wp2_with fail
  refine (HP.out _).mono ?_
  rintro e w2 ⟨rfl, hb2⟩
  have hb : Below W.heap.size W w2 := hb1.trans (hb2.mono hb1.size)
  clear hb1 hb2
  go_wp2
  go_loop [5] (fun i => ∃ k : Nat, k ≤ p.size ∧ i = .int .i64 k) (fun i => p.size - (intOf i).toNat)
  case atStart => exact ⟨0, Nat.zero_le _, rfl⟩
  case round =>
    obtain ⟨k, hk, rfl⟩ := hrel
    by_cases hkn : k < p.size
    · obtain ⟨b1, b2⟩ := PL.out k hkn
      have b1' : (32 : Int) ≤ (p[k].toNat : Int) := by omega
      have b2' : (p[k].toNat : Int) ≤ 126 := by omega
      clear b1 b2
      go_wp2
      go_round
      case rel => exact ⟨k + 1, by omega, by go_num⟩
      case measure => simp [intOf]; omega
    · obtain rfl : k = p.size := by omega
      go_wp2
      go_ret
      exact ⟨rfl, hb⟩
end Go.Proofs.Ythmbgnjbmkmajaa
