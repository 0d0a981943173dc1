/- A number of at most three digits, as the law writes it; parts in their order, or not. -/
import Derived.Test.YtehhmejpfglimaaDoorUnitBackLaw
import Derived.Test.YtehhmejpfglimaaDoorRefText
namespace Go.Proofs.YtehhmejpfglimaaDoor
open Go.RowKit
set_option linter.unusedVariables false

theorem conv_digit_at (w : World) (gg : Nat) (hg : gg = w.heap.size) (r : Nat) (h : r < 10) : (convert 22 9 (.slice (some ⟨gg, 0, none⟩) 1 1)).run Tryd.prog (w.alloc (.cells #[.int .u8 (48 + (r : Int))] 5)) = .ok (.string (digT r)) (w.alloc (.cells #[.int .u8 (48 + (r : Int))] 5)) := by
  subst hg
  exact conv_digit w r h
theorem dig_one {n : Nat} (h : n < 10) : Lib.decDigits n = [UInt8.ofNat (48 + n)] := by rw [Lib.decDigits, dif_pos h]
theorem dig_more {n : Nat} (h : ¬ n < 10) : Lib.decDigits n = Lib.decDigits (n / 10) ++ [UInt8.ofNat (48 + n % 10)] := by
  conv => lhs; rw [Lib.decDigits, dif_neg h]

set_option maxRecDepth 100000 in
set_option maxHeartbeats 800000 in
theorem digits_any (n : Nat) (hn : n < 256) (W : World) :
    Calls Tryd.prog 20 #[.int .u8 (n : Int)] W fun e w' => e = .returned (.string (itoaS (n : Int))) ∧ Below W.heap.size W w' := by
  obtain ⟨r, hr⟩ : ∃ r, n % 10 = r := ⟨_, rfl⟩
  obtain ⟨q, hq⟩ : ∃ r, n / 10 % 10 = r := ⟨_, rfl⟩
  obtain ⟨p, hp⟩ : ∃ r, n / 100 = r := ⟨_, rfl⟩
  have r9 : r < 10 := by omega
  have q9 : q < 10 := by omega
  have p9 : p < 10 := by omega
  have i1 : (n : Int) % 10 = (r : Int) := by omega
  have i2 : (n : Int) / 10 = ((n / 10 : Nat) : Int) := by omega
  have i3 : ((n / 10 : Nat) : Int) % 10 = (q : Int) := by omega
  have i4 : (n : Int) / 100 = (p : Int) := by omega
  have b1 : (r : Int) < 10 := by omega
  have b2 : (q : Int) < 10 := by omega
  have b3 : (p : Int) < 10 := by omega
  have hit : Lib.itoa (n : Int) = Lib.decDigits n := by rw [itoa_pos (by omega)]; simp
  have c1 := conv_digit_at W W.heap.size rfl r r9
  have c2 := conv_digit_at (W.alloc (.cells #[.int .u8 (48 + (r : Int))] 5)) (W.heap.size + 1) (by simp) q q9
  have c3 := conv_digit_at ((W.alloc (.cells #[.int .u8 (48 + (r : Int))] 5)).alloc (.cells #[.int .u8 (48 + (q : Int))] 5)) (W.heap.size + 1 + 1) (by simp) p p9
  have s1 : ∀ k, (digT k).size = 1 := fun _ => rfl
  have g1 : (digT q).size + (digT r).size ≤ 10 := by rw [s1, s1]; decide
  have g2 : (digT p).size + (digT q ++ digT r).size ≤ 10 := by rw [ByteArray.size_append, s1, s1, s1]; decide
  have e1 : ¬ 9223372036854775807 < (digT q).size + (digT r).size := by omega
  have e2 : ¬ 9223372036854775807 < (digT p).size + ((digT q).size + (digT r).size) := by rw [s1, s1, s1]; decide
  have E1 : Hid (n < 10 → digT r = itoaS (n : Int)) := Lib.hid (fun h => text_ext1 (by rw [itoaS_list, hit, dig_one h, digT_list, ← hr, Nat.mod_eq_of_lt h]))
  have E2 : Hid (10 ≤ n → n < 100 → digT q ++ digT r = itoaS (n : Int)) := Lib.hid (fun h h2 => text_ext1 (by
    rw [text_joined, itoaS_list, hit, dig_more (by omega), dig_one (by omega), digT_list, digT_list, hr, ← hq, Nat.mod_eq_of_lt (by omega)]))
  have E3 : Hid (100 ≤ n → digT p ++ (digT q ++ digT r) = itoaS (n : Int)) := Lib.hid (fun h => text_ext1 (by
    rw [text_joined, text_joined, itoaS_list, hit, dig_more (by omega), dig_more (n := n / 10) (by omega), dig_one (n := n / 10 / 10) (by omega), digT_list, digT_list, digT_list, hr, hq, ← hp, Nat.div_div_eq_div_mul, List.append_assoc]))
  obtain ⟨n10, h10⟩ : ∃ m : Nat, n / 10 = m := ⟨_, rfl⟩
  rw [h10] at i2 i3
  obtain ⟨x, hx⟩ : ∃ x, digT r = x := ⟨_, rfl⟩
  obtain ⟨y, hy⟩ : ∃ x, digT q = x := ⟨_, rfl⟩
  obtain ⟨z, hz⟩ : ∃ x, digT p = x := ⟨_, rfl⟩
  rw [hx] at c1
  rw [hy] at c2
  rw [hz] at c3
  rw [hx, hy] at g1 e1 E2
  rw [hx, hy, hz] at g2 e2 E3
  rw [hx] at E1
  clear s1 hit hr hq hp h10 hx hy hz
  rcases (by omega : n < 10 ∨ (10 ≤ n ∧ n < 100) ∨ 100 ≤ n) with h | ⟨h, h2⟩ | h
  · have E := Lib.hid (E1.out h)
    have k1 : (n : Int) < 10 := by omega
    have k2 : (n : Int) < 100 := by omega
    clear c2 c3
    go_enter Tryd.func20, Tryd.ntmps20
    go_wp2
    go_ret
    exact ⟨ret_str E.out, (Below.refl _ _).alloc (Nat.le_refl _) _⟩
  · have E := Lib.hid (E2.out h h2)
    have k1 : (10 : Int) ≤ (n : Int) := by omega
    have k2 : (n : Int) < 100 := by omega
    clear c3
    go_enter Tryd.func20, Tryd.ntmps20
    go_wp2
    go_ret
    exact ⟨ret_str E.out, ((Below.refl _ _).alloc (Nat.le_refl _) _).alloc (by simp) _⟩
  · have E := Lib.hid (E3.out h)
    have k1 : (10 : Int) ≤ (n : Int) := by omega
    have k2 : (100 : Int) ≤ (n : Int) := by omega
    go_enter Tryd.func20, Tryd.ntmps20
    go_wp2
    go_ret
    exact ⟨ret_str E.out, (((Below.refl _ _).alloc (Nat.le_refl _) _).alloc (by simp) _).alloc (by simp; omega) _⟩

/-- one part more -/
theorem durS_part (j : Nat) (hj : j < 6) (q : Int) (q0 : 0 ≤ q) (rest : List UInt8) (hr : ∀ c r, rest = c :: r → digC c = true) (sum last : Int) (hs : 0 ≤ sum) (hb : sum + q * manyU durU j ≤ 9223372036854775807) (hq1 : q ≤ 9223372036854775807) (f : Nat) :
    durS (partS durU) (f + 1) (Lib.itoa q ++ ((durU.getD j ([], 0)).1 ++ rest)) sum last = if (j : Int) ≤ last then none else durS (partS durU) f rest (sum + q * manyU durU j) j := by
  obtain ⟨a1, a2, a3, a4⟩ := durU_facts j hj
  obtain ⟨u1, u2, u3⟩ := unit_ok j hj
  rw [← a4] at u1 u2
  obtain ⟨nm, hnm⟩ : ∃ x, (durU.getD j ([], 0)).1 = x := ⟨_, rfl⟩
  rw [hnm] at a1 a2 a3 ⊢
  have hp := partS_make durU q0 hq1 a1 a2 hr
  rw [a3, Option.map_some] at hp
  obtain ⟨m, hm⟩ : ∃ x, manyU durU j = x := ⟨_, rfl⟩
  rw [hm] at u1 u2 hb ⊢
  have hne : Lib.itoa q ++ (nm ++ rest) ≠ [] := fun h => itoa_ne _ (List.append_eq_nil_iff.1 h).1
  have hprod : 0 ≤ q * m := Int.mul_nonneg q0 (by omega)
  have ht : timesO q m = some (q * m) := by rw [timesO_eq, if_pos ⟨by omega, by omega⟩]
  have ha : stepR (· + ·) (some sum) (q * m) = some (sum + q * m) := by
    simp only [stepR, Option.bind_some]
    rw [if_pos ⟨by omega, by omega⟩]
  have hdrop : (Lib.itoa q ++ (nm ++ rest)).drop ((Lib.itoa q).length + nm.length) = rest := by
    rw [← List.append_assoc, ← List.length_append, List.drop_left' rfl]
  conv => lhs; unfold durS
  rw [if_neg hne, hp]
  simp only [Option.bind_some]
  split
  · rfl
  · rw [hm, ht]
    simp only [Option.bind_some]
    rw [ha]
    simp only [Option.bind_some]
    rw [hdrop]
theorem durS_end (f : Nat) (sum last : Int) : durS (partS durU) (f + 1) [] sum last = some sum := by unfold durS; rw [if_pos rfl]
theorem itoa_head {q : Int} (h : 0 ≤ q) (l : List UInt8) : ∀ c r, Lib.itoa q ++ l = c :: r → digC c = true := by
  intro c r e
  cases hi : Lib.itoa q with
  | nil => exact absurd hi (itoa_ne _)
  | cons a t =>
    rw [hi, List.cons_append] at e
    injection e with e _
    rw [← e]
    exact itoa_dig h a (by rw [hi]; simp)
theorem no_head : ∀ (c : UInt8) (r : List UInt8), ([] : List UInt8) = c :: r → digC c = true := fun c r h => by cases h
theorem durZ_fuel {l : List UInt8} (h : l ≠ []) {v : Option Int} (h2 : ∀ f, l.length < f + 1 → durS (partS durU) (f + 1) l 0 (-1) = v) : durZ l = v := by
  unfold durZ
  rw [if_neg h]
  exact h2 _ (Nat.lt_succ_self _)
end Go.Proofs.YtehhmejpfglimaaDoor
