-- shaken
import Derived.Test.YtbkpoimaienhpaaGreatDoorRexMath
namespace Go.Proofs.YtbkpoimaienhpaaGreatDoor
open Go.RowKit
set_option linter.unusedVariables false
set_option linter.unusedSimpArgs false
def numL : List Nat → Nat
  | [] => 0
  | b :: l => b + 256 * numL l
theorem and_byte (b m X M : Nat) (hb : b < 256) (hm : m < 256) : (b + 256 * X) &&& (m + 256 * M) = (b &&& m) + 256 * (X &&& M) := by
  have h1 : ((b + 256 * X) &&& (m + 256 * M)) / 2 ^ 8 = X &&& M := by
    rw [Nat.and_div_two_pow]
    congr 1 <;> omega
  have h2 : ((b + 256 * X) &&& (m + 256 * M)) % 2 ^ 8 = b &&& m := by
    rw [Nat.and_mod_two_pow]
    congr 1 <;> omega
  omega
def repL (m n : Nat) : Nat := numL (List.replicate n m)
theorem repL_succ (m n : Nat) : repL m (n + 1) = m + 256 * repL m n := rfl
def g1 (b : Nat) : Nat := (b / 2 &&& 85) + (b &&& 85)
def g2 (b : Nat) : Nat := (b / 4 &&& 51) + (b &&& 51)
def g3 (b : Nat) : Nat := (b / 16 + b) &&& 15
theorem half_and : ∀ b, b < 256 → ∀ t, t < 2 → (b / 2 + 128 * t) &&& 85 = b / 2 &&& 85 := by decide +kernel
theorem quart_and : ∀ b, b < 256 → ∀ t, t < 4 → (b / 4 + 64 * t) &&& 51 = b / 4 &&& 51 := by decide +kernel
theorem g12_small : ∀ b, b < 256 → g1 b < 256 ∧ g2 b < 256 ∧ g3 (g2 (g1 b)) = manyN b 8 ∧ manyN b 8 ≤ 8 ∧ g2 (g1 b) % 16 ≤ 4 ∧ g2 (g1 b) / 16 ≤ 4 := by decide +kernel
theorem step1 : ∀ l : List Nat, (∀ b ∈ l, b < 256) → ((numL l / 2) &&& repL 85 l.length) + (numL l &&& repL 85 l.length) = numL (l.map g1)
  | [], _ => rfl
  | b :: l, h => by
    have hb := h b List.mem_cons_self
    have ih := step1 l (fun x hx => h x (List.mem_cons_of_mem _ hx))
    rw [List.length_cons, repL_succ, List.map_cons]
    show ((b + 256 * numL l) / 2 &&& _) + ((b + 256 * numL l) &&& _) = g1 b + 256 * numL (l.map g1)
    rw [show (b + 256 * numL l) / 2 = (b / 2 + 128 * (numL l % 2)) + 256 * (numL l / 2) by omega, and_byte _ _ _ _ (by omega) (by decide), and_byte _ _ _ _ hb (by decide), half_and b hb _ (Nat.mod_lt _ (by decide)), ← ih]
    unfold g1
    omega
theorem step2 : ∀ l : List Nat, (∀ b ∈ l, b < 256) → ((numL l / 4) &&& repL 51 l.length) + (numL l &&& repL 51 l.length) = numL (l.map g2)
  | [], _ => rfl
  | b :: l, h => by
    have hb := h b List.mem_cons_self
    have ih := step2 l (fun x hx => h x (List.mem_cons_of_mem _ hx))
    rw [List.length_cons, repL_succ, List.map_cons]
    show ((b + 256 * numL l) / 4 &&& _) + ((b + 256 * numL l) &&& _) = g2 b + 256 * numL (l.map g2)
    rw [show (b + 256 * numL l) / 4 = (b / 4 + 64 * (numL l % 4)) + 256 * (numL l / 4) by omega, and_byte _ _ _ _ (by omega) (by decide), and_byte _ _ _ _ hb (by decide), quart_and b hb _ (Nat.mod_lt _ (by decide)), ← ih]
    unfold g2
    omega
theorem low15 : ∀ c, c < 256 → ∀ t, t < 8 → (c + 16 * t) % 256 &&& 15 = c &&& 15 := by decide +kernel
theorem numL_mod16 (l : List Nat) (h : ∀ b ∈ l, b % 16 ≤ 4) : numL l % 16 ≤ 4 := by
  cases l with
  | nil => decide
  | cons b l =>
    have := h b List.mem_cons_self
    show (b + 256 * numL l) % 16 ≤ 4
    omega
theorem step3 : ∀ l : List Nat, (∀ b ∈ l, b % 16 ≤ 4 ∧ b / 16 ≤ 4) → ((numL l / 16 + numL l) &&& repL 15 l.length) = numL (l.map g3)
  | [], _ => rfl
  | b :: l, h => by
    obtain ⟨hb, hb2⟩ := h b List.mem_cons_self
    have ih := step3 l (fun x hx => h x (List.mem_cons_of_mem _ hx))
    have hm := numL_mod16 l (fun x hx => (h x (List.mem_cons_of_mem _ hx)).1)
    rw [List.length_cons, repL_succ, List.map_cons]
    show ((b + 256 * numL l) / 16 + (b + 256 * numL l) &&& _) = g3 b + 256 * numL (l.map g3)
    have e := low15 (b / 16 + b) (by omega) (numL l % 16) (by omega)
    rw [Nat.mod_eq_of_lt (show b / 16 + b + 16 * (numL l % 16) < 256 by omega)] at e
    rw [show (b + 256 * numL l) / 16 + (b + 256 * numL l) = (b / 16 + b + 16 * (numL l % 16)) + 256 * (numL l / 16 + numL l) by omega, and_byte _ _ _ _ (by omega) (by decide), ih, e]
    rfl
theorem many_add (S a : Nat) : ∀ n, manyN S (a + n) = manyN S a + manyN (S >>> a) n
  | 0 => rfl
  | n + 1 => by
    show manyN S (a + n) + (S.testBit (a + n)).toNat = manyN S a + (manyN (S >>> a) n + ((S >>> a).testBit n).toNat)
    rw [many_add S a n, Nat.testBit_shiftRight]
    omega
theorem many_ext (S T : Nat) : ∀ n, (∀ j, j < n → S.testBit j = T.testBit j) → manyN S n = manyN T n
  | 0, _ => rfl
  | n + 1, h => by
    show manyN S n + _ = manyN T n + _
    rw [many_ext S T n (fun j hj => h j (by omega)), h n (by omega)]
theorem many_byte (b X n : Nat) (hb : b < 256) : manyN (b + 256 * X) (8 + n) = manyN b 8 + manyN X n := by
  rw [many_add]
  congr 1
  · refine many_ext _ _ 8 (fun j hj => ?_)
    have h : (b + 256 * X) % 2 ^ 8 = b := by omega
    have h2 := Nat.testBit_mod_two_pow (b + 256 * X) 8 j
    rw [h, decide_eq_true hj, Bool.true_and] at h2
    exact h2.symm
  · rw [Nat.shiftRight_eq_div_pow, show (b + 256 * X) / 2 ^ 8 = X by omega]
theorem many_numL : ∀ l : List Nat, (∀ b ∈ l, b < 256) → manyN (numL l) (8 * l.length) = (l.map fun b => manyN b 8).sum
  | [], _ => rfl
  | b :: l, h => by
    rw [List.map_cons, List.sum_cons, ← many_numL l (fun x hx => h x (List.mem_cons_of_mem _ hx)), List.length_cons, show 8 * (l.length + 1) = 8 + 8 * l.length by omega]
    exact many_byte _ _ _ (h b List.mem_cons_self)
def toL (x : Nat) : Nat → List Nat
  | 0 => []
  | n + 1 => x % 256 :: toL (x / 256) n
theorem toL_len (x n : Nat) : (toL x n).length = n := by
  induction n generalizing x with
  | zero => rfl
  | succ n ih => show (toL (x / 256) n).length + 1 = n + 1; rw [ih]
theorem toL_lt (x n : Nat) : ∀ b ∈ toL x n, b < 256 := by
  induction n generalizing x with
  | zero => intro b hb; simp [toL] at hb
  | succ n ih =>
    intro b hb
    rcases List.mem_cons.1 hb with h | h
    · rw [h]; exact Nat.mod_lt _ (by decide)
    · exact ih _ _ h
theorem numL_toL (x : Nat) : ∀ n, x < 256 ^ n → numL (toL x n) = x := by
  intro n
  induction n generalizing x with
  | zero => intro h; simp at h; subst h; rfl
  | succ n ih =>
    intro h
    show x % 256 + 256 * numL (toL (x / 256) n) = x
    rw [ih (x / 256) (by rw [Nat.pow_succ] at h; omega)]
    omega
theorem numL_lt (l : List Nat) (k : Nat) (hk : k ≤ 256) (h : ∀ b ∈ l, b < k) : numL l < 256 ^ l.length := by
  induction l with
  | nil => decide
  | cons b l ih =>
    have h1 := h b List.mem_cons_self
    have h2 := ih (fun x hx => h x (List.mem_cons_of_mem _ hx))
    show b + 256 * numL l < 256 ^ (l.length + 1)
    rw [Nat.pow_succ]
    omega
theorem list8 (l : List Nat) (h : l.length = 8) : ∃ a b c d e f g i, l = [a, b, c, d, e, f, g, i] := by
  match l, h with
  | [a, b, c, d, e, f, g, i], _ => exact ⟨a, b, c, d, e, f, g, i, rfl⟩
set_option maxHeartbeats 1000000 in
theorem ones64 (x : Nat) (hx : x < 18446744073709551616) : ∃ x1 x2 x3 : Nat,
    (x / 2 &&& 6148914691236517205) + (x &&& 6148914691236517205) = x1 ∧ x1 < 18446744073709551616 ∧
    (x1 / 4 &&& 3689348814741910323) + (x1 &&& 3689348814741910323) = x2 ∧ x2 < 9223372036854775808 ∧
    ((x2 / 16 + x2) &&& 1085102592571150095) = x3 ∧ x3 < 1157442765409226769 ∧
    ((x3 + x3 / 256 + (x3 + x3 / 256) / 65536) + (x3 + x3 / 256 + (x3 + x3 / 256) / 65536) / 4294967296) % 128 = manyN x 64 := by
  have hl := toL_len x 8
  have hb := toL_lt x 8
  have hn := numL_toL x 8 hx
  obtain ⟨l, hll⟩ : ∃ l, toL x 8 = l := ⟨_, rfl⟩
  rw [hll] at hl hb hn
  have s1 := step1 l hb
  have b1 : ∀ b ∈ l.map g1, b < 256 := fun b h => by
    obtain ⟨c, hc, rfl⟩ := List.mem_map.1 h
    exact (g12_small c (hb c hc)).1
  have s2 := step2 (l.map g1) b1
  have b2 : ∀ b ∈ (l.map g1).map g2, b % 16 ≤ 4 ∧ b / 16 ≤ 4 := fun b h => by
    obtain ⟨c, hc, rfl⟩ := List.mem_map.1 h
    obtain ⟨d, hd, rfl⟩ := List.mem_map.1 hc
    exact (g12_small d (hb d hd)).2.2.2.2
  have s3 := step3 ((l.map g1).map g2) b2
  have b3 : ((l.map g1).map g2).map g3 = l.map fun b => manyN b 8 := by
    rw [List.map_map, List.map_map]
    apply List.map_congr_left
    intro b h
    exact (g12_small b (hb b h)).2.2.1
  rw [b3] at s3
  have hm := many_numL l hb
  have h8 : ∀ b ∈ (l.map fun b => manyN b 8), b < 9 := fun b h => by
    obtain ⟨c, hc, rfl⟩ := List.mem_map.1 h
    have := (g12_small c (hb c hc)).2.2.2.1
    omega
  have l1 := numL_lt (l.map g1) 256 (by decide) b1
  obtain ⟨m, hmm⟩ : ∃ m, (l.map fun b => manyN b 8) = m := ⟨_, rfl⟩
  have hml : m.length = 8 := by rw [← hmm, List.length_map, hl]
  rw [hmm] at s3 hm h8
  rw [List.length_map, hl] at s2
  rw [List.length_map, List.length_map, hl] at s3
  rw [hl] at s1 hm
  rw [show 8 * 8 = 64 by decide] at hm
  rw [List.length_map, hl, show 256 ^ 8 = 18446744073709551616 by decide] at l1
  rw [hn] at s1 hm
  rw [show repL 85 8 = 6148914691236517205 by decide] at s1
  rw [show repL 51 8 = 3689348814741910323 by decide] at s2
  rw [show repL 15 8 = 1085102592571150095 by decide] at s3
  obtain ⟨p, hp⟩ : ∃ p, (l.map g1).map g2 = p := ⟨_, rfl⟩
  have hpl : p.length = 8 := by rw [← hp, List.length_map, List.length_map, hl]
  rw [hp] at b2 s3 s2
  refine ⟨numL (l.map g1), numL p, numL m, s1, l1, s2, ?_, s3, ?_, ?_⟩
  · obtain ⟨a, b, c, d, e, f, g, i, rfl⟩ := list8 p hpl
    have k1 := b2 a (by simp)
    have k2 := b2 b (by simp)
    have k3 := b2 c (by simp)
    have k4 := b2 d (by simp)
    have k5 := b2 e (by simp)
    have k6 := b2 f (by simp)
    have k7 := b2 g (by simp)
    have k8 := b2 i (by simp)
    simp only [numL]
    omega
  · obtain ⟨a, b, c, d, e, f, g, i, rfl⟩ := list8 m hml
    have k1 := h8 a (by simp)
    have k2 := h8 b (by simp)
    have k3 := h8 c (by simp)
    have k4 := h8 d (by simp)
    have k5 := h8 e (by simp)
    have k6 := h8 f (by simp)
    have k7 := h8 g (by simp)
    have k8 := h8 i (by simp)
    simp only [numL]
    omega
  · obtain ⟨a, b, c, d, e, f, g, i, rfl⟩ := list8 m hml
    have k1 := h8 a (by simp)
    have k2 := h8 b (by simp)
    have k3 := h8 c (by simp)
    have k4 := h8 d (by simp)
    have k5 := h8 e (by simp)
    have k6 := h8 f (by simp)
    have k7 := h8 g (by simp)
    have k8 := h8 i (by simp)
    rw [hm]
    obtain ⟨V7, h7⟩ : ∃ v, i = v := ⟨_, rfl⟩
    obtain ⟨V6, h6⟩ : ∃ v, g + 256 * V7 = v := ⟨_, rfl⟩
    obtain ⟨V5, h5⟩ : ∃ v, f + 256 * V6 = v := ⟨_, rfl⟩
    obtain ⟨V4, h4⟩ : ∃ v, e + 256 * V5 = v := ⟨_, rfl⟩
    obtain ⟨V3, h3⟩ : ∃ v, d + 256 * V4 = v := ⟨_, rfl⟩
    obtain ⟨V2, h2⟩ : ∃ v, c + 256 * V3 = v := ⟨_, rfl⟩
    obtain ⟨V1, h1⟩ : ∃ v, b + 256 * V2 = v := ⟨_, rfl⟩
    obtain ⟨V0, h0⟩ : ∃ v, a + 256 * V1 = v := ⟨_, rfl⟩
    have e0 : numL [a, b, c, d, e, f, g, i] = V0 := by simp only [numL]; omega
    rw [e0]
    have e1 : V0 / 256 = V1 := by omega
    rw [e1]
    have e2 : (V0 + V1) / 65536 = V2 + V3 := by omega
    rw [e2]
    have e3 : (V0 + V1 + (V2 + V3)) / 4294967296 = V4 + V5 + V6 + V7 := by omega
    rw [e3]
    simp only [List.sum_cons, List.sum_nil]
    omega
end Go.Proofs.YtbkpoimaienhpaaGreatDoor
