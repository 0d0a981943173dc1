/- How an expression is told; what is told is read again; what is read is in normal form; with something behind it it is read the same: pure. -/
import Derived.Test.YtgcojilaeflfbaaGreatDoorRexPure2
import Derived.Lib.ItoaNum
namespace Go.Proofs.YtgcojilaeflfbaaGreatDoor
open Go.RowKit
set_option linter.unusedVariables false
set_option linter.unusedSimpArgs false

def byteP (b : Nat) (among : List UInt8) : List UInt8 := if UInt8.ofNat b ∈ among then [92, UInt8.ofNat b] else [UInt8.ofNat b]
def spanT (p : Nat × Nat) : List UInt8 := byteP p.1 cspec ++ (if p.1 < p.2 then 45 :: byteP p.2 cspec else [])
def spansT : List (Nat × Nat) → List UInt8
  | [] => []
  | p :: l => spanT p ++ spansT l
def setT (S : Nat) : List UInt8 := if S = anyB then [46] else if manyB S = 1 then byteP (leastB S) spec else 91 :: (spansT (spansL S) ++ [93])
def timesT (mn mx : Int) : List UInt8 :=
  if mn = 0 ∧ mx = -1 then [42] else if mn = 1 ∧ mx = -1 then [43] else if mn = 0 ∧ mx = 1 then [63]
  else if mn = mx then 123 :: (Lib.itoa mn ++ [125]) else if mx = -1 then 123 :: (Lib.itoa mn ++ [44, 125]) else 123 :: (Lib.itoa mn ++ 44 :: (Lib.itoa mx ++ [125]))
def inB (b : Bool) (l : List UInt8) : List UInt8 := if b then 40 :: (l ++ [41]) else l
mutual
def putT : NodeT → List UInt8
  | .mk k s mn mx kids => if k = 1 then setT s else if k = 2 then [94] else if k = 3 then [36] else if k = 4 then catsT kids else if k = 5 then altsT kids else if k = 6 then firstP kids ++ timesT mn mx else []
def catsT : List NodeT → List UInt8
  | [] => []
  | n :: l => inB (decide (n.kind = 5)) (putT n) ++ catsT l
def altsT : List NodeT → List UInt8
  | [] => []
  | n :: l => putT n ++ barsT l
def barsT : List NodeT → List UInt8
  | [] => []
  | n :: l => 124 :: (putT n ++ barsT l)
def firstP : List NodeT → List UInt8
  | [] => [40, 41]
  | n :: _ => inB (decide (n.kind = 0) || decide (4 ≤ n.kind)) (putT n)
end
theorem catsT_nil : catsT [] = [] := by rw [catsT]
theorem catsT_cons (n : NodeT) (l : List NodeT) : catsT (n :: l) = inB (decide (n.kind = 5)) (putT n) ++ catsT l := by rw [catsT]
theorem barsT_nil : barsT [] = [] := by rw [barsT]
theorem barsT_cons (n : NodeT) (l : List NodeT) : barsT (n :: l) = 124 :: (putT n ++ barsT l) := by rw [barsT]
theorem altsT_nil : altsT [] = [] := by rw [altsT]
theorem altsT_cons (n : NodeT) (l : List NodeT) : altsT (n :: l) = putT n ++ barsT l := by rw [altsT]
theorem firstP_nil : firstP [] = [40, 41] := by rw [firstP]
theorem firstP_cons (n : NodeT) (l : List NodeT) : firstP (n :: l) = inB (decide (n.kind = 0) || decide (4 ≤ n.kind)) (putT n) := by rw [firstP]
theorem putT_mk (k : Int) (s : Nat) (mn mx : Int) (kids : List NodeT) : putT (.mk k s mn mx kids) = if k = 1 then setT s else if k = 2 then [94] else if k = 3 then [36] else if k = 4 then catsT kids else if k = 5 then altsT kids else if k = 6 then firstP kids ++ timesT mn mx else [] := by rw [putT]
theorem spansT_app (l m : List (Nat × Nat)) : spansT (l ++ m) = spansT l ++ spansT m := by
  induction l with
  | nil => rfl
  | cons p l ih => rw [List.cons_append, spansT, spansT, ih, List.append_assoc]
theorem byteP_len (b : Nat) (l : List UInt8) : (byteP b l).length ≤ 2 := by
  unfold byteP
  split <;> simp
theorem spanT_len (p : Nat × Nat) : (spanT p).length ≤ 5 := by
  unfold spanT
  have h1 := byteP_len p.1 cspec
  have h2 := byteP_len p.2 cspec
  rw [List.length_append]
  split
  · rw [List.length_cons]; omega
  · simp; omega
theorem spansT_len (l : List (Nat × Nat)) : (spansT l).length ≤ 5 * l.length := by
  induction l with
  | nil => simp [spansT]
  | cons p l ih =>
    rw [spansT, List.length_append, List.length_cons]
    have := spanT_len p
    omega
theorem spansL_len (S : Nat) : (spansL S).length ≤ 256 := spansF_len S 256 0
theorem setT_len (S : Nat) : (setT S).length ≤ 1282 := by
  unfold setT
  split
  · simp
  · split
    · have := byteP_len (leastB S) spec; omega
    · have h1 := spansT_len (spansL S)
      have h2 := spansL_len S
      rw [List.length_cons, List.length_append]
      simp
      omega
theorem inB_len (b : Bool) (l : List UInt8) : (inB b l).length ≤ l.length + 2 := by
  unfold inB
  split <;> simp
theorem oneB_bit (b j : Nat) : (oneB b).testBit j = decide (j = b) := by
  unfold oneB
  rw [withB_bit, Nat.zero_testBit, Bool.false_or, Bool.eq_iff_iff]
  simp
  omega
theorem least_bit (S : Nat) : ∀ n b j, b ≤ j → j ≤ b + n → S.testBit j = true → S.testBit (leastN S b n) = true
  | 0, b, j, h1, h2, h => by
    have : j = b := by omega
    subst this
    exact h
  | n + 1, b, j, h1, h2, h => by
    rw [leastN]
    split
    · rename_i hb; exact hb
    · rename_i hb
      have : j ≠ b := fun e => hb (e ▸ h)
      exact least_bit S n (b + 1) j (by omega) (by omega) h
theorem many_one (S : Nat) : ∀ n j, j < n → S.testBit j = true → 1 ≤ manyN S n
  | n + 1, j, h, hj => by
    show 1 ≤ manyN S n + _
    by_cases he : j = n
    · subst he
      rw [hj]
      simp
    · have := many_one S n j (by omega) hj
      omega
theorem many_two (S : Nat) : ∀ n i j, i < j → j < n → S.testBit i = true → S.testBit j = true → 2 ≤ manyN S n
  | n + 1, i, j, h1, h2, hi, hj => by
    show 2 ≤ manyN S n + _
    by_cases he : j = n
    · subst he
      rw [hj]
      have := many_one S j i h1 hi
      simp
      omega
    · have := many_two S n i j h1 (by omega) hi hj
      omega
theorem one_of_many {S : Nat} (hS : S < 2 ^ 256) (h : manyB S = 1) : S = oneB (leastB S) := by
  obtain ⟨j, hj, hb⟩ := many_some h
  have hl : S.testBit (leastB S) = true := least_bit S 255 0 j (Nat.zero_le _) (by omega) hb
  have hlt := least_lt S
  apply Nat.eq_of_testBit_eq
  intro i
  rw [oneB_bit]
  by_cases hi : i = leastB S
  · rw [hi, hl, decide_eq_true rfl]
  · rw [decide_eq_false hi]
    by_cases h256 : i < 256
    · cases hbi : S.testBit i with
      | false => rfl
      | true =>
        have : 2 ≤ manyB S := by
          rcases Nat.lt_or_gt_of_ne hi with h1 | h1
          · exact many_two S 256 i _ h1 hlt hbi hl
          · exact many_two S 256 _ i h1 h256 hl hbi
        omega
    · exact Nat.testBit_lt_two_pow (Nat.lt_of_lt_of_le hS (Nat.pow_le_pow_right (by decide) (by omega)))
theorem one_facts : ∀ b, b < 256 → manyB (oneB b) = 1 ∧ leastB (oneB b) = b := by decide +kernel
theorem any_many : manyB anyB = 255 := by decide +kernel
theorem any_ne {b : Nat} (h : b < 256) : oneB b ≠ anyB := fun e => by
  have h1 := (one_facts b h).1
  rw [e, any_many] at h1
  cases h1
theorem u8_nat {b : Nat} (h : b < 256) : (UInt8.ofNat b).toNat = b := UInt8.toNat_ofNat_of_lt' h
/-- a set of runs -/
def uniS : List (Nat × Nat) → Nat
  | [] => 0
  | p :: l => withB 0 p.1 p.2 ||| uniS l
theorem runE_spec (S : Nat) : ∀ n b, b ≤ 255 → 255 ≤ b + n → S.testBit b = true → (∀ j, b ≤ j → j ≤ runE S n b → S.testBit j = true) ∧ (runE S n b = 255 ∨ S.testBit (runE S n b + 1) = false)
  | 0, b, h1, h2, hb => by
    have : b = 255 := by omega
    subst this
    exact ⟨fun j h3 h4 => by have h4' : j ≤ 255 := h4; have : j = 255 := by omega
                             subst this; exact hb, .inl rfl⟩
  | n + 1, b, h1, h2, hb => by
    rw [runE]
    split
    · rename_i h
      obtain ⟨p, q⟩ := runE_spec S n (b + 1) (by omega) (by omega) h.2
      refine ⟨fun j h3 h4 => ?_, q⟩
      by_cases e : j = b
      · subst e; exact hb
      · exact p j (by omega) h4
    · rename_i h
      refine ⟨fun j h3 h4 => ?_, ?_⟩
      · have : j = b := by omega
        subst this; exact hb
      · by_cases e : b < 255
        · right
          cases hc : S.testBit (b + 1) with
          | false => rfl
          | true => exact absurd ⟨e, hc⟩ h
        · left; omega
theorem uniS_spans (S : Nat) : ∀ n b, 256 ≤ b + n → ∀ j, j < 256 → (uniS (spansF S n b)).testBit j = (S.testBit j && decide (b ≤ j))
  | 0, b, h, j, hj => by
    rw [spansF, uniS, Nat.zero_testBit, decide_eq_false (by omega), Bool.and_false]
  | n + 1, b, h, j, hj => by
    rw [spansF]
    split
    · rw [uniS, Nat.zero_testBit, decide_eq_false (by omega), Bool.and_false]
    · split
      · rename_i hb256 hb
        obtain ⟨p, q⟩ := runE_spec S 256 b (by omega) (by omega) hb
        have hge := runE_ge S 256 b
        have hle := runE_le S 256 b (by omega)
        rw [uniS, Nat.testBit_or, withB_bit, Nat.zero_testBit, Bool.false_or, uniS_spans S n _ (by omega) j hj]
        show (decide (b ≤ j) && decide (j ≤ runE S 256 b) || _) = _
        obtain ⟨r, hr⟩ : ∃ r, runE S 256 b = r := ⟨_, rfl⟩
        rw [hr] at p q hge hle ⊢
        by_cases h1 : b ≤ j
        · by_cases h2 : j ≤ r
          · rw [decide_eq_true h1, decide_eq_true h2, p j h1 h2]; rfl
          · rw [decide_eq_true h1, decide_eq_false h2]
            simp
            omega
        · rw [decide_eq_false h1]
          simp
          omega
      · rename_i hb256 hb
        rw [uniS_spans S n (b + 1) (by omega) j hj]
        by_cases e : j = b
        · subst e
          cases hc : S.testBit j with
          | false => rfl
          | true => exact absurd hc hb
        · congr 1
          rw [decide_eq_decide]
          omega
theorem uniS_lt : ∀ l : List (Nat × Nat), (∀ p ∈ l, p.2 < 256) → uniS l < 2 ^ 256
  | [], _ => by decide
  | p :: l, h => by
    rw [uniS]
    exact Nat.or_lt_two_pow (withB_lt _ _ (by decide) (h p List.mem_cons_self)) (uniS_lt l (fun q hq => h q (List.mem_cons_of_mem _ hq)))
theorem spansF_ok (S : Nat) : ∀ n b, ∀ p ∈ spansF S n b, p.1 ≤ p.2 ∧ p.2 < 256
  | 0, b, p, h => by cases h
  | n + 1, b, p, h => by
    rw [spansF] at h
    split at h
    · cases h
    · split at h
      · rcases List.mem_cons.1 h with rfl | h
        · exact ⟨runE_ge S 256 b, by have := runE_le S 256 b (by omega); show runE S 256 b < 256; omega⟩
        · exact spansF_ok S n _ p h
      · exact spansF_ok S n _ p h
theorem uniS_all {S : Nat} (hS : S < 2 ^ 256) : uniS (spansL S) = S := by
  apply Nat.eq_of_testBit_eq
  intro j
  by_cases hj : j < 256
  · rw [show spansL S = spansF S 256 0 from rfl, uniS_spans S 256 0 (by decide) j hj, decide_eq_true (Nat.zero_le _), Bool.and_true]
  · have h256 : 2 ^ 256 ≤ 2 ^ j := Nat.pow_le_pow_right (by decide) (by omega)
    have hu : uniS (spansL S) < 2 ^ 256 := uniS_lt _ (fun p hp => (spansF_ok S 256 0 p hp).2)
    rw [Nat.testBit_lt_two_pow (Nat.lt_of_lt_of_le hS h256), Nat.testBit_lt_two_pow (Nat.lt_of_lt_of_le hu h256)]
theorem spansL_ne {S : Nat} (hS : S < 2 ^ 256) (h : S ≠ 0) : spansL S ≠ [] := fun e => by
  have := uniS_all hS
  rw [e, uniS] at this
  exact h this.symm

/-! ### Members of a class, read as they are put -/
def headNo (l : List UInt8) (c : UInt8) : Prop := ∀ q, l ≠ c :: q
theorem byteP_head (b : Nat) (among : List UInt8) (c : UInt8) (hc : c ∈ among) (h92 : c ≠ 92) (r : List UInt8) : headNo (byteP b among ++ r) c := by
  intro q h
  unfold byteP at h
  split at h
  · injection h with h _
    exact h92 h.symm
  · rename_i hn
    injection h with h _
    exact hn (h ▸ hc)
theorem escP_cspec (b : UInt8) (h : b ∈ cspec) (r : List UInt8) : escP (b :: r) = some (oneB b.toNat, r) := by
  have h' : b = 92 ∨ b = 93 ∨ b = 45 ∨ b = 94 := by simpa [cspec] using h
  rcases h' with rfl | rfl | rfl | rfl <;> rfl
theorem escP_spec (b : UInt8) (h : b ∈ spec) (r : List UInt8) : escP (b :: r) = some (oneB b.toNat, r) := by
  have h' : b = 92 ∨ b = 46 ∨ b = 91 ∨ b = 93 ∨ b = 40 ∨ b = 41 ∨ b = 42 ∨ b = 43 ∨ b = 63 ∨ b = 123 ∨ b = 125 ∨ b = 124 ∨ b = 94 ∨ b = 36 := by simpa [spec] using h
  rcases h' with rfl | rfl | rfl | rfl | rfl | rfl | rfl | rfl | rfl | rfl | rfl | rfl | rfl | rfl <;> rfl
theorem memP_byte {b : Nat} (hb : b < 256) (r : List UInt8) : memP (byteP b cspec ++ r) = some (oneB b, r) := by
  unfold byteP
  split
  · rename_i h
    show memP (92 :: (UInt8.ofNat b :: r)) = _
    rw [memP_cons, if_pos rfl, escP_cspec _ h, u8_nat hb]
  · rename_i h
    show memP (UInt8.ofNat b :: r) = _
    rw [memP_cons, if_neg (fun e => h (by rw [e]; decide)), if_neg h, u8_nat hb]
theorem itemP_span {p : Nat × Nat} (h : p.1 ≤ p.2) (h2 : p.2 < 256) {r : List UInt8} (hr : headNo r 45) : itemP (spanT p ++ r) = some (withB 0 p.1 p.2, r) := by
  unfold spanT
  by_cases hlt : p.1 < p.2
  · rw [if_pos hlt, List.append_assoc]
    show itemP (byteP p.1 cspec ++ 45 :: (byteP p.2 cspec ++ r)) = _
    rw [itemP_two (memP_byte (show p.1 < 256 by omega) (45 :: (byteP p.2 cspec ++ r))), memP_byte h2]
    have e1 := one_facts p.1 (by omega)
    have e2 := one_facts p.2 h2
    show (if manyB (oneB p.1) = 1 ∧ manyB (oneB p.2) = 1 ∧ leastB (oneB p.1) ≤ leastB (oneB p.2) then some (withB 0 (leastB (oneB p.1)) (leastB (oneB p.2)), r) else none) = _
    rw [e1.2, e2.2, if_pos ⟨e1.1, e2.1, h⟩]
  · rw [if_neg hlt, List.append_nil, itemP_one (memP_byte (show p.1 < 256 by omega) r) hr]
    have : p.1 = p.2 := by omega
    rw [← this]
    rfl
theorem spansT_head (l : List (Nat × Nat)) (r : List UInt8) (c : UInt8) (hc : c ∈ cspec) (h92 : c ≠ 92) (hr : l = [] → headNo r c) : headNo (spansT l ++ r) c := by
  cases l with
  | nil => exact hr rfl
  | cons p l =>
    rw [spansT, List.append_assoc]
    unfold spanT
    rw [List.append_assoc]
    exact byteP_head _ _ _ hc h92 _
theorem itemsP_spans : ∀ (l : List (Nat × Nat)) (n all : Nat) (r : List UInt8), (∀ p ∈ l, p.1 ≤ p.2 ∧ p.2 < 256) → l.length < n → itemsP n all (spansT l ++ 93 :: r) = some (all ||| uniS l, r)
  | [], n, all, r, _, hn => by
    obtain ⟨n, rfl⟩ : ∃ k, n = k + 1 := ⟨n - 1, by simp at hn; omega⟩
    show itemsP (n + 1) all (93 :: r) = _
    rw [itemsP_end, uniS, Nat.or_zero]
  | p :: l, n, all, r, h, hn => by
    obtain ⟨n, rfl⟩ : ∃ k, n = k + 1 := ⟨n - 1, by simp at hn; omega⟩
    rw [itemsP_next (spansT_head _ _ 93 (by decide) (by decide) (fun e => by cases e))]
    have hp := h p List.mem_cons_self
    rw [spansT, List.append_assoc, itemP_span hp.1 hp.2 (spansT_head l (93 :: r) 45 (by decide) (by decide) (fun _ q e => by injection e with e _; revert e; decide))]
    show itemsP n (all ||| withB 0 p.1 p.2) (spansT l ++ 93 :: r) = _
    rw [itemsP_spans l n _ r (fun q hq => h q (List.mem_cons_of_mem _ hq)) (by simp at hn; omega), uniS, Nat.or_assoc]
theorem spansT_ge (l : List (Nat × Nat)) : l.length ≤ (spansT l).length := by
  induction l with
  | nil => simp
  | cons p l ih =>
    rw [spansT, List.length_append, List.length_cons]
    have : 1 ≤ (spanT p).length := by
      unfold spanT byteP
      split <;> simp
    omega
theorem classP_spans {l : List (Nat × Nat)} (h : ∀ p ∈ l, p.1 ≤ p.2 ∧ p.2 < 256) (hne : l ≠ []) (hu : uniS l ≠ 0) (r : List UInt8) : classP (spansT l ++ 93 :: r) = some (uniS l, r) := by
  rw [classP_not (spansT_head l _ 94 (by decide) (by decide) (fun e => absurd e hne))]
  cases l with
  | nil => exact absurd rfl hne
  | cons p l =>
    have hp := h p List.mem_cons_self
    unfold classB
    rw [spansT, List.append_assoc, itemP_span hp.1 hp.2 (spansT_head l (93 :: r) 45 (by decide) (by decide) (fun _ q e => by injection e with e _; revert e; decide))]
    have h1 := itemsP_spans l ((spansT l ++ 93 :: r).length + 1) (withB 0 p.1 p.2) r (fun q hq => h q (List.mem_cons_of_mem _ hq)) (by rw [List.length_append, List.length_cons]; have := spansT_ge l; omega)
    show (match itemsP ((spansT l ++ 93 :: r).length + 1) (withB 0 p.1 p.2) (spansT l ++ 93 :: r) with
      | none => none
      | some (all, r2) => if (if false = true then notB all else all) = 0 then none else some (if false = true then notB all else all, r2)) = _
    rw [h1]
    show (if withB 0 p.1 p.2 ||| uniS l = 0 then none else some (withB 0 p.1 p.2 ||| uniS l, r)) = _
    rw [uniS] at hu
    rw [if_neg hu, uniS]
/-- a set that is put is read as itself -/
theorem atomP_set (E : List UInt8 → Res NodeT) {S : Nat} (hS : S < 2 ^ 256) (h0 : S ≠ 0) (r : List UInt8) : atomP E (setT S ++ r) = .ok (.one S) r := by
  unfold setT
  split
  · rename_i h
    subst h
    rfl
  · rename_i hany
    split
    · rename_i h1
      have e := one_of_many hS h1
      have hl := least_lt S
      obtain ⟨b, hb⟩ : ∃ b, leastB S = b := ⟨_, rfl⟩
      rw [hb] at e hl ⊢
      unfold byteP
      split
      · rename_i hs
        show atomP E (92 :: (UInt8.ofNat b :: r)) = _
        rw [atomP_cons, if_neg (by decide), if_neg (by decide), if_neg (by decide), if_neg (by decide), if_pos rfl, escP_spec _ hs, u8_nat hl, ← e]
        rfl
      · rename_i hs
        show atomP E (UInt8.ofNat b :: r) = _
        rw [atomP_cons, if_neg (fun h => hs (by rw [h]; decide)), if_neg (fun h => hs (by rw [h]; decide)), if_neg (fun h => hs (by rw [h]; decide)), if_neg (fun h => hs (by rw [h]; decide)), if_neg (fun h => hs (by rw [h]; decide)), if_neg (fun h => hs (by rw [h]; decide)), if_neg hs, u8_nat hl, ← e]
    · show atomP E (91 :: ((spansT (spansL S) ++ [93]) ++ r)) = _
      rw [List.append_assoc]
      show atomP E (91 :: (spansT (spansL S) ++ 93 :: r)) = _
      rw [atomP_cons, if_neg (by decide), if_neg (by decide), if_neg (by decide), if_neg (by decide), if_neg (by decide), if_pos rfl, classP_spans (l := spansL S) (fun p hp => spansF_ok S 256 0 p hp) (spansL_ne hS h0) (by rw [uniS_all hS]; exact h0), uniS_all hS]
      rfl
/-- an expression in normal form -/
inductive NF : NodeT → Prop where
  | nil : NF .nil
  | one {S : Nat} (h : S < 2 ^ 256) (h0 : S ≠ 0) : NF (.one S)
  | beg : NF (.mk 2 0 0 0 [])
  | fin : NF (.mk 3 0 0 0 [])
  | cat {l : List NodeT} (h : 2 ≤ l.length) (hk : ∀ x, x ∈ l → x.kind ≠ 0 ∧ x.kind ≠ 4) (hl : ∀ x, x ∈ l → NF x) : NF (.mk 4 0 0 0 l)
  | alt {l : List NodeT} (h : 2 ≤ l.length) (hk : ∀ x, x ∈ l → x.kind ≠ 5) (hl : ∀ x, x ∈ l → NF x) : NF (.mk 5 0 0 0 l)
  | rep {x : NodeT} {m n : Int} (hx : NF x) (h0 : 0 ≤ m) (h20 : m ≤ 20) (hn : n = -1 ∨ m ≤ n ∧ n ≤ 20) : NF (.rep x m n)

/-! ### Read as it is put -/
def noTimes (r : List UInt8) : Prop := ∀ c q, r = c :: q → c ≠ 42 ∧ c ≠ 43 ∧ c ≠ 63 ∧ c ≠ 123
def StopE (g : Bool) (r : List UInt8) : Prop := r = [] ∨ ∃ q, r = 41 :: q ∧ g = true
theorem timesP_none (n : NodeT) {r : List UInt8} (h : noTimes r) : timesP n r = .ok n r := by
  cases r with
  | nil => rfl
  | cons c q =>
    obtain ⟨h1, h2, h3, h4⟩ := h c q rfl
    rw [timesP_cons, if_neg h1, if_neg h2, if_neg h3, if_neg h4]
theorem itoa_dig : ∀ m : Nat, m < 21 → (Lib.itoa (m : Int)).all isDig = true ∧ decP (Lib.itoa (m : Int)) = some m := by decide +kernel
theorem countP_itoa {m : Nat} (hm : m ≤ 20) {c : UInt8} (hc : isDig c = false) (r : List UInt8) : countP (Lib.itoa (m : Int) ++ c :: r) = some (m, c :: r) := by
  obtain ⟨h1, h2⟩ := itoa_dig m (by omega)
  have h3 : ∀ a ∈ Lib.itoa (m : Int), isDig a = true := List.all_eq_true.1 h1
  have h4 : (c :: r).takeWhile isDig = [] := by rw [List.takeWhile_cons, hc]; rfl
  have h5 : (c :: r).dropWhile isDig = c :: r := by rw [List.dropWhile_cons, hc]; rfl
  unfold countP
  rw [List.takeWhile_append_of_pos h3, List.dropWhile_append_of_pos h3, h4, h5, List.append_nil, h2]
theorem timesP_back (x : NodeT) {m n : Int} (h0 : 0 ≤ m) (h20 : m ≤ 20) (hn : n = -1 ∨ m ≤ n ∧ n ≤ 20) (r : List UInt8) : timesP x (timesT m n ++ r) = .ok (x.rep m n) r := by
  obtain ⟨k, rfl⟩ : ∃ k : Nat, m = (k : Int) := ⟨m.toNat, by omega⟩
  have hk : k ≤ 20 := by omega
  unfold timesT
  split
  · rename_i h; obtain ⟨h1, rfl⟩ := h; rw [h1]; rfl
  · split
    · rename_i h; obtain ⟨h1, rfl⟩ := h; rw [h1]; rfl
    · split
      · rename_i h; obtain ⟨h1, rfl⟩ := h; rw [h1]; rfl
      · split
        · rename_i h
          subst h
          show timesP x (123 :: ((Lib.itoa (k : Int) ++ [125]) ++ r)) = _
          rw [timesP_cons, if_neg (by decide), if_neg (by decide), if_neg (by decide), if_pos rfl, List.append_assoc]
          have hb : boundsP (Lib.itoa (k : Int) ++ ([125] ++ r)) = some ((k : Int), (k : Int), r) := bP_one (countP_itoa hk (show isDig 125 = false by decide) r)
          rw [hb]
        · split
          · rename_i h
            subst h
            show timesP x (123 :: ((Lib.itoa (k : Int) ++ [44, 125]) ++ r)) = _
            rw [timesP_cons, if_neg (by decide), if_neg (by decide), if_neg (by decide), if_pos rfl, List.append_assoc]
            have hb : boundsP (Lib.itoa (k : Int) ++ ([44, 125] ++ r)) = some ((k : Int), -1, r) := bP_from (countP_itoa hk (show isDig 44 = false by decide) (125 :: r))
            rw [hb]
          · rename_i hne h1
            obtain ⟨j, rfl⟩ : ∃ j : Nat, n = (j : Int) := ⟨n.toNat, by omega⟩
            have hj : j ≤ 20 := by omega
            show timesP x (123 :: ((Lib.itoa (k : Int) ++ 44 :: (Lib.itoa (j : Int) ++ [125])) ++ r)) = _
            rw [timesP_cons, if_neg (by decide), if_neg (by decide), if_neg (by decide), if_pos rfl, List.append_assoc]
            show (match boundsP (Lib.itoa (k : Int) ++ 44 :: ((Lib.itoa (j : Int) ++ [125]) ++ r)) with
              | none => Res.bad _
              | some (lo, hi, r2) => .ok (x.rep lo hi) r2) = _
            have hd := (itoa_dig j (by omega)).1
            rw [List.append_assoc, bP_two (countP_itoa hk (show isDig 44 = false by decide) (Lib.itoa (j : Int) ++ ([125] ++ r))) (by
              intro q e
              cases hi : Lib.itoa (j : Int) with
              | nil => rw [hi] at e; have h2 := (itoa_dig j (by omega)).2; rw [hi] at h2; cases h2
              | cons c l =>
                rw [hi] at e hd
                injection e with e _
                rw [e] at hd
                rw [List.all_cons] at hd
                exact absurd hd (by rw [show isDig 125 = false by decide, Bool.false_and]; decide))]
            show (match (match countP (Lib.itoa (j : Int) ++ 125 :: ([] ++ r)) with
              | some (k2, 125 :: r2) => if k ≤ k2 then some ((k : Int), (k2 : Int), r2) else none
              | _ => none) with
              | none => Res.bad _
              | some (lo, hi, r2) => .ok (x.rep lo hi) r2) = _
            rw [countP_itoa hj (show isDig 125 = false by decide)]
            show (match (if k ≤ j then some ((k : Int), (j : Int), [] ++ r) else none) with
              | none => Res.bad _
              | some (lo, hi, r2) => .ok (x.rep lo hi) r2) = _
            rw [if_pos (by omega)]
            rfl
def pcT (x : NodeT) : List UInt8 := inB (decide (x.kind = 5)) (putT x)
def goodHead (l : List UInt8) : Prop := ∃ c q, l = c :: q ∧ c ≠ 124 ∧ c ≠ 41 ∧ c ≠ 42 ∧ c ≠ 43 ∧ c ≠ 63 ∧ c ≠ 123
theorem goodHead.app {l : List UInt8} (h : goodHead l) (r : List UInt8) : goodHead (l ++ r) := by
  obtain ⟨c, q, rfl, h⟩ := h
  exact ⟨c, q ++ r, rfl, h⟩
theorem goodHead.no {l : List UInt8} (h : goodHead l) : noTimes l := by
  obtain ⟨c, q, rfl, h1, h2, h3, h4, h5, h6⟩ := h
  intro a b e
  injection e with e _
  subst e
  exact ⟨h3, h4, h5, h6⟩
theorem goodHead.go {l : List UInt8} (h : goodHead l) (g : Bool) : stopP g l = false := by
  obtain ⟨c, q, rfl, h1, h2, h3, h4, h5, h6⟩ := h
  show (c == 124 || (c == 41 && g)) = false
  rw [beq_eq_false_iff_ne.2 h1, beq_eq_false_iff_ne.2 h2]
  rfl
theorem setT_head (S : Nat) : goodHead (setT S) := by
  unfold setT
  split
  · exact ⟨46, [], rfl, by decide⟩
  · split
    · unfold byteP
      split
      · exact ⟨92, _, rfl, by decide⟩
      · rename_i h
        exact ⟨_, _, rfl, fun e => h (by rw [e]; decide), fun e => h (by rw [e]; decide), fun e => h (by rw [e]; decide), fun e => h (by rw [e]; decide), fun e => h (by rw [e]; decide), fun e => h (by rw [e]; decide)⟩
    · exact ⟨91, _, rfl, by decide⟩
theorem inB_true (l : List UInt8) : inB true l = 40 :: (l ++ [41]) := rfl
theorem inB_false (l : List UInt8) : inB false l = l := rfl
theorem inB_head {b : Bool} {l : List UInt8} (h : b = false → goodHead l) : goodHead (inB b l) := by
  cases b with
  | true => exact ⟨40, _, rfl, by decide⟩
  | false => exact h rfl
theorem putT_one (S : Nat) : putT (.one S) = setT S := by rw [NodeT.one, putT_mk, if_pos rfl]
theorem putT_cat (l : List NodeT) : putT (.mk 4 0 0 0 l) = catsT l := by rw [putT_mk]; rfl
theorem putT_alt (l : List NodeT) : putT (.mk 5 0 0 0 l) = altsT l := by rw [putT_mk]; rfl
theorem putT_rep (x : NodeT) (m n : Int) : putT (.rep x m n) = inB (decide (x.kind = 0) || decide (4 ≤ x.kind)) (putT x) ++ timesT m n := by rw [NodeT.rep, putT_mk, ← firstP_cons x []]; rfl
theorem putT_nil : putT .nil = [] := by rw [NodeT.nil, putT_mk]; rfl
theorem small_kind {x : NodeT} (h : NF x) (hk : (decide (x.kind = 0) || decide (4 ≤ x.kind)) = false) : (∃ S, S < 2 ^ 256 ∧ S ≠ 0 ∧ x = .one S) ∨ x = .mk 2 0 0 0 [] ∨ x = .mk 3 0 0 0 [] := by
  cases h with
  | nil => cases hk
  | one h h0 => exact .inl ⟨_, h, h0, rfl⟩
  | beg => exact .inr (.inl rfl)
  | fin => exact .inr (.inr rfl)
  | cat => cases hk
  | alt => cases hk
  | rep => cases hk
theorem small_head {x : NodeT} (h : NF x) (hk : (decide (x.kind = 0) || decide (4 ≤ x.kind)) = false) : goodHead (putT x) := by
  rcases small_kind h hk with ⟨S, _, _, rfl⟩ | rfl | rfl
  · rw [putT_one]; exact setT_head S
  · rw [putT_mk]; exact ⟨94, [], rfl, by decide⟩
  · rw [putT_mk]; exact ⟨36, [], rfl, by decide⟩
theorem pcT_head {x : NodeT} (h : NF x) (h0 : x.kind ≠ 0) (h4 : x.kind ≠ 4) : goodHead (pcT x) := by
  refine inB_head (fun h5 => ?_)
  have h5' : x.kind ≠ 5 := by simpa using h5
  cases h with
  | nil => exact absurd rfl h0
  | one h h0 => rw [putT_one]; exact setT_head _
  | beg => rw [putT_mk]; exact ⟨94, [], rfl, by decide⟩
  | fin => rw [putT_mk]; exact ⟨36, [], rfl, by decide⟩
  | cat => exact absurd rfl h4
  | alt => exact absurd rfl h5'
  | rep hx _ _ _ =>
    rw [putT_rep]
    exact (inB_head (fun hb => small_head hx hb)).app _
/-- an expression is read as it is put -/
def EB (x : NodeT) : Prop := ∀ f g r, (putT x).length < f → StopE g r → exprP f g (putT x ++ r) = .ok x r
def PB (x : NodeT) : Prop := ∀ f r, (pcT x).length ≤ f → noTimes r → pieceP (exprP f true) (pcT x ++ r) = .ok x r
theorem atom_group {E : List UInt8 → Res NodeT} {x : NodeT} {l r : List UInt8} (h : E (l ++ 41 :: r) = .ok x (41 :: r)) : atomP E (inB true l ++ r) = .ok x r := by
  rw [inB_true, List.cons_append, List.append_assoc]
  have e : atomP E (40 :: (l ++ ([41] ++ r))) = (match E (l ++ 41 :: r) with
      | .bad k => .bad k
      | .ok n (41 :: r2) => .ok n r2
      | .ok _ r2 => .bad r2.length) := rfl
  rw [e, h]
  rfl
theorem piece_atom {E : List UInt8 → Res NodeT} {x : NodeT} {l r : List UInt8} (h : atomP E l = .ok x r) : pieceP E l = timesP x r := by
  unfold pieceP
  rw [h]
theorem catsT_len : ∀ (l : List NodeT), (∀ x, x ∈ l → goodHead (pcT x)) → l.length ≤ (catsT l).length
  | [], _ => Nat.zero_le _
  | x :: l, h => by
    obtain ⟨c, q, e, _⟩ := h x List.mem_cons_self
    have := catsT_len l (fun y hy => h y (List.mem_cons_of_mem _ hy))
    rw [catsT_cons, List.length_append, List.length_cons, show inB (decide (x.kind = 5)) (putT x) = pcT x from rfl, e, List.length_cons]
    omega
theorem catsT_head : ∀ (l : List NodeT) (r : List UInt8), (∀ x, x ∈ l → goodHead (pcT x)) → noTimes r → noTimes (catsT l ++ r)
  | [], r, _, h => by rw [catsT_nil]; exact h
  | x :: l, r, h, _ => by
    rw [catsT_cons]
    exact (((h x List.mem_cons_self).app _).app _).no
theorem seq_back {f : Nat} {g : Bool} : ∀ (l : List NodeT) (n : Nat) (acc : List NodeT) (r : List UInt8), (∀ x, x ∈ l → goodHead (pcT x)) → (∀ x, x ∈ l → PB x) → (∀ x, x ∈ l → (pcT x).length ≤ f) → l.length < n → stopP g r = true → noTimes r → seqP (exprP f true) g n acc (catsT l ++ r) = .ok (catT (acc ++ l)) r
  | [], n, acc, r, _, _, _, hn, hs, _ => by
    obtain ⟨n, rfl⟩ : ∃ k, n = k + 1 := ⟨n - 1, by simp at hn; omega⟩
    rw [seqP_next, catsT_nil, List.nil_append, if_pos hs, List.append_nil]
  | x :: l, n, acc, r, hh, hp, hf, hn, hs, ht => by
    obtain ⟨n, rfl⟩ : ∃ k, n = k + 1 := ⟨n - 1, by simp at hn; omega⟩
    have h1 := hh x List.mem_cons_self
    have hh2 := fun y hy => hh y (List.mem_cons_of_mem x hy)
    rw [seqP_next, catsT_cons, List.append_assoc]
    show (if stopP g (pcT x ++ (catsT l ++ r)) = true then _ else match pieceP (exprP f true) (pcT x ++ (catsT l ++ r)) with
      | .bad k => Res.bad k
      | .ok x r => seqP (exprP f true) g n (acc ++ [x]) r) = _
    rw [(h1.app _).go g, if_neg (by decide), hp x List.mem_cons_self f _ (hf x List.mem_cons_self) (catsT_head l r hh2 ht)]
    show seqP (exprP f true) g n (acc ++ [x]) (catsT l ++ r) = _
    rw [seq_back l n (acc ++ [x]) r hh2 (fun y hy => hp y (List.mem_cons_of_mem x hy)) (fun y hy => hf y (List.mem_cons_of_mem x hy)) (by simp at hn; omega) hs ht, List.append_assoc]
    rfl
/-- what stands one behind the other in an expression -/
def seqsT (x : NodeT) : List NodeT := if x.kind = 0 then [] else if x.kind = 4 then x.kids else [x]
theorem pcT_not {x : NodeT} (h : x.kind ≠ 5) : pcT x = putT x := by unfold pcT; rw [decide_eq_false h]; rfl
theorem seqsT_put {x : NodeT} (h : NF x) (h5 : x.kind ≠ 5) : catsT (seqsT x) = putT x := by
  have hone : x.kind ≠ 0 → x.kind ≠ 4 → catsT (seqsT x) = putT x := fun h0 h4 => by
    unfold seqsT
    rw [if_neg h0, if_neg h4, catsT_cons, catsT_nil, List.append_nil]
    exact pcT_not h5
  cases h with
  | nil => rw [putT_nil]; exact catsT_nil
  | one h h0 => exact hone (fun h => by cases h) (fun h => by cases h)
  | beg => exact hone (fun h => by cases h) (fun h => by cases h)
  | fin => exact hone (fun h => by cases h) (fun h => by cases h)
  | cat h hk hl => rw [putT_cat]; rfl
  | alt => exact absurd rfl h5
  | rep => exact hone (fun h => by cases h) (fun h => by cases h)
theorem catK_id : ∀ (l : List NodeT), (∀ x, x ∈ l → x.kind ≠ 0 ∧ x.kind ≠ 4) → catK l = l
  | [], _ => rfl
  | x :: l, h => by
    have := h x List.mem_cons_self
    rw [catK, if_neg this.1, if_neg this.2, catK_id l (fun y hy => h y (List.mem_cons_of_mem x hy))]
theorem altK_id : ∀ (l : List NodeT), (∀ x, x ∈ l → x.kind ≠ 5) → altK l = l
  | [], _ => rfl
  | x :: l, h => by
    rw [altK, if_neg (h x List.mem_cons_self), altK_id l (fun y hy => h y (List.mem_cons_of_mem x hy))]
theorem seqsT_cat {x : NodeT} (h : NF x) : catT (seqsT x) = x := by
  have hone : x.kind ≠ 0 → x.kind ≠ 4 → catT (seqsT x) = x := fun h0 h4 => by
    unfold seqsT
    rw [if_neg h0, if_neg h4]
    exact catT_one (catK_id [x] (fun y hy => by rw [List.mem_singleton] at hy; subst hy; exact ⟨h0, h4⟩))
  cases h with
  | nil => rfl
  | one h h0 => exact hone (fun h => by cases h) (fun h => by cases h)
  | beg => exact hone (fun h => by cases h) (fun h => by cases h)
  | fin => exact hone (fun h => by cases h) (fun h => by cases h)
  | cat h hk hl =>
    rename_i l
    show catT l = _
    have e := catK_id l hk
    rw [catT_more (by rw [e]; exact h), e]
  | alt => exact hone (fun h => by cases h) (fun h => by cases h)
  | rep => exact hone (fun h => by cases h) (fun h => by cases h)
theorem seqsT_ok {x : NodeT} (h : NF x) : ∀ y, y ∈ seqsT x → NF y ∧ y.kind ≠ 0 ∧ y.kind ≠ 4 := by
  have hone : NF x → x.kind ≠ 0 → x.kind ≠ 4 → ∀ y, y ∈ seqsT x → NF y ∧ y.kind ≠ 0 ∧ y.kind ≠ 4 := fun hx h0 h4 y hy => by
    unfold seqsT at hy
    rw [if_neg h0, if_neg h4, List.mem_singleton] at hy
    subst hy
    exact ⟨hx, h0, h4⟩
  have hx := h
  cases h with
  | nil => intro y hy; cases hy
  | one h h0 => exact hone hx (fun h => by cases h) (fun h => by cases h)
  | beg => exact hone hx (fun h => by cases h) (fun h => by cases h)
  | fin => exact hone hx (fun h => by cases h) (fun h => by cases h)
  | cat h hk hl => exact fun y hy => ⟨hl y hy, hk y hy⟩
  | alt => exact hone hx (fun h => by cases h) (fun h => by cases h)
  | rep => exact hone hx (fun h => by cases h) (fun h => by cases h)
theorem catsT_piece {l : List NodeT} {x : NodeT} (h : x ∈ l) : (pcT x).length ≤ (catsT l).length := by
  induction l with
  | nil => cases h
  | cons y l ih =>
    rw [catsT_cons, List.length_append]
    rcases List.mem_cons.1 h with rfl | h
    · exact Nat.le_add_right _ _
    · have := ih h; omega
theorem bar_stop (g : Bool) (q : List UInt8) : stopP g (124 :: q) = true := rfl
theorem bar_no (q : List UInt8) : noTimes (124 :: q) := fun c p e => by injection e with e _; subst e; decide
theorem StopE.stop {g : Bool} {r : List UInt8} (h : StopE g r) : stopP g r = true := by
  rcases h with rfl | ⟨q, rfl, rfl⟩ <;> rfl
theorem StopE.no {g : Bool} {r : List UInt8} (h : StopE g r) : noTimes r := by
  rcases h with rfl | ⟨q, rfl, rfl⟩
  · intro c q e; cases e
  · intro c p e; injection e with e _; subst e; decide
theorem StopE.bar {g : Bool} {r : List UInt8} (h : StopE g r) : ∀ q, r ≠ 124 :: q := by
  rcases h with rfl | ⟨q, rfl, rfl⟩
  · intro q e; cases e
  · intro p e; injection e with e _; revert e; decide
/-- one alternative -/
theorem seq_one {x : NodeT} (hx : NF x) (h5 : x.kind ≠ 5) (hp : ∀ y, y ∈ seqsT x → PB y) {f : Nat} {g : Bool} (hf : (putT x).length ≤ f) {r : List UInt8} (hs : stopP g r = true) (ht : noTimes r) : seqP (exprP f true) g ((putT x ++ r).length + 1) [] (putT x ++ r) = .ok x r := by
  have hh := fun y hy => pcT_head (seqsT_ok hx y hy).1 (seqsT_ok hx y hy).2.1 (seqsT_ok hx y hy).2.2
  have e := seqsT_put hx h5
  have h1 := seq_back (f := f) (g := g) (seqsT x) ((putT x ++ r).length + 1) [] r hh hp (fun y hy => by have := catsT_piece hy; rw [e] at this; omega) (by have := catsT_len _ hh; rw [e] at this; rw [List.length_append]; omega) hs ht
  rw [e, List.nil_append, seqsT_cat hx] at h1
  exact h1
theorem alts_back {f : Nat} {g : Bool} : ∀ (l : List NodeT) (n : Nat) (acc : List NodeT) (r : List UInt8), (∀ x, x ∈ l → NF x ∧ x.kind ≠ 5) → (∀ x, x ∈ l → ∀ y, y ∈ seqsT x → PB y) → (∀ x, x ∈ l → (putT x).length ≤ f) → l.length < n → StopE g r → altsP (exprP f true) g n acc (barsT l ++ r) = .ok (choiceT (acc ++ l)) r
  | [], n, acc, r, _, _, _, hn, hs => by
    obtain ⟨n, rfl⟩ : ∃ k, n = k + 1 := ⟨n - 1, by simp at hn; omega⟩
    rw [barsT_nil, List.nil_append, altsP_end hs.bar, List.append_nil]
  | x :: l, n, acc, r, hx, hp, hf, hn, hs => by
    obtain ⟨n, rfl⟩ : ∃ k, n = k + 1 := ⟨n - 1, by simp at hn; omega⟩
    have h1 := hx x List.mem_cons_self
    have hno : stopP g (barsT l ++ r) = true ∧ noTimes (barsT l ++ r) := by
      cases l with
      | nil => rw [barsT_nil]; exact ⟨hs.stop, hs.no⟩
      | cons y l => rw [barsT_cons]; exact ⟨bar_stop _ _, bar_no _⟩
    rw [barsT_cons, List.cons_append, altsP_bar, List.append_assoc, seq_one h1.1 h1.2 (hp x List.mem_cons_self) (hf x List.mem_cons_self) hno.1 hno.2]
    show altsP (exprP f true) g n (acc ++ [x]) (barsT l ++ r) = _
    rw [alts_back l n (acc ++ [x]) r (fun y hy => hx y (List.mem_cons_of_mem x hy)) (fun y hy => hp y (List.mem_cons_of_mem x hy)) (fun y hy => hf y (List.mem_cons_of_mem x hy)) (by simp at hn; omega) hs, List.append_assoc]
    rfl
theorem exprP_succ (f : Nat) (g : Bool) (l : List UInt8) : exprP (f + 1) g l = (match seqP (exprP f true) g (l.length + 1) [] l with
    | .bad k => .bad k
    | .ok n r => altsP (exprP f true) g (r.length + 1) [n] r) := by rw [exprP]; rfl
theorem eb_seq {x : NodeT} (hx : NF x) (h5 : x.kind ≠ 5) (hp : ∀ y, y ∈ seqsT x → PB y) : EB x := by
  intro f g r hf hs
  obtain ⟨f, rfl⟩ : ∃ k, f = k + 1 := ⟨f - 1, by omega⟩
  rw [exprP_succ, seq_one hx h5 hp (by omega) hs.stop hs.no]
  show altsP (exprP f true) g (r.length + 1) [x] r = _
  rw [altsP_end hs.bar]
  rfl
theorem barsT_piece {l : List NodeT} {x : NodeT} (h : x ∈ l) : (putT x).length ≤ (barsT l).length := by
  induction l with
  | nil => cases h
  | cons y l ih =>
    rw [barsT_cons, List.length_cons, List.length_append]
    rcases List.mem_cons.1 h with rfl | h
    · omega
    · have := ih h; omega
theorem barsT_len : ∀ (l : List NodeT), l.length ≤ (barsT l).length
  | [] => Nat.zero_le _
  | x :: l => by
    have := barsT_len l
    rw [barsT_cons, List.length_cons, List.length_cons, List.length_append]
    omega
theorem back_all {x : NodeT} (h : NF x) : EB x ∧ ∀ y, y ∈ seqsT x → PB y := by
  have hpb : ∀ {x : NodeT}, NF x → x.kind ≠ 5 → x.kind ≠ 0 → x.kind ≠ 4 → PB x → EB x ∧ ∀ y, y ∈ seqsT x → PB y := fun hx h5 h0 h4 hp => by
    have hs : ∀ y, y ∈ seqsT _ → PB y := fun y hy => by
      unfold seqsT at hy
      rw [if_neg h0, if_neg h4, List.mem_singleton] at hy
      subst hy
      exact hp
    exact ⟨eb_seq hx h5 hs, hs⟩
  induction h with
  | nil => exact ⟨eb_seq .nil (fun h => by cases h) (fun y hy => by cases hy), fun y hy => by cases hy⟩
  | one h h0 =>
    refine hpb (.one h h0) (fun h => by cases h) (fun h => by cases h) (fun h => by cases h) (fun f r hf ht => ?_)
    rw [pcT_not (fun h => by cases h), putT_one, piece_atom (atomP_set _ h h0 r), timesP_none _ ht]
  | beg =>
    refine hpb .beg (fun h => by cases h) (fun h => by cases h) (fun h => by cases h) (fun f r hf ht => ?_)
    rw [pcT_not (fun h => by cases h), putT_mk]
    show pieceP _ (94 :: r) = _
    rw [piece_atom (x := .mk 2 0 0 0 []) (r := r) rfl, timesP_none _ ht]
  | fin =>
    refine hpb .fin (fun h => by cases h) (fun h => by cases h) (fun h => by cases h) (fun f r hf ht => ?_)
    rw [pcT_not (fun h => by cases h), putT_mk]
    show pieceP _ (36 :: r) = _
    rw [piece_atom (x := .mk 3 0 0 0 []) (r := r) rfl, timesP_none _ ht]
  | cat h hk hl ih =>
    rename_i l
    have hs : ∀ y, y ∈ seqsT (.mk 4 0 0 0 l) → PB y := fun y hy => by
      have hy' : y ∈ l := hy
      refine (ih y hy').2 y ?_
      unfold seqsT
      rw [if_neg (hk y hy').1, if_neg (hk y hy').2]
      exact List.mem_singleton.2 rfl
    exact ⟨eb_seq (.cat h hk hl) (fun h => by cases h) hs, hs⟩
  | alt h hk hl ih =>
    rename_i l
    have hE : EB (.mk 5 0 0 0 l) := by
      intro f g r hf hs
      obtain ⟨f, rfl⟩ : ∃ k, f = k + 1 := ⟨f - 1, by omega⟩
      rw [putT_alt] at hf ⊢
      cases l with
      | nil => simp at h
      | cons x l =>
        have hx := hl x List.mem_cons_self
        have h5 := hk x List.mem_cons_self
        have hlen : (putT x).length ≤ f := by rw [altsT_cons, List.length_append] at hf; omega
        have hno : stopP g (barsT l ++ r) = true ∧ noTimes (barsT l ++ r) := by
          cases l with
          | nil => rw [barsT_nil]; exact ⟨hs.stop, hs.no⟩
          | cons y l => rw [barsT_cons]; exact ⟨bar_stop _ _, bar_no _⟩
        rw [altsT_cons, List.append_assoc, exprP_succ, seq_one hx h5 (ih x List.mem_cons_self).2 hlen hno.1 hno.2]
        show altsP (exprP f true) g ((barsT l ++ r).length + 1) [x] (barsT l ++ r) = _
        rw [alts_back l _ [x] r (fun y hy => ⟨hl y (List.mem_cons_of_mem x hy), hk y (List.mem_cons_of_mem x hy)⟩) (fun y hy => (ih y (List.mem_cons_of_mem x hy)).2) (fun y hy => by have := barsT_piece hy; rw [altsT_cons, List.length_append] at hf; omega) (by have := barsT_len l; rw [List.length_append]; omega) hs]
        show Res.ok (choiceT (x :: l)) r = _
        rw [choice_more (fun e => by rw [e] at h; omega)]
        unfold altT
        rw [altK_id _ hk]
    refine ⟨hE, fun y hy => ?_⟩
    have hy' : y ∈ [NodeT.mk 5 0 0 0 l] := hy
    rw [List.mem_singleton] at hy'
    subst hy'
    intro f r hf ht
    have e : pcT (.mk 5 0 0 0 l) = inB true (putT (.mk 5 0 0 0 l)) := rfl
    rw [e] at hf ⊢
    have hl2 : (inB true (putT (.mk 5 0 0 0 l))).length = (putT (.mk 5 0 0 0 l)).length + 2 := by rw [inB_true]; simp
    rw [piece_atom (atom_group (hE f true (41 :: r) (by omega) (.inr ⟨r, rfl, rfl⟩))), timesP_none _ ht]
  | rep hx h0 h20 hn ih =>
    rename_i x m n
    refine hpb (.rep hx h0 h20 hn) (fun h => by cases h) (fun h => by cases h) (fun h => by cases h) (fun f r hf ht => ?_)
    have e : pcT (.rep x m n) = putT (.rep x m n) := pcT_not (fun h => by cases h)
    rw [e, putT_rep] at hf
    rw [e, putT_rep, List.append_assoc]
    rw [List.length_append] at hf
    cases hb : (decide (x.kind = 0) || decide (4 ≤ x.kind)) with
    | true =>
      rw [hb] at hf
      have hl2 : (inB true (putT x)).length = (putT x).length + 2 := by rw [inB_true]; simp
      rw [piece_atom (atom_group (ih.1 f true (41 :: (timesT m n ++ r)) (by omega) (.inr ⟨_, rfl, rfl⟩))), timesP_back x h0 h20 hn]
    | false =>
      rw [inB_false]
      have hat : atomP (exprP f true) (putT x ++ (timesT m n ++ r)) = .ok x (timesT m n ++ r) := by
        rcases small_kind hx hb with ⟨S, hS, hS0, rfl⟩ | rfl | rfl
        · rw [putT_one]; exact atomP_set _ hS hS0 _
        · rw [putT_mk]; rfl
        · rw [putT_mk]; rfl
      rw [piece_atom hat, timesP_back x h0 h20 hn]
/-! ### What is read is in normal form -/
theorem bit_ne {S j : Nat} (h : S.testBit j = true) : S ≠ 0 := fun e => by rw [e, Nat.zero_testBit] at h; cases h
theorem oneB_ne (b : Nat) : oneB b ≠ 0 := bit_ne (j := b) (by rw [oneB_bit]; exact decide_eq_true rfl)
theorem escP_ne {l r : List UInt8} {S : Nat} (h : escP l = some (S, r)) : S ≠ 0 := by
  cases l with
  | nil => cases h
  | cons b q =>
    rw [escP_cons] at h
    split at h
    · cases h; exact oneB_ne _
    · split at h
      · cases h; exact oneB_ne _
      · split at h
        · cases h; decide +kernel
        · split at h
          · cases h; decide +kernel
          · split at h
            · cases h; decide +kernel
            · split at h
              · cases h; exact oneB_ne _
              · cases h
theorem itemsP_lt2 : ∀ (n all : Nat) (l r : List UInt8) (S : Nat), all < 2 ^ 256 → itemsP n all l = some (S, r) → S < 2 ^ 256
  | 0, _, _, _, _, _, h => by cases h
  | n + 1, all, l, r, S, ha, h => by
    by_cases h93 : ∃ q, l = 93 :: q
    · obtain ⟨q, rfl⟩ := h93
      rw [itemsP_end] at h
      cases h
      exact ha
    · rw [itemsP_next (fun q e => h93 ⟨q, e⟩)] at h
      cases hm : itemP l with
      | none => rw [hm] at h; cases h
      | some x =>
        obtain ⟨s, q⟩ := x
        rw [hm] at h
        exact itemsP_lt2 n _ _ _ _ (Nat.or_lt_two_pow ha (itemP_some hm).1) h
theorem classB_ok {neg : Bool} {l r : List UInt8} {S : Nat} (h : classB neg l = some (S, r)) : S < 2 ^ 256 ∧ S ≠ 0 := by
  unfold classB at h
  cases hm : itemP l with
  | none => rw [hm] at h; cases h
  | some x =>
    obtain ⟨s, q⟩ := x
    rw [hm] at h
    replace h : (match itemsP (q.length + 1) s q with
      | none => none
      | some (all, r2) => if (if neg then notB all else all) = 0 then none else some (if neg then notB all else all, r2)) = some (S, r) := h
    cases hi : itemsP (q.length + 1) s q with
    | none => rw [hi] at h; cases h
    | some y =>
      obtain ⟨all, r2⟩ := y
      rw [hi] at h
      replace h : (if (if neg then notB all else all) = 0 then none else some (if neg then notB all else all, r2)) = some (S, r) := h
      have hall := itemsP_lt2 _ _ _ _ _ (itemP_some hm).1 hi
      have hT : (if neg then notB all else all) < 2 ^ 256 := by
        cases neg
        · exact hall
        · exact notB_lt hall
      obtain ⟨T, e⟩ : ∃ T, (if neg then notB all else all) = T := ⟨_, rfl⟩
      rw [e] at h hT
      by_cases hz : T = 0
      · rw [if_pos hz] at h; cases h
      · rw [if_neg hz] at h; cases h; exact ⟨hT, hz⟩
theorem classP_ok {l r : List UInt8} {S : Nat} (h : classP l = some (S, r)) : S < 2 ^ 256 ∧ S ≠ 0 := by
  by_cases h94 : ∃ q, l = 94 :: q
  · obtain ⟨q, rfl⟩ := h94
    rw [classP_hat] at h
    exact classB_ok h
  · rw [classP_not (fun q e => h94 ⟨q, e⟩)] at h
    exact classB_ok h
def ENF (E : List UInt8 → Res NodeT) : Prop := ∀ l n r, E l = .ok n r → NF n
theorem atomP_nf {E : List UInt8 → Res NodeT} (hE : ENF E) {l : List UInt8} {n : NodeT} {r : List UInt8} (h : atomP E l = .ok n r) : NF n := by
  cases l with
  | nil => cases h
  | cons b q =>
    rw [atomP_cons] at h
    split at h
    · cases he : E q with
      | bad k => rw [he] at h; cases h
      | ok m q2 =>
        have h1 := hE q m q2 he
        rw [he] at h
        match q2, h with
        | [], h => cases h
        | c :: r2, h =>
          by_cases hc : c = 41
          · subst hc
            simp only at h
            cases h
            exact h1
          · simp [hc] at h
    · split at h
      · cases h; exact .one (by decide +kernel) (by decide +kernel)
      · split at h
        · cases h; exact .beg
        · split at h
          · cases h; exact .fin
          · split at h
            · obtain ⟨S, hs, rfl⟩ := foundP_ok h
              exact .one (escP_some hs).1 (escP_ne hs)
            · split at h
              · obtain ⟨S, hs, rfl⟩ := foundP_ok h
                exact .one (classP_ok hs).1 (classP_ok hs).2
              · split at h
                · cases h
                · cases h; exact .one (oneB_lt _ (UInt8.toNat_lt b)) (oneB_ne _)
theorem decP_le {d : List UInt8} {m : Nat} (h : decP d = some m) : m ≤ 20 := by
  match d, h with
  | [a], h =>
    have h' : (if isDig a then some (a.toNat - 48) else none) = some m := h
    split at h'
    · rename_i ha
      injection h' with h'
      unfold isDig at ha
      simp at ha
      omega
    · cases h'
  | [a, b], h =>
    have h' : (if a = 49 ∧ isDig b then some (10 + (b.toNat - 48)) else if a = 50 ∧ b = 48 then some 20 else none) = some m := h
    split at h'
    · rename_i ha
      injection h' with h'
      have ha := ha.2
      unfold isDig at ha
      simp at ha
      omega
    · split at h'
      · injection h' with h'
        omega
      · cases h'
theorem countP_le {l r : List UInt8} {m : Nat} (h : countP l = some (m, r)) : m ≤ 20 := by
  unfold countP at h
  cases hd : decP (l.takeWhile isDig) with
  | none => rw [hd] at h; cases h
  | some k => rw [hd] at h; cases h; exact decP_le hd
theorem boundsP_ok {l r : List UInt8} {a b : Int} (h : boundsP l = some (a, b, r)) : 0 ≤ a ∧ a ≤ 20 ∧ (b = -1 ∨ a ≤ b ∧ b ≤ 20) := by
  cases hc : countP l with
  | none => rw [bP_none hc] at h; cases h
  | some x =>
    obtain ⟨m, q⟩ := x
    have hm := countP_le hc
    by_cases h1 : ∃ p, q = 125 :: p
    · obtain ⟨p, hp⟩ := h1
      rw [hp] at hc
      rw [bP_one hc] at h
      cases h
      exact ⟨by omega, by omega, .inr ⟨Int.le_refl _, by omega⟩⟩
    · by_cases h2 : ∃ p, q = 44 :: 125 :: p
      · obtain ⟨p, hp⟩ := h2
        rw [hp] at hc
        rw [bP_from hc] at h
        cases h
        exact ⟨by omega, by omega, .inl rfl⟩
      · by_cases h3 : ∃ p, q = 44 :: p
        · obtain ⟨p, hp⟩ := h3
          rw [hp] at hc
          rw [bP_two hc (fun z e => h2 ⟨z, by rw [hp, e]⟩)] at h
          cases hc2 : countP p with
          | none => rw [hc2] at h; cases h
          | some y =>
            obtain ⟨m2, q2⟩ := y
            have hm2 := countP_le hc2
            rw [hc2] at h
            match q2, h with
            | 125 :: r2, h =>
              simp only at h
              split at h
              · cases h
                exact ⟨by omega, by omega, .inr ⟨by omega, by omega⟩⟩
              · cases h
            | [], h => cases h
            | c :: r2, h =>
              by_cases hc3 : c = 125
              · subst hc3
                simp only at h
                split at h
                · cases h
                  exact ⟨by omega, by omega, .inr ⟨by omega, by omega⟩⟩
                · cases h
              · simp [hc3] at h
        · rw [bP_other hc (fun z e => h1 ⟨z, e⟩) (fun z e => h3 ⟨z, e⟩)] at h
          cases h
theorem timesP_nf {l : List UInt8} {n m : NodeT} {r : List UInt8} (h0 : NF n) (h : timesP n l = .ok m r) : NF m := by
  cases l with
  | nil => cases h; exact h0
  | cons b q =>
    rw [timesP_cons] at h
    split at h
    · cases h; exact .rep h0 (by decide) (by decide) (.inl rfl)
    · split at h
      · cases h; exact .rep h0 (by decide) (by decide) (.inl rfl)
      · split at h
        · cases h; exact .rep h0 (by decide) (by decide) (.inr (by decide))
        · split at h
          · cases hb : boundsP q with
            | none => rw [hb] at h; cases h
            | some x =>
              obtain ⟨a, c, q2⟩ := x
              obtain ⟨b1, b2, b3⟩ := boundsP_ok hb
              rw [hb] at h
              cases h
              exact .rep h0 b1 b2 b3
          · cases h; exact h0
theorem pieceP_nf {E : List UInt8 → Res NodeT} (hE : ENF E) {l : List UInt8} {n : NodeT} {r : List UInt8} (h : pieceP E l = .ok n r) : NF n := by
  unfold pieceP at h
  cases ha : atomP E l with
  | bad k => rw [ha] at h; cases h
  | ok m q =>
    rw [ha] at h
    exact timesP_nf (atomP_nf hE ha) h
theorem catK_nf : ∀ (l : List NodeT), (∀ x, x ∈ l → NF x) → ∀ y, y ∈ catK l → NF y ∧ y.kind ≠ 0 ∧ y.kind ≠ 4
  | [], _, y, hy => by cases hy
  | x :: l, h, y, hy => by
    have ih := catK_nf l (fun z hz => h z (List.mem_cons_of_mem x hz))
    rw [catK] at hy
    split at hy
    · exact ih y hy
    · rename_i h0
      split at hy
      · rename_i h4
        rcases List.mem_append.1 hy with hy | hy
        · have hx := h x List.mem_cons_self
          cases hx with
          | cat a b c => exact ⟨c y hy, b y hy⟩
          | nil => cases hy
          | one => cases hy
          | beg => cases hy
          | fin => cases hy
          | alt => cases h4
          | rep => cases h4
        · exact ih y hy
      · rename_i h4
        rcases List.mem_cons.1 hy with rfl | hy
        · exact ⟨h y List.mem_cons_self, h0, h4⟩
        · exact ih y hy
theorem altK_nf : ∀ (l : List NodeT), (∀ x, x ∈ l → NF x) → ∀ y, y ∈ altK l → NF y ∧ y.kind ≠ 5
  | [], _, y, hy => by cases hy
  | x :: l, h, y, hy => by
    have ih := altK_nf l (fun z hz => h z (List.mem_cons_of_mem x hz))
    rw [altK] at hy
    split at hy
    · rename_i h5
      rcases List.mem_append.1 hy with hy | hy
      · have hx := h x List.mem_cons_self
        cases hx with
        | alt a b c => exact ⟨c y hy, b y hy⟩
        | nil => cases hy
        | one => cases hy
        | beg => cases hy
        | fin => cases hy
        | cat => cases h5
        | rep => cases h5
      · exact ih y hy
    · rename_i h5
      rcases List.mem_cons.1 hy with rfl | hy
      · exact ⟨h y List.mem_cons_self, h5⟩
      · exact ih y hy
theorem NF.wf {x : NodeT} (h : NF x) : WfT x := by
  cases h with
  | nil => exact wf_nil
  | one => exact wf_one _
  | beg => rintro (h | h) <;> cases h
  | fin => rintro (h | h) <;> cases h
  | cat h _ _ => exact fun _ => h
  | alt h _ _ => exact fun _ => h
  | rep => exact wf_rep _ _ _
theorem catT_nf {l : List NodeT} (h : ∀ x, x ∈ l → NF x) : NF (catT l) := by
  have hk := catK_nf l h
  rcases (show (catK l).length = 0 ∨ (catK l).length = 1 ∨ 2 ≤ (catK l).length by omega) with h0 | h0 | h0
  · rw [catT_zero h0]; exact .nil
  · obtain ⟨x, hx⟩ : ∃ x, catK l = [x] := by
      match hk : catK l, h0 with
      | [x], _ => exact ⟨x, rfl⟩
    rw [catT_one hx]
    exact (hk x (by rw [hx]; exact List.mem_singleton.2 rfl)).1
  · rw [catT_more h0]
    exact .cat h0 (fun x hx => (hk x hx).2) (fun x hx => (hk x hx).1)
theorem choice_nf {l : List NodeT} (h : ∀ x, x ∈ l → NF x) (h1 : 1 ≤ l.length) : NF (choiceT l) := by
  by_cases h2 : l.length = 1
  · match l, h2 with
    | [x], _ => exact h x List.mem_cons_self
  · rw [choice_more h2]
    have hk := altK_nf l h
    exact .alt (by have := altK_ge (fun n hn => (h n hn).wf); omega) (fun x hx => (hk x hx).2) (fun x hx => (hk x hx).1)
theorem mem_snoc {l : List NodeT} {x : NodeT} (h : ∀ y, y ∈ l → NF y) (hx : NF x) : ∀ y, y ∈ l ++ [x] → NF y := fun y hy => by
  rcases List.mem_append.1 hy with hy | hy
  · exact h y hy
  · rw [List.mem_singleton] at hy; rw [hy]; exact hx
theorem seqP_nf {E : List UInt8 → Res NodeT} (hE : ENF E) {g : Bool} : ∀ (n : Nat) (acc : List NodeT) (l : List UInt8) (m : NodeT) (r : List UInt8), (∀ x, x ∈ acc → NF x) → seqP E g n acc l = .ok m r → NF m
  | 0, _, _, _, _, _, h => by cases h
  | n + 1, acc, l, m, r, ha, h => by
    rw [seqP_next] at h
    split at h
    · cases h; exact catT_nf ha
    · cases hp : pieceP E l with
      | bad k => rw [hp] at h; cases h
      | ok x q =>
        rw [hp] at h
        exact seqP_nf hE n _ q m r (mem_snoc ha (pieceP_nf hE hp)) h
theorem altsP_nf {E : List UInt8 → Res NodeT} (hE : ENF E) {g : Bool} : ∀ (n : Nat) (acc : List NodeT) (l : List UInt8) (m : NodeT) (r : List UInt8), (∀ x, x ∈ acc → NF x) → 1 ≤ acc.length → altsP E g n acc l = .ok m r → NF m
  | 0, _, _, _, _, _, _, h => by cases h
  | n + 1, acc, l, m, r, ha, h1, h => by
    by_cases hb : ∃ q, l = 124 :: q
    · obtain ⟨q, rfl⟩ := hb
      rw [altsP_bar] at h
      cases hs : seqP E g (q.length + 1) [] q with
      | bad k => rw [hs] at h; cases h
      | ok x r2 =>
        rw [hs] at h
        exact altsP_nf hE n _ r2 m r (mem_snoc ha (seqP_nf hE _ _ _ _ _ (fun _ h => by cases h) hs)) (by rw [List.length_append]; omega) h
    · rw [altsP_end (fun q e => hb ⟨q, e⟩)] at h
      cases h
      exact choice_nf ha h1
theorem exprP_nf : ∀ (f : Nat) (g : Bool), ENF (exprP f g)
  | 0, _ => fun _ _ _ h => by cases h
  | f + 1, g => fun l n r h => by
    have hE := exprP_nf f true
    rw [exprP_succ] at h
    cases hs : seqP (exprP f true) g (l.length + 1) [] l with
    | bad k => rw [hs] at h; cases h
    | ok x q =>
      rw [hs] at h
      exact altsP_nf hE _ [x] q n r (fun y hy => by rw [List.mem_singleton] at hy; rw [hy]; exact seqP_nf hE _ _ _ _ _ (fun _ h => by cases h) hs) (Nat.le_refl _) h

/-! ### Where a reading ends -/
theorem seqP_end {E : List UInt8 → Res NodeT} {g : Bool} : ∀ (n : Nat) (acc : List NodeT) (l : List UInt8) (m : NodeT) (r : List UInt8), seqP E g n acc l = .ok m r → stopP g r = true
  | 0, _, _, _, _, h => by cases h
  | n + 1, acc, l, m, r, h => by
    rw [seqP_next] at h
    split at h
    · rename_i hs; cases h; exact hs
    · cases hp : pieceP E l with
      | bad k => rw [hp] at h; cases h
      | ok x q => rw [hp] at h; exact seqP_end n _ q m r h
theorem stop_end {g : Bool} {r : List UInt8} (h : stopP g r = true) (hb : ∀ q, r ≠ 124 :: q) : StopE g r := by
  cases r with
  | nil => exact .inl rfl
  | cons c q =>
    have h' : (c == 124 || (c == 41 && g)) = true := h
    have hc : c ≠ 124 := fun e => hb q (by rw [e])
    rw [beq_eq_false_iff_ne.2 hc, Bool.false_or, Bool.and_eq_true] at h'
    exact .inr ⟨q, by rw [eq_of_beq h'.1], h'.2⟩
theorem altsP_stop {E : List UInt8 → Res NodeT} {g : Bool} : ∀ (n : Nat) (acc : List NodeT) (l : List UInt8) (m : NodeT) (r : List UInt8), stopP g l = true → altsP E g n acc l = .ok m r → StopE g r
  | 0, _, _, _, _, _, h => by cases h
  | n + 1, acc, l, m, r, hs, h => by
    by_cases hb : ∃ q, l = 124 :: q
    · obtain ⟨q, rfl⟩ := hb
      rw [altsP_bar] at h
      cases hs2 : seqP E g (q.length + 1) [] q with
      | bad k => rw [hs2] at h; cases h
      | ok x r2 =>
        rw [hs2] at h
        exact altsP_stop n _ r2 m r (seqP_end _ _ _ _ _ hs2) h
    · rw [altsP_end (fun q e => hb ⟨q, e⟩)] at h
      cases h
      exact stop_end hs (fun q e => hb ⟨q, e⟩)
theorem exprP_stop {f : Nat} {g : Bool} {l : List UInt8} {n : NodeT} {r : List UInt8} (h : exprP f g l = .ok n r) : StopE g r := by
  cases f with
  | zero => cases h
  | succ f =>
    rw [exprP_succ] at h
    cases hs : seqP (exprP f true) g (l.length + 1) [] l with
    | bad k => rw [hs] at h; cases h
    | ok x q =>
      rw [hs] at h
      exact altsP_stop _ _ _ _ _ (seqP_end _ _ _ _ _ hs) h
/-! ### With something behind it an expression is read the same -/
/-- what may stand behind: nothing, or what ends a group -/
def GX (g g' : Bool) (e : List UInt8) : Prop := (e = [] ∧ g' = g) ∨ ((∃ q, e = 41 :: q) ∧ g' = true)
theorem GX.head {g g' : Bool} {e : List UInt8} (h : GX g g' e) {c : UInt8} (hc : c ≠ 41) : ∀ q, e ≠ c :: q := by
  rcases h with ⟨rfl, _⟩ | ⟨⟨p, rfl⟩, _⟩
  · intro q h; cases h
  · intro q h; injection h with h _; exact hc h.symm
theorem GX.no {g g' : Bool} {e : List UInt8} (h : GX g g' e) : noTimes e := fun c q he => ⟨fun hc => h.head (c := 42) (by decide) q (by rw [he, hc]), fun hc => h.head (c := 43) (by decide) q (by rw [he, hc]), fun hc => h.head (c := 63) (by decide) q (by rw [he, hc]), fun hc => h.head (c := 123) (by decide) q (by rw [he, hc])⟩
theorem GX.dig {g g' : Bool} {e : List UInt8} (h : GX g g' e) : ∀ c q, e = c :: q → isDig c = false := by
  rcases h with ⟨rfl, _⟩ | ⟨⟨p, rfl⟩, _⟩
  · intro c q h; cases h
  · intro c q h; injection h with h _; subst h; decide
theorem GX.all {g g' : Bool} {e : List UInt8} (h : GX g g' e) : GX true true e := by
  rcases h with ⟨rfl, _⟩ | ⟨h, _⟩
  · exact .inl ⟨rfl, rfl⟩
  · exact .inr ⟨h, rfl⟩
theorem app_head {l e : List UInt8} {c : UInt8} (hl : ∀ q, l ≠ c :: q) (he : ∀ q, e ≠ c :: q) : ∀ q, l ++ e ≠ c :: q := by
  cases l with
  | nil => exact he
  | cons a l => intro q h; injection h with h _; exact hl l (by rw [h])
theorem app_head2 {l e : List UInt8} {c : UInt8} (hne : l ≠ []) (hl : ∀ q, l ≠ c :: q) : ∀ q, l ++ e ≠ c :: q := by
  cases l with
  | nil => exact absurd rfl hne
  | cons a l => intro q h; injection h with h _; exact hl l (by rw [h])
theorem escP_ext {l r : List UInt8} {S : Nat} (e : List UInt8) (h : escP l = some (S, r)) : escP (l ++ e) = some (S, r ++ e) := by
  cases l with
  | nil => cases h
  | cons b q =>
    rw [List.cons_append]
    rw [escP_cons] at h ⊢
    split at h
    · rename_i c; cases h; rw [if_pos c]
    · rename_i c; rw [if_neg c]
      split at h
      · rename_i c; cases h; rw [if_pos c]
      · rename_i c; rw [if_neg c]
        split at h
        · rename_i c; cases h; rw [if_pos c]
        · rename_i c; rw [if_neg c]
          split at h
          · rename_i c; cases h; rw [if_pos c]
          · rename_i c; rw [if_neg c]
            split at h
            · rename_i c; cases h; rw [if_pos c]
            · rename_i c; rw [if_neg c]
              split at h
              · rename_i c; cases h; rw [if_pos c]
              · cases h
theorem memP_ext {l r : List UInt8} {S : Nat} (e : List UInt8) (h : memP l = some (S, r)) : memP (l ++ e) = some (S, r ++ e) := by
  cases l with
  | nil => cases h
  | cons b q =>
    rw [List.cons_append]
    rw [memP_cons] at h ⊢
    split at h
    · rename_i c; rw [if_pos c]; exact escP_ext e h
    · rename_i c; rw [if_neg c]
      split at h
      · cases h
      · rename_i c; cases h; rw [if_neg c]
theorem itemP_ext {l r e : List UInt8} {S : Nat} (he : ∀ q, e ≠ 45 :: q) (h : itemP l = some (S, r)) : itemP (l ++ e) = some (S, r ++ e) := by
  cases hm : memP l with
  | none => rw [itemP_none hm] at h; cases h
  | some x =>
    obtain ⟨s, q⟩ := x
    have hm2 := memP_ext e hm
    by_cases h45 : ∃ p, q = 45 :: p
    · obtain ⟨p, rfl⟩ := h45
      rw [itemP_two hm] at h
      rw [itemP_two (show memP (l ++ e) = some (s, 45 :: (p ++ e)) from hm2)]
      cases hp : memP p with
      | none => rw [hp] at h; cases h
      | some y =>
        obtain ⟨t, r2⟩ := y
        rw [hp] at h
        rw [memP_ext e hp]
        replace h : (if manyB s = 1 ∧ manyB t = 1 ∧ leastB s ≤ leastB t then some (withB 0 (leastB s) (leastB t), r2) else none) = some (S, r) := h
        show (if manyB s = 1 ∧ manyB t = 1 ∧ leastB s ≤ leastB t then some (withB 0 (leastB s) (leastB t), r2 ++ e) else none) = _
        split at h
        · rename_i c; cases h; rw [if_pos c]
        · cases h
    · have hq : ∀ p, q ≠ 45 :: p := fun p hp => h45 ⟨p, hp⟩
      rw [itemP_one hm hq] at h
      cases h
      exact itemP_one hm2 (app_head hq he)
theorem itemsP_ext {e : List UInt8} (he : ∀ q, e ≠ 45 :: q) : ∀ (n n' all : Nat) (l r : List UInt8) (S : Nat), n ≤ n' → itemsP n all l = some (S, r) → itemsP n' all (l ++ e) = some (S, r ++ e)
  | 0, _, _, _, _, _, _, h => by cases h
  | n + 1, n', all, l, r, S, hn, h => by
    obtain ⟨n', rfl⟩ : ∃ k, n' = k + 1 := ⟨n' - 1, by omega⟩
    by_cases h93 : ∃ q, l = 93 :: q
    · obtain ⟨q, rfl⟩ := h93
      rw [itemsP_end] at h
      cases h
      rfl
    · have h93' : ∀ q, l ≠ 93 :: q := fun q e => h93 ⟨q, e⟩
      rw [itemsP_next h93'] at h
      cases hm : itemP l with
      | none => rw [hm] at h; cases h
      | some x =>
        obtain ⟨s, q⟩ := x
        rw [hm] at h
        have hne : l ≠ [] := fun e => by rw [e] at hm; cases hm
        rw [itemsP_next (app_head2 hne h93'), itemP_ext he hm]
        exact itemsP_ext he n n' _ q r S (by omega) h
theorem classB_ext {neg : Bool} {l r e : List UInt8} {S : Nat} (he : ∀ q, e ≠ 45 :: q) (h : classB neg l = some (S, r)) : classB neg (l ++ e) = some (S, r ++ e) := by
  unfold classB at h ⊢
  cases hm : itemP l with
  | none => rw [hm] at h; cases h
  | some x =>
    obtain ⟨s, q⟩ := x
    rw [hm] at h
    rw [itemP_ext he hm]
    replace h : (match itemsP (q.length + 1) s q with
      | none => none
      | some (all, r2) => if (if neg then notB all else all) = 0 then none else some (if neg then notB all else all, r2)) = some (S, r) := h
    show (match itemsP ((q ++ e).length + 1) s (q ++ e) with
      | none => none
      | some (all, r2) => if (if neg then notB all else all) = 0 then none else some (if neg then notB all else all, r2)) = some (S, r ++ e)
    cases hi : itemsP (q.length + 1) s q with
    | none => rw [hi] at h; cases h
    | some y =>
      obtain ⟨all, r2⟩ := y
      rw [hi] at h
      rw [itemsP_ext he (q.length + 1) ((q ++ e).length + 1) s q r2 all (by rw [List.length_append]; omega) hi]
      replace h : (if (if neg then notB all else all) = 0 then none else some (if neg then notB all else all, r2)) = some (S, r) := h
      show (if (if neg then notB all else all) = 0 then none else some (if neg then notB all else all, r2 ++ e)) = some (S, r ++ e)
      obtain ⟨T, hT⟩ : ∃ T, (if neg then notB all else all) = T := ⟨_, rfl⟩
      rw [hT] at h ⊢
      by_cases hz : T = 0
      · rw [if_pos hz] at h; cases h
      · rw [if_neg hz] at h ⊢; cases h; rfl
theorem classP_ext {l r e : List UInt8} {S : Nat} (he : ∀ q, e ≠ 45 :: q) (h : classP l = some (S, r)) : classP (l ++ e) = some (S, r ++ e) := by
  by_cases h94 : ∃ q, l = 94 :: q
  · obtain ⟨q, rfl⟩ := h94
    rw [classP_hat] at h
    rw [List.cons_append, classP_hat]
    exact classB_ext he h
  · have h94' : ∀ q, l ≠ 94 :: q := fun q e => h94 ⟨q, e⟩
    rw [classP_not h94'] at h
    have hne : l ≠ [] := fun e => by rw [e] at h; cases h
    rw [classP_not (app_head2 hne h94')]
    exact classB_ext he h
theorem dig_ext {e : List UInt8} (he : ∀ c q, e = c :: q → isDig c = false) : ∀ l : List UInt8, (l ++ e).takeWhile isDig = l.takeWhile isDig ∧ (l ++ e).dropWhile isDig = l.dropWhile isDig ++ e
  | [] => by
    cases e with
    | nil => exact ⟨rfl, rfl⟩
    | cons c q => rw [List.nil_append, List.takeWhile_cons, List.dropWhile_cons, he c q rfl]; exact ⟨rfl, rfl⟩
  | c :: l => by
    obtain ⟨h1, h2⟩ := dig_ext he l
    rw [List.cons_append, List.takeWhile_cons, List.dropWhile_cons, List.takeWhile_cons, List.dropWhile_cons, h1, h2]
    cases isDig c <;> exact ⟨rfl, rfl⟩
theorem countP_ext {l r e : List UInt8} {m : Nat} (he : ∀ c q, e = c :: q → isDig c = false) (h : countP l = some (m, r)) : countP (l ++ e) = some (m, r ++ e) := by
  unfold countP at h ⊢
  rw [(dig_ext he l).1, (dig_ext he l).2]
  cases hd : decP (l.takeWhile isDig) with
  | none => rw [hd] at h; cases h
  | some k => rw [hd] at h; cases h; rfl
theorem boundsP_ext {l r e : List UInt8} {a b : Int} (he : ∀ c q, e = c :: q → isDig c = false) (he2 : ∀ q, e ≠ 125 :: q) (h : boundsP l = some (a, b, r)) : boundsP (l ++ e) = some (a, b, r ++ e) := by
  cases hc : countP l with
  | none => rw [bP_none hc] at h; cases h
  | some x =>
    obtain ⟨m, q⟩ := x
    have hc' := countP_ext he hc
    by_cases h1 : ∃ p, q = 125 :: p
    · obtain ⟨p, hp⟩ := h1
      rw [hp] at hc hc'
      rw [bP_one hc] at h
      rw [bP_one hc']
      cases h
      rfl
    · by_cases h2 : ∃ p, q = 44 :: 125 :: p
      · obtain ⟨p, hp⟩ := h2
        rw [hp] at hc hc'
        rw [bP_from hc] at h
        rw [bP_from hc']
        cases h
        rfl
      · by_cases h3 : ∃ p, q = 44 :: p
        · obtain ⟨p, hp⟩ := h3
          have hno : ∀ z, p ≠ 125 :: z := fun z e => h2 ⟨z, by rw [hp, e]⟩
          rw [hp] at hc hc'
          rw [bP_two hc hno] at h
          rw [bP_two (show countP (l ++ e) = some (m, 44 :: (p ++ e)) from hc') (app_head hno he2)]
          cases hc2 : countP p with
          | none => rw [hc2] at h; cases h
          | some y =>
            obtain ⟨m2, q2⟩ := y
            rw [hc2] at h
            have hc2' := countP_ext he hc2
            rw [hc2']
            match q2, h with
            | 125 :: r2, h =>
              simp only at h
              show (if m ≤ m2 then some ((m : Int), (m2 : Int), r2 ++ e) else none) = _
              split at h
              · rename_i c; cases h; rw [if_pos c]
              · cases h
            | [], h => cases h
            | c :: r2, h =>
              by_cases hc3 : c = 125
              · subst hc3
                simp only at h
                show (if m ≤ m2 then some ((m : Int), (m2 : Int), r2 ++ e) else none) = _
                split at h
                · rename_i c; cases h; rw [if_pos c]
                · cases h
              · simp [hc3] at h
        · rw [bP_other hc (fun z e => h1 ⟨z, e⟩) (fun z e => h3 ⟨z, e⟩)] at h
          cases h
theorem timesP_ext {l r e : List UInt8} {n m : NodeT} {g g' : Bool} (he : GX g g' e) (h : timesP n l = .ok m r) : timesP n (l ++ e) = .ok m (r ++ e) := by
  cases l with
  | nil => cases h; exact timesP_none _ he.no
  | cons b q =>
    rw [List.cons_append]
    rw [timesP_cons] at h ⊢
    split at h
    · rename_i c; cases h; rw [if_pos c]
    · rename_i c; rw [if_neg c]
      split at h
      · rename_i c; cases h; rw [if_pos c]
      · rename_i c; rw [if_neg c]
        split at h
        · rename_i c; cases h; rw [if_pos c]
        · rename_i c; rw [if_neg c]
          split at h
          · rename_i c; rw [if_pos c]
            cases hb : boundsP q with
            | none => rw [hb] at h; cases h
            | some x =>
              obtain ⟨a, c, q2⟩ := x
              rw [hb] at h
              rw [boundsP_ext he.dig (he.head (by decide)) hb]
              cases h
              rfl
          · rename_i c; rw [if_neg c]; cases h; rfl
def Ext (E E' : List UInt8 → Res NodeT) (e : List UInt8) : Prop := ∀ l n r, E l = .ok n r → E' (l ++ e) = .ok n (r ++ e)
theorem foundP_ext {k k' : Nat} {x x' : Option (Nat × List UInt8)} {n : NodeT} {r e : List UInt8} (hx : ∀ S q, x = some (S, q) → x' = some (S, q ++ e)) (h : foundP k x = .ok n r) : foundP k' x' = .ok n (r ++ e) := by
  obtain ⟨S, hs, rfl⟩ := foundP_ok h
  rw [hx S r hs]
  rfl
theorem atomP_ext {E E' : List UInt8 → Res NodeT} {g g' : Bool} {l r e : List UInt8} {n : NodeT} (he : GX g g' e) (hE : Ext E E' e) (h : atomP E l = .ok n r) : atomP E' (l ++ e) = .ok n (r ++ e) := by
  cases l with
  | nil => cases h
  | cons b q =>
    rw [List.cons_append]
    rw [atomP_cons] at h ⊢
    split at h
    · rename_i c; rw [if_pos c]
      cases hq : E q with
      | bad k => rw [hq] at h; cases h
      | ok m q2 =>
        rw [hq] at h
        rw [hE q m q2 hq]
        match q2, h with
        | [], h => cases h
        | c :: r2, h =>
          by_cases hc : c = 41
          · subst hc
            simp only at h
            cases h
            rfl
          · simp [hc] at h
    · rename_i c; rw [if_neg c]
      split at h
      · rename_i c; cases h; rw [if_pos c]
      · rename_i c; rw [if_neg c]
        split at h
        · rename_i c; cases h; rw [if_pos c]
        · rename_i c; rw [if_neg c]
          split at h
          · rename_i c; cases h; rw [if_pos c]
          · rename_i c; rw [if_neg c]
            split at h
            · rename_i c; rw [if_pos c]; exact foundP_ext (fun S q hq => escP_ext e hq) h
            · rename_i c; rw [if_neg c]
              split at h
              · rename_i c; rw [if_pos c]; exact foundP_ext (fun S q hq => classP_ext (he.head (by decide)) hq) h
              · rename_i c; rw [if_neg c]
                split at h
                · cases h
                · rename_i c; cases h; rw [if_neg c]
theorem pieceP_ext {E E' : List UInt8 → Res NodeT} {g g' : Bool} {l r e : List UInt8} {n : NodeT} (he : GX g g' e) (hE : Ext E E' e) (h : pieceP E l = .ok n r) : pieceP E' (l ++ e) = .ok n (r ++ e) := by
  unfold pieceP at h ⊢
  cases ha : atomP E l with
  | bad k => rw [ha] at h; cases h
  | ok m q =>
    rw [ha] at h
    rw [atomP_ext he hE ha]
    exact timesP_ext he h
theorem pieceP_head {E : List UInt8 → Res NodeT} {l r : List UInt8} {n : NodeT} (h : pieceP E l = .ok n r) : l ≠ [] ∧ ∀ q, l ≠ 41 :: q := by
  refine ⟨fun e => ?_, fun q e => ?_⟩
  · rw [e] at h; cases h
  · rw [e] at h; cases h
theorem seqP_ext {E E' : List UInt8 → Res NodeT} {g g' : Bool} {e : List UInt8} (he : GX g g' e) (hE : Ext E E' e) : ∀ (n n' : Nat) (acc : List NodeT) (l r : List UInt8) (m : NodeT), n ≤ n' → seqP E g n acc l = .ok m r → seqP E' g' n' acc (l ++ e) = .ok m (r ++ e)
  | 0, _, _, _, _, _, _, h => by cases h
  | n + 1, n', acc, l, r, m, hn, h => by
    obtain ⟨n', rfl⟩ : ∃ k, n' = k + 1 := ⟨n' - 1, by omega⟩
    rw [seqP_next] at h ⊢
    split at h
    · rename_i hs
      injection h with h1 h2
      subst h1 h2
      have hs' : stopP g' (l ++ e) = true := by
        rcases he with ⟨rfl, rfl⟩ | ⟨⟨q, rfl⟩, rfl⟩
        · rw [List.append_nil]; exact hs
        · cases l with
          | nil => rfl
          | cons c l =>
            have hs2 : (c == 124 || (c == 41 && g)) = true := hs
            show (c == 124 || (c == 41 && true)) = true
            cases h1 : c == 124 with
            | true => rfl
            | false =>
              rw [h1, Bool.false_or, Bool.and_eq_true] at hs2
              rw [hs2.1]
              rfl
      rw [if_pos hs']
    · rename_i hs
      cases hp : pieceP E l with
      | bad k => rw [hp] at h; cases h
      | ok x q =>
        rw [hp] at h
        have hh := pieceP_head hp
        have hs' : stopP g' (l ++ e) = false := by
          cases l with
          | nil => exact absurd rfl hh.1
          | cons c l =>
            have hs2 : ¬ (c == 124 || (c == 41 && g)) = true := hs
            have hc41 : c ≠ 41 := fun e => hh.2 l (by rw [e])
            rw [beq_eq_false_iff_ne.2 hc41, Bool.false_and, Bool.or_false, Bool.not_eq_true] at hs2
            show (c == 124 || (c == 41 && g')) = false
            rw [beq_eq_false_iff_ne.2 hc41, hs2]
            rfl
        rw [hs', if_neg (by decide), pieceP_ext he hE hp]
        exact seqP_ext he hE n n' _ q r m (by omega) h
theorem altsP_ext {E E' : List UInt8 → Res NodeT} {g g' : Bool} {e : List UInt8} (he : GX g g' e) (hE : Ext E E' e) : ∀ (n n' : Nat) (acc : List NodeT) (l r : List UInt8) (m : NodeT), n ≤ n' → altsP E g n acc l = .ok m r → altsP E' g' n' acc (l ++ e) = .ok m (r ++ e)
  | 0, _, _, _, _, _, _, h => by cases h
  | n + 1, n', acc, l, r, m, hn, h => by
    obtain ⟨n', rfl⟩ : ∃ k, n' = k + 1 := ⟨n' - 1, by omega⟩
    by_cases hb : ∃ q, l = 124 :: q
    · obtain ⟨q, rfl⟩ := hb
      rw [altsP_bar] at h
      rw [List.cons_append, altsP_bar]
      cases hs : seqP E g (q.length + 1) [] q with
      | bad k => rw [hs] at h; cases h
      | ok x r2 =>
        rw [hs] at h
        rw [seqP_ext he hE (q.length + 1) ((q ++ e).length + 1) [] q r2 x (by rw [List.length_append]; omega) hs]
        exact altsP_ext he hE n n' _ r2 r m (by omega) h
    · have hb' : ∀ q, l ≠ 124 :: q := fun q e => hb ⟨q, e⟩
      rw [altsP_end hb'] at h
      cases h
      exact altsP_end (app_head hb' (he.head (by decide)))
theorem exprP_ext : ∀ (f f' : Nat) (g g' : Bool) (e : List UInt8), f ≤ f' → GX g g' e → Ext (exprP f g) (exprP f' g') e
  | 0, _, _, _, _, _, _ => fun _ _ _ h => by cases h
  | f + 1, f', g, g', e, hf, he => fun l n r h => by
    obtain ⟨f', rfl⟩ : ∃ k, f' = k + 1 := ⟨f' - 1, by omega⟩
    have hE := exprP_ext f f' true true e (by omega) he.all
    rw [exprP_succ] at h ⊢
    cases hs : seqP (exprP f true) g (l.length + 1) [] l with
    | bad k => rw [hs] at h; cases h
    | ok x q =>
      rw [hs] at h
      rw [seqP_ext he hE (l.length + 1) ((l ++ e).length + 1) [] l q x (by rw [List.length_append]; omega) hs]
      exact altsP_ext he hE (q.length + 1) ((q ++ e).length + 1) [x] q r n (by rw [List.length_append]; omega) h
end Go.Proofs.YtgcojilaeflfbaaGreatDoor
