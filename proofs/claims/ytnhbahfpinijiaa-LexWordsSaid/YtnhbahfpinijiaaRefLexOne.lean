/- The document's own word that a text begins with. -/
import Derived.Test.YtnhbahfpinijiaaRefLex
namespace Go.Proofs.Ytnhbahfpinijiaa
open Go.RowKit
set_option linter.unusedVariables false

/-- the word, or none -/
def oneL (l : List UInt8) : Int × ByteArray × Nat := if (wordL l).1 = 0 then (0, .empty, 0) else wordL l
theorem oneL_op {l : List UInt8} {o : ByteArray} (h : opL l = some o) : oneL l = (4, o, o.size) := by
  unfold oneL wordL
  rw [h]
  rfl
theorem oneL_text {l : List UInt8} (h : opL l = none) (h2 : (getR l).2.2 = true) : oneL l = (2, tx (getR l).1, (getR l).2.1) := by
  unfold oneL wordL
  rw [h]
  dsimp only
  rw [if_pos h2]
  rfl
def stepK (ks : List Int) (t : ByteArray) (k : Nat) : Prop := ∀ i, i < k → ∃ h : i < t.size, goodK ks t[i] = true
/-- a run that begins good, and ends where it must -/
theorem run_of (ks : List Int) (t : ByteArray) (k : Nat) (h : ∀ i, i < k → ∃ c, t.data.toList[i]? = some c ∧ goodK ks c = true) (hend : ∀ c, t.data.toList[k]? = some c → goodK ks c = false) : (t.data.toList.takeWhile (goodK ks)).length = k := by
  have := run_stop (goodK ks) t.data.toList k 0 (fun i _ hi => h i (by omega)) (fun c hc => hend c (by rw [Nat.zero_add] at hc; exact hc))
  rwa [List.drop_zero] at this
theorem run_text (ks : List Int) (t : ByteArray) (k : Nat) (h : (t.data.toList.takeWhile (goodK ks)).length = k) : t.extract 0 k = tx (t.data.toList.takeWhile (goodK ks)) := by
  refine text_ext1 ?_
  rw [tx_list, mid_list, List.drop_zero, ← h]
  exact (List.prefix_iff_eq_take.1 (List.takeWhile_prefix _)).symm
theorem good012 (c : UInt8) : goodK [0, 1, 2] c = (kindB 1 c.toNat || (kindB 0 c.toNat || decide (c.toNat = 95))) := by
  unfold goodK
  simp only [List.any_cons, List.any_nil, Bool.or_false]
  have : kindB 2 c.toNat = decide (c.toNat = 95) := rfl
  rw [this]
  cases kindB 0 c.toNat <;> cases kindB 1 c.toNat <;> rfl
theorem good01 (c : UInt8) : goodK [0, 1] c = (kindB 1 c.toNat || kindB 0 c.toNat) := by
  unfold goodK
  simp only [List.any_cons, List.any_nil, Bool.or_false]
  cases kindB 0 c.toNat <;> cases kindB 1 c.toNat <;> rfl
theorem good12 (c : UInt8) : goodK [1, 2] c = (kindB 1 c.toNat || decide (c.toNat = 95)) := by
  unfold goodK
  simp only [List.any_cons, List.any_nil, Bool.or_false]
  rfl
theorem good0 (c : UInt8) : goodK [0] c = kindB 0 c.toNat := by
  unfold goodK
  simp only [List.any_cons, List.any_nil, Bool.or_false]
/-- a name: so many bytes, or too many -/
theorem oneL_name {t : ByteArray} {k : Nat} (h : opL t.data.toList = none) (h2 : (getR t.data.toList).2.2 = false) (h3 : headK [1, 2] t.data.toList = true) (hk : (t.data.toList.takeWhile (goodK [0, 1, 2])).length = k) : oneL t.data.toList = if 32 < k then (0, .empty, 0) else (1, t.extract 0 k, k) := by
  have hx := run_text _ t k hk
  have hn : nameB (tx (t.data.toList.takeWhile (goodK [0, 1, 2]))) = decide (k ≤ 32) := by
    have hp := run_head h3 sub12
    rw [hk] at hp
    unfold nameB
    rw [tx_size, tx_list, hk, decide_eq_true (show 0 < k from hp)]
    have ha : (t.data.toList.takeWhile (goodK [0, 1, 2])).all (goodK [0, 1, 2]) = true := List.all_takeWhile
    have hd : ((t.data.toList.takeWhile (goodK [0, 1, 2])).head?.all fun c => !goodK [0] c) = true := by
      cases hl : t.data.toList with
      | nil => rfl
      | cons c r =>
        rw [hl] at h3
        have h4 : goodK [1, 2] c = true := h3
        rw [List.takeWhile_cons_of_pos (sub12 c h4), List.head?_cons, Option.all_some]
        have h5 : ∀ b : Fin 256, goodK [1, 2] (UInt8.ofNat b.1) = true → goodK [0] (UInt8.ofNat b.1) = false := by decide +kernel
        have := h5 ⟨c.toNat, c.toNat_lt⟩ (by rw [show UInt8.ofNat c.toNat = c by simp]; exact h4)
        rw [show UInt8.ofNat c.toNat = c by simp] at this
        rw [this]
        rfl
    rw [ha, hd]
    cases decide (k ≤ 32) <;> rfl
  have e : wordL t.data.toList = nameW t.data.toList := by
    unfold wordL
    rw [h]
    dsimp only
    rw [if_neg (by rw [h2]; decide), if_pos h3]
  unfold oneL
  rw [e]
  unfold nameW
  rw [hn, hk]
  by_cases h32 : 32 < k
  · rw [if_pos h32, decide_eq_false (by omega)]
    rfl
  · rw [if_neg h32, decide_eq_true (by omega), ← hx]
    rfl
/-- a number, with a sign or not -/
theorem oneL_val {t : ByteArray} {k : Nat} (h : opL t.data.toList = none) (h2 : (getR t.data.toList).2.2 = false) (h3 : headK [1, 2] t.data.toList = false) (h4 : headK [0] t.data.toList = true ∨ (t.data.toList.head? = some 45 ∧ headK [0] (t.data.toList.drop 1) = true))
    (hk : 1 + ((t.data.toList.drop 1).takeWhile (goodK [0, 1])).length = k) : oneL t.data.toList = (3, t.extract 0 k, k) := by
  have e : wordL t.data.toList = valueW t.data.toList := by
    unfold wordL
    rw [h]
    dsimp only
    rw [if_neg (by rw [h2]; decide), if_neg (by rw [h3]; decide)]
  obtain ⟨c, r, hl⟩ : ∃ c r, t.data.toList = c :: r := by
    cases hl : t.data.toList with
    | nil => rw [hl] at h4; rcases h4 with h | ⟨h, _⟩ <;> cases h
    | cons c r => exact ⟨c, r, rfl⟩
  have hx : t.extract 0 k = tx (c :: r.takeWhile (goodK [0, 1])) := by
    refine text_ext1 ?_
    rw [tx_list, mid_list, List.drop_zero, hl, ← hk, hl, List.drop_succ_cons, List.drop_zero, Nat.add_comm, List.take_succ_cons]
    exact congrArg (c :: ·) (List.prefix_iff_eq_take.1 (List.takeWhile_prefix _)).symm
  unfold oneL
  rw [e, hx]
  rw [hl] at h4 hk ⊢
  rw [List.drop_succ_cons, List.drop_zero] at h4 hk
  unfold valueW
  by_cases h45 : (c :: r).head? = some 45
  · have h5 : headK [0] r = true := by
      rcases h4 with h | ⟨_, h⟩
      · injection h45 with h45
        rw [h45] at h
        have h7 : goodK [0] 45 = true := h
        exact absurd h7 (by decide)
      · exact h
    rw [if_pos h45, List.drop_succ_cons, List.drop_zero, if_pos h5]
    have ec : c = 45 := by injection h45
    rw [if_neg (show ¬ (3 : Int) = 0 by decide), ← hk, ec]
  · have h5 : headK [0] (c :: r) = true := by
      rcases h4 with h | ⟨h, _⟩
      · exact h
      · exact absurd h h45
    have h6 : goodK [0, 1] c = true := sub01 c h5
    rw [if_neg h45]
    unfold numW
    rw [if_pos h5, List.takeWhile_cons_of_pos h6, if_neg (show ¬ (3 : Int) = 0 by decide), List.length_cons, ← hk, Nat.add_comm]
theorem oneL_none {t : ByteArray} (h : opL t.data.toList = none) (h2 : (getR t.data.toList).2.2 = false) (h3 : headK [1, 2] t.data.toList = false) (h4 : headK [0] t.data.toList = false) (h5 : ¬ (t.data.toList.head? = some 45 ∧ headK [0] (t.data.toList.drop 1) = true)) : oneL t.data.toList = (0, .empty, 0) := by
  have e : wordL t.data.toList = valueW t.data.toList := by
    unfold wordL
    rw [h]
    dsimp only
    rw [if_neg (by rw [h2]; decide), if_neg (by rw [h3]; decide)]
  unfold oneL
  rw [e]
  unfold valueW
  by_cases h45 : t.data.toList.head? = some 45
  · rw [if_pos h45, if_neg (fun h6 => h5 ⟨h45, h6⟩)]
    rfl
  · rw [if_neg h45]
    have e2 : numW t.data.toList = (0, .empty, 0) := by
      unfold numW
      rw [h4]
      rfl
    rw [e2]
    rfl
end Go.Proofs.Ytnhbahfpinijiaa
