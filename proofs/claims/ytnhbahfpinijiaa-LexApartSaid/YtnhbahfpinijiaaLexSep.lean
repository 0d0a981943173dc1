/- Words one behind the other (the pure part of LexApart and LexLongest). No program. -/
import Derived.Test.YtnhbahfpinijiaaLexPad
namespace Go.Proofs.Ytnhbahfpinijiaa
open Go.RowKit
set_option linter.unusedVariables false

/-- a sign that no other byte of a sign may stand behind -/
theorem pre_sep (o l r : List UInt8) (c : UInt8) (ho : ∀ d ∈ o, d ≠ c) : o.isPrefixOf (l ++ c :: r) = o.isPrefixOf l := by
  induction o generalizing l with
  | nil => simp
  | cons d o ih =>
    cases l with
    | nil =>
      have h1 := ho d List.mem_cons_self
      rw [List.nil_append, List.isPrefixOf_cons_cons]
      have : (d == c) = false := by rw [beq_eq_false_iff_ne]; exact h1
      rw [this]
      rfl
    | cons e l => rw [List.cons_append, List.isPrefixOf_cons_cons, List.isPrefixOf_cons_cons, ih l (fun x hx => ho x (List.mem_cons_of_mem _ hx))]
theorem opL_sep (l r : List UInt8) (c : UInt8) (hc : ∀ o ∈ opsT, ∀ d ∈ o.data.toList, d ≠ c) : opL (l ++ c :: r) = opL l :=
  find_congr _ _ opsT fun o ho => pre_sep _ l r c (hc o ho)
/-- a byte that is none of a sign -/
def freeB (c : UInt8) : Bool := opsT.all fun o => o.data.toList.all fun d => d != c
theorem free_of {c : UInt8} (h : freeB c = true) : ∀ o ∈ opsT, ∀ d ∈ o.data.toList, d ≠ c := by
  intro o ho d hd e
  have h1 := List.all_eq_true.1 h o ho
  have h2 := List.all_eq_true.1 h1 d hd
  rw [e] at h2
  simp at h2
theorem opL_free (c : UInt8) (r : List UInt8) (h : freeB c = true) : opL (c :: r) = none := by
  have := opL_sep [] r c (free_of h)
  rw [List.nil_append] at this
  rw [this]
  decide
theorem good_free : ∀ c : UInt8, goodK [0, 1, 2] c = true → freeB c = true ∧ c ≠ 34 ∧ goodK [3] c = false ∧ c ≠ 45 := by
  have h : ∀ b : Fin 256, goodK [0, 1, 2] (UInt8.ofNat b.1) = true → freeB (UInt8.ofNat b.1) = true ∧ UInt8.ofNat b.1 ≠ 34 ∧ goodK [3] (UInt8.ofNat b.1) = false ∧ UInt8.ofNat b.1 ≠ 45 := by decide +kernel
  intro c hc
  have := h ⟨c.toNat, c.toNat_lt⟩ (by simpa using hc)
  simpa using this
theorem getR_other (c : UInt8) (r : List UInt8) (h : c ≠ 34) : getR (c :: r) = ([], 0, false) := by
  have e : getB (c :: r) = none := by
    show (if c = 34 then getGo (c :: r).length r [] 1 else none) = none
    rw [if_neg h]
  unfold getR
  rw [e]
/-- a name, and what is no byte of one behind it -/
theorem word_name_sep (nm r : List UInt8) (c : UInt8) (hn : ∀ x ∈ nm, goodK [0, 1, 2] x = true) (hh : headK [1, 2] nm = true) (hs : nm.length ≤ 32) (hc : goodK [0, 1, 2] c = false) : wordL (nm ++ c :: r) = (1, tx nm, nm.length) := by
  cases nm with
  | nil => cases hh
  | cons a nm =>
    obtain ⟨f1, f2, f3, f4⟩ := good_free a (hn a List.mem_cons_self)
    have hrun : (a :: nm ++ c :: r).takeWhile (goodK [0, 1, 2]) = a :: nm := by
      rw [List.takeWhile_append_of_pos hn, List.takeWhile_cons_of_neg (by rw [hc]; decide), List.append_nil]
    have hname : nameB (tx (a :: nm)) = true := by
      unfold nameB
      rw [tx_size, tx_list]
      have h0 : goodK [0] a = false := by
        have h : ∀ b : Fin 256, goodK [1, 2] (UInt8.ofNat b.1) = true → goodK [0] (UInt8.ofNat b.1) = false := by decide +kernel
        have := h ⟨a.toNat, a.toNat_lt⟩ (by rw [show UInt8.ofNat a.toNat = a by simp]; exact hh)
        simpa using this
      rw [decide_eq_true (by simp), decide_eq_true hs, List.head?_cons, Option.all_some, h0, List.all_eq_true.2 hn]
      rfl
    have e : nameW (a :: nm ++ c :: r) = (1, tx (a :: nm), (a :: nm).length) := by
      unfold nameW
      rw [hrun, if_pos hname, if_pos hname]
    unfold wordL
    rw [List.cons_append, opL_free a _ f1]
    dsimp only
    rw [getR_other a _ f2, if_neg (by decide), if_pos (show headK [1, 2] (a :: (nm ++ c :: r)) = true from hh), ← List.cons_append, e]
/-- a number, and what is no byte of one behind it -/
theorem word_value_sep (nm r : List UInt8) (c : UInt8) (hn : ∀ x ∈ nm, goodK [0, 1] x = true) (hh : headK [0] nm = true) (hc : goodK [0, 1] c = false) : wordL (nm ++ c :: r) = (3, tx nm, nm.length) := by
  cases nm with
  | nil => cases hh
  | cons a nm =>
    have ha : goodK [0, 1, 2] a = true := by
      have h : ∀ b : Fin 256, goodK [0, 1] (UInt8.ofNat b.1) = true → goodK [0, 1, 2] (UInt8.ofNat b.1) = true := by decide +kernel
      have := h ⟨a.toNat, a.toNat_lt⟩ (by simpa using hn a List.mem_cons_self)
      simpa using this
    have h12 : goodK [1, 2] a = false := by
      have h : ∀ b : Fin 256, goodK [0] (UInt8.ofNat b.1) = true → goodK [1, 2] (UInt8.ofNat b.1) = false := by decide +kernel
      have := h ⟨a.toNat, a.toNat_lt⟩ (by rw [show UInt8.ofNat a.toNat = a by simp]; exact hh)
      simpa using this
    obtain ⟨f1, f2, f3, f4⟩ := good_free a ha
    have hrun : (a :: nm ++ c :: r).takeWhile (goodK [0, 1]) = a :: nm := by
      rw [List.takeWhile_append_of_pos hn, List.takeWhile_cons_of_neg (by rw [hc]; decide), List.append_nil]
    unfold wordL
    rw [List.cons_append, opL_free a _ f1]
    dsimp only
    rw [getR_other a _ f2, if_neg (by decide), if_neg (show ¬ headK [1, 2] (a :: (nm ++ c :: r)) = true by show ¬ goodK [1, 2] a = true; rw [h12]; decide)]
    unfold valueW numW
    rw [List.head?_cons, if_neg (by intro h; injection h with h; exact f4 h), if_pos (show headK [0] (a :: (nm ++ c :: r)) = true from hh), ← List.cons_append, hrun]
/-- a word of so many bytes stands next: it is read -/
theorem lexGo_word (f : Nat) (l : List UInt8) (k : Nat) (acc : List TokB) (kd : Int) (tt : ByteArray) (n : Nat) (hl : l ≠ []) (hsp : spaces l = 0) (hw : wordL l = (kd, tt, n)) (hk : kd ≠ 0) :
    lexGo (f + 1) l k acc = lexGo f (l.drop n) (k + n) (acc ++ [⟨kd, tt, k⟩]) := by
  rw [lexGo_succ, hsp, List.drop_zero, hw, if_neg hl, if_neg hk, Nat.add_zero]
theorem spaces_head (c : UInt8) (r : List UInt8) (h : goodK [3] c = false) : spaces (c :: r) = 0 := by
  unfold spaces
  rw [List.takeWhile_cons_of_neg (by rw [h]; decide)]
  rfl
end Go.Proofs.Ytnhbahfpinijiaa
