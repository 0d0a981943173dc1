/- Words with more spaces ahead and behind (the pure part of LexSpaces). No program. -/
import Derived.Test.YtnhbahfpinijiaaLexPlacesLaw
namespace Go.Proofs.Ytnhbahfpinijiaa
open Go.RowKit
set_option linter.unusedVariables false

def allSp (p : List UInt8) : Prop := ∀ c ∈ p, goodK [3] c = true
theorem sp_kinds : ∀ c : UInt8, goodK [3] c = true → goodK [0] c = false ∧ goodK [0, 1] c = false ∧ goodK [0, 1, 2] c = false ∧ goodK [1, 2] c = false ∧ c ≠ 34 ∧ c ≠ 45 := by
  have h : ∀ b : Fin 256, goodK [3] (UInt8.ofNat b.1) = true → goodK [0] (UInt8.ofNat b.1) = false ∧ goodK [0, 1] (UInt8.ofNat b.1) = false ∧ goodK [0, 1, 2] (UInt8.ofNat b.1) = false ∧ goodK [1, 2] (UInt8.ofNat b.1) = false ∧ UInt8.ofNat b.1 ≠ 34 ∧ UInt8.ofNat b.1 ≠ 45 := by decide +kernel
  intro c hc
  have := h ⟨c.toNat, c.toNat_lt⟩ (by simpa using hc)
  simpa using this
theorem ops_bytes : ∀ o ∈ opsT, ∀ c ∈ o.data.toList, goodK [3] c = false := by decide +kernel
theorem run_pad (q : UInt8 → Bool) (l p : List UInt8) (hq : ∀ c ∈ p, q c = false) : (l ++ p).takeWhile q = l.takeWhile q := by
  induction l with
  | nil =>
    cases p with
    | nil => rfl
    | cons c r => rw [List.nil_append, List.takeWhile_cons_of_neg (by rw [hq c List.mem_cons_self]; decide)]; rfl
  | cons c l ih =>
    rw [List.cons_append]
    by_cases hc : q c = true
    · rw [List.takeWhile_cons_of_pos hc, List.takeWhile_cons_of_pos hc, ih]
    · rw [List.takeWhile_cons_of_neg hc, List.takeWhile_cons_of_neg hc]
theorem pre_pad (o l p : List UInt8) (ho : ∀ c ∈ o, goodK [3] c = false) (hp : allSp p) : o.isPrefixOf (l ++ p) = o.isPrefixOf l := by
  induction o generalizing l with
  | nil => simp
  | cons c o ih =>
    cases l with
    | nil =>
      cases p with
      | nil => rfl
      | cons d r =>
        have h1 := ho c List.mem_cons_self
        have h2 := hp d List.mem_cons_self
        rw [List.nil_append, List.isPrefixOf_cons_cons]
        have : (c == d) = false := by
          rw [beq_eq_false_iff_ne]
          intro e
          rw [e, h2] at h1
          cases h1
        rw [this]
        rfl
    | cons d l =>
      rw [List.cons_append, List.isPrefixOf_cons_cons, List.isPrefixOf_cons_cons, ih l (fun x hx => ho x (List.mem_cons_of_mem _ hx))]
theorem find_congr {α : Type} (p q : α → Bool) : ∀ (l : List α), (∀ a ∈ l, p a = q a) → l.find? p = l.find? q
  | [], _ => rfl
  | a :: l, h => by rw [List.find?_cons, List.find?_cons, h a List.mem_cons_self, find_congr p q l (fun b hb => h b (List.mem_cons_of_mem _ hb))]
theorem opL_pad (l p : List UInt8) (hp : allSp p) : opL (l ++ p) = opL l :=
  find_congr _ _ opsT fun o ho => pre_pad _ l p (ops_bytes o ho) hp
theorem head_pad (ks : List Int) (l p : List UInt8) (hl : l ≠ []) : headK ks (l ++ p) = headK ks l := by
  cases l with
  | nil => exact absurd rfl hl
  | cons c l => rfl
theorem head_all (ks : List Int) (p : List UInt8) (hq : ∀ c ∈ p, goodK ks c = false) : headK ks p = false := by
  cases p with
  | nil => rfl
  | cons c r => exact hq c List.mem_cons_self
/-- the first form reads no further than so many bytes -/
theorem first_pad (c : UInt8) (r p : List UInt8) (h : (firstB (c :: r ++ p)).2.1 ≤ (c :: r).length) (hok : (firstB (c :: r ++ p)).2.2 = true) : firstB (c :: r) = firstB (c :: r ++ p) := by
  by_cases h92 : c = 92
  · subst h92
    cases r with
    | nil =>
      cases p with
      | nil => rfl
      | cons d p =>
        exfalso
        have h3 : 2 ≤ (firstB (92 :: [] ++ d :: p)).2.1 := by
          simp only [firstB, List.cons_append, List.nil_append] at hok ⊢
          simp only [ne_eq, not_true_eq_false, if_false] at hok ⊢
          repeat' split
          all_goals simp_all
        simp only [List.length_cons, List.length_nil] at h
        omega
    | cons d r =>
      simp only [firstB, List.cons_append] at h hok ⊢
      simp only [ne_eq, not_true_eq_false, if_false] at h hok ⊢
      by_cases h1 : d = 34 ∨ d = 92
      · rw [if_pos h1, if_pos h1]
      · simp only [if_neg h1] at h hok ⊢
        by_cases h2 : d = 110
        · rw [if_pos h2, if_pos h2]
        · simp only [if_neg h2] at h hok ⊢
          by_cases h3 : d = 116
          · rw [if_pos h3, if_pos h3]
          · simp only [if_neg h3] at h hok ⊢
            by_cases h4 : d = 120
            · simp only [if_pos h4] at h hok ⊢
              match r, h with
              | a :: b :: r, _ => rfl
              | [], h => simp at h
              | [a], h => simp at h
            · rw [if_neg h4, if_neg h4]
  · have e : ∀ x, firstB (c :: x) = (c, 1, !rareB c && (c != 10 && c != 9)) := fun x => by simp [firstB, h92]
    rw [List.cons_append, e, e]
theorem getGo_none (p : List UInt8) (hp : ∀ c ∈ p, c ≠ 34) : ∀ (f : Nat) (out : List UInt8) (n k : Nat), getGo f (p.drop k) out n = none := by
  intro f
  induction f with
  | zero => intros; rfl
  | succ f ih =>
    intro out n k
    cases h : p.drop k with
    | nil => rfl
    | cons c r =>
      have hc : c ∈ p := List.mem_of_mem_drop (by rw [h]; exact List.mem_cons_self)
      rw [getGo, if_neg (hp c hc)]
      split
      · have e : (c :: r).drop (firstB (c :: r)).2.1 = p.drop (k + (firstB (c :: r)).2.1) := by rw [← List.drop_drop, h]
        rw [e]
        exact ih _ _ _
      · rfl
theorem getGo_pad (p : List UInt8) (hp : ∀ c ∈ p, c ≠ 34) : ∀ (f : Nat) (l out : List UInt8) (n : Nat) (z : List UInt8 × Nat), getGo f (l ++ p) out n = some z → getGo f l out n = some z := by
  intro f
  induction f with
  | zero => intro l out n z h; cases h
  | succ f ih =>
    intro l out n z h
    cases l with
    | nil =>
      rw [List.nil_append] at h
      have := getGo_none p hp (f + 1) out n 0
      rw [List.drop_zero, h] at this
      cases this
    | cons c r =>
      rw [List.cons_append, getGo] at h
      rw [getGo]
      by_cases hc : c = 34
      · rw [if_pos hc] at h ⊢
        exact h
      · rw [if_neg hc] at h ⊢
        by_cases hok : (firstB (c :: (r ++ p))).2.2 = true
        · rw [if_pos hok] at h
          rcases Nat.lt_or_ge (c :: r).length (firstB (c :: (r ++ p))).2.1 with hlt | hge
          · exfalso
            have e : (c :: (r ++ p)).drop (firstB (c :: (r ++ p))).2.1 = p.drop ((firstB (c :: (r ++ p))).2.1 - (c :: r).length) := by
              show ((c :: r) ++ p).drop (firstB (c :: (r ++ p))).2.1 = _
              rw [List.drop_append, List.drop_eq_nil_of_le (Nat.le_of_lt hlt), List.nil_append]
            rw [e, getGo_none p hp] at h
            cases h
          · have e := first_pad c r p hge hok
            rw [List.cons_append] at e
            rw [e, if_pos hok]
            have e2 : (c :: (r ++ p)).drop (firstB (c :: (r ++ p))).2.1 = (c :: r).drop (firstB (c :: (r ++ p))).2.1 ++ p := List.drop_append_of_le_length (l₁ := c :: r) hge
            rw [e2] at h
            exact ih _ _ _ _ h
        · rw [if_neg hok] at h
          cases h
theorem getGo_fuel : ∀ (f g : Nat) (l out : List UInt8) (n : Nat), l.length < f → l.length < g → getGo f l out n = getGo g l out n := by
  intro f
  induction f with
  | zero => intro g l out n h; omega
  | succ f ih =>
    intro g l out n hf hg
    obtain ⟨g, rfl⟩ : ∃ j, g = j + 1 := ⟨g - 1, by omega⟩
    cases l with
    | nil => rfl
    | cons c r =>
      rw [getGo, getGo]
      by_cases hc : c = 34
      · rw [if_pos hc, if_pos hc]
      · rw [if_neg hc, if_neg hc]
        by_cases hok : (firstB (c :: r)).2.2 = true
        · have h1 := firstB_ok c r hok
          rw [if_pos hok, if_pos hok]
          refine ih g _ _ _ ?_ ?_
          · rw [List.length_drop]; omega
          · rw [List.length_drop]; omega
        · rw [if_neg hok, if_neg hok]
theorem first_more (c : UInt8) (r p : List UInt8) (hok : (firstB (c :: r)).2.2 = true) : firstB (c :: r ++ p) = firstB (c :: r) := by
  by_cases h92 : c = 92
  · subst h92
    cases r with
    | nil => cases hok
    | cons d r =>
      simp only [firstB, List.cons_append] at hok ⊢
      simp only [ne_eq, not_true_eq_false, if_false] at hok ⊢
      by_cases h1 : d = 34 ∨ d = 92
      · rw [if_pos h1, if_pos h1]
      · rw [if_neg h1] at hok
        rw [if_neg h1, if_neg h1]
        by_cases h2 : d = 110
        · rw [if_pos h2, if_pos h2]
        · rw [if_neg h2] at hok
          rw [if_neg h2, if_neg h2]
          by_cases h3 : d = 116
          · rw [if_pos h3, if_pos h3]
          · rw [if_neg h3] at hok
            rw [if_neg h3, if_neg h3]
            by_cases h4 : d = 120
            · rw [if_pos h4] at hok
              rw [if_pos h4, if_pos h4]
              match r, hok with
              | a :: b :: r, _ => rfl
              | [], h => cases h
              | [a], h => cases h
            · rw [if_neg h4, if_neg h4]
  · have e : ∀ x, firstB (c :: x) = (c, 1, !rareB c && (c != 10 && c != 9)) := fun x => by simp [firstB, h92]
    rw [List.cons_append, e, e]
theorem getGo_more (p : List UInt8) : ∀ (f : Nat) (l out : List UInt8) (n : Nat) (z : List UInt8 × Nat), getGo f l out n = some z → getGo f (l ++ p) out n = some z := by
  intro f
  induction f with
  | zero => intro l out n z h; cases h
  | succ f ih =>
    intro l out n z h
    cases l with
    | nil => cases h
    | cons c r =>
      rw [getGo] at h
      rw [List.cons_append, getGo]
      by_cases hc : c = 34
      · rw [if_pos hc] at h ⊢
        exact h
      · rw [if_neg hc] at h ⊢
        by_cases hok : (firstB (c :: r)).2.2 = true
        · rw [if_pos hok] at h
          have h1 := firstB_ok c r hok
          have e := first_more c r p hok
          rw [List.cons_append] at e
          rw [e, if_pos hok]
          have e2 : (c :: (r ++ p)).drop (firstB (c :: r)).2.1 = (c :: r).drop (firstB (c :: r)).2.1 ++ p := List.drop_append_of_le_length (l₁ := c :: r) h1.2
          rw [e2]
          exact ih _ _ _ _ h
        · rw [if_neg hok] at h
          cases h
theorem getB_pad (l p : List UInt8) (hp : ∀ c ∈ p, c ≠ 34) : getB (l ++ p) = getB l := by
  cases l with
  | nil =>
    cases p with
    | nil => rfl
    | cons c r => rw [List.nil_append, getB, if_neg (hp c List.mem_cons_self)]; rfl
  | cons c r =>
    rw [List.cons_append, getB, getB]
    by_cases hc : c = 34
    · rw [if_pos hc, if_pos hc]
      have e1 : getGo (c :: (r ++ p)).length (r ++ p) [] 1 = getGo (r.length + p.length + 1) (r ++ p) [] 1 := by
        rw [List.length_cons, List.length_append]
      have e2 : getGo (c :: r).length r [] 1 = getGo (r.length + p.length + 1) r [] 1 := getGo_fuel _ _ r [] 1 (by rw [List.length_cons]; omega) (by omega)
      rw [e1, e2]
      cases h : getGo (r.length + p.length + 1) (r ++ p) [] 1 with
      | some z => exact (getGo_pad p hp _ _ _ _ z h).symm
      | none =>
        cases h2 : getGo (r.length + p.length + 1) r [] 1 with
        | none => rfl
        | some z => rw [getGo_more p _ _ _ _ z h2] at h; cases h
    · rw [if_neg hc, if_neg hc]
theorem getR_pad (l p : List UInt8) (hp : ∀ c ∈ p, c ≠ 34) : getR (l ++ p) = getR l := by unfold getR; rw [getB_pad l p hp]
theorem word_pad (l p : List UInt8) (hl : l ≠ []) (hp : allSp p) : wordL (l ++ p) = wordL l := by
  have q0 : ∀ c ∈ p, goodK [0] c = false := fun c hc => (sp_kinds c (hp c hc)).1
  have q01 : ∀ c ∈ p, goodK [0, 1] c = false := fun c hc => (sp_kinds c (hp c hc)).2.1
  have q012 : ∀ c ∈ p, goodK [0, 1, 2] c = false := fun c hc => (sp_kinds c (hp c hc)).2.2.1
  have q34 : ∀ c ∈ p, c ≠ 34 := fun c hc => (sp_kinds c (hp c hc)).2.2.2.2.1
  unfold wordL
  rw [opL_pad l p hp, getR_pad l p q34, head_pad _ l p hl]
  have e1 : nameW (l ++ p) = nameW l := by unfold nameW; rw [run_pad _ l p q012]
  have e2 : valueW (l ++ p) = valueW l := by
    unfold valueW numW
    have h1 : (l ++ p).head? = l.head? := by cases l with | nil => exact absurd rfl hl | cons c r => rfl
    have h2 : (l ++ p).drop 1 = l.drop 1 ++ p := by cases l with | nil => exact absurd rfl hl | cons c r => rfl
    have h3 : headK [0] (l.drop 1 ++ p) = headK [0] (l.drop 1) := by
      by_cases h : l.drop 1 = []
      · rw [h, List.nil_append, head_all _ p q0]; rfl
      · exact head_pad _ _ p h
    rw [h1, h2, h3, head_pad _ l p hl, run_pad _ _ p q01, run_pad _ _ p q01]
  rw [e1, e2]
theorem spaces_all (p : List UInt8) (hp : allSp p) : spaces p = p.length := by
  unfold spaces
  have := List.takeWhile_append_of_pos (l₂ := []) hp
  rw [List.append_nil, List.takeWhile_nil, List.append_nil] at this
  rw [this]
theorem spaces_front (p l : List UInt8) (hp : allSp p) : spaces (p ++ l) = p.length + spaces l := by
  unfold spaces
  rw [List.takeWhile_append_of_pos hp, List.length_append]
theorem spaces_back (l p : List UInt8) (h : l.drop (spaces l) ≠ []) : spaces (l ++ p) = spaces l := by
  unfold spaces at *
  induction l with
  | nil => exact absurd rfl h
  | cons c l ih =>
    rw [List.cons_append]
    by_cases hc : goodK [3] c = true
    · rw [List.takeWhile_cons_of_pos hc, List.takeWhile_cons_of_pos hc, List.length_cons, List.length_cons]
      rw [List.takeWhile_cons_of_pos hc, List.length_cons, List.drop_succ_cons] at h
      rw [ih h]
    · rw [List.takeWhile_cons_of_neg hc, List.takeWhile_cons_of_neg hc]
theorem spaces_whole (l : List UInt8) (h : l.drop (spaces l) = []) : allSp l ∧ spaces l = l.length := by
  have h1 : spaces l ≤ l.length := takeWhile_le (goodK [3]) l
  have h2 : l.length ≤ spaces l := List.drop_eq_nil_iff.1 h
  have h3 : l.takeWhile (goodK [3]) = l := (List.takeWhile_prefix _).eq_of_length (by show spaces l = _; omega)
  refine ⟨fun c hc => ?_, by omega⟩
  rw [← h3] at hc
  exact List.all_eq_true.1 List.all_takeWhile c hc
def shT (n : Nat) (p : TokB) : TokB := ⟨p.kind, p.text, p.at_ + n⟩
theorem lexGo_pad (p : List UInt8) (hp : allSp p) (n : Nat) : ∀ (f : Nat) (l : List UInt8) (k : Nat) (acc : List TokB) (g : Nat), l.length < f → l.length < g →
    lexGo g (l ++ p) (k + n) (acc.map (shT n)) = ((lexGo f l k acc).1.map (shT n), if (lexGo f l k acc).2.2 = 0 then (lexGo f l k acc).2.1 + n + p.length else (lexGo f l k acc).2.1 + n, (lexGo f l k acc).2.2) := by
  intro f
  induction f with
  | zero => intro l k acc g h; omega
  | succ f ih =>
    intro l k acc g hf hg
    obtain ⟨g, rfl⟩ : ∃ j, g = j + 1 := ⟨g - 1, by omega⟩
    rw [lexGo_succ, lexGo_succ]
    by_cases h1 : l.drop (spaces l) = []
    · obtain ⟨ha, hs⟩ := spaces_whole l h1
      have hall : allSp (l ++ p) := fun c hc => (List.mem_append.1 hc).elim (ha c) (hp c)
      have e : spaces (l ++ p) = l.length + p.length := by rw [spaces_all _ hall, List.length_append]
      have hd : (l ++ p).drop (spaces (l ++ p)) = [] := by rw [e]; exact List.drop_eq_nil_of_le (by rw [List.length_append]; exact Nat.le_refl _)
      rw [if_pos hd, if_pos h1, e, hs]
      refine Prod.ext rfl (Prod.ext ?_ rfl)
      dsimp only
      rw [if_pos rfl]
      omega
    · have e := spaces_back l p h1
      have hsl : spaces l ≤ l.length := takeWhile_le (goodK [3]) l
      have hd : (l ++ p).drop (spaces (l ++ p)) = l.drop (spaces l) ++ p := by rw [e, List.drop_append_of_le_length hsl]
      have hne : ¬ (l ++ p).drop (spaces (l ++ p)) = [] := by rw [hd]; intro h; exact h1 (List.append_eq_nil_iff.1 h).1
      have hw := word_pad (l.drop (spaces l)) p h1 hp
      obtain ⟨w1, w2, _, _⟩ := word_some (l.drop (spaces l))
      rw [if_neg hne, if_neg h1, hd, hw, e]
      by_cases h2 : (wordL (l.drop (spaces l))).1 = 0
      · rw [if_pos h2, if_pos h2]
        refine Prod.ext rfl (Prod.ext ?_ rfl)
        dsimp only
        rw [if_neg (by decide)]
        omega
      · rw [if_neg h2, if_neg h2]
        have h3 := w2 h2
        rw [List.length_drop] at w1
        have hl2 : ((l.drop (spaces l)).drop (wordL (l.drop (spaces l))).2.2).length < l.length := by
          rw [List.length_drop, List.length_drop]; omega
        have hdd : (l.drop (spaces l) ++ p).drop (wordL (l.drop (spaces l))).2.2 = (l.drop (spaces l)).drop (wordL (l.drop (spaces l))).2.2 ++ p := List.drop_append_of_le_length (by rw [List.length_drop]; exact w1)
        rw [hdd]
        have := ih ((l.drop (spaces l)).drop (wordL (l.drop (spaces l))).2.2) (k + spaces l + (wordL (l.drop (spaces l))).2.2) (acc ++ [⟨(wordL (l.drop (spaces l))).1, (wordL (l.drop (spaces l))).2.1, k + spaces l⟩]) g (by omega) (by omega)
        rw [← this]
        have ek : k + n + spaces l = k + spaces l + n := by omega
        have ek2 : k + spaces l + n + (wordL (l.drop (spaces l))).2.2 = k + spaces l + (wordL (l.drop (spaces l))).2.2 + n := by omega
        rw [ek, ek2, List.map_append]
        rfl
theorem lexGo_fuel : ∀ (f g : Nat) (l : List UInt8) (k : Nat) (acc : List TokB), l.length < f → l.length < g → lexGo f l k acc = lexGo g l k acc := by
  intro f g l k acc hf hg
  have h1 := lexGo_pad [] (fun c hc => by cases hc) 0 f l k acc g hf hg
  have h2 := lexGo_pad [] (fun c hc => by cases hc) 0 f l k acc f hf hf
  rw [List.append_nil] at h1 h2
  have hm : acc.map (shT 0) = acc := by
    clear h1 h2
    induction acc with
    | nil => rfl
    | cons a t ih => rw [List.map_cons, ih]; rfl
  rw [hm, Nat.add_zero] at h1 h2
  rw [h1, ← h2]
theorem lexL_pad (p l : List UInt8) (hp : allSp p) (h : p.length + l.length + p.length ≤ 1024) :
    lexL (p ++ l ++ p) = ((lexL l).1.map (shT p.length), if (lexL l).2.2 = 0 then (lexL l).2.1 + p.length + p.length else (lexL l).2.1 + p.length, (lexL l).2.2) := by
  have hlen : (p ++ l ++ p).length = p.length + l.length + p.length := by rw [List.length_append, List.length_append]
  unfold lexL
  rw [if_neg (show ¬ 1024 < (p ++ l ++ p).length by omega), if_neg (show ¬ 1024 < l.length by omega)]
  have h1 : lexGo ((p ++ l ++ p).length + 1) (p ++ l ++ p) 0 [] = lexGo ((p ++ l ++ p).length + 1) (l ++ p) p.length [] := by
    rw [lexGo_at, lexGo_at, List.append_assoc, spaces_front p _ hp, ← List.drop_drop]
    have e : (p ++ (l ++ p)).drop p.length = l ++ p := by simp
    rw [e, Nat.zero_add]
  rw [h1]
  have h2 := lexGo_pad p hp p.length (l.length + 1) l 0 [] ((p ++ l ++ p).length + 1) (by omega) (by omega)
  rw [Nat.zero_add, List.map_nil] at h2
  exact h2
end Go.Proofs.Ytnhbahfpinijiaa
