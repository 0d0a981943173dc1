/- The document's set of labels is the program's: put in one by one at its place, each over the one of its name. No walk. -/
import Derived.Test.YtimmfmgnjpcdoaaLabSets
import Derived.Test.YtimmfmgnjpcdoaaRefParse6
namespace Go.Proofs.Ytimmfmgnjpcdoaa
open Go.RowKit
set_option linter.unusedVariables false
set_option linter.unusedSimpArgs false

def insF : List PairB → PairB → List PairB
  | [], p => [p]
  | q :: l, p => if txtC q.1 p.1 < 0 then q :: insF l p else if q.1 = p.1 then p :: l else p :: q :: l
theorem insR_eq (p : PairB) : ∀ l : List PairB, insR l p = insF l p
  | [] => by simp [insR, aheadN, sameAt, insF]
  | q :: l => by
    by_cases h : txtC q.1 p.1 < 0
    · have e1 : aheadN p (q :: l) = aheadN p l + 1 := by
        unfold aheadN
        rw [List.takeWhile_cons_of_pos (by simpa using h)]
        rfl
      have e2 : sameAt p (q :: l) (aheadN p l + 1) = sameAt p l (aheadN p l) := by
        unfold sameAt
        rw [List.length_cons, List.getD_cons_succ]
        congr 1
        exact decide_eq_decide.2 (by omega)
      have ih := insR_eq p l
      unfold insR at ih
      unfold insR
      rw [e1, e2, insF, if_pos h, ← ih, List.take_succ_cons]
      rw [show aheadN p l + 1 + (if sameAt p l (aheadN p l) = true then 1 else 0) = (aheadN p l + (if sameAt p l (aheadN p l) = true then 1 else 0)) + 1 by omega, List.drop_succ_cons]
      simp
    · have e1 : aheadN p (q :: l) = 0 := by
        unfold aheadN
        rw [List.takeWhile_cons_of_neg (by simpa using h)]
        rfl
      have e2 : sameAt p (q :: l) 0 = decide (q.1 = p.1) := by
        unfold sameAt
        simp
      unfold insR
      rw [e1, e2, insF, if_neg h]
      by_cases hq : q.1 = p.1
      · rw [if_pos hq, decide_eq_true hq]
        simp
      · rw [if_neg hq, decide_eq_false hq]
        simp
theorem insF_mem (p q : PairB) : ∀ l : List PairB, l.Pairwise RiseP → (q ∈ insF l p ↔ q = p ∨ (q ∈ l ∧ q.1 ≠ p.1))
  | [], _ => by simp [insF]
  | r :: l, h => by
    obtain ⟨h1, h2⟩ := List.pairwise_cons.1 h
    have ih := insF_mem p q l h2
    unfold insF
    by_cases hr : txtC r.1 p.1 < 0
    · have hne : r.1 ≠ p.1 := fun e => by rw [e, txtC_ord.refl] at hr; exact absurd hr (by decide)
      rw [if_pos hr, List.mem_cons, ih, List.mem_cons]
      constructor
      · rintro (rfl | rfl | ⟨k1, k2⟩)
        · exact .inr ⟨.inl rfl, hne⟩
        · exact .inl rfl
        · exact .inr ⟨.inr k1, k2⟩
      · rintro (rfl | ⟨rfl | k1, k2⟩)
        · exact .inr (.inl rfl)
        · exact .inl rfl
        · exact .inr (.inr ⟨k1, k2⟩)
    · rw [if_neg hr]
      by_cases he : r.1 = p.1
      · rw [if_pos he, List.mem_cons, List.mem_cons]
        constructor
        · rintro (rfl | k1)
          · exact .inl rfl
          · refine .inr ⟨.inr k1, fun e => ?_⟩
            exact rise_irrefl r q (he.trans e.symm) (h1 q k1)
        · rintro (rfl | ⟨rfl | k1, k2⟩)
          · exact .inl rfl
          · exact absurd he k2
          · exact .inr k1
      · have hpr : txtC p.1 r.1 < 0 := by
          have a1 := txtC_ord.anti p.1 r.1
          have a2 : ¬ txtC r.1 p.1 = 0 := fun e => he (txtC_ord.zero _ _ e)
          omega
        rw [if_neg he, List.mem_cons, List.mem_cons]
        constructor
        · rintro (rfl | rfl | k1)
          · exact .inl rfl
          · exact .inr ⟨.inl rfl, he⟩
          · refine .inr ⟨.inr k1, fun e => ?_⟩
            have h3 : txtC r.1 q.1 < 0 := h1 q k1
            rw [e] at h3
            exact hr h3
        · rintro (rfl | ⟨k1, k2⟩)
          · exact .inl rfl
          · exact .inr k1
theorem insF_rise (p : PairB) : ∀ l : List PairB, l.Pairwise RiseP → (insF l p).Pairwise RiseP
  | [], _ => by unfold insF; exact List.pairwise_singleton _ _
  | r :: l, h => by
    obtain ⟨h1, h2⟩ := List.pairwise_cons.1 h
    unfold insF
    by_cases hr : txtC r.1 p.1 < 0
    · rw [if_pos hr, List.pairwise_cons]
      refine ⟨fun q hq => ?_, insF_rise p l h2⟩
      rcases (insF_mem p q l h2).1 hq with rfl | ⟨k1, _⟩
      · exact hr
      · exact h1 q k1
    · rw [if_neg hr]
      by_cases he : r.1 = p.1
      · rw [if_pos he, List.pairwise_cons]
        refine ⟨fun q hq => ?_, h2⟩
        show txtC p.1 q.1 < 0
        rw [← he]
        exact h1 q hq
      · have hpr : txtC p.1 r.1 < 0 := by
          have a1 := txtC_ord.anti p.1 r.1
          have a2 : ¬ txtC r.1 p.1 = 0 := fun e => he (txtC_ord.zero _ _ e)
          omega
        rw [if_neg he, List.pairwise_cons]
        refine ⟨fun q hq => ?_, h⟩
        rcases List.mem_cons.1 hq with rfl | hq
        · exact hpr
        · have h3 : txtC r.1 q.1 < 0 := h1 q hq
          exact txtC_ord.less hpr (show txtC r.1 q.1 ≤ 0 by omega)
theorem ofL_snoc (ps : List PairB) (p : PairB) : ofL (ps ++ [p]) = if nameB p.1 = true then insF (ofL ps) p else ofL ps := by
  have hn : namedL (ps ++ [p]) = if nameB p.1 = true then namedL ps ++ [p] else namedL ps := by
    unfold namedL
    rw [List.filter_append]
    by_cases h : nameB p.1 = true
    · rw [if_pos h]
      simp [h]
    · rw [if_neg h]
      simp [h]
  by_cases h : nameB p.1 = true
  · rw [if_pos h] at hn ⊢
    refine rise_ext _ _ (ofL_rise _) (insF_rise p _ (ofL_rise ps)) (fun q => ?_)
    rw [ofL_mem, hn, insF_mem p q _ (ofL_rise ps), ofL_mem, List.filter_append]
    by_cases hq : q.1 = p.1
    · rw [List.filter_cons_of_pos (show ofName q.1 p = true from decide_eq_true hq.symm), List.filter_nil, List.getLast?_append]
      simp [hq, eq_comm]
    · rw [List.filter_cons_of_neg (show ¬ ofName q.1 p = true from fun k => hq (of_decide_eq_true k).symm), List.filter_nil, List.append_nil]
      constructor
      · intro k
        exact .inr ⟨k, hq⟩
      · rintro (rfl | ⟨k, _⟩)
        · exact absurd rfl hq
        · exact k
  · rw [if_neg h] at hn ⊢
    unfold ofL
    rw [hn]
theorem refTo_is (ps : List PairB) : ∀ i, i ≤ ps.length → refTo ps i = ofL (ps.take i)
  | 0, _ => by
    unfold ofL
    rw [show namedL (List.take 0 ps) = [] from rfl, List.eq_nil_of_length_eq_zero (sortL_length [])]
    rfl
  | i + 1, h => by
    have e : ps.getD i pnil = ps[i] := by rw [List.getD_eq_getElem?_getD, List.getElem?_eq_getElem (by omega)]; rfl
    rw [refTo, refTo_is ps i (by omega), List.take_succ_eq_append_getElem (by omega), ofL_snoc, insR_eq, e]
theorem refOfL_is (ps : List PairB) : refOfL ps = ofL ps := by
  unfold refOfL
  rw [refTo_is ps _ (Nat.le_refl _), List.take_length]
end Go.Proofs.Ytimmfmgnjpcdoaa
