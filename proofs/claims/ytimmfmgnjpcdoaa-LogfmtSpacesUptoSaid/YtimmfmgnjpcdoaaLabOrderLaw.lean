/- The walk of the law LabelOrder: the order of sets of labels is one. -/
import Derived.Test.YtimmfmgnjpcdoaaLabTags
namespace Go.Proofs.Ytimmfmgnjpcdoaa
open Go.RowKit
set_option linter.unusedVariables false
set_option linter.unusedSimpArgs false

theorem ofL_len (ps : List PairB) : (ofL ps).length ≤ ps.length := by
  unfold ofL lastsL
  refine Nat.le_trans (keptTo_len _ _) ?_
  rw [sortL_length]
  exact List.length_filter_le _ _
theorem tags_some (A : Option Addr) (n c most : Nat) (x : Int) (hx : x = (most : Int)) (ts : List TagB) (hn : n ≤ 9223372036854775807) (hm : most ≤ 1000000) (W : World) (h1 : TagsP W A n ts) :
    Calls Try.prog 10 #[.slice A n c, .int .i64 x] W fun e w' => ∃ B q k, e = .returned (.slice B q k) ∧ Hid (Pairs w' B q (tagsL ts most)) ∧ Below W.heap.size W w' := by
  subst hx
  refine (tags_any A n c most ts hn hm W h1).mono ?_
  rintro e w' ⟨v, rfl, hown, hb⟩
  obtain ⟨B, k, rfl, _, hp⟩ := hown.pairs
  exact ⟨_, _, _, rfl, Lib.hid hp, hb⟩
theorem of_some (L : List PairB) (hL : L.length < 20) (B : Option Addr) (q k : Nat) (W : World) (h : Hid (Pairs W B q L)) :
    Calls Try.prog 23 #[.slice B q k] W fun e w' => ∃ A m cap, e = .returned (.slice A m cap) ∧ m ≤ L.length ∧ Hid (Pairs w' A m (ofL L)) ∧ Below W.heap.size W w' := by
  have hq : L.length = q := h.out.1
  have hlt : (namedL L).length < 20 := Nat.lt_of_le_of_lt (List.length_filter_le _ _) hL
  refine (of_labels B q k L (by omega) hlt W h.out).mono ?_
  rintro e w' ⟨v, rfl, hown, hb⟩
  obtain ⟨A, cap, rfl, _, hp⟩ := hown.pairs
  exact ⟨_, _, _, rfl, ofL_len L, Lib.hid hp, hb⟩
/-- the order, by one step -/
theorem orders (a b c : List PairB) : ∃ o r s t : Int, orderL a b = o ∧ orderL b a = r ∧ orderL b c = s ∧ orderL a c = t ∧ decide (a = b) = decide (o = 0) ∧
    ((o = 1 ∧ r = -1) ∨ (o = 0 ∧ r = 0) ∨ (o = -1 ∧ r = 1)) ∧ ((s ≤ 0 ∧ decide (0 < s) = false ∧ (o ≤ 0 → t ≤ 0)) ∨ decide (s ≤ 0) = false) := by
  refine ⟨_, _, _, _, rfl, rfl, rfl, rfl, ?_, ?_, ?_⟩
  · by_cases h : a = b
    · subst h
      rw [orderL_ord.refl]
      simp
    · have : ¬ orderL a b = 0 := fun h2 => h (orderL_ord.zero _ _ h2)
      rw [decide_eq_false h, decide_eq_false this]
  · have h1 := orderL_ord.anti a b
    have h2 := orderL_vals a b
    omega
  · by_cases h : orderL b c ≤ 0
    · exact .inl ⟨h, decide_eq_false (by omega), fun h2 => orderL_ord.trans _ _ _ h2 h⟩
    · exact .inr (decide_eq_false h)
theorem order_nil (a : List PairB) : (a.length = 0 ∧ orderL [] a = 0) ∨ (1 ≤ a.length ∧ orderL [] a = -1) := by
  cases a with
  | nil => exact .inl ⟨rfl, rfl⟩
  | cons x l => exact .inr ⟨by simp, rfl⟩

end Go.Proofs.Ytimmfmgnjpcdoaa
