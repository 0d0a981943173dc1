/- Texts, labels, and lists of them stand in one order. No program. -/
import Derived.Test.YtdbflmkjcgiodaaGreatDoorLabName
import Derived.Lib.Bytealg
import GoSem.Op.String
namespace Go.Proofs.YtdbflmkjcgiodaaGreatDoor
open Go.RowKit
set_option linter.unusedVariables false
set_option linter.unusedSimpArgs false

/-- a comparison that tells an order: who is told alike is the same -/
structure Ord3 {α : Type} (f : α → α → Int) : Prop where
  anti : ∀ a b, f a b = - f b a
  zero : ∀ a b, f a b = 0 → a = b
  trans : ∀ a b c, f a b ≤ 0 → f b c ≤ 0 → f a c ≤ 0
theorem Ord3.refl {α : Type} {f : α → α → Int} (h : Ord3 f) (a : α) : f a a = 0 := by have := h.anti a a; omega
theorem Ord3.less {α : Type} {f : α → α → Int} (h : Ord3 f) {a b c : α} (h1 : f a b < 0) (h2 : f b c ≤ 0) : f a c < 0 := by
  have h3 := h.trans a b c (by omega) h2
  rcases (by omega : f a c < 0 ∨ f a c = 0) with h4 | h4
  · exact h4
  · rw [h.zero a c h4] at h1
    have := h.anti c b
    omega
theorem Ord3.less2 {α : Type} {f : α → α → Int} (h : Ord3 f) {a b c : α} (h1 : f a b ≤ 0) (h2 : f b c < 0) : f a c < 0 := by
  have h3 := h.trans a b c h1 (by omega)
  rcases (by omega : f a c < 0 ∨ f a c = 0) with h4 | h4
  · exact h4
  · rw [← h.zero a c h4] at h2
    have := h.anti a b
    omega
/-- item by item; what ends first is less -/
def lexC {α : Type} (f : α → α → Int) : List α → List α → Int
  | [], [] => 0
  | [], _ :: _ => -1
  | _ :: _, [] => 1
  | a :: l, b :: m => if f a b = 0 then lexC f l m else f a b
theorem Ord3.lex {α : Type} {f : α → α → Int} (h : Ord3 f) : Ord3 (lexC f) := by
  refine ⟨?_, ?_, ?_⟩
  · intro a
    induction a with
    | nil => intro b; cases b <;> rfl
    | cons x a ih =>
      intro b
      cases b with
      | nil => rfl
      | cons y b =>
        have := h.anti x y
        unfold lexC
        by_cases h0 : f x y = 0
        · rw [if_pos h0, if_pos (by omega)]; exact ih b
        · rw [if_neg h0, if_neg (by omega)]; exact this
  · intro a
    induction a with
    | nil => intro b e; cases b with
      | nil => rfl
      | cons y b => unfold lexC at e; omega
    | cons x a ih =>
      intro b e
      cases b with
      | nil => unfold lexC at e; omega
      | cons y b =>
        unfold lexC at e
        by_cases h0 : f x y = 0
        · rw [if_pos h0] at e
          rw [h.zero x y h0, ih b e]
        · rw [if_neg h0] at e; exact absurd e h0
  · intro a
    induction a with
    | nil => intro b c _ _; cases c <;> unfold lexC <;> omega
    | cons x a ih =>
      intro b c h1 h2
      cases b with
      | nil => unfold lexC at h1; omega
      | cons y b =>
        cases c with
        | nil => unfold lexC at h2; omega
        | cons z c =>
          unfold lexC at h1 h2 ⊢
          by_cases hxy : f x y = 0
          · rw [if_pos hxy] at h1
            have e := h.zero x y hxy
            subst e
            by_cases hxz : f x z = 0
            · rw [if_pos hxz] at h2 ⊢
              exact ih b c h1 h2
            · rw [if_neg hxz] at h2 ⊢
              exact h2
          · rw [if_neg hxy] at h1
            have hlt : f x y < 0 := by omega
            have h3 : f x z < 0 := by
              by_cases hyz : f y z = 0
              · rw [← h.zero y z hyz]; exact hlt
              · rw [if_neg hyz] at h2
                exact h.less hlt h2
            rw [if_neg (by omega)]
            omega
def byteC (a b : UInt8) : Int := if a < b then -1 else if b < a then 1 else 0
theorem byteC_ord : Ord3 byteC := by
  have e : ∀ a b : UInt8, (a < b ↔ a.toNat < b.toNat) := fun a b => UInt8.lt_iff_toNat_lt
  refine ⟨?_, ?_, ?_⟩
  · intro a b
    unfold byteC
    simp only [e]
    split <;> split <;> (try split) <;> omega
  · intro a b h
    unfold byteC at h
    simp only [e] at h
    refine UInt8.toNat_inj.1 ?_
    split at h
    · omega
    · split at h <;> omega
  · intro a b c h1 h2
    unfold byteC at *
    simp only [e] at *
    split at h1 <;> split at h2 <;> (try split at h1) <;> (try split at h2) <;> split <;> (try split) <;> omega
theorem cmpB_lex : ∀ a b : List UInt8, Lib.compareBytes a b = lexC byteC a b
  | [], [] => rfl
  | [], _ :: _ => rfl
  | _ :: _, [] => rfl
  | x :: a, y :: b => by
    have ih := cmpB_lex a b
    have hb : byteC x y = if x < y then -1 else if y < x then 1 else 0 := rfl
    unfold Lib.compareBytes lexC
    rw [hb]
    by_cases h1 : x < y
    · simp [h1]
    · by_cases h2 : y < x
      · simp [h1, h2]
      · simp [h1, h2, ih]
theorem cmpB_ord : Ord3 Lib.compareBytes := by
  have e : Lib.compareBytes = lexC byteC := by funext a b; exact cmpB_lex a b
  rw [e]
  exact byteC_ord.lex
theorem cmpB_vals : ∀ a b : List UInt8, Lib.compareBytes a b = -1 ∨ Lib.compareBytes a b = 0 ∨ Lib.compareBytes a b = 1
  | [], [] => .inr (.inl rfl)
  | [], _ :: _ => .inl rfl
  | _ :: _, [] => .inr (.inr rfl)
  | x :: a, y :: b => by
    have ih := cmpB_vals a b
    unfold Lib.compareBytes
    split
    · exact .inl rfl
    · split
      · exact .inr (.inr rfl)
      · exact ih
theorem less_cmpB : ∀ a b : List UInt8, Op.bytesLess a b = decide (Lib.compareBytes a b < 0)
  | [], [] => rfl
  | [], _ :: _ => rfl
  | _ :: _, [] => rfl
  | x :: a, y :: b => by
    have ih := less_cmpB a b
    unfold Op.bytesLess Lib.compareBytes
    by_cases h1 : x < y
    · simp [h1]
    · by_cases h2 : y < x
      · have h3 : ¬ x = y := fun h => by rw [h] at h2; exact absurd h2 (UInt8.lt_irrefl y)
        simp [h1, h2, h3]
      · have h3 : x = y := UInt8.le_antisymm (UInt8.not_lt.1 h2) (UInt8.not_lt.1 h1)
        simp [h1, h2, h3, ih]
/-- names, and values, held against one another -/
def txtC (a b : ByteArray) : Int := Lib.compareBytes a.data.toList b.data.toList
theorem txtC_ord : Ord3 txtC := ⟨fun a b => cmpB_ord.anti _ _, fun a b h => text_ext1 (cmpB_ord.zero _ _ h), fun a b c => cmpB_ord.trans _ _ _⟩
theorem txtC_vals (a b : ByteArray) : txtC a b = -1 ∨ txtC a b = 0 ∨ txtC a b = 1 := cmpB_vals _ _
theorem less_txtC (a b : ByteArray) : Op.bytesLess a.toList b.toList = decide (txtC a b < 0) := by
  rw [Lib.toList_data, Lib.toList_data]
  exact less_cmpB _ _
/-- labels -/
def pairC (p q : PairB) : Int := if txtC p.1 q.1 = 0 then txtC p.2 q.2 else txtC p.1 q.1
theorem pairC_ord : Ord3 pairC := by
  refine ⟨?_, ?_, ?_⟩
  · intro a b
    have h1 := txtC_ord.anti a.1 b.1
    have h2 := txtC_ord.anti a.2 b.2
    unfold pairC
    by_cases h0 : txtC a.1 b.1 = 0
    · rw [if_pos h0, if_pos (by omega)]; exact h2
    · rw [if_neg h0, if_neg (by omega)]; exact h1
  · intro a b h
    unfold pairC at h
    by_cases h0 : txtC a.1 b.1 = 0
    · rw [if_pos h0] at h
      exact Prod.ext (txtC_ord.zero _ _ h0) (txtC_ord.zero _ _ h)
    · rw [if_neg h0] at h; exact absurd h h0
  · intro a b c h1 h2
    unfold pairC at h1 h2 ⊢
    by_cases hab : txtC a.1 b.1 = 0
    · rw [if_pos hab] at h1
      rw [← txtC_ord.zero _ _ hab] at h2
      by_cases hac : txtC a.1 c.1 = 0
      · rw [if_pos hac] at h2 ⊢
        exact txtC_ord.trans _ _ _ h1 h2
      · rw [if_neg hac] at h2 ⊢
        exact h2
    · rw [if_neg hab] at h1
      have hlt : txtC a.1 c.1 < 0 := by
        by_cases hbc : txtC b.1 c.1 = 0
        · rw [← txtC_ord.zero _ _ hbc]; omega
        · rw [if_neg hbc] at h2
          exact txtC_ord.less (by omega) h2
      rw [if_neg (by omega)]
      omega
theorem pairC_vals (p q : PairB) : pairC p q = -1 ∨ pairC p q = 0 ∨ pairC p q = 1 := by
  unfold pairC
  split
  · exact txtC_vals _ _
  · exact txtC_vals _ _
/-- sets of labels, as the program orders them -/
def orderL (a b : List PairB) : Int := lexC pairC a b
theorem orderL_ord : Ord3 orderL := pairC_ord.lex
theorem orderL_vals : ∀ a b : List PairB, orderL a b = -1 ∨ orderL a b = 0 ∨ orderL a b = 1
  | [], [] => .inr (.inl rfl)
  | [], _ :: _ => .inl rfl
  | _ :: _, [] => .inr (.inr rfl)
  | x :: a, y :: b => by
    have ih := orderL_vals a b
    unfold orderL at ih ⊢
    rw [lexC]
    split
    · exact ih
    · exact pairC_vals _ _
end Go.Proofs.YtdbflmkjcgiodaaGreatDoor
