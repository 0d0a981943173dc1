/- Lists of entries that are merged: in order, each once. No walk. -/
import Derived.Test.YtilcanblgdmecaaHeapMBox
namespace Go.Proofs.Ytilcanblgdmecaa
open Go.RowKit
set_option linter.unusedVariables false
set_option linter.unusedSimpArgs false

def StrictB (asc : Bool) (l : List EntB) : Prop := l.Pairwise fun a b => aheadB a b asc = true
def insB (asc : Bool) (x : EntB) : List EntB → List EntB
  | [] => [x]
  | y :: l => if aheadB x y asc = true then x :: y :: l else if aheadB y x asc = true then y :: insB asc x l else y :: l
/-- in order, each once -/
def uniqB (asc : Bool) (l : List EntB) : List EntB := l.foldl (fun out x => insB asc x out) []
theorem insB_mem (asc : Bool) (x : EntB) (l : List EntB) : ∀ e, e ∈ insB asc x l ↔ e = x ∨ e ∈ l := by
  induction l with
  | nil => intro e; simp [insB]
  | cons y l ih =>
    intro e
    unfold insB
    by_cases h1 : aheadB x y asc = true
    · rw [if_pos h1]
      simp
    · rw [if_neg h1]
      by_cases h2 : aheadB y x asc = true
      · rw [if_pos h2, List.mem_cons, ih e, List.mem_cons]
        constructor
        · rintro (h | h | h)
          · exact .inr (.inl h)
          · exact .inl h
          · exact .inr (.inr h)
        · rintro (h | h | h)
          · exact .inr (.inl h)
          · exact .inl h
          · exact .inr (.inr h)
      · rw [if_neg h2]
        have hxy : x = y := ahead_total (by simpa using h1) (by simpa using h2)
        subst hxy
        simp
theorem insB_strict (asc : Bool) (x : EntB) (l : List EntB) (h : StrictB asc l) : StrictB asc (insB asc x l) := by
  induction l with
  | nil => exact List.pairwise_singleton _ _
  | cons y l ih =>
    have h' := List.pairwise_cons.1 h
    unfold insB
    by_cases h1 : aheadB x y asc = true
    · rw [if_pos h1]
      refine List.pairwise_cons.2 ⟨fun z hz => ?_, h⟩
      rcases List.mem_cons.1 hz with rfl | hz
      · exact h1
      · exact ahead_trans h1 (h'.1 z hz)
    · rw [if_neg h1]
      by_cases h2 : aheadB y x asc = true
      · rw [if_pos h2]
        refine List.pairwise_cons.2 ⟨fun z hz => ?_, ih h'.2⟩
        rcases (insB_mem asc x l z).1 hz with rfl | hz
        · exact h2
        · exact h'.1 z hz
      · rw [if_neg h2]
        exact h
theorem uniq_go (asc : Bool) (l : List EntB) : ∀ m, StrictB asc m → StrictB asc (l.foldl (fun out x => insB asc x out) m) ∧ ∀ e, e ∈ l.foldl (fun out x => insB asc x out) m ↔ e ∈ m ∨ e ∈ l := by
  induction l with
  | nil => intro m h; exact ⟨h, fun e => by simp⟩
  | cons x l ih =>
    intro m h
    obtain ⟨h1, h2⟩ := ih (insB asc x m) (insB_strict asc x m h)
    refine ⟨h1, fun e => (h2 e).trans ?_⟩
    rw [insB_mem, List.mem_cons]
    constructor
    · rintro ((h | h) | h)
      · exact .inr (.inl h)
      · exact .inl h
      · exact .inr (.inr h)
    · rintro (h | h | h)
      · exact .inl (.inr h)
      · exact .inl (.inl h)
      · exact .inr h
theorem uniq_strict (asc : Bool) (l : List EntB) : StrictB asc (uniqB asc l) := (uniq_go asc l [] List.Pairwise.nil).1
theorem uniq_mem (asc : Bool) (l : List EntB) (e : EntB) : e ∈ uniqB asc l ↔ e ∈ l := by
  rw [uniqB, (uniq_go asc l [] List.Pairwise.nil).2 e]
  simp
theorem strict_same {asc : Bool} : ∀ {l m : List EntB}, StrictB asc l → StrictB asc m → (∀ e, e ∈ l ↔ e ∈ m) → l = m := by
  intro l
  induction l with
  | nil =>
    intro m _ _ h
    cases m with
    | nil => rfl
    | cons y m => exact absurd ((h y).2 List.mem_cons_self) List.not_mem_nil
  | cons x l ih =>
    intro m hl hm h
    cases m with
    | nil => exact absurd ((h x).1 List.mem_cons_self) List.not_mem_nil
    | cons y m =>
      have hl' := List.pairwise_cons.1 hl
      have hm' := List.pairwise_cons.1 hm
      have hxy : x = y := by
        rcases List.mem_cons.1 ((h x).1 List.mem_cons_self) with e | e
        · exact e
        · rcases List.mem_cons.1 ((h y).2 List.mem_cons_self) with e2 | e2
          · exact e2.symm
          · have a1 := hm'.1 x e
            have a2 := hl'.1 y e2
            rw [ahead_anti a1] at a2
            cases a2
      subst hxy
      have key : ∀ e, e ∈ l ↔ e ∈ m := fun e => by
        have hne : ∀ k : List EntB, (∀ z ∈ k, aheadB x z asc = true) → e ∈ k → e ≠ x := fun k hk he hx => by
          have := hk e he
          rw [hx, ahead_irr] at this
          cases this
        constructor
        · intro he
          rcases List.mem_cons.1 ((h e).1 (List.mem_cons_of_mem _ he)) with e2 | e2
          · exact absurd e2 (hne l hl'.1 he)
          · exact e2
        · intro he
          rcases List.mem_cons.1 ((h e).2 (List.mem_cons_of_mem _ he)) with e2 | e2
          · exact absurd e2 (hne m hm'.1 he)
          · exact e2
      rw [ih hl'.2 hm'.2 key]
/-- so far T is told of U, and R is left -/
structure MergeI (asc : Bool) (U T R : List EntB) : Prop where
  strict : StrictB asc T
  mem : ∀ e, e ∈ U ↔ e ∈ T ∨ e ∈ R
  behind : ∀ e ∈ R, ∀ t ∈ T, aheadB e t asc = false
theorem MergeI.new (asc : Bool) (U R : List EntB) (h : ∀ e, e ∈ U ↔ e ∈ R) : MergeI asc U [] R :=
  ⟨List.Pairwise.nil, fun e => by rw [h e]; simp, fun e _ t ht => absurd ht List.not_mem_nil⟩
theorem MergeI.done {asc : Bool} {U T R : List EntB} {most : Nat} (h : MergeI asc U T R) (hm : T.length ≤ most) (he : T.length = most ∨ R = []) : T = (uniqB asc U).take most := by
  have hq : uniqB asc U = T ++ uniqB asc (R.filter fun e => T.all fun t => !sameE t e) := by
    refine strict_same (uniq_strict _ _) ?_ (fun e => ?_)
    · refine List.pairwise_append.2 ⟨h.strict, uniq_strict _ _, fun t ht e he => ?_⟩
      rw [uniq_mem, List.mem_filter] at he
      cases h1 : aheadB t e asc
      · have h2 := h.behind e he.1 t ht
        have h3 := ahead_total h1 h2
        have h4 := List.all_eq_true.1 he.2 t ht
        rw [h3, sameE_iff.2 rfl] at h4
        cases h4
      · rfl
    · rw [uniq_mem, h.mem e, List.mem_append, uniq_mem, List.mem_filter]
      constructor
      · rintro (h1 | h1)
        · exact .inl h1
        · by_cases h2 : e ∈ T
          · exact .inl h2
          · refine .inr ⟨h1, List.all_eq_true.2 fun t ht => ?_⟩
            cases h3 : sameE t e
            · rfl
            · rw [sameE_iff] at h3
              rw [h3] at ht
              exact absurd ht h2
      · rintro (h1 | h1)
        · exact .inl h1
        · exact .inr h1.1
  rw [hq]
  rcases he with he | he
  · rw [← he, List.take_left]
  · subst he
    rw [List.filter_nil, show uniqB asc [] = [] from rfl, List.append_nil, List.take_of_length_le hm]
theorem MergeI.skip {asc : Bool} {U T R R2 : List EntB} {x : EntB} (h : MergeI asc U T R) (hR : ∀ e, e ∈ R ↔ e = x ∨ e ∈ R2) (hx : x ∈ T) : MergeI asc U T R2 := by
  refine ⟨h.strict, fun e => ?_, fun e he t ht => h.behind e ((hR e).2 (.inr he)) t ht⟩
  rw [h.mem e, hR e]
  constructor
  · rintro (h1 | rfl | h1)
    · exact .inl h1
    · exact .inl hx
    · exact .inr h1
  · rintro (h1 | h1)
    · exact .inl h1
    · exact .inr (.inr h1)
theorem MergeI.tell {asc : Bool} {U T R R2 : List EntB} {x : EntB} (h : MergeI asc U T R) (hR : ∀ e, e ∈ R ↔ e = x ∨ e ∈ R2) (hmin : ∀ e ∈ R, aheadB e x asc = false)
    (hx : T = [] ∨ ∃ S t, T = S ++ [t] ∧ sameE t x = false) : MergeI asc U (T ++ [x]) R2 := by
  have hxR : x ∈ R := (hR x).2 (.inl rfl)
  refine ⟨?_, fun e => ?_, fun e he t ht => ?_⟩
  · refine List.pairwise_append.2 ⟨h.strict, List.pairwise_singleton _ _, fun t ht y hy => ?_⟩
    rw [List.mem_singleton] at hy
    subst hy
    rcases hx with rfl | ⟨S, l, rfl, hl⟩
    · exact absurd ht List.not_mem_nil
    · cases h1 : aheadB t y asc
      · have h2 := h.behind y hxR t ht
        have h3 := ahead_total h1 h2
        rcases List.mem_append.1 ht with h4 | h4
        · have h5 := (List.pairwise_append.1 h.strict).2.2 t h4 l (List.mem_singleton.2 rfl)
          have h6 := h.behind y hxR l (List.mem_append_right _ (List.mem_singleton.2 rfl))
          rw [← h3, h5] at h6
          cases h6
        · rw [List.mem_singleton] at h4
          rw [← h4, h3, sameE_iff.2 rfl] at hl
          cases hl
      · rfl
  · rw [h.mem e, hR e, List.mem_append, List.mem_singleton]
    constructor
    · rintro (h1 | h1 | h1)
      · exact .inl (.inl h1)
      · exact .inl (.inr h1)
      · exact .inr h1
    · rintro ((h1 | h1) | h1)
      · exact .inl h1
      · exact .inr (.inl h1)
      · exact .inr (.inr h1)
  · rcases List.mem_append.1 ht with h1 | h1
    · exact h.behind e ((hR e).2 (.inr he)) t h1
    · rw [List.mem_singleton] at h1
      subst h1
      exact hmin e ((hR e).2 (.inr he))
theorem sorted_go (asc : Bool) (l : List EntX) : ∀ x, sortedGo asc x l = true → ∀ y ∈ l, aheadB y.b x.b asc = false := by
  induction l with
  | nil => intro x _ y hy; exact absurd hy List.not_mem_nil
  | cons z l ih =>
    intro x h y hy
    rw [sortedGo] at h
    cases h1 : aheadB z.b x.b asc
    · rw [h1, if_neg (by decide)] at h
      rcases List.mem_cons.1 hy with rfl | hy
      · exact h1
      · exact ahead_not (ih z h y hy) h1
    · rw [h1, if_pos rfl] at h
      cases h
theorem sorted_tail {asc : Bool} {x : EntX} {l : List EntX} (h : sortedE asc (x :: l) = true) : sortedE asc l = true := by
  cases l with
  | nil => rfl
  | cons z l =>
    have h : sortedGo asc x (z :: l) = true := h
    rw [sortedGo] at h
    cases h1 : aheadB z.b x.b asc
    · rw [h1, if_neg (by decide)] at h
      exact h
    · rw [h1, if_pos rfl] at h
      cases h
theorem sorted_head {asc : Bool} {l : List EntX} (h : sortedE asc l = true) : ∀ y ∈ l, aheadB y.b (l.getD 0 xnil).b asc = false := by
  cases l with
  | nil => intro y hy; exact absurd hy List.not_mem_nil
  | cons x l =>
    intro y hy
    rcases List.mem_cons.1 hy with rfl | hy
    · exact ahead_irr _ _
    · exact sorted_go asc l x h y hy
/-- the entries of what is in a heap -/
def flatM (M : List (KeyP LsX)) : List EntB := M.flatMap fun k => k.it.l.map EntX.b
def totM (M : List (KeyP LsX)) : Nat := (M.map fun k => k.it.n).sum
theorem flat_mem (M : List (KeyP LsX)) (e : EntB) : e ∈ flatM M ↔ ∃ k ∈ M, ∃ x ∈ k.it.l, x.b = e := by
  unfold flatM
  simp only [List.mem_flatMap, List.mem_map]
theorem flat_cons (m : KeyP LsX) (M : List (KeyP LsX)) (e : EntB) : e ∈ flatM (m :: M) ↔ e ∈ m.it.l.map EntX.b ∨ e ∈ flatM M := by
  unfold flatM
  rw [List.flatMap_cons, List.mem_append]
theorem flat_ins (K : LsX → Int) (m : KeyP LsX) (M : List (KeyP LsX)) (e : EntB) : e ∈ flatM (insP K m M) ↔ e ∈ m.it.l.map EntX.b ∨ e ∈ flatM M := by
  rw [← flat_cons, flat_mem, flat_mem]
  constructor
  · rintro ⟨k, hk, x⟩
    exact ⟨k, (insP_perm K m M).mem_iff.1 hk, x⟩
  · rintro ⟨k, hk, x⟩
    exact ⟨k, (insP_perm K m M).mem_iff.2 hk, x⟩
theorem tot_ins (K : LsX → Int) (m : KeyP LsX) (M : List (KeyP LsX)) : totM (insP K m M) = m.it.n + totM M := by
  unfold totM
  rw [((insP_perm K m M).map _).sum_nat, List.map_cons, List.sum_cons]
theorem tot_cons (m : KeyP LsX) (M : List (KeyP LsX)) : totM (m :: M) = m.it.n + totM M := by
  unfold totM
  rw [List.map_cons, List.sum_cons]
/-- what is in a merge's heap -/
def InM (P : MP) (M : List (KeyP LsX)) : Prop := ∀ k ∈ M, GoodL P k.it ∧ sortedE P.asc k.it.l = true
theorem InM.ins {P : MP} {M : List (KeyP LsX)} {x : LsX} {c : Nat} (h : InM P M) (hx : GoodL P x) (hs : sortedE P.asc x.l = true) : InM P (insP (keyM P) ⟨x, c⟩ M) := by
  intro k hk
  rcases List.mem_cons.1 ((insP_perm _ _ _).mem_iff.1 hk) with rfl | hk
  · exact ⟨hx, hs⟩
  · exact h k hk
theorem min_flat {P : MP} {m : KeyP LsX} {M : List (KeyP LsX)} (h : InM P (m :: M)) (hs : SortP (keyM P) (m :: M)) : ∀ e ∈ flatM (m :: M), aheadB e (headE m.it) P.asc = false := by
  intro e he
  rw [flat_mem] at he
  obtain ⟨k, hk, x, hx, rfl⟩ := he
  have h1 := sorted_head (h k hk).2 x hx
  have h2 : aheadB (headE k.it) (headE m.it) P.asc = false := by
    rcases List.mem_cons.1 hk with rfl | hk2
    · exact ahead_irr _ _
    · rw [key_lt (h k hk).1, decide_eq_false_iff_not]
      have := (List.pairwise_cons.1 hs).1 k hk2
      rw [ahd_iff] at this
      omega
  exact ahead_not h1 h2
end Go.Proofs.Ytilcanblgdmecaa
