-- shaken
import Derived.Test.YtdaainifkldcpaaGreatDoorHeapM
import Derived.Test.YtdaainifkldcpaaGreatDoorEntBackMath
import Derived.Deep.LoopGhost
import Derived.Deep.RegionHeld3
namespace Go.Proofs.YtdaainifkldcpaaGreatDoor
open Go.RowKit
set_option linter.unusedVariables false
set_option linter.unusedSimpArgs false
def StrictB (asc : Bool) (l : List EntB) : Prop := l.Pairwise fun a b => aheadB a b asc = true
def insB (asc : Bool) (x : EntB) : List EntB → List EntB
  | [] => [x]
  | y :: l => if aheadB x y asc = true then x :: y :: l else if aheadB y x asc = true then y :: insB asc x l else y :: l
def uniqB (asc : Bool) (l : List EntB) : List EntB := l.foldl (fun out x => insB asc x out) []
theorem insB_mem (asc : Bool) (x : EntB) (l : List EntB) : ∀ e, e ∈ insB asc x l ↔ e = x ∨ e ∈ l := by
  induction l with
  | nil => intro e; simp [insB]
  | cons y l ih =>
    intro e
    unfold insB
    by_cases h1 : aheadB x y asc = true
    · rw [if_pos h1]
      simp
    · rw [if_neg h1]
      by_cases h2 : aheadB y x asc = true
      · rw [if_pos h2, List.mem_cons, ih e, List.mem_cons]
        constructor
        · rintro (h | h | h)
          · exact .inr (.inl h)
          · exact .inl h
          · exact .inr (.inr h)
        · rintro (h | h | h)
          · exact .inr (.inl h)
          · exact .inl h
          · exact .inr (.inr h)
      · rw [if_neg h2]
        have hxy : x = y := ahead_total (by simpa using h1) (by simpa using h2)
        subst hxy
        simp
theorem insB_strict (asc : Bool) (x : EntB) (l : List EntB) (h : StrictB asc l) : StrictB asc (insB asc x l) := by
  induction l with
  | nil => exact List.pairwise_singleton _ _
  | cons y l ih =>
    have h' := List.pairwise_cons.1 h
    unfold insB
    by_cases h1 : aheadB x y asc = true
    · rw [if_pos h1]
      refine List.pairwise_cons.2 ⟨fun z hz => ?_, h⟩
      rcases List.mem_cons.1 hz with rfl | hz
      · exact h1
      · exact ahead_trans h1 (h'.1 z hz)
    · rw [if_neg h1]
      by_cases h2 : aheadB y x asc = true
      · rw [if_pos h2]
        refine List.pairwise_cons.2 ⟨fun z hz => ?_, ih h'.2⟩
        rcases (insB_mem asc x l z).1 hz with rfl | hz
        · exact h2
        · exact h'.1 z hz
      · rw [if_neg h2]
        exact h
theorem uniq_go (asc : Bool) (l : List EntB) : ∀ m, StrictB asc m → StrictB asc (l.foldl (fun out x => insB asc x out) m) ∧ ∀ e, e ∈ l.foldl (fun out x => insB asc x out) m ↔ e ∈ m ∨ e ∈ l := by
  induction l with
  | nil => intro m h; exact ⟨h, fun e => by simp⟩
  | cons x l ih =>
    intro m h
    obtain ⟨h1, h2⟩ := ih (insB asc x m) (insB_strict asc x m h)
    refine ⟨h1, fun e => (h2 e).trans ?_⟩
    rw [insB_mem, List.mem_cons]
    constructor
    · rintro ((h | h) | h)
      · exact .inr (.inl h)
      · exact .inl h
      · exact .inr (.inr h)
    · rintro (h | h | h)
      · exact .inl (.inr h)
      · exact .inl (.inl h)
      · exact .inr h
theorem uniq_strict (asc : Bool) (l : List EntB) : StrictB asc (uniqB asc l) := (uniq_go asc l [] List.Pairwise.nil).1
theorem uniq_mem (asc : Bool) (l : List EntB) (e : EntB) : e ∈ uniqB asc l ↔ e ∈ l := by
  rw [uniqB, (uniq_go asc l [] List.Pairwise.nil).2 e]
  simp
theorem strict_same {asc : Bool} : ∀ {l m : List EntB}, StrictB asc l → StrictB asc m → (∀ e, e ∈ l ↔ e ∈ m) → l = m := by
  intro l
  induction l with
  | nil =>
    intro m _ _ h
    cases m with
    | nil => rfl
    | cons y m => exact absurd ((h y).2 List.mem_cons_self) List.not_mem_nil
  | cons x l ih =>
    intro m hl hm h
    cases m with
    | nil => exact absurd ((h x).1 List.mem_cons_self) List.not_mem_nil
    | cons y m =>
      have hl' := List.pairwise_cons.1 hl
      have hm' := List.pairwise_cons.1 hm
      have hxy : x = y := by
        rcases List.mem_cons.1 ((h x).1 List.mem_cons_self) with e | e
        · exact e
        · rcases List.mem_cons.1 ((h y).2 List.mem_cons_self) with e2 | e2
          · exact e2.symm
          · have a1 := hm'.1 x e
            have a2 := hl'.1 y e2
            rw [ahead_anti a1] at a2
            cases a2
      subst hxy
      have key : ∀ e, e ∈ l ↔ e ∈ m := fun e => by
        have hne : ∀ k : List EntB, (∀ z ∈ k, aheadB x z asc = true) → e ∈ k → e ≠ x := fun k hk he hx => by
          have := hk e he
          rw [hx, ahead_irr] at this
          cases this
        constructor
        · intro he
          rcases List.mem_cons.1 ((h e).1 (List.mem_cons_of_mem _ he)) with e2 | e2
          · exact absurd e2 (hne l hl'.1 he)
          · exact e2
        · intro he
          rcases List.mem_cons.1 ((h e).2 (List.mem_cons_of_mem _ he)) with e2 | e2
          · exact absurd e2 (hne m hm'.1 he)
          · exact e2
      rw [ih hl'.2 hm'.2 key]
structure MergeI (asc : Bool) (U T R : List EntB) : Prop where
  strict : StrictB asc T
  mem : ∀ e, e ∈ U ↔ e ∈ T ∨ e ∈ R
  behind : ∀ e ∈ R, ∀ t ∈ T, aheadB e t asc = false
theorem MergeI.new (asc : Bool) (U R : List EntB) (h : ∀ e, e ∈ U ↔ e ∈ R) : MergeI asc U [] R :=
  ⟨List.Pairwise.nil, fun e => by rw [h e]; simp, fun e _ t ht => absurd ht List.not_mem_nil⟩
theorem MergeI.done {asc : Bool} {U T R : List EntB} {most : Nat} (h : MergeI asc U T R) (hm : T.length ≤ most) (he : T.length = most ∨ R = []) : T = (uniqB asc U).take most := by
  have hq : uniqB asc U = T ++ uniqB asc (R.filter fun e => T.all fun t => !sameE t e) := by
    refine strict_same (uniq_strict _ _) ?_ (fun e => ?_)
    · refine List.pairwise_append.2 ⟨h.strict, uniq_strict _ _, fun t ht e he => ?_⟩
      rw [uniq_mem, List.mem_filter] at he
      cases h1 : aheadB t e asc
      · have h2 := h.behind e he.1 t ht
        have h3 := ahead_total h1 h2
        have h4 := List.all_eq_true.1 he.2 t ht
        rw [h3, sameE_iff.2 rfl] at h4
        cases h4
      · rfl
    · rw [uniq_mem, h.mem e, List.mem_append, uniq_mem, List.mem_filter]
      constructor
      · rintro (h1 | h1)
        · exact .inl h1
        · by_cases h2 : e ∈ T
          · exact .inl h2
          · refine .inr ⟨h1, List.all_eq_true.2 fun t ht => ?_⟩
            cases h3 : sameE t e
            · rfl
            · rw [sameE_iff] at h3
              rw [h3] at ht
              exact absurd ht h2
      · rintro (h1 | h1)
        · exact .inl h1
        · exact .inr h1.1
  rw [hq]
  rcases he with he | he
  · rw [← he, List.take_left]
  · subst he
    rw [List.filter_nil, show uniqB asc [] = [] from rfl, List.append_nil, List.take_of_length_le hm]
theorem MergeI.skip {asc : Bool} {U T R R2 : List EntB} {x : EntB} (h : MergeI asc U T R) (hR : ∀ e, e ∈ R ↔ e = x ∨ e ∈ R2) (hx : x ∈ T) : MergeI asc U T R2 := by
  refine ⟨h.strict, fun e => ?_, fun e he t ht => h.behind e ((hR e).2 (.inr he)) t ht⟩
  rw [h.mem e, hR e]
  constructor
  · rintro (h1 | rfl | h1)
    · exact .inl h1
    · exact .inl hx
    · exact .inr h1
  · rintro (h1 | h1)
    · exact .inl h1
    · exact .inr (.inr h1)
theorem MergeI.tell {asc : Bool} {U T R R2 : List EntB} {x : EntB} (h : MergeI asc U T R) (hR : ∀ e, e ∈ R ↔ e = x ∨ e ∈ R2) (hmin : ∀ e ∈ R, aheadB e x asc = false)
    (hx : T = [] ∨ ∃ S t, T = S ++ [t] ∧ sameE t x = false) : MergeI asc U (T ++ [x]) R2 := by
  have hxR : x ∈ R := (hR x).2 (.inl rfl)
  refine ⟨?_, fun e => ?_, fun e he t ht => ?_⟩
  · refine List.pairwise_append.2 ⟨h.strict, List.pairwise_singleton _ _, fun t ht y hy => ?_⟩
    rw [List.mem_singleton] at hy
    subst hy
    rcases hx with rfl | ⟨S, l, rfl, hl⟩
    · exact absurd ht List.not_mem_nil
    · cases h1 : aheadB t y asc
      · have h2 := h.behind y hxR t ht
        have h3 := ahead_total h1 h2
        rcases List.mem_append.1 ht with h4 | h4
        · have h5 := (List.pairwise_append.1 h.strict).2.2 t h4 l (List.mem_singleton.2 rfl)
          have h6 := h.behind y hxR l (List.mem_append_right _ (List.mem_singleton.2 rfl))
          rw [← h3, h5] at h6
          cases h6
        · rw [List.mem_singleton] at h4
          rw [← h4, h3, sameE_iff.2 rfl] at hl
          cases hl
      · rfl
  · rw [h.mem e, hR e, List.mem_append, List.mem_singleton]
    constructor
    · rintro (h1 | h1 | h1)
      · exact .inl (.inl h1)
      · exact .inl (.inr h1)
      · exact .inr h1
    · rintro ((h1 | h1) | h1)
      · exact .inl h1
      · exact .inr (.inl h1)
      · exact .inr (.inr h1)
  · rcases List.mem_append.1 ht with h1 | h1
    · exact h.behind e ((hR e).2 (.inr he)) t h1
    · rw [List.mem_singleton] at h1
      subst h1
      exact hmin e ((hR e).2 (.inr he))
theorem sorted_go (asc : Bool) (l : List EntX) : ∀ x, sortedGo asc x l = true → ∀ y ∈ l, aheadB y.b x.b asc = false := by
  induction l with
  | nil => intro x _ y hy; exact absurd hy List.not_mem_nil
  | cons z l ih =>
    intro x h y hy
    rw [sortedGo] at h
    cases h1 : aheadB z.b x.b asc
    · rw [h1, if_neg (by decide)] at h
      rcases List.mem_cons.1 hy with rfl | hy
      · exact h1
      · exact ahead_not (ih z h y hy) h1
    · rw [h1, if_pos rfl] at h
      cases h
theorem sorted_tail {asc : Bool} {x : EntX} {l : List EntX} (h : sortedE asc (x :: l) = true) : sortedE asc l = true := by
  cases l with
  | nil => rfl
  | cons z l =>
    have h : sortedGo asc x (z :: l) = true := h
    rw [sortedGo] at h
    cases h1 : aheadB z.b x.b asc
    · rw [h1, if_neg (by decide)] at h
      exact h
    · rw [h1, if_pos rfl] at h
      cases h
theorem sorted_head {asc : Bool} {l : List EntX} (h : sortedE asc l = true) : ∀ y ∈ l, aheadB y.b (l.getD 0 xnil).b asc = false := by
  cases l with
  | nil => intro y hy; exact absurd hy List.not_mem_nil
  | cons x l =>
    intro y hy
    rcases List.mem_cons.1 hy with rfl | hy
    · exact ahead_irr _ _
    · exact sorted_go asc l x h y hy
def flatM (M : List (KeyP LsX)) : List EntB := M.flatMap fun k => k.it.l.map EntX.b
def totM (M : List (KeyP LsX)) : Nat := (M.map fun k => k.it.n).sum
theorem flat_mem (M : List (KeyP LsX)) (e : EntB) : e ∈ flatM M ↔ ∃ k ∈ M, ∃ x ∈ k.it.l, x.b = e := by
  unfold flatM
  simp only [List.mem_flatMap, List.mem_map]
theorem flat_cons (m : KeyP LsX) (M : List (KeyP LsX)) (e : EntB) : e ∈ flatM (m :: M) ↔ e ∈ m.it.l.map EntX.b ∨ e ∈ flatM M := by
  unfold flatM
  rw [List.flatMap_cons, List.mem_append]
theorem flat_ins (K : LsX → Int) (m : KeyP LsX) (M : List (KeyP LsX)) (e : EntB) : e ∈ flatM (insP K m M) ↔ e ∈ m.it.l.map EntX.b ∨ e ∈ flatM M := by
  rw [← flat_cons, flat_mem, flat_mem]
  constructor
  · rintro ⟨k, hk, x⟩
    exact ⟨k, (insP_perm K m M).mem_iff.1 hk, x⟩
  · rintro ⟨k, hk, x⟩
    exact ⟨k, (insP_perm K m M).mem_iff.2 hk, x⟩
theorem tot_ins (K : LsX → Int) (m : KeyP LsX) (M : List (KeyP LsX)) : totM (insP K m M) = m.it.n + totM M := by
  unfold totM
  rw [((insP_perm K m M).map _).sum_nat, List.map_cons, List.sum_cons]
theorem tot_cons (m : KeyP LsX) (M : List (KeyP LsX)) : totM (m :: M) = m.it.n + totM M := by
  unfold totM
  rw [List.map_cons, List.sum_cons]
def InM (P : MP) (M : List (KeyP LsX)) : Prop := ∀ k ∈ M, GoodL P k.it ∧ sortedE P.asc k.it.l = true
theorem InM.ins {P : MP} {M : List (KeyP LsX)} {x : LsX} {c : Nat} (h : InM P M) (hx : GoodL P x) (hs : sortedE P.asc x.l = true) : InM P (insP (keyM P) ⟨x, c⟩ M) := by
  intro k hk
  rcases List.mem_cons.1 ((insP_perm _ _ _).mem_iff.1 hk) with rfl | hk
  · exact ⟨hx, hs⟩
  · exact h k hk
theorem min_flat {P : MP} {m : KeyP LsX} {M : List (KeyP LsX)} (h : InM P (m :: M)) (hs : SortP (keyM P) (m :: M)) : ∀ e ∈ flatM (m :: M), aheadB e (headE m.it) P.asc = false := by
  intro e he
  rw [flat_mem] at he
  obtain ⟨k, hk, x, hx, rfl⟩ := he
  have h1 := sorted_head (h k hk).2 x hx
  have h2 : aheadB (headE k.it) (headE m.it) P.asc = false := by
    rcases List.mem_cons.1 hk with rfl | hk2
    · exact ahead_irr _ _
    · rw [key_lt (h k hk).1, decide_eq_false_iff_not]
      have := (List.pairwise_cons.1 hs).1 k hk2
      rw [ahd_iff] at this
      omega
  exact ahead_not h1 h2
variable {P : MP}
def LsX.V (x : LsX) : List Value := [.slice x.A x.n x.c]
def allB (ls : List LsX) : List EntB := ls.flatMap fun x => x.l.map EntX.b
def restM (P : MP) (x : LsX) (came : Nat) (M : List (KeyP LsX)) : List (KeyP LsX) := if x.n = 0 then M else insP (keyM P) ⟨x, came⟩ M
def sortedLs (asc : Bool) (ls : List LsX) : Bool := ls.all fun x => sortedE asc x.l
def totL (ls : List LsX) : Nat := (ls.map LsX.n).sum
def mergeB (asc : Bool) (most : Int) (ls : List LsX) : List EntB := if sortedLs asc ls = true then (uniqB asc (allB ls)).take most.toNat else []
structure ListsP (B : Nat) (w : World) (A : Option Addr) (n : Nat) (ls : List LsX) : Prop where
  row : RowR LsX.V 1 w A n ls
  good : ∀ x ∈ ls, Ents B w x.A x.n x.l ∧ x.n ≤ x.c ∧ x.c ≤ maxLen
theorem ListsP.below {B : Nat} {w w' : World} {A : Option Addr} {n : Nat} {ls : List LsX} (h : ListsP B w A n ls) (hb : Below w.heap.size w w') : ListsP B w' A n ls :=
  ⟨h.row.below hb, fun x hx => ⟨(h.good x hx).1.below hb, (h.good x hx).2⟩⟩
theorem ListsP.at_ {B : Nat} {w : World} {A : Option Addr} {n : Nat} {ls : List LsX} (h : ListsP B w A n ls) (hn : 0 < n) : ∃ g o, A = some ⟨g, o, none⟩ ∧ g < w.heap.size ∧ ∀ j, j < n →
    w.cell? ⟨g, o + j, none⟩ = some (.slice (ls.getD j default).A (ls.getD j default).n (ls.getD j default).c) ∧ ls.getD j default ∈ ls ∧ ls[j]? = some (ls.getD j default) := by
  obtain ⟨b, off, e, hlt, hc⟩ := h.row.2 hn
  refine ⟨b, off, e, hlt, fun j hj => ?_⟩
  have hg : ls[j]? = some (ls.getD j default) := by
    have := h.row.1
    rw [List.getD_eq_getElem?_getD, List.getElem?_eq_getElem (by omega)]
    rfl
  have h1 := hc j 0 _ hg (by decide)
  rw [Nat.mul_one, Nat.add_zero] at h1
  exact ⟨h1, List.mem_of_getElem? hg, hg⟩
theorem HeapO.base {w : World} {b : Nat} {v : Value} {M : List (KeyP LsX)} {came : Nat} (h : HeapO P w b v M came) : Below P.W0.heap.size P.W0 w := by
  obtain ⟨L, h1, _⟩ := h
  exact h1.base.1
theorem HeapO.grown {w w' : World} {b : Nat} {v : Value} {M : List (KeyP LsX)} {came : Nat} {r : Option Nat} (h : HeapO P w b v M came) (hg : w.grownBy w' r) (hr : ∀ k, r = some k → k ≠ b ∧ v.ownBlock ≠ some k ∧ P.W0.heap.size ≤ k) : HeapO P w' b v M came := by
  obtain ⟨L, h1, h2, h3, h4⟩ := h
  refine ⟨L, ⟨(hg.block b h1.blk.lt (fun e => (hr b e.symm).1 rfl)).trans h1.blk, ?_, h1.good, h1.old, h1.few, h1.less, ?_, h1.base.2⟩, h2, h3, h4⟩
  · refine ⟨h1.row.1, ?_⟩
    rcases h1.row.2 with h0 | ⟨g, cap, cur, hv, hbg, hh, x⟩
    · exact .inl h0
    · exact .inr ⟨g, cap, cur, hv, hbg, (hg.block g (lt_of_block hh) (fun e => (hr g e.symm).2.1 (by rw [hv]; rfl))).trans hh, x⟩
  · have hb := h1.base.1
    have hs := hb.size
    exact ⟨hg.os.trans hb.os, hg.tape.trans hb.tape, hg.output.trans hb.output, Nat.le_trans hs hg.size, fun k hk => (hg.block k (by omega) (fun e => by have := (hr k e.symm).2.2; omega)).trans (hb.block k hk)⟩
theorem OwnR.keptH {α : Type} {V : α → List Value} {s : Nat} {w w' : World} {B e b : Nat} {v v' lv : Value} {l : List α} (h : OwnR V s w B e lv l) (hg : HG b w v w' v') (hb : b < B) (ha : ApartV v lv) : OwnR V s w' B e lv l := by
  refine ⟨h.1, ?_⟩
  rcases h.2 with h0 | ⟨g, cap, cur, rfl, hbg, hh, x⟩
  · exact .inl h0
  · exact .inr ⟨g, cap, cur, rfl, hbg, (hg.block g (lt_of_block hh) (by omega) (fun e => ha g e.symm rfl)).trans hh, x⟩
set_option maxRecDepth 100000 in
set_option maxHeartbeats 800000 in
theorem pushRest_any (b : Nat) (v : Value) (M : List (KeyP LsX)) (came : Nat) (x : LsX) (hx : x.n = 0 ∨ GoodL P x) (hc : came < 1000000) (w : World) (h : HeapO P w b v M came) :
    Calls Tryz.prog 70 #[.pointer (some ⟨b, 0, none⟩), .slice x.A x.n x.c] w fun e w' => e = .returned (.tuple #[]) ∧ ∃ v' M' came', HeapO P w' b v' M' came' ∧ came' ≤ came + 1 ∧ Hid (M' = restM P x came M) ∧ HG b w v w' v' := by
  by_cases h0 : x.n = 0
  · obtain ⟨xA, xn, xc, xl⟩ := x
    dsimp only at h0 ⊢
    subst h0
    have H := Lib.hid (show ∃ v' M' came', HeapO P w b v' M' came' ∧ came' ≤ came + 1 ∧ Hid (M' = restM P ⟨xA, 0, xc, xl⟩ came M) ∧ HG b w v w v' from ⟨v, M, came, h, by omega, Lib.hid (by unfold restM; rw [if_pos rfl]), HG.refl _ _ _⟩)
    clear h hx
    go_enter Tryz.func70, Tryz.ntmps70
    go_wp2
    refine bodyPost_end (results_none rfl _ _ _) rfl ?_
    exact ⟨rfl, H.out⟩
  · have hg := hx.resolve_left h0
    have hlt := h.lt
    have how := h.own
    have hpos : (0 : Int) < (x.n : Int) := by omega
    have hpos2 : 0 < x.n := by omega
    obtain ⟨g, hgg⟩ : ∃ g, w.heap.size = g := ⟨_, rfl⟩
    obtain ⟨w1, hw1⟩ : ∃ z, w.alloc (.cells #[.slice x.A x.n x.c] 64) = z := ⟨_, rfl⟩
    have B1 : Blk w1 g 64 #[.slice x.A x.n x.c] := by rw [← hw1, ← hgg]; exact Blk.new _ _ _
    have hb1 : Below w.heap.size w w1 := by rw [← hw1]; exact (Below.refl _ _).alloc (Nat.le_refl _) _
    have HX : IntsA P b v w1 (some ⟨g, 0, none⟩) [x] := by
      refine ⟨fun y hy => by rw [List.mem_singleton.1 hy]; exact hg, fun _ => ⟨g, 0, rfl, B1.lt, by omega, fun e => by have := (how g e.symm).2; omega, fun j hj => ?_⟩⟩
      obtain rfl : j = 0 := by rw [List.length_singleton] at hj; omega
      exact (B1.cell 0).trans rfl
    have PU := Lib.hid (pushO_any (P := P) b v M came (some ⟨g, 0, none⟩) 1 1 [x] rfl (by omega) w1 (h.below hb1) HX)
    have HG1 := Lib.hid (HG.of_below (b := b) (v := v) hb1)
    have H0 := Lib.hid h0
    obtain ⟨xA, xn, xc, xl⟩ := x
    dsimp only at *
    clear h hx hg h0 HX hlt how B1 hb1
    go_enter Tryz.func70, Tryz.ntmps70
    go_wp2_with fail
    clear hw1 hgg
    refine PU.out.mono ?_
    rintro e w2 ⟨rfl, v2, h2, hg2⟩
    have H2 := Lib.hid (show ∃ v' M' came', HeapO P w2 b v' M' came' ∧ came' ≤ came + 1 ∧ Hid (M' = restM P ⟨xA, xn, xc, xl⟩ came M) ∧ HG b w v w2 v' from ⟨v2, _, _, h2, Nat.le_refl _, Lib.hid (by unfold restM; rw [if_neg H0.out]; rfl), HG1.out.trans hg2⟩)
    clear h2 hg2 PU
    go_wp2
    refine bodyPost_end (results_none rfl _ _ _) rfl ?_
    exact ⟨rfl, H2.out⟩

end Go.Proofs.YtdaainifkldcpaaGreatDoor
namespace Go.Proofs.YtdaainifkldcpaaGreatDoor
open Go.RowKit
set_option linter.unusedVariables false
set_option linter.unusedSimpArgs false
theorem sorted_drop {asc : Bool} {ls : List LsX} {j : Nat} (hj : j < ls.length) : sortedLs asc (ls.drop j) = (sortedE asc (ls.getD j default).l && sortedLs asc (ls.drop (j + 1))) := by
  unfold sortedLs
  rw [List.drop_eq_getElem_cons hj, List.all_cons, List.getD_eq_getElem?_getD, List.getElem?_eq_getElem hj]
  rfl
theorem take_next {α : Type} [Inhabited α] (ls : List α) (j : Nat) (hj : j < ls.length) : ls.take (j + 1) = ls.take j ++ [ls.getD j default] := by
  rw [List.take_succ_eq_append_getElem hj, List.getD_eq_getElem?_getD, List.getElem?_eq_getElem hj]
  rfl
theorem totL_next (ls : List LsX) (j : Nat) (hj : j < ls.length) : totL (ls.take (j + 1)) = totL (ls.take j) + (ls.getD j default).n := by
  unfold totL
  rw [take_next ls j hj, List.map_append, List.sum_append]
  simp
theorem allB_next (ls : List LsX) (j : Nat) (hj : j < ls.length) (e : EntB) : e ∈ allB (ls.take (j + 1)) ↔ e ∈ allB (ls.take j) ∨ e ∈ (ls.getD j default).l.map EntX.b := by
  unfold allB
  rw [take_next ls j hj, List.flatMap_append, List.mem_append]
  simp
theorem sortedLs_at {asc : Bool} {ls : List LsX} (h : sortedLs asc ls = true) (x : LsX) (hx : x ∈ ls) : sortedE asc x.l = true := List.all_eq_true.1 h x hx
theorem mem_allB {ls : List LsX} {x : LsX} (hx : x ∈ ls) : ∀ e ∈ x.l, e.b ∈ allB ls := fun e he => List.mem_flatMap.2 ⟨x, hx, List.mem_map.2 ⟨e, he, rfl⟩⟩
theorem rest_tot (P : MP) (x : LsX) (came : Nat) (M : List (KeyP LsX)) : totM (restM P x came M) = x.n + totM M := by
  unfold restM
  by_cases h : x.n = 0
  · rw [if_pos h, h, Nat.zero_add]
  · rw [if_neg h, tot_ins]
theorem rest_flat (P : MP) {x : LsX} (came : Nat) (M : List (KeyP LsX)) (hl : x.l.length = x.n) (e : EntB) : e ∈ flatM (restM P x came M) ↔ e ∈ x.l.map EntX.b ∨ e ∈ flatM M := by
  unfold restM
  by_cases h : x.n = 0
  · rw [if_pos h, List.eq_nil_of_length_eq_zero (hl.trans h)]
    simp
  · rw [if_neg h, flat_ins]
theorem rest_in {P : MP} {x : LsX} {came : Nat} {M : List (KeyP LsX)} (h : InM P M) (hx : x.n = 0 ∨ GoodL P x) (hs : sortedE P.asc x.l = true) : InM P (restM P x came M) := by
  unfold restM
  by_cases h0 : x.n = 0
  · rw [if_pos h0]; exact h
  · rw [if_neg h0]; exact h.ins (hx.resolve_left h0) hs
theorem ent_not_item : 47 ≠ 245 := by decide
theorem apart_types {P : MP} {w : World} {b B n : Nat} {v lv : Value} {M : List (KeyP LsX)} {came : Nat} {xs : List Value} (h : HeapO P w b v M came) (ho : w.ownsRow B 47 3 lv n xs) : ApartV v lv := by
  intro k hk hl
  obtain ⟨L, h1, _⟩ := h
  obtain ⟨_, c1, e1⟩ := own_row_type h1.row k hk
  obtain ⟨_, c2, e2⟩ := own_row_type ho k hl
  rw [e1] at e2
  injection e2 with e2
  injection e2 with _ e2
  exact ent_not_item e2.symm
theorem ents_tail {B : Nat} {w : World} {bx ox n : Nat} {x : EntX} {l : List EntX} (h : Ents B w (some ⟨bx, ox, none⟩) n (x :: l)) : Ents B w (some ⟨bx, ox + 3, none⟩) (n - 1) l := by
  have hl := h.1.1
  rw [List.length_cons] at hl
  refine ⟨⟨by omega, fun hn => ?_⟩, fun y hy => h.2 y (List.mem_cons_of_mem _ hy)⟩
  obtain ⟨b, off, e, hlt, hc⟩ := h.1.2 (by omega)
  injection e with e
  injection e with e1 e2
  subst e1 e2
  refine ⟨bx, ox + 3, rfl, hlt, fun j i a hj hi => ?_⟩
  have := hc (j + 1) i a (by simpa using hj) hi
  rwa [show ox + (j + 1) * 3 + i = ox + 3 + j * 3 + i by omega] at this
theorem GoodL.rest {P : MP} {bx ox n c : Nat} {x : EntX} {l : List EntX} (h : GoodL P ⟨Option.some ⟨bx, ox, none⟩, n, c, x :: l⟩) : (n - 1 = 0) ∨ GoodL P ⟨Option.some ⟨bx, ox + 3, none⟩, n - 1, c - 1, l⟩ := by
  rcases Nat.eq_zero_or_pos (n - 1) with h0 | h0
  · exact .inl h0
  · have h1 := h.few
    have h2 := h.cap
    dsimp only at h1 h2
    exact .inr ⟨ents_tail h.ents, h0, by dsimp only; omega, by dsimp only; omega, fun e he => h.mem e (List.mem_cons_of_mem _ he)⟩
theorem MergeI.congr {asc : Bool} {U T R R2 : List EntB} (h : MergeI asc U T R) (hR : ∀ e, e ∈ R ↔ e ∈ R2) : MergeI asc U T R2 :=
  ⟨h.strict, fun e => by rw [h.mem e, hR e], fun e he => h.behind e ((hR e).2 he)⟩
theorem snoc_of {α : Type} {l : List α} (h : l ≠ []) : ∃ S t, l = S ++ [t] := ⟨l.dropLast, l.getLast h, (List.dropLast_concat_getLast h).symm⟩
set_option maxRecDepth 100000 in
set_option maxHeartbeats 1600000 in
theorem all_any (B : Nat) (asc : Bool) (most : Int) (A : Option Addr) (n c : Nat) (ls : List LsX) (hN : n + totL ls ≤ 1000000) (W : World) (hB : B ≤ W.heap.size) (h : ListsP B W A n ls) :
    Calls Tryz.prog 39 #[.bool asc, .int .i64 most, .slice A n c] W fun e w' => ∃ v T, e = .returned (.tuple #[v, .bool (sortedLs asc ls)]) ∧ OwnE B w' W.heap.size v T ∧ T.map EntX.b = mergeB asc most ls ∧ Below W.heap.size W w' := by
  have hmf : ∀ (fn : Fn) (first cap : Array Value) (w : World), (Instr.makeFunc fn first cap).run Tryz.prog w = .ok (.func fn first cap) w := fun _ _ _ _ => rfl
  obtain ⟨S, hS⟩ : ∃ S, sortedLs asc ls = S := ⟨_, rfl⟩
  have hln := h.row.1
  obtain ⟨g, hgg⟩ : ∃ g, W.heap.size = g := ⟨_, rfl⟩
  obtain ⟨w1, hw1⟩ : ∃ z, W.alloc (.cells #[.bool asc] 4) = z := ⟨_, rfl⟩
  have B1 : Blk w1 g 4 #[.bool asc] := by rw [← hw1, ← hgg]; exact Blk.new _ _ _
  have hb1 : Below W.heap.size W w1 := by rw [← hw1]; exact (Below.refl _ _).alloc (Nat.le_refl _) _
  have hl1 := h.below hb1
  have ca : w1.cell? ⟨g, 0, none⟩ = some (.bool asc) := (B1.cell 0).trans rfl
  have hW1 : W.heap.size ≤ w1.heap.size := hb1.size
  have H1 := Lib.hid hl1
  have HB1 := Lib.hid hb1
  have HS := Lib.hid hS
  have HCA := Lib.hid ca
  have HLN := Lib.hid hln
  rw [hS]
  clear h hl1 hb1 hS B1 ca hln
  go_enter Tryz.func39, Tryz.ntmps39
  go_wp2
  have HGG := Lib.hid hgg
  clear hgg hw1
  go_loopw [18] (fun iv wr => ∃ j : Nat, j ≤ n ∧ iv = .int .i64 (j : Int) ∧ Hid (sortedLs asc (ls.drop j) = S) ∧ Below w1.heap.size w1 wr) (fun iv _ => n - (intOf iv).toNat)
  case atStart => exact ⟨0, Nat.zero_le _, rfl, HS, Below.refl _ _⟩
  case round =>
    obtain ⟨j, hjn, rfl, HJ, hb⟩ := hrel
    by_cases hj : j < n
    · have hjI : (j : Int) < (n : Int) := by omega
      obtain ⟨g1, o1, rfl, hlt1, hc1⟩ := (H1.out.below hb).at_ (by omega)
      obtain ⟨c1, hm1, _⟩ := hc1 j hj
      have hg1 := (H1.out.below hb).good _ hm1
      have hca := (hb.cell (p := ⟨g, 0, none⟩) (block_lt_of_cell HCA.out)).trans HCA.out
      have hsj := HJ.out
      rw [sorted_drop (by rw [HLN.out]; exact hj)] at hsj
      obtain ⟨x, hx⟩ : ∃ x, ls.getD j default = x := ⟨_, rfl⟩
      rw [hx] at c1 hg1 hsj
      obtain ⟨xA, xn, xc, xl⟩ := x
      dsimp only at c1 hg1 hsj
      have SO := Lib.hid (entSorted_any asc xA xn xc xl (by have := hg1.2; unfold maxLen at this; omega) B wr hg1.1)
      obtain ⟨z, hz⟩ : ∃ z, sortedE asc xl = z := ⟨_, rfl⟩
      rw [hz] at SO hsj
      have HSJ := Lib.hid hsj
      have HB := Lib.hid hb
      clear hc1 hm1 hg1 hx hz hsj HJ hb
      go_wp2_with fail
      refine SO.out.mono ?_
      rintro e w2 ⟨rfl, hx⟩
      have hb2 := hop HB.out (Nat.le_refl _) hx
      clear hx SO HB
      cases z with
      | true =>
        have HN := Lib.hid (show sortedLs asc (ls.drop (j + 1)) = S by have := HSJ.out; simpa using this)
        go_wp2
        go_round
        case rel => exact ⟨j + 1, by omega, by go_num, HN, hb2⟩
        case measure => simp [intOf]; omega
      | false =>
        have E : S = false := by have := HSJ.out; simpa using this.symm
        have HR := Lib.hid (show OwnE B w2 W.heap.size (.slice none 0 0) [] ∧ ([] : List EntX).map EntX.b = mergeB asc most ls ∧ Below W.heap.size W w2 from ⟨OwnE.nil _ _ _, by unfold mergeB; rw [HS.out, E]; rfl, hop HB1.out (Nat.le_refl _) hb2⟩)
        subst E
        clear HSJ hb2
        go_wp2
        (try simp only [Exit.inBlock, Exit.then])
        refine bodyPost_ret (results_tmp2 rfl _ _ _) rfl ?_
        exact ⟨_, [], rfl, HR.out⟩
    · obtain rfl : n = j := by omega
      obtain ⟨v0, hv0⟩ : ∃ v, v = wr := ⟨_, rfl⟩
      subst hv0
      have E : S = true := by
        have := HJ.out
        rw [List.drop_of_length_le (by rw [HLN.out]; exact Nat.le_refl _)] at this
        rw [← this]
        rfl
      have hca := (hb.cell (p := ⟨g, 0, none⟩) (block_lt_of_cell HCA.out)).trans HCA.out
      obtain ⟨P, hP⟩ : ∃ P : MP, P = ⟨v0, B, asc, g, allB ls, hca⟩ := ⟨_, rfl⟩
      have p1 : P.W0 = v0 := by rw [hP]
      have p2 : P.B = B := by rw [hP]
      have p3 : P.asc = asc := by rw [hP]
      have p4 : P.ac = g := by rw [hP]
      have p5 : P.U = allB ls := by rw [hP]
      have hls := H1.out.below hb
      have NEW := Lib.hid (newO_any (P := P) none 0 0 [] rfl (by omega) v0 (by rw [p1]; exact Below.refl _ _) ⟨fun x hx => absurd hx List.not_mem_nil, fun h0 => absurd h0 (Nat.not_lt_zero _)⟩)
      have HGD := Lib.hid (show ∀ x ∈ ls, x.n = 0 ∨ GoodL P x from fun x hx => by
        rcases Nat.eq_zero_or_pos x.n with h0 | h0
        · exact .inl h0
        · have h1 := hls.good x hx
          exact .inr ⟨by rw [p1, p2]; exact h1.1, h0, by have := h1.2; unfold maxLen at this; omega, h1.2, by rw [p5]; exact mem_allB hx⟩)
      have HSO := Lib.hid (show ∀ x ∈ ls, sortedE P.asc x.l = true from fun x hx => by rw [p3]; exact sortedLs_at (HS.out.trans E) x hx)
      have HLS := Lib.hid hls
      have HWB := Lib.hid (hop HB1.out (Nat.le_refl _) hb)
      have HP1 := Lib.hid p1
      have HP2 := Lib.hid p2
      have HP3 := Lib.hid p3
      have HP5 := Lib.hid p5
      have HES := Lib.hid (HS.out.trans E)
      obtain ⟨b, hbb⟩ : ∃ b, v0.heap.size = b := ⟨_, rfl⟩
      replace NEW := NEW.out
      rw [p4, hbb] at NEW
      replace NEW := Lib.hid NEW
      have HBB := Lib.hid hbb
      subst E
      clear hca hP p1 p2 p3 p4 p5 hls hb hbb HJ
      go_wp2_with fail
      refine NEW.out.mono ?_
      rintro e w3 ⟨rfl, hb3, v3, hO3⟩
      have HO3 := Lib.hid (show HeapO P w3 b v3 [] 0 from hO3)
      clear hO3 hb3 NEW
      go_wp2
      go_loopw [31] (fun iv wx => ∃ (j : Nat) (v : Value) (M : List (KeyP LsX)) (came : Nat), j ≤ n ∧ iv = .int .i64 (j : Int) ∧ came ≤ j ∧ Hid (HeapO P wx b v M came) ∧ Hid (InM P M) ∧ Hid (totM M = totL (ls.take j)) ∧ Hid (∀ e, e ∈ allB (ls.take j) ↔ e ∈ flatM M)) (fun iv _ => n - (intOf iv).toNat)
      case atStart => exact ⟨0, v3, [], 0, Nat.zero_le _, rfl, Nat.le_refl _, HO3, Lib.hid (fun k hk => absurd hk List.not_mem_nil), Lib.hid rfl, Lib.hid (fun e => by rw [List.take_zero]; exact Iff.rfl)⟩
      case round =>
        obtain ⟨i, v, M, came, hin, rfl, hci, HO, HI, HT, HF⟩ := hrel
        by_cases hi : i < n
        · have hiI : (i : Int) < (n : Int) := by omega
          have hbx : Below v0.heap.size v0 wr := by have := HO.out.base; rw [HP1.out] at this; exact this
          obtain ⟨g1, o1, rfl, hlt1, hc1⟩ := (HLS.out.below hbx).at_ (by omega)
          obtain ⟨c1, hm1, _⟩ := hc1 i hi
          have hgx := HGD.out _ hm1
          have hsx := HSO.out _ hm1
          have hlx := (HLS.out.good _ hm1).1.1.1
          have htn := totL_next ls i (by rw [HLN.out]; exact hi)
          have hfn := allB_next ls i (by rw [HLN.out]; exact hi)
          obtain ⟨x, hx⟩ : ∃ x, ls.getD i default = x := ⟨_, rfl⟩
          rw [hx] at c1 hgx hsx hlx htn
          simp only [hx] at hfn
          have PU := Lib.hid (pushRest_any (P := P) b v M came x hgx (by omega) wr HO.out)
          have HGX := Lib.hid (And.intro hgx (And.intro hsx hlx))
          have HTN := Lib.hid htn
          have HFN := Lib.hid hfn
          obtain ⟨xA, xn, xc, xl⟩ := x
          dsimp only at c1
          clear hc1 hm1 hgx hsx hlx htn hfn hx HO hbx
          go_wp2_with fail
          refine PU.out.mono ?_
          rintro e w4 ⟨rfl, v4, M4, c4, hO4, hc4, hM4, _⟩
          have HM4 := Lib.hid (show InM P M4 ∧ totM M4 = totL (ls.take (i + 1)) ∧ ∀ e, e ∈ allB (ls.take (i + 1)) ↔ e ∈ flatM M4 by
            rw [hM4.out]
            obtain ⟨q1, q2, q3⟩ := HGX.out
            refine ⟨rest_in HI.out q1 q2, ?_, fun e => ?_⟩
            · rw [rest_tot, HT.out, HTN.out, Nat.add_comm]
            · rw [HFN.out e, rest_flat P came M q3 e, HF.out e]
              exact Or.comm)
          have HO4 := Lib.hid hO4
          clear hO4 hM4 HI HT HF HGX HTN HFN PU
          go_wp2
          go_round
          case rel => exact ⟨i + 1, v4, M4, c4, by omega, by go_num, by omega, HO4, Lib.hid HM4.out.1, Lib.hid HM4.out.2.1, Lib.hid HM4.out.2.2⟩
          case measure => simp [intOf]; omega
        · obtain rfl : n = i := by omega
          have E : ls.take n = ls := List.take_of_length_le (by rw [HLN.out]; exact Nat.le_refl _)
          have HT2 := Lib.hid (show totM M = totL ls by have := HT.out; rwa [E] at this)
          have HF2 := Lib.hid (show ∀ e, e ∈ allB ls ↔ e ∈ flatM M by have := HF.out; rwa [E] at this)
          have hcn : came + totM M ≤ 1000000 := by have := HT2.out; omega
          have HCN := Lib.hid hcn
          have hlt0 := HO.out.lt
          have HLT := Lib.hid hlt0
          have hWb : W.heap.size ≤ b := by have := HWB.out.size; rw [HBB.out] at this; exact this
          have DONE := Lib.hid (fun (wx : World) (v : Value) (M : List (KeyP LsX)) (came : Nat) (tv : Value) (T : List EntX) (hO : HeapO P wx b v M came) (hT : OwnR EntX.V 3 wx (b + 1) 47 tv T) (hG : ∀ x ∈ T, Good B v0 x) (hM : MergeI asc (allB ls) (T.map EntX.b) (flatM M)) (hl : T.length ≤ most.toNat) (he : T.length = most.toNat ∨ flatM M = []) => show OwnE B wx W.heap.size tv T ∧ T.map EntX.b = mergeB asc most ls ∧ Below W.heap.size W wx from by
            have hbx : Below v0.heap.size v0 wx := by have := hO.base; rw [HP1.out] at this; exact this
            refine ⟨⟨OwnR.mono hT (by omega), fun x hx => (hG x hx).below hbx⟩, ?_, hop HWB.out (Nat.le_refl _) hbx⟩
            unfold mergeB
            rw [if_pos HES.out]
            exact hM.done (by rw [List.length_map]; exact hl) (by rw [List.length_map]; exact he))
          have HM0 := Lib.hid (MergeI.new asc (allB ls) (flatM M) HF2.out)
          have HC0 := Lib.hid (show came + totM M ≤ 1000000 from HCN.out)
          have HT0 := Lib.hid (OwnR.nil (V := EntX.V) (s := 3) wr (b + 1) 47)
          obtain ⟨i0, hi, hz0, hz1, hz2⟩ := info_parts infoEnt
          clear E HT HF hlt0 hcn HT2 HF2 HCN H1 HB1 HCA HLN HLS HGD HSO hWb HS
          go_wp2
          go_loopg [13] (totM M) (fun k tv wx => ∃ (v : Value) (M : List (KeyP LsX)) (came : Nat) (T : List EntX), Hid (totM M = k) ∧ Hid (HeapO P wx b v M came) ∧ Hid (came + k ≤ 1000000) ∧ Hid (InM P M) ∧ Hid (OwnR EntX.V 3 wx (b + 1) 47 tv T) ∧ Hid (∀ x ∈ T, Good B v0 x) ∧ Hid (MergeI asc (allB ls) (T.map EntX.b) (flatM M)) ∧ Hid (T.length ≤ most.toNat ∧ T.length + k ≤ 1000000))
          case atStart => exact ⟨v, M, came, [], Lib.hid rfl, HO, HC0, HI, HT0, Lib.hid (fun x hx => absurd hx List.not_mem_nil), HM0, Lib.hid ⟨Nat.zero_le _, by have := HC0.out; simp; omega⟩⟩
          case round =>
            obtain ⟨v, M, came, T, HT, HO, HC, HI, HOW, HG, HM, HL⟩ := hrel
            obtain ⟨tA, tc, htv, htc, _, hrow⟩ := OwnR.open entV_len HOW.out
            subst htv
            obtain ⟨tn, htn⟩ : ∃ k, T.length = k := ⟨_, rfl⟩
            have HTN := Lib.hid htn
            have HROW := Lib.hid hrow
            rw [htn] at HOW htc ⊢
            clear htn hrow
            by_cases hlt : (tn : Int) < most
            · cases M with
              | nil =>
                have RES := Lib.hid (DONE.out wr v [] came _ T HO.out HOW.out HG.out HM.out HL.out.1 (.inr rfl))
                go_wp2_with fail
                refine (popO_none b v came wr HO.out).mono ?_
                rintro e w4 ⟨rfl, rfl⟩
                clear DONE
                go_wp2
                (try simp only [Exit.inBlock, Exit.then])
                refine bodyPost_ret (results_tmp2 rfl _ _ _) rfl ?_
                first | exact ⟨_, T, rfl, RES.out⟩ | exact ⟨_, rfl, T, RES.out⟩
              | cons m M1 =>
                go_wp2_with fail
                refine (popO_any b v m M1 came wr HO.out).mono ?_
                rintro e w2 ⟨rfl, v2, h2, hg2⟩
                have hs := HO.out.sort
                have hmin := min_flat HI.out hs
                obtain ⟨hgm, hsm⟩ := HI.out m List.mem_cons_self
                have HI1 := Lib.hid (show InM P M1 from fun k hk => HI.out k (List.mem_cons_of_mem _ hk))
                have hOT2 := OwnR.keptH HOW.out hg2 (Nat.lt_succ_self b) (apart_types HO.out HOW.out)
                have hb2 : Below v0.heap.size v0 w2 := by have := h2.base; rw [HP1.out] at this; exact this
                have HO2 := Lib.hid (show HeapO P w2 b v2 M1 came from h2)
                have HOW2 := Lib.hid hOT2
                have htot := HT.out
                rw [tot_cons] at htot
                have hflat := flat_cons m M1
                obtain ⟨⟨xA, xn, xc, xl⟩, mat⟩ := m
                dsimp only [headE] at *
                have hx0 := hgm.some
                have hxk := hgm.cap
                dsimp only at hx0 hxk
                cases xl with
                | nil => exact absurd hgm.ents.1.1 (by simp; omega)
                | cons y yl =>
                  have hents := hgm.ents
                  rw [HP1.out, HP2.out] at hents
                  obtain ⟨bx, ox, hxA, hltx, hcx⟩ := (hents.below hb2).at_ hx0
                  obtain ⟨e1, e2, e3, ge⟩ := hcx 0 hx0
                  subst hxA
                  have hy0 : (y :: yl).getD 0 xnil = y := rfl
                  rw [hy0] at e1 e2 e3 ge hmin
                  rw [Nat.zero_mul, Nat.add_zero] at e1 e2 e3
                  have HRS := Lib.hid hgm.rest
                  have HSR := Lib.hid (sorted_tail hsm)
                  have HLR := Lib.hid (show yl.length = xn - 1 by have := hents.1.1; dsimp only at this; rw [List.length_cons] at this; omega)
                  have HGY0 := Lib.hid (hents.2 y List.mem_cons_self)
                  have hcc := HC.out
                  have hx0I : (0 : Int) < (xn : Int) := by omega
                  have hx1I : (1 : Int) ≤ (xn : Int) := by omega
                  rw [HP3.out] at hmin
                  have HMIN := Lib.hid hmin
                  have HFL := Lib.hid (show ∀ e, e ∈ flatM (⟨⟨some ⟨bx, ox, none⟩, xn, xc, y :: yl⟩, mat⟩ :: M1) ↔ e = y.b ∨ e ∈ yl.map EntX.b ∨ e ∈ flatM M1 from fun e => by rw [hflat e, List.map_cons, List.mem_cons, or_assoc])
                  have HTOT := Lib.hid htot
                  clear hg2 h2 hs hmin hgm hsm hOT2 htot hflat hents hcx hy0 HI HT HOW HO hx0
                  have HRR := Lib.hid (show ∀ e, e ∈ flatM (⟨⟨some ⟨bx, ox, none⟩, xn, xc, y :: yl⟩, mat⟩ :: M1) ↔ e = y.b ∨ e ∈ yl.map EntX.b ++ flatM M1 from fun e => by rw [HFL.out e, List.mem_append])
                  have NEXT := Lib.hid (fun (A' : Option Addr) (wx : World) (v4 : Value) (M4 : List (KeyP LsX)) (c4 : Nat) (tv : Value) (T' : List EntX) (hO4 : HeapO P wx b v4 M4 c4) (hc4 : c4 ≤ came + 1) (hM4 : M4 = restM P ⟨A', xn - 1, xc - 1, yl⟩ came M1) (hy' : xn - 1 = 0 ∨ GoodL P ⟨A', xn - 1, xc - 1, yl⟩) (hOT : OwnR EntX.V 3 wx (b + 1) 47 tv T') (hG' : ∀ x ∈ T', Good B v0 x) (hMI : MergeI asc (allB ls) (T'.map EntX.b) (yl.map EntX.b ++ flatM M1)) (hl' : T'.length ≤ most.toNat ∧ T'.length + (gk - 1) ≤ 1000000) => show ∃ (v : Value) (M : List (KeyP LsX)) (came : Nat) (T : List EntX), Hid (totM M = gk - 1) ∧ Hid (HeapO P wx b v M came) ∧ Hid (came + (gk - 1) ≤ 1000000) ∧ Hid (InM P M) ∧ Hid (OwnR EntX.V 3 wx (b + 1) 47 tv T) ∧ Hid (∀ x ∈ T, Good B v0 x) ∧ Hid (MergeI asc (allB ls) (T.map EntX.b) (flatM M)) ∧ Hid (T.length ≤ most.toNat ∧ T.length + (gk - 1) ≤ 1000000) from by
                    have q1 := HTOT.out
                    have q2 := HC.out
                    subst hM4
                    refine ⟨v4, _, c4, T', Lib.hid ?_, Lib.hid hO4, Lib.hid (by omega), Lib.hid (rest_in HI1.out hy' HSR.out), Lib.hid hOT, Lib.hid hG', Lib.hid (hMI.congr fun e => ?_), Lib.hid hl'⟩
                    · rw [rest_tot]
                      dsimp only
                      omega
                    · rw [rest_flat P came M1 HLR.out e, List.mem_append])
                  have HCT := Lib.hid (show tn ≤ 1000000 by
                    have q1 := HL.out.2
                    rw [HTN.out] at q1
                    omega)
                  have HBP := Lib.hid (show P.W0.heap.size ≤ b by rw [HP1.out, HBB.out]; exact Nat.le_refl _)
                  have HBS := Lib.hid (show b + 1 ≤ w2.heap.size from HO2.out.lt)
                  have h2c := hxk.1
                  have hgk1 : 1 ≤ gk := by have := HTOT.out; omega
                  have hcm1 : came < 1000000 := by have := HC.out; omega
                  rcases Nat.eq_zero_or_pos tn with ht0 | ht0
                  · obtain rfl : tn = 0 := ht0
                    have hT0 : T = [] := List.eq_nil_of_length_eq_zero HTN.out
                    have HT0 := Lib.hid hT0
                    clear hT0
                    clear HROW HC
                    go_wp2
                    go_quiet (fail)
                    generalize hw3 : World.drewN _ _ = w3
                    have hb3 : Below w2.heap.size w2 w3 := by rw [← hw3]; exact below_drewN (Below.refl _ _) _
                    have HO3 := Lib.hid (HO2.out.below hb3)
                    have HOW3 := Lib.hid (OwnR.below HOW2.out hb3)
                    have e1 := (hb3.cell (p := ⟨bx, ox, none⟩) hltx).trans e1
                    have e2 := (hb3.cell (p := ⟨bx, ox + 1, none⟩) hltx).trans e2
                    have e3 := (hb3.cell (p := ⟨bx, ox + 2, none⟩) hltx).trans e3
                    have hs3 := hb3.size
                    clear hw3 hb3 HOW2 HO2
                    go_wp2_with (at_builtin; refine wpList_append_own _ rfl (.tmp 66) (.tmp 70) 64 rfl (b + 1) 47 i0 (.agg #[.int .i64 0, .slice none 0 0, .string ⟨#[]⟩]) 3 48 Tryz.underlying64 hi hz0 hz1 hz2 rfl (by decide) _ _ _ rfl (OwnR.alloc HOW3.out _) ⟨w3.heap.size, 0, none⟩ 1 1 (EntX.V y) rfl rfl (new_cells_at _ _ _ _ (by simp)) (entV_one _) (by unfold maxLen; have := HCT.out; have := HTN.out; omega) (by have := HCT.out; have := HTN.out; omega) (by have := HBS.out; have := hs3; simp; omega) ?_)
                    intro nv w5 hown' hgrow _
                    have hO3a := HO3.out.below ((Below.refl _ _).alloc (Nat.le_refl _) (.cells (EntX.V y).toArray 47))
                    have HOn := Lib.hid (hO3a.grown hgrow (fun k hk => by
                      have q1 := (World.ownsRow.lt HOW3.out k hk).1
                      have q2 := HBP.out
                      exact ⟨by omega, fun e => apart_types HO3.out HOW3.out k e hk, by omega⟩))
                    have HOTn := Lib.hid (OwnR.snoc (a := y) hown')
                    have HGn := Lib.hid (show ∀ x ∈ T ++ [y], Good B v0 x from fun x hx => by
                      rcases List.mem_append.1 hx with hx | hx
                      · exact HG.out x hx
                      · rw [List.mem_singleton.1 hx]; exact HGY0.out)
                    have HMn := Lib.hid (show MergeI asc (allB ls) ((T ++ [y]).map EntX.b) (yl.map EntX.b ++ flatM M1) by rw [List.map_append]; exact HM.out.tell HRR.out HMIN.out (.inl (by rw [HT0.out]; rfl)))
                    have HLn := Lib.hid (show (T ++ [y]).length ≤ most.toNat ∧ (T ++ [y]).length + (gk - 1) ≤ 1000000 by have := HL.out.2; rw [List.length_append, List.length_singleton, HTN.out] at *; omega)
                    clear hown' hgrow hO3a HOW3 HO3 HG HM HL
                    rcases (by omega : xc = 1 ∨ 1 < xc) with hc1 | hc1
                    · obtain rfl : xc = 1 := hc1
                      obtain rfl : xn = 1 := by omega
                      have PU := Lib.hid (pushRest_any (P := P) b v2 M1 came ⟨some ⟨bx, ox, none⟩, 0, 0, yl⟩ (.inl rfl) (by omega) _ HOn.out)
                      have NX := Lib.hid (NEXT.out (some ⟨bx, ox, none⟩))
                      clear NEXT HRS e1 e2 e3
                      go_wp2_with fail
                      refine PU.out.mono ?_
                      rintro e wz ⟨rfl, v4, M4, c4, hO4, hc4, hM4, hg4⟩
                      have FIN := Lib.hid (NX.out wz v4 M4 c4 _ _ hO4 hc4 hM4.out (.inl (by simp)) (OwnR.keptH HOTn.out hg4 (Nat.lt_succ_self b) (apart_types HOn.out HOTn.out)) HGn.out HMn.out HLn.out)
                      clear hO4 hc4 hM4 hg4 NX PU HOn HOTn HGn HMn HLn HFL HMIN HTOT
                      go_wp2
                      go_roundg (gk - 1)
                      case measure => omega
                      case rel => exact FIN.out
                    · have h1c : ¬ xc = 1 := by omega
                      have PU := Lib.hid (pushRest_any (P := P) b v2 M1 came ⟨some ⟨bx, ox + 3, none⟩, xn - 1, xc - 1, yl⟩ HRS.out (by omega) _ HOn.out)
                      have NX := Lib.hid (NEXT.out (some ⟨bx, ox + 3, none⟩))
                      clear NEXT e1 e2 e3
                      go_wp2_with fail
                      refine PU.out.mono ?_
                      rintro e wz ⟨rfl, v4, M4, c4, hO4, hc4, hM4, hg4⟩
                      have FIN := Lib.hid (NX.out wz v4 M4 c4 _ _ hO4 hc4 hM4.out HRS.out (OwnR.keptH HOTn.out hg4 (Nat.lt_succ_self b) (apart_types HOn.out HOTn.out)) HGn.out HMn.out HLn.out)
                      clear hO4 hc4 hM4 hg4 NX PU HOn HOTn HGn HMn HLn HFL HMIN HTOT HRS
                      go_wp2
                      go_roundg (gk - 1)
                      case measure => omega
                      case rel => exact FIN.out
                  · obtain ⟨i, hti⟩ : ∃ i, tn = i + 1 := ⟨tn - 1, by omega⟩
                    have hTne : T ≠ [] := fun e => by have := HTN.out; rw [e] at this; simp at this; omega
                    obtain ⟨S, t, hTS⟩ := snoc_of hTne
                    have hSl : S.length = i := by have := HTN.out; rw [hTS, List.length_append, List.length_singleton] at this; omega
                    have htq : T[i]? = some t := by rw [hTS, List.getElem?_append_right (by omega), hSl, Nat.sub_self]; rfl
                    obtain ⟨gt, cap2, ev, hgt, hltt, hcp, hct⟩ := OwnR.at_ entV_len HOW2.out (by have := HTN.out; omega)
                    injection ev with ev1 ev2 ev3
                    subst ev1 ev3
                    have t1 : w2.cell? ⟨gt, i * 3, none⟩ = some (.int .i64 t.ts) := hct i 0 t htq (by decide)
                    have t2 : w2.cell? ⟨gt, i * 3 + 1, none⟩ = some (.slice t.A t.n t.c) := hct i 1 t htq (by decide)
                    have t3 : w2.cell? ⟨gt, i * 3 + 2, none⟩ = some (.string t.ln) := hct i 2 t htq (by decide)
                    have hgt0 := HG.out t (List.mem_of_getElem? htq)
                    have hb20 : Below v0.heap.size v0 w2 := by have := HO2.out.base; rw [HP1.out] at this; exact this
                    have SA := Lib.hid (fun w (h : Below w2.heap.size w2 w) => same_good t y w ((hgt0.below hb20).below h) ((HGY0.out.below hb20).below h))
                    have q1 : ¬ ((tn : Int) = 0) := by omega
                    have q2 : ¬ (tn = 0) := by omega
                    have q4 : 0 < xn := by omega
                    have qa : decide ((tn : Int) = 0) = false := decide_eq_false q1
                    have qb : decide (tn = 0) = false := decide_eq_false q2
                    have qc : ((tn : Int) == 0) = false := by rw [beq_eq_false_iff_ne]; exact q1
                    have qd : (tn == 0) = false := by rw [beq_eq_false_iff_ne]; exact q2
                    have hwp : IntKind.i64.wrap ((tn : Int) - 1) = (i : Int) := by have := HCT.out; rw [IntKind.wrap_i64]; omega
                    have q3 : (i : Int) < (tn : Int) := by omega
                    have HTS := Lib.hid hTS
                    obtain ⟨z, hz⟩ : ∃ z, sameE t.b y.b = z := ⟨_, rfl⟩
                    have HZ := Lib.hid hz
                    replace SA := SA.out
                    simp only [hz] at SA
                    replace SA := Lib.hid SA
                    have S0 : Below w2.heap.size w2 w2.drew := (Below.refl _ _).drew
                    clear HROW HC hTne hTS hSl htq hct hgt0 hb20 hz ev2 hcp hgt hti ht0
                    go_wp2
                    go_region_held3 (fun w' => Below w2.heap.size w2 w' ∧ w'.cell? ⟨gt, i * 3, none⟩ = some (.int .i64 t.ts) ∧ w'.cell? ⟨gt, i * 3 + 1, none⟩ = some (.slice t.A t.n t.c) ∧ w'.cell? ⟨gt, i * 3 + 2, none⟩ = some (.string t.ln) ∧ w'.cell? ⟨bx, ox, none⟩ = some (.int .i64 y.ts) ∧ w'.cell? ⟨bx, ox + 1, none⟩ = some (.slice y.A y.n y.c) ∧ w'.cell? ⟨bx, ox + 2, none⟩ = some (.string y.ln))
                      (first | assumption | exact ⟨by assumption, by assumption, by assumption, by assumption, by assumption, by assumption, by assumption⟩ | exact ⟨by assumption, (hb5.cell (p := ⟨_, _, none⟩) hltt).trans t1, (hb5.cell (p := ⟨_, _, none⟩) hltt).trans t2, (hb5.cell (p := ⟨_, _, none⟩) hltt).trans t3, (hb5.cell (p := ⟨_, _, none⟩) hltx).trans e1, (hb5.cell (p := ⟨_, _, none⟩) hltx).trans e2, (hb5.cell (p := ⟨_, _, none⟩) hltx).trans e3⟩)
                      (first | (go_at_call 26; refine (SA.out _ S0).mono ?_; rintro e w3 ⟨rfl, hb5⟩; replace hb5 : Below w2.heap.size w2 w3 := ⟨hb5.os, hb5.tape, hb5.output, hb5.size, hb5.block⟩))
                    all_goals
                      have HO3 := Lib.hid (HO2.out.below hb5)
                      have HOW3 := Lib.hid (OwnR.below HOW2.out hb5)
                      have f1 := (hb5.cell (p := ⟨bx, ox, none⟩) hltx).trans e1
                      have f2 := (hb5.cell (p := ⟨bx, ox + 1, none⟩) hltx).trans e2
                      have f3 := (hb5.cell (p := ⟨bx, ox + 2, none⟩) hltx).trans e3
                      have hs3 := hb5.size
                      clear hb5 HOW2 HO2 SA S0 t1 t2 t3 e1 e2 e3
                      have e1 := f1
                      have e2 := f2
                      have e3 := f3
                      clear f1 f2 f3
                      cases z with
                      | true =>
                        have HMn := Lib.hid (HM.out.skip HRR.out (show y.b ∈ T.map EntX.b by rw [← sameE_iff.1 HZ.out, HTS.out]; simp))
                        have HOn := Lib.hid HO3.out
                        have HOTn := Lib.hid HOW3.out
                        have HGn := Lib.hid HG.out
                        have HLn := Lib.hid (show T.length ≤ most.toNat ∧ T.length + (gk - 1) ≤ 1000000 from ⟨HL.out.1, by have := HL.out.2; omega⟩)
                        clear HM HO3 HOW3 HG HL
                        rcases (by omega : xc = 1 ∨ 1 < xc) with hc1 | hc1
                        · obtain rfl : xc = 1 := hc1
                          obtain rfl : xn = 1 := by omega
                          have PU := Lib.hid (pushRest_any (P := P) b v2 M1 came ⟨some ⟨bx, ox, none⟩, 0, 0, yl⟩ (.inl rfl) (by omega) _ HOn.out)
                          have NX := Lib.hid (NEXT.out (some ⟨bx, ox, none⟩))
                          clear NEXT HRS e1 e2 e3
                          go_wp2_with fail
                          refine PU.out.mono ?_
                          rintro e wz ⟨rfl, v4, M4, c4, hO4, hc4, hM4, hg4⟩
                          have FIN := Lib.hid (NX.out wz v4 M4 c4 _ _ hO4 hc4 hM4.out (.inl (by simp)) (OwnR.keptH HOTn.out hg4 (Nat.lt_succ_self b) (apart_types HOn.out HOTn.out)) HGn.out HMn.out HLn.out)
                          clear hO4 hc4 hM4 hg4 NX PU HOn HOTn HGn HMn HLn HFL HMIN HTOT
                          go_wp2
                          go_roundg (gk - 1)
                          case measure => omega
                          case rel => exact FIN.out
                        · have h1c : ¬ xc = 1 := by omega
                          have PU := Lib.hid (pushRest_any (P := P) b v2 M1 came ⟨some ⟨bx, ox + 3, none⟩, xn - 1, xc - 1, yl⟩ HRS.out (by omega) _ HOn.out)
                          have NX := Lib.hid (NEXT.out (some ⟨bx, ox + 3, none⟩))
                          clear NEXT e1 e2 e3
                          go_wp2_with fail
                          refine PU.out.mono ?_
                          rintro e wz ⟨rfl, v4, M4, c4, hO4, hc4, hM4, hg4⟩
                          have FIN := Lib.hid (NX.out wz v4 M4 c4 _ _ hO4 hc4 hM4.out HRS.out (OwnR.keptH HOTn.out hg4 (Nat.lt_succ_self b) (apart_types HOn.out HOTn.out)) HGn.out HMn.out HLn.out)
                          clear hO4 hc4 hM4 hg4 NX PU HOn HOTn HGn HMn HLn HFL HMIN HTOT HRS
                          go_wp2
                          go_roundg (gk - 1)
                          case measure => omega
                          case rel => exact FIN.out
                      | false =>
                        go_wp2_with (at_builtin; refine wpList_append_own _ rfl (.tmp 66) (.tmp 70) 64 rfl (b + 1) 47 i0 (.agg #[.int .i64 0, .slice none 0 0, .string ⟨#[]⟩]) 3 48 Tryz.underlying64 hi hz0 hz1 hz2 rfl (by decide) _ _ _ rfl (OwnR.alloc HOW3.out _) ⟨w3.heap.size, 0, none⟩ 1 1 (EntX.V y) rfl rfl (new_cells_at _ _ _ _ (by simp)) (entV_one _) (by unfold maxLen; have := HCT.out; have := HTN.out; omega) (by have := HCT.out; have := HTN.out; omega) (by have := HBS.out; have := hs3; simp; omega) ?_)
                        intro nv w5 hown' hgrow _
                        have hO3a := HO3.out.below ((Below.refl _ _).alloc (Nat.le_refl _) (.cells (EntX.V y).toArray 47))
                        have HOn := Lib.hid (hO3a.grown hgrow (fun k hk => by
                          have q1 := (World.ownsRow.lt HOW3.out k hk).1
                          have q2 := HBP.out
                          exact ⟨by omega, fun e => apart_types HO3.out HOW3.out k e hk, by omega⟩))
                        have HOTn := Lib.hid (OwnR.snoc (a := y) hown')
                        have HGn := Lib.hid (show ∀ x ∈ T ++ [y], Good B v0 x from fun x hx => by
                          rcases List.mem_append.1 hx with hx | hx
                          · exact HG.out x hx
                          · rw [List.mem_singleton.1 hx]; exact HGY0.out)
                        have HMn := Lib.hid (show MergeI asc (allB ls) ((T ++ [y]).map EntX.b) (yl.map EntX.b ++ flatM M1) by rw [List.map_append]; exact HM.out.tell HRR.out HMIN.out (.inr ⟨S.map EntX.b, t.b, by rw [HTS.out, List.map_append]; rfl, HZ.out⟩))
                        have HLn := Lib.hid (show (T ++ [y]).length ≤ most.toNat ∧ (T ++ [y]).length + (gk - 1) ≤ 1000000 by have := HL.out.2; rw [List.length_append, List.length_singleton, HTN.out] at *; omega)
                        clear hown' hgrow hO3a HOW3 HO3 HG HM HL
                        rcases (by omega : xc = 1 ∨ 1 < xc) with hc1 | hc1
                        · obtain rfl : xc = 1 := hc1
                          obtain rfl : xn = 1 := by omega
                          have PU := Lib.hid (pushRest_any (P := P) b v2 M1 came ⟨some ⟨bx, ox, none⟩, 0, 0, yl⟩ (.inl rfl) (by omega) _ HOn.out)
                          have NX := Lib.hid (NEXT.out (some ⟨bx, ox, none⟩))
                          clear NEXT HRS e1 e2 e3
                          go_wp2_with fail
                          refine PU.out.mono ?_
                          rintro e wz ⟨rfl, v4, M4, c4, hO4, hc4, hM4, hg4⟩
                          have FIN := Lib.hid (NX.out wz v4 M4 c4 _ _ hO4 hc4 hM4.out (.inl (by simp)) (OwnR.keptH HOTn.out hg4 (Nat.lt_succ_self b) (apart_types HOn.out HOTn.out)) HGn.out HMn.out HLn.out)
                          clear hO4 hc4 hM4 hg4 NX PU HOn HOTn HGn HMn HLn HFL HMIN HTOT
                          go_wp2
                          go_roundg (gk - 1)
                          case measure => omega
                          case rel => exact FIN.out
                        · have h1c : ¬ xc = 1 := by omega
                          have PU := Lib.hid (pushRest_any (P := P) b v2 M1 came ⟨some ⟨bx, ox + 3, none⟩, xn - 1, xc - 1, yl⟩ HRS.out (by omega) _ HOn.out)
                          have NX := Lib.hid (NEXT.out (some ⟨bx, ox + 3, none⟩))
                          clear NEXT e1 e2 e3
                          go_wp2_with fail
                          refine PU.out.mono ?_
                          rintro e wz ⟨rfl, v4, M4, c4, hO4, hc4, hM4, hg4⟩
                          have FIN := Lib.hid (NX.out wz v4 M4 c4 _ _ hO4 hc4 hM4.out HRS.out (OwnR.keptH HOTn.out hg4 (Nat.lt_succ_self b) (apart_types HOn.out HOTn.out)) HGn.out HMn.out HLn.out)
                          clear hO4 hc4 hM4 hg4 NX PU HOn HOTn HGn HMn HLn HFL HMIN HTOT HRS
                          go_wp2
                          go_roundg (gk - 1)
                          case measure => omega
                          case rel => exact FIN.out
            · have RES := Lib.hid (DONE.out wr v M came _ T HO.out HOW.out HG.out HM.out HL.out.1 (.inl (by have := HL.out.1; rw [HTN.out] at *; omega)))
              clear DONE
              go_wp2
              (try simp only [Exit.inBlock, Exit.then])
              refine bodyPost_ret (results_tmp2 rfl _ _ _) rfl ?_
              first | exact ⟨_, T, rfl, RES.out⟩ | exact ⟨_, rfl, T, RES.out⟩
end Go.Proofs.YtdaainifkldcpaaGreatDoor
