-- shaken
import Derived.Test.YtdaainifkldcpaaGreatDoorEntRow
namespace Go.Proofs.YtdaainifkldcpaaGreatDoor
open Go.RowKit
set_option linter.unusedVariables false
set_option linter.unusedSimpArgs false
def dirC (asc : Bool) (a b : EntB) : Int := if asc then entC a b else entC b a
theorem dirC_ord (asc : Bool) : Ord3 (dirC asc) := by
  cases asc with
  | true => exact entC_ord
  | false => exact ⟨fun a b => entC_ord.anti b a, fun a b h => (entC_ord.zero b a h).symm, fun a b c h1 h2 => entC_ord.trans c b a h2 h1⟩
theorem ahead_dir (asc : Bool) (a b : EntB) : aheadB a b asc = decide (dirC asc a b < 0) := by
  unfold aheadB dirC
  cases asc with
  | true => rfl
  | false =>
    show decide (0 < entC a b) = decide (entC b a < 0)
    rw [decide_eq_decide]
    have := entC_ord.anti a b
    omega
def leD (asc : Bool) (a b : EntB) : Prop := dirC asc a b ≤ 0
theorem leD_trans {asc : Bool} {a b c : EntB} (h1 : leD asc a b) (h2 : leD asc b c) : leD asc a c := (dirC_ord asc).trans _ _ _ h1 h2
theorem leD_refl (asc : Bool) (a : EntB) : leD asc a a := by unfold leD; rw [(dirC_ord asc).refl]; exact Int.le_refl _
theorem ahead_of_le {asc : Bool} {a b c : EntB} (h1 : leD asc a b) (h2 : aheadB b c asc = true) : aheadB a c asc = true := by
  rw [ahead_dir, decide_eq_true_iff] at h2 ⊢
  rcases (by omega : dirC asc a c < 0 ∨ 0 ≤ dirC asc a c) with h | h
  · exact h
  · exfalso
    have h3 := (dirC_ord asc).anti a c
    have h4 : leD asc c b := leD_trans (show leD asc c a by unfold leD; omega) h1
    have h5 := (dirC_ord asc).anti b c
    unfold leD at h4
    omega
theorem ahead_le {asc : Bool} {a b : EntB} (h : aheadB a b asc = true) : leD asc a b := by
  rw [ahead_dir, decide_eq_true_iff] at h
  unfold leD
  omega
theorem not_ahead {asc : Bool} {a b : EntB} (h : leD asc a b) (h2 : aheadB a b asc = false) : a = b := by
  rw [ahead_dir, decide_eq_false_iff_not] at h2
  exact (dirC_ord asc).zero _ _ (by unfold leD at h; omega)
structure Whole (F : List EntB) (asc : Bool) (told rem : List EntB) : Prop where
  sort : told.Pairwise (leD asc)
  sub : ∀ e ∈ told, e ∈ F
  cov : ∀ e ∈ F, e ∈ told ∨ e ∈ rem
  rem_q : ∃ q, rem = F.filter q
  rem_in : ∀ e ∈ rem, e ∈ F
  rem_sort : rem.Pairwise (leD asc)
  cross : ∀ t ∈ told, ∀ e ∈ rem, leD asc t e
theorem Whole.start (F : List EntB) (asc : Bool) (h : F.Pairwise (leD asc)) : Whole F asc [] F :=
  ⟨List.Pairwise.nil, (fun e he => by cases he), (fun e he => Or.inr he), ⟨fun _ => true, (List.filter_eq_self.2 (fun _ _ => rfl)).symm⟩, (fun e he => he), h, (fun t ht => by cases ht)⟩
theorem filter_lt {α : Type} {p q : α → Bool} : ∀ (F : List α), (∀ e ∈ F, p e = true → q e = true) → (F.filter p).length ≤ (F.filter q).length ∧ ((∃ l ∈ F, q l = true ∧ p l = false) → (F.filter p).length < (F.filter q).length)
  | [], _ => ⟨Nat.le_refl _, fun ⟨l, hl, _⟩ => by cases hl⟩
  | e :: F, h => by
    obtain ⟨i1, i2⟩ := filter_lt F (fun x hx => h x (List.mem_cons_of_mem _ hx))
    have he := h e (List.mem_cons_self)
    cases hp : p e with
    | true =>
      rw [List.filter_cons_of_pos hp, List.filter_cons_of_pos (he hp), List.length_cons, List.length_cons]
      refine ⟨by omega, fun ⟨l, hl, h1, h2⟩ => ?_⟩
      rcases List.mem_cons.1 hl with rfl | hl
      · rw [hp] at h2; cases h2
      · have := i2 ⟨l, hl, h1, h2⟩; omega
    | false =>
      rw [List.filter_cons_of_neg (by rw [hp]; decide)]
      cases hq : q e with
      | true =>
        rw [List.filter_cons_of_pos hq, List.length_cons]
        exact ⟨by omega, fun _ => by omega⟩
      | false =>
        rw [List.filter_cons_of_neg (by rw [hq]; decide)]
        refine ⟨i1, fun ⟨l, hl, h1, h2⟩ => ?_⟩
        rcases List.mem_cons.1 hl with rfl | hl
        · rw [hq] at h1; cases h1
        · exact i2 ⟨l, hl, h1, h2⟩
theorem Whole.next {F told rem p r : List EntB} {asc : Bool} {l : EntB} (h : Whole F asc told rem) (hr : rem = p ++ [l] ++ r) (hF : F.Pairwise (leD asc)) : Whole F asc (told ++ (p ++ [l])) (F.filter fun e => aheadB l e asc) ∧ (F.filter fun e => aheadB l e asc).length < rem.length := by
  have hs := h.rem_sort
  rw [hr] at hs
  have hs2 := List.pairwise_append.1 hs
  have hs3 := List.pairwise_append.1 hs2.1
  have pl : ∀ e ∈ p ++ [l], leD asc e l := fun e he => by
    rcases List.mem_append.1 he with he | he
    · exact hs3.2.2 e he l (List.mem_singleton.2 rfl)
    · rw [List.mem_singleton.1 he]; exact leD_refl _ _
  have inr : ∀ e ∈ p ++ [l], e ∈ rem := fun e he => by rw [hr]; exact List.mem_append_left _ he
  have tl : ∀ t ∈ told, leD asc t l := fun t ht => h.cross t ht l (inr l (by simp))
  have hfr : ∀ e ∈ F, aheadB l e asc = true → e ∈ r := fun e he ha => by
    have hne : ¬ leD asc e l := fun hle => by
      have h1 := ahead_of_le hle ha
      rw [ahead_dir, (dirC_ord asc).refl] at h1
      exact absurd h1 (by decide)
    rcases h.cov e he with h1 | h1
    · exact absurd (tl e h1) hne
    · rw [hr] at h1
      rcases List.mem_append.1 h1 with h1 | h1
      · exact absurd (pl e h1) hne
      · exact h1
  refine ⟨⟨?_, fun e he => ?_, fun e he => ?_, ⟨_, rfl⟩, fun e he => (List.mem_filter.1 he).1, hF.filter _, fun t ht e he => ?_⟩, ?_⟩
  · refine List.pairwise_append.2 ⟨h.sort, hs2.1, fun t ht e he => h.cross t ht e (inr e he)⟩
  · rcases List.mem_append.1 he with he | he
    · exact h.sub e he
    · exact h.rem_in e (inr e he)
  · cases ha : aheadB l e asc with
    | true => exact .inr (List.mem_filter.2 ⟨he, ha⟩)
    | false =>
      left
      rcases h.cov e he with h1 | h1
      · exact List.mem_append_left _ h1
      · rw [hr] at h1
        rcases List.mem_append.1 h1 with h1 | h1
        · exact List.mem_append_right _ h1
        · have h2 : leD asc l e := hs2.2.2 l (by simp) e h1
          rw [← not_ahead h2 ha]
          exact List.mem_append_right _ (by simp)
  · rcases List.mem_append.1 ht with ht | ht
    · exact leD_trans (tl t ht) (ahead_le (List.mem_filter.1 he).2)
    · exact leD_trans (pl t ht) (ahead_le (List.mem_filter.1 he).2)
  · obtain ⟨q, hq⟩ := h.rem_q
    have hq1 : ∀ e ∈ rem, e ∈ F ∧ q e = true := fun e he => by rw [hq] at he; exact List.mem_filter.1 he
    rw [hq]
    refine (filter_lt F (fun e he ha => (hq1 e ?_).2)).2 ⟨l, h.rem_in l (inr l (by simp)), (hq1 l (inr l (by simp))).2, ?_⟩
    · rw [hr]
      exact List.mem_append_right _ (hfr e he ha)
    · rw [ahead_dir, (dirC_ord asc).refl]
      decide
theorem Whole.last {F told rem : List EntB} {asc : Bool} (h : Whole F asc told rem) : (told ++ rem).Pairwise (leD asc) ∧ (∀ e, e ∈ told ++ rem ↔ e ∈ F) := by
  refine ⟨List.pairwise_append.2 ⟨h.sort, h.rem_sort, h.cross⟩, fun e => ⟨fun he => ?_, fun he => ?_⟩⟩
  · rcases List.mem_append.1 he with he | he
    · exact h.sub e he
    · exact h.rem_in e he
  · exact List.mem_append.2 (h.cov e he)
theorem dir_sorted (asc : Bool) {M : List EntB} (h : M.Pairwise leB) : (dirL asc M).Pairwise (leD asc) := by
  unfold dirL
  cases asc with
  | true => exact h
  | false => exact List.pairwise_reverse.2 h
theorem met_more (lo hi : Int) (asc : Bool) (lim : Int) (af : EntB) (M : List EntB) : metL (fun _ => true) ⟨lo, hi, asc, lim, true, af⟩ M = ((dirL asc M).filter (inT lo hi)).filter (fun e => aheadB af e asc) := by
  unfold metL
  rw [List.filter_filter]
  congr 1
  funext e
  unfold meetsB inT
  cases decide (lo ≤ e.ts) <;> cases decide (e.ts < hi) <;> cases aheadB af e asc <;> rfl
theorem sorted_dir (asc : Bool) (l : List EntX) (h : (l.map EntX.b).Pairwise (leD asc)) : sortedE asc l = true := by
  have h2 := List.pairwise_map.1 h
  cases asc with
  | true => exact rises l h2
  | false => exact falls l h2
end Go.Proofs.YtdaainifkldcpaaGreatDoor
