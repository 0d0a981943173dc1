-- shaken
import Derived.Test.YtdaainifkldcpaaGreatDoorMergeFirst
import Derived.Test.YtdaainifkldcpaaGreatDoorStoWholeMath
namespace Go.Proofs.YtdaainifkldcpaaGreatDoor
open Go.RowKit
set_option linter.unusedVariables false
set_option linter.unusedSimpArgs false
structure FetchP (asc : Bool) (tells : List (List EntB)) (ends p : List EntB) : Prop where
  strict : StrictB asc p
  mem : ∀ e, e ∈ p ↔ (∃ t ∈ tells, e ∈ t) ∧ ∀ u ∈ ends, aheadB u e asc = false
theorem insB_len (asc : Bool) (x : EntB) (l : List EntB) : (insB asc x l).length ≤ l.length + 1 := by
  induction l with
  | nil => exact Nat.le_refl _
  | cons y l ih =>
    unfold insB
    split
    · exact Nat.le_refl _
    · split
      · rw [List.length_cons, List.length_cons]; omega
      · rw [List.length_cons]; omega
theorem uniq_len (asc : Bool) (l : List EntB) : (uniqB asc l).length ≤ l.length := by
  have h : ∀ (l m : List EntB), (l.foldl (fun out x => insB asc x out) m).length ≤ m.length + l.length := by
    intro l
    induction l with
    | nil => intro m; exact Nat.le_refl _
    | cons x l ih =>
      intro m
      have h1 := ih (insB asc x m)
      have h2 := insB_len asc x m
      rw [List.foldl_cons, List.length_cons]
      omega
  have := h l []
  rw [List.length_nil, Nat.zero_add] at this
  exact this
theorem fetch_all (asc : Bool) (tells : List (List EntB)) : FetchP asc tells [] (uniqB asc tells.flatten) := by
  refine ⟨uniq_strict _ _, fun e => ?_⟩
  rw [uniq_mem, List.mem_flatten]
  exact ⟨fun h => ⟨h, fun u hu => by cases hu⟩, fun h => h.1⟩
theorem fetch_upto (asc : Bool) (tells : List (List EntB)) (ends : List EntB) (u : EntB) (hu : u ∈ ends) (hl : ∀ v ∈ ends, aheadB v u asc = false) :
    FetchP asc tells ends ((uniqB asc tells.flatten).filter fun e => !aheadB u e asc) := by
  refine ⟨(uniq_strict _ _).filter _, fun e => ?_⟩
  rw [List.mem_filter, uniq_mem, List.mem_flatten]
  constructor
  · rintro ⟨h1, h2⟩
    refine ⟨h1, fun v hv => ahead_not (hl v hv) ?_⟩
    cases h3 : aheadB u e asc with
    | false => rfl
    | true => rw [h3] at h2; cases h2
  · rintro ⟨h1, h2⟩
    refine ⟨h1, ?_⟩
    rw [h2 u hu]
    rfl
theorem least_of (asc : Bool) : ∀ (l : List EntB), l ≠ [] → ∃ u ∈ l, ∀ v ∈ l, aheadB v u asc = false
  | [], h => absurd rfl h
  | [x], _ => ⟨x, List.mem_cons_self, fun v hv => by rw [List.mem_singleton.1 hv]; exact ahead_irr _ _⟩
  | x :: y :: l, _ => by
    obtain ⟨u, hu, hl⟩ := least_of asc (y :: l) (by simp)
    cases h : aheadB x u asc with
    | false => exact ⟨u, List.mem_cons_of_mem _ hu, fun v hv => by
        rcases List.mem_cons.1 hv with rfl | hv
        · exact h
        · exact hl v hv⟩
    | true => exact ⟨x, List.mem_cons_self, fun v hv => by
        rcases List.mem_cons.1 hv with rfl | hv
        · exact ahead_irr _ _
        · exact ahead_not (hl v hv) (ahead_anti h)⟩
def SortB (asc : Bool) (l : List EntB) : Prop := l.Pairwise fun a b => aheadB b a asc = false
theorem take_end {α : Type} {l : List α} {m : Nat} (h1 : l ≠ []) (h2 : 1 ≤ m) : ∃ p x, l.take m = p ++ [x] := by
  have h3 : l.take m ≠ [] := by
    match l, m, h1, h2 with
    | a :: l, m + 1, _, _ => simp
  exact ⟨_, _, (List.dropLast_concat_getLast h3).symm⟩
def endOf (r : List EntB) (m : Nat) : Option EntB := if m < r.length then (r.take m).getLast? else none
theorem endOf_mem {r : List EntB} {m : Nat} {u : EntB} (h : endOf r m = some u) : u ∈ r.take m ∧ m < r.length := by
  unfold endOf at h
  split at h
  · exact ⟨List.mem_of_getLast? h, ‹_›⟩
  · cases h
theorem endOf_some {r : List EntB} {m : Nat} (h1 : 1 ≤ m) (h2 : m < r.length) : ∃ u, endOf r m = some u ∧ ∀ asc, SortB asc r → ∀ e ∈ r, e ∈ r.take m ∨ aheadB e u asc = false := by
  obtain ⟨p, x, hx⟩ := take_end (l := r) (m := m) (fun e => by rw [e] at h2; simp at h2) h1
  refine ⟨x, by unfold endOf; rw [if_pos h2, hx]; simp, fun asc hs e he => ?_⟩
  rw [← List.take_append_drop m r] at he
  rcases List.mem_append.1 he with he | he
  · exact .inl he
  · refine .inr ?_
    have h3 : SortB asc (r.take m ++ r.drop m) := by rw [List.take_append_drop]; exact hs
    exact (List.pairwise_append.1 h3).2.2 x (by rw [hx]; simp) e he
structure FanSt (asc : Bool) (Fs : List (List EntB)) (q : EntB → Bool) (told : List EntB) : Prop where
  strict : StrictB asc told
  sub : ∀ e ∈ told, ∃ F ∈ Fs, e ∈ F
  cov : ∀ F ∈ Fs, ∀ e ∈ F, e ∈ told ∨ q e = true
  cross : ∀ t ∈ told, ∀ F ∈ Fs, ∀ e ∈ F, q e = true → aheadB t e asc = true
theorem FanSt.start (asc : Bool) (Fs : List (List EntB)) : FanSt asc Fs (fun _ => true) [] :=
  ⟨List.Pairwise.nil, (fun e he => by cases he), (fun _ _ _ _ => Or.inr rfl), (fun t ht => by cases ht)⟩
def leftN (Fs : List (List EntB)) (q : EntB → Bool) : Nat := (Fs.map fun F => (F.filter q).length).sum
theorem left_lt : ∀ (Fs : List (List EntB)) (p q : EntB → Bool), (∀ F ∈ Fs, ∀ e ∈ F, p e = true → q e = true) → leftN Fs p ≤ leftN Fs q ∧ ((∃ F ∈ Fs, ∃ l ∈ F, q l = true ∧ p l = false) → leftN Fs p < leftN Fs q)
  | [], _, _, _ => ⟨Nat.le_refl _, fun ⟨F, hF, _⟩ => by cases hF⟩
  | F :: Fs, p, q, h => by
    obtain ⟨i1, i2⟩ := left_lt Fs p q (fun G hG => h G (List.mem_cons_of_mem _ hG))
    obtain ⟨j1, j2⟩ := filter_lt F (h F List.mem_cons_self)
    unfold leftN at i1 i2 ⊢
    rw [List.map_cons, List.map_cons, List.sum_cons, List.sum_cons]
    refine ⟨by omega, fun ⟨G, hG, l, hl, h1, h2⟩ => ?_⟩
    rcases List.mem_cons.1 hG with rfl | hG
    · have := j2 ⟨l, hl, h1, h2⟩; omega
    · have := i2 ⟨G, hG, l, hl, h1, h2⟩; omega
def tellsM (q : EntB → Bool) (RM : List (List EntB × Nat)) : List (List EntB) := RM.map fun r => (r.1.filter q).take r.2
def endsM (q : EntB → Bool) (RM : List (List EntB × Nat)) : List EntB := RM.filterMap fun r => endOf (r.1.filter q) r.2
theorem tells_of {q : EntB → Bool} {RM : List (List EntB × Nat)} {e : EntB} (h : ∃ t ∈ tellsM q RM, e ∈ t) : ∃ F ∈ RM.map Prod.fst, e ∈ F ∧ q e = true := by
  obtain ⟨t, ht, he⟩ := h
  obtain ⟨r, hr, rfl⟩ := List.mem_map.1 ht
  have h1 := List.mem_filter.1 (List.mem_of_mem_take he)
  exact ⟨r.1, List.mem_map_of_mem hr, h1⟩
theorem FanSt.told {asc : Bool} {Fs : List (List EntB)} {q : EntB → Bool} {told p : List EntB} {RM : List (List EntB × Nat)} (h : FanSt asc Fs q told) (hR : RM.map Prod.fst = Fs) (hp : FetchP asc (tellsM q RM) (endsM q RM) p) :
    StrictB asc (told ++ p) ∧ ∀ e ∈ told ++ p, ∃ F ∈ Fs, e ∈ F := by
  subst hR
  refine ⟨List.pairwise_append.2 ⟨h.strict, hp.strict, fun t ht e he => ?_⟩, fun e he => ?_⟩
  · obtain ⟨F, hF, h1, h2⟩ := tells_of ((hp.mem e).1 he).1
    exact h.cross t ht F hF e h1 h2
  · rcases List.mem_append.1 he with he | he
    · exact h.sub e he
    · obtain ⟨F, hF, h1, _⟩ := tells_of ((hp.mem e).1 he).1
      exact ⟨F, hF, h1⟩
theorem FanSt.done {asc : Bool} {Fs : List (List EntB)} {q : EntB → Bool} {told p : List EntB} {RM : List (List EntB × Nat)} (h : FanSt asc Fs q told) (hR : RM.map Prod.fst = Fs) (hp : FetchP asc (tellsM q RM) (endsM q RM) p) (hm : ∀ r ∈ RM, (r.1.filter q).length ≤ r.2) :
    StrictB asc (told ++ p) ∧ ∀ e, e ∈ told ++ p ↔ ∃ F ∈ Fs, e ∈ F := by
  obtain ⟨h1, h2⟩ := h.told hR hp
  refine ⟨h1, fun e => ⟨h2 e, fun ⟨F, hF, he⟩ => ?_⟩⟩
  rcases h.cov F hF e he with h3 | h3
  · exact List.mem_append_left _ h3
  · refine List.mem_append_right _ ((hp.mem e).2 ⟨?_, fun u hu => ?_⟩)
    · rw [← hR] at hF
      obtain ⟨r, hr, rfl⟩ := List.mem_map.1 hF
      exact ⟨_, List.mem_map_of_mem hr, by rw [List.take_of_length_le (hm r hr)]; exact List.mem_filter.2 ⟨he, h3⟩⟩
    · obtain ⟨r, hr, h4⟩ := List.mem_filterMap.1 hu
      have h5 := (endOf_mem h4).2
      have := hm r hr
      omega
theorem FanSt.next {asc : Bool} {Fs : List (List EntB)} {q : EntB → Bool} {told p : List EntB} {RM : List (List EntB × Nat)} (h : FanSt asc Fs q told) (hR : RM.map Prod.fst = Fs) (hp : FetchP asc (tellsM q RM) (endsM q RM) p) (hm1 : ∀ r ∈ RM, 1 ≤ r.2) (hs : ∀ F ∈ Fs, SortB asc F) (hm : ∃ r ∈ RM, r.2 < (r.1.filter q).length) :
    ∃ y l, p = y ++ [l] ∧ FanSt asc Fs (fun e => aheadB l e asc) (told ++ p) ∧ leftN Fs (fun e => aheadB l e asc) < leftN Fs q := by
  obtain ⟨h1, h2⟩ := h.told hR hp
  obtain ⟨r0, hr0, hm0⟩ := hm
  obtain ⟨u0, hu0, _⟩ := endOf_some (hm1 r0 hr0) hm0
  obtain ⟨u, hu, hl⟩ := least_of asc (endsM q RM) (fun e => by
    have : u0 ∈ endsM q RM := List.mem_filterMap.2 ⟨r0, hr0, hu0⟩
    rw [e] at this
    cases this)
  have hup : u ∈ p := by
    refine (hp.mem u).2 ⟨?_, hl⟩
    obtain ⟨r, hr, h4⟩ := List.mem_filterMap.1 hu
    exact ⟨_, List.mem_map_of_mem hr, (endOf_mem h4).1⟩
  have hpn : p ≠ [] := fun e => by rw [e] at hup; cases hup
  obtain ⟨y, l, hyl⟩ : ∃ y l, p = y ++ [l] := ⟨_, _, (List.dropLast_concat_getLast hpn).symm⟩
  have hlp : l ∈ p := by rw [hyl]; simp
  have hps := hp.strict
  rw [hyl] at hps
  have hyl2 := (List.pairwise_append.1 hps).2.2
  have pl : ∀ t ∈ p, t = l ∨ aheadB t l asc = true := fun t ht => by
    rw [hyl] at ht
    rcases List.mem_append.1 ht with ht | ht
    · exact .inr (hyl2 t ht l (List.mem_singleton.2 rfl))
    · exact .inl (List.mem_singleton.1 ht)
  have hul : u = l := by
    rcases pl u hup with h3 | h3
    · exact h3
    · rw [((hp.mem l).1 hlp).2 u hu] at h3
      cases h3
  obtain ⟨Fl, hFl, hlF, hql⟩ := tells_of ((hp.mem l).1 hlp).1
  rw [hR] at hFl
  have tl : ∀ t ∈ told, aheadB t l asc = true := fun t ht => h.cross t ht Fl hFl l hlF hql
  refine ⟨y, l, hyl, ⟨h1, h2, fun F hF e he => ?_, fun t ht F hF e he ha => ?_⟩, ?_⟩
  · rcases h.cov F hF e he with h3 | h3
    · exact .inl (List.mem_append_left _ h3)
    · cases ha : aheadB l e asc with
      | true => exact .inr rfl
      | false =>
        left
        have hends : ∀ v ∈ endsM q RM, aheadB v e asc = false := fun v hv => ahead_not (hl v hv) (by rw [hul]; exact ha)
        refine List.mem_append_right _ ((hp.mem e).2 ⟨?_, hends⟩)
        rw [← hR] at hF
        obtain ⟨r, hr, rfl⟩ := List.mem_map.1 hF
        have hef : e ∈ r.1.filter q := List.mem_filter.2 ⟨he, h3⟩
        rcases Nat.lt_or_ge r.2 (r.1.filter q).length with h4 | h4
        · obtain ⟨v, hv, hrest⟩ := endOf_some (hm1 r hr) h4
          have hvm : v ∈ endsM q RM := List.mem_filterMap.2 ⟨r, hr, hv⟩
          have hsr : SortB asc (r.1.filter q) := (hs r.1 (by rw [← hR]; exact List.mem_map_of_mem hr)).filter _
          rcases hrest asc hsr e hef with h5 | h5
          · exact ⟨_, List.mem_map_of_mem hr, h5⟩
          · have := ahead_total h5 (hends v hvm)
            rw [this]
            exact ⟨_, List.mem_map_of_mem hr, (endOf_mem hv).1⟩
        · exact ⟨_, List.mem_map_of_mem hr, by rw [List.take_of_length_le h4]; exact hef⟩
  · rcases List.mem_append.1 ht with ht | ht
    · exact ahead_trans (tl t ht) ha
    · rcases pl t ht with rfl | h3
      · exact ha
      · exact ahead_trans h3 ha
  · refine (left_lt Fs _ q (fun F hF e he ha => ?_)).2 ⟨Fl, hFl, l, hlF, hql, ahead_irr _ _⟩
    rcases h.cov F hF e he with h3 | h3
    · have h4 := tl e h3
      rw [ahead_anti ha] at h4
      cases h4
    · exact h3
theorem sortB_of {asc : Bool} {l : List EntB} (h : l.Pairwise (leD asc)) : SortB asc l := by
  refine List.Pairwise.imp ?_ h
  intro a b hab
  rw [ahead_dir, decide_eq_false_iff_not]
  have := (dirC_ord asc).anti a b
  unfold leD at hab
  omega
theorem met_q (lo hi : Int) (asc : Bool) (lim : Int) (has : Bool) (af : EntB) (M : List EntB) : metL (fun _ => true) ⟨lo, hi, asc, lim, has, af⟩ M = ((dirL asc M).filter (inT lo hi)).filter (fun e => !has || aheadB af e asc) := by
  cases has with
  | true =>
    rw [met_more]
    congr 1
  | false =>
    rw [met_in]
    exact (List.filter_eq_self.2 (fun _ _ => rfl)).symm
def qF (asc has : Bool) (af : EntB) : EntB → Bool := fun e => !has || aheadB af e asc
theorem qF_all (asc : Bool) (af : EntB) : qF asc false af = fun _ => true := rfl
theorem qF_behind (asc : Bool) (af : EntB) : qF asc true af = fun e => aheadB af e asc := rfl
structure StepF (asc : Bool) (Fs : List (List EntB)) (has : Bool) (af : EntB) (told : List EntB) (k : Nat) : Prop where
  st : FanSt asc Fs (qF asc has af) told
  num : k + leftN Fs (qF asc has af) ≤ 32
theorem StepF.start (asc : Bool) (Fs : List (List EntB)) (af : EntB) (h : ∀ F ∈ Fs, F.length ≤ 8) (hn : Fs.length ≤ 4) : StepF asc Fs false af [] 0 := by
  refine ⟨FanSt.start asc Fs, ?_⟩
  rw [qF_all]
  have h2 : ∀ Gs : List (List EntB), (∀ F ∈ Gs, F.length ≤ 8) → leftN Gs (fun _ => true) ≤ 8 * Gs.length := by
    intro Gs
    induction Gs with
    | nil => intro _; exact Nat.le_refl _
    | cons F Gs ih =>
      intro h
      have h3 := ih (fun G hG => h G (List.mem_cons_of_mem _ hG))
      have h4 := h F List.mem_cons_self
      have h5 := List.length_filter_le (fun _ : EntB => true) F
      unfold leftN at h3 ⊢
      rw [List.map_cons, List.sum_cons, List.length_cons]
      omega
  have := h2 Fs h
  omega
def moreM (q : EntB → Bool) (RM : List (List EntB × Nat)) : Bool := RM.any fun r => decide (r.2 < (r.1.filter q).length)
structure EndF (asc : Bool) (Fs : List (List EntB)) (more has : Bool) (af : EntB) (told : List EntB) (k gk : Nat) : Prop where
  yes : more = true → StepF asc Fs has af told k ∧ gk = leftN Fs (qF asc has af) + 1
  no : more = false → (StrictB asc told ∧ ∀ e, e ∈ told ↔ ∃ F ∈ Fs, e ∈ F) ∧ gk = 0
theorem StepF.last {asc : Bool} {Fs : List (List EntB)} {has : Bool} {af : EntB} {told p : List EntB} {k : Nat} {RM : List (List EntB × Nat)} (h : StepF asc Fs has af told k) (hR : RM.map Prod.fst = Fs) (hp : FetchP asc (tellsM (qF asc has af) RM) (endsM (qF asc has af) RM) p) (hm : moreM (qF asc has af) RM = false) (has' : Bool) (af' : EntB) :
    EndF asc Fs false has' af' (told ++ p) (k + 1) 0 := by
  refine ⟨(fun e => by cases e), (fun _ => ⟨h.st.done hR hp (fun r hr => ?_), rfl⟩)⟩
  rcases Nat.lt_or_ge r.2 (r.1.filter (qF asc has af)).length with h1 | h1
  · have h2 : moreM (qF asc has af) RM = true := List.any_eq_true.2 ⟨r, hr, decide_eq_true h1⟩
    rw [hm] at h2
    cases h2
  · exact h1
theorem StepF.next {asc : Bool} {Fs : List (List EntB)} {has : Bool} {af : EntB} {told p : List EntB} {k : Nat} {RM : List (List EntB × Nat)} (h : StepF asc Fs has af told k) (hR : RM.map Prod.fst = Fs) (hp : FetchP asc (tellsM (qF asc has af) RM) (endsM (qF asc has af) RM) p) (hm1 : ∀ r ∈ RM, 1 ≤ r.2) (hs : ∀ F ∈ Fs, SortB asc F) (hm : moreM (qF asc has af) RM = true) :
    ∃ y l, p = y ++ [l] ∧ ∃ gk, EndF asc Fs true true l (told ++ p) (k + 1) gk ∧ gk < leftN Fs (qF asc has af) + 1 := by
  obtain ⟨r, hr, h1⟩ := List.any_eq_true.1 hm
  obtain ⟨y, l, e, h2, h3⟩ := h.st.next hR hp hm1 hs ⟨r, hr, of_decide_eq_true h1⟩
  rw [← qF_behind] at h2 h3
  have h4 := h.num
  exact ⟨y, l, e, leftN Fs (qF asc true l) + 1, ⟨fun _ => ⟨⟨h2, by omega⟩, rfl⟩, fun e => by cases e⟩, by omega⟩
end Go.Proofs.YtdaainifkldcpaaGreatDoor
