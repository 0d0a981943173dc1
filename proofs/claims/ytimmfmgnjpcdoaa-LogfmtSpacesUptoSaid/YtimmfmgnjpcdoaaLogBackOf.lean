/- The fields of a line of what was put, and the set of them: of one name the first. No walk. (Never import this and LogManyLaw: both have allF_ok, ofF_right.) -/
import Derived.Test.YtimmfmgnjpcdoaaLogBackMath
import Derived.Test.YtimmfmgnjpcdoaaLogRef
namespace Go.Proofs.Ytimmfmgnjpcdoaa
open Go.RowKit
set_option linter.unusedVariables false
set_option linter.unusedSimpArgs false

theorem allR_done (t : ByteArray) (f m : Nat) : allR t f t.size m = [] := by
  cases f with
  | zero => rfl
  | succ f =>
    rw [allR_succ]
    have e : fieldR t t.size = none := by
      unfold fieldR
      rw [run_end (Nat.le_refl _), if_neg (Nat.lt_irrefl _)]
    rw [e]
    split <;> rfl
/-- blanks are gone by -/
theorem all_blank (t : ByteArray) : ∀ (pd : List UInt8) (k f m : Nat) (x : List UInt8), (∀ c ∈ pd, keyB c = false) → atL t k = pd ++ x → allR t f k m = allR t f (k + pd.length) m
  | [], k, f, m, x, hb, h => rfl
  | c :: pd, k, f, m, x, hb, h => by
    have hc : t.data.toList[k]? = some c := by
      have e : (atL t k)[0]? = some c := by rw [h]; rfl
      unfold atL at e
      rw [List.getElem?_drop] at e
      exact e
    have h2 : atL t (k + 1) = pd ++ x := at_add t k [c] _ h
    have h3 : allR t f k m = allR t f (k + 1) m := by
      cases f with
      | zero => rfl
      | succ f =>
        rw [allR_succ, allR_succ]
        have e : fieldR t k = fieldR t (k + 1) := field_skip (Nat.le_succ _) (fun i h1 h2 => by
          obtain rfl : i = k := by omega
          exact ⟨c, hc, by unfold notKey; rw [hb c List.mem_cons_self]; rfl⟩)
        rw [e]
    rw [h3, all_blank t pd (k + 1) f m x (fun d hd => hb d (List.mem_cons_of_mem _ hd)) h2, List.length_cons]
    congr 1
    omega
theorem lineT_list (ps : List PairB) : (lineT ps).data.toList = Lib.join (ps.map partL) [32] := by
  have h := lineTo_list ps ps.length (Nat.le_refl _)
  rw [lineTo_all, List.take_length] at h
  exact h
theorem join_more (a : List UInt8) (b : List UInt8) (r : List (List UInt8)) : Lib.join (a :: b :: r) [32] = a ++ ([32] ++ Lib.join (b :: r) [32]) := by
  rw [Lib.join_cons, Lib.join_cons]
  simp [Lib.joinTail]
theorem join_len : ∀ (ps : List PairB), ps.length ≤ (Lib.join (ps.map partL) [32]).length
  | [] => Nat.zero_le _
  | [p] => by
    rw [List.map_cons, List.map_nil, Lib.join_one, partL_len]
    simp only [List.length_cons, List.length_nil]
    omega
  | p :: q :: r => by
    have h := join_len (q :: r)
    rw [List.map_cons, List.map_cons, join_more, List.length_append, List.length_append, partL_len]
    rw [List.map_cons] at h
    simp only [List.length_cons, List.length_nil] at h ⊢
    omega
/-- a line that begins with what was put: its first fields -/
theorem all_more (ps : List PairB) (t : ByteArray) (x : List UInt8) (hp : ∀ p ∈ ps, nameB p.1 = true ∧ p.2.size ≤ 256) (hn : ps.length ≤ 64) (h : t.data.toList = Lib.join (ps.map partL) [32] ++ x) : ∃ r, allF t = ps ++ r := by
  by_cases h0 : ps = []
  · subst h0
    exact ⟨_, rfl⟩
  have hl := join_len ps
  have hz : t.size = (Lib.join (ps.map partL) [32]).length + x.length := by
    have e := congrArg List.length h
    rw [List.length_append] at e
    exact e
  exact ⟨_, all_put t ps 0 (t.size + 1) 64 x hp h0 hn (by omega) (by unfold atL; rw [List.drop_zero]; exact h)⟩
/-- what was put is read, all of it -/
theorem all_line (ps : List PairB) (hp : ∀ p ∈ ps, nameB p.1 = true ∧ p.2.size ≤ 256) (hn : ps.length ≤ 64) : allF (lineT ps) = ps := by
  by_cases h0 : ps = []
  · subst h0
    have e : lineT [] = (⟨#[]⟩ : ByteArray) := text_ext1 (lineT_list [])
    rw [e]
    exact allR_done (⟨#[]⟩ : ByteArray) _ _
  have h := lineT_list ps
  have hl := join_len ps
  have hz : (lineT ps).size = (Lib.join (ps.map partL) [32]).length := congrArg List.length h
  have h1 := all_put (lineT ps) ps 0 ((lineT ps).size + 1) 64 [] hp h0 hn (by omega) (by unfold atL; rw [List.drop_zero, h, List.append_nil])
  unfold allF
  rw [h1, Nat.zero_add, ← hz, allR_done, List.append_nil]

theorem allR_ok (t : ByteArray) : ∀ f k m, ∀ p ∈ allR t f k m, okF p = true
  | 0, k, m => fun p hp => by cases hp
  | f + 1, k, m => fun p hp => by
    rw [allR_succ] at hp
    split at hp
    · cases hp
    · split at hp
      · cases hp
      · split at hp
        · next hok =>
          rcases List.mem_cons.1 hp with rfl | hp
          · exact hok
          · exact allR_ok t f _ _ p hp
        · exact allR_ok t f _ _ p hp
theorem allF_ok (t : ByteArray) : ∀ p ∈ allF t, nameB p.1 = true ∧ p.2.size ≤ 256 := fun p hp => by
  have h := allR_ok t _ _ _ p hp
  unfold okF at h
  rw [Bool.and_eq_true] at h
  exact ⟨h.1, of_decide_eq_true h.2⟩
theorem rightGo_set : ∀ (l : List PairB) (prev : Option ByteArray), (∀ p ∈ l, nameB p.1 = true ∧ p.2.size ≤ 256) → l.Pairwise RiseP → (∀ q, prev = some q → ∀ p ∈ l, txtC q p.1 < 0) → rightGo prev l = true
  | [], _, _, _, _ => rfl
  | p :: l, prev, h1, h2, h3 => by
    rw [rightGo, Bool.and_eq_true]
    have hp := h1 p List.mem_cons_self
    rw [List.pairwise_cons] at h2
    refine ⟨?_, rightGo_set l (some p.1) (fun q hq => h1 q (List.mem_cons_of_mem _ hq)) h2.2 (fun q hq r hr => by injection hq with hq; subst hq; exact h2.1 r hr)⟩
    unfold okAt
    rw [hp.1, decide_eq_true hp.2]
    cases prev with
    | none => rfl
    | some q =>
      have := h3 q rfl p List.mem_cons_self
      simp [this]
theorem ofL_sub (ps : List PairB) : ∀ p ∈ ofL ps, p ∈ ps := fun p hp => by
  rw [ofL_mem] at hp
  have := List.mem_of_getLast? hp
  rw [List.mem_filter] at this
  unfold namedL at this
  exact (List.mem_filter.1 this.1).1
theorem ofF_right (t : ByteArray) : rightB (ofF t) = true := by
  unfold rightB
  rw [decide_eq_true (by unfold ofF; rw [List.length_take]; omega), Bool.true_and]
  refine rightGo_set _ _ (fun p hp => ?_) ?_ (fun q h => by cases h)
  · have h1 : p ∈ ofL (allF t).reverse := List.mem_of_mem_take hp
    exact allF_ok t p (List.mem_reverse.1 (ofL_sub _ p h1))
  · exact (ofL_rise _).sublist (List.take_sublist _ _)

/- of one name the first -/
theorem first_mem (s : List PairB) (hs : ∀ p ∈ s, nameB p.1 = true) (p : PairB) : p ∈ ofL s.reverse ↔ (s.filter (ofName p.1)).head? = some p := by
  rw [ofL_mem, named_all (fun q hq => hs q (List.mem_reverse.1 hq)), List.filter_reverse, List.getLast?_reverse]
theorem first_grows {s r : List PairB} (hs : ∀ p ∈ s ++ r, nameB p.1 = true) {p : PairB} (h : p ∈ ofL s.reverse) : p ∈ ofL (s ++ r).reverse := by
  rw [first_mem s (fun q hq => hs q (List.mem_append_left _ hq))] at h
  rw [first_mem _ hs, List.filter_append]
  cases e : s.filter (ofName p.1) with
  | nil => rw [e] at h; cases h
  | cons a l => rw [e] at h; exact h
open Classical in
theorem rise_sub {l m : List PairB} (hl : l.Pairwise RiseP) (hm : m.Pairwise RiseP) (h : ∀ p ∈ l, p ∈ m) : ∃ q : PairB → Bool, l = m.filter q :=
  ⟨fun p => decide (p ∈ l), rise_ext _ _ hl (hm.filter _) (fun p => by
    rw [List.mem_filter, decide_eq_true_iff]
    exact ⟨fun h1 => ⟨h p h1, h1⟩, fun h1 => h1.2⟩)⟩
theorem rise_len {l m : List PairB} (hl : l.Pairwise RiseP) (hm : m.Pairwise RiseP) (h : ∀ p ∈ l, p ∈ m) : l.length ≤ m.length := by
  obtain ⟨q, hq⟩ := rise_sub hl hm h
  rw [hq]
  exact List.length_filter_le _ _
theorem take_few {α : Type} {l : List α} {n : Nat} (h : (l.take n).length < n) : l.take n = l := by
  rw [List.length_take] at h
  exact List.take_of_length_le (by omega)
/-- a set of fewer than sixteen is whole; a line that begins as another has all that it has -/
theorem ofF_grows {t u : ByteArray} {s r : List PairB} (ht : allF t = s) (hu : allF u = s ++ r) (h : (ofF u).length < 16) : (∀ p ∈ ofF t, p ∈ ofF u) ∧ (ofF t).length ≤ (ofF u).length := by
  have hs : ∀ p ∈ s ++ r, nameB p.1 = true := fun p hp => (allF_ok u p (by rw [hu]; exact hp)).1
  have hU : ofF u = ofL (s ++ r).reverse := by
    unfold ofF at h ⊢
    rw [take_few h, hu]
  have h1 : ∀ p ∈ ofF t, p ∈ ofF u := fun p hp => by
    rw [hU]
    unfold ofF at hp
    rw [ht] at hp
    exact first_grows hs (List.mem_of_mem_take hp)
  exact ⟨h1, rise_len (by unfold ofF; exact (ofL_rise _).sublist (List.take_sublist _ _)) (by rw [hU]; exact ofL_rise _) h1⟩
/-- a name that is there is in the set of fewer than sixteen; where it is the first, with its value -/
theorem ofF_name {t : ByteArray} {s : List PairB} (ht : allF t = s) (h : (ofF t).length < 16) {p : PairB} (hp : p ∈ s) : ∃ q ∈ ofF t, q.1 = p.1 ∧ (s.filter (ofName p.1)).head? = some q := by
  have hs : ∀ p ∈ s, nameB p.1 = true := fun p hp => (allF_ok t p (by rw [ht]; exact hp)).1
  have hT : ofF t = ofL s.reverse := by
    unfold ofF at h ⊢
    rw [take_few h, ht]
  have hm : p ∈ s.filter (ofName p.1) := List.mem_filter.2 ⟨hp, decide_eq_true rfl⟩
  cases e : s.filter (ofName p.1) with
  | nil => rw [e] at hm; cases hm
  | cons a l =>
    have ha : a ∈ s.filter (ofName p.1) := by rw [e]; exact List.mem_cons_self
    have hn : a.1 = p.1 := of_decide_eq_true (List.mem_filter.1 ha).2
    refine ⟨a, ?_, hn, rfl⟩
    rw [hT, first_mem s hs, hn, e]
    rfl
/-- a set put in any order of its own is the set -/
theorem set_again {l : List PairB} (h : SetL l) : ofL l.reverse = l :=
  rise_ext _ _ (ofL_rise _) h.1 (fun p => by
    rw [first_mem l h.2]
    rcases one_of h.1 p.1 with e | ⟨q, hq, e⟩
    · rw [e]
      refine ⟨fun h1 => (by cases h1), fun h1 => ?_⟩
      have : p ∈ l.filter (ofName p.1) := List.mem_filter.2 ⟨h1, decide_eq_true rfl⟩
      rw [e] at this
      cases this
    · rw [e]
      refine ⟨fun h1 => ?_, fun h1 => ?_⟩
      · injection h1 with h1
        subst h1
        have : q ∈ l.filter (ofName q.1) := by rw [e]; exact List.mem_cons_self
        exact (List.mem_filter.1 this).1
      · have : p ∈ l.filter (ofName p.1) := List.mem_filter.2 ⟨h1, decide_eq_true rfl⟩
        rw [e, List.mem_singleton] at this
        rw [this]
        rfl)

/- with blanks more, ahead, behind and between -/
theorem allR_over {t : ByteArray} {k : Nat} (h : t.size ≤ k) (f m : Nat) : allR t f k m = [] := by
  cases f with
  | zero => rfl
  | succ f =>
    rw [allR_succ]
    have e : fieldR t k = none := by
      unfold fieldR
      rw [run_end h, if_neg (by omega)]
    rw [e]
    split <;> rfl
/-- each with a space and blanks behind -/
def gapsL (pd : List UInt8) : List PairB → List UInt8
  | [] => []
  | p :: ps => partL p ++ (32 :: pd) ++ gapsL pd ps
theorem gaps_snoc (pd : List UInt8) (p : PairB) : ∀ (ps : List PairB), gapsL pd (ps ++ [p]) = gapsL pd ps ++ partL p ++ (32 :: pd)
  | [] => by simp [gapsL]
  | q :: ps => by rw [List.cons_append, gapsL, gaps_snoc pd p ps, gapsL]; simp
theorem gaps_len (pd : List UInt8) : ∀ (ps : List PairB), ps.length ≤ (gapsL pd ps).length
  | [] => Nat.zero_le _
  | p :: ps => by
    have h := gaps_len pd ps
    rw [gapsL, List.length_append, List.length_append, List.length_cons, List.length_cons]
    omega
theorem all_gaps (t : ByteArray) (pd : List UInt8) (hb : ∀ c ∈ pd, keyB c = false) : ∀ (ps : List PairB) (k f m : Nat), (∀ p ∈ ps, nameB p.1 = true ∧ p.2.size ≤ 256) → ps.length ≤ m → ps.length ≤ f → atL t k = gapsL pd ps → allR t f k m = ps
  | [], k, f, m, hp, hm, hf, h => by
    refine allR_over ?_ f m
    have e : t.data.toList.drop k = [] := h
    have e2 := List.drop_eq_nil_iff.1 e
    exact e2
  | p :: ps, k, f, m, hp, hm, hf, h => by
    obtain ⟨f2, rfl⟩ : ∃ f2, f = f2 + 1 := ⟨f - 1, by rw [List.length_cons] at hf; omega⟩
    have hp1 := hp p List.mem_cons_self
    rw [List.length_cons] at hm hf
    have h1 : atL t k = partL p ++ ((32 :: pd) ++ gapsL pd ps) := by rw [h, gapsL, List.append_assoc]
    have h2 := at_add t k _ _ h1
    have h3 := at_add t _ _ _ h2
    rw [allR_succ, if_neg (by omega), field_put hp1.1 h1]
    dsimp only
    rw [if_pos (by unfold okF; rw [hp1.1, decide_eq_true hp1.2]; rfl)]
    rw [all_blank t (32 :: pd) _ f2 (m - 1) _ (fun c hc => by
      rcases List.mem_cons.1 hc with rfl | hc
      · decide
      · exact hb c hc) h2]
    rw [all_gaps t pd hb ps _ f2 (m - 1) (fun q hq => hp q (List.mem_cons_of_mem _ hq)) (by omega) (by omega) h3]
theorem all_gapped (t : ByteArray) (pd : List UInt8) (hb : ∀ c ∈ pd, keyB c = false) (ps : List PairB) (hp : ∀ p ∈ ps, nameB p.1 = true ∧ p.2.size ≤ 256) (hn : ps.length ≤ 64) (h : t.data.toList = pd ++ gapsL pd ps) : allF t = ps := by
  have h0 : atL t 0 = pd ++ gapsL pd ps := by unfold atL; rw [List.drop_zero]; exact h
  have hl := gaps_len pd ps
  have hz : t.size = (pd ++ gapsL pd ps).length := congrArg List.length h
  rw [List.length_append] at hz
  unfold allF
  rw [all_blank t pd 0 _ 64 _ hb h0]
  exact all_gaps t pd hb ps _ _ 64 hp hn (by omega) (at_add t 0 _ _ h0)
/-- a set of at most sixteen, each of at most 256 bytes, put with blanks: the set -/
theorem ofF_gapped (t : ByteArray) (pd : List UInt8) (hb : ∀ c ∈ pd, keyB c = false) (ps : List PairB) (hs : SetL ps) (hp : ∀ p ∈ ps, p.2.size ≤ 256) (hn : ps.length ≤ 16) (h : t.data.toList = pd ++ gapsL pd ps) : ofF t = ps := by
  unfold ofF
  rw [all_gapped t pd hb ps (fun p hq => ⟨hs.2 p hq, hp p hq⟩) (by omega) h, set_again hs]
  exact List.take_of_length_le hn
end Go.Proofs.Ytimmfmgnjpcdoaa
