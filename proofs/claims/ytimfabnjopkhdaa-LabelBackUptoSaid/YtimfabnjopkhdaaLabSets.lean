/- Sets of labels: one by what they hold; what a set with more is. No program. -/
import Derived.Test.YtimfabnjopkhdaaLabLast
namespace Go.Proofs.Ytimfabnjopkhdaa
open Go.RowKit Go.Sort
set_option linter.unusedVariables false

/-- names rise, and each is a name -/
structure SetL (l : List PairB) : Prop where
  rise : l.Pairwise RiseP
  named : ∀ p ∈ l, nameB p.1 = true
theorem rise_irrefl (p q : PairB) (h : p.1 = q.1) : ¬ RiseP p q := by
  intro h2
  have h3 : txtC p.1 q.1 < 0 := h2
  rw [h, txtC_ord.refl] at h3
  exact absurd h3 (by decide)
theorem rise_asym (p q : PairB) (h : RiseP p q) : ¬ RiseP q p := by
  intro h2
  have h1 : txtC p.1 q.1 < 0 := h
  have h3 : txtC q.1 p.1 < 0 := h2
  have := txtC_ord.anti p.1 q.1
  omega
theorem rise_ext : ∀ (l m : List PairB), l.Pairwise RiseP → m.Pairwise RiseP → (∀ p, p ∈ l ↔ p ∈ m) → l = m
  | [], [], _, _, _ => rfl
  | [], y :: m, _, _, h => by have := (h y).2 List.mem_cons_self; cases this
  | x :: l, [], _, _, h => by have := (h x).1 List.mem_cons_self; cases this
  | x :: l, y :: m, h1, h2, h => by
    obtain ⟨a1, a2⟩ := List.pairwise_cons.1 h1
    obtain ⟨b1, b2⟩ := List.pairwise_cons.1 h2
    have hxy : x = y := by
      rcases List.mem_cons.1 ((h x).1 List.mem_cons_self) with e | hx
      · exact e
      · rcases List.mem_cons.1 ((h y).2 List.mem_cons_self) with e | hy
        · exact e.symm
        · exact absurd (b1 x hx) (rise_asym _ _ (a1 y hy))
    subst hxy
    rw [rise_ext l m a2 b2 (fun p => ⟨fun hp => by
      rcases List.mem_cons.1 ((h p).1 (List.mem_cons_of_mem _ hp)) with e | h3
      · subst e; exact absurd (a1 p hp) (rise_irrefl _ _ rfl)
      · exact h3, fun hp => by
      rcases List.mem_cons.1 ((h p).2 (List.mem_cons_of_mem _ hp)) with e | h3
      · subst e; exact absurd (b1 p hp) (rise_irrefl _ _ rfl)
      · exact h3⟩)]
theorem one_of {l : List PairB} (h : l.Pairwise RiseP) (nm : ByteArray) : l.filter (ofName nm) = [] ∨ ∃ p, p.1 = nm ∧ l.filter (ofName nm) = [p] := by
  have h2 := h.filter (ofName nm)
  have h3 : ∀ p ∈ l.filter (ofName nm), p.1 = nm := fun p hp => of_decide_eq_true (List.mem_filter.1 hp).2
  match hl : l.filter (ofName nm) with
  | [] => exact .inl rfl
  | [p] => exact .inr ⟨p, h3 p (by rw [hl]; exact List.mem_cons_self), rfl⟩
  | p :: q :: r =>
    rw [hl] at h2 h3
    have h4 := (List.pairwise_cons.1 h2).1 q List.mem_cons_self
    exact absurd h4 (rise_irrefl _ _ (by rw [h3 p List.mem_cons_self, h3 q (List.mem_cons_of_mem _ List.mem_cons_self)]))
theorem ofL_mem (ps : List PairB) (p : PairB) : p ∈ ofL ps ↔ ((namedL ps).filter (ofName p.1)).getLast? = some p := by
  have h := ofL_of ps p.1
  have e : p ∈ ofL ps ↔ p ∈ (ofL ps).filter (ofName p.1) := by
    rw [List.mem_filter]
    exact ⟨fun h => ⟨h, decide_eq_true rfl⟩, fun h => h.1⟩
  rw [e, h, Option.mem_toList]
theorem ofL_set (ps : List PairB) : SetL (ofL ps) := ⟨ofL_rise ps, fun p hp => by
  have h := List.mem_of_getLast? ((ofL_mem ps p).1 hp)
  have h2 := (List.mem_filter.1 h).1
  exact (List.mem_filter.1 h2).2⟩
theorem named_all {l : List PairB} (h : ∀ p ∈ l, nameB p.1 = true) : namedL l = l := List.filter_eq_self.2 h
theorem with_mem {a b : List PairB} (ha : SetL a) (hb : SetL b) (p : PairB) : p ∈ ofL (a ++ b) ↔ p ∈ b ∨ (p ∈ a ∧ b.filter (ofName p.1) = []) := by
  rw [ofL_mem, named_all (fun q hq => (List.mem_append.1 hq).elim (ha.named q) (hb.named q)), List.filter_append]
  have mb : p ∈ b ↔ p ∈ b.filter (ofName p.1) := by rw [List.mem_filter]; exact ⟨fun h => ⟨h, decide_eq_true rfl⟩, fun h => h.1⟩
  have ma : p ∈ a ↔ p ∈ a.filter (ofName p.1) := by rw [List.mem_filter]; exact ⟨fun h => ⟨h, decide_eq_true rfl⟩, fun h => h.1⟩
  rw [mb, ma]
  rcases one_of hb.rise p.1 with e | ⟨q, hq, e⟩
  · rw [e, List.append_nil]
    rcases one_of ha.rise p.1 with e2 | ⟨r, hr, e2⟩
    · rw [e2]; simp
    · rw [e2]; simp [eq_comm]
  · rw [e, List.getLast?_append]
    refine ⟨fun h => .inl ?_, fun h => ?_⟩
    · have h2 : some q = some p := h
      injection h2 with h2
      rw [h2]
      exact List.mem_cons_self
    · rcases h with h | ⟨_, h⟩
      · have h2 : p = q := List.mem_singleton.1 h
        show some q = some p
        rw [h2]
      · cases h
theorem set_nodup {l : List PairB} (h : l.Pairwise RiseP) : l.Nodup := h.imp (fun {p q} h2 => by
  rintro rfl
  exact rise_irrefl _ _ rfl h2)
theorem with_count {a b : List PairB} (ha : SetL a) (hb : SetL b) : (ofL (a ++ b)).length = b.length + (a.filter (fun p => decide (b.filter (ofName p.1) = []))).length := by
  rw [← List.length_append]
  apply List.Perm.length_eq
  have n1 := set_nodup (ofL_rise (a ++ b))
  have n2 : (b ++ a.filter (fun p => decide (b.filter (ofName p.1) = []))).Nodup := by
    rw [List.nodup_append]
    refine ⟨set_nodup hb.rise, (set_nodup ha.rise).filter _, fun x hx y hy e => ?_⟩
    subst e
    have h := of_decide_eq_true (List.mem_filter.1 hy).2
    have h2 : x ∈ b.filter (ofName x.1) := List.mem_filter.2 ⟨hx, decide_eq_true rfl⟩
    rw [h] at h2
    cases h2
  rw [List.perm_ext_iff_of_nodup n1 n2]
  intro p
  rw [with_mem ha hb, List.mem_append, List.mem_filter, decide_eq_true_iff]
theorem with_again {a b : List PairB} (ha : SetL a) (hb : SetL b) : ofL (ofL (a ++ b) ++ b) = ofL (a ++ b) := by
  refine rise_ext _ _ (ofL_rise _) (ofL_rise _) fun p => ?_
  rw [with_mem (ofL_set _) hb, with_mem ha hb]
  constructor
  · rintro (h | ⟨h, h2⟩)
    · exact .inl h
    · exact h
  · rintro (h | ⟨h, h2⟩)
    · exact .inl h
    · exact .inr ⟨.inr ⟨h, h2⟩, h2⟩
end Go.Proofs.Ytimfabnjopkhdaa
