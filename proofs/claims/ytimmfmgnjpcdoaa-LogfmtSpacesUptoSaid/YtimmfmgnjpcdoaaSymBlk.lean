/- Blocks put in order, two by two; and that a list put in order, those alike as they stood, is one list. No walk. -/
import Derived.Test.YtimmfmgnjpcdoaaSymMrg
import Derived.Test.YtimmfmgnjpcdoaaLabSets
namespace Go.Proofs.Ytimmfmgnjpcdoaa.Sy
set_option linter.unusedVariables false
set_option linter.unusedSimpArgs false
section
variable {α : Type} [Inhabited α] {C : α → α → Int}
/-- the blocks of k that begin from lo up to hi are in order, and hold what stood in them -/
def Bl (C : α → α → Int) (L : List (KeyP α)) (k lo hi n : Nat) : Prop := ∀ x, k ∣ x → lo ≤ x → x < hi → Up C L x (min (x + k) n) ∧ Tags L x (min (x + k) n)
theorem dvd_next {k x a : Nat} (hx : k ∣ x) (ha : k ∣ a) (h : x < a) : x + k ≤ a := by
  obtain ⟨p, rfl⟩ := hx
  obtain ⟨q, rfl⟩ := ha
  have hp : p < q := Nat.lt_of_mul_lt_mul_left h
  have := Nat.mul_le_mul_left k (Nat.succ_le_of_lt hp)
  rw [Nat.mul_succ] at this
  exact this
theorem Tags.join {L : List (KeyP α)} {x y z : Nat} (h1 : Tags L x y) (h2 : Tags L y z) (hxy : x ≤ y) (hyz : y ≤ z) : Tags L x z := fun i hi hi2 => by
  rcases Nat.lt_or_ge i y with c | c
  · have := h1 i hi c
    omega
  · have := h2 i c hi2
    omega
theorem Bl.first {L L' : List (KeyP α)} {k a b n : Nat} (hk : 0 < k) (ha : k ∣ a) (hb : b = min (a + k) n) (hbn : a ≤ b) (h : Bl C L k 0 a n) (ht : Tags L a b) (m : Mid L L' a b) (u : Up C L' a b) : Bl C L' k 0 (a + k) n := by
  intro x hx _ hlt
  rcases Nat.lt_or_ge x a with c | c
  · have h1 := dvd_next hx ha c
    obtain ⟨k1, k2⟩ := h x hx (Nat.zero_le _) c
    exact ⟨m.up k1 (.inl (by omega)), m.tags k2 (.inl (by omega))⟩
  · have e : x = a := by
      rcases Nat.eq_or_lt_of_le c with e | e
      · exact e.symm
      · have := dvd_next ha hx e
        omega
    subst e
    rw [← hb]
    exact ⟨u, m.tags_in ht (Nat.le_refl _) (Nat.le_refl _)⟩
theorem Bl.pre {L : List (KeyP α)} {k a b n : Nat} (hk : 0 < k) (ha : 2 * k ∣ a) (hb : b = min (a + 2 * k) n) (hak : a + k < n) (h2 : Bl C L k a n n) : Up C L a (a + k) ∧ Up C L (a + k) b ∧ Cross L a (a + k) b ∧ Tags L a b := by
  have hka : k ∣ a := Nat.dvd_trans ⟨2, Nat.mul_comm _ _⟩ ha
  obtain ⟨u1, t1⟩ := h2 a hka (Nat.le_refl _) (by omega)
  obtain ⟨u2, t2⟩ := h2 (a + k) (Nat.dvd_add hka (Nat.dvd_refl k)) (by omega) hak
  rw [show min (a + k) n = a + k by omega] at u1 t1
  rw [show min (a + k + k) n = b by omega] at u2 t2
  refine ⟨u1, u2, fun i j i1 i2 j1 j2 => ?_, t1.join t2 (by omega) (by omega)⟩
  have h1 := t1 i i1 i2
  have h3 := t2 j j1 j2
  omega
theorem Bl.merged {L L' : List (KeyP α)} {k a b n : Nat} (hk : 0 < k) (ha : 2 * k ∣ a) (hb : b = min (a + 2 * k) n) (hak : a + k < n) (h1 : Bl C L (2 * k) 0 a n) (h2 : Bl C L k a n n) (m : Mid L L' a b) (u : Up C L' a b) : Bl C L' (2 * k) 0 (a + 2 * k) n ∧ Bl C L' k (a + 2 * k) n n := by
  refine ⟨Bl.first (by omega) ha hb (by omega) h1 (Bl.pre hk ha hb hak h2).2.2.2 m u, fun x hx h3 h4 => ?_⟩
  obtain ⟨k1, k2⟩ := h2 x hx (by omega) h4
  exact ⟨m.up k1 (.inr (by omega)), m.tags k2 (.inr (by omega))⟩
theorem Bl.rest {L : List (KeyP α)} {k a n : Nat} (hk : 0 < k) (ha : 2 * k ∣ a) (hak : n ≤ a + k) (h1 : Bl C L (2 * k) 0 a n) (h2 : Bl C L k a n n) : Bl C L (2 * k) 0 n n := by
  intro x hx h3 h4
  rcases Nat.lt_or_ge x a with c | c
  · exact h1 x hx h3 c
  · have hka : k ∣ a := Nat.dvd_trans ⟨2, Nat.mul_comm _ _⟩ ha
    have hkx : k ∣ x := Nat.dvd_trans ⟨2, Nat.mul_comm _ _⟩ hx
    have e : x = a := by
      rcases Nat.eq_or_lt_of_le c with e | e
      · exact e.symm
      · have := dvd_next hka hkx e
        omega
    subst e
    have h5 := h2 x hkx (Nat.le_refl _) h4
    rw [show min (x + 2 * k) n = n by omega]
    rw [show min (x + k) n = n by omega] at h5
    exact h5
theorem Bl.less {L : List (KeyP α)} {k hi hi' n : Nat} (h : Bl C L k 0 hi n) (hh : hi' ≤ hi) : Bl C L k 0 hi' n := fun x hx h1 h2 => h x hx h1 (by omega)
theorem Bl.whole {L : List (KeyP α)} {k n : Nat} (h : Bl C L k 0 n n) (hk : n ≤ k) : Up C L 0 n := by
  intro i j h1 h2 h3
  have := (h 0 ⟨0, rfl⟩ (Nat.le_refl _) (by omega)).1
  rw [show min (0 + k) n = n by omega] at this
  exact this i j h1 h2 h3
theorem tags_own {L : List (KeyP α)} {a b n : Nat} (h : ∀ i, a ≤ i → i < n → (getP L i).at_ = i) (hb : b ≤ n) : Tags L a b := fun i h1 h2 => by
  have := h i h1 (by omega)
  omega
end
theorem perm_ext {α : Type} {R : α → α → Prop} (hR : ∀ a b, R a b → R b a → False) : ∀ l m : List α, l.Perm m → l.Pairwise R → m.Pairwise R → l = m
  | [], m, hp, _, _ => (List.Perm.nil_eq hp)
  | a :: l, [], hp, _, _ => absurd hp.length_eq (by simp)
  | a :: l, b :: m, hp, h1, h2 => by
    have e : a = b := by
      have ha : a ∈ b :: m := hp.mem_iff.1 List.mem_cons_self
      have hb : b ∈ a :: l := hp.mem_iff.2 List.mem_cons_self
      rcases List.mem_cons.1 ha with e | ha
      · exact e
      · rcases List.mem_cons.1 hb with e | hb
        · exact e.symm
        · exact (hR a b ((List.pairwise_cons.1 h1).1 b hb) ((List.pairwise_cons.1 h2).1 a ha)).elim
    subst e
    rw [perm_ext hR l m (List.Perm.cons_inv hp) (List.pairwise_cons.1 h1).2 (List.pairwise_cons.1 h2).2]
theorem ofName_self (p : PairB) : ofName p.1 p = true := decide_eq_true rfl
/-- two lists in order by name that hold of each name the same, in the same order -/
theorem sort_ext : ∀ l m : List PairB, l.Pairwise UpP → m.Pairwise UpP → (∀ nm, l.filter (ofName nm) = m.filter (ofName nm)) → l = m
  | [], [], _, _, _ => rfl
  | [], b :: m, _, _, h => by
    have := h b.1
    rw [List.filter_cons_of_pos (ofName_self b)] at this
    cases this
  | a :: l, [], _, _, h => by
    have := h a.1
    rw [List.filter_cons_of_pos (ofName_self a)] at this
    cases this
  | a :: l, b :: m, h1, h2, h => by
    obtain ⟨p1, p2⟩ := List.pairwise_cons.1 h1
    obtain ⟨q1, q2⟩ := List.pairwise_cons.1 h2
    have ha : a ∈ b :: m := by
      have h3 : a ∈ (b :: m).filter (ofName a.1) := by rw [← h a.1]; exact List.mem_filter.2 ⟨List.mem_cons_self, ofName_self a⟩
      exact (List.mem_filter.1 h3).1
    have hb : b ∈ a :: l := by
      have h3 : b ∈ (a :: l).filter (ofName b.1) := by rw [h b.1]; exact List.mem_filter.2 ⟨List.mem_cons_self, ofName_self b⟩
      exact (List.mem_filter.1 h3).1
    have e : a.1 = b.1 := by
      rcases List.mem_cons.1 ha with e | ha
      · rw [e]
      · rcases List.mem_cons.1 hb with e | hb
        · rw [e]
        · have c1 : txtC a.1 b.1 ≤ 0 := p1 b hb
          have c2 : txtC b.1 a.1 ≤ 0 := q1 a ha
          have c3 := txtC_ord.anti a.1 b.1
          exact txtC_ord.zero _ _ (by omega)
    have h3 := h a.1
    have hbn : ofName a.1 b = true := decide_eq_true e.symm
    rw [List.filter_cons_of_pos (ofName_self a), List.filter_cons_of_pos hbn] at h3
    obtain ⟨e2, e3⟩ := List.cons.inj h3
    subst e2
    rw [sort_ext l m p2 q2 (fun nm => ?_)]
    by_cases hn : a.1 = nm
    · subst hn
      exact e3
    · have h4 := h nm
      have hno : ¬ ofName nm a = true := fun k => hn (of_decide_eq_true k)
      rw [List.filter_cons_of_neg hno, List.filter_cons_of_neg hno] at h4
      exact h4
/-- labels, each with the place where it stands -/
def tagL (ps : List PairB) : List (KeyP PairB) := (List.range ps.length).map (fun i => ⟨ps.getD i pnil, i⟩)
theorem tagL_len (ps : List PairB) : (tagL ps).length = ps.length := by unfold tagL; rw [List.length_map, List.length_range]
theorem tagL_at (ps : List PairB) (i : Nat) (h : i < ps.length) : getP (tagL ps) i = ⟨ps.getD i pnil, i⟩ := by
  rw [getP_at (by rw [tagL_len]; exact h)]
  simp [tagL]
theorem tagL_it (ps : List PairB) : (tagL ps).map (fun x => x.it) = ps := by
  unfold tagL
  rw [List.map_map]
  apply List.ext_getElem
  · simp
  · intro i h1 h2
    simp [List.getD_eq_getElem?_getD, List.getElem?_eq_getElem h2]
theorem tagL_rise (ps : List PairB) : (tagL ps).Pairwise (fun x y => x.at_ < y.at_) := by
  unfold tagL
  rw [List.pairwise_map]
  exact List.pairwise_lt_range
theorem getP_idx (L : List (KeyP PairB)) (i : Nat) (h : i < L.length) : L[i] = getP L i := (getP_at h).symm
theorem tag_sorted (ps : List PairB) (L : List (KeyP PairB)) (hp : L.Perm (tagL ps)) (hu : Up nameC L 0 ps.length) : L.map (fun x => x.it) = sortL ps := by
  have hl : L.length = ps.length := by rw [hp.length_eq, tagL_len]
  refine sort_ext _ _ ?_ (sortL_up ps) (fun nm => ?_)
  · rw [List.pairwise_map, List.pairwise_iff_getElem]
    intro i j hi hj hij
    rw [getP_idx L i hi, getP_idx L j hj]
    exact (hu i j (Nat.zero_le _) hij (by omega)).le
  · rw [show (sortL ps).filter (ofName nm) = ps.filter (ofName nm) from sortL_stable ps nm]
    have e : L.filter (fun x => ofName nm x.it) = (tagL ps).filter (fun x => ofName nm x.it) := by
      refine perm_ext (R := fun x y => x.at_ < y.at_) (fun a b h1 h2 => by omega) _ _ (hp.filter _) ?_ ((tagL_rise ps).filter _)
      rw [List.pairwise_filter, List.pairwise_iff_getElem]
      intro i j hi hj hij hx hy
      rw [getP_idx L i hi] at hx ⊢
      rw [getP_idx L j hj] at hy ⊢
      have h1 := hu i j (Nat.zero_le _) hij (by omega)
      rcases h1 with h1 | h1
      · have hx2 : (getP L i).it.1 = nm := of_decide_eq_true hx
        have hy2 : (getP L j).it.1 = nm := of_decide_eq_true hy
        have h3 : txtC (getP L i).it.1 (getP L j).it.1 < 0 := h1
        rw [hx2, hy2, txtC_ord.refl] at h3
        exact absurd h3 (by decide)
      · exact h1.2
    have e2 : (L.map (fun x => x.it)).filter (ofName nm) = ((tagL ps).map (fun x => x.it)).filter (ofName nm) := by
      rw [List.filter_map, List.filter_map]
      exact congrArg (List.map (fun x => x.it)) e
    rw [tagL_it] at e2
    exact e2
end Go.Proofs.Ytimmfmgnjpcdoaa.Sy
