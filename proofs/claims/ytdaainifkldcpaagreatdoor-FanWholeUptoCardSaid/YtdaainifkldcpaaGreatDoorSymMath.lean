-- shaken
import Derived.Test.YtdaainifkldcpaaGreatDoorHeapMath
namespace Go.Proofs.YtdaainifkldcpaaGreatDoor.Sy
set_option linter.unusedVariables false
set_option linter.unusedSimpArgs false
structure Pre3 {α : Type} (f : α → α → Int) : Prop where
  anti : ∀ a b, f a b = - f b a
  trans : ∀ a b c, f a b ≤ 0 → f b c ≤ 0 → f a c ≤ 0
section
variable {α : Type} {C : α → α → Int}
def Tlt (C : α → α → Int) (x y : KeyP α) : Prop := C x.it y.it < 0 ∨ (C x.it y.it = 0 ∧ x.at_ < y.at_)
theorem Tlt.trans (hC : Pre3 C) {x y z : KeyP α} (h1 : Tlt C x y) (h2 : Tlt C y z) : Tlt C x z := by
  have a1 := hC.anti x.it y.it
  have a2 := hC.anti y.it z.it
  have a3 := hC.anti x.it z.it
  have t1 := hC.trans x.it y.it z.it
  have t2 := hC.trans z.it x.it y.it
  have t3 := hC.trans y.it z.it x.it
  unfold Tlt at *
  omega
theorem Tlt.later (hC : Pre3 C) {x y : KeyP α} (h : y.at_ < x.at_) (hc : C x.it y.it < 0) : Tlt C x y := .inl hc
theorem Tlt.not_later (hC : Pre3 C) {x y : KeyP α} (h : y.at_ < x.at_) (hc : ¬ C x.it y.it < 0) : Tlt C y x := by
  have a1 := hC.anti x.it y.it
  unfold Tlt
  omega
end
section
variable {α : Type} [Inhabited α] {C : α → α → Int}
def Up (C : α → α → Int) (L : List (KeyP α)) (a b : Nat) : Prop := ∀ i j, a ≤ i → i < j → j < b → Tlt C (getP L i) (getP L j)
def Tags (L : List (KeyP α)) (x y : Nat) : Prop := ∀ i, x ≤ i → i < y → x ≤ (getP L i).at_ ∧ (getP L i).at_ < y
def Cross (L : List (KeyP α)) (a m b : Nat) : Prop := ∀ i j, a ≤ i → i < m → m ≤ j → j < b → (getP L i).at_ < (getP L j).at_
structure Mid (L1 L2 : List (KeyP α)) (a b : Nat) : Prop where
  perm : L2.Perm L1
  out : ∀ k, (k < a ∨ b ≤ k) → getP L2 k = getP L1 k
  in_ : ∀ k, a ≤ k → k < b → ∃ j, a ≤ j ∧ j < b ∧ getP L2 k = getP L1 j
theorem Mid.refl (L : List (KeyP α)) (a b : Nat) : Mid L L a b := ⟨List.Perm.refl _, fun _ _ => rfl, fun k h1 h2 => ⟨k, h1, h2, rfl⟩⟩
theorem Mid.len {L1 L2 : List (KeyP α)} {a b : Nat} (h : Mid L1 L2 a b) : L2.length = L1.length := h.perm.length_eq
theorem Mid.trans {L1 L2 L3 : List (KeyP α)} {a b : Nat} (h : Mid L1 L2 a b) (k : Mid L2 L3 a b) : Mid L1 L3 a b :=
  ⟨k.perm.trans h.perm, fun i hi => (k.out i hi).trans (h.out i hi), fun i h1 h2 => by
    obtain ⟨j, j1, j2, e⟩ := k.in_ i h1 h2
    obtain ⟨q, q1, q2, e2⟩ := h.in_ j j1 j2
    exact ⟨q, q1, q2, e.trans e2⟩⟩
theorem Mid.wide {L1 L2 : List (KeyP α)} {a b a' b' : Nat} (h : Mid L1 L2 a b) (ha : a' ≤ a) (hb : b ≤ b') : Mid L1 L2 a' b' :=
  ⟨h.perm, fun i hi => h.out i (by omega), fun i h1 h2 => by
    by_cases hi : a ≤ i ∧ i < b
    · obtain ⟨j, j1, j2, e⟩ := h.in_ i hi.1 hi.2
      exact ⟨j, by omega, by omega, e⟩
    · exact ⟨i, h1, h2, h.out i (by omega)⟩⟩
theorem Mid.swap {L : List (KeyP α)} {a b i k : Nat} (hi : a ≤ i) (hi2 : i < b) (hk : a ≤ k) (hk2 : k < b) (hb : b ≤ L.length) : Mid L (swapP L i k) a b := by
  refine ⟨swapP_perm (by omega) (by omega), fun j hj => ?_, fun j h1 h2 => ?_⟩
  · rw [getP_swap (by omega) (by omega), if_neg (by omega), if_neg (by omega)]
  · rw [getP_swap (by omega) (by omega)]
    by_cases e : j = k
    · exact ⟨i, hi, hi2, by rw [if_pos e]⟩
    · by_cases e2 : j = i
      · exact ⟨k, hk, hk2, by rw [if_neg e, if_pos e2]⟩
      · exact ⟨j, h1, h2, by rw [if_neg e, if_neg e2]⟩
theorem Mid.up {L1 L2 : List (KeyP α)} {a b x y : Nat} (h : Mid L1 L2 a b) (hu : Up C L1 x y) (hxy : y ≤ a ∨ b ≤ x) : Up C L2 x y := fun i j h1 h2 h3 => by
  rw [h.out i (by omega), h.out j (by omega)]
  exact hu i j h1 h2 h3
theorem Mid.tags {L1 L2 : List (KeyP α)} {a b x y : Nat} (h : Mid L1 L2 a b) (hu : Tags L1 x y) (hxy : y ≤ a ∨ b ≤ x) : Tags L2 x y := fun i h1 h2 => by
  rw [h.out i (by omega)]
  exact hu i h1 h2
def rotF (L : List (KeyP α)) (a m b k : Nat) : KeyP α := if a ≤ k ∧ k < a + (b - m) then getP L (m + (k - a)) else if a + (b - m) ≤ k ∧ k < b then getP L (a + (k - (a + (b - m)))) else getP L k
theorem rotF_first {L : List (KeyP α)} {s m e k : Nat} (h1 : s ≤ k) (h2 : k < s + (e - m)) : rotF L s m e k = getP L (m + (k - s)) := by
  unfold rotF
  rw [if_pos ⟨h1, h2⟩]
theorem rotF_last {L : List (KeyP α)} {s m e k : Nat} (h1 : s + (e - m) ≤ k) (h2 : k < e) : rotF L s m e k = getP L (s + (k - (s + (e - m)))) := by
  unfold rotF
  rw [if_neg (by omega), if_pos ⟨h1, h2⟩]
theorem rotF_out {L : List (KeyP α)} {s m e k : Nat} (hm : s ≤ m) (hme : m ≤ e) (h : k < s ∨ e ≤ k) : rotF L s m e k = getP L k := by
  unfold rotF
  rw [if_neg (by omega), if_neg (by omega)]
theorem rot_zone {L D : List (KeyP α)} {s m e : Nat} (h1 : s ≤ m) (h2 : m ≤ e) (hD : ∀ k, getP D k = rotF L s m e k) (k : Nat) : ∃ k', getP D k = getP L k' ∧ ((k < s ∧ k' = k) ∨ (s ≤ k ∧ k < s + (e - m) ∧ k' = m + (k - s)) ∨ (s + (e - m) ≤ k ∧ k < e ∧ k' = s + (k - (s + (e - m)))) ∨ (e ≤ k ∧ k' = k)) := by
  rcases Nat.lt_or_ge k s with c1 | c1
  · exact ⟨k, by rw [hD, rotF_out h1 h2 (.inl c1)], .inl ⟨c1, rfl⟩⟩
  · rcases Nat.lt_or_ge k (s + (e - m)) with c2 | c2
    · exact ⟨_, by rw [hD, rotF_first c1 c2], .inr (.inl ⟨c1, c2, rfl⟩)⟩
    · rcases Nat.lt_or_ge k e with c3 | c3
      · exact ⟨_, by rw [hD, rotF_last c2 c3], .inr (.inr (.inl ⟨c2, c3, rfl⟩))⟩
      · exact ⟨k, by rw [hD, rotF_out h1 h2 (.inr c3)], .inr (.inr (.inr ⟨c3, rfl⟩))⟩
structure Cut (C : α → α → Int) (L : List (KeyP α)) (a s m e b : Nat) : Prop where
  as_ : a ≤ s
  sm : s ≤ m
  me : m ≤ e
  eb : e ≤ b
  u1 : Up C L a m
  u2 : Up C L m b
  hA : ∀ x y, m ≤ x → x < e → s ≤ y → y < m → Tlt C (getP L x) (getP L y)
  hB : ∀ x y, a ≤ x → x < s → e ≤ y → y < b → Tlt C (getP L x) (getP L y)
theorem Cut.split {L D : List (KeyP α)} {a s m e b : Nat} (h : Cut C L a s m e b) (hD : ∀ k, getP D k = rotF L s m e k) : ∀ x y, a ≤ x → x < s + (e - m) → s + (e - m) ≤ y → y < b → Tlt C (getP D x) (getP D y) := by
  obtain ⟨h1, h2, h3, h4, u1, u2, hA, hB⟩ := h
  intro x y x1 x2 y1 y2
  obtain ⟨x', ex, zx⟩ := rot_zone h2 h3 hD x
  obtain ⟨y', ey, zy⟩ := rot_zone h2 h3 hD y
  rw [ex, ey]
  rcases zx with ⟨z1, rfl⟩ | ⟨z1, z2, rfl⟩ | ⟨z1, z2, rfl⟩ | ⟨z1, rfl⟩ <;> rcases zy with ⟨q1, rfl⟩ | ⟨q1, q2, rfl⟩ | ⟨q1, q2, rfl⟩ | ⟨q1, rfl⟩
  all_goals first | (exfalso; omega) | exact u1 _ _ (by omega) (by omega) (by omega) | exact u2 _ _ (by omega) (by omega) (by omega) | exact hA _ _ (by omega) (by omega) (by omega) (by omega) | exact hB _ _ (by omega) (by omega) (by omega) (by omega)
theorem Cut.runs {L D : List (KeyP α)} {a s m e b : Nat} (h : Cut C L a s m e b) (hD : ∀ k, getP D k = rotF L s m e k) : Up C D a s ∧ Up C D s (s + (e - m)) ∧ Up C D (s + (e - m)) e ∧ Up C D e b := by
  obtain ⟨h1, h2, h3, h4, u1, u2, hA, hB⟩ := h
  refine ⟨fun x y x1 x2 y1 => ?_, fun x y x1 x2 y1 => ?_, fun x y x1 x2 y1 => ?_, fun x y x1 x2 y1 => ?_⟩
  all_goals
    obtain ⟨x', ex, zx⟩ := rot_zone h2 h3 hD x
    obtain ⟨y', ey, zy⟩ := rot_zone h2 h3 hD y
    rw [ex, ey]
    rcases zx with ⟨z1, rfl⟩ | ⟨z1, z2, rfl⟩ | ⟨z1, z2, rfl⟩ | ⟨z1, rfl⟩ <;> rcases zy with ⟨q1, rfl⟩ | ⟨q1, q2, rfl⟩ | ⟨q1, q2, rfl⟩ | ⟨q1, rfl⟩
    all_goals first | (exfalso; omega) | exact u1 _ _ (by omega) (by omega) (by omega) | exact u2 _ _ (by omega) (by omega) (by omega)
theorem Cut.cross {L D : List (KeyP α)} {a s m e b : Nat} (h : Cut C L a s m e b) (hD : ∀ k, getP D k = rotF L s m e k) (hc : Cross L a m b) : Cross D a s (s + (e - m)) ∧ Cross D (s + (e - m)) e b := by
  obtain ⟨h1, h2, h3, h4, u1, u2, hA, hB⟩ := h
  refine ⟨fun x y x1 x2 y1 y2 => ?_, fun x y x1 x2 y1 y2 => ?_⟩
  all_goals
    obtain ⟨x', ex, zx⟩ := rot_zone h2 h3 hD x
    obtain ⟨y', ey, zy⟩ := rot_zone h2 h3 hD y
    rw [ex, ey]
    rcases zx with ⟨z1, rfl⟩ | ⟨z1, z2, rfl⟩ | ⟨z1, z2, rfl⟩ | ⟨z1, rfl⟩ <;> rcases zy with ⟨q1, rfl⟩ | ⟨q1, q2, rfl⟩ | ⟨q1, q2, rfl⟩ | ⟨q1, rfl⟩
    all_goals first | (exfalso; omega) | exact hc _ _ (by omega) (by omega) (by omega) (by omega)
theorem up_join {L : List (KeyP α)} {a m b : Nat} (h1 : Up C L a m) (h2 : Up C L m b) (h : ∀ x y, a ≤ x → x < m → m ≤ y → y < b → Tlt C (getP L x) (getP L y)) : Up C L a b := by
  intro i j hi hij hj
  rcases Nat.lt_or_ge i m with c1 | c1
  · rcases Nat.lt_or_ge j m with c2 | c2
    · exact h1 i j hi hij c2
    · exact h i j hi c1 c2 hj
  · exact h2 i j c1 hij hj
theorem Up.one (L : List (KeyP α)) {a b : Nat} (h : b ≤ a + 1) : Up C L a b := fun i j h1 h2 h3 => by exfalso; omega
theorem Up.sub {L : List (KeyP α)} {a b x y : Nat} (h : Up C L a b) (h1 : a ≤ x) (h2 : y ≤ b) : Up C L x y := fun i j i1 i2 i3 => h i j (by omega) i2 (by omega)
theorem Cut.up {L D : List (KeyP α)} {a s m e b : Nat} (h : Cut C L a s m e b) (hD : ∀ k, getP D k = rotF L s m e k) (h1 : s = a ∨ e = m) (h2 : s = m ∨ e = b) : Up C D a b := by
  obtain ⟨r1, r2, r3, r4⟩ := h.runs hD
  have hs := h.split hD
  have c1 := h.as_
  have c2 := h.sm
  have c3 := h.me
  have c4 := h.eb
  refine up_join (m := s + (e - m)) ?_ ?_ hs
  · rcases h1 with rfl | rfl
    · exact r2
    · rw [Nat.sub_self]
      exact r1
  · rcases h2 with rfl | rfl
    · rw [show s + (e - s) = e by omega]
      exact r4
    · exact r3
structure Ins (C : α → α → Int) (L1 L2 : List (KeyP α)) (a i j : Nat) : Prop where
  at_j : getP L2 j = getP L1 i
  lo : Up C L2 a j
  hi : Up C L2 j (i + 1)
  cr : ∀ p r, a ≤ p → p < j → j < r → r < i + 1 → Tlt C (getP L2 p) (getP L2 r)
  tg : ∀ p, a ≤ p → p < i + 1 → p ≠ j → (getP L2 p).at_ < (getP L1 i).at_
theorem Ins.start {L : List (KeyP α)} {a i : Nat} (h : Up C L a i) (ht : ∀ p, a ≤ p → p < i → (getP L p).at_ < (getP L i).at_) : Ins C L L a i i :=
  ⟨rfl, h, Up.one L (Nat.le_refl _), fun p r h1 h2 h3 h4 => by exfalso; omega, fun p h1 h2 h3 => ht p h1 (by omega)⟩
theorem Ins.step (hC : Pre3 C) {L1 L2 : List (KeyP α)} {a i q : Nat} (h : Ins C L1 L2 a i (q + 1)) (hq : a ≤ q) (hqi : q + 1 ≤ i) (hl : i < L2.length) (hc : C (getP L2 (q + 1)).it (getP L2 q).it < 0) : Ins C L1 (swapP L2 (q + 1) q) a i q := by
  have e : ∀ k, getP (swapP L2 (q + 1) q) k = if k = q then getP L2 (q + 1) else if k = q + 1 then getP L2 q else getP L2 k := fun k => getP_swap (by omega) (by omega) k
  have e1 : getP (swapP L2 (q + 1) q) q = getP L2 (q + 1) := by rw [e, if_pos rfl]
  have e2 : getP (swapP L2 (q + 1) q) (q + 1) = getP L2 q := by rw [e, if_neg (by omega), if_pos rfl]
  have e3 : ∀ k, k ≠ q → k ≠ q + 1 → getP (swapP L2 (q + 1) q) k = getP L2 k := fun k h1 h2 => by rw [e, if_neg h1, if_neg h2]
  refine ⟨e1.trans h.at_j, fun p r h1 h2 h3 => ?_, fun p r h1 h2 h3 => ?_, fun p r h1 h2 h3 h4 => ?_, fun p h1 h2 h3 => ?_⟩
  · rw [e3 p (by omega) (by omega), e3 r (by omega) (by omega)]
    exact h.lo p r h1 h2 (by omega)
  · by_cases p1 : p = q
    · subst p1
      rw [e1]
      by_cases r1 : r = p + 1
      · subst r1
        rw [e2]
        exact .inl hc
      · rw [e3 r (by omega) r1]
        exact h.hi (p + 1) r (Nat.le_refl _) (by omega) h3
    · by_cases p2 : p = q + 1
      · subst p2
        rw [e2, e3 r (by omega) (by omega)]
        exact h.cr q r hq (by omega) h2 h3
      · rw [e3 p p1 p2, e3 r (by omega) (by omega)]
        exact h.hi p r (by omega) h2 h3
  · rw [e3 p (by omega) (by omega)]
    by_cases r1 : r = q + 1
    · subst r1
      rw [e2]
      exact h.lo p q h1 h2 (by omega)
    · rw [e3 r (by omega) r1]
      exact h.cr p r h1 (by omega) (by omega) h4
  · by_cases p2 : p = q + 1
    · subst p2
      rw [e2]
      exact h.tg q hq (by omega) (by omega)
    · rw [e3 p h3 p2]
      exact h.tg p h1 h2 p2
theorem Ins.stop (hC : Pre3 C) {L1 L2 : List (KeyP α)} {a i j : Nat} (h : Ins C L1 L2 a i j) (hji : j ≤ i) (hs : j = a ∨ ∃ q, q + 1 = j ∧ a ≤ q ∧ ¬ C (getP L2 j).it (getP L2 q).it < 0) : Up C L2 a (i + 1) := by
  refine up_join h.lo h.hi (fun p r h1 h2 h3 h4 => ?_)
  rcases hs with rfl | ⟨q, rfl, hq, hc⟩
  · exfalso; omega
  · by_cases r1 : r = q + 1
    · subst r1
      have hb : Tlt C (getP L2 q) (getP L2 (q + 1)) := Tlt.not_later hC (by rw [h.at_j]; exact h.tg q hq (by omega) (by omega)) hc
      by_cases p1 : p = q
      · subst p1
        exact hb
      · exact Tlt.trans hC (h.lo p q h1 (by omega) (by omega)) hb
    · exact h.cr p r h1 h2 (by omega) h4
end
end Go.Proofs.YtdaainifkldcpaaGreatDoor.Sy
