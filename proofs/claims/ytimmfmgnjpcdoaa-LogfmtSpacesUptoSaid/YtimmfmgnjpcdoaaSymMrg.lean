/- Merging two runs in place: what the searches find, and what the turning of a run leaves. No walk, no program. -/
import Derived.Test.YtimmfmgnjpcdoaaSymMath
namespace Go.Proofs.Ytimmfmgnjpcdoaa.Sy
set_option linter.unusedVariables false
set_option linter.unusedSimpArgs false
section
variable {α : Type} {C : α → α → Int}
theorem Pre3.le_lt (hC : Pre3 C) {x y z : α} (h1 : C x y ≤ 0) (h2 : C y z < 0) : C x z < 0 := by
  have t1 := hC.trans x y z h1 (by omega)
  have a1 := hC.anti x z
  have a2 := hC.anti y z
  have t2 := hC.trans z x y
  omega
theorem Pre3.lt_le (hC : Pre3 C) {x y z : α} (h1 : C x y < 0) (h2 : C y z ≤ 0) : C x z < 0 := by
  have t1 := hC.trans x y z (by omega) h2
  have a1 := hC.anti x z
  have a2 := hC.anti x y
  have t2 := hC.trans y z x
  omega
theorem Tlt.le {x y : KeyP α} (h : Tlt C x y) : C x.it y.it ≤ 0 := by
  unfold Tlt at h
  omega
end
section
variable {α : Type} [Inhabited α] {C : α → α → Int}
theorem up_le_at (hC : Pre3 C) {L : List (KeyP α)} {a b x y : Nat} (u : Up C L a b) (h1 : a ≤ x) (h2 : x ≤ y) (h3 : y < b) : C (getP L x).it (getP L y).it ≤ 0 := by
  rcases Nat.eq_or_lt_of_le h2 with rfl | h
  · have := hC.anti (getP L x).it (getP L x).it
    omega
  · exact (u x y h1 h h3).le
/-- one thing at a, and a run behind it: where it belongs -/
theorem left_lo (hC : Pre3 C) {L : List (KeyP α)} {a m b h : Nat} (u : Up C L m b) (hm : m ≤ h) (hb : h < b) (hc : C (getP L h).it (getP L a).it < 0) : ∀ y, m ≤ y → y < h + 1 → C (getP L y).it (getP L a).it < 0 := fun y h1 h2 =>
  hC.le_lt (up_le_at hC u h1 (by omega) hb) hc
theorem left_hi (hC : Pre3 C) {L : List (KeyP α)} {a m b h : Nat} (u : Up C L m b) (hm : m ≤ h) (hb : h < b) (hc : ¬ C (getP L h).it (getP L a).it < 0) : ∀ y, h ≤ y → y < b → ¬ C (getP L y).it (getP L a).it < 0 := fun y h1 h2 h3 =>
  hc (hC.le_lt (up_le_at hC u hm h1 h2) h3)
theorem left_end (hC : Pre3 C) {L D : List (KeyP α)} {a b i : Nat} (u : Up C L (a + 1) b) (cr : Cross L a (a + 1) b) (h1 : a + 1 ≤ i) (h2 : i ≤ b) (lo : ∀ y, a + 1 ≤ y → y < i → C (getP L y).it (getP L a).it < 0) (hi : ∀ y, i ≤ y → y < b → ¬ C (getP L y).it (getP L a).it < 0) (hp : D.Perm L) (hD : ∀ k, getP D k = rotF L a (a + 1) i k) : Mid L D a b ∧ Up C D a b := by
  have hlo : ∀ x y, a + 1 ≤ x → x < i → a ≤ y → y < a + 1 → Tlt C (getP L x) (getP L y) := fun x y x1 x2 y1 y2 => by
    obtain rfl : y = a := by omega
    exact .inl (lo x x1 x2)
  have c : Cut C L a a (a + 1) i b := ⟨Nat.le_refl _, Nat.le_succ _, h1, h2, Up.one L (Nat.le_refl _), u, hlo, fun x y x1 x2 y1 y2 => by exfalso; omega⟩
  refine ⟨(rot_mid (Nat.le_succ _) h1 hp hD).wide (Nat.le_refl _) h2, c.up2 hD (.inl rfl) (.inr fun x y x1 x2 y1 y2 => ?_)⟩
  obtain rfl : x = a := by omega
  exact Tlt.not_later hC (cr x y (Nat.le_refl _) (by omega) (by omega) y2) (hi y y1 y2)
/-- a run, and one thing at m behind it -/
theorem right_lo (hC : Pre3 C) {L : List (KeyP α)} {a m h : Nat} (u : Up C L a m) (ha : a ≤ h) (hm : h < m) (hc : ¬ C (getP L m).it (getP L h).it < 0) : ∀ x, a ≤ x → x < h + 1 → ¬ C (getP L m).it (getP L x).it < 0 := fun x h1 h2 h3 =>
  hc (hC.lt_le h3 (up_le_at hC u h1 (by omega) hm))
theorem right_hi (hC : Pre3 C) {L : List (KeyP α)} {a m h : Nat} (u : Up C L a m) (ha : a ≤ h) (hm : h < m) (hc : C (getP L m).it (getP L h).it < 0) : ∀ x, h ≤ x → x < m → C (getP L m).it (getP L x).it < 0 := fun x h1 h2 =>
  hC.lt_le hc (up_le_at hC u ha h1 h2)
theorem right_end (hC : Pre3 C) {L D : List (KeyP α)} {a m i : Nat} (u : Up C L a m) (cr : Cross L a m (m + 1)) (h1 : a ≤ i) (h2 : i ≤ m) (lo : ∀ x, a ≤ x → x < i → ¬ C (getP L m).it (getP L x).it < 0) (hi : ∀ x, i ≤ x → x < m → C (getP L m).it (getP L x).it < 0) (hp : D.Perm L) (hD : ∀ k, getP D k = rotF L i m (m + 1) k) : Mid L D a (m + 1) ∧ Up C D a (m + 1) := by
  have hlo : ∀ x y, m ≤ x → x < m + 1 → i ≤ y → y < m → Tlt C (getP L x) (getP L y) := fun x y x1 x2 y1 y2 => by
    obtain rfl : x = m := by omega
    exact .inl (hi y y1 y2)
  have c : Cut C L a i m (m + 1) (m + 1) := ⟨h1, h2, Nat.le_succ _, Nat.le_refl _, u, Up.one L (Nat.le_refl _), hlo, fun x y x1 x2 y1 y2 => by exfalso; omega⟩
  refine ⟨(rot_mid h2 (Nat.le_succ _) hp hD).wide h1 (Nat.le_refl _), c.up2 hD (.inr fun x y x1 x2 y1 y2 => ?_) (.inl rfl)⟩
  obtain rfl : y = m := by omega
  exact Tlt.not_later hC (cr x y x1 (by omega) (by omega) (by omega)) (lo x x1 x2)
/-- two runs: where the search for the middle ends -/
theorem search_cut (hC : Pre3 C) {L : List (KeyP α)} {a m b mid lo hi s : Nat} (ham : a < m) (hmb : m < b) (hmid : mid = (a + b) / 2) (hl : (mid < m ∧ lo = mid + m - b ∧ hi = mid) ∨ (m ≤ mid ∧ lo = a ∧ hi = m)) (h1 : lo ≤ s) (h2 : s ≤ hi) (u1 : Up C L a m) (u2 : Up C L m b) (k1 : s = lo ∨ Tlt C (getP L (s - 1)) (getP L (mid + m - s))) (k2 : s = hi ∨ Tlt C (getP L (mid + m - 1 - s)) (getP L s)) : Cut C L a s m (mid + m - s) b := by
  refine cut_of hC (by omega) (by omega) (by omega) (by omega) u1 u2 ?_ ?_
  · rcases k1 with k | k
    · omega
    · exact .inr (.inr k)
  · rcases k2 with k | k
    · omega
    · refine .inr (.inr ?_)
      rwa [show mid + m - s - 1 = mid + m - 1 - s by omega]
theorem Mid.cross {L1 L2 : List (KeyP α)} {a b x y z : Nat} (h : Mid L1 L2 a b) (hc : Cross L1 x y z) (hxy : z ≤ a ∨ b ≤ x) : Cross L2 x y z := fun i j h1 h2 h3 h4 => by
  rw [h.out i (by omega), h.out j (by omega)]
  exact hc i j h1 h2 h3 h4
/-- the run turned, or left where there is nothing to turn -/
theorem turn_left {L : List (KeyP α)} {s m e : Nat} (h1 : s ≤ m) (h2 : m ≤ e) (h : ¬ (s < m ∧ m < e)) : ∀ k, getP L k = rotF L s m e k := fun k => by
  by_cases hs : s = m
  · subst hs
    rw [rotF_left L s e k h2]
  · obtain rfl : m = e := by omega
    rw [rotF_right L s m k h1]
/-- behind the turning: two pairs of runs, the first pair all ahead of the second -/
structure Turned (C : α → α → Int) (L D : List (KeyP α)) (a s mid e b : Nat) : Prop where
  mid_ : Mid L D a b
  as_ : a ≤ s
  sm : s ≤ mid
  me : mid ≤ e
  eb : e ≤ b
  r1 : Up C D a s
  r2 : Up C D s mid
  r3 : Up C D mid e
  r4 : Up C D e b
  c1 : Cross D a s mid
  c2 : Cross D mid e b
  sp : ∀ x y, a ≤ x → x < mid → mid ≤ y → y < b → Tlt C (getP D x) (getP D y)
theorem Cut.turned {L D : List (KeyP α)} {a s m e b mid : Nat} (h : Cut C L a s m e b) (hm : mid + m = s + e) (hc : Cross L a m b) (hp : D.Perm L) (hD : ∀ k, getP D k = rotF L s m e k) : Turned C L D a s mid e b := by
  have hmid : s + (e - m) = mid := by have := h.me; omega
  obtain ⟨r1, r2, r3, r4⟩ := h.runs hD
  obtain ⟨c1, c2⟩ := h.cross hD hc
  have sp := h.split hD
  rw [hmid] at r2 r3 c1 c2 sp
  exact ⟨(rot_mid h.sm h.me hp hD).wide h.as_ h.eb, h.as_, by have := h.sm; have := h.me; omega, by have := h.sm; have := h.me; omega, h.eb, r1, r2, r3, r4, c1, c2, sp⟩
/-- two runs, one of which is empty, are one run -/
theorem up_of_empty {D : List (KeyP α)} {a s m : Nat} (h1 : Up C D a s) (h2 : Up C D s m) (ha : a ≤ s) (hs : s ≤ m) (h : ¬ (a < s ∧ s < m)) : Up C D a m := by
  by_cases e : a = s
  · subst e
    exact h2
  · obtain rfl : s = m := by omega
    exact h1
theorem Turned.done {L D D1 D2 : List (KeyP α)} {a s mid e b : Nat} (h : Turned C L D a s mid e b) (m1 : Mid D D1 a mid) (u1 : Up C D1 a mid) (m2 : Mid D1 D2 mid b) (u2 : Up C D2 mid b) : Mid L D2 a b ∧ Up C D2 a b := by
  obtain ⟨k1, k2⟩ := halves (Nat.le_trans h.as_ h.sm) (Nat.le_trans h.me h.eb) h.sp m1 u1 m2 u2
  exact ⟨h.mid_.trans k1, k2⟩
end
/-- every thing of the first x of a list that is put in blocks of k, each block in order -/
def Blocks {α : Type} [Inhabited α] (C : α → α → Int) (L : List (KeyP α)) (k x n : Nat) : Prop := ∀ q, q * k < x → Up C L (q * k) (min (q * k + k) n)
end Go.Proofs.Ytimmfmgnjpcdoaa.Sy
