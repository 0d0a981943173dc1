/- What a cut tells: the first place of all, the one that it was cut at, and the text whole. And rows of texts that a call owns. -/
import Derived.Test.YthmbgnjbmkmajaaBack
import Derived.Deep.AppendLies
import Derived.Deep.RegionHeld3
namespace Go.Proofs.Ythmbgnjbmkmajaa
open Go.RowKit
set_option linter.unusedVariables false

def tV (l : List ByteArray) : List Value := l.map Value.string
theorem tV_app (l m : List ByteArray) : tV (l ++ m) = tV l ++ tV m := by simp [tV]
theorem tV_one (l : List ByteArray) : ∀ u ∈ tV l, u.oneCell' = true := by
  intro u hu
  simp only [tV, List.mem_map] at hu
  obtain ⟨b, _, rfl⟩ := hu
  rfl
/-- v is a slice of texts that the call owns, and holds l -/
def OwnT (w : World) (B e : Nat) (v : Value) (l : List ByteArray) : Prop := w.ownsRow B e 1 v l.length (tV l)
theorem OwnT.nil (w : World) (B e : Nat) : OwnT w B e (.slice none 0 0) [] := World.ownsRow_nil _ _ _ _
theorem OwnT.alloc {w : World} {B e : Nat} {v : Value} {l : List ByteArray} (h : OwnT w B e v l) (o : Obj) : OwnT (w.alloc o) B e v l := World.ownsRow.alloc h o
theorem OwnT.snoc {w : World} {B e : Nat} {v : Value} {l m : List ByteArray} (h : w.ownsRow B e 1 v (l.length + m.length) (tV l ++ tV m)) : OwnT w B e v (l ++ m) := by
  unfold OwnT
  rwa [List.length_append, tV_app]
theorem OwnT.texts {w : World} {B e : Nat} {v : Value} {l : List ByteArray} (h : OwnT w B e v l) : ∃ A cap, v = .slice A l.length cap ∧ l.length ≤ cap ∧ Texts w A l.length l := by
  rcases Nat.eq_zero_or_pos l.length with h0 | h0
  · obtain ⟨A, cap, rfl⟩ := own_shape h
    have hl := List.eq_nil_of_length_eq_zero h0
    subst hl
    exact ⟨A, cap, rfl, Nat.zero_le _, rfl, fun h => absurd h (by simp)⟩
  · have hcap : ∃ g cap, v = .slice (some ⟨g, 0, none⟩) l.length cap ∧ l.length ≤ cap := by
      rcases h.2 with ⟨_, hh⟩ | ⟨g, cap, cur, rfl, _, _, hh⟩
      · omega
      · exact ⟨g, cap, rfl, by omega⟩
    obtain ⟨g, cap, rfl, hc⟩ := hcap
    obtain ⟨g', cap', he, _, hlt, hcell⟩ := own_at h h0
    injection he with he1 _ he2
    injection he1 with he1
    injection he1 with he1
    subst he1
    exact ⟨_, _, rfl, hc, rfl, fun _ => ⟨g, 0, rfl, hlt, fun j hj => by
      rw [Nat.zero_add, hcell j (by omega), tV, List.getElem?_map, List.getD_eq_getElem?_getD, List.getElem?_eq_getElem hj]
      rfl⟩⟩
theorem infoStr : (Try.prog.info? 9).map (fun i => (i.zero, i.size, i.bytes)) = some (some (.string .empty), 1, 16) := by kernel_rfl

theorem fold_least (s : ByteArray) (l : List ByteArray) : ∀ p : Int × ByteArray,
    ((l.foldl (cutStep s) p).1 < 0 → p.1 < 0 ∧ ∀ x ∈ l, x.size ≠ 0 → Lib.index s.data.toList x.data.toList < 0) ∧
    (0 ≤ (l.foldl (cutStep s) p).1 → (p.1 < 0 ∨ (l.foldl (cutStep s) p).1 ≤ p.1) ∧ (∀ x ∈ l, x.size ≠ 0 → Lib.index s.data.toList x.data.toList < 0 ∨ (l.foldl (cutStep s) p).1 ≤ Lib.index s.data.toList x.data.toList) ∧
      (l.foldl (cutStep s) p = p ∨ ((l.foldl (cutStep s) p).2 ∈ l ∧ Lib.index s.data.toList (l.foldl (cutStep s) p).2.data.toList = (l.foldl (cutStep s) p).1))) := by
  induction l with
  | nil => intro p; exact ⟨fun h => ⟨h, fun x hx => absurd hx (by simp)⟩, fun h => ⟨.inr (Int.le_refl _), fun x hx => absurd hx (by simp), .inl rfl⟩⟩
  | cons y l ih =>
    intro p
    rw [List.foldl_cons]
    obtain ⟨ih1, ih2⟩ := ih (cutStep s p y)
    generalize hr : l.foldl (cutStep s) (cutStep s p y) = r at ih1 ih2
    have hs : (y.size = 0 ∧ cutStep s p y = p) ∨ (y.size ≠ 0 ∧ 0 ≤ Lib.index s.data.toList y.data.toList ∧ (p.1 < 0 ∨ Lib.index s.data.toList y.data.toList < p.1) ∧ cutStep s p y = (Lib.index s.data.toList y.data.toList, y)) ∨
        (y.size ≠ 0 ∧ (Lib.index s.data.toList y.data.toList < 0 ∨ (0 ≤ p.1 ∧ p.1 ≤ Lib.index s.data.toList y.data.toList)) ∧ cutStep s p y = p) := by
      unfold cutStep
      by_cases h0 : y.size = 0
      · left; exact ⟨h0, by rw [if_pos h0]⟩
      · by_cases h1 : 0 ≤ Lib.index s.data.toList y.data.toList ∧ (p.1 < 0 ∨ Lib.index s.data.toList y.data.toList < p.1)
        · right; left; exact ⟨h0, h1.1, h1.2, by rw [if_neg h0, if_pos h1]⟩
        · right; right; exact ⟨h0, by omega, by rw [if_neg h0, if_neg h1]⟩
    rcases hs with ⟨h0, e⟩ | ⟨h0, h1, h2, e⟩ | ⟨h0, h1, e⟩
    · rw [e] at ih1 ih2
      refine ⟨fun h => ⟨(ih1 h).1, fun x hx hx0 => ?_⟩, fun h => ⟨(ih2 h).1, fun x hx hx0 => ?_, ?_⟩⟩
      · rcases List.mem_cons.1 hx with rfl | hx
        · exact absurd h0 hx0
        · exact (ih1 h).2 x hx hx0
      · rcases List.mem_cons.1 hx with rfl | hx
        · exact absurd h0 hx0
        · exact (ih2 h).2.1 x hx hx0
      · rcases (ih2 h).2.2 with h3 | ⟨h3, h4⟩
        · exact .inl h3
        · exact .inr ⟨List.mem_cons_of_mem _ h3, h4⟩
    · rw [e] at ih1 ih2
      refine ⟨fun h => absurd (ih1 h).1 (by simpa using h1), fun h => ?_⟩
      obtain ⟨a1, a2, a3⟩ := ih2 h
      have a1' : r.1 ≤ Lib.index s.data.toList y.data.toList := by
        rcases a1 with a1 | a1
        · exact absurd a1 (by simpa using h1)
        · exact a1
      refine ⟨?_, fun x hx hx0 => ?_, .inr ?_⟩
      · rcases h2 with h2 | h2
        · exact .inl h2
        · right; omega
      · rcases List.mem_cons.1 hx with rfl | hx
        · exact .inr a1'
        · exact a2 x hx hx0
      · rcases a3 with a3 | ⟨a3, a4⟩
        · rw [a3]; exact ⟨List.mem_cons_self .., rfl⟩
        · exact ⟨List.mem_cons_of_mem _ a3, a4⟩
    · rw [e] at ih1 ih2
      refine ⟨fun h => ⟨(ih1 h).1, fun x hx hx0 => ?_⟩, fun h => ⟨(ih2 h).1, fun x hx hx0 => ?_, ?_⟩⟩
      · rcases List.mem_cons.1 hx with rfl | hx
        · have := (ih1 h).1; omega
        · exact (ih1 h).2 x hx hx0
      · rcases List.mem_cons.1 hx with rfl | hx
        · have := (ih2 h).1; omega
        · exact (ih2 h).2.1 x hx hx0
      · rcases (ih2 h).2.2 with h3 | ⟨h3, h4⟩
        · exact .inl h3
        · exact .inr ⟨List.mem_cons_of_mem _ h3, h4⟩

theorem text_part (p : ByteArray) (i j : Nat) : (p.extract i j).data.toList = (p.data.toList.take j).drop i := by
  rw [ByteArray.data_extract, Array.toList_extract]
  simp [List.extract, List.drop_take]
theorem text_ext {a b : ByteArray} (h : a.data.toList = b.data.toList) : a = b := ByteArray.ext (Array.toList_inj.1 h)
theorem text_empty {a : ByteArray} (h : a.size = 0) : a = .empty := text_ext (by rw [show a.data.toList = [] from List.eq_nil_of_length_eq_zero (by rw [size_toList]; exact h)]; rfl)
theorem empty_iff (a : ByteArray) : a.toList.isEmpty = decide (a.size = 0) := by
  rw [Lib.toList_data, ← size_toList]
  cases a.data.toList <;> simp

structure CutIs (s : ByteArray) (ss : List ByteArray) (a sep b : ByteArray) : Prop where
  whole : a ++ sep ++ b = s
  none : sep.size = 0 → a = s ∧ b = .empty
  among : sep.size ≠ 0 → sep ∈ ss
  first : ∀ x ∈ ss, x.size ≠ 0 → a.size ≤ (cutR s [x]).1.size
theorem cut_is (s : ByteArray) (ss : List ByteArray) : CutIs s ss (cutR s ss).1 (cutR s ss).2.1 (cutR s ss).2.2 := by
  obtain ⟨o1, o2⟩ := cutF_ok s ss
  obtain ⟨f1, f2⟩ := fold_least s ss (-1, .empty)
  have he : ss.foldl (cutStep s) (-1, .empty) = cutF s ss := rfl
  rw [he] at f1 f2
  have one : ∀ x : ByteArray, x.size ≠ 0 → (Lib.index s.data.toList x.data.toList < 0 ∧ (cutR s [x]).1 = s) ∨ (0 ≤ Lib.index s.data.toList x.data.toList ∧ (cutR s [x]).1 = s.extract 0 (Lib.index s.data.toList x.data.toList).toNat ∧ (Lib.index s.data.toList x.data.toList).toNat ≤ s.size) := by
    intro x hx
    rcases (by omega : Lib.index s.data.toList x.data.toList < 0 ∨ 0 ≤ Lib.index s.data.toList x.data.toList) with h | h
    · left
      refine ⟨h, ?_⟩
      have : cutF s [x] = (-1, .empty) := by
        show cutStep s (-1, .empty) x = _
        rw [cutStep, if_neg hx, if_neg (by omega)]
      rw [cutR, this]; rfl
    · right
      have : cutF s [x] = (Lib.index s.data.toList x.data.toList, x) := by
        show cutStep s (-1, .empty) x = _
        rw [cutStep, if_neg hx, if_pos ⟨h, .inl (by decide)⟩]
      have hr := (index_room _ _ h).1
      rw [size_toList s] at hr
      rw [cutR, this, if_neg (by simpa using h)]
      exact ⟨h, rfl, by omega⟩
  by_cases h : (cutF s ss).1 < 0
  · rw [cutR, if_pos h]
    refine ⟨?_, fun _ => ⟨rfl, rfl⟩, fun h => absurd rfl h, fun x hx hx0 => ?_⟩
    · apply text_ext; simp
    · rcases one x hx0 with ⟨_, e⟩ | ⟨h1, _⟩
      · rw [e]; exact Nat.le_refl _
      · have := (f1 h).2 x hx hx0; omega
  · obtain ⟨g1, g2, g3⟩ := f2 (by omega)
    have hne : ¬ cutF s ss = (-1, .empty) := fun hh => h (by rw [hh]; decide)
    rcases g3 with g3 | ⟨g3, g4⟩
    · exact absurd g3 hne
    rcases o2 with o2 | ⟨o2, o3⟩
    · exact absurd o2 h
    rw [cutR, if_neg h]
    generalize hF : cutF s ss = F at *
    obtain ⟨at_, sep⟩ := F
    dsimp only at *
    have hroom := (index_room s.data.toList sep.data.toList (by omega)).2
    rw [g4] at hroom
    have hsz : (s.extract 0 at_.toNat).size = at_.toNat := by rw [ByteArray.size_extract]; omega
    refine ⟨?_, fun hh => absurd hh (by omega), fun _ => g3, fun x hx hx0 => ?_⟩
    · apply text_ext
      obtain ⟨r, hr⟩ := hroom
      rw [text_app, text_app, text_take, text_part]
      have h1 : s.data.toList.take at_.toNat ++ s.data.toList.drop at_.toNat = s.data.toList := List.take_append_drop _ _
      have h2 : (s.data.toList.take s.size).drop (at_.toNat + sep.size) = r := by
        rw [List.take_of_length_le (by rw [size_toList]; exact Nat.le_refl _), ← List.drop_drop, ← hr, ← size_toList sep, List.drop_left]
      rw [h2, List.append_assoc, hr, h1]
    · rw [hsz]
      rcases one x hx0 with ⟨_, e⟩ | ⟨h1, e, h2⟩
      · rw [e]; omega
      · rw [e, ByteArray.size_extract]
        have := g2 x hx hx0
        omega
theorem join_two (sep a b : ByteArray) : joinB sep [a, b] = (a ++ sep ++ b).data.toList := by
  rw [text_app, text_app]
  simp [joinB, Lib.join]
end Go.Proofs.Ythmbgnjbmkmajaa
