/- Cut: a text cut at the first of some.
   The chapter's examples are so.
   The walk of the law QuoteAmong: a text is among some just if one of them is it, at the first place.
   The walk of the law QuotePlain: what is put has bytes from 32 to 126 alone, begins and ends with a quote, and is at most four times as long, and two.
   What is got of what was put: it, whatever stands behind it; nothing of less of it; and two texts are put alike just if they are the same.
   What a cut tells: the first place of all, the one that it was cut at, and the text whole. And rows of texts that a call owns.
   The document's own Join, Among and Cut: they answer as the program's do.
   The document's own Cut: it answers as the program's does. -/
import Derived.Test.YtfamcebgcpaolaaGreatDoorTexts
import Derived.Test.YtfamcebgcpaolaaGreatDoorRefPut
import Derived.Test.YtfamcebgcpaolaaGreatDoorBackPure
import Derived.Test.YtfamcebgcpaolaaGreatDoorUpto
import Derived.Deep.DeepCutAuto
import Derived.Deep.AppendLies
import Derived.Deep.RegionHeld3
import Derived.Lib.Join
import Derived.Lib.Index
namespace Go.Proofs.YtfamcebgcpaolaaGreatDoor
open Go.RowKit
set_option linter.unusedVariables false
set_option linter.unusedSimpArgs false

/-- the place found so far (below 0: none), and what begins there -/
def cutStep (s : ByteArray) (p : Int × ByteArray) (one : ByteArray) : Int × ByteArray :=
  if one.size = 0 then p
  else if 0 ≤ Lib.index s.data.toList one.data.toList ∧ (p.1 < 0 ∨ Lib.index s.data.toList one.data.toList < p.1) then (Lib.index s.data.toList one.data.toList, one)
  else p
def cutF (s : ByteArray) (ss : List ByteArray) : Int × ByteArray := ss.foldl (cutStep s) (-1, .empty)
def cutR (s : ByteArray) (ss : List ByteArray) : ByteArray × ByteArray × ByteArray :=
  if (cutF s ss).1 < 0 then (s, .empty, .empty)
  else (s.extract 0 (cutF s ss).1.toNat, (cutF s ss).2, s.extract ((cutF s ss).1.toNat + (cutF s ss).2.size) s.size)
theorem index_room (s sub : List UInt8) (h : 0 ≤ Lib.index s sub) : (Lib.index s sub).toNat + sub.length ≤ s.length ∧ sub <+: s.drop (Lib.index s sub).toNat := by
  induction s with
  | nil =>
    unfold Lib.index at h ⊢
    split at h
    · next he =>
      have : sub = [] := by simpa using he
      subst this
      simp
    · omega
  | cons b l ih =>
    unfold Lib.index at h ⊢
    by_cases h1 : sub.isPrefixOf (b :: l) = true
    · simp only [h1, if_true]
      have h2 : sub <+: b :: l := List.isPrefixOf_iff_prefix.1 h1
      exact ⟨by have := h2.length_le; simp at this ⊢; omega, by simpa using h2⟩
    · simp only [h1, if_false, Bool.false_eq_true] at h ⊢
      by_cases h2 : (Lib.index l sub == -1) = true
      · simp [h2] at h
      · simp only [h2, if_false, Bool.false_eq_true] at h ⊢
        have h3 : Lib.index l sub ≠ -1 := by simpa using h2
        have h4 := Lib.index_ge l sub
        obtain ⟨a, b'⟩ := ih (by omega)
        have e : (Lib.index l sub + 1).toNat = (Lib.index l sub).toNat + 1 := by omega
        rw [e]
        exact ⟨by simp; omega, by simpa using b'⟩
theorem cutF_ok (s : ByteArray) (ss : List ByteArray) : -1 ≤ (cutF s ss).1 ∧ ((cutF s ss).1 < 0 ∨ (cutF s ss).1.toNat + (cutF s ss).2.size ≤ s.size ∧ 0 < (cutF s ss).2.size) := by
  have key : ∀ (l : List ByteArray) (p : Int × ByteArray), (-1 ≤ p.1 ∧ (p.1 < 0 ∨ p.1.toNat + p.2.size ≤ s.size ∧ 0 < p.2.size)) → (-1 ≤ (l.foldl (cutStep s) p).1 ∧ ((l.foldl (cutStep s) p).1 < 0 ∨ (l.foldl (cutStep s) p).1.toNat + (l.foldl (cutStep s) p).2.size ≤ s.size ∧ 0 < (l.foldl (cutStep s) p).2.size)) := by
    intro l
    induction l with
    | nil => intro p h; exact h
    | cons x l ih =>
      intro p h
      rw [List.foldl_cons]
      refine ih _ ?_
      unfold cutStep
      split
      · exact h
      · split
        · next h1 h2 =>
          have h3 := index_room _ _ h2.1
          rw [size_toList, size_toList] at h3
          exact ⟨by simp; omega, .inr ⟨h3.1, by simp; omega⟩⟩
        · exact h
  exact key ss (-1, .empty) ⟨by simp, .inl (by simp)⟩
theorem cutF_snoc (s : ByteArray) (ss : List ByteArray) (k : Nat) (h : k < ss.length) : cutF s (ss.take (k + 1)) = cutStep s (cutF s (ss.take k)) (ss.getD k .empty) := by
  unfold cutF
  rw [List.take_succ_eq_append_getElem h, List.foldl_append, List.getD_eq_getElem?_getD, List.getElem?_eq_getElem h]
  rfl
/-- what the program's own variable holds: some number -/
def MaxIs (w : World) : Prop := ∃ m, w.cell? ⟨1, 0, none⟩ = some (.int .i64 m)
theorem MaxIs.below {w w' : World} (h : MaxIs w) (hb : Below w.heap.size w w') : MaxIs w' := by
  obtain ⟨m, hm⟩ := h
  exact ⟨m, (hb.cell (p := ⟨1, 0, none⟩) (block_lt_of_cell hm)).trans hm⟩

end Go.Proofs.YtfamcebgcpaolaaGreatDoor
namespace Go.Proofs.YtfamcebgcpaolaaGreatDoor
open Go.RowKit
set_option linter.unusedVariables false
set_option linter.unusedSimpArgs false

theorem texts_new (w : World) (t : TypeId) (ss : List ByteArray) (g : Nat) (hg : g = w.heap.size) : Texts (w.alloc (.cells (ss.map Value.string).toArray t)) (some ⟨g, 0, none⟩) ss.length ss := by
  subst hg
  refine ⟨rfl, fun hn => ⟨_, _, rfl, by simp, fun j hj => ?_⟩⟩
  rw [Nat.zero_add, (Blk.new w t _).cell j]
  simp [hj, List.getD_eq_getElem?_getD]
theorem max_of {W : World} (h : W.ShapedOpen Tryz.prog) : MaxIs W :=
  cell_of_shapedOpen_int (zero := #[.int .i64 0]) (t := 3) h (of_decide_eq_true (by kernel_rfl)) (by kernel_rfl) rfl (by kernel_rfl) (by kernel_rfl) Tryz.underlying3
theorem MaxIs.alloc {w : World} (h : MaxIs w) (o : Obj) : MaxIs (w.alloc o) := h.below ((Below.refl _ _).alloc (Nat.le_refl _) o)
theorem MaxIs.drewN {w : World} (h : MaxIs w) (q : Nat) : MaxIs (w.drewN q) := h.below (below_drewN (Below.refl _ _) q)

theorem ex_get1 (W : World) : Calls Tryz.prog 97 #[.string ⟨#[34, 97, 92, 34, 98, 34, 120]⟩] W fun e w' => e = .returned (.tuple #[.string ⟨#[97, 34, 98]⟩, .int .i64 6, .bool true]) ∧ Below W.heap.size W w' :=
  get_any ⟨#[34, 97, 92, 34, 98, 34, 120]⟩ (by decide) W
theorem ex_get2 (W : World) : Calls Tryz.prog 97 #[.string ⟨#[34, 97]⟩] W fun e w' => e = .returned (.tuple #[.string ⟨#[]⟩, .int .i64 0, .bool false]) ∧ Below W.heap.size W w' :=
  get_any ⟨#[34, 97]⟩ (by decide) W
theorem ex_put1 (W : World) : Calls Tryz.prog 31 #[.string ⟨#[97, 10, 34]⟩] W fun e w' => e = .returned (.string ⟨#[34, 97, 92, 110, 92, 34, 34]⟩) ∧ Below W.heap.size W w' :=
  put_any ⟨#[97, 10, 34]⟩ (by decide) W
theorem ex_put2 (W : World) : Calls Tryz.prog 31 #[.string ⟨#[0]⟩] W fun e w' => e = .returned (.string ⟨#[34, 92, 120, 48, 48, 34]⟩) ∧ Below W.heap.size W w' :=
  put_any ⟨#[0]⟩ (by decide) W
theorem ex_join (W : World) (g : Nat) (h : Texts W (some ⟨g, 0, none⟩) 2 [⟨#[97]⟩, ⟨#[98]⟩]) : Calls Tryz.prog 25 #[.string ⟨#[44]⟩, .slice (some ⟨g, 0, none⟩) 2 2] W fun e w' => e = .returned (.string ⟨#[97, 44, 98]⟩) ∧ Below W.heap.size W w' :=
  join_any ⟨#[44]⟩ _ 2 2 [⟨#[97]⟩, ⟨#[98]⟩] (by decide) (by decide) (by decide) W h
theorem ex_join0 (W : World) : Calls Tryz.prog 25 #[.string ⟨#[44]⟩, .slice none 0 0] W fun e w' => e = .returned (.string ⟨#[]⟩) ∧ Below W.heap.size W w' :=
  join_any ⟨#[44]⟩ none 0 0 [] (by decide) (by decide) (by decide) W (texts_none W)
end Go.Proofs.YtfamcebgcpaolaaGreatDoor
namespace Go.Proofs.YtfamcebgcpaolaaGreatDoor
open Go.RowKit
set_option linter.unusedVariables false
set_option linter.unusedSimpArgs false

theorem among_cases (s : ByteArray) (ss : List ByteArray) : (amongI s ss = -1 ∧ ∀ j, j < ss.length → eqB (ss.getD j .empty) s = false) ∨
    ∃ k : Nat, amongI s ss = k ∧ k < ss.length ∧ eqB (ss.getD k .empty) s = true ∧ ∀ j, j < k → eqB (ss.getD j .empty) s = false := by
  unfold amongI
  cases h : ss.findIdx? (fun x => eqB x s) with
  | none =>
    left
    refine ⟨rfl, fun j hj => ?_⟩
    rw [List.findIdx?_eq_none_iff] at h
    rw [List.getD_eq_getElem?_getD, List.getElem?_eq_getElem hj]
    exact h _ (List.getElem_mem hj)
  | some k =>
    right
    rw [List.findIdx?_eq_some_iff_getElem] at h
    obtain ⟨hk, h1, h2⟩ := h
    refine ⟨k, rfl, hk, ?_, fun j hj => ?_⟩
    · rw [List.getD_eq_getElem?_getD, List.getElem?_eq_getElem hk]; exact h1
    · rw [List.getD_eq_getElem?_getD, List.getElem?_eq_getElem (by omega)]
      simpa using h2 j hj
theorem Texts.less {w : World} {A : Option Addr} {n m : Nat} {ss : List ByteArray} (h : Texts w A n ss) (hm : m ≤ n) : Texts w A m (ss.take m) :=
  ⟨by rw [List.length_take, h.1]; omega, fun hp => by
    obtain ⟨b, off, e, hlt, hc⟩ := h.2 (by omega)
    refine ⟨b, off, e, hlt, fun j hj => ?_⟩
    rw [hc j (by omega), List.getD_eq_getElem?_getD, List.getD_eq_getElem?_getD, List.getElem?_take_of_lt hj]⟩

end Go.Proofs.YtfamcebgcpaolaaGreatDoor
namespace Go.Proofs.YtfamcebgcpaolaaGreatDoor
open Go.RowKit
set_option linter.unusedVariables false
set_option linter.unusedSimpArgs false

theorem form_plain : ∀ b : UInt8, ∀ c ∈ formB b, 32 ≤ c.toNat ∧ c.toNat ≤ 126 := by
  have h : ∀ b : Fin 256, (formB (UInt8.ofNat b.1)).all (fun c => decide (32 ≤ c.toNat) && decide (c.toNat ≤ 126)) = true := by decide +kernel
  intro b c hc
  have h2 := h ⟨b.toNat, b.toNat_lt⟩
  simp only [UInt8.ofNat_toNat, List.all_eq_true, Bool.and_eq_true, decide_eq_true_eq] at h2
  exact h2 c hc
theorem put_plain (l : List UInt8) : ∀ c ∈ putB l, 32 ≤ c.toNat ∧ c.toNat ≤ 126 := by
  intro c hc
  simp only [putB, List.mem_cons, List.mem_append, List.mem_flatMap, List.not_mem_nil, or_false] at hc
  rcases hc with rfl | ⟨b, _, hb⟩ | rfl
  · decide
  · exact form_plain b c hb
  · decide
theorem put_len (l : List UInt8) : l.length + 2 ≤ (putB l).length ∧ (putB l).length ≤ 4 * l.length + 2 := by
  have := flat_len l
  simp only [putB, List.length_cons, List.length_append, List.length_nil]
  omega
structure PutIs (s p : ByteArray) : Prop where
  lo : s.size + 2 ≤ p.size
  hi : p.size ≤ 4 * s.size + 2
  plain : ∀ k (h : k < p.size), 32 ≤ p[k].toNat ∧ p[k].toNat ≤ 126
  first : ∀ h : 0 < p.size, p[0] = 34
  last : ∀ h : p.size - 1 < p.size, p[p.size - 1] = 34
theorem byte_get (l : List UInt8) (k : Nat) (h : k < l.length) : ((⟨l.toArray⟩ : ByteArray)[k]'(by simpa [ByteArray.size] using h)) = l[k] := rfl
theorem put_is (s : ByteArray) : PutIs s ⟨(putB s.data.toList).toArray⟩ := by
  have hl := put_len s.data.toList
  have hz : (⟨(putB s.data.toList).toArray⟩ : ByteArray).size = (putB s.data.toList).length := by simp [ByteArray.size]
  rw [size_toList] at hl
  refine ⟨by rw [hz]; omega, by rw [hz]; omega, fun k h => ?_, fun h => rfl, fun h => ?_⟩
  · have hk : k < (putB s.data.toList).length := by rw [← hz]; exact h
    exact put_plain _ _ (by rw [byte_get _ k hk]; exact List.getElem_mem hk)
  · have hk : (⟨(putB s.data.toList).toArray⟩ : ByteArray).size - 1 < (putB s.data.toList).length := by rw [hz]; omega
    rw [byte_get _ _ hk]
    have e : (putB s.data.toList)[(⟨(putB s.data.toList).toArray⟩ : ByteArray).size - 1]? = some 34 := by
      rw [hz]
      simp [putB]
    rw [List.getElem?_eq_getElem hk] at e
    exact Option.some.inj e

end Go.Proofs.YtfamcebgcpaolaaGreatDoor
namespace Go.Proofs.YtfamcebgcpaolaaGreatDoor
open Go.RowKit
set_option linter.unusedVariables false
set_option linter.unusedSimpArgs false

theorem put_two (s t : ByteArray) : ∃ b, PutTwo s t ⟨(putB s.data.toList).toArray⟩ ⟨(putB t.data.toList).toArray⟩ b := by
  refine ⟨_, rfl, ?_⟩
  rw [Lib.toList_data, Lib.toList_data, Lib.toList_data, Lib.toList_data]
  rw [Bool.eq_iff_iff, beq_iff_eq, beq_iff_eq]
  exact ⟨fun h => put_inj h, fun h => by rw [h]⟩
theorem text_take (p : ByteArray) (k : Nat) : (p.extract 0 k).data.toList = p.data.toList.take k := by
  rw [ByteArray.data_extract, Array.toList_extract]
  simp [List.extract]

theorem put_data (l : List UInt8) : (⟨l.toArray⟩ : ByteArray).data.toList = l := rfl
theorem get_put (s x : ByteArray) (hs : s.size ≤ 2000000) (hx : x.size ≤ 2000000) (W : World) :
    Calls Tryz.prog 97 #[.string (⟨(putB s.data.toList).toArray⟩ ++ x)] W fun e w' => e = .returned (.tuple #[.string s, .int .i64 ((⟨(putB s.data.toList).toArray⟩ : ByteArray).size : Int), .bool true]) ∧ Below W.heap.size W w' := by
  have hl := (put_len s.data.toList).2
  rw [size_toList] at hl
  have h := get_any (⟨(putB s.data.toList).toArray⟩ ++ x) (by rw [ByteArray.size_append, put_size]; omega) W
  rw [text_app, put_data, get_back] at h
  rw [put_size]
  exact h
theorem get_less (s : ByteArray) (k : Nat) (hs : s.size ≤ 2000000) (hk : k < (⟨(putB s.data.toList).toArray⟩ : ByteArray).size) (W : World) :
    Calls Tryz.prog 97 #[.string ((⟨(putB s.data.toList).toArray⟩ : ByteArray).extract 0 k)] W fun e w' => e = .returned (.tuple #[.string ⟨#[]⟩, .int .i64 0, .bool false]) ∧ Below W.heap.size W w' := by
  have hl := (put_len s.data.toList).2
  rw [size_toList] at hl
  rw [put_size] at hk
  have h := get_any ((⟨(putB s.data.toList).toArray⟩ : ByteArray).extract 0 k) (by rw [ByteArray.size_extract, put_size]; omega) W
  rw [text_take, put_data, get_short _ _ hk] at h
  exact h

end Go.Proofs.YtfamcebgcpaolaaGreatDoor
namespace Go.Proofs.YtfamcebgcpaolaaGreatDoor
open Go.RowKit
set_option linter.unusedVariables false
set_option linter.unusedSimpArgs false

def tV (l : List ByteArray) : List Value := l.map Value.string
theorem tV_app (l m : List ByteArray) : tV (l ++ m) = tV l ++ tV m := by simp [tV]
theorem tV_one (l : List ByteArray) : ∀ u ∈ tV l, u.oneCell' = true := by
  intro u hu
  simp only [tV, List.mem_map] at hu
  obtain ⟨b, _, rfl⟩ := hu
  rfl
/-- v is a slice of texts that the call owns, and holds l -/
def OwnT (w : World) (B e : Nat) (v : Value) (l : List ByteArray) : Prop := w.ownsRow B e 1 v l.length (tV l)
theorem OwnT.nil (w : World) (B e : Nat) : OwnT w B e (.slice none 0 0) [] := World.ownsRow_nil _ _ _ _
theorem OwnT.alloc {w : World} {B e : Nat} {v : Value} {l : List ByteArray} (h : OwnT w B e v l) (o : Obj) : OwnT (w.alloc o) B e v l := World.ownsRow.alloc h o
theorem OwnT.snoc {w : World} {B e : Nat} {v : Value} {l m : List ByteArray} (h : w.ownsRow B e 1 v (l.length + m.length) (tV l ++ tV m)) : OwnT w B e v (l ++ m) := by
  unfold OwnT
  rwa [List.length_append, tV_app]
theorem OwnT.texts {w : World} {B e : Nat} {v : Value} {l : List ByteArray} (h : OwnT w B e v l) : ∃ A cap, v = .slice A l.length cap ∧ l.length ≤ cap ∧ Texts w A l.length l := by
  rcases Nat.eq_zero_or_pos l.length with h0 | h0
  · obtain ⟨A, cap, rfl⟩ := own_shape h
    have hl := List.eq_nil_of_length_eq_zero h0
    subst hl
    exact ⟨A, cap, rfl, Nat.zero_le _, rfl, fun h => absurd h (by simp)⟩
  · have hcap : ∃ g cap, v = .slice (some ⟨g, 0, none⟩) l.length cap ∧ l.length ≤ cap := by
      rcases h.2 with ⟨_, hh⟩ | ⟨g, cap, cur, rfl, _, _, hh⟩
      · omega
      · exact ⟨g, cap, rfl, by omega⟩
    obtain ⟨g, cap, rfl, hc⟩ := hcap
    obtain ⟨g', cap', he, _, hlt, hcell⟩ := own_at h h0
    injection he with he1 _ he2
    injection he1 with he1
    injection he1 with he1
    subst he1
    exact ⟨_, _, rfl, hc, rfl, fun _ => ⟨g, 0, rfl, hlt, fun j hj => by
      rw [Nat.zero_add, hcell j (by omega), tV, List.getElem?_map, List.getD_eq_getElem?_getD, List.getElem?_eq_getElem hj]
      rfl⟩⟩
theorem infoStrQ : (Tryz.prog.info? 9).map (fun i => (i.zero, i.size, i.bytes)) = some (some (.string .empty), 1, 16) := by kernel_rfl

theorem fold_least (s : ByteArray) (l : List ByteArray) : ∀ p : Int × ByteArray,
    ((l.foldl (cutStep s) p).1 < 0 → p.1 < 0 ∧ ∀ x ∈ l, x.size ≠ 0 → Lib.index s.data.toList x.data.toList < 0) ∧
    (0 ≤ (l.foldl (cutStep s) p).1 → (p.1 < 0 ∨ (l.foldl (cutStep s) p).1 ≤ p.1) ∧ (∀ x ∈ l, x.size ≠ 0 → Lib.index s.data.toList x.data.toList < 0 ∨ (l.foldl (cutStep s) p).1 ≤ Lib.index s.data.toList x.data.toList) ∧
      (l.foldl (cutStep s) p = p ∨ ((l.foldl (cutStep s) p).2 ∈ l ∧ Lib.index s.data.toList (l.foldl (cutStep s) p).2.data.toList = (l.foldl (cutStep s) p).1))) := by
  induction l with
  | nil => intro p; exact ⟨fun h => ⟨h, fun x hx => absurd hx (by simp)⟩, fun h => ⟨.inr (Int.le_refl _), fun x hx => absurd hx (by simp), .inl rfl⟩⟩
  | cons y l ih =>
    intro p
    rw [List.foldl_cons]
    obtain ⟨ih1, ih2⟩ := ih (cutStep s p y)
    generalize hr : l.foldl (cutStep s) (cutStep s p y) = r at ih1 ih2
    have hs : (y.size = 0 ∧ cutStep s p y = p) ∨ (y.size ≠ 0 ∧ 0 ≤ Lib.index s.data.toList y.data.toList ∧ (p.1 < 0 ∨ Lib.index s.data.toList y.data.toList < p.1) ∧ cutStep s p y = (Lib.index s.data.toList y.data.toList, y)) ∨
        (y.size ≠ 0 ∧ (Lib.index s.data.toList y.data.toList < 0 ∨ (0 ≤ p.1 ∧ p.1 ≤ Lib.index s.data.toList y.data.toList)) ∧ cutStep s p y = p) := by
      unfold cutStep
      by_cases h0 : y.size = 0
      · left; exact ⟨h0, by rw [if_pos h0]⟩
      · by_cases h1 : 0 ≤ Lib.index s.data.toList y.data.toList ∧ (p.1 < 0 ∨ Lib.index s.data.toList y.data.toList < p.1)
        · right; left; exact ⟨h0, h1.1, h1.2, by rw [if_neg h0, if_pos h1]⟩
        · right; right; exact ⟨h0, by omega, by rw [if_neg h0, if_neg h1]⟩
    rcases hs with ⟨h0, e⟩ | ⟨h0, h1, h2, e⟩ | ⟨h0, h1, e⟩
    · rw [e] at ih1 ih2
      refine ⟨fun h => ⟨(ih1 h).1, fun x hx hx0 => ?_⟩, fun h => ⟨(ih2 h).1, fun x hx hx0 => ?_, ?_⟩⟩
      · rcases List.mem_cons.1 hx with rfl | hx
        · exact absurd h0 hx0
        · exact (ih1 h).2 x hx hx0
      · rcases List.mem_cons.1 hx with rfl | hx
        · exact absurd h0 hx0
        · exact (ih2 h).2.1 x hx hx0
      · rcases (ih2 h).2.2 with h3 | ⟨h3, h4⟩
        · exact .inl h3
        · exact .inr ⟨List.mem_cons_of_mem _ h3, h4⟩
    · rw [e] at ih1 ih2
      refine ⟨fun h => absurd (ih1 h).1 (by simpa using h1), fun h => ?_⟩
      obtain ⟨a1, a2, a3⟩ := ih2 h
      have a1' : r.1 ≤ Lib.index s.data.toList y.data.toList := by
        rcases a1 with a1 | a1
        · exact absurd a1 (by simpa using h1)
        · exact a1
      refine ⟨?_, fun x hx hx0 => ?_, .inr ?_⟩
      · rcases h2 with h2 | h2
        · exact .inl h2
        · right; omega
      · rcases List.mem_cons.1 hx with rfl | hx
        · exact .inr a1'
        · exact a2 x hx hx0
      · rcases a3 with a3 | ⟨a3, a4⟩
        · rw [a3]; exact ⟨List.mem_cons_self .., rfl⟩
        · exact ⟨List.mem_cons_of_mem _ a3, a4⟩
    · rw [e] at ih1 ih2
      refine ⟨fun h => ⟨(ih1 h).1, fun x hx hx0 => ?_⟩, fun h => ⟨(ih2 h).1, fun x hx hx0 => ?_, ?_⟩⟩
      · rcases List.mem_cons.1 hx with rfl | hx
        · have := (ih1 h).1; omega
        · exact (ih1 h).2 x hx hx0
      · rcases List.mem_cons.1 hx with rfl | hx
        · have := (ih2 h).1; omega
        · exact (ih2 h).2.1 x hx hx0
      · rcases (ih2 h).2.2 with h3 | ⟨h3, h4⟩
        · exact .inl h3
        · exact .inr ⟨List.mem_cons_of_mem _ h3, h4⟩

structure CutIs (s : ByteArray) (ss : List ByteArray) (a sep b : ByteArray) : Prop where
  whole : a ++ sep ++ b = s
  none : sep.size = 0 → a = s ∧ b = .empty
  among : sep.size ≠ 0 → sep ∈ ss
  first : ∀ x ∈ ss, x.size ≠ 0 → a.size ≤ (cutR s [x]).1.size
theorem cut_is (s : ByteArray) (ss : List ByteArray) : CutIs s ss (cutR s ss).1 (cutR s ss).2.1 (cutR s ss).2.2 := by
  obtain ⟨o1, o2⟩ := cutF_ok s ss
  obtain ⟨f1, f2⟩ := fold_least s ss (-1, .empty)
  have he : ss.foldl (cutStep s) (-1, .empty) = cutF s ss := rfl
  rw [he] at f1 f2
  have one : ∀ x : ByteArray, x.size ≠ 0 → (Lib.index s.data.toList x.data.toList < 0 ∧ (cutR s [x]).1 = s) ∨ (0 ≤ Lib.index s.data.toList x.data.toList ∧ (cutR s [x]).1 = s.extract 0 (Lib.index s.data.toList x.data.toList).toNat ∧ (Lib.index s.data.toList x.data.toList).toNat ≤ s.size) := by
    intro x hx
    rcases (by omega : Lib.index s.data.toList x.data.toList < 0 ∨ 0 ≤ Lib.index s.data.toList x.data.toList) with h | h
    · left
      refine ⟨h, ?_⟩
      have : cutF s [x] = (-1, .empty) := by
        show cutStep s (-1, .empty) x = _
        rw [cutStep, if_neg hx, if_neg (by omega)]
      rw [cutR, this]; rfl
    · right
      have : cutF s [x] = (Lib.index s.data.toList x.data.toList, x) := by
        show cutStep s (-1, .empty) x = _
        rw [cutStep, if_neg hx, if_pos ⟨h, .inl (by decide)⟩]
      have hr := (index_room _ _ h).1
      rw [size_toList s] at hr
      rw [cutR, this, if_neg (by simpa using h)]
      exact ⟨h, rfl, by omega⟩
  by_cases h : (cutF s ss).1 < 0
  · rw [cutR, if_pos h]
    refine ⟨?_, fun _ => ⟨rfl, rfl⟩, fun h => absurd rfl h, fun x hx hx0 => ?_⟩
    · apply text_ext; simp
    · rcases one x hx0 with ⟨_, e⟩ | ⟨h1, _⟩
      · rw [e]; exact Nat.le_refl _
      · have := (f1 h).2 x hx hx0; omega
  · obtain ⟨g1, g2, g3⟩ := f2 (by omega)
    have hne : ¬ cutF s ss = (-1, .empty) := fun hh => h (by rw [hh]; decide)
    rcases g3 with g3 | ⟨g3, g4⟩
    · exact absurd g3 hne
    rcases o2 with o2 | ⟨o2, o3⟩
    · exact absurd o2 h
    rw [cutR, if_neg h]
    generalize hF : cutF s ss = F at *
    obtain ⟨at_, sep⟩ := F
    dsimp only at *
    have hroom := (index_room s.data.toList sep.data.toList (by omega)).2
    rw [g4] at hroom
    have hsz : (s.extract 0 at_.toNat).size = at_.toNat := by rw [ByteArray.size_extract]; omega
    refine ⟨?_, fun hh => absurd hh (by omega), fun _ => g3, fun x hx hx0 => ?_⟩
    · apply text_ext
      obtain ⟨r, hr⟩ := hroom
      rw [text_app, text_app, text_take, text_part]
      have h1 : s.data.toList.take at_.toNat ++ s.data.toList.drop at_.toNat = s.data.toList := List.take_append_drop _ _
      have h2 : (s.data.toList.take s.size).drop (at_.toNat + sep.size) = r := by
        rw [List.take_of_length_le (by rw [size_toList]; exact Nat.le_refl _), ← List.drop_drop, ← hr, ← size_toList sep, List.drop_left]
      rw [h2, List.append_assoc, hr, h1]
    · rw [hsz]
      rcases one x hx0 with ⟨_, e⟩ | ⟨h1, e, h2⟩
      · rw [e]; omega
      · rw [e, ByteArray.size_extract]
        have := g2 x hx hx0
        omega
theorem join_two (sep a b : ByteArray) : joinB sep [a, b] = (a ++ sep ++ b).data.toList := by
  rw [text_app, text_app]
  simp [joinB, Lib.join]
end Go.Proofs.YtfamcebgcpaolaaGreatDoor
namespace Go.Proofs.YtfamcebgcpaolaaGreatDoor
open Go.RowKit
set_option linter.unusedVariables false
set_option linter.unusedSimpArgs false

/-- the bytes of the first k joined -/
def joinT (sep : ByteArray) (ss : List ByteArray) : ByteArray := ⟨(joinB sep ss).toArray⟩
theorem joinT_data (sep : ByteArray) (ss : List ByteArray) : (joinT sep ss).data.toList = joinB sep ss := rfl
theorem joinT_first (sep : ByteArray) (ss : List ByteArray) (h : 0 < ss.length) : joinT sep (ss.take 1) = ss.getD 0 .empty := by
  match ss, h with
  | x :: r, _ => exact text_ext (by rw [joinT_data]; simp [joinB, Lib.join_one])
theorem joinT_snoc (sep : ByteArray) (ss : List ByteArray) (k : Nat) (h0 : 0 < k) (h : k < ss.length) : joinT sep (ss.take (k + 1)) = joinT sep (ss.take k) ++ sep ++ ss.getD k .empty := by
  match ss, k, h0, h with
  | x :: r, k + 1, _, h =>
    have h' : k < r.length := by simpa using h
    apply text_ext
    rw [text_app, text_app, joinT_data, joinT_data]
    simp only [joinB, List.take_succ_cons, List.map_cons, Lib.join_cons, List.map_take]
    rw [Lib.joinTail_take_succ sep.data.toList (r.map (·.data.toList)) k ((r.getD k .empty).data.toList) (by rw [List.getElem?_map, List.getD_eq_getElem?_getD, List.getElem?_eq_getElem h']; rfl)]
    simp
theorem joinT_size (sep : ByteArray) (ss : List ByteArray) : (joinT sep ss).size ≤ ss.length * sep.size + bulkT ss := by
  have e : (joinT sep ss).size = (joinB sep ss).length := put_size _
  rw [e, joinB]
  match ss with
  | [] => simp [Lib.join_nil]
  | x :: r =>
    rw [List.map_cons, Lib.join_cons, List.length_append, Lib.joinTail_length]
    have h : ∀ r : List ByteArray, Lib.lens (r.map (·.data.toList)) ≤ bulkT r := by
      intro r
      induction r with
      | nil => simp [Lib.lens, bulkT]
      | cons y r ih =>
        rw [bulkT_cons]
        simp only [Lib.lens, List.map_cons, List.sum_cons] at ih ⊢
        rw [size_toList]
        omega
    have hr := h r
    rw [bulkT_cons, size_toList, size_toList, List.length_map, List.length_cons, Nat.add_mul, Nat.mul_comm sep.size]
    omega
theorem bulkT_take (ss : List ByteArray) (k : Nat) : bulkT (ss.take k) ≤ bulkT ss := by
  induction ss generalizing k with
  | nil => simp
  | cons y r ih =>
    cases k with
    | zero => simp [bulkT]
    | succ k => rw [List.take_succ_cons, bulkT_cons, bulkT_cons]; have := ih k; omega
theorem joinT_take (sep : ByteArray) (ss : List ByteArray) (k : Nat) (hn : ss.length ≤ 1048576) (hs : sep.size ≤ 1048576) (hb : bulkT ss ≤ 16777216) : (joinT sep (ss.take k)).size ≤ 2199023255552 := by
  have h := joinT_size sep (ss.take k)
  have h2 := bulkT_take ss k
  have h3 : (ss.take k).length ≤ 1048576 := by rw [List.length_take]; omega
  have h4 : (ss.take k).length * sep.size ≤ 1048576 * 1048576 := Nat.mul_le_mul h3 hs
  omega

set_option maxHeartbeats 400000 in
theorem refJoin_any (sep : ByteArray) (A : Option Addr) (n c : Nat) (ss : List ByteArray) (hn : n ≤ 1048576) (hs : sep.size ≤ 1048576) (hb : bulkT ss ≤ 16777216) (W : World) (h : Texts W A n ss) :
    Calls Tryz.prog 33 #[.string sep, .slice A n c] W fun e w' => e = .returned (.string (joinT sep ss)) ∧ W = w' := by
  obtain ⟨hl, hA⟩ := h
  have HL := Lib.hid hl
  have HA := Lib.hid hA
  have HB := Lib.hid hb
  clear hl hA hb
  go_enter Tryz.func33, Tryz.ntmps33
  go_wp2
  go_loop [5, 6] (fun t i => ∃ k : Nat, k ≤ n ∧ i = .int .i64 k ∧ t = .string (joinT sep (ss.take k))) (fun _ i => n - (intOf i).toNat)
  case atStart => exact ⟨0, Nat.zero_le _, rfl, by rw [List.take_zero]; rfl⟩
  case round =>
    obtain ⟨k, hk, rfl, rfl⟩ := hrel
    by_cases hkn : k < n
    · obtain ⟨b, off, rfl, hlt, hc⟩ := HA.out (by omega)
      have c0 := hc k hkn
      have hz := joinT_take sep ss k (by rw [HL.out]; exact hn) hs HB.out
      have hmem : (ss.getD k .empty).size ≤ 16777216 := by
        have : ss.getD k .empty ∈ ss := by rw [List.getD_eq_getElem?_getD, List.getElem?_eq_getElem (by rw [HL.out]; exact hkn)]; exact List.getElem_mem _
        have := bulkT_mem this
        have := HB.out
        omega
      have h1 := fun h => joinT_snoc sep ss k h (by rw [HL.out]; exact hkn)
      have h0 := fun h => joinT_first sep ss (by rw [HL.out]; exact h)
      obtain ⟨x, hx⟩ : ∃ x, ss.getD k .empty = x := ⟨_, rfl⟩
      have H0 := Lib.hid h0
      have HX := Lib.hid hx
      rw [hx] at c0 h1 hmem
      obtain ⟨t, ht⟩ : ∃ t, joinT sep (ss.take k) = t := ⟨_, rfl⟩
      have H1 := Lib.hid h1
      have HT := Lib.hid ht
      rw [ht] at hz ⊢
      have g1 : t.size + sep.size ≤ 2199024304128 := by omega
      have g2 : t.size + sep.size + x.size ≤ 2199041081344 := by omega
      have g3 : t.size + x.size ≤ 2199041081344 := by omega
      clear hc h1 h0 hx ht
      by_cases hk0 : k = 0
      · subst hk0
        rw [Nat.add_zero] at c0
        go_wp2
        go_round
        case rel =>
          refine ⟨1, by omega, by go_num, ?_⟩
          have e : t = .empty := by rw [← HT.out, List.take_zero]; rfl
          rw [H0.out (by omega), HX.out, e]
          exact congrArg Value.string (text_ext (by rw [text_app]; simp))
        case measure => simp [intOf]; omega
      · have hk0' : (0 : Int) < (k : Int) := by omega
        go_wp2
        go_round
        case rel => exact ⟨k + 1, by omega, by go_num, by rw [H1.out (by omega), HT.out]⟩
        case measure => simp [intOf]; omega
    · obtain rfl : k = n := by omega
      rw [List.take_of_length_le (by rw [HL.out]; exact Nat.le_refl _)]
      go_wp2
      go_ret
      exact ⟨rfl, rfl⟩

end Go.Proofs.YtfamcebgcpaolaaGreatDoor
namespace Go.Proofs.YtfamcebgcpaolaaGreatDoor
open Go.RowKit
set_option linter.unusedVariables false
set_option linter.unusedSimpArgs false

theorem occ_index (s x : ByteArray) (h : 0 ≤ Lib.index s.data.toList x.data.toList) : occ s x (Lib.index s.data.toList x.data.toList).toNat = true ∧ (Lib.index s.data.toList x.data.toList).toNat + x.size ≤ s.size := by
  obtain ⟨h1, h2⟩ := index_room _ _ h
  rw [size_toList, size_toList] at h1
  exact ⟨by unfold occ Lib.occAt; exact List.isPrefixOf_iff_prefix.2 h2, h1⟩
theorem fold_keep (s : ByteArray) (l : List ByteArray) (at_ : Nat) (x : ByteArray) (h : ∀ y ∈ l, y.size ≠ 0 → Lib.index s.data.toList y.data.toList < 0 ∨ (at_ : Int) ≤ Lib.index s.data.toList y.data.toList) : l.foldl (cutStep s) ((at_ : Int), x) = ((at_ : Int), x) := by
  induction l with
  | nil => rfl
  | cons y l ih =>
    rw [List.foldl_cons]
    have e : cutStep s ((at_ : Int), x) y = ((at_ : Int), x) := by
      unfold cutStep
      by_cases h0 : y.size = 0
      · rw [if_pos h0]
      · rw [if_neg h0, if_neg]
        have := h y (List.mem_cons_self ..) h0
        dsimp only
        omega
    rw [e]
    exact ih fun z hz => h z (List.mem_cons_of_mem _ hz)
theorem cut_found (s : ByteArray) (ss : List ByteArray) (k at_ : Nat) (x : ByteArray) (hk : k < ss.length) (hx : ss.getD k .empty = x) (h0 : x.size ≠ 0) (hr : at_ + x.size ≤ s.size) (ho : occ s x at_ = true)
    (hno : ∀ j, j < at_ → ∀ y ∈ ss, y.size ≠ 0 → occ s y j = false) (hno2 : ∀ i, i < k → (ss.getD i .empty).size ≠ 0 → occ s (ss.getD i .empty) at_ = false) :
    cutR s ss = (s.extract 0 at_, x, s.extract (at_ + x.size) s.size) := by
  have hx' : ss[k] = x := by rw [← hx, List.getD_eq_getElem?_getD, List.getElem?_eq_getElem hk]; rfl
  have hmem : x ∈ ss := by rw [← hx']; exact List.getElem_mem hk
  have far : ∀ y ∈ ss, y.size ≠ 0 → Lib.index s.data.toList y.data.toList < 0 ∨ (at_ : Int) ≤ Lib.index s.data.toList y.data.toList := by
    intro y hy hy0
    rcases (by omega : Lib.index s.data.toList y.data.toList < 0 ∨ 0 ≤ Lib.index s.data.toList y.data.toList) with h | h
    · exact .inl h
    · right
      obtain ⟨h1, _⟩ := occ_index s y h
      rcases Nat.lt_or_ge (Lib.index s.data.toList y.data.toList).toNat at_ with h2 | h2
      · have h3 := hno _ h2 y hy hy0
        rw [h1] at h3
        exact Bool.noConfusion h3
      · omega
  have hi : Lib.index s.data.toList x.data.toList = (at_ : Int) :=
    Lib.index_first (by rw [size_toList]; omega) ho (fun j hj => hno j hj x hmem h0)
  have hsplit : ss = ss.take k ++ x :: ss.drop (k + 1) := by
    conv => lhs; rw [← List.take_append_drop k ss, List.drop_eq_getElem_cons hk, hx']
  obtain ⟨p, hp⟩ : ∃ p, (ss.take k).foldl (cutStep s) (-1, .empty) = p := ⟨_, rfl⟩
  have hp2 : p.1 < 0 ∨ (at_ : Int) < p.1 := by
    rcases (by omega : p.1 < 0 ∨ 0 ≤ p.1) with h | h
    · exact .inl h
    · right
      have hl := (fold_least s (ss.take k) (-1, .empty)).2
      rw [hp] at hl
      obtain ⟨_, _, h3⟩ := hl h
      have ho := (cutF_ok s (ss.take k)).2
      have e : cutF s (ss.take k) = p := hp
      rw [e] at ho
      rcases h3 with h3 | ⟨h3, h4⟩
      · rw [h3] at h; exact absurd h (by decide)
      · rcases ho with ho | ⟨_, ho⟩
        · omega
        · have hq0 : p.2.size ≠ 0 := by omega
          have hf := far p.2 (List.mem_of_mem_take h3) hq0
          rw [h4] at hf
          have hne : p.1 ≠ (at_ : Int) := by
            intro hne
            obtain ⟨i, hi1, hi2⟩ := List.mem_iff_getElem.1 h3
            have hik : i < k := by rw [List.length_take] at hi1; omega
            have hg : ss.getD i .empty = p.2 := by
              rw [← hi2, List.getElem_take, List.getD_eq_getElem?_getD, List.getElem?_eq_getElem (by omega)]; rfl
            have h5 := hno2 i hik (by rw [hg]; exact hq0)
            have h6 := (occ_index s p.2 (by omega)).1
            rw [h4, hne, Int.toNat_natCast] at h6
            rw [hg, h6] at h5
            exact Bool.noConfusion h5
          omega
  have hF : cutF s ss = ((at_ : Int), x) := by
    unfold cutF
    rw [hsplit, List.foldl_append, hp, List.foldl_cons]
    have e : cutStep s p x = ((at_ : Int), x) := by
      unfold cutStep
      rw [if_neg h0, hi, if_pos ⟨by omega, hp2⟩]
    rw [e]
    exact fold_keep s _ at_ x fun y hy => far y (List.mem_of_mem_drop hy)
  rw [cutR, hF, if_neg (by simp)]
  simp
theorem cut_no (s : ByteArray) (ss : List ByteArray) (hno : ∀ j, j ≤ s.size → ∀ y ∈ ss, y.size ≠ 0 → occ s y j = false) : cutR s ss = (s, .empty, .empty) := by
  have h : (cutF s ss).1 < 0 := by
    rcases (by omega : (cutF s ss).1 < 0 ∨ 0 ≤ (cutF s ss).1) with h | h
    · exact h
    · obtain ⟨_, _, h3⟩ := (fold_least s ss (-1, .empty)).2 h
      have ho := (cutF_ok s ss).2
      have e : ss.foldl (cutStep s) (-1, .empty) = cutF s ss := rfl
      rw [e] at h3
      rcases h3 with h3 | ⟨h3, h4⟩
      · rw [h3] at h; exact absurd h (by decide)
      · rcases ho with ho | ⟨_, ho⟩
        · omega
        · obtain ⟨h5, h6⟩ := occ_index s (cutF s ss).2 (by omega)
          rw [h4] at h5 h6
          have := hno (cutF s ss).1.toNat (by omega) _ h3 (by omega)
          rw [h5] at this
          exact Bool.noConfusion this
  rw [cutR, if_pos h]
theorem ret3s_eq {a a' b b' c c' : ByteArray} (h : (a, b, c) = (a', b', c')) : Ending.returned (.tuple #[.string a, .string b, .string c]) = .returned (.tuple #[.string a', .string b', .string c']) := by
  injection h with h1 h2
  injection h2 with h2 h3
  rw [h1, h2, h3]

theorem drew_le3 (w : World) (n m k : Nat) : ∃ q, ((w.drewN n).drewN m).drewN k = w.drewN q := ⟨_, by rw [World.drewN_drewN, World.drewN_drewN]⟩

set_option maxHeartbeats 1000000 in
theorem refCut_any (s : ByteArray) (hs : s.size ≤ 16777216) (A : Option Addr) (n c : Nat) (ss : List ByteArray) (hn : n ≤ 16777216) (hb : bulkT ss ≤ 16777216) (W : World) (h : Texts W A n ss) :
    Calls Tryz.prog 39 #[.string s, .slice A n c] W fun e w' => e = .returned (.tuple #[.string (cutR s ss).1, .string (cutR s ss).2.1, .string (cutR s ss).2.2]) ∧ ∃ q, w' = W.drewN q := by
  obtain ⟨hl, hA⟩ := h
  have HL := Lib.hid hl
  have HA := Lib.hid hA
  have HB := Lib.hid hb
  clear hl hA hb
  go_enter Tryz.func39, Tryz.ntmps39
  go_wp2
  go_loopw [7] (fun i wr => ∃ (p q : Nat), p ≤ s.size + 1 ∧ i = .int .i64 p ∧ wr = W.drewN q ∧ ∀ j, j < p → ∀ y ∈ ss, y.size ≠ 0 → occ s y j = false) (fun i _ => s.size + 1 - (intOf i).toNat)
  case atStart => exact ⟨0, 0, Nat.zero_le _, rfl, rfl, fun j hj => absurd hj (by omega)⟩
  case round =>
    obtain ⟨p, q, hp, rfl, rfl, hno⟩ := hrel
    have HN := Lib.hid hno
    clear hno
    by_cases hps : p ≤ s.size
    · have hps' : (p : Int) ≤ (s.size : Int) := by omega
      go_wp2
      go_loopw [8] (fun i wr => ∃ (k q : Nat), k ≤ n ∧ i = .int .i64 k ∧ wr = W.drewN q ∧ ∀ j, j < k → (ss.getD j .empty).size ≠ 0 → occ s (ss.getD j .empty) p = false) (fun i _ => n - (intOf i).toNat)
      case atStart => exact ⟨0, q, Nat.zero_le _, rfl, rfl, fun j hj => absurd hj (by omega)⟩
      case round =>
        obtain ⟨k, q, hk, rfl, rfl, hno⟩ := hrel
        have HK := Lib.hid hno
        clear hno
        by_cases hkn : k < n
        · obtain ⟨b, off, rfl, hlt, hc⟩ := HA.out (by omega)
          have c0 := hc k hkn
          have hfound := cut_found s ss k p
          have hmem : (ss.getD k .empty).size ≤ 16777216 := by
            have : ss.getD k .empty ∈ ss := by rw [List.getD_eq_getElem?_getD, List.getElem?_eq_getElem (by rw [HL.out]; exact hkn)]; exact List.getElem_mem _
            have := bulkT_mem this
            have := HB.out
            omega
          obtain ⟨x, hx⟩ : ∃ x, ss.getD k .empty = x := ⟨_, rfl⟩
          rw [hx] at c0 hmem
          have HX := Lib.hid hx
          have HF := Lib.hid hfound
          clear hc hx hfound
          by_cases h0 : x.size = 0
          · have h0' : ¬ (0 : Int) < (x.size : Int) := by omega
            have hstep : ∀ j, j < k + 1 → (ss.getD j .empty).size ≠ 0 → occ s (ss.getD j .empty) p = false := fun j hj hj0 => by
              rcases Nat.lt_succ_iff_lt_or_eq.1 hj with h | rfl
              · exact HK.out j h hj0
              · rw [HX.out] at hj0; exact absurd h0 hj0
            have HS := Lib.hid hstep
            clear hstep
            go_wp2
            go_quiet (fail)
            go_wp2
            go_round
            case rel => exact ⟨k + 1, _, by omega, by go_num, rfl, HS.out⟩
            case measure => simp [intOf]; omega
          · have h0' : (0 : Int) < (x.size : Int) := by omega
            have h0n : 0 < x.size := by omega
            by_cases hr : p + x.size ≤ s.size
            · have hr' : (p : Int) + (x.size : Int) ≤ (s.size : Int) := by omega
              have hpc := occ_piece s x p hr
              by_cases ho : occ s x p = true
              · have e := HF.out x (by rw [HL.out]; exact hkn) HX.out h0 hr ho HN.out HK.out
                have E := Lib.hid e
                rw [ho] at hpc
                clear e ho
                go_wp2
                go_quiet (fail)
                go_wp2
                go_quiet (fail)
                go_wp2
                go_ret3
                exact ⟨by rw [E.out]; rfl, drew_le3 _ _ _ _⟩
              · have ho' : occ s x p = false := by simpa using ho
                rw [ho'] at hpc
                have hstep : ∀ j, j < k + 1 → (ss.getD j .empty).size ≠ 0 → occ s (ss.getD j .empty) p = false := fun j hj hj0 => by
                  rcases Nat.lt_succ_iff_lt_or_eq.1 hj with h | rfl
                  · exact HK.out j h hj0
                  · rw [HX.out]; exact ho'
                have HS := Lib.hid hstep
                clear hstep ho ho'
                go_wp2
                go_quiet (fail)
                go_wp2
                go_round
                case rel => exact ⟨k + 1, _, by omega, by go_num, rfl, HS.out⟩
                case measure => simp [intOf]; omega
            · have hr' : (s.size : Int) < (p : Int) + (x.size : Int) := by omega
              have hrn : s.size < p + x.size := by omega
              have hup : (p : Int) + (x.size : Int) ≤ 33554432 := by omega
              have hwr : IntKind.i64.wrap ((p : Int) + (x.size : Int)) = (p : Int) + (x.size : Int) := by rw [IntKind.wrap_i64]; omega
              have hdc : decide ((p : Int) + (x.size : Int) ≤ (s.size : Int)) = false := by rw [decide_eq_false_iff_not]; omega
              have hstep : ∀ j, j < k + 1 → (ss.getD j .empty).size ≠ 0 → occ s (ss.getD j .empty) p = false := fun j hj hj0 => by
                rcases Nat.lt_succ_iff_lt_or_eq.1 hj with h | rfl
                · exact HK.out j h hj0
                · rw [HX.out]; exact occ_room s x p (by omega) h0
              have HS := Lib.hid hstep
              clear hstep
              go_wp2
              go_quiet (fail)
              go_wp2
              go_round
              case rel => exact ⟨k + 1, _, by omega, by go_num, rfl, HS.out⟩
              case measure => simp [intOf]; omega
        · obtain rfl : k = n := by omega
          have hstep : ∀ j, j < p + 1 → ∀ y ∈ ss, y.size ≠ 0 → occ s y j = false := fun j hj y hy hy0 => by
            rcases Nat.lt_succ_iff_lt_or_eq.1 hj with h | rfl
            · exact HN.out j h y hy hy0
            · obtain ⟨i, hi, rfl⟩ := List.mem_iff_getElem.1 hy
              have e : ss.getD i .empty = ss[i] := by rw [List.getD_eq_getElem?_getD, List.getElem?_eq_getElem hi]; rfl
              have := HK.out i (by rw [← HL.out]; exact hi) (by rw [e]; exact hy0)
              rw [e] at this
              exact this
          have HS := Lib.hid hstep
          clear hstep
          go_wp2
          go_round
          case rel => exact ⟨p + 1, _, by omega, by go_num, rfl, HS.out⟩
          case measure => simp [intOf]; omega
    · obtain rfl : p = s.size + 1 := by omega
      have e := cut_no s ss (fun j hj => HN.out j (by omega))
      have E := Lib.hid e
      clear e
      go_wp2
      go_ret3
      exact ⟨by rw [E.out]; rfl, _, rfl⟩
end Go.Proofs.YtfamcebgcpaolaaGreatDoor
