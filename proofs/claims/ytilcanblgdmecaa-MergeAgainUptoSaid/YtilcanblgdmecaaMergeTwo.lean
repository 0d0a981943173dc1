/- What the laws of merging stand on: lists that are in their order are merged; how many entries there are. -/
import Derived.Test.YtilcanblgdmecaaMergeSort
namespace Go.Proofs.Ytilcanblgdmecaa
open Go.RowKit
set_option linter.unusedVariables false
set_option linter.unusedSimpArgs false

theorem items_few {B : Nat} {w : World} {l : List ItemX} {L : List EntX} {most : Nat} (h : ∀ x ∈ l, GoodI B w x) (ul : sumN (l.map itemK) ≤ 1048576) (e : L.map EntX.b = itemsB l most) : ∀ x ∈ L, x.ls.length ≤ 1048576 := by
  intro x hx
  have h1 : x.b ∈ itemsB l most := by rw [← e]; exact List.mem_map.2 ⟨x, hx, rfl⟩
  obtain ⟨y, hy, hb⟩ := List.mem_map.1 h1
  have hy := List.mem_of_mem_take hy
  have hk : itemK y ≤ 1048576 := Nat.le_trans (sumN_mem (List.mem_map.2 ⟨y, hy, rfl⟩)) ul
  have := (item_put (h y hy) hk).len
  rw [hb] at this
  exact this
theorem items_n {B : Nat} {w w' : World} {l : List ItemX} {L : List EntX} {most : Nat} (h : ∀ x ∈ l, GoodI B w x) (ul : sumN (l.map itemK) ≤ 1048576) (e : L.map EntX.b = itemsB l most) (hg : ∀ x ∈ L, Good B w' x) : ∀ x ∈ L, x.n ≤ 1048576 := fun x hx => by
  have h1 := items_few h ul e x hx
  have h2 := (hg x hx).set.1.1
  omega
theorem insB_len (asc : Bool) (x : EntB) (l : List EntB) : (insB asc x l).length ≤ l.length + 1 := by
  induction l with
  | nil => simp [insB]
  | cons y l ih =>
    unfold insB
    split
    · simp
    · split
      · simp only [List.length_cons]; omega
      · simp
theorem uniq_len (asc : Bool) (l : List EntB) : (uniqB asc l).length ≤ l.length := by
  have h : ∀ (l m : List EntB), (l.foldl (fun out x => insB asc x out) m).length ≤ m.length + l.length := by
    intro l
    induction l with
    | nil => intro m; simp
    | cons x l ih =>
      intro m
      have h1 := ih (insB asc x m)
      have h2 := insB_len asc x m
      rw [List.foldl_cons, List.length_cons]
      omega
  have := h l []
  simpa [uniqB] using this
theorem allB_len (ls : List LsX) (h : ∀ x ∈ ls, x.l.length = x.n) : (allB ls).length = totL ls := by
  induction ls with
  | nil => rfl
  | cons x ls ih =>
    have h1 := ih fun y hy => h y (List.mem_cons_of_mem _ hy)
    unfold allB totL at *
    rw [List.flatMap_cons, List.length_append, List.length_map, List.map_cons, List.sum_cons, h1, h x List.mem_cons_self]
theorem lists_B {B : Nat} {w w' : World} (ls : List LsX) (h : ∀ x ∈ ls, Ents B w x.A x.n x.l ∧ x.n ≤ x.c ∧ x.c ≤ maxLen) (g : Nat) (hg : w.heap.size = g) (T : TypeId) (hw : w.alloc (.cells (rowV LsX.V ls).toArray T) = w') : ListsP B w' (some ⟨g, 0, none⟩) ls.length ls := by
  rw [← hw]
  refine ⟨⟨rfl, fun hn => ⟨g, 0, rfl, by rw [← hg]; simp, fun j i a hj hi => ?_⟩⟩, fun x hx => ⟨(h x hx).1.below ((Below.refl _ _).alloc (Nat.le_refl _) _), (h x hx).2⟩⟩
  have hb : Blk (w.alloc (.cells (rowV LsX.V ls).toArray T)) g T (rowV LsX.V ls).toArray := by rw [← hg]; exact Blk.new _ _ _
  rw [hb.cell, ← rowV_at lsV_len ls j i a hj hi]
  simp
/-- lists that are in their order are merged -/
theorem all_lists (B : Nat) (asc : Bool) (most : Int) (ls : List LsX) (k : Nat) (hk : ls.length = k) (w w' : World) (g : Nat) (hg : w.heap.size = g) (T : TypeId) (hw : w.alloc (.cells (rowV LsX.V ls).toArray T) = w')
    (h : ∀ x ∈ ls, Ents B w x.A x.n x.l ∧ x.n ≤ x.c ∧ x.c ≤ maxLen) (z : Bool) (hs : sortedLs asc ls = z) (hN : k + totL ls ≤ 1000000) (hB : B ≤ w.heap.size) :
    Calls Try.prog 12 #[.bool asc, .int .i64 most, .slice (some ⟨g, 0, none⟩) k k] w' fun e w'' => ∃ (A : Option Addr) (n c : Nat) (L : List EntX), e = .returned (.tuple #[.slice A n c, .bool z]) ∧ Ents B w'' A n L ∧ L.length = n ∧ (n ≤ c ∧ c ≤ maxLen) ∧ L.map EntX.b = mergeB asc most ls ∧ Below w'.heap.size w' w'' := by
  subst hk
  have hsz : w.heap.size ≤ w'.heap.size := by rw [← hw]; simp
  refine (all_any B asc most (some ⟨g, 0, none⟩) ls.length ls.length ls hN w' (by omega) (lists_B ls h g hg T hw)).mono ?_
  rintro e w'' ⟨v, L, rfl, hO, hL, hb⟩
  have hc := hO.1
  obtain ⟨A, c, rfl, _, _, hE⟩ := hO.ents
  exact ⟨A, L.length, c, L, by rw [hs], hE, rfl, OwnR.cap hc, hL, hb⟩
theorem merge_whole {asc : Bool} {ls : List LsX} {most : Int} (hs : sortedLs asc ls = true) (h : ∀ x ∈ ls, x.l.length = x.n) (hm : totL ls ≤ most.toNat) : mergeB asc most ls = uniqB asc (allB ls) := by
  unfold mergeB
  rw [if_pos hs, List.take_of_length_le]
  have := uniq_len asc (allB ls)
  rw [allB_len ls h] at this
  omega
theorem take_b {T S : List EntX} {R : List EntB} {n i : Nat} {x y : EntX} (hT : T.map EntX.b = R) (hS : S.map EntX.b = R.take n) (hx : S[i]? = some x) (hy : T[i]? = some y) : x.b = y.b := by
  have h1 : (S.map EntX.b)[i]? = some x.b := by rw [List.getElem?_map, hx]; rfl
  have h2 : (T.map EntX.b)[i]? = some y.b := by rw [List.getElem?_map, hy]; rfl
  rw [hS] at h1
  rw [hT] at h2
  rw [List.getElem?_take] at h1
  split at h1
  · rw [h2] at h1
    injection h1 with h1
    exact h1.symm
  · cases h1
end Go.Proofs.Ytilcanblgdmecaa
