/- Labels put in order by name, those of one name as they stood.
   Sets of labels: those that have a name, in order, of one name the last.
   The set that labels make. -/
import Derived.Test.YtfamcebgcpaolaaDoorLabRight
import Derived.Sort.LotA
import Derived.Laws.OwnMore
namespace Go.Proofs.YtfamcebgcpaolaaDoor
open Go.RowKit Go.Sort
set_option linter.unusedVariables false
set_option linter.unusedSimpArgs false

def nameC (p q : PairB) : Int := txtC p.1 q.1
def nameLt : PairB → PairB → Bool := ltOf nameC
/-- the labels, in order -/
def sortL (ps : List PairB) : List PairB := (Sort.insertionSort nameLt ps.toArray 0 ps.length).toList
/-- labels that lie in a block of the call's own -/
def RowP (w : World) (g : Nat) (ps : List PairB) : Prop := HoldsK pairV 2 w g 0 ps.toArray
theorem toArray_get (ps : List PairB) (j : Nat) (hj : j < ps.length) : ps.toArray[j]! = ps.getD j pnil := by
  rw [getElem!_pos ps.toArray j (by simpa using hj), List.getElem_toArray, List.getD_eq_getElem?_getD, List.getElem?_eq_getElem hj]
  rfl
theorem RowP.pairs {w : World} {g : Nat} {ps : List PairB} (h : RowP w g ps) (hg : g < w.heap.size) : Pairs w (some ⟨g, 0, none⟩) ps.length ps := by
  refine ⟨rfl, fun _ => ⟨g, 0, rfl, hg, fun j hj => ?_⟩⟩
  have h0 := HoldsK.cell h (i := j) (c := 0) (by simpa using hj) (by decide)
  have h1 := HoldsK.cell h (i := j) (c := 1) (by simpa using hj) (by decide)
  rw [toArray_get ps j hj] at h0 h1
  exact ⟨h0.1, h1.1⟩
theorem sort_world {w : World} {g n : Nat} {os : Array Obj} (d : Array PairB) (hg : g < w.heap.size) : w.grownBy (sortWorldK pairV 2 w g 0 n d os) (some g) := by
  unfold sortWorldK
  refine ⟨rfl, rfl, rfl, ?_, fun j hj hjg => ?_⟩
  · show w.heap.size ≤ (Go.Sort.grow (putRowK pairV 2 (Sort.ahead w n) g 0 d) os).heap.size
    rw [size_grow, size_putRowK]
    exact Nat.le_add_right _ _
  · show ((mapBlock (Sort.ahead w n) g (putCells id 0 (flatK pairV 2 d))).heap ++ os)[j]? = w.heap[j]?
    rw [Array.getElem?_append_left (by simp [mapBlock, Sort.ahead]; exact hj)]
    simp only [mapBlock, Sort.ahead, Array.getElem?_modify]
    rw [if_neg (fun h => hjg (by rw [h]))]

theorem nameLt_swo : SWO nameLt := by
  have e : ∀ x y, nameLt x y = decide (txtC x.1 y.1 < 0) := fun _ _ => rfl
  refine ⟨fun x => ?_, fun x y z h1 h2 => ?_, fun x y z h1 h2 => ?_⟩
  · rw [e, txtC_ord.refl]; rfl
  · rw [e, decide_eq_true_iff] at *
    exact txtC_ord.less h1 (by omega)
  · rw [e, decide_eq_false_iff_not] at *
    have a1 := txtC_ord.anti x.1 y.1
    have a2 := txtC_ord.anti y.1 z.1
    have a3 := txtC_ord.anti x.1 z.1
    have := txtC_ord.trans z.1 y.1 x.1 (by omega) (by omega)
    omega
theorem sorted_size (ps : List PairB) : (Sort.insertionSort nameLt ps.toArray 0 ps.length).size = ps.length := by
  have h := (insertionSort_holds nameLt_swo ps.toArray 0 ps.length (Nat.zero_le _) (by simp)).1.1
  rw [h]; simp
theorem sortL_length (ps : List PairB) : (sortL ps).length = ps.length := by
  unfold sortL
  rw [Array.length_toList, sorted_size]
theorem sortL_perm (ps : List PairB) : (sortL ps).Perm ps := by
  have h := (insertionSort_holds nameLt_swo ps.toArray 0 ps.length (Nat.zero_le _) (by simp)).1.2.2
  have e1 : ((Sort.insertionSort nameLt ps.toArray 0 ps.length).extract 0 ps.length).toList = sortL ps := by
    unfold sortL
    rw [Array.toList_extract]
    simp [List.extract, sorted_size]
    rw [List.take_of_length_le (by rw [Array.length_toList, sorted_size]; exact Nat.le_refl _)]
  rw [e1] at h
  have e2 : (ps.toArray.extract 0 ps.length).toList = ps := by simp
  rw [e2] at h
  exact h
theorem sortL_sorted (ps : List PairB) : ∀ i j, i < j → j < ps.length → txtC ((sortL ps).getD j pnil).1 ((sortL ps).getD i pnil).1 < 0 → False := by
  intro i j hij hj hlt
  have h := (insertionSort_holds nameLt_swo ps.toArray 0 ps.length (Nat.zero_le _) (by simp)).2 i j (Nat.zero_le _) hij hj
  have e : ∀ k, k < ps.length → (Sort.insertionSort nameLt ps.toArray 0 ps.length)[k]! = (sortL ps).getD k pnil := fun k hk => by
    have := toArray_get (sortL ps) k (by rw [sortL_length]; exact hk)
    rw [← this]
    unfold sortL
    rw [Array.toArray_toList]
  rw [e j hj, e i (by omega)] at h
  have h2 : decide (txtC ((sortL ps).getD j pnil).1 ((sortL ps).getD i pnil).1 < 0) = false := h
  rw [decide_eq_false_iff_not] at h2
  exact h2 hlt
end Go.Proofs.YtfamcebgcpaolaaDoor
namespace Go.Proofs.YtfamcebgcpaolaaDoor
open Go.RowKit Go.Sort
set_option linter.unusedVariables false
set_option linter.unusedSimpArgs false

def pVs (l : List PairB) : List Value := l.flatMap pairV
theorem pVs_len (l : List PairB) : (pVs l).length = l.length * 2 := by
  induction l with
  | nil => rfl
  | cons p l ih => simp only [pVs, List.flatMap_cons, List.length_append, List.length_cons] at *; rw [ih]; simp [pairV]; omega
theorem pVs_app (l m : List PairB) : pVs (l ++ m) = pVs l ++ pVs m := by simp [pVs]
theorem pVs_at : ∀ (l : List PairB) (t : Nat), t < l.length * 2 → (pVs l)[t]? = some (pairV (l.getD (t / 2) pnil))[t % 2]!
  | [], t, h => absurd h (by simp)
  | p :: l, 0, h => rfl
  | p :: l, 1, h => rfl
  | p :: l, t + 2, h => by
    have ih := pVs_at l t (by simp at h; omega)
    have e : pVs (p :: l) = .string p.1 :: .string p.2 :: pVs l := rfl
    rw [e, List.getElem?_cons_succ, List.getElem?_cons_succ, ih, show (t + 2) / 2 = t / 2 + 1 by omega, show (t + 2) % 2 = t % 2 by omega, List.getD_cons_succ]
/-- v is a slice of labels that the call owns -/
def OwnP (w : World) (B : Nat) (v : Value) (l : List PairB) : Prop := w.ownsRow B 81 2 v l.length (pVs l)
theorem OwnP.nil (w : World) (B : Nat) : OwnP w B (.slice none 0 0) [] := World.ownsRow_nil _ _ _ _
theorem OwnP.alloc {w : World} {B : Nat} {v : Value} {l : List PairB} (h : OwnP w B v l) (o : Obj) : OwnP (w.alloc o) B v l := World.ownsRow.alloc h o
theorem OwnP.snoc {w : World} {B : Nat} {v : Value} {l : List PairB} {p : PairB} (h : w.ownsRow B 81 2 v (l.length + 1) (pVs l ++ pairV p)) : OwnP w B v (l ++ [p]) := by
  unfold OwnP
  rw [List.length_append, pVs_app]
  exact h
theorem OwnP.below {w w' : World} {B : Nat} {v : Value} {l : List PairB} (h : OwnP w B v l) (hb : Below w.heap.size w w') : OwnP w' B v l := by
  refine ⟨h.1, ?_⟩
  rcases h.2 with h0 | ⟨g, cap, cur, hv, hg, hh, r⟩
  · exact .inl h0
  · exact .inr ⟨g, cap, cur, hv, hg, (hb.block g (lt_of_block hh)).trans hh, r⟩
theorem OwnP.mono {w : World} {B B' : Nat} {v : Value} {l : List PairB} (h : OwnP w B v l) (hB : B' ≤ B) : OwnP w B' v l := by
  refine ⟨h.1, ?_⟩
  rcases h.2 with h0 | ⟨g, cap, cur, hv, hg, r⟩
  · exact .inl h0
  · exact .inr ⟨g, cap, cur, hv, Nat.le_trans hB hg, r⟩
theorem OwnP.row {w : World} {B : Nat} {v : Value} {l : List PairB} (h : OwnP w B v l) : (v = .slice none 0 0 ∧ l = []) ∨ ∃ g cap, v = .slice (some ⟨g, 0, none⟩) l.length cap ∧ B ≤ g ∧ g < w.heap.size ∧ l.length ≤ cap ∧ RowP w g l := by
  rcases h.2 with ⟨hv, h0⟩ | ⟨g, cap, cur, rfl, hg, hh, hc, hm, hs, ht⟩
  · exact .inl ⟨hv, List.eq_nil_of_length_eq_zero h0⟩
  · refine .inr ⟨g, cap, rfl, hg, lt_of_block hh, hc, ?_⟩
    intro j hj
    have hj2 : j < l.length * 2 := by simpa using hj
    have hb : Blk w g 81 cur := hh
    rw [Nat.zero_add]
    refine ⟨?_, hb.frozen j⟩
    rw [hb.cell j, get_flatK _ _ _ _ (by simpa using hj2)]
    have e1 : cur[j]? = (pVs l)[j]? := by
      rw [← ht, List.getElem?_take_of_lt hj2]
      simp
    rw [e1, pVs_at l j hj2, toArray_get l (j / 2) (by omega)]
    rfl
theorem OwnP.pairs {w : World} {B : Nat} {v : Value} {l : List PairB} (h : OwnP w B v l) : ∃ A cap, v = .slice A l.length cap ∧ l.length ≤ cap ∧ Pairs w A l.length l := by
  rcases h.row with ⟨rfl, rfl⟩ | ⟨g, cap, rfl, _, hg, hc, hr⟩
  · exact ⟨none, 0, rfl, Nat.le_refl _, pairs_none w⟩
  · exact ⟨_, cap, rfl, hc, hr.pairs hg⟩
theorem infoPair : (Tryd.prog.info? 81).map (fun i => (i.zero, i.size, i.bytes)) = some (some (.agg #[.string ⟨#[]⟩, .string ⟨#[]⟩]), 2, 32) := by kernel_rfl

def namedL (ps : List PairB) : List PairB := ps.filter (fun p => nameB p.1)
/-- is the i-th the last of its name? -/
def keptAt (ps : List PairB) (i : Nat) : Bool := decide (i + 1 = ps.length) || decide ((ps.getD (i + 1) pnil).1 ≠ (ps.getD i pnil).1)
def keptTo (ps : List PairB) (j : Nat) : List PairB := ((List.range j).filter (keptAt ps)).map (fun i => ps.getD i pnil)
def lastsL (ps : List PairB) : List PairB := keptTo ps ps.length
theorem keptTo_succ (ps : List PairB) (j : Nat) : keptTo ps (j + 1) = if keptAt ps j then keptTo ps j ++ [ps.getD j pnil] else keptTo ps j := by
  unfold keptTo
  rw [List.range_succ, List.filter_append, List.map_append]
  cases h : keptAt ps j <;> simp [h]
theorem keptTo_len (ps : List PairB) (j : Nat) : (keptTo ps j).length ≤ j := by
  unfold keptTo
  rw [List.length_map]
  have := List.length_filter_le (keptAt ps) (List.range j)
  rw [List.length_range] at this
  exact this
/-- what a set is made of labels -/
def ofL (ps : List PairB) : List PairB := lastsL (sortL (namedL ps))

end Go.Proofs.YtfamcebgcpaolaaDoor
namespace Go.Proofs.YtfamcebgcpaolaaDoor
open Go.RowKit Go.Sort
set_option linter.unusedVariables false
set_option linter.unusedSimpArgs false

theorem namedL_take (ps : List PairB) (j : Nat) (hj : j < ps.length) : namedL (ps.take (j + 1)) = if nameB (ps.getD j pnil).1 then namedL (ps.take j) ++ [ps.getD j pnil] else namedL (ps.take j) := by
  have e : ps.take (j + 1) = ps.take j ++ [ps.getD j pnil] := by
    rw [List.take_succ_eq_append_getElem hj, List.getD_eq_getElem?_getD, List.getElem?_eq_getElem hj]
    rfl
  rw [e]
  obtain ⟨p, hp⟩ : ∃ p, ps.getD j pnil = p := ⟨_, rfl⟩
  rw [hp]
  unfold namedL
  rw [List.filter_append]
  cases h : nameB p.1 with
  | true => rw [if_pos rfl, List.filter_cons_of_pos (by rw [h]), List.filter_nil]
  | false => rw [if_neg (by decide), List.filter_cons_of_neg (by rw [h]; decide), List.filter_nil, List.append_nil]
theorem namedL_len (ps : List PairB) (j : Nat) : (namedL (ps.take j)).length ≤ j := by
  have h := List.length_filter_le (fun p : PairB => nameB p.1) (ps.take j)
  unfold namedL
  rw [List.length_take] at h
  omega

end Go.Proofs.YtfamcebgcpaolaaDoor
