/- Labels put in order by name, those of one name as they stood. -/
import Derived.Test.YtdbflmkjcgiodaaGreatDoorLabSame
import Derived.Sort.LotA
namespace Go.Proofs.YtdbflmkjcgiodaaGreatDoor
open Go.RowKit Go.Sort
set_option linter.unusedVariables false
set_option linter.unusedSimpArgs false

def nameC (p q : PairB) : Int := txtC p.1 q.1
def nameLt : PairB → PairB → Bool := ltOf nameC
theorem byName_any (p q : PairB) (W : World) :
    Calls Tryz.prog 78 #[.agg #[.string p.1, .string p.2], .agg #[.string q.1, .string q.2]] W fun e w' => e = .returned (.int .i64 (nameC p q)) ∧ ∃ n os, w' = grow (W.drewN n) os := by
  obtain ⟨p1, p2⟩ := p
  obtain ⟨q1, q2⟩ := q
  have C := Lib.hid (fun w => compare_any p1 q1 w)
  have E := Lib.hid (show txtC p1 q1 = nameC (p1, p2) (q1, q2) from rfl)
  obtain ⟨x, hx⟩ : ∃ x, txtC p1 q1 = x := ⟨_, rfl⟩
  rw [hx] at C E
  clear hx
  dsimp only
  go_enter Tryz.func78, Tryz.ntmps78
  go_wp2_with fail
  refine (C.out _).mono ?_
  rintro e w ⟨rfl, rfl⟩
  go_wp2
  go_ret
  exact ⟨ret_int E.out, 0, _, by rw [alloc_eq_grow, alloc_eq_grow, grow_grow]; rfl⟩
theorem byName_lays (blk off size : Nat) (w : World) : CmpLays Tryz.prog 78 #[] pairV 2 nameC blk off size w :=
  fun _ _ _ _ x y => byName_any x y _

/-- the labels, in order -/
def sortL (ps : List PairB) : List PairB := (Sort.insertionSort nameLt ps.toArray 0 ps.length).toList
/-- labels that lie in a block of the call's own -/
def RowP (w : World) (g : Nat) (ps : List PairB) : Prop := HoldsK pairV 2 w g 0 ps.toArray
theorem toArray_get (ps : List PairB) (j : Nat) (hj : j < ps.length) : ps.toArray[j]! = ps.getD j pnil := by
  rw [getElem!_pos ps.toArray j (by simpa using hj), List.getElem_toArray, List.getD_eq_getElem?_getD, List.getElem?_eq_getElem hj]
  rfl
theorem RowP.pairs {w : World} {g : Nat} {ps : List PairB} (h : RowP w g ps) (hg : g < w.heap.size) : Pairs w (some ⟨g, 0, none⟩) ps.length ps := by
  refine ⟨rfl, fun _ => ⟨g, 0, rfl, hg, fun j hj => ?_⟩⟩
  have h0 := HoldsK.cell h (i := j) (c := 0) (by simpa using hj) (by decide)
  have h1 := HoldsK.cell h (i := j) (c := 1) (by simpa using hj) (by decide)
  rw [toArray_get ps j hj] at h0 h1
  exact ⟨h0.1, h1.1⟩
theorem sort_world {w : World} {g n : Nat} {os : Array Obj} (d : Array PairB) (hg : g < w.heap.size) : w.grownBy (sortWorldK pairV 2 w g 0 n d os) (some g) := by
  unfold sortWorldK
  refine ⟨rfl, rfl, rfl, ?_, fun j hj hjg => ?_⟩
  · show w.heap.size ≤ (Go.Sort.grow (putRowK pairV 2 (Sort.ahead w n) g 0 d) os).heap.size
    rw [size_grow, size_putRowK]
    exact Nat.le_add_right _ _
  · show ((mapBlock (Sort.ahead w n) g (putCells id 0 (flatK pairV 2 d))).heap ++ os)[j]? = w.heap[j]?
    rw [Array.getElem?_append_left (by simp [mapBlock, Sort.ahead]; exact hj)]
    simp only [mapBlock, Sort.ahead, Array.getElem?_modify]
    rw [if_neg (fun h => hjg (by rw [h]))]

set_option maxHeartbeats 800000 in
theorem stable_any (g cap : Nat) (ps : List PairB) (hn : ps.length < 20) (W : World) (hR : RowP W g ps) (hg : g < W.heap.size) :
    Calls Tryz.prog 91 #[.slice (some ⟨g, 0, none⟩) ps.length cap, .int .i64 ps.length, .func (.func 78) #[] #[]] W fun e w' => e = .returned (.tuple #[]) ∧ ∃ k os, w' = sortWorldK pairV 2 W g 0 k (Sort.insertionSort nameLt ps.toArray 0 ps.length) os := by
  have eg : ∀ args w, (callFunc 78 args).run Tryz.prog w = .ok (.enter 78 args) w := enters_of Tryz.func78 (by kernel_rfl) rfl
  have C := AnyQ.insertionSortCmpFunc Tryz.insPair 2 Tryz.isAgg66 Tryz.sizeOf66 pairV (fun _ => rfl) pairV_one nameC 78 #[] g 0 cap 0 ps.length ps.toArray W eg (byName_lays g 0 _ W) hR hg (Nat.zero_le _) (by simp) (by simp; omega)
  change Calls Tryz.prog 105 _ _ _ at C
  rw [List.size_toArray] at C
  replace C := Lib.hid C
  obtain ⟨n, hnn⟩ : ∃ n, ps.length = n := ⟨_, rfl⟩
  obtain ⟨r, hr⟩ : ∃ r, Sort.insertionSort nameLt ps.toArray 0 ps.length = r := ⟨_, rfl⟩
  have hr2 : Sort.insertionSort (ltOf nameC) ps.toArray 0 ps.length = r := hr
  rw [hr]
  replace C := C.out
  rw [hr2] at C
  rw [hnn] at C hn ⊢
  replace C := Lib.hid C
  have hI : ¬ (20 : Int) ≤ (n : Int) := by omega
  have hI2 : ¬ (20 : Int) < (n : Int) := by omega
  clear hr hr2 hnn hR eg
  go_enter Tryz.func91, Tryz.ntmps91
  go_wp2
  go_loopw [7, 8] (fun a b wr => a = .int .i64 0 ∧ b = .int .i64 20 ∧ wr = W) (fun _ _ _ => 0)
  case atStart => exact ⟨rfl, rfl, rfl⟩
  case round =>
    obtain ⟨rfl, rfl, rfl⟩ := hrel
    go_wp2_with fail
    refine C.out.mono ?_
    rintro e w ⟨rfl, hw⟩
    have HW := Lib.hid hw
    clear hw C
    go_wp2
    go_loopw [6] (fun a wr => a = .int .i64 20 ∧ wr = w) (fun _ _ => 0)
    case atStart => exact ⟨rfl, rfl⟩
    case round =>
      obtain ⟨rfl, rfl⟩ := hrel
      go_wp2
      go_end0
      exact ⟨rfl, HW.out⟩
theorem nameLt_swo : SWO nameLt := by
  have e : ∀ x y, nameLt x y = decide (txtC x.1 y.1 < 0) := fun _ _ => rfl
  refine ⟨fun x => ?_, fun x y z h1 h2 => ?_, fun x y z h1 h2 => ?_⟩
  · rw [e, txtC_ord.refl]; rfl
  · rw [e, decide_eq_true_iff] at *
    exact txtC_ord.less h1 (by omega)
  · rw [e, decide_eq_false_iff_not] at *
    have a1 := txtC_ord.anti x.1 y.1
    have a2 := txtC_ord.anti y.1 z.1
    have a3 := txtC_ord.anti x.1 z.1
    have := txtC_ord.trans z.1 y.1 x.1 (by omega) (by omega)
    omega
theorem sorted_size (ps : List PairB) : (Sort.insertionSort nameLt ps.toArray 0 ps.length).size = ps.length := by
  have h := (insertionSort_holds nameLt_swo ps.toArray 0 ps.length (Nat.zero_le _) (by simp)).1.1
  rw [h]; simp
theorem sortL_length (ps : List PairB) : (sortL ps).length = ps.length := by
  unfold sortL
  rw [Array.length_toList, sorted_size]
theorem sortL_perm (ps : List PairB) : (sortL ps).Perm ps := by
  have h := (insertionSort_holds nameLt_swo ps.toArray 0 ps.length (Nat.zero_le _) (by simp)).1.2.2
  have e1 : ((Sort.insertionSort nameLt ps.toArray 0 ps.length).extract 0 ps.length).toList = sortL ps := by
    unfold sortL
    rw [Array.toList_extract]
    simp [List.extract, sorted_size]
    rw [List.take_of_length_le (by rw [Array.length_toList, sorted_size]; exact Nat.le_refl _)]
  rw [e1] at h
  have e2 : (ps.toArray.extract 0 ps.length).toList = ps := by simp
  rw [e2] at h
  exact h
theorem sortL_sorted (ps : List PairB) : ∀ i j, i < j → j < ps.length → txtC ((sortL ps).getD j pnil).1 ((sortL ps).getD i pnil).1 < 0 → False := by
  intro i j hij hj hlt
  have h := (insertionSort_holds nameLt_swo ps.toArray 0 ps.length (Nat.zero_le _) (by simp)).2 i j (Nat.zero_le _) hij hj
  have e : ∀ k, k < ps.length → (Sort.insertionSort nameLt ps.toArray 0 ps.length)[k]! = (sortL ps).getD k pnil := fun k hk => by
    have := toArray_get (sortL ps) k (by rw [sortL_length]; exact hk)
    rw [← this]
    unfold sortL
    rw [Array.toArray_toList]
  rw [e j hj, e i (by omega)] at h
  have h2 : decide (txtC ((sortL ps).getD j pnil).1 ((sortL ps).getD i pnil).1 < 0) = false := h
  rw [decide_eq_false_iff_not] at h2
  exact h2 hlt
set_option maxHeartbeats 800000 in
/-- a slice of labels is put in order: one of the call's own, or none -/
theorem sort_any (g cap : Nat) (ps : List PairB) (hn : ps.length < 20) (W : World) (hR : RowP W g ps) (hg : g < W.heap.size) :
    Calls Tryz.prog 77 #[.slice (some ⟨g, 0, none⟩) ps.length cap, .func (.func 78) #[] #[]] W fun e w' => e = .returned (.tuple #[]) ∧ Pairs w' (some ⟨g, 0, none⟩) (sortL ps).length (sortL ps) ∧ W.grownBy w' (some g) := by
  have C := stable_any g cap ps hn W hR hg
  have hsz := sorted_size ps
  have F : ∀ w', (∃ k os, w' = sortWorldK pairV 2 W g 0 k (Sort.insertionSort nameLt ps.toArray 0 ps.length) os) → Pairs w' (some ⟨g, 0, none⟩) (sortL ps).length (sortL ps) ∧ W.grownBy w' (some g) := by
    rintro w' ⟨k, os, rfl⟩
    refine ⟨RowP.pairs ?_ ?_, sort_world _ hg⟩
    · unfold RowP sortL
      exact holdsK_sortWorldK_c pairV 2 W g 0 ps.toArray _ k os hR hg (by rw [Array.toArray_toList, hsz]; simp)
    · have := size_sortWorldK_c pairV 2 W g 0 k (Sort.insertionSort nameLt ps.toArray 0 ps.length) os
      omega
  have HF := Lib.hid F
  replace C := Lib.hid C
  clear F hsz hR
  go_enter Tryz.func77, Tryz.ntmps77
  go_wp2_with fail
  refine C.out.mono ?_
  rintro e w ⟨rfl, hw⟩
  have HW := Lib.hid (HF.out _ hw)
  clear hw
  go_wp2
  go_end0
  exact ⟨rfl, HW.out⟩
end Go.Proofs.YtdbflmkjcgiodaaGreatDoor
