-- shaken
import Derived.Test.YtdaainifkldcpaaGreatDoorLabRight
import Derived.Sort.LotA
import Derived.Laws.OwnMore
namespace Go.Proofs.YtdaainifkldcpaaGreatDoor
open Go.RowKit Go.Sort
set_option linter.unusedVariables false
set_option linter.unusedSimpArgs false
def nameC (p q : PairB) : Int := txtC p.1 q.1
def nameLt : PairB → PairB → Bool := ltOf nameC
theorem byName_any (p q : PairB) (W : World) :
    Calls Tryz.prog 122 #[.agg #[.string p.1, .string p.2], .agg #[.string q.1, .string q.2]] W fun e w' => e = .returned (.int .i64 (nameC p q)) ∧ ∃ n os, w' = grow (W.drewN n) os := by
  obtain ⟨p1, p2⟩ := p
  obtain ⟨q1, q2⟩ := q
  have C := Lib.hid (fun w => compare_any p1 q1 w)
  have E := Lib.hid (show txtC p1 q1 = nameC (p1, p2) (q1, q2) from rfl)
  obtain ⟨x, hx⟩ : ∃ x, txtC p1 q1 = x := ⟨_, rfl⟩
  rw [hx] at C E
  clear hx
  dsimp only
  go_enter Tryz.func122, Tryz.ntmps122
  go_wp2_with fail
  refine (C.out _).mono ?_
  rintro e w ⟨rfl, rfl⟩
  go_wp2
  go_ret
  exact ⟨ret_int E.out, 0, _, by rw [alloc_eq_grow, alloc_eq_grow, grow_grow]; rfl⟩
theorem byName_lays (blk off size : Nat) (w : World) : CmpLays Tryz.prog 122 #[] pairV 2 nameC blk off size w :=
  fun _ _ _ _ x y => byName_any x y _
def sortL (ps : List PairB) : List PairB := (Sort.insertionSort nameLt ps.toArray 0 ps.length).toList
def RowP (w : World) (g : Nat) (ps : List PairB) : Prop := HoldsK pairV 2 w g 0 ps.toArray
theorem toArray_get (ps : List PairB) (j : Nat) (hj : j < ps.length) : ps.toArray[j]! = ps.getD j pnil := by
  rw [getElem!_pos ps.toArray j (by simpa using hj), List.getElem_toArray, List.getD_eq_getElem?_getD, List.getElem?_eq_getElem hj]
  rfl
theorem RowP.pairs {w : World} {g : Nat} {ps : List PairB} (h : RowP w g ps) (hg : g < w.heap.size) : Pairs w (some ⟨g, 0, none⟩) ps.length ps := by
  refine ⟨rfl, fun _ => ⟨g, 0, rfl, hg, fun j hj => ?_⟩⟩
  have h0 := HoldsK.cell h (i := j) (c := 0) (by simpa using hj) (by decide)
  have h1 := HoldsK.cell h (i := j) (c := 1) (by simpa using hj) (by decide)
  rw [toArray_get ps j hj] at h0 h1
  exact ⟨h0.1, h1.1⟩
theorem sort_world {w : World} {g n : Nat} {os : Array Obj} (d : Array PairB) (hg : g < w.heap.size) : w.grownBy (sortWorldK pairV 2 w g 0 n d os) (some g) := by
  unfold sortWorldK
  refine ⟨rfl, rfl, rfl, ?_, fun j hj hjg => ?_⟩
  · show w.heap.size ≤ (Go.Sort.grow (putRowK pairV 2 (Sort.ahead w n) g 0 d) os).heap.size
    rw [size_grow, size_putRowK]
    exact Nat.le_add_right _ _
  · show ((mapBlock (Sort.ahead w n) g (putCells id 0 (flatK pairV 2 d))).heap ++ os)[j]? = w.heap[j]?
    rw [Array.getElem?_append_left (by simp [mapBlock, Sort.ahead]; exact hj)]
    simp only [mapBlock, Sort.ahead, Array.getElem?_modify]
    rw [if_neg (fun h => hjg (by rw [h]))]
set_option maxHeartbeats 800000 in
theorem stable_any (g cap : Nat) (ps : List PairB) (hn : ps.length < 20) (W : World) (hR : RowP W g ps) (hg : g < W.heap.size) :
    Calls Tryz.prog 145 #[.slice (some ⟨g, 0, none⟩) ps.length cap, .int .i64 ps.length, .func (.func 122) #[] #[]] W fun e w' => e = .returned (.tuple #[]) ∧ ∃ k os, w' = sortWorldK pairV 2 W g 0 k (Sort.insertionSort nameLt ps.toArray 0 ps.length) os := by
  have eg : ∀ args w, (callFunc 122 args).run Tryz.prog w = .ok (.enter 122 args) w := enters_of Tryz.func122 (by kernel_rfl) rfl
  have C := AnyQ.insertionSortCmpFunc Tryz.insPair 2 Tryz.isAgg165 Tryz.sizeOf165 pairV (fun _ => rfl) pairV_one nameC 122 #[] g 0 cap 0 ps.length ps.toArray W eg (byName_lays g 0 _ W) hR hg (Nat.zero_le _) (by simp) (by simp; omega)
  change Calls Tryz.prog 166 _ _ _ at C
  rw [List.size_toArray] at C
  replace C := Lib.hid C
  obtain ⟨n, hnn⟩ : ∃ n, ps.length = n := ⟨_, rfl⟩
  obtain ⟨r, hr⟩ : ∃ r, Sort.insertionSort nameLt ps.toArray 0 ps.length = r := ⟨_, rfl⟩
  have hr2 : Sort.insertionSort (ltOf nameC) ps.toArray 0 ps.length = r := hr
  rw [hr]
  replace C := C.out
  rw [hr2] at C
  rw [hnn] at C hn ⊢
  replace C := Lib.hid C
  have hI : ¬ (20 : Int) ≤ (n : Int) := by omega
  have hI2 : ¬ (20 : Int) < (n : Int) := by omega
  clear hr hr2 hnn hR eg
  go_enter Tryz.func145, Tryz.ntmps145
  go_wp2
  go_loopw [7, 8] (fun a b wr => a = .int .i64 0 ∧ b = .int .i64 20 ∧ wr = W) (fun _ _ _ => 0)
  case atStart => exact ⟨rfl, rfl, rfl⟩
  case round =>
    obtain ⟨rfl, rfl, rfl⟩ := hrel
    go_wp2_with fail
    refine C.out.mono ?_
    rintro e w ⟨rfl, hw⟩
    have HW := Lib.hid hw
    clear hw C
    go_wp2
    go_loopw [6] (fun a wr => a = .int .i64 20 ∧ wr = w) (fun _ _ => 0)
    case atStart => exact ⟨rfl, rfl⟩
    case round =>
      obtain ⟨rfl, rfl⟩ := hrel
      go_wp2
      go_end0
      exact ⟨rfl, HW.out⟩
theorem nameLt_swo : SWO nameLt := by
  have e : ∀ x y, nameLt x y = decide (txtC x.1 y.1 < 0) := fun _ _ => rfl
  refine ⟨fun x => ?_, fun x y z h1 h2 => ?_, fun x y z h1 h2 => ?_⟩
  · rw [e, txtC_ord.refl]; rfl
  · rw [e, decide_eq_true_iff] at *
    exact txtC_ord.less h1 (by omega)
  · rw [e, decide_eq_false_iff_not] at *
    have a1 := txtC_ord.anti x.1 y.1
    have a2 := txtC_ord.anti y.1 z.1
    have a3 := txtC_ord.anti x.1 z.1
    have := txtC_ord.trans z.1 y.1 x.1 (by omega) (by omega)
    omega
theorem sorted_size (ps : List PairB) : (Sort.insertionSort nameLt ps.toArray 0 ps.length).size = ps.length := by
  have h := (insertionSort_holds nameLt_swo ps.toArray 0 ps.length (Nat.zero_le _) (by simp)).1.1
  rw [h]; simp
theorem sortL_length (ps : List PairB) : (sortL ps).length = ps.length := by
  unfold sortL
  rw [Array.length_toList, sorted_size]
theorem sortL_sorted (ps : List PairB) : ∀ i j, i < j → j < ps.length → txtC ((sortL ps).getD j pnil).1 ((sortL ps).getD i pnil).1 < 0 → False := by
  intro i j hij hj hlt
  have h := (insertionSort_holds nameLt_swo ps.toArray 0 ps.length (Nat.zero_le _) (by simp)).2 i j (Nat.zero_le _) hij hj
  have e : ∀ k, k < ps.length → (Sort.insertionSort nameLt ps.toArray 0 ps.length)[k]! = (sortL ps).getD k pnil := fun k hk => by
    have := toArray_get (sortL ps) k (by rw [sortL_length]; exact hk)
    rw [← this]
    unfold sortL
    rw [Array.toArray_toList]
  rw [e j hj, e i (by omega)] at h
  have h2 : decide (txtC ((sortL ps).getD j pnil).1 ((sortL ps).getD i pnil).1 < 0) = false := h
  rw [decide_eq_false_iff_not] at h2
  exact h2 hlt
set_option maxHeartbeats 800000 in
theorem sort_any (g cap : Nat) (ps : List PairB) (hn : ps.length < 20) (W : World) (hR : RowP W g ps) (hg : g < W.heap.size) :
    Calls Tryz.prog 121 #[.slice (some ⟨g, 0, none⟩) ps.length cap, .func (.func 122) #[] #[]] W fun e w' => e = .returned (.tuple #[]) ∧ Pairs w' (some ⟨g, 0, none⟩) (sortL ps).length (sortL ps) ∧ W.grownBy w' (some g) := by
  have C := stable_any g cap ps hn W hR hg
  have hsz := sorted_size ps
  have F : ∀ w', (∃ k os, w' = sortWorldK pairV 2 W g 0 k (Sort.insertionSort nameLt ps.toArray 0 ps.length) os) → Pairs w' (some ⟨g, 0, none⟩) (sortL ps).length (sortL ps) ∧ W.grownBy w' (some g) := by
    rintro w' ⟨k, os, rfl⟩
    refine ⟨RowP.pairs ?_ ?_, sort_world _ hg⟩
    · unfold RowP sortL
      exact holdsK_sortWorldK_c pairV 2 W g 0 ps.toArray _ k os hR hg (by rw [Array.toArray_toList, hsz]; simp)
    · have := size_sortWorldK_c pairV 2 W g 0 k (Sort.insertionSort nameLt ps.toArray 0 ps.length) os
      omega
  have HF := Lib.hid F
  replace C := Lib.hid C
  clear F hsz hR
  go_enter Tryz.func121, Tryz.ntmps121
  go_wp2_with fail
  refine C.out.mono ?_
  rintro e w ⟨rfl, hw⟩
  have HW := Lib.hid (HF.out _ hw)
  clear hw
  go_wp2
  go_end0
  exact ⟨rfl, HW.out⟩
def pVs (l : List PairB) : List Value := l.flatMap pairV
theorem pVs_len (l : List PairB) : (pVs l).length = l.length * 2 := by
  induction l with
  | nil => rfl
  | cons p l ih => simp only [pVs, List.flatMap_cons, List.length_append, List.length_cons] at *; rw [ih]; simp [pairV]; omega
theorem pVs_app (l m : List PairB) : pVs (l ++ m) = pVs l ++ pVs m := by simp [pVs]
theorem pVs_at : ∀ (l : List PairB) (t : Nat), t < l.length * 2 → (pVs l)[t]? = some (pairV (l.getD (t / 2) pnil))[t % 2]!
  | [], t, h => absurd h (by simp)
  | p :: l, 0, h => rfl
  | p :: l, 1, h => rfl
  | p :: l, t + 2, h => by
    have ih := pVs_at l t (by simp at h; omega)
    have e : pVs (p :: l) = .string p.1 :: .string p.2 :: pVs l := rfl
    rw [e, List.getElem?_cons_succ, List.getElem?_cons_succ, ih, show (t + 2) / 2 = t / 2 + 1 by omega, show (t + 2) % 2 = t % 2 by omega, List.getD_cons_succ]
def OwnP (w : World) (B : Nat) (v : Value) (l : List PairB) : Prop := w.ownsRow B 165 2 v l.length (pVs l)
theorem OwnP.nil (w : World) (B : Nat) : OwnP w B (.slice none 0 0) [] := World.ownsRow_nil _ _ _ _
theorem OwnP.alloc {w : World} {B : Nat} {v : Value} {l : List PairB} (h : OwnP w B v l) (o : Obj) : OwnP (w.alloc o) B v l := World.ownsRow.alloc h o
theorem OwnP.snoc {w : World} {B : Nat} {v : Value} {l : List PairB} {p : PairB} (h : w.ownsRow B 165 2 v (l.length + 1) (pVs l ++ pairV p)) : OwnP w B v (l ++ [p]) := by
  unfold OwnP
  rw [List.length_append, pVs_app]
  exact h
theorem OwnP.below {w w' : World} {B : Nat} {v : Value} {l : List PairB} (h : OwnP w B v l) (hb : Below w.heap.size w w') : OwnP w' B v l := by
  refine ⟨h.1, ?_⟩
  rcases h.2 with h0 | ⟨g, cap, cur, hv, hg, hh, r⟩
  · exact .inl h0
  · exact .inr ⟨g, cap, cur, hv, hg, (hb.block g (lt_of_block hh)).trans hh, r⟩
theorem OwnP.mono {w : World} {B B' : Nat} {v : Value} {l : List PairB} (h : OwnP w B v l) (hB : B' ≤ B) : OwnP w B' v l := by
  refine ⟨h.1, ?_⟩
  rcases h.2 with h0 | ⟨g, cap, cur, hv, hg, r⟩
  · exact .inl h0
  · exact .inr ⟨g, cap, cur, hv, Nat.le_trans hB hg, r⟩
theorem OwnP.row {w : World} {B : Nat} {v : Value} {l : List PairB} (h : OwnP w B v l) : (v = .slice none 0 0 ∧ l = []) ∨ ∃ g cap, v = .slice (some ⟨g, 0, none⟩) l.length cap ∧ B ≤ g ∧ g < w.heap.size ∧ l.length ≤ cap ∧ RowP w g l := by
  rcases h.2 with ⟨hv, h0⟩ | ⟨g, cap, cur, rfl, hg, hh, hc, hm, hs, ht⟩
  · exact .inl ⟨hv, List.eq_nil_of_length_eq_zero h0⟩
  · refine .inr ⟨g, cap, rfl, hg, lt_of_block hh, hc, ?_⟩
    intro j hj
    have hj2 : j < l.length * 2 := by simpa using hj
    have hb : Blk w g 165 cur := hh
    rw [Nat.zero_add]
    refine ⟨?_, hb.frozen j⟩
    rw [hb.cell j, get_flatK _ _ _ _ (by simpa using hj2)]
    have e1 : cur[j]? = (pVs l)[j]? := by
      rw [← ht, List.getElem?_take_of_lt hj2]
      simp
    rw [e1, pVs_at l j hj2, toArray_get l (j / 2) (by omega)]
    rfl
theorem OwnP.pairs {w : World} {B : Nat} {v : Value} {l : List PairB} (h : OwnP w B v l) : ∃ A cap, v = .slice A l.length cap ∧ l.length ≤ cap ∧ Pairs w A l.length l := by
  rcases h.row with ⟨rfl, rfl⟩ | ⟨g, cap, rfl, _, hg, hc, hr⟩
  · exact ⟨none, 0, rfl, Nat.le_refl _, pairs_none w⟩
  · exact ⟨_, cap, rfl, hc, hr.pairs hg⟩
theorem infoPair : (Tryz.prog.info? 165).map (fun i => (i.zero, i.size, i.bytes)) = some (some (.agg #[.string ⟨#[]⟩, .string ⟨#[]⟩]), 2, 32) := by kernel_rfl
def namedL (ps : List PairB) : List PairB := ps.filter (fun p => nameB p.1)
def keptAt (ps : List PairB) (i : Nat) : Bool := decide (i + 1 = ps.length) || decide ((ps.getD (i + 1) pnil).1 ≠ (ps.getD i pnil).1)
def keptTo (ps : List PairB) (j : Nat) : List PairB := ((List.range j).filter (keptAt ps)).map (fun i => ps.getD i pnil)
def lastsL (ps : List PairB) : List PairB := keptTo ps ps.length
theorem keptTo_succ (ps : List PairB) (j : Nat) : keptTo ps (j + 1) = if keptAt ps j then keptTo ps j ++ [ps.getD j pnil] else keptTo ps j := by
  unfold keptTo
  rw [List.range_succ, List.filter_append, List.map_append]
  cases h : keptAt ps j <;> simp [h]
theorem keptTo_len (ps : List PairB) (j : Nat) : (keptTo ps j).length ≤ j := by
  unfold keptTo
  rw [List.length_map]
  have := List.length_filter_le (keptAt ps) (List.range j)
  rw [List.length_range] at this
  exact this
def ofL (ps : List PairB) : List PairB := lastsL (sortL (namedL ps))
set_option maxRecDepth 100000 in
set_option maxHeartbeats 1600000 in
theorem lasts_any (A : Option Addr) (n c : Nat) (ps : List PairB) (hn : n ≤ 16777216) (W : World) (h1 : Pairs W A n ps) :
    Calls Tryz.prog 123 #[.slice A n c] W fun e w' => ∃ v, e = .returned v ∧ OwnP w' W.heap.size v (lastsL ps) ∧ Below W.heap.size W w' := by
  obtain ⟨i0, hi, hz0, hz1, hz2⟩ := info_parts infoPair
  have H1 := Lib.hid h1
  have LN := Lib.hid (keptTo_len ps)
  have hl1 := h1.1
  have HL := Lib.hid (show lastsL ps = keptTo ps n by unfold lastsL; rw [hl1])
  clear h1 hl1
  go_enter Tryz.func123, Tryz.ntmps123
  go_wp2
  go_loopw [3, 8] (fun sv iv wr => ∃ j : Nat, j ≤ n ∧ iv = .int .i64 j ∧ OwnP wr W.heap.size sv (keptTo ps j) ∧ Below W.heap.size W wr) (fun _ iv _ => n - (intOf iv).toNat)
  case atStart => exact ⟨0, Nat.zero_le _, rfl, OwnP.nil _ _, Below.refl _ _⟩
  case round =>
    obtain ⟨j, hjn, rfl, hown, hb⟩ := hrel
    have hsz := hb.size
    by_cases hj : j < n
    · obtain ⟨b1, o1, rfl, hlt1, hc1⟩ := (H1.out.below hb).2 (by omega)
      obtain ⟨c1, c2⟩ := hc1 j hj
      have hnx : j + 1 < n → (wr.alloc (.cells #[.string (ps.getD j pnil).1, .string (ps.getD j pnil).2] 165)).cell? ⟨b1, o1 + (j + 1) * 2, none⟩ = some (.string (ps.getD (j + 1) pnil).1) := fun h => (World.cell?_of_block (heap_alloc_old wr _ hlt1)).trans (hc1 (j + 1) h).1
      have hks := keptTo_succ ps j
      have hka : keptAt ps j = (decide (j + 1 = n) || decide ((ps.getD (j + 1) pnil).1 ≠ (ps.getD j pnil).1)) := by unfold keptAt; rw [H1.out.1]
      obtain ⟨p, hp⟩ : ∃ p, ps.getD j pnil = p := ⟨_, rfl⟩
      obtain ⟨q, hq⟩ : ∃ p, (ps.getD (j + 1) pnil).1 = p := ⟨_, rfl⟩
      rw [hp] at c1 c2 hks hka
      rw [hq] at hka
      rw [hp, hq] at hnx
      obtain ⟨p1, p2⟩ := p
      dsimp only at c1 c2 hnx hka
      have hjI : (j : Int) < (n : Int) := by omega
      obtain ⟨L, hL⟩ : ∃ L, keptTo ps j = L := ⟨_, rfl⟩
      have hLl := LN.out j
      rw [hL] at hown hks hLl
      have HKS := Lib.hid hks
      have HNX := Lib.hid hnx
      have HKA := Lib.hid hka
      have B1 := Blk.new wr 165 #[.string p1, .string p2]
      have k1 : (wr.alloc (.cells #[.string p1, .string p2] 165)).cell? ⟨wr.heap.size, 0, none⟩ = some (.string p1) := (B1.cell 0).trans rfl
      have k2 : (wr.alloc (.cells #[.string p1, .string p2] 165)).cell? ⟨wr.heap.size, 1, none⟩ = some (.string p2) := (B1.cell 1).trans rfl
      have hba : Below W.heap.size W (wr.alloc (.cells #[.string p1, .string p2] 165)) := hb.alloc hsz _
      have hoa := hown.alloc (.cells #[.string p1, .string p2] 165)
      have hzw : W.heap.size ≤ (wr.alloc (.cells #[.string p1, .string p2] 165)).heap.size := hba.size
      clear hks hnx hka hp hq hL hc1 B1 hown hb
      have hod := fun q => (show OwnP ((wr.alloc (.cells #[.string p1, .string p2] 165)).drewN q) W.heap.size _ L from hoa)
      have hw1 : IntKind.i64.wrap ((j : Int) + 1) = (j : Int) + 1 := by rw [IntKind.wrap_i64]; omega
      by_cases hl : j + 1 = n
      · have hks := HKS.out
        rw [HKA.out, decide_eq_true hl, Bool.true_or, if_pos rfl] at hks
        have hlI : ((j : Int) + 1 == (n : Int)) = true := by rw [beq_iff_eq]; omega
        have hlD : decide ((j : Int) + 1 = (n : Int)) = true := decide_eq_true (by omega)
        clear hl
        go_wp2
        go_quiet (fail)
        go_wp2_with (at_builtin; refine wpList_append_own _ rfl (.tmp 29) (.tmp 31) 45 rfl W.heap.size 165 i0 (.agg #[.string ⟨#[]⟩, .string ⟨#[]⟩]) 2 32 Tryz.underlying45 hi hz0 hz1 hz2 rfl (by decide) _ _ _ rfl ((hod nq).alloc _) ⟨wr.heap.size + 1, 0, none⟩ 1 1 (pairV (p1, p2)) rfl rfl (new_cells_at _ _ _ _ (by simp)) (pairV_one _) (by unfold maxLen; omega) (by omega) (by simp; omega) ?_)
        intro v' w3 hown' hgrow _
        have hb3 := ((below_drewN hba nq).alloc hzw _).grown hgrow (by simp; omega) (fun r hr => (World.ownsRow.lt hoa r hr).1)
        have hown3 := OwnP.snoc (p := (p1, p2)) hown'
        rw [← hks] at hown3
        clear hown' hgrow
        go_wp2
        go_round
        case rel => exact ⟨j + 1, by omega, by go_num, hown3, hb3⟩
        case measure => simp [intOf]; omega
      · have hlI : ((j : Int) + 1 == (n : Int)) = false := by rw [beq_eq_false_iff_ne]; omega
        have hlD : decide ((j : Int) + 1 = (n : Int)) = false := decide_eq_false (by omega)
        have c3 := HNX.out (by omega)
        have jz : (j : Int) + 1 < (n : Int) := by omega
        have jz0 : (0 : Int) ≤ (j : Int) + 1 := by omega
        by_cases hq : q = p1
        · have hks := HKS.out
          rw [HKA.out, decide_eq_false hl, decide_eq_false (by simpa using hq), Bool.false_or, if_neg (by decide)] at hks
          have g := text_same hq
          have hown3 := hoa
          rw [← hks] at hown3
          clear hl hq
          go_wp2
          go_quiet (fail)
          go_wp2
          go_round
          case rel => exact ⟨j + 1, by omega, by go_num, hown3, below_drewN hba _⟩
          case measure => simp [intOf]; omega
        · have hks := HKS.out
          rw [HKA.out, decide_eq_false hl, decide_eq_true hq, Bool.false_or, if_pos rfl] at hks
          have g := text_other hq
          clear hl hq
          go_wp2
          go_quiet (fail)
          go_wp2_with (at_builtin; refine wpList_append_own _ rfl (.tmp 29) (.tmp 31) 45 rfl W.heap.size 165 i0 (.agg #[.string ⟨#[]⟩, .string ⟨#[]⟩]) 2 32 Tryz.underlying45 hi hz0 hz1 hz2 rfl (by decide) _ _ _ rfl ((hod nq).alloc _) ⟨wr.heap.size + 1, 0, none⟩ 1 1 (pairV (p1, p2)) rfl rfl (new_cells_at _ _ _ _ (by simp)) (pairV_one _) (by unfold maxLen; omega) (by omega) (by simp; omega) ?_)
          intro v' w3 hown' hgrow _
          have hb3 := ((below_drewN hba nq).alloc hzw _).grown hgrow (by simp; omega) (fun r hr => (World.ownsRow.lt hoa r hr).1)
          have hown3 := OwnP.snoc (p := (p1, p2)) hown'
          rw [← hks] at hown3
          clear hown' hgrow
          go_wp2
          go_round
          case rel => exact ⟨j + 1, by omega, by go_num, hown3, hb3⟩
          case measure => simp [intOf]; omega
    · obtain rfl : j = n := by omega
      go_wp2
      go_ret
      exact ⟨_, rfl, by rw [HL.out]; exact hown, hb⟩
theorem insNone_any (W : World) :
    Calls Tryz.prog 166 #[.slice none 0 0, .int .i64 0, .int .i64 0, .func (.func 122) #[] #[]] W fun e w' => e = .returned (.tuple #[]) ∧ w' = W := by
  go_enter Tryz.func166, Tryz.ntmps166
  go_wp2
  go_loopw [8] (fun i wr => i = .int .i64 1 ∧ wr = W) (fun _ _ => 0)
  case atStart => exact ⟨rfl, rfl⟩
  case round =>
    obtain ⟨rfl, rfl⟩ := hrel
    go_wp2
    go_end0
    exact ⟨rfl, rfl⟩
set_option maxHeartbeats 800000 in
theorem sortNone_any (W : World) :
    Calls Tryz.prog 121 #[.slice none 0 0, .func (.func 122) #[] #[]] W fun e w' => e = .returned (.tuple #[]) ∧ w' = W := by
  have C : Calls Tryz.prog 145 #[.slice none 0 0, .int .i64 0, .func (.func 122) #[] #[]] W fun e w' => e = .returned (.tuple #[]) ∧ w' = W := by
    have C := Lib.hid (insNone_any W)
    go_enter Tryz.func145, Tryz.ntmps145
    go_wp2
    go_loopw [7, 8] (fun a b wr => a = .int .i64 0 ∧ b = .int .i64 20 ∧ wr = W) (fun _ _ _ => 0)
    case atStart => exact ⟨rfl, rfl, rfl⟩
    case round =>
      obtain ⟨rfl, rfl, rfl⟩ := hrel
      go_wp2_with fail
      refine C.out.mono ?_
      rintro e w ⟨rfl, rfl⟩
      go_wp2
      go_loopw [6] (fun a wr => a = .int .i64 20 ∧ wr = w) (fun _ _ => 0)
      case atStart => exact ⟨rfl, rfl⟩
      case round =>
        obtain ⟨rfl, rfl⟩ := hrel
        go_wp2
        go_end0
        exact ⟨rfl, rfl⟩
  replace C := Lib.hid C
  go_enter Tryz.func121, Tryz.ntmps121
  go_wp2_with fail
  refine C.out.mono ?_
  rintro e w ⟨rfl, rfl⟩
  go_wp2
  go_end0
  exact ⟨rfl, rfl⟩
theorem sortAny_any (B : Nat) (v : Value) (l : List PairB) (hn : l.length < 20) (W : World) (h : OwnP W B v l) (hB : B ≤ W.heap.size) :
    ∃ A cap, v = .slice A l.length cap ∧ Calls Tryz.prog 121 #[.slice A l.length cap, .func (.func 122) #[] #[]] W fun e w' => e = .returned (.tuple #[]) ∧ Pairs w' A l.length (sortL l) ∧ Below B W w' := by
  rcases h.row with ⟨rfl, rfl⟩ | ⟨g, cap, rfl, hBg, hg, hc, hr⟩
  · refine ⟨none, 0, rfl, (sortNone_any W).mono ?_⟩
    rintro e w' ⟨rfl, rfl⟩
    have e0 : sortL [] = [] := List.eq_nil_of_length_eq_zero (sortL_length [])
    exact ⟨rfl, by rw [e0]; exact pairs_none _, Below.refl _ _⟩
  · refine ⟨_, cap, rfl, (sort_any g cap l hn W hr hg).mono ?_⟩
    rintro e w' ⟨rfl, hp, hgr⟩
    rw [sortL_length] at hp
    exact ⟨rfl, hp, (Below.refl B W).grown hgr hB (fun r hr => by cases hr; exact hBg)⟩
theorem namedL_take (ps : List PairB) (j : Nat) (hj : j < ps.length) : namedL (ps.take (j + 1)) = if nameB (ps.getD j pnil).1 then namedL (ps.take j) ++ [ps.getD j pnil] else namedL (ps.take j) := by
  have e : ps.take (j + 1) = ps.take j ++ [ps.getD j pnil] := by
    rw [List.take_succ_eq_append_getElem hj, List.getD_eq_getElem?_getD, List.getElem?_eq_getElem hj]
    rfl
  rw [e]
  obtain ⟨p, hp⟩ : ∃ p, ps.getD j pnil = p := ⟨_, rfl⟩
  rw [hp]
  unfold namedL
  rw [List.filter_append]
  cases h : nameB p.1 with
  | true => rw [if_pos rfl, List.filter_cons_of_pos (by rw [h]), List.filter_nil]
  | false => rw [if_neg (by decide), List.filter_cons_of_neg (by rw [h]; decide), List.filter_nil, List.append_nil]
theorem namedL_len (ps : List PairB) (j : Nat) : (namedL (ps.take j)).length ≤ j := by
  have h := List.length_filter_le (fun p : PairB => nameB p.1) (ps.take j)
  unfold namedL
  rw [List.length_take] at h
  omega
set_option maxRecDepth 100000 in
set_option maxHeartbeats 1600000 in
theorem of_labels (A : Option Addr) (n c : Nat) (ps : List PairB) (hn : n ≤ 16777216) (h20 : (namedL ps).length < 20) (W : World) (h1 : Pairs W A n ps) :
    Calls Tryz.prog 89 #[.slice A n c] W fun e w' => ∃ v, e = .returned v ∧ OwnP w' W.heap.size v (ofL ps) ∧ Below W.heap.size W w' := by
  have h0 : W.heap.size ≤ W.heap.size := Nat.le_refl _
  obtain ⟨i0, hi, hz0, hz1, hz2⟩ := info_parts infoPair
  have H1 := Lib.hid h1
  have LN := Lib.hid (namedL_len ps)
  have NT := Lib.hid (fun j (hj : j < n) => namedL_take ps j (by rw [h1.1]; exact hj))
  have hfull : ps.take n = ps := List.take_of_length_le (by rw [h1.1]; exact Nat.le_refl _)
  have HF := Lib.hid hfull
  have H20 := Lib.hid h20
  obtain ⟨z, hz⟩ : ∃ z, ofL ps = z := ⟨_, rfl⟩
  rw [hz]
  have HO := Lib.hid (show lastsL (sortL (namedL ps)) = z from hz)
  clear h1 hfull h20 hz
  go_enter Tryz.func89, Tryz.ntmps89
  go_wp2
  go_loopw [3, 8] (fun sv iv wr => ∃ j : Nat, j ≤ n ∧ iv = .int .i64 j ∧ OwnP wr W.heap.size sv (namedL (ps.take j)) ∧ Below W.heap.size W wr) (fun _ iv _ => n - (intOf iv).toNat)
  case atStart => exact ⟨0, Nat.zero_le _, rfl, OwnP.nil _ _, Below.refl _ _⟩
  case round =>
    obtain ⟨j, hjn, rfl, hown, hb⟩ := hrel
    have hsz := hb.size
    by_cases hj : j < n
    · obtain ⟨b1, o1, rfl, hlt1, hc1⟩ := (H1.out.below hb).2 (by omega)
      obtain ⟨c1, c2⟩ := hc1 j hj
      have hks := NT.out j hj
      obtain ⟨p, hp⟩ : ∃ p, ps.getD j pnil = p := ⟨_, rfl⟩
      rw [hp] at c1 c2 hks
      obtain ⟨p1, p2⟩ := p
      dsimp only at c1 c2 hks
      have hjI : (j : Int) < (n : Int) := by omega
      obtain ⟨L, hL⟩ : ∃ L, namedL (ps.take j) = L := ⟨_, rfl⟩
      have hLl := LN.out j
      rw [hL] at hown hks hLl
      have NM := fun w => name_any p1 w
      obtain ⟨nb, hnb⟩ : ∃ b, nameB p1 = b := ⟨_, rfl⟩
      rw [hnb] at hks
      simp only [hnb] at NM
      replace NM := Lib.hid NM
      have HKS := Lib.hid hks
      have B1 := Blk.new wr 165 #[.string p1, .string p2]
      have hba : Below W.heap.size W (wr.alloc (.cells #[.string p1, .string p2] 165)) := hb.alloc hsz _
      have hoa := hown.alloc (.cells #[.string p1, .string p2] 165)
      have hz0' : wr.heap.size < (wr.alloc (.cells #[.string p1, .string p2] 165)).heap.size := by simp
      clear hks hp hL hc1 hown hb hnb
      go_wp2_with fail
      refine (NM.out _).mono ?_
      rintro e w2 ⟨rfl, hx⟩
      have k1 : w2.cell? ⟨wr.heap.size, 0, none⟩ = some (.string p1) := (hx.cell (p := ⟨wr.heap.size, 0, none⟩) hz0').trans ((B1.cell 0).trans rfl)
      have k2 : w2.cell? ⟨wr.heap.size, 1, none⟩ = some (.string p2) := (hx.cell (p := ⟨wr.heap.size, 1, none⟩) hz0').trans ((B1.cell 1).trans rfl)
      have hb2 := hop hba h0 hx
      have ho2 := hoa.below hx
      have hs2 := hb2.size
      have hks := HKS.out
      clear hx B1 hba hoa hz0' c1 c2
      cases nb with
      | true =>
        rw [if_pos rfl] at hks
        have HK2 := Lib.hid hks
        clear hks
        go_wp2_with (at_builtin; refine wpList_append_own _ rfl (.tmp 15) (.tmp 17) 45 rfl W.heap.size 165 i0 (.agg #[.string ⟨#[]⟩, .string ⟨#[]⟩]) 2 32 Tryz.underlying45 hi hz0 hz1 hz2 rfl (by decide) _ _ _ rfl (ho2.alloc _) ⟨w2.heap.size, 0, none⟩ 1 1 (pairV (p1, p2)) rfl rfl (new_cells_at _ _ _ _ (by simp)) (pairV_one _) (by unfold maxLen; omega) (by omega) (by simp; omega) ?_)
        intro v' w3 hown' hgrow _
        have hb3 := (hb2.alloc hs2 _).grown hgrow (by simp; omega) (fun r hr => (World.ownsRow.lt ho2 r hr).1)
        have hown3 := OwnP.snoc (p := (p1, p2)) hown'
        rw [← HK2.out] at hown3
        clear hown' hgrow
        go_wp2
        go_round
        case rel => exact ⟨j + 1, by omega, by go_num, hown3, hb3⟩
        case measure => simp [intOf]; omega
      | false =>
        rw [if_neg (by decide)] at hks
        have hown3 := ho2
        rw [← hks] at hown3
        clear hks
        go_wp2
        go_round
        case rel => exact ⟨j + 1, by omega, by go_num, hown3, hb2⟩
        case measure => simp [intOf]; omega
    · obtain rfl : j = n := by omega
      rw [HF.out] at hown
      obtain ⟨A2, cap, rfl, hS⟩ := sortAny_any _ _ _ H20.out _ hown hsz
      have HS := Lib.hid hS
      have LS := fun w hp => lasts_any A2 (namedL ps).length cap (sortL (namedL ps)) (by have := H20.out; omega) w hp
      replace LS := Lib.hid LS
      obtain ⟨m, hm⟩ : ∃ m, (namedL ps).length = m := ⟨_, rfl⟩
      obtain ⟨r, hr⟩ : ∃ r, sortL (namedL ps) = r := ⟨_, rfl⟩
      replace HS := HS.out
      replace LS := LS.out
      replace HO := HO.out
      simp only [hr] at HO
      simp only [hm, hr] at HS LS
      replace HS := Lib.hid HS
      replace LS := Lib.hid LS
      replace HO := Lib.hid HO
      rw [hm] at hown ⊢
      clear hS hm hr
      go_wp2_with fail
      refine HS.out.mono ?_
      rintro e w2 ⟨rfl, hp, hx⟩
      have hb2 := hb.trans hx
      have hLL := Lib.hid (LS.out w2 hp)
      clear hp hx
      go_wp2_with fail
      refine hLL.out.mono ?_
      rintro e w3 ⟨v, rfl, ho3, hx⟩
      have hb3 := hop hb2 h0 hx
      have ho4 := ho3.mono hb2.size
      rw [HO.out] at ho4
      clear ho3 hx
      go_wp2
      go_ret
      exact ⟨_, rfl, ho4, hb3⟩
end Go.Proofs.YtdaainifkldcpaaGreatDoor
