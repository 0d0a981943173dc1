/- Sets of labels: those that have a name, in order, of one name the last. -/
import Derived.Test.YtimfabnjopkhdaaLabSort
import Derived.Laws.OwnMore
namespace Go.Proofs.Ytimfabnjopkhdaa
open Go.RowKit Go.Sort
set_option linter.unusedVariables false

def pVs (l : List PairB) : List Value := l.flatMap pairV
theorem pVs_len (l : List PairB) : (pVs l).length = l.length * 2 := by
  induction l with
  | nil => rfl
  | cons p l ih => simp only [pVs, List.flatMap_cons, List.length_append, List.length_cons] at *; rw [ih]; simp [pairV]; omega
theorem pVs_app (l m : List PairB) : pVs (l ++ m) = pVs l ++ pVs m := by simp [pVs]
theorem pVs_at : ∀ (l : List PairB) (t : Nat), t < l.length * 2 → (pVs l)[t]? = some (pairV (l.getD (t / 2) pnil))[t % 2]!
  | [], t, h => absurd h (by simp)
  | p :: l, 0, h => rfl
  | p :: l, 1, h => rfl
  | p :: l, t + 2, h => by
    have ih := pVs_at l t (by simp at h; omega)
    have e : pVs (p :: l) = .string p.1 :: .string p.2 :: pVs l := rfl
    rw [e, List.getElem?_cons_succ, List.getElem?_cons_succ, ih, show (t + 2) / 2 = t / 2 + 1 by omega, show (t + 2) % 2 = t % 2 by omega, List.getD_cons_succ]
/-- v is a slice of labels that the call owns -/
def OwnP (w : World) (B : Nat) (v : Value) (l : List PairB) : Prop := w.ownsRow B 29 2 v l.length (pVs l)
theorem OwnP.nil (w : World) (B : Nat) : OwnP w B (.slice none 0 0) [] := World.ownsRow_nil _ _ _ _
theorem OwnP.alloc {w : World} {B : Nat} {v : Value} {l : List PairB} (h : OwnP w B v l) (o : Obj) : OwnP (w.alloc o) B v l := World.ownsRow.alloc h o
theorem OwnP.snoc {w : World} {B : Nat} {v : Value} {l : List PairB} {p : PairB} (h : w.ownsRow B 29 2 v (l.length + 1) (pVs l ++ pairV p)) : OwnP w B v (l ++ [p]) := by
  unfold OwnP
  rw [List.length_append, pVs_app]
  exact h
theorem OwnP.below {w w' : World} {B : Nat} {v : Value} {l : List PairB} (h : OwnP w B v l) (hb : Below w.heap.size w w') : OwnP w' B v l := by
  refine ⟨h.1, ?_⟩
  rcases h.2 with h0 | ⟨g, cap, cur, hv, hg, hh, r⟩
  · exact .inl h0
  · exact .inr ⟨g, cap, cur, hv, hg, (hb.block g (lt_of_block hh)).trans hh, r⟩
theorem OwnP.mono {w : World} {B B' : Nat} {v : Value} {l : List PairB} (h : OwnP w B v l) (hB : B' ≤ B) : OwnP w B' v l := by
  refine ⟨h.1, ?_⟩
  rcases h.2 with h0 | ⟨g, cap, cur, hv, hg, r⟩
  · exact .inl h0
  · exact .inr ⟨g, cap, cur, hv, Nat.le_trans hB hg, r⟩
theorem OwnP.row {w : World} {B : Nat} {v : Value} {l : List PairB} (h : OwnP w B v l) : (v = .slice none 0 0 ∧ l = []) ∨ ∃ g cap, v = .slice (some ⟨g, 0, none⟩) l.length cap ∧ B ≤ g ∧ g < w.heap.size ∧ l.length ≤ cap ∧ RowP w g l := by
  rcases h.2 with ⟨hv, h0⟩ | ⟨g, cap, cur, rfl, hg, hh, hc, hm, hs, ht⟩
  · exact .inl ⟨hv, List.eq_nil_of_length_eq_zero h0⟩
  · refine .inr ⟨g, cap, rfl, hg, lt_of_block hh, hc, ?_⟩
    intro j hj
    have hj2 : j < l.length * 2 := by simpa using hj
    have hb : Blk w g 29 cur := hh
    rw [Nat.zero_add]
    refine ⟨?_, hb.frozen j⟩
    rw [hb.cell j, get_flatK _ _ _ _ (by simpa using hj2)]
    have e1 : cur[j]? = (pVs l)[j]? := by
      rw [← ht, List.getElem?_take_of_lt hj2]
      simp
    rw [e1, pVs_at l j hj2, toArray_get l (j / 2) (by omega)]
    rfl
theorem OwnP.pairs {w : World} {B : Nat} {v : Value} {l : List PairB} (h : OwnP w B v l) : ∃ A cap, v = .slice A l.length cap ∧ l.length ≤ cap ∧ Pairs w A l.length l := by
  rcases h.row with ⟨rfl, rfl⟩ | ⟨g, cap, rfl, _, hg, hc, hr⟩
  · exact ⟨none, 0, rfl, Nat.le_refl _, pairs_none w⟩
  · exact ⟨_, cap, rfl, hc, hr.pairs hg⟩
theorem infoPair : (Try.prog.info? 29).map (fun i => (i.zero, i.size, i.bytes)) = some (some (.agg #[.string ⟨#[]⟩, .string ⟨#[]⟩]), 2, 32) := by kernel_rfl

def namedL (ps : List PairB) : List PairB := ps.filter (fun p => nameB p.1)
/-- is the i-th the last of its name? -/
def keptAt (ps : List PairB) (i : Nat) : Bool := decide (i + 1 = ps.length) || decide ((ps.getD (i + 1) pnil).1 ≠ (ps.getD i pnil).1)
def keptTo (ps : List PairB) (j : Nat) : List PairB := ((List.range j).filter (keptAt ps)).map (fun i => ps.getD i pnil)
def lastsL (ps : List PairB) : List PairB := keptTo ps ps.length
theorem keptTo_succ (ps : List PairB) (j : Nat) : keptTo ps (j + 1) = if keptAt ps j then keptTo ps j ++ [ps.getD j pnil] else keptTo ps j := by
  unfold keptTo
  rw [List.range_succ, List.filter_append, List.map_append]
  cases h : keptAt ps j <;> simp [h]
theorem keptTo_len (ps : List PairB) (j : Nat) : (keptTo ps j).length ≤ j := by
  unfold keptTo
  rw [List.length_map]
  have := List.length_filter_le (keptAt ps) (List.range j)
  rw [List.length_range] at this
  exact this
/-- what a set is made of labels -/
def ofL (ps : List PairB) : List PairB := lastsL (sortL (namedL ps))

set_option maxRecDepth 100000 in
set_option maxHeartbeats 1600000 in
theorem lasts_any (A : Option Addr) (n c : Nat) (ps : List PairB) (hn : n ≤ 16777216) (W : World) (h1 : Pairs W A n ps) :
    Calls Try.prog 35 #[.slice A n c] W fun e w' => ∃ v, e = .returned v ∧ OwnP w' W.heap.size v (lastsL ps) ∧ Below W.heap.size W w' := by
  obtain ⟨i0, hi, hz0, hz1, hz2⟩ := info_parts infoPair
  have H1 := Lib.hid h1
  have LN := Lib.hid (keptTo_len ps)
  have hl1 := h1.1
  have HL := Lib.hid (show lastsL ps = keptTo ps n by unfold lastsL; rw [hl1])
  clear h1 hl1
  go_enter Try.func35, Try.ntmps35
  go_wp2
  go_loopw [3, 8] (fun sv iv wr => ∃ j : Nat, j ≤ n ∧ iv = .int .i64 j ∧ OwnP wr W.heap.size sv (keptTo ps j) ∧ Below W.heap.size W wr) (fun _ iv _ => n - (intOf iv).toNat)
  case atStart => exact ⟨0, Nat.zero_le _, rfl, OwnP.nil _ _, Below.refl _ _⟩
  case round =>
    obtain ⟨j, hjn, rfl, hown, hb⟩ := hrel
    have hsz := hb.size
    by_cases hj : j < n
    · obtain ⟨b1, o1, rfl, hlt1, hc1⟩ := (H1.out.below hb).2 (by omega)
      obtain ⟨c1, c2⟩ := hc1 j hj
      have hnx : j + 1 < n → (wr.alloc (.cells #[.string (ps.getD j pnil).1, .string (ps.getD j pnil).2] 29)).cell? ⟨b1, o1 + (j + 1) * 2, none⟩ = some (.string (ps.getD (j + 1) pnil).1) := fun h => (World.cell?_of_block (heap_alloc_old wr _ hlt1)).trans (hc1 (j + 1) h).1
      have hks := keptTo_succ ps j
      have hka : keptAt ps j = (decide (j + 1 = n) || decide ((ps.getD (j + 1) pnil).1 ≠ (ps.getD j pnil).1)) := by unfold keptAt; rw [H1.out.1]
      obtain ⟨p, hp⟩ : ∃ p, ps.getD j pnil = p := ⟨_, rfl⟩
      obtain ⟨q, hq⟩ : ∃ p, (ps.getD (j + 1) pnil).1 = p := ⟨_, rfl⟩
      rw [hp] at c1 c2 hks hka
      rw [hq] at hka
      rw [hp, hq] at hnx
      obtain ⟨p1, p2⟩ := p
      dsimp only at c1 c2 hnx hka
      have hjI : (j : Int) < (n : Int) := by omega
      obtain ⟨L, hL⟩ : ∃ L, keptTo ps j = L := ⟨_, rfl⟩
      have hLl := LN.out j
      rw [hL] at hown hks hLl
      have HKS := Lib.hid hks
      have HNX := Lib.hid hnx
      have HKA := Lib.hid hka
      have B1 := Blk.new wr 29 #[.string p1, .string p2]
      have k1 : (wr.alloc (.cells #[.string p1, .string p2] 29)).cell? ⟨wr.heap.size, 0, none⟩ = some (.string p1) := (B1.cell 0).trans rfl
      have k2 : (wr.alloc (.cells #[.string p1, .string p2] 29)).cell? ⟨wr.heap.size, 1, none⟩ = some (.string p2) := (B1.cell 1).trans rfl
      have hba : Below W.heap.size W (wr.alloc (.cells #[.string p1, .string p2] 29)) := hb.alloc hsz _
      have hoa := hown.alloc (.cells #[.string p1, .string p2] 29)
      have hzw : W.heap.size ≤ (wr.alloc (.cells #[.string p1, .string p2] 29)).heap.size := hba.size
      clear hks hnx hka hp hq hL hc1 B1 hown hb
      have hod := fun q => (show OwnP ((wr.alloc (.cells #[.string p1, .string p2] 29)).drewN q) W.heap.size _ L from hoa)
      have hw1 : IntKind.i64.wrap ((j : Int) + 1) = (j : Int) + 1 := by rw [IntKind.wrap_i64]; omega
      by_cases hl : j + 1 = n
      · have hks := HKS.out
        rw [HKA.out, decide_eq_true hl, Bool.true_or, if_pos rfl] at hks
        have hlI : ((j : Int) + 1 == (n : Int)) = true := by rw [beq_iff_eq]; omega
        have hlD : decide ((j : Int) + 1 = (n : Int)) = true := decide_eq_true (by omega)
        clear hl
        go_wp2
        go_quiet (fail)
        go_wp2_with (at_builtin; refine wpList_append_own _ rfl (.tmp 29) (.tmp 31) 31 rfl W.heap.size 29 i0 (.agg #[.string ⟨#[]⟩, .string ⟨#[]⟩]) 2 32 Try.underlying31 hi hz0 hz1 hz2 rfl (by decide) _ _ _ rfl ((hod nq).alloc _) ⟨wr.heap.size + 1, 0, none⟩ 1 1 (pairV (p1, p2)) rfl rfl (new_cells_at _ _ _ _ (by simp)) (pairV_one _) (by unfold maxLen; omega) (by omega) (by simp; omega) ?_)
        intro v' w3 hown' hgrow _
        have hb3 := ((below_drewN hba nq).alloc hzw _).grown hgrow (by simp; omega) (fun r hr => (World.ownsRow.lt hoa r hr).1)
        have hown3 := OwnP.snoc (p := (p1, p2)) hown'
        rw [← hks] at hown3
        clear hown' hgrow
        go_wp2
        go_round
        case rel => exact ⟨j + 1, by omega, by go_num, hown3, hb3⟩
        case measure => simp [intOf]; omega
      · have hlI : ((j : Int) + 1 == (n : Int)) = false := by rw [beq_eq_false_iff_ne]; omega
        have hlD : decide ((j : Int) + 1 = (n : Int)) = false := decide_eq_false (by omega)
        have c3 := HNX.out (by omega)
        have jz : (j : Int) + 1 < (n : Int) := by omega
        have jz0 : (0 : Int) ≤ (j : Int) + 1 := by omega
        by_cases hq : q = p1
        · have hks := HKS.out
          rw [HKA.out, decide_eq_false hl, decide_eq_false (by simpa using hq), Bool.false_or, if_neg (by decide)] at hks
          have g := text_same hq
          have hown3 := hoa
          rw [← hks] at hown3
          clear hl hq
          go_wp2
          go_quiet (fail)
          go_wp2
          go_round
          case rel => exact ⟨j + 1, by omega, by go_num, hown3, below_drewN hba _⟩
          case measure => simp [intOf]; omega
        · have hks := HKS.out
          rw [HKA.out, decide_eq_false hl, decide_eq_true hq, Bool.false_or, if_pos rfl] at hks
          have g := text_other hq
          clear hl hq
          go_wp2
          go_quiet (fail)
          go_wp2_with (at_builtin; refine wpList_append_own _ rfl (.tmp 29) (.tmp 31) 31 rfl W.heap.size 29 i0 (.agg #[.string ⟨#[]⟩, .string ⟨#[]⟩]) 2 32 Try.underlying31 hi hz0 hz1 hz2 rfl (by decide) _ _ _ rfl ((hod nq).alloc _) ⟨wr.heap.size + 1, 0, none⟩ 1 1 (pairV (p1, p2)) rfl rfl (new_cells_at _ _ _ _ (by simp)) (pairV_one _) (by unfold maxLen; omega) (by omega) (by simp; omega) ?_)
          intro v' w3 hown' hgrow _
          have hb3 := ((below_drewN hba nq).alloc hzw _).grown hgrow (by simp; omega) (fun r hr => (World.ownsRow.lt hoa r hr).1)
          have hown3 := OwnP.snoc (p := (p1, p2)) hown'
          rw [← hks] at hown3
          clear hown' hgrow
          go_wp2
          go_round
          case rel => exact ⟨j + 1, by omega, by go_num, hown3, hb3⟩
          case measure => simp [intOf]; omega
    · obtain rfl : j = n := by omega
      go_wp2
      go_ret
      exact ⟨_, rfl, by rw [HL.out]; exact hown, hb⟩
end Go.Proofs.Ytimfabnjopkhdaa
