-- shaken
import Derived.Test.YtbkpoimaienhpaaGreatDoorNfaStep
import Derived.Test.YtbkpoimaienhpaaGreatDoorNfaPure
import Derived.Test.YtbkpoimaienhpaaGreatDoorNfaSlim
namespace Go.Proofs.YtbkpoimaienhpaaGreatDoor
open Go.RowKit
set_option linter.unusedVariables false
set_option linter.unusedSimpArgs false
theorem addTake_any (base b : Nat) (v y1 y2 y3 : Value) (Q : List St) (S n : Nat) (w : World) (hP : PG base w b v y1 y2 y3 Q) (hq : Q.length ≤ 1000000) (hB : base ≤ w.heap.size) :
    Calls Tryz.prog 61 #[.pointer (some ⟨b, 0, none⟩), .slice (some ⟨w.heap.size, 0, none⟩) 1 1] (w.alloc (.cells #[.int .i64 1, .int .u64 (word S 0 : Nat), .int .u64 (word S 1 : Nat), .int .u64 (word S 2 : Nat), .int .u64 (word S 3 : Nat), .int .i64 (n : Nat), .int .i64 0] 131)) fun e w' => ∃ v', e = .returned (.int .i64 (Q.length : Nat)) ∧ PG base w' b v' y1 y2 y3 (Q ++ [takeS S n]) ∧ KG (fun k => k = b) w v w' v' := by
  have hb := (Below.refl w.heap.size w).alloc (Nat.le_refl _) (.cells #[.int .i64 1, .int .u64 (word S 0 : Nat), .int .u64 (word S 1 : Nat), .int .u64 (word S 2 : Nat), .int .u64 (word S 3 : Nat), .int .i64 (n : Nat), .int .i64 0] 131)
  have e0 : stV (takeS S n) = [.int .i64 1, .int .u64 (word S 0 : Nat), .int .u64 (word S 1 : Nat), .int .u64 (word S 2 : Nat), .int .u64 (word S 3 : Nat), .int .i64 (n : Nat), .int .i64 0] := by simp [stV, takeS, word]
  refine (nfaAdd_any base b v y1 y2 y3 Q (takeS S n) ⟨w.heap.size, 0, none⟩ 1 _ (hP.below hb) (by rw [e0]; exact new_cells w 131 [.int .i64 1, .int .u64 (word S 0 : Nat), .int .u64 (word S 1 : Nat), .int .u64 (word S 2 : Nat), .int .u64 (word S 3 : Nat), .int .i64 (n : Nat), .int .i64 0]) hq (by rw [World.size_alloc]; omega)).mono ?_
  rintro e w' ⟨v', h1, h2, h3⟩
  exact ⟨v', h1, h2, (KG.of_below hb).trans h3⟩
theorem addFork_any (base b : Nat) (v y1 y2 y3 : Value) (Q : List St) (n o : Nat) (w : World) (hP : PG base w b v y1 y2 y3 Q) (hq : Q.length ≤ 1000000) (hB : base ≤ w.heap.size) :
    Calls Tryz.prog 61 #[.pointer (some ⟨b, 0, none⟩), .slice (some ⟨w.heap.size, 0, none⟩) 1 1] (w.alloc (.cells #[.int .i64 2, .int .u64 0, .int .u64 0, .int .u64 0, .int .u64 0, .int .i64 (n : Nat), .int .i64 (o : Nat)] 131)) fun e w' => ∃ v', e = .returned (.int .i64 (Q.length : Nat)) ∧ PG base w' b v' y1 y2 y3 (Q ++ [forkS n o]) ∧ KG (fun k => k = b) w v w' v' := by
  have hb := (Below.refl w.heap.size w).alloc (Nat.le_refl _) (.cells #[.int .i64 2, .int .u64 0, .int .u64 0, .int .u64 0, .int .u64 0, .int .i64 (n : Nat), .int .i64 (o : Nat)] 131)
  have e0 : stV (forkS n o) = [.int .i64 2, .int .u64 0, .int .u64 0, .int .u64 0, .int .u64 0, .int .i64 (n : Nat), .int .i64 (o : Nat)] := by simp [stV, forkS, word]
  refine (nfaAdd_any base b v y1 y2 y3 Q (forkS n o) ⟨w.heap.size, 0, none⟩ 1 _ (hP.below hb) (by rw [e0]; exact new_cells w 131 [.int .i64 2, .int .u64 0, .int .u64 0, .int .u64 0, .int .u64 0, .int .i64 (n : Nat), .int .i64 (o : Nat)]) hq (by rw [World.size_alloc]; omega)).mono ?_
  rintro e w' ⟨v', h1, h2, h3⟩
  exact ⟨v', h1, h2, (KG.of_below hb).trans h3⟩
theorem addFork0_any (base b : Nat) (v y1 y2 y3 : Value) (Q : List St) (o : Nat) (w : World) (hP : PG base w b v y1 y2 y3 Q) (hq : Q.length ≤ 1000000) (hB : base ≤ w.heap.size) :
    Calls Tryz.prog 61 #[.pointer (some ⟨b, 0, none⟩), .slice (some ⟨w.heap.size, 0, none⟩) 1 1] (w.alloc (.cells #[.int .i64 2, .int .u64 0, .int .u64 0, .int .u64 0, .int .u64 0, .int .i64 0, .int .i64 (o : Nat)] 131)) fun e w' => ∃ v', e = .returned (.int .i64 (Q.length : Nat)) ∧ PG base w' b v' y1 y2 y3 (Q ++ [forkS 0 o]) ∧ KG (fun k => k = b) w v w' v' := by
  have hb := (Below.refl w.heap.size w).alloc (Nat.le_refl _) (.cells #[.int .i64 2, .int .u64 0, .int .u64 0, .int .u64 0, .int .u64 0, .int .i64 0, .int .i64 (o : Nat)] 131)
  have e0 : stV (forkS 0 o) = [.int .i64 2, .int .u64 0, .int .u64 0, .int .u64 0, .int .u64 0, .int .i64 0, .int .i64 (o : Nat)] := by simp [stV, forkS, word]
  refine (nfaAdd_any base b v y1 y2 y3 Q (forkS 0 o) ⟨w.heap.size, 0, none⟩ 1 _ (hP.below hb) (by rw [e0]; exact new_cells w 131 [.int .i64 2, .int .u64 0, .int .u64 0, .int .u64 0, .int .u64 0, .int .i64 0, .int .i64 (o : Nat)]) hq (by rw [World.size_alloc]; omega)).mono ?_
  rintro e w' ⟨v', h1, h2, h3⟩
  exact ⟨v', h1, h2, (KG.of_below hb).trans h3⟩
theorem addBeg_any (base b : Nat) (v y1 y2 y3 : Value) (Q : List St) (n : Nat) (w : World) (hP : PG base w b v y1 y2 y3 Q) (hq : Q.length ≤ 1000000) (hB : base ≤ w.heap.size) :
    Calls Tryz.prog 61 #[.pointer (some ⟨b, 0, none⟩), .slice (some ⟨w.heap.size, 0, none⟩) 1 1] (w.alloc (.cells #[.int .i64 3, .int .u64 0, .int .u64 0, .int .u64 0, .int .u64 0, .int .i64 (n : Nat), .int .i64 0] 131)) fun e w' => ∃ v', e = .returned (.int .i64 (Q.length : Nat)) ∧ PG base w' b v' y1 y2 y3 (Q ++ [begS n]) ∧ KG (fun k => k = b) w v w' v' := by
  have hb := (Below.refl w.heap.size w).alloc (Nat.le_refl _) (.cells #[.int .i64 3, .int .u64 0, .int .u64 0, .int .u64 0, .int .u64 0, .int .i64 (n : Nat), .int .i64 0] 131)
  have e0 : stV (begS n) = [.int .i64 3, .int .u64 0, .int .u64 0, .int .u64 0, .int .u64 0, .int .i64 (n : Nat), .int .i64 0] := by simp [stV, begS, word]
  refine (nfaAdd_any base b v y1 y2 y3 Q (begS n) ⟨w.heap.size, 0, none⟩ 1 _ (hP.below hb) (by rw [e0]; exact new_cells w 131 [.int .i64 3, .int .u64 0, .int .u64 0, .int .u64 0, .int .u64 0, .int .i64 (n : Nat), .int .i64 0]) hq (by rw [World.size_alloc]; omega)).mono ?_
  rintro e w' ⟨v', h1, h2, h3⟩
  exact ⟨v', h1, h2, (KG.of_below hb).trans h3⟩
theorem addEnd_any (base b : Nat) (v y1 y2 y3 : Value) (Q : List St) (n : Nat) (w : World) (hP : PG base w b v y1 y2 y3 Q) (hq : Q.length ≤ 1000000) (hB : base ≤ w.heap.size) :
    Calls Tryz.prog 61 #[.pointer (some ⟨b, 0, none⟩), .slice (some ⟨w.heap.size, 0, none⟩) 1 1] (w.alloc (.cells #[.int .i64 4, .int .u64 0, .int .u64 0, .int .u64 0, .int .u64 0, .int .i64 (n : Nat), .int .i64 0] 131)) fun e w' => ∃ v', e = .returned (.int .i64 (Q.length : Nat)) ∧ PG base w' b v' y1 y2 y3 (Q ++ [endS n]) ∧ KG (fun k => k = b) w v w' v' := by
  have hb := (Below.refl w.heap.size w).alloc (Nat.le_refl _) (.cells #[.int .i64 4, .int .u64 0, .int .u64 0, .int .u64 0, .int .u64 0, .int .i64 (n : Nat), .int .i64 0] 131)
  have e0 : stV (endS n) = [.int .i64 4, .int .u64 0, .int .u64 0, .int .u64 0, .int .u64 0, .int .i64 (n : Nat), .int .i64 0] := by simp [stV, endS, word]
  refine (nfaAdd_any base b v y1 y2 y3 Q (endS n) ⟨w.heap.size, 0, none⟩ 1 _ (hP.below hb) (by rw [e0]; exact new_cells w 131 [.int .i64 4, .int .u64 0, .int .u64 0, .int .u64 0, .int .u64 0, .int .i64 (n : Nat), .int .i64 0]) hq (by rw [World.size_alloc]; omega)).mono ?_
  rintro e w' ⟨v', h1, h2, h3⟩
  exact ⟨v', h1, h2, (KG.of_below hb).trans h3⟩
theorem KG.good {b : Nat} {w w' : World} {v v' : Value} {x : NodeX} (k : KG (fun k => k = b) w v w' v') (h : GoodN w (fun g => g ≠ b ∧ ¬ some g = v.ownBlock) x) : GoodN w' (fun g => g ≠ b ∧ ¬ some g = v'.ownBlock) x := by
  have h1 : GoodN w (fun g => (g ≠ b ∧ ¬ some g = v.ownBlock) ∧ g < w.heap.size) x := h.weaken (fun g h1 h2 => ⟨h1, h2⟩)
  refine (h1.frame k.size (fun g hg _ => k.block g hg.2 hg.1.1 hg.1.2)).weaken (fun g hg _ => ⟨hg.1.1, fun e => ?_⟩)
  rcases k.own g e.symm with h3 | h3
  · exact hg.1.2 h3.symm
  · have := hg.2
    omega
inductive LowB : NodeT → Prop where
  | mk {k : Int} {S : Nat} {mn mx : Int} {l : List NodeT} (h : k = 6 → mn ≤ 1000 ∧ mx ≤ 1000) (hl : ∀ x, x ∈ l → LowB x) : LowB (.mk k S mn mx l)
theorem LowB.nil : LowB .nil := .mk (fun h => absurd h (by decide)) (fun x h => by cases h)
theorem LowB.slim {x : NodeT} (h : LowB x) : LowB (slimT x) := by
  induction h with
  | @mk k S mn mx l h hl ih =>
    rw [slimT]
    have hs : ∀ y, y ∈ slimsT l → LowB y := fun y hy => by
      rw [slimsT_map] at hy
      obtain ⟨z, hz, rfl⟩ := List.mem_map.1 hy
      exact ih z hz
    split
    · unfold catS
      have hf : ∀ y, y ∈ (slimsT l).filter (fun x => !nilK x) → LowB y := fun y hy => hs y (List.mem_filter.1 hy).1
      generalize (slimsT l).filter (fun x => !nilK x) = ks at hf
      match ks, hf with
      | [], _ => exact LowB.nil
      | [a], hf => exact hf a (by simp)
      | a :: b :: r, hf => exact .mk (fun h => absurd h (by decide)) hf
    · split
      · unfold altS
        split
        · exact LowB.nil
        · exact .mk (fun h => absurd h (by decide)) hs
      · split
        · rename_i h6
          have hh : LowB ((slimsT l).headD .nil) := by
            cases hc : slimsT l with
            | nil => exact LowB.nil
            | cons a r => exact hs a (by rw [hc]; simp)
          unfold repSl
          split
          · exact LowB.nil
          · split
            · exact hh
            · exact .mk (fun _ => h h6) (fun y hy => by rw [List.mem_singleton] at hy; rw [hy]; exact hh)
        · exact .mk h hl
theorem NF.low {x : NodeT} (h : NF x) : LowB x := by
  induction h with
  | nil => exact LowB.nil
  | one _ _ => exact .mk (fun h => absurd h (by decide)) (fun x h => by cases h)
  | beg => exact .mk (fun h => absurd h (by decide)) (fun x h => by cases h)
  | fin => exact .mk (fun h => absurd h (by decide)) (fun x h => by cases h)
  | cat _ _ _ ih => exact .mk (fun h => absurd h (by decide)) ih
  | alt _ _ _ ih => exact .mk (fun h => absurd h (by decide)) ih
  | rep hx h0 h20 hn ih => exact .mk (fun _ => by omega) (fun y hy => by rw [List.mem_singleton] at hy; rw [hy]; exact ih)
def BuildC (x : NodeX) : Prop := ∀ (base b : Nat) (v y1 y2 y3 : Value) (Q : List St) (next : Nat) (W : World), GoodN W (fun g => g ≠ b ∧ ¬ some g = v.ownBlock) x → WF x.t → LowB x.t → PG base W b v y1 y2 y3 Q → Q.length + cntT x.t ≤ 1000000 → next ≤ 1000000 → base ≤ W.heap.size →
  Calls Tryz.prog 59 #[.pointer (some ⟨b, 0, none⟩), .agg (nodeC x), .int .i64 (next : Nat)] W fun e w' => ∃ v', e = .returned (.int .i64 ((bldT x.t Q next).2 : Nat)) ∧ PG base w' b v' y1 y2 y3 (bldT x.t Q next).1 ∧ KG (fun k => k = b) W v w' v'
theorem bld_len {x : NodeT} (h : WF x) (Q : List St) (next : Nat) : (bldT x Q next).1.length = Q.length + cntT x := cb_node h Q next
theorem bld_start {x : NodeT} (h : WF x) (Q : List St) (next : Nat) (hq : Q.length + cntT x ≤ 1000000) (hn : next ≤ 1000000) : (bldT x Q next).2 ≤ 1000000 := by
  have h1 := (bldT_frag h Q next).start
  have h2 := bld_len h Q next
  omega
theorem cntsT_drop {l : List NodeT} {k : Nat} (h : k < l.length) : cntsT (l.drop k) = cntT l[k] + cntsT (l.drop (k + 1)) := by
  rw [List.drop_eq_getElem_cons h, cntsT_cons]
theorem cntsT_drop_le (l : List NodeT) (k : Nat) : cntsT (l.drop k) ≤ cntsT l := by
  induction l generalizing k with
  | nil => simp
  | cons a l ih =>
    cases k with
    | zero => exact Nat.le_refl _
    | succ k => rw [List.drop_succ_cons, cntsT_cons]; have := ih k; omega
theorem wf_cat {l : List NodeT} (h : ∀ x, x ∈ l → WF x) (Q : List St) (next : Nat) (hq : Q.length + cntsT l ≤ 1000000) (hn : next ≤ 1000000) : (bldC l Q next).1.length = Q.length + cntsT l ∧ (bldC l Q next).2 ≤ 1000000 := by
  have hw : WF (.mk 4 0 0 0 l) := .cat h
  have e : bldT (.mk 4 0 0 0 l) = bldC l := by rw [bldT]; rfl
  have h1 := bld_len hw Q next
  have h2 := bld_start hw Q next (by rw [cnt_cat]; exact hq) hn
  rw [e, cnt_cat] at h1
  rw [e] at h2
  exact ⟨h1, h2⟩
theorem wf_alt {l : List NodeT} (h0 : l ≠ []) (h : ∀ x, x ∈ l → WF x) (Q : List St) (next : Nat) (hq : Q.length + cntsT l + (l.length - 1) ≤ 1000000) (hn : next ≤ 1000000) : (bldA l Q next).1.length = Q.length + cntsT l + (l.length - 1) ∧ (bldA l Q next).2 ≤ 1000000 := by
  have hw : WF (.mk 5 0 0 0 l) := .alt h0 h
  have e : bldT (.mk 5 0 0 0 l) = bldA l := by rw [bldT]; rfl
  have h1 := bld_len hw Q next
  have h2 := bld_start hw Q next (by rw [cnt_alt]; omega) hn
  rw [e, cnt_alt] at h1
  rw [e] at h2
  exact ⟨by omega, h2⟩
def AltB (base b : Nat) (v y1 y2 y3 : Value) (Q : List St) (next : Nat) (xl : List NodeX) (W : World) (j : Nat) (fv : Value) (wr : World) : Prop := ∃ v2, fv = .int .i64 ((bldA ((xl.map NodeX.t).drop j) Q next).2 : Nat) ∧ PG base wr b v2 y1 y2 y3 (bldA ((xl.map NodeX.t).drop j) Q next).1 ∧ KG (fun k => k = b) W v wr v2
theorem kids_row {w : World} {P : Nat → Prop} {x : NodeX} (h : GoodN w P x) {k : Nat} {z : NodeX} (hz : x.kids[k]? = some z) : ∃ b off, x.A = some ⟨b, off, none⟩ ∧ w.cell? ⟨b, off + k * 8, none⟩ = some (.int .i64 z.kind) ∧ w.cell? ⟨b, off + k * 8 + 1, none⟩ = some (.int .u64 (word z.set 0 : Nat)) ∧ w.cell? ⟨b, off + k * 8 + 2, none⟩ = some (.int .u64 (word z.set 1 : Nat)) ∧ w.cell? ⟨b, off + k * 8 + 3, none⟩ = some (.int .u64 (word z.set 2 : Nat)) ∧ w.cell? ⟨b, off + k * 8 + 4, none⟩ = some (.int .u64 (word z.set 3 : Nat)) ∧ w.cell? ⟨b, off + k * 8 + 5, none⟩ = some (.int .i64 z.mn) ∧ w.cell? ⟨b, off + k * 8 + 6, none⟩ = some (.int .i64 z.mx) ∧ w.cell? ⟨b, off + k * 8 + 7, none⟩ = some (.slice z.A z.n z.c) := by
  have hr := h.row
  have hk := (List.getElem?_eq_some_iff.1 hz).1
  obtain ⟨b, off, e, _, hc⟩ := hr.2 (by have := hr.1; omega)
  exact ⟨b, off, e, hc k 0 z hz (by decide), hc k 1 z hz (by decide), hc k 2 z hz (by decide), hc k 3 z hz (by decide), hc k 4 z hz (by decide), hc k 5 z hz (by decide), hc k 6 z hz (by decide), hc k 7 z hz (by decide)⟩
set_option maxRecDepth 100000 in
set_option maxHeartbeats 1600000 in
theorem buildAlt_any (x : NodeX) (HS : ∀ y, y ∈ x.kids → BuildC y) (base b : Nat) (v y1 y2 y3 : Value) (Q : List St) (next : Nat) (W : World) (hx : GoodN W (fun g => g ≠ b ∧ ¬ some g = v.ownBlock) x) (hwf : ∀ y, y ∈ x.kids → WF y.t) (hlow : ∀ y, y ∈ x.kids → LowB y.t) (h0 : x.kids ≠ []) (hP : PG base W b v y1 y2 y3 Q) (hq : Q.length + cntsT (x.kids.map NodeX.t) + (x.kids.length - 1) ≤ 1000000) (hn : next ≤ 1000000) (hB : base ≤ W.heap.size) :
    Calls Tryz.prog 81 #[.pointer (some ⟨b, 0, none⟩), .slice x.A x.n x.c, .int .i64 (next : Nat)] W fun e w' => ∃ v', e = .returned (.int .i64 ((bldA (x.kids.map NodeX.t) Q next).2 : Nat)) ∧ PG base w' b v' y1 y2 y3 (bldA (x.kids.map NodeX.t) Q next).1 ∧ KG (fun k => k = b) W v w' v' := by
  have hl := hx.row.1
  have hmx := hx.lenM
  have hpos : 0 < x.n := by have := List.length_pos_iff.2 h0; omega
  have HX := Lib.hid hx
  have HWF := Lib.hid hwf
  have HSS := Lib.hid HS
  have HLB := Lib.hid hlow
  clear hlow
  have HP := Lib.hid hP
  obtain ⟨l, hlt⟩ : ∃ l, x.kids.map NodeX.t = l := ⟨_, rfl⟩
  have hll : l.length = x.n := by rw [← hlt, List.length_map]; exact hl
  have HWL := Lib.hid (show ∀ t, t ∈ l → WF t from fun t ht => by rw [← hlt] at ht; obtain ⟨y, hy, rfl⟩ := List.mem_map.1 ht; exact hwf y hy)
  have HBL := Lib.hid (fun (j : Nat) (hj : j < l.length) => wf_alt (l := l.drop j) (by simpa using hj) (fun t ht => HWL.out t (List.mem_of_mem_drop ht)) Q next (by
    have := cntsT_drop_le l j
    rw [hlt, hl] at hq
    rw [List.length_drop]
    omega) hn)
  have HCD := Lib.hid (fun (j : Nat) => cntsT_drop_le l j)
  have HGET := Lib.hid (show ∀ (k : Nat) (z : NodeX), x.kids[k]? = some z → ∀ (hk : k < l.length), l[k] = z.t from fun k z hz hk => by
    have h2 : l[k]? = some z.t := by rw [← hlt, List.getElem?_map, hz]; rfl
    rw [List.getElem?_eq_getElem hk] at h2
    exact Option.some.inj h2)
  rw [hlt, hl] at hq
  obtain ⟨n, hnn⟩ : ∃ n, x.n = n := ⟨_, rfl⟩
  rw [hnn] at hl hmx hpos hq hll ⊢
  rw [hlt]
  have HLT := Lib.hid hlt
  have HNN := Lib.hid hnn
  have HL := Lib.hid hl
  have HLL := Lib.hid hll
  clear hx hwf HS hP hlt hnn hl hll h0
  obtain ⟨z0, hz0⟩ : ∃ z, x.kids[n - 1]? = some z := ⟨x.kids[n - 1]'(by have := HL.out; omega), List.getElem?_eq_getElem _⟩
  obtain ⟨rb, roff, hA, c0, c1, c2, c3, c4, c5, c6, c7⟩ := kids_row HX.out hz0
  have hz0m := List.mem_of_getElem? hz0
  obtain ⟨m, rfl⟩ : ∃ m, n = m + 1 := ⟨n - 1, by omega⟩
  rw [show m + 1 - 1 = m by omega] at *
  have hl0 : l[m]'(by have := HLL.out; omega) = z0.t := HGET.out m z0 hz0 _
  have hcz : Q.length + cntT z0.t ≤ 1000000 := by
    have h1 := cntsT_drop (l := l) (k := m) (by have := HLL.out; omega)
    rw [hl0] at h1
    have h2 := HCD.out m
    omega
  have B0 := Lib.hid (HSS.out z0 hz0m base b v y1 y2 y3 Q next W (HX.out.kid hz0m) (HWF.out z0 hz0m) (HLB.out z0 hz0m) HP.out hcz hn hB)
  have hE0 : bldA (l.drop m) Q next = bldT z0.t Q next := by
    have := bldA_last (l := l) (by have := HLL.out; omega) Q next
    have hx1 : l.length - 1 = m := by have := HLL.out; omega
    rw [show l.drop (l.length - 1) = l.drop m by rw [hx1]] at this
    rw [this]
    congr 1
    rw [← hl0]
    congr 1
  have HE0 := Lib.hid hE0
  have w1 : IntKind.i64.wrap ((m + 1 : Nat) : Int) = ((m + 1 : Nat) : Int) := by rw [IntKind.wrap_i64]; omega
  have hAx := hA
  rw [hA]
  have HA := Lib.hid hA
  clear hl0 hcz hE0 hz0 hz0m hA hAx w1
  go_enter Tryz.func81, Tryz.ntmps81
  go_wp2_with fail
  refine B0.out.mono ?_
  rintro e w1 ⟨v1, rfl, hp1, hk1⟩
  have HP1 := Lib.hid hp1
  have HK1 := Lib.hid hk1
  clear hp1 hk1 B0 c0 c1 c2 c3 c4 c5 c6 c7
  obtain ⟨fst, hf⟩ : ∃ f, (bldT z0.t Q next).2 = f := ⟨_, rfl⟩
  rw [hf]
  have HF := Lib.hid hf
  clear hf
  go_wp2
  go_loopw [8, 9] (fun fv iv wr => ∃ (i : Int), -1 ≤ i ∧ i < m ∧ iv = .int .i64 i ∧ AltB base b v y1 y2 y3 Q next x.kids W (i + 1).toNat fv wr) (fun _ iv _ => (intOf iv + 1).toNat)
  case atStart =>
    refine ⟨(m : Int) - 1, by omega, by omega, by go_num, v1, ?_, ?_, HK1.out⟩
    · rw [HLT.out, show ((m : Int) - 1 + 1).toNat = m by omega, HE0.out, HF.out]
    · rw [HLT.out, show ((m : Int) - 1 + 1).toNat = m by omega, HE0.out]
      exact HP1.out
  case round =>
    obtain ⟨i, hi1, hi2, rfl, v2, rfl, hp2, hk2⟩ := hrel
    rw [HLT.out] at hp2
    rw [HLT.out]
    have HP2 := Lib.hid hp2
    have HK2 := Lib.hid hk2
    clear hp2 hk2 HP1 HK1 HE0 HF
    by_cases h : 0 ≤ i
    · obtain ⟨k, rfl⟩ := Int.eq_ofNat_of_zero_le h
      have hk : k < m := by omega
      have hkk : ((k : Int) + 1).toNat = k + 1 := by omega
      rw [hkk] at HP2 ⊢
      have hI : (k : Int) < ((m + 1 : Nat) : Int) := by omega
      obtain ⟨z, hz⟩ : ∃ z, x.kids[k]? = some z := ⟨x.kids[k]'(by have := HL.out; omega), List.getElem?_eq_getElem _⟩
      have hzm := List.mem_of_getElem? hz
      have hkl : k + 1 < l.length := by have := HLL.out; omega
      have hGX := HK2.out.good HX.out
      obtain ⟨rb2, roff2, hA2, c0, c1, c2, c3, c4, c5, c6, c7⟩ := kids_row hGX hz
      rw [HA.out] at hA2
      injection hA2 with hA2
      injection hA2 with hA3 hA4
      subst hA3 hA4
      have hlk : l[k]'(by omega) = z.t := HGET.out k z hz _
      have hbk := HBL.out (k + 1) hkl
      have hbk0 := HBL.out k (by omega)
      have hE := bldA_drop hkl Q next
      rw [hlk] at hE
      have hcd := cntsT_drop (l := l) (k := k) (by omega)
      rw [hlk] at hcd
      have hcl := HCD.out k
      obtain ⟨R1, hR1⟩ : ∃ R, (bldA (l.drop (k + 1)) Q next).1 = R := ⟨_, rfl⟩
      obtain ⟨R2, hR2⟩ : ∃ R, (bldA (l.drop (k + 1)) Q next).2 = R := ⟨_, rfl⟩
      rw [hR1] at HP2 hE hbk
      rw [hR2] at hE hbk ⊢
      have hdl : (l.drop (k + 1)).length = l.length - (k + 1) := List.length_drop
      have hcz : R1.length + cntT z.t ≤ 1000000 := by
        have := HLL.out
        have := hbk.1
        omega
      have hBr : base ≤ wr.heap.size := Nat.le_trans hB HK2.out.size
      have BB := Lib.hid (HSS.out z hzm base b v2 y1 y2 y3 R1 next wr (hGX.kid hzm) (HWF.out z hzm) (HLB.out z hzm) HP2.out hcz hn hBr)
      have hlen := bld_len (HWF.out z hzm) R1 next
      have hst := bld_start (HWF.out z hzm) R1 next hcz hn
      obtain ⟨U1, hU1⟩ : ∃ R, (bldT z.t R1 next).1 = R := ⟨_, rfl⟩
      obtain ⟨U2, hU2⟩ : ∃ R, (bldT z.t R1 next).2 = R := ⟨_, rfl⟩
      rw [hU1, hU2] at BB
      rw [hU1] at hE hlen
      rw [hU2] at hE hst
      have HE := Lib.hid hE
      have HRR := Lib.hid hR2
      have HZ := Lib.hid hz
      have hU9 : U1.length ≤ 1000000 := by omega
      have hR9 : R2 ≤ 1000000 := hbk.2
      clear hGX hz hzm hlk hE hcd hR1 hR2 hU1 hU2 hkk hdl hlen hbk hbk0 hcl
      have hwk : IntKind.i64.wrap ((k : Int) - 1) = (k : Int) - 1 := by rw [IntKind.wrap_i64]; omega
      clear hwk
      go_wp2_with fail
      refine BB.out.mono ?_
      rintro e w3 ⟨v3, rfl, hp3, hk3⟩
      have AD := Lib.hid (addFork_any base b v3 y1 y2 y3 U1 U2 R2 w3 hp3 (by omega) (Nat.le_trans hBr hk3.size))
      have HK3 := Lib.hid (HK2.out.trans hk3)
      clear hp3 hk3 BB c0 c1 c2 c3 c4 c5 c6 c7
      go_wp2_with fail
      refine AD.out.mono ?_
      rintro e w4 ⟨v4, rfl, hp4, hk4⟩
      have HP4 := Lib.hid hp4
      have HK4 := Lib.hid (HK3.out.trans hk4)
      clear hp4 hk4 AD
      go_wp2
      go_round
      case rel =>
        refine ⟨(k : Int) - 1, by omega, by omega, by go_num, v4, ?_, ?_, HK4.out⟩
        · rw [HLT.out, show ((k : Int) - 1 + 1).toNat = k by omega, HE.out]
        · rw [HLT.out, show ((k : Int) - 1 + 1).toNat = k by omega, HE.out]
          exact HP4.out
      case measure => first | (simp [intOf]; done) | (simp [intOf]; omega)
    · obtain rfl : i = -1 := by omega
      have e0 : ((-1 : Int) + 1).toNat = 0 := rfl
      rw [e0, List.drop_zero] at HP2 ⊢
      go_wp2
      go_ret
      first | exact ⟨rfl, _, HP2.out, HK2.out⟩ | exact ⟨_, rfl, HP2.out, HK2.out⟩
theorem rowV_set : ∀ (T : List St) (q n : Nat) (x : St), T[q]? = some x → (rowV stV T).set (q * 7 + 5) (.int .i64 (n : Nat)) = rowV stV (T.set q { x with next := n })
  | [], q, n, x, h => by simp at h
  | y :: T, 0, n, x, h => by
    obtain rfl : y = x := by simpa using h
    simp [rowV, stV]
  | y :: T, q + 1, n, x, h => by
    have ih := rowV_set T q n x (by simpa using h)
    have e : (q + 1) * 7 + 5 = (q * 7 + 5) + 7 := by omega
    show ((stV y) ++ rowV stV T).set _ _ = stV y ++ rowV stV (T.set q _)
    rw [e, List.set_append_right _ _ (by rw [stV_len]; omega), stV_len, show q * 7 + 5 + 7 - 7 = q * 7 + 5 by omega, ih]
theorem KG.setOwn {S : Nat → Prop} {w w1 : World} {v v1 : Value} (h : KG S w v w1 v1) {g : Nat} (hg : v1.ownBlock = some g) (o : Nat) (u : Value) : KG S w v (w1.setCell ⟨g, o, none⟩ u) v1 :=
  ⟨h.os, h.tape, h.output, by rw [World.size_setCell]; exact h.size, fun k hk hs hv => (Below.heap_setCell w1 ⟨g, o, none⟩ u k (fun e => by
    have e2 : k = g := e
    subst e2
    rcases h.own k hg with h1 | h1
    · exact hv h1.symm
    · omega)).trans (h.block k hk hs hv), h.own⟩
theorem PG.setNext {base : Nat} {w : World} {b : Nat} {v y1 y2 y3 : Value} {T : List St} (h : PG base w b v y1 y2 y3 T) {g : Nat} (hg : v.ownBlock = some g) {q n : Nat} {x : St} (hx : T[q]? = some x) : PG base (w.setCell ⟨g, q * 7 + 5, none⟩ (.int .i64 (n : Nat))) b v y1 y2 y3 (T.set q { x with next := n }) := by
  have hne : b ≠ g := fun e => h.nb (by rw [hg, e])
  refine ⟨h.blk.far (p := ⟨g, q * 7 + 5, none⟩) hne _, ?_⟩
  have hq : q < T.length := (List.getElem?_eq_some_iff.1 hx).1
  obtain ⟨h1, h2⟩ := h.row
  refine ⟨?_, ?_⟩
  · rw [rowV_len stV_len, List.length_set]
  · rcases h2 with ⟨rfl, h0⟩ | ⟨g2, cap, cur, rfl, hb, hh, hc, hm, hs, ht⟩
    · cases hg
    · have e2 : g2 = g := by simpa [Value.ownBlock] using hg
      subst e2
      have hb2 : Blk w g2 131 cur := hh
      refine .inr ⟨g2, cap, cur.setIfInBounds (q * 7 + 5) (.int .i64 (n : Nat)), by rw [List.length_set], hb, hb2.set_ _ _, by rw [List.length_set]; exact hc, hm, by rw [Array.size_setIfInBounds]; exact hs, ?_⟩
      rw [List.length_set, Array.toList_setIfInBounds, List.take_set, ht, rowV_set T q n x hx]
theorem forks_len {x : NodeT} (h : WF x) (i : Nat) (Q : List St) (f : Nat) : (forksB (bldT x) i Q f).1.length = Q.length + (cntT x * i + i) := cb_forks (cb_node h) i Q f
theorem must_len {x : NodeT} (h : WF x) (i : Nat) (Q : List St) (f : Nat) : (mustB (bldT x) i Q f).1.length = Q.length + cntT x * i := cb_must (cb_node h) i Q f
theorem must_start {x : NodeT} (h : WF x) : ∀ (i : Nat) (Q : List St) (f : Nat), Q.length + cntT x * i ≤ 1000000 → f ≤ 1000000 → (mustB (bldT x) i Q f).2 ≤ 1000000
  | 0, Q, f, _, hf => hf
  | i + 1, Q, f, hq, hf => by
    rw [must_succ]
    have h1 := must_len h i Q f
    rw [Nat.mul_succ] at hq
    exact bld_start h _ _ (by omega) (must_start h i Q f (by omega) hf)
theorem forks_start {x : NodeT} (h : WF x) : ∀ (i : Nat) (Q : List St) (f : Nat), Q.length + (cntT x * i + i) ≤ 1000000 → f ≤ 1000000 → (forksB (bldT x) i Q f).2 ≤ 1000000
  | 0, Q, f, _, hf => hf
  | i + 1, Q, f, hq, hf => by
    rw [forks_succ]
    have h1 := forks_len h i Q f
    have h2 := bld_len h (forksB (bldT x) i Q f).1 (forksB (bldT x) i Q f).2
    rw [Nat.mul_succ] at hq
    show (bldT x (forksB (bldT x) i Q f).1 (forksB (bldT x) i Q f).2).1.length ≤ _
    omega
theorem mul_up {c i j : Nat} (h : i ≤ j) : c * i ≤ c * j := Nat.mul_le_mul_left c h
def ForkR (x : NodeT) (base b : Nat) (v y1 y2 y3 : Value) (Q : List St) (next : Nat) (W : World) (i : Nat) (fv : Value) (wr : World) : Prop := ∃ v2, fv = .int .i64 ((forksB (bldT x) i Q next).2 : Nat) ∧ PG base wr b v2 y1 y2 y3 (forksB (bldT x) i Q next).1 ∧ KG (fun k => k = b) W v wr v2
def MustR (x : NodeT) (base b : Nat) (v y1 y2 y3 : Value) (Q : List St) (next : Nat) (W : World) (i : Nat) (fv : Value) (wr : World) : Prop := ∃ v2, fv = .int .i64 ((mustB (bldT x) i Q next).2 : Nat) ∧ PG base wr b v2 y1 y2 y3 (mustB (bldT x) i Q next).1 ∧ KG (fun k => k = b) W v wr v2
set_option maxRecDepth 100000 in
set_option maxHeartbeats 3200000 in
theorem buildRepeat_any (x k : NodeX) (hkids : x.kids = [k]) (HS : BuildC k) (base b : Nat) (v y1 y2 y3 : Value) (Q : List St) (next : Nat) (W : World) (hx : GoodN W (fun g => g ≠ b ∧ ¬ some g = v.ownBlock) x) (hwf : WF k.t) (hlow : LowB k.t) (hm0 : 0 ≤ x.mn) (hmx : x.mx = -1 ∨ x.mn ≤ x.mx) (hm9 : x.mn ≤ 1000 ∧ x.mx ≤ 1000) (hP : PG base W b v y1 y2 y3 Q) (hq : Q.length + cntT (.rep k.t x.mn x.mx) ≤ 1000000) (hn : next ≤ 1000000) (hB : base ≤ W.heap.size) :
    Calls Tryz.prog 82 #[.pointer (some ⟨b, 0, none⟩), .agg (nodeC x), .int .i64 (next : Nat)] W fun e w' => ∃ v', e = .returned (.int .i64 ((repB2 (bldT k.t) x.mn x.mx Q next).2 : Nat)) ∧ PG base w' b v' y1 y2 y3 (repB2 (bldT k.t) x.mn x.mx Q next).1 ∧ KG (fun k => k = b) W v w' v' := by
  rw [cnt_rep] at hq
  have K0 := Blk.new W 97 (nodeC x)
  have hb0 : Below W.heap.size W (W.alloc (.cells (nodeC x) 97)) := (Below.refl _ _).alloc (Nat.le_refl _) _
  have hsz0 : (W.alloc (.cells (nodeC x) 97)).heap.size = W.heap.size + 1 := by simp
  have hgx := hx.later hb0
  have hkm : k ∈ x.kids := by rw [hkids]; simp
  obtain ⟨rb, roff, hA, c0, c1, c2, c3, c4, c5, c6, c7⟩ := kids_row hgx (k := 0) (z := k) (by rw [hkids]; rfl)
  rw [Nat.zero_mul, Nat.add_zero] at c0 c1 c2 c3 c4 c5 c6 c7
  have hrl := hx.row.1
  rw [hkids] at hrl
  have hn1 : x.n = 1 := hrl.symm
  obtain ⟨⟨a0, a1, a2, a3, a4, a5, a6, a7⟩, _⟩ := node_cells K0
  rw [hA, hn1] at a7
  obtain ⟨mn, hmn⟩ : ∃ m, x.mn = m := ⟨_, rfl⟩
  obtain ⟨mx, hmxx⟩ : ∃ m, x.mx = m := ⟨_, rfl⟩
  rw [hmn] at a5 hm0 hmx hm9 hq ⊢
  rw [hmxx] at a6 hmx hm9 hq ⊢
  obtain ⟨W1, hW1⟩ : ∃ z, (W.alloc (.cells (nodeC x) 97)) = z := ⟨_, rfl⟩
  rw [hW1] at a0 a1 a2 a3 a4 a5 a6 a7 c0 c1 c2 c3 c4 c5 c6 c7 hb0 hsz0 hgx K0
  have hrb : rb < W1.heap.size := block_lt_of_cell c0
  obtain ⟨XC, hXC⟩ : ∃ X, nodeC x = X := ⟨_, rfl⟩
  rw [hXC] at K0 hW1 ⊢
  have KC : Blk ((W1.alloc (.cells #[.int .i64 k.kind, .int .u64 (word k.set 0 : Nat), .int .u64 (word k.set 1 : Nat), .int .u64 (word k.set 2 : Nat), .int .u64 (word k.set 3 : Nat), .int .i64 k.mn, .int .i64 k.mx, .slice k.A k.n k.c] 97)).drew) W1.heap.size 97 (nodeC k) := (Blk.new W1 97 (nodeC k)).drew
  have KN : Blk ((W1.alloc (.cells #[.int .i64 k.kind, .int .u64 (word k.set 0 : Nat), .int .u64 (word k.set 1 : Nat), .int .u64 (word k.set 2 : Nat), .int .u64 (word k.set 3 : Nat), .int .i64 k.mn, .int .i64 k.mx, .slice k.A k.n k.c] 97)).drew) W.heap.size 97 XC := (K0.alloc _).drew
  have hb1 : Below W1.heap.size W1 ((W1.alloc (.cells #[.int .i64 k.kind, .int .u64 (word k.set 0 : Nat), .int .u64 (word k.set 1 : Nat), .int .u64 (word k.set 2 : Nat), .int .u64 (word k.set 3 : Nat), .int .i64 k.mn, .int .i64 k.mx, .slice k.A k.n k.c] 97)).drew) := ((Below.refl W1.heap.size W1).alloc (Nat.le_refl _) _).drew
  have hbW : Below W.heap.size W ((W1.alloc (.cells #[.int .i64 k.kind, .int .u64 (word k.set 0 : Nat), .int .u64 (word k.set 1 : Nat), .int .u64 (word k.set 2 : Nat), .int .u64 (word k.set 3 : Nat), .int .i64 k.mn, .int .i64 k.mx, .slice k.A k.n k.c] 97)).drew) := hop hb0 (Nat.le_refl _) hb1
  have hp0 := hP.below hbW
  have hg0 := (hgx.later hb1).kid hkm
  have hcn : ∀ i, i < 8 → XC[i]? = (nodeV x)[i]? := fun i hi => by rw [← hXC]; simp [nodeC]
  have HCN := Lib.hid hcn
  have n5 : XC[5]? = some (.int .i64 mn) := by rw [hcn 5 (by decide), ← hmn]; rfl
  have n6 : XC[6]? = some (.int .i64 mx) := by rw [hcn 6 (by decide), ← hmxx]; rfl
  have HN5 := Lib.hid n5
  have HN6 := Lib.hid n6
  have HKC := Lib.hid KC
  have HKN := Lib.hid KN
  have HP0 := Lib.hid hp0
  have HG0 := Lib.hid hg0
  have HBW := Lib.hid hbW
  have HHS := Lib.hid HS
  have HLB := Lib.hid hlow
  clear hlow
  have HWF := Lib.hid hwf
  have hBW : base ≤ W1.heap.size := by omega
  have hW01 : W.heap.size < W1.heap.size := by omega
  have HSZ0 := Lib.hid hsz0
  clear KC KN hp0 hg0 hb1 hbW HS hwf hgx hb0 K0 hx hP hkids hkm hrl hXC hcn n5 n6 hA hsz0
  go_enter Tryz.func82, Tryz.ntmps82
  go_wp2
  clear hW1
  go_region
  obtain ⟨w0, hw0⟩ : ∃ z, (W1.alloc (.cells #[.int .i64 k.kind, .int .u64 (word k.set 0 : Nat), .int .u64 (word k.set 1 : Nat), .int .u64 (word k.set 2 : Nat), .int .u64 (word k.set 3 : Nat), .int .i64 k.mn, .int .i64 k.mx, .slice k.A k.n k.c] 97)).drew = z := ⟨_, rfl⟩
  obtain ⟨c, hcc⟩ : ∃ c, W1.heap.size = c := ⟨_, rfl⟩
  rw [hw0] at HKC HKN HP0 HG0 HBW
  rw [hcc] at HKC
  rw [hw0, hcc]
  have HKEEP := Lib.hid (show ∀ (wr : World) (v2 : Value), KG (fun k => k = b) w0 v wr v2 → Blk wr c 97 (nodeC k) ∧ Blk wr W.heap.size 97 XC ∧ GoodN wr (fun g => g ≠ b ∧ ¬ some g = v2.ownBlock) k from fun wr v2 h =>
    ⟨h.kept HKC.out (fun e => blk_ne HP0.out.blk HKC.out (by decide) e.symm) (fun e => by obtain ⟨cur, hc⟩ := own_blk HP0.out.row e.symm; exact blk_ne hc HKC.out (by decide) rfl), h.kept HKN.out (fun e => blk_ne HP0.out.blk HKN.out (by decide) e.symm) (fun e => by obtain ⟨cur, hc⟩ := own_blk HP0.out.row e.symm; exact blk_ne hc HKN.out (by decide) rfl), h.good HG0.out⟩)
  have hB0 : base ≤ w0.heap.size := by have := HBW.out.size; omega
  clear a0 a1 a2 a3 a4 a5 a6 a7 c0 c1 c2 c3 c4 c5 c6 c7 hw0 hcc hrb hW01 hBW
  have m5 := (HKN.out.cell 5).trans HN5.out
  have m6 := (HKN.out.cell 6).trans HN6.out
  by_cases hneg : mx < 0
  · have hmx1 : mx = -1 := by omega
    obtain rfl := hmx1
    have hq2 : Q.length + (cntT k.t * max mn.toNat 1 + 1) ≤ 1000000 := by rwa [if_pos (by decide)] at hq
    clear hq
    have hfl : (forkS 0 next) = forkS 0 next := rfl
    have A0 := Lib.hid (addFork0_any base b v y1 y2 y3 Q next w0 HP0.out (by omega) hB0)
    clear hfl
    go_wp2_with fail
    refine A0.out.mono ?_
    rintro e w1 ⟨v1, rfl, hp1, hk1⟩
    obtain ⟨KC_, KN_, KG_⟩ := HKEEP.out w1 v1 hk1
    obtain ⟨⟨d0, d1, d2, d3, d4, d5, d6, d7⟩, _⟩ := node_cells KC_
    have hB1 : base ≤ w1.heap.size := Nat.le_trans hB0 hk1.size
    have hc1 : cntT k.t * 1 ≤ cntT k.t * max mn.toNat 1 := mul_up (by omega)
    have hl1 : (Q ++ [forkS 0 next]).length = Q.length + 1 := by simp
    have B1 := Lib.hid (HHS.out base b v1 y1 y2 y3 (Q ++ [forkS 0 next]) Q.length w1 KG_ HWF.out HLB.out hp1 (by omega) (by omega) hB1)
    have hlU := bld_len HWF.out (Q ++ [forkS 0 next]) Q.length
    have hsU := bld_start HWF.out (Q ++ [forkS 0 next]) Q.length (by omega) (by omega)
    have hat : (bldT k.t (Q ++ [forkS 0 next]) Q.length).1[Q.length]? = some (forkS 0 next) := by
      rw [(bldT_frag HWF.out (Q ++ [forkS 0 next]) Q.length).pre Q.length (by omega)]
      simp
    obtain ⟨U1, hU1⟩ : ∃ R, (bldT k.t (Q ++ [forkS 0 next]) Q.length).1 = R := ⟨_, rfl⟩
    obtain ⟨U2, hU2⟩ : ∃ R, (bldT k.t (Q ++ [forkS 0 next]) Q.length).2 = R := ⟨_, rfl⟩
    rw [hU1] at B1 hlU hat
    rw [hU2] at B1 hsU
    have HREP0 := Lib.hid (show repB2 (bldT k.t) mn (-1) Q next = (if 0 < mn then mustB (bldT k.t) (mn - 1).toNat (U1.set Q.length (forkS U2 next)) U2 else mustB (bldT k.t) mn.toNat (U1.set Q.length (forkS U2 next)) Q.length) from by
      unfold repB2
      rw [if_pos (by decide)]
      show (if 0 < mn then mustB (bldT k.t) (mn - 1).toNat (loopB (bldT k.t) Q next).1 (loopB (bldT k.t) Q next).2 else mustB (bldT k.t) mn.toNat (loopB (bldT k.t) Q next).1 Q.length) = _
      rw [show loopB (bldT k.t) Q next = (U1.set Q.length (forkS U2 next), U2) from by
        unfold loopB
        show ((bldT k.t (Q ++ [forkS 0 next]) Q.length).1.set Q.length (forkS (bldT k.t (Q ++ [forkS 0 next]) Q.length).2 next), (bldT k.t (Q ++ [forkS 0 next]) Q.length).2) = _
        rw [hU1, hU2]])
    have HK1 := Lib.hid hk1
    have HAT := Lib.hid hat
    have hqU : Q.length < U1.length := by omega
    have hU9 : U1.length + cntT k.t * (max mn.toNat 1 - 1) ≤ 1000000 := by
      obtain ⟨p, hp⟩ : ∃ p, max mn.toNat 1 = p + 1 := ⟨max mn.toNat 1 - 1, by omega⟩
      rw [hp, Nat.mul_succ] at hq2
      rw [hp, Nat.add_sub_cancel]
      omega
    have HU9 := Lib.hid hU9
    have hU8 : U1.length ≤ 1000000 := by omega
    clear hp1 hk1 hl1 hlU hat hU1 hU2 A0 KC_ KN_ KG_ hc1 hU9 hq2
    go_wp2_with fail
    refine B1.out.mono ?_
    rintro e w2 ⟨v2, rfl, hp2, hk2⟩
    clear d0 d1 d2 d3 d4 d5 d6 d7 B1 m5 m6
    obtain ⟨g, cap, rfl, _, _, _, _, _, q5, _⟩ := hp2.cells HAT.out
    have q5f : w2.frozen? ⟨g, Q.length * 7 + 5, none⟩ = false := by
      obtain ⟨cur, hc⟩ := own_blk hp2.row (g := g) rfl
      exact hc.frozen _
    have AT := nfaAt_any b g 0 U1.length cap Q.length y1 y2 y3 w2 hp2.blk hqU (by omega)
    rw [Nat.zero_add] at AT
    replace AT := Lib.hid AT
    have hp3 := hp2.setNext (g := g) rfl (n := U2) HAT.out
    have hk3 := ((HK1.out.trans hk2).setOwn (g := g) rfl (Q.length * 7 + 5) (.int .i64 (U2 : Nat)))
    have hl3 : (U1.set Q.length (forkS U2 next)).length = U1.length := List.length_set
    obtain ⟨w3, hw3⟩ : ∃ z, w2.setCell ⟨g, Q.length * 7 + 5, none⟩ (.int .i64 (U2 : Nat)) = z := ⟨_, rfl⟩
    rw [hw3] at hp3 hk3
    have hB3 : base ≤ w3.heap.size := Nat.le_trans hB0 hk3.size
    obtain ⟨KC_, KN_, KG_⟩ := HKEEP.out w3 _ hk3
    have m5 := (KN_.cell 5).trans HN5.out
    have m6 := (KN_.cell 6).trans HN6.out
    obtain ⟨S1, hS1⟩ : ∃ S, U1.set Q.length (forkS U2 next) = S := ⟨_, rfl⟩
    have HPS := Lib.hid (show PG base w3 b (.slice (some ⟨g, 0, none⟩) U1.length cap) y1 y2 y3 S1 from by rw [← hS1]; exact hp3)
    have HKS := Lib.hid hk3
    rw [hS1] at HREP0 hl3
    have HL3 := Lib.hid hl3
    have HW3 := Lib.hid hw3
    clear hp2 hk2 hp3 hk3 hS1 hl3 hw3 KC_ KN_ KG_ hqU
    by_cases hm : 0 < mn
    · have HREP := Lib.hid (show repB2 (bldT k.t) mn (-1) Q next = mustB (bldT k.t) (mn - 1).toNat S1 U2 from by rw [HREP0.out, if_pos hm])
      have hroom9 : S1.length + cntT k.t * (mn - 1).toNat ≤ 1000000 := by
        have h1 := HU9.out
        rw [show max mn.toNat 1 - 1 = (mn - 1).toNat by omega] at h1
        have := HL3.out
        omega
      have HRM := Lib.hid hroom9
      have hgt : mn > 0 := hm
      have hw3 := HW3.out
      clear hroom9
      go_wp2_with fail
      refine AT.out.mono ?_
      rintro e w9 ⟨rfl, rfl⟩
      go_wp2
      clear hw3 q5 q5f AT
      have hlt1 : ¬ (0 : Int) < -1 - mn := by omega
      go_loopw [9, 48] (fun fv kv wr => kv = .int .i64 0 ∧ fv = .int .i64 (U2 : Nat) ∧ wr = w3) (fun _ _ _ => 0)
      case atStart => exact ⟨by first | rfl | go_num, rfl, rfl⟩
      case round =>
        obtain ⟨rfl, rfl, rfl⟩ := hrel
        go_wp2
        have hm1 : (0 : Int) ≤ mn - 1 := by omega
        go_loopw [9, 61] (fun fv kv wr => ∃ (j : Nat), (j : Int) ≤ mn - 1 ∧ kv = .int .i64 (j : Nat) ∧ MustR k.t base b v y1 y2 y3 S1 U2 w0 j fv wr) (fun _ kv _ => (mn - 1 - intOf kv).toNat)
        case atStart => exact ⟨0, by omega, by first | rfl | go_num, _, rfl, HPS.out, HKS.out⟩
        case round =>
          obtain ⟨j, hj, rfl, v5, rfl, hp5, hk5⟩ := hrel
          have HP5 := Lib.hid hp5
          have HK5 := Lib.hid hk5
          clear hp5 hk5
          by_cases h : (j : Int) < mn - 1
          · have hroom : S1.length + cntT k.t * (j + 1) ≤ 1000000 := by
              have h1 := mul_up (c := cntT k.t) (show j + 1 ≤ (mn - 1).toNat by omega)
              have := HRM.out; omega
            rw [Nat.mul_succ] at hroom
            have hl5 := must_len HWF.out j S1 U2
            have hs5 := must_start HWF.out j S1 U2 (by omega) (by omega)
            have hMS := must_succ (bldT k.t) j S1 U2
            obtain ⟨R1, hR1⟩ : ∃ R, (mustB (bldT k.t) j S1 U2).1 = R := ⟨_, rfl⟩
            obtain ⟨R2, hR2⟩ : ∃ R, (mustB (bldT k.t) j S1 U2).2 = R := ⟨_, rfl⟩
            rw [hR1] at HP5 hl5 hMS
            rw [hR2] at hs5 hMS ⊢
            have HMS := Lib.hid hMS
            obtain ⟨KC_, KN_, KG_⟩ := HKEEP.out wr v5 HK5.out
            obtain ⟨⟨d0, d1, d2, d3, d4, d5, d6, d7⟩, _⟩ := node_cells KC_
            have hBr : base ≤ wr.heap.size := Nat.le_trans hB0 HK5.out.size
            have BB := Lib.hid (HHS.out base b v5 y1 y2 y3 R1 R2 wr KG_ HWF.out HLB.out HP5.out (by omega) hs5 hBr)
            have HR2 := Lib.hid hR2
            clear hroom hl5 hs5 hMS hR1 hR2 KC_ KN_ KG_ hBr
            go_wp2_with fail
            refine BB.out.mono ?_
            rintro e w6 ⟨v6, rfl, hp6, hk6⟩
            have HP6 := Lib.hid hp6
            have HK6 := Lib.hid (HK5.out.trans hk6)
            clear hp6 hk6 BB d0 d1 d2 d3 d4 d5 d6 d7
            go_wp2
            go_round
            case rel => exact ⟨j + 1, by omega, by go_num, v6, by rw [HMS.out], by rw [HMS.out]; exact HP6.out, HK6.out⟩
            case measure => first | (simp [intOf]; done) | (simp [intOf]; omega)
          · have hj9 : (j : Int) = mn - 1 := by omega
            have hjn : j = (mn - 1).toNat := by omega
            have HJN := Lib.hid hjn
            have hnl : ¬ (j : Int) < mn - 1 := h
            clear hj9 hjn
            go_wp2
            go_ret
            have hKK : KG (fun k => k = b) W v wr v5 := (KG.of_below HBW.out).trans HK5.out
            have hPP := HP5.out
            rw [HJN.out] at hPP ⊢
            rw [HREP.out]
            first | exact ⟨rfl, v5, hPP, hKK⟩ | exact ⟨v5, rfl, hPP, hKK⟩
    · have hm00 : mn = 0 := by omega
      have HREP := Lib.hid (show repB2 (bldT k.t) mn (-1) Q next = mustB (bldT k.t) mn.toNat S1 Q.length from by rw [HREP0.out, if_neg hm])
      have hroom9 : S1.length + cntT k.t * mn.toNat ≤ 1000000 := by
        have := HL3.out
        rw [hm00, show (0 : Int).toNat = 0 from rfl, Nat.mul_zero]
        omega
      have HRM := Lib.hid hroom9
      have hgt : ¬ mn > 0 := hm
      have hw3 := HW3.out
      clear hroom9 hm00
      go_wp2_with fail
      refine AT.out.mono ?_
      rintro e w9 ⟨rfl, rfl⟩
      go_wp2
      clear hw3 q5 q5f AT
      have hlt1 : ¬ (0 : Int) < -1 - mn := by omega
      go_loopw [9, 48] (fun fv kv wr => kv = .int .i64 0 ∧ fv = .int .i64 (Q.length : Nat) ∧ wr = w3) (fun _ _ _ => 0)
      case atStart => exact ⟨by first | rfl | go_num, rfl, rfl⟩
      case round =>
        obtain ⟨rfl, rfl, rfl⟩ := hrel
        go_wp2
        have hm1 : (0 : Int) ≤ mn := by omega
        go_loopw [9, 61] (fun fv kv wr => ∃ (j : Nat), (j : Int) ≤ mn ∧ kv = .int .i64 (j : Nat) ∧ MustR k.t base b v y1 y2 y3 S1 Q.length w0 j fv wr) (fun _ kv _ => (mn - intOf kv).toNat)
        case atStart => exact ⟨0, by omega, by first | rfl | go_num, _, rfl, HPS.out, HKS.out⟩
        case round =>
          obtain ⟨j, hj, rfl, v5, rfl, hp5, hk5⟩ := hrel
          have HP5 := Lib.hid hp5
          have HK5 := Lib.hid hk5
          clear hp5 hk5
          by_cases h : (j : Int) < mn
          · have hroom : S1.length + cntT k.t * (j + 1) ≤ 1000000 := by
              have h1 := mul_up (c := cntT k.t) (show j + 1 ≤ mn.toNat by omega)
              have := HRM.out; omega
            rw [Nat.mul_succ] at hroom
            have hl5 := must_len HWF.out j S1 Q.length
            have hs5 := must_start HWF.out j S1 Q.length (by omega) (by omega)
            have hMS := must_succ (bldT k.t) j S1 Q.length
            obtain ⟨R1, hR1⟩ : ∃ R, (mustB (bldT k.t) j S1 Q.length).1 = R := ⟨_, rfl⟩
            obtain ⟨R2, hR2⟩ : ∃ R, (mustB (bldT k.t) j S1 Q.length).2 = R := ⟨_, rfl⟩
            rw [hR1] at HP5 hl5 hMS
            rw [hR2] at hs5 hMS ⊢
            have HMS := Lib.hid hMS
            obtain ⟨KC_, KN_, KG_⟩ := HKEEP.out wr v5 HK5.out
            obtain ⟨⟨d0, d1, d2, d3, d4, d5, d6, d7⟩, _⟩ := node_cells KC_
            have hBr : base ≤ wr.heap.size := Nat.le_trans hB0 HK5.out.size
            have BB := Lib.hid (HHS.out base b v5 y1 y2 y3 R1 R2 wr KG_ HWF.out HLB.out HP5.out (by omega) hs5 hBr)
            have HR2 := Lib.hid hR2
            clear hroom hl5 hs5 hMS hR1 hR2 KC_ KN_ KG_ hBr
            go_wp2_with fail
            refine BB.out.mono ?_
            rintro e w6 ⟨v6, rfl, hp6, hk6⟩
            have HP6 := Lib.hid hp6
            have HK6 := Lib.hid (HK5.out.trans hk6)
            clear hp6 hk6 BB d0 d1 d2 d3 d4 d5 d6 d7
            go_wp2
            go_round
            case rel => exact ⟨j + 1, by omega, by go_num, v6, by rw [HMS.out], by rw [HMS.out]; exact HP6.out, HK6.out⟩
            case measure => first | (simp [intOf]; done) | (simp [intOf]; omega)
          · have hj9 : (j : Int) = mn := by omega
            have hjn : j = mn.toNat := by omega
            have HJN := Lib.hid hjn
            have hnl : ¬ (j : Int) < mn := h
            clear hj9 hjn
            go_wp2
            go_ret
            have hKK : KG (fun k => k = b) W v wr v5 := (KG.of_below HBW.out).trans HK5.out
            have hPP := HP5.out
            rw [HJN.out] at hPP ⊢
            rw [HREP.out]
            first | exact ⟨rfl, v5, hPP, hKK⟩ | exact ⟨v5, rfl, hPP, hKK⟩
  · have hq2 : Q.length + (cntT k.t * mx.toNat + (mx - mn).toNat) ≤ 1000000 := by rw [if_neg hneg] at hq; omega
    have hle : mn ≤ mx := by omega
    have hsplit : cntT k.t * mx.toNat = cntT k.t * (mx - mn).toNat + cntT k.t * mn.toNat := by
      rw [← Nat.mul_add]
      congr 1
      omega
    have HQ2 := Lib.hid hq2
    have HSP := Lib.hid hsplit
    have HREP := Lib.hid (show repB2 (bldT k.t) mn mx Q next = mustB (bldT k.t) mn.toNat (forksB (bldT k.t) (mx - mn).toNat Q next).1 (forksB (bldT k.t) (mx - mn).toNat Q next).2 from by
      unfold repB2
      rw [if_neg hneg])
    clear hq hq2 hsplit
    go_wp2
    go_loopw [9, 48] (fun fv kv wr => ∃ (i : Nat), (i : Int) ≤ mx - mn ∧ kv = .int .i64 (i : Nat) ∧ ForkR k.t base b v y1 y2 y3 Q next w0 i fv wr) (fun _ kv _ => (mx - mn - intOf kv).toNat)
    case atStart => exact ⟨0, by omega, by first | rfl | go_num, v, rfl, HP0.out, KG.refl _ _ _⟩
    case round =>
      obtain ⟨i, hi, rfl, v3, rfl, hp3, hk3⟩ := hrel
      have HP3 := Lib.hid hp3
      have HK3 := Lib.hid hk3
      clear hp3 hk3
      by_cases h : (i : Int) < mx - mn
      · have hroom : Q.length + (cntT k.t * (i + 1) + (i + 1)) ≤ 1000000 := by
          have h1 := mul_up (c := cntT k.t) (show i + 1 ≤ (mx - mn).toNat by omega)
          have h2 := HQ2.out
          have h3 := HSP.out
          omega
        rw [Nat.mul_succ] at hroom
        have hl5 := forks_len HWF.out i Q next
        have hs5 := forks_start HWF.out i Q next (by omega) hn
        have hMS := forks_succ (bldT k.t) i Q next
        obtain ⟨R1, hR1⟩ : ∃ R, (forksB (bldT k.t) i Q next).1 = R := ⟨_, rfl⟩
        obtain ⟨R2, hR2⟩ : ∃ R, (forksB (bldT k.t) i Q next).2 = R := ⟨_, rfl⟩
        rw [hR1] at HP3 hl5 hMS
        rw [hR2] at hs5 hMS ⊢
        have hlU := bld_len HWF.out R1 R2
        obtain ⟨U1, hU1⟩ : ∃ R, (bldT k.t R1 R2).1 = R := ⟨_, rfl⟩
        obtain ⟨U2, hU2⟩ : ∃ R, (bldT k.t R1 R2).2 = R := ⟨_, rfl⟩
        obtain ⟨KC_, KN_, KG_⟩ := HKEEP.out wr v3 HK3.out
        obtain ⟨⟨d0, d1, d2, d3, d4, d5, d6, d7⟩, _⟩ := node_cells KC_
        have hBr : base ≤ wr.heap.size := Nat.le_trans hB0 HK3.out.size
        have BB := HHS.out base b v3 y1 y2 y3 R1 R2 wr KG_ HWF.out HLB.out HP3.out (by omega) hs5 hBr
        rw [hU1, hU2] at BB
        rw [hU1] at hlU hMS
        rw [hU2] at hMS
        have hU9 : U1.length ≤ 1000000 := by omega
        have BB2 := Lib.hid BB
        have HMS := Lib.hid hMS
        have HR2 := Lib.hid hR2
        clear hroom hl5 hs5 hMS hR1 hR2 hlU hU1 hU2 KC_ KN_ KG_ BB
        go_wp2_with fail
        refine BB2.out.mono ?_
        rintro e w6 ⟨v6, rfl, hp6, hk6⟩
        have AD := Lib.hid (addFork_any base b v6 y1 y2 y3 U1 U2 next w6 hp6 hU9 (Nat.le_trans hBr hk6.size))
        have HK6 := Lib.hid (HK3.out.trans hk6)
        clear hp6 hk6 BB2 d0 d1 d2 d3 d4 d5 d6 d7
        go_wp2_with fail
        refine AD.out.mono ?_
        rintro e w7 ⟨v7, rfl, hp7, hk7⟩
        have HP7 := Lib.hid hp7
        have HK7 := Lib.hid (HK6.out.trans hk7)
        clear hp7 hk7 AD
        go_wp2
        go_round
        case rel => exact ⟨i + 1, by omega, by go_num, v7, by rw [HMS.out], by rw [HMS.out]; exact HP7.out, HK7.out⟩
        case measure => first | (simp [intOf]; done) | (simp [intOf]; omega)
      · have hin : i = (mx - mn).toNat := by omega
        have hnl1 : ¬ (i : Int) < mx - mn := h
        have hl5 := forks_len HWF.out i Q next
        have hs5 := forks_start HWF.out i Q next (by
          have h2 := HQ2.out
          have h3 := HSP.out
          rw [← hin] at h2 h3
          omega) hn
        obtain ⟨S1, hS1⟩ : ∃ R, (forksB (bldT k.t) i Q next).1 = R := ⟨_, rfl⟩
        obtain ⟨F1, hF1⟩ : ∃ R, (forksB (bldT k.t) i Q next).2 = R := ⟨_, rfl⟩
        rw [← hin] at HREP
        rw [hS1] at HP3 hl5
        rw [hF1] at hs5 ⊢
        rw [hS1, hF1] at HREP
        have hroom9 : S1.length + cntT k.t * mn.toNat ≤ 1000000 := by
          have h2 := HQ2.out
          have h3 := HSP.out
          rw [← hin] at h2 h3
          omega
        have HRM := Lib.hid hroom9
        have HPS := HP3
        have HKS := HK3
        have HF1 := Lib.hid hF1
        clear hl5 hS1 hF1 hroom9 hin
        go_wp2
        have hm1 : (0 : Int) ≤ mn := by omega
        go_loopw [9, 61] (fun fv kv wr => ∃ (j : Nat), (j : Int) ≤ mn ∧ kv = .int .i64 (j : Nat) ∧ MustR k.t base b v y1 y2 y3 S1 F1 w0 j fv wr) (fun _ kv _ => (mn - intOf kv).toNat)
        case atStart => exact ⟨0, by omega, by first | rfl | go_num, v3, rfl, HPS.out, HKS.out⟩
        case round =>
          obtain ⟨j, hj, rfl, v5, rfl, hp5, hk5⟩ := hrel
          have HP5 := Lib.hid hp5
          have HK5 := Lib.hid hk5
          clear hp5 hk5
          by_cases h : (j : Int) < mn
          · have hroom : S1.length + cntT k.t * (j + 1) ≤ 1000000 := by
              have h1 := mul_up (c := cntT k.t) (show j + 1 ≤ mn.toNat by omega)
              have := HRM.out; omega
            rw [Nat.mul_succ] at hroom
            have hl5 := must_len HWF.out j S1 F1
            have hs5 := must_start HWF.out j S1 F1 (by omega) (by omega)
            have hMS := must_succ (bldT k.t) j S1 F1
            obtain ⟨R1, hR1⟩ : ∃ R, (mustB (bldT k.t) j S1 F1).1 = R := ⟨_, rfl⟩
            obtain ⟨R2, hR2⟩ : ∃ R, (mustB (bldT k.t) j S1 F1).2 = R := ⟨_, rfl⟩
            rw [hR1] at HP5 hl5 hMS
            rw [hR2] at hs5 hMS ⊢
            have HMS := Lib.hid hMS
            obtain ⟨KC_, KN_, KG_⟩ := HKEEP.out wr v5 HK5.out
            obtain ⟨⟨d0, d1, d2, d3, d4, d5, d6, d7⟩, _⟩ := node_cells KC_
            have hBr : base ≤ wr.heap.size := Nat.le_trans hB0 HK5.out.size
            have BB := Lib.hid (HHS.out base b v5 y1 y2 y3 R1 R2 wr KG_ HWF.out HLB.out HP5.out (by omega) hs5 hBr)
            have HR2 := Lib.hid hR2
            clear hroom hl5 hs5 hMS hR1 hR2 KC_ KN_ KG_ hBr
            go_wp2_with fail
            refine BB.out.mono ?_
            rintro e w6 ⟨v6, rfl, hp6, hk6⟩
            have HP6 := Lib.hid hp6
            have HK6 := Lib.hid (HK5.out.trans hk6)
            clear hp6 hk6 BB d0 d1 d2 d3 d4 d5 d6 d7
            go_wp2
            go_round
            case rel => exact ⟨j + 1, by omega, by go_num, v6, by rw [HMS.out], by rw [HMS.out]; exact HP6.out, HK6.out⟩
            case measure => first | (simp [intOf]; done) | (simp [intOf]; omega)
          · have hj9 : (j : Int) = mn := by omega
            have hjn : j = mn.toNat := by omega
            have HJN := Lib.hid hjn
            have hnl : ¬ (j : Int) < mn := h
            clear hj9 hjn
            go_wp2
            go_ret
            have hKK : KG (fun k => k = b) W v wr v5 := (KG.of_below HBW.out).trans HK5.out
            have hPP := HP5.out
            rw [HJN.out] at hPP ⊢
            rw [HREP.out]
            first | exact ⟨rfl, v5, hPP, hKK⟩ | exact ⟨v5, rfl, hPP, hKK⟩
theorem bld_nil (Q : List St) (n : Nat) : bldT .nil Q n = (Q, n) := by rw [NodeT.nil, bldT]; rfl
theorem bld_one (S : Nat) (Q : List St) (n : Nat) : bldT (.one S) Q n = (Q ++ [takeS S n], Q.length) := by rw [NodeT.one, bldT]; rfl
theorem bld_beg (Q : List St) (n : Nat) : bldT (.mk 2 0 0 0 []) Q n = (Q ++ [begS n], Q.length) := by rw [bldT]; rfl
theorem bld_fin (Q : List St) (n : Nat) : bldT (.mk 3 0 0 0 []) Q n = (Q ++ [endS n], Q.length) := by rw [bldT]; rfl
theorem bld_cat (l : List NodeT) (Q : List St) (n : Nat) : bldT (.mk 4 0 0 0 l) Q n = bldC l Q n := by rw [bldT]; rfl
theorem bld_alt (l : List NodeT) (Q : List St) (n : Nat) : bldT (.mk 5 0 0 0 l) Q n = bldA l Q n := by rw [bldT]; rfl
theorem bld_rep (x : NodeT) (m n : Int) (Q : List St) (f : Nat) : bldT (.rep x m n) Q f = repB2 (bldT x) m n Q f := by rw [NodeT.rep, bldT]; rfl
theorem wf_leaf {x : NodeX} (h : WF x.t) : (x.kind = 0 ∧ x.t = .nil) ∨ (x.kind = 1 ∧ x.t = .one x.set) ∨ (x.kind = 2 ∧ x.t = .mk 2 0 0 0 []) ∨ (x.kind = 3 ∧ x.t = .mk 3 0 0 0 []) ∨ (x.kind = 4 ∧ x.t = .mk 4 0 0 0 (x.kids.map NodeX.t) ∧ ∀ y, y ∈ x.kids → WF y.t) ∨ (x.kind = 5 ∧ x.t = .mk 5 0 0 0 (x.kids.map NodeX.t) ∧ x.kids ≠ [] ∧ ∀ y, y ∈ x.kids → WF y.t) ∨ (x.kind = 6 ∧ ∃ k, x.kids = [k] ∧ x.t = .rep k.t x.mn x.mx ∧ WF k.t ∧ 0 ≤ x.mn ∧ (x.mx = -1 ∨ x.mn ≤ x.mx)) := by
  obtain ⟨xk, xs, xm, xx, xA, xn, xc, xl⟩ := x
  simp only [NodeX.kind, NodeX.set, NodeX.mn, NodeX.mx, NodeX.A, NodeX.n, NodeX.c, NodeX.kids]
  have e : (NodeX.mk xk xs xm xx xA xn xc xl).t = .mk xk xs xm xx (xl.map NodeX.t) := by rw [NodeX.t, NodeX.ts_map]
  rw [e] at h ⊢
  generalize hl : xl.map NodeX.t = l at h ⊢
  cases h with
  | nil => exact .inl ⟨rfl, rfl⟩
  | one S => exact .inr (.inl ⟨rfl, rfl⟩)
  | beg => exact .inr (.inr (.inl ⟨rfl, rfl⟩))
  | fin => exact .inr (.inr (.inr (.inl ⟨rfl, rfl⟩)))
  | cat h => exact .inr (.inr (.inr (.inr (.inl ⟨rfl, rfl, fun y hy => h _ (by rw [← hl]; exact List.mem_map.2 ⟨y, hy, rfl⟩)⟩))))
  | alt h0 h => exact .inr (.inr (.inr (.inr (.inr (.inl ⟨rfl, rfl, fun e => h0 (by rw [← hl, e]; rfl), fun y hy => h _ (by rw [← hl]; exact List.mem_map.2 ⟨y, hy, rfl⟩)⟩)))))
  | rep hx h0 hn =>
    refine .inr (.inr (.inr (.inr (.inr (.inr ⟨rfl, ?_⟩)))))
    match xl, hl with
    | [k], hl =>
      rw [List.map_cons, List.map_nil] at hl
      injection hl with hl
      exact ⟨k, rfl, by rw [NodeT.rep, hl], by rw [hl]; exact hx, h0, hn⟩
theorem LowB.kids {x : NodeX} (h : LowB x.t) : ∀ y, y ∈ x.kids → LowB y.t := by
  obtain ⟨xk, xs, xm, xx, xA, xn, xc, xl⟩ := x
  rw [NodeX.t, NodeX.ts_map] at h
  cases h with
  | mk h1 h2 => exact fun y hy => h2 _ (List.mem_map.2 ⟨y, hy, rfl⟩)
theorem LowB.low {x : NodeX} (h : LowB x.t) (h6 : x.kind = 6) : x.mn ≤ 1000 ∧ x.mx ≤ 1000 := by
  obtain ⟨xk, xs, xm, xx, xA, xn, xc, xl⟩ := x
  rw [NodeX.t, NodeX.ts_map] at h
  cases h with
  | mk h1 h2 => exact h1 h6
def CatB (base b : Nat) (v y1 y2 y3 : Value) (Q : List St) (next : Nat) (xl : List NodeX) (W : World) (j : Nat) (fv : Value) (wr : World) : Prop := ∃ v2, fv = .int .i64 ((bldC ((xl.map NodeX.t).drop j) Q next).2 : Nat) ∧ PG base wr b v2 y1 y2 y3 (bldC ((xl.map NodeX.t).drop j) Q next).1 ∧ KG (fun k => k = b) W v wr v2
set_option maxRecDepth 100000 in
set_option maxHeartbeats 3200000 in
theorem build_step (x : NodeX) (HS : ∀ y, y ∈ x.kids → BuildC y) : BuildC x := by
  intro base b v y1 y2 y3 Q next W hx hwf hlow hP hq hn hB
  have K0 := Blk.new W 97 (nodeC x)
  have hb0 : Below W.heap.size W (W.alloc (.cells (nodeC x) 97)) := (Below.refl _ _).alloc (Nat.le_refl _) _
  obtain ⟨W1, hW1⟩ : ∃ z, W.alloc (.cells (nodeC x) 97) = z := ⟨_, rfl⟩
  rw [hW1] at K0 hb0
  obtain ⟨⟨a0, a1, a2, a3, a4, a5, a6, a7⟩, _⟩ := node_cells K0
  have HX1 := Lib.hid (hx.later hb0)
  have HP1 := Lib.hid (hP.below hb0)
  have HK1 := Lib.hid (show KG (fun k => k = b) W v W1 v from KG.of_below hb0)
  have HKC := Lib.hid K0
  have hB1 : base ≤ W1.heap.size := Nat.le_trans hB hb0.size
  have HX := Lib.hid hx
  have HP := Lib.hid hP
  have HSS := Lib.hid HS
  have HLOW := Lib.hid hlow
  have hlx := hx.row.1
  have hmx9 := hx.lenM
  clear K0 hb0 hx hP HS hlow
  have hQ9 : Q.length ≤ 1000000 := by omega
  rcases wf_leaf hwf with ⟨hk, ht⟩ | ⟨hk, ht⟩ | ⟨hk, ht⟩ | ⟨hk, ht⟩ | ⟨hk, ht, hw⟩ | ⟨hk, ht, h0, hw⟩ | ⟨hk, k, hkk, ht, hw, hm0, hmx⟩
  · rw [ht, bld_nil]
    have g1 : (x.kind == 1) = false := by rw [hk]; rfl
    have g2 : (x.kind == 2) = false := by rw [hk]; rfl
    have g3 : (x.kind == 3) = false := by rw [hk]; rfl
    have g4 : (x.kind == 4) = false := by rw [hk]; rfl
    have g5 : (x.kind == 5) = false := by rw [hk]; rfl
    have g6 : (x.kind == 6) = false := by rw [hk]; rfl
    clear hk ht hwf hlx
    go_enter Tryz.func59, Tryz.ntmps59
    go_wp2
    go_ret
    first | exact ⟨rfl, _, HP1.out, HK1.out⟩ | exact ⟨_, rfl, HP1.out, HK1.out⟩
  · rw [ht, bld_one]
    have AD := Lib.hid (addTake_any base b v y1 y2 y3 Q x.set next W1 HP1.out hQ9 hB1)
    have g1 : (x.kind == 1) = true := by rw [hk]; rfl
    have g2 : (x.kind == 2) = false := by rw [hk]; rfl
    have g3 : (x.kind == 3) = false := by rw [hk]; rfl
    have g4 : (x.kind == 4) = false := by rw [hk]; rfl
    have g5 : (x.kind == 5) = false := by rw [hk]; rfl
    have g6 : (x.kind == 6) = false := by rw [hk]; rfl
    clear hk ht hwf hlx
    go_enter Tryz.func59, Tryz.ntmps59
    go_wp2_with fail
    clear hW1
    refine AD.out.mono ?_
    rintro e w2 ⟨v2, rfl, hp2, hk2⟩
    have HP2 := Lib.hid hp2
    have HK2 := Lib.hid (HK1.out.trans hk2)
    clear hp2 hk2 AD
    go_wp2
    go_ret
    first | exact ⟨rfl, _, HP2.out, HK2.out⟩ | exact ⟨_, rfl, HP2.out, HK2.out⟩
  · rw [ht, bld_beg]
    have AD := Lib.hid (addBeg_any base b v y1 y2 y3 Q next W1 HP1.out hQ9 hB1)
    have g1 : (x.kind == 1) = false := by rw [hk]; rfl
    have g2 : (x.kind == 2) = true := by rw [hk]; rfl
    have g3 : (x.kind == 3) = false := by rw [hk]; rfl
    have g4 : (x.kind == 4) = false := by rw [hk]; rfl
    have g5 : (x.kind == 5) = false := by rw [hk]; rfl
    have g6 : (x.kind == 6) = false := by rw [hk]; rfl
    clear hk ht hwf hlx
    go_enter Tryz.func59, Tryz.ntmps59
    go_wp2_with fail
    clear hW1
    refine AD.out.mono ?_
    rintro e w2 ⟨v2, rfl, hp2, hk2⟩
    have HP2 := Lib.hid hp2
    have HK2 := Lib.hid (HK1.out.trans hk2)
    clear hp2 hk2 AD
    go_wp2
    go_ret
    first | exact ⟨rfl, _, HP2.out, HK2.out⟩ | exact ⟨_, rfl, HP2.out, HK2.out⟩
  · rw [ht, bld_fin]
    have AD := Lib.hid (addEnd_any base b v y1 y2 y3 Q next W1 HP1.out hQ9 hB1)
    have g1 : (x.kind == 1) = false := by rw [hk]; rfl
    have g2 : (x.kind == 2) = false := by rw [hk]; rfl
    have g3 : (x.kind == 3) = true := by rw [hk]; rfl
    have g4 : (x.kind == 4) = false := by rw [hk]; rfl
    have g5 : (x.kind == 5) = false := by rw [hk]; rfl
    have g6 : (x.kind == 6) = false := by rw [hk]; rfl
    clear hk ht hwf hlx
    go_enter Tryz.func59, Tryz.ntmps59
    go_wp2_with fail
    clear hW1
    refine AD.out.mono ?_
    rintro e w2 ⟨v2, rfl, hp2, hk2⟩
    have HP2 := Lib.hid hp2
    have HK2 := Lib.hid (HK1.out.trans hk2)
    clear hp2 hk2 AD
    go_wp2
    go_ret
    first | exact ⟨rfl, _, HP2.out, HK2.out⟩ | exact ⟨_, rfl, HP2.out, HK2.out⟩
  · rw [ht, cnt_cat] at hq
    rw [ht]
    have HBC := Lib.hid (fun (Q : List St) (n : Nat) => bld_cat (x.kids.map NodeX.t) Q n)
    rw [HBC.out]
    have g1 : (x.kind == 1) = false := by rw [hk]; rfl
    have g2 : (x.kind == 2) = false := by rw [hk]; rfl
    have g3 : (x.kind == 3) = false := by rw [hk]; rfl
    have g4 : (x.kind == 4) = true := by rw [hk]; rfl
    have g5 : (x.kind == 5) = false := by rw [hk]; rfl
    have g6 : (x.kind == 6) = false := by rw [hk]; rfl
    have HWF := Lib.hid hw
    obtain ⟨l, hlt⟩ : ∃ l, x.kids.map NodeX.t = l := ⟨_, rfl⟩
    obtain ⟨n, hnn⟩ : ∃ n, x.n = n := ⟨_, rfl⟩
    have hll : l.length = n := by rw [← hlt, List.length_map, ← hnn]; exact hlx
    have HWL := Lib.hid (show ∀ t, t ∈ l → WF t from fun t ht => by rw [← hlt] at ht; obtain ⟨y, hy, rfl⟩ := List.mem_map.1 ht; exact hw y hy)
    rw [hlt] at hq ⊢
    rw [hnn] at hlx hmx9
    have HBL := Lib.hid (fun (j : Nat) => wf_cat (l := l.drop j) (fun t ht => HWL.out t (List.mem_of_mem_drop ht)) Q next (by
      have := cntsT_drop_le l j
      omega) hn)
    have HCD := Lib.hid (fun (j : Nat) => cntsT_drop_le l j)
    have HGET := Lib.hid (show ∀ (k : Nat) (z : NodeX), x.kids[k]? = some z → ∀ (hk : k < l.length), l[k] = z.t from fun k z hz hk => by
      have h2 : l[k]? = some z.t := by rw [← hlt, List.getElem?_map, hz]; rfl
      rw [List.getElem?_eq_getElem hk] at h2
      exact Option.some.inj h2)
    have HLT := Lib.hid hlt
    have HNN := Lib.hid hnn
    have HLL := Lib.hid hll
    have HLX := Lib.hid hlx
    have hKEEP : ∀ (wr : World) (v2 : Value), KG (fun k => k = b) W1 v wr v2 → Blk wr W.heap.size 97 (nodeC x) ∧ GoodN wr (fun g => g ≠ b ∧ ¬ some g = v2.ownBlock) x := fun wr v2 h =>
      ⟨h.kept HKC.out (fun e => blk_ne HP1.out.blk HKC.out (by decide) e.symm) (fun e => by obtain ⟨cur, hc⟩ := own_blk HP1.out.row e.symm; exact blk_ne hc HKC.out (by decide) rfl), h.good HX1.out⟩
    have HKEEP := Lib.hid hKEEP
    rw [hnn] at a7
    clear hk ht hwf hw hlt hnn hll hlx hKEEP
    go_enter Tryz.func59, Tryz.ntmps59
    go_wp2
    clear hW1 a0 a1 a2 a3 a4 a5 a6 a7
    go_loopw [2, 7] (fun fv iv wr => ∃ (i : Int), -1 ≤ i ∧ i < n ∧ iv = .int .i64 i ∧ CatB base b v y1 y2 y3 Q next x.kids W1 (i + 1).toNat fv wr) (fun _ iv _ => (intOf iv + 1).toNat)
    case atStart =>
      refine ⟨(n : Int) - 1, by omega, by omega, by go_num, v, ?_, ?_, KG.refl _ _ _⟩
      · rw [HLT.out, show ((n : Int) - 1 + 1).toNat = l.length by rw [HLL.out]; omega, bldC_end]
      · rw [HLT.out, show ((n : Int) - 1 + 1).toNat = l.length by rw [HLL.out]; omega, bldC_end]
        exact HP1.out
    case round =>
      obtain ⟨i, hi1, hi2, rfl, v2, rfl, hp2, hk2⟩ := hrel
      rw [HLT.out] at hp2
      rw [HLT.out]
      have HP2 := Lib.hid hp2
      have HK2 := Lib.hid hk2
      clear hp2 hk2
      by_cases h : 0 ≤ i
      · obtain ⟨k, rfl⟩ := Int.eq_ofNat_of_zero_le h
        have hk : k < n := by omega
        have hkk : ((k : Int) + 1).toNat = k + 1 := by omega
        rw [hkk] at HP2 ⊢
        obtain ⟨z, hz⟩ : ∃ z, x.kids[k]? = some z := ⟨x.kids[k]'(by have := HLX.out; omega), List.getElem?_eq_getElem _⟩
        have hzm := List.mem_of_getElem? hz
        have hkl : k < l.length := by have := HLL.out; omega
        obtain ⟨KX, KG2⟩ := HKEEP.out wr v2 HK2.out
        have k7 := KX.cell 7
        obtain ⟨rb2, roff2, hA2, c0, c1, c2, c3, c4, c5, c6, c7⟩ := kids_row KG2 hz
        have k7b : wr.cell? ⟨W.heap.size, 7, none⟩ = some (.slice (some ⟨rb2, roff2, none⟩) n x.c) := by rw [k7, ← hA2, ← HNN.out]; rfl
        have hlk : l[k]'(by omega) = z.t := HGET.out k z hz _
        have hbk := HBL.out (k + 1)
        have hE := bldC_drop hkl Q next
        rw [hlk] at hE
        have hcd := cntsT_drop (l := l) (k := k) hkl
        rw [hlk] at hcd
        have hcl := HCD.out k
        obtain ⟨R1, hR1⟩ : ∃ R, (bldC (l.drop (k + 1)) Q next).1 = R := ⟨_, rfl⟩
        obtain ⟨R2, hR2⟩ : ∃ R, (bldC (l.drop (k + 1)) Q next).2 = R := ⟨_, rfl⟩
        rw [hR1] at HP2 hE hbk
        rw [hR2] at hE hbk ⊢
        have hcz : R1.length + cntT z.t ≤ 1000000 := by
          have := hbk.1
          omega
        have hR9 : R2 ≤ 1000000 := hbk.2
        have hBr : base ≤ wr.heap.size := Nat.le_trans hB1 HK2.out.size
        have BB := Lib.hid (HSS.out z hzm base b v2 y1 y2 y3 R1 R2 wr (KG2.kid hzm) (HWF.out z hzm) (HLOW.out.kids z hzm) HP2.out hcz hR9 hBr)
        have HE := Lib.hid hE
        have HRR := Lib.hid hR2
        have HZ := Lib.hid hz
        clear hz hzm hlk hE hcd hR1 hR2 hkk hbk hcl hcz hR9 KX KG2 k7 hA2
        go_wp2_with fail
        refine BB.out.mono ?_
        rintro e w3 ⟨v3, rfl, hp3, hk3⟩
        have HP3 := Lib.hid hp3
        have HK3 := Lib.hid (HK2.out.trans hk3)
        clear hp3 hk3 BB c0 c1 c2 c3 c4 c5 c6 c7 k7b
        go_wp2
        go_round
        case rel =>
          refine ⟨(k : Int) - 1, by omega, by omega, by go_num, v3, ?_, ?_, HK3.out⟩
          · rw [HLT.out, show ((k : Int) - 1 + 1).toNat = k by omega, HE.out]
          · rw [HLT.out, show ((k : Int) - 1 + 1).toNat = k by omega, HE.out]
            exact HP3.out
        case measure => first | (simp [intOf]; done) | (simp [intOf]; omega)
      · obtain rfl : i = -1 := by omega
        have e0 : ((-1 : Int) + 1).toNat = 0 := rfl
        rw [e0, List.drop_zero] at HP2 ⊢
        go_wp2
        go_ret
        have hKK := HK1.out.trans HK2.out
        first | exact ⟨rfl, _, HP2.out, hKK⟩ | exact ⟨_, rfl, HP2.out, hKK⟩
  · rw [ht, bld_alt]
    skip
    have AD := Lib.hid (buildAlt_any x HSS.out base b v y1 y2 y3 Q next W1 HX1.out hw HLOW.out.kids h0 HP1.out (by rw [ht, cnt_alt, List.length_map] at hq; omega) hn hB1)
    have g1 : (x.kind == 1) = false := by rw [hk]; rfl
    have g2 : (x.kind == 2) = false := by rw [hk]; rfl
    have g3 : (x.kind == 3) = false := by rw [hk]; rfl
    have g4 : (x.kind == 4) = false := by rw [hk]; rfl
    have g5 : (x.kind == 5) = true := by rw [hk]; rfl
    have g6 : (x.kind == 6) = false := by rw [hk]; rfl
    clear hk ht hwf hlx
    go_enter Tryz.func59, Tryz.ntmps59
    go_wp2_with fail
    clear hW1
    refine AD.out.mono ?_
    rintro e w2 ⟨v2, rfl, hp2, hk2⟩
    have HP2 := Lib.hid hp2
    have HK2 := Lib.hid (HK1.out.trans hk2)
    clear hp2 hk2 AD
    go_wp2
    go_ret
    first | exact ⟨rfl, _, HP2.out, HK2.out⟩ | exact ⟨_, rfl, HP2.out, HK2.out⟩
  · rw [ht, bld_rep]
    skip
    have AD := Lib.hid (buildRepeat_any x k hkk (HSS.out k (by rw [hkk]; simp)) base b v y1 y2 y3 Q next W1 HX1.out hw (HLOW.out.kids k (by rw [hkk]; simp)) hm0 hmx (HLOW.out.low hk) HP1.out (by rw [ht] at hq; exact hq) hn hB1)
    have g1 : (x.kind == 1) = false := by rw [hk]; rfl
    have g2 : (x.kind == 2) = false := by rw [hk]; rfl
    have g3 : (x.kind == 3) = false := by rw [hk]; rfl
    have g4 : (x.kind == 4) = false := by rw [hk]; rfl
    have g5 : (x.kind == 5) = false := by rw [hk]; rfl
    have g6 : (x.kind == 6) = true := by rw [hk]; rfl
    clear hk ht hwf hlx
    go_enter Tryz.func59, Tryz.ntmps59
    go_wp2_with fail
    clear hW1
    refine AD.out.mono ?_
    rintro e w2 ⟨v2, rfl, hp2, hk2⟩
    have HP2 := Lib.hid hp2
    have HK2 := Lib.hid (HK1.out.trans hk2)
    clear hp2 hk2 AD
    go_wp2
    go_ret
    first | exact ⟨rfl, _, HP2.out, HK2.out⟩ | exact ⟨_, rfl, HP2.out, HK2.out⟩
theorem build_all : ∀ (m : Nat) (x : NodeX), SizeOf.sizeOf x < m → BuildC x := by
  intro m
  induction m with
  | zero => exact fun x h => absurd h (Nat.not_lt_zero _)
  | succ m ih =>
    intro x h
    refine build_step x (fun y hy => ih y ?_)
    have h1 := List.sizeOf_lt_of_mem hy
    cases x
    simp [NodeX.kids] at h1 h
    omega
theorem build_any (x : NodeX) : BuildC x := build_all _ x (Nat.lt_succ_self _)
end Go.Proofs.YtbkpoimaienhpaaGreatDoor
