-- shaken
import Derived.Test.YtbkpoimaienhpaaGreatDoorBase
import Derived.Test.YtbkpoimaienhpaaGreatDoorProg
import Derived.Test.YtbkpoimaienhpaaGreatDoorRexNF
import Derived.Shelf.Strings.Builder1
import Derived.Shelf.Strings.BuilderF
import Derived.Test.YtbkpoimaienhpaaGreatDoorRexSize
import Derived.Test.YtbkpoimaienhpaaGreatDoorMem
namespace Go.Proofs.YtbkpoimaienhpaaGreatDoor
open Go.RowKit
set_option linter.unusedVariables false
set_option linter.unusedSimpArgs false
theorem infoBld : (Tryz.prog.info? 152).map (·.size) = some 2 := by kernel_rfl
theorem liesBld : liesAt Tryz.prog Tryz.prog.depth 154 (2 / Tryz.prog.cellsOf 154) 0 152 1 = true := by kernel_rfl
theorem cellsU8 : Tryz.prog.cellsOf 5 = 1 := by kernel_rfl
structure Wrote (B b : Nat) (w w' : World) : Prop where
  below : Below B w w'
  kept : ∀ (g : Nat) (cs : Array Value) (T : TypeId) (fr : Nat × Nat), T ≠ 5 → g ≠ b → w.heap[g]? = some (.cells cs T fr) → w'.heap[g]? = some (.cells cs T fr)
theorem Wrote.refl (B b : Nat) (w : World) : Wrote B b w w := ⟨Below.refl _ _, fun _ _ _ _ _ _ h => h⟩
theorem Wrote.trans {B b : Nat} {w1 w2 w3 : World} (h : Wrote B b w1 w2) (k : Wrote B b w2 w3) : Wrote B b w1 w3 :=
  ⟨h.below.trans k.below, fun g cs T fr h1 h2 h3 => k.kept g cs T fr h1 h2 (h.kept g cs T fr h1 h2 h3)⟩
theorem Wrote.size {B b : Nat} {w w' : World} (h : Wrote B b w w') : w.heap.size ≤ w'.heap.size := h.below.size
def Wr (B b : Nat) (l : List UInt8) (w : World) : Prop := Lib.IsBuilder 154 5 B b (Lib.byteCells l) w
set_option maxHeartbeats 1000000 in
set_option maxRecDepth 100000 in
theorem wr_check (B b : Nat) (bs : List Value) (w : World) (h : Lib.IsBuilder 154 5 B b bs w) :
    Calls Tryz.prog 116 #[.pointer (some ⟨b, 0, none⟩)] w fun e w' => e = .returned (.tuple #[]) ∧ Lib.BuilderAt 154 5 B b (.pointer (some ⟨b, 0, none⟩)) bs w' ∧ Wrote B b w w' := by
  obtain ⟨j, hj, hjs⟩ := Option.map_eq_some_iff.1 infoBld
  rcases h with h | h
  · have h0 := h.cell0
    have hsh := h.shape
    have hfz := h.frozen0
    have HA := Lib.hid (h.used (.pointer (some ⟨b, 0, none⟩)))
    have HB := Lib.hid (show Wrote B b w (w.setCell ⟨b, 0, none⟩ (.pointer (some ⟨b, 0, none⟩))) from ⟨(Below.refl B w).setCell (p := ⟨b, 0, none⟩) h.1 (.pointer (some ⟨b, 0, none⟩)), fun g cs T fr _ hg he => (Below.heap_setCell _ _ _ _ hg).trans he⟩)
    clear h
    go_enter Tryz.func116, Tryz.ntmps116
    go_wp2
    rw [Lib.run_to_unsafe w ⟨b, 0, none⟩ Tryz.underlying149 Tryz.underlying206 hj (by rw [hjs]; decide) hsh (Nat.zero_lt_succ 1)]
    simp only [Result.andThen]
    rw [Oper.upon_value]
    go_wp2
    rw [run_callFunc_extern Tryz.func134 (by kernel_rfl) (by kernel_rfl) (by kernel_rfl) (e := Extern.AbiNoEscape.same) (by kernel_rfl)]
    rw [Lib.run_noEscape]
    simp only [Result.andThen]
    rw [Oper.upon_value]
    go_wp2
    rw [Lib.run_from_unsafe w ⟨b, 0, none⟩ Tryz.underlying206 Tryz.underlying149 hj hsh liesBld]
    simp only [Result.andThen]
    rw [Oper.upon_value]
    go_wp2
    go_end0
    exact ⟨rfl, HA.out, HB.out⟩
  · have h0 := h.cell0
    have HA := Lib.hid h
    clear h
    go_enter Tryz.func116, Tryz.ntmps116
    go_wp2
    rw [Lib.run_neq_ptr_same w _ Tryz.underlying149 hj]
    go_wp2
    go_end0
    exact ⟨rfl, HA.out, Wrote.refl B b w⟩
theorem lt_cells {w : World} {b : Nat} {o : Obj} (h : w.heap[b]? = some o) : b < w.heap.size := by
  rcases Nat.lt_or_ge b w.heap.size with h' | h'
  · exact h'
  · simp [Array.getElem?_eq_none h'] at h
theorem cell_one {w : World} {b : Nat} {p v : Value} {T : TypeId} (h : w.heap[b]? = some (.cells #[p, v] T (0, 0))) : w.cell? ⟨b, 1, none⟩ = some v := by
  rw [Lib.cell_of_heap h]
  rfl
theorem own_other {w : World} {B e n g : Nat} {v : Value} {xs : List Value} {cs : Array Value} {T : TypeId} {fr : Nat × Nat} (h : w.ownsRow B e 1 v n xs) (hg : w.heap[g]? = some (.cells cs T fr)) (hT : T ≠ e) : ¬ some g = v.ownBlock := fun he => Lib.ownBlock_ne h hg hT he.symm
set_option maxHeartbeats 2000000 in
set_option maxRecDepth 100000 in
theorem wr_byte (B b : Nat) (l : List UInt8) (c : UInt8) (n : Int) (hn : n = (c.toNat : Int)) (w : World) (h : Wr B b l w) (hlen : l.length + 1 ≤ 140737488355328) (hBw : B ≤ w.heap.size) :
    Calls Tryz.prog 99 #[.pointer (some ⟨b, 0, none⟩), .int .u8 n] w fun e w' => e = .returned .nilIface ∧ Wr B b (l ++ [c]) w' ∧ Wrote B b w w' := by
  obtain ⟨i0, hi, hz0, hz1, hz2⟩ := info_parts infoU8
  have hcl : (Lib.byteCells l).length = l.length := Lib.byteCells_length l
  have CK := Lib.hid (wr_check B b _ w h)
  have hsn : Lib.byteCells (l ++ [c]) = Lib.byteCells l ++ [.int .u8 n] := by rw [hn]; simp [Lib.byteCells]
  obtain ⟨bs, hbs⟩ : ∃ bs, Lib.byteCells l = bs := ⟨_, rfl⟩
  rw [hbs] at CK hsn hcl
  rw [← hcl] at hlen
  have HSN := Lib.hid hsn
  clear h hsn hn hbs hcl
  go_enter Tryz.func99, Tryz.ntmps99
  go_wp2_with fail
  refine CK.out.mono ?_
  rintro e w1 ⟨rfl, h1, hk1⟩
  have hb1 := hk1.below
  obtain ⟨hB, v, hbk, hown, hne⟩ := h1
  have c1 := cell_one hbk
  go_wp2_with (at_builtin; refine wpList_append_own _ rfl _ _ 150 rfl B 5 i0 (.int .u8 0) 1 1 Tryz.underlying150 hi hz0 hz1 hz2 rfl (by decide) _ _ _ rfl (hown.alloc _) ⟨w1.heap.size, 0, none⟩ 1 1 [.int .u8 n] rfl rfl ?c1 ?c2 ?c3 ?c4 ?c5 ?_)
  case c1 =>
    intro j u hj
    match j, hj with
    | 0, hj => simp at hj; subst hj; simp [Addr.add]
  case c2 => intro u hu; simp at hu; subst hu; rfl
  case c3 => unfold maxLen; omega
  case c4 => omega
  case c5 => have := hb1.size; simp; omega
  intro v' w2 hown' hgrow _
  have hlt : b < w1.heap.size := lt_cells hbk
  have hb2 : w2.heap[b]? = some (.cells #[.pointer (some ⟨b, 0, none⟩), v] 154 (0, 0)) := by
    rw [hgrow.block b (by simp; omega) (fun e => hne e.symm), Lib.alloc_old w1 _ b hlt]
    exact hbk
  have d1 := cell_one hb2
  have f1 : w2.frozen? ⟨b, 1, none⟩ = false := Lib.frozen_of_heap hb2 1
  have HW := Lib.hid (Lib.BuilderAt.put (T := 154) (e := 5) hB hb2 (bs' := bs ++ [.int .u8 n]) (by simpa using hown') (by decide))
  have HB := Lib.hid (show Wrote B b w (w2.setCell ⟨b, 1, none⟩ v') from ⟨(((hb1.alloc (by have := hb1.size; omega) _).grown hgrow (by have := hb1.size; simp; omega) (fun k hk => (hown.lt k hk).1)).setCell (p := ⟨b, 1, none⟩) hB v'), fun g cs T fr hT hg he => by
    have h1 := hk1.kept g cs T fr hT hg he
    rw [Below.heap_setCell _ _ _ _ hg, hgrow.block g (by have := lt_cells h1; simp; omega) (own_other hown h1 hT), Lib.alloc_old w1 _ g (lt_cells h1)]
    exact h1⟩)
  obtain ⟨g, cap, rfl⟩ : ∃ g cap, v' = .slice (some ⟨g, 0, none⟩) (bs.length + 1) cap := by
    rcases hown'.2 with ⟨_, h0⟩ | ⟨g, cap, cur, hv, _⟩
    · omega
    · exact ⟨g, cap, hv⟩
  clear hown hown' hgrow hbk hk1
  go_wp2
  go_ret
  refine ⟨rfl, ?_, HB.out⟩
  unfold Wr
  rw [HSN.out]
  exact .inr HW.out
set_option maxHeartbeats 2000000 in
set_option maxRecDepth 100000 in
theorem wr_string (B b : Nat) (l : List UInt8) (s : ByteArray) (w : World) (h : Wr B b l w) (hlen : l.length + s.size ≤ 140737488355328) (hBw : B ≤ w.heap.size) :
    Calls Tryz.prog 117 #[.pointer (some ⟨b, 0, none⟩), .string s] w fun e w' => e = .returned (.tuple #[.int .i64 s.size, .nilIface]) ∧ Wr B b (l ++ s.data.toList) w' ∧ Wrote B b w w' := by
  obtain ⟨i0, hi, hz0, hz1, hz2⟩ := info_parts infoU8
  have hcl : (Lib.byteCells l).length = l.length := Lib.byteCells_length l
  have CK := Lib.hid (wr_check B b _ w h)
  have hsn : Lib.byteCells (l ++ s.data.toList) = Lib.byteCells l ++ Lib.strCells s := by rw [Lib.strCells_eq]; simp [Lib.byteCells]
  obtain ⟨bs, hbs⟩ : ∃ bs, Lib.byteCells l = bs := ⟨_, rfl⟩
  rw [hbs] at CK hsn hcl
  rw [← hcl] at hlen
  have HSN := Lib.hid hsn
  clear h hsn hbs hcl
  go_enter Tryz.func117, Tryz.ntmps117
  go_wp2_with fail
  refine CK.out.mono ?_
  rintro e w1 ⟨rfl, h1, hk1⟩
  have hb1 := hk1.below
  obtain ⟨hB, v, hbk, hown, hne⟩ := h1
  have c1 := cell_one hbk
  go_wp2_with (at_builtin; refine Lib.wpList_append_own_string _ rfl _ _ 150 9 rfl B 5 i0 Tryz.underlying150 Tryz.underlying9 hi hz0 hz1 hz2 _ _ _ rfl hown s rfl ?c3 ?c4 ?c5 ?_)
  case c3 => unfold maxLen; omega
  case c4 => omega
  case c5 => have := hb1.size; omega
  intro v' w2 hown' hgrow _
  have hlt : b < w1.heap.size := lt_cells hbk
  have hb2 : w2.heap[b]? = some (.cells #[.pointer (some ⟨b, 0, none⟩), v] 154 (0, 0)) := by
    rw [hgrow.block b hlt (fun e => hne e.symm)]
    exact hbk
  have d1 := cell_one hb2
  have f1 : w2.frozen? ⟨b, 1, none⟩ = false := Lib.frozen_of_heap hb2 1
  have HW := Lib.hid (Lib.BuilderAt.put (T := 154) (e := 5) hB hb2 (bs' := bs ++ Lib.strCells s) (by simpa [Lib.strCells_length] using hown') (by decide))
  have HB := Lib.hid (show Wrote B b w (w2.setCell ⟨b, 1, none⟩ v') from ⟨((hb1.grown hgrow (by have := hb1.size; omega) (fun k hk => (hown.lt k hk).1)).setCell (p := ⟨b, 1, none⟩) hB v'), fun g cs T fr hT hg he => by
    have h1 := hk1.kept g cs T fr hT hg he
    rw [Below.heap_setCell _ _ _ _ hg, hgrow.block g (lt_cells h1) (own_other hown h1 hT)]
    exact h1⟩)
  obtain ⟨ao, n', cap, rfl⟩ : ∃ ao n' cap, v' = .slice ao n' cap := by
    rcases hown'.2 with ⟨hv, _⟩ | ⟨g, cap, cur, hv, _⟩
    · exact ⟨_, _, _, hv⟩
    · exact ⟨_, _, _, hv⟩
  clear hown hown' hgrow hbk hk1
  go_wp2
  go_ret2
  refine ⟨rfl, ?_, HB.out⟩
  unfold Wr
  rw [HSN.out]
  exact .inr HW.out
theorem us_none (W : World) (q : Option Addr) : (Builtin.unsafeString_ #[177, 3] 9 #[.pointer q, .int .i64 0]).run Tryz.prog W = .ok (.string .empty) W :=
  Lib.run_unsafeString_none W _ _ _ q
set_option maxHeartbeats 2000000 in
set_option maxRecDepth 100000 in
theorem wr_told (B b : Nat) (l : List UInt8) (w : World) (h : Wr B b l w) (hBw : B ≤ w.heap.size) :
    Calls Tryz.prog 80 #[.pointer (some ⟨b, 0, none⟩)] w fun e w' => e = .returned (.string ⟨l.toArray⟩) ∧ Below B w w' := by
  obtain ⟨p, hB, v, hbk, hown, hne⟩ : ∃ p, Lib.BuilderAt 154 5 B b p (Lib.byteCells l) w := by
    rcases h with h | h
    · exact ⟨_, h⟩
    · exact ⟨_, h⟩
  clear h
  rw [Lib.byteCells_length] at hown
  have hUS := us_none
  have hlt : b < w.heap.size := lt_cells hbk
  by_cases h0 : l = []
  · subst h0
    rcases hown.2 with ⟨rfl, _⟩ | ⟨g, cap, cur, rfl, hbg, hg, _, _, _, _⟩
    · have c1 : w.drew.cell? ⟨b, 1, none⟩ = some (.slice none 0 0) := cell_one (w := w.drew) hbk
      have hSD : (Builtin.unsafeSliceData_ #[150] 177 #[.slice none 0 0]).run Tryz.prog w.drew = .ok (.pointer none) w.drew := rfl
      clear hown hbk hne
      go_enter Tryz.func80, Tryz.ntmps80
      go_wp2
      go_region
      all_goals (go_wp2; go_ret; exact ⟨rfl, Below.drew (Below.refl B w)⟩)
    · by_cases hc0 : cap = 0
      · subst hc0
        have c1 : w.drew.cell? ⟨b, 1, none⟩ = some (.slice (some ⟨g, 0, none⟩) 0 0) := cell_one (w := w.drew) hbk
        have hSD : (Builtin.unsafeSliceData_ #[150] 177 #[.slice (some ⟨g, 0, none⟩) 0 0]).run Tryz.prog w.drew = .ok (.pointer (some ⟨w.drew.heap.size, 0, none⟩)) (w.drew.alloc (.view ⟨g, 0, none⟩ 5)) :=
          Lib.run_unsafeSliceData_zero w.drew _ _ 5 Tryz.underlying177 ⟨g, 0, none⟩ 0 (5, cur.size) (by have hg' : w.drew.heap[g]? = some (.cells cur 5 (0, 0)) := hg; simp [World.shape?, hg'])
        have c2 : (w.drew.alloc (.view ⟨g, 0, none⟩ 5)).cell? ⟨b, 1, none⟩ = some (.slice (some ⟨g, 0, none⟩) 0 0) :=
          cell_one (w := w.drew.alloc (.view ⟨g, 0, none⟩ 5)) (((Lib.alloc_old w.drew _ b hlt).trans hbk))
        have c3 : (w.alloc (.view ⟨g, 0, none⟩ 5)).drew.cell? ⟨b, 1, none⟩ = some (.slice (some ⟨g, 0, none⟩) 0 0) := c2
        have c0 : w.cell? ⟨b, 1, none⟩ = some (.slice (some ⟨g, 0, none⟩) 0 0) := c1
        clear hown hbk hne
        go_enter Tryz.func80, Tryz.ntmps80
        go_wp2
        go_region
        all_goals (go_wp2; go_ret; exact ⟨rfl, (Below.drew (Below.refl B w)).alloc hBw _⟩)
      · have c1 : w.drew.cell? ⟨b, 1, none⟩ = some (.slice (some ⟨g, 0, none⟩) 0 cap) := cell_one (w := w.drew) hbk
        have hSD : (Builtin.unsafeSliceData_ #[150] 177 #[.slice (some ⟨g, 0, none⟩) 0 cap]).run Tryz.prog w.drew = .ok (.pointer (some ⟨g, 0, none⟩)) w.drew :=
          Lib.run_unsafeSliceData_row _ _ _ _ _ _ hc0
        clear hc0 hown hbk hne
        go_enter Tryz.func80, Tryz.ntmps80
        go_wp2
        go_region
        all_goals (go_wp2; go_ret; exact ⟨rfl, Below.drew (Below.refl B w)⟩)
  · have hl0 : l.length ≠ 0 := by simpa using h0
    obtain ⟨g, cap, cur, rfl, hbg, hg, hnc, hcm, hcs, htake⟩ : ∃ g cap cur, v = .slice (some ⟨g, 0, none⟩) l.length cap ∧ B ≤ g ∧ w.heap[g]? = some (.cells cur 5 (0, 0)) ∧ l.length ≤ cap ∧ cap ≤ maxLen ∧ cur.size = cap * 1 ∧ cur.toList.take (l.length * 1) = Lib.byteCells l := by
      rcases hown.2 with ⟨_, hz⟩ | ⟨g, cap, cur, hv, r⟩
      · exact absurd hz hl0
      · exact ⟨g, cap, cur, hv, r⟩
    have c1 : w.drew.cell? ⟨b, 1, none⟩ = some (.slice (some ⟨g, 0, none⟩) l.length cap) := cell_one (w := w.drew) hbk
    have hSD : (Builtin.unsafeSliceData_ #[150] 177 #[.slice (some ⟨g, 0, none⟩) l.length cap]).run Tryz.prog w.drew = .ok (.pointer (some ⟨g, 0, none⟩)) w.drew :=
      Lib.run_unsafeSliceData_row _ _ _ _ _ _ (by omega)
    have hUS : (Builtin.unsafeString_ #[177, 3] 9 #[.pointer (some ⟨g, 0, none⟩), .int .i64 l.length]).run Tryz.prog w.drew = .ok (.string ⟨l.toArray⟩) (w.drew.freeze ⟨g, 0, none⟩ l.length) := by
      refine Lib.run_unsafeString_row w.drew 177 3 9 5 Tryz.underlying177 cellsU8 g cur.size (by have hg' : w.drew.heap[g]? = some (.cells cur 5 (0, 0)) := hg; simp [World.shape?, hg']) l h0 (by omega) (by unfold maxLen at hcm; omega) ?_
      intro j x hx
      exact hown.cells (g := g) rfl j (.int .u8 x.toNat) (by simp [Lib.byteCells, hx])
    clear hown hbk hne htake
    go_enter Tryz.func80, Tryz.ntmps80
    go_wp2
    go_region
    all_goals (go_wp2; go_ret; exact ⟨rfl, Lib.below_freeze (Below.drew (Below.refl B w)) (p := ⟨g, 0, none⟩) hbg _⟩)
def byteU (c : UInt8) (al : List UInt8) : List UInt8 := if c ∈ al then [92, c] else [c]
def Among (am : ByteArray) (al : List UInt8) : Prop := ∀ c : UInt8, ∃ z : Int, (∀ w, Calls Tryz.prog 133 #[.string am, .int .u8 (c.toNat : Int)] w fun e w' => e = .returned (.int .i64 z) ∧ w' = w) ∧ (z < 0 ↔ ¬ c ∈ al)
set_option maxRecDepth 100000 in
set_option maxHeartbeats 1600000 in
theorem byteOf_any (B b : Nat) (l : List UInt8) (c : UInt8) (n : Int) (hn : n = (c.toNat : Int)) (am : ByteArray) (al : List UInt8) (HA : Among am al) (W : World) (h : Wr B b l W) (hlen : l.length + (byteU c al).length ≤ 140737488355328) (hB : B ≤ W.heap.size) :
    Calls Tryz.prog 113 #[.pointer (some ⟨b, 0, none⟩), .int .u8 n, .string am] W fun e w' => e = .returned (.tuple #[]) ∧ Wr B b (l ++ byteU c al) w' ∧ Wrote B b W w' := by
  obtain ⟨z, hz1, hz2⟩ := HA c
  rw [← hn] at hz1
  have HZ := Lib.hid hz1
  have HW := Lib.hid h
  have HN := Lib.hid hn
  clear h hz1 hn HA
  by_cases hc : c ∈ al
  · have hz : ¬ z < 0 := fun h => hz2.1 h hc
    have hz3 : 0 ≤ z := by omega
    have hz4 : z ≥ 0 := hz3
    have e : byteU c al = [92, c] := by unfold byteU; rw [if_pos hc]
    rw [e] at hlen ⊢
    have WA := Lib.hid (fun w (h : Wr B b l w) hb => wr_byte B b l 92 92 rfl w h (by simp at hlen; omega) hb)
    have WC := Lib.hid (fun w (h : Wr B b (l ++ [92]) w) hb => wr_byte B b (l ++ [92]) c n HN.out w h (by simp at hlen ⊢; omega) hb)
    clear hlen e hz2 hc
    go_enter Tryz.func113, Tryz.ntmps113
    go_wp2_with fail
    refine (HZ.out _).mono ?_
    rintro e w1 ⟨rfl, rfl⟩
    go_wp2_with fail
    refine (WA.out _ HW.out hB).mono ?_
    rintro e w2 ⟨rfl, h2, hb2⟩
    go_wp2_with fail
    refine (WC.out _ h2 (Nat.le_trans hB hb2.size)).mono ?_
    rintro e w3 ⟨rfl, h3, hb3⟩
    go_wp2
    go_end0
    rw [List.append_assoc] at h3
    exact ⟨rfl, h3, hb2.trans hb3⟩
  · have hz : z < 0 := hz2.2 hc
    have hz3 : ¬ 0 ≤ z := by omega
    have hz4 : ¬ z ≥ 0 := hz3
    have e : byteU c al = [c] := by unfold byteU; rw [if_neg hc]
    rw [e] at hlen ⊢
    have WC := Lib.hid (fun w (h : Wr B b l w) hb => wr_byte B b l c n HN.out w h (by simp at hlen; omega) hb)
    clear hlen e hz2 hc
    go_enter Tryz.func113, Tryz.ntmps113
    go_wp2_with fail
    refine (HZ.out _).mono ?_
    rintro e w1 ⟨rfl, rfl⟩
    go_wp2_with fail
    refine (WC.out _ HW.out hB).mono ?_
    rintro e w3 ⟨rfl, h3, hb3⟩
    go_wp2
    go_end0
    exact ⟨rfl, h3, hb3⟩
theorem among_spec : Among ⟨#[92, 46, 91, 93, 40, 41, 42, 43, 63, 123, 125, 124, 94, 36]⟩ spec := special_any
theorem among_cspec : Among ⟨#[92, 93, 45, 94]⟩ cspec := cspecial_any
theorem byteP_U (b : Nat) (al : List UInt8) : byteP b al = byteU (UInt8.ofNat b) al := rfl
def LibB (B : Nat) (W : World) : Prop := ∀ w, Below B W w → LibIs w
theorem LibB.next {B : Nat} {W w : World} (h : LibB B W) (hb : Below B W w) : LibB B w := fun w2 h2 => h w2 (hb.trans h2)
theorem LibB.of {W : World} (h : LibIs W) : LibB W.heap.size W := fun w hb => h.below hb
theorem rexNumber_any (n : Int) (h0 : -9223372036854775808 ≤ n) (h1 : n ≤ 9223372036854775807) (W : World) (hl : LibIs W) :
    Calls Tryz.prog 135 #[.int .i64 n] W fun e w' => e = .returned (.string (itoaS n)) ∧ Below W.heap.size W w' := by
  have H := Lib.hid (text_any n h0 h1 W hl)
  have hw : IntKind.i64.wrap n = n := by rw [IntKind.wrap_i64]; omega
  go_enter Tryz.func135, Tryz.ntmps135
  go_wp2_with fail
  refine H.out.mono ?_
  rintro e w ⟨rfl, hb⟩
  go_wp2
  go_ret
  exact ⟨rfl, hb⟩
theorem timesT_one {n : Int} : timesT n n = 123 :: (Lib.itoa n ++ [125]) := by
  unfold timesT
  rw [if_neg (by omega), if_neg (by omega), if_neg (by omega), if_pos rfl]
theorem timesT_from {m : Int} (h0 : m ≠ 0) (h1 : m ≠ 1) (h2 : m ≠ -1) : timesT m (-1) = 123 :: (Lib.itoa m ++ [44, 125]) := by
  unfold timesT
  rw [if_neg (by omega), if_neg (by omega), if_neg (by omega), if_neg (by omega), if_pos rfl]
theorem timesT_two {m n : Int} (h0 : n ≠ -1) (h1 : ¬ (m = 0 ∧ n = 1)) (h2 : m ≠ n) : timesT m n = 123 :: (Lib.itoa m ++ 44 :: (Lib.itoa n ++ [125])) := by
  unfold timesT
  rw [if_neg (by omega), if_neg (by omega), if_neg h1, if_neg h2, if_neg h0]
set_option maxRecDepth 100000 in
set_option maxHeartbeats 3200000 in
theorem times_any (m n : Int) (m0 : -9223372036854775808 ≤ m) (m1 : m ≤ 9223372036854775807) (n0 : -9223372036854775808 ≤ n) (n1 : n ≤ 9223372036854775807) (W : World) (hl : LibIs W) :
    Calls Tryz.prog 118 #[.int .i64 m, .int .i64 n] W fun e w' => (∃ s, e = .returned (.string s) ∧ s.data.toList = timesT m n ∧ s.size ≤ 45) ∧ Below W.heap.size W w' := by
  have NM := Lib.hid (fun w h => rexNumber_any m m0 m1 w h)
  have NN := Lib.hid (fun w h => rexNumber_any n n0 n1 w h)
  have sm := itoaS_size m m0 m1
  have sn := itoaS_size n n0 n1
  have HL := Lib.hid hl
  have lm := itoaS_list m
  have ln := itoaS_list n
  obtain ⟨a, ha⟩ : ∃ a, itoaS m = a := ⟨_, rfl⟩
  obtain ⟨c, hc⟩ : ∃ c, itoaS n = c := ⟨_, rfl⟩
  rw [ha] at NM sm lm
  rw [hc] at NN sn ln
  have q1 : ¬ 9223372036854775807 < 1 + a.size := by omega
  have q2 : ¬ 9223372036854775807 < 1 + a.size + 1 := by omega
  have q3 : ¬ 9223372036854775807 < 1 + a.size + 2 := by omega
  have q4 : ¬ 9223372036854775807 < 1 + a.size + 1 + c.size := by omega
  have q5 : ¬ 9223372036854775807 < 1 + a.size + 1 + c.size + 1 := by omega
  clear ha hc hl m0 m1 n0 n1
  have shut : ∀ {P Q : Prop}, P → Q → P ∧ Q := fun h k => ⟨h, k⟩
  by_cases hn : n = -1
  · subst hn
    by_cases h0 : m = 0
    · subst h0
      clear NM NN
      go_enter Tryz.func118, Tryz.ntmps118
      go_wp2
      go_ret
      exact ⟨⟨_, rfl, rfl, by decide⟩, Below.refl _ _⟩
    · by_cases h1 : m = 1
      · subst h1
        clear NM NN
        go_enter Tryz.func118, Tryz.ntmps118
        go_wp2
        go_ret
        exact ⟨⟨_, rfl, rfl, by decide⟩, Below.refl _ _⟩
      · have b0 : (m == 0) = false := beq_eq_false_iff_ne.2 h0
        have b1 : (m == 1) = false := beq_eq_false_iff_ne.2 h1
        by_cases h2 : m = -1
        · subst h2
          have T := Lib.hid (timesT_one (n := -1))
          go_enter Tryz.func118, Tryz.ntmps118
          go_wp2_with fail
          refine (NM.out _ HL.out).mono ?_
          rintro e w ⟨rfl, hb⟩
          go_wp2
          go_ret
          refine ⟨⟨_, rfl, ?_, ?_⟩, hb⟩
          · rw [T.out, text_joined, text_joined, lm]; rfl
          · simp only [ByteArray.size_append]; show 1 + a.size + 1 ≤ 45; omega
        · have b2 : (m == -1) = false := beq_eq_false_iff_ne.2 h2
          have T := Lib.hid (timesT_from h0 h1 h2)
          go_enter Tryz.func118, Tryz.ntmps118
          go_wp2_with fail
          refine (NM.out _ HL.out).mono ?_
          rintro e w ⟨rfl, hb⟩
          go_wp2
          go_ret
          refine ⟨⟨_, rfl, ?_, ?_⟩, hb⟩
          · rw [T.out, text_joined, text_joined, lm]; rfl
          · simp only [ByteArray.size_append]; show 1 + a.size + 2 ≤ 45; omega
  · have bn : (n == -1) = false := beq_eq_false_iff_ne.2 hn
    by_cases he : m = n
    · subst he
      have T := Lib.hid (timesT_one (n := m))
      have bm1 : (m == 0 && m == 1) = false := by
        cases h : m == 0
        · rfl
        · rw [eq_of_beq h]; rfl
      by_cases h0 : m = 0
      · subst h0
        go_enter Tryz.func118, Tryz.ntmps118
        go_wp2_with fail
        refine (NM.out _ HL.out).mono ?_
        rintro e w ⟨rfl, hb⟩
        go_wp2
        go_ret
        refine ⟨⟨_, rfl, ?_, ?_⟩, hb⟩
        · rw [T.out, text_joined, text_joined, lm]; rfl
        · simp only [ByteArray.size_append]; show 1 + a.size + 1 ≤ 45; omega
      · have b0 : (m == 0) = false := beq_eq_false_iff_ne.2 h0
        by_cases h1 : m = 1
        · subst h1
          go_enter Tryz.func118, Tryz.ntmps118
          go_wp2_with fail
          refine (NM.out _ HL.out).mono ?_
          rintro e w ⟨rfl, hb⟩
          go_wp2
          go_ret
          refine ⟨⟨_, rfl, ?_, ?_⟩, hb⟩
          · rw [T.out, text_joined, text_joined, lm]; rfl
          · simp only [ByteArray.size_append]; show 1 + a.size + 1 ≤ 45; omega
        · have b1 : (m == 1) = false := beq_eq_false_iff_ne.2 h1
          go_enter Tryz.func118, Tryz.ntmps118
          go_wp2_with fail
          refine (NM.out _ HL.out).mono ?_
          rintro e w ⟨rfl, hb⟩
          go_wp2
          go_ret
          refine ⟨⟨_, rfl, ?_, ?_⟩, hb⟩
          · rw [T.out, text_joined, text_joined, lm]; rfl
          · simp only [ByteArray.size_append]; show 1 + a.size + 1 ≤ 45; omega
    · have be : (m == n) = false := beq_eq_false_iff_ne.2 he
      by_cases h01 : m = 0 ∧ n = 1
      · obtain ⟨rfl, rfl⟩ := h01
        clear NM NN
        go_enter Tryz.func118, Tryz.ntmps118
        go_wp2
        go_ret
        exact ⟨⟨_, rfl, rfl, by decide⟩, Below.refl _ _⟩
      · have T := Lib.hid (timesT_two hn h01 he)
        have HT2 : ∀ w, Calls Tryz.prog 135 #[.int .i64 n] w (fun e w' => e = .returned (.string c) ∧ Below w.heap.size w w') ∨ True := fun w => .inr trivial
        clear HT2
        rcases (show (m = 0 ∧ ¬ n = 1) ∨ (m = 1) ∨ (¬ m = 0 ∧ ¬ m = 1) by omega) with ⟨rfl, hn1⟩ | rfl | ⟨hm0, hm1⟩
        · have bn1 : (n == 1) = false := beq_eq_false_iff_ne.2 hn1
          go_enter Tryz.func118, Tryz.ntmps118
          go_wp2_with fail
          refine (NM.out _ HL.out).mono ?_
          rintro e w ⟨rfl, hb⟩
          go_wp2_with fail
          refine (NN.out _ (HL.out.below hb)).mono ?_
          rintro e w2 ⟨rfl, hb2⟩
          go_wp2
          go_ret
          refine ⟨⟨_, rfl, ?_, ?_⟩, hb.trans (hb2.mono hb.size)⟩
          · rw [T.out, text_joined, text_joined, text_joined, text_joined, lm, ln, List.append_assoc, List.append_assoc]; rfl
          · simp only [ByteArray.size_append]; show 1 + a.size + 1 + c.size + 1 ≤ 45; omega
        · go_enter Tryz.func118, Tryz.ntmps118
          go_wp2_with fail
          refine (NM.out _ HL.out).mono ?_
          rintro e w ⟨rfl, hb⟩
          go_wp2_with fail
          refine (NN.out _ (HL.out.below hb)).mono ?_
          rintro e w2 ⟨rfl, hb2⟩
          go_wp2
          go_ret
          refine ⟨⟨_, rfl, ?_, ?_⟩, hb.trans (hb2.mono hb.size)⟩
          · rw [T.out, text_joined, text_joined, text_joined, text_joined, lm, ln, List.append_assoc, List.append_assoc]; rfl
          · simp only [ByteArray.size_append]; show 1 + a.size + 1 + c.size + 1 ≤ 45; omega
        · have bm0 : (m == 0) = false := beq_eq_false_iff_ne.2 hm0
          have bm1 : (m == 1) = false := beq_eq_false_iff_ne.2 hm1
          go_enter Tryz.func118, Tryz.ntmps118
          go_wp2_with fail
          refine (NM.out _ HL.out).mono ?_
          rintro e w ⟨rfl, hb⟩
          go_wp2_with fail
          refine (NN.out _ (HL.out.below hb)).mono ?_
          rintro e w2 ⟨rfl, hb2⟩
          go_wp2
          go_ret
          refine ⟨⟨_, rfl, ?_, ?_⟩, hb.trans (hb2.mono hb.size)⟩
          · rw [T.out, text_joined, text_joined, text_joined, text_joined, lm, ln, List.append_assoc, List.append_assoc]; rfl
          · simp only [ByteArray.size_append]; show 1 + a.size + 1 + c.size + 1 ≤ 45; omega
theorem Wr.alloc {B b : Nat} {l : List UInt8} {w : World} (h : Wr B b l w) (o : Obj) : Wr B b l (w.alloc o) := by
  have hk : ∀ p, Lib.BuilderAt 154 5 B b p (Lib.byteCells l) w → Lib.BuilderAt 154 5 B b p (Lib.byteCells l) (w.alloc o) := by
    rintro p ⟨hB, v, hb, hown, hne⟩
    exact ⟨hB, v, (Lib.alloc_old w o b (lt_cells hb)).trans hb, hown.alloc o, hne⟩
  exact h.imp (hk _) (hk _)
theorem Wr.later {B b : Nat} {l : List UInt8} {w w' : World} (h : Wr B b l w) (hb : Below w.heap.size w w') : Wr B b l w' := by
  have hk : ∀ p, Lib.BuilderAt 154 5 B b p (Lib.byteCells l) w → Lib.BuilderAt 154 5 B b p (Lib.byteCells l) w' := by
    rintro p ⟨hB, v, hbk, hown, hne⟩
    refine ⟨hB, v, (hb.block b (lt_cells hbk)).trans hbk, ⟨hown.1, ?_⟩, hne⟩
    rcases hown.2 with h0 | ⟨g, cap, cur, hv, hbg, hh, x⟩
    · exact .inl h0
    · exact .inr ⟨g, cap, cur, hv, hbg, (hb.block g (lt_cells hh)).trans hh, x⟩
  exact h.imp (hk _) (hk _)
theorem Wr.lt {B b : Nat} {l : List UInt8} {w : World} (h : Wr B b l w) : b < w.heap.size := by
  rcases h with ⟨_, v, hb, _⟩ | ⟨_, v, hb, _⟩ <;> exact lt_cells hb
theorem Wrote.blk {B b g : Nat} {w w' : World} {T : TypeId} {cs : Array Value} (h : Wrote B b w w') (hT : T ≠ 5) (hg : g ≠ b) (k : Blk w g T cs) : Blk w' g T cs := h.kept g cs T (0, 0) hT hg k
theorem Wrote.of {B b : Nat} {w w' : World} (hb : Below w.heap.size w w') (hB : B ≤ w.heap.size) : Wrote B b w w' := ⟨hb.mono hB, fun g cs T fr _ _ he => (hb.block g (lt_cells he)).trans he⟩
theorem Wrote.alloc {B b : Nat} (w : World) (hB : B ≤ w.heap.size) (o : Obj) : Wrote B b w (w.alloc o) := Wrote.of ((Below.refl _ _).alloc (Nat.le_refl _) o) hB
theorem Wrote.own {α : Type} {V : α → List Value} {s : Nat} {B b B' ty : Nat} {w w' : World} {v : Value} {l : List α} (k : Wrote B b w w') (hty : ty ≠ 5) (hb : b < B') (h : OwnR V s w B' ty v l) : OwnR V s w' B' ty v l := by
  refine ⟨h.1, ?_⟩
  rcases h.2 with h0 | ⟨g, cap, cur, hv, hbg, hh, x⟩
  · exact .inl h0
  · exact .inr ⟨g, cap, cur, hv, hbg, k.kept g cur ty (0, 0) hty (by omega) hh, x⟩
theorem spansT_next {l : List (Nat × Nat)} {j : Nat} {p : Nat × Nat} (h : l[j]? = some p) : spansT (l.take (j + 1)) = spansT (l.take j) ++ spanT p := by
  rw [List.take_add_one, h, spansT_app]
  show _ ++ spansT [p] = _
  rw [spansT, spansT, List.append_nil]
theorem spansT_pre (l : List (Nat × Nat)) (j : Nat) : (spansT (l.take j)).length ≤ (spansT l).length := by
  conv => rhs; rw [← List.take_append_drop j l, spansT_app, List.length_append]
  omega
set_option maxRecDepth 100000 in
set_option maxHeartbeats 3200000 in
theorem tellClass_any (B b : Nat) (l : List UInt8) (S : Nat) (W : World) (h : Wr B b l W) (hlen : l.length + (spansT (spansL S)).length + 2 ≤ 140737488355328) (hB : B ≤ W.heap.size) :
    Calls Tryz.prog 115 #[.pointer (some ⟨b, 0, none⟩), setV S] W fun e w' => e = .returned (.tuple #[]) ∧ Wr B b (l ++ 91 :: (spansT (spansL S) ++ [93])) w' ∧ Wrote B b W w' := by
  have hbW := h.lt
  have HA := Lib.hid (wr_byte B b l 91 91 rfl _ (h.alloc (.cells (setC S) 94)) (by omega) (by simp; omega))
  have HKB := Lib.hid (Blk.new W 94 (setC S))
  have HSP := Lib.hid (fun w => spans_any S w)
  have HOK := Lib.hid (spansF_ok S 256 0)
  have HW0 := Lib.hid (Wrote.alloc (b := b) W hB (.cells (setC S) 94))
  have hcap : (spansL S).length ≤ 256 := spansL_len S
  obtain ⟨L, hL⟩ : ∃ L, spansL S = L := ⟨_, rfl⟩
  rw [hL] at hlen hcap HSP ⊢
  have hok2 : ∀ p ∈ L, p.1 ≤ p.2 ∧ p.2 < 256 := fun p hp => HOK.out p (by rw [← hL] at hp; exact hp)
  have HOK2 := Lib.hid hok2
  have hpre := spansT_pre L
  have HPRE := Lib.hid hpre
  clear h hL HOK hok2 hpre
  unfold setV at *
  go_enter Tryz.func115, Tryz.ntmps115
  go_wp2_with fail
  refine HA.out.mono ?_
  rintro e w1 ⟨rfl, h1, k1⟩
  have hk1 : Blk w1 W.heap.size 94 (setC S) := k1.blk (by decide) (by omega) HKB.out
  obtain ⟨⟨c0, c1, c2, c3⟩, _⟩ := set_cells hk1
  have HK1 := Lib.hid (HW0.out.trans k1)
  have H1 := Lib.hid h1
  have hs1 : W.heap.size + 1 ≤ w1.heap.size := by have := k1.size; simp at this; omega
  clear hk1 k1 h1 HA HKB HW0
  go_wp2_with fail
  refine (HSP.out w1).mono ?_
  rintro e w2 ⟨⟨v, rfl, hown⟩, hb2⟩
  have H2 := Lib.hid (H1.out.later hb2)
  have HK2 := Lib.hid (HK1.out.trans (Wrote.of hb2 (by omega)))
  have HOWN := Lib.hid hown
  obtain ⟨A, cap, rfl, hc1, hc2, hrow⟩ := hown.open spanV_len
  have hs2 : w1.heap.size ≤ w2.heap.size := hb2.size
  obtain ⟨B2, hB2⟩ : ∃ x, w1.heap.size = x := ⟨_, rfl⟩
  rw [hB2] at HOWN hs1 hs2
  obtain ⟨n, hn⟩ : ∃ n, L.length = n := ⟨_, rfl⟩
  rw [hn] at hcap HOWN hc1 hc2
  rw [hn]
  clear hown hrow H1 HK1 HSP c0 c1 c2 c3 hB2 hb2 hc2
  go_wp2
  go_loopw [13] (fun iv wr => ∃ (j : Nat), j ≤ n ∧ iv = .int .i64 (j : Nat) ∧ Hid (Wr B b (l ++ 91 :: spansT (L.take j)) wr) ∧ Hid (Wrote B b W wr) ∧ Hid (OwnR spanV 2 wr B2 189 (.slice A n cap) L) ∧ Hid (B2 ≤ wr.heap.size)) (fun iv _ => n - (intOf iv).toNat)
  case atStart => exact ⟨0, Nat.zero_le _, rfl, H2, HK2, HOWN, Lib.hid hs2⟩
  case round =>
    obtain ⟨j, hj, rfl, HW, HK, HO, HS⟩ := hrel
    by_cases hlt : j < n
    · have hI : (j : Int) < n := by omega
      obtain ⟨p, hp⟩ : ∃ p, L[j]? = some p := ⟨L[j], List.getElem?_eq_getElem (by omega)⟩
      obtain ⟨A2, cap2, e2, q1, q2, hrow⟩ := HO.out.open spanV_len
      injection e2 with e2 q3 q4
      subst e2
      clear q1 q2 q3 q4
      obtain ⟨g, off, rfl, hgl, hcc⟩ := hrow.2 (by omega)
      have c0 := hcc j 0 p hp (by decide)
      have c1 := hcc j 1 p hp (by decide)
      rw [Nat.add_zero] at c0
      have hnx := spansT_next hp
      have hp2 := HOK2.out p (List.mem_of_getElem? hp)
      obtain ⟨lo, hi⟩ := p
      simp only [spanV, List.getElem?_cons_zero, List.getElem?_cons_succ] at c0 c1
      have hlen2 := HPRE.out (j + 1)
      rw [hnx] at hlen2
      have hS := HS.out
      have hbS : b < wr.heap.size := HW.out.lt
      obtain ⟨T, hT⟩ : ∃ T, spansT (L.take j) = T := ⟨_, rfl⟩
      rw [hT] at HW hnx hlen2
      have HN := Lib.hid hnx
      have hlo : lo < 256 := by have := hp2.1; have := hp2.2; omega
      have hhi : hi < 256 := hp2.2
      have HL0 := Lib.hid hlo
      have HH0 := Lib.hid hhi
      have hsl : (byteP lo cspec).length ≤ (spanT (lo, hi)).length := by show (byteP lo cspec).length ≤ (byteP lo cspec ++ _).length; rw [List.length_append]; omega
      have W1 := Lib.hid (byteOf_any B b (l ++ 91 :: T) (UInt8.ofNat lo) (lo : Int) (by rw [u8_nat HL0.out]) ⟨#[92, 93, 45, 94]⟩ cspec among_cspec _ (HW.out.alloc (.cells #[.int .u8 (lo : Int), .int .u8 (hi : Int)] 189)) (by
        rw [← byteP_U]
        simp only [List.length_append, List.length_cons] at hlen2 ⊢
        omega) (by simp; omega))
      have HKN := Lib.hid (Blk.new wr 189 #[.int .u8 (lo : Int), .int .u8 (hi : Int)])
      have HKA := Lib.hid (HK.out.trans (Wrote.alloc (b := b) wr (by have := HK.out.size; omega) (.cells #[.int .u8 (lo : Int), .int .u8 (hi : Int)] 189)))
      have HOA := Lib.hid (HO.out.alloc (.cells #[.int .u8 (lo : Int), .int .u8 (hi : Int)] 189))
      have hBW : B ≤ wr.heap.size + 1 := by have := HK.out.size; omega
      have hbB2 : b < B2 := by omega
      have HLEN := Lib.hid hlen2
      have hgn : g ≠ b ∨ True := .inr trivial
      clear hcc hp hrow hT hnx hsl hp2 hlen2 hgn hn hs2
      go_wp2_with fail
      refine W1.out.mono ?_
      rintro e w3 ⟨rfl, h3, k3⟩
      have hk3 : Blk w3 wr.heap.size 189 #[.int .u8 (lo : Int), .int .u8 (hi : Int)] := k3.blk (by decide) (by omega) HKN.out
      have d0 : w3.cell? ⟨wr.heap.size, 0, none⟩ = some (.int .u8 (lo : Int)) := hk3.cell 0
      have d1 : w3.cell? ⟨wr.heap.size, 1, none⟩ = some (.int .u8 (hi : Int)) := hk3.cell 1
      have HK3 := Lib.hid (HKA.out.trans k3)
      have HO3 := Lib.hid (k3.own (by decide) hbB2 HOA.out)
      have hs3 : wr.heap.size + 1 ≤ w3.heap.size := by have := k3.size; simp at this; omega
      have H3 := Lib.hid h3
      have HB3 := Lib.hid hk3
      rw [← byteP_U] at H3
      clear c0 c1 h3 hk3 k3 W1 HKN HKA HOA
      by_cases hlh : lo < hi
      · have hI2 : (lo : Int) < (hi : Int) := by omega
        have hI3 : (hi : Int) > (lo : Int) := hI2
        have hsp : spanT (lo, hi) = byteP lo cspec ++ 45 :: byteP hi cspec := by unfold spanT; rw [if_pos hlh]
        have hlen2 := HLEN.out
        rw [hsp] at HN hlen2
        have hl45 : (l ++ 91 :: T ++ byteP lo cspec).length + 1 ≤ 140737488355328 := by simp only [List.length_append, List.length_cons] at hlen2 ⊢; omega
        have hl46 : (l ++ 91 :: T ++ byteP lo cspec ++ [45]).length + (byteU (UInt8.ofNat hi) cspec).length ≤ 140737488355328 := by rw [← byteP_U]; simp only [List.length_append, List.length_cons] at hlen2 ⊢; simp; omega
        have W2 := Lib.hid (wr_byte B b (l ++ 91 :: T ++ byteP lo cspec) 45 45 rfl w3 H3.out hl45 (by omega))
        have HL46 := Lib.hid hl46
        clear hl45 hl46 hlen2
        go_wp2_with fail
        refine W2.out.mono ?_
        rintro e w4 ⟨rfl, h4, k4⟩
        have hk4 : Blk w4 wr.heap.size 189 #[.int .u8 (lo : Int), .int .u8 (hi : Int)] := k4.blk (by decide) (by omega) HB3.out
        have e1 : w4.cell? ⟨wr.heap.size, 1, none⟩ = some (.int .u8 (hi : Int)) := hk4.cell 1
        have hs4 := k4.size
        have W3 := Lib.hid (byteOf_any B b (l ++ 91 :: T ++ byteP lo cspec ++ [45]) (UInt8.ofNat hi) (hi : Int) (by rw [u8_nat HH0.out]) ⟨#[92, 93, 45, 94]⟩ cspec among_cspec w4 h4 HL46.out (by omega))
        have HK4 := Lib.hid (HK3.out.trans k4)
        have HO4 := Lib.hid (k4.own (by decide) hbB2 HO3.out)
        clear hk4 k4 h4 W2 d0 d1
        go_wp2_with fail
        refine W3.out.mono ?_
        rintro e w5 ⟨rfl, h5, k5⟩
        have hs5 := k5.size
        have HK5 := Lib.hid (HK4.out.trans k5)
        have HO5 := Lib.hid (k5.own (by decide) hbB2 HO4.out)
        have H5 := Lib.hid h5
        clear h5 k5 W3 e1
        go_wp2
        go_round
        case rel =>
          refine ⟨j + 1, by omega, by go_num, ?_, HK5, HO5, Lib.hid (by omega)⟩
          have h6 := H5.out
          rw [← byteP_U] at h6
          have e6 : l ++ 91 :: T ++ byteP lo cspec ++ [45] ++ byteP hi cspec = l ++ 91 :: spansT (L.take (j + 1)) := by rw [HN.out]; simp only [List.append_assoc, List.cons_append, List.nil_append, List.singleton_append]
          rw [e6] at h6
          exact Lib.hid h6
        case measure => simp [intOf]; omega
      · have hI2 : ¬ (lo : Int) < (hi : Int) := by omega
        have hI3 : ¬ (hi : Int) > (lo : Int) := hI2
        have hsp : spanT (lo, hi) = byteP lo cspec := by unfold spanT; rw [if_neg hlh, List.append_nil]
        rw [hsp] at HN
        go_wp2
        go_round
        case rel =>
          refine ⟨j + 1, by omega, by go_num, ?_, HK3, HO3, Lib.hid (by omega)⟩
          have h6 := H3.out
          have e6 : l ++ 91 :: T ++ byteP lo cspec = l ++ 91 :: spansT (L.take (j + 1)) := by rw [HN.out]; simp only [List.append_assoc, List.cons_append]
          rw [e6] at h6
          exact Lib.hid h6
        case measure => simp [intOf]; omega
    · obtain rfl : j = n := by omega
      have hI : ¬ (j : Int) < (j : Int) := by omega
      rw [List.take_of_length_le (by omega)] at HW
      have hS := HS.out
      have W2 := Lib.hid (wr_byte B b (l ++ 91 :: spansT L) 93 93 rfl wr HW.out (by simp only [List.length_append, List.length_cons]; omega) (by omega))
      go_wp2_with fail
      refine W2.out.mono ?_
      rintro e w4 ⟨rfl, h4, k4⟩
      have HK4 := Lib.hid (HK.out.trans k4)
      have H4 := Lib.hid h4
      clear h4 k4
      go_wp2
      go_end0
      have h6 := H4.out
      rw [List.append_assoc] at h6
      exact ⟨rfl, h6, HK4.out⟩
set_option maxRecDepth 100000 in
set_option maxHeartbeats 3200000 in
theorem tellSet_any (B b : Nat) (l : List UInt8) (S : Nat) (hSl : S < 2 ^ 256) (W : World) (h : Wr B b l W) (hlen : l.length + (setT S).length ≤ 140737488355328) (hB : B ≤ W.heap.size) :
    Calls Tryz.prog 98 #[.pointer (some ⟨b, 0, none⟩), setV S] W fun e w' => e = .returned (.tuple #[]) ∧ Wr B b (l ++ setT S) w' ∧ Wrote B b W w' := by
  have hbW := h.lt
  have K0 : Blk (W.alloc (.cells (setC S) 94)).drew W.heap.size 94 (setC S) := Blk.new W 94 (setC S)
  have S0 : (Wr B b l (W.alloc (.cells (setC S) 94)).drew ∧ Blk (W.alloc (.cells (setC S) 94)).drew W.heap.size 94 (setC S) ∧ ((W.alloc (.cells (setC S) 94)).drew.cell? ⟨W.heap.size, 0, none⟩ = some (.int .u64 (word S 0 : Nat)) ∧ (W.alloc (.cells (setC S) 94)).drew.cell? ⟨W.heap.size, 1, none⟩ = some (.int .u64 (word S 1 : Nat)) ∧ (W.alloc (.cells (setC S) 94)).drew.cell? ⟨W.heap.size, 2, none⟩ = some (.int .u64 (word S 2 : Nat)) ∧ (W.alloc (.cells (setC S) 94)).drew.cell? ⟨W.heap.size, 3, none⟩ = some (.int .u64 (word S 3 : Nat))) ∧ Wrote B b W (W.alloc (.cells (setC S) 94)).drew) := ⟨(h.alloc _).later (below_drewN (Below.refl _ _) 1), K0, (set_cells K0).1, (Wrote.alloc W hB _).trans (Wrote.of (below_drewN (Below.refl _ _) 1) (by simp; omega))⟩
  have HS := Lib.hid (show ∀ w w', (Wr B b l w ∧ Blk w W.heap.size 94 (setC S) ∧ (w.cell? ⟨W.heap.size, 0, none⟩ = some (.int .u64 (word S 0 : Nat)) ∧ w.cell? ⟨W.heap.size, 1, none⟩ = some (.int .u64 (word S 1 : Nat)) ∧ w.cell? ⟨W.heap.size, 2, none⟩ = some (.int .u64 (word S 2 : Nat)) ∧ w.cell? ⟨W.heap.size, 3, none⟩ = some (.int .u64 (word S 3 : Nat))) ∧ Wrote B b W w) → Below w.heap.size w w' → (Wr B b l w' ∧ Blk w' W.heap.size 94 (setC S) ∧ (w'.cell? ⟨W.heap.size, 0, none⟩ = some (.int .u64 (word S 0 : Nat)) ∧ w'.cell? ⟨W.heap.size, 1, none⟩ = some (.int .u64 (word S 1 : Nat)) ∧ w'.cell? ⟨W.heap.size, 2, none⟩ = some (.int .u64 (word S 2 : Nat)) ∧ w'.cell? ⟨W.heap.size, 3, none⟩ = some (.int .u64 (word S 3 : Nat))) ∧ Wrote B b W w') from fun w w' h hb => ⟨h.1.later hb, h.2.1.below hb h.2.1.lt, (set_cells (h.2.1.below hb h.2.1.lt)).1, h.2.2.2.trans (Wrote.of hb (Nat.le_trans hB h.2.2.2.size))⟩)
  have AB := Lib.hid (fun w => anyByte_any w)
  have hEQ := eq_words24 hSl (show anyB < 2 ^ 256 by decide +kernel)
  have HMANY := Lib.hid (fun w => rexMany_any S w)
  have HLOW := Lib.hid (fun hm w => spans_low S hm w)
  have HCL := Lib.hid (fun w h hl hb => tellClass_any B b l S w h hl hb)
  have HBY := Lib.hid (fun w (h : Wr B b l w) hl hb => byteOf_any B b l (UInt8.ofNat (leastB S)) (leastB S : Int) (by rw [u8_nat (least_lt S)]) ⟨#[92, 46, 91, 93, 40, 41, 42, 43, 63, 123, 125, 124, 94, 36]⟩ spec among_spec w h hl hb)
  have HSET := Lib.hid (show setT S = if S = anyB then [46] else if manyB S = 1 then byteP (leastB S) spec else 91 :: (spansT (spansL S) ++ [93]) from rfl)
  clear K0 h hSl
  obtain ⟨D, hD⟩ : ∃ D, decide (S = anyB) = D := ⟨_, rfl⟩
  rw [hD] at hEQ
  obtain ⟨X, hX⟩ : ∃ X, setT S = X := ⟨_, rfl⟩
  rw [hX] at hlen HSET ⊢
  obtain ⟨Y, hY⟩ : ∃ Y, anyB = Y := ⟨_, rfl⟩
  rw [hY] at AB hEQ
  replace hEQ : ∀ w, (Op.equalIn 10000 94 (.agg #[.int .u64 (word S 0 : Nat), .int .u64 (word S 1 : Nat), .int .u64 (word S 2 : Nat), .int .u64 (word S 3 : Nat)]) (.agg (setC Y))).run Tryz.prog w = .ok D w := hEQ
  have HD := Lib.hid hD
  have HLEN := Lib.hid hlen
  clear hX hY hD hlen
  unfold setV at *
  go_enter Tryz.func98, Tryz.ntmps98
  go_wp2
  refine wp_region_held_drew (S := fun w' => (Wr B b l w' ∧ Blk w' W.heap.size 94 (setC S) ∧ (w'.cell? ⟨W.heap.size, 0, none⟩ = some (.int .u64 (word S 0 : Nat)) ∧ w'.cell? ⟨W.heap.size, 1, none⟩ = some (.int .u64 (word S 1 : Nat)) ∧ w'.cell? ⟨W.heap.size, 2, none⟩ = some (.int .u64 (word S 2 : Nat)) ∧ w'.cell? ⟨W.heap.size, 3, none⟩ = some (.int .u64 (word S 3 : Nat))) ∧ Wrote B b W w')) (by kernel_rfl) S0 (fun hHeld => ?_)
  refine tH 0 ?_
  refine rdy [1] ?_
  refine rdC (fun K hK => ?_) AllReadyH.nil
  go_simp
  go_at_call 111
  refine (AB.out _).mono ?_
  rintro e wc1 ⟨rfl, hb3⟩
  have Sc1 := HS.out _ _ (by assumption) hb3
  refine hK.out _ _ Sc1 (fun _ => ?_)
  clear hK K hb3
  try simp only [Act.put, pz1, pz2, pz3]
  refine tV 2 ?_; refine tV 3 ?_
  refine wpAnyH_done (by kernel_rfl) ?_ _
  have HSc := Lib.hid Sc1
  clear HS hHeld AB S0 Sc1 hEQ
  cases D with
  | true =>
    have he := of_decide_eq_true HD.out
    have hx := HSET.out
    rw [if_pos he] at hx
    subst hx
    have W2 := Lib.hid (wr_byte B b l 46 46 rfl _ HSc.out.1 (by have := HLEN.out; simp at this; omega) (Nat.le_trans hB HSc.out.2.2.2.size))
    clear he
    go_wp2_with fail
    refine W2.out.mono ?_
    rintro e w4 ⟨rfl, h4, k4⟩
    go_wp2
    go_end0
    exact ⟨rfl, h4, HSc.out.2.2.2.trans k4⟩
  | false =>
    have he := of_decide_eq_false HD.out
    have hx := HSET.out
    rw [if_neg he] at hx
    clear he
    obtain ⟨c0, c1, c2, c3⟩ := HSc.out.2.2.1
    obtain ⟨m, hm⟩ : ∃ m, manyB S = m := ⟨_, rfl⟩
    rw [hm] at HMANY HLOW hx
    have HX := Lib.hid hx
    clear hm hx
    go_wp2_with fail
    refine (HMANY.out _).mono ?_
    rintro e w4 ⟨rfl, hb4⟩
    have H4 := Lib.hid (HSc.out.1.later hb4)
    have hk4 := HSc.out.2.1.below hb4 HSc.out.2.1.lt
    have HK4 := Lib.hid (HSc.out.2.2.2.trans (Wrote.of (b := b) hb4 (Nat.le_trans hB HSc.out.2.2.2.size)))
    clear c0 c1 c2 c3 HSc hb4
    obtain ⟨⟨c0, c1, c2, c3⟩, _⟩ := set_cells hk4
    have hk1 := HK4.out.size
    have HKB := Lib.hid hk4
    clear hk4
    by_cases h1 : m = 1
    · subst h1
      have hx := HX.out
      rw [if_pos rfl] at hx
      subst hx
      go_wp2_with fail
      refine (HLOW.out (by simp) _).mono ?_
      rintro e w5 ⟨g, n, c, rfl, hn, hg, hc, hb5⟩
      have H5 := H4.out.later hb5
      have hl2 : l.length + (byteU (UInt8.ofNat (leastB S)) spec).length ≤ 140737488355328 := HLEN.out
      have W3 := Lib.hid (HBY.out w5 H5 hl2 (by have := hb5.size; omega))
      have HK5 := Lib.hid (HK4.out.trans (Wrote.of (b := b) hb5 (by omega)))
      have hnI : (0 : Int) < (n : Int) := by omega
      clear c0 c1 c2 c3 hb5 H5 hl2
      go_wp2_with fail
      refine W3.out.mono ?_
      rintro e w6 ⟨rfl, h6, k6⟩
      go_wp2
      go_end0
      exact ⟨rfl, h6, HK5.out.trans k6⟩
    · have hI : ((m : Int) == 1) = false := by rw [beq_eq_false_iff_ne]; omega
      have hI2 : ¬ (m : Int) = 1 := by omega
      have hx := HX.out
      rw [if_neg h1] at hx
      subst hx
      have W3 := Lib.hid (HCL.out w4 H4.out (by have := HLEN.out; simp only [List.length_append, List.length_cons] at this; simp at this; omega) (by omega))
      unfold setC at W3
      clear h1
      go_wp2_with fail
      refine W3.out.mono ?_
      rintro e w6 ⟨rfl, h6, k6⟩
      go_wp2
      go_end0
      exact ⟨rfl, h6, HK4.out.trans k6⟩
inductive OkP : NodeX → Prop where
  | mk {k : Int} {s : Nat} {mn mx : Int} {A : Option Addr} {n c : Nat} {l : List NodeX} (hm : -9223372036854775808 ≤ mn ∧ mn ≤ 9223372036854775807) (hx : -9223372036854775808 ≤ mx ∧ mx ≤ 9223372036854775807) (h6 : k = 6 → l ≠ []) (hk : ∀ x, x ∈ l → OkP x) : OkP (.mk k s mn mx A n c l)
theorem NF.parts {x : NodeT} (h : NF x) : (-9223372036854775808 ≤ x.mn ∧ x.mn ≤ 9223372036854775807) ∧ (-9223372036854775808 ≤ x.mx ∧ x.mx ≤ 9223372036854775807) ∧ (x.kind = 6 → x.kids ≠ []) ∧ ∀ y, y ∈ x.kids → NF y := by
  cases h with
  | nil => exact ⟨by decide, by decide, (fun h => by cases h), (fun y h => by cases h)⟩
  | one => exact ⟨(by show (-9223372036854775808 : Int) ≤ 0 ∧ (0 : Int) ≤ _; decide), (by show (-9223372036854775808 : Int) ≤ 0 ∧ (0 : Int) ≤ _; decide), (fun h => by cases h), (fun y h => by cases h)⟩
  | beg => exact ⟨by decide, by decide, (fun h => by cases h), (fun y h => by cases h)⟩
  | fin => exact ⟨by decide, by decide, (fun h => by cases h), (fun y h => by cases h)⟩
  | cat _ _ hl => exact ⟨(by show (-9223372036854775808 : Int) ≤ 0 ∧ (0 : Int) ≤ _; decide), (by show (-9223372036854775808 : Int) ≤ 0 ∧ (0 : Int) ≤ _; decide), (fun h => by cases h), hl⟩
  | alt _ _ hl => exact ⟨(by show (-9223372036854775808 : Int) ≤ 0 ∧ (0 : Int) ≤ _; decide), (by show (-9223372036854775808 : Int) ≤ 0 ∧ (0 : Int) ≤ _; decide), (fun h => by cases h), hl⟩
  | rep hx h0 h20 hn =>
    rename_i x m n
    refine ⟨?_, ?_, (fun _ h => by cases h), fun y hy => ?_⟩
    · show -9223372036854775808 ≤ m ∧ m ≤ 9223372036854775807
      omega
    · show -9223372036854775808 ≤ n ∧ n ≤ 9223372036854775807
      omega
    · rw [List.mem_singleton.1 hy]; exact hx
theorem NF.okP : ∀ (m : Nat) (x : NodeX), SizeOf.sizeOf x < m → NF x.t → OkP x := by
  intro m
  induction m with
  | zero => exact fun x h => absurd h (Nat.not_lt_zero _)
  | succ m ih =>
    intro x h hx
    obtain ⟨p1, p2, p3, p4⟩ := hx.parts
    rw [NodeX.t_kids] at p3 p4
    obtain ⟨xk, xs, xm, xx, xA, xn, xc, xl⟩ := x
    refine .mk p1 p2 (fun h6 e => p3 h6 (by rw [show (NodeX.mk xk xs xm xx xA xn xc xl).kids = xl from rfl, e]; rfl)) (fun y hy => ih y ?_ (p4 _ (List.mem_map.2 ⟨y, hy, rfl⟩)))
    have h1 := List.sizeOf_lt_of_mem hy
    simp at h1 h
    omega
theorem NF.ok {x : NodeX} (h : NF x.t) : OkP x := NF.okP _ x (Nat.lt_succ_self _) h
theorem OkP.kid {x y : NodeX} (h : OkP x) (hy : y ∈ x.kids) : OkP y := by
  cases h with
  | mk _ _ _ hk => exact hk y hy
theorem GoodN.wrote {B b : Nat} {w w' : World} {x : NodeX} (h : GoodN w (fun g => g < B) x) (k : Wrote B b w w') : GoodN w' (fun g => g < B) x := h.frame k.size (fun g hg _ => k.below.block g hg)
theorem LibB.wrote {B b : Nat} {w w' : World} (h : LibB B w) (k : Wrote B b w w') : LibB B w' := h.next k.below
theorem catsT_app (l m : List NodeT) : catsT (l ++ m) = catsT l ++ catsT m := by
  induction l with
  | nil => rw [catsT_nil]; rfl
  | cons x l ih => rw [List.cons_append, catsT_cons, catsT_cons, ih, List.append_assoc]
theorem barsT_app (l m : List NodeT) : barsT (l ++ m) = barsT l ++ barsT m := by
  induction l with
  | nil => rw [barsT_nil]; rfl
  | cons x l ih => rw [List.cons_append, barsT_cons, barsT_cons, ih, List.cons_append, List.append_assoc]
theorem catsT_next {l : List NodeX} {j : Nat} {p : NodeX} (h : l[j]? = some p) : catsT ((l.take (j + 1)).map NodeX.t) = catsT ((l.take j).map NodeX.t) ++ inB (decide (p.t.kind = 5)) (putT p.t) := by
  rw [List.take_add_one, h, List.map_append, catsT_app]
  show _ ++ catsT [p.t] = _
  rw [catsT_cons, catsT_nil, List.append_nil]
theorem catsT_pre (l : List NodeX) (j : Nat) : (catsT ((l.take j).map NodeX.t)).length ≤ (catsT (l.map NodeX.t)).length := by
  conv => rhs; rw [← List.take_append_drop j l, List.map_append, catsT_app, List.length_append]
  omega
theorem altsT_snoc (l : List NodeT) (x : NodeT) : altsT (l ++ [x]) = altsT l ++ ((if l.length = 0 then [] else [124]) ++ putT x) := by
  cases l with
  | nil => rw [List.nil_append, altsT_cons, altsT_nil, barsT_nil, List.append_nil]; rfl
  | cons y l =>
    rw [List.cons_append, altsT_cons, altsT_cons, barsT_app, barsT_cons, barsT_nil, List.append_nil, List.append_assoc]
    rfl
theorem altsT_next {l : List NodeX} {j : Nat} {p : NodeX} (h : l[j]? = some p) : altsT ((l.take (j + 1)).map NodeX.t) = altsT ((l.take j).map NodeX.t) ++ ((if j = 0 then [] else [124]) ++ putT p.t) := by
  have hj : j < l.length := by
    rcases Nat.lt_or_ge j l.length with h1 | h1
    · exact h1
    · rw [List.getElem?_eq_none h1] at h; cases h
  rw [List.take_add_one, h, List.map_append]
  show altsT (_ ++ [p.t]) = _
  rw [altsT_snoc, List.length_map, List.length_take, Nat.min_eq_left (by omega)]
theorem altsT_app_len (l m : List NodeT) : (altsT l).length ≤ (altsT (l ++ m)).length := by
  cases l with
  | nil => rw [altsT_nil]; exact Nat.zero_le _
  | cons y l => rw [List.cons_append, altsT_cons, altsT_cons, barsT_app]; simp
theorem altsT_pre (l : List NodeX) (j : Nat) : (altsT ((l.take j).map NodeX.t)).length ≤ (altsT (l.map NodeX.t)).length := by
  conv => rhs; rw [← List.take_append_drop j l, List.map_append]
  exact altsT_app_len _ _
def NodeW (x : NodeX) : Prop := ∀ (B b : Nat) (l : List UInt8) (W : World), GoodN W (fun g => g < B) x → OkP x → Wr B b l W → LibB B W → l.length + (putT x.t).length ≤ 140737488355328 → B ≤ W.heap.size →
  Calls Tryz.prog 79 #[.pointer (some ⟨b, 0, none⟩), .agg (nodeC x)] W fun e w' => e = .returned (.tuple #[]) ∧ Wr B b (l ++ putT x.t) w' ∧ Wrote B b W w'
def WithinW (x : NodeX) : Prop := ∀ (br : Bool) (B b : Nat) (l : List UInt8) (W : World), GoodN W (fun g => g < B) x → OkP x → Wr B b l W → LibB B W → l.length + (inB br (putT x.t)).length ≤ 140737488355328 → B ≤ W.heap.size →
  Calls Tryz.prog 100 #[.pointer (some ⟨b, 0, none⟩), .agg (nodeC x), .bool br] W fun e w' => e = .returned (.tuple #[]) ∧ Wr B b (l ++ inB br (putT x.t)) w' ∧ Wrote B b W w'
set_option maxRecDepth 100000 in
set_option maxHeartbeats 3200000 in
theorem within_any (x : NodeX) (HN : NodeW x) : WithinW x := by
  intro br B b l W hg ho h hl hlen hB
  have hbW := h.lt
  have hWo := Wrote.alloc (b := b) W hB (.cells (nodeC x) 97)
  have HWo := Lib.hid hWo
  have hk0 := Blk.new W 97 (nodeC x)
  have HK0 := Lib.hid hk0
  have H0 := Lib.hid (h.alloc (.cells (nodeC x) 97))
  have HG := Lib.hid (hg.wrote hWo)
  have HL := Lib.hid (hl.wrote hWo)
  have HO := Lib.hid ho
  have HB0 := Lib.hid (show B ≤ (W.alloc (.cells (nodeC x) 97)).heap.size by simp; omega)
  obtain ⟨T, hT⟩ : ∃ T, putT x.t = T := ⟨_, rfl⟩
  rw [hT] at hlen ⊢
  replace HN := Lib.hid (fun B b l W h1 h2 h3 h4 h5 h6 => by have := HN B b l W h1 h2 h3 h4 h5 h6; rw [hT] at this; exact this)
  have hTT := Lib.hid hT
  clear h hl hg ho hWo hT
  cases br with
  | true =>
    rw [inB_true] at hlen ⊢
    have W1 := Lib.hid (wr_byte B b l 40 40 rfl _ H0.out (by simp only [List.length_cons, List.length_append] at hlen; omega) HB0.out)
    have HLEN := Lib.hid hlen
    clear hlen hk0
    unfold nodeC nodeV
    go_enter Tryz.func100, Tryz.ntmps100
    go_wp2_with fail
    refine W1.out.mono ?_
    rintro e w1 ⟨rfl, h1, k1⟩
    have hk1 : Blk w1 W.heap.size 97 (nodeC x) := k1.blk (by decide) (by omega) HK0.out
    obtain ⟨⟨a0, a1, a2, a3, a4, a5, a6, a7⟩, _⟩ := node_cells hk1
    have W2 := Lib.hid (HN.out B b (l ++ [40]) w1 (HG.out.wrote k1) HO.out h1 (HL.out.wrote k1) (by rw [hTT.out]; have := HLEN.out; simp only [List.length_cons, List.length_append] at this ⊢; simp at this ⊢; omega) (by have := k1.size; have := HB0.out; omega))
    have HK1 := Lib.hid (HWo.out.trans k1)
    unfold nodeC nodeV at W2
    clear hk1 k1 h1 W1
    go_wp2_with fail
    refine W2.out.mono ?_
    rintro e w2 ⟨rfl, h2, k2⟩
    have W3 := Lib.hid (wr_byte B b (l ++ [40] ++ T) 41 41 rfl w2 h2 (by have := HLEN.out; simp only [List.length_cons, List.length_append] at this ⊢; simp at this ⊢; omega) (by have := k2.size; have := HK1.out.size; omega))
    have HK2 := Lib.hid (HK1.out.trans k2)
    clear k2 h2 W2 a0 a1 a2 a3 a4 a5 a6 a7
    go_wp2_with fail
    refine W3.out.mono ?_
    rintro e w3 ⟨rfl, h3, k3⟩
    have H3 := Lib.hid h3
    have HK3 := Lib.hid (HK2.out.trans k3)
    clear h3 k3
    go_wp2
    go_end0
    have h6 := H3.out
    have e6 : l ++ [40] ++ T ++ [41] = l ++ 40 :: (T ++ [41]) := by simp
    rw [e6] at h6
    exact ⟨rfl, h6, HK3.out⟩
  | false =>
    rw [inB_false] at hlen ⊢
    obtain ⟨⟨a0, a1, a2, a3, a4, a5, a6, a7⟩, _⟩ := node_cells hk0
    have W2 := Lib.hid (HN.out B b l _ HG.out HO.out H0.out HL.out (by rw [hTT.out]; exact hlen) HB0.out)
    clear hlen hk0
    unfold nodeC nodeV at *
    go_enter Tryz.func100, Tryz.ntmps100
    go_wp2_with fail
    refine W2.out.mono ?_
    rintro e w2 ⟨rfl, h2, k2⟩
    have H3 := Lib.hid h2
    have HK3 := Lib.hid (HWo.out.trans k2)
    clear k2 h2 W2 a0 a1 a2 a3 a4 a5 a6 a7
    go_wp2
    go_end0
    exact ⟨rfl, H3.out, HK3.out⟩
theorem Wr.below {B b : Nat} {l : List UInt8} {w w' : World} (h : Wr B b l w) (hb : Below w.heap.size w w') : Wr B b l w' := h.later hb
def RepW (x : NodeX) : Prop := ∀ (B b : Nat) (l : List UInt8) (W : World), GoodN W (fun g => g < B) x → OkP x → Wr B b l W → LibB B W → l.length + (firstP (x.kids.map NodeX.t) ++ timesT x.mn x.mx).length ≤ 140737488355328 → B ≤ W.heap.size → x.kids ≠ [] →
  Calls Tryz.prog 101 #[.pointer (some ⟨b, 0, none⟩), .agg (nodeC x)] W fun e w' => e = .returned (.tuple #[]) ∧ Wr B b (l ++ (firstP (x.kids.map NodeX.t) ++ timesT x.mn x.mx)) w' ∧ Wrote B b W w'
set_option maxRecDepth 100000 in
set_option maxHeartbeats 6400000 in
theorem repeat_any (x : NodeX) (HN : ∀ y, y ∈ x.kids → WithinW y) : RepW x := by
  intro B b l W hg ho h hl hlen hB hne
  have hbW := h.lt
  have hrow := hg.row
  have hkid := fun y hy => hg.kid (y := y) hy
  have hoks := fun y hy => ho.kid (y := y) hy
  have hcap := hg.capL
  have hlenM := hg.lenM
  have hbds : (-9223372036854775808 ≤ x.mn ∧ x.mn ≤ 9223372036854775807) ∧ (-9223372036854775808 ≤ x.mx ∧ x.mx ≤ 9223372036854775807) := by
    cases ho with
    | mk h1 h2 _ _ => exact ⟨h1, h2⟩
  have hP : 0 < x.n → ∀ a, x.A = some a → a.block < B := by
    cases hg with
    | mk _ _ _ _ h5 _ => exact h5
  obtain ⟨xk, xs, xm, xx, xA, xn, xc, xl⟩ := x
  simp only [NodeX.kind, NodeX.set, NodeX.mn, NodeX.mx, NodeX.A, NodeX.n, NodeX.c, NodeX.kids] at hrow hkid hoks hcap hlenM hbds hP HN hlen hne ⊢
  obtain ⟨y, ys, rfl⟩ : ∃ y ys, xl = y :: ys := by
    cases xl with
    | nil => exact absurd rfl hne
    | cons y ys => exact ⟨y, ys, rfl⟩
  have hn0 : 0 < xn := by have := hrow.1; simp at this; omega
  have hnI : (0 : Int) < (xn : Int) := by omega
  obtain ⟨a, off, rfl, hab, hc⟩ := hrow.2 hn0
  have haB : a < B := hP hn0 _ rfl
  rw [List.map_cons, firstP_cons, NodeX.t_kind] at hlen ⊢
  have hWo : Wrote B b W ((W.alloc (.cells (nodeC (NodeX.mk xk xs xm xx (some ⟨a, off, none⟩) xn xc (y :: ys))) 97)).alloc (.cells (nodeC y) 97)) := (Wrote.alloc W hB _).trans (Wrote.alloc _ (by simp; omega) _)
  have YG := Lib.hid ((hkid y List.mem_cons_self).wrote hWo)
  have YO := Lib.hid (hoks y List.mem_cons_self)
  have HW0 := Lib.hid ((h.alloc (.cells (nodeC (NodeX.mk xk xs xm xx (some ⟨a, off, none⟩) xn xc (y :: ys))) 97)).alloc (.cells (nodeC y) 97))
  have HLB := Lib.hid (hl.wrote hWo)
  have HLB0 := Lib.hid hl
  have YW := Lib.hid (HN y List.mem_cons_self)
  have HBX := Lib.hid ((Blk.new W 97 (nodeC (NodeX.mk xk xs xm xx (some ⟨a, off, none⟩) xn xc (y :: ys)))).alloc (.cells (nodeC y) 97))
  have HBY := Lib.hid (new_at (W.alloc (.cells (nodeC (NodeX.mk xk xs xm xx (some ⟨a, off, none⟩) xn xc (y :: ys))) 97)) 97 (nodeC y) (W.heap.size + 1) (by simp))
  have HWo := Lib.hid hWo
  have hBWa : B ≤ W.heap.size + 1 + 1 := by omega
  have htm := fun w hl => times_any xm xx hbds.1.1 hbds.1.2 hbds.2.1 hbds.2.2 w hl
  have HTM := Lib.hid htm
  obtain ⟨T, hT⟩ : ∃ T, timesT xm xx = T := ⟨_, rfl⟩
  rw [hT] at HTM hlen ⊢
  have c0 := hc 0 0 y rfl (by decide)
  have c1 := hc 0 1 y rfl (by decide)
  have c2 := hc 0 2 y rfl (by decide)
  have c3 := hc 0 3 y rfl (by decide)
  have c4 := hc 0 4 y rfl (by decide)
  have c5 := hc 0 5 y rfl (by decide)
  have c6 := hc 0 6 y rfl (by decide)
  have c7 := hc 0 7 y rfl (by decide)
  simp only [Nat.zero_mul, Nat.add_zero] at c0 c1 c2 c3 c4 c5 c6 c7
  simp only [nodeV, List.getElem?_cons_zero, List.getElem?_cons_succ] at c0 c1 c2 c3 c4 c5 c6 c7
  obtain ⟨⟨a0, a1, a2, a3, a4, a5, a6, a7⟩, _⟩ := node_cells HBX.out
  obtain ⟨⟨b0, b1, b2, b3, b4, b5, b6, b7⟩, _⟩ := node_cells HBY.out
  obtain ⟨⟨z0, z1, z2, z3, z4, z5, z6, z7⟩, _⟩ := node_cells ((Blk.new W 97 (nodeC (NodeX.mk xk xs xm xx (some ⟨a, off, none⟩) xn xc (y :: ys)))).alloc (.cells #[.int .i64 0, .int .u64 0, .int .u64 0, .int .u64 0, .int .u64 0, .int .i64 0, .int .i64 0, .slice none 0 0] 97))
  simp only [NodeX.kind, NodeX.set, NodeX.mn, NodeX.mx, NodeX.A, NodeX.n, NodeX.c] at a0 a1 a2 a3 a4 a5 a6 a7 z0 z1 z2 z3 z4 z5 z6 z7
  clear hT htm h hl hg ho hrow hkid hoks hcap hlenM hbds hP HN hc hWo hne
  have ebr : (decide (y.kind = 0) || decide (4 ≤ y.kind)) = (y.kind == 0 || decide (4 ≤ y.kind)) := rfl
  rw [ebr] at hlen ⊢
  obtain ⟨U, hU⟩ : ∃ U, inB (y.kind == 0 || decide (4 ≤ y.kind)) (putT y.t) = U := ⟨_, rfl⟩
  rw [hU] at hlen ⊢
  rw [List.length_append] at hlen
  have W1 := YW.out (y.kind == 0 || decide (4 ≤ y.kind)) B b l _ YG.out YO.out HW0.out HLB.out (by rw [hU]; omega) (by simp; omega)
  rw [hU] at W1
  have HLEN := Lib.hid hlen
  replace W1 := Lib.hid W1
  clear hlen hU ebr YW YG YO HW0 HLB
  obtain ⟨CX, hCX⟩ : ∃ CX, nodeC (NodeX.mk xk xs xm xx (some ⟨a, off, none⟩) xn xc (y :: ys)) = CX := ⟨_, rfl⟩
  have HBXX := Lib.hid (show (CX = nodeC (NodeX.mk xk xs xm xx (some ⟨a, off, none⟩) xn xc (y :: ys))) from hCX.symm)
  rw [hCX] at W1 HBX HBY HWo a0 a1 a2 a3 a4 a5 a6 a7 z0 z1 z2 z3 z4 z5 z6 z7 b0 b1 b2 b3 b4 b5 b6 b7 ⊢
  clear hCX
  unfold nodeC nodeV at W1 HWo HBX
  obtain ⟨yk, hyk⟩ : ∃ k, y.kind = k := ⟨_, rfl⟩
  rw [hyk] at W1 HWo HBX c0
  clear hyk b0 b1 b2 b3 b4 b5 b6 b7
  by_cases hy0 : yk = 0
  · subst hy0
    rw [show ((0 : Int) == 0 || decide (4 ≤ (0 : Int))) = true from rfl] at W1
    go_enter Tryz.func101, Tryz.ntmps101
    go_wp2_with fail
    refine W1.out.mono ?_
    rintro e w1 ⟨rfl, h1, k1⟩
    have H1 := Lib.hid h1
    have HK1 := Lib.hid (HWo.out.trans k1)
    have hk1 : Blk w1 W.heap.size 97 CX := k1.blk (by decide) (by omega) HBX.out
    have S0 : (Blk w1.drew W.heap.size 97 CX ∧ (w1.drew.cell? ⟨W.heap.size, 0, none⟩ = some (.int .i64 xk) ∧ w1.drew.cell? ⟨W.heap.size, 1, none⟩ = some (.int .u64 (word xs 0 : Nat)) ∧ w1.drew.cell? ⟨W.heap.size, 2, none⟩ = some (.int .u64 (word xs 1 : Nat)) ∧ w1.drew.cell? ⟨W.heap.size, 3, none⟩ = some (.int .u64 (word xs 2 : Nat)) ∧ w1.drew.cell? ⟨W.heap.size, 4, none⟩ = some (.int .u64 (word xs 3 : Nat)) ∧ w1.drew.cell? ⟨W.heap.size, 5, none⟩ = some (.int .i64 xm) ∧ w1.drew.cell? ⟨W.heap.size, 6, none⟩ = some (.int .i64 xx) ∧ w1.drew.cell? ⟨W.heap.size, 7, none⟩ = some (.slice (some ⟨a, off, none⟩) xn xc)) ∧ Wrote B b W w1.drew) := ⟨hk1, (by have := node_cells (show Blk w1.drew W.heap.size 97 (nodeC (NodeX.mk xk xs xm xx (some ⟨a, off, none⟩) xn xc (y :: ys))) by rw [← HBXX.out]; exact hk1); exact this.1), HK1.out.trans (Wrote.of (below_drewN (Below.refl _ _) 1) (Nat.le_trans hB HK1.out.size))⟩
    have HS := Lib.hid (show ∀ w w', (Blk w W.heap.size 97 CX ∧ (w.cell? ⟨W.heap.size, 0, none⟩ = some (.int .i64 xk) ∧ w.cell? ⟨W.heap.size, 1, none⟩ = some (.int .u64 (word xs 0 : Nat)) ∧ w.cell? ⟨W.heap.size, 2, none⟩ = some (.int .u64 (word xs 1 : Nat)) ∧ w.cell? ⟨W.heap.size, 3, none⟩ = some (.int .u64 (word xs 2 : Nat)) ∧ w.cell? ⟨W.heap.size, 4, none⟩ = some (.int .u64 (word xs 3 : Nat)) ∧ w.cell? ⟨W.heap.size, 5, none⟩ = some (.int .i64 xm) ∧ w.cell? ⟨W.heap.size, 6, none⟩ = some (.int .i64 xx) ∧ w.cell? ⟨W.heap.size, 7, none⟩ = some (.slice (some ⟨a, off, none⟩) xn xc)) ∧ Wrote B b W w) → Below w.heap.size w w' → (Blk w' W.heap.size 97 CX ∧ (w'.cell? ⟨W.heap.size, 0, none⟩ = some (.int .i64 xk) ∧ w'.cell? ⟨W.heap.size, 1, none⟩ = some (.int .u64 (word xs 0 : Nat)) ∧ w'.cell? ⟨W.heap.size, 2, none⟩ = some (.int .u64 (word xs 1 : Nat)) ∧ w'.cell? ⟨W.heap.size, 3, none⟩ = some (.int .u64 (word xs 2 : Nat)) ∧ w'.cell? ⟨W.heap.size, 4, none⟩ = some (.int .u64 (word xs 3 : Nat)) ∧ w'.cell? ⟨W.heap.size, 5, none⟩ = some (.int .i64 xm) ∧ w'.cell? ⟨W.heap.size, 6, none⟩ = some (.int .i64 xx) ∧ w'.cell? ⟨W.heap.size, 7, none⟩ = some (.slice (some ⟨a, off, none⟩) xn xc)) ∧ Wrote B b W w') from fun w w' h hb => ⟨h.1.below hb h.1.lt, (node_cells (show Blk w' W.heap.size 97 (nodeC (NodeX.mk xk xs xm xx (some ⟨a, off, none⟩) xn xc (y :: ys))) by rw [← HBXX.out]; exact h.1.below hb h.1.lt)).1, h.2.2.trans (Wrote.of hb (Nat.le_trans hB h.2.2.size))⟩)
    clear h1 k1 hk1 W1 a0 a1 a2 a3 a4 a5 a6 a7 z0 z1 z2 z3 z4 z5 z6 z7 c0 c1 c2 c3 c4 c5 c6 c7
    go_wp2
    refine wp_region_held_drew (S := fun w' => (Blk w' W.heap.size 97 CX ∧ (w'.cell? ⟨W.heap.size, 0, none⟩ = some (.int .i64 xk) ∧ w'.cell? ⟨W.heap.size, 1, none⟩ = some (.int .u64 (word xs 0 : Nat)) ∧ w'.cell? ⟨W.heap.size, 2, none⟩ = some (.int .u64 (word xs 1 : Nat)) ∧ w'.cell? ⟨W.heap.size, 3, none⟩ = some (.int .u64 (word xs 2 : Nat)) ∧ w'.cell? ⟨W.heap.size, 4, none⟩ = some (.int .u64 (word xs 3 : Nat)) ∧ w'.cell? ⟨W.heap.size, 5, none⟩ = some (.int .i64 xm) ∧ w'.cell? ⟨W.heap.size, 6, none⟩ = some (.int .i64 xx) ∧ w'.cell? ⟨W.heap.size, 7, none⟩ = some (.slice (some ⟨a, off, none⟩) xn xc)) ∧ Wrote B b W w')) (by kernel_rfl) S0 (fun hHeld => ?_)
    refine tV 0 ?_; refine tV 1 ?_; refine tV 2 ?_; refine tV 3 ?_; refine tH 4 ?_; refine tV 5 ?_; refine tH 6 ?_
    refine rdy [7] ?_
    refine rdC (fun K hK => ?_) AllReadyH.nil
    go_simp
    go_at_call 118
    refine (HTM.out _ (HLB0.out _ (by first | exact HK1.out.below | exact HK1.out.below.drew))).mono ?_
    rintro e wc1 ⟨⟨s, rfl, hsT, hsz⟩, hb3⟩
    have hbT := hb3
    have Sc1 := HS.out _ _ (by assumption) hb3
    refine hK.out _ _ Sc1 (fun _ => ?_)
    clear hK K hb3
    try simp only [Act.put, pz1, pz2, pz3]
    refine rdy [8] ?_
    refine rdC (fun K hK => ?_) AllReadyH.nil
    go_simp
    go_at_call 117
    have H1c := Lib.hid (H1.out.later (show Below w1.heap.size w1 wc1 from ((below_drewN (Below.refl _ _) 1).trans hbT)))
    have hsT2 := hsT
    have hsz2 := hsz
    refine (wr_string B b (l ++ U) s wc1 H1c.out (by have := HLEN.out; rw [List.length_append, ← size_toList, hsT2]; omega) (Nat.le_trans hB Sc1.2.2.size)).mono ?_
    rintro e w9 ⟨rfl, h9, k9⟩
    refine hK.out _ _ ⟨k9.blk (by decide) (by omega) Sc1.1, (node_cells (show Blk w9 W.heap.size 97 (nodeC (NodeX.mk xk xs xm xx (some ⟨a, off, none⟩) xn xc (y :: ys))) by rw [← HBXX.out]; exact k9.blk (by decide) (by omega) Sc1.1)).1, Sc1.2.2.trans k9⟩ (fun _ => ?_)
    clear hK K
    try simp only [Act.put, pz1, pz2, pz3]
    refine wpAnyH_done (by kernel_rfl) ?_ _
    clear HS hHeld
    go_wp2
    go_end0
    rw [List.append_assoc, hsT] at h9
    exact ⟨rfl, h9, Sc1.2.2.trans k9⟩
  · have hy0' : (yk == 0) = false := beq_eq_false_iff_ne.2 hy0
    rw [hy0', Bool.false_or] at W1
    clear hy0
    go_enter Tryz.func101, Tryz.ntmps101
    go_wp2_with fail
    refine W1.out.mono ?_
    rintro e w1 ⟨rfl, h1, k1⟩
    have H1 := Lib.hid h1
    have HK1 := Lib.hid (HWo.out.trans k1)
    have hk1 : Blk w1 W.heap.size 97 CX := k1.blk (by decide) (by omega) HBX.out
    have S0 : (Blk w1.drew W.heap.size 97 CX ∧ (w1.drew.cell? ⟨W.heap.size, 0, none⟩ = some (.int .i64 xk) ∧ w1.drew.cell? ⟨W.heap.size, 1, none⟩ = some (.int .u64 (word xs 0 : Nat)) ∧ w1.drew.cell? ⟨W.heap.size, 2, none⟩ = some (.int .u64 (word xs 1 : Nat)) ∧ w1.drew.cell? ⟨W.heap.size, 3, none⟩ = some (.int .u64 (word xs 2 : Nat)) ∧ w1.drew.cell? ⟨W.heap.size, 4, none⟩ = some (.int .u64 (word xs 3 : Nat)) ∧ w1.drew.cell? ⟨W.heap.size, 5, none⟩ = some (.int .i64 xm) ∧ w1.drew.cell? ⟨W.heap.size, 6, none⟩ = some (.int .i64 xx) ∧ w1.drew.cell? ⟨W.heap.size, 7, none⟩ = some (.slice (some ⟨a, off, none⟩) xn xc)) ∧ Wrote B b W w1.drew) := ⟨hk1, (by have := node_cells (show Blk w1.drew W.heap.size 97 (nodeC (NodeX.mk xk xs xm xx (some ⟨a, off, none⟩) xn xc (y :: ys))) by rw [← HBXX.out]; exact hk1); exact this.1), HK1.out.trans (Wrote.of (below_drewN (Below.refl _ _) 1) (Nat.le_trans hB HK1.out.size))⟩
    have HS := Lib.hid (show ∀ w w', (Blk w W.heap.size 97 CX ∧ (w.cell? ⟨W.heap.size, 0, none⟩ = some (.int .i64 xk) ∧ w.cell? ⟨W.heap.size, 1, none⟩ = some (.int .u64 (word xs 0 : Nat)) ∧ w.cell? ⟨W.heap.size, 2, none⟩ = some (.int .u64 (word xs 1 : Nat)) ∧ w.cell? ⟨W.heap.size, 3, none⟩ = some (.int .u64 (word xs 2 : Nat)) ∧ w.cell? ⟨W.heap.size, 4, none⟩ = some (.int .u64 (word xs 3 : Nat)) ∧ w.cell? ⟨W.heap.size, 5, none⟩ = some (.int .i64 xm) ∧ w.cell? ⟨W.heap.size, 6, none⟩ = some (.int .i64 xx) ∧ w.cell? ⟨W.heap.size, 7, none⟩ = some (.slice (some ⟨a, off, none⟩) xn xc)) ∧ Wrote B b W w) → Below w.heap.size w w' → (Blk w' W.heap.size 97 CX ∧ (w'.cell? ⟨W.heap.size, 0, none⟩ = some (.int .i64 xk) ∧ w'.cell? ⟨W.heap.size, 1, none⟩ = some (.int .u64 (word xs 0 : Nat)) ∧ w'.cell? ⟨W.heap.size, 2, none⟩ = some (.int .u64 (word xs 1 : Nat)) ∧ w'.cell? ⟨W.heap.size, 3, none⟩ = some (.int .u64 (word xs 2 : Nat)) ∧ w'.cell? ⟨W.heap.size, 4, none⟩ = some (.int .u64 (word xs 3 : Nat)) ∧ w'.cell? ⟨W.heap.size, 5, none⟩ = some (.int .i64 xm) ∧ w'.cell? ⟨W.heap.size, 6, none⟩ = some (.int .i64 xx) ∧ w'.cell? ⟨W.heap.size, 7, none⟩ = some (.slice (some ⟨a, off, none⟩) xn xc)) ∧ Wrote B b W w') from fun w w' h hb => ⟨h.1.below hb h.1.lt, (node_cells (show Blk w' W.heap.size 97 (nodeC (NodeX.mk xk xs xm xx (some ⟨a, off, none⟩) xn xc (y :: ys))) by rw [← HBXX.out]; exact h.1.below hb h.1.lt)).1, h.2.2.trans (Wrote.of hb (Nat.le_trans hB h.2.2.size))⟩)
    clear h1 k1 hk1 W1 a0 a1 a2 a3 a4 a5 a6 a7 z0 z1 z2 z3 z4 z5 z6 z7 c0 c1 c2 c3 c4 c5 c6 c7
    go_wp2
    refine wp_region_held_drew (S := fun w' => (Blk w' W.heap.size 97 CX ∧ (w'.cell? ⟨W.heap.size, 0, none⟩ = some (.int .i64 xk) ∧ w'.cell? ⟨W.heap.size, 1, none⟩ = some (.int .u64 (word xs 0 : Nat)) ∧ w'.cell? ⟨W.heap.size, 2, none⟩ = some (.int .u64 (word xs 1 : Nat)) ∧ w'.cell? ⟨W.heap.size, 3, none⟩ = some (.int .u64 (word xs 2 : Nat)) ∧ w'.cell? ⟨W.heap.size, 4, none⟩ = some (.int .u64 (word xs 3 : Nat)) ∧ w'.cell? ⟨W.heap.size, 5, none⟩ = some (.int .i64 xm) ∧ w'.cell? ⟨W.heap.size, 6, none⟩ = some (.int .i64 xx) ∧ w'.cell? ⟨W.heap.size, 7, none⟩ = some (.slice (some ⟨a, off, none⟩) xn xc)) ∧ Wrote B b W w')) (by kernel_rfl) S0 (fun hHeld => ?_)
    refine tV 0 ?_; refine tV 1 ?_; refine tV 2 ?_; refine tV 3 ?_; refine tH 4 ?_; refine tV 5 ?_; refine tH 6 ?_
    refine rdy [7] ?_
    refine rdC (fun K hK => ?_) AllReadyH.nil
    go_simp
    go_at_call 118
    refine (HTM.out _ (HLB0.out _ (by first | exact HK1.out.below | exact HK1.out.below.drew))).mono ?_
    rintro e wc1 ⟨⟨s, rfl, hsT, hsz⟩, hb3⟩
    have hbT := hb3
    have Sc1 := HS.out _ _ (by assumption) hb3
    refine hK.out _ _ Sc1 (fun _ => ?_)
    clear hK K hb3
    try simp only [Act.put, pz1, pz2, pz3]
    refine rdy [8] ?_
    refine rdC (fun K hK => ?_) AllReadyH.nil
    go_simp
    go_at_call 117
    have H1c := Lib.hid (H1.out.later (show Below w1.heap.size w1 wc1 from ((below_drewN (Below.refl _ _) 1).trans hbT)))
    have hsT2 := hsT
    have hsz2 := hsz
    refine (wr_string B b (l ++ U) s wc1 H1c.out (by have := HLEN.out; rw [List.length_append, ← size_toList, hsT2]; omega) (Nat.le_trans hB Sc1.2.2.size)).mono ?_
    rintro e w9 ⟨rfl, h9, k9⟩
    refine hK.out _ _ ⟨k9.blk (by decide) (by omega) Sc1.1, (node_cells (show Blk w9 W.heap.size 97 (nodeC (NodeX.mk xk xs xm xx (some ⟨a, off, none⟩) xn xc (y :: ys))) by rw [← HBXX.out]; exact k9.blk (by decide) (by omega) Sc1.1)).1, Sc1.2.2.trans k9⟩ (fun _ => ?_)
    clear hK K
    try simp only [Act.put, pz1, pz2, pz3]
    refine wpAnyH_done (by kernel_rfl) ?_ _
    clear HS hHeld
    go_wp2
    go_end0
    rw [List.append_assoc, hsT] at h9
    exact ⟨rfl, h9, Sc1.2.2.trans k9⟩
theorem putX (k : Int) (s : Nat) (m1 m2 : Int) (A : Option Addr) (n c : Nat) (l : List NodeX) : putT (NodeX.mk k s m1 m2 A n c l).t = (if k = 1 then setT s else if k = 2 then [94] else if k = 3 then [36] else if k = 4 then catsT (l.map NodeX.t) else if k = 5 then altsT (l.map NodeX.t) else if k = 6 then firstP (l.map NodeX.t) ++ timesT m1 m2 else []) := by
  rw [NodeX.t, putT_mk, NodeX.ts_map]
set_option maxRecDepth 100000 in
set_option maxHeartbeats 6400000 in
theorem node_step (x : NodeX) (HS : ∀ y, y ∈ x.kids → NodeW y) : NodeW x := by
  intro B b l W hg ho h hl hlen hB
  have hbW := h.lt
  have HREP := Lib.hid (repeat_any x (fun y hy => within_any y (HS y hy)))
  have hrow := hg.row
  have hkid := fun y hy => hg.kid (y := y) hy
  have hoks := fun y hy => ho.kid (y := y) hy
  have hsx := hg.set_lt
  have hlenM := hg.lenM
  have h6 : x.kind = 6 → x.kids ≠ [] := by
    cases ho with
    | mk _ _ h6 _ => exact h6
  have hP : 0 < x.n → ∀ a, x.A = some a → a.block < B := by
    cases hg with
    | mk _ _ _ _ h5 _ => exact h5
  have HG0 := Lib.hid hg
  have HO0 := Lib.hid ho
  have hWo := Wrote.alloc (b := b) W hB (.cells (nodeC x) 97)
  have hk0 := Blk.new W 97 (nodeC x)
  obtain ⟨⟨a0, a1, a2, a3, a4, a5, a6, a7⟩, _⟩ := node_cells hk0
  have H0 := Lib.hid (h.alloc (.cells (nodeC x) 97))
  have HL := Lib.hid (hl.wrote hWo)
  have HL0 := Lib.hid hl
  have HWo := Lib.hid hWo
  have hB0 : B ≤ (W.alloc (.cells (nodeC x) 97)).heap.size := by simp; omega
  obtain ⟨CX, hCX⟩ : ∃ CX, nodeC x = CX := ⟨_, rfl⟩
  rw [hCX] at HWo H0 HL hB0 a0 a1 a2 a3 a4 a5 a6 a7 ⊢
  have HCX := Lib.hid hCX
  obtain ⟨xk, xs, xm, xx, xA, xn, xc, xl⟩ := x
  rw [putX] at hlen ⊢
  simp only [NodeX.kind, NodeX.set, NodeX.mn, NodeX.mx, NodeX.A, NodeX.n, NodeX.c, NodeX.kids] at hrow hkid hoks hsx hlenM h6 hP HS a0 a1 a2 a3 a4 a5 a6 a7
  have HSS := Lib.hid HS
  have HROW := Lib.hid hrow
  have HKID := Lib.hid hkid
  have HOKS := Lib.hid hoks
  have HPP := Lib.hid hP
  clear h hl hg ho hWo hk0 hCX HS hrow hkid hoks hP
  by_cases hk1 : xk = 1
  · subst hk1
    rw [if_pos rfl] at hlen ⊢
    have W1 := Lib.hid (tellSet_any B b l xs hsx _ H0.out hlen hB0)
    clear hlen HSS HROW HKID HOKS HPP HREP h6 HCX
    unfold setV setC at W1
    go_enter Tryz.func79, Tryz.ntmps79
    go_wp2_with fail
    refine W1.out.mono ?_
    rintro e w1 ⟨rfl, h1, k1⟩
    have H1 := Lib.hid h1
    have K1 := Lib.hid (HWo.out.trans k1)
    clear h1 k1
    go_wp2
    go_end0
    exact ⟨rfl, H1.out, K1.out⟩
  · have b1 : (xk == 1) = false := beq_eq_false_iff_ne.2 hk1
    rw [if_neg hk1] at hlen ⊢
    by_cases hk2 : xk = 2
    · subst hk2
      rw [if_pos rfl] at hlen ⊢
      have W1 := Lib.hid (wr_byte B b l 94 94 rfl _ H0.out (by simpa using hlen) hB0)
      clear hlen HSS HROW HKID HOKS HPP HREP h6 HCX
      go_enter Tryz.func79, Tryz.ntmps79
      go_wp2_with fail
      refine W1.out.mono ?_
      rintro e w1 ⟨rfl, h1, k1⟩
      have H1 := Lib.hid h1
      have K1 := Lib.hid (HWo.out.trans k1)
      clear h1 k1
      go_wp2
      go_end0
      exact ⟨rfl, H1.out, K1.out⟩
    · have b2 : (xk == 2) = false := beq_eq_false_iff_ne.2 hk2
      rw [if_neg hk2] at hlen ⊢
      by_cases hk3 : xk = 3
      · subst hk3
        rw [if_pos rfl] at hlen ⊢
        have W1 := Lib.hid (wr_byte B b l 36 36 rfl _ H0.out (by simpa using hlen) hB0)
        clear hlen HSS HROW HKID HOKS HPP HREP h6 HCX
        go_enter Tryz.func79, Tryz.ntmps79
        go_wp2_with fail
        refine W1.out.mono ?_
        rintro e w1 ⟨rfl, h1, k1⟩
        have H1 := Lib.hid h1
        have K1 := Lib.hid (HWo.out.trans k1)
        clear h1 k1
        go_wp2
        go_end0
        exact ⟨rfl, H1.out, K1.out⟩
      · have b3 : (xk == 3) = false := beq_eq_false_iff_ne.2 hk3
        rw [if_neg hk3] at hlen ⊢
        by_cases hk4 : xk = 4
        · subst hk4
          rw [if_pos rfl] at hlen ⊢
          have HPRE := Lib.hid (catsT_pre xl)
          have HW0 := Lib.hid (show Wr B b (l ++ catsT ((xl.take 0).map NodeX.t)) (W.alloc (.cells CX 97)) by rw [List.take_zero, List.map_nil, catsT_nil, List.append_nil]; exact H0.out)
          have hxl : xl.length = xn := HROW.out.1
          clear HREP h6 HCX
          go_enter Tryz.func79, Tryz.ntmps79
          go_wp2
          go_loopw [33] (fun iv wr => ∃ (j : Nat), j ≤ xn ∧ iv = .int .i64 (j : Nat) ∧ Hid (Wr B b (l ++ catsT ((xl.take j).map NodeX.t)) wr) ∧ Hid (Wrote B b W wr)) (fun iv _ => xn - (intOf iv).toNat)
          case atStart => exact ⟨0, Nat.zero_le _, rfl, HW0, HWo⟩
          case round =>
            obtain ⟨j, hj, rfl, HW, HK⟩ := hrel
            by_cases hjn : j < xn
            · have hI : (j : Int) < xn := by omega
              obtain ⟨a, off, rfl, hlt, hc⟩ := HROW.out.2 (by omega)
              have haB : a < B := HPP.out (by omega) _ rfl
              obtain ⟨p, hp⟩ : ∃ p, xl[j]? = some p := ⟨xl[j], List.getElem?_eq_getElem (by omega)⟩
              have hpl : p ∈ xl := List.mem_of_getElem? hp
              have hB1 := HK.out.below
              have c0 := (hB1.cell (p := ⟨a, off + j * 8 + 0, none⟩) haB).trans (hc j 0 p hp (by decide))
              have c1 := (hB1.cell (p := ⟨a, off + j * 8 + 1, none⟩) haB).trans (hc j 1 p hp (by decide))
              have c2 := (hB1.cell (p := ⟨a, off + j * 8 + 2, none⟩) haB).trans (hc j 2 p hp (by decide))
              have c3 := (hB1.cell (p := ⟨a, off + j * 8 + 3, none⟩) haB).trans (hc j 3 p hp (by decide))
              have c4 := (hB1.cell (p := ⟨a, off + j * 8 + 4, none⟩) haB).trans (hc j 4 p hp (by decide))
              have c5 := (hB1.cell (p := ⟨a, off + j * 8 + 5, none⟩) haB).trans (hc j 5 p hp (by decide))
              have c6 := (hB1.cell (p := ⟨a, off + j * 8 + 6, none⟩) haB).trans (hc j 6 p hp (by decide))
              have c7 := (hB1.cell (p := ⟨a, off + j * 8 + 7, none⟩) haB).trans (hc j 7 p hp (by decide))
              rw [Nat.add_zero] at c0
              simp only [nodeV, List.getElem?_cons_zero, List.getElem?_cons_succ] at c0 c1 c2 c3 c4 c5 c6 c7
              have hnx := catsT_next hp
              rw [NodeX.t_kind, show decide (p.kind = 5) = (p.kind == 5) from rfl] at hnx
              have hlen2 := HPRE.out (j + 1)
              rw [hnx, List.length_append] at hlen2
              have HN := Lib.hid hnx
              have hWs := HK.out.size
              have hKA := HK.out.trans (Wrote.alloc (b := b) wr (by omega) (.cells (nodeC p) 97))
              have HKA := Lib.hid hKA
              have SX := within_any p (HSS.out p hpl) (p.kind == 5) B b (l ++ catsT ((xl.take j).map NodeX.t)) (wr.alloc (.cells (nodeC p) 97)) ((HKID.out p hpl).wrote hKA) (HOKS.out p hpl) (HW.out.alloc _) (HL0.out.wrote hKA) (by rw [List.length_append]; omega) (by simp; omega)
              have K1 := Blk.new wr 97 (nodeC p)
              obtain ⟨⟨d0, d1, d2, d3, d4, d5, d6, d7⟩, _⟩ := node_cells K1
              replace SX := Lib.hid SX
              clear hnx hp hc hB1 hKA K1 hlen2 HPRE HROW
              unfold nodeC nodeV at *
              go_wp2_with fail
              refine SX.out.mono ?_
              rintro e w2 ⟨rfl, h2, k2⟩
              have H2 := Lib.hid h2
              have K2 := Lib.hid (HKA.out.trans k2)
              clear h2 k2
              go_wp2
              go_round
              case rel =>
                refine ⟨j + 1, by omega, by go_num, ?_, K2⟩
                rw [HN.out, ← List.append_assoc]
                exact H2
              case measure => simp [intOf]; omega
            · obtain rfl : j = xn := by omega
              have hI : ¬ (j : Int) < (j : Int) := by omega
              have hh := HW.out
              rw [List.take_of_length_le (by omega)] at hh
              have HH := Lib.hid hh
              clear hh
              go_wp2
              go_end0
              exact ⟨rfl, HH.out, HK.out⟩
        · have b4 : (xk == 4) = false := beq_eq_false_iff_ne.2 hk4
          rw [if_neg hk4] at hlen ⊢
          by_cases hk5 : xk = 5
          · subst hk5
            rw [if_pos rfl] at hlen ⊢
            have HPRE := Lib.hid (altsT_pre xl)
            have HW0 := Lib.hid (show Wr B b (l ++ altsT ((xl.take 0).map NodeX.t)) (W.alloc (.cells CX 97)) by rw [List.take_zero, List.map_nil, altsT_nil, List.append_nil]; exact H0.out)
            have hxl : xl.length = xn := HROW.out.1
            clear HREP h6 HCX
            go_enter Tryz.func79, Tryz.ntmps79
            go_wp2
            go_loopw [49] (fun iv wr => ∃ (j : Nat), j ≤ xn ∧ iv = .int .i64 (j : Nat) ∧ Hid (Wr B b (l ++ altsT ((xl.take j).map NodeX.t)) wr) ∧ Hid (Wrote B b W wr)) (fun iv _ => xn - (intOf iv).toNat)
            case atStart => exact ⟨0, Nat.zero_le _, rfl, HW0, HWo⟩
            case round =>
              obtain ⟨j, hj, rfl, HW, HK⟩ := hrel
              by_cases hjn : j < xn
              · have hI : (j : Int) < xn := by omega
                obtain ⟨a, off, rfl, hlt, hc⟩ := HROW.out.2 (by omega)
                have haB : a < B := HPP.out (by omega) _ rfl
                obtain ⟨p, hp⟩ : ∃ p, xl[j]? = some p := ⟨xl[j], List.getElem?_eq_getElem (by omega)⟩
                have hpl : p ∈ xl := List.mem_of_getElem? hp
                have hB1 := HK.out.below
                have c0 := (hB1.cell (p := ⟨a, off + j * 8 + 0, none⟩) haB).trans (hc j 0 p hp (by decide))
                have c1 := (hB1.cell (p := ⟨a, off + j * 8 + 1, none⟩) haB).trans (hc j 1 p hp (by decide))
                have c2 := (hB1.cell (p := ⟨a, off + j * 8 + 2, none⟩) haB).trans (hc j 2 p hp (by decide))
                have c3 := (hB1.cell (p := ⟨a, off + j * 8 + 3, none⟩) haB).trans (hc j 3 p hp (by decide))
                have c4 := (hB1.cell (p := ⟨a, off + j * 8 + 4, none⟩) haB).trans (hc j 4 p hp (by decide))
                have c5 := (hB1.cell (p := ⟨a, off + j * 8 + 5, none⟩) haB).trans (hc j 5 p hp (by decide))
                have c6 := (hB1.cell (p := ⟨a, off + j * 8 + 6, none⟩) haB).trans (hc j 6 p hp (by decide))
                have c7 := (hB1.cell (p := ⟨a, off + j * 8 + 7, none⟩) haB).trans (hc j 7 p hp (by decide))
                rw [Nat.add_zero] at c0
                simp only [nodeV, List.getElem?_cons_zero, List.getElem?_cons_succ] at c0 c1 c2 c3 c4 c5 c6 c7
                have hnx := altsT_next hp
                have hlen2 := HPRE.out (j + 1)
                rw [hnx, List.length_append, List.length_append] at hlen2
                have HN := Lib.hid hnx
                have hWs := HK.out.size
                have hbr : b < wr.heap.size := HW.out.lt
                have hKA := HK.out.trans (Wrote.alloc (b := b) wr (by omega) (.cells (nodeC p) 97))
                have HKA := Lib.hid hKA
                have HWA := Lib.hid (HW.out.alloc (.cells (nodeC p) 97))
                have PG := Lib.hid (fun w (k : Wrote B b W w) => (HKID.out p hpl).wrote k)
                have PO := Lib.hid (HOKS.out p hpl)
                have PW := Lib.hid (HSS.out p hpl)
                have HK1 := Lib.hid (Blk.new wr 97 (nodeC p))
                obtain ⟨T, hT⟩ : ∃ T, altsT ((xl.take j).map NodeX.t) = T := ⟨_, rfl⟩
                rw [hT] at HW HN hlen2 HWA
                have HLE := Lib.hid hlen2
                clear hnx hp hc hB1 hKA hlen2 HPRE HROW hT
                by_cases hj0 : j = 0
                · subst hj0
                  simp only [Nat.zero_mul, Nat.add_zero] at c0 c1 c2 c3 c4 c5 c6 c7
                  have hle := HLE.out
                  rw [if_pos rfl] at hle
                  obtain ⟨⟨d0, d1, d2, d3, d4, d5, d6, d7⟩, _⟩ := node_cells HK1.out
                  have SX := PW.out B b (l ++ T) _ (PG.out _ HKA.out) PO.out HWA.out (HL0.out.wrote HKA.out) (by rw [List.length_append]; simp at hle; omega) (by simp; omega)
                  replace SX := Lib.hid SX
                  clear hle
                  unfold nodeC nodeV at *
                  go_wp2_with fail
                  refine SX.out.mono ?_
                  rintro e w2 ⟨rfl, h2, k2⟩
                  have H2 := Lib.hid h2
                  have K2 := Lib.hid (HKA.out.trans k2)
                  clear h2 k2
                  go_wp2
                  go_round
                  case rel =>
                    refine ⟨0 + 1, by omega, by go_num, ?_, K2⟩
                    rw [HN.out, if_pos (by trivial), List.nil_append, ← List.append_assoc]
                    exact H2
                  case measure => simp [intOf]; omega
                · have hj1 : (0 : Int) < (j : Int) := by omega
                  have hj2 : (j : Int) > 0 := hj1
                  have hle := HLE.out
                  rw [if_neg hj0] at hle
                  have hle1 : (l ++ T).length + 1 ≤ 140737488355328 := by rw [List.length_append]; simp at hle; omega
                  have hle2 : (l ++ T ++ [124]).length + (putT p.t).length ≤ 140737488355328 := by rw [List.length_append, List.length_append]; simp at hle ⊢; omega
                  have HLE2 := Lib.hid hle2
                  have SB := Lib.hid (wr_byte B b (l ++ T) 124 124 rfl _ HWA.out hle1 (by simp; omega))
                  clear hle hle1 hle2
                  unfold nodeC nodeV at SB
                  go_wp2_with fail
                  refine SB.out.mono ?_
                  rintro e w1 ⟨rfl, h1, k1⟩
                  have hk1 : Blk w1 wr.heap.size 97 (nodeC p) := k1.blk (by decide) (by omega) HK1.out
                  obtain ⟨⟨d0, d1, d2, d3, d4, d5, d6, d7⟩, _⟩ := node_cells hk1
                  have HKB := HKA.out.trans k1
                  have SX := PW.out B b (l ++ T ++ [124]) w1 (PG.out _ HKB) PO.out h1 (HL0.out.wrote HKB) HLE2.out (by have := HKB.size; omega)
                  replace SX := Lib.hid SX
                  replace HKB := Lib.hid HKB
                  clear hk1 k1 h1 SB c0 c1 c2 c3 c4 c5 c6 c7
                  unfold nodeC nodeV at SX
                  go_wp2_with fail
                  refine SX.out.mono ?_
                  rintro e w2 ⟨rfl, h2, k2⟩
                  have H2 := Lib.hid h2
                  have K2 := Lib.hid (HKB.out.trans k2)
                  clear h2 k2
                  go_wp2
                  go_round
                  case rel =>
                    refine ⟨j + 1, by omega, by go_num, ?_, K2⟩
                    rw [HN.out, if_neg hj0, ← List.append_assoc, ← List.append_assoc]
                    exact H2
                  case measure => simp [intOf]; omega
              · obtain rfl : j = xn := by omega
                have hI : ¬ (j : Int) < (j : Int) := by omega
                have hh := HW.out
                rw [List.take_of_length_le (by omega)] at hh
                have HH := Lib.hid hh
                clear hh
                go_wp2
                go_end0
                exact ⟨rfl, HH.out, HK.out⟩
          · have b5 : (xk == 5) = false := beq_eq_false_iff_ne.2 hk5
            rw [if_neg hk5] at hlen ⊢
            by_cases hk6 : xk = 6
            · subst hk6
              rw [if_pos rfl] at hlen ⊢
              have W1 := HREP.out B b l _ (HG0.out.wrote HWo.out) HO0.out H0.out HL.out hlen hB0 (h6 rfl)
              rw [HCX.out] at W1
              replace W1 := Lib.hid W1
              have e8 : CX = #[.int .i64 6, .int .u64 (word xs 0 : Nat), .int .u64 (word xs 1 : Nat), .int .u64 (word xs 2 : Nat), .int .u64 (word xs 3 : Nat), .int .i64 xm, .int .i64 xx, .slice xA xn xc] := HCX.out.symm
              subst e8
              clear hlen HSS HROW HKID HOKS HPP HREP h6 HCX HG0 HO0
              go_enter Tryz.func79, Tryz.ntmps79
              go_wp2_with fail
              refine W1.out.mono ?_
              rintro e w1 ⟨rfl, h1, k1⟩
              have H1 := Lib.hid h1
              have K1 := Lib.hid (HWo.out.trans k1)
              clear h1 k1
              go_wp2
              go_end0
              exact ⟨rfl, H1.out, K1.out⟩
            · have b6 : (xk == 6) = false := beq_eq_false_iff_ne.2 hk6
              rw [if_neg hk6] at hlen ⊢
              clear hlen HSS HROW HKID HOKS HPP HREP h6 HCX HG0 HO0
              go_enter Tryz.func79, Tryz.ntmps79
              go_wp2
              go_end0
              rw [List.append_nil]
              exact ⟨rfl, H0.out, HWo.out⟩
theorem node_all : ∀ (m : Nat) (x : NodeX), SizeOf.sizeOf x < m → NodeW x := by
  intro m
  induction m with
  | zero => exact fun x h => absurd h (Nat.not_lt_zero _)
  | succ m ih =>
    intro x h
    refine node_step x (fun y hy => ih y ?_)
    have h1 := List.sizeOf_lt_of_mem hy
    cases x
    simp [NodeX.kids] at h1 h
    omega
theorem node_any (x : NodeX) : NodeW x := node_all _ x (Nat.lt_succ_self _)
set_option maxRecDepth 100000 in
set_option maxHeartbeats 1600000 in
theorem put_rex (x : NodeX) (P : Nat → Prop) (W : World) (hg : GoodN W P x) (hN : NF x.t) (hl : LibIs W) (hlen : (putT x.t).length ≤ 140737488355328) :
    Calls Tryz.prog 58 #[.agg (nodeC x)] W fun e w' => (∃ s : ByteArray, e = .returned (.string s) ∧ s.data.toList = putT x.t) ∧ Below W.heap.size W w' := by
  have hG : GoodN W (fun g => g < W.heap.size) x := hg.weaken (fun g _ h => h)
  have hWo := Wrote.alloc (B := W.heap.size) (b := W.heap.size + 1) W (Nat.le_refl _) (.cells (nodeC x) 97)
  have hW2 := hWo.trans (Wrote.alloc (W.alloc (.cells (nodeC x) 97)) (by simp) (.cells #[.pointer none, .slice none 0 0] 154))
  have hwr : Wr W.heap.size (W.heap.size + 1) [] ((W.alloc (.cells (nodeC x) 97)).alloc (.cells #[.pointer none, .slice none 0 0] 154)) :=
    .inl ⟨by omega, .slice none 0 0, by rw [show W.heap.size + 1 = (W.alloc (.cells (nodeC x) 97)).heap.size by simp]; exact heap_alloc_new _ _, World.ownsRow_nil _ _ _ _, by simp [Value.ownBlock]⟩
  have W1 := node_any x W.heap.size (W.heap.size + 1) [] _ (hG.wrote hW2) hN.ok hwr ((LibB.of hl).wrote hW2) (by simpa using hlen) (by simp; omega)
  have HK0 := (Blk.new W 97 (nodeC x)).alloc (.cells #[.pointer none, .slice none 0 0] 154)
  obtain ⟨⟨a0, a1, a2, a3, a4, a5, a6, a7⟩, _⟩ := node_cells HK0
  have HW2 := Lib.hid hW2
  replace W1 := Lib.hid W1
  clear hwr hWo hW2 hG hg hN HK0 hlen hl
  unfold nodeC nodeV at *
  go_enter Tryz.func58, Tryz.ntmps58
  go_wp2_with fail
  refine W1.out.mono ?_
  rintro e w1 ⟨rfl, h1, k1⟩
  have hk := HW2.out.trans k1
  have TW := Lib.hid (wr_told W.heap.size (W.heap.size + 1) _ w1 h1 hk.size)
  have HK := Lib.hid hk
  clear h1 k1 hk W1 a0 a1 a2 a3 a4 a5 a6 a7
  go_wp2_with fail
  refine TW.out.mono ?_
  rintro e w2 ⟨rfl, hb2⟩
  go_wp2
  go_ret
  exact ⟨⟨_, rfl, by simp⟩, HK.out.below.trans hb2⟩
end Go.Proofs.YtbkpoimaienhpaaGreatDoor
