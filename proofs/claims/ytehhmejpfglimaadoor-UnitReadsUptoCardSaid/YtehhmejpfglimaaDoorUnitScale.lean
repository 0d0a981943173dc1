/- The scales of durations and of sizes; where a unit stands. -/
import Derived.Test.YtehhmejpfglimaaDoorUnitMath
import Derived.Test.YtehhmejpfglimaaDoorScanTake
namespace Go.Proofs.YtehhmejpfglimaaDoor
open Go.RowKit
set_option linter.unusedVariables false

/-- units lie at g, a name and a number each -/
def UnitsIs (w : World) (g : Nat) (U : List (List UInt8 × Int)) : Prop :=
  g < w.heap.size ∧ ∀ j, j < U.length → w.cell? ⟨g, j * 2, none⟩ = some (.string (txt (U.getD j ([], 0)).1)) ∧ w.cell? ⟨g, j * 2 + 1, none⟩ = some (.int .i64 (U.getD j ([], 0)).2)
theorem UnitsIs.below {w w' : World} {g : Nat} {U : List (List UInt8 × Int)} (h : UnitsIs w g U) (hb : Below w.heap.size w w') : UnitsIs w' g U :=
  ⟨Nat.lt_of_lt_of_le h.1 hb.size, fun j hj => ⟨(hb.cell (p := ⟨g, j * 2, none⟩) h.1).trans (h.2 j hj).1, (hb.cell (p := ⟨g, j * 2 + 1, none⟩) h.1).trans (h.2 j hj).2⟩⟩
theorem UnitsIs.kept {w w' : World} {g b : Nat} {U : List (List UInt8 × Int)} (h : UnitsIs w g U) (hg : w.grownBy w' (some b)) (hb : g ≠ b) : UnitsIs w' g U :=
  ⟨Nat.lt_of_lt_of_le h.1 hg.size, fun j hj => ⟨cell_kept_by (h.2 j hj).1 hg hb, cell_kept_by (h.2 j hj).2 hg hb⟩⟩

theorem scaleOf_any (A : Option Addr) (n c : Nat) (W : World) :
    Calls Tryd.prog 35 #[.slice A n c] W fun e w' => e = .returned (.agg #[.slice A n c]) ∧ w' = W.alloc (.cells #[.slice A n c] 44) := by
  go_enter Tryd.func35, Tryd.ntmps35
  go_wp2
  refine bodyPost_ret (results_cell_row rfl _ _ W.heap.size 44 #[.slice A n c] (0, 0) _ rfl (heap_alloc_new W _) Tryd.underlying44 rfl (by kernel_rfl)) rfl ?_
  exact ⟨rfl, rfl⟩
theorem newDurations_any (W : World) :
    Calls Tryd.prog 23 #[] W fun e w' => (∃ g, e = .returned (.agg #[.slice (some ⟨g, 0, none⟩) 6 6]) ∧ UnitsIs w' g durU ∧ W.heap.size ≤ g) ∧ Below W.heap.size W w' := by
  go_enter Tryd.func23, Tryd.ntmps23
  go_wp2_with fail
  refine (scaleOf_any _ _ _ _).mono ?_
  rintro e w ⟨rfl, rfl⟩
  go_wp2
  refine bodyPost_ret (results_cell_row rfl _ _ W.heap.size 46 #[.slice (some ⟨W.heap.size + 1, 0, none⟩) 6 6] (0, 0) _ rfl (((Blk.new W _ _).alloc _).alloc _) Tryd.underlying46 rfl (by kernel_rfl)) rfl ?_
  have hs : (W.alloc (.cells #[.slice (some ⟨W.heap.size + 1, 0, none⟩) 6 6] 46)).heap.size = W.heap.size + 1 := by simp
  refine ⟨⟨_, rfl, ⟨by simp, ?_⟩, by omega⟩, ?_⟩
  · have hb := ((Blk.new (W.alloc (.cells #[.slice (some ⟨W.heap.size + 1, 0, none⟩) 6 6] 46)) 60 #[.string ⟨#[104]⟩, .int .i64 3600000000000, .string ⟨#[109]⟩, .int .i64 60000000000, .string ⟨#[115]⟩, .int .i64 1000000000, .string ⟨#[109, 115]⟩, .int .i64 1000000, .string ⟨#[117, 115]⟩, .int .i64 1000, .string ⟨#[110, 115]⟩, .int .i64 1]).alloc (.cells #[.slice (some ⟨W.heap.size + 1, 0, none⟩) 6 6] 44))
    rw [hs] at hb
    intro j hj
    have hj6 : j < 6 := hj
    rcases (by omega : j = 0 ∨ j = 1 ∨ j = 2 ∨ j = 3 ∨ j = 4 ∨ j = 5) with rfl | rfl | rfl | rfl | rfl | rfl <;> exact ⟨(hb.cell _).trans rfl, (hb.cell _).trans rfl⟩
  · exact (((Below.refl _ _).alloc (Nat.le_refl _) _).alloc (by simp) _).alloc (by simp; omega) _

theorem newSizes_any (W : World) :
    Calls Tryd.prog 29 #[] W fun e w' => (∃ g, e = .returned (.agg #[.slice (some ⟨g, 0, none⟩) 4 4]) ∧ UnitsIs w' g sizU ∧ W.heap.size ≤ g) ∧ Below W.heap.size W w' := by
  go_enter Tryd.func29, Tryd.ntmps29
  go_wp2_with fail
  refine (scaleOf_any _ _ _ _).mono ?_
  rintro e w ⟨rfl, rfl⟩
  go_wp2
  refine bodyPost_ret (results_cell_row rfl _ _ W.heap.size 53 #[.slice (some ⟨W.heap.size + 1, 0, none⟩) 4 4] (0, 0) _ rfl (((Blk.new W _ _).alloc _).alloc _) Tryd.underlying53 rfl (by kernel_rfl)) rfl ?_
  have hs : (W.alloc (.cells #[.slice (some ⟨W.heap.size + 1, 0, none⟩) 4 4] 53)).heap.size = W.heap.size + 1 := by simp
  refine ⟨⟨_, rfl, ⟨by simp, ?_⟩, by omega⟩, ?_⟩
  · have hb := ((Blk.new (W.alloc (.cells #[.slice (some ⟨W.heap.size + 1, 0, none⟩) 4 4] 53)) 60 #[.string ⟨#[71, 66]⟩, .int .i64 1073741824, .string ⟨#[77, 66]⟩, .int .i64 1048576, .string ⟨#[75, 66]⟩, .int .i64 1024, .string ⟨#[66]⟩, .int .i64 1]).alloc (.cells #[.slice (some ⟨W.heap.size + 1, 0, none⟩) 4 4] 44))
    rw [hs] at hb
    intro j hj
    have hj4 : j < 4 := hj
    rcases (by omega : j = 0 ∨ j = 1 ∨ j = 2 ∨ j = 3) with rfl | rfl | rfl | rfl <;> exact ⟨(hb.cell _).trans rfl, (hb.cell _).trans rfl⟩
  · exact (((Below.refl _ _).alloc (Nat.le_refl _) _).alloc (by simp) _).alloc (by simp; omega) _

def placeI (U : List (List UInt8 × Int)) (nm : ByteArray) : Int := match placeU U nm.data.toList with | some i => i | none => -1
theorem placeI_some {U : List (List UInt8 × Int)} {nm : ByteArray} {i : Nat} (h : placeU U nm.data.toList = some i) : placeI U nm = i := by unfold placeI; rw [h]
theorem placeI_none {U : List (List UInt8 × Int)} {nm : ByteArray} (h : placeU U nm.data.toList = none) : placeI U nm = -1 := by unfold placeI; rw [h]
theorem txt_eq (l : List UInt8) (s : ByteArray) : txt l = s ↔ l = s.data.toList :=
  ⟨fun h => by rw [← h, txt_list], fun h => text_ext1 (by rw [txt_list, h])⟩
set_option maxHeartbeats 800000 in
theorem place_any (g n : Nat) (U : List (List UInt8 × Int)) (hn : U.length = n) (hn6 : n ≤ 100) (nm : ByteArray) (W : World) (h : UnitsIs W g U) :
    Calls Tryd.prog 45 #[.agg #[.slice (some ⟨g, 0, none⟩) n n], .string nm] W fun e w' => e = .returned (.int .i64 (placeI U nm)) ∧ Below W.heap.size W w' := by
  have HU := Lib.hid h
  have HN := Lib.hid hn
  clear h hn
  go_enter Tryd.func45, Tryd.ntmps45
  go_wp2
  go_loopw [10] (fun i wr => ∃ j : Nat, j ≤ n ∧ i = .int .i64 j ∧ Hid (∀ i, i < j → (U.getD i ([], 0)).1 ≠ nm.data.toList) ∧ Below W.heap.size W wr) (fun i _ => n - (intOf i).toNat)
  case atStart => exact ⟨0, Nat.zero_le _, rfl, Lib.hid (fun i h => absurd h (by omega)), (Below.refl _ _).alloc (Nat.le_refl _) _⟩
  case round =>
    obtain ⟨j, hj, rfl, HJ, hb⟩ := hrel
    have hsz := hb.size
    by_cases hjn : j < n
    · obtain ⟨c0, c1⟩ := (HU.out.below hb).2 j (by rw [HN.out]; exact hjn)
      obtain ⟨u, hu⟩ : ∃ u, (U.getD j ([], 0)).1 = u := ⟨_, rfl⟩
      obtain ⟨m, hm⟩ : ∃ u, (U.getD j ([], 0)).2 = u := ⟨_, rfl⟩
      rw [hu] at c0
      rw [hm] at c1
      obtain ⟨x, hx⟩ : ∃ x, txt u = x := ⟨_, rfl⟩
      have hxu := txt_eq u nm
      rw [hx] at c0 hxu
      by_cases he : u = nm.data.toList
      · have g1 := text_same (hxu.2 he)
        have E := Lib.hid (show placeI U nm = j from placeI_some (by
          unfold placeU
          rw [List.findIdx?_eq_some_iff_getElem]
          refine ⟨by rw [HN.out]; exact hjn, ?_, fun i hi => ?_⟩
          · have e : U[j]'(by rw [HN.out]; exact hjn) = U.getD j ([], 0) := by rw [List.getD_eq_getElem?_getD, List.getElem?_eq_getElem (by rw [HN.out]; exact hjn)]; rfl
            rw [e, hu, he]; simp
          · have hlt : i < U.length := by rw [HN.out]; omega
            have e : U[i]'hlt = U.getD i ([], 0) := by rw [List.getD_eq_getElem?_getD, List.getElem?_eq_getElem hlt]; rfl
            rw [e]
            simpa using HJ.out i hi))
        clear hu hm hx hxu he
        go_wp2
        go_ret
        exact ⟨by show Ending.returned (.int .i64 (j : Int)) = _; rw [E.out], hb.alloc hsz _⟩
      · have g1 := text_other (fun h => he (hxu.1 h))
        have HE := Lib.hid (show (U.getD j ([], 0)).1 ≠ nm.data.toList by rw [hu]; exact he)
        clear hu hm hx hxu he
        go_wp2
        go_round
        case rel => exact ⟨j + 1, by omega, by go_num, Lib.hid (fun i hi => by
          by_cases h : i < j
          · exact HJ.out i h
          · obtain rfl : i = j := by omega
            exact HE.out), hb.alloc hsz _⟩
        case measure => simp [intOf]; omega
    · obtain rfl : j = n := by omega
      have E := Lib.hid (show placeI U nm = -1 from placeI_none (by
        unfold placeU
        rw [List.findIdx?_eq_none_iff]
        intro u hu
        obtain ⟨i, hi, e⟩ := List.getElem_of_mem hu
        have := HJ.out i (by rw [← HN.out]; exact hi)
        rw [List.getD_eq_getElem?_getD, List.getElem?_eq_getElem hi] at this
        have e2 : (some U[i]).getD ([], 0) = u := e
        rw [e2] at this
        simpa using this))
      go_wp2
      go_ret
      exact ⟨by show Ending.returned (.int .i64 (-1)) = _; rw [E.out], hb⟩
end Go.Proofs.YtehhmejpfglimaaDoor
