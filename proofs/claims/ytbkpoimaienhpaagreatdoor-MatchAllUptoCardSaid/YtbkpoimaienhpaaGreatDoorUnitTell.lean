-- shaken
import Derived.Laws.OwnMore
import Derived.Test.YtbkpoimaienhpaaGreatDoorDigits
import Derived.Test.YtbkpoimaienhpaaGreatDoorScan
import Derived.Test.YtbkpoimaienhpaaGreatDoorScanNum
import Derived.Laws.BitsLemmas
import Derived.Test.YtbkpoimaienhpaaGreatDoorBase
namespace Go.Proofs.YtbkpoimaienhpaaGreatDoor
open Go.RowKit
set_option linter.unusedVariables false
set_option linter.unusedSimpArgs false
theorem wrap_u64 (x : Int) : IntKind.u64.wrap x = x % 18446744073709551616 := by
  simp [IntKind.wrap, IntKind.signed, IntKind.bits]
theorem ret_str {a b : ByteArray} (h : a = b) : Ending.returned (.string a) = .returned (.string b) := by rw [h]
def skip (neg : Bool) (l : List UInt8) : List UInt8 := if neg then l.drop 1 else l
def txt (l : List UInt8) : ByteArray := ⟨l.toArray⟩
theorem txt_list (l : List UInt8) : (txt l).data.toList = l := by simp [txt]
def durU : List (List UInt8 × Int) := [([104], 3600000000000), ([109], 60000000000), ([115], 1000000000), ([109, 115], 1000000), ([117, 115], 1000), ([110, 115], 1)]
def sizU : List (List UInt8 × Int) := [([71, 66], 1073741824), ([77, 66], 1048576), ([75, 66], 1024), ([66], 1)]
def UnitsIs (w : World) (g : Nat) (U : List (List UInt8 × Int)) : Prop :=
  g < w.heap.size ∧ ∀ j, j < U.length → w.cell? ⟨g, j * 2, none⟩ = some (.string (txt (U.getD j ([], 0)).1)) ∧ w.cell? ⟨g, j * 2 + 1, none⟩ = some (.int .i64 (U.getD j ([], 0)).2)
theorem UnitsIs.below {w w' : World} {g : Nat} {U : List (List UInt8 × Int)} (h : UnitsIs w g U) (hb : Below w.heap.size w w') : UnitsIs w' g U :=
  ⟨Nat.lt_of_lt_of_le h.1 hb.size, fun j hj => ⟨(hb.cell (p := ⟨g, j * 2, none⟩) h.1).trans (h.2 j hj).1, (hb.cell (p := ⟨g, j * 2 + 1, none⟩) h.1).trans (h.2 j hj).2⟩⟩
theorem UnitsIs.kept {w w' : World} {g b : Nat} {U : List (List UInt8 × Int)} (h : UnitsIs w g U) (hg : w.grownBy w' (some b)) (hb : g ≠ b) : UnitsIs w' g U :=
  ⟨Nat.lt_of_lt_of_le h.1 hg.size, fun j hj => ⟨cell_kept_by (h.2 j hj).1 hg hb, cell_kept_by (h.2 j hj).2 hg hb⟩⟩
theorem scaleOf_any (A : Option Addr) (n c : Nat) (W : World) :
    Calls Tryz.prog 103 #[.slice A n c] W fun e w' => e = .returned (.agg #[.slice A n c]) ∧ w' = W.alloc (.cells #[.slice A n c] 160) := by
  go_enter Tryz.func103, Tryz.ntmps103
  go_wp2
  refine bodyPost_ret (results_cell_row rfl _ _ W.heap.size 160 #[.slice A n c] (0, 0) _ rfl (heap_alloc_new W _) Tryz.underlying160 rfl (by kernel_rfl)) rfl ?_
  exact ⟨rfl, rfl⟩
theorem newDurations_any (W : World) :
    Calls Tryz.prog 87 #[] W fun e w' => (∃ g, e = .returned (.agg #[.slice (some ⟨g, 0, none⟩) 6 6]) ∧ UnitsIs w' g durU ∧ W.heap.size ≤ g) ∧ Below W.heap.size W w' := by
  go_enter Tryz.func87, Tryz.ntmps87
  go_wp2_with fail
  refine (scaleOf_any _ _ _ _).mono ?_
  rintro e w ⟨rfl, rfl⟩
  go_wp2
  refine bodyPost_ret (results_cell_row rfl _ _ W.heap.size 162 #[.slice (some ⟨W.heap.size + 1, 0, none⟩) 6 6] (0, 0) _ rfl (((Blk.new W _ _).alloc _).alloc _) Tryz.underlying162 rfl (by kernel_rfl)) rfl ?_
  have hs : (W.alloc (.cells #[.slice (some ⟨W.heap.size + 1, 0, none⟩) 6 6] 162)).heap.size = W.heap.size + 1 := by simp
  refine ⟨⟨_, rfl, ⟨by simp, ?_⟩, by omega⟩, ?_⟩
  · have hb := ((Blk.new (W.alloc (.cells #[.slice (some ⟨W.heap.size + 1, 0, none⟩) 6 6] 162)) 180 #[.string ⟨#[104]⟩, .int .i64 3600000000000, .string ⟨#[109]⟩, .int .i64 60000000000, .string ⟨#[115]⟩, .int .i64 1000000000, .string ⟨#[109, 115]⟩, .int .i64 1000000, .string ⟨#[117, 115]⟩, .int .i64 1000, .string ⟨#[110, 115]⟩, .int .i64 1]).alloc (.cells #[.slice (some ⟨W.heap.size + 1, 0, none⟩) 6 6] 160))
    rw [hs] at hb
    intro j hj
    have hj6 : j < 6 := hj
    rcases (by omega : j = 0 ∨ j = 1 ∨ j = 2 ∨ j = 3 ∨ j = 4 ∨ j = 5) with rfl | rfl | rfl | rfl | rfl | rfl <;> exact ⟨(hb.cell _).trans rfl, (hb.cell _).trans rfl⟩
  · exact (((Below.refl _ _).alloc (Nat.le_refl _) _).alloc (by simp) _).alloc (by simp; omega) _
theorem newSizes_any (W : World) :
    Calls Tryz.prog 89 #[] W fun e w' => (∃ g, e = .returned (.agg #[.slice (some ⟨g, 0, none⟩) 4 4]) ∧ UnitsIs w' g sizU ∧ W.heap.size ≤ g) ∧ Below W.heap.size W w' := by
  go_enter Tryz.func89, Tryz.ntmps89
  go_wp2_with fail
  refine (scaleOf_any _ _ _ _).mono ?_
  rintro e w ⟨rfl, rfl⟩
  go_wp2
  refine bodyPost_ret (results_cell_row rfl _ _ W.heap.size 164 #[.slice (some ⟨W.heap.size + 1, 0, none⟩) 4 4] (0, 0) _ rfl (((Blk.new W _ _).alloc _).alloc _) Tryz.underlying164 rfl (by kernel_rfl)) rfl ?_
  have hs : (W.alloc (.cells #[.slice (some ⟨W.heap.size + 1, 0, none⟩) 4 4] 164)).heap.size = W.heap.size + 1 := by simp
  refine ⟨⟨_, rfl, ⟨by simp, ?_⟩, by omega⟩, ?_⟩
  · have hb := ((Blk.new (W.alloc (.cells #[.slice (some ⟨W.heap.size + 1, 0, none⟩) 4 4] 164)) 180 #[.string ⟨#[71, 66]⟩, .int .i64 1073741824, .string ⟨#[77, 66]⟩, .int .i64 1048576, .string ⟨#[75, 66]⟩, .int .i64 1024, .string ⟨#[66]⟩, .int .i64 1]).alloc (.cells #[.slice (some ⟨W.heap.size + 1, 0, none⟩) 4 4] 160))
    rw [hs] at hb
    intro j hj
    have hj4 : j < 4 := hj
    rcases (by omega : j = 0 ∨ j = 1 ∨ j = 2 ∨ j = 3) with rfl | rfl | rfl | rfl <;> exact ⟨(hb.cell _).trans rfl, (hb.cell _).trans rfl⟩
  · exact (((Below.refl _ _).alloc (Nat.le_refl _) _).alloc (by simp) _).alloc (by simp; omega) _
def spanL : List (List UInt8 × Int) → Int → List UInt8
  | [], _ => []
  | u :: U, n => (if u.2 ≤ n then Lib.itoa (n.tdiv u.2) ++ u.1 else []) ++ spanL U (n.tmod u.2)
def spanB (n : Int) : List UInt8 := if n = 0 then [48, 115] else spanL durU n
def sizeL : List (List UInt8 × Int) → Int → List UInt8
  | [], _ => [48, 66]
  | u :: U, n => if n.tmod u.2 = 0 then Lib.itoa (n.tdiv u.2) ++ u.1 else sizeL U n
def sizeB (n : Int) : List UInt8 := if n = 0 then [48, 66] else sizeL sizU n
theorem unit_ok : ∀ j, j < 6 → 1 ≤ (durU.getD j ([], 0)).2 ∧ (durU.getD j ([], 0)).2 ≤ 3600000000000 ∧ (durU.getD j ([], 0)).1.length ≤ 2 := by
  intro j hj
  rcases (by omega : j = 0 ∨ j = 1 ∨ j = 2 ∨ j = 3 ∨ j = 4 ∨ j = 5) with rfl | rfl | rfl | rfl | rfl | rfl <;> decide
theorem unit_ok2 : ∀ j, j < 4 → 1 ≤ (sizU.getD j ([], 0)).2 ∧ (sizU.getD j ([], 0)).2 ≤ 3600000000000 ∧ (sizU.getD j ([], 0)).1.length ≤ 2 := by
  intro j hj
  rcases (by omega : j = 0 ∨ j = 1 ∨ j = 2 ∨ j = 3) with rfl | rfl | rfl | rfl <;> decide
theorem tdiv_ok (n m : Int) (h0 : 0 ≤ n) (h1 : n ≤ 9223372036854775807) (hm : 1 ≤ m) : 0 ≤ n.tdiv m ∧ n.tdiv m ≤ n ∧ 0 ≤ n.tmod m ∧ n.tmod m ≤ n := by
  rw [Int.tdiv_eq_ediv_of_nonneg h0, Int.tmod_eq_emod_of_nonneg h0]
  refine ⟨Int.ediv_nonneg h0 (by omega), Int.ediv_le_self _ h0, Int.emod_nonneg _ (by omega), ?_⟩
  have := Int.mul_ediv_add_emod n m
  have h2 : 0 ≤ m * (n / m) := Int.mul_nonneg (by omega) (Int.ediv_nonneg h0 (by omega))
  omega
theorem txt_size (l : List UInt8) : (txt l).size = l.length := by simp [txt, ByteArray.size]
set_option maxRecDepth 100000 in
set_option maxHeartbeats 1600000 in
theorem durTell_any (g : Nat) (n : Int) (h0 : 0 ≤ n) (h1 : n ≤ 9223372036854775807) (W : World) (hI : UnitsIs W g durU) (hl : LibIs W) :
    Calls Tryz.prog 88 #[.agg #[.slice (some ⟨g, 0, none⟩) 6 6], .int .i64 n] W fun e w' => e = .returned (.string (txt (spanB n))) ∧ Below W.heap.size W w' := by
  by_cases hn : n = 0
  · subst hn
    go_enter Tryz.func88, Tryz.ntmps88
    go_wp2
    go_ret
    exact ⟨ret_str (by rw [show spanB 0 = [48, 115] by unfold spanB; rw [if_pos rfl]]; rfl), (Below.refl _ _).alloc (Nat.le_refl _) _⟩
  · have hsp : spanB n = spanL durU n := by unfold spanB; rw [if_neg hn]
    have gn : (n == 0) = false := by rw [beq_eq_false_iff_ne]; exact hn
    rw [hsp]
    have HI := Lib.hid hI
    obtain ⟨T, hT⟩ : ∃ x, spanL durU n = x := ⟨_, rfl⟩
    have HT := Lib.hid hT
    rw [hT]
    clear hI hsp hT hn
    go_enter Tryz.func88, Tryz.ntmps88
    go_wp2
    go_loopw [1, 5, 14] (fun nv tv iv wr => ∃ (j : Nat) (m : Int) (t : ByteArray), j ≤ 6 ∧ iv = .int .i64 j ∧ nv = .int .i64 m ∧ tv = .string t ∧ 0 ≤ m ∧ m ≤ 9223372036854775807 ∧ t.size ≤ j * 30 ∧ Hid (t.data.toList ++ spanL (durU.drop j) m = T) ∧ Below W.heap.size W wr) (fun _ _ iv _ => 6 - (intOf iv).toNat)
    case atStart => exact ⟨0, n, ⟨#[]⟩, by omega, rfl, rfl, rfl, h0, h1, by decide, Lib.hid (by rw [List.drop_zero]; exact (List.nil_append _).trans HT.out), (Below.refl _ _).alloc (Nat.le_refl _) _⟩
    case round =>
      obtain ⟨j, m, t, hj, rfl, rfl, rfl, m0, m1, hts, HC, hb⟩ := hrel
      have hsz := hb.size
      by_cases hj6 : j < 6
      · obtain ⟨c0, c1⟩ := (HI.out.below hb).2 j hj6
        obtain ⟨u1, u2, u3⟩ := unit_ok j hj6
        have hdr : durU.drop j = durU.getD j ([], 0) :: durU.drop (j + 1) := by
          rw [List.drop_eq_getElem_cons (show j < durU.length from hj6), List.getD_eq_getElem?_getD, List.getElem?_eq_getElem (show j < durU.length from hj6)]
          rfl
        have hsp : spanL (durU.drop j) m = (if (durU.getD j ([], 0)).2 ≤ m then Lib.itoa (m.tdiv (durU.getD j ([], 0)).2) ++ (durU.getD j ([], 0)).1 else []) ++ spanL (durU.drop (j + 1)) (m.tmod (durU.getD j ([], 0)).2) := by rw [hdr, spanL]
        obtain ⟨⟨nm, f⟩, hu⟩ : ∃ u, durU.getD j ([], 0) = u := ⟨_, rfl⟩
        rw [hu] at c0 c1 u1 u2 u3 hsp
        dsimp only at c0 c1 u1 u2 u3 hsp
        have hns := txt_size nm
        obtain ⟨x, hx⟩ : ∃ x, txt nm = x := ⟨_, rfl⟩
        have hxl : x.data.toList = nm := by rw [← hx, txt_list]
        rw [hx] at c0 hns
        obtain ⟨d0, d1, r0, r1⟩ := tdiv_ok m f m0 m1 u1
        obtain ⟨q, hq⟩ : ∃ q, m.tdiv f = q := ⟨_, rfl⟩
        obtain ⟨r, hr⟩ : ∃ r, m.tmod f = r := ⟨_, rfl⟩
        rw [hq] at hsp d0 d1
        rw [hr] at hsp r0 r1
        have hq2 : IntKind.i64.wrap q = q := by rw [IntKind.wrap_i64]; omega
        have hq3 : wrap64 q = q := wrap_in q ⟨by omega, by omega⟩
        have hf0 : ¬ f = 0 := by omega
        have HSP := Lib.hid hsp
        have HXL := Lib.hid hxl
        clear hdr hu hx hsp hxl
        by_cases hfm : f ≤ m
        · have TX := Lib.hid (fun w h => text_any q (by omega) (by omega) w h)
          have hqs := itoaS_size q (by omega) (by omega)
          obtain ⟨y, hy⟩ : ∃ y, itoaS q = y := ⟨_, rfl⟩
          simp only [hy] at TX hqs
          have HY := Lib.hid hy
          have g1 : y.size + x.size ≤ 30 := by omega
          have g2 : t.size + (y.size + x.size) ≤ 300 := by omega
          have e1 : ¬ 9223372036854775807 < y.size + x.size := by omega
          have e2 : ¬ 9223372036854775807 < t.size + (y.size + x.size) := by omega
          have g3 : (t ++ (y ++ x)).size ≤ (j + 1) * 30 := by rw [ByteArray.size_append, ByteArray.size_append]; omega
          have hnx := Lib.hid (show (t ++ (y ++ x)).data.toList ++ spanL (durU.drop (j + 1)) r = T by
            rw [← HC.out, HSP.out, if_pos hfm, text_joined, text_joined, HXL.out, ← HY.out, itoaS_list]
            simp)
          have hblt : wr.heap.size < (wr.alloc (.cells #[.string x, .int .i64 f] 180)).heap.size := by simp
          have k0 : (wr.alloc (.cells #[.string x, .int .i64 f] 180)).cell? ⟨wr.heap.size, 0, none⟩ = some (.string x) := by rw [(Blk.new wr _ _).cell 0]; rfl
          have k1 : (wr.alloc (.cells #[.string x, .int .i64 f] 180)).cell? ⟨wr.heap.size, 1, none⟩ = some (.int .i64 f) := by rw [(Blk.new wr _ _).cell 1]; rfl
          have HLW := Lib.hid ((hl.below hb).alloc (.cells #[.string x, .int .i64 f] 180))
          have hb2 := hb.alloc hsz (.cells #[.string x, .int .i64 f] 180)
          clear hy hns hb
          go_wp2
          go_region_held3 (fun w' => w'.cell? ⟨wr.heap.size, 0, none⟩ = some (.string x) ∧ w'.cell? ⟨wr.heap.size, 1, none⟩ = some (.int .i64 f)) (first | go_keep | (rw [hb3.cell (by simp), hb3.cell (by simp)]; exact ⟨k0, k1⟩))
            (first | (go_at_call 63; refine (TX.out _ ?_).mono ?_; exact HLW.out.drewN _; rintro e w3 ⟨rfl, hb3⟩))
          rename_i hHeld
          have hb4 : Below W.heap.size W w3 := (below_drewN hb2 1).trans (hb3.mono (by have := hb2.size; simpa using this))
          have k2 := hHeld.2
          have HB4 := Lib.hid hb4
          clear hb4 hb3 hb2
          go_wp2
          go_round
          case rel => exact ⟨j + 1, r, _, by omega, by go_num, rfl, rfl, r0, by omega, g3, hnx, HB4.out⟩
          case measure => simp [intOf]; omega
        · have hnx := Lib.hid (show t.data.toList ++ spanL (durU.drop (j + 1)) r = T by
            rw [← HC.out, HSP.out, if_neg hfm, List.nil_append])
          have hb2 := hb.alloc hsz (.cells #[.string x, .int .i64 f] 180)
          have hfm' : m < f := by omega
          clear hns hb hfm
          go_wp2
          go_round
          case rel => exact ⟨j + 1, r, t, by omega, by go_num, rfl, rfl, r0, by omega, by omega, hnx, hb2⟩
          case measure => simp [intOf]; omega
      · obtain rfl : j = 6 := by omega
        have E := Lib.hid (show t = txt T from text_ext1 (by
          rw [txt_list, ← HC.out, show durU.drop 6 = [] from rfl, spanL, List.append_nil]))
        go_wp2
        go_ret
        exact ⟨ret_str E.out, hb⟩
theorem span_any (n : Int) (h0 : -9223372036854775808 ≤ n) (h1 : n ≤ 9223372036854775807) (W : World) (hl : LibIs W) :
    Calls Tryz.prog 64 #[.int .i64 n] W fun e w' => e = .returned (.tuple #[.string (if n < 0 then ⟨#[]⟩ else txt (spanB n)), .bool (decide (0 ≤ n))]) ∧ Below W.heap.size W w' := by
  by_cases hn : n < 0
  · rw [if_pos hn, decide_eq_false (by omega)]
    go_enter Tryz.func64, Tryz.ntmps64
    go_wp2
    go_ret2
    exact ⟨rfl, Below.refl _ _⟩
  · rw [if_neg hn, decide_eq_true (by omega)]
    have HN := Lib.hid (newDurations_any W)
    have HR := Lib.hid (fun g w a b => durTell_any g n (by omega) h1 w a b)
    obtain ⟨z, hz⟩ : ∃ z, txt (spanB n) = z := ⟨_, rfl⟩
    rw [hz] at HR
    rw [hz]
    have hn' : 0 ≤ n := by omega
    clear hz hn
    go_enter Tryz.func64, Tryz.ntmps64
    go_wp2_with fail
    refine HN.out.mono ?_
    rintro e w1 ⟨⟨g, rfl, hI, hg⟩, hb⟩
    go_wp2_with fail
    refine (HR.out _ _ hI (hl.below hb)).mono ?_
    rintro e w2 ⟨rfl, hb2⟩
    replace hb := hop hb (Nat.le_refl _) hb2
    clear hb2 hI
    go_wp2
    go_ret2
    exact ⟨rfl, hb⟩
set_option maxRecDepth 100000 in
set_option maxHeartbeats 1600000 in
theorem sizTell_any (g : Nat) (n : Int) (h0 : 0 ≤ n) (h1 : n ≤ 9223372036854775807) (W : World) (hI : UnitsIs W g sizU) (hl : LibIs W) :
    Calls Tryz.prog 90 #[.agg #[.slice (some ⟨g, 0, none⟩) 4 4], .int .i64 n] W fun e w' => e = .returned (.string (txt (sizeB n))) ∧ Below W.heap.size W w' := by
  have HI := Lib.hid hI
  obtain ⟨T, hT⟩ : ∃ x, sizeB n = x := ⟨_, rfl⟩
  have hT0 : n = 0 → T = [48, 66] := fun h => by rw [← hT]; unfold sizeB; rw [if_pos h]
  have hT1 : n ≠ 0 → sizeL sizU n = T := fun h => by rw [← hT]; unfold sizeB; rw [if_neg h]
  have HT0 := Lib.hid hT0
  have HT1 := Lib.hid hT1
  rw [hT]
  clear hI hT hT0 hT1
  go_enter Tryz.func90, Tryz.ntmps90
  go_wp2
  go_loopw [11] (fun iv wr => ∃ (j : Nat), j ≤ 4 ∧ iv = .int .i64 j ∧ Hid (n ≠ 0 → sizeL (sizU.drop j) n = T) ∧ Below W.heap.size W wr) (fun iv _ => 4 - (intOf iv).toNat)
  case atStart => exact ⟨0, by omega, rfl, Lib.hid (by rw [List.drop_zero]; exact HT1.out), (Below.refl _ _).alloc (Nat.le_refl _) _⟩
  case round =>
    obtain ⟨j, hj, rfl, HC, hb⟩ := hrel
    have hsz := hb.size
    by_cases hj4 : j < 4
    · obtain ⟨c0, c1⟩ := (HI.out.below hb).2 j hj4
      obtain ⟨u1, u2, u3⟩ := unit_ok2 j hj4
      have hdr : sizU.drop j = sizU.getD j ([], 0) :: sizU.drop (j + 1) := by
        rw [List.drop_eq_getElem_cons (show j < sizU.length from hj4), List.getD_eq_getElem?_getD, List.getElem?_eq_getElem (show j < sizU.length from hj4)]
        rfl
      have hsp : sizeL (sizU.drop j) n = if n.tmod (sizU.getD j ([], 0)).2 = 0 then Lib.itoa (n.tdiv (sizU.getD j ([], 0)).2) ++ (sizU.getD j ([], 0)).1 else sizeL (sizU.drop (j + 1)) n := by rw [hdr, sizeL]
      obtain ⟨⟨nm, f⟩, hu⟩ : ∃ u, sizU.getD j ([], 0) = u := ⟨_, rfl⟩
      rw [hu] at c0 c1 u1 u2 u3 hsp
      dsimp only at c0 c1 u1 u2 u3 hsp
      have hns := txt_size nm
      obtain ⟨x, hx⟩ : ∃ x, txt nm = x := ⟨_, rfl⟩
      have hxl : x.data.toList = nm := by rw [← hx, txt_list]
      rw [hx] at c0 hns
      obtain ⟨d0, d1, r0, r1⟩ := tdiv_ok n f h0 h1 u1
      obtain ⟨q, hq⟩ : ∃ q, n.tdiv f = q := ⟨_, rfl⟩
      obtain ⟨r, hr⟩ : ∃ r, n.tmod f = r := ⟨_, rfl⟩
      rw [hq] at hsp d0 d1
      rw [hr] at hsp r0 r1
      have hq2 : IntKind.i64.wrap q = q := by rw [IntKind.wrap_i64]; omega
      have hq3 : wrap64 q = q := wrap_in q ⟨by omega, by omega⟩
      have hf0 : ¬ f = 0 := by omega
      have HSP := Lib.hid hsp
      have HXL := Lib.hid hxl
      have hb2 := hb.alloc hsz (.cells #[.string x, .int .i64 f] 180)
      clear hdr hu hx hsp hxl
      by_cases hn : n = 0
      · have gn : (n != 0) = false := by rw [hn]; rfl
        have hnx : Hid (n ≠ 0 → sizeL (sizU.drop (j + 1)) n = T) := Lib.hid (fun h => absurd hn h)
        clear hn hb
        go_wp2
        go_round
        case rel => exact ⟨j + 1, by omega, by go_num, hnx, hb2⟩
        case measure => simp [intOf]; omega
      · have gn : (n != 0) = true := by rw [bne_iff_ne]; exact hn
        by_cases hr0 : r = 0
        · have gr : (r == 0) = true := by rw [hr0]; rfl
          have TX := Lib.hid (fun w h => text_any q (by omega) (by omega) w h)
          have hqs := itoaS_size q (by omega) (by omega)
          obtain ⟨y, hy⟩ : ∃ y, itoaS q = y := ⟨_, rfl⟩
          simp only [hy] at TX hqs
          have g1 : y.size + x.size ≤ 30 := by omega
          have e1 : ¬ 9223372036854775807 < y.size + x.size := by omega
          have E := Lib.hid (show y ++ x = txt T from text_ext1 (by
            rw [txt_list, ← HC.out hn, HSP.out, if_pos hr0, text_joined, HXL.out, ← hy, itoaS_list]))
          have k0 : (wr.alloc (.cells #[.string x, .int .i64 f] 180)).cell? ⟨wr.heap.size, 0, none⟩ = some (.string x) := by rw [(Blk.new wr _ _).cell 0]; rfl
          have k1 : (wr.alloc (.cells #[.string x, .int .i64 f] 180)).cell? ⟨wr.heap.size, 1, none⟩ = some (.int .i64 f) := by rw [(Blk.new wr _ _).cell 1]; rfl
          have HLW := Lib.hid ((hl.below hb).alloc (.cells #[.string x, .int .i64 f] 180))
          clear hy hns hb hr0 hn
          go_wp2
          go_region_held3 (fun w' => w'.cell? ⟨wr.heap.size, 0, none⟩ = some (.string x) ∧ w'.cell? ⟨wr.heap.size, 1, none⟩ = some (.int .i64 f)) (first | go_keep | (rw [hb3.cell (by simp), hb3.cell (by simp)]; exact ⟨k0, k1⟩))
            (first | (go_at_call 63; refine (TX.out _ ?_).mono ?_; exact HLW.out.drewN _; rintro e w3 ⟨rfl, hb3⟩))
          have hb4 : Below W.heap.size W w3 := (below_drewN hb2 1).trans (hb3.mono (by have := hb2.size; simpa using this))
          go_wp2
          go_ret
          exact ⟨ret_str E.out, hb4⟩
        · have gr : (r == 0) = false := by rw [beq_eq_false_iff_ne]; exact hr0
          have hnx : Hid (n ≠ 0 → sizeL (sizU.drop (j + 1)) n = T) := Lib.hid (fun h => by rw [← HC.out h, HSP.out, if_neg hr0])
          clear hn hb hr0
          go_wp2
          go_round
          case rel => exact ⟨j + 1, by omega, by go_num, hnx, hb2⟩
          case measure => simp [intOf]; omega
    · obtain rfl : j = 4 := by omega
      have hfin : T = [48, 66] := by
        by_cases hn : n = 0
        · exact HT0.out hn
        · rw [← HC.out hn]; rfl
      have E := Lib.hid (show (⟨#[48, 66]⟩ : ByteArray) = txt T by rw [hfin]; rfl)
      clear hfin
      go_wp2
      go_ret
      exact ⟨ret_str E.out, hb⟩
theorem uSize_any (n : Int) (h0 : -9223372036854775808 ≤ n) (h1 : n ≤ 9223372036854775807) (W : World) (hl : LibIs W) :
    Calls Tryz.prog 65 #[.int .i64 n] W fun e w' => e = .returned (.tuple #[.string (if n < 0 then ⟨#[]⟩ else txt (sizeB n)), .bool (decide (0 ≤ n))]) ∧ Below W.heap.size W w' := by
  by_cases hn : n < 0
  · rw [if_pos hn, decide_eq_false (by omega)]
    go_enter Tryz.func65, Tryz.ntmps65
    go_wp2
    go_ret2
    exact ⟨rfl, Below.refl _ _⟩
  · rw [if_neg hn, decide_eq_true (by omega)]
    have HN := Lib.hid (newSizes_any W)
    have HR := Lib.hid (fun g w a b => sizTell_any g n (by omega) h1 w a b)
    obtain ⟨z, hz⟩ : ∃ z, txt (sizeB n) = z := ⟨_, rfl⟩
    rw [hz] at HR
    rw [hz]
    have hn' : 0 ≤ n := by omega
    clear hz hn
    go_enter Tryz.func65, Tryz.ntmps65
    go_wp2_with fail
    refine HN.out.mono ?_
    rintro e w1 ⟨⟨g, rfl, hI, hg⟩, hb⟩
    go_wp2_with fail
    refine (HR.out _ _ hI (hl.below hb)).mono ?_
    rintro e w2 ⟨rfl, hb2⟩
    replace hb := hop hb (Nat.le_refl _) hb2
    clear hb2 hI
    go_wp2
    go_ret2
    exact ⟨rfl, hb⟩
end Go.Proofs.YtbkpoimaienhpaaGreatDoor
