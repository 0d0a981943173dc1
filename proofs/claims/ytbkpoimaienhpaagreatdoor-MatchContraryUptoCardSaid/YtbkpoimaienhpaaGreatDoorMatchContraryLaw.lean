-- shaken
import Derived.Deep.RegionWith
import Derived.Deep.RegionHeld3
import Derived.BigRegion
import Derived.Test.YtbkpoimaienhpaaGreatDoorBase
import Derived.Test.YtbkpoimaienhpaaGreatDoorMatExam
import Derived.Test.YtbkpoimaienhpaaGreatDoorMem
namespace Go.Proofs.YtbkpoimaienhpaaGreatDoor
open Go.RowKit
set_option linter.unusedVariables false
set_option linter.unusedSimpArgs false
def vals8 : List ByteArray := [⟨#[97]⟩, ⟨#[98]⟩, ⟨#[120, 49]⟩, ⟨#[]⟩, ⟨#[97, 124, 98]⟩, ⟨#[120, 46, 42]⟩, ⟨#[91, 97, 98, 93, 43]⟩, ⟨#[53, 109]⟩]
def valA (k : Nat) : ByteArray := vals8.getD (k % 8) .empty
theorem value8_any (k : Nat) (hk : k < 256) (W : World) :
    Calls Tryz.prog 8 #[.int .u8 (k : Int)] W fun e w' => e = .returned (.string (valA k)) ∧ w' = W.alloc (.cells (vals8.map Value.string).toArray 9) := by
  obtain ⟨i, hi⟩ : ∃ i, k % 8 = i := ⟨_, rfl⟩
  have hi8 : i < 8 := by omega
  have h8 : (k : Int).tmod 8 = (i : Int) := by rw [Int.tmod_eq_emod_of_nonneg (by omega)]; omega
  have h8' : (k : Int) % 8 = (i : Int) := by omega
  have wi : IntKind.u8.wrap (i : Int) = (i : Int) := by rw [IntKind.wrap_u8]; omega
  have iI : (i : Int) < 8 := by omega
  have c1 := tlit W vals8 W.heap.size rfl i hi8
  obtain ⟨y, hy⟩ : ∃ y, vals8.getD i .empty = y := ⟨_, rfl⟩
  unfold valA
  rw [hi, hy]
  rw [hy] at c1
  simp only [vals8, List.map_cons, List.map_nil] at c1 ⊢
  clear hy hi
  go_enter Tryz.func8, Tryz.ntmps8
  go_wp2
  go_ret
  exact ⟨rfl, rfl⟩
structure BlkH (B : Nat) (w : World) (g : Nat) (t : TypeId) (cs : Array Value) : Prop where
  blk : Blk w g t cs
  le : B ≤ g
theorem BlkH.lt {B : Nat} {w : World} {g : Nat} {t : TypeId} {cs : Array Value} (h : BlkH B w g t cs) : g < w.heap.size := h.blk.lt
theorem value8_let (k : Nat) (hk : k < 256) (W : World) :
    Calls Tryz.prog 8 #[.int .u8 (k : Int)] W fun e w' => e = .returned (.string (valA k)) ∧ Below W.heap.size W w' :=
  (value8_any k hk W).mono fun _ _ ⟨h1, h2⟩ => ⟨h1, by subst h2; exact (Below.refl _ _).alloc (Nat.le_refl _) _⟩
theorem vals_ok : ∀ k, k < 8 → okB (vals8.getD k .empty) = true := by decide +kernel
theorem val_ok (k : Nat) : okB (valA k) = true := vals_ok (k % 8) (Nat.mod_lt _ (by decide))
theorem val_few (k : Nat) : (valA k).size ≤ 256 := by
  have h : ∀ k, k < 8 → (vals8.getD k .empty).size ≤ 256 := by decide
  exact h (k % 8) (Nat.mod_lt _ (by decide))
theorem fits_val {ops : List ByteArray} {op : ByteArray} (h : amongB op ops = true) (k : Nat) : fitsB ops op (valA k) = true := by
  unfold fitsB
  rw [h, val_ok, decide_eq_true (val_few k)]
  cases amongB op exprOps <;> rfl
theorem right_n {op : ByteArray} (h : amongB op textOps = true) (k : Nat) : rightA ⟨#[110]⟩ op (valA k) = true := by
  unfold rightA
  rw [fits_val h]
  decide
set_option maxRecDepth 100000 in
set_option maxHeartbeats 6400000 in
theorem matchContrary_walk {W : World} (k : Int) (v s : ByteArray) (wk : (Lit.int .u8 k).wf = true) (hv : v.size ≤ 1048576) (hs : s.size ≤ 1048576) (hm : MaxAt W) (hl : LibIs W) :
    Calls Tryz.prog 3 #[.int .u8 k, .string v, .string s] W fun e w' => e = .returned (.bool true) ∧ Below W.heap.size W w' := by
  have HM := Lib.hid hm
  have HL := Lib.hid hl
  have HB := Lib.hid (Below.refl W.heap.size W)
  obtain ⟨k0, k1⟩ : 0 ≤ k ∧ k ≤ 255 := by simpa [Lit.wf, IntKind.min, IntKind.max, IntKind.signed, IntKind.bits] using wk
  obtain ⟨K, rfl⟩ : ∃ n : Nat, k = n := ⟨k.toNat, by omega⟩
  have RA := Lib.hid (fun op (h : amongB op textOps = true) => right_n h K)
  have FL := Lib.hid (fun op (h : amongB op lineOps = true) => fits_val h K)
  have VA := Lib.hid (fun w => value8_let K (by omega) w)
  obtain ⟨w, hw⟩ : ∃ w, valA K = w := ⟨_, rfl⟩
  rw [hw] at RA FL VA
  clear hm hl wk hw
  go_enter Tryz.func3, Tryz.ntmps3
  go_wp2_with fail
  refine (examples11_any _ HL.out HM.out).mono ?_
  rintro e w1 ⟨rfl, hb⟩
  replace HB := Lib.hid (hop HB.out (Nat.le_refl _) hb)
  clear hb
  go_wp2_with fail
  refine (VA.out _).mono ?_
  rintro e w2 ⟨rfl, hb⟩
  replace HB := Lib.hid (hop HB.out (Nat.le_refl _) hb)
  clear hb VA
  go_wp2
  go_loopw [9] (fun iv wr => ∃ j : Nat, j ≤ 2 ∧ iv = .int .i64 (j : Nat) ∧ Hid (Below W.heap.size W wr)) (fun iv _ => 2 - (intOf iv).toNat)
  case atStart => exact ⟨0, by decide, rfl, HB⟩
  case round =>
    obtain ⟨j, hj, rfl, HB⟩ := hrel
    rcases (by omega : j = 0 ∨ j = 1 ∨ j = 2) with rfl | rfl | rfl
    ·
      have hs0 := HB.out.size
      have hb := ((Below.refl wr.heap.size wr).alloc (Nat.le_refl _) (.cells #[.string ⟨#[61]⟩, .string ⟨#[61, 126]⟩] 9)).alloc (by simp) (.cells #[.string ⟨#[33, 61]⟩, .string ⟨#[33, 126]⟩] 9)
      have r1_ := ((Blk.new wr 9 #[.string ⟨#[61]⟩, .string ⟨#[61, 126]⟩]).cell 0).trans (show _ = some (Value.string ⟨#[61]⟩) from rfl)
      have r2_ := ((blk_next wr (.cells #[.string ⟨#[61]⟩, .string ⟨#[61, 126]⟩] 9) 9 #[.string ⟨#[33, 61]⟩, .string ⟨#[33, 126]⟩]).cell 0).trans (show _ = some (Value.string ⟨#[33, 61]⟩) from rfl)
      replace HB := Lib.hid (hop HB.out (Nat.le_refl _) hb)
      clear hb
      go_wp2_with fail
      refine (matOf_yes ⟨#[110]⟩ ⟨#[61]⟩ w (RA.out _ (by decide +kernel)) _ (HL.out.below HB.out)).mono ?_
      rintro e w1 ⟨b1, rfl, h1, _, hb⟩
      replace HB := Lib.hid (hop HB.out (Nat.le_refl _) hb)
      have O1 := Lib.hid h1
      clear hb h1 r1_ r2_
      go_wp2_with fail
      refine (matOf_yes ⟨#[110]⟩ ⟨#[33, 61]⟩ w (RA.out _ (by decide +kernel)) _ (HL.out.below HB.out)).mono ?_
      rintro e w2 ⟨b2, rfl, h1, _, hb⟩
      replace O1 := Lib.hid (O1.out.below hb)
      replace HB := Lib.hid (hop HB.out (Nat.le_refl _) hb)
      have O2 := Lib.hid h1
      clear hb h1
      have hb := (Below.refl w2.heap.size w2).alloc (Nat.le_refl _) (.cells #[.string ⟨#[124, 61]⟩, .string ⟨#[124, 126]⟩] 9)
      have r3_ := ((Blk.new w2 9 #[.string ⟨#[124, 61]⟩, .string ⟨#[124, 126]⟩]).cell 0).trans (show _ = some (Value.string ⟨#[124, 61]⟩) from rfl)
      replace O1 := Lib.hid (O1.out.below hb)
      replace O2 := Lib.hid (O2.out.below hb)
      replace HB := Lib.hid (hop HB.out (Nat.le_refl _) hb)
      clear hb
      go_wp2_with fail
      refine (lineOf_yes ⟨#[124, 61]⟩ w (FL.out _ (by decide +kernel)) _ (HL.out.below HB.out)).mono ?_
      rintro e w3 ⟨l1, rfl, h1, _, hb⟩
      replace O1 := Lib.hid (O1.out.below hb)
      replace O2 := Lib.hid (O2.out.below hb)
      replace HB := Lib.hid (hop HB.out (Nat.le_refl _) hb)
      have P1 := Lib.hid h1
      clear hb h1 r3_
      go_wp2_with fail
      refine (lineOf_yes ⟨#[33, 61]⟩ w (FL.out _ (by decide +kernel)) _ (HL.out.below HB.out)).mono ?_
      rintro e w4 ⟨l2, rfl, h1, _, hb⟩
      replace O1 := Lib.hid (O1.out.below hb)
      replace O2 := Lib.hid (O2.out.below hb)
      replace P1 := Lib.hid (P1.out.below hb)
      replace HB := Lib.hid (hop HB.out (Nat.le_refl _) hb)
      have P2 := Lib.hid h1
      clear hb h1
      have TA := Lib.hid (fun u h => oneTest_any ⟨#[110]⟩ ⟨#[61]⟩ w b1 v u h in_t0 (by omega))
      have TB := Lib.hid (fun u h => oneTest_any ⟨#[110]⟩ ⟨#[33, 61]⟩ w b2 v u h in_t1 (by omega))
      have LA := Lib.hid (fun u h hm => lineTest_any ⟨#[124, 61]⟩ w l1 s u h in_l0 (by omega) hm)
      have LB := Lib.hid (fun u h hm => lineTest_any ⟨#[33, 61]⟩ w l2 s u h in_l1 (by omega) hm)
      rw [testM_eq] at TA
      rw [testM_ne] at TB
      rw [lineM_in] at LA
      rw [lineM_out] at LB
      obtain ⟨x, hx⟩ : ∃ x, eqT v w = x := ⟨_, rfl⟩
      obtain ⟨y, hy⟩ : ∃ y, hasT s w = y := ⟨_, rfl⟩
      rw [hx] at TA TB
      rw [hy] at LA LB
      clear hx hy
      have g1 : (x == !x) = false := by cases x <;> rfl
      have g2 : (y == !y) = false := by cases y <;> rfl
      go_wp2_with fail
      refine (TA.out _ O1.out).mono ?_
      rintro e u0 ⟨rfl, hb⟩
      replace O2 := Lib.hid (O2.out.below hb)
      replace P1 := Lib.hid (P1.out.below hb)
      replace P2 := Lib.hid (P2.out.below hb)
      replace HB := Lib.hid (hop HB.out (Nat.le_refl _) hb)
      clear hb
      go_wp2_with fail
      refine (TB.out _ O2.out).mono ?_
      rintro e u1 ⟨rfl, hb⟩
      replace P1 := Lib.hid (P1.out.below hb)
      replace P2 := Lib.hid (P2.out.below hb)
      replace HB := Lib.hid (hop HB.out (Nat.le_refl _) hb)
      clear hb
      go_wp2_with fail
      refine (LA.out _ P1.out (HM.out.below HB.out)).mono ?_
      rintro e u2 ⟨rfl, hb⟩
      replace P2 := Lib.hid (P2.out.below hb)
      replace HB := Lib.hid (hop HB.out (Nat.le_refl _) hb)
      clear hb
      go_wp2_with fail
      refine (LB.out _ P2.out (HM.out.below HB.out)).mono ?_
      rintro e u3 ⟨rfl, hb⟩
      replace HB := Lib.hid (hop HB.out (Nat.le_refl _) hb)
      clear hb
      go_wp2
      go_round
      case rel => exact ⟨1, by decide, by go_num, HB⟩
      case measure => first | (simp [intOf]; done) | (simp [intOf]; omega)
    ·
      have hs0 := HB.out.size
      have hb := ((Below.refl wr.heap.size wr).alloc (Nat.le_refl _) (.cells #[.string ⟨#[61]⟩, .string ⟨#[61, 126]⟩] 9)).alloc (by simp) (.cells #[.string ⟨#[33, 61]⟩, .string ⟨#[33, 126]⟩] 9)
      have r1_ := ((Blk.new wr 9 #[.string ⟨#[61]⟩, .string ⟨#[61, 126]⟩]).cell 1).trans (show _ = some (Value.string ⟨#[61, 126]⟩) from rfl)
      have r2_ := ((blk_next wr (.cells #[.string ⟨#[61]⟩, .string ⟨#[61, 126]⟩] 9) 9 #[.string ⟨#[33, 61]⟩, .string ⟨#[33, 126]⟩]).cell 1).trans (show _ = some (Value.string ⟨#[33, 126]⟩) from rfl)
      replace HB := Lib.hid (hop HB.out (Nat.le_refl _) hb)
      clear hb
      go_wp2_with fail
      refine (matOf_yes ⟨#[110]⟩ ⟨#[61, 126]⟩ w (RA.out _ (by decide +kernel)) _ (HL.out.below HB.out)).mono ?_
      rintro e w1 ⟨b1, rfl, h1, _, hb⟩
      replace HB := Lib.hid (hop HB.out (Nat.le_refl _) hb)
      have O1 := Lib.hid h1
      clear hb h1 r1_ r2_
      go_wp2_with fail
      refine (matOf_yes ⟨#[110]⟩ ⟨#[33, 126]⟩ w (RA.out _ (by decide +kernel)) _ (HL.out.below HB.out)).mono ?_
      rintro e w2 ⟨b2, rfl, h1, _, hb⟩
      replace O1 := Lib.hid (O1.out.below hb)
      replace HB := Lib.hid (hop HB.out (Nat.le_refl _) hb)
      have O2 := Lib.hid h1
      clear hb h1
      have hb := (Below.refl w2.heap.size w2).alloc (Nat.le_refl _) (.cells #[.string ⟨#[124, 61]⟩, .string ⟨#[124, 126]⟩] 9)
      have r3_ := ((Blk.new w2 9 #[.string ⟨#[124, 61]⟩, .string ⟨#[124, 126]⟩]).cell 1).trans (show _ = some (Value.string ⟨#[124, 126]⟩) from rfl)
      replace O1 := Lib.hid (O1.out.below hb)
      replace O2 := Lib.hid (O2.out.below hb)
      replace HB := Lib.hid (hop HB.out (Nat.le_refl _) hb)
      clear hb
      go_wp2_with fail
      refine (lineOf_yes ⟨#[124, 126]⟩ w (FL.out _ (by decide +kernel)) _ (HL.out.below HB.out)).mono ?_
      rintro e w3 ⟨l1, rfl, h1, _, hb⟩
      replace O1 := Lib.hid (O1.out.below hb)
      replace O2 := Lib.hid (O2.out.below hb)
      replace HB := Lib.hid (hop HB.out (Nat.le_refl _) hb)
      have P1 := Lib.hid h1
      clear hb h1 r3_
      go_wp2_with fail
      refine (lineOf_yes ⟨#[33, 126]⟩ w (FL.out _ (by decide +kernel)) _ (HL.out.below HB.out)).mono ?_
      rintro e w4 ⟨l2, rfl, h1, _, hb⟩
      replace O1 := Lib.hid (O1.out.below hb)
      replace O2 := Lib.hid (O2.out.below hb)
      replace P1 := Lib.hid (P1.out.below hb)
      replace HB := Lib.hid (hop HB.out (Nat.le_refl _) hb)
      have P2 := Lib.hid h1
      clear hb h1
      have TA := Lib.hid (fun u h => oneTest_any ⟨#[110]⟩ ⟨#[61, 126]⟩ w b1 v u h in_t2 (by omega))
      have TB := Lib.hid (fun u h => oneTest_any ⟨#[110]⟩ ⟨#[33, 126]⟩ w b2 v u h in_t3 (by omega))
      have LA := Lib.hid (fun u h hm => lineTest_any ⟨#[124, 126]⟩ w l1 s u h in_l2 (by omega) hm)
      have LB := Lib.hid (fun u h hm => lineTest_any ⟨#[33, 126]⟩ w l2 s u h in_l3 (by omega) hm)
      rw [testM_w] at TA
      rw [testM_nw] at TB
      rw [lineM_f] at LA
      rw [lineM_nf] at LB
      obtain ⟨x, hx⟩ : ∃ x, wholeB v.data.toList (exprOf w) = x := ⟨_, rfl⟩
      obtain ⟨y, hy⟩ : ∃ y, foundB s.data.toList (exprOf w) = y := ⟨_, rfl⟩
      rw [hx] at TA TB
      rw [hy] at LA LB
      clear hx hy
      have g1 : (x == !x) = false := by cases x <;> rfl
      have g2 : (y == !y) = false := by cases y <;> rfl
      go_wp2_with fail
      refine (TA.out _ O1.out).mono ?_
      rintro e u0 ⟨rfl, hb⟩
      replace O2 := Lib.hid (O2.out.below hb)
      replace P1 := Lib.hid (P1.out.below hb)
      replace P2 := Lib.hid (P2.out.below hb)
      replace HB := Lib.hid (hop HB.out (Nat.le_refl _) hb)
      clear hb
      go_wp2_with fail
      refine (TB.out _ O2.out).mono ?_
      rintro e u1 ⟨rfl, hb⟩
      replace P1 := Lib.hid (P1.out.below hb)
      replace P2 := Lib.hid (P2.out.below hb)
      replace HB := Lib.hid (hop HB.out (Nat.le_refl _) hb)
      clear hb
      go_wp2_with fail
      refine (LA.out _ P1.out (HM.out.below HB.out)).mono ?_
      rintro e u2 ⟨rfl, hb⟩
      replace P2 := Lib.hid (P2.out.below hb)
      replace HB := Lib.hid (hop HB.out (Nat.le_refl _) hb)
      clear hb
      go_wp2_with fail
      refine (LB.out _ P2.out (HM.out.below HB.out)).mono ?_
      rintro e u3 ⟨rfl, hb⟩
      replace HB := Lib.hid (hop HB.out (Nat.le_refl _) hb)
      clear hb
      go_wp2
      go_round
      case rel => exact ⟨2, by decide, by go_num, HB⟩
      case measure => first | (simp [intOf]; done) | (simp [intOf]; omega)
    · go_wp2
      go_ret
      exact ⟨rfl, HB.out⟩
end Go.Proofs.YtbkpoimaienhpaaGreatDoor
