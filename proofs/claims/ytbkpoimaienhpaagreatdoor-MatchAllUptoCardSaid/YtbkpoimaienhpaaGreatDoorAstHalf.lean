-- shaken
import Derived.Deep.RegionWith
import Derived.Deep.RegionHeld3
import Derived.BigRegion
import Derived.Test.YtbkpoimaienhpaaGreatDoorBase
import Derived.Test.YtbkpoimaienhpaaGreatDoorMem
namespace Go.Proofs.YtbkpoimaienhpaaGreatDoor
open Go.RowKit
set_option linter.unusedVariables false
set_option linter.unusedSimpArgs false
def vals8 : List ByteArray := [⟨#[97]⟩, ⟨#[98]⟩, ⟨#[120, 49]⟩, ⟨#[]⟩, ⟨#[97, 124, 98]⟩, ⟨#[120, 46, 42]⟩, ⟨#[91, 97, 98, 93, 43]⟩, ⟨#[53, 109]⟩]
def nms8 : List ByteArray := [⟨#[97, 112, 112]⟩, ⟨#[101, 110, 118]⟩, ⟨#[108, 118, 108]⟩]
def ops8 : List ByteArray := [⟨#[61]⟩, ⟨#[33, 61]⟩, ⟨#[61, 126]⟩, ⟨#[33, 126]⟩]
def valA (k : Nat) : ByteArray := vals8.getD (k % 8) .empty
theorem value8_any (k : Nat) (hk : k < 256) (W : World) :
    Calls Tryz.prog 8 #[.int .u8 (k : Int)] W fun e w' => e = .returned (.string (valA k)) ∧ w' = W.alloc (.cells (vals8.map Value.string).toArray 9) := by
  obtain ⟨i, hi⟩ : ∃ i, k % 8 = i := ⟨_, rfl⟩
  have hi8 : i < 8 := by omega
  have h8 : (k : Int).tmod 8 = (i : Int) := by rw [Int.tmod_eq_emod_of_nonneg (by omega)]; omega
  have h8' : (k : Int) % 8 = (i : Int) := by omega
  have wi : IntKind.u8.wrap (i : Int) = (i : Int) := by rw [IntKind.wrap_u8]; omega
  have iI : (i : Int) < 8 := by omega
  have c1 := tlit W vals8 W.heap.size rfl i hi8
  obtain ⟨y, hy⟩ : ∃ y, vals8.getD i .empty = y := ⟨_, rfl⟩
  unfold valA
  rw [hi, hy]
  rw [hy] at c1
  simp only [vals8, List.map_cons, List.map_nil] at c1 ⊢
  clear hy hi
  go_enter Tryz.func8, Tryz.ntmps8
  go_wp2
  go_ret
  exact ⟨rfl, rfl⟩
structure BlkH (B : Nat) (w : World) (g : Nat) (t : TypeId) (cs : Array Value) : Prop where
  blk : Blk w g t cs
  le : B ≤ g
theorem BlkH.below_ {B : Nat} {w w' : World} {g : Nat} {t : TypeId} {cs : Array Value} (h : BlkH B w g t cs) (hb : Below w.heap.size w w') : BlkH B w' g t cs := ⟨h.blk.below hb h.blk.lt, h.le⟩
theorem BlkH.lt {B : Nat} {w : World} {g : Nat} {t : TypeId} {cs : Array Value} (h : BlkH B w g t cs) : g < w.heap.size := h.blk.lt
theorem cell_keep {w w' : World} {p : Addr} {v : Value} (hb : Below w.heap.size w w') (h : w.cell? p = some v) : w'.cell? p = some v := (hb.cell (World.block_lt_of_cell? w p h)).trans h
theorem cell_far {w : World} {a p : Addr} {v u : Value} (h : w.cell? a = some v) (hne : p.block ≠ a.block) : (w.setCell p u).cell? a = some v := (World.cell?_setCell_far w p a u hne).trans h
theorem wpAnyH_grow {P : Program} {md : Region.Mode} {ops : Array Oper} {Q : Exit → Act → World → Prop} {S S' : World → Prop} (hS : ∀ w, S' w → S w) : ∀ {fuel : Nat} {listed : Array Bool} {a : Act} {w : World}, wpAnyH P md ops Q S' fuel listed a w → wpAnyH P md ops Q S fuel listed a w
  | 0, _, _, _, h => h
  | fuel + 1, _, _, _, h => ⟨h.1, fun i hi => wpOp_mono (fun a' w' h' => ⟨hS w' h'.1, wpAnyH_grow hS h'.2⟩) (h.2 i hi)⟩
theorem value8_let (k : Nat) (hk : k < 256) (W : World) :
    Calls Tryz.prog 8 #[.int .u8 (k : Int)] W fun e w' => e = .returned (.string (valA k)) ∧ Below W.heap.size W w' :=
  (value8_any k hk W).mono fun _ _ ⟨h1, h2⟩ => ⟨h1, by subst h2; exact (Below.refl _ _).alloc (Nat.le_refl _) _⟩
set_option maxRecDepth 100000 in
set_option maxHeartbeats 3200000 in
theorem half_own (nm op v : ByteArray) (k q e i j : Nat) (hk : k < 256) (hi : i < 3) (hj : j < 4) (h3 : (k : Int).tmod 3 = (i : Int)) (hq : (k : Int) / 3 = (q : Int)) (hw : IntKind.u8.wrap (q : Int) = (q : Int)) (h4 : (q : Int).tmod 4 = (j : Int)) (he : (k : Int) / 12 = (e : Int)) (hwe : IntKind.u8.wrap (e : Int) = (e : Int)) (he2 : e < 256) (W : World) :
    Calls Tryz.prog 14 #[.agg #[.string nm, .string op, .string v, .bool true, .int .u8 (k : Int)]] W fun r w' => r = .returned (.agg #[.string (nms8.getD i .empty), .string (ops8.getD j .empty), .string (valA e)]) ∧ Below W.heap.size W w' := by
  have iI : (i : Int) < 3 := by omega
  have jI : (j : Int) < 4 := by omega
  have hwi : IntKind.u8.wrap (i : Int) = (i : Int) := by rw [IntKind.wrap_u8]; omega
  have hwj : IntKind.u8.wrap (j : Int) = (j : Int) := by rw [IntKind.wrap_u8]; omega
  have VA := Lib.hid (fun w => value8_let e he2 w)
  obtain ⟨y, hy⟩ : ∃ y, nms8.getD i .empty = y := ⟨_, rfl⟩
  obtain ⟨z, hz⟩ : ∃ y, ops8.getD j .empty = y := ⟨_, rfl⟩
  obtain ⟨x, hx⟩ : ∃ y, valA e = y := ⟨_, rfl⟩
  rw [hx] at VA
  rw [hy, hz, hx]
  have HB0 : Below W.heap.size W ((W.alloc (.cells #[.string nm, .string op, .string v, .bool true, .int .u8 (k : Int)] 44)).alloc (.cells #[.string ⟨#[]⟩, .string ⟨#[]⟩, .string ⟨#[]⟩] 30)).drew := below_drewN (((Below.refl W.heap.size W).alloc (Nat.le_refl _) (.cells #[.string nm, .string op, .string v, .bool true, .int .u8 (k : Int)] 44)).alloc (by simp) (.cells #[.string ⟨#[]⟩, .string ⟨#[]⟩, .string ⟨#[]⟩] 30)) 1
  have HM : BlkH W.heap.size ((W.alloc (.cells #[.string nm, .string op, .string v, .bool true, .int .u8 (k : Int)] 44)).alloc (.cells #[.string ⟨#[]⟩, .string ⟨#[]⟩, .string ⟨#[]⟩] 30)).drew (W.heap.size + 1) 30 #[.string ⟨#[]⟩, .string ⟨#[]⟩, .string ⟨#[]⟩] := ⟨blk_next W _ _ _, by omega⟩
  have c3 : ((W.alloc (.cells #[.string nm, .string op, .string v, .bool true, .int .u8 (k : Int)] 44)).alloc (.cells #[.string ⟨#[]⟩, .string ⟨#[]⟩, .string ⟨#[]⟩] 30)).cell? ⟨W.heap.size, 3, none⟩ = some (.bool true) := (((Blk.new W 44 _).alloc (.cells #[.string ⟨#[]⟩, .string ⟨#[]⟩, .string ⟨#[]⟩] 30)).cell 3).trans rfl
  have c4 : ((W.alloc (.cells #[.string nm, .string op, .string v, .bool true, .int .u8 (k : Int)] 44)).alloc (.cells #[.string ⟨#[]⟩, .string ⟨#[]⟩, .string ⟨#[]⟩] 30)).cell? ⟨W.heap.size, 4, none⟩ = some (.int .u8 (k : Int)) := (((Blk.new W 44 _).alloc (.cells #[.string ⟨#[]⟩, .string ⟨#[]⟩, .string ⟨#[]⟩] 30)).cell 4).trans rfl
  clear hx
  have hbS : W.heap.size + 1 ≠ W.heap.size := by omega
  go_enter Tryz.func14, Tryz.ntmps14
  go_wp2
  refine wp_region_held_drew (S := fun w' => w'.cell? ⟨W.heap.size, 4, none⟩ = some (.int .u8 (k : Int)) ∧ True) (by kernel_rfl) ⟨c4, trivial⟩ (fun hS => ?_)
  obtain ⟨w0, hw0⟩ : ∃ z, ((W.alloc (.cells #[.string nm, .string op, .string v, .bool true, .int .u8 (k : Int)] 44)).alloc (.cells #[.string ⟨#[]⟩, .string ⟨#[]⟩, .string ⟨#[]⟩] 30)).drew = z := ⟨_, rfl⟩
  rw [hw0] at hS HB0 HM ⊢
  clear hw0
  refine tV 1 ?_; refine tH 2 ?_; refine tV 3 ?_; refine tV 7 ?_; refine tH 8 ?_; refine tV 9 ?_; refine tV 10 ?_; refine tV 13 ?_; refine tH 14 ?_; refine tV 15 ?_
  refine rdy [0, 6, 16] ?_
  refine rdC (fun K hK => ?_) ?_
  ·
    go_simp
    have hb3 : Below w0.heap.size w0 (w0.alloc (.cells #[.string ⟨#[97, 112, 112]⟩, .string ⟨#[101, 110, 118]⟩, .string ⟨#[108, 118, 108]⟩] 9)) := (Below.refl _ _).alloc (Nat.le_refl _) _
    obtain ⟨g0, hg0⟩ : ∃ g, w0.heap.size = g := ⟨_, rfl⟩
    have n0_ := tlit w0 nms8 g0 hg0.symm i hi
    rw [hy] at n0_
    (try simp only [nms8, List.map_cons, List.map_nil] at n0_)
    have lg0 : W.heap.size + 1 < g0 := by rw [← hg0]; exact HM.lt
    obtain ⟨d1, hwc⟩ : ∃ z, w0.alloc (.cells #[.string ⟨#[97, 112, 112]⟩, .string ⟨#[101, 110, 118]⟩, .string ⟨#[108, 118, 108]⟩] 9) = z := ⟨_, rfl⟩
    rw [hwc] at hb3 n0_
    rw [hwc, hg0]
    clear hwc hg0
    have hSn : (fun w' => w'.cell? ⟨W.heap.size, 4, none⟩ = some (.int .u8 (k : Int)) ∧ True) d1 := ⟨cell_keep hb3 hS.1, trivial⟩
    refine hK.out _ _ hSn (fun _ => ?_)
    clear hK K
    try simp only [Act.put, pz1, pz2, pz3]
    have HB0_ := hop HB0 (Nat.le_refl _) hb3
    clear HB0
    have HB0 := HB0_
    clear HB0_
    have HM_ := HM.below_ hb3
    clear HM
    have HM := HM_
    clear HM_
    refine wpAnyH_grow (S' := fun w' => w'.cell? ⟨g0, i, none⟩ = some (.string y) ∧ w'.cell? ⟨W.heap.size, 4, none⟩ = some (.int .u8 (k : Int)) ∧ True) (fun _ h => h.2) ?_
    have hSm : (fun w' => w'.cell? ⟨g0, i, none⟩ = some (.string y) ∧ w'.cell? ⟨W.heap.size, 4, none⟩ = some (.int .u8 (k : Int)) ∧ True) d1 := ⟨n0_, hSn⟩
    clear hS hSn hb3 n0_
    have hS := hSm
    clear hSm
    refine tV 4 ?_; refine tH 5 ?_
    refine rdy [6, 16] ?_
    refine rdC (fun K hK => ?_) ?_
    ·
      go_simp
      have hb3 : Below d1.heap.size d1 (d1.alloc (.cells #[.string ⟨#[61]⟩, .string ⟨#[33, 61]⟩, .string ⟨#[61, 126]⟩, .string ⟨#[33, 126]⟩] 9)) := (Below.refl _ _).alloc (Nat.le_refl _) _
      obtain ⟨g6, hg6⟩ : ∃ g, d1.heap.size = g := ⟨_, rfl⟩
      have n0_ := tlit d1 ops8 g6 hg6.symm j hj
      rw [hz] at n0_
      (try simp only [ops8, List.map_cons, List.map_nil] at n0_)
      have lg6 : W.heap.size + 1 < g6 := by rw [← hg6]; exact HM.lt
      obtain ⟨d2, hwc⟩ : ∃ z, d1.alloc (.cells #[.string ⟨#[61]⟩, .string ⟨#[33, 61]⟩, .string ⟨#[61, 126]⟩, .string ⟨#[33, 126]⟩] 9) = z := ⟨_, rfl⟩
      rw [hwc] at hb3 n0_
      rw [hwc, hg6]
      clear hwc hg6
      have hSn : (fun w' => w'.cell? ⟨g0, i, none⟩ = some (.string y) ∧ w'.cell? ⟨W.heap.size, 4, none⟩ = some (.int .u8 (k : Int)) ∧ True) d2 := ⟨cell_keep hb3 hS.1, cell_keep hb3 hS.2.1, trivial⟩
      refine hK.out _ _ hSn (fun _ => ?_)
      clear hK K
      try simp only [Act.put, pz1, pz2, pz3]
      have HB0_ := hop HB0 (Nat.le_refl _) hb3
      clear HB0
      have HB0 := HB0_
      clear HB0_
      have HM_ := HM.below_ hb3
      clear HM
      have HM := HM_
      clear HM_
      refine wpAnyH_grow (S' := fun w' => w'.cell? ⟨g6, j, none⟩ = some (.string z) ∧ w'.cell? ⟨g0, i, none⟩ = some (.string y) ∧ w'.cell? ⟨W.heap.size, 4, none⟩ = some (.int .u8 (k : Int)) ∧ True) (fun _ h => h.2) ?_
      have hSm : (fun w' => w'.cell? ⟨g6, j, none⟩ = some (.string z) ∧ w'.cell? ⟨g0, i, none⟩ = some (.string y) ∧ w'.cell? ⟨W.heap.size, 4, none⟩ = some (.int .u8 (k : Int)) ∧ True) d2 := ⟨n0_, hSn⟩
      clear hS hSn hb3 n0_
      have hS := hSm
      clear hSm
      refine tV 11 ?_; refine tH 12 ?_
      refine rdy [16] ?_
      refine rdC (fun K hK => ?_) AllReadyH.nil
      go_simp
      go_at_call 8
      refine (VA.out d2).mono ?_
      rintro _ d3 ⟨rfl, hb3⟩
      have hSn : (fun w' => w'.cell? ⟨g6, j, none⟩ = some (.string z) ∧ w'.cell? ⟨g0, i, none⟩ = some (.string y) ∧ w'.cell? ⟨W.heap.size, 4, none⟩ = some (.int .u8 (k : Int)) ∧ True) d3 := ⟨cell_keep hb3 hS.1, cell_keep hb3 hS.2.1, cell_keep hb3 hS.2.2.1, trivial⟩
      refine hK.out _ _ hSn (fun _ => ?_)
      clear hK K
      try simp only [Act.put, pz1, pz2, pz3]
      have HB0_ := hop HB0 (Nat.le_refl _) hb3
      clear HB0
      have HB0 := HB0_
      clear HB0_
      have HM_ := HM.below_ hb3
      clear HM
      have HM := HM_
      clear HM_
      clear hS hb3
      have hS := hSn
      clear hSn
      refine tV 17 ?_
      refine rdy [18] ?_
      refine rdC (fun K hK => ?_) AllReadyH.nil
      have m0_ := HM.1.cell 0
      have f0_ := HM.1.frozen 0
      have m1_ := HM.1.cell 1
      have f1_ := HM.1.frozen 1
      have m2_ := HM.1.cell 2
      have f2_ := HM.1.frozen 2
      go_simp
      have hSn : (fun w' => w'.cell? ⟨g6, j, none⟩ = some (.string z) ∧ w'.cell? ⟨g0, i, none⟩ = some (.string y) ∧ w'.cell? ⟨W.heap.size, 4, none⟩ = some (.int .u8 (k : Int)) ∧ True) (((d3.setCell ⟨W.heap.size + 1, 0, none⟩ (.string y)).setCell ⟨W.heap.size + 1, 1, none⟩ (.string z)).setCell ⟨W.heap.size + 1, 2, none⟩ (.string x)) := ⟨(cell_far (cell_far (cell_far hS.1 (p := ⟨W.heap.size + 1, 0, none⟩) (by show W.heap.size + 1 ≠ g6; omega)) (p := ⟨W.heap.size + 1, 1, none⟩) (by show W.heap.size + 1 ≠ g6; omega)) (p := ⟨W.heap.size + 1, 2, none⟩) (by show W.heap.size + 1 ≠ g6; omega)), (cell_far (cell_far (cell_far hS.2.1 (p := ⟨W.heap.size + 1, 0, none⟩) (by show W.heap.size + 1 ≠ g0; omega)) (p := ⟨W.heap.size + 1, 1, none⟩) (by show W.heap.size + 1 ≠ g0; omega)) (p := ⟨W.heap.size + 1, 2, none⟩) (by show W.heap.size + 1 ≠ g0; omega)), (cell_far (cell_far (cell_far hS.2.2.1 (p := ⟨W.heap.size + 1, 0, none⟩) (by show W.heap.size + 1 ≠ W.heap.size; omega)) (p := ⟨W.heap.size + 1, 1, none⟩) (by show W.heap.size + 1 ≠ W.heap.size; omega)) (p := ⟨W.heap.size + 1, 2, none⟩) (by show W.heap.size + 1 ≠ W.heap.size; omega)), trivial⟩
      have HMn := (((HM.1.set_ 0 (.string y)).set_ 1 (.string z)).set_ 2 (.string x))
      have HBn := (((HB0.setCell (p := ⟨W.heap.size + 1, 0, none⟩) HM.2 (.string y)).setCell (p := ⟨W.heap.size + 1, 1, none⟩) HM.2 (.string z)).setCell (p := ⟨W.heap.size + 1, 2, none⟩) HM.2 (.string x))
      refine hK.out _ _ hSn (fun _ => ?_)
      clear hK K
      try simp only [Act.put, pz1, pz2, pz3]
      refine wpAnyH_done (by kernel_rfl) ?_ _
      go_wp2
      refine bodyPost_ret (results_cell_row rfl _ _ (W.heap.size + 1) 30 #[.string y, .string z, .string x] (0, 0) _ rfl HMn Tryz.underlying30 rfl (by kernel_rfl)) rfl ?_
      exact ⟨rfl, HBn⟩
    refine rdC (fun K hK => ?_) AllReadyH.nil
    ·
      go_simp
      go_at_call 8
      refine (VA.out d1).mono ?_
      rintro _ d5 ⟨rfl, hb3⟩
      have hSn : (fun w' => w'.cell? ⟨g0, i, none⟩ = some (.string y) ∧ w'.cell? ⟨W.heap.size, 4, none⟩ = some (.int .u8 (k : Int)) ∧ True) d5 := ⟨cell_keep hb3 hS.1, cell_keep hb3 hS.2.1, trivial⟩
      refine hK.out _ _ hSn (fun _ => ?_)
      clear hK K
      try simp only [Act.put, pz1, pz2, pz3]
      have HB0_ := hop HB0 (Nat.le_refl _) hb3
      clear HB0
      have HB0 := HB0_
      clear HB0_
      have HM_ := HM.below_ hb3
      clear HM
      have HM := HM_
      clear HM_
      clear hS hb3
      have hS := hSn
      clear hSn
      refine rdy [6] ?_
      refine rdC (fun K hK => ?_) AllReadyH.nil
      go_simp
      have hb3 : Below d5.heap.size d5 (d5.alloc (.cells #[.string ⟨#[61]⟩, .string ⟨#[33, 61]⟩, .string ⟨#[61, 126]⟩, .string ⟨#[33, 126]⟩] 9)) := (Below.refl _ _).alloc (Nat.le_refl _) _
      obtain ⟨g6, hg6⟩ : ∃ g, d5.heap.size = g := ⟨_, rfl⟩
      have n0_ := tlit d5 ops8 g6 hg6.symm j hj
      rw [hz] at n0_
      (try simp only [ops8, List.map_cons, List.map_nil] at n0_)
      have lg6 : W.heap.size + 1 < g6 := by rw [← hg6]; exact HM.lt
      obtain ⟨d6, hwc⟩ : ∃ z, d5.alloc (.cells #[.string ⟨#[61]⟩, .string ⟨#[33, 61]⟩, .string ⟨#[61, 126]⟩, .string ⟨#[33, 126]⟩] 9) = z := ⟨_, rfl⟩
      rw [hwc] at hb3 n0_
      rw [hwc, hg6]
      clear hwc hg6
      have hSn : (fun w' => w'.cell? ⟨g0, i, none⟩ = some (.string y) ∧ w'.cell? ⟨W.heap.size, 4, none⟩ = some (.int .u8 (k : Int)) ∧ True) d6 := ⟨cell_keep hb3 hS.1, cell_keep hb3 hS.2.1, trivial⟩
      refine hK.out _ _ hSn (fun _ => ?_)
      clear hK K
      try simp only [Act.put, pz1, pz2, pz3]
      have HB0_ := hop HB0 (Nat.le_refl _) hb3
      clear HB0
      have HB0 := HB0_
      clear HB0_
      have HM_ := HM.below_ hb3
      clear HM
      have HM := HM_
      clear HM_
      refine wpAnyH_grow (S' := fun w' => w'.cell? ⟨g6, j, none⟩ = some (.string z) ∧ w'.cell? ⟨g0, i, none⟩ = some (.string y) ∧ w'.cell? ⟨W.heap.size, 4, none⟩ = some (.int .u8 (k : Int)) ∧ True) (fun _ h => h.2) ?_
      have hSm : (fun w' => w'.cell? ⟨g6, j, none⟩ = some (.string z) ∧ w'.cell? ⟨g0, i, none⟩ = some (.string y) ∧ w'.cell? ⟨W.heap.size, 4, none⟩ = some (.int .u8 (k : Int)) ∧ True) d6 := ⟨n0_, hSn⟩
      clear hS hSn hb3 n0_
      have hS := hSm
      clear hSm
      refine tV 11 ?_; refine tH 12 ?_; refine tV 17 ?_
      refine rdy [18] ?_
      refine rdC (fun K hK => ?_) AllReadyH.nil
      have m0_ := HM.1.cell 0
      have f0_ := HM.1.frozen 0
      have m1_ := HM.1.cell 1
      have f1_ := HM.1.frozen 1
      have m2_ := HM.1.cell 2
      have f2_ := HM.1.frozen 2
      go_simp
      have hSn : (fun w' => w'.cell? ⟨g6, j, none⟩ = some (.string z) ∧ w'.cell? ⟨g0, i, none⟩ = some (.string y) ∧ w'.cell? ⟨W.heap.size, 4, none⟩ = some (.int .u8 (k : Int)) ∧ True) (((d6.setCell ⟨W.heap.size + 1, 0, none⟩ (.string y)).setCell ⟨W.heap.size + 1, 1, none⟩ (.string z)).setCell ⟨W.heap.size + 1, 2, none⟩ (.string x)) := ⟨(cell_far (cell_far (cell_far hS.1 (p := ⟨W.heap.size + 1, 0, none⟩) (by show W.heap.size + 1 ≠ g6; omega)) (p := ⟨W.heap.size + 1, 1, none⟩) (by show W.heap.size + 1 ≠ g6; omega)) (p := ⟨W.heap.size + 1, 2, none⟩) (by show W.heap.size + 1 ≠ g6; omega)), (cell_far (cell_far (cell_far hS.2.1 (p := ⟨W.heap.size + 1, 0, none⟩) (by show W.heap.size + 1 ≠ g0; omega)) (p := ⟨W.heap.size + 1, 1, none⟩) (by show W.heap.size + 1 ≠ g0; omega)) (p := ⟨W.heap.size + 1, 2, none⟩) (by show W.heap.size + 1 ≠ g0; omega)), (cell_far (cell_far (cell_far hS.2.2.1 (p := ⟨W.heap.size + 1, 0, none⟩) (by show W.heap.size + 1 ≠ W.heap.size; omega)) (p := ⟨W.heap.size + 1, 1, none⟩) (by show W.heap.size + 1 ≠ W.heap.size; omega)) (p := ⟨W.heap.size + 1, 2, none⟩) (by show W.heap.size + 1 ≠ W.heap.size; omega)), trivial⟩
      have HMn := (((HM.1.set_ 0 (.string y)).set_ 1 (.string z)).set_ 2 (.string x))
      have HBn := (((HB0.setCell (p := ⟨W.heap.size + 1, 0, none⟩) HM.2 (.string y)).setCell (p := ⟨W.heap.size + 1, 1, none⟩) HM.2 (.string z)).setCell (p := ⟨W.heap.size + 1, 2, none⟩) HM.2 (.string x))
      refine hK.out _ _ hSn (fun _ => ?_)
      clear hK K
      try simp only [Act.put, pz1, pz2, pz3]
      refine wpAnyH_done (by kernel_rfl) ?_ _
      go_wp2
      refine bodyPost_ret (results_cell_row rfl _ _ (W.heap.size + 1) 30 #[.string y, .string z, .string x] (0, 0) _ rfl HMn Tryz.underlying30 rfl (by kernel_rfl)) rfl ?_
      exact ⟨rfl, HBn⟩
  refine rdC (fun K hK => ?_) ?_
  ·
    go_simp
    have hb3 : Below w0.heap.size w0 (w0.alloc (.cells #[.string ⟨#[61]⟩, .string ⟨#[33, 61]⟩, .string ⟨#[61, 126]⟩, .string ⟨#[33, 126]⟩] 9)) := (Below.refl _ _).alloc (Nat.le_refl _) _
    obtain ⟨g6, hg6⟩ : ∃ g, w0.heap.size = g := ⟨_, rfl⟩
    have n0_ := tlit w0 ops8 g6 hg6.symm j hj
    rw [hz] at n0_
    (try simp only [ops8, List.map_cons, List.map_nil] at n0_)
    have lg6 : W.heap.size + 1 < g6 := by rw [← hg6]; exact HM.lt
    obtain ⟨d8, hwc⟩ : ∃ z, w0.alloc (.cells #[.string ⟨#[61]⟩, .string ⟨#[33, 61]⟩, .string ⟨#[61, 126]⟩, .string ⟨#[33, 126]⟩] 9) = z := ⟨_, rfl⟩
    rw [hwc] at hb3 n0_
    rw [hwc, hg6]
    clear hwc hg6
    have hSn : (fun w' => w'.cell? ⟨W.heap.size, 4, none⟩ = some (.int .u8 (k : Int)) ∧ True) d8 := ⟨cell_keep hb3 hS.1, trivial⟩
    refine hK.out _ _ hSn (fun _ => ?_)
    clear hK K
    try simp only [Act.put, pz1, pz2, pz3]
    have HB0_ := hop HB0 (Nat.le_refl _) hb3
    clear HB0
    have HB0 := HB0_
    clear HB0_
    have HM_ := HM.below_ hb3
    clear HM
    have HM := HM_
    clear HM_
    refine wpAnyH_grow (S' := fun w' => w'.cell? ⟨g6, j, none⟩ = some (.string z) ∧ w'.cell? ⟨W.heap.size, 4, none⟩ = some (.int .u8 (k : Int)) ∧ True) (fun _ h => h.2) ?_
    have hSm : (fun w' => w'.cell? ⟨g6, j, none⟩ = some (.string z) ∧ w'.cell? ⟨W.heap.size, 4, none⟩ = some (.int .u8 (k : Int)) ∧ True) d8 := ⟨n0_, hSn⟩
    clear hS hSn hb3 n0_
    have hS := hSm
    clear hSm
    refine tV 11 ?_; refine tH 12 ?_
    refine rdy [0, 16] ?_
    refine rdC (fun K hK => ?_) ?_
    ·
      go_simp
      have hb3 : Below d8.heap.size d8 (d8.alloc (.cells #[.string ⟨#[97, 112, 112]⟩, .string ⟨#[101, 110, 118]⟩, .string ⟨#[108, 118, 108]⟩] 9)) := (Below.refl _ _).alloc (Nat.le_refl _) _
      obtain ⟨g0, hg0⟩ : ∃ g, d8.heap.size = g := ⟨_, rfl⟩
      have n0_ := tlit d8 nms8 g0 hg0.symm i hi
      rw [hy] at n0_
      (try simp only [nms8, List.map_cons, List.map_nil] at n0_)
      have lg0 : W.heap.size + 1 < g0 := by rw [← hg0]; exact HM.lt
      obtain ⟨d9, hwc⟩ : ∃ z, d8.alloc (.cells #[.string ⟨#[97, 112, 112]⟩, .string ⟨#[101, 110, 118]⟩, .string ⟨#[108, 118, 108]⟩] 9) = z := ⟨_, rfl⟩
      rw [hwc] at hb3 n0_
      rw [hwc, hg0]
      clear hwc hg0
      have hSn : (fun w' => w'.cell? ⟨g6, j, none⟩ = some (.string z) ∧ w'.cell? ⟨W.heap.size, 4, none⟩ = some (.int .u8 (k : Int)) ∧ True) d9 := ⟨cell_keep hb3 hS.1, cell_keep hb3 hS.2.1, trivial⟩
      refine hK.out _ _ hSn (fun _ => ?_)
      clear hK K
      try simp only [Act.put, pz1, pz2, pz3]
      have HB0_ := hop HB0 (Nat.le_refl _) hb3
      clear HB0
      have HB0 := HB0_
      clear HB0_
      have HM_ := HM.below_ hb3
      clear HM
      have HM := HM_
      clear HM_
      refine wpAnyH_grow (S' := fun w' => w'.cell? ⟨g0, i, none⟩ = some (.string y) ∧ w'.cell? ⟨g6, j, none⟩ = some (.string z) ∧ w'.cell? ⟨W.heap.size, 4, none⟩ = some (.int .u8 (k : Int)) ∧ True) (fun _ h => h.2) ?_
      have hSm : (fun w' => w'.cell? ⟨g0, i, none⟩ = some (.string y) ∧ w'.cell? ⟨g6, j, none⟩ = some (.string z) ∧ w'.cell? ⟨W.heap.size, 4, none⟩ = some (.int .u8 (k : Int)) ∧ True) d9 := ⟨n0_, hSn⟩
      clear hS hSn hb3 n0_
      have hS := hSm
      clear hSm
      refine tV 4 ?_; refine tH 5 ?_
      refine rdy [16] ?_
      refine rdC (fun K hK => ?_) AllReadyH.nil
      go_simp
      go_at_call 8
      refine (VA.out d9).mono ?_
      rintro _ d10 ⟨rfl, hb3⟩
      have hSn : (fun w' => w'.cell? ⟨g0, i, none⟩ = some (.string y) ∧ w'.cell? ⟨g6, j, none⟩ = some (.string z) ∧ w'.cell? ⟨W.heap.size, 4, none⟩ = some (.int .u8 (k : Int)) ∧ True) d10 := ⟨cell_keep hb3 hS.1, cell_keep hb3 hS.2.1, cell_keep hb3 hS.2.2.1, trivial⟩
      refine hK.out _ _ hSn (fun _ => ?_)
      clear hK K
      try simp only [Act.put, pz1, pz2, pz3]
      have HB0_ := hop HB0 (Nat.le_refl _) hb3
      clear HB0
      have HB0 := HB0_
      clear HB0_
      have HM_ := HM.below_ hb3
      clear HM
      have HM := HM_
      clear HM_
      clear hS hb3
      have hS := hSn
      clear hSn
      refine tV 17 ?_
      refine rdy [18] ?_
      refine rdC (fun K hK => ?_) AllReadyH.nil
      have m0_ := HM.1.cell 0
      have f0_ := HM.1.frozen 0
      have m1_ := HM.1.cell 1
      have f1_ := HM.1.frozen 1
      have m2_ := HM.1.cell 2
      have f2_ := HM.1.frozen 2
      go_simp
      have hSn : (fun w' => w'.cell? ⟨g0, i, none⟩ = some (.string y) ∧ w'.cell? ⟨g6, j, none⟩ = some (.string z) ∧ w'.cell? ⟨W.heap.size, 4, none⟩ = some (.int .u8 (k : Int)) ∧ True) (((d10.setCell ⟨W.heap.size + 1, 0, none⟩ (.string y)).setCell ⟨W.heap.size + 1, 1, none⟩ (.string z)).setCell ⟨W.heap.size + 1, 2, none⟩ (.string x)) := ⟨(cell_far (cell_far (cell_far hS.1 (p := ⟨W.heap.size + 1, 0, none⟩) (by show W.heap.size + 1 ≠ g0; omega)) (p := ⟨W.heap.size + 1, 1, none⟩) (by show W.heap.size + 1 ≠ g0; omega)) (p := ⟨W.heap.size + 1, 2, none⟩) (by show W.heap.size + 1 ≠ g0; omega)), (cell_far (cell_far (cell_far hS.2.1 (p := ⟨W.heap.size + 1, 0, none⟩) (by show W.heap.size + 1 ≠ g6; omega)) (p := ⟨W.heap.size + 1, 1, none⟩) (by show W.heap.size + 1 ≠ g6; omega)) (p := ⟨W.heap.size + 1, 2, none⟩) (by show W.heap.size + 1 ≠ g6; omega)), (cell_far (cell_far (cell_far hS.2.2.1 (p := ⟨W.heap.size + 1, 0, none⟩) (by show W.heap.size + 1 ≠ W.heap.size; omega)) (p := ⟨W.heap.size + 1, 1, none⟩) (by show W.heap.size + 1 ≠ W.heap.size; omega)) (p := ⟨W.heap.size + 1, 2, none⟩) (by show W.heap.size + 1 ≠ W.heap.size; omega)), trivial⟩
      have HMn := (((HM.1.set_ 0 (.string y)).set_ 1 (.string z)).set_ 2 (.string x))
      have HBn := (((HB0.setCell (p := ⟨W.heap.size + 1, 0, none⟩) HM.2 (.string y)).setCell (p := ⟨W.heap.size + 1, 1, none⟩) HM.2 (.string z)).setCell (p := ⟨W.heap.size + 1, 2, none⟩) HM.2 (.string x))
      refine hK.out _ _ hSn (fun _ => ?_)
      clear hK K
      try simp only [Act.put, pz1, pz2, pz3]
      refine wpAnyH_done (by kernel_rfl) ?_ _
      go_wp2
      refine bodyPost_ret (results_cell_row rfl _ _ (W.heap.size + 1) 30 #[.string y, .string z, .string x] (0, 0) _ rfl HMn Tryz.underlying30 rfl (by kernel_rfl)) rfl ?_
      exact ⟨rfl, HBn⟩
    refine rdC (fun K hK => ?_) AllReadyH.nil
    ·
      go_simp
      go_at_call 8
      refine (VA.out d8).mono ?_
      rintro _ d12 ⟨rfl, hb3⟩
      have hSn : (fun w' => w'.cell? ⟨g6, j, none⟩ = some (.string z) ∧ w'.cell? ⟨W.heap.size, 4, none⟩ = some (.int .u8 (k : Int)) ∧ True) d12 := ⟨cell_keep hb3 hS.1, cell_keep hb3 hS.2.1, trivial⟩
      refine hK.out _ _ hSn (fun _ => ?_)
      clear hK K
      try simp only [Act.put, pz1, pz2, pz3]
      have HB0_ := hop HB0 (Nat.le_refl _) hb3
      clear HB0
      have HB0 := HB0_
      clear HB0_
      have HM_ := HM.below_ hb3
      clear HM
      have HM := HM_
      clear HM_
      clear hS hb3
      have hS := hSn
      clear hSn
      refine rdy [0] ?_
      refine rdC (fun K hK => ?_) AllReadyH.nil
      go_simp
      have hb3 : Below d12.heap.size d12 (d12.alloc (.cells #[.string ⟨#[97, 112, 112]⟩, .string ⟨#[101, 110, 118]⟩, .string ⟨#[108, 118, 108]⟩] 9)) := (Below.refl _ _).alloc (Nat.le_refl _) _
      obtain ⟨g0, hg0⟩ : ∃ g, d12.heap.size = g := ⟨_, rfl⟩
      have n0_ := tlit d12 nms8 g0 hg0.symm i hi
      rw [hy] at n0_
      (try simp only [nms8, List.map_cons, List.map_nil] at n0_)
      have lg0 : W.heap.size + 1 < g0 := by rw [← hg0]; exact HM.lt
      obtain ⟨d13, hwc⟩ : ∃ z, d12.alloc (.cells #[.string ⟨#[97, 112, 112]⟩, .string ⟨#[101, 110, 118]⟩, .string ⟨#[108, 118, 108]⟩] 9) = z := ⟨_, rfl⟩
      rw [hwc] at hb3 n0_
      rw [hwc, hg0]
      clear hwc hg0
      have hSn : (fun w' => w'.cell? ⟨g6, j, none⟩ = some (.string z) ∧ w'.cell? ⟨W.heap.size, 4, none⟩ = some (.int .u8 (k : Int)) ∧ True) d13 := ⟨cell_keep hb3 hS.1, cell_keep hb3 hS.2.1, trivial⟩
      refine hK.out _ _ hSn (fun _ => ?_)
      clear hK K
      try simp only [Act.put, pz1, pz2, pz3]
      have HB0_ := hop HB0 (Nat.le_refl _) hb3
      clear HB0
      have HB0 := HB0_
      clear HB0_
      have HM_ := HM.below_ hb3
      clear HM
      have HM := HM_
      clear HM_
      refine wpAnyH_grow (S' := fun w' => w'.cell? ⟨g0, i, none⟩ = some (.string y) ∧ w'.cell? ⟨g6, j, none⟩ = some (.string z) ∧ w'.cell? ⟨W.heap.size, 4, none⟩ = some (.int .u8 (k : Int)) ∧ True) (fun _ h => h.2) ?_
      have hSm : (fun w' => w'.cell? ⟨g0, i, none⟩ = some (.string y) ∧ w'.cell? ⟨g6, j, none⟩ = some (.string z) ∧ w'.cell? ⟨W.heap.size, 4, none⟩ = some (.int .u8 (k : Int)) ∧ True) d13 := ⟨n0_, hSn⟩
      clear hS hSn hb3 n0_
      have hS := hSm
      clear hSm
      refine tV 4 ?_; refine tH 5 ?_; refine tV 17 ?_
      refine rdy [18] ?_
      refine rdC (fun K hK => ?_) AllReadyH.nil
      have m0_ := HM.1.cell 0
      have f0_ := HM.1.frozen 0
      have m1_ := HM.1.cell 1
      have f1_ := HM.1.frozen 1
      have m2_ := HM.1.cell 2
      have f2_ := HM.1.frozen 2
      go_simp
      have hSn : (fun w' => w'.cell? ⟨g0, i, none⟩ = some (.string y) ∧ w'.cell? ⟨g6, j, none⟩ = some (.string z) ∧ w'.cell? ⟨W.heap.size, 4, none⟩ = some (.int .u8 (k : Int)) ∧ True) (((d13.setCell ⟨W.heap.size + 1, 0, none⟩ (.string y)).setCell ⟨W.heap.size + 1, 1, none⟩ (.string z)).setCell ⟨W.heap.size + 1, 2, none⟩ (.string x)) := ⟨(cell_far (cell_far (cell_far hS.1 (p := ⟨W.heap.size + 1, 0, none⟩) (by show W.heap.size + 1 ≠ g0; omega)) (p := ⟨W.heap.size + 1, 1, none⟩) (by show W.heap.size + 1 ≠ g0; omega)) (p := ⟨W.heap.size + 1, 2, none⟩) (by show W.heap.size + 1 ≠ g0; omega)), (cell_far (cell_far (cell_far hS.2.1 (p := ⟨W.heap.size + 1, 0, none⟩) (by show W.heap.size + 1 ≠ g6; omega)) (p := ⟨W.heap.size + 1, 1, none⟩) (by show W.heap.size + 1 ≠ g6; omega)) (p := ⟨W.heap.size + 1, 2, none⟩) (by show W.heap.size + 1 ≠ g6; omega)), (cell_far (cell_far (cell_far hS.2.2.1 (p := ⟨W.heap.size + 1, 0, none⟩) (by show W.heap.size + 1 ≠ W.heap.size; omega)) (p := ⟨W.heap.size + 1, 1, none⟩) (by show W.heap.size + 1 ≠ W.heap.size; omega)) (p := ⟨W.heap.size + 1, 2, none⟩) (by show W.heap.size + 1 ≠ W.heap.size; omega)), trivial⟩
      have HMn := (((HM.1.set_ 0 (.string y)).set_ 1 (.string z)).set_ 2 (.string x))
      have HBn := (((HB0.setCell (p := ⟨W.heap.size + 1, 0, none⟩) HM.2 (.string y)).setCell (p := ⟨W.heap.size + 1, 1, none⟩) HM.2 (.string z)).setCell (p := ⟨W.heap.size + 1, 2, none⟩) HM.2 (.string x))
      refine hK.out _ _ hSn (fun _ => ?_)
      clear hK K
      try simp only [Act.put, pz1, pz2, pz3]
      refine wpAnyH_done (by kernel_rfl) ?_ _
      go_wp2
      refine bodyPost_ret (results_cell_row rfl _ _ (W.heap.size + 1) 30 #[.string y, .string z, .string x] (0, 0) _ rfl HMn Tryz.underlying30 rfl (by kernel_rfl)) rfl ?_
      exact ⟨rfl, HBn⟩
  refine rdC (fun K hK => ?_) AllReadyH.nil
  ·
    go_simp
    go_at_call 8
    refine (VA.out w0).mono ?_
    rintro _ d15 ⟨rfl, hb3⟩
    have hSn : (fun w' => w'.cell? ⟨W.heap.size, 4, none⟩ = some (.int .u8 (k : Int)) ∧ True) d15 := ⟨cell_keep hb3 hS.1, trivial⟩
    refine hK.out _ _ hSn (fun _ => ?_)
    clear hK K
    try simp only [Act.put, pz1, pz2, pz3]
    have HB0_ := hop HB0 (Nat.le_refl _) hb3
    clear HB0
    have HB0 := HB0_
    clear HB0_
    have HM_ := HM.below_ hb3
    clear HM
    have HM := HM_
    clear HM_
    clear hS hb3
    have hS := hSn
    clear hSn
    refine rdy [0, 6] ?_
    refine rdC (fun K hK => ?_) ?_
    ·
      go_simp
      have hb3 : Below d15.heap.size d15 (d15.alloc (.cells #[.string ⟨#[97, 112, 112]⟩, .string ⟨#[101, 110, 118]⟩, .string ⟨#[108, 118, 108]⟩] 9)) := (Below.refl _ _).alloc (Nat.le_refl _) _
      obtain ⟨g0, hg0⟩ : ∃ g, d15.heap.size = g := ⟨_, rfl⟩
      have n0_ := tlit d15 nms8 g0 hg0.symm i hi
      rw [hy] at n0_
      (try simp only [nms8, List.map_cons, List.map_nil] at n0_)
      have lg0 : W.heap.size + 1 < g0 := by rw [← hg0]; exact HM.lt
      obtain ⟨d16, hwc⟩ : ∃ z, d15.alloc (.cells #[.string ⟨#[97, 112, 112]⟩, .string ⟨#[101, 110, 118]⟩, .string ⟨#[108, 118, 108]⟩] 9) = z := ⟨_, rfl⟩
      rw [hwc] at hb3 n0_
      rw [hwc, hg0]
      clear hwc hg0
      have hSn : (fun w' => w'.cell? ⟨W.heap.size, 4, none⟩ = some (.int .u8 (k : Int)) ∧ True) d16 := ⟨cell_keep hb3 hS.1, trivial⟩
      refine hK.out _ _ hSn (fun _ => ?_)
      clear hK K
      try simp only [Act.put, pz1, pz2, pz3]
      have HB0_ := hop HB0 (Nat.le_refl _) hb3
      clear HB0
      have HB0 := HB0_
      clear HB0_
      have HM_ := HM.below_ hb3
      clear HM
      have HM := HM_
      clear HM_
      refine wpAnyH_grow (S' := fun w' => w'.cell? ⟨g0, i, none⟩ = some (.string y) ∧ w'.cell? ⟨W.heap.size, 4, none⟩ = some (.int .u8 (k : Int)) ∧ True) (fun _ h => h.2) ?_
      have hSm : (fun w' => w'.cell? ⟨g0, i, none⟩ = some (.string y) ∧ w'.cell? ⟨W.heap.size, 4, none⟩ = some (.int .u8 (k : Int)) ∧ True) d16 := ⟨n0_, hSn⟩
      clear hS hSn hb3 n0_
      have hS := hSm
      clear hSm
      refine tV 4 ?_; refine tH 5 ?_
      refine rdy [6] ?_
      refine rdC (fun K hK => ?_) AllReadyH.nil
      go_simp
      have hb3 : Below d16.heap.size d16 (d16.alloc (.cells #[.string ⟨#[61]⟩, .string ⟨#[33, 61]⟩, .string ⟨#[61, 126]⟩, .string ⟨#[33, 126]⟩] 9)) := (Below.refl _ _).alloc (Nat.le_refl _) _
      obtain ⟨g6, hg6⟩ : ∃ g, d16.heap.size = g := ⟨_, rfl⟩
      have n0_ := tlit d16 ops8 g6 hg6.symm j hj
      rw [hz] at n0_
      (try simp only [ops8, List.map_cons, List.map_nil] at n0_)
      have lg6 : W.heap.size + 1 < g6 := by rw [← hg6]; exact HM.lt
      obtain ⟨d17, hwc⟩ : ∃ z, d16.alloc (.cells #[.string ⟨#[61]⟩, .string ⟨#[33, 61]⟩, .string ⟨#[61, 126]⟩, .string ⟨#[33, 126]⟩] 9) = z := ⟨_, rfl⟩
      rw [hwc] at hb3 n0_
      rw [hwc, hg6]
      clear hwc hg6
      have hSn : (fun w' => w'.cell? ⟨g0, i, none⟩ = some (.string y) ∧ w'.cell? ⟨W.heap.size, 4, none⟩ = some (.int .u8 (k : Int)) ∧ True) d17 := ⟨cell_keep hb3 hS.1, cell_keep hb3 hS.2.1, trivial⟩
      refine hK.out _ _ hSn (fun _ => ?_)
      clear hK K
      try simp only [Act.put, pz1, pz2, pz3]
      have HB0_ := hop HB0 (Nat.le_refl _) hb3
      clear HB0
      have HB0 := HB0_
      clear HB0_
      have HM_ := HM.below_ hb3
      clear HM
      have HM := HM_
      clear HM_
      refine wpAnyH_grow (S' := fun w' => w'.cell? ⟨g6, j, none⟩ = some (.string z) ∧ w'.cell? ⟨g0, i, none⟩ = some (.string y) ∧ w'.cell? ⟨W.heap.size, 4, none⟩ = some (.int .u8 (k : Int)) ∧ True) (fun _ h => h.2) ?_
      have hSm : (fun w' => w'.cell? ⟨g6, j, none⟩ = some (.string z) ∧ w'.cell? ⟨g0, i, none⟩ = some (.string y) ∧ w'.cell? ⟨W.heap.size, 4, none⟩ = some (.int .u8 (k : Int)) ∧ True) d17 := ⟨n0_, hSn⟩
      clear hS hSn hb3 n0_
      have hS := hSm
      clear hSm
      refine tV 11 ?_; refine tH 12 ?_; refine tV 17 ?_
      refine rdy [18] ?_
      refine rdC (fun K hK => ?_) AllReadyH.nil
      have m0_ := HM.1.cell 0
      have f0_ := HM.1.frozen 0
      have m1_ := HM.1.cell 1
      have f1_ := HM.1.frozen 1
      have m2_ := HM.1.cell 2
      have f2_ := HM.1.frozen 2
      go_simp
      have hSn : (fun w' => w'.cell? ⟨g6, j, none⟩ = some (.string z) ∧ w'.cell? ⟨g0, i, none⟩ = some (.string y) ∧ w'.cell? ⟨W.heap.size, 4, none⟩ = some (.int .u8 (k : Int)) ∧ True) (((d17.setCell ⟨W.heap.size + 1, 0, none⟩ (.string y)).setCell ⟨W.heap.size + 1, 1, none⟩ (.string z)).setCell ⟨W.heap.size + 1, 2, none⟩ (.string x)) := ⟨(cell_far (cell_far (cell_far hS.1 (p := ⟨W.heap.size + 1, 0, none⟩) (by show W.heap.size + 1 ≠ g6; omega)) (p := ⟨W.heap.size + 1, 1, none⟩) (by show W.heap.size + 1 ≠ g6; omega)) (p := ⟨W.heap.size + 1, 2, none⟩) (by show W.heap.size + 1 ≠ g6; omega)), (cell_far (cell_far (cell_far hS.2.1 (p := ⟨W.heap.size + 1, 0, none⟩) (by show W.heap.size + 1 ≠ g0; omega)) (p := ⟨W.heap.size + 1, 1, none⟩) (by show W.heap.size + 1 ≠ g0; omega)) (p := ⟨W.heap.size + 1, 2, none⟩) (by show W.heap.size + 1 ≠ g0; omega)), (cell_far (cell_far (cell_far hS.2.2.1 (p := ⟨W.heap.size + 1, 0, none⟩) (by show W.heap.size + 1 ≠ W.heap.size; omega)) (p := ⟨W.heap.size + 1, 1, none⟩) (by show W.heap.size + 1 ≠ W.heap.size; omega)) (p := ⟨W.heap.size + 1, 2, none⟩) (by show W.heap.size + 1 ≠ W.heap.size; omega)), trivial⟩
      have HMn := (((HM.1.set_ 0 (.string y)).set_ 1 (.string z)).set_ 2 (.string x))
      have HBn := (((HB0.setCell (p := ⟨W.heap.size + 1, 0, none⟩) HM.2 (.string y)).setCell (p := ⟨W.heap.size + 1, 1, none⟩) HM.2 (.string z)).setCell (p := ⟨W.heap.size + 1, 2, none⟩) HM.2 (.string x))
      refine hK.out _ _ hSn (fun _ => ?_)
      clear hK K
      try simp only [Act.put, pz1, pz2, pz3]
      refine wpAnyH_done (by kernel_rfl) ?_ _
      go_wp2
      refine bodyPost_ret (results_cell_row rfl _ _ (W.heap.size + 1) 30 #[.string y, .string z, .string x] (0, 0) _ rfl HMn Tryz.underlying30 rfl (by kernel_rfl)) rfl ?_
      exact ⟨rfl, HBn⟩
    refine rdC (fun K hK => ?_) AllReadyH.nil
    ·
      go_simp
      have hb3 : Below d15.heap.size d15 (d15.alloc (.cells #[.string ⟨#[61]⟩, .string ⟨#[33, 61]⟩, .string ⟨#[61, 126]⟩, .string ⟨#[33, 126]⟩] 9)) := (Below.refl _ _).alloc (Nat.le_refl _) _
      obtain ⟨g6, hg6⟩ : ∃ g, d15.heap.size = g := ⟨_, rfl⟩
      have n0_ := tlit d15 ops8 g6 hg6.symm j hj
      rw [hz] at n0_
      (try simp only [ops8, List.map_cons, List.map_nil] at n0_)
      have lg6 : W.heap.size + 1 < g6 := by rw [← hg6]; exact HM.lt
      obtain ⟨d19, hwc⟩ : ∃ z, d15.alloc (.cells #[.string ⟨#[61]⟩, .string ⟨#[33, 61]⟩, .string ⟨#[61, 126]⟩, .string ⟨#[33, 126]⟩] 9) = z := ⟨_, rfl⟩
      rw [hwc] at hb3 n0_
      rw [hwc, hg6]
      clear hwc hg6
      have hSn : (fun w' => w'.cell? ⟨W.heap.size, 4, none⟩ = some (.int .u8 (k : Int)) ∧ True) d19 := ⟨cell_keep hb3 hS.1, trivial⟩
      refine hK.out _ _ hSn (fun _ => ?_)
      clear hK K
      try simp only [Act.put, pz1, pz2, pz3]
      have HB0_ := hop HB0 (Nat.le_refl _) hb3
      clear HB0
      have HB0 := HB0_
      clear HB0_
      have HM_ := HM.below_ hb3
      clear HM
      have HM := HM_
      clear HM_
      refine wpAnyH_grow (S' := fun w' => w'.cell? ⟨g6, j, none⟩ = some (.string z) ∧ w'.cell? ⟨W.heap.size, 4, none⟩ = some (.int .u8 (k : Int)) ∧ True) (fun _ h => h.2) ?_
      have hSm : (fun w' => w'.cell? ⟨g6, j, none⟩ = some (.string z) ∧ w'.cell? ⟨W.heap.size, 4, none⟩ = some (.int .u8 (k : Int)) ∧ True) d19 := ⟨n0_, hSn⟩
      clear hS hSn hb3 n0_
      have hS := hSm
      clear hSm
      refine tV 11 ?_; refine tH 12 ?_
      refine rdy [0] ?_
      refine rdC (fun K hK => ?_) AllReadyH.nil
      go_simp
      have hb3 : Below d19.heap.size d19 (d19.alloc (.cells #[.string ⟨#[97, 112, 112]⟩, .string ⟨#[101, 110, 118]⟩, .string ⟨#[108, 118, 108]⟩] 9)) := (Below.refl _ _).alloc (Nat.le_refl _) _
      obtain ⟨g0, hg0⟩ : ∃ g, d19.heap.size = g := ⟨_, rfl⟩
      have n0_ := tlit d19 nms8 g0 hg0.symm i hi
      rw [hy] at n0_
      (try simp only [nms8, List.map_cons, List.map_nil] at n0_)
      have lg0 : W.heap.size + 1 < g0 := by rw [← hg0]; exact HM.lt
      obtain ⟨d20, hwc⟩ : ∃ z, d19.alloc (.cells #[.string ⟨#[97, 112, 112]⟩, .string ⟨#[101, 110, 118]⟩, .string ⟨#[108, 118, 108]⟩] 9) = z := ⟨_, rfl⟩
      rw [hwc] at hb3 n0_
      rw [hwc, hg0]
      clear hwc hg0
      have hSn : (fun w' => w'.cell? ⟨g6, j, none⟩ = some (.string z) ∧ w'.cell? ⟨W.heap.size, 4, none⟩ = some (.int .u8 (k : Int)) ∧ True) d20 := ⟨cell_keep hb3 hS.1, cell_keep hb3 hS.2.1, trivial⟩
      refine hK.out _ _ hSn (fun _ => ?_)
      clear hK K
      try simp only [Act.put, pz1, pz2, pz3]
      have HB0_ := hop HB0 (Nat.le_refl _) hb3
      clear HB0
      have HB0 := HB0_
      clear HB0_
      have HM_ := HM.below_ hb3
      clear HM
      have HM := HM_
      clear HM_
      refine wpAnyH_grow (S' := fun w' => w'.cell? ⟨g0, i, none⟩ = some (.string y) ∧ w'.cell? ⟨g6, j, none⟩ = some (.string z) ∧ w'.cell? ⟨W.heap.size, 4, none⟩ = some (.int .u8 (k : Int)) ∧ True) (fun _ h => h.2) ?_
      have hSm : (fun w' => w'.cell? ⟨g0, i, none⟩ = some (.string y) ∧ w'.cell? ⟨g6, j, none⟩ = some (.string z) ∧ w'.cell? ⟨W.heap.size, 4, none⟩ = some (.int .u8 (k : Int)) ∧ True) d20 := ⟨n0_, hSn⟩
      clear hS hSn hb3 n0_
      have hS := hSm
      clear hSm
      refine tV 4 ?_; refine tH 5 ?_; refine tV 17 ?_
      refine rdy [18] ?_
      refine rdC (fun K hK => ?_) AllReadyH.nil
      have m0_ := HM.1.cell 0
      have f0_ := HM.1.frozen 0
      have m1_ := HM.1.cell 1
      have f1_ := HM.1.frozen 1
      have m2_ := HM.1.cell 2
      have f2_ := HM.1.frozen 2
      go_simp
      have hSn : (fun w' => w'.cell? ⟨g0, i, none⟩ = some (.string y) ∧ w'.cell? ⟨g6, j, none⟩ = some (.string z) ∧ w'.cell? ⟨W.heap.size, 4, none⟩ = some (.int .u8 (k : Int)) ∧ True) (((d20.setCell ⟨W.heap.size + 1, 0, none⟩ (.string y)).setCell ⟨W.heap.size + 1, 1, none⟩ (.string z)).setCell ⟨W.heap.size + 1, 2, none⟩ (.string x)) := ⟨(cell_far (cell_far (cell_far hS.1 (p := ⟨W.heap.size + 1, 0, none⟩) (by show W.heap.size + 1 ≠ g0; omega)) (p := ⟨W.heap.size + 1, 1, none⟩) (by show W.heap.size + 1 ≠ g0; omega)) (p := ⟨W.heap.size + 1, 2, none⟩) (by show W.heap.size + 1 ≠ g0; omega)), (cell_far (cell_far (cell_far hS.2.1 (p := ⟨W.heap.size + 1, 0, none⟩) (by show W.heap.size + 1 ≠ g6; omega)) (p := ⟨W.heap.size + 1, 1, none⟩) (by show W.heap.size + 1 ≠ g6; omega)) (p := ⟨W.heap.size + 1, 2, none⟩) (by show W.heap.size + 1 ≠ g6; omega)), (cell_far (cell_far (cell_far hS.2.2.1 (p := ⟨W.heap.size + 1, 0, none⟩) (by show W.heap.size + 1 ≠ W.heap.size; omega)) (p := ⟨W.heap.size + 1, 1, none⟩) (by show W.heap.size + 1 ≠ W.heap.size; omega)) (p := ⟨W.heap.size + 1, 2, none⟩) (by show W.heap.size + 1 ≠ W.heap.size; omega)), trivial⟩
      have HMn := (((HM.1.set_ 0 (.string y)).set_ 1 (.string z)).set_ 2 (.string x))
      have HBn := (((HB0.setCell (p := ⟨W.heap.size + 1, 0, none⟩) HM.2 (.string y)).setCell (p := ⟨W.heap.size + 1, 1, none⟩) HM.2 (.string z)).setCell (p := ⟨W.heap.size + 1, 2, none⟩) HM.2 (.string x))
      refine hK.out _ _ hSn (fun _ => ?_)
      clear hK K
      try simp only [Act.put, pz1, pz2, pz3]
      refine wpAnyH_done (by kernel_rfl) ?_ _
      go_wp2
      refine bodyPost_ret (results_cell_row rfl _ _ (W.heap.size + 1) 30 #[.string y, .string z, .string x] (0, 0) _ rfl HMn Tryz.underlying30 rfl (by kernel_rfl)) rfl ?_
      exact ⟨rfl, HBn⟩
theorem half_as (nm op v : ByteArray) (k : Nat) (W : World) :
    Calls Tryz.prog 14 #[.agg #[.string nm, .string op, .string v, .bool false, .int .u8 (k : Int)]] W fun r w' => r = .returned (.agg #[.string nm, .string op, .string v]) ∧ Below W.heap.size W w' := by
  go_enter Tryz.func14, Tryz.ntmps14
  go_wp2
  refine bodyPost_ret (results_cell_row rfl _ _ (W.heap.size + 1) 30 #[.string nm, .string op, .string v] (0, 0) _ rfl (blk_next W _ _ _) Tryz.underlying30 rfl (by kernel_rfl)) rfl ?_
  exact ⟨rfl, ((Below.refl _ _).alloc (Nat.le_refl _) _).alloc (by simp) _⟩
def halfF (m : MatB) (own : Bool) (k : Nat) : MatB := if own then ⟨nms8.getD (k % 3) .empty, ops8.getD (k / 3 % 4) .empty, valA (k / 12)⟩ else m
theorem half_any (m : MatB) (own : Bool) (k : Nat) (hk : k < 256) (W : World) :
    Calls Tryz.prog 14 #[.agg #[.string m.nm, .string m.op, .string m.v, .bool own, .int .u8 (k : Int)]] W fun r w' => r = .returned (.agg #[.string (halfF m own k).nm, .string (halfF m own k).op, .string (halfF m own k).v]) ∧ Below W.heap.size W w' := by
  cases own with
  | false => exact half_as m.nm m.op m.v k W
  | true => exact half_own m.nm m.op m.v k (k / 3) (k / 12) (k % 3) (k / 3 % 4) hk (by omega) (by omega) (by rw [Int.tmod_eq_emod_of_nonneg (by omega)]; omega) (by omega) (by rw [IntKind.wrap_u8]; omega) (by rw [Int.tmod_eq_emod_of_nonneg (by omega)]; omega) (by omega) (by rw [IntKind.wrap_u8]; omega) (by omega) W
end Go.Proofs.YtbkpoimaienhpaaGreatDoor
