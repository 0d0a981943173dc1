-- shaken
import Derived.Test.YtbkpoimaienhpaaGreatDoorScan
import Derived.Deep.RegionHeld3
import Derived.Test.YtbkpoimaienhpaaGreatDoorNumText
namespace Go.Proofs.YtbkpoimaienhpaaGreatDoor
open Go.RowKit
set_option linter.unusedVariables false
set_option linter.unusedSimpArgs false
def minus : ByteArray := ⟨#[45]⟩
def numEnd (t : ByteArray) (k : Nat) : Nat := runTo (goodK [0]) t (takeTo t k [minus])
def numTo (t : ByteArray) (k : Nat) : Nat := if (parseZ (t.extract k (numEnd t k))).isSome then numEnd t k else k
def numR (t : ByteArray) (k : Nat) : Option Int := parseZ (t.extract k (numEnd t k))
set_option maxRecDepth 100000 in
set_option maxHeartbeats 1600000 in
theorem number_any (b : Nat) (ty : TypeId) (cs : Array Value) (t : ByteArray) (k : Nat) (W : World) (hR : Rd W b ty cs t k) (hl : LibIs W) (hB : ∀ w, W.grownBy w (some b) → LibIs w) (hs : t.size ≤ 281474976710656) :
    Calls Tryz.prog 152 #[.pointer (some ⟨b, 0, none⟩)] W fun e w' => e = .returned (.tuple #[.int .i64 ((numR t k).getD 0), .bool (numR t k).isSome]) ∧ Rd w' b ty (cs.setIfInBounds 1 (.int .i64 (numTo t k : Nat))) t (numTo t k) ∧ W.grownBy w' (some b) := by
  have hkt := hR.le
  have hlt := hR.lt
  have c1 := hR.pos
  have HR := Lib.hid hR
  have HT := Lib.hid (take_any b ty cs t k (some ⟨W.heap.size, 0, none⟩) 1 1 [minus] (by decide) (by intro s hs; rw [List.mem_singleton.1 hs]; decide) (W.alloc (.cells #[.string ⟨#[45]⟩] 9)) (hR.alloc _) ⟨rfl, fun _ => ⟨_, 0, rfl, by simp, fun j hj => by
    obtain rfl : j = 0 := by omega
    rw [(Blk.new W _ #[.string ⟨#[45]⟩]).cell 0]; rfl⟩⟩ (by intro a h; injection h with h; rw [← h]; show W.heap.size ≠ b; omega))
  clear hR
  go_enter Tryz.func152, Tryz.ntmps152
  go_wp2_with fail
  refine HT.out.mono ?_
  rintro e w1 ⟨rfl, hR1, hg1⟩
  obtain ⟨k1, hk1⟩ : ∃ j, j = takeTo t k [minus] := ⟨_, rfl⟩
  rw [← hk1] at hR1
  obtain ⟨cs1, hcs1⟩ : ∃ c, c = cs.setIfInBounds 1 (.int .i64 (k1 : Nat)) := ⟨_, rfl⟩
  rw [← hcs1] at hR1
  have hk1t := hR1.le
  have hg1' : W.grownBy w1 (some b) := World.grownBy.trans (World.grownBy_alloc _ _ _) hg1
  have HRUN := Lib.hid (run_any b ty cs1 t k1 (some ⟨w1.heap.size, 0, none⟩) 1 1 [0] (by decide) (w1.alloc (.cells #[.int .i64 0] 119)) (hR1.alloc _) (ints_lit w1 119 [0] (by decide) _ rfl) (by intro a h; injection h with h; rw [← h]; show w1.heap.size ≠ b; have := hR1.lt; omega))
  have HR1 := Lib.hid hR1
  have HK1 := Lib.hid hk1
  have HCS1 := Lib.hid hcs1
  clear hR1 hg1 hk1 hcs1 HT
  go_wp2_with fail
  refine HRUN.out.mono ?_
  rintro e w2 ⟨rfl, hR2, hg2⟩
  have hg2' : W.grownBy w2 (some b) := World.grownBy.trans hg1' (World.grownBy.trans (World.grownBy_alloc _ _ _) hg2)
  have hen : runTo (goodK [0]) t k1 = numEnd t k := by rw [HK1.out]; rfl
  rw [hen] at hR2
  have hk1k : k ≤ k1 := by rw [HK1.out]; unfold takeTo; omega
  have hle : k ≤ numEnd t k := by rw [← hen]; unfold runTo; omega
  obtain ⟨m, hm⟩ : ∃ m, numEnd t k = m := ⟨_, rfl⟩
  rw [hm] at hR2 hle
  have c0 := hR2.text
  have c2 := hR2.pos
  have f2 := hR2.blk.frozen 1
  have hmt := hR2.le
  have hmt' : (m : Int) ≤ (t.size : Int) := by omega
  have hle' : (k : Int) ≤ (m : Int) := by omega
  have PA := Lib.hid (fun w (h : LibIs w) => parse_any (t.extract k m) (by rw [ByteArray.size_extract]; omega) w h)
  have LW := Lib.hid (hB w2 hg2')
  obtain ⟨z, hz⟩ : ∃ z, parseZ (t.extract k m) = z := ⟨_, rfl⟩
  have hnr : numR t k = z := by unfold numR; rw [hm, hz]
  have hnt : numTo t k = if z.isSome then m else k := by unfold numTo; rw [hm, hz]
  have HNT := Lib.hid hnt
  rw [hz] at PA
  have HR2 := Lib.hid hR2
  have HG2 := Lib.hid hg2'
  have HNR := Lib.hid hnr
  have HM := Lib.hid hm
  clear hR2 hg2 hg2' hg1' hen hm hz hnr hnt HRUN hle hk1k
  have hbl : b < w2.heap.size := HR2.out.lt
  have hcs : cs1.setIfInBounds 1 (.int .i64 (m : Nat)) = cs.setIfInBounds 1 (.int .i64 (m : Nat)) := by rw [HCS1.out, set_twice]
  have HCS := Lib.hid hcs
  clear hcs
  cases z with
  | some v =>
    go_wp2
    go_region_held3 (fun w' => w'.cell? ⟨b, 0, none⟩ = some (.string t) ∧ w'.cell? ⟨b, 1, none⟩ = some (.int .i64 (m : Int))) (first | go_keep | (rw [hb3.cell (by simp; omega), hb3.cell (by simp; omega)]; exact ⟨c0, c2⟩))
      (first | (go_at_call 156; refine (PA.out _ ?_).mono ?_; exact LW.out.drewN _; rintro e w3 ⟨rfl, hb3⟩))
    go_wp2
    go_ret2
    have hj : numTo t k = m := by rw [HNT.out]; rfl
    refine ⟨by rw [HNR.out]; rfl, ?_, World.grownBy.trans HG2.out (grown_of_below (grown_of_drew hb3) _)⟩
    rw [hj, ← HCS.out]
    exact (HR2.out.drewN 1).below hb3 (by simpa using hbl)
  | none =>
    go_wp2
    go_region_held3 (fun w' => w'.cell? ⟨b, 0, none⟩ = some (.string t) ∧ w'.cell? ⟨b, 1, none⟩ = some (.int .i64 (m : Int))) (first | go_keep | (rw [hb3.cell (by simp; omega), hb3.cell (by simp; omega)]; exact ⟨c0, c2⟩))
      (first | (go_at_call 156; refine (PA.out _ ?_).mono ?_; exact LW.out.drewN _; rintro e w3 ⟨rfl, hb3⟩))
    have hR3 := (HR2.out.drewN 1).below hb3 (by simpa using hbl)
    have c3 := hR3.pos
    have f3 := hR3.blk.frozen 1
    have HR3 := Lib.hid hR3
    clear hR3
    go_wp2
    go_ret2
    have hj : numTo t k = k := by rw [HNT.out]; rfl
    refine ⟨by rw [HNR.out]; rfl, ?_, World.grownBy.trans (World.grownBy.trans HG2.out (grown_of_below (grown_of_drew hb3) _)) (grown_pos _ 0 b _)⟩
    have h := HR3.out.toI (j := k) (z := (k : Int)) rfl hkt
    rw [HCS.out, set_twice] at h
    rw [hj]
    exact h
set_option maxHeartbeats 800000 in
theorem next_end (b : Nat) (ty : TypeId) (cs : Array Value) (t : ByteArray) (W : World) (h : Rd W b ty cs t t.size) :
    Calls Tryz.prog 125 #[.pointer (some ⟨b, 0, none⟩)] W fun e w' => e = .returned (.tuple #[.int .u8 0, .bool false]) ∧ ∃ q, w' = W.drewN q := by
  have PK := Lib.hid (peek_end b ty cs t W h)
  clear h
  go_enter Tryz.func125, Tryz.ntmps125
  go_wp2_with fail
  refine PK.out.mono ?_
  rintro e w ⟨rfl, q, rfl⟩
  go_wp2
  go_ret2
  exact ⟨rfl, _, rfl⟩
set_option maxHeartbeats 800000 in
theorem next_more (b : Nat) (ty : TypeId) (cs : Array Value) (t : ByteArray) (k : Nat) (hk : k < t.size) (c : UInt8) (hc : t[k] = c) (W : World) (h : Rd W b ty cs t k) :
    Calls Tryz.prog 125 #[.pointer (some ⟨b, 0, none⟩)] W fun e w' => e = .returned (.tuple #[.int .u8 (c.toNat : Int), .bool true]) ∧ Rd w' b ty (cs.setIfInBounds 1 (.int .i64 ((k + 1 : Nat) : Int))) t (k + 1) ∧ W.grownBy w' (some b) := by
  have PK := Lib.hid (peek_more b ty cs t k hk c hc W h)
  have HR := Lib.hid h
  have hsz := h.sz
  have hw : IntKind.i64.wrap ((k : Int) + 1) = ((k + 1 : Nat) : Int) := by rw [IntKind.wrap_i64]; omega
  clear h
  go_enter Tryz.func125, Tryz.ntmps125
  go_wp2_with fail
  refine PK.out.mono ?_
  rintro e w ⟨rfl, q, rfl⟩
  have R1 := HR.out.drewN q
  have c1 := R1.pos
  have f1 := R1.blk.frozen 1
  have R2 := Lib.hid (R1.to (j := k + 1) (by omega))
  clear R1 hc PK
  go_wp2
  go_ret2
  refine ⟨rfl, by first | exact R2.out | (have := R2.out; push_cast at this ⊢; exact this), ⟨rfl, rfl, rfl, by simp, fun i hi hne => Below.heap_setCell _ ⟨b, 1, none⟩ _ i (fun e => hne (by rw [e]))⟩⟩
end Go.Proofs.YtbkpoimaienhpaaGreatDoor
