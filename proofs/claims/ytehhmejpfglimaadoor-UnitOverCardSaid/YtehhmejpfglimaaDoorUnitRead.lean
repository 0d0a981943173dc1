/- Durations and sizes that are read. -/
import Derived.Test.YtehhmejpfglimaaDoorUnitPart
namespace Go.Proofs.YtehhmejpfglimaaDoor
open Go.RowKit
set_option linter.unusedVariables false

theorem siz_part (s : ByteArray) : sizZ s.data.toList = (partP sizU s 0).bind fun x => if x.2.2 = s.size then some x.1 else none := by
  unfold sizZ partP
  rw [List.drop_zero]
  cases partS sizU s.data.toList with
  | none => rfl
  | some x =>
    simp only [Option.bind_some, size_toList]
    cases timesO x.1 (manyU sizU x.2.1) with
    | none => simp
    | some m => simp

set_option maxRecDepth 100000 in
set_option maxHeartbeats 1600000 in
theorem sizRead_any (g : Nat) (s : ByteArray) (hs : s.size ≤ 281474976710656) (W : World) (hI : UnitsIs W g sizU) (hl : LibIs W) :
    Calls Tryd.prog 30 #[.agg #[.slice (some ⟨g, 0, none⟩) 4 4], .string s] W fun e w' => e = .returned (.tuple #[.int .i64 ((sizZ s.data.toList).getD 0), .bool (sizZ s.data.toList).isSome]) ∧ Below W.heap.size W w' := by
  have HOF := Lib.hid (fun w => of_any s w)
  have HI := Lib.hid hI
  have HSZ := Lib.hid (siz_part s)
  obtain ⟨z, hz⟩ : ∃ z, sizZ s.data.toList = z := ⟨_, rfl⟩
  rw [hz] at HSZ
  rw [hz]
  have hgl := hI.1
  clear hI hz
  go_enter Tryd.func30, Tryd.ntmps30
  go_wp2_with fail
  refine (HOF.out _).mono ?_
  rintro e w1 ⟨rfl, hb1⟩
  have hbx : w1.cell? ⟨W.heap.size, 0, none⟩ = some (.slice (some ⟨g, 0, none⟩) 4 4) := by
    rw [hb1.cell (p := ⟨W.heap.size, 0, none⟩) (by simp)]
    rw [(Blk.new W 53 #[.slice (some ⟨g, 0, none⟩) 4 4]).cell 0]
    rfl
  have hb0 : Below W.heap.size W w1 := hop_new (Below.refl _ _) (Nat.le_refl _) hb1
  have hsz := hb1.size
  have hlt1 : W.heap.size < w1.heap.size := block_lt_of_cell hbx
  have hR := (show Rd (w1.alloc (.cells #[.string s, .int .i64 0] 62)) w1.heap.size 62 #[.string s, .int .i64 0] s 0 from ⟨Blk.new w1 _ _, rfl, rfl, Nat.zero_le _, by omega⟩)
  have hbb : Below W.heap.size W (w1.alloc (.cells #[.string s, .int .i64 0] 62)) := hb0.alloc (by omega) _
  have hI2 := HI.out.below hbb
  have hFIN := Lib.hid (fun w (h : (w1.alloc (.cells #[.string s, .int .i64 0] 62)).grownBy w (some w1.heap.size)) => (hbb.grown h (by simp; omega) (fun r hr => by cases hr; omega) : Below W.heap.size W w))
  have PT := Lib.hid (part_any g 4 sizU rfl (by decide) (by decide) (by decide) w1.heap.size 62 #[.string s, .int .i64 0] s 0 _ hR hI2 (by omega) (fun w h => hl.below (hFIN.out w h)) hs)
  clear hb1 hR hbb hI2
  obtain ⟨y, hy⟩ : ∃ y, partP sizU s 0 = y := ⟨_, rfl⟩
  rw [hy] at PT HSZ
  clear hy
  go_wp2_with fail
  refine PT.out.mono ?_
  rintro e w3 ⟨h1, h2, hg3⟩
  have hb3 := hFIN.out w3 hg3
  cases y with
  | none =>
    obtain ⟨a, p, rfl⟩ := h2.out rfl
    have E := Lib.hid (show z = none from HSZ.out)
    clear h1 h2
    go_wp2
    go_ret2
    exact ⟨ret_num (by rw [E.out]; rfl) (by rw [E.out]; rfl), hb3⟩
  | some x =>
    obtain ⟨rfl, hR3⟩ := h1.out x rfl
    obtain ⟨m, i, d⟩ := x
    dsimp only at hR3
    have hzv := HSZ.out
    simp only [Option.bind_some] at hzv
    have DN := Lib.hid (done_any _ _ _ _ _ w3 hR3)
    obtain ⟨v, hv⟩ : ∃ v, (((0 + d : Nat) : Int) == (s.size : Int)) = v := ⟨_, rfl⟩
    rw [hv] at DN
    have hvz : (v = true → z = some m) ∧ (v = false → z = none) := by
      constructor
      · intro h; rw [hzv, if_pos]; rw [h, beq_iff_eq] at hv; omega
      · intro h; rw [hzv, if_neg]; rw [h, beq_eq_false_iff_ne] at hv; omega
    have VZ := Lib.hid hvz
    clear h1 h2 hzv hv hvz hR3
    cases v with
    | true =>
      have E := Lib.hid (VZ.out.1 rfl)
      go_wp2_with fail
      refine DN.out.mono ?_
      rintro e w4 ⟨rfl, q, rfl⟩
      go_wp2
      go_ret2
      exact ⟨ret_num (by rw [E.out]; rfl) (by rw [E.out]; rfl), below_drewN hb3 q⟩
    | false =>
      have E := Lib.hid (VZ.out.2 rfl)
      go_wp2_with fail
      refine DN.out.mono ?_
      rintro e w4 ⟨rfl, q, rfl⟩
      go_wp2
      go_ret2
      exact ⟨ret_num (by rw [E.out]; rfl) (by rw [E.out]; rfl), below_drewN hb3 q⟩
theorem bytes_any (s : ByteArray) (hs : s.size ≤ 281474976710656) (W : World) (hl : LibIs W) :
    Calls Tryd.prog 14 #[.string s] W fun e w' => e = .returned (.tuple #[.int .i64 ((sizZ s.data.toList).getD 0), .bool (sizZ s.data.toList).isSome]) ∧ Below W.heap.size W w' := by
  have HN := Lib.hid (newSizes_any W)
  have HR := Lib.hid (fun g w h1 h2 => sizRead_any g s hs w h1 h2)
  obtain ⟨z, hz⟩ : ∃ z, sizZ s.data.toList = z := ⟨_, rfl⟩
  rw [hz] at HR
  rw [hz]
  clear hz
  go_enter Tryd.func14, Tryd.ntmps14
  go_wp2_with fail
  refine HN.out.mono ?_
  rintro e w1 ⟨⟨g, rfl, hI, hg⟩, hb⟩
  go_wp2_with fail
  refine (HR.out _ _ hI (hl.below hb)).mono ?_
  rintro e w2 ⟨rfl, hb2⟩
  replace hb := hop hb (Nat.le_refl _) hb2
  clear hb2 hI
  go_wp2
  go_ret2
  exact ⟨rfl, hb⟩
end Go.Proofs.YtehhmejpfglimaaDoor
