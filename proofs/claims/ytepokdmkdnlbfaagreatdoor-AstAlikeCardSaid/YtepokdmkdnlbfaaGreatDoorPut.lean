-- shaken
import Derived.Test.YtepokdmkdnlbfaaGreatDoorRows
import Derived.Test.YtepokdmkdnlbfaaGreatDoorMem
import Derived.Deep.RegionLaw
import Derived.Deep.AppendLies
import Derived.Deep.QuietTactic
import Derived.BigQuiet
namespace Go.Proofs.YtepokdmkdnlbfaaGreatDoor
open Go.RowKit
set_option linter.unusedVariables false
set_option linter.unusedSimpArgs false
def rareB (b : UInt8) : Bool := decide ((126 : Int) < (b.toNat : Int)) || (decide ((b.toNat : Int) < 32) && (((b.toNat : Int) != 10) && ((b.toNat : Int) != 9)))
def digB (k : Nat) : UInt8 := if k < 10 then UInt8.ofNat (48 + k) else UInt8.ofNat (87 + k)
def formB (b : UInt8) : List UInt8 :=
  if b = 34 ∨ b = 92 then [92, b] else if b = 10 then [92, 110] else if b = 9 then [92, 116]
  else if rareB b = true then [92, 120, digB (b.toNat / 16), digB (b.toNat % 16)] else [b]
theorem formB_len (b : UInt8) : 1 ≤ (formB b).length ∧ (formB b).length ≤ 4 := by
  unfold formB
  split
  · simp
  · split
    · simp
    · split
      · simp
      · split <;> simp
set_option maxHeartbeats 400000 in
theorem rare_any (b : UInt8) (W : World) :
    Calls Tryz.prog 45 #[.int .u8 (b.toNat : Int)] W fun e w' => e = .returned (.bool (rareB b)) ∧ W = w' := by
  go_enter Tryz.func45, Tryz.ntmps45
  go_wp2
  all_goals
    go_ret
    refine ⟨ret_bool ?_, rfl⟩
    unfold rareB
    rw [Bool.eq_iff_iff]
    simp
    try omega
theorem dig_at (q : Nat) (h : q < 16) : (⟨#[48, 49, 50, 51, 52, 53, 54, 55, 56, 57, 97, 98, 99, 100, 101, 102]⟩ : ByteArray)[q]'(by exact h) = digB q := by
  have : ∀ q : Fin 16, (⟨#[48, 49, 50, 51, 52, 53, 54, 55, 56, 57, 97, 98, 99, 100, 101, 102]⟩ : ByteArray)[q.1]'(by exact q.2) = digB q.1 := by decide
  exact this ⟨q, h⟩
theorem infoU8 : (Tryz.prog.info? 5).map (fun i => (i.zero, i.size, i.bytes)) = some (some (.int .u8 0), 1, 1) := by kernel_rfl
set_option maxHeartbeats 800000 in
theorem appendByte_any (b : UInt8) (v : Value) (l : List UInt8) (B : Nat) (W : World) (hown : OwnB W B 5 v l) (hB : B ≤ W.heap.size) (hl : l.length ≤ 16777216) :
    Calls Tryz.prog 32 #[v, .int .u8 (b.toNat : Int)] W fun e w' => ∃ v', e = .returned v' ∧ OwnB w' B 5 v' (l ++ formB b) ∧ Below B W w' := by
  obtain ⟨i0, hi, hz0, hz1, hz2⟩ := info_parts infoU8
  have hb := b.toNat_lt
  have hB2 : B ≤ W.heap.size + 1 := by omega
  by_cases h1 : b = 34 ∨ b = 92
  · have e : formB b = [92, b] := by simp [formB, h1]
    rw [e]
    have hx : b.toNat = 34 ∨ b.toNat = 92 := by rcases h1 with rfl | rfl <;> simp
    have hx1 : (((b.toNat : Int)) == 34) = true ∨ (((b.toNat : Int)) == 34) = false ∧ (((b.toNat : Int)) == 92) = true := by
      rcases hx with h | h
      · left; rw [beq_iff_eq]; omega
      · right; exact ⟨by rw [beq_eq_false_iff_ne]; omega, by rw [beq_iff_eq]; omega⟩
    clear h1 hx
    rcases hx1 with g1 | ⟨g1, g2⟩
    all_goals
      go_enter Tryz.func32, Tryz.ntmps32
      go_wp2_with (at_builtin; refine wpList_append_own _ rfl (.tmp 12) (.tmp 14) 71 rfl B 5 i0 (.int .u8 0) 1 1 Tryz.underlying71 hi hz0 hz1 hz2 rfl (by decide) _ _ _ rfl (hown.alloc _) ⟨W.heap.size, 0, none⟩ 2 2 (bV [92, b]) rfl rfl (new_cells _ _ _) (bV_one _) (by unfold maxLen; omega) (by omega) (by simp; omega) ?_)
      intro v' w1 hown' hgrow _
      have hbel := ((Below.refl B W).alloc hB _).grown hgrow (by simp; omega) (fun r hr => (World.ownsRow.lt hown r hr).1)
      go_wp2
      go_ret
      exact ⟨_, rfl, OwnB.snoc hown', hbel⟩
  · have hx : ¬ b.toNat = 34 ∧ ¬ b.toNat = 92 := by
      refine ⟨fun h => h1 (.inl ?_), fun h => h1 (.inr ?_)⟩ <;> exact UInt8.toNat_inj.1 h
    have g1 : (((b.toNat : Int)) == 34) = false := by rw [beq_eq_false_iff_ne]; omega
    have g2 : (((b.toNat : Int)) == 92) = false := by rw [beq_eq_false_iff_ne]; omega
    by_cases h2 : b = 10
    · have e : formB b = [92, 110] := by subst h2; rfl
      rw [e]
      have g3 : (((b.toNat : Int)) == 10) = true := by subst h2; rfl
      clear h1 h2 hx
      go_enter Tryz.func32, Tryz.ntmps32
      go_wp2_with (at_builtin; refine wpList_append_own _ rfl (.tmp 19) (.tmp 20) 71 rfl B 5 i0 (.int .u8 0) 1 1 Tryz.underlying71 hi hz0 hz1 hz2 rfl (by decide) _ _ _ rfl (hown.alloc _) ⟨W.heap.size, 0, none⟩ 2 2 (bV [92, 110]) rfl rfl (new_cells _ _ _) (bV_one _) (by unfold maxLen; omega) (by omega) (by simp; omega) ?_)
      intro v' w1 hown' hgrow _
      have hbel := ((Below.refl B W).alloc hB _).grown hgrow (by simp; omega) (fun r hr => (World.ownsRow.lt hown r hr).1)
      go_wp2
      go_ret
      exact ⟨_, rfl, OwnB.snoc hown', hbel⟩
    · have g3 : (((b.toNat : Int)) == 10) = false := by rw [beq_eq_false_iff_ne]; intro h; exact h2 (UInt8.toNat_inj.1 (by simp; omega))
      by_cases h3 : b = 9
      · have e : formB b = [92, 116] := by subst h3; rfl
        rw [e]
        have g4 : (((b.toNat : Int)) == 9) = true := by subst h3; rfl
        clear h1 h2 h3 hx
        go_enter Tryz.func32, Tryz.ntmps32
        go_wp2_with (at_builtin; refine wpList_append_own _ rfl (.tmp 25) (.tmp 26) 71 rfl B 5 i0 (.int .u8 0) 1 1 Tryz.underlying71 hi hz0 hz1 hz2 rfl (by decide) _ _ _ rfl (hown.alloc _) ⟨W.heap.size, 0, none⟩ 2 2 (bV [92, 116]) rfl rfl (new_cells _ _ _) (bV_one _) (by unfold maxLen; omega) (by omega) (by simp; omega) ?_)
        intro v' w1 hown' hgrow _
        have hbel := ((Below.refl B W).alloc hB _).grown hgrow (by simp; omega) (fun r hr => (World.ownsRow.lt hown r hr).1)
        go_wp2
        go_ret
        exact ⟨_, rfl, OwnB.snoc hown', hbel⟩
      · have g4 : (((b.toNat : Int)) == 9) = false := by rw [beq_eq_false_iff_ne]; intro h; exact h3 (UInt8.toNat_inj.1 (by simp; omega))
        by_cases h4 : rareB b = true
        · have e : formB b = [92, 120, digB (b.toNat / 16), digB (b.toNat % 16)] := by simp [formB, h1, h2, h3, h4]
          rw [e]
          obtain ⟨q, hq⟩ : ∃ q, q = b.toNat / 16 := ⟨_, rfl⟩
          obtain ⟨r, hr⟩ : ∃ r, r = b.toNat % 16 := ⟨_, rfl⟩
          have hq16 : q < 16 := by omega
          have hr16 : r < 16 := by omega
          have hq1 : IntKind.u8.wrap ((b.toNat : Int) / 16) = (q : Int) := by rw [IntKind.wrap_u8]; omega
          have hr1 : (b.toNat : Int).tmod 16 = (r : Int) := by rw [Int.tmod_eq_emod_of_nonneg (by omega)]; omega
          have hq16' : (q : Int) < 16 := by omega
          have hr16' : (r : Int) < 16 := by omega
          have hd1 := dig_at q hq16
          have hd2 := dig_at r hr16
          rw [← hq, ← hr]
          clear h1 h2 h3 hx hq hr
          go_enter Tryz.func32, Tryz.ntmps32
          go_wp2_with (go_at_call 45; refine (rare_any b _).mono ?_; rintro e w' ⟨rfl, rfl⟩)
          go_region_law (first | (refine step_append_lies _ rfl (.tmp 31) (.tmp 38) 71 rfl B 5 i0 (.int .u8 0) 1 1 Tryz.underlying71 hi hz0 hz1 hz2 rfl (by decide) _ _ _ rfl (hown.alloc _) ⟨W.heap.size, 0, none⟩ 4 4 (bV [92, 120, digB q, digB r]) rfl rfl (new_cells _ _ _) (bV_one _) (by omega) (by unfold maxLen; omega) (by omega) (by simp; omega) _ rfl ?_; intro g cap w1 hown' hgrow hg hlt))
          all_goals
            have hbel := (((Below.refl B W).alloc hB _).drew).grown hgrow (by simp; omega) (fun r hr => (World.ownsRow.lt hown r hr).1)
            go_wp2
            go_ret
            exact ⟨_, rfl, OwnB.snoc hown', hbel⟩
        · have e : formB b = [b] := by simp [formB, h1, h2, h3, h4]
          rw [e]
          have h5 : rareB b = false := by simpa using h4
          clear h1 h2 h3 h4 hx
          go_enter Tryz.func32, Tryz.ntmps32
          go_wp2_with (first | (go_at_call 45; refine (rare_any b _).mono ?_; rintro e w' ⟨rfl, rfl⟩) | (at_builtin; refine wpList_append_own _ rfl (.tmp 40) (.tmp 42) 71 rfl B 5 i0 (.int .u8 0) 1 1 Tryz.underlying71 hi hz0 hz1 hz2 rfl (by decide) _ _ _ rfl (hown.alloc _) ⟨W.heap.size, 0, none⟩ 1 1 (bV [b]) rfl rfl (new_cells _ _ _) (bV_one _) (by unfold maxLen; omega) (by omega) (by simp; omega) ?_))
          intro v' w1 hown' hgrow _
          have hbel := ((Below.refl B W).alloc hB _).grown hgrow (by simp; omega) (fun r hr => (World.ownsRow.lt hown r hr).1)
          go_wp2
          go_ret
          exact ⟨_, rfl, OwnB.snoc hown', hbel⟩
def putB (l : List UInt8) : List UInt8 := 34 :: (l.flatMap formB ++ [34])
theorem flat_len (l : List UInt8) : l.length ≤ (l.flatMap formB).length ∧ (l.flatMap formB).length ≤ 4 * l.length := by
  induction l with
  | nil => simp
  | cons b l ih =>
    have := formB_len b
    simp only [List.flatMap_cons, List.length_append, List.length_cons]
    omega
theorem take_flat (s : ByteArray) (k : Nat) (h : k < s.size) : (s.data.toList.take (k + 1)).flatMap formB = (s.data.toList.take k).flatMap formB ++ formB s[k] := by
  rw [List.take_succ_eq_append_getElem (by simpa using h), List.flatMap_append]
  simp
  rfl
theorem made_own {w : World} (n : Nat) (e : Nat) (B : Nat) (hB : B ≤ w.heap.size) (hn : n ≤ 16777216) : OwnB (w.alloc (.cells (madeCells #[.int .u8 0] n) e)) B e (.slice (some ⟨w.heap.size, 0, none⟩) 0 n) [] :=
  World.ownsRow_made w _ n hB (by unfold maxLen; omega) (by simp [madeCells])
set_option maxHeartbeats 800000 in
theorem put_any (s : ByteArray) (hs : s.size ≤ 4000000) (W : World) :
    Calls Tryz.prog 22 #[.string s] W fun e w' => e = .returned (.string ⟨(putB s.data.toList).toArray⟩) ∧ Below W.heap.size W w' := by
  obtain ⟨i0, hi, hz0, hz1, hz2⟩ := info_parts infoU8
  have hmk : ∀ u : World, (Instr.makeSlice 71 (.int .i64 0) (.int .i64 ((s.size : Int) + 2))).run Tryz.prog u =
      .ok (.slice (some ⟨u.heap.size, 0, none⟩) 0 (s.size + 2)) (u.alloc (.cells (madeCells #[.int .u8 0] (s.size + 2)) 5)) := fun u => by
    have h := run_make (P := Tryz.prog) u 71 5 i0 (.int .u8 0) Tryz.underlying71 hi hz0 .i64 .i64 0 ((s.size + 2 : Nat) : Int) (by omega) (by omega) (by rw [hz2]; omega) (by omega)
    rw [Int.toNat_natCast] at h
    simpa [hz1, Value.cells] using h
  go_enter Tryz.func22, Tryz.ntmps22
  go_wp2_with (at_builtin; refine wpList_append_own _ rfl (.tmp 9) (.tmp 10) 71 rfl W.heap.size 5 i0 (.int .u8 0) 1 1 Tryz.underlying71 hi hz0 hz1 hz2 rfl (by decide) _ _ _ rfl ((made_own (w := W) (s.size + 2) 5 W.heap.size (Nat.le_refl _) (by omega)).alloc _) ⟨W.heap.size + 1, 0, none⟩ 1 1 (bV [34]) rfl rfl (new_cells_at _ _ _ _ (by simp)) (bV_one _) (by simp [maxLen]) (by simp) (by simp; omega) ?_)
  intro v1 w1 hown1 hgrow1 _
  have hown1' : OwnB w1 W.heap.size 5 v1 (34 :: (s.data.toList.take 0).flatMap formB) := OwnB.snoc (l := []) (m := [34]) hown1
  have hbel1 := (((Below.refl W.heap.size W).alloc (Nat.le_refl _) _).alloc (by simp) _).grown hgrow1 (by simp; omega) (fun r hr => by simp [Value.ownBlock] at hr; omega)
  clear hown1 hgrow1 hmk
  go_wp2
  go_loopw [3, 14] (fun v i wr => ∃ k : Nat, k ≤ s.size ∧ i = .int .i64 k ∧ OwnB wr W.heap.size 5 v (34 :: (s.data.toList.take k).flatMap formB) ∧ Below W.heap.size W wr) (fun _ i _ => s.size - (intOf i).toNat)
  case atStart => exact ⟨0, Nat.zero_le _, rfl, hown1', hbel1⟩
  case round =>
    obtain ⟨k, hk, rfl, hown, hbel⟩ := hrel
    have hfl := (flat_len (s.data.toList.take k)).2
    have htk : (s.data.toList.take k).length ≤ s.size := by rw [List.length_take]; simp; omega
    have hle : (34 :: (s.data.toList.take k).flatMap formB).length ≤ 16777216 := by rw [List.length_cons]; omega
    by_cases hkn : k < s.size
    · have HE := Lib.hid (take_flat s k hkn)
      go_wp2_with (go_at_call 32; refine (appendByte_any s[k] _ _ W.heap.size _ hown hbel.size hle).mono ?_; rintro e w2 ⟨v2, rfl, hown2, hbel2⟩)
      go_roundw
      case rel => exact ⟨k + 1, by omega, by go_num, by rw [HE.out, ← List.cons_append]; exact hown2, hbel.trans hbel2⟩
      case measure => simp [intOf]; omega
    · obtain rfl : k = s.size := by omega
      have hsz := hbel.size
      rw [List.take_of_length_le (by simp)] at hown hle
      obtain ⟨L, hL⟩ : ∃ L, L = 34 :: s.data.toList.flatMap formB := ⟨_, rfl⟩
      rw [← hL] at hown hle
      have HL := Lib.hid hL
      clear hL
      go_wp2_with (at_builtin; refine wpList_append_own _ rfl (.tmp 23) (.tmp 24) 71 rfl W.heap.size 5 i0 (.int .u8 0) 1 1 Tryz.underlying71 hi hz0 hz1 hz2 rfl (by decide) _ _ _ rfl (hown.alloc _) ⟨wr.heap.size, 0, none⟩ 1 1 (bV [34]) rfl rfl (new_cells _ _ _) (bV_one _) (by unfold maxLen; omega) (by omega) (by simp; omega) ?_)
      intro v3 w3 hown3 hgrow3 _
      have hbel3 := (hbel.alloc hbel.size _).grown hgrow3 (by simp; omega) (fun r hr => (World.ownsRow.lt hown r hr).1)
      have hconv := own_text (P := Tryz.prog) (src := 71) (dst := 9) (OwnB.snoc hown3) Tryz.underlying71 Tryz.underlying5 Tryz.underlying9
      clear hown3 hgrow3
      go_wp2
      go_ret
      exact ⟨by rw [HL.out]; rfl, hbel3⟩
end Go.Proofs.YtepokdmkdnlbfaaGreatDoor
