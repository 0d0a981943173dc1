/- Durations that are read. -/
import Derived.Test.YtehhmejpfglimaaDoorUnitRead
namespace Go.Proofs.YtehhmejpfglimaaDoor
open Go.RowKit
set_option linter.unusedVariables false

theorem sum_two0 (a b : Int) (a0 : -9223372036854775808 ≤ a) (a1 : a ≤ 9223372036854775807) : sumR [a, b] = stepR (· + ·) (some a) b := by
  simp only [sumR, List.foldl_cons, List.foldl_nil, stepR, Option.bind_some, Int.zero_add]
  rw [if_pos ⟨a0, a1⟩]
  rfl
theorem add_pair (w : World) (gg : Nat) (hg : gg = w.heap.size) (t : TypeId) (a b : Int) (wa : (Lit.int .i64 a).wf = true) (wb : (Lit.int .i64 b).wf = true) :
    Calls Tryd.prog 39 #[.slice (some ⟨gg, 0, none⟩) 2 2] (w.alloc (.cells #[.int .i64 a, .int .i64 b] t)) fun e w' => e = .returned (.tuple #[.int .i64 ((stepR (· + ·) (some a) b).getD 0), .bool (stepR (· + ·) (some a) b).isSome]) ∧ Below (w.alloc (.cells #[.int .i64 a, .int .i64 b] t)).heap.size (w.alloc (.cells #[.int .i64 a, .int .i64 b] t)) w' := by
  have h := same_below (add_any (some ⟨gg, 0, none⟩) 2 2 [a, b] (by decide) _ (ints_lit w t [a, b] (by simp [wa, wb]) gg hg))
  rw [sum_two0 a b (bdi64 wa).1 (bdi64 wa).2] at h
  exact h
theorem wf64 {a : Int} (h : -9223372036854775808 ≤ a ∧ a ≤ 9223372036854775807) : (Lit.int .i64 a).wf = true := by
  simp [Lit.wf, IntKind.min, IntKind.max, IntKind.signed, IntKind.bits]; omega
theorem partS_pos {U : List (List UInt8 × Int)} {l : List UInt8} {x : Int × Nat × Nat} (h : partS U l = some x) : 1 ≤ x.2.2 := by
  unfold partS at h
  cases hp : parseZ (txt (l.takeWhile digC)) with
  | none => rw [hp] at h; cases h
  | some n =>
    simp only [hp, Option.bind_some, Option.map_eq_some_iff] at h
    obtain ⟨i, _, rfl⟩ := h
    have : l.takeWhile digC ≠ [] := fun e => by rw [e, parse_nil] at hp; cases hp
    have := List.length_pos_iff.2 this
    show 1 ≤ (l.takeWhile digC).length + _
    omega
/-- the last unit's place, and whether one was read -/
theorem durS_step {f : Nat} {l : List UInt8} {sum last : Int} (hl : l ≠ []) {y : Option (Int × Nat × Nat)} (hy : ((partS durU l).bind fun x => (timesO x.1 (manyU durU x.2.1)).map fun m => (m, x.2.1, x.2.2)) = y) :
    durS (partS durU) (f + 1) l sum last = y.bind fun x => if (x.2.1 : Int) ≤ last then none else (stepR (· + ·) (some sum) x.1).bind fun s => durS (partS durU) f (l.drop x.2.2) s x.2.1 := by
  subst hy
  conv => lhs; unfold durS
  rw [if_neg hl]
  cases partS durU l with
  | none => rfl
  | some x =>
    simp only [Option.bind_some]
    cases timesO x.1 (manyU durU x.2.1) with
    | none => simp
    | some m => simp

theorem partP_facts {U : List (List UInt8 × Int)} {t : ByteArray} {k : Nat} {x : Int × Nat × Nat} (h : partP U t k = some x) : (-9223372036854775808 ≤ x.1 ∧ x.1 ≤ 9223372036854775807) ∧ x.2.1 < U.length ∧ 1 ≤ x.2.2 := by
  unfold partP at h
  cases hp : partS U (t.data.toList.drop k) with
  | none => rw [hp] at h; cases h
  | some y =>
    have hpos := partS_pos hp
    rw [hp, Option.bind_some] at h
    cases ho : timesO y.1 (manyU U y.2.1) with
    | none => rw [ho] at h; cases h
    | some m =>
      rw [ho, Option.map_some] at h
      injection h with h
      subst h
      refine ⟨step_range ho, ?_, hpos⟩
      unfold partS at hp
      cases hz : parseZ (txt ((t.data.toList.drop k).takeWhile digC)) with
      | none => rw [hz] at hp; cases hp
      | some n =>
        simp only [hz, Option.bind_some, Option.map_eq_some_iff] at hp
        obtain ⟨i, hi, rfl⟩ := hp
        unfold placeU at hi
        rw [List.findIdx?_eq_some_iff_getElem] at hi
        exact hi.1

set_option maxRecDepth 100000 in
set_option maxHeartbeats 3200000 in
theorem durRead_any (g : Nat) (s : ByteArray) (hs : s.size ≤ 281474976710656) (W : World) (hI : UnitsIs W g durU) (hl : LibIs W) :
    Calls Tryd.prog 24 #[.agg #[.slice (some ⟨g, 0, none⟩) 6 6], .string s] W fun e w' => e = .returned (.tuple #[.int .i64 ((durZ s.data.toList).getD 0), .bool (durZ s.data.toList).isSome]) ∧ Below W.heap.size W w' := by
  have HOF := Lib.hid (fun w => of_any s w)
  have HI := Lib.hid hI
  obtain ⟨T, hT⟩ : ∃ x, durS (partS durU) (s.data.toList.length + 1) s.data.toList 0 (-1) = x := ⟨_, rfl⟩
  have hz : durZ s.data.toList = if s.data.toList = [] then none else T := by unfold durZ; rw [hT]
  obtain ⟨z, hzz⟩ : ∃ z, durZ s.data.toList = z := ⟨_, rfl⟩
  rw [hzz] at hz
  rw [hzz]
  have HZ := Lib.hid hz
  have HT := Lib.hid hT
  have hgl := hI.1
  clear hI hz hzz hT
  go_enter Tryd.func24, Tryd.ntmps24
  go_wp2_with fail
  refine (HOF.out _).mono ?_
  rintro e w1 ⟨rfl, hb1⟩
  have hbx : w1.cell? ⟨W.heap.size, 0, none⟩ = some (.slice (some ⟨g, 0, none⟩) 6 6) := by
    rw [hb1.cell (p := ⟨W.heap.size, 0, none⟩) (by simp)]
    rw [(Blk.new W 46 #[.slice (some ⟨g, 0, none⟩) 6 6]).cell 0]
    rfl
  have hb0 : Below W.heap.size W w1 := hop_new (Below.refl _ _) (Nat.le_refl _) hb1
  have hsz := hb1.size
  have hlt1 : W.heap.size < w1.heap.size := block_lt_of_cell hbx
  clear hb1
  go_wp2_with fail
  obtain ⟨b, hb⟩ : ∃ b, w1.heap.size = b := ⟨_, rfl⟩
  obtain ⟨w2, hw2⟩ : ∃ w, w1.alloc (.cells #[.string s, .int .i64 0] 62) = w := ⟨_, rfl⟩
  have hR : Rd w2 b 62 #[.string s, .int .i64 0] s 0 := by
    rw [← hw2, ← hb]
    exact ⟨Blk.new w1 _ _, rfl, rfl, Nat.zero_le _, by omega⟩
  have hbb : Below W.heap.size W w2 := by rw [← hw2]; exact hb0.alloc (by omega) _
  have hbx2 : w2.cell? ⟨W.heap.size, 0, none⟩ = some (.slice (some ⟨g, 0, none⟩) 6 6) := by
    rw [← hw2]
    exact (World.cell?_of_block (heap_alloc_old w1 _ hlt1)).trans hbx
  have hI2 := HI.out.below hbb
  have hs2 : W.heap.size ≤ w2.heap.size := hbb.size
  have hgb : g ≠ b := by omega
  have hWb : W.heap.size ≠ b := by omega
  have hWb2 : W.heap.size ≤ b := by omega
  have hFIN := Lib.hid (fun w (h : w2.grownBy w (some b)) => (hbb.grown h hs2 (fun r hr => by cases hr; omega) : Below W.heap.size W w))
  rw [hw2, hb]
  clear hw2 hb
  have HR := Lib.hid hR
  have HI2 := Lib.hid hI2
  have HBX2 := Lib.hid hbx2
  clear hR hbb hI2 hbx hbx2 hb0 hlt1 hsz
  go_loopw [7, 8] (fun sv lv wr => ∃ (k f : Nat) (sum last : Int) (cs : Array Value), sv = .int .i64 sum ∧ lv = .int .i64 last ∧ s.size < f + k ∧ -9223372036854775808 ≤ sum ∧ sum ≤ 9223372036854775807 ∧ -1 ≤ last ∧ last ≤ 100 ∧ Hid (durS (partS durU) f (s.data.toList.drop k) sum last = T) ∧ ((k = 0 ∧ last = -1 ∧ sum = 0) ∨ (0 < k ∧ 0 ≤ last)) ∧ Rd wr b 62 cs s k ∧ w2.grownBy wr (some b)) (fun _ _ wr => s.size - (intOf ((wr.cell? ⟨b, 1, none⟩).getD undef)).toNat)
  case atStart => exact ⟨0, s.size + 1, 0, -1, _, rfl, rfl, by omega, by decide, by decide, by decide, by decide, Lib.hid (by rw [← HT.out, List.drop_zero, size_toList]), .inl ⟨rfl, rfl, rfl⟩, HR.out, World.grownBy.refl _ _⟩
  case round =>
    obtain ⟨k, f, sum, last, cs, rfl, rfl, hf, s0, s1, l0, l1, hd, hk0, hRz, hgr⟩ := hrel
    have hkt := hRz.le
    have c1 := hRz.pos
    by_cases hk : k < s.size
    · have hne : s.data.toList.drop k ≠ [] := by
        intro h
        have := congrArg List.length h
        rw [List.length_drop, size_toList] at this
        simp at this
        omega
      have hzn : T = none → z = none := fun h => by rw [HZ.out, h]; split <;> rfl
      obtain ⟨f, rfl⟩ : ∃ f', f = f' + 1 := ⟨f - 1, by omega⟩
      have hstep : durS (partS durU) (f + 1) (s.data.toList.drop k) sum last = (partP durU s k).bind fun x => if (x.2.1 : Int) ≤ last then none else (stepR (· + ·) (some sum) x.1).bind fun s' => durS (partS durU) f ((s.data.toList.drop k).drop x.2.2) s' x.2.1 := durS_step hne rfl
      rw [hd.out] at hstep
      have DN := Lib.hid (done_any b _ cs s k wr hRz)
      rw [show ((k : Int) == (s.size : Int)) = false by rw [beq_eq_false_iff_ne]; omega] at DN
      have PT := Lib.hid (fun q => part_any g 6 durU rfl (by decide) (by decide) (by decide) b _ cs s k (wr.drewN q) (hRz.drewN q) ((HI2.out.kept hgr hgb).below (below_drewN (Below.refl _ _) q)) hgb (fun w h => hl.below (hFIN.out w (World.grownBy.trans hgr (World.grownBy.trans (grown_drewN (World.grownBy.refl _ _) q) h)))) hs)
      have hbx := cell_kept_by HBX2.out hgr hWb
      have hpf := fun x (h : partP durU s k = some x) => partP_facts h
      obtain ⟨y, hy⟩ : ∃ y, partP durU s k = y := ⟨_, rfl⟩
      rw [hy] at hstep
      simp only [hy] at PT hpf
      have HST := Lib.hid hstep
      have HPF := Lib.hid hpf
      have HZN := Lib.hid hzn
      have HGR := Lib.hid hgr
      clear hstep hy hne hd hpf hzn hRz hgr
      go_wp2_with fail
      refine DN.out.mono ?_
      rintro e w3 ⟨rfl, q, rfl⟩
      go_wp2_with fail
      refine (PT.out q).mono ?_
      rintro e w4 ⟨h1, h2, hg4⟩
      have hg4' := World.grownBy.trans HGR.out (World.grownBy.trans (grown_drewN (World.grownBy.refl wr (some b)) q) hg4)
      have hb4 := hFIN.out w4 hg4'
      cases y with
      | none =>
        obtain ⟨a, p, rfl⟩ := h2.out rfl
        have E := Lib.hid (HZN.out HST.out)
        clear h1 h2
        go_wp2
        go_ret2
        exact ⟨ret_num (by rw [E.out]; rfl) (by rw [E.out]; rfl), hb4⟩
      | some x =>
        obtain ⟨rfl, hR4⟩ := h1.out x rfl
        obtain ⟨⟨m0, m1⟩, hi6, hd1⟩ := HPF.out x rfl
        obtain ⟨m, i, d⟩ := x
        dsimp only at hR4 m0 m1 hi6 hd1
        have hi6' : i < 6 := hi6
        have hst := HST.out
        simp only [Option.bind_some, List.drop_drop] at hst
        clear h1 h2
        by_cases hil : (i : Int) ≤ last
        · rw [if_pos hil] at hst
          have E := Lib.hid (HZN.out hst)
          clear hst
          go_wp2
          go_ret2
          exact ⟨ret_num (by rw [E.out]; rfl) (by rw [E.out]; rfl), hb4⟩
        · rw [if_neg hil] at hst
          have AP := Lib.hid (fun gg hg t => add_pair w4 gg hg t sum m (wf64 ⟨s0, s1⟩) (wf64 ⟨m0, m1⟩))
          have hrg := fun r => step_range (f := (· + ·)) (o := some sum) (z := m) (s := r)
          obtain ⟨o, ho⟩ : ∃ o, stepR (· + ·) (some sum) m = o := ⟨_, rfl⟩
          rw [ho] at hst
          simp only [ho] at AP hrg
          clear ho
          cases o with
          | none =>
            have E := Lib.hid (HZN.out hst)
            clear hst hrg
            go_wp2_with fail
            refine (AP.out _ rfl _).mono ?_
            rintro e w5 ⟨rfl, hb5⟩
            replace hb4 := hop_new hb4 (Nat.le_refl _) hb5
            clear hb5
            go_wp2
            go_ret2
            exact ⟨ret_num (by rw [E.out]; rfl) (by rw [E.out]; rfl), hb4⟩
          | some s' =>
            obtain ⟨t0, t1⟩ := hrg s' rfl
            have HST2 := Lib.hid hst
            have HR4 := Lib.hid hR4
            have HG4 := Lib.hid hg4'
            clear hst hrg hR4 hg4' hg4 hb4
            go_wp2_with fail
            refine (AP.out _ rfl _).mono ?_
            rintro e w5 ⟨rfl, hb5⟩
            have hg5 := World.grownBy.trans HG4.out (World.grownBy.trans (World.grownBy_alloc w4 _ _) (grown_of_below hb5 _))
            have hR5 := (HR4.out.alloc _).below hb5 (HR4.out.alloc _).lt
            have HG5 := Lib.hid hg5
            have HR5 := Lib.hid hR5
            clear hg5 hR5 hb5
            go_wp2
            go_round
            case rel => exact ⟨k + d, f, s', i, _, rfl, rfl, by omega, t0, t1, by omega, by omega, Lib.hid HST2.out.symm, .inr ⟨by omega, by omega⟩, HR5.out, HG5.out⟩
            case measure =>
              rw [HR5.out.pos, c1]
              simp [intOf]
              omega
    · obtain rfl : k = s.size := by omega
      have DN := Lib.hid (done_any b _ cs s s.size wr hRz)
      rw [show ((s.size : Int) == (s.size : Int)) = true by simp] at DN
      have hT1 : T = some sum := by
        rw [← hd.out, List.drop_of_length_le (by rw [size_toList]; exact Nat.le_refl _)]
        obtain ⟨f, rfl⟩ : ∃ f', f = f' + 1 := ⟨f - 1, by omega⟩
        unfold durS
        rw [if_pos rfl]
      have hzz : (z.getD 0 = sum) ∧ z.isSome = decide (0 ≤ last) := by
        rw [HZ.out]
        rcases hk0 with ⟨hk0, rfl, rfl⟩ | ⟨hk0, hl0⟩
        · rw [if_pos (List.eq_nil_of_length_eq_zero (by rw [size_toList]; exact hk0))]
          exact ⟨rfl, rfl⟩
        · rw [if_neg (fun h => by have h3 := size_toList s; rw [h] at h3; have h4 : 0 = s.size := h3; omega), hT1]
          exact ⟨rfl, by rw [decide_eq_true hl0]; rfl⟩
      have E := Lib.hid hzz
      have hfin := hFIN.out wr hgr
      clear hzz hT1 hk0 hd hRz hgr
      go_wp2_with fail
      refine DN.out.mono ?_
      rintro e w3 ⟨rfl, q, rfl⟩
      go_wp2
      go_ret2
      exact ⟨ret_num E.out.1 E.out.2, below_drewN hfin q⟩
theorem duration_any (s : ByteArray) (hs : s.size ≤ 281474976710656) (W : World) (hl : LibIs W) :
    Calls Tryd.prog 12 #[.string s] W fun e w' => e = .returned (.tuple #[.int .i64 ((durZ s.data.toList).getD 0), .bool (durZ s.data.toList).isSome]) ∧ Below W.heap.size W w' := by
  have HN := Lib.hid (newDurations_any W)
  have HR := Lib.hid (fun g w h1 h2 => durRead_any g s hs w h1 h2)
  obtain ⟨z, hz⟩ : ∃ z, durZ s.data.toList = z := ⟨_, rfl⟩
  rw [hz] at HR
  rw [hz]
  clear hz
  go_enter Tryd.func12, Tryd.ntmps12
  go_wp2_with fail
  refine HN.out.mono ?_
  rintro e w1 ⟨⟨g, rfl, hI, hg⟩, hb⟩
  go_wp2_with fail
  refine (HR.out _ _ hI (hl.below hb)).mono ?_
  rintro e w2 ⟨rfl, hb2⟩
  replace hb := hop hb (Nat.le_refl _) hb2
  clear hb2 hI
  go_wp2
  go_ret2
  exact ⟨rfl, hb⟩
end Go.Proofs.YtehhmejpfglimaaDoor
