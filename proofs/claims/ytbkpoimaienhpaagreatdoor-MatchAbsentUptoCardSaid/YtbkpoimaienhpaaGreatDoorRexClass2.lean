-- shaken
import Derived.Test.YtbkpoimaienhpaaGreatDoorRexClass
import Derived.Test.YtbkpoimaienhpaaGreatDoorMem
namespace Go.Proofs.YtbkpoimaienhpaaGreatDoor
open Go.RowKit
set_option linter.unusedVariables false
set_option linter.unusedSimpArgs false
def itemsX (l : List UInt8) : Option (Nat × List UInt8) := match itemP l with
  | none => none
  | some (s, r) => itemsP (r.length + 1) s r
theorem classB_is (neg : Bool) (l : List UInt8) : classB neg l = (match itemsX l with
    | none => none
    | some (all, r2) => if (if neg then notB all else all) = 0 then none else some (if neg then notB all else all, r2)) := by
  unfold classB itemsX
  cases itemP l with
  | none => rfl
  | some x => rfl
structure ItemsSt (X : Option (Nat × List UInt8)) (t : ByteArray) (ok : Bool) (all j : Nat) : Prop where
  yes : ok = true → all < 2 ^ 256 ∧ ∃ n, (atL t j).length < n ∧ itemsP n all (atL t j) = X
  no : ok = false → X = none
theorem itemsSt_first {l : List UInt8} {t : ByteArray} {ok : Bool} {S j : Nat} (h : SetPost (itemP l) t S ok j) : ItemsSt (itemsX l) t ok S j := by
  unfold itemsX
  cases hm : itemP l with
  | none =>
    rw [hm] at h
    obtain rfl : ok = false := h
    exact ⟨(fun e => by cases e), fun _ => rfl⟩
  | some x =>
    obtain ⟨s, r⟩ := x
    rw [hm] at h
    obtain ⟨rfl, rfl, hr⟩ := h
    exact ⟨fun _ => ⟨(itemP_some hm).1, _, by rw [hr]; exact Nat.lt_succ_self _, by rw [hr]⟩, (fun e => by cases e)⟩
theorem itemsSt_next {X : Option (Nat × List UInt8)} {t : ByteArray} {all j j2 S : Nat} {ok : Bool} (h : ItemsSt X t true all j) (hn : ∀ q, atL t j ≠ 93 :: q) (hp : SetPost (itemP (atL t j)) t S ok j2) : ItemsSt X t ok (all ||| S) j2 ∧ (ok = true → (atL t j2).length < (atL t j).length) := by
  obtain ⟨hl, n, hn1, hn2⟩ := h.yes rfl
  obtain ⟨m, rfl⟩ : ∃ m, n = m + 1 := ⟨n - 1, by omega⟩
  rw [itemsP_next hn] at hn2
  cases hm : itemP (atL t j) with
  | none =>
    rw [hm] at hp hn2
    obtain rfl : ok = false := hp
    exact ⟨⟨(fun e => by cases e), fun _ => hn2.symm⟩, (fun e => by cases e)⟩
  | some x =>
    obtain ⟨s, r⟩ := x
    have h1 := itemP_some hm
    rw [hm] at hp hn2
    obtain ⟨rfl, rfl, hr⟩ := hp
    dsimp only at hn2
    rw [hr]
    exact ⟨⟨fun _ => ⟨Nat.or_lt_two_pow hl h1.1, m, by rw [hr]; omega, by rw [hr]; exact hn2⟩, (fun e => by cases e)⟩, fun _ => h1.2⟩
theorem itemsSt_end {X : Option (Nat × List UInt8)} {t : ByteArray} {all j : Nat} {q : List UInt8} (h : ItemsSt X t true all j) (hq : atL t j = 93 :: q) : X = some (all, q) ∧ all < 2 ^ 256 := by
  obtain ⟨hl, n, hn1, hn2⟩ := h.yes rfl
  obtain ⟨m, rfl⟩ : ∃ m, n = m + 1 := ⟨n - 1, by omega⟩
  rw [hq, itemsP_end] at hn2
  exact ⟨hn2.symm, hl⟩
def classM (t : ByteArray) (b : Nat) (v : Value) (w : World) : Nat := match v with | .bool true => t.size + 1 - posOf w b | _ => 0
set_option maxRecDepth 100000 in
set_option maxHeartbeats 3200000 in
theorem class_any (b : Nat) (t : ByteArray) (k o : Nat) (f : Bool) (e0 : Int) (W : World) (h : Ps W b t k o f e0) :
    Calls Tryz.prog 145 #[.pointer (some ⟨b, 0, none⟩)] W fun e w' => ∃ S ok j, e = .returned (.tuple #[setV S, .bool ok]) ∧ Ps w' b t j o f e0 ∧ W.grownBy w' (some b) ∧ SetPost (classP (atL t k)) t S ok j := by
  have hlt := h.lt
  have hbn : W.heap.size ≠ b := by omega
  have HK0 := Lib.hid (zero_new W)
  have HSZ := Lib.hid (show W.heap.size + 1 = (W.alloc (.cells #[.int .u64 0, .int .u64 0, .int .u64 0, .int .u64 0] 94)).heap.size by simp)
  obtain ⟨I, hI⟩ : ∃ I, classP (atL t k) = I := ⟨_, rfl⟩
  rw [hI]
  by_cases hneg : ∃ q, atL t k = 94 :: q
  · obtain ⟨q, hq⟩ := hneg
    rw [hq, classP_hat, classB_is] at hI
    have TK := Lib.hid (take_yes2 b ⟨#[94]⟩ (by decide) q t k o f e0 hq _ (h.alloc (.cells #[.int .u64 0, .int .u64 0, .int .u64 0, .int .u64 0] 94)) (W.heap.size + 1) HSZ.out)
    clear hq
    have HI := Lib.hid hI
    clear hI h
    go_enter Tryz.func145, Tryz.ntmps145
    go_wp2_with fail
    refine TK.out.mono ?_
    rintro e w1 ⟨⟨x, rfl⟩, ⟨hp, hr⟩, hg⟩
    have HR1 := Lib.hid (show atL t (k + 1) = q from hr)
    have HP1 := Lib.hid (show Ps w1 b t (k + 1) o f e0 from hp)
    have HG1 := Lib.hid (World.grownBy.trans (World.grownBy_alloc W (.cells #[.int .u64 0, .int .u64 0, .int .u64 0, .int .u64 0] 94) (some b)) hg)
    have HK1 := Lib.hid (HK0.out.kept hg hbn)
    clear hp hg TK HK0 hr
    have IT := Lib.hid (fun w k h => item_any b t k o f e0 w h)
    go_wp2_with fail
    refine (IT.out _ _ HP1.out).mono ?_
    rintro e w2 ⟨S, ok, j, rfl, hp, hg, hpost⟩
    rw [HR1.out] at hpost
    have HX := Lib.hid (itemsSt_first hpost)
    have HP2 := Lib.hid (hp.alloc (.cells (setC S) 94))
    have HG2 := Lib.hid (grown_alloc (World.grownBy.trans HG1.out hg) (.cells (setC S) 94))
    have hk2 := HK1.out.kept hg hbn
    have hW2 := hk2.lt
    have HK2 := Lib.hid (hk2.alloc (.cells (setC S) 94))
    have HS2 := Lib.hid (new_at w2 94 (setC S) w2.heap.size rfl)
    have hb2 := hp.lt
    obtain ⟨X, hX⟩ : ∃ X, itemsX q = X := ⟨_, rfl⟩
    rw [hX] at HX
    have HXX := Lib.hid hX
    have hg06 : W.heap.size ≠ w2.heap.size := by omega
    have hg6b : w2.heap.size ≠ b := by omega
    clear hp hg hpost hk2 HP1 HG1 HK1 hX
    try unfold setV
    try unfold setC
    go_wp2
    obtain ⟨v0, hv0⟩ : ∃ v, v = w2 := ⟨_, rfl⟩
    go_loopw [7] (fun iv wr => ∃ (ok : Bool) (all j : Nat), iv = .bool ok ∧ Hid (Ps wr b t j o f e0) ∧ Hid (W.grownBy wr (some b)) ∧ Hid (Blk wr W.heap.size 94 (setC 0)) ∧ Hid (Blk wr w2.heap.size 94 (setC all)) ∧ Hid (ItemsSt X t ok all j)) (fun iv w => classM t b iv w)
    case atStart => exact ⟨ok, S, j, rfl, HP2, HG2, HK2, HS2, HX⟩
    case round =>
      obtain ⟨ok, all, j, rfl, HP, HG, HK, HS, HX⟩ := hrel
      have hW6 : W.heap.size < w2.heap.size := hW2
      have hsr := HS.out.lt
      have hbr := HP.out.lt
      have hjt := HP.out.le
      have HPR := Lib.hid HP.out.pos
      have hatl := at_len t j
      cases ok with
      | false =>
        have OT := Lib.hid (fun w => others_any all w)
        have KK0 := Lib.hid HK.out
        have KK6 := Lib.hid HS.out
        obtain ⟨⟨a0, a1, a2, a3⟩, _⟩ := set_cells KK6.out
        try unfold setV
        try unfold setC
        go_wp2_with fail
        refine (OT.out _).mono ?_
        rintro e wo ⟨rfl, hx⟩
        have K0b := KK0.out.below hx KK0.out.lt
        have K6b := KK6.out.below hx KK6.out.lt
        have HPb := Lib.hid (HP.out.belowS hx)
        have HGb := Lib.hid (grown_hop HG.out hx)
        clear hx a0 a1 a2 a3 OT
        obtain ⟨⟨d0, d1, d2, d3⟩, f0, f1, f2, f3⟩ := set_cells K6b
        have K6c := set_four K6b (.int .u64 (word (notB all) 0 : Nat)) (.int .u64 (word (notB all) 1 : Nat)) (.int .u64 (word (notB all) 2 : Nat)) (.int .u64 (word (notB all) 3 : Nat))
        have K0c := far_four K0b hg06 (.int .u64 (word (notB all) 0 : Nat)) (.int .u64 (word (notB all) 1 : Nat)) (.int .u64 (word (notB all) 2 : Nat)) (.int .u64 (word (notB all) 3 : Nat))
        have HPc := HPb.out.four hg6b.symm (.int .u64 (word (notB all) 0 : Nat)) (.int .u64 (word (notB all) 1 : Nat)) (.int .u64 (word (notB all) 2 : Nat)) (.int .u64 (word (notB all) 3 : Nat))
        have HGc := grown_four HGb.out (Nat.le_of_lt hW6) (.int .u64 (word (notB all) 0 : Nat)) (.int .u64 (word (notB all) 1 : Nat)) (.int .u64 (word (notB all) 2 : Nat)) (.int .u64 (word (notB all) 3 : Nat))
        have HK6c := Lib.hid K6c
        have HK0c := Lib.hid K0c
        have HPd := Lib.hid HPc
        have HGd := Lib.hid HGc
        clear K0b K6b K6c K0c HPb HGb HPc HGc KK0 KK6
        try unfold setV
        try unfold setC
        go_wp2
        obtain ⟨wz, hwz⟩ : ∃ z, (((wo.setCell ⟨w2.heap.size, 0, none⟩ (.int .u64 (word (notB all) 0 : Nat))).setCell ⟨w2.heap.size, 1, none⟩ (.int .u64 (word (notB all) 1 : Nat))).setCell ⟨w2.heap.size, 2, none⟩ (.int .u64 (word (notB all) 2 : Nat))).setCell ⟨w2.heap.size, 3, none⟩ (.int .u64 (word (notB all) 3 : Nat)) = z := ⟨_, rfl⟩
        rw [hwz] at HK6c HK0c HPd HGd ⊢
        clear hwz d0 d1 d2 d3 f0 f1 f2 f3
        have E6 := HK6c.out.drew
        have E0 := Lib.hid HK0c.out.drew
        have D0 := HK0c.out.drew
        obtain ⟨⟨d0, d1, d2, d3⟩, f0, f1, f2, f3⟩ := set_cells D0
        obtain ⟨⟨p0, p1, p2, p3⟩, r0, r1, r2, r3⟩ := set_cells HK0c.out
        clear D0
        refine wp_region_held_drew (S := fun w' => Blk w' w2.heap.size 94 (setC (notB all))) (by kernel_rfl) E6 (fun hHeld => ?_)
        refine tC 0 rfl (by intro w hSw; obtain ⟨⟨q0, q1, q2, q3⟩, _⟩ := set_cells hSw; first | (go_simp; done) | (go_simp; with_reducible rfl)) ?_
        refine tV 1 ?_; refine tV 2 ?_
        refine tN 3 ?_; refine tN 4 ?_; refine tN 5 ?_; refine tV 6 ?_
        refine rdy [7] ?_
        refine rdC (fun K hK => ?_) AllReadyH.nil
        go_simp
        have E7 : Blk _ w2.heap.size 94 (setC (notB all)) := (far_four HK6c.out hg06.symm (.int .u64 (word (notB all) 0 : Nat)) (.int .u64 (word (notB all) 1 : Nat)) (.int .u64 (word (notB all) 2 : Nat)) (.int .u64 (word (notB all) 3 : Nat))).drew
        refine hK.out _ _ E7 (fun _ => ?_)
        clear hK K
        try simp only [Act.put, pz1, pz2, pz3]
        refine tV 8 ?_
        refine wpAnyH_done (by kernel_rfl) ?_ _
        go_wp2
        refine bodyPost_ret (results_row_tmp rfl _ _ W.heap.size 94 (setC (notB all)) (0, 0) _ rfl (set_four HK0c.out _ _ _ _).drew Tryz.underlying94 rfl (by kernel_rfl)) rfl ?_
        refine ⟨(notB all), false, j, rfl, (HPd.out.four (Ne.symm hbn) _ _ _ _).drewN 1, World.grownBy.trans (grown_four HGd.out (Nat.le_refl _) _ _ _ _) (grown_drew _ _ 1), ?_⟩
        have hi := HI.out
        rw [HXX.out, HX.out.no rfl] at hi
        rw [← hi]
        rfl
      | true =>
        by_cases h93 : ∃ q, atL t j = 93 :: q
        · obtain ⟨q9, h93⟩ := h93
          have TY := Lib.hid (take_yes2 b ⟨#[93]⟩ (by decide) q9 t j o f e0 h93 _ HP.out wr.heap.size rfl)
          have HE := Lib.hid (itemsSt_end HX.out h93)
          clear h93
          go_wp2_with fail
          refine TY.out.mono ?_
          rintro e w3 ⟨⟨x3, rfl⟩, ⟨hp, hr⟩, hg⟩
          have HP3 := Lib.hid (show Ps w3 b t (j + 1) o f e0 from hp)
          have HR3 := Lib.hid (show atL t (j + 1) = q9 from hr)
          have HG3 := Lib.hid (World.grownBy.trans HG.out hg)
          have HK3 := Lib.hid (HK.out.kept hg hbn)
          have HS3 := Lib.hid (HS.out.kept hg hg6b)
          clear hp hr hg TY HP HG HK HS HX
          have OT := Lib.hid (fun w => others_any all w)
          have KK0 := Lib.hid HK3.out
          have KK6 := Lib.hid HS3.out
          obtain ⟨⟨a0, a1, a2, a3⟩, _⟩ := set_cells KK6.out
          try unfold setV
          try unfold setC
          go_wp2_with fail
          refine (OT.out _).mono ?_
          rintro e wo ⟨rfl, hx⟩
          have K0b := KK0.out.below hx KK0.out.lt
          have K6b := KK6.out.below hx KK6.out.lt
          have HPb := Lib.hid (HP3.out.belowS hx)
          have HGb := Lib.hid (grown_hop HG3.out hx)
          clear hx a0 a1 a2 a3 OT
          obtain ⟨⟨d0, d1, d2, d3⟩, f0, f1, f2, f3⟩ := set_cells K6b
          have K6c := set_four K6b (.int .u64 (word (notB all) 0 : Nat)) (.int .u64 (word (notB all) 1 : Nat)) (.int .u64 (word (notB all) 2 : Nat)) (.int .u64 (word (notB all) 3 : Nat))
          have K0c := far_four K0b hg06 (.int .u64 (word (notB all) 0 : Nat)) (.int .u64 (word (notB all) 1 : Nat)) (.int .u64 (word (notB all) 2 : Nat)) (.int .u64 (word (notB all) 3 : Nat))
          have HPc := HPb.out.four hg6b.symm (.int .u64 (word (notB all) 0 : Nat)) (.int .u64 (word (notB all) 1 : Nat)) (.int .u64 (word (notB all) 2 : Nat)) (.int .u64 (word (notB all) 3 : Nat))
          have HGc := grown_four HGb.out (Nat.le_of_lt hW6) (.int .u64 (word (notB all) 0 : Nat)) (.int .u64 (word (notB all) 1 : Nat)) (.int .u64 (word (notB all) 2 : Nat)) (.int .u64 (word (notB all) 3 : Nat))
          have HK6c := Lib.hid K6c
          have HK0c := Lib.hid K0c
          have HPd := Lib.hid HPc
          have HGd := Lib.hid HGc
          clear K0b K6b K6c K0c HPb HGb HPc HGc KK0 KK6
          try unfold setV
          try unfold setC
          go_wp2
          obtain ⟨wz, hwz⟩ : ∃ z, (((wo.setCell ⟨w2.heap.size, 0, none⟩ (.int .u64 (word (notB all) 0 : Nat))).setCell ⟨w2.heap.size, 1, none⟩ (.int .u64 (word (notB all) 1 : Nat))).setCell ⟨w2.heap.size, 2, none⟩ (.int .u64 (word (notB all) 2 : Nat))).setCell ⟨w2.heap.size, 3, none⟩ (.int .u64 (word (notB all) 3 : Nat)) = z := ⟨_, rfl⟩
          rw [hwz] at HK6c HK0c HPd HGd ⊢
          clear hwz d0 d1 d2 d3 f0 f1 f2 f3
          have hall := HE.out.2
          have CQ := neq_zero24 (S := (notB all)) (notB_lt hall)
          have E6 := HK6c.out.drew
          have E0 := Lib.hid HK0c.out.drew
          have D0 := HK0c.out.drew
          obtain ⟨⟨d0, d1, d2, d3⟩, f0, f1, f2, f3⟩ := set_cells D0
          obtain ⟨⟨p0, p1, p2, p3⟩, r0, r1, r2, r3⟩ := set_cells HK0c.out
          clear D0
          refine wp_region_held_drew (S := fun w' => Blk w' w2.heap.size 94 (setC (notB all))) (by kernel_rfl) E6 (fun hHeld => ?_)
          refine tC 0 rfl (by intro w hSw; obtain ⟨⟨q0, q1, q2, q3⟩, _⟩ := set_cells hSw; first | (go_simp; done) | (go_simp; with_reducible rfl)) ?_
          refine tV 1 ?_; refine tV 2 ?_
          refine tC 3 rfl (by intro w hSw; obtain ⟨⟨q0, q1, q2, q3⟩, _⟩ := set_cells hSw; first | (go_simp; done) | (go_simp; with_reducible rfl)) ?_
          refine tV 4 ?_; refine tV 5 ?_; refine tV 6 ?_
          refine rdy [7] ?_
          refine rdC (fun K hK => ?_) AllReadyH.nil
          go_simp
          have E7 : Blk _ w2.heap.size 94 (setC (notB all)) := (far_four HK6c.out hg06.symm (.int .u64 (word (notB all) 0 : Nat)) (.int .u64 (word (notB all) 1 : Nat)) (.int .u64 (word (notB all) 2 : Nat)) (.int .u64 (word (notB all) 3 : Nat))).drew
          refine hK.out _ _ E7 (fun _ => ?_)
          clear hK K
          try simp only [Act.put, pz1, pz2, pz3]
          refine tV 8 ?_
          refine wpAnyH_done (by kernel_rfl) ?_ _
          go_wp2
          refine bodyPost_ret (results_row_tmp rfl _ _ W.heap.size 94 (setC (notB all)) (0, 0) _ rfl (set_four HK0c.out _ _ _ _).drew Tryz.underlying94 rfl (by kernel_rfl)) rfl ?_
          refine ⟨(notB all), !decide ((notB all) = 0), (j + 1), rfl, (HPd.out.four (Ne.symm hbn) _ _ _ _).drewN 1, World.grownBy.trans (grown_four HGd.out (Nat.le_refl _) _ _ _ _) (grown_drew _ _ 1), ?_⟩
          have hi := HI.out
          rw [HXX.out, HE.out.1] at hi
          have hi2 : (if (notB all) = 0 then none else some ((notB all), q9)) = I := hi
          rw [← hi2]
          by_cases hz : (notB all) = 0
          · rw [if_pos hz]
            show (!decide ((notB all) = 0)) = false
            rw [decide_eq_true hz]
            rfl
          · rw [if_neg hz]
            refine ⟨?_, rfl, HR3.out⟩
            rw [decide_eq_false hz]
            rfl
        · have h93' : ∀ q, atL t j ≠ 93 :: q := fun q e => h93 ⟨q, e⟩
          have TN := Lib.hid (take_no2 b ⟨#[93]⟩ (by decide) t j o f e0 (head_no 93 _ h93') _ HP.out wr.heap.size rfl)
          have HX93 := Lib.hid h93'
          clear h93 h93'
          go_wp2_with fail
          refine TN.out.mono ?_
          rintro e w3 ⟨⟨x3, rfl⟩, hp, hg⟩
          have HP3 := Lib.hid (hp.alloc (.cells #[.int .u64 0, .int .u64 0, .int .u64 0, .int .u64 0] 94))
          have HG3 := Lib.hid (grown_alloc (World.grownBy.trans HG.out hg) (.cells #[.int .u64 0, .int .u64 0, .int .u64 0, .int .u64 0] 94))
          have HK3 := Lib.hid ((HK.out.kept hg hbn).alloc (.cells #[.int .u64 0, .int .u64 0, .int .u64 0, .int .u64 0] 94))
          have hs3 := (HS.out.kept hg hg6b).lt
          have HS3 := Lib.hid ((HS.out.kept hg hg6b).alloc (.cells #[.int .u64 0, .int .u64 0, .int .u64 0, .int .u64 0] 94))
          have HN3 := Lib.hid (zero_new w3)
          have hb3 := hp.lt
          have hn3b : w3.heap.size ≠ b := by omega
          have hn36 : w2.heap.size ≠ w3.heap.size := by omega
          have hn30 : W.heap.size ≠ w3.heap.size := by omega
          clear hp hg TN HP HG HK HS
          go_wp2_with fail
          refine (IT.out _ _ HP3.out).mono ?_
          rintro e w4 ⟨S4, ok4, j4, rfl, hp, hg, hpost⟩
          have hnx := itemsSt_next HX.out HX93.out hpost
          have HX4 := Lib.hid hnx.1
          have HM4 := Lib.hid hnx.2
          have hj4 := hp.le
          have HP4 := Lib.hid hp
          have HG4 := Lib.hid (World.grownBy.trans HG3.out hg)
          have HK4 := Lib.hid (HK3.out.kept hg hbn)
          have HS4 := Lib.hid (HS3.out.kept hg hg6b)
          have HN4 := Lib.hid (HN3.out.kept hg hn3b)
          obtain ⟨⟨a0, a1, a2, a3⟩, _⟩ := set_cells HS4.out
          obtain ⟨⟨d0, d1, d2, d3⟩, f0, f1, f2, f3⟩ := set_cells HN4.out
          have UN := Lib.hid (fun w => union_any all S4 w)
          have hs4 : W.heap.size ≤ w3.heap.size := by omega
          clear hp hg hpost hnx HP3 HG3 HK3 HS3 HN3
          try unfold setV
          try unfold setC
          go_wp2_with fail
          refine (UN.out _).mono ?_
          rintro e w5 ⟨rfl, hx⟩
          have HP5 := Lib.hid ((HP4.out.four hn3b.symm _ _ _ _).belowS hx)
          have HG5 := Lib.hid (grown_hop (grown_four HG4.out hs4 _ _ _ _) hx)
          have hk5 := far_four HK4.out hn30 (.int .u64 (word S4 0 : Nat)) (.int .u64 (word S4 1 : Nat)) (.int .u64 (word S4 2 : Nat)) (.int .u64 (word S4 3 : Nat))
          have HK5 := Lib.hid (hk5.below hx hk5.lt)
          have hq5 := far_four HS4.out hn36 (.int .u64 (word S4 0 : Nat)) (.int .u64 (word S4 1 : Nat)) (.int .u64 (word S4 2 : Nat)) (.int .u64 (word S4 3 : Nat))
          have HS5 := Lib.hid (hq5.below hx hq5.lt)
          clear a0 a1 a2 a3 d0 d1 d2 d3 f0 f1 f2 f3
          obtain ⟨⟨d0, d1, d2, d3⟩, f0, f1, f2, f3⟩ := set_cells HS5.out
          clear hx hk5 hq5 HP4 HG4 HK4 HS4 HN4 UN
          try unfold setV
          try unfold setC
          go_wp2
          go_round
          case rel => exact ⟨ok4, all ||| S4, j4, rfl, Lib.hid (HP5.out.four hg6b.symm _ _ _ _), Lib.hid (grown_four HG5.out (Nat.le_of_lt hW6) _ _ _ _), Lib.hid (far_four HK5.out hg06 _ _ _ _), Lib.hid (set_four HS5.out _ _ _ _), HX4⟩
          case measure =>
            have p5 := (HP5.out.four hg6b.symm (.int .u64 (word (all ||| S4) 0 : Nat)) (.int .u64 (word (all ||| S4) 1 : Nat)) (.int .u64 (word (all ||| S4) 2 : Nat)) (.int .u64 (word (all ||| S4) 3 : Nat))).pos
            have pr := HPR.out
            cases ok4 with
            | false =>
              show 0 < t.size + 1 - posOf wr b
              omega
            | true =>
              have hm := HM4.out rfl
              have e4 := at_len t j4
              show t.size + 1 - posOf _ b < t.size + 1 - posOf wr b
              rw [p5, pr]
              omega
  · have hq : ∀ q, atL t k ≠ 94 :: q := fun q e => hneg ⟨q, e⟩
    rw [classP_not hq, classB_is] at hI
    have TK := Lib.hid (take_no2 b ⟨#[94]⟩ (by decide) t k o f e0 (head_no 94 _ hq) _ (h.alloc (.cells #[.int .u64 0, .int .u64 0, .int .u64 0, .int .u64 0] 94)) (W.heap.size + 1) HSZ.out)
    clear hq hneg
    have HI := Lib.hid hI
    clear hI h
    go_enter Tryz.func145, Tryz.ntmps145
    go_wp2_with fail
    refine TK.out.mono ?_
    rintro e w1 ⟨⟨x, rfl⟩, hp, hg⟩
    have HP1 := Lib.hid (show Ps w1 b t k o f e0 from hp)
    have HG1 := Lib.hid (World.grownBy.trans (World.grownBy_alloc W (.cells #[.int .u64 0, .int .u64 0, .int .u64 0, .int .u64 0] 94) (some b)) hg)
    have HK1 := Lib.hid (HK0.out.kept hg hbn)
    clear hp hg TK HK0 
    have IT := Lib.hid (fun w k h => item_any b t k o f e0 w h)
    go_wp2_with fail
    refine (IT.out _ _ HP1.out).mono ?_
    rintro e w2 ⟨S, ok, j, rfl, hp, hg, hpost⟩
    skip
    have HX := Lib.hid (itemsSt_first hpost)
    have HP2 := Lib.hid (hp.alloc (.cells (setC S) 94))
    have HG2 := Lib.hid (grown_alloc (World.grownBy.trans HG1.out hg) (.cells (setC S) 94))
    have hk2 := HK1.out.kept hg hbn
    have hW2 := hk2.lt
    have HK2 := Lib.hid (hk2.alloc (.cells (setC S) 94))
    have HS2 := Lib.hid (new_at w2 94 (setC S) w2.heap.size rfl)
    have hb2 := hp.lt
    obtain ⟨X, hX⟩ : ∃ X, itemsX (atL t k) = X := ⟨_, rfl⟩
    rw [hX] at HX
    have HXX := Lib.hid hX
    have hg06 : W.heap.size ≠ w2.heap.size := by omega
    have hg6b : w2.heap.size ≠ b := by omega
    clear hp hg hpost hk2 HP1 HG1 HK1 hX
    try unfold setV
    try unfold setC
    go_wp2
    obtain ⟨v0, hv0⟩ : ∃ v, v = w2 := ⟨_, rfl⟩
    go_loopw [7] (fun iv wr => ∃ (ok : Bool) (all j : Nat), iv = .bool ok ∧ Hid (Ps wr b t j o f e0) ∧ Hid (W.grownBy wr (some b)) ∧ Hid (Blk wr W.heap.size 94 (setC 0)) ∧ Hid (Blk wr w2.heap.size 94 (setC all)) ∧ Hid (ItemsSt X t ok all j)) (fun iv w => classM t b iv w)
    case atStart => exact ⟨ok, S, j, rfl, HP2, HG2, HK2, HS2, HX⟩
    case round =>
      obtain ⟨ok, all, j, rfl, HP, HG, HK, HS, HX⟩ := hrel
      have hW6 : W.heap.size < w2.heap.size := hW2
      have hsr := HS.out.lt
      have hbr := HP.out.lt
      have hjt := HP.out.le
      have HPR := Lib.hid HP.out.pos
      have hatl := at_len t j
      cases ok with
      | false =>
        go_wp2
        have E6 := HS.out.drew
        have E0 := Lib.hid HK.out.drew
        have D0 := HK.out.drew
        obtain ⟨⟨d0, d1, d2, d3⟩, f0, f1, f2, f3⟩ := set_cells D0
        obtain ⟨⟨p0, p1, p2, p3⟩, r0, r1, r2, r3⟩ := set_cells HK.out
        clear D0
        refine wp_region_held_drew (S := fun w' => Blk w' w2.heap.size 94 (setC all)) (by kernel_rfl) E6 (fun hHeld => ?_)
        refine tC 0 rfl (by intro w hSw; obtain ⟨⟨q0, q1, q2, q3⟩, _⟩ := set_cells hSw; first | (go_simp; done) | (go_simp; with_reducible rfl)) ?_
        refine tV 1 ?_; refine tV 2 ?_
        refine tN 3 ?_; refine tN 4 ?_; refine tN 5 ?_; refine tV 6 ?_
        refine rdy [7] ?_
        refine rdC (fun K hK => ?_) AllReadyH.nil
        go_simp
        have E7 : Blk _ w2.heap.size 94 (setC all) := (far_four HS.out hg06.symm (.int .u64 (word all 0 : Nat)) (.int .u64 (word all 1 : Nat)) (.int .u64 (word all 2 : Nat)) (.int .u64 (word all 3 : Nat))).drew
        refine hK.out _ _ E7 (fun _ => ?_)
        clear hK K
        try simp only [Act.put, pz1, pz2, pz3]
        refine tV 8 ?_
        refine wpAnyH_done (by kernel_rfl) ?_ _
        go_wp2
        refine bodyPost_ret (results_row_tmp rfl _ _ W.heap.size 94 (setC all) (0, 0) _ rfl (set_four HK.out _ _ _ _).drew Tryz.underlying94 rfl (by kernel_rfl)) rfl ?_
        refine ⟨all, false, j, rfl, (HP.out.four (Ne.symm hbn) _ _ _ _).drewN 1, World.grownBy.trans (grown_four HG.out (Nat.le_refl _) _ _ _ _) (grown_drew _ _ 1), ?_⟩
        have hi := HI.out
        rw [HXX.out, HX.out.no rfl] at hi
        rw [← hi]
        rfl
      | true =>
        by_cases h93 : ∃ q, atL t j = 93 :: q
        · obtain ⟨q9, h93⟩ := h93
          have TY := Lib.hid (take_yes2 b ⟨#[93]⟩ (by decide) q9 t j o f e0 h93 _ HP.out wr.heap.size rfl)
          have HE := Lib.hid (itemsSt_end HX.out h93)
          clear h93
          go_wp2_with fail
          refine TY.out.mono ?_
          rintro e w3 ⟨⟨x3, rfl⟩, ⟨hp, hr⟩, hg⟩
          have HP3 := Lib.hid (show Ps w3 b t (j + 1) o f e0 from hp)
          have HR3 := Lib.hid (show atL t (j + 1) = q9 from hr)
          have HG3 := Lib.hid (World.grownBy.trans HG.out hg)
          have HK3 := Lib.hid (HK.out.kept hg hbn)
          have HS3 := Lib.hid (HS.out.kept hg hg6b)
          clear hp hr hg TY HP HG HK HS HX
          go_wp2
          have hall := HE.out.2
          have CQ := neq_zero24 (S := all) hall
          have E6 := HS3.out.drew
          have E0 := Lib.hid HK3.out.drew
          have D0 := HK3.out.drew
          obtain ⟨⟨d0, d1, d2, d3⟩, f0, f1, f2, f3⟩ := set_cells D0
          obtain ⟨⟨p0, p1, p2, p3⟩, r0, r1, r2, r3⟩ := set_cells HK3.out
          clear D0
          refine wp_region_held_drew (S := fun w' => Blk w' w2.heap.size 94 (setC all)) (by kernel_rfl) E6 (fun hHeld => ?_)
          refine tC 0 rfl (by intro w hSw; obtain ⟨⟨q0, q1, q2, q3⟩, _⟩ := set_cells hSw; first | (go_simp; done) | (go_simp; with_reducible rfl)) ?_
          refine tV 1 ?_; refine tV 2 ?_
          refine tC 3 rfl (by intro w hSw; obtain ⟨⟨q0, q1, q2, q3⟩, _⟩ := set_cells hSw; first | (go_simp; done) | (go_simp; with_reducible rfl)) ?_
          refine tV 4 ?_; refine tV 5 ?_; refine tV 6 ?_
          refine rdy [7] ?_
          refine rdC (fun K hK => ?_) AllReadyH.nil
          go_simp
          have E7 : Blk _ w2.heap.size 94 (setC all) := (far_four HS3.out hg06.symm (.int .u64 (word all 0 : Nat)) (.int .u64 (word all 1 : Nat)) (.int .u64 (word all 2 : Nat)) (.int .u64 (word all 3 : Nat))).drew
          refine hK.out _ _ E7 (fun _ => ?_)
          clear hK K
          try simp only [Act.put, pz1, pz2, pz3]
          refine tV 8 ?_
          refine wpAnyH_done (by kernel_rfl) ?_ _
          go_wp2
          refine bodyPost_ret (results_row_tmp rfl _ _ W.heap.size 94 (setC all) (0, 0) _ rfl (set_four HK3.out _ _ _ _).drew Tryz.underlying94 rfl (by kernel_rfl)) rfl ?_
          refine ⟨all, !decide (all = 0), (j + 1), rfl, (HP3.out.four (Ne.symm hbn) _ _ _ _).drewN 1, World.grownBy.trans (grown_four HG3.out (Nat.le_refl _) _ _ _ _) (grown_drew _ _ 1), ?_⟩
          have hi := HI.out
          rw [HXX.out, HE.out.1] at hi
          have hi2 : (if all = 0 then none else some (all, q9)) = I := hi
          rw [← hi2]
          by_cases hz : all = 0
          · rw [if_pos hz]
            show (!decide (all = 0)) = false
            rw [decide_eq_true hz]
            rfl
          · rw [if_neg hz]
            refine ⟨?_, rfl, HR3.out⟩
            rw [decide_eq_false hz]
            rfl
        · have h93' : ∀ q, atL t j ≠ 93 :: q := fun q e => h93 ⟨q, e⟩
          have TN := Lib.hid (take_no2 b ⟨#[93]⟩ (by decide) t j o f e0 (head_no 93 _ h93') _ HP.out wr.heap.size rfl)
          have HX93 := Lib.hid h93'
          clear h93 h93'
          go_wp2_with fail
          refine TN.out.mono ?_
          rintro e w3 ⟨⟨x3, rfl⟩, hp, hg⟩
          have HP3 := Lib.hid (hp.alloc (.cells #[.int .u64 0, .int .u64 0, .int .u64 0, .int .u64 0] 94))
          have HG3 := Lib.hid (grown_alloc (World.grownBy.trans HG.out hg) (.cells #[.int .u64 0, .int .u64 0, .int .u64 0, .int .u64 0] 94))
          have HK3 := Lib.hid ((HK.out.kept hg hbn).alloc (.cells #[.int .u64 0, .int .u64 0, .int .u64 0, .int .u64 0] 94))
          have hs3 := (HS.out.kept hg hg6b).lt
          have HS3 := Lib.hid ((HS.out.kept hg hg6b).alloc (.cells #[.int .u64 0, .int .u64 0, .int .u64 0, .int .u64 0] 94))
          have HN3 := Lib.hid (zero_new w3)
          have hb3 := hp.lt
          have hn3b : w3.heap.size ≠ b := by omega
          have hn36 : w2.heap.size ≠ w3.heap.size := by omega
          have hn30 : W.heap.size ≠ w3.heap.size := by omega
          clear hp hg TN HP HG HK HS
          go_wp2_with fail
          refine (IT.out _ _ HP3.out).mono ?_
          rintro e w4 ⟨S4, ok4, j4, rfl, hp, hg, hpost⟩
          have hnx := itemsSt_next HX.out HX93.out hpost
          have HX4 := Lib.hid hnx.1
          have HM4 := Lib.hid hnx.2
          have hj4 := hp.le
          have HP4 := Lib.hid hp
          have HG4 := Lib.hid (World.grownBy.trans HG3.out hg)
          have HK4 := Lib.hid (HK3.out.kept hg hbn)
          have HS4 := Lib.hid (HS3.out.kept hg hg6b)
          have HN4 := Lib.hid (HN3.out.kept hg hn3b)
          obtain ⟨⟨a0, a1, a2, a3⟩, _⟩ := set_cells HS4.out
          obtain ⟨⟨d0, d1, d2, d3⟩, f0, f1, f2, f3⟩ := set_cells HN4.out
          have UN := Lib.hid (fun w => union_any all S4 w)
          have hs4 : W.heap.size ≤ w3.heap.size := by omega
          clear hp hg hpost hnx HP3 HG3 HK3 HS3 HN3
          try unfold setV
          try unfold setC
          go_wp2_with fail
          refine (UN.out _).mono ?_
          rintro e w5 ⟨rfl, hx⟩
          have HP5 := Lib.hid ((HP4.out.four hn3b.symm _ _ _ _).belowS hx)
          have HG5 := Lib.hid (grown_hop (grown_four HG4.out hs4 _ _ _ _) hx)
          have hk5 := far_four HK4.out hn30 (.int .u64 (word S4 0 : Nat)) (.int .u64 (word S4 1 : Nat)) (.int .u64 (word S4 2 : Nat)) (.int .u64 (word S4 3 : Nat))
          have HK5 := Lib.hid (hk5.below hx hk5.lt)
          have hq5 := far_four HS4.out hn36 (.int .u64 (word S4 0 : Nat)) (.int .u64 (word S4 1 : Nat)) (.int .u64 (word S4 2 : Nat)) (.int .u64 (word S4 3 : Nat))
          have HS5 := Lib.hid (hq5.below hx hq5.lt)
          clear a0 a1 a2 a3 d0 d1 d2 d3 f0 f1 f2 f3
          obtain ⟨⟨d0, d1, d2, d3⟩, f0, f1, f2, f3⟩ := set_cells HS5.out
          clear hx hk5 hq5 HP4 HG4 HK4 HS4 HN4 UN
          try unfold setV
          try unfold setC
          go_wp2
          go_round
          case rel => exact ⟨ok4, all ||| S4, j4, rfl, Lib.hid (HP5.out.four hg6b.symm _ _ _ _), Lib.hid (grown_four HG5.out (Nat.le_of_lt hW6) _ _ _ _), Lib.hid (far_four HK5.out hg06 _ _ _ _), Lib.hid (set_four HS5.out _ _ _ _), HX4⟩
          case measure =>
            have p5 := (HP5.out.four hg6b.symm (.int .u64 (word (all ||| S4) 0 : Nat)) (.int .u64 (word (all ||| S4) 1 : Nat)) (.int .u64 (word (all ||| S4) 2 : Nat)) (.int .u64 (word (all ||| S4) 3 : Nat))).pos
            have pr := HPR.out
            cases ok4 with
            | false =>
              show 0 < t.size + 1 - posOf wr b
              omega
            | true =>
              have hm := HM4.out rfl
              have e4 := at_len t j4
              show t.size + 1 - posOf _ b < t.size + 1 - posOf wr b
              rw [p5, pr]
              omega
end Go.Proofs.YtbkpoimaienhpaaGreatDoor
