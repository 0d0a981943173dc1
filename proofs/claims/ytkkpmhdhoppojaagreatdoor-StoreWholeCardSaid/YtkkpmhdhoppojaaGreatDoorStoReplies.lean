-- shaken
import Derived.Test.YtkkpmhdhoppojaaGreatDoorStoNone
namespace Go.Proofs.YtkkpmhdhoppojaaGreatDoor
open Go.RowKit
set_option linter.unusedVariables false
set_option linter.unusedSimpArgs false
theorem rowV_set {α : Type} {V : α → List Value} {s : Nat} (hV : ∀ a, (V a).length = s) : ∀ (l : List α) (j i : Nat) (a a' : α) (u : Value), l[j]? = some a → i < s → V a' = (V a).set i u → rowV V (l.set j a') = (rowV V l).set (j * s + i) u
  | [], j, i, a, a', u, h, _, _ => by cases h
  | x :: l, 0, i, a, a', u, h, hi, hv => by
    obtain rfl : x = a := Option.some.inj h
    show V a' ++ rowV V l = (V x ++ rowV V l).set (0 * s + i) u
    rw [Nat.zero_mul, Nat.zero_add, List.set_append_left _ _ (by rw [hV]; exact hi), hv]
  | x :: l, j + 1, i, a, a', u, h, hi, hv => by
    have ih := rowV_set hV l j i a a' u h hi hv
    show V x ++ rowV V (l.set j a') = (V x ++ rowV V l).set ((j + 1) * s + i) u
    rw [ih, List.set_append_right _ _ (by rw [hV, Nat.succ_mul]; omega), hV]
    congr 2
    rw [Nat.succ_mul]
    omega
theorem own_setV {α : Type} {V : α → List Value} {s : Nat} (hV : ∀ a, (V a).length = s) {w : World} {B T g n cap : Nat} {l : List α} (h : OwnR V s w B T (.slice (some ⟨g, 0, none⟩) n cap) l) (j i : Nat) (a a' : α) (u : Value) (hj : l[j]? = some a) (hi : i < s) (hv : V a' = (V a).set i u) :
    OwnR V s (w.setCell ⟨g, j * s + i, none⟩ u) B T (.slice (some ⟨g, 0, none⟩) n cap) (l.set j a') := by
  have h1 := h.1
  rcases h.2 with ⟨e, _⟩ | ⟨g', cap', cur, e, hbg, hh, hnc, hcm, hcs, ht⟩
  · cases e
  · injection e with e1 e2 e3
    injection e1 with e1
    injection e1 with e1 _ _
    subst e1 e2 e3
    unfold OwnR
    rw [List.length_set]
    refine ⟨by rw [rowV_len hV, List.length_set], .inr ⟨g, cap, cur.setIfInBounds (j * s + i) u, rfl, hbg, Blk.set_ hh (j * s + i) u, hnc, hcm, by rw [Array.size_setIfInBounds]; exact hcs, ?_⟩⟩
    rw [Array.toList_setIfInBounds, List.take_set, ht, rowV_set hV l j i a a' u hj hi hv]
def numRep (r : RepB) : Prop := -9223372036854775808 ≤ r.most ∧ r.most ≤ 9223372036854775807
def repsL (S : List RepB) (j : Nat) : List RepB := (S.take j).map fun r => ⟨r.fail, r.most.tmod 6⟩
theorem repsL_next (S : List RepB) (j : Nat) (r : RepB) (h : S[j]? = some r) : repsL S (j + 1) = repsL S j ++ [⟨r.fail, r.most.tmod 6⟩] := by
  unfold repsL
  rw [List.take_add_one, h, List.map_append]
  rfl
theorem repsL_len (S : List RepB) (j : Nat) : (repsL S j).length ≤ j := by unfold repsL; rw [List.length_map, List.length_take]; omega
theorem tmod6 (z : Int) (h : -9223372036854775808 ≤ z ∧ z ≤ 9223372036854775807) : -5 ≤ z.tmod 6 ∧ z.tmod 6 ≤ 5 := by
  rcases Int.le_total 0 z with g | g
  · rw [Int.tmod_eq_emod_of_nonneg g]; omega
  · have e : z.tmod 6 = -((-z) % 6) := by
      rw [← Int.tmod_eq_emod_of_nonneg (by omega), Int.neg_tmod, Int.neg_neg]
    rw [e]; omega
set_option maxRecDepth 100000 in
set_option maxHeartbeats 1600000 in
theorem replies_any (A : Option Addr) (n c : Nat) (S : List RepB) (hn : n ≤ 9223372036854775807) (W : World) (h : RowR RepB.V 2 W A n S) (hs : ∀ r ∈ S, numRep r) :
    Calls Tryz.prog 9 #[.slice A n c] W fun e w' => ∃ v, e = .returned v ∧ OwnR RepB.V 2 w' W.heap.size 32 v (repsL S 10) ∧ Below W.heap.size W w' := by
  obtain ⟨i0, hinf, hi0, hi1, hi2⟩ := info_parts infoReply
  have H1 := Lib.hid h
  have LN := Lib.hid h.1
  have HS := Lib.hid hs
  have OR0 := Lib.hid (OwnR.nil (V := RepB.V) (s := 2) W W.heap.size 32)
  have HB0 := Lib.hid (Below.refl W.heap.size W)
  clear h hs
  go_enter Tryz.func9, Tryz.ntmps9
  go_wp2
  go_loopw [3, 4] (fun sv iv wr => ∃ j : Nat, j ≤ n ∧ j ≤ 10 ∧ iv = .int .i64 (j : Nat) ∧ Hid (OwnR RepB.V 2 wr W.heap.size 32 sv (repsL S j)) ∧ Hid (Below W.heap.size W wr)) (fun _ iv _ => 10 - (intOf iv).toNat)
  case atStart => exact ⟨0, Nat.zero_le _, Nat.zero_le _, rfl, OR0, HB0⟩
  case round =>
    clear OR0 HB0
    obtain ⟨j, hjn, hj10, rfl, OR, HB⟩ := hrel
    by_cases hj : j < n ∧ j < 10
    · obtain ⟨q1, q2⟩ := hj
      have jI : (j : Int) < (n : Int) := by omega
      have jT : (j : Int) < 10 := by omega
      obtain ⟨r, hr⟩ : ∃ r, S[j]? = some r := ⟨_, List.getElem?_eq_getElem (by rw [LN.out]; exact q1)⟩
      have NX := Lib.hid (repsL_next S j r hr)
      have hm := HS.out r (List.mem_of_getElem? hr)
      have ht := tmod6 r.most hm
      obtain ⟨b1, o1, hA, hlt, hcc⟩ := (H1.out.below HB.out).2 (by omega)
      subst hA
      have r0_ : wr.cell? ⟨b1, o1 + j * 2, none⟩ = some (.bool r.fail) := (hcc j 0 _ hr (by decide)).trans rfl
      have r1_ : wr.cell? ⟨b1, o1 + j * 2 + 1, none⟩ = some (.int .i64 r.most) := (hcc j 1 _ hr (by decide)).trans rfl
      obtain ⟨f, m⟩ := r
      dsimp only at r0_ r1_ NX ht hm
      obtain ⟨z, hz⟩ : ∃ z, m.tmod 6 = z := ⟨_, rfl⟩
      have hz1 : IntKind.i64.wrap z = z := by rw [IntKind.wrap_i64]; omega
      rw [hz] at NX ht
      have hl10 := repsL_len S j
      obtain ⟨Lj, hLj⟩ : ∃ L, repsL S j = L := ⟨_, rfl⟩
      rw [hLj] at NX OR hl10
      obtain ⟨q, hq⟩ : ∃ q, Lj.length = q := ⟨_, rfl⟩
      have HQ := Lib.hid hq
      have hq10 : q ≤ 10 := by omega
      have e2 : (wr.alloc (.cells #[.bool f, .int .i64 z] 32)).heap.size = wr.heap.size + 1 := by simp
      have KN := Lib.hid (show Blk ((wr.alloc (.cells #[.bool f, .int .i64 z] 32)).alloc (.cells #[.bool f, .int .i64 z] 32)) (wr.heap.size + 1) 32 #[.bool f, .int .i64 z] from by
        have h := Blk.new (wr.alloc (.cells #[.bool f, .int .i64 z] 32)) 32 #[.bool f, .int .i64 z]
        rwa [e2] at h)
      have OR3 := Lib.hid (OwnR.alloc (OwnR.alloc OR.out (.cells #[.bool f, .int .i64 z] 32)) (.cells #[.bool f, .int .i64 z] 32))
      have HB3 := Lib.hid ((HB.out.alloc HB.out.size (.cells #[.bool f, .int .i64 z] 32)).alloc (by have := HB.out.size; simp; omega) (.cells #[.bool f, .int .i64 z] 32))
      have s3 : W.heap.size ≤ ((wr.alloc (.cells #[.bool f, .int .i64 z] 32)).alloc (.cells #[.bool f, .int .i64 z] 32)).heap.size := HB3.out.size
      have UL := Lib.hid (fun r_ hr_ => (World.ownsRow.lt OR.out r_ hr_).1)
      clear hcc hr hm hLj hq e2 OR HB
      go_wp2_with (at_builtin; refine wpList_append_lies _ rfl (.tmp 24) (.tmp 26) 23 rfl W.heap.size 32 i0 (.agg #[.bool false, .int .i64 0]) 2 16 Tryz.underlying23 hinf hi0 hi1 hi2 rfl (by decide) _ _ _ rfl OR3.out ⟨wr.heap.size + 1, 0, none⟩ 1 1 (RepB.V ⟨f, z⟩) rfl rfl (World.news_of_block KN.out) (fun u hu => by simp only [RepB.V, List.mem_cons, List.not_mem_nil, or_false] at hu; rcases hu with rfl | rfl <;> rfl) (by decide) (by have := HQ.out; unfold maxLen; omega) (by have := HQ.out; omega) s3 _ rfl ?_)
      intro g2 cap2 w2 hown hgrow hg' hlt2
      have OR2 := Lib.hid (show OwnR RepB.V 2 w2 W.heap.size 32 (.slice (some ⟨g2, 0, none⟩) (Lj.length + 1) cap2) (repsL S (j + 1)) from by
        rw [NX.out]
        exact OwnR.snoc hown)
      have HB2 := Lib.hid (HB3.out.grown hgrow s3 (fun r_ hr_ => UL.out r_ hr_))
      clear hown hgrow hg' hlt2 KN OR3 HB3 s3
      go_wp2
      go_round
      case rel => exact ⟨j + 1, by omega, by omega, by go_num, OR2, HB2⟩
      case measure => first | (simp [intOf]; done) | (simp [intOf]; omega)
    · have hends : (¬ (j : Int) < (n : Int)) ∨ ((j : Int) < (n : Int) ∧ ¬ (j : Int) < 10) := by omega
      have hfin := Lib.hid (show repsL S 10 = repsL S j by
        rcases (by omega : j = 10 ∨ j = n) with e | e
        · rw [e]
        · unfold repsL
          rw [List.take_of_length_le (by rw [LN.out]; omega), List.take_of_length_le (by rw [LN.out]; omega)])
      rcases hends with e1 | ⟨e1, e2⟩
      all_goals
        go_wp2
        go_ret
        exact ⟨_, rfl, by rw [hfin.out]; exact OR.out, HB.out⟩
end Go.Proofs.YtkkpmhdhoppojaaGreatDoor
