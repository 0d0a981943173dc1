-- shaken
import Derived.Test.YtdaainifkldcpaaGreatDoorBackOpen
import Derived.Test.YtdaainifkldcpaaGreatDoorStoNone
namespace Go.Proofs.YtdaainifkldcpaaGreatDoor
open Go.RowKit
set_option linter.unusedVariables false
set_option linter.unusedSimpArgs false
def repsF (S : List RepB) (j : Nat) : List RepB := (S.take j).map fun r => ⟨r.fail, r.most.tmod 5⟩
theorem repsF_next (S : List RepB) (j : Nat) (r : RepB) (h : S[j]? = some r) : repsF S (j + 1) = repsF S j ++ [⟨r.fail, r.most.tmod 5⟩] := by
  unfold repsF
  rw [List.take_add_one, h, List.map_append]
  rfl
theorem repsF_len (S : List RepB) (j : Nat) : (repsF S j).length ≤ j := by unfold repsF; rw [List.length_map, List.length_take]; omega
theorem tmod5b (z : Int) (h : -9223372036854775808 ≤ z ∧ z ≤ 9223372036854775807) : -4 ≤ z.tmod 5 ∧ z.tmod 5 ≤ 4 := by
  rcases Int.le_total 0 z with g | g
  · rw [Int.tmod_eq_emod_of_nonneg g]; omega
  · have e : z.tmod 5 = -((-z) % 5) := by
      rw [← Int.tmod_eq_emod_of_nonneg (by omega), Int.neg_tmod, Int.neg_neg]
    rw [e]; omega
set_option maxRecDepth 100000 in
set_option maxHeartbeats 1600000 in
theorem backend_any (B : Nat) (x : BackX) (W : World) (hB : B ≤ W.heap.size) (h : GoodB B W x) :
    Calls Tryz.prog 22 #[.agg x.V.toArray] W fun e w' => ∃ v L rv, e = .returned (.tuple #[v, rv]) ∧ OwnE B w' W.heap.size v L ∧ L.map EntX.b = itemsB x.l 8 ∧ OwnR RepB.V 2 w' W.heap.size 85 rv (repsF x.S 10) ∧ Below W.heap.size W w' := by
  obtain ⟨LA, Ln, Lc, l, A, n, c, S⟩ := x
  obtain ⟨q1, q2, q3, q4, q5, q6, q7⟩ := h
  dsimp only at q1 q2 q3 q4 q5 q6 q7
  unfold maxLen at q3 q7
  have hn : n ≤ 9223372036854775807 := by omega
  have hLn : Ln ≤ 9223372036854775807 := by omega
  obtain ⟨i0, hinf, hi0, hi1, hi2⟩ := info_parts infoReply
  obtain ⟨gb, hgb⟩ : ∃ g, W.heap.size = g := ⟨_, rfl⟩
  obtain ⟨V, hV⟩ : ∃ z, W.alloc (.cells #[.slice LA Ln Lc, .slice A n c] 81) = z := ⟨_, rfl⟩
  have HV := Lib.hid (show Below W.heap.size W V from by rw [← hV]; exact (Below.refl _ _).alloc (Nat.le_refl _) _)
  have KB := Lib.hid (show Blk V gb 81 #[.slice LA Ln Lc, .slice A n c] from by rw [← hV, ← hgb]; exact Blk.new _ _ _)
  have HBV := Lib.hid (Nat.le_trans hB HV.out.size)
  have H1 := Lib.hid (q4.below HV.out)
  have H2 := Lib.hid (q1.below HV.out)
  have LN := Lib.hid q4.1
  have HS := Lib.hid q5
  have OR0 := Lib.hid (OwnR.nil (V := RepB.V) (s := 2) V V.heap.size 85)
  have HB0 := Lib.hid (Below.refl V.heap.size V)
  clear q1 q2 q3 q4 q5 q6 q7 hB
  show Calls Tryz.prog 22 #[.agg #[.slice LA Ln Lc, .slice A n c]] W _
  go_enter Tryz.func22, Tryz.ntmps22
  go_wp2
  clear hV hgb
  go_loopw [4, 5] (fun sv iv wr => ∃ j : Nat, j ≤ n ∧ j ≤ 10 ∧ iv = .int .i64 (j : Nat) ∧ Hid (OwnR RepB.V 2 wr V.heap.size 85 sv (repsF S j)) ∧ Hid (Below V.heap.size V wr)) (fun _ iv _ => 10 - (intOf iv).toNat)
  case atStart => exact ⟨0, Nat.zero_le _, Nat.zero_le _, rfl, OR0, HB0⟩
  case round =>
    clear OR0 HB0
    obtain ⟨j, hjn, hj10, rfl, OR, HB⟩ := hrel
    have KW := KB.out.below HB.out KB.out.lt
    have k1_ : wr.cell? ⟨gb, 1, none⟩ = some (.slice A n c) := (KW.cell 1).trans rfl
    by_cases hj : j < n ∧ j < 10
    · obtain ⟨q1, q2⟩ := hj
      have jI : (j : Int) < (n : Int) := by omega
      have jT : (j : Int) < 10 := by omega
      obtain ⟨r, hr⟩ : ∃ r, S[j]? = some r := ⟨_, List.getElem?_eq_getElem (by rw [LN.out]; exact q1)⟩
      have NX := Lib.hid (repsF_next S j r hr)
      have hm := HS.out r (List.mem_of_getElem? hr)
      have ht := tmod5b r.most hm
      obtain ⟨b1, o1, hA, hlt, hcc⟩ := (H1.out.below HB.out).2 (by omega)
      subst hA
      have r0_ : wr.cell? ⟨b1, o1 + j * 2, none⟩ = some (.bool r.fail) := (hcc j 0 _ hr (by decide)).trans rfl
      have r1_ : wr.cell? ⟨b1, o1 + j * 2 + 1, none⟩ = some (.int .i64 r.most) := (hcc j 1 _ hr (by decide)).trans rfl
      obtain ⟨f, m⟩ := r
      dsimp only at r0_ r1_ NX ht hm
      obtain ⟨z, hz⟩ : ∃ z, m.tmod 5 = z := ⟨_, rfl⟩
      have hz1 : IntKind.i64.wrap z = z := by rw [IntKind.wrap_i64]; omega
      rw [hz] at NX ht
      have hl10 := repsF_len S j
      obtain ⟨Lj, hLj⟩ : ∃ L, repsF S j = L := ⟨_, rfl⟩
      rw [hLj] at NX OR hl10
      obtain ⟨q, hq⟩ : ∃ q, Lj.length = q := ⟨_, rfl⟩
      have HQ := Lib.hid hq
      have hq10 : q ≤ 10 := by omega
      have e2 : (wr.alloc (.cells #[.bool f, .int .i64 z] 85)).heap.size = wr.heap.size + 1 := by simp
      have KN := Lib.hid (show Blk ((wr.alloc (.cells #[.bool f, .int .i64 z] 85)).alloc (.cells #[.bool f, .int .i64 z] 85)) (wr.heap.size + 1) 85 #[.bool f, .int .i64 z] from by
        have h := Blk.new (wr.alloc (.cells #[.bool f, .int .i64 z] 85)) 85 #[.bool f, .int .i64 z]
        rwa [e2] at h)
      have OR3 := Lib.hid (OwnR.alloc (OwnR.alloc OR.out (.cells #[.bool f, .int .i64 z] 85)) (.cells #[.bool f, .int .i64 z] 85))
      have HB3 := Lib.hid ((HB.out.alloc HB.out.size (.cells #[.bool f, .int .i64 z] 85)).alloc (by have := HB.out.size; simp; omega) (.cells #[.bool f, .int .i64 z] 85))
      have s3 : V.heap.size ≤ ((wr.alloc (.cells #[.bool f, .int .i64 z] 85)).alloc (.cells #[.bool f, .int .i64 z] 85)).heap.size := HB3.out.size
      have UL := Lib.hid (fun r_ hr_ => (World.ownsRow.lt OR.out r_ hr_).1)
      clear hcc hr hm hLj hq e2 OR HB KW
      go_wp2_with (at_builtin; refine wpList_append_lies _ rfl (.tmp 27) (.tmp 29) 79 rfl V.heap.size 85 i0 (.agg #[.bool false, .int .i64 0]) 2 16 Tryz.underlying79 hinf hi0 hi1 hi2 rfl (by decide) _ _ _ rfl OR3.out ⟨wr.heap.size + 1, 0, none⟩ 1 1 (RepB.V ⟨f, z⟩) rfl rfl (World.news_of_block KN.out) (fun u hu => by simp only [RepB.V, List.mem_cons, List.not_mem_nil, or_false] at hu; rcases hu with rfl | rfl <;> rfl) (by decide) (by have := HQ.out; unfold maxLen; omega) (by have := HQ.out; omega) s3 _ rfl ?_)
      intro g2 cap2 w2 hown hgrow hg' hlt2
      have OR2 := Lib.hid (show OwnR RepB.V 2 w2 V.heap.size 85 (.slice (some ⟨g2, 0, none⟩) (Lj.length + 1) cap2) (repsF S (j + 1)) from by
        rw [NX.out]
        exact OwnR.snoc hown)
      have HB2 := Lib.hid (HB3.out.grown hgrow s3 (fun r_ hr_ => UL.out r_ hr_))
      clear hown hgrow hg' hlt2 KN OR3 HB3 s3
      go_wp2
      go_round
      case rel => exact ⟨j + 1, by omega, by omega, by go_num, OR2, HB2⟩
      case measure => first | (simp [intOf]; done) | (simp [intOf]; omega)
    · have hends : (¬ (j : Int) < (n : Int)) ∨ ((j : Int) < (n : Int) ∧ ¬ (j : Int) < 10) := by omega
      have hfin := Lib.hid (show repsF S 10 = repsF S j by
        rcases (by omega : j = 10 ∨ j = n) with e | e
        · rw [e]
        · unfold repsF
          rw [List.take_of_length_le (by rw [LN.out]; omega), List.take_of_length_le (by rw [LN.out]; omega)])
      have k0_ : wr.cell? ⟨gb, 0, none⟩ = some (.slice LA Ln Lc) := (KW.cell 0).trans rfl
      have ITM := Lib.hid (items_any B LA Ln Lc 8 l hLn (by decide) wr (Nat.le_trans HBV.out HB.out.size) (H2.out.below HB.out))
      clear KW
      have hwv := HV.out.size
      rcases hends with e1 | ⟨e1, e2⟩
      all_goals
        go_wp2_with fail
        refine ITM.out.mono ?_
        rintro e w5 ⟨v, L, rfl, ho, hlb, hb⟩
        have OR5 := Lib.hid (OwnR.below OR.out hb)
        have HB5 := Lib.hid (hop HB.out (Nat.le_refl _) hb)
        have HO := Lib.hid ho
        have HL := Lib.hid hlb
        clear ho hlb hb k0_ k1_ ITM OR
        go_wp2
        go_ret2
        exact ⟨_, L, _, rfl, OwnE.mono HO.out (Nat.le_refl _) (Nat.le_trans hwv HB.out.size), HL.out, by rw [hfin.out]; exact OwnR.mono OR5.out hwv, HV.out.trans (HB5.out.mono hwv)⟩
end Go.Proofs.YtdaainifkldcpaaGreatDoor
