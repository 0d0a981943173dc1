/- The document's set of a line: the walk of its Of. -/
import Derived.Test.YtimmfmgnjpcdoaaLogRefAll
import Derived.Test.YtimmfmgnjpcdoaaLogOf
import Derived.Test.YtimmfmgnjpcdoaaRefOf7
import Derived.Test.YtimmfmgnjpcdoaaRefOfEq
namespace Go.Proofs.Ytimmfmgnjpcdoaa
open Go.RowKit
set_option linter.unusedVariables false
set_option linter.unusedSimpArgs false

theorem rev_nextQ (s : List PairB) (q : Nat) (h : q < s.length) : (s.drop q).reverse = (s.drop (q + 1)).reverse ++ [s.getD q pnil] := by
  rw [List.drop_eq_getElem_cons h, List.reverse_cons, List.getD_eq_getElem?_getD, List.getElem?_eq_getElem h]
  rfl
theorem OwnQ.capL {w : World} {B : Nat} {v : Value} {l : List PairB} (h : OwnQ w B v l) : ∃ A m cap, v = .slice A m cap ∧ m = l.length ∧ m ≤ cap ∧ (A = none → m = 0 ∧ cap = 0) ∧ Pairs w A m l := by
  obtain ⟨A, cap, rfl, hc, hn, hp⟩ := h.pairs
  exact ⟨A, _, cap, rfl, rfl, hc, hn, hp⟩
set_option maxRecDepth 100000 in
set_option maxHeartbeats 1600000 in
theorem refLogOf_any (t : ByteArray) (hs : t.size ≤ 16000000) (W : World) :
    Calls Try.prog 15 #[.string t] W fun e w' => ∃ A m k, e = .returned (.slice A m k) ∧ Hid (Pairs w' A m (ofF t)) ∧ Below W.heap.size W w' := by
  have h0 : W.heap.size ≤ W.heap.size := Nat.le_refl _
  obtain ⟨i0, hinf, hz0, hz1, hz2⟩ := info_parts infoPair6
  have AL := Lib.hid (refAll_any t hs W)
  have HLN := Lib.hid (allF_len t)
  obtain ⟨s, hl⟩ : ∃ l, allF t = l := ⟨_, rfl⟩
  replace AL := AL.out
  replace HLN := HLN.out
  rw [hl] at AL HLN
  have HE := Lib.hid (show ofF t = (ofL s.reverse).take 16 by unfold ofF; rw [hl])
  replace AL := Lib.hid AL
  clear hl
  go_enter Try.func15, Try.ntmps15
  go_wp2_with fail
  refine AL.out.mono ?_
  rintro e w1 ⟨v, rfl, hown, hb1⟩
  obtain ⟨A1, m, c1, rfl, hm, _, _, hp⟩ := hown.capL
  have HP := Lib.hid hp
  have HB1 := Lib.hid hb1
  have HSL := Lib.hid (show s.length = m from hm.symm)
  have hm64 : m ≤ 64 := by omega
  obtain ⟨z, hz⟩ : ∃ z : Int, z = (m : Int) - 1 := ⟨_, rfl⟩
  have hzI : (m : Int) - 1 = z := hz.symm
  have hzW : IntKind.i64.wrap z = z := by rw [IntKind.wrap_i64]; omega
  have HZ := Lib.hid hz
  clear hown hp hb1 hm hz AL HLN
  go_wp2
  clear hzI hzW
  go_loopw [4, 5] (fun bv iv wr => ∃ (k : Nat) (z : Int), iv = .int .i64 z ∧ Hid (z = (k : Int) - 1) ∧ k ≤ m ∧ Hid (OwnQ wr w1.heap.size bv ((s.drop k).reverse)) ∧ Hid (Below w1.heap.size w1 wr)) (fun _ iv _ => (intOf iv + 1).toNat)
  case atStart => exact ⟨m, z, rfl, HZ, Nat.le_refl _, Lib.hid (by rw [List.drop_of_length_le (by rw [HSL.out]; exact Nat.le_refl _)]; exact OwnR.nil _ _ _), Lib.hid (Below.refl _ _)⟩
  case round =>
    clear HZ
    obtain ⟨k, z, rfl, HZ, hkm, HO, HB⟩ := hrel
    rcases Nat.eq_zero_or_pos k with hk | hk
    · obtain rfl : z = -1 := by have := HZ.out; omega
      have HO2 := Lib.hid (show OwnQ wr w1.heap.size _ s.reverse from by
        have h1 := HO.out
        rw [hk, List.drop_zero] at h1
        exact h1)
      have HB2 := Lib.hid (hop HB1.out h0 HB.out)
      obtain ⟨A2, m2, c2, rfl, hm2, _, hA2, hp2⟩ := HO2.out.capL
      have hm2b : m2 ≤ 64 := by rw [hm2, List.length_reverse, HSL.out]; exact hm64
      have OF := refOf_any A2 m2 c2 s.reverse (by omega) wr hp2
      rw [refOfL_is] at OF
      have HLL := Lib.hid (show (ofL s.reverse).length ≤ 64 by have := ofLen s.reverse; rw [List.length_reverse, HSL.out] at this; omega)
      obtain ⟨q, hq⟩ : ∃ q, ofL s.reverse = q := ⟨_, rfl⟩
      replace HLL := HLL.out
      replace HE := HE.out
      rw [hq] at OF HLL HE
      replace HE := Lib.hid HE
      replace OF := Lib.hid OF
      clear HO HO2 hk hkm HB hm2 hA2 hp2 hq
      go_wp2_with fail
      refine OF.out.mono ?_
      rintro e w3 ⟨v, rfl, hown, hx⟩
      have HB3 := Lib.hid (hop HB2.out h0 hx)
      obtain ⟨A3, m3, c3, rfl, hm3, hlc, hA, hp⟩ := hown.capL
      have hm64 : m3 ≤ 64 := by omega
      obtain ⟨m4, hm4⟩ : ∃ m2, m2 = min m3 16 := ⟨_, rfl⟩
      have hmm : (m3 < 16 ∧ m4 = m3) ∨ (16 ≤ m3 ∧ m4 = 16) := by omega
      have HP3 := Lib.hid (hp.less (m := m4) (by omega))
      have HA := Lib.hid hA
      have HT := Lib.hid (show q.take m4 = q.take 16 by
        rcases hmm with ⟨h1, h2⟩ | ⟨h1, h2⟩
        · rw [h2, List.take_of_length_le (by omega), List.take_of_length_le (by omega)]
        · rw [h2])
      clear hx hown hp hA hm4 hm3 OF HLL
      rcases A3 with _ | ad
      · obtain ⟨h1, h2⟩ := HA.out rfl
        subst h1
        subst h2
        obtain rfl : m4 = 0 := by omega
        clear hmm
        go_wp2
        go_ret
        exact ⟨none, 0, 0, by first | rfl | trivial, by rw [HE.out, ← HT.out]; exact HP3, HB3.out⟩
      · rcases hmm with ⟨h1, h2⟩ | ⟨h1, h2⟩
        · have h1I : (m3 : Int) ≤ 16 := by omega
          have h1J : (m3 : Int) < 16 := by omega
          have h3 : (m3 : Int) ≤ (c3 : Int) := by omega
          subst h2
          have hmin : min (m4 : Int) 16 = (m4 : Int) := by omega
          go_wp2
          go_ret
          exact ⟨some ad, m4, c3, by first | rfl | trivial, by rw [HE.out, ← HT.out]; exact HP3, HB3.out⟩
        · have h1I : ¬ (m3 : Int) < 16 := by omega
          have h1J : (16 : Int) ≤ (m3 : Int) := by omega
          have h3 : (16 : Int) ≤ (c3 : Int) := by omega
          subst h2
          have hmin : min (m3 : Int) 16 = 16 := by omega
          go_wp2
          go_ret
          exact ⟨some ad, 16, c3, by first | rfl | trivial, by first | (rw [HE.out, ← HT.out]; exact HP3) | (rw [HE.out]; exact HP3), HB3.out⟩
    · obtain ⟨q, rfl⟩ : ∃ q, k = q + 1 := ⟨k - 1, by omega⟩
      obtain rfl : z = (q : Int) := by have := HZ.out; omega
      have hb := HB.out
      have hsz := hb.size
      have hp6 := HP.out.below hb
      obtain ⟨b1, o1, rfl, hlt1, hc1⟩ := hp6.2 (by omega)
      obtain ⟨e1, e2⟩ := hc1 q (by omega)
      obtain ⟨⟨p1, p2⟩, hp⟩ : ∃ p, s.getD q pnil = p := ⟨_, rfl⟩
      rw [hp] at e1 e2
      dsimp only at e1 e2
      have HNX := Lib.hid (show (s.drop q).reverse = (s.drop (q + 1)).reverse ++ [(p1, p2)] from by rw [rev_nextQ s q (by rw [HSL.out]; omega), hp])
      obtain ⟨L, hL⟩ : ∃ L, (s.drop (q + 1)).reverse = L := ⟨_, rfl⟩
      have hLl : L.length ≤ 64 := by rw [← hL, List.length_reverse, List.length_drop, HSL.out]; omega
      have hown := HO.out
      rw [hL] at hown
      have HNX2 := Lib.hid (show (s.drop q).reverse = L ++ [(p1, p2)] from by rw [HNX.out, hL])
      have hqm : (q : Int) < (m : Int) := by omega
      have hwq : IntKind.i64.wrap ((q : Int) - 1) = (q : Int) - 1 := by rw [IntKind.wrap_i64]; omega
      clear hp6 hc1 hp hL HNX HO hk HZ
      unfold OwnQ OwnR at hown
      go_wp2_with (at_builtin; refine wpList_append_own _ rfl (.tmp 16) (.tmp 21) 30 rfl w1.heap.size 54 i0 (.agg #[.string ⟨#[]⟩, .string ⟨#[]⟩]) 2 32 Try.underlying30 hinf hz0 hz1 hz2 rfl (by decide) _ _ _ rfl (World.ownsRow.alloc hown _) ⟨wr.heap.size, 0, none⟩ 1 1 (pairV (p1, p2)) rfl rfl (new_cells_at _ _ _ _ (by simp)) (pairV_one _) (by unfold maxLen; omega) (by omega) (by simp; omega) ?_)
      intro v' w4 hown' hgrow _
      have hb3 := Lib.hid ((hb.alloc hsz (.cells #[.string p1, .string p2] 54)).grown hgrow (by simp; omega) (fun r hr => (World.ownsRow.lt hown r hr).1))
      have hown3 := Lib.hid (show OwnQ w4 w1.heap.size v' ((s.drop q).reverse) from by rw [HNX2.out]; exact OwnR.snoc (a := ((p1, p2) : PairB)) hown')
      clear hown' hgrow hown hb hsz
      go_wp2
      go_round
      case rel => exact ⟨q, (q : Int) - 1, by first | rfl | go_num, Lib.hid rfl, by omega, hown3, hb3⟩
      case measure => simp [intOf]
end Go.Proofs.Ytimmfmgnjpcdoaa
