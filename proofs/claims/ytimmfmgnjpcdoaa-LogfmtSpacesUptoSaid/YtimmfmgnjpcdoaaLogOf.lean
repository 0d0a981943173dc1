/- The set of the fields of a line: the walk of Of. -/
import Derived.Test.YtimmfmgnjpcdoaaLogAll
import Derived.Test.YtimmfmgnjpcdoaaSymRev
import Derived.WalkSpells
namespace Go.Proofs.Ytimmfmgnjpcdoaa
open Go.RowKit Go.Sort Sy
set_option linter.unusedVariables false
set_option linter.unusedSimpArgs false

theorem own_none (w : World) (B : Nat) (g : Nat) (T : TypeId) (h : Blk w g T #[]) (hB : B ≤ g) : w.ownsRow B T 2 (.slice (some ⟨g, 0, none⟩) 0 0) 0 [] :=
  ⟨rfl, .inr ⟨g, 0, #[], rfl, hB, h, Nat.le_refl _, Nat.zero_le _, rfl, rfl⟩⟩
theorem Pairs.cells {w : World} {A : Option Addr} {n : Nat} {l : List PairB} (h : Pairs w A n l) (c : Nat) (hA : A = none → n = 0 ∧ c = 0) : (A = none ∧ n = 0 ∧ c = 0) ∨ ∃ ad, A = some ad ∧ ∀ w', Below w.heap.size w w' → ∀ t u, (pVs l)[t]? = some u → w'.cell? (ad.add t) = some u := by
  rcases (h.src c hA).2 with h1 | ⟨ad, rfl, h2⟩
  · exact .inl h1
  · refine .inr ⟨ad, rfl, fun w' hb => ?_⟩
    rcases ((h.below hb).src c hA).2 with ⟨h1, _⟩ | ⟨ad2, h3, h4⟩
    · cases h1
    · cases h3
      exact h4
theorem OwnP.capL {w : World} {B : Nat} {v : Value} {l : List PairB} (h : OwnP w B v l) : ∃ A m cap, v = .slice A m cap ∧ m = l.length ∧ (A = none → m = 0 ∧ cap = 0) ∧ Pairs w A m l := by
  rcases h.row with ⟨rfl, rfl⟩ | ⟨g, cap, rfl, _, hg, hc, hr⟩
  · exact ⟨none, 0, 0, rfl, rfl, fun _ => ⟨rfl, rfl⟩, pairs_none w⟩
  · exact ⟨_, _, cap, rfl, rfl, fun e => (by cases e), hr.pairs hg⟩
set_option maxHeartbeats 800000 in
theorem clone_any (A : Option Addr) (n c : Nat) (l : List PairB) (hn : n ≤ 1000) (W : World) (h : Pairs W A n l) (hA : A = none → n = 0 ∧ c = 0) :
    Calls Try.prog 31 #[.slice A n c] W fun e w' => ∃ B k, e = .returned (.slice B n k) ∧ Hid (Pairs w' B n l) ∧ Hid (B = none → n = 0 ∧ k = 0) ∧ Below W.heap.size W w' := by
  obtain ⟨i0, hinf, hz0, hz1, hz2⟩ := info_parts infoPair
  have hl := h.1
  rcases h.cells c hA with ⟨rfl, rfl, rfl⟩ | ⟨ad, rfl, HC⟩
  · have HP := Lib.hid h
    have hnil : ∀ w, (binOp .eql 32 (.slice none 0 0) (.slice none 0 0)).run Try.prog w = .ok (.bool true) w := fun w => Lib.run_eql_slice_nil w _ _ none 0 0 0 0 Try.underlying32
    clear h hA hl
    go_enter Try.func31, Try.ntmps31
    go_wp2
    go_ret
    exact ⟨none, 0, by first | rfl | trivial, HP, Lib.hid (fun _ => ⟨by trivial, by trivial⟩), Below.refl _ _⟩
  · have HLN := Lib.hid (show (pVs l).length = n * 2 by rw [pVs_len, hl])
    have HL := Lib.hid hl
    have HB := Lib.hid (own_none (W.alloc (.cells #[] 39)) W.heap.size W.heap.size 39 (Blk.new W _ #[]) (Nat.le_refl _))
    have HA2 := Lib.hid (HC (W.alloc (.cells #[] 39)) ((Below.refl _ _).alloc (Nat.le_refl _) _))
    have hnil : ∀ w, (binOp .eql 32 (.slice (some ad) n c) (.slice none 0 0)).run Try.prog w = .ok (.bool false) w := fun w => Lib.run_eql_slice_nil w _ _ (some ad) n c 0 0 Try.underlying32
    clear h hA hl HC
    go_enter Try.func31, Try.ntmps31
    go_wp2_with (at_builtin; refine wpList_append_own _ rfl (.tmp 5) (.tmp 6) 32 rfl W.heap.size 39 i0 (.agg #[.string ⟨#[]⟩, .string ⟨#[]⟩]) 2 32 Try.underlying32 hinf hz0 hz1 hz2 rfl (by decide) _ _ _ rfl HB.out ad n c (pVs l) rfl HLN.out HA2.out (pVs_one _) (by unfold maxLen; omega) (by omega) (by simp) ?_)
    intro v' w4 hown' hgrow _
    have ho : OwnP w4 W.heap.size v' l := by
      unfold OwnP
      rw [HL.out]
      simpa using hown'
    have hb := ((Below.refl W.heap.size W).alloc (Nat.le_refl _) (.cells #[] 39)).grown hgrow (by simp) (fun r hr => (World.ownsRow.lt HB.out r hr).1)
    have HE := Lib.hid (show ∃ B k, v' = .slice B n k ∧ Pairs w4 B n l ∧ (B = none → n = 0 ∧ k = 0) from by
      obtain ⟨B, m, k, rfl, hm, hA, hp⟩ := OwnP.capL ho
      rw [HL.out] at hm
      subst hm
      exact ⟨B, k, rfl, hp, hA⟩)
    have HB2 := Lib.hid hb
    clear hown' hgrow ho hb
    go_wp2
    go_ret
    obtain ⟨B, k, rfl, hp, hA⟩ := HE.out
    exact ⟨_, _, rfl, Lib.hid hp, Lib.hid hA, HB2.out⟩
/-- the set of a line -/
def ofF (t : ByteArray) : List PairB := (ofL (allF t).reverse).take 16
theorem allR_len (t : ByteArray) : ∀ f k m, (allR t f k m).length ≤ m
  | 0, k, m => Nat.zero_le _
  | f + 1, k, m => by
    rw [allR_succ]
    split
    · exact Nat.zero_le _
    · split
      · exact Nat.zero_le _
      · split
        · rw [List.length_cons]
          have := allR_len t f (by assumption) (m - 1)
          omega
        · exact allR_len t f _ m
theorem allF_len (t : ByteArray) : (allF t).length ≤ 64 := allR_len t _ _ _
theorem ofLen (l : List PairB) : (ofL l).length ≤ l.length := by
  unfold ofL lastsL
  refine Nat.le_trans (keptTo_len _ _) ?_
  rw [sortL_length]
  exact List.length_filter_le _ _
set_option maxHeartbeats 1600000 in
theorem logOf_any (t : ByteArray) (hs : t.size ≤ 16000000) (W : World) :
    Calls Try.prog 14 #[.string t] W fun e w' => ∃ A m k, e = .returned (.slice A m k) ∧ m ≤ 16 ∧ Hid (Pairs w' A m (ofF t)) ∧ Hid (A = none → m = 0 ∧ k = 0) ∧ Below W.heap.size W w' := by
  have h0 : W.heap.size ≤ W.heap.size := Nat.le_refl _
  have AL := Lib.hid (all_any t hs W)
  have HLN := Lib.hid (allF_len t)
  obtain ⟨l, hl⟩ : ∃ l, allF t = l := ⟨_, rfl⟩
  replace AL := AL.out
  replace HLN := HLN.out
  rw [hl] at AL HLN
  have HE := Lib.hid (show ofF t = (ofL l.reverse).take 16 by unfold ofF; rw [hl])
  replace AL := Lib.hid AL
  clear hl
  go_enter Try.func14, Try.ntmps14
  go_wp2_with fail
  refine AL.out.mono ?_
  rintro e w1 ⟨v, rfl, hown, hb1⟩
  obtain ⟨A1, c1, hv, RV⟩ := reverse_any W.heap.size v l (by omega) w1 hown hb1.size
  subst hv
  obtain ⟨n, hn⟩ : ∃ n, l.length = n := ⟨_, rfl⟩
  rw [hn] at RV HLN ⊢
  replace RV := Lib.hid RV
  have HN := Lib.hid hn
  clear hown hn AL
  go_wp2_with fail
  refine RV.out.mono ?_
  rintro e w2 ⟨rfl, hp, hx⟩
  have hb2 := hb1.trans hx
  have OF := of_big A1 n c1 l.reverse (by omega) (Nat.le_trans (List.length_filter_le _ _) (by rw [List.length_reverse, HN.out]; omega)) w2 hp
  have HLL := Lib.hid (show (ofL l.reverse).length ≤ 64 by have := ofLen l.reverse; rw [List.length_reverse, HN.out] at this; omega)
  obtain ⟨s, hs2⟩ : ∃ s, ofL l.reverse = s := ⟨_, rfl⟩
  replace HLL := HLL.out
  rw [hs2] at OF HLL
  replace HE := HE.out
  rw [hs2] at HE
  replace HE := Lib.hid HE
  replace OF := Lib.hid OF
  have HB2 := Lib.hid hb2
  clear hx hb1 hb2 hp hs2 RV
  go_wp2_with fail
  refine OF.out.mono ?_
  rintro e w3 ⟨v, rfl, hown, hx⟩
  have hb3 := hop HB2.out h0 hx
  obtain ⟨A3, m, c3, rfl, hm, hA, hp⟩ := OwnP.capL hown
  have hm64 : m ≤ 64 := by omega
  obtain ⟨m2, hm2⟩ : ∃ m2, m2 = min m 16 := ⟨_, rfl⟩
  have hmm : (m < 16 ∧ m2 = m) ∨ (16 ≤ m ∧ m2 = 16) := by omega
  have hlc : m ≤ c3 := by
    rcases hown.row with ⟨e, _⟩ | ⟨g, cap, e, _, _, hc, _⟩
    · cases e
      omega
    · injection e with e1 e2 e3
      omega
  have HP := Lib.hid (hp.less (m := m2) (by omega))
  have HA := Lib.hid hA
  have HB3 := Lib.hid hb3
  have HT := Lib.hid (show s.take m2 = s.take 16 by
    rcases hmm with ⟨h1, h2⟩ | ⟨h1, h2⟩
    · rw [h2, List.take_of_length_le (by omega), List.take_of_length_le (by omega)]
    · rw [h2])
  clear hx hown hp hA hb3 hm2 hm OF
  rcases A3 with _ | ad
  · obtain ⟨h1, h2⟩ := HA.out rfl
    subst h1
    subst h2
    obtain rfl : m2 = 0 := by omega
    have CL := Lib.hid (clone_any none 0 0 (s.take 0) (by omega) w3 HP.out (fun _ => ⟨rfl, rfl⟩))
    clear hmm
    go_wp2_with fail
    refine CL.out.mono ?_
    rintro e w4 ⟨B, k, rfl, hp, hA, hx⟩
    have hb4 := hop HB3.out h0 hx
    clear hx CL
    go_wp2
    go_ret
    exact ⟨_, _, _, rfl, by omega, by first | (rw [HE.out, ← HT.out]; exact hp) | (rw [HE.out]; exact hp), Lib.hid (fun e => ⟨rfl, (hA.out e).2⟩), hb4⟩
  · have CL := Lib.hid (clone_any (some ad) m2 c3 (s.take m2) (by omega) w3 HP.out (fun e => by cases e))
    rcases hmm with ⟨h1, h2⟩ | ⟨h1, h2⟩
    · have h1I : (m : Int) ≤ 16 := by omega
      have h1J : (m : Int) < 16 := by omega
      have h3 : (m : Int) ≤ (c3 : Int) := by omega
      subst h2
      have hmin : min (m2 : Int) 16 = (m2 : Int) := by omega
      go_wp2_with fail
      refine CL.out.mono ?_
      rintro e w4 ⟨B, k, rfl, hp, hA, hx⟩
      have hb4 := hop HB3.out h0 hx
      clear hx CL
      go_wp2
      go_ret
      exact ⟨_, _, _, rfl, by omega, by first | (rw [HE.out, ← HT.out]; exact hp) | (rw [HE.out]; exact hp), hA, hb4⟩
    · have h1I : ¬ (m : Int) < 16 := by omega
      have h1J : (16 : Int) ≤ (m : Int) := by omega
      have h3 : (16 : Int) ≤ (c3 : Int) := by omega
      subst h2
      have hmin : min (m : Int) 16 = 16 := by omega
      go_wp2_with fail
      refine CL.out.mono ?_
      rintro e w4 ⟨B, k, rfl, hp, hA, hx⟩
      have hb4 := hop HB3.out h0 hx
      clear hx CL
      go_wp2
      go_ret
      exact ⟨_, _, _, rfl, by omega, by first | (rw [HE.out, ← HT.out]; exact hp) | (rw [HE.out]; exact hp), hA, hb4⟩
end Go.Proofs.Ytimmfmgnjpcdoaa
