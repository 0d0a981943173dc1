/- The document's own first part of a duration or a size. -/
import Derived.Test.YtehhmejpfglimaaDoorRefUnit
import Derived.Test.YtehhmejpfglimaaDoorRefParse
import Derived.Test.YtehhmejpfglimaaDoorUnitPart
namespace Go.Proofs.YtehhmejpfglimaaDoor
open Go.RowKit
set_option linter.unusedVariables false

theorem results_tmp4 {fn : Func} {t u v x : Tmp} (h : fn.results = #[.tmp t, .tmp u, .tmp v, .tmp x]) (tmps : Array Value) (P : Program) (w : World) :
    (results fn tmps).run P w = .ok (.tuple #[tmps.getD t undef, tmps.getD u undef, tmps.getD v undef, tmps.getD x undef]) w := by
  simp [results, h]
def partV (x : Option (Int × Nat × Nat)) : Value := match x with
  | none => .tuple #[.int .i64 0, .int .i64 0, .int .i64 0, .bool false]
  | some (n, i, d) => .tuple #[.int .i64 n, .int .i64 (i : Int), .int .i64 (d : Int), .bool true]
def notD (c : UInt8) : Bool := !digC c
theorem digC_iff {c : UInt8} : digC c = true ↔ 48 ≤ c.toNat ∧ c.toNat ≤ 57 := by unfold digC; simp
theorem notD_iff {c : UInt8} : notD c = true ↔ ¬ (48 ≤ c.toNat ∧ c.toNat ≤ 57) := by unfold notD digC; simp; omega
/-- a part told by what its digits and its letters are -/
theorem partR_at (U : List (List UInt8 × Int)) (s : ByteArray) (a d : Nat) (ha : (s.data.toList.takeWhile digC).length = a) (hd : ((s.data.toList.drop a).takeWhile notD).length = d) :
    partR U s.data.toList = (parseZ (s.extract 0 a)).bind fun n => (placeU U (s.extract a (a + d)).data.toList).map fun i => (n, i, a + d) := by
  have e1 : s.extract 0 a = txt (s.data.toList.takeWhile digC) := by
    have := ext_list s 0 a digC (by rw [List.drop_zero]; exact ha.symm)
    rw [Nat.zero_add, List.drop_zero] at this
    exact text_ext1 (by rw [txt_list]; exact this)
  have e2 : s.data.toList.dropWhile digC = s.data.toList.drop a := by
    have := drop_run digC s 0
    unfold runTo at this
    rw [List.drop_zero, ha, Nat.zero_add] at this
    exact this.symm
  have e3 : (s.extract a (a + d)).data.toList = (s.data.toList.drop a).takeWhile notD := ext_list s a d notD hd.symm
  unfold partR
  rw [e1, e2, e3, ha, show (fun c => !digC c) = notD from rfl, hd]
theorem place_find (U : List (List UInt8 × Int)) (nm : List UInt8) (j : Nat) (hj : j < U.length) (he : (U.getD j ([], 0)).1 = nm) (hno : ∀ i, i < j → (U.getD i ([], 0)).1 ≠ nm) : placeU U nm = some j := by
  unfold placeU
  rw [List.findIdx?_eq_some_iff_getElem]
  refine ⟨hj, ?_, fun i hi => ?_⟩
  · have e : U[j] = U.getD j ([], 0) := by rw [List.getD_eq_getElem?_getD, List.getElem?_eq_getElem hj]; rfl
    rw [e, he]; simp
  · have hlt : i < U.length := by omega
    have e : U[i] = U.getD i ([], 0) := by rw [List.getD_eq_getElem?_getD, List.getElem?_eq_getElem hlt]; rfl
    rw [e]
    simpa using hno i hi
theorem place_not (U : List (List UInt8 × Int)) (nm : List UInt8) (hno : ∀ i, i < U.length → (U.getD i ([], 0)).1 ≠ nm) : placeU U nm = none := by
  unfold placeU
  rw [List.findIdx?_eq_none_iff]
  intro u hu
  obtain ⟨i, hi, e⟩ := List.getElem_of_mem hu
  have := hno i hi
  rw [List.getD_eq_getElem?_getD, List.getElem?_eq_getElem hi] at this
  have e2 : (some U[i]).getD ([], 0) = u := e
  rw [e2] at this
  simpa using this
theorem list_at (s : ByteArray) (k : Nat) (hk : k < s.size) (c : UInt8) (hc : s[k] = c) : s.data.toList[k]? = some c := by
  have hl : k < s.data.toList.length := by rw [size_toList]; exact hk
  rw [List.getElem?_eq_getElem hl, ← hc]
  rfl
theorem run_more {p : UInt8 → Bool} {s : ByteArray} {a k : Nat} (H : ∀ i, a ≤ i → i < k → ∃ c, s.data.toList[i]? = some c ∧ p c = true) (hk : k < s.size) {c : UInt8} (hc : s[k] = c) (hp : p c = true) : ∀ i, a ≤ i → i < k + 1 → ∃ c, s.data.toList[i]? = some c ∧ p c = true := by
  intro i h1 h2
  by_cases h : i < k
  · exact H i h1 h
  · obtain rfl : i = k := by omega
    exact ⟨c, list_at s i hk c hc, hp⟩
theorem run_end {p : UInt8 → Bool} {s : ByteArray} {a k : Nat} (hak : a ≤ k) (H : ∀ i, a ≤ i → i < k → ∃ c, s.data.toList[i]? = some c ∧ p c = true) (he : ∀ hk : k < s.size, p s[k] = false) : ((s.data.toList.drop a).takeWhile p).length = k - a := by
  refine run_stop p s.data.toList (k - a) a (fun i h1 h2 => H i h1 (by omega)) (fun c h => ?_)
  rw [show a + (k - a) = k by omega] at h
  have hk : k < s.size := by
    rcases Nat.lt_or_ge k s.size with h3 | h3
    · exact h3
    · rw [List.getElem?_eq_none (by rw [size_toList]; exact h3)] at h; cases h
  rw [list_at s k hk _ rfl] at h
  injection h with h
  rw [← h]
  exact he hk

set_option maxRecDepth 100000 in
set_option maxHeartbeats 3200000 in
theorem refPart_any (z : Bool) (U : List (List UInt8 × Int)) (Ns : List ByteArray) (n : Nat) (hU : U.length = n) (hn : n ≤ 10) (hls : ∀ j, j < n → Ns.getD j .empty = txt (U.getD j ([], 0)).1)
    (HN : ∀ w, Calls Tryd.prog 32 #[.bool z] w fun e w' => ∃ g, e = .returned (.slice (some ⟨g, 0, none⟩) n n) ∧ w.heap.size ≤ g ∧ Texts w' (some ⟨g, 0, none⟩) n Ns ∧ Below w.heap.size w w')
    (s : ByteArray) (hs : s.size ≤ 281474976710656) (W : World) :
    Calls Tryd.prog 25 #[.string s, .bool z] W fun e w' => e = .returned (partV (partR U s.data.toList)) ∧ Below W.heap.size W w' := by
  have h0 : W.heap.size ≤ W.heap.size := Nat.le_refl _
  have PA := Lib.hid (partR_at U s)
  obtain ⟨V, hV⟩ : ∃ V, partR U s.data.toList = V := ⟨_, rfl⟩
  rw [hV]
  have HV := Lib.hid hV
  clear hV
  replace HN := Lib.hid HN
  have HU := Lib.hid hU
  have HLS := Lib.hid hls
  clear hU hls
  go_enter Tryd.func25, Tryd.ntmps25
  go_wp2
  go_loop [8] (fun av => ∃ k : Nat, 0 ≤ k ∧ k ≤ s.size ∧ av = .int .i64 k ∧ Hid (∀ i, 0 ≤ i → i < k → ∃ c, s.data.toList[i]? = some c ∧ digC c = true)) (fun av => s.size - (intOf av).toNat)
  case atStart => exact ⟨0, Nat.zero_le _, Nat.zero_le _, rfl, Lib.hid (fun i _ h => absurd h (by omega))⟩
  case round =>
    obtain ⟨k, _, hk, rfl, H1⟩ := hrel
    by_cases hgo : ∃ hk2 : k < s.size, digC s[k] = true
    · obtain ⟨hk2, hdc⟩ := hgo
      obtain ⟨c, hcc⟩ : ∃ c, s[k] = c := ⟨_, rfl⟩
      rw [hcc] at hdc
      have hnx := Lib.hid (run_more H1.out hk2 hcc hdc)
      obtain ⟨q1, q2⟩ := digC_iff.1 hdc
      have hkI : (k : Int) < (s.size : Int) := by omega
      have q3 : (48 : Int) ≤ (c.toNat : Int) := by omega
      have q4 : (c.toNat : Int) ≤ 57 := by omega
      clear hdc
      go_wp2
      go_round
      case rel => exact ⟨k + 1, Nat.zero_le _, by omega, by go_num, hnx⟩
      case measure => simp [intOf]; omega
    · have ha := run_end (Nat.zero_le k) H1.out (fun h => by
        cases hd : digC s[k] with
        | false => rfl
        | true => exact absurd ⟨h, hd⟩ hgo)
      rw [List.drop_zero, Nat.sub_zero] at ha
      have hends : (¬ (k : Int) < (s.size : Int)) ∨ ∃ (hk2 : k < s.size), ((k : Int) < (s.size : Int)) ∧ (((s[k].toNat : Int) < 48) ∨ (¬ (s[k].toNat : Int) < 48 ∧ (57 : Int) < (s[k].toNat : Int))) := by
        by_cases hk2 : k < s.size
        · refine .inr ⟨hk2, by omega, ?_⟩
          have hnd : ¬ digC s[k] = true := fun hd => hgo ⟨hk2, hd⟩
          rw [digC_iff] at hnd
          omega
        · exact .inl (by omega)
      have HA := Lib.hid ha
      clear hgo ha H1
      rcases hends with q0 | ⟨hk2, q0, q1 | ⟨q1, q2⟩⟩
      all_goals
        go_wp2
        go_loop [9] (fun ev => ∃ d : Nat, k ≤ d ∧ d ≤ s.size ∧ ev = .int .i64 d ∧ Hid (∀ i, k ≤ i → i < d → ∃ c, s.data.toList[i]? = some c ∧ notD c = true)) (fun ev => s.size - (intOf ev).toNat)
        case atStart => exact ⟨k, Nat.le_refl _, hk, rfl, Lib.hid (fun i _ h => absurd h (by omega))⟩
        case round =>
          obtain ⟨d, hkd, hd, rfl, H2⟩ := hrel
          try clear q0
          try clear q1
          try clear q2
          by_cases hgo : ∃ hk2 : d < s.size, notD s[d] = true
          · obtain ⟨hd2, hdc⟩ := hgo
            obtain ⟨c, hcc⟩ : ∃ c, s[d] = c := ⟨_, rfl⟩
            rw [hcc] at hdc
            have hnx := Lib.hid (run_more H2.out hd2 hcc hdc)
            have q5 := notD_iff.1 hdc
            have hdI : (d : Int) < (s.size : Int) := by omega
            have q6 : ((c.toNat : Int) < 48) ∨ (¬ (c.toNat : Int) < 48 ∧ (57 : Int) < (c.toNat : Int)) := by omega
            clear hdc q5
            rcases q6 with q1 | ⟨q1, q2⟩
            all_goals
              go_wp2
              go_round
              case rel => exact ⟨d + 1, by omega, by omega, by go_num, hnx⟩
              case measure => simp [intOf]; omega
          · have hb := run_end hkd H2.out (fun h => by
              cases hd : notD s[d] with
              | false => rfl
              | true => exact absurd ⟨h, hd⟩ hgo)
            have hends : (¬ (d : Int) < (s.size : Int)) ∨ ∃ (hk2 : d < s.size), ((d : Int) < (s.size : Int)) ∧ ¬ (s[d].toNat : Int) < 48 ∧ ¬ (57 : Int) < (s[d].toNat : Int) := by
              by_cases hk2 : d < s.size
              · refine .inr ⟨hk2, by omega, ?_⟩
                have hnd : ¬ notD s[d] = true := fun hd => hgo ⟨hk2, hd⟩
                rw [notD_iff] at hnd
                omega
              · exact .inl (by omega)
            have hpart := PA.out k (d - k) HA.out hb
            rw [Nat.add_sub_cancel' hkd, HV.out] at hpart
            have PZ := Lib.hid (fun w => refParse_any (s.extract 0 k) (by rw [ByteArray.size_extract]; omega) w)
            have hkdI : (k : Int) ≤ (d : Int) := by omega
            have hdsI : (d : Int) ≤ (s.size : Int) := by omega
            have hksI : (k : Int) ≤ (s.size : Int) := by omega
            obtain ⟨nm, hnm⟩ : ∃ x, s.extract k d = x := ⟨_, rfl⟩
            rw [hnm] at hpart
            obtain ⟨o, ho⟩ : ∃ o, parseZ (s.extract 0 k) = o := ⟨_, rfl⟩
            rw [ho] at hpart
            simp only [ho] at PZ
            have HP := Lib.hid hpart
            have HNM := Lib.hid hnm
            clear hpart hnm ho hgo hb H2
            rcases hends with q3 | ⟨hk2, q3, q4, q5⟩
            all_goals
              cases o with
              | none =>
                have E := Lib.hid (show V = none from HP.out)
                go_wp2_with fail
                refine (PZ.out _).mono ?_
                rintro e w1 ⟨rfl, hb1⟩
                go_wp2
                (try simp only [Exit.inBlock, Exit.then]); refine bodyPost_ret (results_tmp4 rfl _ _ _) rfl ?_
                exact ⟨by rw [E.out]; rfl, hb1⟩
              | some v =>
                have hsp := HP.out
                simp only [Option.bind_some] at hsp
                have HSP := Lib.hid hsp
                clear hsp
                go_wp2_with fail
                refine (PZ.out _).mono ?_
                rintro e w1 ⟨rfl, hb1⟩
                go_wp2_with fail
                refine (HN.out _).mono ?_
                rintro e w2 ⟨g, rfl, hg, hT, hb2⟩
                replace hb1 := hop hb1 h0 hb2
                have HT := Lib.hid hT
                have HB := Lib.hid hb1
                clear hT hb2 hb1
                go_wp2
                go_loopw [13] (fun iv wr => ∃ j : Nat, j ≤ n ∧ iv = .int .i64 j ∧ Hid (∀ i, i < j → (U.getD i ([], 0)).1 ≠ nm.data.toList) ∧ Below w2.heap.size w2 wr) (fun iv _ => n - (intOf iv).toNat)
                case atStart => exact ⟨0, Nat.zero_le _, rfl, Lib.hid (fun i h => absurd h (by omega)), Below.refl _ _⟩
                case round =>
                  obtain ⟨j, hj, rfl, HJ, hb⟩ := hrel
                  by_cases hjn : j < n
                  · obtain ⟨b2, o2, e2, hlt2, hc2⟩ := (HT.out.below hb).2 (by omega)
                    injection e2 with e2
                    injection e2 with e2 e2'
                    subst e2 e2'
                    have c0 := hc2 j hjn
                    rw [Nat.zero_add, HLS.out j hjn] at c0
                    obtain ⟨u, hu⟩ : ∃ u, (U.getD j ([], 0)).1 = u := ⟨_, rfl⟩
                    rw [hu] at c0
                    have hxu := txt_eq u nm
                    obtain ⟨y, hy⟩ : ∃ y, txt u = y := ⟨_, rfl⟩
                    rw [hy] at c0 hxu
                    have hjI : (j : Int) < (n : Int) := by omega
                    by_cases he : u = nm.data.toList
                    · have g1 := text_same (hxu.2 he)
                      have E := Lib.hid (show V = some (v, j, d) by
                        rw [HSP.out, place_find U _ j (by rw [HU.out]; exact hjn) (hu.trans he) HJ.out]
                        rfl)
                      have hfin := fun q => below_drewN (hop HB.out (Nat.le_refl _) hb) q
                      clear hu hy hxu he hc2
                      rw [← HNM.out] at g1
                      go_wp2
                      go_quiet (fail)
                      go_wp2
                      (try simp only [Exit.inBlock, Exit.then]); refine bodyPost_ret (results_tmp4 rfl _ _ _) rfl ?_
                      exact ⟨by rw [E.out]; rfl, hfin _⟩
                    · have g1 := text_other (fun h => he (hxu.1 h))
                      have HE := Lib.hid (show (U.getD j ([], 0)).1 ≠ nm.data.toList by rw [hu]; exact he)
                      clear hu hy hxu he hc2
                      rw [← HNM.out] at g1
                      go_wp2
                      go_quiet (fail)
                      go_wp2
                      go_round
                      case rel => exact ⟨j + 1, by omega, by go_num, Lib.hid (fun i hi => by
                        by_cases h : i < j
                        · exact HJ.out i h
                        · obtain rfl : i = j := by omega
                          exact HE.out), below_drewN hb _⟩
                      case measure => simp [intOf]; omega
                  · obtain rfl : j = n := by omega
                    have E := Lib.hid (show V = none by
                      rw [HSP.out, place_not U _ (fun i hi => HJ.out i (by rw [← HU.out]; exact hi))]
                      rfl)
                    have hfin := hop HB.out (Nat.le_refl _) hb
                    go_wp2
                    (try simp only [Exit.inBlock, Exit.then]); refine bodyPost_ret (results_tmp4 rfl _ _ _) rfl ?_
                    exact ⟨by rw [E.out]; rfl, hfin⟩
end Go.Proofs.YtehhmejpfglimaaDoor
