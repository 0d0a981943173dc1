/- The document's own durations and sizes that are read. -/
import Derived.Test.YtehhmejpfglimaaDoorRefUnit2
import Derived.Test.YtehhmejpfglimaaDoorUnitRead2
namespace Go.Proofs.YtehhmejpfglimaaDoor
open Go.RowKit
set_option linter.unusedVariables false

theorem part_dur (s : ByteArray) (hs : s.size ≤ 281474976710656) (W : World) :
    Calls Tryd.prog 25 #[.string s, .bool false] W fun e w' => e = .returned (partV (partR durU s.data.toList)) ∧ Below W.heap.size W w' :=
  refPart_any false durU durN 6 rfl (by decide) (fun j hj => (dur_lists j hj).2) (fun w => (names_any w).1) s hs W
theorem part_siz (s : ByteArray) (hs : s.size ≤ 281474976710656) (W : World) :
    Calls Tryd.prog 25 #[.string s, .bool true] W fun e w' => e = .returned (partV (partR sizU s.data.toList)) ∧ Below W.heap.size W w' :=
  refPart_any true sizU sizN 4 rfl (by decide) (fun j hj => (siz_lists j hj).2) (fun w => (names_any w).2) s hs W
theorem parseZ_range {s : ByteArray} {v : Int} (h : parseZ s = some v) : -9223372036854775808 ≤ v ∧ v ≤ 9223372036854775807 := ((parseZ_iff s v).1 h).1
theorem partR_facts {U : List (List UInt8 × Int)} {l : List UInt8} {n : Int} {i d : Nat} (h : partR U l = some (n, i, d)) : (-9223372036854775808 ≤ n ∧ n ≤ 9223372036854775807) ∧ i < U.length ∧ 1 ≤ d ∧ d ≤ l.length := by
  unfold partR at h
  cases hp : parseZ (txt (l.takeWhile digC)) with
  | none => rw [hp] at h; cases h
  | some v =>
    simp only [hp, Option.bind_some, Option.map_eq_some_iff] at h
    obtain ⟨j, hj, e⟩ := h
    simp only [Prod.mk.injEq] at e
    obtain ⟨rfl, rfl, rfl⟩ := e
    refine ⟨parseZ_range hp, ?_, ?_, ?_⟩
    · unfold placeU at hj
      rw [List.findIdx?_eq_some_iff_getElem] at hj
      exact hj.1
    · have : l.takeWhile digC ≠ [] := fun e => by rw [e, parse_nil] at hp; cases hp
      have := List.length_pos_iff.2 this
      omega
    · have h1 := congrArg List.length (List.takeWhile_append_dropWhile (p := digC) (l := l))
      have h2 := congrArg List.length (List.takeWhile_append_dropWhile (p := fun c => !digC c) (l := l.dropWhile digC))
      rw [List.length_append] at h1 h2
      omega
def lenS (v : Value) : Nat := match v with | .string t => t.size | _ => 0
theorem durZ_R (l : List UInt8) : durZ l = if l = [] then none else durS (partR durU) (l.length + 1) l 0 (-1) := by
  unfold durZ
  rw [dur_same]

set_option maxRecDepth 100000 in
set_option maxHeartbeats 1600000 in
theorem refBytes_any (s : ByteArray) (hs : s.size ≤ 281474976710656) (W : World) :
    Calls Tryd.prog 15 #[.string s] W fun e w' => e = .returned (.tuple #[.int .i64 ((sizZ s.data.toList).getD 0), .bool (sizZ s.data.toList).isSome]) ∧ Below W.heap.size W w' := by
  have h0 : W.heap.size ≤ W.heap.size := Nat.le_refl _
  have PT := Lib.hid (fun w => part_siz s hs w)
  have HZ := Lib.hid (siz_same s.data.toList)
  have HF := Lib.hid (fun w => (factors_any w).2)
  have hlen := size_toList s
  cases hx : partR sizU s.data.toList with
  | none =>
    have E := Lib.hid (show sizZ s.data.toList = none by rw [← HZ.out, hx]; rfl)
    rw [hx] at PT
    clear HZ hx
    go_enter Tryd.func15, Tryd.ntmps15
    go_wp2_with fail
    refine (PT.out _).mono ?_
    rintro e w1 ⟨rfl, hb⟩
    simp only [partV]
    go_wp2
    go_ret2
    exact ⟨ret_num (by rw [E.out]; rfl) (by rw [E.out]; rfl), hb⟩
  | some x =>
    obtain ⟨n, i, d⟩ := x
    obtain ⟨⟨n0, n1⟩, hi, hd1, hd⟩ := partR_facts hx
    rw [hlen] at hd
    have hi4 : i < 4 := hi
    have hz : sizZ s.data.toList = if d = s.size then timesO n (manyU sizU i) else none := by
      rw [← HZ.out, hx, ← hlen]; rfl
    rw [hx] at PT
    have HS := Lib.hid hz
    obtain ⟨u1, u2, u3⟩ := unit_ok2 i hi4
    have hls := (siz_lists i hi4).1
    have TM := fun w => refTimes_any n (manyU sizU i) n0 n1 (by show _ ≤ (sizU.getD i ([], 0)).2; omega) (by show (sizU.getD i ([], 0)).2 ≤ _; omega) w
    rw [show (sizU.getD i ([], 0)).2 = manyU sizU i from rfl] at hls
    obtain ⟨m, hm⟩ : ∃ m, manyU sizU i = m := ⟨_, rfl⟩
    simp only [hm] at TM
    rw [hm] at hls
    replace HS := Lib.hid (hm ▸ HS.out)
    replace TM := Lib.hid TM
    have hiI : (i : Int) < 4 := by omega
    clear hz HZ hx hi u1 u2 u3 hm
    by_cases hds : d = s.size
    · have E := Lib.hid (show sizZ s.data.toList = timesO n m by rw [HS.out, if_pos hds])
      have gd : (d : Int) = (s.size : Int) := by omega
      subst hds
      go_enter Tryd.func15, Tryd.ntmps15
      go_wp2_with fail
      refine (PT.out _).mono ?_
      rintro e w1 ⟨rfl, hb⟩
      simp only [partV]
      go_wp2_with fail
      refine (HF.out _).mono ?_
      rintro e w2 ⟨g, rfl, hg, hF, hb2⟩
      replace hb := hop hb h0 hb2
      obtain ⟨b1, o1, e1, hlt1, hc1⟩ := hF.2.2 (by decide)
      injection e1 with e1
      injection e1 with e1 e1'
      subst e1 e1'
      have c1 := hc1 i hi4
      rw [Nat.zero_add, hls] at c1
      clear hc1 hF hb2
      go_wp2_with fail
      refine (TM.out _).mono ?_
      rintro e w3 ⟨rfl, rfl⟩
      go_wp2
      go_ret2
      exact ⟨ret_num (by rw [E.out]) (by rw [E.out]), hb⟩
    · have E := Lib.hid (show sizZ s.data.toList = none by rw [HS.out, if_neg hds])
      have gd : ¬ (d : Int) = (s.size : Int) := by omega
      go_enter Tryd.func15, Tryd.ntmps15
      go_wp2_with fail
      refine (PT.out _).mono ?_
      rintro e w1 ⟨rfl, hb⟩
      simp only [partV]
      go_wp2
      go_ret2
      exact ⟨ret_num (by rw [E.out]; rfl) (by rw [E.out]; rfl), hb⟩

set_option maxRecDepth 100000 in
set_option maxHeartbeats 3200000 in
theorem refDuration_any (s : ByteArray) (hs : s.size ≤ 281474976710656) (W : World) :
    Calls Tryd.prog 13 #[.string s] W fun e w' => e = .returned (.tuple #[.int .i64 ((durZ s.data.toList).getD 0), .bool (durZ s.data.toList).isSome]) ∧ Below W.heap.size W w' := by
  have h0 : W.heap.size ≤ W.heap.size := Nat.le_refl _
  have PD := Lib.hid (fun t (ht : t.size ≤ 281474976710656) w => part_dur t ht w)
  have HF := Lib.hid (fun w => (factors_any w).1)
  have hz := durZ_R s.data.toList
  obtain ⟨z, hzz⟩ : ∃ z, durZ s.data.toList = z := ⟨_, rfl⟩
  rw [hzz] at hz
  rw [hzz]
  clear hzz
  by_cases hs0 : s.size = 0
  · have hl : s.data.toList = [] := List.eq_nil_of_length_eq_zero (by rw [size_toList]; exact hs0)
    rw [if_pos hl] at hz
    have E := Lib.hid hz
    have hem : s.toList = [] := by rw [Lib.toList_data]; exact hl
    have hem2 : s.toList.isEmpty = true := by rw [hem]; rfl
    clear hz hl hs0
    go_enter Tryd.func13, Tryd.ntmps13
    go_wp2
    go_ret2
    exact ⟨ret_num (by rw [E.out]; rfl) (by rw [E.out]; rfl), Below.refl _ _⟩
  · have hln : s.data.toList ≠ [] := fun h => hs0 (by rw [← size_toList, h]; rfl)
    rw [if_neg hln, size_toList] at hz
    have HZ := Lib.hid hz
    have hem : ¬ s.toList = [] := by rw [Lib.toList_data]; exact hln
    have hem2 : s.toList.isEmpty = false := by
      cases h : s.toList.isEmpty with
      | false => rfl
      | true => exact absurd (List.isEmpty_iff.1 h) hem
    clear hz hln hs0
    go_enter Tryd.func13, Tryd.ntmps13
    go_wp2
    clear hem hem2
    go_loopw [0, 4, 5] (fun tv sv lv wr => ∃ (t : ByteArray) (f : Nat) (sum last : Int), tv = .string t ∧ sv = .int .i64 sum ∧ lv = .int .i64 last ∧ t.size ≤ s.size ∧ t.size < f ∧ -9223372036854775808 ≤ sum ∧ sum ≤ 9223372036854775807 ∧ -1 ≤ last ∧ last ≤ 100 ∧ Hid (durS (partR durU) f t.data.toList sum last = z) ∧ Below W.heap.size W wr) (fun tv _ _ _ => lenS tv)
    case atStart => exact ⟨s, s.size + 1, 0, -1, rfl, rfl, rfl, Nat.le_refl _, Nat.lt_succ_self _, by decide, by decide, by decide, by decide, Lib.hid HZ.out.symm, Below.refl _ _⟩
    case round =>
      obtain ⟨t, f, sum, last, rfl, rfl, rfl, hts, hf, s0, s1, l0, l1, HD, hb⟩ := hrel
      have hsz := hb.size
      obtain ⟨f, rfl⟩ : ∃ f', f = f' + 1 := ⟨f - 1, by omega⟩
      have hd := HD.out
      have ht48 : t.size ≤ 281474976710656 := by omega
      clear HD
      by_cases ht0 : t.size = 0
      · have hl : t.data.toList = [] := List.eq_nil_of_length_eq_zero (by rw [size_toList]; exact ht0)
        rw [hl] at hd
        unfold durS at hd
        rw [if_pos rfl] at hd
        have E := Lib.hid hd.symm
        have hem : t.toList = [] := by rw [Lib.toList_data]; exact hl
        have hem2 : t.toList.isEmpty = true := by rw [hem]; rfl
        clear hl ht0 hd
        go_wp2
        go_ret2
        exact ⟨ret_num (by rw [E.out]; rfl) (by rw [E.out]; rfl), hb⟩
      · have hln : t.data.toList ≠ [] := fun h => ht0 (by rw [← size_toList, h]; rfl)
        unfold durS at hd
        rw [if_neg hln] at hd
        have hem : ¬ t.toList = [] := by rw [Lib.toList_data]; exact hln
        have hem2 : t.toList.isEmpty = false := by
          cases h : t.toList.isEmpty with
          | false => rfl
          | true => exact absurd (List.isEmpty_iff.1 h) hem
        have PT := PD.out t ht48
        have hpf := fun n i d (h : partR durU t.data.toList = some (n, i, d)) => partR_facts h
        obtain ⟨o, ho⟩ : ∃ o, partR durU t.data.toList = o := ⟨_, rfl⟩
        rw [ho] at hd
        simp only [ho] at PT hpf
        replace PT := Lib.hid PT
        clear ho hln ht0
        cases o with
        | none =>
          have E := Lib.hid (show z = none from hd.symm)
          clear hd hpf
          go_wp2_with fail
          refine (PT.out _).mono ?_
          rintro e w1 ⟨rfl, hb1⟩
          replace hb := hop hb h0 hb1
          simp only [partV]
          go_wp2
          go_ret2
          exact ⟨ret_num (by rw [E.out]; rfl) (by rw [E.out]; rfl), hb⟩
        | some x =>
          obtain ⟨n, i, d⟩ := x
          obtain ⟨⟨n0, n1⟩, hi, hd1, hdl⟩ := hpf n i d rfl
          rw [size_toList] at hdl
          have hi6 : i < 6 := hi
          simp only [Option.bind_some] at hd
          by_cases hil : (i : Int) ≤ last
          · rw [if_pos hil] at hd
            have E := Lib.hid hd.symm
            clear hd hpf
            go_wp2_with fail
            refine (PT.out _).mono ?_
            rintro e w1 ⟨rfl, hb1⟩
            replace hb := hop hb h0 hb1
            simp only [partV]
            go_wp2
            go_ret2
            exact ⟨ret_num (by rw [E.out]; rfl) (by rw [E.out]; rfl), hb⟩
          · rw [if_neg hil] at hd
            obtain ⟨u1, u2, u3⟩ := unit_ok i hi6
            have hls := (dur_lists i hi6).1
            have TM := fun w => refTimes_any n (manyU durU i) n0 n1 (by show _ ≤ (durU.getD i ([], 0)).2; omega) (by show (durU.getD i ([], 0)).2 ≤ _; omega) w
            rw [show (durU.getD i ([], 0)).2 = manyU durU i from rfl] at hls
            obtain ⟨m, hm⟩ : ∃ m, manyU durU i = m := ⟨_, rfl⟩
            simp only [hm] at TM hd
            rw [hm] at hls
            have htr := fun r => step_range (f := (· * ·)) (o := some n) (z := m) (s := r)
            have hto : timesO n m = stepR (· * ·) (some n) m := rfl
            obtain ⟨p, hp⟩ : ∃ p, timesO n m = p := ⟨_, rfl⟩
            simp only [← hto, hp] at TM hd htr
            have SM := fun b b0 b1 w => refSum_any sum b s0 s1 b0 b1 w
            replace TM := Lib.hid TM
            have hiI : (i : Int) < 6 := by omega
            clear hpf hm hto hp u1 u2 u3
            cases p with
            | none =>
              have E := Lib.hid (show z = none from hd.symm)
              have S1 := SM 0 (by decide) (by decide)
              obtain ⟨a, ha⟩ : ∃ a, stepR (· + ·) (some sum) 0 = a := ⟨_, rfl⟩
              simp only [ha] at S1
              replace S1 := Lib.hid S1
              clear hd SM ha htr
              go_wp2_with fail
              refine (PT.out _).mono ?_
              rintro e w1 ⟨rfl, hb1⟩
              replace hb := hop hb h0 hb1
              simp only [partV]
              go_wp2_with fail
              refine (HF.out _).mono ?_
              rintro e w2 ⟨g, rfl, hg, hF, hb2⟩
              replace hb := hop hb h0 hb2
              obtain ⟨b1, o1, e1, hlt1, hc1⟩ := hF.2.2 (by decide)
              injection e1 with e1
              injection e1 with e1 e1'
              subst e1 e1'
              have c1 := hc1 i hi6
              rw [Nat.zero_add, hls] at c1
              clear hc1 hF hb2 hb1
              go_wp2_with fail
              refine (TM.out _).mono ?_
              rintro e w3 ⟨rfl, rfl⟩
              go_wp2_with fail
              refine (S1.out _).mono ?_
              rintro e w3 ⟨rfl, rfl⟩
              go_wp2
              go_ret2
              exact ⟨ret_num (by rw [E.out]; rfl) (by rw [E.out]; rfl), hb⟩
            | some y =>
              obtain ⟨y0, y1⟩ := htr y rfl
              have S1 := SM y y0 y1
              have hsr := fun r => step_range (f := (· + ·)) (o := some sum) (z := y) (s := r)
              simp only [Option.bind_some] at hd
              obtain ⟨a, ha⟩ : ∃ a, stepR (· + ·) (some sum) y = a := ⟨_, rfl⟩
              simp only [ha] at S1 hsr hd
              replace S1 := Lib.hid S1
              clear SM ha htr
              cases a with
              | none =>
                have E := Lib.hid (show z = none from hd.symm)
                clear hd hsr
                go_wp2_with fail
                refine (PT.out _).mono ?_
                rintro e w1 ⟨rfl, hb1⟩
                replace hb := hop hb h0 hb1
                simp only [partV]
                go_wp2_with fail
                refine (HF.out _).mono ?_
                rintro e w2 ⟨g, rfl, hg, hF, hb2⟩
                replace hb := hop hb h0 hb2
                obtain ⟨b1, o1, e1, hlt1, hc1⟩ := hF.2.2 (by decide)
                injection e1 with e1
                injection e1 with e1 e1'
                subst e1 e1'
                have c1 := hc1 i hi6
                rw [Nat.zero_add, hls] at c1
                clear hc1 hF hb2 hb1
                go_wp2_with fail
                refine (TM.out _).mono ?_
                rintro e w3 ⟨rfl, rfl⟩
                go_wp2_with fail
                refine (S1.out _).mono ?_
                rintro e w3 ⟨rfl, rfl⟩
                go_wp2
                go_ret2
                exact ⟨ret_num (by rw [E.out]; rfl) (by rw [E.out]; rfl), hb⟩
              | some r =>
                obtain ⟨r0, r1⟩ := hsr r rfl
                have hnx : durS (partR durU) f (t.extract d t.size).data.toList r i = z := by
                  rw [← hd, part_list, List.take_of_length_le (by rw [size_toList]; exact Nat.le_refl _)]
                  rfl
                have HNX := Lib.hid hnx
                have hes : (t.extract d t.size).size = t.size - d := by rw [ByteArray.size_extract]; omega
                have hdI : (d : Int) ≤ (t.size : Int) := by omega
                have HES := Lib.hid hes
                clear hd hsr hnx hes
                go_wp2_with fail
                refine (PT.out _).mono ?_
                rintro e w1 ⟨rfl, hb1⟩
                replace hb := hop hb h0 hb1
                simp only [partV]
                go_wp2_with fail
                refine (HF.out _).mono ?_
                rintro e w2 ⟨g, rfl, hg, hF, hb2⟩
                replace hb := hop hb h0 hb2
                obtain ⟨b1, o1, e1, hlt1, hc1⟩ := hF.2.2 (by decide)
                injection e1 with e1
                injection e1 with e1 e1'
                subst e1 e1'
                have c1 := hc1 i hi6
                rw [Nat.zero_add, hls] at c1
                clear hc1 hF hb2 hb1
                go_wp2_with fail
                refine (TM.out _).mono ?_
                rintro e w3 ⟨rfl, rfl⟩
                go_wp2_with fail
                refine (S1.out _).mono ?_
                rintro e w3 ⟨rfl, rfl⟩
                go_wp2
                go_round
                case rel => exact ⟨_, f, r, i, rfl, rfl, rfl, by rw [HES.out]; omega, by rw [HES.out]; omega, r0, r1, by omega, by omega, HNX, hb⟩
                case measure =>
                  show (t.extract d t.size).size < t.size
                  rw [HES.out]
                  omega
end Go.Proofs.YtehhmejpfglimaaDoor
