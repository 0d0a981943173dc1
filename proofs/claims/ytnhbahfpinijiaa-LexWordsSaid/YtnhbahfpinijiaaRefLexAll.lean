/- The document's own words of a query: as the program's. -/
import Derived.Test.YtnhbahfpinijiaaRefLexVal
namespace Go.Proofs.Ytnhbahfpinijiaa
open Go.RowKit
set_option linter.unusedVariables false

theorem infoTok7 : (Try.prog.info? 34).map (fun i => (i.zero, i.size, i.bytes)) = some (some (.agg #[.int .i64 0, .string ⟨#[]⟩, .int .i64 0]), 3, 32) := by kernel_rfl
theorem lexGo_sp (c : UInt8) (hc : goodK [3] c = true) (g : Nat) (x : List UInt8) (k : Nat) (acc : List TokB) : lexGo (g + 1) (c :: x) k acc = lexGo (g + 1) x (k + 1) acc := by
  have e : spaces (c :: x) = 1 + spaces x := by
    have := spaces_front [c] x (by intro d hd; rw [List.mem_singleton.1 hd]; exact hc)
    exact this
  rw [lexGo_at, lexGo_at, e, ← List.drop_drop]
  show lexAt g (x.drop (spaces x)) (k + (1 + spaces x)) acc = _
  rw [Nat.add_assoc]
theorem lexGo_one (c : UInt8) (hc : goodK [3] c = false) (g : Nat) (x : List UInt8) (k : Nat) (acc : List TokB) : lexGo (g + 1) (c :: x) k acc = if (oneL (c :: x)).2.2 = 0 then ([], k, 2) else lexGo g ((c :: x).drop (oneL (c :: x)).2.2) (k + (oneL (c :: x)).2.2) (acc ++ [⟨(oneL (c :: x)).1, (oneL (c :: x)).2.1, k⟩]) := by
  have hw := word_some (c :: x)
  have hsp : spaces (c :: x) = 0 := by
    unfold spaces
    rw [List.takeWhile_cons_of_neg (by rw [hc]; decide)]
    rfl
  rw [lexGo_succ, hsp, List.drop_zero, if_neg (by simp), Nat.add_zero]
  unfold oneL
  by_cases h : (wordL (c :: x)).1 = 0
  · rw [if_pos h, if_pos h, if_pos rfl]
  · have h2 := hw.2.1 h
    rw [if_neg h, if_neg h, if_neg (by omega)]
theorem oneL_le (l : List UInt8) : (oneL l).2.2 ≤ l.length := by
  unfold oneL
  split
  · exact Nat.zero_le _
  · exact (word_some l).1
theorem sp_iff (c : UInt8) : goodK [3] c = (decide (c.toNat = 32) || decide (c.toNat = 9) || decide (c.toNat = 10)) := by
  unfold goodK
  simp only [List.any_cons, List.any_nil, Bool.or_false]
  rfl

set_option maxRecDepth 100000 in
set_option maxHeartbeats 800000 in
theorem refAll_any (t : ByteArray) (W : World) :
    Calls Try.prog 11 #[.string t] W fun e w' => ∃ v, e = .returned (lexV v (lexL t.data.toList)) ∧ OwnR tokV 3 w' W.heap.size 34 v (lexL t.data.toList).1 ∧ Below W.heap.size W w' := by
  have h0 : W.heap.size ≤ W.heap.size := Nat.le_refl _
  obtain ⟨i0, hi, hz0, hz1, hz2⟩ := info_parts infoTok7
  by_cases hbig : 1024 < t.size
  · have E : lexL t.data.toList = ([], 1024, 4) := by unfold lexL; rw [if_pos (by rw [size_toList]; exact hbig)]
    rw [E]
    have hI : (1024 : Int) < (t.size : Int) := by omega
    clear E
    go_enter Try.func11, Try.ntmps11
    go_wp2
    go_ret3
    exact ⟨_, rfl, OwnR.nil _ _ _, Below.refl _ _⟩
  · have E : lexL t.data.toList = lexGo (t.size + 1) (atL t 0) 0 [] := by
      unfold lexL
      rw [if_neg (by rw [size_toList]; exact hbig), size_toList, show atL t 0 = t.data.toList from List.drop_zero]
    have hI : ¬ (1024 : Int) < (t.size : Int) := by omega
    obtain ⟨Z, hZ⟩ : ∃ Z, lexL t.data.toList = Z := ⟨_, rfl⟩
    rw [hZ] at E ⊢
    have HE := Lib.hid E.symm
    clear E hZ
    go_enter Try.func11, Try.ntmps11
    go_wp2
    go_loopw [5, 6] (fun lv kv wr => ∃ (acc : List TokB) (k f : Nat), kv = .int .i64 k ∧ k ≤ t.size ∧ Hid (lexGo f (atL t k) k acc = Z) ∧ t.size < f + k ∧ acc.length ≤ k ∧ OwnR tokV 3 wr W.heap.size 34 lv acc ∧ Below W.heap.size W wr) (fun _ kv _ => t.size - (intOf kv).toNat)
    case atStart => exact ⟨[], 0, t.size + 1, rfl, Nat.zero_le _, HE, by omega, Nat.zero_le _, OwnR.nil _ _ _, Below.refl _ _⟩
    case round =>
      obtain ⟨acc, k, f, rfl, hkt, HZ, hf, hak, hown, hb⟩ := hrel
      have hsz := hb.size
      by_cases hk : k < t.size
      · have hkI : (k : Int) < (t.size : Int) := by omega
        obtain ⟨f, rfl⟩ : ∃ g, f = g + 1 := ⟨f - 1, by omega⟩
        have hT := HZ.out
        rw [at_cons t k hk] at hT
        have hrest := rest_list t k
        rw [at_cons t k hk] at hrest
        obtain ⟨c, hc⟩ : ∃ c, t[k] = c := ⟨_, rfl⟩
        rw [hc] at hT hrest
        have hs3 := sp_iff c
        by_cases hsp : goodK [3] c = true
        · rw [lexGo_sp c hsp] at hT
          have HT := Lib.hid hT
          rw [hsp] at hs3
          obtain ⟨n, hn⟩ : ∃ n, c.toNat = n := ⟨_, rfl⟩
          rw [hn] at hs3
          have hcs : n = 32 ∨ n = 9 ∨ n = 10 := by
            have := hs3.symm
            simp only [Bool.or_eq_true, decide_eq_true_iff] at this
            omega
          clear hT hrest hs3 hsp HZ
          rcases hcs with h | h | h
          · have b1 : ((n : Int) == 32) = true := by rw [beq_iff_eq]; omega
            clear h
            go_wp2
            go_round
            case rel => exact ⟨acc, k + 1, f + 1, by go_num, by omega, HT, by omega, by omega, hown, hb⟩
            case measure => simp [intOf]; omega
          · have b1 : ((n : Int) == 32) = false := by rw [beq_eq_false_iff_ne]; omega
            have b2 : ((n : Int) == 9) = true := by rw [beq_iff_eq]; omega
            clear h
            go_wp2
            go_round
            case rel => exact ⟨acc, k + 1, f + 1, by go_num, by omega, HT, by omega, by omega, hown, hb⟩
            case measure => simp [intOf]; omega
          · have b1 : ((n : Int) == 32) = false := by rw [beq_eq_false_iff_ne]; omega
            have b2 : ((n : Int) == 9) = false := by rw [beq_eq_false_iff_ne]; omega
            have b3 : ((n : Int) == 10) = true := by rw [beq_iff_eq]; omega
            clear h
            go_wp2
            go_round
            case rel => exact ⟨acc, k + 1, f + 1, by go_num, by omega, HT, by omega, by omega, hown, hb⟩
            case measure => simp [intOf]; omega
        · have hsp2 : goodK [3] c = false := by simpa using hsp
          rw [lexGo_one c hsp2] at hT
          rw [hsp2] at hs3
          have hle := oneL_le (c :: atL t (k + 1))
          have hlen : (c :: atL t (k + 1)).length = t.size - k := by
            rw [← hc, ← at_cons t k hk, at_len]
          rw [hlen] at hle
          have RW := fun w => refWord_any (t.extract k t.size) (by rw [ByteArray.size_extract]; omega) (by rw [ByteArray.size_extract]; omega) w
          rw [hrest] at RW
          have hdr : ∀ n, (c :: atL t (k + 1)).drop n = atL t (k + n) := fun n => by rw [← hc, ← at_cons t k hk, at_drop_add]
          rw [hdr] at hT
          obtain ⟨⟨kd, tt, m⟩, hx⟩ : ∃ x, oneL (c :: atL t (k + 1)) = x := ⟨_, rfl⟩
          rw [hx] at hT hle
          simp only [hx] at RW
          dsimp only at hT hle
          obtain ⟨n, hn⟩ : ∃ n, c.toNat = n := ⟨_, rfl⟩
          rw [hn] at hs3
          have hcs : n ≠ 32 ∧ n ≠ 9 ∧ n ≠ 10 := by
            have := hs3.symm
            simp only [Bool.or_eq_false_iff, decide_eq_false_iff_not] at this
            omega
          have b1 : ((n : Int) == 32) = false := by rw [beq_eq_false_iff_ne]; omega
          have b2 : ((n : Int) == 9) = false := by rw [beq_eq_false_iff_ne]; omega
          have b3 : ((n : Int) == 10) = false := by rw [beq_eq_false_iff_ne]; omega
          replace RW := Lib.hid RW
          have HO := Lib.hid hown
          have HB := Lib.hid hb
          clear hs3 hsp hsp2 hlen hrest hdr hx hcs hown hb HZ
          by_cases hm : m = 0
          · have E := Lib.hid (show ([], k, 2) = Z from by rwa [if_pos hm] at hT)
            have b4 : ((m : Int) == 0) = true := by rw [beq_iff_eq]; omega
            clear hT hm
            go_wp2_with fail
            refine (RW.out _).mono ?_
            rintro e w4 ⟨rfl, hx⟩
            have hb4 := hop HB.out h0 hx
            unfold wordV
            clear hx
            go_wp2
            go_ret3
            exact ⟨_, by rw [← E.out]; rfl, by rw [← E.out]; exact OwnR.nil _ _ _, hb4.alloc hb4.size _⟩
          · have E := Lib.hid (show lexGo f (atL t (k + m)) (k + m) (acc ++ [⟨kd, tt, k⟩]) = Z from by rwa [if_neg hm] at hT)
            have b4 : ((m : Int) == 0) = false := by rw [beq_eq_false_iff_ne]; omega
            have hm1 : 1 ≤ m := by omega
            clear hT hm
            go_wp2_with fail
            refine (RW.out _).mono ?_
            rintro e w4 ⟨rfl, hx⟩
            have hb4 := hop HB.out h0 hx
            have ho4 := HO.out.below hx
            have hs4 := hb4.size
            unfold wordV
            clear hx
            go_wp2_with (at_builtin; refine wpList_append_own _ rfl (.tmp 46) (.tmp 48) 29 rfl W.heap.size 34 i0 (.agg #[.int .i64 0, .string ⟨#[]⟩, .int .i64 0]) 3 32 Try.underlying29 hi hz0 hz1 hz2 rfl (by decide) _ _ _ rfl ((ho4.alloc _).alloc _) ⟨w4.heap.size + 1, 0, none⟩ 1 1 (tokV ⟨kd, tt, k⟩) rfl rfl (new_cells_at _ _ _ _ (by simp)) (tokV_one _) (by unfold maxLen; omega) (by omega) (by simp; omega) ?_)
            intro v' w7 hown' hgrow _
            have hb7 := ((hb4.alloc hs4 _).alloc (by simp; omega) _).grown hgrow (by simp; omega) (fun r hr => (World.ownsRow.lt ho4 r hr).1)
            have hown7 := OwnR.snoc (a := (⟨kd, tt, k⟩ : TokB)) hown'
            have HO7 := Lib.hid hown7
            have HB7 := Lib.hid hb7
            clear hown' hgrow hown7 hb7 hb4 ho4
            go_wp2
            go_round
            case rel => exact ⟨_, k + m, f, by go_num, by omega, E, by omega, by rw [List.length_append, List.length_singleton]; omega, HO7.out, HB7.out⟩
            case measure => simp [intOf]; omega
      · obtain rfl : k = t.size := by omega
        obtain ⟨f, rfl⟩ : ∃ g, f = g + 1 := ⟨f - 1, by omega⟩
        have E := Lib.hid (show (acc, t.size, (0 : Int)) = Z from by
          have := HZ.out
          rw [at_end t t.size (Nat.le_refl _), lexGo_succ] at this
          exact this)
        go_wp2
        go_ret3
        exact ⟨_, by rw [← E.out]; rfl, by rw [← E.out]; exact hown, hb⟩
end Go.Proofs.Ytnhbahfpinijiaa
