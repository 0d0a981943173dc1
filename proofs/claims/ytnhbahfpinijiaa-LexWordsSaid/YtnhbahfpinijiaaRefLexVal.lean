/- The document's own word that a text begins with: numbers, and none. -/
import Derived.Test.YtnhbahfpinijiaaRefLexWord
namespace Go.Proofs.Ytnhbahfpinijiaa
open Go.RowKit
set_option linter.unusedVariables false

set_option maxRecDepth 100000 in
set_option maxHeartbeats 1600000 in
theorem one_value (s : ByteArray) (hs : s.size ≤ 16000000) (h1 : 0 < s.size) (ho : opL s.data.toList = none) (hq : (getR s.data.toList).2.2 = false) (hh : headK [1, 2] s.data.toList = false) (h4 : headK [0] s.data.toList = true ∨ (s.data.toList.head? = some 45 ∧ headK [0] (s.data.toList.drop 1) = true)) (W : World) :
    Calls Try.prog 20 #[.string s] W (OneP W (oneL s.data.toList)) := by
  have h0 : W.heap.size ≤ W.heap.size := Nat.le_refl _
  have OP := fun w => refOp_any s hs w
  rw [ho] at OP
  have GT := fun w => refGet_any s hs w
  rw [getR_no hq] at GT
  have HON := Lib.hid (fun k hk => oneL_val (k := k) ho hq hh h4 hk)
  obtain ⟨Z, hZ⟩ : ∃ Z, oneL s.data.toList = Z := ⟨_, rfl⟩
  simp only [hZ] at HON
  rw [hZ]
  have h1I : (0 : Int) < (s.size : Int) := by omega
  obtain ⟨c, hc⟩ : ∃ c, s[0] = c := ⟨_, rfl⟩
  have hn256 := c.toNat_lt
  obtain ⟨n, hn⟩ : ∃ n, c.toNat = n := ⟨_, rfl⟩
  rw [hn] at hn256
  have hl0 : s.data.toList = c :: s.data.toList.drop 1 := by
    have hl : 0 < s.data.toList.length := by rw [size_toList]; exact h1
    have := List.drop_eq_getElem_cons hl
    rw [List.drop_zero] at this
    have e : s.data.toList[0] = s[0] := rfl
    rw [e, hc] at this
    exact this
  have hh2 : goodK [1, 2] c = false := by rw [hl0] at hh; exact hh
  rw [good12, hn, Bool.or_eq_false_iff] at hh2
  have hz1 := hh2.1
  have n95 : ((n : Int) == 95) = false := by
    rw [beq_eq_false_iff_ne]
    have : n ≠ 95 := by simpa using hh2.2
    omega
  have hgood0 : headK [0] s.data.toList = kindB 0 n := by rw [hl0]; show goodK [0] c = _; rw [good0, hn]
  have h45 : s.data.toList.head? = some 45 ↔ n = 45 := by
    rw [hl0, List.head?_cons]
    constructor
    · intro h
      injection h with h
      rw [← hn, h]
      rfl
    · intro h
      rw [show c = 45 from UInt8.toNat_inj.1 (by rw [hn, h]; rfl)]
  have L0 := fun w => refLetter_any n hn256 w
  simp only [hz1] at L0
  have D0 := fun w => refDigit_any n hn256 w
  obtain ⟨y, hy⟩ : ∃ y, kindB 0 n = y := ⟨_, rfl⟩
  simp only [hy] at D0
  rw [hy] at hgood0
  replace L0 := Lib.hid L0
  replace D0 := Lib.hid D0
  have hcase : y = true ∨ (y = false ∧ ((n : Int) == 45) = true ∧ ∃ (h2 : 1 < s.size) (m : Nat), m < 256 ∧ s[1].toNat = m ∧ kindB 0 m = true) := by
    rcases h4 with h | ⟨h, h2⟩
    · rw [hgood0] at h
      exact .inl h
    · cases y with
      | true => exact .inl rfl
      | false =>
        refine .inr ⟨rfl, by rw [beq_iff_eq]; have := h45.1 h; omega, ?_⟩
        rcases Nat.lt_or_ge 1 s.size with hlt | hge
        · refine ⟨hlt, s[1].toNat, s[1].toNat_lt, rfl, ?_⟩
          have hl : 1 < s.data.toList.length := by rw [size_toList]; exact hlt
          rw [List.drop_eq_getElem_cons hl] at h2
          have h3 : goodK [0] s[1] = true := h2
          rwa [good0] at h3
        · have : s.data.toList.drop 1 = [] := List.drop_eq_nil_of_le (by rw [size_toList]; exact hge)
          rw [this] at h2
          cases h2
  have LL := Lib.hid (fun m hm w => refLetter_any m hm w)
  have DD := Lib.hid (fun m hm w => refDigit_any m hm w)
  have B0 := Blk.new W 34 #[.int .i64 0, .string ⟨#[]⟩, .int .i64 0]
  have hb0 : Below W.heap.size W (W.alloc (.cells #[.int .i64 0, .string ⟨#[]⟩, .int .i64 0] 34)) := (Below.refl _ _).alloc (Nat.le_refl _) _
  replace OP := Lib.hid OP
  replace GT := Lib.hid GT
  clear ho hq hh hZ hl0 hh2 hz1 hgood0 h45 h4 hy
  go_enter Try.func20, Try.ntmps20
  go_wp2_with fail
  refine (OP.out _).mono ?_
  rintro e w1 ⟨rfl, hx⟩
  have hb1 := hop hb0 h0 hx
  have B1 := B0.below hx B0.lt
  clear B0 hb0 hx
  go_wp2_with fail
  refine (GT.out _).mono ?_
  rintro e w2 ⟨rfl, hx⟩
  replace hb1 := hop hb1 h0 hx
  replace B1 := B1.below hx B1.lt
  clear hx
  have k0 := (B1.cell 0).trans (rfl : _ = some (Value.int .i64 0))
  have k1 := (B1.cell 1).trans (rfl : _ = some (Value.string ⟨#[]⟩))
  have k2 := (B1.cell 2).trans (rfl : _ = some (Value.int .i64 0))
  have f0 := B1.frozen 0
  have f1 := B1.frozen 1
  have f2 := B1.frozen 2
  have HB1 := Lib.hid B1
  have Hb1 := Lib.hid hb1
  clear B1 hb1
  go_wp2_with fail
  refine (L0.out _).mono ?_
  rintro e w ⟨rfl, rfl⟩
  go_wp2_with fail
  refine (D0.out _).mono ?_
  rintro e w ⟨rfl, rfl⟩
  rcases hcase with rfl | ⟨rfl, n45, h2, m, hm256, hm, hzm⟩
  case' inr =>
    have h2I : (1 : Int) < (s.size : Int) := by omega
    obtain ⟨d, hd⟩ : ∃ c, s[1] = c := ⟨_, rfl⟩
    rw [hd] at hm
    have D2 := fun w => DD.out m hm256 w
    simp only [hzm] at D2
    replace D2 := Lib.hid D2
    clear hzm
    go_wp2_with fail
    refine (D2.out _).mono ?_
    rintro e w ⟨rfl, rfl⟩
  all_goals
    go_wp2_with fail
    go_loopw [8] (fun av wr => ∃ k : Nat, 1 ≤ k ∧ k ≤ s.size ∧ av = .int .i64 k ∧ Hid (∀ i, 1 ≤ i → i < k → ∃ d, s.data.toList[i]? = some d ∧ goodK [0, 1] d = true) ∧ w2 = wr) (fun av _ => s.size - (intOf av).toNat)
    case atStart => exact ⟨1, Nat.le_refl _, h1, rfl, Lib.hid (fun i h1 h2 => by omega), rfl⟩
    case round =>
      obtain ⟨k, hk1, hk, rfl, HK, rfl⟩ := hrel
      by_cases hlt : k < s.size
      · have hltI : (k : Int) < (s.size : Int) := by omega
        obtain ⟨d, hd⟩ : ∃ c, s[k] = c := ⟨_, rfl⟩
        have hds : s.data.toList[k]? = some d := by
          have : s.data.toList[k]? = some s[k] := List.getElem?_eq_getElem (by rw [size_toList]; exact hlt)
          rw [this, hd]
        have hgd := good01 d
        have hm256 := d.toNat_lt
        obtain ⟨m, hm⟩ : ∃ n, d.toNat = n := ⟨_, rfl⟩
        rw [hm] at hgd hm256
        have L1 := fun w => LL.out m hm256 w
        have D1 := fun w => DD.out m hm256 w
        obtain ⟨y1, hy1⟩ : ∃ y, kindB 1 m = y := ⟨_, rfl⟩
        obtain ⟨y2, hy2⟩ : ∃ y, kindB 0 m = y := ⟨_, rfl⟩
        simp only [hy1] at L1 hgd
        simp only [hy2] at D1 hgd
        replace L1 := Lib.hid L1
        replace D1 := Lib.hid D1
        have hnext : goodK [0, 1] d = true → ∀ i, 1 ≤ i → i < k + 1 → ∃ d, s.data.toList[i]? = some d ∧ goodK [0, 1] d = true := fun hg i hi1 hi => by
          rcases Nat.lt_or_ge i k with h | h
          · exact HK.out i hi1 h
          · obtain rfl : i = k := by omega
            exact ⟨d, hds, hg⟩
        have hstop : goodK [0, 1] d = false → 1 + ((s.data.toList.drop 1).takeWhile (goodK [0, 1])).length = k := fun hg => by
          have := run_stop (goodK [0, 1]) s.data.toList (k - 1) 1 (fun i h1 h2 => HK.out i h1 (by omega)) (fun c hc => by rw [show 1 + (k - 1) = k by omega, hds] at hc; injection hc with hc; rw [← hc]; exact hg)
          omega
        have HNX := Lib.hid hnext
        have HSTP := Lib.hid hstop
        clear hnext hstop hds hy1 hy2
        cases y1 with
        | true =>
          have HG := Lib.hid (HNX.out hgd)
          clear hgd
          go_wp2_with fail
          refine (L1.out _).mono ?_
          rintro e w ⟨rfl, rfl⟩
          go_wp2
          go_round
          case rel => exact ⟨k + 1, by omega, by omega, by go_num, HG, by first | rfl | trivial⟩
          case measure => simp [intOf]; omega
        | false =>
          cases y2 with
          | true =>
            have HG := Lib.hid (HNX.out hgd)
            clear hgd
            go_wp2_with fail
            refine (L1.out _).mono ?_
            rintro e w ⟨rfl, rfl⟩
            go_wp2_with fail
            refine (D1.out _).mono ?_
            rintro e w ⟨rfl, rfl⟩
            go_wp2
            go_round
            case rel => exact ⟨k + 1, by omega, by omega, by go_num, HG, by first | rfl | trivial⟩
            case measure => simp [intOf]; omega
          | false =>
            have HE := Lib.hid (HON.out k (HSTP.out hgd))
            clear hgd
            go_wp2_with fail
            refine (L1.out _).mono ?_
            rintro e w ⟨rfl, rfl⟩
            go_wp2_with fail
            refine (D1.out _).mono ?_
            rintro e w ⟨rfl, rfl⟩
            go_wp2
            (try simp only [Exit.inBlock, Exit.then])
            refine bodyPost_ret (results_row_tmp rfl _ _ W.heap.size 34 _ (0, 0) _ rfl (one_blk HB1.out _ _ _) Try.underlying34 rfl (by kernel_rfl)) rfl ?_
            exact ⟨by rw [HE.out]; rfl, one_end _ h0 Hb1.out _ _ _⟩
      · obtain rfl : k = s.size := by omega
        have E := HON.out s.size (by
          have := run_stop (goodK [0, 1]) s.data.toList (s.size - 1) 1 (fun i h1 h2 => HK.out i h1 (by omega)) (fun c hc => by rw [List.getElem?_eq_none (by rw [size_toList]; omega)] at hc; cases hc)
          omega)
        rw [extract_all] at E
        have HE := Lib.hid E
        clear E
        go_wp2
        (try simp only [Exit.inBlock, Exit.then])
        refine bodyPost_ret (results_row_tmp rfl _ _ W.heap.size 34 _ (0, 0) _ rfl (one_blk HB1.out _ _ _) Try.underlying34 rfl (by kernel_rfl)) rfl ?_
        exact ⟨by rw [HE.out]; rfl, one_end _ h0 Hb1.out _ _ _⟩

set_option maxRecDepth 100000 in
set_option maxHeartbeats 1600000 in
theorem one_no (s : ByteArray) (hs : s.size ≤ 16000000) (h1 : 0 < s.size) (ho : opL s.data.toList = none) (hq : (getR s.data.toList).2.2 = false) (hh : headK [1, 2] s.data.toList = false) (h4 : headK [0] s.data.toList = false) (h5 : ¬ (s.data.toList.head? = some 45 ∧ headK [0] (s.data.toList.drop 1) = true)) (W : World) :
    Calls Try.prog 20 #[.string s] W (OneP W (0, .empty, 0)) := by
  have h0 : W.heap.size ≤ W.heap.size := Nat.le_refl _
  have OP := fun w => refOp_any s hs w
  rw [ho] at OP
  have GT := fun w => refGet_any s hs w
  rw [getR_no hq] at GT
  have h1I : (0 : Int) < (s.size : Int) := by omega
  obtain ⟨c, hc⟩ : ∃ c, s[0] = c := ⟨_, rfl⟩
  have hn256 := c.toNat_lt
  obtain ⟨n, hn⟩ : ∃ n, c.toNat = n := ⟨_, rfl⟩
  rw [hn] at hn256
  have hl0 : s.data.toList = c :: s.data.toList.drop 1 := by
    have hl : 0 < s.data.toList.length := by rw [size_toList]; exact h1
    have := List.drop_eq_getElem_cons hl
    rw [List.drop_zero] at this
    have e : s.data.toList[0] = s[0] := rfl
    rw [e, hc] at this
    exact this
  have hh2 : goodK [1, 2] c = false := by rw [hl0] at hh; exact hh
  rw [good12, hn, Bool.or_eq_false_iff] at hh2
  have hz1 := hh2.1
  have n95 : ((n : Int) == 95) = false := by
    rw [beq_eq_false_iff_ne]
    have : n ≠ 95 := by simpa using hh2.2
    omega
  have hgood0 : headK [0] s.data.toList = kindB 0 n := by rw [hl0]; show goodK [0] c = _; rw [good0, hn]
  have h45 : s.data.toList.head? = some 45 ↔ n = 45 := by
    rw [hl0, List.head?_cons]
    constructor
    · intro h
      injection h with h
      rw [← hn, h]
      rfl
    · intro h
      rw [show c = 45 from UInt8.toNat_inj.1 (by rw [hn, h]; rfl)]
  have L0 := fun w => refLetter_any n hn256 w
  simp only [hz1] at L0
  have D0 := fun w => refDigit_any n hn256 w
  obtain ⟨y, hy⟩ : ∃ y, kindB 0 n = y := ⟨_, rfl⟩
  simp only [hy] at D0
  rw [hy] at hgood0
  replace L0 := Lib.hid L0
  replace D0 := Lib.hid D0
  obtain rfl : y = false := by rw [← hgood0]; exact h4
  have hcase : ((n : Int) == 45) = false ∨ (((n : Int) == 45) = true ∧ s.size = 1) ∨ (((n : Int) == 45) = true ∧ ∃ (h2 : 1 < s.size) (m : Nat), m < 256 ∧ s[1].toNat = m ∧ kindB 0 m = false) := by
    by_cases hn45 : n = 45
    · have e45 : ((n : Int) == 45) = true := by rw [beq_iff_eq]; omega
      rcases Nat.lt_or_ge 1 s.size with hlt | hge
      · refine .inr (.inr ⟨e45, hlt, s[1].toNat, s[1].toNat_lt, rfl, ?_⟩)
        cases hk : kindB 0 s[1].toNat with
        | false => rfl
        | true =>
          refine absurd ⟨h45.2 hn45, ?_⟩ h5
          have hl : 1 < s.data.toList.length := by rw [size_toList]; exact hlt
          rw [List.drop_eq_getElem_cons hl]
          show goodK [0] s[1] = true
          rw [good0]
          exact hk
      · exact .inr (.inl ⟨e45, by omega⟩)
    · exact .inl (by rw [beq_eq_false_iff_ne]; omega)
  have DD := Lib.hid (fun m hm w => refDigit_any m hm w)
  have B0 := Blk.new W 34 #[.int .i64 0, .string ⟨#[]⟩, .int .i64 0]
  have hb0 : Below W.heap.size W (W.alloc (.cells #[.int .i64 0, .string ⟨#[]⟩, .int .i64 0] 34)) := (Below.refl _ _).alloc (Nat.le_refl _) _
  replace OP := Lib.hid OP
  replace GT := Lib.hid GT
  clear ho hq hh hl0 hh2 hz1 hgood0 h45 h4 h5 hy
  go_enter Try.func20, Try.ntmps20
  go_wp2_with fail
  refine (OP.out _).mono ?_
  rintro e w1 ⟨rfl, hx⟩
  have hb1 := hop hb0 h0 hx
  have B1 := B0.below hx B0.lt
  clear B0 hb0 hx
  go_wp2_with fail
  refine (GT.out _).mono ?_
  rintro e w2 ⟨rfl, hx⟩
  replace hb1 := hop hb1 h0 hx
  replace B1 := B1.below hx B1.lt
  clear hx
  have k0 := (B1.cell 0).trans (rfl : _ = some (Value.int .i64 0))
  have k1 := (B1.cell 1).trans (rfl : _ = some (Value.string ⟨#[]⟩))
  have k2 := (B1.cell 2).trans (rfl : _ = some (Value.int .i64 0))
  have f0 := B1.frozen 0
  have f1 := B1.frozen 1
  have f2 := B1.frozen 2
  have HB1 := Lib.hid B1
  have Hb1 := Lib.hid hb1
  clear B1 hb1
  go_wp2_with fail
  refine (L0.out _).mono ?_
  rintro e w ⟨rfl, rfl⟩
  go_wp2_with fail
  refine (D0.out _).mono ?_
  rintro e w ⟨rfl, rfl⟩
  rcases hcase with n45 | ⟨n45, hone⟩ | ⟨n45, h2, m, hm256, hm, hzm⟩
  · go_wp2
    (try simp only [Exit.inBlock, Exit.then])
    refine bodyPost_ret (results_row_tmp rfl _ _ W.heap.size 34 _ (0, 0) _ rfl (one_blk HB1.out _ _ _) Try.underlying34 rfl (by kernel_rfl)) rfl ?_
    exact ⟨rfl, one_end _ h0 Hb1.out _ _ _⟩
  · have h1J : ¬ (1 : Int) < (s.size : Int) := by omega
    have h1K : decide ((1 : Int) < (s.size : Int)) = false := decide_eq_false h1J
    have h1L : decide (1 < s.size) = false := decide_eq_false (by omega)
    clear hone
    go_wp2
    (try simp only [Exit.inBlock, Exit.then])
    refine bodyPost_ret (results_row_tmp rfl _ _ W.heap.size 34 _ (0, 0) _ rfl (one_blk HB1.out _ _ _) Try.underlying34 rfl (by kernel_rfl)) rfl ?_
    exact ⟨rfl, one_end _ h0 Hb1.out _ _ _⟩
  · have h2I : (1 : Int) < (s.size : Int) := by omega
    obtain ⟨d, hd⟩ : ∃ c, s[1] = c := ⟨_, rfl⟩
    rw [hd] at hm
    have D2 := fun w => DD.out m hm256 w
    simp only [hzm] at D2
    replace D2 := Lib.hid D2
    clear hzm
    go_wp2_with fail
    refine (D2.out _).mono ?_
    rintro e w ⟨rfl, rfl⟩
    go_wp2
    (try simp only [Exit.inBlock, Exit.then])
    refine bodyPost_ret (results_row_tmp rfl _ _ W.heap.size 34 _ (0, 0) _ rfl (one_blk HB1.out _ _ _) Try.underlying34 rfl (by kernel_rfl)) rfl ?_
    exact ⟨rfl, one_end _ h0 Hb1.out _ _ _⟩
theorem refWord_any (s : ByteArray) (hs : s.size ≤ 16000000) (h1 : 0 < s.size) (W : World) : Calls Try.prog 20 #[.string s] W (OneP W (oneL s.data.toList)) := by
  cases ho : opL s.data.toList with
  | some o => rw [oneL_op ho]; exact one_op s o hs ho W
  | none =>
    by_cases hq : (getR s.data.toList).2.2 = true
    · rw [oneL_text ho hq]; exact one_text7 s hs ho hq W
    · have hq2 : (getR s.data.toList).2.2 = false := by simpa using hq
      by_cases hh : headK [1, 2] s.data.toList = true
      · exact one_name s hs h1 ho hq2 hh W
      · have hh2 : headK [1, 2] s.data.toList = false := by simpa using hh
        by_cases h4 : headK [0] s.data.toList = true ∨ (s.data.toList.head? = some 45 ∧ headK [0] (s.data.toList.drop 1) = true)
        · exact one_value s hs h1 ho hq2 hh2 h4 W
        · have h6 : headK [0] s.data.toList = false := by
            cases h : headK [0] s.data.toList with
            | true => exact absurd (.inl h) h4
            | false => rfl
          have h7 : ¬ (s.data.toList.head? = some 45 ∧ headK [0] (s.data.toList.drop 1) = true) := fun h => h4 (.inr h)
          rw [oneL_none ho hq2 hh2 h6 h7]
          exact one_no s hs h1 ho hq2 hh2 h6 h7 W
end Go.Proofs.Ytnhbahfpinijiaa
