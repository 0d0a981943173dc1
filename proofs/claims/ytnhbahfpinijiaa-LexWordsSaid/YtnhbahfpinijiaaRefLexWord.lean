/- The document's own word that a text begins with: the walk. -/
import Derived.Test.YtnhbahfpinijiaaRefLexOne
namespace Go.Proofs.Ytnhbahfpinijiaa
open Go.RowKit
set_option linter.unusedVariables false

theorem extract_all (s : ByteArray) : s.extract 0 s.size = s := text_ext1 (by rw [mid_list, List.drop_zero, List.take_of_length_le (by rw [size_toList]; exact Nat.le_refl _)])
/-- a word and how long it is, as the call answers -/
def wordV (z : Int × ByteArray × Nat) : Value := .tuple #[.agg #[.int .i64 z.1, .string z.2.1, .int .i64 0], .int .i64 (z.2.2 : Int)]
/-- what the call leaves behind: nothing that was there is another one -/
def OneP (W : World) (z : Int × ByteArray × Nat) (e : Ending) (w' : World) : Prop := e = .returned (wordV z) ∧ Below W.heap.size W w'
theorem one_end {W w : World} (g : Nat) (hg : W.heap.size ≤ g) (hb : Below W.heap.size W w) (a b c : Value) : Below W.heap.size W (((w.setCell ⟨g, 0, none⟩ a).setCell ⟨g, 1, none⟩ b).setCell ⟨g, 2, none⟩ c) :=
  ((hb.setCell (p := ⟨g, 0, none⟩) hg a).setCell (p := ⟨g, 1, none⟩) hg b).setCell (p := ⟨g, 2, none⟩) hg c
theorem one_blk {w : World} {g : Nat} {cs : Array Value} (h : Blk w g 34 cs) (a b c : Value) : Blk (((w.setCell ⟨g, 0, none⟩ a).setCell ⟨g, 1, none⟩ b).setCell ⟨g, 2, none⟩ c) g 34 (((cs.setIfInBounds 0 a).setIfInBounds 1 b).setIfInBounds 2 c) := ((h.set_ 0 a).set_ 1 b).set_ 2 c

set_option maxRecDepth 100000 in
set_option maxHeartbeats 800000 in
theorem one_op (s o : ByteArray) (hs : s.size ≤ 16000000) (ho : opL s.data.toList = some o) (W : World) :
    Calls Try.prog 20 #[.string s] W (OneP W (4, o, o.size)) := by
  have h0 : W.heap.size ≤ W.heap.size := Nat.le_refl _
  have OP := fun w => refOp_any s hs w
  rw [ho] at OP
  have h1 := ops_size o (opL_mem ho)
  have hne : o.toList.isEmpty = false := by
    rw [Lib.toList_data]
    cases hl : o.data.toList with
    | nil => have := size_toList o; rw [hl] at this; simp at this; omega
    | cons c r => rfl
  have hne2 : (o.toList == []) = false := by
    cases h : o.toList with
    | nil => rw [h] at hne; cases hne
    | cons c r => rfl
  have B0 := Blk.new W 34 #[.int .i64 0, .string ⟨#[]⟩, .int .i64 0]
  have hb0 : Below W.heap.size W (W.alloc (.cells #[.int .i64 0, .string ⟨#[]⟩, .int .i64 0] 34)) := (Below.refl _ _).alloc (Nat.le_refl _) _
  replace OP := Lib.hid OP
  clear ho
  go_enter Try.func20, Try.ntmps20
  go_wp2_with fail
  refine (OP.out _).mono ?_
  rintro e w1 ⟨rfl, hx⟩
  have hb1 := hop hb0 h0 hx
  have B1 := B0.below hx B0.lt
  have k0 := (B1.cell 0).trans (rfl : _ = some (Value.int .i64 0))
  have k1 := (B1.cell 1).trans (rfl : _ = some (Value.string ⟨#[]⟩))
  have k2 := (B1.cell 2).trans (rfl : _ = some (Value.int .i64 0))
  have f0 := B1.frozen 0
  have f1 := B1.frozen 1
  have f2 := B1.frozen 2
  have HB1 := Lib.hid B1
  have Hb1 := Lib.hid hb1
  clear B0 hb0 hx B1 hb1
  go_wp2
  (try simp only [Exit.inBlock, Exit.then])
  refine bodyPost_ret (results_row_tmp rfl _ _ W.heap.size 34 _ (0, 0) _ rfl (one_blk HB1.out _ _ _) Try.underlying34 rfl (by kernel_rfl)) rfl ?_
  exact ⟨rfl, one_end _ h0 Hb1.out _ _ _⟩

set_option maxRecDepth 100000 in
set_option maxHeartbeats 800000 in
theorem one_text7 (s : ByteArray) (hs : s.size ≤ 16000000) (ho : opL s.data.toList = none) (hq : (getR s.data.toList).2.2 = true) (W : World) :
    Calls Try.prog 20 #[.string s] W (OneP W (2, tx (getR s.data.toList).1, (getR s.data.toList).2.1)) := by
  have h0 : W.heap.size ≤ W.heap.size := Nat.le_refl _
  have OP := fun w => refOp_any s hs w
  rw [ho] at OP
  have GT := fun w => refGet_any s hs w
  obtain ⟨⟨l, n, ok⟩, hg⟩ : ∃ x, getR s.data.toList = x := ⟨_, rfl⟩
  rw [hg] at hq ⊢
  simp only [hg] at GT
  dsimp only at hq
  subst hq
  have B0 := Blk.new W 34 #[.int .i64 0, .string ⟨#[]⟩, .int .i64 0]
  have hb0 : Below W.heap.size W (W.alloc (.cells #[.int .i64 0, .string ⟨#[]⟩, .int .i64 0] 34)) := (Below.refl _ _).alloc (Nat.le_refl _) _
  replace OP := Lib.hid OP
  replace GT := Lib.hid GT
  clear ho hg
  go_enter Try.func20, Try.ntmps20
  go_wp2_with fail
  refine (OP.out _).mono ?_
  rintro e w1 ⟨rfl, hx⟩
  have hb1 := hop hb0 h0 hx
  have B1 := B0.below hx B0.lt
  clear B0 hb0 hx
  go_wp2_with fail
  refine (GT.out _).mono ?_
  rintro e w2 ⟨rfl, hx⟩
  replace hb1 := hop hb1 h0 hx
  replace B1 := B1.below hx B1.lt
  clear hx
  have k0 := (B1.cell 0).trans (rfl : _ = some (Value.int .i64 0))
  have k1 := (B1.cell 1).trans (rfl : _ = some (Value.string ⟨#[]⟩))
  have k2 := (B1.cell 2).trans (rfl : _ = some (Value.int .i64 0))
  have f0 := B1.frozen 0
  have f1 := B1.frozen 1
  have f2 := B1.frozen 2
  have HB1 := Lib.hid B1
  have Hb1 := Lib.hid hb1
  clear B1 hb1
  go_wp2
  (try simp only [Exit.inBlock, Exit.then])
  refine bodyPost_ret (results_row_tmp rfl _ _ W.heap.size 34 _ (0, 0) _ rfl (one_blk HB1.out _ _ _) Try.underlying34 rfl (by kernel_rfl)) rfl ?_
  exact ⟨rfl, one_end _ h0 Hb1.out _ _ _⟩

set_option maxRecDepth 100000 in
set_option maxHeartbeats 1600000 in
theorem one_name (s : ByteArray) (hs : s.size ≤ 16000000) (h1 : 0 < s.size) (ho : opL s.data.toList = none) (hq : (getR s.data.toList).2.2 = false) (hh : headK [1, 2] s.data.toList = true) (W : World) :
    Calls Try.prog 20 #[.string s] W (OneP W (oneL s.data.toList)) := by
  have h0 : W.heap.size ≤ W.heap.size := Nat.le_refl _
  have OP := fun w => refOp_any s hs w
  rw [ho] at OP
  have GT := fun w => refGet_any s hs w
  rw [getR_no hq] at GT
  have HON := Lib.hid (fun k hk => oneL_name (k := k) ho hq hh hk)
  obtain ⟨Z, hZ⟩ : ∃ Z, oneL s.data.toList = Z := ⟨_, rfl⟩
  simp only [hZ] at HON
  rw [hZ]
  have h1I : (0 : Int) < (s.size : Int) := by omega
  obtain ⟨c, hc⟩ : ∃ c, s[0] = c := ⟨_, rfl⟩
  have hcs : s.data.toList[0]? = some c := by
    have : s.data.toList[0]? = some s[0] := List.getElem?_eq_getElem (by rw [size_toList]; exact h1)
    rw [this, hc]
  have hc12 : goodK [1, 2] c = true := by
    obtain ⟨r, hr⟩ : ∃ r, s.data.toList = c :: r := by
      cases hl : s.data.toList with
      | nil => rw [hl] at hcs; cases hcs
      | cons d r => rw [hl] at hcs; injection hcs with hcs; exact ⟨r, by rw [hcs]⟩
    rw [hr] at hh
    exact hh
  have hc012 := sub12 c hc12
  rw [good12] at hc12
  have hn256 := c.toNat_lt
  obtain ⟨n, hn⟩ : ∃ n, c.toNat = n := ⟨_, rfl⟩
  rw [hn] at hc12 hn256
  have L0 := fun w => refLetter_any n hn256 w
  obtain ⟨y, hy⟩ : ∃ y, kindB 1 n = y := ⟨_, rfl⟩
  simp only [hy] at L0 hc12
  have hy95 : y = true ∨ (y = false ∧ ((n : Int) == 95) = true) := by
    cases y with
    | true => exact .inl rfl
    | false => exact .inr ⟨rfl, by rw [beq_iff_eq]; have : n = 95 := by simpa using hc12
                                   omega⟩
  have HST := Lib.hid (show ∀ i, i < 1 → ∃ d, s.data.toList[i]? = some d ∧ goodK [0, 1, 2] d = true from fun i hi => by
    obtain rfl : i = 0 := by omega
    exact ⟨c, hcs, hc012⟩)
  replace L0 := Lib.hid L0
  have B0 := Blk.new W 34 #[.int .i64 0, .string ⟨#[]⟩, .int .i64 0]
  have hb0 : Below W.heap.size W (W.alloc (.cells #[.int .i64 0, .string ⟨#[]⟩, .int .i64 0] 34)) := (Below.refl _ _).alloc (Nat.le_refl _) _
  replace OP := Lib.hid OP
  replace GT := Lib.hid GT
  clear ho hq hh hZ hc12 hy hcs hc012
  go_enter Try.func20, Try.ntmps20
  go_wp2_with fail
  refine (OP.out _).mono ?_
  rintro e w1 ⟨rfl, hx⟩
  have hb1 := hop hb0 h0 hx
  have B1 := B0.below hx B0.lt
  clear B0 hb0 hx
  go_wp2_with fail
  refine (GT.out _).mono ?_
  rintro e w2 ⟨rfl, hx⟩
  replace hb1 := hop hb1 h0 hx
  replace B1 := B1.below hx B1.lt
  clear hx
  have k0 := (B1.cell 0).trans (rfl : _ = some (Value.int .i64 0))
  have k1 := (B1.cell 1).trans (rfl : _ = some (Value.string ⟨#[]⟩))
  have k2 := (B1.cell 2).trans (rfl : _ = some (Value.int .i64 0))
  have f0 := B1.frozen 0
  have f1 := B1.frozen 1
  have f2 := B1.frozen 2
  have HB1 := Lib.hid B1
  have Hb1 := Lib.hid hb1
  clear B1 hb1
  have LL := Lib.hid (fun m hm w => refLetter_any m hm w)
  have DD := Lib.hid (fun m hm w => refDigit_any m hm w)
  go_wp2_with fail
  refine (L0.out _).mono ?_
  rintro e w ⟨rfl, rfl⟩
  rcases hy95 with rfl | ⟨rfl, h95⟩
  all_goals
    go_wp2_with fail
    go_loopw [8] (fun av wr => ∃ k : Nat, 1 ≤ k ∧ k ≤ s.size ∧ av = .int .i64 k ∧ Hid (∀ i, i < k → ∃ d, s.data.toList[i]? = some d ∧ goodK [0, 1, 2] d = true) ∧ w2 = wr) (fun av _ => s.size - (intOf av).toNat)
    case atStart => exact ⟨1, Nat.le_refl _, h1, rfl, HST, rfl⟩
    case round =>
      obtain ⟨k, hk1, hk, rfl, HK, rfl⟩ := hrel
      by_cases hlt : k < s.size
      · have hltI : (k : Int) < (s.size : Int) := by omega
        obtain ⟨d, hd⟩ : ∃ c, s[k] = c := ⟨_, rfl⟩
        have hds : s.data.toList[k]? = some d := by
          have : s.data.toList[k]? = some s[k] := List.getElem?_eq_getElem (by rw [size_toList]; exact hlt)
          rw [this, hd]
        have hgd := good012 d
        have hm256 := d.toNat_lt
        obtain ⟨m, hm⟩ : ∃ n, d.toNat = n := ⟨_, rfl⟩
        rw [hm] at hgd hm256
        have L1 := fun w => LL.out m hm256 w
        have D1 := fun w => DD.out m hm256 w
        obtain ⟨y1, hy1⟩ : ∃ y, kindB 1 m = y := ⟨_, rfl⟩
        obtain ⟨y2, hy2⟩ : ∃ y, kindB 0 m = y := ⟨_, rfl⟩
        simp only [hy1] at L1 hgd
        simp only [hy2] at D1 hgd
        replace L1 := Lib.hid L1
        replace D1 := Lib.hid D1
        have hnext : goodK [0, 1, 2] d = true → ∀ i, i < k + 1 → ∃ d, s.data.toList[i]? = some d ∧ goodK [0, 1, 2] d = true := fun hg i hi => by
          rcases Nat.lt_or_ge i k with h | h
          · exact HK.out i h
          · obtain rfl : i = k := by omega
            exact ⟨d, hds, hg⟩
        have hstop : goodK [0, 1, 2] d = false → (s.data.toList.takeWhile (goodK [0, 1, 2])).length = k := fun hg => run_of _ s k HK.out (fun c hc => by rw [hds] at hc; injection hc with hc; rw [← hc]; exact hg)
        have HNX := Lib.hid hnext
        have HSTP := Lib.hid hstop
        clear hnext hstop hds hy1 hy2
        cases y1 with
        | true =>
          have HG := Lib.hid (HNX.out hgd)
          clear hgd
          go_wp2_with fail
          refine (L1.out _).mono ?_
          rintro e w ⟨rfl, rfl⟩
          go_wp2
          go_round
          case rel => exact ⟨k + 1, by omega, by omega, by go_num, HG, by first | rfl | trivial⟩
          case measure => simp [intOf]; omega
        | false =>
          cases y2 with
          | true =>
            have HG := Lib.hid (HNX.out hgd)
            clear hgd
            go_wp2_with fail
            refine (L1.out _).mono ?_
            rintro e w ⟨rfl, rfl⟩
            go_wp2_with fail
            refine (D1.out _).mono ?_
            rintro e w ⟨rfl, rfl⟩
            go_wp2
            go_round
            case rel => exact ⟨k + 1, by omega, by omega, by go_num, HG, by first | rfl | trivial⟩
            case measure => simp [intOf]; omega
          | false =>
            by_cases h95m : m = 95
            · have m95 : ((m : Int) == 95) = true := by rw [beq_iff_eq]; omega
              have HG := Lib.hid (HNX.out (by rw [hgd, h95m]; rfl))
              clear hgd h95m
              go_wp2_with fail
              refine (L1.out _).mono ?_
              rintro e w ⟨rfl, rfl⟩
              go_wp2_with fail
              refine (D1.out _).mono ?_
              rintro e w ⟨rfl, rfl⟩
              go_wp2
              go_round
              case rel => exact ⟨k + 1, by omega, by omega, by go_num, HG, by first | rfl | trivial⟩
              case measure => simp [intOf]; omega
            · have m95 : ((m : Int) == 95) = false := by rw [beq_eq_false_iff_ne]; omega
              have E := HON.out k (HSTP.out (by rw [hgd, decide_eq_false h95m]; rfl))
              clear hgd h95m
              by_cases h32 : 32 < k
              · rw [if_pos h32] at E
                have HE := Lib.hid E
                have h32I : (32 : Int) < (k : Int) := by omega
                clear E
                go_wp2_with fail
                refine (L1.out _).mono ?_
                rintro e w ⟨rfl, rfl⟩
                go_wp2_with fail
                refine (D1.out _).mono ?_
                rintro e w ⟨rfl, rfl⟩
                go_wp2
                (try simp only [Exit.inBlock, Exit.then])
                refine bodyPost_ret (results_row_tmp rfl _ _ W.heap.size 34 _ (0, 0) _ rfl (one_blk HB1.out _ _ _) Try.underlying34 rfl (by kernel_rfl)) rfl ?_
                exact ⟨by rw [HE.out]; rfl, one_end _ h0 Hb1.out _ _ _⟩
              · rw [if_neg h32] at E
                have HE := Lib.hid E
                have h32I : ¬ (32 : Int) < (k : Int) := by omega
                clear E
                go_wp2_with fail
                refine (L1.out _).mono ?_
                rintro e w ⟨rfl, rfl⟩
                go_wp2_with fail
                refine (D1.out _).mono ?_
                rintro e w ⟨rfl, rfl⟩
                go_wp2
                (try simp only [Exit.inBlock, Exit.then])
                refine bodyPost_ret (results_row_tmp rfl _ _ W.heap.size 34 _ (0, 0) _ rfl (one_blk HB1.out _ _ _) Try.underlying34 rfl (by kernel_rfl)) rfl ?_
                exact ⟨by rw [HE.out]; rfl, one_end _ h0 Hb1.out _ _ _⟩
      · obtain rfl : k = s.size := by omega
        have E := HON.out s.size (run_of _ s s.size HK.out (fun c hc => by rw [List.getElem?_eq_none (by rw [size_toList]; exact Nat.le_refl _)] at hc; cases hc))
        by_cases h32 : 32 < s.size
        · rw [if_pos h32] at E
          have HE := Lib.hid E
          have h32I : (32 : Int) < (s.size : Int) := by omega
          clear E
          go_wp2
          (try simp only [Exit.inBlock, Exit.then])
          refine bodyPost_ret (results_row_tmp rfl _ _ W.heap.size 34 _ (0, 0) _ rfl (one_blk HB1.out _ _ _) Try.underlying34 rfl (by kernel_rfl)) rfl ?_
          exact ⟨by rw [HE.out]; rfl, one_end _ h0 Hb1.out _ _ _⟩
        · rw [if_neg h32, extract_all] at E
          have HE := Lib.hid E
          have h32I : ¬ (32 : Int) < (s.size : Int) := by omega
          clear E
          go_wp2
          (try simp only [Exit.inBlock, Exit.then])
          refine bodyPost_ret (results_row_tmp rfl _ _ W.heap.size 34 _ (0, 0) _ rfl (one_blk HB1.out _ _ _) Try.underlying34 rfl (by kernel_rfl)) rfl ?_
          exact ⟨by rw [HE.out]; rfl, one_end _ h0 Hb1.out _ _ _⟩
end Go.Proofs.Ytnhbahfpinijiaa
