/- The walk of the law LexSpaces: with more spaces between them words are the same, but where they stand. -/
import Derived.Test.YtnhbahfpinijiaaLexPad
import Derived.Test.YtnhbahfpinijiaaConv
namespace Go.Proofs.Ytnhbahfpinijiaa
open Go.RowKit
set_option linter.unusedVariables false

/-- words that can be read -/
def ToksP (w : World) (A : Option Addr) (l : List TokB) : Prop :=
  0 < l.length → ∃ g, A = some ⟨g, 0, none⟩ ∧ g < w.heap.size ∧ ∀ j, j < l.length →
    w.cell? ⟨g, j * 3, none⟩ = some (.int .i64 (l.getD j tnil).kind) ∧ w.cell? ⟨g, j * 3 + 1, none⟩ = some (.string (l.getD j tnil).text) ∧ w.cell? ⟨g, j * 3 + 2, none⟩ = some (.int .i64 ((l.getD j tnil).at_ : Int))
theorem ToksP.below {w w' : World} {A : Option Addr} {l : List TokB} (h : ToksP w A l) (hb : Below w.heap.size w w') : ToksP w' A l := fun h0 => by
  obtain ⟨g, e, hlt, hc⟩ := h h0
  exact ⟨g, e, Nat.lt_of_lt_of_le hlt hb.size, fun j hj => ⟨(hb.cell (p := ⟨g, j * 3, none⟩) hlt).trans (hc j hj).1, (hb.cell (p := ⟨g, j * 3 + 1, none⟩) hlt).trans (hc j hj).2.1, (hb.cell (p := ⟨g, j * 3 + 2, none⟩) hlt).trans (hc j hj).2.2⟩⟩
theorem all_toks (t : ByteArray) (toks : List TokB) (k : Nat) (z : Int) (hz : lexL t.data.toList = (toks, k, z)) (W : World) : Calls Try.prog 10 #[.string t] W fun e w' => ∃ A c, e = .returned (.tuple #[.slice A toks.length c, .int .i64 (k : Nat), .int .i64 z]) ∧ toks.length ≤ c ∧ Hid (ToksP w' A toks) ∧ Below W.heap.size W w' := by
  refine (all_any t W).mono ?_
  rintro e w' ⟨v, rfl, hown, hb⟩
  rw [hz] at hown ⊢
  dsimp only at hown
  rcases Nat.eq_zero_or_pos toks.length with h0 | h0
  · obtain ⟨A, cap, rfl, hc, _⟩ := hown.open tokV_len
    exact ⟨A, cap, rfl, hc, Lib.hid (fun h => by omega), hb⟩
  · obtain ⟨g, cap, rfl, hB, hlt, hc, hcell⟩ := hown.at_ tokV_len h0
    refine ⟨_, cap, rfl, hc, Lib.hid (fun _ => ⟨g, rfl, hlt, fun j hj => ?_⟩), hb⟩
    have hj1 : toks[j]? = some (toks.getD j tnil) := by
      rw [List.getD_eq_getElem?_getD, List.getElem?_eq_getElem hj]
      rfl
    exact ⟨hcell j 0 _ hj1 (by decide), hcell j 1 _ hj1 (by decide), hcell j 2 _ hj1 (by decide)⟩
theorem AccOk.len {acc : List TokB} {k : Nat} (h : AccOk acc k) : acc.length ≤ k := by
  have up : ∀ j (hj : j < acc.length), j ≤ acc[j].at_ := by
    intro j
    induction j with
    | zero => intro _; omega
    | succ j ih =>
      intro hj
      have h1 := ih (by omega)
      have h2 := List.pairwise_iff_getElem.1 h.rise j (j + 1) (by omega) hj (by omega)
      omega
  rcases Nat.eq_zero_or_pos acc.length with h0 | h0
  · omega
  · have h1 := up (acc.length - 1) (by omega)
    have h2 := (h.each _ (List.getElem_mem (show acc.length - 1 < acc.length by omega))).1
    omega
def padB (r : Nat) : UInt8 := [32, 9, 10].getD r 0
theorem pad_at (q : Nat) (h : q < 3) : (⟨#[32, 9, 10]⟩ : ByteArray)[q]'(by exact h) = padB q := by
  have : ∀ q : Fin 3, (⟨#[32, 9, 10]⟩ : ByteArray)[q.1]'(by exact q.2) = padB q.1 := by decide
  exact this ⟨q, h⟩
theorem pad_sp : ∀ r, r < 3 → goodK [3] (padB r) = true := by decide
theorem getD_sh (n : Nat) (l : List TokB) (j : Nat) (hj : j < l.length) : (l.map (shT n)).getD j tnil = shT n (l.getD j tnil) := by
  rw [List.getD_eq_getElem?_getD, List.getElem?_map, List.getD_eq_getElem?_getD, List.getElem?_eq_getElem hj]
  rfl

set_option maxRecDepth 100000 in
set_option maxHeartbeats 1600000 in
theorem lexSpaces_walk {W : World} (A : Option Addr) (len c : Nat) (zs : List Int) (many : Int) (h1 : Ints .u8 W A len zs) (hnc : len ≤ c) (hcm : c ≤ maxLen) (wm : (Lit.int .u8 many).wf = true) :
    Calls Try.prog 4 #[.slice A len c, .int .u8 many] W fun e w' => e = .returned (.bool true) ∧ Below W.heap.size W w' := by
  have h0 : W.heap.size ≤ W.heap.size := Nat.le_refl _
  unfold maxLen at hcm
  obtain ⟨m0, m1⟩ := bdu8 wm
  obtain ⟨n, hn, hn19⟩ : ∃ n : Nat, many % 20 = (n : Int) ∧ n ≤ 19 := ⟨(many % 20).toNat, by omega, by omega⟩
  have HX := Lib.hid (lexExamples_any W)
  have WD := Lib.hid (fun w h => words_any A len c zs (by omega) w h)
  have HI := Lib.hid h1
  have AL := Lib.hid (fun s toks k z hz w => all_toks s toks k z hz w)
  clear h1 hnc hcm wm
  go_enter Try.func4, Try.ntmps4
  go_wp2_with fail
  refine HX.out.mono ?_
  rintro e w1 ⟨rfl, hb⟩
  go_wp2_with fail
  refine (WD.out _ (HI.out.below hb)).mono ?_
  rintro e w2 ⟨s, rfl, hsz, hx⟩
  replace hb := hop hb h0 hx
  clear hx WD HI HX
  have hok := lexL_ok s.data.toList
  have hpad := fun p hp h => lexL_pad p s.data.toList hp h
  obtain ⟨⟨toks, k, z⟩, hz⟩ : ∃ z, lexL s.data.toList = z := ⟨_, rfl⟩
  simp only [hz] at hok hpad
  rw [size_toList] at hok
  have HOK := Lib.hid hok
  have HPAD := Lib.hid hpad
  have A1 := Lib.hid (AL.out s _ _ _ hz)
  clear hok hpad hz
  go_wp2_with fail
  refine (A1.out _).mono ?_
  rintro e w3 ⟨A1', c1, rfl, hc1, HP1, hx⟩
  have HB3 := Lib.hid (hop hb h0 hx)
  obtain ⟨m, hm⟩ : ∃ m, toks.length = m := ⟨_, rfl⟩
  rw [hm] at hc1 ⊢
  have HM := Lib.hid hm
  clear hb hx A1 hm
  go_wp2
  go_loopw [11, 12] (fun pv iv wr => ∃ (i : Nat) (p : ByteArray), i ≤ n ∧ iv = .int .i64 i ∧ pv = .string p ∧ p.size = i ∧ Hid (allSp p.data.toList) ∧ Below w3.heap.size w3 wr) (fun _ iv _ => n - (intOf iv).toNat)
  case atStart => exact ⟨0, ⟨#[]⟩, Nat.zero_le _, rfl, rfl, rfl, Lib.hid (fun c hc => by cases hc), Below.refl _ _⟩
  case round =>
    obtain ⟨i, p, hi, rfl, rfl, hps, HSP, hb⟩ := hrel
    have hsz2 := hb.size
    by_cases hin : i < n
    · have hinI : (i : Int) < (n : Int) := by omega
      obtain ⟨r, hr⟩ : ∃ r, i % 3 = r := ⟨_, rfl⟩
      have hr3 : r < 3 := by omega
      have i1 : (i : Int) % 3 = (r : Int) := by omega
      have i2 : (i : Int).tmod 3 = (r : Int) := by rw [Int.tmod_eq_emod_of_nonneg (by omega)]; exact i1
      have hrI : (r : Int) < 3 := by omega
      have hd := pad_at r hr3
      have hg := pad_sp r hr3
      obtain ⟨y, hy⟩ : ∃ y, (padB r).toNat = y := ⟨_, rfl⟩
      have hy256 : y < 256 := by rw [← hy]; exact (padB r).toNat_lt
      have hcv := conv_oneN wr y hy256
      have hyb : UInt8.ofNat y = padB r := by rw [← hy]; simp
      rw [hyb] at hcv
      have hq : (⟨#[padB r]⟩ : ByteArray).size = 1 := rfl
      have hsp2 : Hid (allSp (p ++ (⟨#[padB r]⟩ : ByteArray)).data.toList) := Lib.hid (by
        rw [text_joined]
        intro c hc
        rcases List.mem_append.1 hc with h | h
        · exact HSP.out c h
        · have e : c = padB r := by simpa using h
          rw [e]; exact hg)
      obtain ⟨x, hx⟩ : ∃ x, (⟨#[padB r]⟩ : ByteArray) = x := ⟨_, rfl⟩
      rw [hx] at hcv hq hsp2
      have s1 : p.size + x.size ≤ 400 := by omega
      have s2 : ¬ 9223372036854775807 < p.size + x.size := by omega
      have s3 : Hid ((p ++ x).size = i + 1) := Lib.hid (by rw [ByteArray.size_append]; omega)
      have HD := Lib.hid hb
      clear hr hg hyb hx hps hq
      go_wp2_with fail
      go_round
      case rel => exact ⟨i + 1, _, by omega, by go_num, rfl, s3.out, hsp2, HD.out.alloc hsz2 _⟩
      case measure => simp [intOf]; omega
    · obtain rfl : i = n := by omega
      have hlen : p.size + s.size ≤ 1024 := by omega
      have hlen2 : (p ++ s).size + p.size ≤ 1024 := by rw [ByteArray.size_append]; omega
      have hjoin : (p ++ s ++ p).data.toList = p.data.toList ++ s.data.toList ++ p.data.toList := by rw [text_joined, text_joined]
      have hz2 := HPAD.out p.data.toList HSP.out (by rw [size_toList, size_toList]; omega)
      rw [← hjoin, size_toList, hps] at hz2
      have A2 := AL.out (p ++ s ++ p) _ _ _ hz2
      obtain ⟨k2, hk2⟩ : ∃ k2, (if z = 0 then k + i + i else k + i) = k2 := ⟨_, rfl⟩
      rw [hk2] at A2
      simp only [List.length_map, HM.out] at A2
      replace A2 := Lib.hid A2
      have hcase : (z = 0 ∧ k = s.size ∧ k2 = s.size + i + i) ∨ (z ≠ 0 ∧ k ≤ 1024 ∧ k2 = k + i ∧ m = 0) := by
        have h2 := HM.out
        rcases HOK.out with ⟨h, h1, _⟩ | ⟨h, h1, h3⟩
        · rw [if_pos h] at hk2
          exact .inl ⟨h, h1, by omega⟩
        · rw [if_neg h] at hk2
          rw [h3] at h2
          exact .inr ⟨h, by omega, by omega, by simpa using h2.symm⟩
      have HP1b := Lib.hid (HP1.out.below hb)
      have HB4 := Lib.hid (hop HB3.out h0 hb)
      have n1 : ¬ 9223372036854775807 < p.size + s.size := by omega
      have n2 : ¬ 9223372036854775807 < (p ++ s).size + p.size := by omega
      clear hz2 hjoin hk2 hb HP1 HSP
      go_wp2_with fail
      refine (A2.out _).mono ?_
      rintro e w4 ⟨B1, c2, rfl, hc2, HP2, hx⟩
      have HP1c := Lib.hid (HP1b.out.below hx)
      have HB5 := Lib.hid (hop HB4.out h0 hx)
      clear hx A2 HP1b HB4
      rcases hcase with ⟨rfl, rfl, hk2⟩ | ⟨hz, hk, hk2, rfl⟩
      · have g1 : ((k2 : Int) != (s.size : Int) + 2 * (i : Int)) = false := by rw [bne_eq_false_iff_eq]; omega
        have g2 : ((m : Int) != (m : Int)) = false := by simp
        have g3 : k2 ≤ 4000 := by omega
        have hmm : m ≤ 240 := by
          have h2 := HM.out
          rcases HOK.out with ⟨_, _, h⟩ | ⟨h, _⟩
          · have := h.len
            omega
          · exact absurd rfl h
        clear hk2
        go_wp2
        go_loopw [16] (fun iv wr => ∃ j : Nat, j ≤ m ∧ iv = .int .i64 j ∧ ∃ q, wr = w4.drewN q) (fun iv _ => m - (intOf iv).toNat)
        case atStart => exact ⟨0, Nat.zero_le _, rfl, 0, rfl⟩
        case round =>
          obtain ⟨j, hjm, rfl, q, rfl⟩ := hrel
          by_cases hj : j < m
          · have hjI : (j : Int) < (m : Int) := by omega
            have hl := HM.out
            obtain ⟨g1', e1, lt1, hc1'⟩ := HP1c.out (by omega)
            obtain ⟨g2', e2, lt2, hc2'⟩ := HP2.out (by rw [List.length_map]; omega)
            obtain ⟨a0, a1, a2⟩ := hc1' j (by omega)
            obtain ⟨b0, b1, b2⟩ := hc2' j (by rw [List.length_map]; omega)
            rw [getD_sh i toks j (by omega)] at b0 b1 b2
            obtain ⟨⟨kd, tt, pl⟩, hp⟩ : ∃ x, toks.getD j tnil = x := ⟨_, rfl⟩
            rw [hp] at a0 a1 a2 b0 b1 b2
            have hpl : pl ≤ s.size := by
              rcases HOK.out with ⟨_, _, h⟩ | ⟨h, _⟩
              · have := (h.each _ (by
                  have : toks.getD j tnil ∈ toks := by
                    rw [List.getD_eq_getElem?_getD, List.getElem?_eq_getElem (by omega)]
                    exact List.getElem_mem _
                  rw [hp] at this
                  exact this)).1
                dsimp only at this
                omega
              · exact absurd rfl h
            dsimp only [shT] at a0 a1 a2 b0 b1 b2
            subst e1 e2
            obtain ⟨pl2, hpl2⟩ : ∃ y, pl + i = y := ⟨_, rfl⟩
            rw [hpl2] at b2
            have e1 : IntKind.i64.wrap ((pl : Int) + (i : Int)) = (pl2 : Int) := by rw [IntKind.wrap_i64]; omega
            have g4 : (kd != kd) = false := by simp
            have g5 : ((pl2 : Int) != (pl2 : Int)) = false := by simp
            clear hc1' hc2' hp hpl2 hpl hl
            go_wp2
            refine wp_region_quiet_lit (by kernel_rfl) (by kernel_rfl) ?_
            repeat (generalize hst : ({ tmps := _, defers := _ } : Act) = st; refine wpQuiet_step (fun K hK => ?_); subst hst; go_simp; refine hK _ ?_; clear hK K)
            refine wpQuiet_nil ?_
            intro _ hw'
            obtain ⟨nq, hw''⟩ := hw'
            subst hw''
            go_wp2
            go_round
            case rel => exact ⟨j + 1, by omega, by go_num, _, rfl⟩
            case measure => simp [intOf]; omega
          · obtain rfl : j = m := by omega
            go_wp2
            go_ret
            exact ⟨rfl, below_drewN HB5.out q⟩
      · have g1 : ((k2 : Int) != (k : Int) + (i : Int)) = false := by rw [bne_eq_false_iff_eq]; omega
        have g2 : (z == 0) = false := by simpa using hz
        have g3 : (z != 0) = true := by simpa using hz
        have g4 : (z != z) = false := by simp
        have g5 : k2 ≤ 4000 := by omega
        clear hk2 hz
        go_wp2
        go_loopw [16] (fun iv wr => iv = .int .i64 0 ∧ ∃ q, wr = w4.drewN q) (fun iv _ => 0)
        case atStart => exact ⟨rfl, 0, rfl⟩
        case round =>
          obtain ⟨rfl, q, rfl⟩ := hrel
          go_wp2
          go_ret
          exact ⟨rfl, below_drewN HB5.out q⟩
end Go.Proofs.Ytnhbahfpinijiaa
