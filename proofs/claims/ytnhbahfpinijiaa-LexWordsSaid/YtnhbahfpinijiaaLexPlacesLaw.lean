/- The walk of the law LexPlaces: words stand one behind the other, each in the text; what is told of an error is a place in it. -/
import Derived.Test.YtnhbahfpinijiaaLexWords
import Derived.BigQuiet
import Derived.Deep.QuietTactic
namespace Go.Proofs.Ytnhbahfpinijiaa
open Go.RowKit
set_option linter.unusedVariables false

/-- words that stand ahead of k, one behind the other -/
structure AccOk (acc : List TokB) (k : Nat) : Prop where
  each : ∀ p ∈ acc, p.at_ < k ∧ 1 ≤ p.kind ∧ p.kind ≤ 4
  rise : acc.Pairwise (fun p q => p.at_ < q.at_)
theorem lexGo_ok : ∀ (f : Nat) (l : List UInt8) (k : Nat) (acc : List TokB) (N : Nat), k + l.length = N → l.length < f → AccOk acc k →
    ((lexGo f l k acc).2.2 = 0 ∧ (lexGo f l k acc).2.1 = N ∧ AccOk (lexGo f l k acc).1 N) ∨ ((lexGo f l k acc).2.2 ≠ 0 ∧ (lexGo f l k acc).2.1 < N ∧ (lexGo f l k acc).1 = []) := by
  intro f
  induction f with
  | zero => intro l k acc N _ h; omega
  | succ f ih =>
    intro l k acc N hN hf ha
    rw [lexGo_succ]
    have hsp : spaces l ≤ l.length := takeWhile_le (goodK [3]) l
    have hdl : (l.drop (spaces l)).length = l.length - spaces l := List.length_drop
    obtain ⟨w1, w2, w3, w4⟩ := word_some (l.drop (spaces l))
    by_cases h1 : l.drop (spaces l) = []
    · rw [if_pos h1]
      rw [h1] at hdl
      simp only [List.length_nil] at hdl
      exact .inl ⟨rfl, by dsimp only; omega, ⟨fun p hp => by have := ha.each p hp; exact ⟨by omega, this.2⟩, ha.rise⟩⟩
    · rw [if_neg h1]
      have h3 : 0 < (l.drop (spaces l)).length := List.length_pos_iff.2 h1
      by_cases h2 : (wordL (l.drop (spaces l))).1 = 0
      · rw [if_pos h2]
        exact .inr ⟨by dsimp only; omega, by dsimp only; omega, rfl⟩
      · rw [if_neg h2]
        have h4 := w2 h2
        refine ih _ _ _ N ?_ ?_ ⟨?_, ?_⟩
        · rw [List.length_drop]; omega
        · rw [List.length_drop]; omega
        · intro p hp
          rcases List.mem_append.1 hp with hp | hp
          · have := ha.each p hp
            exact ⟨by omega, this.2⟩
          · rw [List.mem_singleton.1 hp]
            dsimp only
            exact ⟨by omega, by omega, w4⟩
        · rw [List.pairwise_append]
          refine ⟨ha.rise, List.pairwise_singleton _ _, fun p hp q hq => ?_⟩
          rw [List.mem_singleton.1 hq]
          have := ha.each p hp
          dsimp only
          omega
theorem lexL_ok (l : List UInt8) : ((lexL l).2.2 = 0 ∧ (lexL l).2.1 = l.length ∧ AccOk (lexL l).1 l.length) ∨ ((lexL l).2.2 ≠ 0 ∧ (lexL l).2.1 < l.length ∧ (lexL l).1 = []) := by
  unfold lexL
  split
  · next h => exact .inr ⟨by decide, h, rfl⟩
  · exact lexGo_ok _ l 0 [] l.length (by omega) (by omega) ⟨(fun p hp => by cases hp), List.Pairwise.nil⟩
/-- what the law asks of the words -/
structure PlaceOk (w : World) (g m N : Nat) (K P : Nat → Nat) : Prop where
  lt : g < w.heap.size
  kind : ∀ j, j < m → w.cell? ⟨g, j * 3, none⟩ = some (.int .i64 (K j : Int)) ∧ 1 ≤ K j ∧ K j ≤ 4
  place : ∀ j, j < m → w.cell? ⟨g, j * 3 + 2, none⟩ = some (.int .i64 (P j : Int)) ∧ P j < N
  rise : ∀ j, j + 1 < m → P j < P (j + 1)
theorem PlaceOk.drewN {w : World} {g m N : Nat} {K P : Nat → Nat} (h : PlaceOk w g m N K P) (q : Nat) : PlaceOk (w.drewN q) g m N K P := ⟨h.lt, h.kind, h.place, h.rise⟩
theorem PlaceOk.up {w : World} {g m N : Nat} {K P : Nat → Nat} (h : PlaceOk w g m N K P) : ∀ j, j < m → j ≤ P j := by
  intro j
  induction j with
  | zero => intro _; omega
  | succ j ih => intro hj; have := ih (by omega); have := h.rise j hj; omega
theorem PlaceOk.most {w : World} {g m N : Nat} {K P : Nat → Nat} (h : PlaceOk w g m N K P) : m ≤ N := by
  rcases Nat.eq_zero_or_pos m with h0 | h0
  · omega
  · have h1 := h.up (m - 1) (by omega)
    have h2 := (h.place (m - 1) (by omega)).2
    omega
theorem all_places (t : ByteArray) (W : World) : Calls Try.prog 10 #[.string t] W fun e w' => ∃ A m c k z, e = .returned (.tuple #[.slice A m c, .int .i64 (k : Nat), .int .i64 z]) ∧ ((z = 0 ∧ k = t.size ∧ (m = 0 ∨ ∃ g K P, A = some ⟨g, 0, none⟩ ∧ m ≤ c ∧ Hid (PlaceOk w' g m t.size K P))) ∨ (z ≠ 0 ∧ k < t.size ∧ m = 0)) ∧ Below W.heap.size W w' := by
  have hok := lexL_ok t.data.toList
  rw [size_toList] at hok
  refine (all_any t W).mono ?_
  rintro e w' ⟨v, rfl, hown, hb⟩
  obtain ⟨⟨toks, k, z⟩, hz⟩ : ∃ z, lexL t.data.toList = z := ⟨_, rfl⟩
  rw [hz] at hok hown ⊢
  dsimp only at hok hown
  rcases Nat.eq_zero_or_pos toks.length with h0 | h0
  · obtain ⟨A, cap, rfl, _⟩ := hown.open tokV_len
    refine ⟨A, _, cap, k, z, rfl, ?_, hb⟩
    rcases hok with ⟨h1, h2, _⟩ | ⟨h1, h2, _⟩
    · exact .inl ⟨h1, h2, .inl h0⟩
    · exact .inr ⟨h1, h2, h0⟩
  · obtain ⟨g, cap, rfl, hB, hlt, hc, hcell⟩ := hown.at_ tokV_len h0
    refine ⟨_, _, cap, k, z, rfl, ?_, hb⟩
    rcases hok with ⟨h1, h2, h3⟩ | ⟨h1, h2, h3⟩
    · have hmem : ∀ j, j < toks.length → toks[j]? = some (toks.getD j tnil) ∧ toks.getD j tnil ∈ toks := fun j hj => by
        rw [List.getD_eq_getElem?_getD, List.getElem?_eq_getElem hj]
        exact ⟨rfl, List.getElem_mem _⟩
      refine .inl ⟨h1, h2, .inr ⟨g, fun j => (toks.getD j tnil).kind.toNat, fun j => (toks.getD j tnil).at_, rfl, hc, Lib.hid ⟨hlt, fun j hj => ?_, fun j hj => ?_, fun j hj => ?_⟩⟩⟩
      · have h4 := hcell j 0 _ (hmem j hj).1 (by decide)
        have h5 := h3.each _ (hmem j hj).2
        refine ⟨h4.trans ?_, by omega, by omega⟩
        show some (Value.int .i64 (toks.getD j tnil).kind) = _
        rw [Int.toNat_of_nonneg (by omega)]
      · exact ⟨hcell j 2 _ (hmem j hj).1 (by decide), (h3.each _ (hmem j hj).2).1⟩
      · have h6 := List.pairwise_iff_getElem.1 h3.rise j (j + 1) (by omega) hj (by omega)
        rw [List.getD_eq_getElem?_getD, List.getD_eq_getElem?_getD, List.getElem?_eq_getElem hj, List.getElem?_eq_getElem (show j < toks.length by omega)]
        exact h6
    · rw [h3] at h0
      simp at h0

set_option maxRecDepth 100000 in
set_option maxHeartbeats 1600000 in
theorem lexPlaces_walk {W : World} (s : ByteArray) (own : Bool) (A : Option Addr) (n c : Nat) (zs : List Int) (ht : s.size ≤ maxLen) (h1 : Ints .u8 W A n zs) (hnc : n ≤ c) (hcm : c ≤ maxLen) :
    Calls Try.prog 6 #[.string s, .bool own, .slice A n c] W fun e w' => e = .returned (.bool true) ∧ Below W.heap.size W w' := by
  have h0 : W.heap.size ≤ W.heap.size := Nat.le_refl _
  unfold maxLen at ht hcm
  have HX := Lib.hid (lexExamples_any W)
  have WD := Lib.hid (fun w h => words_any A n c zs (by omega) w h)
  have HI := Lib.hid h1
  have AL := Lib.hid (fun s w => all_places s w)
  clear h1 hnc hcm
  go_enter Try.func6, Try.ntmps6
  go_wp2_with fail
  refine HX.out.mono ?_
  rintro e w1 ⟨rfl, hb⟩
  cases own
  case' true =>
    go_wp2_with fail
    refine (WD.out _ (HI.out.below hb)).mono ?_
    rintro e w2 ⟨s, rfl, hsz, hx⟩
    replace hb := hop hb h0 hx
    replace ht : s.size ≤ 9223372036854775807 := by omega
    clear hx hsz
  case' false =>
    replace ht : s.size ≤ 9223372036854775807 := by omega
  all_goals
    clear WD HI HX
    go_wp2_with fail
    refine (AL.out _ _).mono ?_
    rintro e w3 ⟨A2, m, c2, k, z, rfl, hcase, hx⟩
    replace hb := hop hb h0 hx
    clear hx AL
    have HB := Lib.hid hb
    clear hb
    rcases hcase with ⟨rfl, rfl, rfl | ⟨g, K, P, rfl, hmc, HP⟩⟩ | ⟨hz, hk, rfl⟩
    · have g0 : decide ((0 : Int) ≤ (s.size : Int)) = true := decide_eq_true (by omega)
      go_wp2
      go_loopw [11] (fun iv wr => iv = .int .i64 0 ∧ ∃ q, wr = w3.drewN q) (fun iv _ => 0)
      case atStart => exact ⟨rfl, 0, rfl⟩
      case round =>
        obtain ⟨rfl, q, rfl⟩ := hrel
        go_wp2
        go_ret
        exact ⟨by first | rfl | (simp; done), below_drewN HB.out q⟩
    · have g0 : decide ((0 : Int) ≤ (s.size : Int)) = true := decide_eq_true (by omega)
      have hmost := HP.out.most
      go_wp2
      go_loopw [11] (fun iv wr => ∃ i : Nat, i ≤ m ∧ iv = .int .i64 i ∧ ∃ q, wr = w3.drewN q) (fun iv _ => m - (intOf iv).toNat)
      case atStart => exact ⟨0, Nat.zero_le _, rfl, 0, rfl⟩
      case round =>
        obtain ⟨i, him, rfl, q, rfl⟩ := hrel
        by_cases hi : i < m
        · have hiI : (i : Int) < (m : Int) := by omega
          have hcsp : i = 0 ∨ ∃ j, i = j + 1 := by
            cases i with
            | zero => exact .inl rfl
            | succ j => exact .inr ⟨j, rfl⟩
          obtain ⟨k0, k1, k2⟩ := HP.out.kind i hi
          obtain ⟨p0, p1⟩ := HP.out.place i hi
          obtain ⟨kd, hkd⟩ : ∃ y, K i = y := ⟨_, rfl⟩
          rw [hkd] at k0 k1 k2
          have b4 : decide ((kd : Int) < 1) = false := decide_eq_false (by omega)
          have b5 : decide ((4 : Int) < (kd : Int)) = false := decide_eq_false (by omega)
          have b6 : decide (kd < 1) = false := decide_eq_false (by omega)
          have b7 : decide (4 < kd) = false := decide_eq_false (by omega)
          rcases hcsp with hi0 | ⟨j, hij⟩
          · obtain ⟨pl, hpl⟩ : ∃ y, P i = y := ⟨_, rfl⟩
            rw [hpl] at p0 p1
            have b1 : decide ((pl : Int) < 0) = false := decide_eq_false (by omega)
            have b2 : decide ((s.size : Int) ≤ (pl : Int)) = false := decide_eq_false (by omega)
            have b3 : decide (s.size ≤ pl) = false := decide_eq_false (by omega)
            have c1 : decide (0 < i) = false := decide_eq_false (by omega)
            have c2 : decide ((0 : Int) < (i : Int)) = false := decide_eq_false (by omega)
            clear hkd hpl hi0
            go_wp2
            refine wp_region_quiet_lit (by kernel_rfl) (by kernel_rfl) ?_
            repeat (generalize hst : ({ tmps := _, defers := _ } : Act) = st; refine wpQuiet_step (fun K hK => ?_); subst hst; go_simp; refine hK _ ?_; clear hK K)
            refine wpQuiet_nil ?_
            intro _ hw'
            obtain ⟨nq, hw''⟩ := hw'
            subst hw''
            go_wp2
            go_round
            case rel => exact ⟨i + 1, by omega, by go_num, _, rfl⟩
            case measure => simp [intOf]; omega
          · obtain ⟨r0, r1⟩ := HP.out.place j (by omega)
            have hr := HP.out.rise j (by omega)
            rw [← hij] at hr
            obtain ⟨pl, hpl⟩ : ∃ y, P i = y := ⟨_, rfl⟩
            obtain ⟨pr, hpr⟩ : ∃ y, P j = y := ⟨_, rfl⟩
            rw [hpl] at p0 p1 hr
            rw [hpr] at r0 r1 hr
            have b1 : decide ((pl : Int) < 0) = false := decide_eq_false (by omega)
            have b2 : decide ((s.size : Int) ≤ (pl : Int)) = false := decide_eq_false (by omega)
            have b3 : decide (s.size ≤ pl) = false := decide_eq_false (by omega)
            have c1 : decide (0 < i) = true := decide_eq_true (by omega)
            have c2 : decide ((0 : Int) < (i : Int)) = true := decide_eq_true (by omega)
            have c3 : decide ((pl : Int) ≤ (pr : Int)) = false := decide_eq_false (by omega)
            have c4 : decide (pl ≤ pr) = false := decide_eq_false (by omega)
            have hwp : IntKind.i64.wrap ((i : Int) - 1) = (j : Int) := by rw [IntKind.wrap_i64]; omega
            have jz1 : (j : Int) < (m : Int) := by omega
            clear hkd hpl hpr hij
            go_wp2
            refine wp_region_quiet_lit (by kernel_rfl) (by kernel_rfl) ?_
            repeat (generalize hst : ({ tmps := _, defers := _ } : Act) = st; refine wpQuiet_step (fun K hK => ?_); subst hst; go_simp; refine hK _ ?_; clear hK K)
            refine wpQuiet_nil ?_
            intro _ hw'
            obtain ⟨nq, hw''⟩ := hw'
            subst hw''
            go_wp2
            go_round
            case rel => exact ⟨i + 1, by omega, by go_num, _, rfl⟩
            case measure => simp [intOf]; omega
        · obtain rfl : i = m := by omega
          go_wp2
          go_ret
          exact ⟨by first | rfl | (simp; done), below_drewN HB.out q⟩
    · have z1 : (z == 0) = false := by simpa using hz
      have z2 : ((k : Int) == (s.size : Int)) = false := by rw [beq_eq_false_iff_ne]; omega
      have z3 : (k : Int) ≤ (s.size : Int) := by omega
      have z4 : k ≤ s.size := by omega
      clear hz
      go_wp2
      go_loopw [11] (fun iv wr => iv = .int .i64 0 ∧ ∃ q, wr = w3.drewN q) (fun iv _ => 0)
      case atStart => exact ⟨rfl, 0, rfl⟩
      case round =>
        obtain ⟨rfl, q, rfl⟩ := hrel
        go_wp2
        go_ret
        exact ⟨by first | rfl | (simp; done), below_drewN HB.out q⟩
end Go.Proofs.Ytnhbahfpinijiaa
