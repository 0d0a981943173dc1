/- The document's own Cut: it answers as the program's does. -/
import Derived.Test.YthmbgnjbmkmajaaRefParts
namespace Go.Proofs.Ythmbgnjbmkmajaa
open Go.RowKit
set_option linter.unusedVariables false

def occ (s x : ByteArray) (i : Nat) : Bool := Lib.occAt s.data.toList x.data.toList i
theorem occ_index (s x : ByteArray) (h : 0 ≤ Lib.index s.data.toList x.data.toList) : occ s x (Lib.index s.data.toList x.data.toList).toNat = true ∧ (Lib.index s.data.toList x.data.toList).toNat + x.size ≤ s.size := by
  obtain ⟨h1, h2⟩ := index_room _ _ h
  rw [size_toList, size_toList] at h1
  exact ⟨by unfold occ Lib.occAt; exact List.isPrefixOf_iff_prefix.2 h2, h1⟩
theorem occ_piece (s x : ByteArray) (i : Nat) (h : i + x.size ≤ s.size) : ((s.extract i (i + x.size)).toList == x.toList) = occ s x i := by
  rw [Lib.toList_data, Lib.toList_data, text_part, occ, Lib.occAt_iff_take _ _ _ (by rw [size_toList, size_toList]; exact h), size_toList, List.drop_take, Nat.add_sub_cancel_left]
theorem occ_room (s x : ByteArray) (i : Nat) (h : s.size < i + x.size) (h0 : x.size ≠ 0) : occ s x i = false := by
  cases e : occ s x i with
  | false => rfl
  | true =>
    rcases Lib.occAt_room e with h1 | h1
    · rw [size_toList, size_toList] at h1; omega
    · exact absurd (by rw [← size_toList, h1]; rfl) h0
theorem fold_keep (s : ByteArray) (l : List ByteArray) (at_ : Nat) (x : ByteArray) (h : ∀ y ∈ l, y.size ≠ 0 → Lib.index s.data.toList y.data.toList < 0 ∨ (at_ : Int) ≤ Lib.index s.data.toList y.data.toList) : l.foldl (cutStep s) ((at_ : Int), x) = ((at_ : Int), x) := by
  induction l with
  | nil => rfl
  | cons y l ih =>
    rw [List.foldl_cons]
    have e : cutStep s ((at_ : Int), x) y = ((at_ : Int), x) := by
      unfold cutStep
      by_cases h0 : y.size = 0
      · rw [if_pos h0]
      · rw [if_neg h0, if_neg]
        have := h y (List.mem_cons_self ..) h0
        dsimp only
        omega
    rw [e]
    exact ih fun z hz => h z (List.mem_cons_of_mem _ hz)
theorem cut_found (s : ByteArray) (ss : List ByteArray) (k at_ : Nat) (x : ByteArray) (hk : k < ss.length) (hx : ss.getD k .empty = x) (h0 : x.size ≠ 0) (hr : at_ + x.size ≤ s.size) (ho : occ s x at_ = true)
    (hno : ∀ j, j < at_ → ∀ y ∈ ss, y.size ≠ 0 → occ s y j = false) (hno2 : ∀ i, i < k → (ss.getD i .empty).size ≠ 0 → occ s (ss.getD i .empty) at_ = false) :
    cutR s ss = (s.extract 0 at_, x, s.extract (at_ + x.size) s.size) := by
  have hx' : ss[k] = x := by rw [← hx, List.getD_eq_getElem?_getD, List.getElem?_eq_getElem hk]; rfl
  have hmem : x ∈ ss := by rw [← hx']; exact List.getElem_mem hk
  have far : ∀ y ∈ ss, y.size ≠ 0 → Lib.index s.data.toList y.data.toList < 0 ∨ (at_ : Int) ≤ Lib.index s.data.toList y.data.toList := by
    intro y hy hy0
    rcases (by omega : Lib.index s.data.toList y.data.toList < 0 ∨ 0 ≤ Lib.index s.data.toList y.data.toList) with h | h
    · exact .inl h
    · right
      obtain ⟨h1, _⟩ := occ_index s y h
      rcases Nat.lt_or_ge (Lib.index s.data.toList y.data.toList).toNat at_ with h2 | h2
      · have h3 := hno _ h2 y hy hy0
        rw [h1] at h3
        exact Bool.noConfusion h3
      · omega
  have hi : Lib.index s.data.toList x.data.toList = (at_ : Int) :=
    Lib.index_first (by rw [size_toList]; omega) ho (fun j hj => hno j hj x hmem h0)
  have hsplit : ss = ss.take k ++ x :: ss.drop (k + 1) := by
    conv => lhs; rw [← List.take_append_drop k ss, List.drop_eq_getElem_cons hk, hx']
  obtain ⟨p, hp⟩ : ∃ p, (ss.take k).foldl (cutStep s) (-1, .empty) = p := ⟨_, rfl⟩
  have hp2 : p.1 < 0 ∨ (at_ : Int) < p.1 := by
    rcases (by omega : p.1 < 0 ∨ 0 ≤ p.1) with h | h
    · exact .inl h
    · right
      have hl := (fold_least s (ss.take k) (-1, .empty)).2
      rw [hp] at hl
      obtain ⟨_, _, h3⟩ := hl h
      have ho := (cutF_ok s (ss.take k)).2
      have e : cutF s (ss.take k) = p := hp
      rw [e] at ho
      rcases h3 with h3 | ⟨h3, h4⟩
      · rw [h3] at h; exact absurd h (by decide)
      · rcases ho with ho | ⟨_, ho⟩
        · omega
        · have hq0 : p.2.size ≠ 0 := by omega
          have hf := far p.2 (List.mem_of_mem_take h3) hq0
          rw [h4] at hf
          have hne : p.1 ≠ (at_ : Int) := by
            intro hne
            obtain ⟨i, hi1, hi2⟩ := List.mem_iff_getElem.1 h3
            have hik : i < k := by rw [List.length_take] at hi1; omega
            have hg : ss.getD i .empty = p.2 := by
              rw [← hi2, List.getElem_take, List.getD_eq_getElem?_getD, List.getElem?_eq_getElem (by omega)]; rfl
            have h5 := hno2 i hik (by rw [hg]; exact hq0)
            have h6 := (occ_index s p.2 (by omega)).1
            rw [h4, hne, Int.toNat_natCast] at h6
            rw [hg, h6] at h5
            exact Bool.noConfusion h5
          omega
  have hF : cutF s ss = ((at_ : Int), x) := by
    unfold cutF
    rw [hsplit, List.foldl_append, hp, List.foldl_cons]
    have e : cutStep s p x = ((at_ : Int), x) := by
      unfold cutStep
      rw [if_neg h0, hi, if_pos ⟨by omega, hp2⟩]
    rw [e]
    exact fold_keep s _ at_ x fun y hy => far y (List.mem_of_mem_drop hy)
  rw [cutR, hF, if_neg (by simp)]
  simp
theorem cut_no (s : ByteArray) (ss : List ByteArray) (hno : ∀ j, j ≤ s.size → ∀ y ∈ ss, y.size ≠ 0 → occ s y j = false) : cutR s ss = (s, .empty, .empty) := by
  have h : (cutF s ss).1 < 0 := by
    rcases (by omega : (cutF s ss).1 < 0 ∨ 0 ≤ (cutF s ss).1) with h | h
    · exact h
    · obtain ⟨_, _, h3⟩ := (fold_least s ss (-1, .empty)).2 h
      have ho := (cutF_ok s ss).2
      have e : ss.foldl (cutStep s) (-1, .empty) = cutF s ss := rfl
      rw [e] at h3
      rcases h3 with h3 | ⟨h3, h4⟩
      · rw [h3] at h; exact absurd h (by decide)
      · rcases ho with ho | ⟨_, ho⟩
        · omega
        · obtain ⟨h5, h6⟩ := occ_index s (cutF s ss).2 (by omega)
          rw [h4] at h5 h6
          have := hno (cutF s ss).1.toNat (by omega) _ h3 (by omega)
          rw [h5] at this
          exact Bool.noConfusion this
  rw [cutR, if_pos h]
theorem ret3s_eq {a a' b b' c c' : ByteArray} (h : (a, b, c) = (a', b', c')) : Ending.returned (.tuple #[.string a, .string b, .string c]) = .returned (.tuple #[.string a', .string b', .string c']) := by
  injection h with h1 h2
  injection h2 with h2 h3
  rw [h1, h2, h3]

theorem drew_le3 (w : World) (n m k : Nat) : ∃ q, ((w.drewN n).drewN m).drewN k = w.drewN q := ⟨_, by rw [World.drewN_drewN, World.drewN_drewN]⟩

set_option maxHeartbeats 1000000 in
theorem refCut_any (s : ByteArray) (hs : s.size ≤ 16777216) (A : Option Addr) (n c : Nat) (ss : List ByteArray) (hn : n ≤ 16777216) (hb : bulkT ss ≤ 16777216) (W : World) (h : Texts W A n ss) :
    Calls Try.prog 17 #[.string s, .slice A n c] W fun e w' => e = .returned (.tuple #[.string (cutR s ss).1, .string (cutR s ss).2.1, .string (cutR s ss).2.2]) ∧ ∃ q, w' = W.drewN q := by
  obtain ⟨hl, hA⟩ := h
  have HL := Lib.hid hl
  have HA := Lib.hid hA
  have HB := Lib.hid hb
  clear hl hA hb
  go_enter Try.func17, Try.ntmps17
  go_wp2
  go_loopw [7] (fun i wr => ∃ (p q : Nat), p ≤ s.size + 1 ∧ i = .int .i64 p ∧ wr = W.drewN q ∧ ∀ j, j < p → ∀ y ∈ ss, y.size ≠ 0 → occ s y j = false) (fun i _ => s.size + 1 - (intOf i).toNat)
  case atStart => exact ⟨0, 0, Nat.zero_le _, rfl, rfl, fun j hj => absurd hj (by omega)⟩
  case round =>
    obtain ⟨p, q, hp, rfl, rfl, hno⟩ := hrel
    have HN := Lib.hid hno
    clear hno
    by_cases hps : p ≤ s.size
    · have hps' : (p : Int) ≤ (s.size : Int) := by omega
      go_wp2
      go_loopw [8] (fun i wr => ∃ (k q : Nat), k ≤ n ∧ i = .int .i64 k ∧ wr = W.drewN q ∧ ∀ j, j < k → (ss.getD j .empty).size ≠ 0 → occ s (ss.getD j .empty) p = false) (fun i _ => n - (intOf i).toNat)
      case atStart => exact ⟨0, q, Nat.zero_le _, rfl, rfl, fun j hj => absurd hj (by omega)⟩
      case round =>
        obtain ⟨k, q, hk, rfl, rfl, hno⟩ := hrel
        have HK := Lib.hid hno
        clear hno
        by_cases hkn : k < n
        · obtain ⟨b, off, rfl, hlt, hc⟩ := HA.out (by omega)
          have c0 := hc k hkn
          have hfound := cut_found s ss k p
          have hmem : (ss.getD k .empty).size ≤ 16777216 := by
            have : ss.getD k .empty ∈ ss := by rw [List.getD_eq_getElem?_getD, List.getElem?_eq_getElem (by rw [HL.out]; exact hkn)]; exact List.getElem_mem _
            have := bulkT_mem this
            have := HB.out
            omega
          obtain ⟨x, hx⟩ : ∃ x, ss.getD k .empty = x := ⟨_, rfl⟩
          rw [hx] at c0 hmem
          have HX := Lib.hid hx
          have HF := Lib.hid hfound
          clear hc hx hfound
          by_cases h0 : x.size = 0
          · have h0' : ¬ (0 : Int) < (x.size : Int) := by omega
            have hstep : ∀ j, j < k + 1 → (ss.getD j .empty).size ≠ 0 → occ s (ss.getD j .empty) p = false := fun j hj hj0 => by
              rcases Nat.lt_succ_iff_lt_or_eq.1 hj with h | rfl
              · exact HK.out j h hj0
              · rw [HX.out] at hj0; exact absurd h0 hj0
            have HS := Lib.hid hstep
            clear hstep
            go_wp2
            go_quiet (fail)
            go_wp2
            go_round
            case rel => exact ⟨k + 1, _, by omega, by go_num, rfl, HS.out⟩
            case measure => simp [intOf]; omega
          · have h0' : (0 : Int) < (x.size : Int) := by omega
            have h0n : 0 < x.size := by omega
            by_cases hr : p + x.size ≤ s.size
            · have hr' : (p : Int) + (x.size : Int) ≤ (s.size : Int) := by omega
              have hpc := occ_piece s x p hr
              by_cases ho : occ s x p = true
              · have e := HF.out x (by rw [HL.out]; exact hkn) HX.out h0 hr ho HN.out HK.out
                have E := Lib.hid e
                rw [ho] at hpc
                clear e ho
                go_wp2
                go_quiet (fail)
                go_wp2
                go_quiet (fail)
                go_wp2
                go_ret3
                exact ⟨by rw [E.out]; rfl, drew_le3 _ _ _ _⟩
              · have ho' : occ s x p = false := by simpa using ho
                rw [ho'] at hpc
                have hstep : ∀ j, j < k + 1 → (ss.getD j .empty).size ≠ 0 → occ s (ss.getD j .empty) p = false := fun j hj hj0 => by
                  rcases Nat.lt_succ_iff_lt_or_eq.1 hj with h | rfl
                  · exact HK.out j h hj0
                  · rw [HX.out]; exact ho'
                have HS := Lib.hid hstep
                clear hstep ho ho'
                go_wp2
                go_quiet (fail)
                go_wp2
                go_round
                case rel => exact ⟨k + 1, _, by omega, by go_num, rfl, HS.out⟩
                case measure => simp [intOf]; omega
            · have hr' : (s.size : Int) < (p : Int) + (x.size : Int) := by omega
              have hrn : s.size < p + x.size := by omega
              have hup : (p : Int) + (x.size : Int) ≤ 33554432 := by omega
              have hwr : IntKind.i64.wrap ((p : Int) + (x.size : Int)) = (p : Int) + (x.size : Int) := by rw [IntKind.wrap_i64]; omega
              have hdc : decide ((p : Int) + (x.size : Int) ≤ (s.size : Int)) = false := by rw [decide_eq_false_iff_not]; omega
              have hstep : ∀ j, j < k + 1 → (ss.getD j .empty).size ≠ 0 → occ s (ss.getD j .empty) p = false := fun j hj hj0 => by
                rcases Nat.lt_succ_iff_lt_or_eq.1 hj with h | rfl
                · exact HK.out j h hj0
                · rw [HX.out]; exact occ_room s x p (by omega) h0
              have HS := Lib.hid hstep
              clear hstep
              go_wp2
              go_quiet (fail)
              go_wp2
              go_round
              case rel => exact ⟨k + 1, _, by omega, by go_num, rfl, HS.out⟩
              case measure => simp [intOf]; omega
        · obtain rfl : k = n := by omega
          have hstep : ∀ j, j < p + 1 → ∀ y ∈ ss, y.size ≠ 0 → occ s y j = false := fun j hj y hy hy0 => by
            rcases Nat.lt_succ_iff_lt_or_eq.1 hj with h | rfl
            · exact HN.out j h y hy hy0
            · obtain ⟨i, hi, rfl⟩ := List.mem_iff_getElem.1 hy
              have e : ss.getD i .empty = ss[i] := by rw [List.getD_eq_getElem?_getD, List.getElem?_eq_getElem hi]; rfl
              have := HK.out i (by rw [← HL.out]; exact hi) (by rw [e]; exact hy0)
              rw [e] at this
              exact this
          have HS := Lib.hid hstep
          clear hstep
          go_wp2
          go_round
          case rel => exact ⟨p + 1, _, by omega, by go_num, rfl, HS.out⟩
          case measure => simp [intOf]; omega
    · obtain rfl : p = s.size + 1 := by omega
      have e := cut_no s ss (fun j hj => HN.out j (by omega))
      have E := Lib.hid e
      clear e
      go_wp2
      go_ret3
      exact ⟨by rw [E.out]; rfl, _, rfl⟩
end Go.Proofs.Ythmbgnjbmkmajaa
