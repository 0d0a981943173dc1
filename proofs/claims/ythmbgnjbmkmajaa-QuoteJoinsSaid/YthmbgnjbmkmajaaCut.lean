/- Cut: a text cut at the first of some. -/
import Derived.Test.YthmbgnjbmkmajaaTexts
namespace Go.Proofs.Ythmbgnjbmkmajaa
open Go.RowKit
set_option linter.unusedVariables false

/-- the place found so far (below 0: none), and what begins there -/
def cutStep (s : ByteArray) (p : Int × ByteArray) (one : ByteArray) : Int × ByteArray :=
  if one.size = 0 then p
  else if 0 ≤ Lib.index s.data.toList one.data.toList ∧ (p.1 < 0 ∨ Lib.index s.data.toList one.data.toList < p.1) then (Lib.index s.data.toList one.data.toList, one)
  else p
def cutF (s : ByteArray) (ss : List ByteArray) : Int × ByteArray := ss.foldl (cutStep s) (-1, .empty)
def cutR (s : ByteArray) (ss : List ByteArray) : ByteArray × ByteArray × ByteArray :=
  if (cutF s ss).1 < 0 then (s, .empty, .empty)
  else (s.extract 0 (cutF s ss).1.toNat, (cutF s ss).2, s.extract ((cutF s ss).1.toNat + (cutF s ss).2.size) s.size)
theorem index_room (s sub : List UInt8) (h : 0 ≤ Lib.index s sub) : (Lib.index s sub).toNat + sub.length ≤ s.length ∧ sub <+: s.drop (Lib.index s sub).toNat := by
  induction s with
  | nil =>
    unfold Lib.index at h ⊢
    split at h
    · next he =>
      have : sub = [] := by simpa using he
      subst this
      simp
    · omega
  | cons b l ih =>
    unfold Lib.index at h ⊢
    by_cases h1 : sub.isPrefixOf (b :: l) = true
    · simp only [h1, if_true]
      have h2 : sub <+: b :: l := List.isPrefixOf_iff_prefix.1 h1
      exact ⟨by have := h2.length_le; simp at this ⊢; omega, by simpa using h2⟩
    · simp only [h1, if_false, Bool.false_eq_true] at h ⊢
      by_cases h2 : (Lib.index l sub == -1) = true
      · simp [h2] at h
      · simp only [h2, if_false, Bool.false_eq_true] at h ⊢
        have h3 : Lib.index l sub ≠ -1 := by simpa using h2
        have h4 := Lib.index_ge l sub
        obtain ⟨a, b'⟩ := ih (by omega)
        have e : (Lib.index l sub + 1).toNat = (Lib.index l sub).toNat + 1 := by omega
        rw [e]
        exact ⟨by simp; omega, by simpa using b'⟩
theorem cutF_ok (s : ByteArray) (ss : List ByteArray) : -1 ≤ (cutF s ss).1 ∧ ((cutF s ss).1 < 0 ∨ (cutF s ss).1.toNat + (cutF s ss).2.size ≤ s.size ∧ 0 < (cutF s ss).2.size) := by
  have key : ∀ (l : List ByteArray) (p : Int × ByteArray), (-1 ≤ p.1 ∧ (p.1 < 0 ∨ p.1.toNat + p.2.size ≤ s.size ∧ 0 < p.2.size)) → (-1 ≤ (l.foldl (cutStep s) p).1 ∧ ((l.foldl (cutStep s) p).1 < 0 ∨ (l.foldl (cutStep s) p).1.toNat + (l.foldl (cutStep s) p).2.size ≤ s.size ∧ 0 < (l.foldl (cutStep s) p).2.size)) := by
    intro l
    induction l with
    | nil => intro p h; exact h
    | cons x l ih =>
      intro p h
      rw [List.foldl_cons]
      refine ih _ ?_
      unfold cutStep
      split
      · exact h
      · split
        · next h1 h2 =>
          have h3 := index_room _ _ h2.1
          rw [size_toList, size_toList] at h3
          exact ⟨by simp; omega, .inr ⟨h3.1, by simp; omega⟩⟩
        · exact h
  exact key ss (-1, .empty) ⟨by simp, .inl (by simp)⟩
theorem cutF_snoc (s : ByteArray) (ss : List ByteArray) (k : Nat) (h : k < ss.length) : cutF s (ss.take (k + 1)) = cutStep s (cutF s (ss.take k)) (ss.getD k .empty) := by
  unfold cutF
  rw [List.take_succ_eq_append_getElem h, List.foldl_append, List.getD_eq_getElem?_getD, List.getElem?_eq_getElem h]
  rfl
/-- what the program's own variable holds: some number -/
def MaxIs (w : World) : Prop := ∃ m, w.cell? ⟨0, 0, none⟩ = some (.int .i64 m)
theorem MaxIs.below {w w' : World} (h : MaxIs w) (hb : Below w.heap.size w w') : MaxIs w' := by
  obtain ⟨m, hm⟩ := h
  exact ⟨m, (hb.cell (p := ⟨0, 0, none⟩) (block_lt_of_cell hm)).trans hm⟩

set_option maxHeartbeats 1000000 in
theorem cut_any (s : ByteArray) (hs : s.size ≤ 16777216) (A : Option Addr) (n c : Nat) (ss : List ByteArray) (hn : n ≤ 16777216) (W : World) (h : Texts W A n ss) (hm : MaxIs W) :
    Calls Try.prog 16 #[.string s, .slice A n c] W fun e w' => e = .returned (.tuple #[.string (cutR s ss).1, .string (cutR s ss).2.1, .string (cutR s ss).2.2]) ∧ ∃ q, w' = W.drewN q := by
  obtain ⟨hl, hA⟩ := h
  obtain ⟨m, hm⟩ := hm
  have hix : ∀ sub : ByteArray, Calls Try.prog 25 #[.string s, .string sub] W fun e w' => e = .returned (.int .i64 (Lib.index s.data.toList sub.data.toList)) ∧ w' = W := fun sub => Try.strings_Index s sub m W (by omega) hm
  have HL := Lib.hid hl
  have HA := Lib.hid hA
  have HX := Lib.hid hix
  clear hl hA hix hm
  go_enter Try.func16, Try.ntmps16
  go_wp2
  go_loop [5, 7, 13] (fun b a i => ∃ k : Nat, k ≤ n ∧ i = .int .i64 k ∧ a = .int .i64 (cutF s (ss.take k)).1 ∧ b = .string (cutF s (ss.take k)).2) (fun _ _ i => n - (intOf i).toNat)
  case atStart => exact ⟨0, Nat.zero_le _, rfl, rfl, rfl⟩
  case round =>
    obtain ⟨k, hk, rfl, rfl, rfl⟩ := hrel
    by_cases hkn : k < n
    · obtain ⟨b, off, rfl, hb, hc⟩ := HA.out (by omega)
      have c0 := hc k hkn
      have hsn := cutF_snoc s ss k (by rw [HL.out]; exact hkn)
      obtain ⟨x, hx⟩ : ∃ x, x = ss.getD k .empty := ⟨_, rfl⟩
      rw [← hx] at c0 hsn
      have hok := cutF_ok s (ss.take k)
      obtain ⟨p, hp⟩ : ∃ p, cutF s (ss.take k) = p := ⟨_, rfl⟩
      rw [hp] at hsn hok
      rw [hp]
      obtain ⟨best, sp⟩ := p
      have HS := Lib.hid hsn
      clear hc hx hsn hp
      by_cases he : x.size = 0
      · have hx0 : x.toList.isEmpty = true := by rw [Lib.toList_data, List.isEmpty_iff]; exact List.eq_nil_of_length_eq_zero (by simpa using he)
        have hcs : cutStep s (best, sp) x = (best, sp) := by simp [cutStep, he]
        have HCS := Lib.hid hcs
        clear hcs he
        go_wp2
        go_round
        case rel => exact ⟨k + 1, by omega, by go_num, by rw [HS.out, HCS.out], by rw [HS.out, HCS.out]⟩
        case measure => simp [intOf]; omega
      · have hx0 : x.toList.isEmpty = false := by
          rw [Lib.toList_data]
          cases h : x.data.toList with
          | nil => exact absurd (by rw [← size_toList, h]; rfl) he
          | cons _ _ => rfl
        have hcall := HX.out x
        obtain ⟨i, hi⟩ : ∃ i, Lib.index s.data.toList x.data.toList = i := ⟨_, rfl⟩
        rw [hi] at hcall
        have HC := Lib.hid hcall
        have HI := Lib.hid hi
        clear hcall hi
        by_cases hyes : 0 ≤ i ∧ (best < 0 ∨ i < best)
        · have hcs : cutStep s (best, sp) x = (i, x) := by simp only [cutStep]; rw [if_neg he, HI.out, if_pos hyes]
          have HCS := Lib.hid hcs
          obtain ⟨y1, y2⟩ := hyes
          have hd : decide (0 ≤ i) = true := by rw [decide_eq_true_iff]; exact y1
          rcases (by omega : best < 0 ∨ (0 ≤ best ∧ i < best)) with y3 | ⟨y3, y4⟩
          all_goals
            clear y2 hcs he
            go_wp2_with (go_at_call 25; refine (Calls.mono HC.out ?_); rintro e w' ⟨rfl, rfl⟩)
            go_round
            case rel => exact ⟨k + 1, by omega, by go_num, by rw [HS.out, HCS.out], by rw [HS.out, HCS.out]⟩
            case measure => simp [intOf]; omega
        · have hcs : cutStep s (best, sp) x = (best, sp) := by simp only [cutStep]; rw [if_neg he, HI.out, if_neg hyes]
          have HCS := Lib.hid hcs
          rcases (by omega : i < 0 ∨ (0 ≤ i ∧ 0 ≤ best ∧ best ≤ i)) with y3 | ⟨y3, y4, y5⟩
          all_goals
            clear hyes hcs he
            go_wp2_with (go_at_call 25; refine (Calls.mono HC.out ?_); rintro e w' ⟨rfl, rfl⟩)
            go_round
            case rel => exact ⟨k + 1, by omega, by go_num, by rw [HS.out, HCS.out], by rw [HS.out, HCS.out]⟩
            case measure => simp [intOf]; omega
    · obtain rfl : k = n := by omega
      rw [List.take_of_length_le (by rw [HL.out]; exact Nat.le_refl _)]
      obtain ⟨o1, o2⟩ := cutF_ok s ss
      have hr : cutR s ss = if (cutF s ss).1 < 0 then (s, .empty, .empty) else (s.extract 0 (cutF s ss).1.toNat, (cutF s ss).2, s.extract ((cutF s ss).1.toNat + (cutF s ss).2.size) s.size) := rfl
      obtain ⟨p, hp⟩ : ∃ p, cutF s ss = p := ⟨_, rfl⟩
      rw [hp] at o1 o2 hr
      rw [hp]
      obtain ⟨best, sp⟩ := p
      dsimp only at o1 o2 hr
      clear hp
      by_cases hb : best < 0
      · rw [if_pos hb] at hr
        have HR := Lib.hid hr
        clear hr o2
        go_wp2
        go_ret3
        exact ⟨by rw [HR.out]; rfl, 0, rfl⟩
      · rw [if_neg hb] at hr
        obtain ⟨j, rfl⟩ : ∃ j : Nat, best = j := ⟨best.toNat, by omega⟩
        rcases o2 with o2 | ⟨o2, o3⟩
        · exact absurd o2 hb
        rw [Int.toNat_natCast] at o2 hr
        have HR := Lib.hid hr
        have hb1 : (j : Int) + (sp.size : Int) ≤ (s.size : Int) := by omega
        have hb2 : (j : Int) ≤ (s.size : Int) := by omega
        have hb3 : j ≤ s.size := by omega
        clear hr hb
        go_wp2
        go_quiet (fail)
        go_wp2
        go_ret3
        exact ⟨by rw [HR.out]; rfl, _, rfl⟩
end Go.Proofs.Ythmbgnjbmkmajaa
