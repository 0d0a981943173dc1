/- How bytes, sets and counts are told: the walks of byteOf, class, set, number, times.
   How a set is told: the walks of class and set. -/
import Derived.Test.YtojjeignijpiaaaGreatDoorRexWrite
import Derived.Test.YtojjeignijpiaaaGreatDoorRexNF
namespace Go.Proofs.YtojjeignijpiaaaGreatDoor
open Go.RowKit
set_option linter.unusedVariables false
set_option linter.unusedSimpArgs false

def byteU (c : UInt8) (al : List UInt8) : List UInt8 := if c ∈ al then [92, c] else [c]
theorem byteU_len (c : UInt8) (al : List UInt8) : (byteU c al).length ≤ 2 := by
  unfold byteU
  split <;> simp
def Among (am : ByteArray) (al : List UInt8) : Prop := ∀ c : UInt8, ∃ z : Int, (∀ w, Calls Tryz.prog 57 #[.string am, .int .u8 (c.toNat : Int)] w fun e w' => e = .returned (.int .i64 z) ∧ w' = w) ∧ (z < 0 ↔ ¬ c ∈ al)
set_option maxRecDepth 100000 in
set_option maxHeartbeats 1600000 in
theorem byteOf_any (B b : Nat) (l : List UInt8) (c : UInt8) (n : Int) (hn : n = (c.toNat : Int)) (am : ByteArray) (al : List UInt8) (HA : Among am al) (W : World) (h : Wr B b l W) (hlen : l.length + (byteU c al).length ≤ 140737488355328) (hB : B ≤ W.heap.size) :
    Calls Tryz.prog 44 #[.pointer (some ⟨b, 0, none⟩), .int .u8 n, .string am] W fun e w' => e = .returned (.tuple #[]) ∧ Wr B b (l ++ byteU c al) w' ∧ Wrote B b W w' := by
  obtain ⟨z, hz1, hz2⟩ := HA c
  rw [← hn] at hz1
  have HZ := Lib.hid hz1
  have HW := Lib.hid h
  have HN := Lib.hid hn
  clear h hz1 hn HA
  by_cases hc : c ∈ al
  · have hz : ¬ z < 0 := fun h => hz2.1 h hc
    have hz3 : 0 ≤ z := by omega
    have hz4 : z ≥ 0 := hz3
    have e : byteU c al = [92, c] := by unfold byteU; rw [if_pos hc]
    rw [e] at hlen ⊢
    have WA := Lib.hid (fun w (h : Wr B b l w) hb => wr_byte B b l 92 92 rfl w h (by simp at hlen; omega) hb)
    have WC := Lib.hid (fun w (h : Wr B b (l ++ [92]) w) hb => wr_byte B b (l ++ [92]) c n HN.out w h (by simp at hlen ⊢; omega) hb)
    clear hlen e hz2 hc
    go_enter Tryz.func44, Tryz.ntmps44
    go_wp2_with fail
    refine (HZ.out _).mono ?_
    rintro e w1 ⟨rfl, rfl⟩
    go_wp2_with fail
    refine (WA.out _ HW.out hB).mono ?_
    rintro e w2 ⟨rfl, h2, hb2⟩
    go_wp2_with fail
    refine (WC.out _ h2 (Nat.le_trans hB hb2.size)).mono ?_
    rintro e w3 ⟨rfl, h3, hb3⟩
    go_wp2
    go_end0
    rw [List.append_assoc] at h3
    exact ⟨rfl, h3, hb2.trans hb3⟩
  · have hz : z < 0 := hz2.2 hc
    have hz3 : ¬ 0 ≤ z := by omega
    have hz4 : ¬ z ≥ 0 := hz3
    have e : byteU c al = [c] := by unfold byteU; rw [if_neg hc]
    rw [e] at hlen ⊢
    have WC := Lib.hid (fun w (h : Wr B b l w) hb => wr_byte B b l c n HN.out w h (by simp at hlen; omega) hb)
    clear hlen e hz2 hc
    go_enter Tryz.func44, Tryz.ntmps44
    go_wp2_with fail
    refine (HZ.out _).mono ?_
    rintro e w1 ⟨rfl, rfl⟩
    go_wp2_with fail
    refine (WC.out _ HW.out hB).mono ?_
    rintro e w3 ⟨rfl, h3, hb3⟩
    go_wp2
    go_end0
    exact ⟨rfl, h3, hb3⟩
theorem among_spec : Among ⟨#[92, 46, 91, 93, 40, 41, 42, 43, 63, 123, 125, 124, 94, 36]⟩ spec := special_any
theorem among_cspec : Among ⟨#[92, 93, 45, 94]⟩ cspec := cspecial_any
theorem byteP_U (b : Nat) (al : List UInt8) : byteP b al = byteU (UInt8.ofNat b) al := rfl
/-! ### Counts -/
/-- the world's tables, whatever happens from B on -/
def LibB (B : Nat) (W : World) : Prop := ∀ w, Below B W w → LibIs w
theorem LibB.next {B : Nat} {W w : World} (h : LibB B W) (hb : Below B W w) : LibB B w := fun w2 h2 => h w2 (hb.trans h2)
theorem LibB.of {W : World} (h : LibIs W) : LibB W.heap.size W := fun w hb => h.below hb
theorem rexNumber_any (n : Int) (h0 : -9223372036854775808 ≤ n) (h1 : n ≤ 9223372036854775807) (W : World) (hl : LibIs W) :
    Calls Tryz.prog 59 #[.int .i64 n] W fun e w' => e = .returned (.string (itoaS n)) ∧ Below W.heap.size W w' := by
  have H := Lib.hid (text_any n h0 h1 W hl)
  have hw : IntKind.i64.wrap n = n := by rw [IntKind.wrap_i64]; omega
  go_enter Tryz.func59, Tryz.ntmps59
  go_wp2_with fail
  refine H.out.mono ?_
  rintro e w ⟨rfl, hb⟩
  go_wp2
  go_ret
  exact ⟨rfl, hb⟩
theorem timesT_star : timesT 0 (-1) = [42] := rfl
theorem timesT_plus : timesT 1 (-1) = [43] := rfl
theorem timesT_maybe : timesT 0 1 = [63] := rfl
theorem timesT_one {n : Int} : timesT n n = 123 :: (Lib.itoa n ++ [125]) := by
  unfold timesT
  rw [if_neg (by omega), if_neg (by omega), if_neg (by omega), if_pos rfl]
theorem timesT_from {m : Int} (h0 : m ≠ 0) (h1 : m ≠ 1) (h2 : m ≠ -1) : timesT m (-1) = 123 :: (Lib.itoa m ++ [44, 125]) := by
  unfold timesT
  rw [if_neg (by omega), if_neg (by omega), if_neg (by omega), if_neg (by omega), if_pos rfl]
theorem timesT_two {m n : Int} (h0 : n ≠ -1) (h1 : ¬ (m = 0 ∧ n = 1)) (h2 : m ≠ n) : timesT m n = 123 :: (Lib.itoa m ++ 44 :: (Lib.itoa n ++ [125])) := by
  unfold timesT
  rw [if_neg (by omega), if_neg (by omega), if_neg h1, if_neg h2, if_neg h0]
set_option maxRecDepth 100000 in
set_option maxHeartbeats 3200000 in
theorem times_any (m n : Int) (m0 : -9223372036854775808 ≤ m) (m1 : m ≤ 9223372036854775807) (n0 : -9223372036854775808 ≤ n) (n1 : n ≤ 9223372036854775807) (W : World) (hl : LibIs W) :
    Calls Tryz.prog 49 #[.int .i64 m, .int .i64 n] W fun e w' => (∃ s, e = .returned (.string s) ∧ s.data.toList = timesT m n ∧ s.size ≤ 45) ∧ Below W.heap.size W w' := by
  have NM := Lib.hid (fun w h => rexNumber_any m m0 m1 w h)
  have NN := Lib.hid (fun w h => rexNumber_any n n0 n1 w h)
  have sm := itoaS_size m m0 m1
  have sn := itoaS_size n n0 n1
  have HL := Lib.hid hl
  have lm := itoaS_list m
  have ln := itoaS_list n
  obtain ⟨a, ha⟩ : ∃ a, itoaS m = a := ⟨_, rfl⟩
  obtain ⟨c, hc⟩ : ∃ c, itoaS n = c := ⟨_, rfl⟩
  rw [ha] at NM sm lm
  rw [hc] at NN sn ln
  have q1 : ¬ 9223372036854775807 < 1 + a.size := by omega
  have q2 : ¬ 9223372036854775807 < 1 + a.size + 1 := by omega
  have q3 : ¬ 9223372036854775807 < 1 + a.size + 2 := by omega
  have q4 : ¬ 9223372036854775807 < 1 + a.size + 1 + c.size := by omega
  have q5 : ¬ 9223372036854775807 < 1 + a.size + 1 + c.size + 1 := by omega
  clear ha hc hl m0 m1 n0 n1
  have shut : ∀ {P Q : Prop}, P → Q → P ∧ Q := fun h k => ⟨h, k⟩
  by_cases hn : n = -1
  · subst hn
    by_cases h0 : m = 0
    · subst h0
      clear NM NN
      go_enter Tryz.func49, Tryz.ntmps49
      go_wp2
      go_ret
      exact ⟨⟨_, rfl, rfl, by decide⟩, Below.refl _ _⟩
    · by_cases h1 : m = 1
      · subst h1
        clear NM NN
        go_enter Tryz.func49, Tryz.ntmps49
        go_wp2
        go_ret
        exact ⟨⟨_, rfl, rfl, by decide⟩, Below.refl _ _⟩
      · have b0 : (m == 0) = false := beq_eq_false_iff_ne.2 h0
        have b1 : (m == 1) = false := beq_eq_false_iff_ne.2 h1
        by_cases h2 : m = -1
        · subst h2
          have T := Lib.hid (timesT_one (n := -1))
          go_enter Tryz.func49, Tryz.ntmps49
          go_wp2_with fail
          refine (NM.out _ HL.out).mono ?_
          rintro e w ⟨rfl, hb⟩
          go_wp2
          go_ret
          refine ⟨⟨_, rfl, ?_, ?_⟩, hb⟩
          · rw [T.out, text_joined, text_joined, lm]; rfl
          · simp only [ByteArray.size_append]; show 1 + a.size + 1 ≤ 45; omega
        · have b2 : (m == -1) = false := beq_eq_false_iff_ne.2 h2
          have T := Lib.hid (timesT_from h0 h1 h2)
          go_enter Tryz.func49, Tryz.ntmps49
          go_wp2_with fail
          refine (NM.out _ HL.out).mono ?_
          rintro e w ⟨rfl, hb⟩
          go_wp2
          go_ret
          refine ⟨⟨_, rfl, ?_, ?_⟩, hb⟩
          · rw [T.out, text_joined, text_joined, lm]; rfl
          · simp only [ByteArray.size_append]; show 1 + a.size + 2 ≤ 45; omega
  · have bn : (n == -1) = false := beq_eq_false_iff_ne.2 hn
    by_cases he : m = n
    · subst he
      have T := Lib.hid (timesT_one (n := m))
      have bm1 : (m == 0 && m == 1) = false := by
        cases h : m == 0
        · rfl
        · rw [eq_of_beq h]; rfl
      by_cases h0 : m = 0
      · subst h0
        go_enter Tryz.func49, Tryz.ntmps49
        go_wp2_with fail
        refine (NM.out _ HL.out).mono ?_
        rintro e w ⟨rfl, hb⟩
        go_wp2
        go_ret
        refine ⟨⟨_, rfl, ?_, ?_⟩, hb⟩
        · rw [T.out, text_joined, text_joined, lm]; rfl
        · simp only [ByteArray.size_append]; show 1 + a.size + 1 ≤ 45; omega
      · have b0 : (m == 0) = false := beq_eq_false_iff_ne.2 h0
        by_cases h1 : m = 1
        · subst h1
          go_enter Tryz.func49, Tryz.ntmps49
          go_wp2_with fail
          refine (NM.out _ HL.out).mono ?_
          rintro e w ⟨rfl, hb⟩
          go_wp2
          go_ret
          refine ⟨⟨_, rfl, ?_, ?_⟩, hb⟩
          · rw [T.out, text_joined, text_joined, lm]; rfl
          · simp only [ByteArray.size_append]; show 1 + a.size + 1 ≤ 45; omega
        · have b1 : (m == 1) = false := beq_eq_false_iff_ne.2 h1
          go_enter Tryz.func49, Tryz.ntmps49
          go_wp2_with fail
          refine (NM.out _ HL.out).mono ?_
          rintro e w ⟨rfl, hb⟩
          go_wp2
          go_ret
          refine ⟨⟨_, rfl, ?_, ?_⟩, hb⟩
          · rw [T.out, text_joined, text_joined, lm]; rfl
          · simp only [ByteArray.size_append]; show 1 + a.size + 1 ≤ 45; omega
    · have be : (m == n) = false := beq_eq_false_iff_ne.2 he
      by_cases h01 : m = 0 ∧ n = 1
      · obtain ⟨rfl, rfl⟩ := h01
        clear NM NN
        go_enter Tryz.func49, Tryz.ntmps49
        go_wp2
        go_ret
        exact ⟨⟨_, rfl, rfl, by decide⟩, Below.refl _ _⟩
      · have T := Lib.hid (timesT_two hn h01 he)
        have HT2 : ∀ w, Calls Tryz.prog 59 #[.int .i64 n] w (fun e w' => e = .returned (.string c) ∧ Below w.heap.size w w') ∨ True := fun w => .inr trivial
        clear HT2
        rcases (show (m = 0 ∧ ¬ n = 1) ∨ (m = 1) ∨ (¬ m = 0 ∧ ¬ m = 1) by omega) with ⟨rfl, hn1⟩ | rfl | ⟨hm0, hm1⟩
        · have bn1 : (n == 1) = false := beq_eq_false_iff_ne.2 hn1
          go_enter Tryz.func49, Tryz.ntmps49
          go_wp2_with fail
          refine (NM.out _ HL.out).mono ?_
          rintro e w ⟨rfl, hb⟩
          go_wp2_with fail
          refine (NN.out _ (HL.out.below hb)).mono ?_
          rintro e w2 ⟨rfl, hb2⟩
          go_wp2
          go_ret
          refine ⟨⟨_, rfl, ?_, ?_⟩, hb.trans (hb2.mono hb.size)⟩
          · rw [T.out, text_joined, text_joined, text_joined, text_joined, lm, ln, List.append_assoc, List.append_assoc]; rfl
          · simp only [ByteArray.size_append]; show 1 + a.size + 1 + c.size + 1 ≤ 45; omega
        · go_enter Tryz.func49, Tryz.ntmps49
          go_wp2_with fail
          refine (NM.out _ HL.out).mono ?_
          rintro e w ⟨rfl, hb⟩
          go_wp2_with fail
          refine (NN.out _ (HL.out.below hb)).mono ?_
          rintro e w2 ⟨rfl, hb2⟩
          go_wp2
          go_ret
          refine ⟨⟨_, rfl, ?_, ?_⟩, hb.trans (hb2.mono hb.size)⟩
          · rw [T.out, text_joined, text_joined, text_joined, text_joined, lm, ln, List.append_assoc, List.append_assoc]; rfl
          · simp only [ByteArray.size_append]; show 1 + a.size + 1 + c.size + 1 ≤ 45; omega
        · have bm0 : (m == 0) = false := beq_eq_false_iff_ne.2 hm0
          have bm1 : (m == 1) = false := beq_eq_false_iff_ne.2 hm1
          go_enter Tryz.func49, Tryz.ntmps49
          go_wp2_with fail
          refine (NM.out _ HL.out).mono ?_
          rintro e w ⟨rfl, hb⟩
          go_wp2_with fail
          refine (NN.out _ (HL.out.below hb)).mono ?_
          rintro e w2 ⟨rfl, hb2⟩
          go_wp2
          go_ret
          refine ⟨⟨_, rfl, ?_, ?_⟩, hb.trans (hb2.mono hb.size)⟩
          · rw [T.out, text_joined, text_joined, text_joined, text_joined, lm, ln, List.append_assoc, List.append_assoc]; rfl
          · simp only [ByteArray.size_append]; show 1 + a.size + 1 + c.size + 1 ≤ 45; omega
end Go.Proofs.YtojjeignijpiaaaGreatDoor
namespace Go.Proofs.YtojjeignijpiaaaGreatDoor
open Go.RowKit
set_option linter.unusedVariables false
set_option linter.unusedSimpArgs false

theorem Wr.alloc {B b : Nat} {l : List UInt8} {w : World} (h : Wr B b l w) (o : Obj) : Wr B b l (w.alloc o) := by
  have hk : ∀ p, Lib.BuilderAt 60 5 B b p (Lib.byteCells l) w → Lib.BuilderAt 60 5 B b p (Lib.byteCells l) (w.alloc o) := by
    rintro p ⟨hB, v, hb, hown, hne⟩
    exact ⟨hB, v, (Lib.alloc_old w o b (lt_cells hb)).trans hb, hown.alloc o, hne⟩
  exact h.imp (hk _) (hk _)
theorem Wr.later {B b : Nat} {l : List UInt8} {w w' : World} (h : Wr B b l w) (hb : Below w.heap.size w w') : Wr B b l w' := by
  have hk : ∀ p, Lib.BuilderAt 60 5 B b p (Lib.byteCells l) w → Lib.BuilderAt 60 5 B b p (Lib.byteCells l) w' := by
    rintro p ⟨hB, v, hbk, hown, hne⟩
    refine ⟨hB, v, (hb.block b (lt_cells hbk)).trans hbk, ⟨hown.1, ?_⟩, hne⟩
    rcases hown.2 with h0 | ⟨g, cap, cur, hv, hbg, hh, x⟩
    · exact .inl h0
    · exact .inr ⟨g, cap, cur, hv, hbg, (hb.block g (lt_cells hh)).trans hh, x⟩
  exact h.imp (hk _) (hk _)
theorem Wr.lt {B b : Nat} {l : List UInt8} {w : World} (h : Wr B b l w) : b < w.heap.size := by
  rcases h with ⟨_, v, hb, _⟩ | ⟨_, v, hb, _⟩ <;> exact lt_cells hb
theorem Wr.ge {B b : Nat} {l : List UInt8} {w : World} (h : Wr B b l w) : B ≤ b := by
  rcases h with ⟨h, _⟩ | ⟨h, _⟩ <;> exact h
theorem Wrote.blk {B b g : Nat} {w w' : World} {T : TypeId} {cs : Array Value} (h : Wrote B b w w') (hT : T ≠ 5) (hg : g ≠ b) (k : Blk w g T cs) : Blk w' g T cs := h.kept g cs T (0, 0) hT hg k
theorem Wrote.of {B b : Nat} {w w' : World} (hb : Below w.heap.size w w') (hB : B ≤ w.heap.size) : Wrote B b w w' := ⟨hb.mono hB, fun g cs T fr _ _ he => (hb.block g (lt_cells he)).trans he⟩
theorem Wrote.alloc {B b : Nat} (w : World) (hB : B ≤ w.heap.size) (o : Obj) : Wrote B b w (w.alloc o) := Wrote.of ((Below.refl _ _).alloc (Nat.le_refl _) o) hB
theorem Wrote.own {α : Type} {V : α → List Value} {s : Nat} {B b B' ty : Nat} {w w' : World} {v : Value} {l : List α} (k : Wrote B b w w') (hty : ty ≠ 5) (hb : b < B') (h : OwnR V s w B' ty v l) : OwnR V s w' B' ty v l := by
  refine ⟨h.1, ?_⟩
  rcases h.2 with h0 | ⟨g, cap, cur, hv, hbg, hh, x⟩
  · exact .inl h0
  · exact .inr ⟨g, cap, cur, hv, hbg, k.kept g cur ty (0, 0) hty (by omega) hh, x⟩
theorem spansT_next {l : List (Nat × Nat)} {j : Nat} {p : Nat × Nat} (h : l[j]? = some p) : spansT (l.take (j + 1)) = spansT (l.take j) ++ spanT p := by
  rw [List.take_add_one, h, spansT_app]
  show _ ++ spansT [p] = _
  rw [spansT, spansT, List.append_nil]
theorem spansT_pre (l : List (Nat × Nat)) (j : Nat) : (spansT (l.take j)).length ≤ (spansT l).length := by
  conv => rhs; rw [← List.take_append_drop j l, spansT_app, List.length_append]
  omega
set_option maxRecDepth 100000 in
set_option maxHeartbeats 3200000 in
theorem tellClass_any (B b : Nat) (l : List UInt8) (S : Nat) (W : World) (h : Wr B b l W) (hlen : l.length + (spansT (spansL S)).length + 2 ≤ 140737488355328) (hB : B ≤ W.heap.size) :
    Calls Tryz.prog 46 #[.pointer (some ⟨b, 0, none⟩), setV S] W fun e w' => e = .returned (.tuple #[]) ∧ Wr B b (l ++ 91 :: (spansT (spansL S) ++ [93])) w' ∧ Wrote B b W w' := by
  have hbW := h.lt
  have HA := Lib.hid (wr_byte B b l 91 91 rfl _ (h.alloc (.cells (setC S) 24)) (by omega) (by simp; omega))
  have HKB := Lib.hid (Blk.new W 24 (setC S))
  have HSP := Lib.hid (fun w => spans_any S w)
  have HOK := Lib.hid (spansF_ok S 256 0)
  have HW0 := Lib.hid (Wrote.alloc (b := b) W hB (.cells (setC S) 24))
  have hcap : (spansL S).length ≤ 256 := spansL_len S
  obtain ⟨L, hL⟩ : ∃ L, spansL S = L := ⟨_, rfl⟩
  rw [hL] at hlen hcap HSP ⊢
  have hok2 : ∀ p ∈ L, p.1 ≤ p.2 ∧ p.2 < 256 := fun p hp => HOK.out p (by rw [← hL] at hp; exact hp)
  have HOK2 := Lib.hid hok2
  have hpre := spansT_pre L
  have HPRE := Lib.hid hpre
  clear h hL HOK hok2 hpre
  unfold setV at *
  go_enter Tryz.func46, Tryz.ntmps46
  go_wp2_with fail
  refine HA.out.mono ?_
  rintro e w1 ⟨rfl, h1, k1⟩
  have hk1 : Blk w1 W.heap.size 24 (setC S) := k1.blk (by decide) (by omega) HKB.out
  obtain ⟨⟨c0, c1, c2, c3⟩, _⟩ := set_cells hk1
  have HK1 := Lib.hid (HW0.out.trans k1)
  have H1 := Lib.hid h1
  have hs1 : W.heap.size + 1 ≤ w1.heap.size := by have := k1.size; simp at this; omega
  clear hk1 k1 h1 HA HKB HW0
  go_wp2_with fail
  refine (HSP.out w1).mono ?_
  rintro e w2 ⟨⟨v, rfl, hown⟩, hb2⟩
  have H2 := Lib.hid (H1.out.later hb2)
  have HK2 := Lib.hid (HK1.out.trans (Wrote.of hb2 (by omega)))
  have HOWN := Lib.hid hown
  obtain ⟨A, cap, rfl, hc1, hc2, hrow⟩ := hown.open spanV_len
  have hs2 : w1.heap.size ≤ w2.heap.size := hb2.size
  obtain ⟨B2, hB2⟩ : ∃ x, w1.heap.size = x := ⟨_, rfl⟩
  rw [hB2] at HOWN hs1 hs2
  obtain ⟨n, hn⟩ : ∃ n, L.length = n := ⟨_, rfl⟩
  rw [hn] at hcap HOWN hc1 hc2
  rw [hn]
  clear hown hrow H1 HK1 HSP c0 c1 c2 c3 hB2 hb2 hc2
  go_wp2
  go_loopw [13] (fun iv wr => ∃ (j : Nat), j ≤ n ∧ iv = .int .i64 (j : Nat) ∧ Hid (Wr B b (l ++ 91 :: spansT (L.take j)) wr) ∧ Hid (Wrote B b W wr) ∧ Hid (OwnR spanV 2 wr B2 86 (.slice A n cap) L) ∧ Hid (B2 ≤ wr.heap.size)) (fun iv _ => n - (intOf iv).toNat)
  case atStart => exact ⟨0, Nat.zero_le _, rfl, H2, HK2, HOWN, Lib.hid hs2⟩
  case round =>
    obtain ⟨j, hj, rfl, HW, HK, HO, HS⟩ := hrel
    by_cases hlt : j < n
    · have hI : (j : Int) < n := by omega
      obtain ⟨p, hp⟩ : ∃ p, L[j]? = some p := ⟨L[j], List.getElem?_eq_getElem (by omega)⟩
      obtain ⟨A2, cap2, e2, q1, q2, hrow⟩ := HO.out.open spanV_len
      injection e2 with e2 q3 q4
      subst e2
      clear q1 q2 q3 q4
      obtain ⟨g, off, rfl, hgl, hcc⟩ := hrow.2 (by omega)
      have c0 := hcc j 0 p hp (by decide)
      have c1 := hcc j 1 p hp (by decide)
      rw [Nat.add_zero] at c0
      have hnx := spansT_next hp
      have hp2 := HOK2.out p (List.mem_of_getElem? hp)
      obtain ⟨lo, hi⟩ := p
      simp only [spanV, List.getElem?_cons_zero, List.getElem?_cons_succ] at c0 c1
      have hlen2 := HPRE.out (j + 1)
      rw [hnx] at hlen2
      have hS := HS.out
      have hbS : b < wr.heap.size := HW.out.lt
      obtain ⟨T, hT⟩ : ∃ T, spansT (L.take j) = T := ⟨_, rfl⟩
      rw [hT] at HW hnx hlen2
      have HN := Lib.hid hnx
      have hlo : lo < 256 := by have := hp2.1; have := hp2.2; omega
      have hhi : hi < 256 := hp2.2
      have HL0 := Lib.hid hlo
      have HH0 := Lib.hid hhi
      have hsl : (byteP lo cspec).length ≤ (spanT (lo, hi)).length := by show (byteP lo cspec).length ≤ (byteP lo cspec ++ _).length; rw [List.length_append]; omega
      have W1 := Lib.hid (byteOf_any B b (l ++ 91 :: T) (UInt8.ofNat lo) (lo : Int) (by rw [u8_nat HL0.out]) ⟨#[92, 93, 45, 94]⟩ cspec among_cspec _ (HW.out.alloc (.cells #[.int .u8 (lo : Int), .int .u8 (hi : Int)] 86)) (by
        rw [← byteP_U]
        simp only [List.length_append, List.length_cons] at hlen2 ⊢
        omega) (by simp; omega))
      have HKN := Lib.hid (Blk.new wr 86 #[.int .u8 (lo : Int), .int .u8 (hi : Int)])
      have HKA := Lib.hid (HK.out.trans (Wrote.alloc (b := b) wr (by have := HK.out.size; omega) (.cells #[.int .u8 (lo : Int), .int .u8 (hi : Int)] 86)))
      have HOA := Lib.hid (HO.out.alloc (.cells #[.int .u8 (lo : Int), .int .u8 (hi : Int)] 86))
      have hBW : B ≤ wr.heap.size + 1 := by have := HK.out.size; omega
      have hbB2 : b < B2 := by omega
      have HLEN := Lib.hid hlen2
      have hgn : g ≠ b ∨ True := .inr trivial
      clear hcc hp hrow hT hnx hsl hp2 hlen2 hgn hn hs2
      go_wp2_with fail
      refine W1.out.mono ?_
      rintro e w3 ⟨rfl, h3, k3⟩
      have hk3 : Blk w3 wr.heap.size 86 #[.int .u8 (lo : Int), .int .u8 (hi : Int)] := k3.blk (by decide) (by omega) HKN.out
      have d0 : w3.cell? ⟨wr.heap.size, 0, none⟩ = some (.int .u8 (lo : Int)) := hk3.cell 0
      have d1 : w3.cell? ⟨wr.heap.size, 1, none⟩ = some (.int .u8 (hi : Int)) := hk3.cell 1
      have HK3 := Lib.hid (HKA.out.trans k3)
      have HO3 := Lib.hid (k3.own (by decide) hbB2 HOA.out)
      have hs3 : wr.heap.size + 1 ≤ w3.heap.size := by have := k3.size; simp at this; omega
      have H3 := Lib.hid h3
      have HB3 := Lib.hid hk3
      rw [← byteP_U] at H3
      clear c0 c1 h3 hk3 k3 W1 HKN HKA HOA
      by_cases hlh : lo < hi
      · have hI2 : (lo : Int) < (hi : Int) := by omega
        have hI3 : (hi : Int) > (lo : Int) := hI2
        have hsp : spanT (lo, hi) = byteP lo cspec ++ 45 :: byteP hi cspec := by unfold spanT; rw [if_pos hlh]
        have hlen2 := HLEN.out
        rw [hsp] at HN hlen2
        have hl45 : (l ++ 91 :: T ++ byteP lo cspec).length + 1 ≤ 140737488355328 := by simp only [List.length_append, List.length_cons] at hlen2 ⊢; omega
        have hl46 : (l ++ 91 :: T ++ byteP lo cspec ++ [45]).length + (byteU (UInt8.ofNat hi) cspec).length ≤ 140737488355328 := by rw [← byteP_U]; simp only [List.length_append, List.length_cons] at hlen2 ⊢; simp; omega
        have W2 := Lib.hid (wr_byte B b (l ++ 91 :: T ++ byteP lo cspec) 45 45 rfl w3 H3.out hl45 (by omega))
        have HL46 := Lib.hid hl46
        clear hl45 hl46 hlen2
        go_wp2_with fail
        refine W2.out.mono ?_
        rintro e w4 ⟨rfl, h4, k4⟩
        have hk4 : Blk w4 wr.heap.size 86 #[.int .u8 (lo : Int), .int .u8 (hi : Int)] := k4.blk (by decide) (by omega) HB3.out
        have e1 : w4.cell? ⟨wr.heap.size, 1, none⟩ = some (.int .u8 (hi : Int)) := hk4.cell 1
        have hs4 := k4.size
        have W3 := Lib.hid (byteOf_any B b (l ++ 91 :: T ++ byteP lo cspec ++ [45]) (UInt8.ofNat hi) (hi : Int) (by rw [u8_nat HH0.out]) ⟨#[92, 93, 45, 94]⟩ cspec among_cspec w4 h4 HL46.out (by omega))
        have HK4 := Lib.hid (HK3.out.trans k4)
        have HO4 := Lib.hid (k4.own (by decide) hbB2 HO3.out)
        clear hk4 k4 h4 W2 d0 d1
        go_wp2_with fail
        refine W3.out.mono ?_
        rintro e w5 ⟨rfl, h5, k5⟩
        have hs5 := k5.size
        have HK5 := Lib.hid (HK4.out.trans k5)
        have HO5 := Lib.hid (k5.own (by decide) hbB2 HO4.out)
        have H5 := Lib.hid h5
        clear h5 k5 W3 e1
        go_wp2
        go_round
        case rel =>
          refine ⟨j + 1, by omega, by go_num, ?_, HK5, HO5, Lib.hid (by omega)⟩
          have h6 := H5.out
          rw [← byteP_U] at h6
          have e6 : l ++ 91 :: T ++ byteP lo cspec ++ [45] ++ byteP hi cspec = l ++ 91 :: spansT (L.take (j + 1)) := by rw [HN.out]; simp only [List.append_assoc, List.cons_append, List.nil_append, List.singleton_append]
          rw [e6] at h6
          exact Lib.hid h6
        case measure => simp [intOf]; omega
      · have hI2 : ¬ (lo : Int) < (hi : Int) := by omega
        have hI3 : ¬ (hi : Int) > (lo : Int) := hI2
        have hsp : spanT (lo, hi) = byteP lo cspec := by unfold spanT; rw [if_neg hlh, List.append_nil]
        rw [hsp] at HN
        go_wp2
        go_round
        case rel =>
          refine ⟨j + 1, by omega, by go_num, ?_, HK3, HO3, Lib.hid (by omega)⟩
          have h6 := H3.out
          have e6 : l ++ 91 :: T ++ byteP lo cspec = l ++ 91 :: spansT (L.take (j + 1)) := by rw [HN.out]; simp only [List.append_assoc, List.cons_append]
          rw [e6] at h6
          exact Lib.hid h6
        case measure => simp [intOf]; omega
    · obtain rfl : j = n := by omega
      have hI : ¬ (j : Int) < (j : Int) := by omega
      rw [List.take_of_length_le (by omega)] at HW
      have hS := HS.out
      have W2 := Lib.hid (wr_byte B b (l ++ 91 :: spansT L) 93 93 rfl wr HW.out (by simp only [List.length_append, List.length_cons]; omega) (by omega))
      go_wp2_with fail
      refine W2.out.mono ?_
      rintro e w4 ⟨rfl, h4, k4⟩
      have HK4 := Lib.hid (HK.out.trans k4)
      have H4 := Lib.hid h4
      clear h4 k4
      go_wp2
      go_end0
      have h6 := H4.out
      rw [List.append_assoc] at h6
      exact ⟨rfl, h6, HK4.out⟩
end Go.Proofs.YtojjeignijpiaaaGreatDoor
