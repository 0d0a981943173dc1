/- The first of some entries, and those up to an end: the walks of First and Upto.
   The chapter's examples of merging: the walk. -/
import Derived.Test.YtilcanblgdmecaaMergeAll
import Derived.Deep.DeepCutAuto
import Derived.Deep.CutBlock
namespace Go.Proofs.Ytilcanblgdmecaa
open Go.RowKit
set_option linter.unusedVariables false
set_option linter.unusedSimpArgs false

def firstF (asc : Bool) : EntX → List EntX → EntX
  | f, [] => f
  | f, e :: l => firstF asc (if aheadB e.b f.b asc = true then e else f) l
def firstE (asc : Bool) : List EntX → EntX
  | [] => xnil
  | x :: l => firstF asc x l
def uptoE (asc : Bool) (u : EntB) (l : List EntX) : List EntX := l.filter fun e => !aheadB u e.b asc
theorem firstF_mem (asc : Bool) (l : List EntX) : ∀ f, firstF asc f l = f ∨ firstF asc f l ∈ l := by
  induction l with
  | nil => intro f; exact .inl rfl
  | cons e l ih =>
    intro f
    rw [firstF]
    by_cases h : aheadB e.b f.b asc = true
    · rw [if_pos h]
      rcases ih e with h1 | h1
      · rw [h1]; exact .inr List.mem_cons_self
      · exact .inr (List.mem_cons_of_mem _ h1)
    · rw [if_neg h]
      rcases ih f with h1 | h1
      · exact .inl h1
      · exact .inr (List.mem_cons_of_mem _ h1)
theorem firstE_good {B : Nat} {w : World} {l : List EntX} (asc : Bool) (h : ∀ x ∈ l, Good B w x) : Good B w (firstE asc l) := by
  cases l with
  | nil => exact good_nil B w
  | cons x l =>
    rcases firstF_mem asc l x with h1 | h1
    · rw [show firstE asc (x :: l) = firstF asc x l from rfl, h1]
      exact h x List.mem_cons_self
    · exact h _ (List.mem_cons_of_mem _ h1)
theorem OwnR.cap {α : Type} {V : α → List Value} {s : Nat} {w : World} {B ty : Nat} {A : Option Addr} {n c : Nat} {l : List α} (h : OwnR V s w B ty (.slice A n c) l) : n ≤ c ∧ c ≤ maxLen := by
  rcases h.2 with ⟨e, _⟩ | ⟨g, cap, cur, e, _, _, hc, hm, _⟩
  · injection e with e1 e2 e3
    subst e2 e3
    exact ⟨Nat.le_refl _, Nat.zero_le _⟩
  · injection e with e1 e2 e3
    subst e2 e3
    exact ⟨hc, hm⟩
def entArr (x : EntX) : Array Value := #[.int .i64 x.ts, .slice x.A x.n x.c, .string x.ln]

set_option maxRecDepth 100000 in
set_option maxHeartbeats 800000 in
theorem first_any (B : Nat) (asc : Bool) (A : Option Addr) (n c : Nat) (l : List EntX) (hn : n ≤ c ∧ c ≤ maxLen) (W : World) (h : Ents B W A n l) :
    Calls Try.prog 14 #[.bool asc, .slice A n c] W fun e w' => e = .returned (.tuple #[.agg (entArr (firstE asc l)), .bool (decide (0 < n))]) ∧ Below W.heap.size W w' := by
  have hmax : maxLen ≤ 9223372036854775807 := by unfold maxLen; omega
  have hl := h.1.1
  cases l with
  | nil =>
    obtain rfl : n = 0 := hl.symm
    have hb1 : Below W.heap.size W (W.alloc (.cells #[.int .i64 0, .slice none 0 0, .string ⟨#[]⟩] 26)) := (Below.refl _ _).alloc (Nat.le_refl _) _
    have HB1 := Lib.hid hb1
    have HK := Lib.hid (show Blk (W.alloc (.cells #[.int .i64 0, .slice none 0 0, .string ⟨#[]⟩] 26)) W.heap.size 26 #[.int .i64 0, .slice none 0 0, .string ⟨#[]⟩] from Blk.new _ _ _)
    clear hb1 h
    go_enter Try.func14, Try.ntmps14
    go_wp2
    refine bodyPost_ret (results_row_tmp rfl _ _ _ 26 _ (0, 0) _ rfl HK.out Try.underlying26 rfl (by kernel_rfl)) rfl ?_
    exact ⟨rfl, HB1.out⟩
  | cons x tl =>
    rw [List.length_cons] at hl
    have hn0 : 0 < n := by omega
    have hn0I : (0 : Int) < (n : Int) := by omega
    have hn1I : (1 : Int) ≤ (n : Int) := by omega
    have hnz : ¬ ((n : Int) = 0) := by omega
    have hnz2 : ¬ (n = 0) := by omega
    have hnz3 : ((n : Int) == 0) = false := by rw [beq_eq_false_iff_ne]; exact hnz
    have hnz4 : decide ((n : Int) = 0) = false := decide_eq_false hnz
    obtain ⟨b1, o1, hA, hlt1, hc1⟩ := h.at_ hn0
    obtain ⟨e1, e2, e3, ge⟩ := hc1 0 hn0
    rw [show (x :: tl).getD 0 xnil = x from rfl, Nat.zero_mul, Nat.add_zero] at e1 e2 e3
    subst hA
    have hT := ents_tail h
    obtain ⟨F, hF⟩ : ∃ F, firstF asc x tl = F := ⟨_, rfl⟩
    rw [show firstE asc (x :: tl) = firstF asc x tl from rfl, hF, show decide (0 < n) = true from decide_eq_true hn0]
    have HF := Lib.hid hF
    have HT := Lib.hid hT
    have HGX := Lib.hid (h.2 x List.mem_cons_self)
    obtain ⟨g4, hg4⟩ : ∃ g, W.heap.size = g := ⟨_, rfl⟩
    obtain ⟨w1, hw1⟩ : ∃ z, W.alloc (.cells #[.int .i64 0, .slice none 0 0, .string ⟨#[]⟩] 26) = z := ⟨_, rfl⟩
    have B4 : Blk w1 g4 26 #[.int .i64 0, .slice none 0 0, .string ⟨#[]⟩] := by rw [← hw1, ← hg4]; exact Blk.new _ _ _
    have hb1 : Below W.heap.size W w1 := by rw [← hw1]; exact (Below.refl _ _).alloc (Nat.le_refl _) _
    obtain ⟨g6, hg6⟩ : ∃ g, w1.heap.size = g := ⟨_, rfl⟩
    obtain ⟨w2, hw2⟩ : ∃ z, w1.alloc (.cells (entArr x) 26) = z := ⟨_, rfl⟩
    have B6 : Blk w2 g6 26 (entArr x) := by rw [← hw2, ← hg6]; exact Blk.new _ _ _
    have hb12 : Below w1.heap.size w1 w2 := by rw [← hw2]; exact (Below.refl _ _).alloc (Nat.le_refl _) _
    have B4' := B4.below hb12 B4.lt
    have hb2 : Below W.heap.size W w2 := hop hb1 (Nat.le_refl _) hb12
    have hne : g4 ≠ g6 := by have := B4.lt; omega
    have h6W : W.heap.size ≤ g6 := by rw [← hg6]; exact hb1.size
    have d1 := (hb1.cell (p := ⟨b1, o1, none⟩) hlt1).trans e1
    have d2 := (hb1.cell (p := ⟨b1, o1 + 1, none⟩) hlt1).trans e2
    have d3 := (hb1.cell (p := ⟨b1, o1 + 2, none⟩) hlt1).trans e3
    have HB6 := Lib.hid B6
    have HB4 := Lib.hid B4'
    have Hb2 := Lib.hid hb2
    have HNE := Lib.hid hne
    have HG4 := Lib.hid (show W.heap.size ≤ g4 by omega)
    have H6W := Lib.hid h6W
    unfold entArr at hw2
    clear h hc1 ge hT hF B4 hb1 B6 hb12 B4' hb2 e1 e2 e3 hne h6W
    go_enter Try.func14, Try.ntmps14
    rcases (by omega : c = 1 ∨ 1 < c) with hc1 | hc1
    · obtain rfl : c = 1 := hc1
      obtain rfl : n = 1 := by omega
      have htl : tl = [] := List.eq_nil_of_length_eq_zero (by omega)
      subst htl
      have E := Lib.hid (show x = F from HF.out)
      go_wp2
      clear hw1 hw2 hg4 hg6
      go_loopw [19] (fun iv wr => iv = .int .i64 0 ∧ wr = w2) (fun _ _ => 0)
      case atStart => exact ⟨rfl, rfl⟩
      case round =>
        obtain ⟨rfl, rfl⟩ := hrel
        have c0 : wr.cell? ⟨g6, 0, none⟩ = some (.int .i64 x.ts) := (HB6.out.cell 0).trans rfl
        have c1 : wr.cell? ⟨g6, 1, none⟩ = some (.slice x.A x.n x.c) := (HB6.out.cell 1).trans rfl
        have c2 : wr.cell? ⟨g6, 2, none⟩ = some (.string x.ln) := (HB6.out.cell 2).trans rfl
        have y0 : wr.cell? ⟨g4, 0, none⟩ = some (.int .i64 0) := (HB4.out.cell 0).trans rfl
        have y1 : wr.cell? ⟨g4, 1, none⟩ = some (.slice none 0 0) := (HB4.out.cell 1).trans rfl
        have y2 : wr.cell? ⟨g4, 2, none⟩ = some (.string ⟨#[]⟩) := (HB4.out.cell 2).trans rfl
        have z0 := HB4.out.frozen 0
        have z1 := HB4.out.frozen 1
        have z2 := HB4.out.frozen 2
        have HR := Lib.hid (((HB4.out.set_ 0 (.int .i64 x.ts)).set_ 1 (.slice x.A x.n x.c)).set_ 2 (.string x.ln))
        have HBE := Lib.hid (((Hb2.out.setCell (p := ⟨g4, 0, none⟩) (by have := HG4.out; omega) (.int .i64 x.ts)).setCell (p := ⟨g4, 1, none⟩) (by have := HG4.out; omega) (.slice x.A x.n x.c)).setCell (p := ⟨g4, 2, none⟩) (by have := HG4.out; omega) (.string x.ln))
        go_wp2
        refine bodyPost_ret (results_row_tmp rfl _ _ _ 26 _ (0, 0) _ rfl HR.out Try.underlying26 rfl (by kernel_rfl)) rfl ?_
        rw [← E.out]
        exact ⟨rfl, HBE.out⟩
    · have h1c : ¬ c = 1 := by omega
      obtain ⟨m, hm⟩ : ∃ m, n - 1 = m := ⟨_, rfl⟩
      have HM := Lib.hid hm
      have hmx : m + 1 ≤ 9223372036854775807 := by omega
      have HTL := Lib.hid (show tl.length = m by omega)
      rw [hm] at HT
      go_wp2
      clear hw1 hw2 hg4 hg6 hm
      go_loopw [19] (fun iv wr => ∃ (j : Nat) (f : EntX), j ≤ m ∧ iv = .int .i64 (j : Int) ∧ Hid (firstF asc f (tl.drop j) = F) ∧ Hid (Blk wr g6 26 (entArr f)) ∧ Hid (Blk wr g4 26 #[.int .i64 0, .slice none 0 0, .string ⟨#[]⟩]) ∧ Hid (Below W.heap.size W wr) ∧ Hid (Good B W f)) (fun iv _ => m - (intOf iv).toNat)
      case atStart => exact ⟨0, x, Nat.zero_le _, rfl, HF, HB6, HB4, Hb2, HGX⟩
      case round =>
        obtain ⟨j, f, hjm, rfl, HJ, K6, K4, HB, HGF⟩ := hrel
        by_cases hj : j < m
        · have hjI : (j : Int) < (m : Int) := by omega
          obtain ⟨b2, o2, hA2, hlt2, hc2⟩ := (HT.out.below HB.out).at_ (by omega)
          injection hA2 with hA2
          injection hA2 with hA3 hA4
          subst hA3 hA4
          obtain ⟨q1, q2, q3, gy⟩ := hc2 j hj
          have hgy0 : Good B W (tl.getD j xnil) := HT.out.2 _ (by rw [List.getD_eq_getElem?_getD, List.getElem?_eq_getElem (by rw [HTL.out]; exact hj)]; exact List.getElem_mem _)
          have hd : tl.drop j = tl.getD j xnil :: tl.drop (j + 1) := by
            rw [List.drop_eq_getElem_cons (by rw [HTL.out]; exact hj), List.getD_eq_getElem?_getD, List.getElem?_eq_getElem (by rw [HTL.out]; exact hj)]
            rfl
          have hs := HJ.out
          rw [hd, firstF] at hs
          obtain ⟨y, hy⟩ : ∃ y, tl.getD j xnil = y := ⟨_, rfl⟩
          rw [hy] at q1 q2 q3 hgy0 hs
          have HS := Lib.hid hs
          have HGY := Lib.hid hgy0
          obtain ⟨g8, hg8⟩ : ∃ g, wr.heap.size = g := ⟨_, rfl⟩
          obtain ⟨w3, hw3⟩ : ∃ z, wr.alloc (.cells (entArr y) 26) = z := ⟨_, rfl⟩
          have B8 : Blk w3 g8 26 (entArr y) := by rw [← hw3, ← hg8]; exact Blk.new _ _ _
          have hb3 : Below wr.heap.size wr w3 := by rw [← hw3]; exact (Below.refl _ _).alloc (Nat.le_refl _) _
          have K63 := K6.out.below hb3 K6.out.lt
          have K43 := K4.out.below hb3 K4.out.lt
          have hW3 := hop HB.out (Nat.le_refl _) hb3
          have n68 : g6 ≠ g8 := by have := K6.out.lt; omega
          have n48 : g4 ≠ g8 := by have := K4.out.lt; omega
          have a0 : w3.cell? ⟨g8, 0, none⟩ = some (.int .i64 y.ts) := (B8.cell 0).trans rfl
          have a1 : w3.cell? ⟨g8, 1, none⟩ = some (.slice y.A y.n y.c) := (B8.cell 1).trans rfl
          have a2 : w3.cell? ⟨g8, 2, none⟩ = some (.string y.ln) := (B8.cell 2).trans rfl
          have c0 : w3.cell? ⟨g6, 0, none⟩ = some (.int .i64 f.ts) := (K63.cell 0).trans rfl
          have c1 : w3.cell? ⟨g6, 1, none⟩ = some (.slice f.A f.n f.c) := (K63.cell 1).trans rfl
          have c2 : w3.cell? ⟨g6, 2, none⟩ = some (.string f.ln) := (K63.cell 2).trans rfl
          have AH := Lib.hid (ahead_good y f asc w3 (hgy0.below hW3) (HGF.out.below hW3))
          obtain ⟨z, hz⟩ : ∃ z, aheadB y.b f.b asc = z := ⟨_, rfl⟩
          replace AH := AH.out
          rw [hz] at AH
          replace AH := Lib.hid AH
          have HZ := Lib.hid hz
          have HB8 := Lib.hid B8
          have HK6 := Lib.hid K63
          have HK4 := Lib.hid K43
          have HW3 := Lib.hid hW3
          have HN68 := Lib.hid n68
          have HN48 := Lib.hid n48
          unfold entArr at hw3
          clear hc2 gy hgy0 hd hs hy B8 hb3 K63 K43 hW3 n68 n48 hz K6 K4 HB HJ
          go_wp2_with fail
          clear hw3 hg8
          refine AH.out.mono ?_
          rintro e w4 ⟨rfl, hx⟩
          have HB84 := Lib.hid (HB8.out.below hx HB8.out.lt)
          have HK64 := Lib.hid (HK6.out.below hx HK6.out.lt)
          have HK44 := Lib.hid (HK4.out.below hx HK4.out.lt)
          have HW4 := Lib.hid (hop HW3.out (Nat.le_refl _) hx)
          clear hx a0 a1 a2 c0 c1 c2 q1 q2 q3 HB8 HK6 HK4 HW3 AH
          cases z with
          | false =>
            have HN := Lib.hid (show firstF asc f (tl.drop (j + 1)) = F by have := HS.out; rw [HZ.out, if_neg (by decide)] at this; exact this)
            clear HS HZ
            go_wp2
            go_round
            case rel => exact ⟨j + 1, f, by omega, by go_num, HN, HK64, HK44, HW4, HGF⟩
            case measure => simp [intOf]; omega
          | true =>
            have HN := Lib.hid (show firstF asc y (tl.drop (j + 1)) = F by have := HS.out; rw [HZ.out, if_pos rfl] at this; exact this)
            have a0 : w4.cell? ⟨g8, 0, none⟩ = some (.int .i64 y.ts) := (HB84.out.cell 0).trans rfl
            have a1 : w4.cell? ⟨g8, 1, none⟩ = some (.slice y.A y.n y.c) := (HB84.out.cell 1).trans rfl
            have a2 : w4.cell? ⟨g8, 2, none⟩ = some (.string y.ln) := (HB84.out.cell 2).trans rfl
            have c0 : w4.cell? ⟨g6, 0, none⟩ = some (.int .i64 f.ts) := (HK64.out.cell 0).trans rfl
            have c1 : w4.cell? ⟨g6, 1, none⟩ = some (.slice f.A f.n f.c) := (HK64.out.cell 1).trans rfl
            have c2 : w4.cell? ⟨g6, 2, none⟩ = some (.string f.ln) := (HK64.out.cell 2).trans rfl
            have z0 := HK64.out.frozen 0
            have z1 := HK64.out.frozen 1
            have z2 := HK64.out.frozen 2
            have HK65 := Lib.hid (((HK64.out.set_ 0 (.int .i64 y.ts)).set_ 1 (.slice y.A y.n y.c)).set_ 2 (.string y.ln))
            have HK45 := Lib.hid (((HK44.out.far (p := ⟨g6, 0, none⟩) HNE.out (.int .i64 y.ts)).far (p := ⟨g6, 1, none⟩) HNE.out (.slice y.A y.n y.c)).far (p := ⟨g6, 2, none⟩) HNE.out (.string y.ln))
            have HW5 := Lib.hid (((HW4.out.setCell (p := ⟨g6, 0, none⟩) H6W.out (.int .i64 y.ts)).setCell (p := ⟨g6, 1, none⟩) H6W.out (.slice y.A y.n y.c)).setCell (p := ⟨g6, 2, none⟩) H6W.out (.string y.ln))
            clear HS HZ HK64 HK44 HW4 HB84
            go_wp2
            go_round
            case rel => exact ⟨j + 1, y, by omega, by go_num, HN, HK65, HK45, HW5, HGY⟩
            case measure => simp [intOf]; omega
        · obtain rfl : m = j := by omega
          have E := Lib.hid (show f = F by
            have := HJ.out
            rw [List.drop_of_length_le (by rw [HTL.out]; exact Nat.le_refl _)] at this
            exact this)
          have c0 : wr.cell? ⟨g6, 0, none⟩ = some (.int .i64 f.ts) := (K6.out.cell 0).trans rfl
          have c1 : wr.cell? ⟨g6, 1, none⟩ = some (.slice f.A f.n f.c) := (K6.out.cell 1).trans rfl
          have c2 : wr.cell? ⟨g6, 2, none⟩ = some (.string f.ln) := (K6.out.cell 2).trans rfl
          have y0 : wr.cell? ⟨g4, 0, none⟩ = some (.int .i64 0) := (K4.out.cell 0).trans rfl
          have y1 : wr.cell? ⟨g4, 1, none⟩ = some (.slice none 0 0) := (K4.out.cell 1).trans rfl
          have y2 : wr.cell? ⟨g4, 2, none⟩ = some (.string ⟨#[]⟩) := (K4.out.cell 2).trans rfl
          have z0 := K4.out.frozen 0
          have z1 := K4.out.frozen 1
          have z2 := K4.out.frozen 2
          have HR := Lib.hid (((K4.out.set_ 0 (.int .i64 f.ts)).set_ 1 (.slice f.A f.n f.c)).set_ 2 (.string f.ln))
          have HBE := Lib.hid (((HB.out.setCell (p := ⟨g4, 0, none⟩) (by have := HG4.out; omega) (.int .i64 f.ts)).setCell (p := ⟨g4, 1, none⟩) (by have := HG4.out; omega) (.slice f.A f.n f.c)).setCell (p := ⟨g4, 2, none⟩) (by have := HG4.out; omega) (.string f.ln))
          clear HJ
          go_wp2
          refine bodyPost_ret (results_row_tmp rfl _ _ _ 26 _ (0, 0) _ rfl HR.out Try.underlying26 rfl (by kernel_rfl)) rfl ?_
          rw [← E.out]
          exact ⟨rfl, HBE.out⟩

set_option maxRecDepth 100000 in
set_option maxHeartbeats 800000 in
theorem upto_any (B : Nat) (asc : Bool) (u : EntX) (A : Option Addr) (n c : Nat) (l : List EntX) (hn : n ≤ 1000000) (W : World) (hB : B ≤ W.heap.size) (hu : Good B W u) (h : Ents B W A n l) :
    Calls Try.prog 19 #[.bool asc, .agg #[.int .i64 u.ts, .slice u.A u.n u.c, .string u.ln], .slice A n c] W fun e w' => ∃ v, e = .returned v ∧ OwnE B w' W.heap.size v (uptoE asc u.b l) ∧ Below W.heap.size W w' := by
  obtain ⟨i0, hi, hz0, hz1, hz2⟩ := info_parts infoEnt
  obtain ⟨g4, hg4⟩ : ∃ g, W.heap.size = g := ⟨_, rfl⟩
  obtain ⟨w1, hw1⟩ : ∃ z, W.alloc (.cells #[.int .i64 u.ts, .slice u.A u.n u.c, .string u.ln] 26) = z := ⟨_, rfl⟩
  have B4 : Blk w1 g4 26 #[.int .i64 u.ts, .slice u.A u.n u.c, .string u.ln] := by rw [← hw1, ← hg4]; exact Blk.new _ _ _
  have hb1 : Below W.heap.size W w1 := by rw [← hw1]; exact (Below.refl _ _).alloc (Nat.le_refl _) _
  have HL := Lib.hid h.1.1
  have H1 := Lib.hid h
  have HU := Lib.hid hu
  have HB4 := Lib.hid B4
  have Hb1 := Lib.hid hb1
  clear h hu B4 hb1
  go_enter Try.func19, Try.ntmps19
  have HW1 := Lib.hid (show W.heap.size ≤ w1.heap.size from Hb1.out.size)
  go_wp2
  clear hw1 hg4
  go_loopw [7, 12] (fun tv iv wr => ∃ j : Nat, j ≤ n ∧ iv = .int .i64 (j : Int) ∧ Hid (OwnE B wr w1.heap.size tv (uptoE asc u.b (l.take j))) ∧ Hid (Blk wr g4 26 #[.int .i64 u.ts, .slice u.A u.n u.c, .string u.ln]) ∧ Hid (Below W.heap.size W wr) ∧ Hid (w1.heap.size ≤ wr.heap.size)) (fun _ iv _ => n - (intOf iv).toNat)
  case atStart => exact ⟨0, Nat.zero_le _, rfl, Lib.hid (OwnE.nil _ _ _), HB4, Hb1, Lib.hid (Nat.le_refl _)⟩
  case round =>
    obtain ⟨j, hjn, rfl, HO, K4, HB', HS⟩ := hrel
    by_cases hj : j < n
    · have hjI : (j : Int) < (n : Int) := by omega
      obtain ⟨b2, o2, rfl, hlt2, hc2⟩ := (H1.out.below HB'.out).at_ (by omega)
      obtain ⟨q1, q2, q3, gy⟩ := hc2 j hj
      have hjl : j < l.length := by rw [HL.out]; exact hj
      have hgy0 : Good B W (l.getD j xnil) := H1.out.2 _ (by rw [List.getD_eq_getElem?_getD, List.getElem?_eq_getElem hjl]; exact List.getElem_mem _)
      have hd : l.take (j + 1) = l.take j ++ [l.getD j xnil] := by
        rw [List.take_succ_eq_append_getElem hjl, List.getD_eq_getElem?_getD, List.getElem?_eq_getElem hjl]
        rfl
      obtain ⟨y, hy⟩ : ∃ y, l.getD j xnil = y := ⟨_, rfl⟩
      rw [hy] at q1 q2 q3 hgy0 hd
      have HD := Lib.hid hd
      have HGY := Lib.hid hgy0
      obtain ⟨g8, hg8⟩ : ∃ g, wr.heap.size = g := ⟨_, rfl⟩
      obtain ⟨w3, hw3⟩ : ∃ z, wr.alloc (.cells (entArr y) 26) = z := ⟨_, rfl⟩
      have B8 : Blk w3 g8 26 (entArr y) := by rw [← hw3, ← hg8]; exact Blk.new _ _ _
      have hb3 : Below wr.heap.size wr w3 := by rw [← hw3]; exact (Below.refl _ _).alloc (Nat.le_refl _) _
      have K43 := K4.out.below hb3 K4.out.lt
      have hW3 := hop HB'.out (Nat.le_refl _) hb3
      have HO3 := Lib.hid (HO.out.below hb3)
      have HS3 := Lib.hid (Nat.le_trans HS.out hb3.size)
      have a0 : w3.cell? ⟨g8, 0, none⟩ = some (.int .i64 y.ts) := (B8.cell 0).trans rfl
      have a1 : w3.cell? ⟨g8, 1, none⟩ = some (.slice y.A y.n y.c) := (B8.cell 1).trans rfl
      have a2 : w3.cell? ⟨g8, 2, none⟩ = some (.string y.ln) := (B8.cell 2).trans rfl
      have c0 : w3.cell? ⟨g4, 0, none⟩ = some (.int .i64 u.ts) := (K43.cell 0).trans rfl
      have c1 : w3.cell? ⟨g4, 1, none⟩ = some (.slice u.A u.n u.c) := (K43.cell 1).trans rfl
      have c2 : w3.cell? ⟨g4, 2, none⟩ = some (.string u.ln) := (K43.cell 2).trans rfl
      have AH := Lib.hid (ahead_good u y asc w3 (HU.out.below hW3) (hgy0.below hW3))
      have hup : uptoE asc u.b (l.take (j + 1)) = uptoE asc u.b (l.take j) ++ (if aheadB u.b y.b asc = true then [] else [y]) := by
        rw [hd]
        unfold uptoE
        rw [List.filter_append]
        cases hq : aheadB u.b y.b asc
        · rw [if_neg (by decide), List.filter_cons_of_pos (by rw [hq]; rfl)]; rfl
        · rw [if_pos rfl, List.filter_cons_of_neg (by rw [hq]; decide)]; rfl
      obtain ⟨z, hz⟩ : ∃ z, aheadB u.b y.b asc = z := ⟨_, rfl⟩
      rw [hz] at hup
      replace AH := AH.out
      rw [hz] at AH
      replace AH := Lib.hid AH
      have HUP := Lib.hid hup
      have HLE := Lib.hid (show (uptoE asc u.b (l.take j)).length ≤ j from Nat.le_trans (List.length_filter_le _ _) (by rw [List.length_take]; omega))
      have HB8 := Lib.hid B8
      have HK4 := Lib.hid K43
      have HW3 := Lib.hid hW3
      unfold entArr at hw3
      clear hc2 gy hgy0 hd hy B8 hb3 K43 hW3 hz K4 HB' HO HS hup hjl
      go_wp2_with fail
      clear hw3 hg8
      refine AH.out.mono ?_
      rintro e w4 ⟨rfl, hx⟩
      have HB84 := Lib.hid (HB8.out.below hx HB8.out.lt)
      have HK44 := Lib.hid (HK4.out.below hx HK4.out.lt)
      have HW4 := Lib.hid (hop HW3.out (Nat.le_refl _) hx)
      have HO4 := Lib.hid (HO3.out.below hx)
      have HS4 := Lib.hid (Nat.le_trans HS3.out hx.size)
      clear hx a0 a1 a2 c0 c1 c2 q1 q2 q3 HB8 HK4 HW3 AH HO3 HS3
      obtain ⟨L0, hL0⟩ : ∃ L0, uptoE asc u.b (l.take j) = L0 := ⟨_, rfl⟩
      rw [hL0] at HO4 HUP HLE
      cases z with
      | true =>
        have HN := Lib.hid (show OwnE B w4 w1.heap.size _ (uptoE asc u.b (l.take (j + 1))) by rw [HUP.out, if_pos rfl, List.append_nil]; exact HO4.out)
        clear HO4 HUP HD hL0
        go_wp2
        go_round
        case rel => exact ⟨j + 1, by omega, by go_num, HN, HK44, HW4, HS4⟩
        case measure => simp [intOf]; omega
      | false =>
        have a0 : w4.cell? ⟨g8, 0, none⟩ = some (.int .i64 y.ts) := (HB84.out.cell 0).trans rfl
        have a1 : w4.cell? ⟨g8, 1, none⟩ = some (.slice y.A y.n y.c) := (HB84.out.cell 1).trans rfl
        have a2 : w4.cell? ⟨g8, 2, none⟩ = some (.string y.ln) := (HB84.out.cell 2).trans rfl
        have HGY4 := Lib.hid (HGY.out.below HW4.out)
        have HG4 := Lib.hid (show g4 < w1.heap.size from HB4.out.lt)
        clear hL0
        go_wp2_with (at_builtin; refine wpList_append_own _ rfl (.tmp 21) (.tmp 23) 34 rfl w1.heap.size 26 i0 (.agg #[.int .i64 0, .slice none 0 0, .string ⟨#[]⟩]) 3 48 Try.underlying34 hi hz0 hz1 hz2 rfl (by decide) _ _ _ rfl (OwnR.alloc HO4.out.1 _) ⟨w4.heap.size, 0, none⟩ 1 1 (EntX.V y) rfl rfl (new_cells_at _ _ _ _ (by simp)) (entV_one _) (by unfold maxLen; have := HLE.out; omega) (by have := HLE.out; omega) (by have := HS4.out; simp; omega) ?_)
        intro nv w5 hown' hgrow _
        have hK4a := HK44.out.alloc (.cells (EntX.V y).toArray 26)
        have HK45 := Lib.hid (show Blk w5 g4 26 #[.int .i64 u.ts, .slice u.A u.n u.c, .string u.ln] from (hgrow.block g4 hK4a.lt (fun e => by have := (World.ownsRow.lt HO4.out.1 g4 e.symm).1; have := HG4.out; omega)).trans hK4a)
        have HW5 := Lib.hid ((HW4.out.alloc HW4.out.size _).grown hgrow (by have := HW4.out.size; simp; omega) (fun r hr => by have := (World.ownsRow.lt HO4.out.1 r hr).1; have := HW1.out; omega))
        have HN := Lib.hid (show OwnE B w5 w1.heap.size nv (uptoE asc u.b (l.take (j + 1))) by
          rw [HUP.out, if_neg (by decide)]
          exact OwnE.snoc (HO4.out.alloc _) (HGY4.out.below ((Below.refl _ _).alloc (Nat.le_refl _) _)) (Nat.le_trans hB HW1.out) hgrow hown')
        have HS5 := Lib.hid (show w1.heap.size ≤ w5.heap.size by have h1 := hgrow.size; have := HS4.out; simp at h1; omega)
        clear hown' hgrow hK4a a0 a1 a2 HO4 HUP HD HK44 HW4 HS4
        go_wp2
        go_round
        case rel => exact ⟨j + 1, by omega, by go_num, HN, HK45, HW5, HS5⟩
        case measure => simp [intOf]; omega
    · obtain rfl : n = j := by omega
      have HN := Lib.hid (show OwnE B wr W.heap.size _ (uptoE asc u.b l) by
        have := HO.out
        rw [List.take_of_length_le (by rw [HL.out]; exact Nat.le_refl _)] at this
        exact this.mono (Nat.le_refl _) HW1.out)
      clear HO
      go_wp2
      go_ret
      exact ⟨_, rfl, HN.out, HB'.out⟩
end Go.Proofs.Ytilcanblgdmecaa
namespace Go.Proofs.Ytilcanblgdmecaa
open Go.RowKit
set_option linter.unusedVariables false
set_option linter.unusedSimpArgs false

def mA : EntX := ⟨1, none, 0, 0, [], ⟨#[97]⟩⟩
def mB : EntX := ⟨2, none, 0, 0, [], ⟨#[98]⟩⟩
def mC : EntX := ⟨3, none, 0, 0, [], ⟨#[99]⟩⟩
theorem good_m {B : Nat} {w : World} {x : EntX} (h : x = mA ∨ x = mB ∨ x = mC) : Good B w x := by
  rcases h with rfl | rfl | rfl
  all_goals exact ⟨⟨pairs_none w, fun h => absurd h (by decide)⟩, by decide, by decide, by decide⟩
def mOk (x : EntX) : Prop := x = mA ∨ x = mB ∨ x = mC
theorem ents_m {w w' : World} (l : List EntX) (h : ∀ x ∈ l, mOk x) (g : Nat) (hg : w.heap.size = g) (T : TypeId) (hw : w.alloc (.cells (rowV EntX.V l).toArray T) = w') : Ents 0 w' (some ⟨g, 0, none⟩) l.length l := by
  rw [← hw]
  exact ents_lit w l 0 T (fun x hx => good_m (h x hx)) g hg
theorem lists_m {w w' : World} (ls : List LsX) (h : ∀ x ∈ ls, Ents 0 w x.A x.n x.l ∧ x.n ≤ x.c ∧ x.c ≤ maxLen) (g : Nat) (hg : w.heap.size = g) (T : TypeId) (hw : w.alloc (.cells (rowV LsX.V ls).toArray T) = w') : ListsP 0 w' (some ⟨g, 0, none⟩) ls.length ls := by
  rw [← hw]
  refine ⟨⟨rfl, fun hn => ⟨g, 0, rfl, by rw [← hg]; simp, fun j i a hj hi => ?_⟩⟩, fun x hx => ⟨(h x hx).1.below ((Below.refl _ _).alloc (Nat.le_refl _) _), (h x hx).2⟩⟩
  have hb : Blk (w.alloc (.cells (rowV LsX.V ls).toArray T)) g T (rowV LsX.V ls).toArray := by rw [← hg]; exact Blk.new _ _ _
  rw [hb.cell, ← rowV_at lsV_len ls j i a hj hi]
  simp
theorem ex_m1 : mergeB true 9 [⟨none, 2, 2, [mA, mC]⟩, ⟨none, 3, 3, [mA, mB, mB]⟩] = [mA.b, mB.b, mC.b] := by kernel_rfl
theorem ex_m2 : mergeB false 2 [⟨none, 2, 2, [mC, mA]⟩, ⟨none, 1, 1, [mB]⟩] = [mC.b, mB.b] := by kernel_rfl
theorem ex_s1 : sortedLs true [⟨none, 2, 2, [mA, mC]⟩, ⟨none, 3, 3, [mA, mB, mB]⟩] = true := by kernel_rfl
theorem ex_s2 : sortedLs false [⟨none, 2, 2, [mC, mA]⟩, ⟨none, 1, 1, [mB]⟩] = true := by kernel_rfl
theorem ex_s3 : sortedLs true [⟨none, 2, 2, [mB, mA]⟩] = false := by kernel_rfl
theorem ex_f : firstE false [mA, mC, mB] = mC := by kernel_rfl
theorem ex_u : uptoE true mB.b [mA, mB, mC] = [mA, mB] := by kernel_rfl
/-- the three entries stand in blocks of their own -/
structure Three (w : World) (ga gb gc : Nat) : Prop where
  a : Blk w ga 26 #[.int .i64 1, .slice none 0 0, .string ⟨#[97]⟩]
  b : Blk w gb 26 #[.int .i64 2, .slice none 0 0, .string ⟨#[98]⟩]
  c : Blk w gc 26 #[.int .i64 3, .slice none 0 0, .string ⟨#[99]⟩]
theorem Three.below {w w' : World} {ga gb gc : Nat} (h : Three w ga gb gc) (hb : Below w.heap.size w w') : Three w' ga gb gc := ⟨h.a.below hb h.a.lt, h.b.below hb h.b.lt, h.c.below hb h.c.lt⟩
theorem map_three {T : List EntX} {x y z : EntB} (h : T.map EntX.b = [x, y, z]) : ∃ a b c, T = [a, b, c] ∧ a.b = x ∧ b.b = y ∧ c.b = z := by
  match T, h with
  | [a, b, c], h =>
    simp only [List.map_cons, List.map_nil, List.cons.injEq, and_true] at h
    exact ⟨a, b, c, rfl, h.1, h.2.1, h.2.2⟩
theorem map_two {T : List EntX} {x y : EntB} (h : T.map EntX.b = [x, y]) : ∃ a b, T = [a, b] ∧ a.b = x ∧ b.b = y := by
  match T, h with
  | [a, b], h =>
    simp only [List.map_cons, List.map_nil, List.cons.injEq, and_true] at h
    exact ⟨a, b, rfl, h.1, h.2⟩

set_option maxRecDepth 100000 in
set_option maxHeartbeats 1600000 in
theorem mergeExamples_any (W : World) : Calls Try.prog 8 #[] W fun e w' => e = .returned (.bool true) ∧ Below W.heap.size W w' := by
  obtain ⟨ga, hga⟩ : ∃ g, W.heap.size = g := ⟨_, rfl⟩
  obtain ⟨w1, hw1⟩ : ∃ z, W.alloc (.cells #[.int .i64 1, .slice none 0 0, .string ⟨#[97]⟩] 26) = z := ⟨_, rfl⟩
  have bw1 : Below W.heap.size W w1 := by rw [← hw1]; exact (Below.refl _ _).alloc (Nat.le_refl _) _
  obtain ⟨gb, hgb⟩ : ∃ g, w1.heap.size = g := ⟨_, rfl⟩
  obtain ⟨w2, hw2⟩ : ∃ z, w1.alloc (.cells #[.int .i64 2, .slice none 0 0, .string ⟨#[98]⟩] 26) = z := ⟨_, rfl⟩
  have bw2 : Below w1.heap.size w1 w2 := by rw [← hw2]; exact (Below.refl _ _).alloc (Nat.le_refl _) _
  obtain ⟨gc, hgc⟩ : ∃ g, w2.heap.size = g := ⟨_, rfl⟩
  obtain ⟨w3, hw3⟩ : ∃ z, w2.alloc (.cells #[.int .i64 3, .slice none 0 0, .string ⟨#[99]⟩] 26) = z := ⟨_, rfl⟩
  have bw3 : Below w2.heap.size w2 w3 := by rw [← hw3]; exact (Below.refl _ _).alloc (Nat.le_refl _) _
  have Kw3 : Three w3 ga gb gc := by
    refine ⟨?_, ?_, ?_⟩
    · have k1 : Blk w1 ga 26 #[.int .i64 1, .slice none 0 0, .string ⟨#[97]⟩] := by rw [← hw1, ← hga]; exact Blk.new _ _ _
      have k2 := k1.below bw2 k1.lt
      exact k2.below bw3 k2.lt
    · have k1 : Blk w2 gb 26 #[.int .i64 2, .slice none 0 0, .string ⟨#[98]⟩] := by rw [← hw2, ← hgb]; exact Blk.new _ _ _
      exact k1.below bw3 k1.lt
    · rw [← hw3, ← hgc]; exact Blk.new _ _ _
  have HBw3 := Lib.hid (hop (hop bw1 (Nat.le_refl _) bw2) (Nat.le_refl _) bw3)
  have fA0w3 : w3.cell? ⟨ga, 0, none⟩ = some (.int .i64 1) := (Kw3.a.cell 0).trans rfl
  have fA1w3 : w3.cell? ⟨ga, 1, none⟩ = some (.slice none 0 0) := (Kw3.a.cell 1).trans rfl
  have fA2w3 : w3.cell? ⟨ga, 2, none⟩ = some (.string ⟨#[97]⟩) := (Kw3.a.cell 2).trans rfl
  have fC0w3 : w3.cell? ⟨gc, 0, none⟩ = some (.int .i64 3) := (Kw3.c.cell 0).trans rfl
  have fC1w3 : w3.cell? ⟨gc, 1, none⟩ = some (.slice none 0 0) := (Kw3.c.cell 1).trans rfl
  have fC2w3 : w3.cell? ⟨gc, 2, none⟩ = some (.string ⟨#[99]⟩) := (Kw3.c.cell 2).trans rfl
  obtain ⟨s10, hs10⟩ : ∃ g, w3.heap.size = g := ⟨_, rfl⟩
  obtain ⟨w4, hw4⟩ : ∃ z, w3.alloc (.cells #[.int .i64 1, .slice none 0 0, .string ⟨#[97]⟩, .int .i64 3, .slice none 0 0, .string ⟨#[99]⟩] 26) = z := ⟨_, rfl⟩
  have bw4 : Below w3.heap.size w3 w4 := by rw [← hw4]; exact (Below.refl _ _).alloc (Nat.le_refl _) _
  have Kw4 := Kw3.below bw4
  have HBw4 := Lib.hid (hop HBw3.out (Nat.le_refl _) bw4)
  have Rs10 := ents_m (w := w3) (w' := w4) [mA, mC] (by intro x hx; simp only [List.mem_cons, List.mem_nil_iff, or_false] at hx; unfold mOk; rcases hx with rfl | rfl <;> simp) s10 hs10 26 hw4
  have fA0w4 : w4.cell? ⟨ga, 0, none⟩ = some (.int .i64 1) := (Kw4.a.cell 0).trans rfl
  have fA1w4 : w4.cell? ⟨ga, 1, none⟩ = some (.slice none 0 0) := (Kw4.a.cell 1).trans rfl
  have fA2w4 : w4.cell? ⟨ga, 2, none⟩ = some (.string ⟨#[97]⟩) := (Kw4.a.cell 2).trans rfl
  have fB0w4 : w4.cell? ⟨gb, 0, none⟩ = some (.int .i64 2) := (Kw4.b.cell 0).trans rfl
  have fB1w4 : w4.cell? ⟨gb, 1, none⟩ = some (.slice none 0 0) := (Kw4.b.cell 1).trans rfl
  have fB2w4 : w4.cell? ⟨gb, 2, none⟩ = some (.string ⟨#[98]⟩) := (Kw4.b.cell 2).trans rfl
  obtain ⟨s11, hs11⟩ : ∃ g, w4.heap.size = g := ⟨_, rfl⟩
  obtain ⟨w5, hw5⟩ : ∃ z, w4.alloc (.cells #[.int .i64 1, .slice none 0 0, .string ⟨#[97]⟩, .int .i64 2, .slice none 0 0, .string ⟨#[98]⟩, .int .i64 2, .slice none 0 0, .string ⟨#[98]⟩] 26) = z := ⟨_, rfl⟩
  have bw5 : Below w4.heap.size w4 w5 := by rw [← hw5]; exact (Below.refl _ _).alloc (Nat.le_refl _) _
  have Kw5 := Kw4.below bw5
  have HBw5 := Lib.hid (hop HBw4.out (Nat.le_refl _) bw5)
  have Rs11 := ents_m (w := w4) (w' := w5) [mA, mB, mB] (by intro x hx; simp only [List.mem_cons, List.mem_nil_iff, or_false] at hx; unfold mOk; rcases hx with rfl | rfl | rfl <;> simp) s11 hs11 26 hw5
  obtain ⟨q1, hq1⟩ : ∃ g, w5.heap.size = g := ⟨_, rfl⟩
  obtain ⟨w6, hw6⟩ : ∃ z, w5.alloc (.cells #[.slice (some ⟨s10, 0, none⟩) 2 2, .slice (some ⟨s11, 0, none⟩) 3 3] 34) = z := ⟨_, rfl⟩
  have bw6 : Below w5.heap.size w5 w6 := by rw [← hw6]; exact (Below.refl _ _).alloc (Nat.le_refl _) _
  have Kw6 := Kw5.below bw6
  have HBw6 := Lib.hid (hop HBw5.out (Nat.le_refl _) bw6)
  have LS1 : ListsP 0 w6 (some ⟨q1, 0, none⟩) 2 ([⟨some ⟨s10, 0, none⟩, 2, 2, [mA, mC]⟩, ⟨some ⟨s11, 0, none⟩, 3, 3, [mA, mB, mB]⟩] : List LsX) := lists_m [⟨some ⟨s10, 0, none⟩, 2, 2, [mA, mC]⟩, ⟨some ⟨s11, 0, none⟩, 3, 3, [mA, mB, mB]⟩] (by
      intro x hx
      simp only [List.mem_cons, List.mem_nil_iff, or_false] at hx
      rcases hx with rfl | rfl
      · exact ⟨(Rs10).below bw5, Nat.le_refl _, by unfold maxLen; dsimp only; omega⟩
      · exact ⟨Rs11, Nat.le_refl _, by unfold maxLen; dsimp only; omega⟩
      ) q1 hq1 34 hw6
  have AL1 := all_any 0 true 9 (some ⟨q1, 0, none⟩) 2 2 [⟨some ⟨s10, 0, none⟩, 2, 2, [mA, mC]⟩, ⟨some ⟨s11, 0, none⟩, 3, 3, [mA, mB, mB]⟩] (by simp [totL]) w6 (Nat.zero_le _) LS1
  rw [show sortedLs true ([⟨some ⟨s10, 0, none⟩, 2, 2, [mA, mC]⟩, ⟨some ⟨s11, 0, none⟩, 3, 3, [mA, mB, mB]⟩] : List LsX) = true from by kernel_rfl] at AL1
  rw [show mergeB true 9 ([⟨some ⟨s10, 0, none⟩, 2, 2, [mA, mC]⟩, ⟨some ⟨s11, 0, none⟩, 3, 3, [mA, mB, mB]⟩] : List LsX) = [mA.b, mB.b, mC.b] from by kernel_rfl] at AL1
  replace AL1 := Lib.hid AL1
  have HK1 := Lib.hid Kw6
  clear Kw3 Kw4 Kw5 Kw6 LS1 Rs10 Rs11 bw4 bw5 bw6 bw1 bw2 bw3
  go_enter Try.func8, Try.ntmps8
  go_wp2_with fail
  refine AL1.out.mono ?_
  rintro e w7 ⟨v1, T1, rfl, ho1, hT1, hx1⟩
  have Kw7 := HK1.out.below hx1
  have HBw7 := Lib.hid (hop HBw6.out (Nat.le_refl _) hx1)
  clear hw4 hw5 hw6 hs10 hs11 hq1 AL1 HK1 HBw3 HBw4 HBw5 HBw6 hw1 hw2 hw3 hga hgb hgc 
  obtain ⟨x1, y1, z1, rfl, hx1b, hy1b, hz1b⟩ := map_three hT1
  obtain ⟨gl, cl, rfl, hgl, hltl, hcpl, hcl⟩ := OwnR.at_ entV_len ho1.1 (by simp)
  have l1 : w7.cell? ⟨gl, 3, none⟩ = some (.int .i64 2) := by
    have h1 := hcl 1 0 y1 rfl (by decide)
    rw [show y1.V[0]? = some (.int .i64 y1.ts) from rfl, show y1.ts = 2 from congrArg EntB.ts hy1b] at h1
    exact h1
  clear ho1 hT1 hcl hx1 hx1b hy1b hz1b hgl
  dsimp only [List.length_cons, List.length_nil]
  have fA0w7 : w7.cell? ⟨ga, 0, none⟩ = some (.int .i64 1) := (Kw7.a.cell 0).trans rfl
  have fA1w7 : w7.cell? ⟨ga, 1, none⟩ = some (.slice none 0 0) := (Kw7.a.cell 1).trans rfl
  have fA2w7 : w7.cell? ⟨ga, 2, none⟩ = some (.string ⟨#[97]⟩) := (Kw7.a.cell 2).trans rfl
  have fC0w7 : w7.cell? ⟨gc, 0, none⟩ = some (.int .i64 3) := (Kw7.c.cell 0).trans rfl
  have fC1w7 : w7.cell? ⟨gc, 1, none⟩ = some (.slice none 0 0) := (Kw7.c.cell 1).trans rfl
  have fC2w7 : w7.cell? ⟨gc, 2, none⟩ = some (.string ⟨#[99]⟩) := (Kw7.c.cell 2).trans rfl
  obtain ⟨s20, hs20⟩ : ∃ g, w7.heap.size = g := ⟨_, rfl⟩
  obtain ⟨w8, hw8⟩ : ∃ z, w7.alloc (.cells #[.int .i64 3, .slice none 0 0, .string ⟨#[99]⟩, .int .i64 1, .slice none 0 0, .string ⟨#[97]⟩] 26) = z := ⟨_, rfl⟩
  have bw8 : Below w7.heap.size w7 w8 := by rw [← hw8]; exact (Below.refl _ _).alloc (Nat.le_refl _) _
  have Kw8 := Kw7.below bw8
  have HBw8 := Lib.hid (hop HBw7.out (Nat.le_refl _) bw8)
  have Rs20 := ents_m (w := w7) (w' := w8) [mC, mA] (by intro x hx; simp only [List.mem_cons, List.mem_nil_iff, or_false] at hx; unfold mOk; rcases hx with rfl | rfl <;> simp) s20 hs20 26 hw8
  have fB0w8 : w8.cell? ⟨gb, 0, none⟩ = some (.int .i64 2) := (Kw8.b.cell 0).trans rfl
  have fB1w8 : w8.cell? ⟨gb, 1, none⟩ = some (.slice none 0 0) := (Kw8.b.cell 1).trans rfl
  have fB2w8 : w8.cell? ⟨gb, 2, none⟩ = some (.string ⟨#[98]⟩) := (Kw8.b.cell 2).trans rfl
  obtain ⟨s21, hs21⟩ : ∃ g, w8.heap.size = g := ⟨_, rfl⟩
  obtain ⟨w9, hw9⟩ : ∃ z, w8.alloc (.cells #[.int .i64 2, .slice none 0 0, .string ⟨#[98]⟩] 26) = z := ⟨_, rfl⟩
  have bw9 : Below w8.heap.size w8 w9 := by rw [← hw9]; exact (Below.refl _ _).alloc (Nat.le_refl _) _
  have Kw9 := Kw8.below bw9
  have HBw9 := Lib.hid (hop HBw8.out (Nat.le_refl _) bw9)
  have Rs21 := ents_m (w := w8) (w' := w9) [mB] (by intro x hx; simp only [List.mem_cons, List.mem_nil_iff, or_false] at hx; unfold mOk; subst hx; simp) s21 hs21 26 hw9
  obtain ⟨q2, hq2⟩ : ∃ g, w9.heap.size = g := ⟨_, rfl⟩
  obtain ⟨w10, hw10⟩ : ∃ z, w9.alloc (.cells #[.slice (some ⟨s20, 0, none⟩) 2 2, .slice (some ⟨s21, 0, none⟩) 1 1] 34) = z := ⟨_, rfl⟩
  have bw10 : Below w9.heap.size w9 w10 := by rw [← hw10]; exact (Below.refl _ _).alloc (Nat.le_refl _) _
  have Kw10 := Kw9.below bw10
  have HBw10 := Lib.hid (hop HBw9.out (Nat.le_refl _) bw10)
  have LS2 : ListsP 0 w10 (some ⟨q2, 0, none⟩) 2 ([⟨some ⟨s20, 0, none⟩, 2, 2, [mC, mA]⟩, ⟨some ⟨s21, 0, none⟩, 1, 1, [mB]⟩] : List LsX) := lists_m [⟨some ⟨s20, 0, none⟩, 2, 2, [mC, mA]⟩, ⟨some ⟨s21, 0, none⟩, 1, 1, [mB]⟩] (by
      intro x hx
      simp only [List.mem_cons, List.mem_nil_iff, or_false] at hx
      rcases hx with rfl | rfl
      · exact ⟨(Rs20).below bw9, Nat.le_refl _, by unfold maxLen; dsimp only; omega⟩
      · exact ⟨Rs21, Nat.le_refl _, by unfold maxLen; dsimp only; omega⟩
      ) q2 hq2 34 hw10
  have AL2 := all_any 0 false 2 (some ⟨q2, 0, none⟩) 2 2 [⟨some ⟨s20, 0, none⟩, 2, 2, [mC, mA]⟩, ⟨some ⟨s21, 0, none⟩, 1, 1, [mB]⟩] (by simp [totL]) w10 (Nat.zero_le _) LS2
  rw [show sortedLs false ([⟨some ⟨s20, 0, none⟩, 2, 2, [mC, mA]⟩, ⟨some ⟨s21, 0, none⟩, 1, 1, [mB]⟩] : List LsX) = true from by kernel_rfl] at AL2
  rw [show mergeB false 2 ([⟨some ⟨s20, 0, none⟩, 2, 2, [mC, mA]⟩, ⟨some ⟨s21, 0, none⟩, 1, 1, [mB]⟩] : List LsX) = [mC.b, mB.b] from by kernel_rfl] at AL2
  replace AL2 := Lib.hid AL2
  have HK2 := Lib.hid Kw10
  have Hbw8 := Lib.hid bw8
  have Hbw9 := Lib.hid bw9
  have Hbw10 := Lib.hid bw10
  clear Kw7 Kw8 Kw9 Kw10 LS2 Rs20 Rs21 bw8 bw9 bw10
  go_wp2_with fail
  refine AL2.out.mono ?_
  rintro e w11 ⟨v2, T2, rfl, ho2, hT2, hx2⟩
  have Kw11 := HK2.out.below hx2
  have HBw11 := Lib.hid (hop HBw10.out (Nat.le_refl _) hx2)
  have HCw11 := Lib.hid (hop (hop (hop (Hbw8.out) (Nat.le_refl _) Hbw9.out) (Nat.le_refl _) Hbw10.out) (Nat.le_refl _) hx2)
  have l1_ : w11.cell? ⟨gl, 3, none⟩ = some (.int .i64 2) := (HCw11.out.cell (p := ⟨gl, 3, none⟩) (block_lt_of_cell l1)).trans l1
  clear l1
  have l1 := l1_
  clear l1_
  clear HCw11
  clear hw8 hw9 hw10 hs20 hs21 hq2 AL2 HK2 HBw7 HBw8 HBw9 HBw10 Hbw8 Hbw9 Hbw10
  obtain ⟨x2, y2, rfl, hx2b, hy2b⟩ := map_two hT2
  obtain ⟨gm, cm, rfl, hgm, hltm, hcpm, hcm⟩ := OwnR.at_ entV_len ho2.1 (by simp)
  have m0 : w11.cell? ⟨gm, 0, none⟩ = some (.int .i64 3) := by
    have h1 := hcm 0 0 x2 rfl (by decide)
    rw [show x2.V[0]? = some (.int .i64 x2.ts) from rfl, show x2.ts = 3 from congrArg EntB.ts hx2b] at h1
    exact h1
  have m1 : w11.cell? ⟨gm, 3, none⟩ = some (.int .i64 2) := by
    have h1 := hcm 1 0 y2 rfl (by decide)
    rw [show y2.V[0]? = some (.int .i64 y2.ts) from rfl, show y2.ts = 2 from congrArg EntB.ts hy2b] at h1
    exact h1
  clear ho2 hT2 hcm hx2 hx2b hy2b hgm
  dsimp only [List.length_cons, List.length_nil]
  have fA0w11 : w11.cell? ⟨ga, 0, none⟩ = some (.int .i64 1) := (Kw11.a.cell 0).trans rfl
  have fA1w11 : w11.cell? ⟨ga, 1, none⟩ = some (.slice none 0 0) := (Kw11.a.cell 1).trans rfl
  have fA2w11 : w11.cell? ⟨ga, 2, none⟩ = some (.string ⟨#[97]⟩) := (Kw11.a.cell 2).trans rfl
  have fB0w11 : w11.cell? ⟨gb, 0, none⟩ = some (.int .i64 2) := (Kw11.b.cell 0).trans rfl
  have fB1w11 : w11.cell? ⟨gb, 1, none⟩ = some (.slice none 0 0) := (Kw11.b.cell 1).trans rfl
  have fB2w11 : w11.cell? ⟨gb, 2, none⟩ = some (.string ⟨#[98]⟩) := (Kw11.b.cell 2).trans rfl
  obtain ⟨s30, hs30⟩ : ∃ g, w11.heap.size = g := ⟨_, rfl⟩
  obtain ⟨w12, hw12⟩ : ∃ z, w11.alloc (.cells #[.int .i64 2, .slice none 0 0, .string ⟨#[98]⟩, .int .i64 1, .slice none 0 0, .string ⟨#[97]⟩] 26) = z := ⟨_, rfl⟩
  have bw12 : Below w11.heap.size w11 w12 := by rw [← hw12]; exact (Below.refl _ _).alloc (Nat.le_refl _) _
  have Kw12 := Kw11.below bw12
  have HBw12 := Lib.hid (hop HBw11.out (Nat.le_refl _) bw12)
  have Rs30 := ents_m (w := w11) (w' := w12) [mB, mA] (by intro x hx; simp only [List.mem_cons, List.mem_nil_iff, or_false] at hx; unfold mOk; rcases hx with rfl | rfl <;> simp) s30 hs30 26 hw12
  obtain ⟨q3, hq3⟩ : ∃ g, w12.heap.size = g := ⟨_, rfl⟩
  obtain ⟨w13, hw13⟩ : ∃ z, w12.alloc (.cells #[.slice (some ⟨s30, 0, none⟩) 2 2] 34) = z := ⟨_, rfl⟩
  have bw13 : Below w12.heap.size w12 w13 := by rw [← hw13]; exact (Below.refl _ _).alloc (Nat.le_refl _) _
  have Kw13 := Kw12.below bw13
  have HBw13 := Lib.hid (hop HBw12.out (Nat.le_refl _) bw13)
  have LS3 : ListsP 0 w13 (some ⟨q3, 0, none⟩) 1 ([⟨some ⟨s30, 0, none⟩, 2, 2, [mB, mA]⟩] : List LsX) := lists_m [⟨some ⟨s30, 0, none⟩, 2, 2, [mB, mA]⟩] (by
      intro x hx
      simp only [List.mem_cons, List.mem_nil_iff, or_false] at hx
      subst hx
      · exact ⟨Rs30, Nat.le_refl _, by unfold maxLen; dsimp only; omega⟩
      ) q3 hq3 34 hw13
  have AL3 := all_any 0 true 9 (some ⟨q3, 0, none⟩) 1 1 [⟨some ⟨s30, 0, none⟩, 2, 2, [mB, mA]⟩] (by simp [totL]) w13 (Nat.zero_le _) LS3
  rw [show sortedLs true ([⟨some ⟨s30, 0, none⟩, 2, 2, [mB, mA]⟩] : List LsX) = false from by kernel_rfl] at AL3
  replace AL3 := Lib.hid AL3
  have HK3 := Lib.hid Kw13
  have Hbw12 := Lib.hid bw12
  have Hbw13 := Lib.hid bw13
  clear Kw11 Kw12 Kw13 LS3 Rs30 bw12 bw13
  go_wp2_with fail
  refine AL3.out.mono ?_
  rintro e w14 ⟨v3, T3, rfl, ho3, hT3, hx3⟩
  have Kw14 := HK3.out.below hx3
  have HBw14 := Lib.hid (hop HBw13.out (Nat.le_refl _) hx3)
  have HCw14 := Lib.hid (hop (hop (Hbw12.out) (Nat.le_refl _) Hbw13.out) (Nat.le_refl _) hx3)
  have l1_ : w14.cell? ⟨gl, 3, none⟩ = some (.int .i64 2) := (HCw14.out.cell (p := ⟨gl, 3, none⟩) (block_lt_of_cell l1)).trans l1
  clear l1
  have l1 := l1_
  clear l1_
  have m0_ : w14.cell? ⟨gm, 0, none⟩ = some (.int .i64 3) := (HCw14.out.cell (p := ⟨gm, 0, none⟩) (block_lt_of_cell m0)).trans m0
  clear m0
  have m0 := m0_
  clear m0_
  have m1_ : w14.cell? ⟨gm, 3, none⟩ = some (.int .i64 2) := (HCw14.out.cell (p := ⟨gm, 3, none⟩) (block_lt_of_cell m1)).trans m1
  clear m1
  have m1 := m1_
  clear m1_
  clear HCw14
  clear hw12 hw13 hs30 hq3 AL3 HK3 HBw11 HBw12 HBw13 Hbw12 Hbw13
  clear ho3 hT3 hx3
  have fA0w14 : w14.cell? ⟨ga, 0, none⟩ = some (.int .i64 1) := (Kw14.a.cell 0).trans rfl
  have fA1w14 : w14.cell? ⟨ga, 1, none⟩ = some (.slice none 0 0) := (Kw14.a.cell 1).trans rfl
  have fA2w14 : w14.cell? ⟨ga, 2, none⟩ = some (.string ⟨#[97]⟩) := (Kw14.a.cell 2).trans rfl
  have fB0w14 : w14.cell? ⟨gb, 0, none⟩ = some (.int .i64 2) := (Kw14.b.cell 0).trans rfl
  have fB1w14 : w14.cell? ⟨gb, 1, none⟩ = some (.slice none 0 0) := (Kw14.b.cell 1).trans rfl
  have fB2w14 : w14.cell? ⟨gb, 2, none⟩ = some (.string ⟨#[98]⟩) := (Kw14.b.cell 2).trans rfl
  have fC0w14 : w14.cell? ⟨gc, 0, none⟩ = some (.int .i64 3) := (Kw14.c.cell 0).trans rfl
  have fC1w14 : w14.cell? ⟨gc, 1, none⟩ = some (.slice none 0 0) := (Kw14.c.cell 1).trans rfl
  have fC2w14 : w14.cell? ⟨gc, 2, none⟩ = some (.string ⟨#[99]⟩) := (Kw14.c.cell 2).trans rfl
  obtain ⟨s4, hs4⟩ : ∃ g, w14.heap.size = g := ⟨_, rfl⟩
  obtain ⟨w15, hw15⟩ : ∃ z, w14.alloc (.cells #[.int .i64 1, .slice none 0 0, .string ⟨#[97]⟩, .int .i64 3, .slice none 0 0, .string ⟨#[99]⟩, .int .i64 2, .slice none 0 0, .string ⟨#[98]⟩] 26) = z := ⟨_, rfl⟩
  have bw15 : Below w14.heap.size w14 w15 := by rw [← hw15]; exact (Below.refl _ _).alloc (Nat.le_refl _) _
  have Kw15 := Kw14.below bw15
  have HBw15 := Lib.hid (hop HBw14.out (Nat.le_refl _) bw15)
  have Rs4 := ents_m (w := w14) (w' := w15) [mA, mC, mB] (by intro x hx; simp only [List.mem_cons, List.mem_nil_iff, or_false] at hx; unfold mOk; rcases hx with rfl | rfl | rfl <;> simp) s4 hs4 26 hw15
  have C4 := Lib.hid (show Calls Try.prog 14 #[.bool false, .slice (some ⟨s4, 0, none⟩) 3 3] w15 fun e w' => e = .returned (.tuple #[.agg #[.int .i64 3, .slice none 0 0, .string ⟨#[99]⟩], .bool true]) ∧ Below w15.heap.size w15 w' from first_any 0 false (some ⟨s4, 0, none⟩) 3 3 [mA, mC, mB] ⟨Nat.le_refl _, by unfold maxLen; decide⟩ w15 Rs4)
  have HK4 := Lib.hid Kw15
  have Hbw15 := Lib.hid bw15
  clear Kw14 Kw15 Rs4 bw15
  go_wp2_with fail
  refine C4.out.mono ?_
  rintro e w16 ⟨rfl, hx4⟩
  have Kw16 := HK4.out.below hx4
  have HBw16 := Lib.hid (hop HBw15.out (Nat.le_refl _) hx4)
  have HCw16 := Lib.hid (hop (Hbw15.out) (Nat.le_refl _) hx4)
  have l1_ : w16.cell? ⟨gl, 3, none⟩ = some (.int .i64 2) := (HCw16.out.cell (p := ⟨gl, 3, none⟩) (block_lt_of_cell l1)).trans l1
  clear l1
  have l1 := l1_
  clear l1_
  have m0_ : w16.cell? ⟨gm, 0, none⟩ = some (.int .i64 3) := (HCw16.out.cell (p := ⟨gm, 0, none⟩) (block_lt_of_cell m0)).trans m0
  clear m0
  have m0 := m0_
  clear m0_
  have m1_ : w16.cell? ⟨gm, 3, none⟩ = some (.int .i64 2) := (HCw16.out.cell (p := ⟨gm, 3, none⟩) (block_lt_of_cell m1)).trans m1
  clear m1
  have m1 := m1_
  clear m1_
  clear HCw16
  clear hw15 hs4 C4 HK4 HBw14 HBw15 Hbw15 hx4
  obtain ⟨gf, hgf⟩ : ∃ g, w16.heap.size = g := ⟨_, rfl⟩
  obtain ⟨w17, hw17⟩ : ∃ z, w16.alloc (.cells #[.int .i64 3, .slice none 0 0, .string ⟨#[99]⟩] 26) = z := ⟨_, rfl⟩
  have bw17 : Below w16.heap.size w16 w17 := by rw [← hw17]; exact (Below.refl _ _).alloc (Nat.le_refl _) _
  have Kw17 := Kw16.below bw17
  have HBw17 := Lib.hid (hop HBw16.out (Nat.le_refl _) bw17)
  have HCw17 := Lib.hid (bw17)
  have l1_ : w17.cell? ⟨gl, 3, none⟩ = some (.int .i64 2) := (HCw17.out.cell (p := ⟨gl, 3, none⟩) (block_lt_of_cell l1)).trans l1
  clear l1
  have l1 := l1_
  clear l1_
  have m0_ : w17.cell? ⟨gm, 0, none⟩ = some (.int .i64 3) := (HCw17.out.cell (p := ⟨gm, 0, none⟩) (block_lt_of_cell m0)).trans m0
  clear m0
  have m0 := m0_
  clear m0_
  have m1_ : w17.cell? ⟨gm, 3, none⟩ = some (.int .i64 2) := (HCw17.out.cell (p := ⟨gm, 3, none⟩) (block_lt_of_cell m1)).trans m1
  clear m1
  have m1 := m1_
  clear m1_
  clear HCw17
  have ff : w17.cell? ⟨gf, 0, none⟩ = some (.int .i64 3) := by rw [← hw17, ← hgf]; exact ((Blk.new _ _ _ : Blk _ _ 26 #[.int .i64 3, .slice none 0 0, .string ⟨#[99]⟩]).cell 0).trans rfl
  have C5 := Lib.hid (show Calls Try.prog 14 #[.bool true, .slice none 0 0] w17 fun e w' => e = .returned (.tuple #[.agg #[.int .i64 0, .slice none 0 0, .string ⟨#[]⟩], .bool false]) ∧ Below w17.heap.size w17 w' from first_any 0 true none 0 0 [] ⟨Nat.le_refl _, by unfold maxLen; decide⟩ w17 (Ents.none _ _))
  have HK5 := Lib.hid Kw17
  clear Kw16 Kw17 bw17 HBw16
  go_wp2_with fail
  clear hw17 hgf
  refine C5.out.mono ?_
  rintro e w18 ⟨rfl, hx5⟩
  have Kw18 := HK5.out.below hx5
  have HBw18 := Lib.hid (hop HBw17.out (Nat.le_refl _) hx5)
  have HCw18 := Lib.hid (hx5)
  have l1_ : w18.cell? ⟨gl, 3, none⟩ = some (.int .i64 2) := (HCw18.out.cell (p := ⟨gl, 3, none⟩) (block_lt_of_cell l1)).trans l1
  clear l1
  have l1 := l1_
  clear l1_
  have m0_ : w18.cell? ⟨gm, 0, none⟩ = some (.int .i64 3) := (HCw18.out.cell (p := ⟨gm, 0, none⟩) (block_lt_of_cell m0)).trans m0
  clear m0
  have m0 := m0_
  clear m0_
  have m1_ : w18.cell? ⟨gm, 3, none⟩ = some (.int .i64 2) := (HCw18.out.cell (p := ⟨gm, 3, none⟩) (block_lt_of_cell m1)).trans m1
  clear m1
  have m1 := m1_
  clear m1_
  have ff_ : w18.cell? ⟨gf, 0, none⟩ = some (.int .i64 3) := (HCw18.out.cell (p := ⟨gf, 0, none⟩) (block_lt_of_cell ff)).trans ff
  clear ff
  have ff := ff_
  clear ff_
  clear HCw18
  clear C5 HK5 HBw17 hx5
  go_upto_region 9 with (fail)
  obtain ⟨gn, hgn⟩ : ∃ g, w18.heap.size = g := ⟨_, rfl⟩
  obtain ⟨w19, hw19⟩ : ∃ z, w18.alloc (.cells #[.int .i64 0, .slice none 0 0, .string ⟨#[]⟩] 26) = z := ⟨_, rfl⟩
  have bw19 : Below w18.heap.size w18 w19 := by rw [← hw19]; exact (Below.refl _ _).alloc (Nat.le_refl _) _
  rw [hw19, hgn]
  clear hgn
  have Kw19 := Kw18.below bw19
  have HBw19 := Lib.hid (hop HBw18.out (Nat.le_refl _) bw19)
  have HCw19 := Lib.hid (bw19)
  have l1_ : w19.cell? ⟨gl, 3, none⟩ = some (.int .i64 2) := (HCw19.out.cell (p := ⟨gl, 3, none⟩) (block_lt_of_cell l1)).trans l1
  clear l1
  have l1 := l1_
  clear l1_
  have m0_ : w19.cell? ⟨gm, 0, none⟩ = some (.int .i64 3) := (HCw19.out.cell (p := ⟨gm, 0, none⟩) (block_lt_of_cell m0)).trans m0
  clear m0
  have m0 := m0_
  clear m0_
  have m1_ : w19.cell? ⟨gm, 3, none⟩ = some (.int .i64 2) := (HCw19.out.cell (p := ⟨gm, 3, none⟩) (block_lt_of_cell m1)).trans m1
  clear m1
  have m1 := m1_
  clear m1_
  have ff_ : w19.cell? ⟨gf, 0, none⟩ = some (.int .i64 3) := (HCw19.out.cell (p := ⟨gf, 0, none⟩) (block_lt_of_cell ff)).trans ff
  clear ff
  have ff := ff_
  clear ff_
  clear HCw19
  clear Kw18 bw19 HBw18 hw19
  have fB0w19 : w19.cell? ⟨gb, 0, none⟩ = some (.int .i64 2) := (Kw19.b.cell 0).trans rfl
  have fB1w19 : w19.cell? ⟨gb, 1, none⟩ = some (.slice none 0 0) := (Kw19.b.cell 1).trans rfl
  have fB2w19 : w19.cell? ⟨gb, 2, none⟩ = some (.string ⟨#[98]⟩) := (Kw19.b.cell 2).trans rfl
  have fA0w19 : w19.cell? ⟨ga, 0, none⟩ = some (.int .i64 1) := (Kw19.a.cell 0).trans rfl
  have fA1w19 : w19.cell? ⟨ga, 1, none⟩ = some (.slice none 0 0) := (Kw19.a.cell 1).trans rfl
  have fA2w19 : w19.cell? ⟨ga, 2, none⟩ = some (.string ⟨#[97]⟩) := (Kw19.a.cell 2).trans rfl
  have fB0w19 : w19.cell? ⟨gb, 0, none⟩ = some (.int .i64 2) := (Kw19.b.cell 0).trans rfl
  have fB1w19 : w19.cell? ⟨gb, 1, none⟩ = some (.slice none 0 0) := (Kw19.b.cell 1).trans rfl
  have fB2w19 : w19.cell? ⟨gb, 2, none⟩ = some (.string ⟨#[98]⟩) := (Kw19.b.cell 2).trans rfl
  have fC0w19 : w19.cell? ⟨gc, 0, none⟩ = some (.int .i64 3) := (Kw19.c.cell 0).trans rfl
  have fC1w19 : w19.cell? ⟨gc, 1, none⟩ = some (.slice none 0 0) := (Kw19.c.cell 1).trans rfl
  have fC2w19 : w19.cell? ⟨gc, 2, none⟩ = some (.string ⟨#[99]⟩) := (Kw19.c.cell 2).trans rfl
  obtain ⟨s6, hs6⟩ : ∃ g, w19.heap.size = g := ⟨_, rfl⟩
  obtain ⟨w20, hw20⟩ : ∃ z, w19.alloc (.cells #[.int .i64 1, .slice none 0 0, .string ⟨#[97]⟩, .int .i64 2, .slice none 0 0, .string ⟨#[98]⟩, .int .i64 3, .slice none 0 0, .string ⟨#[99]⟩] 26) = z := ⟨_, rfl⟩
  have bw20 : Below w19.heap.size w19 w20 := by rw [← hw20]; exact (Below.refl _ _).alloc (Nat.le_refl _) _
  have Kw20 := Kw19.below bw20
  have HBw20 := Lib.hid (hop HBw19.out (Nat.le_refl _) bw20)
  have Rs6 := ents_m (w := w19) (w' := w20) [mA, mB, mC] (by intro x hx; simp only [List.mem_cons, List.mem_nil_iff, or_false] at hx; unfold mOk; rcases hx with rfl | rfl | rfl <;> simp) s6 hs6 26 hw20
  have C6 := Lib.hid (show Calls Try.prog 19 #[.bool true, .agg #[.int .i64 2, .slice none 0 0, .string ⟨#[98]⟩], .slice (some ⟨s6, 0, none⟩) 3 3] w20 fun e w' => ∃ v, e = .returned v ∧ OwnE 0 w' w20.heap.size v [mA, mB] ∧ Below w20.heap.size w20 w' from upto_any 0 true mB (some ⟨s6, 0, none⟩) 3 3 [mA, mB, mC] (by decide) w20 (Nat.zero_le _) (good_m (.inr (.inl rfl))) Rs6)
  have HK6 := Lib.hid Kw20
  have Hbw20 := Lib.hid bw20
  clear Kw19 Kw20 Rs6 bw20
  go_wp2_with fail
  refine C6.out.mono ?_
  rintro e w21 ⟨v6, rfl, ho6, hx6⟩
  obtain ⟨A6, c6, rfl, _, _, _⟩ := OwnR.open entV_len ho6.1
  have HCw21 := Lib.hid (hop (Hbw20.out) (Nat.le_refl _) hx6)
  have l1_ : w21.cell? ⟨gl, 3, none⟩ = some (.int .i64 2) := (HCw21.out.cell (p := ⟨gl, 3, none⟩) (block_lt_of_cell l1)).trans l1
  clear l1
  have l1 := l1_
  clear l1_
  have m0_ : w21.cell? ⟨gm, 0, none⟩ = some (.int .i64 3) := (HCw21.out.cell (p := ⟨gm, 0, none⟩) (block_lt_of_cell m0)).trans m0
  clear m0
  have m0 := m0_
  clear m0_
  have m1_ : w21.cell? ⟨gm, 3, none⟩ = some (.int .i64 2) := (HCw21.out.cell (p := ⟨gm, 3, none⟩) (block_lt_of_cell m1)).trans m1
  clear m1
  have m1 := m1_
  clear m1_
  have ff_ : w21.cell? ⟨gf, 0, none⟩ = some (.int .i64 3) := (HCw21.out.cell (p := ⟨gf, 0, none⟩) (block_lt_of_cell ff)).trans ff
  clear ff
  have ff := ff_
  clear ff_
  clear HCw21
  have HBF := Lib.hid (hop HBw20.out (Nat.le_refl _) hx6)
  clear hw20 hs6 C6 HK6 HBw19 HBw20 Hbw20 hx6 ho6
  dsimp only [List.length_cons, List.length_nil]
  go_wp2
  go_ret
  exact ⟨by first | rfl | (simp; done), HBF.out⟩
end Go.Proofs.Ytilcanblgdmecaa
