-- shaken
import Derived.Test.YtdaainifkldcpaaGreatDoorMergeAll
import Derived.Deep.DeepCutAuto
import Derived.Deep.CutBlock
namespace Go.Proofs.YtdaainifkldcpaaGreatDoor
open Go.RowKit
set_option linter.unusedVariables false
set_option linter.unusedSimpArgs false
def firstF (asc : Bool) : EntX → List EntX → EntX
  | f, [] => f
  | f, e :: l => firstF asc (if aheadB e.b f.b asc = true then e else f) l
def firstE (asc : Bool) : List EntX → EntX
  | [] => xnil
  | x :: l => firstF asc x l
def uptoE (asc : Bool) (u : EntB) (l : List EntX) : List EntX := l.filter fun e => !aheadB u e.b asc
theorem firstF_mem (asc : Bool) (l : List EntX) : ∀ f, firstF asc f l = f ∨ firstF asc f l ∈ l := by
  induction l with
  | nil => intro f; exact .inl rfl
  | cons e l ih =>
    intro f
    rw [firstF]
    by_cases h : aheadB e.b f.b asc = true
    · rw [if_pos h]
      rcases ih e with h1 | h1
      · rw [h1]; exact .inr List.mem_cons_self
      · exact .inr (List.mem_cons_of_mem _ h1)
    · rw [if_neg h]
      rcases ih f with h1 | h1
      · exact .inl h1
      · exact .inr (List.mem_cons_of_mem _ h1)
theorem firstE_good {B : Nat} {w : World} {l : List EntX} (asc : Bool) (h : ∀ x ∈ l, Good B w x) : Good B w (firstE asc l) := by
  cases l with
  | nil => exact good_nil B w
  | cons x l =>
    rcases firstF_mem asc l x with h1 | h1
    · rw [show firstE asc (x :: l) = firstF asc x l from rfl, h1]
      exact h x List.mem_cons_self
    · exact h _ (List.mem_cons_of_mem _ h1)
theorem OwnR.cap {α : Type} {V : α → List Value} {s : Nat} {w : World} {B ty : Nat} {A : Option Addr} {n c : Nat} {l : List α} (h : OwnR V s w B ty (.slice A n c) l) : n ≤ c ∧ c ≤ maxLen := by
  rcases h.2 with ⟨e, _⟩ | ⟨g, cap, cur, e, _, _, hc, hm, _⟩
  · injection e with e1 e2 e3
    subst e2 e3
    exact ⟨Nat.le_refl _, Nat.zero_le _⟩
  · injection e with e1 e2 e3
    subst e2 e3
    exact ⟨hc, hm⟩
def entArr (x : EntX) : Array Value := #[.int .i64 x.ts, .slice x.A x.n x.c, .string x.ln]
set_option maxRecDepth 100000 in
set_option maxHeartbeats 800000 in
theorem first_any (B : Nat) (asc : Bool) (A : Option Addr) (n c : Nat) (l : List EntX) (hn : n ≤ c ∧ c ≤ maxLen) (W : World) (h : Ents B W A n l) :
    Calls Tryz.prog 40 #[.bool asc, .slice A n c] W fun e w' => e = .returned (.tuple #[.agg (entArr (firstE asc l)), .bool (decide (0 < n))]) ∧ Below W.heap.size W w' := by
  have hmax : maxLen ≤ 9223372036854775807 := by unfold maxLen; omega
  have hl := h.1.1
  cases l with
  | nil =>
    obtain rfl : n = 0 := hl.symm
    have hb1 : Below W.heap.size W (W.alloc (.cells #[.int .i64 0, .slice none 0 0, .string ⟨#[]⟩] 47)) := (Below.refl _ _).alloc (Nat.le_refl _) _
    have HB1 := Lib.hid hb1
    have HK := Lib.hid (show Blk (W.alloc (.cells #[.int .i64 0, .slice none 0 0, .string ⟨#[]⟩] 47)) W.heap.size 47 #[.int .i64 0, .slice none 0 0, .string ⟨#[]⟩] from Blk.new _ _ _)
    clear hb1 h
    go_enter Tryz.func40, Tryz.ntmps40
    go_wp2
    refine bodyPost_ret (results_row_tmp rfl _ _ _ 47 _ (0, 0) _ rfl HK.out Tryz.underlying47 rfl (by kernel_rfl)) rfl ?_
    exact ⟨rfl, HB1.out⟩
  | cons x tl =>
    rw [List.length_cons] at hl
    have hn0 : 0 < n := by omega
    have hn0I : (0 : Int) < (n : Int) := by omega
    have hn1I : (1 : Int) ≤ (n : Int) := by omega
    have hnz : ¬ ((n : Int) = 0) := by omega
    have hnz2 : ¬ (n = 0) := by omega
    have hnz3 : ((n : Int) == 0) = false := by rw [beq_eq_false_iff_ne]; exact hnz
    have hnz4 : decide ((n : Int) = 0) = false := decide_eq_false hnz
    obtain ⟨b1, o1, hA, hlt1, hc1⟩ := h.at_ hn0
    obtain ⟨e1, e2, e3, ge⟩ := hc1 0 hn0
    rw [show (x :: tl).getD 0 xnil = x from rfl, Nat.zero_mul, Nat.add_zero] at e1 e2 e3
    subst hA
    have hT := ents_tail h
    obtain ⟨F, hF⟩ : ∃ F, firstF asc x tl = F := ⟨_, rfl⟩
    rw [show firstE asc (x :: tl) = firstF asc x tl from rfl, hF, show decide (0 < n) = true from decide_eq_true hn0]
    have HF := Lib.hid hF
    have HT := Lib.hid hT
    have HGX := Lib.hid (h.2 x List.mem_cons_self)
    obtain ⟨g4, hg4⟩ : ∃ g, W.heap.size = g := ⟨_, rfl⟩
    obtain ⟨w1, hw1⟩ : ∃ z, W.alloc (.cells #[.int .i64 0, .slice none 0 0, .string ⟨#[]⟩] 47) = z := ⟨_, rfl⟩
    have B4 : Blk w1 g4 47 #[.int .i64 0, .slice none 0 0, .string ⟨#[]⟩] := by rw [← hw1, ← hg4]; exact Blk.new _ _ _
    have hb1 : Below W.heap.size W w1 := by rw [← hw1]; exact (Below.refl _ _).alloc (Nat.le_refl _) _
    obtain ⟨g6, hg6⟩ : ∃ g, w1.heap.size = g := ⟨_, rfl⟩
    obtain ⟨w2, hw2⟩ : ∃ z, w1.alloc (.cells (entArr x) 47) = z := ⟨_, rfl⟩
    have B6 : Blk w2 g6 47 (entArr x) := by rw [← hw2, ← hg6]; exact Blk.new _ _ _
    have hb12 : Below w1.heap.size w1 w2 := by rw [← hw2]; exact (Below.refl _ _).alloc (Nat.le_refl _) _
    have B4' := B4.below hb12 B4.lt
    have hb2 : Below W.heap.size W w2 := hop hb1 (Nat.le_refl _) hb12
    have hne : g4 ≠ g6 := by have := B4.lt; omega
    have h6W : W.heap.size ≤ g6 := by rw [← hg6]; exact hb1.size
    have d1 := (hb1.cell (p := ⟨b1, o1, none⟩) hlt1).trans e1
    have d2 := (hb1.cell (p := ⟨b1, o1 + 1, none⟩) hlt1).trans e2
    have d3 := (hb1.cell (p := ⟨b1, o1 + 2, none⟩) hlt1).trans e3
    have HB6 := Lib.hid B6
    have HB4 := Lib.hid B4'
    have Hb2 := Lib.hid hb2
    have HNE := Lib.hid hne
    have HG4 := Lib.hid (show W.heap.size ≤ g4 by omega)
    have H6W := Lib.hid h6W
    unfold entArr at hw2
    clear h hc1 ge hT hF B4 hb1 B6 hb12 B4' hb2 e1 e2 e3 hne h6W
    go_enter Tryz.func40, Tryz.ntmps40
    rcases (by omega : c = 1 ∨ 1 < c) with hc1 | hc1
    · obtain rfl : c = 1 := hc1
      obtain rfl : n = 1 := by omega
      have htl : tl = [] := List.eq_nil_of_length_eq_zero (by omega)
      subst htl
      have E := Lib.hid (show x = F from HF.out)
      go_wp2
      clear hw1 hw2 hg4 hg6
      go_loopw [19] (fun iv wr => iv = .int .i64 0 ∧ wr = w2) (fun _ _ => 0)
      case atStart => exact ⟨rfl, rfl⟩
      case round =>
        obtain ⟨rfl, rfl⟩ := hrel
        have c0 : wr.cell? ⟨g6, 0, none⟩ = some (.int .i64 x.ts) := (HB6.out.cell 0).trans rfl
        have c1 : wr.cell? ⟨g6, 1, none⟩ = some (.slice x.A x.n x.c) := (HB6.out.cell 1).trans rfl
        have c2 : wr.cell? ⟨g6, 2, none⟩ = some (.string x.ln) := (HB6.out.cell 2).trans rfl
        have y0 : wr.cell? ⟨g4, 0, none⟩ = some (.int .i64 0) := (HB4.out.cell 0).trans rfl
        have y1 : wr.cell? ⟨g4, 1, none⟩ = some (.slice none 0 0) := (HB4.out.cell 1).trans rfl
        have y2 : wr.cell? ⟨g4, 2, none⟩ = some (.string ⟨#[]⟩) := (HB4.out.cell 2).trans rfl
        have z0 := HB4.out.frozen 0
        have z1 := HB4.out.frozen 1
        have z2 := HB4.out.frozen 2
        have HR := Lib.hid (((HB4.out.set_ 0 (.int .i64 x.ts)).set_ 1 (.slice x.A x.n x.c)).set_ 2 (.string x.ln))
        have HBE := Lib.hid (((Hb2.out.setCell (p := ⟨g4, 0, none⟩) (by have := HG4.out; omega) (.int .i64 x.ts)).setCell (p := ⟨g4, 1, none⟩) (by have := HG4.out; omega) (.slice x.A x.n x.c)).setCell (p := ⟨g4, 2, none⟩) (by have := HG4.out; omega) (.string x.ln))
        go_wp2
        refine bodyPost_ret (results_row_tmp rfl _ _ _ 47 _ (0, 0) _ rfl HR.out Tryz.underlying47 rfl (by kernel_rfl)) rfl ?_
        rw [← E.out]
        exact ⟨rfl, HBE.out⟩
    · have h1c : ¬ c = 1 := by omega
      obtain ⟨m, hm⟩ : ∃ m, n - 1 = m := ⟨_, rfl⟩
      have HM := Lib.hid hm
      have hmx : m + 1 ≤ 9223372036854775807 := by omega
      have HTL := Lib.hid (show tl.length = m by omega)
      rw [hm] at HT
      go_wp2
      clear hw1 hw2 hg4 hg6 hm
      go_loopw [19] (fun iv wr => ∃ (j : Nat) (f : EntX), j ≤ m ∧ iv = .int .i64 (j : Int) ∧ Hid (firstF asc f (tl.drop j) = F) ∧ Hid (Blk wr g6 47 (entArr f)) ∧ Hid (Blk wr g4 47 #[.int .i64 0, .slice none 0 0, .string ⟨#[]⟩]) ∧ Hid (Below W.heap.size W wr) ∧ Hid (Good B W f)) (fun iv _ => m - (intOf iv).toNat)
      case atStart => exact ⟨0, x, Nat.zero_le _, rfl, HF, HB6, HB4, Hb2, HGX⟩
      case round =>
        obtain ⟨j, f, hjm, rfl, HJ, K6, K4, HB, HGF⟩ := hrel
        by_cases hj : j < m
        · have hjI : (j : Int) < (m : Int) := by omega
          obtain ⟨b2, o2, hA2, hlt2, hc2⟩ := (HT.out.below HB.out).at_ (by omega)
          injection hA2 with hA2
          injection hA2 with hA3 hA4
          subst hA3 hA4
          obtain ⟨q1, q2, q3, gy⟩ := hc2 j hj
          have hgy0 : Good B W (tl.getD j xnil) := HT.out.2 _ (by rw [List.getD_eq_getElem?_getD, List.getElem?_eq_getElem (by rw [HTL.out]; exact hj)]; exact List.getElem_mem _)
          have hd : tl.drop j = tl.getD j xnil :: tl.drop (j + 1) := by
            rw [List.drop_eq_getElem_cons (by rw [HTL.out]; exact hj), List.getD_eq_getElem?_getD, List.getElem?_eq_getElem (by rw [HTL.out]; exact hj)]
            rfl
          have hs := HJ.out
          rw [hd, firstF] at hs
          obtain ⟨y, hy⟩ : ∃ y, tl.getD j xnil = y := ⟨_, rfl⟩
          rw [hy] at q1 q2 q3 hgy0 hs
          have HS := Lib.hid hs
          have HGY := Lib.hid hgy0
          obtain ⟨g8, hg8⟩ : ∃ g, wr.heap.size = g := ⟨_, rfl⟩
          obtain ⟨w3, hw3⟩ : ∃ z, wr.alloc (.cells (entArr y) 47) = z := ⟨_, rfl⟩
          have B8 : Blk w3 g8 47 (entArr y) := by rw [← hw3, ← hg8]; exact Blk.new _ _ _
          have hb3 : Below wr.heap.size wr w3 := by rw [← hw3]; exact (Below.refl _ _).alloc (Nat.le_refl _) _
          have K63 := K6.out.below hb3 K6.out.lt
          have K43 := K4.out.below hb3 K4.out.lt
          have hW3 := hop HB.out (Nat.le_refl _) hb3
          have n68 : g6 ≠ g8 := by have := K6.out.lt; omega
          have n48 : g4 ≠ g8 := by have := K4.out.lt; omega
          have a0 : w3.cell? ⟨g8, 0, none⟩ = some (.int .i64 y.ts) := (B8.cell 0).trans rfl
          have a1 : w3.cell? ⟨g8, 1, none⟩ = some (.slice y.A y.n y.c) := (B8.cell 1).trans rfl
          have a2 : w3.cell? ⟨g8, 2, none⟩ = some (.string y.ln) := (B8.cell 2).trans rfl
          have c0 : w3.cell? ⟨g6, 0, none⟩ = some (.int .i64 f.ts) := (K63.cell 0).trans rfl
          have c1 : w3.cell? ⟨g6, 1, none⟩ = some (.slice f.A f.n f.c) := (K63.cell 1).trans rfl
          have c2 : w3.cell? ⟨g6, 2, none⟩ = some (.string f.ln) := (K63.cell 2).trans rfl
          have AH := Lib.hid (ahead_good y f asc w3 (hgy0.below hW3) (HGF.out.below hW3))
          obtain ⟨z, hz⟩ : ∃ z, aheadB y.b f.b asc = z := ⟨_, rfl⟩
          replace AH := AH.out
          rw [hz] at AH
          replace AH := Lib.hid AH
          have HZ := Lib.hid hz
          have HB8 := Lib.hid B8
          have HK6 := Lib.hid K63
          have HK4 := Lib.hid K43
          have HW3 := Lib.hid hW3
          have HN68 := Lib.hid n68
          have HN48 := Lib.hid n48
          unfold entArr at hw3
          clear hc2 gy hgy0 hd hs hy B8 hb3 K63 K43 hW3 n68 n48 hz K6 K4 HB HJ
          go_wp2_with fail
          clear hw3 hg8
          refine AH.out.mono ?_
          rintro e w4 ⟨rfl, hx⟩
          have HB84 := Lib.hid (HB8.out.below hx HB8.out.lt)
          have HK64 := Lib.hid (HK6.out.below hx HK6.out.lt)
          have HK44 := Lib.hid (HK4.out.below hx HK4.out.lt)
          have HW4 := Lib.hid (hop HW3.out (Nat.le_refl _) hx)
          clear hx a0 a1 a2 c0 c1 c2 q1 q2 q3 HB8 HK6 HK4 HW3 AH
          cases z with
          | false =>
            have HN := Lib.hid (show firstF asc f (tl.drop (j + 1)) = F by have := HS.out; rw [HZ.out, if_neg (by decide)] at this; exact this)
            clear HS HZ
            go_wp2
            go_round
            case rel => exact ⟨j + 1, f, by omega, by go_num, HN, HK64, HK44, HW4, HGF⟩
            case measure => simp [intOf]; omega
          | true =>
            have HN := Lib.hid (show firstF asc y (tl.drop (j + 1)) = F by have := HS.out; rw [HZ.out, if_pos rfl] at this; exact this)
            have a0 : w4.cell? ⟨g8, 0, none⟩ = some (.int .i64 y.ts) := (HB84.out.cell 0).trans rfl
            have a1 : w4.cell? ⟨g8, 1, none⟩ = some (.slice y.A y.n y.c) := (HB84.out.cell 1).trans rfl
            have a2 : w4.cell? ⟨g8, 2, none⟩ = some (.string y.ln) := (HB84.out.cell 2).trans rfl
            have c0 : w4.cell? ⟨g6, 0, none⟩ = some (.int .i64 f.ts) := (HK64.out.cell 0).trans rfl
            have c1 : w4.cell? ⟨g6, 1, none⟩ = some (.slice f.A f.n f.c) := (HK64.out.cell 1).trans rfl
            have c2 : w4.cell? ⟨g6, 2, none⟩ = some (.string f.ln) := (HK64.out.cell 2).trans rfl
            have z0 := HK64.out.frozen 0
            have z1 := HK64.out.frozen 1
            have z2 := HK64.out.frozen 2
            have HK65 := Lib.hid (((HK64.out.set_ 0 (.int .i64 y.ts)).set_ 1 (.slice y.A y.n y.c)).set_ 2 (.string y.ln))
            have HK45 := Lib.hid (((HK44.out.far (p := ⟨g6, 0, none⟩) HNE.out (.int .i64 y.ts)).far (p := ⟨g6, 1, none⟩) HNE.out (.slice y.A y.n y.c)).far (p := ⟨g6, 2, none⟩) HNE.out (.string y.ln))
            have HW5 := Lib.hid (((HW4.out.setCell (p := ⟨g6, 0, none⟩) H6W.out (.int .i64 y.ts)).setCell (p := ⟨g6, 1, none⟩) H6W.out (.slice y.A y.n y.c)).setCell (p := ⟨g6, 2, none⟩) H6W.out (.string y.ln))
            clear HS HZ HK64 HK44 HW4 HB84
            go_wp2
            go_round
            case rel => exact ⟨j + 1, y, by omega, by go_num, HN, HK65, HK45, HW5, HGY⟩
            case measure => simp [intOf]; omega
        · obtain rfl : m = j := by omega
          have E := Lib.hid (show f = F by
            have := HJ.out
            rw [List.drop_of_length_le (by rw [HTL.out]; exact Nat.le_refl _)] at this
            exact this)
          have c0 : wr.cell? ⟨g6, 0, none⟩ = some (.int .i64 f.ts) := (K6.out.cell 0).trans rfl
          have c1 : wr.cell? ⟨g6, 1, none⟩ = some (.slice f.A f.n f.c) := (K6.out.cell 1).trans rfl
          have c2 : wr.cell? ⟨g6, 2, none⟩ = some (.string f.ln) := (K6.out.cell 2).trans rfl
          have y0 : wr.cell? ⟨g4, 0, none⟩ = some (.int .i64 0) := (K4.out.cell 0).trans rfl
          have y1 : wr.cell? ⟨g4, 1, none⟩ = some (.slice none 0 0) := (K4.out.cell 1).trans rfl
          have y2 : wr.cell? ⟨g4, 2, none⟩ = some (.string ⟨#[]⟩) := (K4.out.cell 2).trans rfl
          have z0 := K4.out.frozen 0
          have z1 := K4.out.frozen 1
          have z2 := K4.out.frozen 2
          have HR := Lib.hid (((K4.out.set_ 0 (.int .i64 f.ts)).set_ 1 (.slice f.A f.n f.c)).set_ 2 (.string f.ln))
          have HBE := Lib.hid (((HB.out.setCell (p := ⟨g4, 0, none⟩) (by have := HG4.out; omega) (.int .i64 f.ts)).setCell (p := ⟨g4, 1, none⟩) (by have := HG4.out; omega) (.slice f.A f.n f.c)).setCell (p := ⟨g4, 2, none⟩) (by have := HG4.out; omega) (.string f.ln))
          clear HJ
          go_wp2
          refine bodyPost_ret (results_row_tmp rfl _ _ _ 47 _ (0, 0) _ rfl HR.out Tryz.underlying47 rfl (by kernel_rfl)) rfl ?_
          rw [← E.out]
          exact ⟨rfl, HBE.out⟩
set_option maxRecDepth 100000 in
set_option maxHeartbeats 800000 in
theorem upto_any (B : Nat) (asc : Bool) (u : EntX) (A : Option Addr) (n c : Nat) (l : List EntX) (hn : n ≤ 1000000) (W : World) (hB : B ≤ W.heap.size) (hu : Good B W u) (h : Ents B W A n l) :
    Calls Tryz.prog 41 #[.bool asc, .agg #[.int .i64 u.ts, .slice u.A u.n u.c, .string u.ln], .slice A n c] W fun e w' => ∃ v, e = .returned v ∧ OwnE B w' W.heap.size v (uptoE asc u.b l) ∧ Below W.heap.size W w' := by
  obtain ⟨i0, hi, hz0, hz1, hz2⟩ := info_parts infoEnt
  obtain ⟨g4, hg4⟩ : ∃ g, W.heap.size = g := ⟨_, rfl⟩
  obtain ⟨w1, hw1⟩ : ∃ z, W.alloc (.cells #[.int .i64 u.ts, .slice u.A u.n u.c, .string u.ln] 47) = z := ⟨_, rfl⟩
  have B4 : Blk w1 g4 47 #[.int .i64 u.ts, .slice u.A u.n u.c, .string u.ln] := by rw [← hw1, ← hg4]; exact Blk.new _ _ _
  have hb1 : Below W.heap.size W w1 := by rw [← hw1]; exact (Below.refl _ _).alloc (Nat.le_refl _) _
  have HL := Lib.hid h.1.1
  have H1 := Lib.hid h
  have HU := Lib.hid hu
  have HB4 := Lib.hid B4
  have Hb1 := Lib.hid hb1
  clear h hu B4 hb1
  go_enter Tryz.func41, Tryz.ntmps41
  have HW1 := Lib.hid (show W.heap.size ≤ w1.heap.size from Hb1.out.size)
  go_wp2
  clear hw1 hg4
  go_loopw [7, 12] (fun tv iv wr => ∃ j : Nat, j ≤ n ∧ iv = .int .i64 (j : Int) ∧ Hid (OwnE B wr w1.heap.size tv (uptoE asc u.b (l.take j))) ∧ Hid (Blk wr g4 47 #[.int .i64 u.ts, .slice u.A u.n u.c, .string u.ln]) ∧ Hid (Below W.heap.size W wr) ∧ Hid (w1.heap.size ≤ wr.heap.size)) (fun _ iv _ => n - (intOf iv).toNat)
  case atStart => exact ⟨0, Nat.zero_le _, rfl, Lib.hid (OwnE.nil _ _ _), HB4, Hb1, Lib.hid (Nat.le_refl _)⟩
  case round =>
    obtain ⟨j, hjn, rfl, HO, K4, HB', HS⟩ := hrel
    by_cases hj : j < n
    · have hjI : (j : Int) < (n : Int) := by omega
      obtain ⟨b2, o2, rfl, hlt2, hc2⟩ := (H1.out.below HB'.out).at_ (by omega)
      obtain ⟨q1, q2, q3, gy⟩ := hc2 j hj
      have hjl : j < l.length := by rw [HL.out]; exact hj
      have hgy0 : Good B W (l.getD j xnil) := H1.out.2 _ (by rw [List.getD_eq_getElem?_getD, List.getElem?_eq_getElem hjl]; exact List.getElem_mem _)
      have hd : l.take (j + 1) = l.take j ++ [l.getD j xnil] := by
        rw [List.take_succ_eq_append_getElem hjl, List.getD_eq_getElem?_getD, List.getElem?_eq_getElem hjl]
        rfl
      obtain ⟨y, hy⟩ : ∃ y, l.getD j xnil = y := ⟨_, rfl⟩
      rw [hy] at q1 q2 q3 hgy0 hd
      have HD := Lib.hid hd
      have HGY := Lib.hid hgy0
      obtain ⟨g8, hg8⟩ : ∃ g, wr.heap.size = g := ⟨_, rfl⟩
      obtain ⟨w3, hw3⟩ : ∃ z, wr.alloc (.cells (entArr y) 47) = z := ⟨_, rfl⟩
      have B8 : Blk w3 g8 47 (entArr y) := by rw [← hw3, ← hg8]; exact Blk.new _ _ _
      have hb3 : Below wr.heap.size wr w3 := by rw [← hw3]; exact (Below.refl _ _).alloc (Nat.le_refl _) _
      have K43 := K4.out.below hb3 K4.out.lt
      have hW3 := hop HB'.out (Nat.le_refl _) hb3
      have HO3 := Lib.hid (HO.out.below hb3)
      have HS3 := Lib.hid (Nat.le_trans HS.out hb3.size)
      have a0 : w3.cell? ⟨g8, 0, none⟩ = some (.int .i64 y.ts) := (B8.cell 0).trans rfl
      have a1 : w3.cell? ⟨g8, 1, none⟩ = some (.slice y.A y.n y.c) := (B8.cell 1).trans rfl
      have a2 : w3.cell? ⟨g8, 2, none⟩ = some (.string y.ln) := (B8.cell 2).trans rfl
      have c0 : w3.cell? ⟨g4, 0, none⟩ = some (.int .i64 u.ts) := (K43.cell 0).trans rfl
      have c1 : w3.cell? ⟨g4, 1, none⟩ = some (.slice u.A u.n u.c) := (K43.cell 1).trans rfl
      have c2 : w3.cell? ⟨g4, 2, none⟩ = some (.string u.ln) := (K43.cell 2).trans rfl
      have AH := Lib.hid (ahead_good u y asc w3 (HU.out.below hW3) (hgy0.below hW3))
      have hup : uptoE asc u.b (l.take (j + 1)) = uptoE asc u.b (l.take j) ++ (if aheadB u.b y.b asc = true then [] else [y]) := by
        rw [hd]
        unfold uptoE
        rw [List.filter_append]
        cases hq : aheadB u.b y.b asc
        · rw [if_neg (by decide), List.filter_cons_of_pos (by rw [hq]; rfl)]; rfl
        · rw [if_pos rfl, List.filter_cons_of_neg (by rw [hq]; decide)]; rfl
      obtain ⟨z, hz⟩ : ∃ z, aheadB u.b y.b asc = z := ⟨_, rfl⟩
      rw [hz] at hup
      replace AH := AH.out
      rw [hz] at AH
      replace AH := Lib.hid AH
      have HUP := Lib.hid hup
      have HLE := Lib.hid (show (uptoE asc u.b (l.take j)).length ≤ j from Nat.le_trans (List.length_filter_le _ _) (by rw [List.length_take]; omega))
      have HB8 := Lib.hid B8
      have HK4 := Lib.hid K43
      have HW3 := Lib.hid hW3
      unfold entArr at hw3
      clear hc2 gy hgy0 hd hy B8 hb3 K43 hW3 hz K4 HB' HO HS hup hjl
      go_wp2_with fail
      clear hw3 hg8
      refine AH.out.mono ?_
      rintro e w4 ⟨rfl, hx⟩
      have HB84 := Lib.hid (HB8.out.below hx HB8.out.lt)
      have HK44 := Lib.hid (HK4.out.below hx HK4.out.lt)
      have HW4 := Lib.hid (hop HW3.out (Nat.le_refl _) hx)
      have HO4 := Lib.hid (HO3.out.below hx)
      have HS4 := Lib.hid (Nat.le_trans HS3.out hx.size)
      clear hx a0 a1 a2 c0 c1 c2 q1 q2 q3 HB8 HK4 HW3 AH HO3 HS3
      obtain ⟨L0, hL0⟩ : ∃ L0, uptoE asc u.b (l.take j) = L0 := ⟨_, rfl⟩
      rw [hL0] at HO4 HUP HLE
      cases z with
      | true =>
        have HN := Lib.hid (show OwnE B w4 w1.heap.size _ (uptoE asc u.b (l.take (j + 1))) by rw [HUP.out, if_pos rfl, List.append_nil]; exact HO4.out)
        clear HO4 HUP HD hL0
        go_wp2
        go_round
        case rel => exact ⟨j + 1, by omega, by go_num, HN, HK44, HW4, HS4⟩
        case measure => simp [intOf]; omega
      | false =>
        have a0 : w4.cell? ⟨g8, 0, none⟩ = some (.int .i64 y.ts) := (HB84.out.cell 0).trans rfl
        have a1 : w4.cell? ⟨g8, 1, none⟩ = some (.slice y.A y.n y.c) := (HB84.out.cell 1).trans rfl
        have a2 : w4.cell? ⟨g8, 2, none⟩ = some (.string y.ln) := (HB84.out.cell 2).trans rfl
        have HGY4 := Lib.hid (HGY.out.below HW4.out)
        have HG4 := Lib.hid (show g4 < w1.heap.size from HB4.out.lt)
        clear hL0
        go_wp2_with (at_builtin; refine wpList_append_own _ rfl (.tmp 21) (.tmp 23) 64 rfl w1.heap.size 47 i0 (.agg #[.int .i64 0, .slice none 0 0, .string ⟨#[]⟩]) 3 48 Tryz.underlying64 hi hz0 hz1 hz2 rfl (by decide) _ _ _ rfl (OwnR.alloc HO4.out.1 _) ⟨w4.heap.size, 0, none⟩ 1 1 (EntX.V y) rfl rfl (new_cells_at _ _ _ _ (by simp)) (entV_one _) (by unfold maxLen; have := HLE.out; omega) (by have := HLE.out; omega) (by have := HS4.out; simp; omega) ?_)
        intro nv w5 hown' hgrow _
        have hK4a := HK44.out.alloc (.cells (EntX.V y).toArray 47)
        have HK45 := Lib.hid (show Blk w5 g4 47 #[.int .i64 u.ts, .slice u.A u.n u.c, .string u.ln] from (hgrow.block g4 hK4a.lt (fun e => by have := (World.ownsRow.lt HO4.out.1 g4 e.symm).1; have := HG4.out; omega)).trans hK4a)
        have HW5 := Lib.hid ((HW4.out.alloc HW4.out.size _).grown hgrow (by have := HW4.out.size; simp; omega) (fun r hr => by have := (World.ownsRow.lt HO4.out.1 r hr).1; have := HW1.out; omega))
        have HN := Lib.hid (show OwnE B w5 w1.heap.size nv (uptoE asc u.b (l.take (j + 1))) by
          rw [HUP.out, if_neg (by decide)]
          exact OwnE.snoc (HO4.out.alloc _) (HGY4.out.below ((Below.refl _ _).alloc (Nat.le_refl _) _)) (Nat.le_trans hB HW1.out) hgrow hown')
        have HS5 := Lib.hid (show w1.heap.size ≤ w5.heap.size by have h1 := hgrow.size; have := HS4.out; simp at h1; omega)
        clear hown' hgrow hK4a a0 a1 a2 HO4 HUP HD HK44 HW4 HS4
        go_wp2
        go_round
        case rel => exact ⟨j + 1, by omega, by go_num, HN, HK45, HW5, HS5⟩
        case measure => simp [intOf]; omega
    · obtain rfl : n = j := by omega
      have HN := Lib.hid (show OwnE B wr W.heap.size _ (uptoE asc u.b l) by
        have := HO.out
        rw [List.take_of_length_le (by rw [HL.out]; exact Nat.le_refl _)] at this
        exact this.mono (Nat.le_refl _) HW1.out)
      clear HO
      go_wp2
      go_ret
      exact ⟨_, rfl, HN.out, HB'.out⟩
end Go.Proofs.YtdaainifkldcpaaGreatDoor
