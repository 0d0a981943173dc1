/- The document's own text of labels.
   The document's own set of labels. -/
import Derived.Test.YtdbflmkjcgiodaaGreatDoorRefLab
import Derived.Laws.AppendOwnNone
namespace Go.Proofs.YtdbflmkjcgiodaaGreatDoor
open Go.RowKit
set_option linter.unusedVariables false
set_option linter.unusedSimpArgs false

/-- the text after so many labels -/
def textTo (ps : List PairB) : Nat → ByteArray
  | 0 => ⟨#[123]⟩
  | j + 1 => (if j = 0 then textTo ps j else textTo ps j ++ (⟨#[44]⟩ : ByteArray)) ++ (ps.getD j pnil).1 ++ (⟨#[61]⟩ : ByteArray) ++ putS (ps.getD j pnil).2
theorem join_snoc (l : List (List UInt8)) (x sep : List UInt8) : Lib.join (l ++ [x]) sep = if l = [] then x else Lib.join l sep ++ sep ++ x := by
  cases l with
  | nil => rw [if_pos rfl, List.nil_append, Lib.join_one]
  | cons a r =>
    rw [if_neg (by simp), List.cons_append, Lib.join_cons, Lib.join_cons]
    simp [Lib.joinTail]
theorem textTo_list (ps : List PairB) (j : Nat) (hj : j ≤ ps.length) : (textTo ps j).data.toList = 123 :: Lib.join ((ps.take j).map partL) [44] := by
  induction j with
  | zero => rfl
  | succ j ih =>
    have h := ih (by omega)
    have hs : (ps.take (j + 1)).map partL = (ps.take j).map partL ++ [partL (ps.getD j pnil)] := by
      rw [List.take_succ_eq_append_getElem (by omega), List.map_append, List.getD_eq_getElem?_getD, List.getElem?_eq_getElem (by omega)]
      rfl
    have hp : partL (ps.getD j pnil) = (ps.getD j pnil).1.data.toList ++ 61 :: (putS (ps.getD j pnil).2).data.toList := by
      unfold partL putS
      rfl
    rw [hs, join_snoc, textTo, text_joined, text_joined, text_joined, hp]
    by_cases h0 : j = 0
    · subst h0
      rw [if_pos rfl, h, List.take_zero, List.map_nil, if_pos rfl]
      simp [Lib.join_nil]
    · have hne : ¬ (ps.take j).map partL = [] := by
        intro e
        have := congrArg List.length e
        rw [List.length_map, List.length_take] at this
        simp only [List.length_nil] at this
        omega
      rw [if_neg h0, if_neg hne, text_joined, h]
      simp
theorem textTo_all (ps : List PairB) : textTo ps ps.length ++ (⟨#[125]⟩ : ByteArray) = textT ps := by
  refine text_ext1 ?_
  rw [text_joined, textTo_list ps _ (Nat.le_refl _), List.take_length, text_list]
  cases ps with
  | nil => rfl
  | cons p r =>
    rw [List.map_cons, Lib.join_cons, textL, ← end_join p r]
    have e : (r.map partT).map (·.data.toList) = r.map partL := by
      rw [List.map_map]
      exact List.map_congr_left fun q _ => part_list q
    rw [e]
    rfl
theorem textTo_size (ps : List PairB) (hps : ∀ p ∈ ps, p.1.size ≤ 1048576 ∧ p.2.size ≤ 1048576) (j : Nat) (hj : j ≤ ps.length) : (textTo ps j).size ≤ 1 + j * 6000000 := by
  induction j with
  | zero => show 1 ≤ _; omega
  | succ j ih =>
    have h := ih (by omega)
    have hm : ps.getD j pnil ∈ ps := by
      rw [List.getD_eq_getElem?_getD, List.getElem?_eq_getElem (by omega)]
      exact List.getElem_mem _
    have h1 := hps _ hm
    have h2 := putS_size (ps.getD j pnil).2
    have one : (⟨#[61]⟩ : ByteArray).size = 1 := rfl
    have two : (⟨#[44]⟩ : ByteArray).size = 1 := rfl
    rw [textTo, ByteArray.size_append, ByteArray.size_append, ByteArray.size_append, one]
    have h3 : (if j = 0 then textTo ps j else textTo ps j ++ (⟨#[44]⟩ : ByteArray)).size ≤ (textTo ps j).size + 1 := by
      split
      · omega
      · rw [ByteArray.size_append, two]; exact Nat.le_refl _
    rw [Nat.succ_mul]
    omega
set_option maxRecDepth 100000 in
set_option maxHeartbeats 800000 in
theorem refTextL_any (A : Option Addr) (n c : Nat) (ps : List PairB) (hn : n ≤ 1048576) (hps : ∀ p ∈ ps, p.1.size ≤ 1048576 ∧ p.2.size ≤ 1048576) (W : World) (h1 : Pairs W A n ps) :
    Calls Tryz.prog 44 #[.slice A n c] W fun e w' => e = .returned (.string (textT ps)) ∧ Below W.heap.size W w' := by
  have h0 : W.heap.size ≤ W.heap.size := Nat.le_refl _
  have H1 := Lib.hid h1
  have HL := Lib.hid h1.1
  have HPS := Lib.hid hps
  have HSZ := Lib.hid (textTo_size ps hps)
  have one : (⟨#[61]⟩ : ByteArray).size = 1 := rfl
  have two : (⟨#[44]⟩ : ByteArray).size = 1 := rfl
  have thr : (⟨#[125]⟩ : ByteArray).size = 1 := rfl
  clear h1 hps
  go_enter Tryz.func44, Tryz.ntmps44
  go_wp2
  go_loopw [3, 4] (fun sv iv wr => ∃ (j : Nat) (t : ByteArray), j ≤ n ∧ iv = .int .i64 j ∧ sv = .string t ∧ Hid (t = textTo ps j) ∧ t.size ≤ 1 + j * 6000000 ∧ Below W.heap.size W wr) (fun _ iv _ => n - (intOf iv).toNat)
  case atStart => exact ⟨0, ⟨#[123]⟩, Nat.zero_le _, rfl, rfl, Lib.hid rfl, by decide, Below.refl _ _⟩
  case round =>
    obtain ⟨j, t, hjn, rfl, rfl, HT, hts, hb⟩ := hrel
    have hsz := hb.size
    by_cases hj : j < n
    · have hjI : (j : Int) < (n : Int) := by omega
      obtain ⟨b1, o1, rfl, hlt1, hc1⟩ := (H1.out.below hb).2 (by omega)
      obtain ⟨c1, c2⟩ := hc1 j hj
      have hnx : textTo ps (j + 1) = (if j = 0 then textTo ps j else textTo ps j ++ (⟨#[44]⟩ : ByteArray)) ++ (ps.getD j pnil).1 ++ (⟨#[61]⟩ : ByteArray) ++ putS (ps.getD j pnil).2 := rfl
      rw [← HT.out] at hnx
      have hsz2 := HSZ.out (j + 1) (by have := HL.out; omega)
      have hmem : ps.getD j pnil ∈ ps := by
        have := HL.out
        rw [List.getD_eq_getElem?_getD, List.getElem?_eq_getElem (by omega)]
        exact List.getElem_mem _
      have hpz := HPS.out _ hmem
      obtain ⟨⟨p1, p2⟩, hp⟩ : ∃ p, ps.getD j pnil = p := ⟨_, rfl⟩
      rw [hp] at c1 c2 hnx hpz
      dsimp only at c1 c2 hnx hpz
      have PT := fun w => refPut_any p2 (by omega) w
      have hput := putS_size p2
      have hx0 : (⟨(putB p2.data.toList).toArray⟩ : ByteArray) = putS p2 := rfl
      simp only [hx0] at PT
      obtain ⟨x, hx⟩ : ∃ x, putS p2 = x := ⟨_, rfl⟩
      rw [hx] at hnx hput
      simp only [hx] at PT
      replace PT := Lib.hid PT
      have hjb : j * 6000000 ≤ 6291456000000 := by omega
      have HNX := Lib.hid hnx
      have HS2 := Lib.hid hsz2
      clear hc1 hmem hp hx hx0 hnx hsz2
      by_cases hj0 : j = 0
      · have z1 : ¬ (0 : Int) < (j : Int) := by omega
        have z2 : ¬ 0 < j := by omega
        have E := Lib.hid (show t ++ p1 ++ (⟨#[61]⟩ : ByteArray) ++ x = textTo ps (j + 1) from by rw [HNX.out, if_pos hj0])
        have s1 : ¬ 9223372036854775807 < t.size + p1.size := by omega
        have s2 : ¬ 9223372036854775807 < (t ++ p1).size + (⟨#[61]⟩ : ByteArray).size := by rw [ByteArray.size_append, one]; omega
        have s3 : ¬ 9223372036854775807 < (t ++ p1 ++ (⟨#[61]⟩ : ByteArray)).size + x.size := by rw [ByteArray.size_append, ByteArray.size_append, one]; omega
        have s4 : ¬ 9223372036854775807 < (t ++ p1).size + 1 := by rw [ByteArray.size_append]; omega
        have t1 : ¬ 9223372036854775807 < t.size + p1.size + 1 := by omega
        have t2 : ¬ 9223372036854775807 < t.size + p1.size + 1 + x.size := by omega
        have t3 : ¬ 9223372036854775807 < t.size + 1 + p1.size := by omega
        have t4 : ¬ 9223372036854775807 < t.size + 1 + p1.size + 1 := by omega
        have t5 : ¬ 9223372036854775807 < t.size + 1 + p1.size + 1 + x.size := by omega
        clear hj0 one two thr
        go_wp2
        go_region_held3 (fun w' => w'.cell? ⟨b1, o1 + j * 2, none⟩ = some (.string p1) ∧ w'.cell? ⟨b1, o1 + j * 2 + 1, none⟩ = some (.string p2)) (first | go_keep | (rw [hb3.cell (by simpa using hlt1), hb3.cell (by simpa using hlt1)]; exact ⟨c1, c2⟩))
          (first | (go_at_call 45; refine (PT.out _).mono ?_; rintro e w3 ⟨rfl, hb3⟩))
        have hb4 : Below W.heap.size W w3 := hop (below_drewN hb 1) h0 hb3
        clear hb3
        go_wp2
        go_round
        case rel => exact ⟨j + 1, _, by omega, by go_num, rfl, Lib.hid E.out, by rw [E.out]; exact HS2.out, hb4⟩
        case measure => simp [intOf]; omega
      · have z1 : (0 : Int) < (j : Int) := by omega
        have z2 : 0 < j := by omega
        have E := Lib.hid (show t ++ (⟨#[44]⟩ : ByteArray) ++ p1 ++ (⟨#[61]⟩ : ByteArray) ++ x = textTo ps (j + 1) from by rw [HNX.out, if_neg hj0])
        have s0 : ¬ 9223372036854775807 < t.size + (⟨#[44]⟩ : ByteArray).size := by rw [two]; omega
        have s00 : ¬ 9223372036854775807 < t.size + 1 := by omega
        have s1 : ¬ 9223372036854775807 < (t ++ (⟨#[44]⟩ : ByteArray)).size + p1.size := by rw [ByteArray.size_append, two]; omega
        have s2 : ¬ 9223372036854775807 < (t ++ (⟨#[44]⟩ : ByteArray) ++ p1).size + (⟨#[61]⟩ : ByteArray).size := by rw [ByteArray.size_append, ByteArray.size_append, one, two]; omega
        have s3 : ¬ 9223372036854775807 < (t ++ (⟨#[44]⟩ : ByteArray) ++ p1 ++ (⟨#[61]⟩ : ByteArray)).size + x.size := by rw [ByteArray.size_append, ByteArray.size_append, ByteArray.size_append, one, two]; omega
        have s4 : ¬ 9223372036854775807 < (t ++ (⟨#[44]⟩ : ByteArray) ++ p1).size + 1 := by rw [ByteArray.size_append, ByteArray.size_append, two]; omega
        have t1 : ¬ 9223372036854775807 < t.size + p1.size + 1 := by omega
        have t2 : ¬ 9223372036854775807 < t.size + p1.size + 1 + x.size := by omega
        have t3 : ¬ 9223372036854775807 < t.size + 1 + p1.size := by omega
        have t4 : ¬ 9223372036854775807 < t.size + 1 + p1.size + 1 := by omega
        have t5 : ¬ 9223372036854775807 < t.size + 1 + p1.size + 1 + x.size := by omega
        clear hj0 one two thr
        go_wp2
        go_region_held3 (fun w' => w'.cell? ⟨b1, o1 + j * 2, none⟩ = some (.string p1) ∧ w'.cell? ⟨b1, o1 + j * 2 + 1, none⟩ = some (.string p2)) (first | go_keep | (rw [hb3.cell (by simpa using hlt1), hb3.cell (by simpa using hlt1)]; exact ⟨c1, c2⟩))
          (first | (go_at_call 45; refine (PT.out _).mono ?_; rintro e w3 ⟨rfl, hb3⟩))
        have hb4 : Below W.heap.size W w3 := hop (below_drewN hb 1) h0 hb3
        clear hb3
        go_wp2
        go_round
        case rel => exact ⟨j + 1, _, by omega, by go_num, rfl, Lib.hid E.out, by rw [E.out]; exact HS2.out, hb4⟩
        case measure => simp [intOf]; omega
    · obtain rfl : j = n := by omega
      have E := Lib.hid (show t ++ (⟨#[125]⟩ : ByteArray) = textT ps from by rw [HT.out, ← HL.out, textTo_all])
      have s0 : ¬ 9223372036854775807 < t.size + (⟨#[125]⟩ : ByteArray).size := by rw [thr]; omega
      have s00 : ¬ 9223372036854775807 < t.size + 1 := by omega
      go_wp2
      go_ret
      exact ⟨by rw [← E.out]; rfl, hb⟩
end Go.Proofs.YtdbflmkjcgiodaaGreatDoor
namespace Go.Proofs.YtdbflmkjcgiodaaGreatDoor
open Go.RowKit
set_option linter.unusedVariables false
set_option linter.unusedSimpArgs false

/-- how many stand ahead -/
def aheadN (p : PairB) (out : List PairB) : Nat := (out.takeWhile (fun q => decide (txtC q.1 p.1 < 0))).length
def sameAt (p : PairB) (out : List PairB) (k : Nat) : Bool := decide (k < out.length) && decide ((out.getD k pnil).1 = p.1)
def insR (out : List PairB) (p : PairB) : List PairB := out.take (aheadN p out) ++ [p] ++ out.drop (aheadN p out + (if sameAt p out (aheadN p out) = true then 1 else 0))
def refTo (ps : List PairB) : Nat → List PairB
  | 0 => []
  | i + 1 => if nameB (ps.getD i pnil).1 = true then insR (refTo ps i) (ps.getD i pnil) else refTo ps i
def refOfL (ps : List PairB) : List PairB := refTo ps ps.length
theorem ahead_le (p : PairB) (out : List PairB) : aheadN p out ≤ out.length := (List.takeWhile_prefix _).length_le
theorem insR_len (out : List PairB) (p : PairB) : 1 ≤ (insR out p).length ∧ (insR out p).length ≤ out.length + 1 := by
  have := ahead_le p out
  unfold insR
  rw [List.length_append, List.length_append, List.length_take, List.length_drop, List.length_singleton]
  omega
theorem refTo_len (ps : List PairB) (i : Nat) : (refTo ps i).length ≤ i := by
  induction i with
  | zero => exact Nat.le_refl _
  | succ i ih =>
    rw [refTo]
    split
    · have := insR_len (refTo ps i) (ps.getD i pnil); omega
    · omega
theorem ahead_is (p : PairB) (out : List PairB) (k : Nat) (h : ∀ j, j < k → ∃ q, out[j]? = some q ∧ txtC q.1 p.1 < 0) (hend : ∀ q, out[k]? = some q → ¬ txtC q.1 p.1 < 0) : aheadN p out = k := by
  unfold aheadN
  induction out generalizing k with
  | nil =>
    cases k with
    | zero => rfl
    | succ k => obtain ⟨q, hq, _⟩ := h 0 (by omega); cases hq
  | cons a out ih =>
    cases k with
    | zero => rw [List.takeWhile_cons_of_neg (by rw [decide_eq_false (hend a rfl)]; decide)]; rfl
    | succ k =>
      obtain ⟨q, hq, hlt⟩ := h 0 (by omega)
      injection hq with hq
      subst hq
      rw [List.takeWhile_cons_of_pos (by rw [decide_eq_true hlt]), List.length_cons]
      rw [ih k (fun j hj => by have := h (j + 1) (by omega); simpa using this) (fun q hq => hend q (by simpa using hq))]
theorem rowV_drop (l : List PairB) (k : Nat) (hk : k ≤ l.length) : rowV pairV l = rowV pairV (l.take k) ++ rowV pairV (l.drop k) := by rw [← rowV_app, List.take_append_drop]
/-- the cells of a row of labels, from one on -/
theorem row_from {w : World} {g : Nat} {l : List PairB} (h : ∀ (j i : Nat) (a : PairB), l[j]? = some a → i < 2 → w.cell? ⟨g, j * 2 + i, none⟩ = (pairV a)[i]?) (k : Nat) : ∀ (t : Nat) (u : Value), (rowV pairV (l.drop k))[t]? = some u → w.cell? ((⟨g, k * 2, none⟩ : Addr).add t) = some u := by
  intro t u hu
  have hlt : t < (l.drop k).length * 2 := by
    rcases Nat.lt_or_ge t ((l.drop k).length * 2) with h1 | h1
    · exact h1
    · rw [List.getElem?_eq_none (by rw [rowV_len pairV_len]; exact h1)] at hu; cases hu
  have hj : t / 2 < (l.drop k).length := by omega
  have ha : (l.drop k)[t / 2]? = some (l.drop k)[t / 2] := List.getElem?_eq_getElem hj
  have h1 := rowV_at pairV_len (l.drop k) (t / 2) (t % 2) _ ha (by omega)
  rw [show t / 2 * 2 + t % 2 = t by omega, hu] at h1
  have h2 : l[k + t / 2]? = some (l.drop k)[t / 2] := by rw [← List.getElem?_drop]; exact ha
  rw [ints_add, show k * 2 + t = (k + t / 2) * 2 + t % 2 by omega, h _ _ _ h2 (by omega), ← h1]
theorem row_upto {w : World} {g : Nat} {l : List PairB} (h : ∀ (j i : Nat) (a : PairB), l[j]? = some a → i < 2 → w.cell? ⟨g, j * 2 + i, none⟩ = (pairV a)[i]?) (k : Nat) : ∀ (t : Nat) (u : Value), (rowV pairV (l.take k))[t]? = some u → w.cell? ((⟨g, 0, none⟩ : Addr).add t) = some u := by
  have h2 : ∀ (j i : Nat) (a : PairB), (l.take k)[j]? = some a → i < 2 → w.cell? ⟨g, j * 2 + i, none⟩ = (pairV a)[i]? := fun j i a ha hi => by
    rcases Nat.lt_or_ge j k with hjk | hjk
    · rw [List.getElem?_take_of_lt hjk] at ha
      exact h j i a ha hi
    · rw [List.getElem?_eq_none (by rw [List.length_take]; omega)] at ha; cases ha
  have := row_from (l := l.take k) h2 0
  rw [List.drop_zero, Nat.zero_mul] at this
  exact this
end Go.Proofs.YtdbflmkjcgiodaaGreatDoor
