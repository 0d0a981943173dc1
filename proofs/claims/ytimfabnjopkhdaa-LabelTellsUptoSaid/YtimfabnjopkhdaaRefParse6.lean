/- The document's own text of labels.
   The document's own set of labels.
   The document's own labels that a text begins with: what they are.
   The document's own labels that a text begins with: the walk. -/
import Derived.Test.YtimfabnjopkhdaaRefLab
import Derived.Test.YtimfabnjopkhdaaLabBackMath
import Derived.Test.YtimfabnjopkhdaaRefPut
import Derived.Laws.AppendOwnNone
namespace Go.Proofs.Ytimfabnjopkhdaa
open Go.RowKit
set_option linter.unusedVariables false
set_option linter.unusedSimpArgs false

/-- the text after so many labels -/
def textTo (ps : List PairB) : Nat → ByteArray
  | 0 => ⟨#[123]⟩
  | j + 1 => (if j = 0 then textTo ps j else textTo ps j ++ (⟨#[44]⟩ : ByteArray)) ++ (ps.getD j pnil).1 ++ (⟨#[61]⟩ : ByteArray) ++ putS (ps.getD j pnil).2
theorem join_snoc (l : List (List UInt8)) (x sep : List UInt8) : Lib.join (l ++ [x]) sep = if l = [] then x else Lib.join l sep ++ sep ++ x := by
  cases l with
  | nil => rw [if_pos rfl, List.nil_append, Lib.join_one]
  | cons a r =>
    rw [if_neg (by simp), List.cons_append, Lib.join_cons, Lib.join_cons]
    simp [Lib.joinTail]
theorem textTo_list (ps : List PairB) (j : Nat) (hj : j ≤ ps.length) : (textTo ps j).data.toList = 123 :: Lib.join ((ps.take j).map partL) [44] := by
  induction j with
  | zero => rfl
  | succ j ih =>
    have h := ih (by omega)
    have hs : (ps.take (j + 1)).map partL = (ps.take j).map partL ++ [partL (ps.getD j pnil)] := by
      rw [List.take_succ_eq_append_getElem (by omega), List.map_append, List.getD_eq_getElem?_getD, List.getElem?_eq_getElem (by omega)]
      rfl
    have hp : partL (ps.getD j pnil) = (ps.getD j pnil).1.data.toList ++ 61 :: (putS (ps.getD j pnil).2).data.toList := by
      unfold partL putS
      rfl
    rw [hs, join_snoc, textTo, text_joined, text_joined, text_joined, hp]
    by_cases h0 : j = 0
    · subst h0
      rw [if_pos rfl, h, List.take_zero, List.map_nil, if_pos rfl]
      simp [Lib.join_nil]
    · have hne : ¬ (ps.take j).map partL = [] := by
        intro e
        have := congrArg List.length e
        rw [List.length_map, List.length_take] at this
        simp only [List.length_nil] at this
        omega
      rw [if_neg h0, if_neg hne, text_joined, h]
      simp
theorem textTo_all (ps : List PairB) : textTo ps ps.length ++ (⟨#[125]⟩ : ByteArray) = textT ps := by
  refine text_ext1 ?_
  rw [text_joined, textTo_list ps _ (Nat.le_refl _), List.take_length, text_list]
  cases ps with
  | nil => rfl
  | cons p r =>
    rw [List.map_cons, Lib.join_cons, textL, ← end_join p r]
    have e : (r.map partT).map (·.data.toList) = r.map partL := by
      rw [List.map_map]
      exact List.map_congr_left fun q _ => part_list q
    rw [e]
    rfl
theorem textTo_size (ps : List PairB) (hps : ∀ p ∈ ps, p.1.size ≤ 1048576 ∧ p.2.size ≤ 1048576) (j : Nat) (hj : j ≤ ps.length) : (textTo ps j).size ≤ 1 + j * 6000000 := by
  induction j with
  | zero => show 1 ≤ _; omega
  | succ j ih =>
    have h := ih (by omega)
    have hm : ps.getD j pnil ∈ ps := by
      rw [List.getD_eq_getElem?_getD, List.getElem?_eq_getElem (by omega)]
      exact List.getElem_mem _
    have h1 := hps _ hm
    have h2 := putS_size (ps.getD j pnil).2
    have one : (⟨#[61]⟩ : ByteArray).size = 1 := rfl
    have two : (⟨#[44]⟩ : ByteArray).size = 1 := rfl
    rw [textTo, ByteArray.size_append, ByteArray.size_append, ByteArray.size_append, one]
    have h3 : (if j = 0 then textTo ps j else textTo ps j ++ (⟨#[44]⟩ : ByteArray)).size ≤ (textTo ps j).size + 1 := by
      split
      · omega
      · rw [ByteArray.size_append, two]; exact Nat.le_refl _
    rw [Nat.succ_mul]
    omega
set_option maxRecDepth 100000 in
set_option maxHeartbeats 800000 in
theorem refTextL_any (A : Option Addr) (n c : Nat) (ps : List PairB) (hn : n ≤ 1048576) (hps : ∀ p ∈ ps, p.1.size ≤ 1048576 ∧ p.2.size ≤ 1048576) (W : World) (h1 : Pairs W A n ps) :
    Calls Try.prog 25 #[.slice A n c] W fun e w' => e = .returned (.string (textT ps)) ∧ Below W.heap.size W w' := by
  have h0 : W.heap.size ≤ W.heap.size := Nat.le_refl _
  have H1 := Lib.hid h1
  have HL := Lib.hid h1.1
  have HPS := Lib.hid hps
  have HSZ := Lib.hid (textTo_size ps hps)
  have one : (⟨#[61]⟩ : ByteArray).size = 1 := rfl
  have two : (⟨#[44]⟩ : ByteArray).size = 1 := rfl
  have thr : (⟨#[125]⟩ : ByteArray).size = 1 := rfl
  clear h1 hps
  go_enter Try.func25, Try.ntmps25
  go_wp2
  go_loopw [3, 4] (fun sv iv wr => ∃ (j : Nat) (t : ByteArray), j ≤ n ∧ iv = .int .i64 j ∧ sv = .string t ∧ Hid (t = textTo ps j) ∧ t.size ≤ 1 + j * 6000000 ∧ Below W.heap.size W wr) (fun _ iv _ => n - (intOf iv).toNat)
  case atStart => exact ⟨0, ⟨#[123]⟩, Nat.zero_le _, rfl, rfl, Lib.hid rfl, by decide, Below.refl _ _⟩
  case round =>
    obtain ⟨j, t, hjn, rfl, rfl, HT, hts, hb⟩ := hrel
    have hsz := hb.size
    by_cases hj : j < n
    · have hjI : (j : Int) < (n : Int) := by omega
      obtain ⟨b1, o1, rfl, hlt1, hc1⟩ := (H1.out.below hb).2 (by omega)
      obtain ⟨c1, c2⟩ := hc1 j hj
      have hnx : textTo ps (j + 1) = (if j = 0 then textTo ps j else textTo ps j ++ (⟨#[44]⟩ : ByteArray)) ++ (ps.getD j pnil).1 ++ (⟨#[61]⟩ : ByteArray) ++ putS (ps.getD j pnil).2 := rfl
      rw [← HT.out] at hnx
      have hsz2 := HSZ.out (j + 1) (by have := HL.out; omega)
      have hmem : ps.getD j pnil ∈ ps := by
        have := HL.out
        rw [List.getD_eq_getElem?_getD, List.getElem?_eq_getElem (by omega)]
        exact List.getElem_mem _
      have hpz := HPS.out _ hmem
      obtain ⟨⟨p1, p2⟩, hp⟩ : ∃ p, ps.getD j pnil = p := ⟨_, rfl⟩
      rw [hp] at c1 c2 hnx hpz
      dsimp only at c1 c2 hnx hpz
      have PT := fun w => refPut_any p2 (by omega) w
      have hput := putS_size p2
      have hx0 : (⟨(putB p2.data.toList).toArray⟩ : ByteArray) = putS p2 := rfl
      simp only [hx0] at PT
      obtain ⟨x, hx⟩ : ∃ x, putS p2 = x := ⟨_, rfl⟩
      rw [hx] at hnx hput
      simp only [hx] at PT
      replace PT := Lib.hid PT
      have hjb : j * 6000000 ≤ 6291456000000 := by omega
      have HNX := Lib.hid hnx
      have HS2 := Lib.hid hsz2
      clear hc1 hmem hp hx hx0 hnx hsz2
      by_cases hj0 : j = 0
      · have z1 : ¬ (0 : Int) < (j : Int) := by omega
        have z2 : ¬ 0 < j := by omega
        have E := Lib.hid (show t ++ p1 ++ (⟨#[61]⟩ : ByteArray) ++ x = textTo ps (j + 1) from by rw [HNX.out, if_pos hj0])
        have s1 : ¬ 9223372036854775807 < t.size + p1.size := by omega
        have s2 : ¬ 9223372036854775807 < (t ++ p1).size + (⟨#[61]⟩ : ByteArray).size := by rw [ByteArray.size_append, one]; omega
        have s3 : ¬ 9223372036854775807 < (t ++ p1 ++ (⟨#[61]⟩ : ByteArray)).size + x.size := by rw [ByteArray.size_append, ByteArray.size_append, one]; omega
        have s4 : ¬ 9223372036854775807 < (t ++ p1).size + 1 := by rw [ByteArray.size_append]; omega
        have t1 : ¬ 9223372036854775807 < t.size + p1.size + 1 := by omega
        have t2 : ¬ 9223372036854775807 < t.size + p1.size + 1 + x.size := by omega
        have t3 : ¬ 9223372036854775807 < t.size + 1 + p1.size := by omega
        have t4 : ¬ 9223372036854775807 < t.size + 1 + p1.size + 1 := by omega
        have t5 : ¬ 9223372036854775807 < t.size + 1 + p1.size + 1 + x.size := by omega
        clear hj0 one two thr
        go_wp2
        go_region_held3 (fun w' => w'.cell? ⟨b1, o1 + j * 2, none⟩ = some (.string p1) ∧ w'.cell? ⟨b1, o1 + j * 2 + 1, none⟩ = some (.string p2)) (first | go_keep | (rw [hb3.cell (by simpa using hlt1), hb3.cell (by simpa using hlt1)]; exact ⟨c1, c2⟩))
          (first | (go_at_call 41; refine (PT.out _).mono ?_; rintro e w3 ⟨rfl, hb3⟩))
        have hb4 : Below W.heap.size W w3 := hop (below_drewN hb 1) h0 hb3
        clear hb3
        go_wp2
        go_round
        case rel => exact ⟨j + 1, _, by omega, by go_num, rfl, Lib.hid E.out, by rw [E.out]; exact HS2.out, hb4⟩
        case measure => simp [intOf]; omega
      · have z1 : (0 : Int) < (j : Int) := by omega
        have z2 : 0 < j := by omega
        have E := Lib.hid (show t ++ (⟨#[44]⟩ : ByteArray) ++ p1 ++ (⟨#[61]⟩ : ByteArray) ++ x = textTo ps (j + 1) from by rw [HNX.out, if_neg hj0])
        have s0 : ¬ 9223372036854775807 < t.size + (⟨#[44]⟩ : ByteArray).size := by rw [two]; omega
        have s00 : ¬ 9223372036854775807 < t.size + 1 := by omega
        have s1 : ¬ 9223372036854775807 < (t ++ (⟨#[44]⟩ : ByteArray)).size + p1.size := by rw [ByteArray.size_append, two]; omega
        have s2 : ¬ 9223372036854775807 < (t ++ (⟨#[44]⟩ : ByteArray) ++ p1).size + (⟨#[61]⟩ : ByteArray).size := by rw [ByteArray.size_append, ByteArray.size_append, one, two]; omega
        have s3 : ¬ 9223372036854775807 < (t ++ (⟨#[44]⟩ : ByteArray) ++ p1 ++ (⟨#[61]⟩ : ByteArray)).size + x.size := by rw [ByteArray.size_append, ByteArray.size_append, ByteArray.size_append, one, two]; omega
        have s4 : ¬ 9223372036854775807 < (t ++ (⟨#[44]⟩ : ByteArray) ++ p1).size + 1 := by rw [ByteArray.size_append, ByteArray.size_append, two]; omega
        have t1 : ¬ 9223372036854775807 < t.size + p1.size + 1 := by omega
        have t2 : ¬ 9223372036854775807 < t.size + p1.size + 1 + x.size := by omega
        have t3 : ¬ 9223372036854775807 < t.size + 1 + p1.size := by omega
        have t4 : ¬ 9223372036854775807 < t.size + 1 + p1.size + 1 := by omega
        have t5 : ¬ 9223372036854775807 < t.size + 1 + p1.size + 1 + x.size := by omega
        clear hj0 one two thr
        go_wp2
        go_region_held3 (fun w' => w'.cell? ⟨b1, o1 + j * 2, none⟩ = some (.string p1) ∧ w'.cell? ⟨b1, o1 + j * 2 + 1, none⟩ = some (.string p2)) (first | go_keep | (rw [hb3.cell (by simpa using hlt1), hb3.cell (by simpa using hlt1)]; exact ⟨c1, c2⟩))
          (first | (go_at_call 41; refine (PT.out _).mono ?_; rintro e w3 ⟨rfl, hb3⟩))
        have hb4 : Below W.heap.size W w3 := hop (below_drewN hb 1) h0 hb3
        clear hb3
        go_wp2
        go_round
        case rel => exact ⟨j + 1, _, by omega, by go_num, rfl, Lib.hid E.out, by rw [E.out]; exact HS2.out, hb4⟩
        case measure => simp [intOf]; omega
    · obtain rfl : j = n := by omega
      have E := Lib.hid (show t ++ (⟨#[125]⟩ : ByteArray) = textT ps from by rw [HT.out, ← HL.out, textTo_all])
      have s0 : ¬ 9223372036854775807 < t.size + (⟨#[125]⟩ : ByteArray).size := by rw [thr]; omega
      have s00 : ¬ 9223372036854775807 < t.size + 1 := by omega
      go_wp2
      go_ret
      exact ⟨by rw [← E.out]; rfl, hb⟩
end Go.Proofs.Ytimfabnjopkhdaa
namespace Go.Proofs.Ytimfabnjopkhdaa
open Go.RowKit
set_option linter.unusedVariables false
set_option linter.unusedSimpArgs false

/-- how many stand ahead -/
def aheadN (p : PairB) (out : List PairB) : Nat := (out.takeWhile (fun q => decide (txtC q.1 p.1 < 0))).length
def sameAt (p : PairB) (out : List PairB) (k : Nat) : Bool := decide (k < out.length) && decide ((out.getD k pnil).1 = p.1)
def insR (out : List PairB) (p : PairB) : List PairB := out.take (aheadN p out) ++ [p] ++ out.drop (aheadN p out + (if sameAt p out (aheadN p out) = true then 1 else 0))
def refTo (ps : List PairB) : Nat → List PairB
  | 0 => []
  | i + 1 => if nameB (ps.getD i pnil).1 = true then insR (refTo ps i) (ps.getD i pnil) else refTo ps i
def refOfL (ps : List PairB) : List PairB := refTo ps ps.length
theorem ahead_le (p : PairB) (out : List PairB) : aheadN p out ≤ out.length := (List.takeWhile_prefix _).length_le
theorem insR_len (out : List PairB) (p : PairB) : 1 ≤ (insR out p).length ∧ (insR out p).length ≤ out.length + 1 := by
  have := ahead_le p out
  unfold insR
  rw [List.length_append, List.length_append, List.length_take, List.length_drop, List.length_singleton]
  omega
theorem refTo_len (ps : List PairB) (i : Nat) : (refTo ps i).length ≤ i := by
  induction i with
  | zero => exact Nat.le_refl _
  | succ i ih =>
    rw [refTo]
    split
    · have := insR_len (refTo ps i) (ps.getD i pnil); omega
    · omega
theorem ahead_is (p : PairB) (out : List PairB) (k : Nat) (h : ∀ j, j < k → ∃ q, out[j]? = some q ∧ txtC q.1 p.1 < 0) (hend : ∀ q, out[k]? = some q → ¬ txtC q.1 p.1 < 0) : aheadN p out = k := by
  unfold aheadN
  induction out generalizing k with
  | nil =>
    cases k with
    | zero => rfl
    | succ k => obtain ⟨q, hq, _⟩ := h 0 (by omega); cases hq
  | cons a out ih =>
    cases k with
    | zero => rw [List.takeWhile_cons_of_neg (by rw [decide_eq_false (hend a rfl)]; decide)]; rfl
    | succ k =>
      obtain ⟨q, hq, hlt⟩ := h 0 (by omega)
      injection hq with hq
      subst hq
      rw [List.takeWhile_cons_of_pos (by rw [decide_eq_true hlt]), List.length_cons]
      rw [ih k (fun j hj => by have := h (j + 1) (by omega); simpa using this) (fun q hq => hend q (by simpa using hq))]
theorem rowV_drop (l : List PairB) (k : Nat) (hk : k ≤ l.length) : rowV pairV l = rowV pairV (l.take k) ++ rowV pairV (l.drop k) := by rw [← rowV_app, List.take_append_drop]
/-- the cells of a row of labels, from one on -/
theorem row_from {w : World} {g : Nat} {l : List PairB} (h : ∀ (j i : Nat) (a : PairB), l[j]? = some a → i < 2 → w.cell? ⟨g, j * 2 + i, none⟩ = (pairV a)[i]?) (k : Nat) : ∀ (t : Nat) (u : Value), (rowV pairV (l.drop k))[t]? = some u → w.cell? ((⟨g, k * 2, none⟩ : Addr).add t) = some u := by
  intro t u hu
  have hlt : t < (l.drop k).length * 2 := by
    rcases Nat.lt_or_ge t ((l.drop k).length * 2) with h1 | h1
    · exact h1
    · rw [List.getElem?_eq_none (by rw [rowV_len pairV_len]; exact h1)] at hu; cases hu
  have hj : t / 2 < (l.drop k).length := by omega
  have ha : (l.drop k)[t / 2]? = some (l.drop k)[t / 2] := List.getElem?_eq_getElem hj
  have h1 := rowV_at pairV_len (l.drop k) (t / 2) (t % 2) _ ha (by omega)
  rw [show t / 2 * 2 + t % 2 = t by omega, hu] at h1
  have h2 : l[k + t / 2]? = some (l.drop k)[t / 2] := by rw [← List.getElem?_drop]; exact ha
  rw [ints_add, show k * 2 + t = (k + t / 2) * 2 + t % 2 by omega, h _ _ _ h2 (by omega), ← h1]
theorem row_upto {w : World} {g : Nat} {l : List PairB} (h : ∀ (j i : Nat) (a : PairB), l[j]? = some a → i < 2 → w.cell? ⟨g, j * 2 + i, none⟩ = (pairV a)[i]?) (k : Nat) : ∀ (t : Nat) (u : Value), (rowV pairV (l.take k))[t]? = some u → w.cell? ((⟨g, 0, none⟩ : Addr).add t) = some u := by
  have h2 : ∀ (j i : Nat) (a : PairB), (l.take k)[j]? = some a → i < 2 → w.cell? ⟨g, j * 2 + i, none⟩ = (pairV a)[i]? := fun j i a ha hi => by
    rcases Nat.lt_or_ge j k with hjk | hjk
    · rw [List.getElem?_take_of_lt hjk] at ha
      exact h j i a ha hi
    · rw [List.getElem?_eq_none (by rw [List.length_take]; omega)] at ha; cases ha
  have := row_from (l := l.take k) h2 0
  rw [List.drop_zero, Nat.zero_mul] at this
  exact this
end Go.Proofs.Ytimfabnjopkhdaa
namespace Go.Proofs.Ytimfabnjopkhdaa
open Go.RowKit
set_option linter.unusedVariables false
set_option linter.unusedSimpArgs false

def notEq (c : UInt8) : Bool := c != 61
/-- where a name ends -/
def endQ (l : List UInt8) : Nat := min 33 (l.takeWhile notEq).length
def goQ (t : ByteArray) : Nat → Nat → List PairB → Option (List PairB × Nat)
  | 0, k, acc => some (acc, k)
  | f + 1, k, acc =>
    if 18 ≤ acc.length then some (acc, k)
    else if acc.length = 0 ∧ (atL t k).head? = some 125 then some (acc, k + 1)
    else if (atL t (k + endQ (atL t k))).head? = some 61 then
      (if (getR (atL t (k + endQ (atL t k) + 1))).2.2 = true then
        (if (atL t (k + endQ (atL t k) + 1 + (getR (atL t (k + endQ (atL t k) + 1))).2.1)).head? = some 44 then
          goQ t f (k + endQ (atL t k) + 1 + (getR (atL t (k + endQ (atL t k) + 1))).2.1 + 1) (acc ++ [(t.extract k (k + endQ (atL t k)), tx (getR (atL t (k + endQ (atL t k) + 1))).1)])
        else if (atL t (k + endQ (atL t k) + 1 + (getR (atL t (k + endQ (atL t k) + 1))).2.1)).head? = some 125 then
          some (acc ++ [(t.extract k (k + endQ (atL t k)), tx (getR (atL t (k + endQ (atL t k) + 1))).1)], k + endQ (atL t k) + 1 + (getR (atL t (k + endQ (atL t k) + 1))).2.1 + 1)
        else none)
      else none)
    else none
theorem goQ_succ (t : ByteArray) (f k : Nat) (acc : List PairB) : goQ t (f + 1) k acc = 
    if 18 ≤ acc.length then some (acc, k)
    else if acc.length = 0 ∧ (atL t k).head? = some 125 then some (acc, k + 1)
    else if (atL t (k + endQ (atL t k))).head? = some 61 then
      (if (getR (atL t (k + endQ (atL t k) + 1))).2.2 = true then
        (if (atL t (k + endQ (atL t k) + 1 + (getR (atL t (k + endQ (atL t k) + 1))).2.1)).head? = some 44 then
          goQ t f (k + endQ (atL t k) + 1 + (getR (atL t (k + endQ (atL t k) + 1))).2.1 + 1) (acc ++ [(t.extract k (k + endQ (atL t k)), tx (getR (atL t (k + endQ (atL t k) + 1))).1)])
        else if (atL t (k + endQ (atL t k) + 1 + (getR (atL t (k + endQ (atL t k) + 1))).2.1)).head? = some 125 then
          some (acc ++ [(t.extract k (k + endQ (atL t k)), tx (getR (atL t (k + endQ (atL t k) + 1))).1)], k + endQ (atL t k) + 1 + (getR (atL t (k + endQ (atL t k) + 1))).2.1 + 1)
        else none)
      else none)
    else none := by rw [goQ]
def ifR (x : List PairB × Nat) : Option (List PairB × Nat) := if rightB x.1 = true then some x else none
def parseQ (t : ByteArray) : Option (List PairB × Nat) := if t.data.toList.head? = some 123 then (goQ t 19 1 []).bind ifR else none
theorem goQ_pre (t : ByteArray) : ∀ (f k : Nat) (acc a : List PairB) (n : Nat), goQ t f k acc = some (a, n) → ∃ r, a = acc ++ r := by
  intro f
  induction f with
  | zero => intro k acc a n h; rw [goQ] at h; injection h with h; injection h with h; exact ⟨[], by rw [← h, List.append_nil]⟩
  | succ f ih =>
    intro k acc a n h
    rw [goQ_succ] at h
    split at h
    · injection h with h; injection h with h; exact ⟨[], by rw [← h, List.append_nil]⟩
    · split at h
      · injection h with h; injection h with h; exact ⟨[], by rw [← h, List.append_nil]⟩
      · split at h
        · split at h
          · split at h
            · obtain ⟨r, hr⟩ := ih _ _ _ _ h
              exact ⟨_ :: r, by rw [hr, List.append_assoc]; rfl⟩
            · split at h
              · injection h with h; injection h with h; exact ⟨[_], h.symm⟩
              · cases h
          · cases h
        · cases h
theorem goP_pre (t : ByteArray) : ∀ (f k : Nat) (acc a : List PairB) (n : Nat), goP t f k acc = some (a, n) → ∃ r, a = acc ++ [(pairR t k).1] ++ r := by
  intro f
  induction f with
  | zero => intro k acc a n h; rw [goP] at h; cases h
  | succ f ih =>
    intro k acc a n h
    rw [goP_succ] at h
    split at h
    · split at h
      · cases h
      · split at h
        · obtain ⟨r, hr⟩ := ih _ _ _ _ h
          exact ⟨[(pairR t ((pairR t k).2.2 + 1)).1] ++ r, by rw [hr]; simp only [List.append_assoc]⟩
        · injection h with h; injection h with h; exact ⟨[], by rw [← h, List.append_nil]⟩
    · cases h
/-- more than may be, or a name that is none: it is no set -/
theorem bind_none {o : Option (List PairB × Nat)} (h : ∀ a n, o = some (a, n) → rightB a = false) : o.bind ifR = none := by
  cases o with
  | none => rfl
  | some x =>
    have := h x.1 x.2 rfl
    show ifR x = none
    unfold ifR
    rw [this]
    rfl
theorem name_run {l nm r : List UInt8} (hl : l = nm ++ 61 :: r) (hn : ∀ c ∈ nm, goodK [0, 1, 2] c = true) : l.takeWhile notEq = nm := by
  have h1 : ∀ c ∈ nm, notEq c = true := fun c hc => by
    unfold notEq
    rw [bne_iff_ne]
    intro e
    have := hn c hc
    rw [e, eq_bad] at this
    cases this
  rw [hl, List.takeWhile_append_of_pos h1, List.takeWhile_cons_of_neg (by decide), List.append_nil]
theorem goQ_goP (t : ByteArray) : ∀ (f k : Nat) (acc : List PairB) (g : Nat), 19 ≤ f + acc.length → acc.length ≤ 18 → t.size < g + k → ¬ (acc.length = 0 ∧ (atL t k).head? = some 125) → (goQ t f k acc).bind ifR = (goP t g k acc).bind ifR := by
  intro f
  induction f with
  | zero => intro k acc g h1 h2; omega
  | succ f ih =>
    intro k acc g h1 h2 h3 h4
    rw [goQ_succ]
    by_cases h18 : 18 ≤ acc.length
    · rw [if_pos h18, bind_none (o := goP t g k acc) (fun a n h => by
        obtain ⟨r, hr⟩ := goP_pre t _ _ _ _ _ h
        cases hR : rightB a with
        | false => rfl
        | true => have := right_len hR; rw [hr] at this; simp at this; omega)]
      exact bind_none (fun a n h => by
        injection h with h
        injection h with h
        cases hR : rightB a with
        | false => rfl
        | true => have := right_len hR; rw [← h] at this; omega)
    · rw [if_neg h18, if_neg h4]
      obtain ⟨nm, hnm⟩ : ∃ nm, (atL t k).takeWhile (goodK [0, 1, 2]) = nm := ⟨_, rfl⟩
      have hgood : ∀ c ∈ nm, goodK [0, 1, 2] c = true := fun c hc => by rw [← hnm] at hc; exact List.all_eq_true.1 List.all_takeWhile c hc
      obtain ⟨rest, hrest⟩ : ∃ rest, atL t k = nm ++ rest := by
        obtain ⟨r, hr⟩ := List.takeWhile_prefix (p := goodK [0, 1, 2]) (l := atL t k)
        exact ⟨r, by rw [← hnm]; exact hr.symm⟩
      by_cases h61 : rest.head? = some 61
      · obtain ⟨x, hx⟩ : ∃ x, rest = 61 :: x := by
          cases rest with
          | nil => cases h61
          | cons c x => injection h61 with h61; exact ⟨x, by rw [h61]⟩
        rw [hx] at hrest
        have htw := name_run hrest hgood
        have hpr := pair_of t k nm x hgood hrest
        by_cases h33 : nm.length ≤ 33
        · have he : endQ (atL t k) = nm.length := by unfold endQ; rw [htw]; omega
          have ha := at_add t k nm _ hrest
          have hb : atL t (k + nm.length + 1) = x := at_add t (k + nm.length) [61] x (by rw [ha]; rfl)
          rw [he, ha, List.head?_cons, if_pos rfl, hb]
          obtain ⟨⟨v, n, ok⟩, hg⟩ : ∃ z, getR x = z := ⟨_, rfl⟩
          rw [hg] at hpr ⊢
          dsimp only at hpr ⊢
          cases g with
          | zero =>
            have : atL t k = [] := at_end t k (by omega)
            rw [hrest] at this
            simp at this
          | succ g =>
            rw [goP_succ, hpr]
            dsimp only
            cases ok with
            | false => rw [if_neg (by decide), if_neg (by decide)]
            | true =>
              rw [if_pos rfl, if_pos rfl, takeR_two]
              by_cases h44 : (atL t (k + nm.length + 1 + n)).head? = some 44
              · rw [if_pos h44, if_pos h44]
                dsimp only
                rw [if_pos rfl]
                refine ih _ _ g ?_ ?_ ?_ ?_
                · rw [List.length_append, List.length_singleton]; omega
                · rw [List.length_append, List.length_singleton]; omega
                · omega
                · rw [List.length_append, List.length_singleton]; intro h; omega
              · rw [if_neg h44, if_neg h44]
                by_cases h125 : (atL t (k + nm.length + 1 + n)).head? = some 125
                · rw [if_pos h125, if_pos h125]
                  dsimp only
                  rw [if_neg (by decide)]
                  rfl
                · rw [if_neg h125, if_neg h125]
        · have he : endQ (atL t k) = 33 := by unfold endQ; rw [htw]; omega
          have hno : ¬ (atL t (k + 33)).head? = some 61 := by
            intro h
            rw [at_drop_add, hrest, List.drop_append_of_le_length (by omega)] at h
            cases hd : nm.drop 33 with
            | nil => have := congrArg List.length hd; rw [List.length_drop] at this; simp only [List.length_nil] at this; omega
            | cons c r =>
              rw [hd] at h
              injection h with h
              have := hgood c (List.mem_of_mem_drop (by rw [hd]; exact List.mem_cons_self))
              rw [h, eq_bad] at this
              cases this
          rw [he, if_neg hno]
          refine (bind_none (fun a n h => ?_)).symm
          obtain ⟨r, hr⟩ := goP_pre t _ _ _ _ _ h
          cases hR : rightB a with
          | false => rfl
          | true =>
            have h5 := right_names hR (pairR t k).1 (by rw [hr]; simp)
            rw [hpr] at h5
            dsimp only at h5
            have h6 : (t.extract k (k + nm.length)).size = nm.length := by rw [← size_toList, name_mid t k nm _ hrest]
            rw [nameB_long (by rw [h6]; omega)] at h5
            cases h5
      · have hpn : (pairR t k).2.1 = false := by
          have hrun : runTo (goodK [0, 1, 2]) t k = k + nm.length := by rw [run_at, hnm]
          have ha := at_add t k nm rest hrest
          have ht : takeR t (k + nm.length) [eqS] = none := by
            unfold eqS
            rw [takeR_byte, ha, if_neg h61]
          unfold pairR
          rw [hrun, ht]
        have hP : (goP t g k acc).bind ifR = none := by
          cases g with
          | zero => rw [goP]; rfl
          | succ g => rw [goP_succ, hpn]; rfl
        rw [hP]
        by_cases hq : (atL t (k + endQ (atL t k))).head? = some 61
        · rw [if_pos hq]
          -- the name has a byte that may not stand in one
          have hbad : nameB (t.extract k (k + endQ (atL t k))) = false := by
            cases hN : nameB (t.extract k (k + endQ (atL t k))) with
            | false => rfl
            | true =>
              exfalso
              have hall := named_good (p := (t.extract k (k + endQ (atL t k)), .empty)) hN
              have hlist : (t.extract k (k + endQ (atL t k))).data.toList = (atL t k).take (endQ (atL t k)) := by
                rw [mid_list, List.drop_take, show k + endQ (atL t k) - k = endQ (atL t k) by omega]
                rfl
              have hge : endQ (atL t k) ≤ nm.length := by
                rcases Nat.lt_or_ge nm.length (endQ (atL t k)) with h | h
                · exfalso
                  have hc : rest ≠ [] := by
                    intro e
                    have hq : endQ (atL t k) ≤ (atL t k).length := Nat.le_trans (Nat.min_le_right _ _) ((List.takeWhile_prefix notEq).length_le)
                    have hl : (atL t k).length = nm.length := by rw [hrest, e, List.append_nil]
                    omega
                  cases hr : rest with
                  | nil => exact hc hr
                  | cons c r =>
                    have hcb : goodK [0, 1, 2] c = false := by
                      cases hg : goodK [0, 1, 2] c with
                      | false => rfl
                      | true =>
                        have h9 := hnm
                        rw [hrest, List.takeWhile_append_of_pos hgood, hr, List.takeWhile_cons_of_pos hg] at h9
                        have := congrArg List.length h9
                        simp at this
                    have hmem : c ∈ (t.extract k (k + endQ (atL t k))).data.toList := by
                      rw [hlist, hrest, hr, List.take_append, List.mem_append]
                      refine .inr ?_
                      obtain ⟨j, hj⟩ : ∃ j, endQ (atL t k) - nm.length = j + 1 := ⟨endQ (atL t k) - nm.length - 1, by omega⟩
                      rw [hrest, hr] at hj
                      rw [hj, List.take_succ_cons]
                      exact List.mem_cons_self
                    have := hall c hmem
                    rw [hcb] at this
                    cases this
                · exact h
              rw [at_drop_add, hrest] at hq
              rcases Nat.lt_or_ge (endQ (nm ++ rest)) nm.length with h | h
              · rw [List.drop_append_of_le_length (by omega)] at hq
                cases hd : nm.drop (endQ (nm ++ rest)) with
                | nil => have := congrArg List.length hd; rw [List.length_drop] at this; simp only [List.length_nil] at this; omega
                | cons c r =>
                  rw [hd] at hq
                  injection hq with hq
                  have := hgood c (List.mem_of_mem_drop (by rw [hd]; exact List.mem_cons_self))
                  rw [hq, eq_bad] at this
                  cases this
              · rw [hrest] at hge
                have e : endQ (nm ++ rest) = nm.length := by omega
                rw [e] at hq
                rw [show (nm ++ rest).drop nm.length = rest by simp] at hq
                exact h61 hq
          have fin : ∀ a : List PairB, (∃ r, a = acc ++ [(t.extract k (k + endQ (atL t k)), tx (getR (atL t (k + endQ (atL t k) + 1))).1)] ++ r) → rightB a = false := fun a ⟨r, hr⟩ => by
            cases hR : rightB a with
            | false => rfl
            | true =>
              have := right_names hR (t.extract k (k + endQ (atL t k)), tx (getR (atL t (k + endQ (atL t k) + 1))).1) (by rw [hr]; simp)
              rw [hbad] at this
              cases this
          refine bind_none fun a n h => ?_
          split at h
          · split at h
            · obtain ⟨r, hr⟩ := goQ_pre t _ _ _ _ _ h
              exact fin a ⟨r, hr⟩
            · split at h
              · injection h with h
                injection h with h
                exact fin a ⟨[], by rw [← h, List.append_nil]⟩
              · cases h
          · cases h
        · rw [if_neg hq]
          rfl
theorem parseQ_is (t : ByteArray) : parseQ t = parseL t := by
  unfold parseQ parseL lbT
  rw [takeR_byte, at_zero]
  by_cases h123 : t.data.toList.head? = some 123
  · rw [if_pos h123, if_pos h123]
    dsimp only
    unfold rbT
    rw [takeR_byte]
    by_cases h125 : (atL t 1).head? = some 125
    · rw [if_pos h125]
      dsimp only
      rw [goQ_succ, if_neg (by decide), if_pos ⟨rfl, h125⟩]
      rfl
    · rw [if_neg h125]
      dsimp only
      rw [goQ_goP t 19 1 [] (t.size + 1) (by decide) (by decide) (by omega) (fun h => h125 h.2)]
      rfl
  · rw [if_neg h123, if_neg h123]
end Go.Proofs.Ytimfabnjopkhdaa
namespace Go.Proofs.Ytimfabnjopkhdaa
open Go.RowKit
set_option linter.unusedVariables false
set_option linter.unusedSimpArgs false

theorem head_at (t : ByteArray) (k : Nat) (h : k < t.size) : (atL t k).head? = some t[k] := by rw [at_cons t k h]; rfl
theorem head_end (t : ByteArray) (k : Nat) (h : t.size ≤ k) : (atL t k).head? = none := by rw [at_end t k h]; rfl
theorem endQ_end (t : ByteArray) (k : Nat) (h : t.size ≤ k) : endQ (atL t k) = 0 := by rw [at_end t k h]; rfl
/-- as far as a byte goes that the run has, or has not -/
theorem run_step {α : Type} (p : α → Bool) : ∀ (l : List α) (j : Nat) (c : α), j ≤ (l.takeWhile p).length → l[j]? = some c → (p c = true → j + 1 ≤ (l.takeWhile p).length) ∧ (p c = false → (l.takeWhile p).length = j)
  | [], j, c, _, hc => by simp at hc
  | x :: l, 0, c, _, hc => by
    have e : x = c := by simpa using hc
    subst e
    refine ⟨fun h => ?_, fun h => ?_⟩
    · rw [List.takeWhile_cons_of_pos h, List.length_cons]; omega
    · rw [List.takeWhile_cons_of_neg (by rw [h]; decide)]; rfl
  | x :: l, j + 1, c, hj, hc => by
    cases hx : p x with
    | false => rw [List.takeWhile_cons_of_neg (by rw [hx]; decide)] at hj; simp at hj
    | true =>
      rw [List.takeWhile_cons_of_pos hx, List.length_cons] at hj ⊢
      obtain ⟨h1, h2⟩ := run_step p l j c (by omega) (by simpa using hc)
      exact ⟨fun h => by have := h1 h; omega, fun h => by have := h2 h; omega⟩
/-- no end of a name from k up to e -/
def NoEnd (t : ByteArray) (k e : Nat) : Prop := k ≤ e ∧ e ≤ k + 33 ∧ e - k ≤ ((atL t k).takeWhile notEq).length
theorem at_get (t : ByteArray) (k e : Nat) (hk : k ≤ e) (he : e < t.size) : (atL t k)[e - k]? = some t[e] := by
  have h := head_at t e he
  have e1 : atL t e = (atL t k).drop (e - k) := by rw [← at_drop_add, show k + (e - k) = e by omega]
  rw [e1, List.head?_drop] at h
  exact h
theorem NoEnd.start (t : ByteArray) (k : Nat) : NoEnd t k k := ⟨Nat.le_refl _, by omega, by omega⟩
theorem NoEnd.next {t : ByteArray} {k e : Nat} (h : NoEnd t k e) (he : e < t.size) (hc : t[e] ≠ 61) (h33 : e < k + 33) : NoEnd t k (e + 1) := by
  refine ⟨by have := h.1; omega, by omega, ?_⟩
  have := (run_step notEq _ _ _ h.2.2 (at_get t k e h.1 he)).1 (by unfold notEq; rw [bne_iff_ne]; exact hc)
  have := h.1
  omega
theorem NoEnd.here {t : ByteArray} {k e : Nat} (h : NoEnd t k e) (he : e < t.size) (hc : t[e] = 61) : e = k + endQ (atL t k) := by
  have := (run_step notEq _ _ _ h.2.2 (at_get t k e h.1 he)).2 (by unfold notEq; rw [hc]; decide)
  have := h.1
  have := h.2.1
  unfold endQ
  omega
theorem NoEnd.far {t : ByteArray} {k e : Nat} (h : NoEnd t k e) (h33 : e = k + 33) : e = k + endQ (atL t k) := by
  have := h.2.2
  unfold endQ
  omega
theorem NoEnd.over {t : ByteArray} {k e : Nat} (h : NoEnd t k e) (he : e = t.size) : e = k + endQ (atL t k) := by
  have h1 : ((atL t k).takeWhile notEq).length ≤ (atL t k).length := (List.takeWhile_prefix _).length_le
  rw [at_len] at h1
  have := h.1
  have := h.2.1
  have := h.2.2
  unfold endQ
  omega

set_option maxRecDepth 100000 in
set_option maxHeartbeats 6400000 in
theorem refParseL_any (t : ByteArray) (hs : t.size ≤ 16000000) (W : World) :
    Calls Try.prog 31 #[.string t] W fun e w' => ∃ v, e = .returned (parseV v (parseQ t)) ∧ OwnQ w' W.heap.size v (parsedL (parseQ t)) ∧ Below W.heap.size W w' := by
  have h0 : W.heap.size ≤ W.heap.size := Nat.le_refl _
  obtain ⟨i0, hi, hz0, hz1, hz2⟩ := info_parts infoPair6
  obtain ⟨Z0, hZ0⟩ : ∃ Z, parseQ t = Z := ⟨_, rfl⟩
  rw [hZ0]
  by_cases hz : t.size = 0
  · have E := Lib.hid (show none = Z0 from by
      rw [← hZ0]
      unfold parseQ
      have : t.data.toList = [] := List.eq_nil_of_length_eq_zero (by simpa using hz)
      rw [this]
      rfl)
    have hem : t.toList = [] := by rw [Lib.toList_data]; exact List.eq_nil_of_length_eq_zero (by simpa using hz)
    have hem2 : t.toList.isEmpty = true := by rw [hem]; rfl
    have hH := Lib.hid hz
    clear hz hZ0
    go_enter Try.func31, Try.ntmps31
    go_wp2
    go_ret3
    exact ⟨_, by rw [← E.out]; rfl, by rw [← E.out]; exact OwnR.nil _ _ _, Below.refl _ _⟩
  · obtain ⟨r, hr, hrl⟩ := bytes_cons t (by omega)
    obtain ⟨c0, hc0⟩ : ∃ c, t[0] = c := ⟨_, rfl⟩
    rw [hc0] at hr
    have hp : 0 < t.size := by omega
    have hp' : (0 : Int) < (t.size : Int) := by omega
    have hne : t.toList.isEmpty = false := by rw [Lib.toList_data, hr]; rfl
    have hne2 : ¬ t.toList = [] := by rw [Lib.toList_data, hr]; simp
    by_cases h1 : c0 = 123
    · obtain ⟨g1, g2⟩ := byte_eq c0 123 h1
      replace g1 : ((c0.toNat : Int) == 123) = true := g1
      replace g2 : ((c0.toNat : Int) != 123) = false := g2
      have HQ := Lib.hid (show (goQ t 19 1 []).bind ifR = Z0 from by
        rw [← hZ0]
        unfold parseQ
        rw [hr, h1, List.head?_cons, if_pos rfl])
      clear hZ0 hr h1
      go_enter Try.func31, Try.ntmps31
      go_wp2
      go_loopw [5, 6] (fun ov kv wr => ∃ (f k : Nat) (acc : List PairB), kv = .int .i64 k ∧ 1 ≤ k ∧ k ≤ t.size ∧ 19 ≤ f + acc.length ∧ acc.length ≤ 18 ∧ Hid ((goQ t f k acc).bind ifR = Z0) ∧ OwnQ wr W.heap.size ov acc ∧ Below W.heap.size W wr) (fun _ kv _ => t.size - (intOf kv).toNat)
      case atStart => exact ⟨19, 1, [], rfl, Nat.le_refl _, hp, by decide, by decide, HQ.out, OwnR.nil _ _ _, Below.refl _ _⟩
      case round =>
        obtain ⟨f, k, acc, rfl, hk1, hkt, hf, hl18, HT, hown, hb⟩ := hrel
        obtain ⟨f, rfl⟩ : ∃ f', f = f' + 1 := ⟨f - 1, by
          rcases Nat.eq_zero_or_pos f with h | h
          · omega
          · omega⟩
        have hsz := hb.size
        have hT := HT.out
        rw [goQ_succ] at hT
        clear HT
        obtain ⟨A0, cap0, rfl, hcap0, _, hp0⟩ := OwnQ.pairs hown
        by_cases hm : acc.length < 18
        · have hmI : (acc.length : Int) < 18 := by omega
          rw [if_neg (show ¬ 18 ≤ acc.length by omega)] at hT
          by_cases hkn : k < t.size
          · have hkI : (k : Int) < (t.size : Int) := by omega
            have hhd := head_at t k hkn
            obtain ⟨c, hcc⟩ : ∃ c, t[k] = c := ⟨_, rfl⟩
            rw [hcc] at hhd
            have hne1 := fun (h : c = 125) => byte_eq c 125 h
            have hne2 := fun (h : c ≠ 125) => byte_ne c 125 h
            by_cases hend : acc.length = 0 ∧ c = 125
            · obtain ⟨hm0, hc5⟩ := hend
              obtain ⟨k1, k2⟩ := hne1 hc5
              replace k1 : ((c.toNat : Int) == 125) = true := k1
              have hnil : acc = [] := List.eq_nil_of_length_eq_zero hm0
              subst hnil
              rw [if_pos ⟨rfl, by rw [hhd, hc5]⟩] at hT
              have hE : (if rightB ([] : List PairB) = true then some (([] : List PairB), k + 1) else none) = Z0 := hT
              clear hne1 hne2 hhd hc5 hT hf hl18
              have RT := refRight_any A0 ([] : List PairB).length cap0 ([] : List PairB) (by omega) wr hp0
              obtain ⟨rb, hrb⟩ : ∃ r, rightB ([] : List PairB) = r := ⟨_, rfl⟩
              have hfin : (if rb = true then some (([] : List PairB), (k + 1)) else none) = Z0 := by rw [← hrb]; exact hE
              rw [hrb] at RT
              replace RT := Lib.hid RT
              have HF := Lib.hid hfin
              have HOW := Lib.hid hown
              have HB := Lib.hid hb
              clear hrb hfin hp0
              go_wp2_with fail
              refine RT.out.mono ?_
              rintro e w9 ⟨rfl, hx⟩
              have hb9 := hop HB.out h0 hx
              have ho9 := HOW.out.below hx
              cases rb with
              | false =>
                have E := Lib.hid (show none = Z0 from by have := HF.out; simpa using this)
                clear hx ho9
                go_wp2
                go_ret3
                exact ⟨_, by rw [← E.out]; rfl, by rw [← E.out]; exact OwnR.nil _ _ _, hb9⟩
              | true =>
                have E := Lib.hid (show some (([] : List PairB), (k + 1)) = Z0 from by have := HF.out; rw [if_pos rfl] at this; exact this)
                clear hx
                go_wp2
                go_ret3
                exact ⟨_, by rw [← E.out]; rfl, by rw [← E.out]; exact ho9, hb9⟩
            · rw [if_neg (show ¬ (acc.length = 0 ∧ (atL t k).head? = some 125) from fun h => hend ⟨h.1, by rw [hhd] at h; exact Option.some.inj h.2⟩)] at hT
              have hway : (((c.toNat : Int) == 125) = false) ∨ (((c.toNat : Int) == 125) = true ∧ ((acc.length : Int) == 0) = false) := by
                by_cases h5 : c = 125
                · exact .inr ⟨(hne1 h5).1, by rw [beq_eq_false_iff_ne]; intro h; exact hend ⟨by omega, h5⟩⟩
                · exact .inl (hne2 h5).1
              have HT := Lib.hid hT
              have HHD := Lib.hid hhd
              clear hne1 hne2 hend hT hhd
              rcases hway with g5 | ⟨g5, g6⟩
              all_goals
                go_wp2
                go_loopw [7] (fun ev w2 => ∃ e : Nat, ev = .int .i64 e ∧ e ≤ t.size ∧ Hid (NoEnd t k e) ∧ k ≤ e ∧ e ≤ k + 33 ∧ w2 = wr) (fun ev _ => t.size - (intOf ev).toNat)
                case atStart => exact ⟨k, rfl, hkt, Lib.hid (NoEnd.start t k), Nat.le_refl _, by omega, rfl⟩
                case round =>
                  obtain ⟨e, rfl, het, HE, hke, he33, rfl⟩ := hrel
                  by_cases hen : e < t.size
                  · have heI : (e : Int) < (t.size : Int) := by omega
                    obtain ⟨d, hdd⟩ : ∃ c, t[e] = c := ⟨_, rfl⟩
                    by_cases hd : d = 61
                    · obtain ⟨d1, d2⟩ := byte_eq d 61 hd
                      replace d1 : ((d.toNat : Int) == 61) = true := d1
                      replace d2 : ((d.toNat : Int) != 61) = false := d2
                      have heq := HE.out.here hen (by rw [hdd, hd])
                      have hT := HT.out
                      rw [← heq, head_at t e hen, hdd, hd, if_pos rfl] at hT
                      have RG := fun w => refGet_any (t.extract (e + 1) t.size) (by rw [ByteArray.size_extract]; omega) w
                      simp only [rest_list] at RG
                      have hgl := getR_le (atL t (e + 1))
                      rw [at_len] at hgl
                      obtain ⟨⟨v, n, ok⟩, hg⟩ : ∃ z, getR (atL t (e + 1)) = z := ⟨_, rfl⟩
                      rw [hg] at hT hgl
                      simp only [hg] at RG
                      dsimp only at hT hgl
                      have htx : (⟨v.toArray⟩ : ByteArray) = tx v := rfl
                      simp only [htx] at RG
                      obtain ⟨x, hx⟩ : ∃ x, tx v = x := ⟨_, rfl⟩
                      rw [hx] at hT
                      simp only [hx] at RG
                      replace RG := Lib.hid RG
                      have HT2 := Lib.hid hT
                      have HOWN := Lib.hid hown
                      have hwp : IntKind.i64.wrap ((e : Int) + 1) = ((e + 1 : Nat) : Int) := by rw [IntKind.wrap_i64]; omega
                      clear hg hx htx hT hd heq hown hp0 HE
                      go_wp2_with fail
                      refine (RG.out _).mono ?_
                      rintro e5 w5 ⟨rfl, hx5⟩
                      have hb5 := hop hb h0 hx5
                      have ho5 := HOWN.out.below hx5
                      have hs5 := hb5.size
                      clear hx5
                      cases ok with
                      | false =>
                        have E := Lib.hid (show none = Z0 from by have := HT2.out; simpa using this)
                        clear HT2 RG
                        go_wp2
                        go_ret3
                        exact ⟨_, by rw [← E.out]; rfl, by rw [← E.out]; exact OwnR.nil _ _ _, hb5⟩
                      | true =>
                        have hT2 := HT2.out
                        rw [if_pos rfl] at hT2
                        have hT3 := Lib.hid hT2
                        clear HT2 hT2 RG
                        go_wp2_with (at_builtin; refine wpList_append_own _ rfl (.tmp 78) (.tmp 85) 26 rfl W.heap.size 38 i0 (.agg #[.string ⟨#[]⟩, .string ⟨#[]⟩]) 2 32 Try.underlying26 hi hz0 hz1 hz2 rfl (by decide) _ _ _ rfl (OwnR.alloc ho5 _) ⟨w5.heap.size, 0, none⟩ 1 1 (pairV (t.extract k e, x)) rfl rfl (new_cells_at _ _ _ _ (by simp)) (pairV_one _) (by unfold maxLen; omega) (by omega) (by simp; omega) ?_)
                        intro v' w7 hown' hgrow _
                        have hb7 := (hb5.alloc hs5 _).grown hgrow (by simp; omega) (fun r hr => (World.ownsRow.lt ho5 r hr).1)
                        have hown7 : OwnQ w7 W.heap.size v' (acc ++ [(t.extract k e, x)]) := OwnR.snoc (a := ((t.extract k e, x) : PairB)) hown'
                        have hlen : (acc ++ [(t.extract k e, x)]).length = acc.length + 1 := by rw [List.length_append, List.length_singleton]
                        obtain ⟨ac2, hac2⟩ : ∃ y, acc ++ [(t.extract k e, x)] = y := ⟨_, rfl⟩
                        rw [hac2] at hown7 hlen
                        have hl2 : ac2.length ≤ 18 := by omega
                        have hl3 : 19 ≤ f + ac2.length := by omega
                        clear hlen
                        have hT4 := hT3.out
                        rw [hac2] at hT4
                        obtain ⟨A1, cap1, rfl, hcap1, _, hp1⟩ := OwnQ.pairs hown7
                        obtain ⟨p, hpd⟩ : ∃ p, e + 1 + n = p := ⟨_, rfl⟩
                        have hpt : p ≤ t.size := by omega
                        have hpk : k < p := by omega
                        have hwn : IntKind.i64.wrap (((e + 1 : Nat) : Int) + (n : Int)) = (p : Int) := by rw [IntKind.wrap_i64]; omega
                        have hwn2 : IntKind.i64.wrap ((e : Int) + 1 + (n : Int)) = (p : Int) := by rw [IntKind.wrap_i64]; omega
                        have hwn3 : IntKind.i64.wrap ((p : Int) + 1) = (p : Int) + 1 := by rw [IntKind.wrap_i64]; omega
                        have hwn4 : IntKind.i64.wrap ((p : Int) + 1 - 1) = (p : Int) := by rw [IntKind.wrap_i64]; omega
                        rw [hpd] at hT4
                        have HOW7 := Lib.hid hown7
                        clear hown' hgrow hac2 hT3 hown7 hpd hgl
                        by_cases hpn : p < t.size
                        · have hpI : (p : Int) < (t.size : Int) := by omega
                          have hh := head_at t p hpn
                          obtain ⟨q, hq⟩ : ∃ c, t[p] = c := ⟨_, rfl⟩
                          rw [hq] at hh
                          rw [hh] at hT4
                          clear hh
                          by_cases q44 : q = 44
                          · obtain ⟨k1, k2⟩ := byte_eq q 44 q44
                            replace k1 : ((q.toNat : Int) == 44) = true := k1
                            replace k2 : ((q.toNat : Int) != 44) = false := k2
                            obtain ⟨k3, k4⟩ := byte_ne q 125 (by rw [q44]; decide)
                            replace k3 : ((q.toNat : Int) == 125) = false := k3
                            replace k4 : ((q.toNat : Int) != 125) = true := k4
                            rw [q44, if_pos rfl] at hT4
                            have HT5 := Lib.hid hT4
                            clear hT4 q44 hp1
                            go_wp2
                            go_round
                            case rel => exact ⟨f, p + 1, ac2, by go_num, by omega, by omega, hl3, hl2, HT5.out, HOW7.out, hb7⟩
                            case measure => simp [intOf]; omega
                          · rw [if_neg (show ¬ (some q = some (44 : UInt8)) from fun h => q44 (Option.some.inj h))] at hT4
                            obtain ⟨k1, k2⟩ := byte_ne q 44 q44
                            replace k1 : ((q.toNat : Int) == 44) = false := k1
                            replace k2 : ((q.toNat : Int) != 44) = true := k2
                            by_cases q125 : q = 125
                            · obtain ⟨k3, k4⟩ := byte_eq q 125 q125
                              replace k3 : ((q.toNat : Int) == 125) = true := k3
                              replace k4 : ((q.toNat : Int) != 125) = false := k4
                              rw [q125, if_pos rfl] at hT4
                              have hE : (if rightB ac2 = true then some (ac2, p + 1) else none) = Z0 := hT4
                              clear hT4 q44 q125
                              have RT := refRight_any A1 ac2.length cap1 ac2 (by omega) w7 hp1
                              obtain ⟨rb, hrb⟩ : ∃ r, rightB ac2 = r := ⟨_, rfl⟩
                              have hfin : (if rb = true then some (ac2, (p + 1)) else none) = Z0 := by rw [← hrb]; exact hE
                              rw [hrb] at RT
                              replace RT := Lib.hid RT
                              have HF := Lib.hid hfin
                              have HOW := Lib.hid HOW7.out
                              have HB := Lib.hid hb7
                              clear hrb hfin hp1
                              go_wp2_with fail
                              refine RT.out.mono ?_
                              rintro e w9 ⟨rfl, hx⟩
                              have hb9 := hop HB.out h0 hx
                              have ho9 := HOW.out.below hx
                              cases rb with
                              | false =>
                                have E := Lib.hid (show none = Z0 from by have := HF.out; simpa using this)
                                clear hx ho9
                                go_wp2
                                go_ret3
                                exact ⟨_, by rw [← E.out]; rfl, by rw [← E.out]; exact OwnR.nil _ _ _, hb9⟩
                              | true =>
                                have E := Lib.hid (show some (ac2, (p + 1)) = Z0 from by have := HF.out; rw [if_pos rfl] at this; exact this)
                                clear hx
                                go_wp2
                                go_ret3
                                exact ⟨_, by rw [← E.out]; rfl, by rw [← E.out]; exact ho9, hb9⟩
                            · obtain ⟨k3, k4⟩ := byte_ne q 125 q125
                              replace k3 : ((q.toNat : Int) == 125) = false := k3
                              replace k4 : ((q.toNat : Int) != 125) = true := k4
                              rw [if_neg (show ¬ (some q = some (125 : UInt8)) from fun h => q125 (Option.some.inj h))] at hT4
                              have E := Lib.hid (show none = Z0 from hT4)
                              clear hT4 q44 q125 hp1
                              go_wp2
                              go_ret3
                              exact ⟨_, by rw [← E.out]; rfl, by rw [← E.out]; exact OwnR.nil _ _ _, hb7⟩
                        · have hpI : ¬ (p : Int) < (t.size : Int) := by omega
                          have hpI2 : (t.size : Int) ≤ (p : Int) := by omega
                          rw [head_end t p (by omega), if_neg nofun, if_neg nofun] at hT4
                          have E := Lib.hid (show none = Z0 from hT4)
                          clear hT4 hp1
                          go_wp2
                          go_ret3
                          exact ⟨_, by rw [← E.out]; rfl, by rw [← E.out]; exact OwnR.nil _ _ _, hb7⟩
                    · obtain ⟨d1, d2⟩ := byte_ne d 61 hd
                      replace d1 : ((d.toNat : Int) == 61) = false := d1
                      replace d2 : ((d.toNat : Int) != 61) = true := d2
                      have hwk : IntKind.i64.wrap ((k : Int) + 33) = (k : Int) + 33 := by rw [IntKind.wrap_i64]; omega
                      by_cases h33 : e < k + 33
                      · have h33I : (e : Int) < (k : Int) + 33 := by omega
                        have HN := Lib.hid (HE.out.next hen (by rw [hdd]; exact hd) h33)
                        clear hd
                        go_wp2
                        go_round
                        case rel => exact ⟨e + 1, by go_num, by omega, HN, by omega, by omega, by first | rfl | trivial⟩
                        case measure => simp [intOf]; omega
                      · have h33I : ¬ (e : Int) < (k : Int) + 33 := by omega
                        have heq := HE.out.far (by omega)
                        have hT := HT.out
                        rw [← heq, head_at t e hen, hdd, if_neg (show ¬ (some d = some (61 : UInt8)) from fun h => hd (Option.some.inj h))] at hT
                        have E := Lib.hid (show none = Z0 from hT)
                        clear hT heq hd
                        go_wp2
                        go_ret3
                        exact ⟨_, by rw [← E.out]; rfl, by rw [← E.out]; exact OwnR.nil _ _ _, hb⟩
                  · have heI : ¬ (e : Int) < (t.size : Int) := by omega
                    have heI2 : (t.size : Int) ≤ (e : Int) := by omega
                    have heq := HE.out.over (by omega)
                    have hT := HT.out
                    rw [← heq, head_end t e (by omega), if_neg nofun] at hT
                    have E := Lib.hid (show none = Z0 from hT)
                    clear hT heq
                    go_wp2
                    go_ret3
                    exact ⟨_, by rw [← E.out]; rfl, by rw [← E.out]; exact OwnR.nil _ _ _, hb⟩
          · have hkI : ¬ (k : Int) < (t.size : Int) := by omega
            obtain rfl : k = t.size := by omega
            rw [if_neg (show ¬ (acc.length = 0 ∧ (atL t t.size).head? = some 125) from fun h => by rw [head_end t t.size (Nat.le_refl _)] at h; cases h.2), endQ_end t t.size (Nat.le_refl _), Nat.add_zero, head_end t t.size (Nat.le_refl _), if_neg nofun] at hT
            have E := Lib.hid (show none = Z0 from hT)
            clear hT hown hp0
            go_wp2
            go_loopw [7] (fun ev w2 => ev = .int .i64 t.size ∧ w2 = wr) (fun _ _ => 0)
            case atStart => exact ⟨rfl, rfl⟩
            case round =>
              obtain ⟨rfl, rfl⟩ := hrel
              go_wp2
              go_ret3
              exact ⟨_, by rw [← E.out]; rfl, by rw [← E.out]; exact OwnR.nil _ _ _, hb⟩
        · have hmI : ¬ (acc.length : Int) < 18 := by omega
          rw [if_pos (show 18 ≤ acc.length by omega)] at hT
          have hE : (if rightB acc = true then some (acc, k) else none) = Z0 := hT
          clear hT hf
          have RT := refRight_any A0 acc.length cap0 acc (by omega) wr hp0
          obtain ⟨rb, hrb⟩ : ∃ r, rightB acc = r := ⟨_, rfl⟩
          have hfin : (if rb = true then some (acc, k) else none) = Z0 := by rw [← hrb]; exact hE
          rw [hrb] at RT
          replace RT := Lib.hid RT
          have HF := Lib.hid hfin
          have HOW := Lib.hid hown
          have HB := Lib.hid hb
          clear hrb hfin hp0
          go_wp2_with fail
          refine RT.out.mono ?_
          rintro e w9 ⟨rfl, hx⟩
          have hb9 := hop HB.out h0 hx
          have ho9 := HOW.out.below hx
          cases rb with
          | false =>
            have E := Lib.hid (show none = Z0 from by have := HF.out; simpa using this)
            clear hx ho9
            go_wp2
            go_ret3
            exact ⟨_, by rw [← E.out]; rfl, by rw [← E.out]; exact OwnR.nil _ _ _, hb9⟩
          | true =>
            have E := Lib.hid (show some (acc, k) = Z0 from by have := HF.out; rw [if_pos rfl] at this; exact this)
            clear hx
            go_wp2
            go_ret3
            exact ⟨_, by rw [← E.out]; rfl, by rw [← E.out]; exact ho9, hb9⟩
    · obtain ⟨g1, g2⟩ := byte_ne c0 123 h1
      replace g1 : ((c0.toNat : Int) == 123) = false := g1
      replace g2 : ((c0.toNat : Int) != 123) = true := g2
      have E := Lib.hid (show none = Z0 from by
        rw [← hZ0]
        unfold parseQ
        rw [hr, List.head?_cons, if_neg (fun h => h1 (Option.some.inj h))])
      clear hZ0 hr h1
      go_enter Try.func31, Try.ntmps31
      go_wp2
      go_ret3
      exact ⟨_, by rw [← E.out]; rfl, by rw [← E.out]; exact OwnR.nil _ _ _, Below.refl _ _⟩
end Go.Proofs.Ytimfabnjopkhdaa
