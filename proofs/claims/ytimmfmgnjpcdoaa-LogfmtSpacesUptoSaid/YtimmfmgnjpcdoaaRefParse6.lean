/- The document's own text of labels.
   The document's own set of labels.
   The document's own labels that a text begins with: what they are.
   The document's own labels that a text begins with: the walk. -/
import Derived.Test.YtimmfmgnjpcdoaaRefLab
import Derived.Test.YtimmfmgnjpcdoaaLabBackMath
import Derived.Test.YtimmfmgnjpcdoaaRefPut
import Derived.Laws.AppendOwnNone
namespace Go.Proofs.Ytimmfmgnjpcdoaa
open Go.RowKit
set_option linter.unusedVariables false
set_option linter.unusedSimpArgs false

/-- the text after so many labels -/
def textTo (ps : List PairB) : Nat → ByteArray
  | 0 => ⟨#[123]⟩
  | j + 1 => (if j = 0 then textTo ps j else textTo ps j ++ (⟨#[44]⟩ : ByteArray)) ++ (ps.getD j pnil).1 ++ (⟨#[61]⟩ : ByteArray) ++ putS (ps.getD j pnil).2
theorem join_snoc (l : List (List UInt8)) (x sep : List UInt8) : Lib.join (l ++ [x]) sep = if l = [] then x else Lib.join l sep ++ sep ++ x := by
  cases l with
  | nil => rw [if_pos rfl, List.nil_append, Lib.join_one]
  | cons a r =>
    rw [if_neg (by simp), List.cons_append, Lib.join_cons, Lib.join_cons]
    simp [Lib.joinTail]
theorem textTo_list (ps : List PairB) (j : Nat) (hj : j ≤ ps.length) : (textTo ps j).data.toList = 123 :: Lib.join ((ps.take j).map partL) [44] := by
  induction j with
  | zero => rfl
  | succ j ih =>
    have h := ih (by omega)
    have hs : (ps.take (j + 1)).map partL = (ps.take j).map partL ++ [partL (ps.getD j pnil)] := by
      rw [List.take_succ_eq_append_getElem (by omega), List.map_append, List.getD_eq_getElem?_getD, List.getElem?_eq_getElem (by omega)]
      rfl
    have hp : partL (ps.getD j pnil) = (ps.getD j pnil).1.data.toList ++ 61 :: (putS (ps.getD j pnil).2).data.toList := by
      unfold partL putS
      rfl
    rw [hs, join_snoc, textTo, text_joined, text_joined, text_joined, hp]
    by_cases h0 : j = 0
    · subst h0
      rw [if_pos rfl, h, List.take_zero, List.map_nil, if_pos rfl]
      simp [Lib.join_nil]
    · have hne : ¬ (ps.take j).map partL = [] := by
        intro e
        have := congrArg List.length e
        rw [List.length_map, List.length_take] at this
        simp only [List.length_nil] at this
        omega
      rw [if_neg h0, if_neg hne, text_joined, h]
      simp
theorem textTo_all (ps : List PairB) : textTo ps ps.length ++ (⟨#[125]⟩ : ByteArray) = textT ps := by
  refine text_ext1 ?_
  rw [text_joined, textTo_list ps _ (Nat.le_refl _), List.take_length, text_list]
  cases ps with
  | nil => rfl
  | cons p r =>
    rw [List.map_cons, Lib.join_cons, textL, ← end_join p r]
    have e : (r.map partT).map (·.data.toList) = r.map partL := by
      rw [List.map_map]
      exact List.map_congr_left fun q _ => part_list q
    rw [e]
    rfl
theorem textTo_size (ps : List PairB) (hps : ∀ p ∈ ps, p.1.size ≤ 1048576 ∧ p.2.size ≤ 1048576) (j : Nat) (hj : j ≤ ps.length) : (textTo ps j).size ≤ 1 + j * 6000000 := by
  induction j with
  | zero => show 1 ≤ _; omega
  | succ j ih =>
    have h := ih (by omega)
    have hm : ps.getD j pnil ∈ ps := by
      rw [List.getD_eq_getElem?_getD, List.getElem?_eq_getElem (by omega)]
      exact List.getElem_mem _
    have h1 := hps _ hm
    have h2 := putS_size (ps.getD j pnil).2
    have one : (⟨#[61]⟩ : ByteArray).size = 1 := rfl
    have two : (⟨#[44]⟩ : ByteArray).size = 1 := rfl
    rw [textTo, ByteArray.size_append, ByteArray.size_append, ByteArray.size_append, one]
    have h3 : (if j = 0 then textTo ps j else textTo ps j ++ (⟨#[44]⟩ : ByteArray)).size ≤ (textTo ps j).size + 1 := by
      split
      · omega
      · rw [ByteArray.size_append, two]; exact Nat.le_refl _
    rw [Nat.succ_mul]
    omega
end Go.Proofs.Ytimmfmgnjpcdoaa
namespace Go.Proofs.Ytimmfmgnjpcdoaa
open Go.RowKit
set_option linter.unusedVariables false
set_option linter.unusedSimpArgs false

/-- how many stand ahead -/
def aheadN (p : PairB) (out : List PairB) : Nat := (out.takeWhile (fun q => decide (txtC q.1 p.1 < 0))).length
def sameAt (p : PairB) (out : List PairB) (k : Nat) : Bool := decide (k < out.length) && decide ((out.getD k pnil).1 = p.1)
def insR (out : List PairB) (p : PairB) : List PairB := out.take (aheadN p out) ++ [p] ++ out.drop (aheadN p out + (if sameAt p out (aheadN p out) = true then 1 else 0))
def refTo (ps : List PairB) : Nat → List PairB
  | 0 => []
  | i + 1 => if nameB (ps.getD i pnil).1 = true then insR (refTo ps i) (ps.getD i pnil) else refTo ps i
def refOfL (ps : List PairB) : List PairB := refTo ps ps.length
theorem ahead_le (p : PairB) (out : List PairB) : aheadN p out ≤ out.length := (List.takeWhile_prefix _).length_le
theorem insR_len (out : List PairB) (p : PairB) : 1 ≤ (insR out p).length ∧ (insR out p).length ≤ out.length + 1 := by
  have := ahead_le p out
  unfold insR
  rw [List.length_append, List.length_append, List.length_take, List.length_drop, List.length_singleton]
  omega
theorem refTo_len (ps : List PairB) (i : Nat) : (refTo ps i).length ≤ i := by
  induction i with
  | zero => exact Nat.le_refl _
  | succ i ih =>
    rw [refTo]
    split
    · have := insR_len (refTo ps i) (ps.getD i pnil); omega
    · omega
theorem ahead_is (p : PairB) (out : List PairB) (k : Nat) (h : ∀ j, j < k → ∃ q, out[j]? = some q ∧ txtC q.1 p.1 < 0) (hend : ∀ q, out[k]? = some q → ¬ txtC q.1 p.1 < 0) : aheadN p out = k := by
  unfold aheadN
  induction out generalizing k with
  | nil =>
    cases k with
    | zero => rfl
    | succ k => obtain ⟨q, hq, _⟩ := h 0 (by omega); cases hq
  | cons a out ih =>
    cases k with
    | zero => rw [List.takeWhile_cons_of_neg (by rw [decide_eq_false (hend a rfl)]; decide)]; rfl
    | succ k =>
      obtain ⟨q, hq, hlt⟩ := h 0 (by omega)
      injection hq with hq
      subst hq
      rw [List.takeWhile_cons_of_pos (by rw [decide_eq_true hlt]), List.length_cons]
      rw [ih k (fun j hj => by have := h (j + 1) (by omega); simpa using this) (fun q hq => hend q (by simpa using hq))]
theorem rowV_drop (l : List PairB) (k : Nat) (hk : k ≤ l.length) : rowV pairV l = rowV pairV (l.take k) ++ rowV pairV (l.drop k) := by rw [← rowV_app, List.take_append_drop]
/-- the cells of a row of labels, from one on -/
theorem row_from {w : World} {g : Nat} {l : List PairB} (h : ∀ (j i : Nat) (a : PairB), l[j]? = some a → i < 2 → w.cell? ⟨g, j * 2 + i, none⟩ = (pairV a)[i]?) (k : Nat) : ∀ (t : Nat) (u : Value), (rowV pairV (l.drop k))[t]? = some u → w.cell? ((⟨g, k * 2, none⟩ : Addr).add t) = some u := by
  intro t u hu
  have hlt : t < (l.drop k).length * 2 := by
    rcases Nat.lt_or_ge t ((l.drop k).length * 2) with h1 | h1
    · exact h1
    · rw [List.getElem?_eq_none (by rw [rowV_len pairV_len]; exact h1)] at hu; cases hu
  have hj : t / 2 < (l.drop k).length := by omega
  have ha : (l.drop k)[t / 2]? = some (l.drop k)[t / 2] := List.getElem?_eq_getElem hj
  have h1 := rowV_at pairV_len (l.drop k) (t / 2) (t % 2) _ ha (by omega)
  rw [show t / 2 * 2 + t % 2 = t by omega, hu] at h1
  have h2 : l[k + t / 2]? = some (l.drop k)[t / 2] := by rw [← List.getElem?_drop]; exact ha
  rw [ints_add, show k * 2 + t = (k + t / 2) * 2 + t % 2 by omega, h _ _ _ h2 (by omega), ← h1]
theorem row_upto {w : World} {g : Nat} {l : List PairB} (h : ∀ (j i : Nat) (a : PairB), l[j]? = some a → i < 2 → w.cell? ⟨g, j * 2 + i, none⟩ = (pairV a)[i]?) (k : Nat) : ∀ (t : Nat) (u : Value), (rowV pairV (l.take k))[t]? = some u → w.cell? ((⟨g, 0, none⟩ : Addr).add t) = some u := by
  have h2 : ∀ (j i : Nat) (a : PairB), (l.take k)[j]? = some a → i < 2 → w.cell? ⟨g, j * 2 + i, none⟩ = (pairV a)[i]? := fun j i a ha hi => by
    rcases Nat.lt_or_ge j k with hjk | hjk
    · rw [List.getElem?_take_of_lt hjk] at ha
      exact h j i a ha hi
    · rw [List.getElem?_eq_none (by rw [List.length_take]; omega)] at ha; cases ha
  have := row_from (l := l.take k) h2 0
  rw [List.drop_zero, Nat.zero_mul] at this
  exact this
end Go.Proofs.Ytimmfmgnjpcdoaa
namespace Go.Proofs.Ytimmfmgnjpcdoaa
open Go.RowKit
set_option linter.unusedVariables false
set_option linter.unusedSimpArgs false

def notEq (c : UInt8) : Bool := c != 61
/-- where a name ends -/
def endQ (l : List UInt8) : Nat := min 33 (l.takeWhile notEq).length
def goQ (t : ByteArray) : Nat → Nat → List PairB → Option (List PairB × Nat)
  | 0, k, acc => some (acc, k)
  | f + 1, k, acc =>
    if 18 ≤ acc.length then some (acc, k)
    else if acc.length = 0 ∧ (atL t k).head? = some 125 then some (acc, k + 1)
    else if (atL t (k + endQ (atL t k))).head? = some 61 then
      (if (getR (atL t (k + endQ (atL t k) + 1))).2.2 = true then
        (if (atL t (k + endQ (atL t k) + 1 + (getR (atL t (k + endQ (atL t k) + 1))).2.1)).head? = some 44 then
          goQ t f (k + endQ (atL t k) + 1 + (getR (atL t (k + endQ (atL t k) + 1))).2.1 + 1) (acc ++ [(t.extract k (k + endQ (atL t k)), tx (getR (atL t (k + endQ (atL t k) + 1))).1)])
        else if (atL t (k + endQ (atL t k) + 1 + (getR (atL t (k + endQ (atL t k) + 1))).2.1)).head? = some 125 then
          some (acc ++ [(t.extract k (k + endQ (atL t k)), tx (getR (atL t (k + endQ (atL t k) + 1))).1)], k + endQ (atL t k) + 1 + (getR (atL t (k + endQ (atL t k) + 1))).2.1 + 1)
        else none)
      else none)
    else none
theorem goQ_succ (t : ByteArray) (f k : Nat) (acc : List PairB) : goQ t (f + 1) k acc = 
    if 18 ≤ acc.length then some (acc, k)
    else if acc.length = 0 ∧ (atL t k).head? = some 125 then some (acc, k + 1)
    else if (atL t (k + endQ (atL t k))).head? = some 61 then
      (if (getR (atL t (k + endQ (atL t k) + 1))).2.2 = true then
        (if (atL t (k + endQ (atL t k) + 1 + (getR (atL t (k + endQ (atL t k) + 1))).2.1)).head? = some 44 then
          goQ t f (k + endQ (atL t k) + 1 + (getR (atL t (k + endQ (atL t k) + 1))).2.1 + 1) (acc ++ [(t.extract k (k + endQ (atL t k)), tx (getR (atL t (k + endQ (atL t k) + 1))).1)])
        else if (atL t (k + endQ (atL t k) + 1 + (getR (atL t (k + endQ (atL t k) + 1))).2.1)).head? = some 125 then
          some (acc ++ [(t.extract k (k + endQ (atL t k)), tx (getR (atL t (k + endQ (atL t k) + 1))).1)], k + endQ (atL t k) + 1 + (getR (atL t (k + endQ (atL t k) + 1))).2.1 + 1)
        else none)
      else none)
    else none := by rw [goQ]
def ifR (x : List PairB × Nat) : Option (List PairB × Nat) := if rightB x.1 = true then some x else none
def parseQ (t : ByteArray) : Option (List PairB × Nat) := if t.data.toList.head? = some 123 then (goQ t 19 1 []).bind ifR else none
theorem goQ_pre (t : ByteArray) : ∀ (f k : Nat) (acc a : List PairB) (n : Nat), goQ t f k acc = some (a, n) → ∃ r, a = acc ++ r := by
  intro f
  induction f with
  | zero => intro k acc a n h; rw [goQ] at h; injection h with h; injection h with h; exact ⟨[], by rw [← h, List.append_nil]⟩
  | succ f ih =>
    intro k acc a n h
    rw [goQ_succ] at h
    split at h
    · injection h with h; injection h with h; exact ⟨[], by rw [← h, List.append_nil]⟩
    · split at h
      · injection h with h; injection h with h; exact ⟨[], by rw [← h, List.append_nil]⟩
      · split at h
        · split at h
          · split at h
            · obtain ⟨r, hr⟩ := ih _ _ _ _ h
              exact ⟨_ :: r, by rw [hr, List.append_assoc]; rfl⟩
            · split at h
              · injection h with h; injection h with h; exact ⟨[_], h.symm⟩
              · cases h
          · cases h
        · cases h
theorem goP_pre (t : ByteArray) : ∀ (f k : Nat) (acc a : List PairB) (n : Nat), goP t f k acc = some (a, n) → ∃ r, a = acc ++ [(pairR t k).1] ++ r := by
  intro f
  induction f with
  | zero => intro k acc a n h; rw [goP] at h; cases h
  | succ f ih =>
    intro k acc a n h
    rw [goP_succ] at h
    split at h
    · split at h
      · cases h
      · split at h
        · obtain ⟨r, hr⟩ := ih _ _ _ _ h
          exact ⟨[(pairR t ((pairR t k).2.2 + 1)).1] ++ r, by rw [hr]; simp only [List.append_assoc]⟩
        · injection h with h; injection h with h; exact ⟨[], by rw [← h, List.append_nil]⟩
    · cases h
/-- more than may be, or a name that is none: it is no set -/
theorem bind_none {o : Option (List PairB × Nat)} (h : ∀ a n, o = some (a, n) → rightB a = false) : o.bind ifR = none := by
  cases o with
  | none => rfl
  | some x =>
    have := h x.1 x.2 rfl
    show ifR x = none
    unfold ifR
    rw [this]
    rfl
theorem name_run {l nm r : List UInt8} (hl : l = nm ++ 61 :: r) (hn : ∀ c ∈ nm, goodK [0, 1, 2] c = true) : l.takeWhile notEq = nm := by
  have h1 : ∀ c ∈ nm, notEq c = true := fun c hc => by
    unfold notEq
    rw [bne_iff_ne]
    intro e
    have := hn c hc
    rw [e, eq_bad] at this
    cases this
  rw [hl, List.takeWhile_append_of_pos h1, List.takeWhile_cons_of_neg (by decide), List.append_nil]
theorem goQ_goP (t : ByteArray) : ∀ (f k : Nat) (acc : List PairB) (g : Nat), 19 ≤ f + acc.length → acc.length ≤ 18 → t.size < g + k → ¬ (acc.length = 0 ∧ (atL t k).head? = some 125) → (goQ t f k acc).bind ifR = (goP t g k acc).bind ifR := by
  intro f
  induction f with
  | zero => intro k acc g h1 h2; omega
  | succ f ih =>
    intro k acc g h1 h2 h3 h4
    rw [goQ_succ]
    by_cases h18 : 18 ≤ acc.length
    · rw [if_pos h18, bind_none (o := goP t g k acc) (fun a n h => by
        obtain ⟨r, hr⟩ := goP_pre t _ _ _ _ _ h
        cases hR : rightB a with
        | false => rfl
        | true => have := right_len hR; rw [hr] at this; simp at this; omega)]
      exact bind_none (fun a n h => by
        injection h with h
        injection h with h
        cases hR : rightB a with
        | false => rfl
        | true => have := right_len hR; rw [← h] at this; omega)
    · rw [if_neg h18, if_neg h4]
      obtain ⟨nm, hnm⟩ : ∃ nm, (atL t k).takeWhile (goodK [0, 1, 2]) = nm := ⟨_, rfl⟩
      have hgood : ∀ c ∈ nm, goodK [0, 1, 2] c = true := fun c hc => by rw [← hnm] at hc; exact List.all_eq_true.1 List.all_takeWhile c hc
      obtain ⟨rest, hrest⟩ : ∃ rest, atL t k = nm ++ rest := by
        obtain ⟨r, hr⟩ := List.takeWhile_prefix (p := goodK [0, 1, 2]) (l := atL t k)
        exact ⟨r, by rw [← hnm]; exact hr.symm⟩
      by_cases h61 : rest.head? = some 61
      · obtain ⟨x, hx⟩ : ∃ x, rest = 61 :: x := by
          cases rest with
          | nil => cases h61
          | cons c x => injection h61 with h61; exact ⟨x, by rw [h61]⟩
        rw [hx] at hrest
        have htw := name_run hrest hgood
        have hpr := pair_of t k nm x hgood hrest
        by_cases h33 : nm.length ≤ 33
        · have he : endQ (atL t k) = nm.length := by unfold endQ; rw [htw]; omega
          have ha := at_add t k nm _ hrest
          have hb : atL t (k + nm.length + 1) = x := at_add t (k + nm.length) [61] x (by rw [ha]; rfl)
          rw [he, ha, List.head?_cons, if_pos rfl, hb]
          obtain ⟨⟨v, n, ok⟩, hg⟩ : ∃ z, getR x = z := ⟨_, rfl⟩
          rw [hg] at hpr ⊢
          dsimp only at hpr ⊢
          cases g with
          | zero =>
            have : atL t k = [] := at_end t k (by omega)
            rw [hrest] at this
            simp at this
          | succ g =>
            rw [goP_succ, hpr]
            dsimp only
            cases ok with
            | false => rw [if_neg (by decide), if_neg (by decide)]
            | true =>
              rw [if_pos rfl, if_pos rfl, takeR_two]
              by_cases h44 : (atL t (k + nm.length + 1 + n)).head? = some 44
              · rw [if_pos h44, if_pos h44]
                dsimp only
                rw [if_pos rfl]
                refine ih _ _ g ?_ ?_ ?_ ?_
                · rw [List.length_append, List.length_singleton]; omega
                · rw [List.length_append, List.length_singleton]; omega
                · omega
                · rw [List.length_append, List.length_singleton]; intro h; omega
              · rw [if_neg h44, if_neg h44]
                by_cases h125 : (atL t (k + nm.length + 1 + n)).head? = some 125
                · rw [if_pos h125, if_pos h125]
                  dsimp only
                  rw [if_neg (by decide)]
                  rfl
                · rw [if_neg h125, if_neg h125]
        · have he : endQ (atL t k) = 33 := by unfold endQ; rw [htw]; omega
          have hno : ¬ (atL t (k + 33)).head? = some 61 := by
            intro h
            rw [at_drop_add, hrest, List.drop_append_of_le_length (by omega)] at h
            cases hd : nm.drop 33 with
            | nil => have := congrArg List.length hd; rw [List.length_drop] at this; simp only [List.length_nil] at this; omega
            | cons c r =>
              rw [hd] at h
              injection h with h
              have := hgood c (List.mem_of_mem_drop (by rw [hd]; exact List.mem_cons_self))
              rw [h, eq_bad] at this
              cases this
          rw [he, if_neg hno]
          refine (bind_none (fun a n h => ?_)).symm
          obtain ⟨r, hr⟩ := goP_pre t _ _ _ _ _ h
          cases hR : rightB a with
          | false => rfl
          | true =>
            have h5 := right_names hR (pairR t k).1 (by rw [hr]; simp)
            rw [hpr] at h5
            dsimp only at h5
            have h6 : (t.extract k (k + nm.length)).size = nm.length := by rw [← size_toList, name_mid t k nm _ hrest]
            rw [nameB_long (by rw [h6]; omega)] at h5
            cases h5
      · have hpn : (pairR t k).2.1 = false := by
          have hrun : runTo (goodK [0, 1, 2]) t k = k + nm.length := by rw [run_at, hnm]
          have ha := at_add t k nm rest hrest
          have ht : takeR t (k + nm.length) [eqS] = none := by
            unfold eqS
            rw [takeR_byte, ha, if_neg h61]
          unfold pairR
          rw [hrun, ht]
        have hP : (goP t g k acc).bind ifR = none := by
          cases g with
          | zero => rw [goP]; rfl
          | succ g => rw [goP_succ, hpn]; rfl
        rw [hP]
        by_cases hq : (atL t (k + endQ (atL t k))).head? = some 61
        · rw [if_pos hq]
          -- the name has a byte that may not stand in one
          have hbad : nameB (t.extract k (k + endQ (atL t k))) = false := by
            cases hN : nameB (t.extract k (k + endQ (atL t k))) with
            | false => rfl
            | true =>
              exfalso
              have hall := named_good (p := (t.extract k (k + endQ (atL t k)), .empty)) hN
              have hlist : (t.extract k (k + endQ (atL t k))).data.toList = (atL t k).take (endQ (atL t k)) := by
                rw [mid_list, List.drop_take, show k + endQ (atL t k) - k = endQ (atL t k) by omega]
                rfl
              have hge : endQ (atL t k) ≤ nm.length := by
                rcases Nat.lt_or_ge nm.length (endQ (atL t k)) with h | h
                · exfalso
                  have hc : rest ≠ [] := by
                    intro e
                    have hq : endQ (atL t k) ≤ (atL t k).length := Nat.le_trans (Nat.min_le_right _ _) ((List.takeWhile_prefix notEq).length_le)
                    have hl : (atL t k).length = nm.length := by rw [hrest, e, List.append_nil]
                    omega
                  cases hr : rest with
                  | nil => exact hc hr
                  | cons c r =>
                    have hcb : goodK [0, 1, 2] c = false := by
                      cases hg : goodK [0, 1, 2] c with
                      | false => rfl
                      | true =>
                        have h9 := hnm
                        rw [hrest, List.takeWhile_append_of_pos hgood, hr, List.takeWhile_cons_of_pos hg] at h9
                        have := congrArg List.length h9
                        simp at this
                    have hmem : c ∈ (t.extract k (k + endQ (atL t k))).data.toList := by
                      rw [hlist, hrest, hr, List.take_append, List.mem_append]
                      refine .inr ?_
                      obtain ⟨j, hj⟩ : ∃ j, endQ (atL t k) - nm.length = j + 1 := ⟨endQ (atL t k) - nm.length - 1, by omega⟩
                      rw [hrest, hr] at hj
                      rw [hj, List.take_succ_cons]
                      exact List.mem_cons_self
                    have := hall c hmem
                    rw [hcb] at this
                    cases this
                · exact h
              rw [at_drop_add, hrest] at hq
              rcases Nat.lt_or_ge (endQ (nm ++ rest)) nm.length with h | h
              · rw [List.drop_append_of_le_length (by omega)] at hq
                cases hd : nm.drop (endQ (nm ++ rest)) with
                | nil => have := congrArg List.length hd; rw [List.length_drop] at this; simp only [List.length_nil] at this; omega
                | cons c r =>
                  rw [hd] at hq
                  injection hq with hq
                  have := hgood c (List.mem_of_mem_drop (by rw [hd]; exact List.mem_cons_self))
                  rw [hq, eq_bad] at this
                  cases this
              · rw [hrest] at hge
                have e : endQ (nm ++ rest) = nm.length := by omega
                rw [e] at hq
                rw [show (nm ++ rest).drop nm.length = rest by simp] at hq
                exact h61 hq
          have fin : ∀ a : List PairB, (∃ r, a = acc ++ [(t.extract k (k + endQ (atL t k)), tx (getR (atL t (k + endQ (atL t k) + 1))).1)] ++ r) → rightB a = false := fun a ⟨r, hr⟩ => by
            cases hR : rightB a with
            | false => rfl
            | true =>
              have := right_names hR (t.extract k (k + endQ (atL t k)), tx (getR (atL t (k + endQ (atL t k) + 1))).1) (by rw [hr]; simp)
              rw [hbad] at this
              cases this
          refine bind_none fun a n h => ?_
          split at h
          · split at h
            · obtain ⟨r, hr⟩ := goQ_pre t _ _ _ _ _ h
              exact fin a ⟨r, hr⟩
            · split at h
              · injection h with h
                injection h with h
                exact fin a ⟨[], by rw [← h, List.append_nil]⟩
              · cases h
          · cases h
        · rw [if_neg hq]
          rfl
theorem parseQ_is (t : ByteArray) : parseQ t = parseL t := by
  unfold parseQ parseL lbT
  rw [takeR_byte, at_zero]
  by_cases h123 : t.data.toList.head? = some 123
  · rw [if_pos h123, if_pos h123]
    dsimp only
    unfold rbT
    rw [takeR_byte]
    by_cases h125 : (atL t 1).head? = some 125
    · rw [if_pos h125]
      dsimp only
      rw [goQ_succ, if_neg (by decide), if_pos ⟨rfl, h125⟩]
      rfl
    · rw [if_neg h125]
      dsimp only
      rw [goQ_goP t 19 1 [] (t.size + 1) (by decide) (by decide) (by omega) (fun h => h125 h.2)]
      rfl
  · rw [if_neg h123, if_neg h123]
end Go.Proofs.Ytimmfmgnjpcdoaa
namespace Go.Proofs.Ytimmfmgnjpcdoaa
open Go.RowKit
set_option linter.unusedVariables false
set_option linter.unusedSimpArgs false

theorem head_at (t : ByteArray) (k : Nat) (h : k < t.size) : (atL t k).head? = some t[k] := by rw [at_cons t k h]; rfl
theorem head_end (t : ByteArray) (k : Nat) (h : t.size ≤ k) : (atL t k).head? = none := by rw [at_end t k h]; rfl
theorem endQ_end (t : ByteArray) (k : Nat) (h : t.size ≤ k) : endQ (atL t k) = 0 := by rw [at_end t k h]; rfl
/-- as far as a byte goes that the run has, or has not -/
theorem run_step {α : Type} (p : α → Bool) : ∀ (l : List α) (j : Nat) (c : α), j ≤ (l.takeWhile p).length → l[j]? = some c → (p c = true → j + 1 ≤ (l.takeWhile p).length) ∧ (p c = false → (l.takeWhile p).length = j)
  | [], j, c, _, hc => by simp at hc
  | x :: l, 0, c, _, hc => by
    have e : x = c := by simpa using hc
    subst e
    refine ⟨fun h => ?_, fun h => ?_⟩
    · rw [List.takeWhile_cons_of_pos h, List.length_cons]; omega
    · rw [List.takeWhile_cons_of_neg (by rw [h]; decide)]; rfl
  | x :: l, j + 1, c, hj, hc => by
    cases hx : p x with
    | false => rw [List.takeWhile_cons_of_neg (by rw [hx]; decide)] at hj; simp at hj
    | true =>
      rw [List.takeWhile_cons_of_pos hx, List.length_cons] at hj ⊢
      obtain ⟨h1, h2⟩ := run_step p l j c (by omega) (by simpa using hc)
      exact ⟨fun h => by have := h1 h; omega, fun h => by have := h2 h; omega⟩
/-- no end of a name from k up to e -/
def NoEnd (t : ByteArray) (k e : Nat) : Prop := k ≤ e ∧ e ≤ k + 33 ∧ e - k ≤ ((atL t k).takeWhile notEq).length
theorem at_get (t : ByteArray) (k e : Nat) (hk : k ≤ e) (he : e < t.size) : (atL t k)[e - k]? = some t[e] := by
  have h := head_at t e he
  have e1 : atL t e = (atL t k).drop (e - k) := by rw [← at_drop_add, show k + (e - k) = e by omega]
  rw [e1, List.head?_drop] at h
  exact h
theorem NoEnd.start (t : ByteArray) (k : Nat) : NoEnd t k k := ⟨Nat.le_refl _, by omega, by omega⟩
theorem NoEnd.next {t : ByteArray} {k e : Nat} (h : NoEnd t k e) (he : e < t.size) (hc : t[e] ≠ 61) (h33 : e < k + 33) : NoEnd t k (e + 1) := by
  refine ⟨by have := h.1; omega, by omega, ?_⟩
  have := (run_step notEq _ _ _ h.2.2 (at_get t k e h.1 he)).1 (by unfold notEq; rw [bne_iff_ne]; exact hc)
  have := h.1
  omega
theorem NoEnd.here {t : ByteArray} {k e : Nat} (h : NoEnd t k e) (he : e < t.size) (hc : t[e] = 61) : e = k + endQ (atL t k) := by
  have := (run_step notEq _ _ _ h.2.2 (at_get t k e h.1 he)).2 (by unfold notEq; rw [hc]; decide)
  have := h.1
  have := h.2.1
  unfold endQ
  omega
theorem NoEnd.far {t : ByteArray} {k e : Nat} (h : NoEnd t k e) (h33 : e = k + 33) : e = k + endQ (atL t k) := by
  have := h.2.2
  unfold endQ
  omega
theorem NoEnd.over {t : ByteArray} {k e : Nat} (h : NoEnd t k e) (he : e = t.size) : e = k + endQ (atL t k) := by
  have h1 : ((atL t k).takeWhile notEq).length ≤ (atL t k).length := (List.takeWhile_prefix _).length_le
  rw [at_len] at h1
  have := h.1
  have := h.2.1
  have := h.2.2
  unfold endQ
  omega

end Go.Proofs.Ytimmfmgnjpcdoaa
