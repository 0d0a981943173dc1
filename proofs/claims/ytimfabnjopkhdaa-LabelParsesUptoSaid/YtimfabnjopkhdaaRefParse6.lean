/- The document's own labels that a text begins with: what they are. -/
import Derived.Test.YtimfabnjopkhdaaRefOf7
namespace Go.Proofs.Ytimfabnjopkhdaa
open Go.RowKit
set_option linter.unusedVariables false
set_option linter.unusedSimpArgs false

def notEq (c : UInt8) : Bool := c != 61
/-- where a name ends -/
def endQ (l : List UInt8) : Nat := min 33 (l.takeWhile notEq).length
def goQ (t : ByteArray) : Nat → Nat → List PairB → Option (List PairB × Nat)
  | 0, k, acc => some (acc, k)
  | f + 1, k, acc =>
    if 18 ≤ acc.length then some (acc, k)
    else if acc.length = 0 ∧ (atL t k).head? = some 125 then some (acc, k + 1)
    else if (atL t (k + endQ (atL t k))).head? = some 61 then
      (if (getR (atL t (k + endQ (atL t k) + 1))).2.2 = true then
        (if (atL t (k + endQ (atL t k) + 1 + (getR (atL t (k + endQ (atL t k) + 1))).2.1)).head? = some 44 then
          goQ t f (k + endQ (atL t k) + 1 + (getR (atL t (k + endQ (atL t k) + 1))).2.1 + 1) (acc ++ [(t.extract k (k + endQ (atL t k)), tx (getR (atL t (k + endQ (atL t k) + 1))).1)])
        else if (atL t (k + endQ (atL t k) + 1 + (getR (atL t (k + endQ (atL t k) + 1))).2.1)).head? = some 125 then
          some (acc ++ [(t.extract k (k + endQ (atL t k)), tx (getR (atL t (k + endQ (atL t k) + 1))).1)], k + endQ (atL t k) + 1 + (getR (atL t (k + endQ (atL t k) + 1))).2.1 + 1)
        else none)
      else none)
    else none
theorem goQ_succ (t : ByteArray) (f k : Nat) (acc : List PairB) : goQ t (f + 1) k acc = 
    if 18 ≤ acc.length then some (acc, k)
    else if acc.length = 0 ∧ (atL t k).head? = some 125 then some (acc, k + 1)
    else if (atL t (k + endQ (atL t k))).head? = some 61 then
      (if (getR (atL t (k + endQ (atL t k) + 1))).2.2 = true then
        (if (atL t (k + endQ (atL t k) + 1 + (getR (atL t (k + endQ (atL t k) + 1))).2.1)).head? = some 44 then
          goQ t f (k + endQ (atL t k) + 1 + (getR (atL t (k + endQ (atL t k) + 1))).2.1 + 1) (acc ++ [(t.extract k (k + endQ (atL t k)), tx (getR (atL t (k + endQ (atL t k) + 1))).1)])
        else if (atL t (k + endQ (atL t k) + 1 + (getR (atL t (k + endQ (atL t k) + 1))).2.1)).head? = some 125 then
          some (acc ++ [(t.extract k (k + endQ (atL t k)), tx (getR (atL t (k + endQ (atL t k) + 1))).1)], k + endQ (atL t k) + 1 + (getR (atL t (k + endQ (atL t k) + 1))).2.1 + 1)
        else none)
      else none)
    else none := by rw [goQ]
def ifR (x : List PairB × Nat) : Option (List PairB × Nat) := if rightB x.1 = true then some x else none
def parseQ (t : ByteArray) : Option (List PairB × Nat) := if t.data.toList.head? = some 123 then (goQ t 19 1 []).bind ifR else none
theorem goQ_pre (t : ByteArray) : ∀ (f k : Nat) (acc a : List PairB) (n : Nat), goQ t f k acc = some (a, n) → ∃ r, a = acc ++ r := by
  intro f
  induction f with
  | zero => intro k acc a n h; rw [goQ] at h; injection h with h; injection h with h; exact ⟨[], by rw [← h, List.append_nil]⟩
  | succ f ih =>
    intro k acc a n h
    rw [goQ_succ] at h
    split at h
    · injection h with h; injection h with h; exact ⟨[], by rw [← h, List.append_nil]⟩
    · split at h
      · injection h with h; injection h with h; exact ⟨[], by rw [← h, List.append_nil]⟩
      · split at h
        · split at h
          · split at h
            · obtain ⟨r, hr⟩ := ih _ _ _ _ h
              exact ⟨_ :: r, by rw [hr, List.append_assoc]; rfl⟩
            · split at h
              · injection h with h; injection h with h; exact ⟨[_], h.symm⟩
              · cases h
          · cases h
        · cases h
theorem goP_pre (t : ByteArray) : ∀ (f k : Nat) (acc a : List PairB) (n : Nat), goP t f k acc = some (a, n) → ∃ r, a = acc ++ [(pairR t k).1] ++ r := by
  intro f
  induction f with
  | zero => intro k acc a n h; rw [goP] at h; cases h
  | succ f ih =>
    intro k acc a n h
    rw [goP_succ] at h
    split at h
    · split at h
      · cases h
      · split at h
        · obtain ⟨r, hr⟩ := ih _ _ _ _ h
          exact ⟨[(pairR t ((pairR t k).2.2 + 1)).1] ++ r, by rw [hr]; simp only [List.append_assoc]⟩
        · injection h with h; injection h with h; exact ⟨[], by rw [← h, List.append_nil]⟩
    · cases h
theorem right_len {a : List PairB} (h : rightB a = true) : a.length ≤ 16 := by
  unfold rightB at h
  rw [Bool.and_eq_true] at h
  exact of_decide_eq_true h.1
theorem right_names {a : List PairB} (h : rightB a = true) : ∀ p ∈ a, nameB p.1 = true := by
  have key : ∀ (l : List PairB) (o : Option ByteArray), rightGo o l = true → ∀ p ∈ l, nameB p.1 = true := by
    intro l
    induction l with
    | nil => intro o _ p hp; cases hp
    | cons x l ih =>
      intro o h p hp
      rw [rightGo, Bool.and_eq_true] at h
      rcases List.mem_cons.1 hp with rfl | hp
      · have := h.1
        unfold okAt at this
        rw [Bool.and_eq_true] at this
        exact this.1
      · exact ih _ h.2 p hp
  unfold rightB at h
  rw [Bool.and_eq_true] at h
  exact key a none h.2
/-- more than may be, or a name that is none: it is no set -/
theorem bind_none {o : Option (List PairB × Nat)} (h : ∀ a n, o = some (a, n) → rightB a = false) : o.bind ifR = none := by
  cases o with
  | none => rfl
  | some x =>
    have := h x.1 x.2 rfl
    show ifR x = none
    unfold ifR
    rw [this]
    rfl
theorem name_run {l nm r : List UInt8} (hl : l = nm ++ 61 :: r) (hn : ∀ c ∈ nm, goodK [0, 1, 2] c = true) : l.takeWhile notEq = nm := by
  have h1 : ∀ c ∈ nm, notEq c = true := fun c hc => by
    unfold notEq
    rw [bne_iff_ne]
    intro e
    have := hn c hc
    rw [e, eq_bad] at this
    cases this
  rw [hl, List.takeWhile_append_of_pos h1, List.takeWhile_cons_of_neg (by decide), List.append_nil]
theorem goQ_goP (t : ByteArray) : ∀ (f k : Nat) (acc : List PairB) (g : Nat), 19 ≤ f + acc.length → acc.length ≤ 18 → t.size < g + k → ¬ (acc.length = 0 ∧ (atL t k).head? = some 125) → (goQ t f k acc).bind ifR = (goP t g k acc).bind ifR := by
  intro f
  induction f with
  | zero => intro k acc g h1 h2; omega
  | succ f ih =>
    intro k acc g h1 h2 h3 h4
    rw [goQ_succ]
    by_cases h18 : 18 ≤ acc.length
    · rw [if_pos h18, bind_none (o := goP t g k acc) (fun a n h => by
        obtain ⟨r, hr⟩ := goP_pre t _ _ _ _ _ h
        cases hR : rightB a with
        | false => rfl
        | true => have := right_len hR; rw [hr] at this; simp at this; omega)]
      exact bind_none (fun a n h => by
        injection h with h
        injection h with h
        cases hR : rightB a with
        | false => rfl
        | true => have := right_len hR; rw [← h] at this; omega)
    · rw [if_neg h18, if_neg h4]
      obtain ⟨nm, hnm⟩ : ∃ nm, (atL t k).takeWhile (goodK [0, 1, 2]) = nm := ⟨_, rfl⟩
      have hgood : ∀ c ∈ nm, goodK [0, 1, 2] c = true := fun c hc => by rw [← hnm] at hc; exact List.all_eq_true.1 List.all_takeWhile c hc
      obtain ⟨rest, hrest⟩ : ∃ rest, atL t k = nm ++ rest := by
        obtain ⟨r, hr⟩ := List.takeWhile_prefix (p := goodK [0, 1, 2]) (l := atL t k)
        exact ⟨r, by rw [← hnm]; exact hr.symm⟩
      by_cases h61 : rest.head? = some 61
      · obtain ⟨x, hx⟩ : ∃ x, rest = 61 :: x := by
          cases rest with
          | nil => cases h61
          | cons c x => injection h61 with h61; exact ⟨x, by rw [h61]⟩
        rw [hx] at hrest
        have htw := name_run hrest hgood
        have hpr := pair_of t k nm x hgood hrest
        by_cases h33 : nm.length ≤ 33
        · have he : endQ (atL t k) = nm.length := by unfold endQ; rw [htw]; omega
          have ha := at_add t k nm _ hrest
          have hb : atL t (k + nm.length + 1) = x := at_add t (k + nm.length) [61] x (by rw [ha]; rfl)
          rw [he, ha, List.head?_cons, if_pos rfl, hb]
          obtain ⟨⟨v, n, ok⟩, hg⟩ : ∃ z, getR x = z := ⟨_, rfl⟩
          rw [hg] at hpr ⊢
          dsimp only at hpr ⊢
          cases g with
          | zero =>
            have : atL t k = [] := at_end t k (by omega)
            rw [hrest] at this
            simp at this
          | succ g =>
            rw [goP_succ, hpr]
            dsimp only
            cases ok with
            | false => rw [if_neg (by decide), if_neg (by decide)]
            | true =>
              rw [if_pos rfl, if_pos rfl, takeR_two]
              by_cases h44 : (atL t (k + nm.length + 1 + n)).head? = some 44
              · rw [if_pos h44, if_pos h44]
                dsimp only
                rw [if_pos rfl]
                refine ih _ _ g ?_ ?_ ?_ ?_
                · rw [List.length_append, List.length_singleton]; omega
                · rw [List.length_append, List.length_singleton]; omega
                · omega
                · rw [List.length_append, List.length_singleton]; intro h; omega
              · rw [if_neg h44, if_neg h44]
                by_cases h125 : (atL t (k + nm.length + 1 + n)).head? = some 125
                · rw [if_pos h125, if_pos h125]
                  dsimp only
                  rw [if_neg (by decide)]
                  rfl
                · rw [if_neg h125, if_neg h125]
        · have he : endQ (atL t k) = 33 := by unfold endQ; rw [htw]; omega
          have hno : ¬ (atL t (k + 33)).head? = some 61 := by
            intro h
            rw [at_drop_add, hrest, List.drop_append_of_le_length (by omega)] at h
            cases hd : nm.drop 33 with
            | nil => have := congrArg List.length hd; rw [List.length_drop] at this; simp only [List.length_nil] at this; omega
            | cons c r =>
              rw [hd] at h
              injection h with h
              have := hgood c (List.mem_of_mem_drop (by rw [hd]; exact List.mem_cons_self))
              rw [h, eq_bad] at this
              cases this
          rw [he, if_neg hno]
          refine (bind_none (fun a n h => ?_)).symm
          obtain ⟨r, hr⟩ := goP_pre t _ _ _ _ _ h
          cases hR : rightB a with
          | false => rfl
          | true =>
            have h5 := right_names hR (pairR t k).1 (by rw [hr]; simp)
            rw [hpr] at h5
            dsimp only at h5
            have h6 : (t.extract k (k + nm.length)).size = nm.length := by rw [← size_toList, name_mid t k nm _ hrest]
            rw [nameB_long (by rw [h6]; omega)] at h5
            cases h5
      · have hpn : (pairR t k).2.1 = false := by
          have hrun : runTo (goodK [0, 1, 2]) t k = k + nm.length := by rw [run_at, hnm]
          have ha := at_add t k nm rest hrest
          have ht : takeR t (k + nm.length) [eqS] = none := by
            unfold eqS
            rw [takeR_byte, ha, if_neg h61]
          unfold pairR
          rw [hrun, ht]
        have hP : (goP t g k acc).bind ifR = none := by
          cases g with
          | zero => rw [goP]; rfl
          | succ g => rw [goP_succ, hpn]; rfl
        rw [hP]
        by_cases hq : (atL t (k + endQ (atL t k))).head? = some 61
        · rw [if_pos hq]
          -- the name has a byte that may not stand in one
          have hbad : nameB (t.extract k (k + endQ (atL t k))) = false := by
            cases hN : nameB (t.extract k (k + endQ (atL t k))) with
            | false => rfl
            | true =>
              exfalso
              have hall := named_good (p := (t.extract k (k + endQ (atL t k)), .empty)) hN
              have hlist : (t.extract k (k + endQ (atL t k))).data.toList = (atL t k).take (endQ (atL t k)) := by
                rw [mid_list, List.drop_take, show k + endQ (atL t k) - k = endQ (atL t k) by omega]
                rfl
              have hge : endQ (atL t k) ≤ nm.length := by
                rcases Nat.lt_or_ge nm.length (endQ (atL t k)) with h | h
                · exfalso
                  have hc : rest ≠ [] := by
                    intro e
                    have hq : endQ (atL t k) ≤ (atL t k).length := Nat.le_trans (Nat.min_le_right _ _) ((List.takeWhile_prefix notEq).length_le)
                    have hl : (atL t k).length = nm.length := by rw [hrest, e, List.append_nil]
                    omega
                  cases hr : rest with
                  | nil => exact hc hr
                  | cons c r =>
                    have hcb : goodK [0, 1, 2] c = false := by
                      cases hg : goodK [0, 1, 2] c with
                      | false => rfl
                      | true =>
                        have h9 := hnm
                        rw [hrest, List.takeWhile_append_of_pos hgood, hr, List.takeWhile_cons_of_pos hg] at h9
                        have := congrArg List.length h9
                        simp at this
                    have hmem : c ∈ (t.extract k (k + endQ (atL t k))).data.toList := by
                      rw [hlist, hrest, hr, List.take_append, List.mem_append]
                      refine .inr ?_
                      obtain ⟨j, hj⟩ : ∃ j, endQ (atL t k) - nm.length = j + 1 := ⟨endQ (atL t k) - nm.length - 1, by omega⟩
                      rw [hrest, hr] at hj
                      rw [hj, List.take_succ_cons]
                      exact List.mem_cons_self
                    have := hall c hmem
                    rw [hcb] at this
                    cases this
                · exact h
              rw [at_drop_add, hrest] at hq
              rcases Nat.lt_or_ge (endQ (nm ++ rest)) nm.length with h | h
              · rw [List.drop_append_of_le_length (by omega)] at hq
                cases hd : nm.drop (endQ (nm ++ rest)) with
                | nil => have := congrArg List.length hd; rw [List.length_drop] at this; simp only [List.length_nil] at this; omega
                | cons c r =>
                  rw [hd] at hq
                  injection hq with hq
                  have := hgood c (List.mem_of_mem_drop (by rw [hd]; exact List.mem_cons_self))
                  rw [hq, eq_bad] at this
                  cases this
              · rw [hrest] at hge
                have e : endQ (nm ++ rest) = nm.length := by omega
                rw [e] at hq
                rw [show (nm ++ rest).drop nm.length = rest by simp] at hq
                exact h61 hq
          have fin : ∀ a : List PairB, (∃ r, a = acc ++ [(t.extract k (k + endQ (atL t k)), tx (getR (atL t (k + endQ (atL t k) + 1))).1)] ++ r) → rightB a = false := fun a ⟨r, hr⟩ => by
            cases hR : rightB a with
            | false => rfl
            | true =>
              have := right_names hR (t.extract k (k + endQ (atL t k)), tx (getR (atL t (k + endQ (atL t k) + 1))).1) (by rw [hr]; simp)
              rw [hbad] at this
              cases this
          refine bind_none fun a n h => ?_
          split at h
          · split at h
            · obtain ⟨r, hr⟩ := goQ_pre t _ _ _ _ _ h
              exact fin a ⟨r, hr⟩
            · split at h
              · injection h with h
                injection h with h
                exact fin a ⟨[], by rw [← h, List.append_nil]⟩
              · cases h
          · cases h
        · rw [if_neg hq]
          rfl
theorem parseQ_is (t : ByteArray) : parseQ t = parseL t := by
  unfold parseQ parseL lbT
  rw [takeR_byte, at_zero]
  by_cases h123 : t.data.toList.head? = some 123
  · rw [if_pos h123, if_pos h123]
    dsimp only
    unfold rbT
    rw [takeR_byte]
    by_cases h125 : (atL t 1).head? = some 125
    · rw [if_pos h125]
      dsimp only
      rw [goQ_succ, if_neg (by decide), if_pos ⟨rfl, h125⟩]
      rfl
    · rw [if_neg h125]
      dsimp only
      rw [goQ_goP t 19 1 [] (t.size + 1) (by decide) (by decide) (by omega) (fun h => h125 h.2)]
      rfl
  · rw [if_neg h123, if_neg h123]
end Go.Proofs.Ytimfabnjopkhdaa
