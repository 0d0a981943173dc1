/- Parts of durations and sizes: what is read of a text. No program. -/
import Derived.Test.YtehhmejpfglimaaDoorDigits
import Derived.Test.YtehhmejpfglimaaDoorRefNum2
namespace Go.Proofs.YtehhmejpfglimaaDoor
open Go.RowKit
set_option linter.unusedVariables false

def digC (c : UInt8) : Bool := decide (48 ≤ c.toNat) && decide (c.toNat ≤ 57)
def letC (c : UInt8) : Bool := (decide (65 ≤ c.toNat) && decide (c.toNat ≤ 90)) || (decide (97 ≤ c.toNat) && decide (c.toNat ≤ 122))
theorem dig_not_let (c : UInt8) (h : letC c = true) : digC c = false := by
  unfold letC at h
  unfold digC
  simp at h ⊢
  omega

def txt (l : List UInt8) : ByteArray := ⟨l.toArray⟩
theorem txt_list (l : List UInt8) : (txt l).data.toList = l := by simp [txt]

/-- the units: their names, and how great they are -/
def durU : List (List UInt8 × Int) := [([104], 3600000000000), ([109], 60000000000), ([115], 1000000000), ([109, 115], 1000000), ([117, 115], 1000), ([110, 115], 1)]
def sizU : List (List UInt8 × Int) := [([71, 66], 1073741824), ([77, 66], 1048576), ([75, 66], 1024), ([66], 1)]
def placeU (U : List (List UInt8 × Int)) (nm : List UInt8) : Option Nat := U.findIdx? (fun u => u.1 == nm)
def manyU (U : List (List UInt8 × Int)) (i : Nat) : Int := (U.getD i ([], 0)).2

/-- the first part of a text: its number and unit, and how many bytes it has -/
def partS (U : List (List UInt8 × Int)) (l : List UInt8) : Option (Int × Nat × Nat) :=
  (parseZ (txt (l.takeWhile digC))).bind fun n => (placeU U ((l.dropWhile digC).takeWhile letC)).map fun i => (n, i, (l.takeWhile digC).length + ((l.dropWhile digC).takeWhile letC).length)
def partR (U : List (List UInt8 × Int)) (l : List UInt8) : Option (Int × Nat × Nat) :=
  (parseZ (txt (l.takeWhile digC))).bind fun n => (placeU U ((l.dropWhile digC).takeWhile (fun c => !digC c))).map fun i => (n, i, (l.takeWhile digC).length + ((l.dropWhile digC).takeWhile (fun c => !digC c)).length)

theorem placeU_let {U : List (List UInt8 × Int)} (hU : ∀ u ∈ U, ∀ c ∈ u.1, letC c = true) {nm : List UInt8} {i : Nat} (h : placeU U nm = some i) : ∀ c ∈ nm, letC c = true := by
  unfold placeU at h
  rw [List.findIdx?_eq_some_iff_getElem] at h
  obtain ⟨hi, he, _⟩ := h
  rw [beq_iff_eq] at he
  intro c hc
  exact hU _ (List.getElem_mem hi) c (by rw [he]; exact hc)
theorem takeWhile_all {α : Type} (p : α → Bool) : ∀ (l : List α) (a : α), a ∈ l.takeWhile p → p a = true := by
  intro l
  induction l with
  | nil => intro a h; cases h
  | cons b l ih =>
    intro a h
    by_cases hb : p b = true
    · rw [List.takeWhile_cons_of_pos hb] at h
      rcases List.mem_cons.1 h with rfl | h
      · exact hb
      · exact ih a h
    · rw [List.takeWhile_cons_of_neg hb] at h
      cases h
theorem takeWhile_le {α : Type} (p q : α → Bool) (h : ∀ a, q a = true → p a = true) : ∀ l : List α, (∀ c ∈ l.takeWhile p, q c = true) → l.takeWhile q = l.takeWhile p := by
  intro l
  induction l with
  | nil => intro _; rfl
  | cons a l ih =>
    intro hl
    by_cases hp : p a = true
    · rw [List.takeWhile_cons_of_pos hp] at hl ⊢
      have hq := hl a (by simp)
      rw [List.takeWhile_cons_of_pos hq, ih (fun c hc => hl c (by simp [hc]))]
    · have hq : ¬ q a = true := fun hq => hp (h a hq)
      rw [List.takeWhile_cons_of_neg hp, List.takeWhile_cons_of_neg hq]
/-- what the document reads the program reads -/
theorem partR_S {U : List (List UInt8 × Int)} (hU : ∀ u ∈ U, ∀ c ∈ u.1, letC c = true) {l : List UInt8} {x : Int × Nat × Nat} (h : partR U l = some x) : partS U l = some x := by
  unfold partR at h
  unfold partS
  cases hp : parseZ (txt (l.takeWhile digC)) with
  | none => rw [hp] at h; cases h
  | some n =>
    simp only [hp, Option.bind_some, Option.map_eq_some_iff] at h
    obtain ⟨i, hi, rfl⟩ := h
    have e : (l.dropWhile digC).takeWhile letC = (l.dropWhile digC).takeWhile (fun c => !digC c) := takeWhile_le _ _ (fun a ha => by rw [dig_not_let a ha]; rfl) _ (placeU_let hU hi)
    simp only [hp, Option.bind_some, e, hi, Option.map_some]
theorem parse_nil : parseZ (txt []) = none := by
  refine parseZ_none fun v v0 v1 e => ?_
  have e2 := congrArg (fun s : ByteArray => s.data.toList) e
  simp only [txt_list, itoaS_list] at e2
  exact itoa_ne v e2.symm
/-- what the program reads and the document does not stands ahead of a byte that begins no part -/
theorem partS_R {U : List (List UInt8 × Int)} {l : List UInt8} {x : Int × Nat × Nat} (h : partS U l = some x) (hn : partR U l = none) : l.drop x.2.2 ≠ [] ∧ partS U (l.drop x.2.2) = none := by
  unfold partS at h
  cases hp : parseZ (txt (l.takeWhile digC)) with
  | none => rw [hp] at h; cases h
  | some n =>
    simp only [hp, Option.bind_some, Option.map_eq_some_iff] at h
    obtain ⟨i, hi, rfl⟩ := h
    obtain ⟨r, hr⟩ : ∃ r, l.dropWhile digC = r := ⟨_, rfl⟩
    rw [hr] at hi ⊢
    have hl : l = l.takeWhile digC ++ r := by rw [← hr]; exact (List.takeWhile_append_dropWhile).symm
    have hd : l.drop ((l.takeWhile digC).length + (r.takeWhile letC).length) = r.dropWhile letC := by
      conv => lhs; rw [hl]
      have e1 : (List.takeWhile digC (List.takeWhile digC l ++ r)).length = (List.takeWhile digC l).length := by rw [← hl]
      rw [e1, ← List.drop_drop, List.drop_left']
      · conv => lhs; arg 2; rw [← List.takeWhile_append_dropWhile (p := letC) (l := r)]
        rw [List.drop_left' rfl]
      · rfl
    show l.drop ((l.takeWhile digC).length + (r.takeWhile letC).length) ≠ [] ∧ partS U (l.drop ((l.takeWhile digC).length + (r.takeWhile letC).length)) = none
    rw [hd]
    have hne : r.takeWhile letC ≠ r.takeWhile (fun c => !digC c) := by
      intro e
      unfold partR at hn
      simp only [hp, Option.bind_some, hr, ← e, hi, Option.map_some] at hn
      cases hn
    cases hq : r.dropWhile letC with
    | nil =>
      exfalso
      have h1 : r.takeWhile letC = r := by
        have := List.takeWhile_append_dropWhile (p := letC) (l := r)
        rw [hq, List.append_nil] at this
        exact this
      refine hne (takeWhile_le _ _ (fun a ha => by rw [dig_not_let a ha]; rfl) r ?_)
      intro c hc
      have := List.takeWhile_subset (fun c => !digC c) hc
      rw [← h1] at this
      exact takeWhile_all _ _ _ this
    | cons c q =>
      refine ⟨by simp, ?_⟩
      have hc : digC c = false := by
        have hcl : ¬ letC c = true := by
          have := List.head?_dropWhile_not letC r
          rw [hq] at this
          simpa using this
        by_cases hd2 : digC c = true
        · exfalso
          refine hne ?_
          have hr2 : r = r.takeWhile letC ++ c :: q := by rw [← hq]; exact (List.takeWhile_append_dropWhile).symm
          have h3 : (r.takeWhile letC ++ c :: q).takeWhile (fun c => !digC c) = r.takeWhile letC := by
            rw [List.takeWhile_append_of_pos (fun a ha => by rw [dig_not_let a (takeWhile_all _ _ _ ha)]; rfl), List.takeWhile_cons_of_neg (by simp [hd2]), List.append_nil]
          rw [← hr2] at h3
          exact h3.symm
        · simpa using hd2
      unfold partS
      rw [List.takeWhile_cons_of_neg (by rw [hc]; decide), parse_nil]
      rfl

/-- the sum of the parts: by the program's parts, and by the document's -/
def durS (pt : List UInt8 → Option (Int × Nat × Nat)) : Nat → List UInt8 → Int → Int → Option Int
  | 0, _, _, _ => none
  | f + 1, l, sum, last =>
    if l = [] then some sum else
    (pt l).bind fun x => if (x.2.1 : Int) ≤ last then none else
      (timesO x.1 (manyU durU x.2.1)).bind fun m => (stepR (· + ·) (some sum) m).bind fun s => durS pt f (l.drop x.2.2) s x.2.1
theorem durS_next {pt : List UInt8 → Option (Int × Nat × Nat)} {f : Nat} {l : List UInt8} {s t : Int} (hl : l ≠ []) (h : pt l = none) : durS pt f l s t = none := by
  cases f with
  | zero => rfl
  | succ f => unfold durS; rw [if_neg hl, h]; rfl
theorem dur_same : ∀ (f : Nat) (l : List UInt8) (sum last : Int), durS (partS durU) f l sum last = durS (partR durU) f l sum last := by
  have hU : ∀ u ∈ durU, ∀ c ∈ u.1, letC c = true := by decide
  intro f
  induction f with
  | zero => intro _ _ _; rfl
  | succ f ih =>
    intro l sum last
    by_cases hl : l = []
    · unfold durS; rw [if_pos hl, if_pos hl]
    · cases hR : partR durU l with
      | some x =>
        have hS := partR_S hU hR
        unfold durS
        rw [if_neg hl, if_neg hl, hR, hS]
        simp only [Option.bind_some, ih]
      | none =>
        rw [durS_next hl hR]
        cases hS : partS durU l with
        | none => exact durS_next hl hS
        | some x =>
          obtain ⟨h1, h2⟩ := partS_R hS hR
          unfold durS
          rw [if_neg hl, hS]
          simp only [Option.bind_some]
          split
          · rfl
          · cases timesO x.1 (manyU durU x.2.1) with
            | none => rfl
            | some m =>
              simp only [Option.bind_some]
              cases stepR (· + ·) (some sum) m with
              | none => rfl
              | some s => exact durS_next h1 h2
/-- a duration -/
def durZ (l : List UInt8) : Option Int := if l = [] then none else durS (partS durU) (l.length + 1) l 0 (-1)
/-- a size -/
def sizZ (l : List UInt8) : Option Int := (partS sizU l).bind fun x => if x.2.2 = l.length then timesO x.1 (manyU sizU x.2.1) else none
theorem siz_same (l : List UInt8) : ((partR sizU l).bind fun x => if x.2.2 = l.length then timesO x.1 (manyU sizU x.2.1) else none) = sizZ l := by
  have hU : ∀ u ∈ sizU, ∀ c ∈ u.1, letC c = true := by decide
  unfold sizZ
  cases hR : partR sizU l with
  | some x => rw [partR_S hU hR]
  | none =>
    cases hS : partS sizU l with
    | none => rfl
    | some x =>
      obtain ⟨h1, _⟩ := partS_R hS hR
      simp only [Option.bind_some, Option.bind_none]
      rw [if_neg]
      intro e
      exact h1 (List.drop_of_length_le (by omega))
end Go.Proofs.YtehhmejpfglimaaDoor
