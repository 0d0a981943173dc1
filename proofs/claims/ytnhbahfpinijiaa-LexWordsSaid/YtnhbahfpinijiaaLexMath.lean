/- Words of queries: what they are. No program. -/
import Derived.Test.YtnhbahfpinijiaaAt
import Derived.Test.YtnhbahfpinijiaaLabName
namespace Go.Proofs.Ytnhbahfpinijiaa
open Go.RowKit
set_option linter.unusedVariables false

def opsT : List ByteArray := [⟨#[61, 126]⟩, ⟨#[33, 126]⟩, ⟨#[33, 61]⟩, ⟨#[61, 61]⟩, ⟨#[62, 61]⟩, ⟨#[60, 61]⟩, ⟨#[124, 61]⟩, ⟨#[124, 126]⟩, ⟨#[123]⟩, ⟨#[125]⟩, ⟨#[44]⟩, ⟨#[61]⟩, ⟨#[62]⟩, ⟨#[60]⟩, ⟨#[124]⟩]
/-- the first of the signs that bytes begin with -/
def opL (l : List UInt8) : Option ByteArray := opsT.find? (fun s => s.data.toList.isPrefixOf l)
/-- a word's kind, what it stands for, how many bytes it has -/
def nameW (l : List UInt8) : Int × ByteArray × Nat :=
  (if nameB (tx (l.takeWhile (goodK [0, 1, 2]))) = true then 1 else 0, if nameB (tx (l.takeWhile (goodK [0, 1, 2]))) = true then tx (l.takeWhile (goodK [0, 1, 2])) else .empty, (l.takeWhile (goodK [0, 1, 2])).length)
def numW (l : List UInt8) : Int × ByteArray × Nat :=
  if headK [0] l = true then (3, tx (l.takeWhile (goodK [0, 1])), (l.takeWhile (goodK [0, 1])).length) else (0, .empty, 0)
def valueW (l : List UInt8) : Int × ByteArray × Nat :=
  if l.head? = some 45 then
    (if headK [0] (l.drop 1) = true then (3, tx (45 :: (l.drop 1).takeWhile (goodK [0, 1])), 1 + ((l.drop 1).takeWhile (goodK [0, 1])).length) else (0, .empty, 1))
  else numW l
def wordL (l : List UInt8) : Int × ByteArray × Nat :=
  match opL l with
  | some o => (4, o, o.size)
  | none =>
    if (getR l).2.2 = true then (2, tx (getR l).1, (getR l).2.1)
    else if headK [1, 2] l = true then nameW l
    else valueW l
/-- a word where it stands -/
structure TokB where
  kind : Int
  text : ByteArray
  at_ : Nat
def tnil : TokB := ⟨0, .empty, 0⟩
def spaces (l : List UInt8) : Nat := (l.takeWhile (goodK [3])).length
/-- the words from k on; or where there is none -/
def lexGo : Nat → List UInt8 → Nat → List TokB → List TokB × Nat × Int
  | 0, _, k, acc => (acc, k, 0)
  | f + 1, l, k, acc =>
    if l.drop (spaces l) = [] then (acc, k + spaces l, 0)
    else if (wordL (l.drop (spaces l))).1 = 0 then ([], k + spaces l, 2)
    else lexGo f ((l.drop (spaces l)).drop (wordL (l.drop (spaces l))).2.2) (k + spaces l + (wordL (l.drop (spaces l))).2.2) (acc ++ [⟨(wordL (l.drop (spaces l))).1, (wordL (l.drop (spaces l))).2.1, k + spaces l⟩])
theorem lexGo_succ (f : Nat) (l : List UInt8) (k : Nat) (acc : List TokB) : lexGo (f + 1) l k acc = if l.drop (spaces l) = [] then (acc, k + spaces l, 0)
    else if (wordL (l.drop (spaces l))).1 = 0 then ([], k + spaces l, 2)
    else lexGo f ((l.drop (spaces l)).drop (wordL (l.drop (spaces l))).2.2) (k + spaces l + (wordL (l.drop (spaces l))).2.2) (acc ++ [⟨(wordL (l.drop (spaces l))).1, (wordL (l.drop (spaces l))).2.1, k + spaces l⟩]) := by rw [lexGo]
def lexL (l : List UInt8) : List TokB × Nat × Int := if 1024 < l.length then ([], 1024, 4) else lexGo (l.length + 1) l 0 []

theorem opL_mem {l : List UInt8} {o : ByteArray} (h : opL l = some o) : o ∈ opsT := List.mem_of_find?_eq_some h
theorem opL_pre {l : List UInt8} {o : ByteArray} (h : opL l = some o) : o.data.toList <+: l := List.isPrefixOf_iff_prefix.1 (by have := List.find?_some h; exact this)
theorem ops_size : ∀ o ∈ opsT, 1 ≤ o.size ∧ o.size ≤ 2 := by decide
theorem getR_ok {l : List UInt8} (h : (getR l).2.2 = true) : ∃ o m, getB l = some (o, m) ∧ getR l = (o, m, true) := by
  unfold getR at h ⊢
  cases hb : getB l with
  | none => rw [hb] at h; cases h
  | some x => exact ⟨x.1, x.2, rfl, rfl⟩
theorem getR_no {l : List UInt8} (h : (getR l).2.2 = false) : getR l = ([], 0, false) := by
  unfold getR at h ⊢
  cases hb : getB l with
  | none => rfl
  | some x => rw [hb] at h; cases h
theorem getGo_ge : ∀ (f : Nat) (l out : List UInt8) (n : Nat) (o : List UInt8) (m : Nat), getGo f l out n = some (o, m) → n < m := by
  intro f
  induction f with
  | zero => intro l out n o m h; cases h
  | succ f ih =>
    intro l out n o m h
    cases l with
    | nil => cases h
    | cons c r =>
      unfold getGo at h
      split at h
      · injection h with h
        injection h with _ h
        omega
      · split at h
        · have h2 := ih _ _ _ _ _ h
          omega
        · cases h
theorem getR_pos {l : List UInt8} (h : (getR l).2.2 = true) : 2 ≤ (getR l).2.1 ∧ l.head? = some 34 := by
  obtain ⟨o, m, h1, h2⟩ := getR_ok h
  rw [h2]
  unfold getB at h1
  cases l with
  | nil => cases h1
  | cons c r =>
    dsimp only at h1
    split at h1
    · next hc =>
      have := getGo_ge _ _ _ _ _ _ h1
      exact ⟨by dsimp only; omega, by rw [List.head?_cons]; first | rw [hc] | (have := of_decide_eq_true hc; rw [this]) | simp_all⟩
    · cases h1
theorem run_head {ks js : List Int} {l : List UInt8} (h : headK ks l = true) (hs : ∀ c, goodK ks c = true → goodK js c = true) : 1 ≤ (l.takeWhile (goodK js)).length := by
  cases l with
  | nil => cases h
  | cons c r =>
    rw [List.takeWhile_cons_of_pos (hs c h)]
    simp
theorem sub12 : ∀ c, goodK [1, 2] c = true → goodK [0, 1, 2] c = true := by
  intro c h
  unfold goodK at *
  simp only [List.any_cons, List.any_nil, Bool.or_false, Bool.or_eq_true] at *
  rcases h with h | h
  · exact .inr (.inl h)
  · exact .inr (.inr h)
theorem sub01 : ∀ c, goodK [0] c = true → goodK [0, 1] c = true := by
  intro c h
  unfold goodK at *
  simp only [List.any_cons, List.any_nil, Bool.or_false, Bool.or_eq_true] at *
  exact .inl h
theorem takeWhile_le (p : UInt8 → Bool) (l : List UInt8) : (l.takeWhile p).length ≤ l.length := (List.takeWhile_prefix p).length_le
/-- a word has a byte, and none behind the end -/
theorem word_some (l : List UInt8) : (wordL l).2.2 ≤ l.length ∧ ((wordL l).1 ≠ 0 → 1 ≤ (wordL l).2.2) ∧ 0 ≤ (wordL l).1 ∧ (wordL l).1 ≤ 4 := by
  unfold wordL
  cases ho : opL l with
  | some o =>
    have h1 := ops_size o (opL_mem ho)
    have h2 := (opL_pre ho).length_le
    rw [size_toList] at h2
    dsimp only
    exact ⟨h2, fun _ => h1.1, by omega, by omega⟩
  | none =>
    dsimp only
    by_cases h1 : (getR l).2.2 = true
    · rw [if_pos h1]
      have h2 := (getR_pos h1).1
      have h3 := getR_le l
      dsimp only
      exact ⟨h3, fun _ => by omega, by omega, by omega⟩
    · rw [if_neg h1]
      by_cases h2 : headK [1, 2] l = true
      · rw [if_pos h2]
        have h3 := run_head h2 sub12
        have h4 := takeWhile_le (goodK [0, 1, 2]) l
        unfold nameW
        dsimp only
        exact ⟨h4, fun _ => h3, by split <;> omega, by split <;> omega⟩
      · rw [if_neg h2]
        unfold valueW
        split
        · next h3 =>
          have hl : l.length = 1 + (l.drop 1).length := by
            cases l with
            | nil => cases h3
            | cons c r => simp; omega
          have h4 := takeWhile_le (goodK [0, 1]) (l.drop 1)
          split
          · dsimp only
            exact ⟨by omega, fun _ => by omega, by omega, by omega⟩
          · dsimp only
            exact ⟨by omega, fun h => absurd rfl h, by omega, by omega⟩
        · unfold numW
          split
          · next h5 =>
            have h3 := run_head h5 sub01
            have h4 := takeWhile_le (goodK [0, 1]) l
            dsimp only
            exact ⟨h4, fun _ => h3, by omega, by omega⟩
          · dsimp only
            exact ⟨Nat.zero_le _, fun h => absurd rfl h, by omega, by omega⟩
end Go.Proofs.Ytnhbahfpinijiaa
