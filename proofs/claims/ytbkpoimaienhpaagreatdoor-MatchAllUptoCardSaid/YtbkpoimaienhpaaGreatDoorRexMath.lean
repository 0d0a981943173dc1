-- shaken
import Derived.Test.YtbkpoimaienhpaaGreatDoorBase
namespace Go.Proofs.YtbkpoimaienhpaaGreatDoor
open Go.RowKit
set_option linter.unusedVariables false
set_option linter.unusedSimpArgs false
def word (S i : Nat) : Nat := (S >>> (64 * i)) % 2 ^ 64
theorem word_bit (S i j : Nat) : (word S i).testBit j = (decide (j < 64) && S.testBit (64 * i + j)) := by
  unfold word
  rw [Nat.testBit_mod_two_pow, Nat.testBit_shiftRight]
theorem word_lt (S i : Nat) : word S i < 18446744073709551616 := Nat.mod_lt _ (by decide)
theorem bit_mod (n j : Nat) : (n >>> j) % 2 = (n.testBit j).toNat := by
  rw [Nat.testBit_eq_decide_div_mod_eq, Nat.shiftRight_eq_div_pow]
  have : n / 2 ^ j % 2 = 0 ∨ n / 2 ^ j % 2 = 1 := by omega
  rcases this with h | h <;> simp [h]
theorem word_has (S b : Nat) : (word S (b / 64) >>> (b % 64)) % 2 = (S.testBit b).toNat := by
  rw [bit_mod, word_bit, decide_eq_true (Nat.mod_lt _ (by decide)), Bool.true_and, show 64 * (b / 64) + b % 64 = b by omega]
theorem bit_one (b j : Nat) : (1 <<< b).testBit j = decide (j = b) := by
  rw [Nat.testBit_shiftLeft]
  by_cases h : j = b
  · subst h; simp
  · rw [decide_eq_false h]
    by_cases h2 : b ≤ j
    · have h3 : j - b = (j - b - 1) + 1 := by omega
      rw [h3]
      simp [Nat.testBit_succ]
    · simp [h2]
theorem word_add_self (S b : Nat) : word (S ||| 1 <<< b) (b / 64) = word S (b / 64) ||| 1 <<< (b % 64) := by
  apply Nat.eq_of_testBit_eq
  intro j
  rw [word_bit, Nat.testBit_or, Nat.testBit_or, word_bit, bit_one, bit_one]
  by_cases h : j < 64
  · rw [decide_eq_true h, Bool.true_and, Bool.true_and]
    congr 1
    rw [decide_eq_decide]
    omega
  · rw [decide_eq_false h, Bool.false_and, Bool.false_and, Bool.false_or, eq_comm, decide_eq_false_iff_not]
    omega
theorem word_add_other (S b i : Nat) (h : i ≠ b / 64) : word (S ||| 1 <<< b) i = word S i := by
  apply Nat.eq_of_testBit_eq
  intro j
  rw [word_bit, word_bit, Nat.testBit_or, bit_one]
  by_cases h2 : j < 64
  · rw [decide_eq_true h2, Bool.true_and, Bool.true_and, decide_eq_false (show ¬ 64 * i + j = b by omega), Bool.or_false]
  · rw [decide_eq_false h2, Bool.false_and, Bool.false_and]
theorem set_ext {S T : Nat} (hS : S < 2 ^ 256) (hT : T < 2 ^ 256) (h : ∀ i, i < 4 → word S i = word T i) : S = T := by
  apply Nat.eq_of_testBit_eq
  intro j
  by_cases hj : j < 256
  · have h1 := congrArg (fun n => n.testBit (j % 64)) (h (j / 64) (by omega))
    simp only [word_bit, decide_eq_true (Nat.mod_lt j (show 0 < 64 by decide)), Bool.true_and] at h1
    rwa [show 64 * (j / 64) + j % 64 = j by omega] at h1
  · rw [Nat.testBit_lt_two_pow (Nat.lt_of_lt_of_le hS (Nat.pow_le_pow_right (by decide) (by omega))), Nat.testBit_lt_two_pow (Nat.lt_of_lt_of_le hT (Nat.pow_le_pow_right (by decide) (by omega)))]
def withN (S lo : Nat) : Nat → Nat
  | 0 => S
  | n + 1 => withN (S ||| 1 <<< lo) (lo + 1) n
theorem withN_succ (S lo n : Nat) : withN S lo (n + 1) = withN S lo n ||| 1 <<< (lo + n) := by
  induction n generalizing S lo with
  | zero => rfl
  | succ n ih =>
    show withN (S ||| 1 <<< lo) (lo + 1) (n + 1) = withN (S ||| 1 <<< lo) (lo + 1) n ||| _
    rw [ih, show lo + 1 + n = lo + (n + 1) by omega]
theorem withN_bit (S lo n j : Nat) : (withN S lo n).testBit j = (S.testBit j || (decide (lo ≤ j) && decide (j < lo + n))) := by
  induction n with
  | zero => 
    show S.testBit j = _
    by_cases h : lo ≤ j
    · rw [decide_eq_false (show ¬ j < lo + 0 by omega)]; simp
    · rw [decide_eq_false h]; simp
  | succ n ih =>
    rw [withN_succ, Nat.testBit_or, ih, bit_one, Bool.or_assoc]
    congr 1
    rw [Bool.eq_iff_iff]
    simp
    omega
def withB (S lo hi : Nat) : Nat := withN S lo (hi + 1 - lo)
theorem withB_bit (S lo hi j : Nat) : (withB S lo hi).testBit j = (S.testBit j || (decide (lo ≤ j) && decide (j ≤ hi))) := by
  unfold withB
  rw [withN_bit]
  congr 1
  rw [Bool.eq_iff_iff]
  simp
  omega
theorem lt_of_bits {S : Nat} (h : ∀ j, 256 ≤ j → S.testBit j = false) : S < 2 ^ 256 := Nat.lt_pow_two_of_testBit S h
theorem withB_lt {S : Nat} (lo hi : Nat) (h : S < 2 ^ 256) (hh : hi < 256) : withB S lo hi < 2 ^ 256 := lt_of_bits fun j hj => by
  rw [withB_bit, Nat.testBit_lt_two_pow (Nat.lt_of_lt_of_le h (Nat.pow_le_pow_right (by decide) hj)), decide_eq_false (show ¬ j ≤ hi by omega)]
  simp
def notB (S : Nat) : Nat := S ^^^ (2 ^ 256 - 1)
theorem notB_bit (S j : Nat) : (notB S).testBit j = (S.testBit j ^^ decide (j < 256)) := by
  unfold notB
  rw [Nat.testBit_xor, Nat.testBit_two_pow_sub_one]
theorem notB_lt {S : Nat} (h : S < 2 ^ 256) : notB S < 2 ^ 256 := Nat.xor_lt_two_pow h (by decide)
theorem word_or (S T i : Nat) : word (S ||| T) i = word S i ||| word T i := by
  apply Nat.eq_of_testBit_eq
  intro j
  rw [word_bit, Nat.testBit_or, Nat.testBit_or, word_bit, word_bit, Bool.and_or_distrib_left]
theorem word_not (S i : Nat) (hi : i < 4) : word (notB S) i = word S i ^^^ 18446744073709551615 := by
  apply Nat.eq_of_testBit_eq
  intro j
  rw [word_bit, Nat.testBit_xor, notB_bit, word_bit, show 18446744073709551615 = 2 ^ 64 - 1 by decide, Nat.testBit_two_pow_sub_one]
  by_cases h : j < 64
  · rw [decide_eq_true h, Bool.true_and, Bool.true_and, decide_eq_true (show 64 * i + j < 256 by omega)]
  · rw [decide_eq_false h]; rfl
def manyN (S : Nat) : Nat → Nat
  | 0 => 0
  | n + 1 => manyN S n + (S.testBit n).toNat
def manyB (S : Nat) : Nat := manyN S 256
def leastN (S : Nat) (b : Nat) : Nat → Nat
  | 0 => b
  | n + 1 => if S.testBit b then b else leastN S (b + 1) n
def leastB (S : Nat) : Nat := leastN S 0 255
def oneB (b : Nat) : Nat := withB 0 b b
def anyB : Nat := notB (oneB 10)
inductive NodeT where
  | mk (kind : Int) (set : Nat) (mn mx : Int) (kids : List NodeT)
namespace NodeT
def kind : NodeT → Int | mk k _ _ _ _ => k
def set : NodeT → Nat | mk _ s _ _ _ => s
def mn : NodeT → Int | mk _ _ m _ _ => m
def mx : NodeT → Int | mk _ _ _ m _ => m
def kids : NodeT → List NodeT | mk _ _ _ _ l => l
def nil : NodeT := mk 0 0 0 0 []
def one (s : Nat) : NodeT := mk 1 s 0 0 []
def rep (n : NodeT) (lo hi : Int) : NodeT := mk 6 0 lo hi [n]
end NodeT
def catK : List NodeT → List NodeT
  | [] => []
  | n :: l => if n.kind = 0 then catK l else if n.kind = 4 then n.kids ++ catK l else n :: catK l
def catT (l : List NodeT) : NodeT :=
  match catK l with
  | [] => .nil
  | [n] => n
  | ks => .mk 4 0 0 0 ks
def altK : List NodeT → List NodeT
  | [] => []
  | n :: l => if n.kind = 5 then n.kids ++ altK l else n :: altK l
def altT (l : List NodeT) : NodeT := .mk 5 0 0 0 (altK l)
inductive Res (α : Type) where
  | ok (a : α) (rest : List UInt8)
  | bad (left : Nat)
deriving DecidableEq
def spec : List UInt8 := [92, 46, 91, 93, 40, 41, 42, 43, 63, 123, 125, 124, 94, 36]
def cspec : List UInt8 := [92, 93, 45, 94]
def escP : List UInt8 → Option (Nat × List UInt8)
  | [] => none
  | b :: r =>
    if b = 110 then some (oneB 10, r) else
    if b = 116 then some (oneB 9, r) else
    if b = 100 then some (withB 0 48 57, r) else
    if b = 119 then some (withB (withB (withB (withB 0 48 57) 65 90) 97 122) 95 95, r) else
    if b = 115 then some (withB (withB (withB 0 9 10) 13 13) 32 32, r) else
    if b = 45 ∨ b ∈ spec then some (oneB b.toNat, r) else none
def memP : List UInt8 → Option (Nat × List UInt8)
  | [] => none
  | b :: r => if b = 92 then escP r else if b ∈ cspec then none else some (oneB b.toNat, r)
def itemP (l : List UInt8) : Option (Nat × List UInt8) :=
  match memP l with
  | none => none
  | some (s, 45 :: r) =>
    match memP r with
    | none => none
    | some (t, r2) => if manyB s = 1 ∧ manyB t = 1 ∧ leastB s ≤ leastB t then some (withB 0 (leastB s) (leastB t), r2) else none
  | some (s, r) => some (s, r)
def itemsP : Nat → Nat → List UInt8 → Option (Nat × List UInt8)
  | 0, _, _ => none
  | n + 1, all, l =>
    match l with
    | 93 :: r => some (all, r)
    | l => match itemP l with
      | none => none
      | some (s, r) => itemsP n (all ||| s) r
def classB (neg : Bool) (l : List UInt8) : Option (Nat × List UInt8) :=
  match itemP l with
  | none => none
  | some (s, r) => match itemsP (r.length + 1) s r with
    | none => none
    | some (all, r2) => if (if neg then notB all else all) = 0 then none else some (if neg then notB all else all, r2)
def classP : List UInt8 → Option (Nat × List UInt8)
  | 94 :: r => classB true r
  | l => classB false l
def isDig (b : UInt8) : Bool := decide (48 ≤ b.toNat) && decide (b.toNat ≤ 57)
def decP : List UInt8 → Option Nat
  | [a] => if isDig a then some (a.toNat - 48) else none
  | [a, b] => if a = 49 ∧ isDig b then some (10 + (b.toNat - 48)) else if a = 50 ∧ b = 48 then some 20 else none
  | _ => none
def countP (l : List UInt8) : Option (Nat × List UInt8) :=
  match decP (l.takeWhile isDig) with
  | none => none
  | some n => some (n, l.dropWhile isDig)
def boundsP (l : List UInt8) : Option (Int × Int × List UInt8) :=
  match countP l with
  | none => none
  | some (m, 125 :: r) => some (m, m, r)
  | some (m, 44 :: 125 :: r) => some (m, -1, r)
  | some (m, 44 :: r) =>
    match countP r with
    | some (k, 125 :: r2) => if m ≤ k then some (m, k, r2) else none
    | _ => none
  | some _ => none
def foundP (left : Nat) : Option (Nat × List UInt8) → Res NodeT
  | none => .bad left
  | some (s, r) => .ok (.one s) r
def atomP (E : List UInt8 → Res NodeT) : List UInt8 → Res NodeT
  | [] => .bad 0
  | b :: r =>
    if b = 40 then
      match E r with
      | .bad k => .bad k
      | .ok n (41 :: r2) => .ok n r2
      | .ok _ r2 => .bad r2.length
    else if b = 46 then .ok (.one anyB) r
    else if b = 94 then .ok (.mk 2 0 0 0 []) r
    else if b = 36 then .ok (.mk 3 0 0 0 []) r
    else if b = 92 then foundP (r.length + 1) (escP r)
    else if b = 91 then foundP (r.length + 1) (classP r)
    else if b ∈ spec then .bad (r.length + 1)
    else .ok (.one (oneB b.toNat)) r
def timesP (n : NodeT) (l : List UInt8) : Res NodeT :=
  match l with
  | [] => .ok n []
  | b :: r =>
    if b = 42 then .ok (n.rep 0 (-1)) r
    else if b = 43 then .ok (n.rep 1 (-1)) r
    else if b = 63 then .ok (n.rep 0 1) r
    else if b = 123 then
      match boundsP r with
      | none => .bad l.length
      | some (lo, hi, r2) => .ok (n.rep lo hi) r2
    else .ok n l
def pieceP (E : List UInt8 → Res NodeT) (l : List UInt8) : Res NodeT :=
  match atomP E l with
  | .bad k => .bad k
  | .ok n r => timesP n r
def stopP (g : Bool) : List UInt8 → Bool
  | [] => true
  | b :: _ => b == 124 || (b == 41 && g)
def seqP (E : List UInt8 → Res NodeT) (g : Bool) : Nat → List NodeT → List UInt8 → Res NodeT
  | 0, _, _ => .bad 0
  | n + 1, acc, l =>
    if stopP g l then .ok (catT acc) l else
    match pieceP E l with
    | .bad k => .bad k
    | .ok x r => seqP E g n (acc ++ [x]) r
def choiceT (acc : List NodeT) : NodeT := match acc with | [n] => n | l => altT l
def altsP (E : List UInt8 → Res NodeT) (g : Bool) : Nat → List NodeT → List UInt8 → Res NodeT
  | 0, _, _ => .bad 0
  | n + 1, acc, l =>
    match l with
    | 124 :: r =>
      match seqP E g (r.length + 1) [] r with
      | .bad k => .bad k
      | .ok x r2 => altsP E g n (acc ++ [x]) r2
    | l => .ok (choiceT acc) l
def exprP : Nat → Bool → List UInt8 → Res NodeT
  | 0, _, _ => .bad 0
  | f + 1, g, l =>
    match seqP (exprP f true) g (l.length + 1) [] l with
    | .bad k => .bad k
    | .ok n r => altsP (exprP f true) g (r.length + 1) [n] r
def boundS (n : Int) : Int := min (max n 0) 1000000
mutual
def sizeT : NodeT → Int
  | .mk k _ mn mx kids =>
    boundS (if k = 1 ∨ k = 2 ∨ k = 3 then 1 else if k = 4 then sizesT 0 kids else if k = 5 then sizesT 0 kids + kids.length - 1
      else if k = 6 then (if mx < 0 then firstT kids * max (boundS mn) 1 + 1 else firstT kids * boundS mx + boundS mx - boundS mn) else 0)
def sizesT : Int → List NodeT → Int
  | sum, [] => sum
  | sum, n :: l => if 1000000 ≤ sum then sum else sizesT (sum + sizeT n) l
def firstT : List NodeT → Int
  | [] => 0
  | n :: _ => sizeT n
end
def parseB (l : List UInt8) : NodeT × Int × Int :=
  if 256 < l.length then (.nil, 256, 4) else
  match exprP (l.length + 1) false l with
  | .bad k => (.nil, l.length - k, 2)
  | .ok n r => if 200 < sizeT n then (.nil, l.length - r.length, 4) else (n, l.length - r.length, 0)
end Go.Proofs.YtbkpoimaienhpaaGreatDoor
