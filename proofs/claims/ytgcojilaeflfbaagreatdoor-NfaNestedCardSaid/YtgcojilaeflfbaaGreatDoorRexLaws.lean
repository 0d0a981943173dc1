/- Plain texts, faults, classes, sizes, brackets: how an expression is read: pure. -/
import Derived.Test.YtgcojilaeflfbaaGreatDoorRexNF
import Derived.Test.YtgcojilaeflfbaaGreatDoorRexRight
namespace Go.Proofs.YtgcojilaeflfbaaGreatDoor
open Go.RowKit
set_option linter.unusedVariables false
set_option linter.unusedSimpArgs false

/-! ### Plain texts -/
def onesT (l : List UInt8) : List NodeT := l.map fun c => .one (oneB c.toNat)
theorem onesT_app (l m : List UInt8) : onesT (l ++ m) = onesT l ++ onesT m := List.map_append
theorem onesT_nf (l : List UInt8) : ∀ x, x ∈ onesT l → NF x ∧ x.kind ≠ 0 ∧ x.kind ≠ 4 ∧ x.kind ≠ 5 := by
  intro x hx
  obtain ⟨c, _, rfl⟩ := List.mem_map.1 hx
  exact ⟨.one (oneB_lt _ (UInt8.toNat_lt c)) (oneB_ne _), (fun h => by cases h), (fun h => by cases h), (fun h => by cases h)⟩
theorem setT_one {b : Nat} (h : b < 256) : setT (oneB b) = byteP b spec := by
  unfold setT
  rw [if_neg (any_ne h), if_pos (one_facts b h).1, (one_facts b h).2]
theorem u8_of (c : UInt8) : UInt8.ofNat c.toNat = c := by simp
theorem putT_oneB (c : UInt8) : putT (.one (oneB c.toNat)) = if c ∈ spec then [92, c] else [c] := by
  rw [putT_one, setT_one (UInt8.toNat_lt c)]
  unfold byteP
  rw [u8_of]
theorem catsT_ones : ∀ (l : List UInt8), (∀ c, c ∈ l → c ∉ spec) → catsT (onesT l) = l
  | [], _ => by rw [show onesT [] = [] from rfl, catsT_nil]
  | c :: l, h => by
    rw [show onesT (c :: l) = .one (oneB c.toNat) :: onesT l from rfl, catsT_cons, catsT_ones l (fun d hd => h d (List.mem_cons_of_mem c hd))]
    show inB false (putT (.one (oneB c.toNat))) ++ l = _
    rw [inB_false, putT_oneB, if_neg (h c List.mem_cons_self)]
    rfl
theorem catsT_app2 (l m : List NodeT) : catsT (l ++ m) = catsT l ++ catsT m := by
  induction l with
  | nil => rw [catsT_nil]; rfl
  | cons x l ih => rw [List.cons_append, catsT_cons, catsT_cons, ih, List.append_assoc]
theorem catT_pieces {L : List NodeT} (h : ∀ x, x ∈ L → x.kind ≠ 0 ∧ x.kind ≠ 4 ∧ x.kind ≠ 5) : putT (catT L) = catsT L ∧ (2 ≤ L.length → catT L = .mk 4 0 0 0 L) ∧ (∀ x, L = [x] → catT L = x) ∧ (L = [] → catT L = .nil) := by
  have e := catK_id L (fun x hx => ⟨(h x hx).1, (h x hx).2.1⟩)
  refine ⟨?_, fun h2 => by rw [catT_more (by rw [e]; exact h2), e], fun x hx => catT_one (by rw [e, hx]), fun h0 => catT_zero (by rw [e, h0]; rfl)⟩
  rcases (show L.length = 0 ∨ L.length = 1 ∨ 2 ≤ L.length by omega) with h0 | h0 | h0
  · have : L = [] := List.eq_nil_of_length_eq_zero h0
    subst this
    rw [catT_zero rfl, putT_nil, catsT_nil]
  · match L, h0 with
    | [x], _ =>
      rw [catT_one e, catsT_cons, catsT_nil, List.append_nil, decide_eq_false (h x List.mem_cons_self).2.2, inB_false]
  · rw [catT_more (by rw [e]; exact h0), e, putT_cat]
theorem sizeT_one (S : Nat) : sizeT (.one S) = 1 := by rw [NodeT.one, sizeT]; rfl
theorem sizesT_ones : ∀ (l : List UInt8) (s : Nat), s + l.length ≤ 1000000 → sizesT s (onesT l) = s + l.length
  | [], s, _ => by rw [show onesT [] = [] from rfl, sizesT]; simp
  | c :: l, s, h => by
    rw [List.length_cons] at h
    rw [show onesT (c :: l) = .one (oneB c.toNat) :: onesT l from rfl, sizesT, if_neg (by omega), sizeT_one, List.length_cons]
    have := sizesT_ones l (s + 1) (by omega)
    rw [show ((s : Int) + 1) = ((s + 1 : Nat) : Int) by omega, this]
    omega
theorem sizeT_ones {l : List UInt8} (h : l.length ≤ 1000) : sizeT (catT (onesT l)) = l.length := by
  obtain ⟨_, h2, h1, h0⟩ := catT_pieces (L := onesT l) (fun x hx => (onesT_nf l x hx).2)
  have hl : (onesT l).length = l.length := List.length_map _
  rcases (show l.length = 0 ∨ l.length = 1 ∨ 2 ≤ l.length by omega) with h3 | h3 | h3
  · rw [h0 (List.eq_nil_of_length_eq_zero (by omega)), h3, NodeT.nil, sizeT]; rfl
  · match l, h3 with
    | [c], _ => rw [h1 _ rfl, sizeT_one]; rfl
  · rw [h2 (by omega), sizeT]
    have := sizesT_ones l 0 (by omega)
    rw [show ((0 : Nat) : Int) = 0 from rfl] at this
    rw [this]
    unfold boundS
    simp
    omega
/-- an expression in normal form, as it is put, is read as itself -/
theorem parse_put {x : NodeT} (h : NF x) (hl : (putT x).length ≤ 256) : parseB (putT x) = if 200 < sizeT x then (.nil, ((putT x).length : Int), 4) else (x, ((putT x).length : Int), 0) := by
  have e := (back_all h).1 ((putT x).length + 1) false [] (Nat.lt_succ_self _) (.inl rfl)
  rw [List.append_nil] at e
  unfold parseB
  rw [if_neg (by omega), e]
  show (if 200 < sizeT x then (NodeT.nil, ((putT x).length : Int) - (([] : List UInt8).length : Int), (4 : Int)) else (x, ((putT x).length : Int) - (([] : List UInt8).length : Int), 0)) = _
  simp
/-- a text of bytes that stand for themselves, with some that do not behind a backslash -/
def plainT (l : List UInt8) : NodeT := catT (onesT l)
theorem plainT_nf (l : List UInt8) : NF (plainT l) := catT_nf fun x hx => (onesT_nf l x hx).1
theorem plainT_put (l : List UInt8) : putT (plainT l) = catsT (onesT l) := (catT_pieces fun x hx => (onesT_nf l x hx).2).1
theorem plainT_kids {l : List UInt8} (h : 2 ≤ l.length) : (plainT l).kind = 4 ∧ (plainT l).kids.length = l.length := by
  have e : plainT l = .mk 4 0 0 0 (onesT l) := (catT_pieces fun x hx => (onesT_nf l x hx).2).2.1 (by rw [show (onesT l).length = l.length from List.length_map _]; exact h)
  rw [e]
  exact ⟨rfl, List.length_map _⟩
theorem plain_parse {l : List UInt8} (h : ∀ c, c ∈ l → c ∉ spec) (hl : l.length ≤ 60) : parseB l = (plainT l, (l.length : Int), 0) ∧ putT (plainT l) = l ∧ sizeT (plainT l) = l.length := by
  have e : putT (plainT l) = l := by rw [plainT_put, catsT_ones l h]
  have s := sizeT_ones (l := l) (by omega)
  have p := parse_put (plainT_nf l) (by rw [e]; omega)
  rw [e, show sizeT (plainT l) = l.length from s, if_neg (by omega)] at p
  exact ⟨p, e, s⟩
theorem plain_parse2 {l : List UInt8} (h : ∀ c, c ∈ l → c ∉ spec) (hl : l.length ≤ 60) {b : UInt8} (hb : b ∈ spec) : parseB (l ++ [92, b]) = (plainT (l ++ [b]), (l.length : Int) + 2, 0) ∧ putT (plainT (l ++ [b])) = l ++ [92, b] ∧ sizeT (plainT (l ++ [b])) = l.length + 1 := by
  have e : putT (plainT (l ++ [b])) = l ++ [92, b] := by
    rw [plainT_put, onesT_app, catsT_app2, catsT_ones l h]
    congr 1
    show catsT [.one (oneB b.toNat)] = _
    rw [catsT_cons, catsT_nil, List.append_nil]
    show inB false (putT (.one (oneB b.toNat))) = _
    rw [inB_false, putT_oneB, if_pos hb]
  have s := sizeT_ones (l := l ++ [b]) (by simp; omega)
  have p := parse_put (plainT_nf (l ++ [b])) (by rw [e]; simp; omega)
  rw [e, show sizeT (plainT (l ++ [b])) = ((l ++ [b]).length : Int) from s, if_neg (by simp; omega)] at p
  refine ⟨?_, e, ?_⟩
  · rw [p]; simp
  · rw [show sizeT (plainT (l ++ [b])) = ((l ++ [b]).length : Int) from s]; simp
/-! ### Where something is wrong -/
theorem seq_plain {E : List UInt8 → Res NodeT} {g : Bool} : ∀ (l : List UInt8) (n : Nat) (acc : List NodeT) (r : List UInt8), (∀ c, c ∈ l → c ∉ spec) → noTimes r → seqP E g (l.length + n) acc (l ++ r) = seqP E g n (acc ++ onesT l) r
  | [], n, acc, r, _, _ => by
    rw [show onesT [] = [] from rfl, List.append_nil, List.nil_append, List.length_nil, Nat.zero_add]
  | c :: l, n, acc, r, h, hr => by
    have hc := h c List.mem_cons_self
    have hl := fun d hd => h d (List.mem_cons_of_mem c hd)
    have hno : noTimes (l ++ r) := by
      cases l with
      | nil => exact hr
      | cons d l =>
        have hd := hl d List.mem_cons_self
        intro a q e
        injection e with e _
        subst e
        exact ⟨fun e => hd (by rw [e]; decide), fun e => hd (by rw [e]; decide), fun e => hd (by rw [e]; decide), fun e => hd (by rw [e]; decide)⟩
    have hs : stopP g (c :: (l ++ r)) = false := by
      show (c == 124 || (c == 41 && g)) = false
      rw [beq_eq_false_iff_ne.2 (fun e => hc (by rw [e]; decide)), beq_eq_false_iff_ne.2 (fun e => hc (by rw [e]; decide))]
      rfl
    have ha : atomP E (c :: (l ++ r)) = .ok (.one (oneB c.toNat)) (l ++ r) := by
      rw [atomP_cons, if_neg (fun e => hc (by rw [e]; decide)), if_neg (fun e => hc (by rw [e]; decide)), if_neg (fun e => hc (by rw [e]; decide)), if_neg (fun e => hc (by rw [e]; decide)), if_neg (fun e => hc (by rw [e]; decide)), if_neg (fun e => hc (by rw [e]; decide)), if_neg hc]
    rw [show (c :: l).length + n = (l.length + n) + 1 by simp; omega, seqP_next, List.cons_append, hs, if_neg (by decide), piece_atom ha, timesP_none _ hno]
    show seqP E g (l.length + n) (acc ++ [.one (oneB c.toNat)]) (l ++ r) = _
    rw [seq_plain l n _ r hl hr, List.append_assoc]
    rfl
theorem expr_plain {l r : List UInt8} (h : ∀ c, c ∈ l → c ∉ spec) (hr : noTimes r) : exprP ((l ++ r).length + 1) false (l ++ r) = (match seqP (exprP (l.length + r.length) true) false (r.length + 1) (onesT l) r with
    | .bad k => .bad k
    | .ok n q => altsP (exprP (l.length + r.length) true) false (q.length + 1) [n] q) := by
  rw [exprP_succ, List.length_append, show l.length + r.length + 1 = l.length + (r.length + 1) by omega, seq_plain l _ [] r h hr]
  rfl
theorem parse_bad {l : List UInt8} {k : Nat} (h : exprP (l.length + 1) false l = .bad k) (hl : l.length ≤ 256) : parseB l = (.nil, (l.length : Int) - (k : Int), 2) := by
  unfold parseB
  rw [if_neg (by omega), h]
def badL : Nat → List UInt8
  | 0 => [41] | 1 => [93] | 2 => [125] | 3 => [124, 42] | 4 => [91] | 5 => [91, 93] | 6 => [91, 122, 45, 97, 93] | 7 => [92] | 8 => [92, 113] | 9 => [40] | 10 => [40, 63] | _ => [124, 123, 50, 125]
def aheadL : Nat → Nat
  | 3 => 1 | 9 => 1 | 10 => 1 | 11 => 1 | _ => 0
theorem class_za : classP [122, 45, 97, 93] = none := by decide +kernel
theorem bad_seq (k : Nat) (hk : k < 12) (j : Nat) (acc : List NodeT) : (match seqP (exprP (j + (badL k).length) true) false ((badL k).length + 1) acc (badL k) with
    | .bad k => Res.bad k
    | .ok n q => altsP (exprP (j + (badL k).length) true) false (q.length + 1) [n] q) = .bad ((badL k).length - aheadL k) := by
  rcases (show k = 0 ∨ k = 1 ∨ k = 2 ∨ k = 3 ∨ k = 4 ∨ k = 5 ∨ k = 6 ∨ k = 7 ∨ k = 8 ∨ k = 9 ∨ k = 10 ∨ k = 11 by omega) with rfl | rfl | rfl | rfl | rfl | rfl | rfl | rfl | rfl | rfl | rfl | rfl
  · rfl
  · rfl
  · rfl
  · rfl
  · rfl
  · rfl
  · have ha : ∀ E, pieceP E [91, 122, 45, 97, 93] = .bad 5 := fun E => by
      unfold pieceP
      rw [atomP_cons, if_neg (by decide), if_neg (by decide), if_neg (by decide), if_neg (by decide), if_neg (by decide), if_pos rfl, class_za]
      rfl
    rw [show badL 6 = [91, 122, 45, 97, 93] from rfl, show ([91, 122, 45, 97, 93] : List UInt8).length = 5 from rfl, show aheadL 6 = 0 from rfl, seqP_next, ha, if_neg (by decide)]
  · rfl
  · rfl
  · rfl
  · rfl
  · rfl
theorem badL_no (k : Nat) (hk : k < 12) : noTimes (badL k) := by
  rcases (show k = 0 ∨ k = 1 ∨ k = 2 ∨ k = 3 ∨ k = 4 ∨ k = 5 ∨ k = 6 ∨ k = 7 ∨ k = 8 ∨ k = 9 ∨ k = 10 ∨ k = 11 by omega) with rfl | rfl | rfl | rfl | rfl | rfl | rfl | rfl | rfl | rfl | rfl | rfl <;> (intro c q e; injection e with e _; subst e; decide)
theorem badL_len (k : Nat) : (badL k).length ≤ 5 ∧ aheadL k ≤ (badL k).length := by
  unfold badL aheadL
  split <;> simp
  all_goals (split <;> simp)
theorem wrong_parse {l : List UInt8} (h : ∀ c, c ∈ l → c ∉ spec) (hl : l.length ≤ 40) {k : Nat} (hk : k < 12) : parseB (l ++ badL k) = (.nil, (l.length : Int) + (aheadL k : Int), 2) := by
  have h1 := expr_plain h (badL_no k hk)
  rw [bad_seq k hk] at h1
  have hb := badL_len k
  rw [parse_bad h1 (by rw [List.length_append]; omega), List.length_append]
  congr 2
  omega
/-! ### Classes -/
theorem memP_plain {c : UInt8} (h : c ∉ cspec) (r : List UInt8) : memP (c :: r) = some (oneB c.toNat, r) := by
  rw [memP_cons, if_neg (fun e => h (by rw [e]; decide)), if_neg h]
theorem item_range {c d : UInt8} (hc : c ∉ cspec) (hd : d ∉ cspec) (h : c.toNat ≤ d.toNat) (r : List UInt8) : itemP (c :: 45 :: d :: r) = some (withB 0 c.toNat d.toNat, r) := by
  rw [itemP_two (memP_plain hc (45 :: d :: r)), memP_plain hd r]
  have e1 := one_facts c.toNat (UInt8.toNat_lt c)
  have e2 := one_facts d.toNat (UInt8.toNat_lt d)
  show (if manyB (oneB c.toNat) = 1 ∧ manyB (oneB d.toNat) = 1 ∧ leastB (oneB c.toNat) ≤ leastB (oneB d.toNat) then some (withB 0 (leastB (oneB c.toNat)) (leastB (oneB d.toNat)), r) else none) = _
  rw [e1.2, e2.2, if_pos ⟨e1.1, e2.1, h⟩]
theorem item_single {c d : UInt8} (hc : c ∉ cspec) (hd : d ≠ 45) (r : List UInt8) : itemP (c :: d :: r) = some (oneB c.toNat, d :: r) :=
  itemP_one (memP_plain hc (d :: r)) (fun q e => hd (by injection e))
def classU (lo hi one : UInt8) : Nat := withB 0 lo.toNat hi.toNat ||| oneB one.toNat
theorem classU_bit (lo hi one : UInt8) (j : Nat) : (classU lo hi one).testBit j = ((decide (lo.toNat ≤ j) && decide (j ≤ hi.toNat)) || decide (j = one.toNat)) := by
  unfold classU
  rw [Nat.testBit_or, withB_bit, Nat.zero_testBit, Bool.false_or, oneB_bit]
def cls1 (lo hi one : UInt8) : List UInt8 := [lo, 45, hi, one]
def cls2 (lo hi one : UInt8) : List UInt8 := [one, lo, 45, hi, one]
def cls3 (lo hi one : UInt8) : List UInt8 := [one, 45, one, lo, 45, hi]
theorem no93 {c : UInt8} (h : c ∉ cspec) (r : List UInt8) : ∀ q, c :: r ≠ 93 :: q := fun q e => by
  injection e with e _
  exact h (by rw [e]; decide)
theorem classB_done (neg : Bool) {l r : List UInt8} {s all : Nat} (h1 : itemP l = some (s, r)) (h2 : itemsP (r.length + 1) s r = some (all, [])) (h3 : (if neg then notB all else all) ≠ 0) : classB neg l = some (if neg then notB all else all, []) := by
  unfold classB
  rw [h1]
  show (match itemsP (r.length + 1) s r with
    | none => none
    | some (all, r2) => if (if neg then notB all else all) = 0 then none else some (if neg then notB all else all, r2)) = _
  rw [h2]
  show (if (if neg then notB all else all) = 0 then none else some (if neg then notB all else all, [])) = _
  rw [if_neg h3]
theorem classU_ok {lo hi one : UInt8} (h1 : 0 < lo.toNat) (h2 : 0 < one.toNat) (h3 : lo.toNat ≤ hi.toNat) (neg : Bool) : (if neg then notB (classU lo hi one) else classU lo hi one) ≠ 0 := by
  cases neg with
  | true =>
    refine bit_ne (j := 0) ?_
    show (notB (classU lo hi one)).testBit 0 = true
    rw [notB_bit, classU_bit, decide_eq_false (by omega), decide_eq_false (show ¬ 0 = one.toNat by omega)]
    rfl
  | false =>
    refine bit_ne (j := one.toNat) ?_
    show (classU lo hi one).testBit one.toNat = true
    rw [classU_bit, decide_eq_true (rfl : one.toNat = one.toNat)]
    simp
theorem class_one (neg : Bool) {lo hi one : UInt8} (hlo : lo ∉ cspec) (hhi : hi ∉ cspec) (hone : one ∉ cspec) (h1 : 0 < lo.toNat) (h2 : 0 < one.toNat) (h3 : lo.toNat ≤ hi.toNat) :
    classB neg (cls1 lo hi one ++ [93]) = some (if neg then notB (classU lo hi one) else classU lo hi one, []) ∧ classB neg (cls2 lo hi one ++ [93]) = some (if neg then notB (classU lo hi one) else classU lo hi one, []) ∧ classB neg (cls3 lo hi one ++ [93]) = some (if neg then notB (classU lo hi one) else classU lo hi one, []) := by
  have hne := classU_ok h1 h2 h3 neg
  have e2 : (oneB one.toNat ||| withB 0 lo.toNat hi.toNat) ||| oneB one.toNat = classU lo hi one := by
    unfold classU
    apply Nat.eq_of_testBit_eq
    intro j
    simp only [Nat.testBit_or]
    cases (oneB one.toNat).testBit j <;> cases (withB 0 lo.toNat hi.toNat).testBit j <;> rfl
  have e3 : withB 0 one.toNat one.toNat ||| withB 0 lo.toNat hi.toNat = classU lo hi one := by
    unfold classU
    exact Nat.or_comm _ _
  refine ⟨classB_done neg (item_range hlo hhi h3 [one, 93]) ?_ hne, classB_done neg (item_single hone (fun e => hlo (by rw [e]; decide)) [45, hi, one, 93]) ?_ hne, classB_done neg (item_range hone hone (Nat.le_refl _) [lo, 45, hi, 93]) ?_ hne⟩
  · rw [show ([one, 93] : List UInt8).length + 1 = 2 + 1 from rfl, itemsP_next (no93 hone _), item_single hone (by decide) []]
    rfl
  · rw [show ([lo, 45, hi, one, 93] : List UInt8).length + 1 = 5 + 1 from rfl, itemsP_next (no93 hlo _), item_range hlo hhi h3 [one, 93]]
    show itemsP (4 + 1) (oneB one.toNat ||| withB 0 lo.toNat hi.toNat) [one, 93] = _
    rw [itemsP_next (no93 hone _), item_single hone (by decide) []]
    show some ((oneB one.toNat ||| withB 0 lo.toNat hi.toNat) ||| oneB one.toNat, ([] : List UInt8)) = _
    rw [e2]
  · rw [show ([lo, 45, hi, 93] : List UInt8).length + 1 = 4 + 1 from rfl, itemsP_next (no93 hlo _), item_range hlo hhi h3 [93]]
    show some (withB 0 one.toNat one.toNat ||| withB 0 lo.toNat hi.toNat, ([] : List UInt8)) = _
    rw [e3]
def hatL (neg : Bool) : List UInt8 := if neg then [94] else []
theorem classP_hatL (neg : Bool) {c : UInt8} (hc : c ∉ cspec) (l : List UInt8) : classP (hatL neg ++ (c :: l)) = classB neg (c :: l) := by
  cases neg with
  | true => rfl
  | false => exact classP_not (fun q e => hc (by injection e with e _; rw [e]; decide))
theorem class_parse (neg : Bool) {c : UInt8} (hc : c ∉ cspec) {l : List UInt8} {S : Nat} (h : classB neg (c :: l ++ [93]) = some (S, [])) (hl : l.length ≤ 200) : (parseB (91 :: (hatL neg ++ (c :: l ++ [93])))).1 = .one S ∧ (parseB (91 :: (hatL neg ++ (c :: l ++ [93])))).2.2 = 0 := by
  have hlen : (91 :: (hatL neg ++ (c :: l ++ [93]))).length ≤ 256 := by
    unfold hatL
    cases neg <;> simp <;> omega
  have hp : ∀ E, pieceP E (91 :: (hatL neg ++ (c :: l ++ [93]))) = .ok (.one S) [] := fun E => by
    have hc2 : classP (hatL neg ++ (c :: l ++ [93])) = some (S, []) := by
      rw [List.cons_append, classP_hatL neg hc]
      exact h
    have ha : atomP E (91 :: (hatL neg ++ (c :: l ++ [93]))) = .ok (.one S) [] := by
      rw [atomP_cons, if_neg (by decide), if_neg (by decide), if_neg (by decide), if_neg (by decide), if_neg (by decide), if_pos rfl, hc2]
      rfl
    rw [piece_atom ha]
    rfl
  obtain ⟨t, ht⟩ : ∃ t, hatL neg ++ (c :: l ++ [93]) = t := ⟨_, rfl⟩
  rw [ht] at hp hlen ⊢
  have he : exprP ((91 :: t).length + 1) false (91 :: t) = .ok (.one S) [] := by
    rw [exprP_succ, List.length_cons, seqP_next, show stopP false (91 :: t) = false from rfl, if_neg (by decide), hp]
    show (match seqP (exprP (t.length + 1) true) false (t.length + 1) ([] ++ [.one S]) [] with
      | .bad k => Res.bad k
      | .ok n r => altsP (exprP (t.length + 1) true) false (r.length + 1) [n] r) = _
    rw [seqP_next]
    rfl
  unfold parseB
  rw [if_neg (by omega), he]
  show (if 200 < sizeT (.one S) then (NodeT.nil, _, (4 : Int)) else (NodeT.one S, _, 0)).1 = _ ∧ (if 200 < sizeT (.one S) then (NodeT.nil, _, (4 : Int)) else (NodeT.one S, ((91 :: t).length : Int) - (([] : List UInt8).length : Int), (0 : Int))).2.2 = 0
  rw [sizeT_one]
  exact ⟨rfl, rfl⟩
theorem classU_has (lo hi one : UInt8) (neg : Bool) (x : Nat) (hx : x < 256) : (if neg then notB (classU lo hi one) else classU lo hi one).testBit x = (((decide (lo.toNat ≤ x) && decide (x ≤ hi.toNat)) || decide (x = one.toNat)) != neg) := by
  cases neg with
  | true =>
    show (notB (classU lo hi one)).testBit x = _
    rw [notB_bit, classU_bit, decide_eq_true hx]
  | false =>
    show (classU lo hi one).testBit x = _
    rw [classU_bit, Bool.bne_false]
/-! ### Sizes -/
theorem sizeT_rep (x : NodeT) (m n : Int) (hn : 0 ≤ n) (hm : 0 ≤ m) (hn2 : n ≤ 1000) (hm2 : m ≤ 1000) : sizeT (.rep x m n) = boundS (sizeT x * n + n - m) := by
  rw [NodeT.rep, sizeT]
  show boundS (if n < 0 then firstT [x] * max (boundS m) 1 + 1 else firstT [x] * boundS n + boundS n - boundS m) = _
  rw [if_neg (by omega), show firstT [x] = sizeT x by rw [firstT]]
  have b : ∀ z : Int, 0 ≤ z → z ≤ 1000 → boundS z = z := fun z h1 h2 => by unfold boundS; omega
  rw [b n hn hn2, b m hm hm2]
def repA (m n : Nat) : NodeT := .rep (.one (oneB 97)) m n
def repB (m n k : Nat) : NodeT := .rep (repA m n) k k
theorem repA_nf {m n : Nat} (h1 : m ≤ n) (h2 : n ≤ 20) : NF (repA m n) := .rep (.one (by decide +kernel) (by decide +kernel)) (by omega) (by omega) (.inr ⟨by omega, by omega⟩)
theorem repB_nf {m n k : Nat} (h1 : m ≤ n) (h2 : n ≤ 20) (h3 : k ≤ 20) : NF (repB m n k) := .rep (repA_nf h1 h2) (by omega) (by omega) (.inr ⟨by omega, by omega⟩)
theorem repA_size {m n : Nat} (h1 : m ≤ n) (h2 : n ≤ 20) : sizeT (repA m n) = (n + n - m : Nat) := by
  unfold repA
  rw [sizeT_rep _ _ _ (by omega) (by omega) (by omega) (by omega), sizeT_one]
  unfold boundS
  omega
theorem repB_size {m n k : Nat} (h1 : m ≤ n) (h2 : n ≤ 20) (h3 : k ≤ 20) : sizeT (repB m n k) = (k * (n + n - m) : Nat) := by
  unfold repB
  rw [sizeT_rep _ _ _ (by omega) (by omega) (by omega) (by omega), repA_size h1 h2]
  have : (n + n - m) * k ≤ 40 * 20 := Nat.mul_le_mul (by omega) h3
  have h0 : 0 ≤ ((n + n - m : Nat) : Int) * (k : Int) := Int.mul_nonneg (by omega) (by omega)
  have e : ((n + n - m : Nat) : Int) * (k : Int) = (((n + n - m) * k : Nat) : Int) := by rw [Int.natCast_mul]
  rw [e, Nat.mul_comm]
  rw [Nat.mul_comm] at this
  unfold boundS
  omega
theorem itoa_len : ∀ m : Nat, m < 21 → (Lib.itoa (m : Int)).length ≤ 2 := by decide +kernel
theorem timesT_len {m n : Nat} (hm : m ≤ 20) (hn : n ≤ 20) : (timesT m n).length ≤ 7 := by
  have h1 := itoa_len m (by omega)
  have h2 := itoa_len n (by omega)
  unfold timesT
  split
  · simp
  · split
    · simp
    · split
      · simp
      · split
        · simp; omega
        · split <;> simp <;> omega
theorem repB_put {m n k : Nat} (h1 : m ≤ n) (h2 : n ≤ 20) (h3 : k ≤ 20) : (putT (repB m n k)).length ≤ 256 := by
  have a1 := timesT_len (show m ≤ 20 by omega) h2
  have a2 := timesT_len h3 h3
  have h := putT_rep (repA m n) k k
  have h' := putT_rep (.one (oneB 97)) m n
  unfold repB
  rw [h, List.length_append]
  have b1 := inB_len (decide ((repA m n).kind = 0) || decide (4 ≤ (repA m n).kind)) (putT (repA m n))
  have b2 : (putT (repA m n)).length ≤ 20 := by
    unfold repA
    rw [h', List.length_append]
    have b3 := inB_len (decide ((NodeT.one (oneB 97)).kind = 0) || decide (4 ≤ (NodeT.one (oneB 97)).kind)) (putT (.one (oneB 97)))
    have b4 : (putT (.one (oneB 97))).length ≤ 2 := by
      rw [putT_one, setT_one (by decide)]
      exact byteP_len _ _
    omega
  omega
theorem repB_parse {m n k : Nat} (h1 : m ≤ n) (h2 : n ≤ 20) (h3 : k ≤ 20) : (parseB (putT (repB m n k))).2.2 = if 200 < k * (n + n - m) then 4 else 0 := by
  rw [parse_put (repB_nf h1 h2 h3) (repB_put h1 h2 h3), repB_size h1 h2 h3]
  by_cases h : 200 < k * (n + n - m)
  · rw [if_pos (by omega), if_pos h]
  · rw [if_neg (by omega), if_neg h]
/-! ### Brackets, sequences, choices -/
def RD (l : List UInt8) (x : NodeT) : Prop := exprP (l.length + 1) false l = .ok x []
theorem RD.nf {l : List UInt8} {x : NodeT} (h : RD l x) : NF x := exprP_nf _ _ _ _ _ h
theorem RD.lift {l : List UInt8} {x : NodeT} (h : RD l x) {f : Nat} (hf : l.length + 1 ≤ f) (r : List UInt8) : exprP f true (l ++ 41 :: r) = .ok x (41 :: r) :=
  exprP_ext (l.length + 1) f false true (41 :: r) hf (.inr ⟨⟨r, rfl⟩, rfl⟩) l x [] h
theorem RD.parse {l : List UInt8} {x : NodeT} (h : RD l x) (hl : l.length ≤ 256) : parseB l = if 200 < sizeT x then (.nil, (l.length : Int), 4) else (x, (l.length : Int), 0) := by
  unfold parseB
  rw [if_neg (by omega), show exprP (l.length + 1) false l = .ok x [] from h]
  show (if 200 < sizeT x then (NodeT.nil, (l.length : Int) - (([] : List UInt8).length : Int), (4 : Int)) else (x, (l.length : Int) - (([] : List UInt8).length : Int), 0)) = _
  simp
theorem RD.of {l : List UInt8} {x : NodeT} {a : Int} (h : parseB l = (x, a, 0)) : RD l x ∧ sizeT x ≤ 200 ∧ l.length ≤ 256 ∧ a = l.length := by
  unfold parseB at h
  split at h
  · injection h with _ h; injection h with _ h; cases h
  · rename_i hl
    cases hx : exprP (l.length + 1) false l with
    | bad k => rw [hx] at h; injection h with _ h; injection h with _ h; cases h
    | ok m r =>
      rw [hx] at h
      replace h : (if 200 < sizeT m then (NodeT.nil, (l.length : Int) - (r.length : Int), (4 : Int)) else (m, (l.length : Int) - (r.length : Int), 0)) = (x, a, 0) := h
      have hr : r = [] := by
        rcases exprP_stop hx with h1 | ⟨q, _, h1⟩
        · exact h1
        · cases h1
      subst hr
      split at h
      · injection h with _ h; injection h with _ h; cases h
      · injection h with h1 h2
        injection h2 with h2 _
        subst h1
        exact ⟨hx, by omega, by omega, by rw [← h2]; simp⟩
theorem catT_self {x : NodeT} (h : NF x) : catT [x] = x := by
  by_cases h0 : x.kind = 0
  · cases h with
    | nil => rfl
    | one => cases h0
    | beg => cases h0
    | fin => cases h0
    | cat => cases h0
    | alt => cases h0
    | rep => cases h0
  · by_cases h4 : x.kind = 4
    · cases h with
      | nil => cases h4
      | one => cases h4
      | beg => cases h4
      | fin => cases h4
      | alt => cases h4
      | rep => cases h4
      | cat h hk hl =>
        rename_i l
        have e : catK [NodeT.mk 4 0 0 0 l] = l := by
          rw [catK, if_neg h0, if_pos h4, catK, List.append_nil]
          rfl
        rw [catT_more (by rw [e]; exact h), e]
    · exact catT_one (catK_id [x] (fun y hy => by rw [List.mem_singleton.1 hy]; exact ⟨h0, h4⟩))
theorem inB_len2 (l : List UInt8) : (inB true l).length = l.length + 2 := by rw [inB_true]; simp
theorem grp_no (l r : List UInt8) : noTimes (inB true l ++ r) := fun c q e => by
  rw [inB_true] at e
  injection e with e _
  subst e
  decide
theorem seq_group {l : List UInt8} {x : NodeT} (h : RD l x) {f : Nat} (hf : l.length + 1 ≤ f) (g : Bool) (n : Nat) (acc : List NodeT) {r : List UInt8} (hr : noTimes r) : seqP (exprP f true) g (n + 1) acc (inB true l ++ r) = seqP (exprP f true) g n (acc ++ [x]) r := by
  have hs : stopP g (inB true l ++ r) = false := by rw [inB_true]; rfl
  rw [seqP_next, hs, if_neg (by decide), piece_atom (atom_group (h.lift hf r)), timesP_none _ hr]
theorem nil_no : noTimes [] := fun c q e => by cases e
theorem seqP_stop {E : List UInt8 → Res NodeT} {g : Bool} (n : Nat) (acc : List NodeT) {l : List UInt8} (h : stopP g l = true) : seqP E g (n + 1) acc l = .ok (catT acc) l := by rw [seqP_next, if_pos h]
theorem rd_grp {l : List UInt8} {x : NodeT} (h : RD l x) : RD (inB true l) x := by
  show exprP ((inB true l).length + 1) false (inB true l) = _
  have e : seqP (exprP (inB true l).length true) false ((inB true l).length + 1) [] (inB true l) = .ok (catT [x]) [] := by
    have h1 := seq_group h (f := (inB true l).length) (by rw [inB_len2]; omega) false ((inB true l).length) [] (r := []) nil_no
    rw [List.append_nil] at h1
    rw [h1, inB_len2, seqP_stop (l.length + 1) _ rfl]
    rfl
  rw [exprP_succ, e]
  show altsP _ false (0 + 1) [catT [x]] [] = _
  rw [altsP_end (fun q e => by cases e), catT_self h.nf]
  rfl
theorem rd_cat2 {l m : List UInt8} {x y : NodeT} (h : RD l x) (k : RD m y) : RD (inB true l ++ inB true m) (catT [x, y]) := by
  show exprP ((inB true l ++ inB true m).length + 1) false _ = _
  obtain ⟨f, hf⟩ : ∃ f, (inB true l ++ inB true m).length = f := ⟨_, rfl⟩
  have hf2 : f = l.length + m.length + 4 := by rw [← hf, List.length_append, inB_len2, inB_len2]; omega
  have e : seqP (exprP f true) false (f + 1) [] (inB true l ++ inB true m) = .ok (catT [x, y]) [] := by
    have n1 := grp_no m []
    rw [List.append_nil] at n1
    have h1 := seq_group k (f := f) (by omega) false (f - 1) ([] ++ [x]) (r := []) nil_no
    rw [List.append_nil, show f - 1 + 1 = f by omega] at h1
    rw [seq_group h (by omega) false f [] n1, h1, show f - 1 = (f - 2) + 1 by omega, seqP_stop _ _ rfl]
    rfl
  rw [hf, exprP_succ, hf, e]
  show altsP _ false (0 + 1) [catT [x, y]] [] = _
  rw [altsP_end (fun q e => by cases e)]
  rfl
theorem bar_noT (l : List UInt8) : noTimes (124 :: l) := bar_no l
theorem altsP_acc {E : List UInt8 → Res NodeT} (hE : ENF E) {g : Bool} : ∀ (n : Nat) (acc : List NodeT) (l r : List UInt8) (z : NodeT), altsP E g n acc l = .ok z r → ∃ cs, (∀ x, x ∈ cs → NF x) ∧ z = choiceT (acc ++ cs) ∧ ∀ (pre : List NodeT) (n' : Nat), n ≤ n' → altsP E g n' (pre ++ acc) l = .ok (choiceT (pre ++ (acc ++ cs))) r
  | 0, _, _, _, _, h => by cases h
  | n + 1, acc, l, r, z, h => by
    by_cases hb : ∃ q, l = 124 :: q
    · obtain ⟨q, rfl⟩ := hb
      rw [altsP_bar] at h
      cases hs : seqP E g (q.length + 1) [] q with
      | bad k => rw [hs] at h; cases h
      | ok x r2 =>
        rw [hs] at h
        obtain ⟨cs, h0, h1, h2⟩ := altsP_acc hE n (acc ++ [x]) r2 r z h
        refine ⟨[x] ++ cs, fun y hy => ?_, by rw [h1, List.append_assoc], fun pre n' hn => ?_⟩
        · rcases List.mem_append.1 hy with hy | hy
          · rw [List.mem_singleton.1 hy]; exact seqP_nf hE _ _ _ _ _ (fun _ h => by cases h) hs
          · exact h0 y hy
        · obtain ⟨n', rfl⟩ : ∃ j, n' = j + 1 := ⟨n' - 1, by omega⟩
          rw [altsP_bar, hs]
          show altsP E g n' (pre ++ acc ++ [x]) r2 = _
          rw [List.append_assoc, h2 pre n' (by omega), List.append_assoc]
    · have hb' : ∀ q, l ≠ 124 :: q := fun q e => hb ⟨q, e⟩
      rw [altsP_end hb'] at h
      cases h
      refine ⟨[], (fun x hx => by cases hx), by rw [List.append_nil], fun pre n' hn => ?_⟩
      obtain ⟨n', rfl⟩ : ∃ j, n' = j + 1 := ⟨n' - 1, by omega⟩
      rw [altsP_end hb', List.append_nil]
/-- the choices of an expression, read once more behind others -/
theorem alts_behind {m : List UInt8} {z : NodeT} (k : RD m z) {f : Nat} (hf : m.length ≤ f) : ∃ cs, 1 ≤ cs.length ∧ (∀ x, x ∈ cs → NF x) ∧ z = choiceT cs ∧ ∀ (n : Nat) (acc : List NodeT), m.length + 1 < n → altsP (exprP f true) false n acc (124 :: m) = .ok (choiceT (acc ++ cs)) [] := by
  have k0 : exprP (m.length + 1) false m = .ok z [] := k
  rw [exprP_succ] at k0
  have hE : Ext (exprP m.length true) (exprP f true) [] := exprP_ext m.length f true true [] hf (.inl ⟨rfl, rfl⟩)
  cases hs : seqP (exprP m.length true) false (m.length + 1) [] m with
  | bad j => rw [hs] at k0; cases k0
  | ok x q =>
    rw [hs] at k0
    replace k0 : altsP (exprP m.length true) false (q.length + 1) [x] q = .ok z [] := k0
    have s1 := seqP_ext (g := false) (g' := false) (.inl ⟨rfl, rfl⟩) hE (m.length + 1) (m.length + 1) [] m q x (Nat.le_refl _) hs
    rw [List.append_nil, List.append_nil] at s1
    have hql : q.length ≤ m.length := (seqP_ok (exprP_ok m.length true) _ _ _ 0 _ _ (kinv_nil catK rfl) hs).1
    have a0 := altsP_ext (g := false) (g' := false) (.inl ⟨rfl, rfl⟩) hE (q.length + 1) (q.length + 1) [x] q [] z (Nat.le_refl _) k0
    rw [List.append_nil, List.append_nil] at a0
    obtain ⟨cs, h0, h1, h2⟩ := altsP_acc (exprP_nf f true) (q.length + 1) [x] q [] z a0
    have hx : NF x := seqP_nf (exprP_nf _ _) _ _ _ _ _ (fun _ h => by cases h) hs
    refine ⟨[x] ++ cs, by simp, fun y hy => ?_, h1, fun n acc hn => ?_⟩
    · rcases List.mem_append.1 hy with hy | hy
      · rw [List.mem_singleton.1 hy]; exact hx
      · exact h0 y hy
    · obtain ⟨n, rfl⟩ : ∃ j, n = j + 1 := ⟨n - 1, by omega⟩
      rw [altsP_bar, s1]
      show altsP (exprP f true) false n (acc ++ [x]) q = _
      rw [h2 acc n (by omega)]
theorem choice_two (x : NodeT) {cs : List NodeT} (h : 1 ≤ cs.length) : choiceT (x :: cs) = altT (x :: cs) := choice_more (by rw [List.length_cons]; omega)
theorem altK_self {z : NodeT} (h : NF z) : ∃ L, altK [z] = L ∧ (z.kind = 5 → L = z.kids) := ⟨_, rfl, fun h5 => by rw [altK, if_pos h5, altK, List.append_nil]⟩
theorem altK_alt (l : List NodeT) : altK [altT l] = altK l := by
  rw [altK, if_pos (show (altT l).kind = 5 from rfl), altK, List.append_nil]
  rfl
theorem altK_choice {cs : List NodeT} : altK [choiceT cs] = altK cs := by
  by_cases h : cs.length = 1
  · match cs, h with
    | [x], _ => rfl
  · rw [choice_more h, altK_alt]
theorem altT_eq {l m : List NodeT} (h : altK l = altK m) : altT l = altT m := by
  unfold altT
  rw [h]
theorem catT_eq {l m : List NodeT} (h : catK l = catK m) : catT l = catT m := by
  unfold catT
  rw [h]
/-- a choice of one in brackets, and another one as it stands -/
theorem rd_alt {l m : List UInt8} {x z : NodeT} (h : RD l x) (k : RD m z) : RD (inB true l ++ 124 :: m) (altT [x, z]) := by
  show exprP ((inB true l ++ 124 :: m).length + 1) false _ = _
  obtain ⟨f, hf⟩ : ∃ f, (inB true l ++ 124 :: m).length = f := ⟨_, rfl⟩
  have hf2 : f = l.length + m.length + 3 := by rw [← hf, List.length_append, inB_len2, List.length_cons]; omega
  have e : seqP (exprP f true) false (f + 1) [] (inB true l ++ 124 :: m) = .ok (catT [x]) (124 :: m) := by
    rw [seq_group h (by omega) false f [] (bar_noT m), show f = (f - 1) + 1 by omega, seqP_stop (f - 1) _ (bar_stop false m)]
    rfl
  obtain ⟨cs, h1, h2, h3, h4⟩ := alts_behind k (f := f) (by omega)
  rw [hf, exprP_succ, hf, e]
  show altsP _ false ((124 :: m).length + 1) [catT [x]] (124 :: m) = _
  rw [catT_self h.nf, h4 _ _ (by rw [List.length_cons]; omega)]
  show Res.ok (choiceT (x :: cs)) [] = _
  rw [choice_two x h1]
  congr 1
  refine altT_eq ?_
  rw [show x :: cs = [x] ++ cs from rfl, show [x, z] = [x] ++ [z] from rfl, altK_app, altK_app, h3, altK_choice]
theorem catK_cat {l : List NodeT} (h : ∀ x, x ∈ l → NF x) : catK [catT l] = catK l := by
  have hk := catK_nf l h
  rcases (show (catK l).length = 0 ∨ (catK l).length = 1 ∨ 2 ≤ (catK l).length by omega) with h0 | h0 | h0
  · rw [catT_zero h0, List.eq_nil_of_length_eq_zero h0]
    rfl
  · obtain ⟨x, hx⟩ : ∃ x, catK l = [x] := by
      match hk : catK l, h0 with
      | [x], _ => exact ⟨x, rfl⟩
    have := hk x (by rw [hx]; exact List.mem_singleton.2 rfl)
    rw [catT_one hx, hx]
    exact catK_id [x] (fun y hy => by rw [List.mem_singleton.1 hy]; exact this.2)
  · rw [catT_more h0]
    obtain ⟨L, hL⟩ : ∃ L, catK l = L := ⟨_, rfl⟩
    rw [hL, catK, if_neg (by intro h; cases h), if_pos (show (NodeT.mk 4 0 0 0 L).kind = 4 from rfl), catK, List.append_nil]
    rfl
theorem mem_two {P : NodeT → Prop} {x y : NodeT} (hx : P x) (hy : P y) : ∀ z, z ∈ [x, y] → P z := fun z hz => by
  rcases List.mem_cons.1 hz with rfl | hz
  · exact hx
  · rw [List.mem_singleton.1 hz]; exact hy
theorem cat_assoc {x y z : NodeT} (hx : NF x) (hy : NF y) (hz : NF z) : catT [x, catT [y, z]] = catT [catT [x, y], z] := by
  refine catT_eq ?_
  rw [show [x, catT [y, z]] = [x] ++ [catT [y, z]] from rfl, show [catT [x, y], z] = [catT [x, y]] ++ [z] from rfl, catK_app, catK_app, catK_cat (mem_two hy hz), catK_cat (mem_two hx hy), show [y, z] = [y] ++ [z] from rfl, show [x, y] = [x] ++ [y] from rfl, catK_app, catK_app, List.append_assoc]
theorem alt_assoc (x y z : NodeT) : altT [x, altT [y, z]] = altT [altT [x, y], z] := by
  refine altT_eq ?_
  rw [show [x, altT [y, z]] = [x] ++ [altT [y, z]] from rfl, show [altT [x, y], z] = [altT [x, y]] ++ [z] from rfl, altK_app, altK_app, altK_alt, altK_alt, show [y, z] = [y] ++ [z] from rfl, show [x, y] = [x] ++ [y] from rfl, altK_app, altK_app, List.append_assoc]
/-- the five forms of RexForms -/
theorem forms {a b c : List UInt8} {x y z : NodeT} (ha : RD a x) (hb : RD b y) (hc : RD c z) :
    RD (inB true (inB true a)) x ∧
    RD (inB true a ++ inB true (inB true b ++ inB true c)) (catT [x, catT [y, z]]) ∧
    RD (inB true (inB true a ++ inB true b) ++ inB true c) (catT [x, catT [y, z]]) ∧
    RD (inB true a ++ 124 :: inB true (inB true b ++ 124 :: inB true c)) (altT [x, altT [y, z]]) ∧
    RD (inB true (inB true a ++ 124 :: inB true b) ++ 124 :: c) (altT [x, altT [y, z]]) := by
  refine ⟨rd_grp (rd_grp ha), rd_cat2 ha (rd_cat2 hb hc), ?_, rd_alt ha (rd_grp (rd_alt hb (rd_grp hc))), ?_⟩
  · rw [cat_assoc ha.nf hb.nf hc.nf]
    exact rd_cat2 (rd_cat2 ha hb) hc
  · rw [alt_assoc]
    exact rd_alt (rd_alt ha (rd_grp hb)) hc
/-! ### Faults stand in the text -/
def EBd (E : List UInt8 → Res NodeT) : Prop := ∀ l k, E l = .bad k → k ≤ l.length
theorem foundP_bd {n k : Nat} {x : Option (Nat × List UInt8)} (h : foundP n x = .bad k) : k = n := by
  cases x with
  | none => cases h; rfl
  | some y => cases h
theorem atomP_bd {E : List UInt8 → Res NodeT} (hO : EOk E) (hE : EBd E) {l : List UInt8} {k : Nat} (h : atomP E l = .bad k) : k ≤ l.length := by
  cases l with
  | nil => cases h; exact Nat.le_refl _
  | cons b q =>
    rw [atomP_cons] at h
    rw [List.length_cons]
    split at h
    · cases he : E q with
      | bad j =>
        rw [he] at h
        cases h
        have := hE q k he
        omega
      | ok m q2 =>
        have h1 := (hO q m q2 he).1
        rw [he] at h
        match q2, h, h1 with
        | [], h, _ => cases h; exact Nat.zero_le _
        | c :: r2, h, h1 =>
          by_cases hc : c = 41
          · subst hc
            cases h
          · have h' : (Res.bad (c :: r2).length : Res NodeT) = Res.bad k := by simpa [hc] using h
            injection h' with h'
            omega
    · split at h
      · cases h
      · split at h
        · cases h
        · split at h
          · cases h
          · split at h
            · rw [foundP_bd h]; omega
            · split at h
              · rw [foundP_bd h]; omega
              · split at h
                · cases h; omega
                · cases h
theorem timesP_bd {l : List UInt8} {n : NodeT} {k : Nat} (h : timesP n l = .bad k) : k ≤ l.length := by
  cases l with
  | nil => cases h
  | cons b q =>
    rw [timesP_cons] at h
    split at h
    · cases h
    · split at h
      · cases h
      · split at h
        · cases h
        · split at h
          · cases hb : boundsP q with
            | none => rw [hb] at h; cases h; exact Nat.le_refl _
            | some x => rw [hb] at h; cases h
          · cases h
theorem pieceP_bd {E : List UInt8 → Res NodeT} (hO : EOk E) (hE : EBd E) {l : List UInt8} {k : Nat} (h : pieceP E l = .bad k) : k ≤ l.length := by
  unfold pieceP at h
  cases ha : atomP E l with
  | bad j => rw [ha] at h; cases h; exact atomP_bd hO hE ha
  | ok m q =>
    rw [ha] at h
    have := timesP_bd h
    have := (atomP_ok hO ha).1
    omega
theorem seqP_bd {E : List UInt8 → Res NodeT} (hO : EOk E) (hE : EBd E) {g : Bool} : ∀ (n : Nat) (acc : List NodeT) (l : List UInt8) (k : Nat), seqP E g n acc l = .bad k → k ≤ l.length
  | 0, _, _, _, h => by cases h; exact Nat.zero_le _
  | n + 1, acc, l, k, h => by
    rw [seqP_next] at h
    split at h
    · cases h
    · cases hp : pieceP E l with
      | bad j => rw [hp] at h; cases h; exact pieceP_bd hO hE hp
      | ok x q =>
        rw [hp] at h
        have := seqP_bd hO hE n _ q k h
        have := (pieceP_ok hO hp).1
        omega
theorem altsP_bd {E : List UInt8 → Res NodeT} (hO : EOk E) (hE : EBd E) {g : Bool} : ∀ (n : Nat) (acc : List NodeT) (l : List UInt8) (k : Nat), altsP E g n acc l = .bad k → k ≤ l.length
  | 0, _, _, _, h => by cases h; exact Nat.zero_le _
  | n + 1, acc, l, k, h => by
    by_cases hb : ∃ q, l = 124 :: q
    · obtain ⟨q, rfl⟩ := hb
      rw [altsP_bar] at h
      rw [List.length_cons]
      cases hs : seqP E g (q.length + 1) [] q with
      | bad j => rw [hs] at h; cases h; have := seqP_bd hO hE _ _ _ _ hs; omega
      | ok x r2 =>
        rw [hs] at h
        have := altsP_bd hO hE n _ r2 k h
        have := (seqP_ok hO _ _ _ 0 _ _ (kinv_nil catK rfl) hs).1
        omega
    · rw [altsP_end (fun q e => hb ⟨q, e⟩)] at h
      cases h
theorem exprP_bd : ∀ (f : Nat) (g : Bool), EBd (exprP f g)
  | 0, _ => fun _ _ h => by cases h; exact Nat.zero_le _
  | f + 1, g => fun l k h => by
    have hO := exprP_ok f true
    have hE := exprP_bd f true
    rw [exprP_succ] at h
    cases hs : seqP (exprP f true) g (l.length + 1) [] l with
    | bad j => rw [hs] at h; cases h; exact seqP_bd hO hE _ _ _ _ hs
    | ok x q =>
      rw [hs] at h
      have := altsP_bd hO hE _ _ _ _ h
      have := (seqP_ok hO _ _ _ 0 _ _ (kinv_nil catK rfl) hs).1
      omega
theorem parse_fault {l : List UInt8} {x : NodeT} {a e : Int} (h : parseB l = (x, a, e)) (he : e ≠ 0) : x = .nil ∧ 0 ≤ a ∧ a ≤ l.length := by
  unfold parseB at h
  split at h
  · rename_i hl
    injection h with h1 h
    injection h with h2 h
    exact ⟨h1.symm, by omega, by omega⟩
  · cases hx : exprP (l.length + 1) false l with
    | bad k =>
      rw [hx] at h
      have := exprP_bd _ _ _ _ hx
      injection h with h1 h
      injection h with h2 h
      exact ⟨h1.symm, by omega, by omega⟩
    | ok m r =>
      rw [hx] at h
      have hr := (exprP_ok _ _ _ _ _ hx).1
      replace h : (if 200 < sizeT m then (NodeT.nil, (l.length : Int) - (r.length : Int), (4 : Int)) else (m, (l.length : Int) - (r.length : Int), 0)) = (x, a, e) := h
      split at h
      · injection h with h1 h
        injection h with h2 h
        exact ⟨h1.symm, by omega, by omega⟩
      · injection h with h1 h
        injection h with h2 h
        exact absurd h.symm he
/-- what was put of what was read is read as it was -/
theorem parse_back {l : List UInt8} {x : NodeT} {a : Int} (h : parseB l = (x, a, 0)) (hl : (putT x).length ≤ 256) : parseB (putT x) = (x, ((putT x).length : Int), 0) := by
  obtain ⟨h1, h2, h3⟩ := RD.of h
  rw [parse_put h1.nf hl, if_neg (by omega)]
theorem sameT_samesT_refl : (∀ x : NodeT, sameT x x = true) := by
  suffices h : ∀ (m : Nat) (x : NodeT), SizeOf.sizeOf x < m → sameT x x = true from fun x => h _ x (Nat.lt_succ_self _)
  intro m
  induction m with
  | zero => exact fun x h => absurd h (Nat.not_lt_zero _)
  | succ m ih =>
    intro x h
    obtain ⟨k, s, mn, mx, kids⟩ := x
    rw [sameT]
    have hk : ∀ l : List NodeT, (∀ y, y ∈ l → sameT y y = true) → samesT l l = true := by
      intro l
      induction l with
      | nil => intro _; rw [samesT]
      | cons y l ih2 => intro hy; rw [samesT, hy y List.mem_cons_self, ih2 (fun z hz => hy z (List.mem_cons_of_mem y hz))]; rfl
    rw [hk kids (fun y hy => ih y (by have h1 := List.sizeOf_lt_of_mem hy; simp at h; omega))]
    simp
/-! ### What is in normal form is right -/
theorem rightsT_all : ∀ (l : List NodeT), (∀ x, x ∈ l → rightT x = true) → rightsT l = true
  | [], _ => rightsT_nil
  | x :: l, h => by rw [rightsT_cons, h x List.mem_cons_self, rightsT_all l (fun y hy => h y (List.mem_cons_of_mem x hy))]; rfl
theorem right_nf {x : NodeT} (h : NF x) : rightT x = true := by
  induction h with
  | nil => rw [NodeT.nil, rightT, rightsT_nil]; rfl
  | one h h0 => rw [NodeT.one, rightT, rightsT_nil, decide_eq_false h0]; rfl
  | beg => rw [rightT, rightsT_nil]; rfl
  | fin => rw [rightT, rightsT_nil]; rfl
  | cat h hk hl ih =>
    rw [rightT, rightsT_all _ ih]
    unfold kidsR
    rw [if_neg (by decide), if_pos (by decide), decide_eq_true h]
    rfl
  | alt h hk hl ih =>
    rw [rightT, rightsT_all _ ih]
    unfold kidsR
    rw [if_neg (by decide), if_pos (by decide), decide_eq_true h]
    rfl
  | rep hx h0 h20 hn ih =>
    rw [NodeT.rep, rightT, rightsT_cons, ih, rightsT_nil]
    unfold kidsR boundsR
    rw [if_neg (by decide), if_neg (by omega)]
    rcases hn with rfl | ⟨h1, h2⟩
    · rfl
    · rw [decide_eq_true h1, decide_eq_true h2]
      simp
/-! ### What is put is not much longer than what was read -/
def sumP (c : Nat) : List NodeT → Nat
  | [] => 0
  | x :: l => (putT x).length + c + sumP c l
theorem sumP_app (c : Nat) (l m : List NodeT) : sumP c (l ++ m) = sumP c l + sumP c m := by
  induction l with
  | nil => simp [sumP]
  | cons x l ih => rw [List.cons_append, sumP, sumP, ih]; omega
theorem catK_len : ∀ (L : List NodeT), (∀ x, x ∈ L → NF x) → (catsT (catK L)).length ≤ sumP 2 L
  | [], _ => by rw [catK, catsT_nil]; exact Nat.zero_le _
  | x :: L, h => by
    have ih := catK_len L (fun y hy => h y (List.mem_cons_of_mem x hy))
    have hx := h x List.mem_cons_self
    rw [catK, sumP]
    split
    · omega
    · split
      · rename_i h4
        rw [catsT_app2, List.length_append]
        have : catsT x.kids = putT x := by
          cases hx with
          | nil => cases h4
          | one => cases h4
          | beg => cases h4
          | fin => cases h4
          | alt => cases h4
          | rep => cases h4
          | cat => rw [putT_cat]; rfl
        rw [this]
        omega
      · rw [catsT_cons, List.length_append]
        have := inB_len (decide (x.kind = 5)) (putT x)
        omega
theorem inB_ge (b : Bool) (l : List UInt8) : l.length ≤ (inB b l).length := by
  cases b
  · exact Nat.le_refl _
  · rw [inB_true]; simp; omega
theorem catT_len {L : List NodeT} (h : ∀ x, x ∈ L → NF x) : (putT (catT L)).length ≤ sumP 2 L := by
  have h1 := catK_len L h
  rcases (show (catK L).length = 0 ∨ (catK L).length = 1 ∨ 2 ≤ (catK L).length by omega) with h0 | h0 | h0
  · rw [catT_zero h0, putT_nil]; exact Nat.zero_le _
  · obtain ⟨x, hx⟩ : ∃ x, catK L = [x] := by
      match hk : catK L, h0 with
      | [x], _ => exact ⟨x, rfl⟩
    rw [catT_one hx]
    rw [hx, catsT_cons, catsT_nil, List.append_nil] at h1
    have := inB_ge (decide (x.kind = 5)) (putT x)
    omega
  · rw [catT_more h0, putT_cat]
    exact h1
theorem barsT_app2 (l m : List NodeT) : barsT (l ++ m) = barsT l ++ barsT m := by
  induction l with
  | nil => rw [barsT_nil]; rfl
  | cons x l ih => rw [List.cons_append, barsT_cons, barsT_cons, ih, List.cons_append, List.append_assoc]
theorem altK_len : ∀ (L : List NodeT), (∀ x, x ∈ L → NF x) → (barsT (altK L)).length ≤ sumP 1 L
  | [], _ => by rw [altK, barsT_nil]; exact Nat.zero_le _
  | x :: L, h => by
    have ih := altK_len L (fun y hy => h y (List.mem_cons_of_mem x hy))
    have hx := h x List.mem_cons_self
    rw [altK, sumP]
    split
    · rename_i h5
      rw [barsT_app2, List.length_append]
      have : (barsT x.kids).length ≤ (putT x).length + 1 := by
        cases hx with
        | nil => cases h5
        | one => cases h5
        | beg => cases h5
        | fin => cases h5
        | cat => cases h5
        | rep => cases h5
        | alt h2 _ _ =>
          rename_i L2 h3 h4
          rw [putT_alt]
          show (barsT L2).length ≤ _
          cases L2 with
          | nil => simp at h2
          | cons y l => rw [barsT_cons, altsT_cons, List.length_cons]; omega
      omega
    · rw [barsT_cons, List.length_cons, List.length_append]
      omega
theorem altT_len {L : List NodeT} (h : ∀ x, x ∈ L → NF x) : (putT (altT L)).length ≤ sumP 1 L := by
  have h1 := altK_len L h
  unfold altT
  rw [putT_alt]
  cases hk : altK L with
  | nil => rw [altsT_nil]; exact Nat.zero_le _
  | cons y l =>
    rw [hk, barsT_cons, List.length_cons] at h1
    rw [altsT_cons]
    omega
theorem choice_len {L : List NodeT} (h : ∀ x, x ∈ L → NF x) : (putT (choiceT L)).length ≤ sumP 1 L := by
  by_cases h1 : L.length = 1
  · match L, h1 with
    | [x], _ => rw [choice_one, sumP]; omega
  · rw [choice_more h1]
    exact altT_len h
def EPl (E : List UInt8 → Res NodeT) : Prop := ∀ l n r, E l = .ok n r → (putT n).length + 1300 * r.length ≤ 1300 * l.length + 1
theorem timesT_len2 {m n : Int} (h0 : 0 ≤ m) (h20 : m ≤ 20) (hn : n = -1 ∨ m ≤ n ∧ n ≤ 20) : (timesT m n).length ≤ 7 := by
  obtain ⟨k, rfl⟩ : ∃ k : Nat, m = k := ⟨m.toNat, by omega⟩
  rcases hn with rfl | ⟨h1, h2⟩
  · have h3 := itoa_len k (by omega)
    unfold timesT
    split
    · simp
    · split
      · simp
      · split
        · simp
        · split
          · simp; omega
          · split <;> simp <;> omega
  · obtain ⟨j, rfl⟩ : ∃ j : Nat, n = j := ⟨n.toNat, by omega⟩
    exact timesT_len (by omega) (by omega)
theorem atomP_pl {E : List UInt8 → Res NodeT} (hE : EPl E) {l : List UInt8} {n : NodeT} {r : List UInt8} (h : atomP E l = .ok n r) : (putT n).length + 2 + 1300 * r.length ≤ 1300 * l.length := by
  have hone : ∀ S, (putT (.one S)).length ≤ 1282 := fun S => by rw [putT_one]; exact setT_len S
  cases l with
  | nil => cases h
  | cons b q =>
    rw [atomP_cons] at h
    rw [List.length_cons]
    split at h
    · cases he : E q with
      | bad k => rw [he] at h; cases h
      | ok m q2 =>
        have h1 := hE q m q2 he
        rw [he] at h
        match q2, h, h1 with
        | [], h, _ => cases h
        | c :: r2, h, h1 =>
          by_cases hc : c = 41
          · subst hc
            simp only at h
            cases h
            rw [List.length_cons] at h1
            omega
          · simp [hc] at h
    · split at h
      · cases h; have := hone anyB; omega
      · split at h
        · cases h; rw [putT_mk]; show 1 + 2 + _ ≤ _; omega
        · split at h
          · cases h; rw [putT_mk]; show 1 + 2 + _ ≤ _; omega
          · split at h
            · obtain ⟨S, hs, rfl⟩ := foundP_ok h
              have := (escP_some hs).2
              have := hone S
              omega
            · split at h
              · obtain ⟨S, hs, rfl⟩ := foundP_ok h
                have := classP_len hs
                have := hone S
                omega
              · split at h
                · cases h
                · cases h; have := hone (oneB b.toNat); omega
theorem pieceP_pl {E : List UInt8 → Res NodeT} (hE : EPl E) {l : List UInt8} {n : NodeT} {r : List UInt8} (h : pieceP E l = .ok n r) : (putT n).length + 2 + 1300 * r.length ≤ 1300 * l.length := by
  unfold pieceP at h
  cases ha : atomP E l with
  | bad k => rw [ha] at h; cases h
  | ok m q =>
    rw [ha] at h
    have h0 := atomP_pl hE ha
    have hrep : ∀ a c : Int, 0 ≤ a → a ≤ 20 → (c = -1 ∨ a ≤ c ∧ c ≤ 20) → (putT (m.rep a c)).length ≤ (putT m).length + 9 := fun a c h1 h2 h3 => by
      rw [putT_rep, List.length_append]
      have := inB_len (decide (m.kind = 0) || decide (4 ≤ m.kind)) (putT m)
      have := timesT_len2 h1 h2 h3
      omega
    replace h : timesP m q = .ok n r := h
    cases q with
    | nil => cases h; exact h0
    | cons b q =>
      rw [timesP_cons] at h
      rw [List.length_cons] at h0
      split at h
      · cases h; have := hrep 0 (-1) (by decide) (by decide) (.inl rfl); omega
      · split at h
        · cases h; have := hrep 1 (-1) (by decide) (by decide) (.inl rfl); omega
        · split at h
          · cases h; have := hrep 0 1 (by decide) (by decide) (.inr (by decide)); omega
          · split at h
            · cases hb : boundsP q with
              | none => rw [hb] at h; cases h
              | some x =>
                obtain ⟨a, c, q2⟩ := x
                have h1 := boundsP_len hb
                obtain ⟨b1, b2, b3⟩ := boundsP_ok hb
                rw [hb] at h
                cases h
                have := hrep a c b1 b2 b3
                omega
            · cases h
              rw [List.length_cons]
              omega
theorem seqP_pl {E : List UInt8 → Res NodeT} (hN : ENF E) (hE : EPl E) {g : Bool} : ∀ (n : Nat) (acc : List NodeT) (l : List UInt8) (m : NodeT) (r : List UInt8), (∀ x, x ∈ acc → NF x) → seqP E g n acc l = .ok m r → (putT m).length + 1300 * r.length ≤ 1300 * l.length + sumP 2 acc
  | 0, _, _, _, _, _, h => by cases h
  | n + 1, acc, l, m, r, ha, h => by
    rw [seqP_next] at h
    split at h
    · cases h; have := catT_len ha; omega
    · cases hp : pieceP E l with
      | bad k => rw [hp] at h; cases h
      | ok x q =>
        rw [hp] at h
        have h1 := pieceP_pl hE hp
        have h2 := seqP_pl hN hE n (acc ++ [x]) q m r (mem_snoc ha (pieceP_nf hN hp)) h
        rw [sumP_app, sumP, sumP] at h2
        omega
theorem altsP_pl {E : List UInt8 → Res NodeT} (hN : ENF E) (hE : EPl E) {g : Bool} : ∀ (n : Nat) (acc : List NodeT) (l : List UInt8) (m : NodeT) (r : List UInt8), (∀ x, x ∈ acc → NF x) → altsP E g n acc l = .ok m r → (putT m).length + 1300 * r.length ≤ 1300 * l.length + sumP 1 acc
  | 0, _, _, _, _, _, h => by cases h
  | n + 1, acc, l, m, r, ha, h => by
    by_cases hb : ∃ q, l = 124 :: q
    · obtain ⟨q, rfl⟩ := hb
      rw [altsP_bar] at h
      cases hs : seqP E g (q.length + 1) [] q with
      | bad k => rw [hs] at h; cases h
      | ok x r2 =>
        rw [hs] at h
        have h1 := seqP_pl hN hE _ _ _ _ _ (fun _ h => by cases h) hs
        have h2 := altsP_pl hN hE n (acc ++ [x]) r2 m r (mem_snoc ha (seqP_nf hN _ _ _ _ _ (fun _ h => by cases h) hs)) h
        rw [sumP_app, sumP, sumP] at h2
        rw [sumP] at h1
        rw [List.length_cons]
        omega
    · rw [altsP_end (fun q e => hb ⟨q, e⟩)] at h
      cases h
      have := choice_len ha
      omega
theorem exprP_pl : ∀ (f : Nat) (g : Bool), EPl (exprP f g)
  | 0, _ => fun _ _ _ h => by cases h
  | f + 1, g => fun l n r h => by
    have hN := exprP_nf f true
    have hE := exprP_pl f true
    rw [exprP_succ] at h
    cases hs : seqP (exprP f true) g (l.length + 1) [] l with
    | bad k => rw [hs] at h; cases h
    | ok x q =>
      rw [hs] at h
      have h1 := seqP_pl hN hE _ _ _ _ _ (fun _ h => by cases h) hs
      have hx := seqP_nf hN _ _ _ _ _ (fun _ h => by cases h) hs
      have h2 := altsP_pl hN hE _ [x] q n r (fun y hy => by rw [List.mem_singleton.1 hy]; exact hx) h
      rw [sumP, sumP] at h2
      rw [sumP] at h1
      omega
theorem parse_putlen {l : List UInt8} {x : NodeT} {a e : Int} (h : parseB l = (x, a, e)) : (putT x).length ≤ 332801 := by
  unfold parseB at h
  split at h
  · injection h with h _; rw [← h, putT_nil]; exact Nat.zero_le _
  · rename_i hl
    cases hx : exprP (l.length + 1) false l with
    | bad k => rw [hx] at h; injection h with h _; rw [← h, putT_nil]; exact Nat.zero_le _
    | ok m r =>
      rw [hx] at h
      have h1 := exprP_pl _ _ _ _ _ hx
      replace h : (if 200 < sizeT m then (NodeT.nil, (l.length : Int) - (r.length : Int), (4 : Int)) else (m, (l.length : Int) - (r.length : Int), 0)) = (x, a, e) := h
      split at h
      · injection h with h _; rw [← h, putT_nil]; exact Nat.zero_le _
      · injection h with h _; rw [← h]; omega
end Go.Proofs.YtgcojilaeflfbaaGreatDoor
