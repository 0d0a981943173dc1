/- What is put of a set is parsed (the pure part of LabelBack). -/
import Derived.Test.YtimmfmgnjpcdoaaLabParse
import Derived.Test.YtimmfmgnjpcdoaaLabText
import Derived.Test.YtimmfmgnjpcdoaaBackPure
import Derived.Test.YtimmfmgnjpcdoaaLabSets
import Derived.Test.YtimmfmgnjpcdoaaScanQuo
namespace Go.Proofs.Ytimmfmgnjpcdoaa
open Go.RowKit
set_option linter.unusedVariables false
set_option linter.unusedSimpArgs false

theorem takeR_two (t : ByteArray) (k : Nat) : takeR t k [cmT, rbT] = if (atL t k).head? = some 44 then some cmT else if (atL t k).head? = some 125 then some rbT else none := by
  unfold takeR cmT rbT
  rw [List.find?_cons, prefB_byte, List.find?_cons, prefB_byte, rest_list]
  by_cases h : (atL t k).head? = some 44
  · rw [if_pos h, decide_eq_true h]
  · rw [if_neg h, decide_eq_false h]
    by_cases h2 : (atL t k).head? = some 125
    · rw [if_pos h2, decide_eq_true h2]
    · rw [if_neg h2, decide_eq_false h2]; rfl

/-- a label, as it is put -/
def partL (p : PairB) : List UInt8 := p.1.data.toList ++ 61 :: putB p.2.data.toList
theorem partL_len (p : PairB) : (partL p).length = p.1.data.toList.length + 1 + (putB p.2.data.toList).length := by
  unfold partL
  rw [List.length_append, List.length_cons]
  omega
/-- labels, one behind the other, and what ends them -/
def endL : PairB → List PairB → List UInt8
  | p, [] => partL p ++ [125]
  | p, q :: r => partL p ++ 44 :: endL q r
def textL : List PairB → List UInt8
  | [] => [123, 125]
  | p :: r => 123 :: endL p r
def goodN (p : PairB) : Prop := ∀ c ∈ p.1.data.toList, goodK [0, 1, 2] c = true
theorem eq_bad : goodK [0, 1, 2] 61 = false := by decide
theorem rb_bad : goodK [0, 1, 2] 125 = false := by decide
theorem run_name (t : ByteArray) (k : Nat) (nm r : List UInt8) (hn : ∀ c ∈ nm, goodK [0, 1, 2] c = true) (h : atL t k = nm ++ 61 :: r) : runTo (goodK [0, 1, 2]) t k = k + nm.length := by
  show k + ((atL t k).takeWhile (goodK [0, 1, 2])).length = _
  rw [h, List.takeWhile_append_of_pos hn, List.takeWhile_cons_of_neg (by rw [eq_bad]; decide), List.append_nil]
theorem run_out (t : ByteArray) (k : Nat) (nm : List UInt8) (hn : ∀ c ∈ nm, goodK [0, 1, 2] c = true) (h : atL t k = nm) : runTo (goodK [0, 1, 2]) t k = k + nm.length := by
  show k + ((atL t k).takeWhile (goodK [0, 1, 2])).length = _
  have := List.takeWhile_append_of_pos (l₂ := []) hn
  rw [List.append_nil, List.takeWhile_nil, List.append_nil] at this
  rw [h, this]
theorem name_mid (t : ByteArray) (k : Nat) (nm r : List UInt8) (h : atL t k = nm ++ r) : (t.extract k (k + nm.length)).data.toList = nm := by
  rw [mid_list, List.drop_take, show t.data.toList.drop k = nm ++ r from h, show k + nm.length - k = nm.length by omega]
  simp
theorem eq_take (t : ByteArray) (k : Nat) (nm r : List UInt8) (h : atL t k = nm ++ 61 :: r) : takeR t (k + nm.length) [eqS] = some eqS ∧ atL t (k + nm.length + 1) = r := by
  have h1 := at_add t k nm _ h
  refine ⟨?_, at_add t (k + nm.length) [61] r (by rw [h1]; rfl)⟩
  unfold eqS
  rw [takeR_byte, h1, List.head?_cons, if_pos rfl]
theorem pair_of (t : ByteArray) (k : Nat) (nm r : List UInt8) (hn : ∀ c ∈ nm, goodK [0, 1, 2] c = true) (h : atL t k = nm ++ 61 :: r) :
    pairR t k = ((t.extract k (k + nm.length), ⟨(getR r).1.toArray⟩), (getR r).2.2, k + nm.length + 1 + (getR r).2.1) := by
  obtain ⟨h1, h2⟩ := eq_take t k nm r h
  unfold pairR
  rw [run_name t k nm r hn h, h1, quo_at, h2]
theorem pairR_part (t : ByteArray) (k : Nat) (p : PairB) (r : List UInt8) (hp : goodN p) (h : atL t k = partL p ++ r) : pairR t k = (p, true, k + (partL p).length) := by
  have h1 : atL t k = p.1.data.toList ++ 61 :: (putB p.2.data.toList ++ r) := by rw [h]; unfold partL; simp
  rw [pair_of t k _ _ hp h1, get_back, partL_len]
  have e1 : t.extract k (k + p.1.data.toList.length) = p.1 := text_ext1 (name_mid t k _ _ h1)
  rw [e1]
  refine Prod.ext (Prod.ext rfl rfl) (Prod.ext rfl ?_)
  show k + p.1.data.toList.length + 1 + (putB p.2.data.toList).length = k + (p.1.data.toList.length + 1 + (putB p.2.data.toList).length)
  omega
theorem pairR_short (t : ByteArray) (k : Nat) (p : PairB) (j : Nat) (hp : goodN p) (hj : j < (partL p).length) (h : atL t k = (partL p).take j) : (pairR t k).2.1 = false := by
  rw [partL_len] at hj
  rcases Nat.lt_or_ge p.1.data.toList.length j with h1 | h1
  · obtain ⟨i, rfl⟩ : ∃ i, j = p.1.data.toList.length + (1 + i) := ⟨j - p.1.data.toList.length - 1, by omega⟩
    have h2 : atL t k = p.1.data.toList ++ 61 :: (putB p.2.data.toList).take i := by
      rw [h, partL, List.take_length_add_append, Nat.add_comm 1 i, List.take_succ_cons]
    rw [pair_of t k _ _ hp h2, get_short _ i (by omega)]
  · have h2 : atL t k = p.1.data.toList.take j := by rw [h, partL, List.take_append_of_le_length h1]
    have h3 := run_out t k (p.1.data.toList.take j) (fun c hc => hp c (List.mem_of_mem_take hc)) h2
    have h4 : takeR t (k + (p.1.data.toList.take j).length) [eqS] = none := by
      unfold eqS
      rw [takeR_byte, at_add t k _ [] (by rw [h2, List.append_nil])]
      rfl
    unfold pairR
    rw [h3, h4]
theorem part_head (p : PairB) (hp : goodN p) (r : List UInt8) : (partL p ++ r).head? ≠ some 125 := by
  unfold partL
  cases hl : p.1.data.toList with
  | nil => simp
  | cons c l =>
    have := hp c (by rw [hl]; exact List.mem_cons_self)
    simp only [List.cons_append, List.head?_cons]
    intro h
    injection h with h
    rw [h, rb_bad] at this
    cases this
theorem goP_end (t : ByteArray) : ∀ (r : List PairB) (p : PairB) (f k : Nat) (acc : List PairB) (x : List UInt8), (∀ q ∈ p :: r, goodN q) → atL t k = endL p r ++ x → r.length < f → goP t f k acc = some (acc ++ p :: r, k + (endL p r).length) := by
  intro r
  induction r with
  | nil =>
    intro p f k acc x hg h hf
    obtain ⟨f, rfl⟩ : ∃ g, f = g + 1 := ⟨f - 1, by omega⟩
    have h1 : atL t k = partL p ++ 125 :: x := by rw [h, endL]; simp
    have h2 := at_add t k _ _ h1
    rw [goP_succ, pairR_part t k p _ (hg p List.mem_cons_self) h1, if_pos rfl]
    dsimp only
    rw [takeR_two, h2, List.head?_cons, if_neg (by decide), if_pos rfl]
    dsimp only
    rw [if_neg (by decide), endL, List.length_append]
    rfl
  | cons q r ih =>
    intro p f k acc x hg h hf
    obtain ⟨f, rfl⟩ : ∃ g, f = g + 1 := ⟨f - 1, by omega⟩
    have h1 : atL t k = partL p ++ 44 :: (endL q r ++ x) := by rw [h, endL]; simp
    have h2 := at_add t k _ _ h1
    have h3 : atL t (k + (partL p).length + 1) = endL q r ++ x := at_add t (k + (partL p).length) [44] _ h2
    rw [goP_succ, pairR_part t k p _ (hg p List.mem_cons_self) h1, if_pos rfl]
    dsimp only
    rw [takeR_two, h2, List.head?_cons, if_pos rfl]
    dsimp only
    rw [if_pos rfl, ih q f _ _ x (fun y hy => hg y (List.mem_cons_of_mem _ hy)) h3 (by rw [List.length_cons] at hf; omega), endL, List.length_append, List.length_cons, List.append_assoc]
    refine congrArg some (Prod.ext rfl ?_)
    show k + (partL p).length + 1 + _ = _
    omega
theorem goP_short (t : ByteArray) : ∀ (r : List PairB) (p : PairB) (f k : Nat) (acc : List PairB) (j : Nat), (∀ q ∈ p :: r, goodN q) → j < (endL p r).length → atL t k = (endL p r).take j → goP t f k acc = none := by
  intro r
  induction r with
  | nil =>
    intro p f k acc j hg hj h
    cases f with
    | zero => rw [goP]
    | succ f =>
      rw [endL, List.length_append] at hj
      have hj2 : j ≤ (partL p).length := by simp at hj; omega
      rw [endL, List.take_append_of_le_length hj2] at h
      rw [goP_succ]
      rcases Nat.lt_or_ge j (partL p).length with h1 | h1
      · rw [pairR_short t k p j (hg p List.mem_cons_self) h1 h, if_neg (by decide)]
      · have h2 : atL t k = partL p ++ [] := by rw [h, List.take_of_length_le h1, List.append_nil]
        rw [pairR_part t k p _ (hg p List.mem_cons_self) h2, if_pos rfl]
        dsimp only
        rw [takeR_two, at_add t k _ _ h2]
        rfl
  | cons q r ih =>
    intro p f k acc j hg hj h
    cases f with
    | zero => rw [goP]
    | succ f =>
      rw [endL, List.length_append, List.length_cons] at hj
      rw [goP_succ]
      rcases Nat.lt_or_ge j (partL p).length with h1 | h1
      · rw [endL, List.take_append_of_le_length (by omega)] at h
        rw [pairR_short t k p j (hg p List.mem_cons_self) h1 h, if_neg (by decide)]
      · obtain ⟨i, rfl⟩ : ∃ i, j = (partL p).length + i := ⟨j - (partL p).length, by omega⟩
        rw [endL, List.take_length_add_append] at h
        rw [pairR_part t k p _ (hg p List.mem_cons_self) h, if_pos rfl]
        dsimp only
        have h2 := at_add t k _ _ h
        rw [takeR_two, h2]
        cases i with
        | zero => rfl
        | succ i =>
          rw [List.take_succ_cons, List.head?_cons, if_pos rfl]
          dsimp only
          rw [if_pos rfl]
          exact ih q f _ _ i (fun y hy => hg y (List.mem_cons_of_mem _ hy)) (by omega) (at_add t (k + (partL p).length) [44] _ (by rw [h2, List.take_succ_cons]; rfl))
theorem endL_len (p : PairB) (r : List PairB) : r.length < (endL p r).length := by
  induction r generalizing p with
  | nil => rw [endL]; simp
  | cons q r ih => have := ih q; rw [endL, List.length_append, List.length_cons, List.length_cons]; omega
theorem endL_head (p : PairB) (r : List PairB) (hp : goodN p) (x : List UInt8) : (endL p r ++ x).head? ≠ some 125 := by
  cases r with
  | nil => rw [endL, List.append_assoc]; exact part_head p hp _
  | cons q r => rw [endL, List.append_assoc]; exact part_head p hp _
theorem at_zero (t : ByteArray) : atL t 0 = t.data.toList := List.drop_zero
theorem parse_text (t : ByteArray) (x : List UInt8) (ps : List PairB) (hg : ∀ q ∈ ps, goodN q) (h : t.data.toList = textL ps ++ x) : parseL t = if rightB ps = true then some (ps, (textL ps).length) else none := by
  have h0 : takeR t 0 [lbT] = some lbT := by
    unfold lbT
    rw [takeR_byte, at_zero, h, if_pos (by cases ps <;> rfl)]
  unfold parseL
  rw [h0]
  dsimp only
  cases ps with
  | nil =>
    have h1 : takeR t 1 [rbT] = some rbT := by
      unfold rbT
      rw [takeR_byte]
      unfold atL
      rw [h]
      rfl
    rw [h1, if_pos (by decide)]
    rfl
  | cons p r =>
    have h2 : atL t 1 = endL p r ++ x := by unfold atL; rw [h]; rfl
    have h1 : takeR t 1 [rbT] = none := by
      unfold rbT
      rw [takeR_byte, h2, if_neg (endL_head p r (hg p List.mem_cons_self) x)]
    have hz : r.length < t.size + 1 := by
      rw [← size_toList, h, textL]
      have := endL_len p r
      simp only [List.cons_append, List.length_cons, List.length_append]
      omega
    rw [h1]
    dsimp only
    rw [goP_end t r p _ 1 [] x hg h2 hz, List.nil_append, Option.bind_some, textL, List.length_cons, Nat.add_comm]
theorem parse_short (t : ByteArray) (ps : List PairB) (j : Nat) (hg : ∀ q ∈ ps, goodN q) (hj : j < (textL ps).length) (h : t.data.toList = (textL ps).take j) : parseL t = none := by
  unfold parseL
  cases j with
  | zero =>
    have h0 : takeR t 0 [lbT] = none := by
      unfold lbT
      rw [takeR_byte, at_zero, h]
      rfl
    rw [h0]
  | succ j =>
    have h0 : takeR t 0 [lbT] = some lbT := by
      unfold lbT
      rw [takeR_byte, at_zero, h, if_pos (by cases ps <;> rfl)]
    rw [h0]
    dsimp only
    cases ps with
    | nil =>
      obtain rfl : j = 0 := by have : (textL []).length = 2 := rfl; omega
      have ha : atL t 1 = [] := by unfold atL; rw [h]; rfl
      have h1 : takeR t 1 [rbT] = none := by
        unfold rbT
        rw [takeR_byte, ha]
        rfl
      have h3 : runTo (goodK [0, 1, 2]) t 1 = 1 := run_out t 1 [] (fun _ h => by cases h) ha
      have h4 : takeR t 1 [eqS] = none := by
        unfold eqS
        rw [takeR_byte, ha]
        rfl
      have h2 : (pairR t 1).2.1 = false := by
        unfold pairR
        rw [h3, h4]
      rw [h1]
      dsimp only
      rw [goP_succ, h2]
      rfl
    | cons p r =>
      rw [textL, List.length_cons] at hj
      have h2 : atL t 1 = (endL p r).take j := by unfold atL; rw [h]; rfl
      have h1 : takeR t 1 [rbT] = none := by
        unfold rbT
        rw [takeR_byte, h2]
        cases j with
        | zero => rfl
        | succ j =>
          have e : ((endL p r).take (j + 1)).head? = (endL p r).head? := by cases endL p r <;> rfl
          have := endL_head p r (hg p List.mem_cons_self) []
          rw [List.append_nil] at this
          rw [e, if_neg this]
      rw [h1]
      dsimp only
      rw [goP_short t r p _ 1 [] j hg (by omega) h2]
      rfl
theorem text_inj (a b : List PairB) (ha : ∀ q ∈ a, goodN q) (hb : ∀ q ∈ b, goodN q) (h : textL a = textL b) : a = b := by
  have key : ∀ (p : PairB) (r : List PairB), goodN p → [123, 125] ≠ textL (p :: r) := by
    intro p r hp e
    have h1 := endL_head p r hp []
    rw [textL] at e
    injection e with _ e
    rw [← e] at h1
    exact h1 rfl
  cases a with
  | nil =>
    cases b with
    | nil => rfl
    | cons q s => exact absurd h (key q s (hb q List.mem_cons_self))
  | cons p r =>
    cases b with
    | nil => exact absurd h.symm (key p r (ha p List.mem_cons_self))
    | cons q s =>
      rw [textL, textL] at h
      injection h with _ h
      let t : ByteArray := ⟨(endL p r).toArray⟩
      have e1 : atL t 0 = endL p r ++ [] := by rw [at_zero, List.append_nil]
      have e2 : atL t 0 = endL q s ++ [] := by rw [e1, h]
      have g1 := goP_end t r p (r.length + s.length + 1) 0 [] [] ha e1 (by omega)
      have g2 := goP_end t s q (r.length + s.length + 1) 0 [] [] hb e2 (by omega)
      rw [g1] at g2
      injection g2 with g2
      injection g2 with g2
/-- the text itself -/
def textT (ps : List PairB) : ByteArray := (⟨#[123]⟩ : ByteArray) ++ (⟨(joinB ⟨#[44]⟩ (ps.map partT)).toArray⟩ : ByteArray) ++ (⟨#[125]⟩ : ByteArray)
theorem part_list (p : PairB) : (partT p).data.toList = partL p := by
  unfold partT partL putS
  rw [text_joined, text_joined, List.append_assoc]
  rfl
theorem end_join (p : PairB) (r : List PairB) : partL p ++ Lib.joinTail [44] ((r.map partT).map (·.data.toList)) ++ [125] = endL p r := by
  induction r generalizing p with
  | nil => rw [endL]; simp [Lib.joinTail]
  | cons q r ih =>
    rw [endL, ← ih q, List.map_cons, List.map_cons, part_list]
    simp [Lib.joinTail]
theorem text_list (ps : List PairB) : (textT ps).data.toList = textL ps := by
  unfold textT
  rw [text_joined, text_joined]
  show 123 :: (joinB _ _ ++ [125]) = _
  unfold joinB
  cases ps with
  | nil => rfl
  | cons p r =>
    rw [List.map_cons, List.map_cons, Lib.join_cons, part_list, textL, ← end_join p r]
theorem named_good {p : PairB} (h : nameB p.1 = true) : goodN p := by
  unfold nameB at h
  simp only [Bool.and_eq_true] at h
  exact fun c hc => List.all_eq_true.1 h.2.2.2 c hc
theorem right_len {a : List PairB} (h : rightB a = true) : a.length ≤ 16 := by
  unfold rightB at h
  rw [Bool.and_eq_true] at h
  exact of_decide_eq_true h.1
theorem right_names {a : List PairB} (h : rightB a = true) : ∀ p ∈ a, nameB p.1 = true := by
  have key : ∀ (l : List PairB) (o : Option ByteArray), rightGo o l = true → ∀ p ∈ l, nameB p.1 = true := by
    intro l
    induction l with
    | nil => intro o _ p hp; cases hp
    | cons x l ih =>
      intro o h p hp
      rw [rightGo, Bool.and_eq_true] at h
      rcases List.mem_cons.1 hp with rfl | hp
      · have := h.1
        unfold okAt at this
        rw [Bool.and_eq_true] at this
        exact this.1
      · exact ih _ h.2 p hp
  unfold rightB at h
  rw [Bool.and_eq_true] at h
  exact key a none h.2
theorem right_good {a : List PairB} (h : rightB a = true) : ∀ q ∈ a, goodN q := fun q hq => named_good (right_names h q hq)
theorem set_good {ps : List PairB} (h : SetL ps) : ∀ q ∈ ps, goodN q := fun q hq => named_good (h.named q hq)

/-- how many bytes labels have -/
def bulkP : List PairB → Nat
  | [] => 0
  | p :: ps => p.1.size + p.2.size + 1 + bulkP ps
theorem bulkP_sub {l m : List PairB} (h : l.Sublist m) : bulkP l ≤ bulkP m := by
  induction h with
  | slnil => exact Nat.le_refl _
  | cons a _ ih => rw [bulkP]; omega
  | cons_cons a _ ih => rw [bulkP, bulkP]; omega
theorem bulkP_perm {l m : List PairB} (h : l.Perm m) : bulkP l = bulkP m := by
  induction h with
  | nil => rfl
  | cons a _ ih => rw [bulkP, bulkP, ih]
  | swap a b l => simp only [bulkP]; omega
  | trans _ _ h1 h2 => rw [h1, h2]
theorem bulkP_mem {p : PairB} {l : List PairB} (h : p ∈ l) : p.1.size + p.2.size ≤ bulkP l := by
  induction l with
  | nil => cases h
  | cons x l ih =>
    rw [bulkP]
    rcases List.mem_cons.1 h with rfl | h
    · omega
    · have := ih h; omega
theorem lastsL_sublist (l : List PairB) : (lastsL l).Sublist l := by
  induction l with
  | nil => exact List.Sublist.refl _
  | cons p l ih =>
    rw [lastsL_cons]
    split
    · exact ih.cons_cons p
    · exact ih.cons p
theorem ofL_bulk (l : List PairB) : bulkP (ofL l) ≤ bulkP l := by
  unfold ofL
  refine Nat.le_trans (bulkP_sub (lastsL_sublist _)) ?_
  rw [bulkP_perm (sortL_perm _)]
  exact bulkP_sub List.filter_sublist
theorem end_size (p : PairB) (r : List PairB) : (endL p r).length ≤ 4 * bulkP (p :: r) + 4 * (r.length + 1) := by
  induction r generalizing p with
  | nil =>
    have h := flat_len p.2.data.toList
    have := size_toList p.1
    have := size_toList p.2
    have e : (putB p.2.data.toList).length = (p.2.data.toList.flatMap formB).length + 2 := by simp [putB]
    rw [endL, List.length_append, partL_len, bulkP, bulkP]
    simp only [List.length_cons, List.length_nil]
    omega
  | cons q r ih =>
    have h := flat_len p.2.data.toList
    have h2 := ih q
    have := size_toList p.1
    have := size_toList p.2
    have e : (putB p.2.data.toList).length = (p.2.data.toList.flatMap formB).length + 2 := by simp [putB]
    rw [endL, List.length_append, partL_len, bulkP]
    simp only [List.length_cons] at *
    omega
theorem text_size (ps : List PairB) : (textT ps).size ≤ 4 * bulkP ps + 4 * ps.length + 2 ∧ 2 ≤ (textT ps).size := by
  rw [← size_toList, text_list]
  cases ps with
  | nil => exact ⟨Nat.le_refl _, Nat.le_refl _⟩
  | cons p r =>
    have := end_size p r
    have := endL_len p r
    rw [textL]
    simp only [List.length_cons] at *
    omega
end Go.Proofs.Ytimmfmgnjpcdoaa
