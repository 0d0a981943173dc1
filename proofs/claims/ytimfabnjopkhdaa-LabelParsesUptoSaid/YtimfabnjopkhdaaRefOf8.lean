/- The document's own set of labels: what it has, and how much. No walk. -/
import Derived.Test.YtimfabnjopkhdaaRefParse7
import Derived.Test.YtimfabnjopkhdaaLabBackLaw
namespace Go.Proofs.Ytimfabnjopkhdaa
open Go.RowKit
set_option linter.unusedVariables false
set_option linter.unusedSimpArgs false

theorem bulkP_app (l m : List PairB) : bulkP (l ++ m) = bulkP l + bulkP m := by
  induction l with
  | nil => simp [bulkP]
  | cons x l ih => rw [List.cons_append, bulkP, bulkP, ih]; omega
theorem insR_bulk (out : List PairB) (p : PairB) : bulkP (insR out p) ≤ bulkP out + (p.1.size + p.2.size + 1) := by
  unfold insR
  rw [bulkP_app, bulkP_app]
  have h1 : bulkP [p] = p.1.size + p.2.size + 1 := rfl
  have h2 : bulkP (out.take (aheadN p out)) + bulkP (out.drop (aheadN p out)) = bulkP out := by rw [← bulkP_app, List.take_append_drop]
  have h3 : bulkP (out.drop (aheadN p out + (if sameAt p out (aheadN p out) = true then 1 else 0))) ≤ bulkP (out.drop (aheadN p out)) := by
    rw [← List.drop_drop]
    exact bulkP_sub (List.drop_sublist _ _)
  omega
theorem insR_in {out : List PairB} {p q : PairB} (h : q ∈ insR out p) : q ∈ out ∨ q = p := by
  unfold insR at h
  rw [List.mem_append, List.mem_append, List.mem_singleton] at h
  rcases h with (h | h) | h
  · exact .inl (List.mem_of_mem_take h)
  · exact .inr h
  · exact .inl (List.mem_of_mem_drop h)
theorem getD_in (ps : List PairB) (i : Nat) (h : i < ps.length) : ps.getD i pnil ∈ ps := by
  rw [List.getD_eq_getElem?_getD, List.getElem?_eq_getElem h]
  exact List.getElem_mem _
theorem refTo_in (ps : List PairB) : ∀ (i : Nat), i ≤ ps.length → ∀ q ∈ refTo ps i, q ∈ ps
  | 0, _, q, h => by rw [refTo] at h; cases h
  | i + 1, hi, q, h => by
    rw [refTo] at h
    split at h
    · rcases insR_in h with h | h
      · exact refTo_in ps i (by omega) q h
      · rw [h]; exact getD_in ps i (by omega)
    · exact refTo_in ps i (by omega) q h
theorem refTo_bulk (ps : List PairB) : ∀ (i : Nat), i ≤ ps.length → bulkP (refTo ps i) ≤ bulkP (ps.take i)
  | 0, _ => by rw [refTo]; exact Nat.zero_le _
  | i + 1, hi => by
    have ih := refTo_bulk ps i (by omega)
    have hs : bulkP (ps.take (i + 1)) = bulkP (ps.take i) + ((ps.getD i pnil).1.size + (ps.getD i pnil).2.size + 1) := by
      have e : ps.take (i + 1) = ps.take i ++ [ps.getD i pnil] := by
        rw [List.take_succ_eq_append_getElem (by omega), List.getD_eq_getElem?_getD, List.getElem?_eq_getElem (by omega)]
        rfl
      rw [e, bulkP_app]
      rfl
    rw [refTo, hs]
    split
    · exact Nat.le_trans (insR_bulk _ _) (by omega)
    · omega
theorem refOf_in {ps : List PairB} {q : PairB} (h : q ∈ refOfL ps) : q ∈ ps := refTo_in ps ps.length (Nat.le_refl _) q h
theorem refOf_bulk (ps : List PairB) : bulkP (refOfL ps) ≤ bulkP ps := by
  have := refTo_bulk ps ps.length (Nat.le_refl _)
  rw [List.take_length] at this
  exact this
theorem refOf_len (ps : List PairB) : (refOfL ps).length ≤ ps.length := refTo_len ps ps.length
theorem parsed_len (t : ByteArray) : (parsedL (parseL t)).length ≤ 16 := by
  rw [← parseQ_is]
  unfold parseQ
  split
  · cases h : goQ t 19 1 [] with
    | none => exact Nat.zero_le _
    | some x =>
      show (parsedL (ifR x)).length ≤ 16
      unfold ifR
      split
      · rename_i hr
        exact right_len hr
      · exact Nat.zero_le _
  · exact Nat.zero_le _

/-- what a text is that is put of some labels -/
structure TxtP (a : List PairB) (T : ByteArray) : Prop where
  len : a.length ≤ 100
  small : ∀ p ∈ a, p.1.size ≤ 1048576 ∧ p.2.size ≤ 1048576
  text : textT a = T
  most : T.size ≤ 9000000
theorem txt_tags (ts : List TagB) (most : Nat) (hm : most ≤ 100) (h : bulkG ts ≤ 1048576) : TxtP (tagsL ts most) (textT (tagsL ts most)) := by
  have h1 := tagsL_bulk ts most
  have h4 := tagsL_len ts most
  have h5 := text_size (tagsL ts most)
  exact ⟨by omega, tagsL_small ts most h, rfl, by omega⟩
theorem txt_of (ts : List TagB) (most : Nat) (hm : most ≤ 100) (h : bulkG ts ≤ 1048576) : TxtP (refOfL (tagsL ts most)) (textT (refOfL (tagsL ts most))) := by
  have h1 := tagsL_bulk ts most
  have h2 := refOf_bulk (tagsL ts most)
  have h3 := refOf_len (tagsL ts most)
  have h4 := tagsL_len ts most
  have h5 := text_size (refOfL (tagsL ts most))
  exact ⟨by omega, fun p hp => tagsL_small ts most h p (refOf_in hp), rfl, by omega⟩
theorem refPairs_some (A : Option Addr) (n c : Nat) (ps : List PairB) (hn : n ≤ 1000) (W : World) (h : Hid (Pairs W A n ps)) :
    Calls Try.prog 12 #[.slice A n c] W fun e w' => ∃ B q k, e = .returned (.slice B q k) ∧ Hid (Pairs w' B q ps) ∧ Below W.heap.size W w' := by
  refine (refPairs_any A n c ps hn W h.out).mono ?_
  rintro e w' ⟨v, rfl, hown, hb⟩
  obtain ⟨B, cap, rfl, _, _, hp⟩ := hown.pairs
  exact ⟨B, _, cap, rfl, Lib.hid hp, hb⟩
theorem refOf_some (A : Option Addr) (n c : Nat) (ps : List PairB) (hn : n ≤ 1000) (W : World) (h : Hid (Pairs W A n ps)) :
    Calls Try.prog 17 #[.slice A n c] W fun e w' => ∃ B q k, e = .returned (.slice B q k) ∧ Hid (Pairs w' B q (refOfL ps)) ∧ Below W.heap.size W w' := by
  refine (refOf_any A n c ps hn W h.out).mono ?_
  rintro e w' ⟨v, rfl, hown, hb⟩
  obtain ⟨B, cap, rfl, _, _, hp⟩ := hown.pairs
  exact ⟨B, _, cap, rfl, Lib.hid hp, hb⟩
theorem refText_some (A : Option Addr) (n c : Nat) (a : List PairB) (T : ByteArray) (ha : TxtP a T) (W : World) (h : Hid (Pairs W A n a)) :
    Calls Try.prog 25 #[.slice A n c] W fun e w' => e = .returned (.string T) ∧ Below W.heap.size W w' := by
  rw [← ha.text]
  exact refText_any A n c a (by rw [← h.out.1]; exact ha.len) ha.small W h.out
/-- what is told of a text that begins with labels: the labels, how far they go, whether there are any -/
structure ToldP (t : ByteArray) (l : List PairB) (n : Nat) (b : Bool) : Prop where
  list : parsedL (parseL t) = l
  size : (((parseL t).map (·.2)).getD 0) = n
  ok : (parseL t).isSome = b
theorem told_any (t : ByteArray) : ∃ l n b, ToldP t l n b := ⟨_, _, _, rfl, rfl, rfl⟩
theorem ToldP.len {t : ByteArray} {l : List PairB} {n : Nat} {b : Bool} (h : ToldP t l n b) : l.length ≤ 16 := by rw [← h.list]; exact parsed_len t
theorem parse_some (t : ByteArray) (l : List PairB) (n : Nat) (b : Bool) (ht : ToldP t l n b) (hs : t.size ≤ 16000000) (W : World) :
    Calls Try.prog 30 #[.string t] W fun e w' => ∃ A m c, e = .returned (.tuple #[.slice A m c, .int .i64 (n : Int), .bool b]) ∧ Hid (Pairs w' A m l) ∧ Below W.heap.size W w' := by
  refine (parse_labels t hs W).mono ?_
  rintro e w' ⟨v, rfl, hown, hb⟩
  obtain ⟨B, cap, rfl, _, hp⟩ := hown.pairs
  rw [ht.list] at hp
  refine ⟨B, _, cap, ?_, Lib.hid hp, hb⟩
  unfold parseV
  rw [ht.size, ht.ok, ht.list]
theorem refParse_some (t : ByteArray) (l : List PairB) (n : Nat) (b : Bool) (ht : ToldP t l n b) (hs : t.size ≤ 16000000) (W : World) :
    Calls Try.prog 31 #[.string t] W fun e w' => ∃ A m c, e = .returned (.tuple #[.slice A m c, .int .i64 (n : Int), .bool b]) ∧ Hid (Pairs w' A m l) ∧ Below W.heap.size W w' := by
  have h := refParse_any t hs W
  rw [parseQ_is] at h
  refine h.mono ?_
  rintro e w' ⟨v, rfl, hown, hb⟩
  obtain ⟨B, cap, rfl, _, _, hp⟩ := hown.pairs
  rw [ht.list] at hp
  refine ⟨B, _, cap, ?_, Lib.hid hp, hb⟩
  unfold parseV
  rw [ht.size, ht.ok, ht.list]
theorem same_told (A B : Option Addr) (n m c d : Nat) (l : List PairB) (hl : l.length ≤ 16) (W : World) (h1 : Hid (Pairs W A n l)) (h2 : Hid (Pairs W B m l)) :
    Calls Try.prog 15 #[.slice A n c, .slice B m d] W fun e w' => e = .returned (.bool true) ∧ Below W.heap.size W w' := by
  have h := samePairs_any A B n m c d l l (by have := h1.out.1; omega) W h1.out h2.out
  rw [decide_eq_true (rfl : l = l)] at h
  exact h
end Go.Proofs.Ytimfabnjopkhdaa
