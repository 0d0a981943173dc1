-- shaken
import Derived.Test.YtdaainifkldcpaaGreatDoorFanRep
namespace Go.Proofs.YtdaainifkldcpaaGreatDoor
open Go.RowKit
set_option linter.unusedVariables false
set_option linter.unusedSimpArgs false
def leastBf (asc : Bool) : EntB → List EntB → EntB
  | f, [] => f
  | f, e :: l => leastBf asc (if aheadB e f asc = true then e else f) l
def leastB (asc : Bool) : List EntB → EntB
  | [] => xnil.b
  | x :: l => leastBf asc x l
theorem leastBf_of (asc : Bool) : ∀ (l : List EntX) (f : EntX), (firstF asc f l).b = leastBf asc f.b (l.map EntX.b)
  | [], _ => rfl
  | e :: l, f => by
    rw [firstF, List.map_cons, leastBf, leastBf_of asc l]
    congr 1
    split <;> rfl
theorem leastB_of (asc : Bool) (l : List EntX) : (firstE asc l).b = leastB asc (l.map EntX.b) := by
  cases l with
  | nil => rfl
  | cons x l => exact leastBf_of asc l x
theorem leastBf_least (asc : Bool) : ∀ (l : List EntB) (f : EntB), (leastBf asc f l = f ∨ leastBf asc f l ∈ l) ∧ aheadB f (leastBf asc f l) asc = false ∧ ∀ v ∈ l, aheadB v (leastBf asc f l) asc = false
  | [], f => ⟨.inl rfl, ahead_irr _ _, fun v hv => by cases hv⟩
  | e :: l, f => by
    rw [leastBf]
    obtain ⟨h1, h2, h3⟩ := leastBf_least asc l (if aheadB e f asc = true then e else f)
    cases h : aheadB e f asc with
    | true =>
      rw [h, if_pos rfl] at h1 h2 h3
      rw [if_pos rfl]
      refine ⟨?_, ?_, fun v hv => ?_⟩
      · rcases h1 with h1 | h1
        · rw [h1]; exact .inr List.mem_cons_self
        · exact .inr (List.mem_cons_of_mem _ h1)
      · exact ahead_not (ahead_anti h) h2
      · rcases List.mem_cons.1 hv with rfl | hv
        · exact h2
        · exact h3 v hv
    | false =>
      rw [h, if_neg (by decide)] at h1 h2 h3
      rw [if_neg (by decide)]
      refine ⟨?_, h2, fun v hv => ?_⟩
      · rcases h1 with h1 | h1
        · exact .inl h1
        · exact .inr (List.mem_cons_of_mem _ h1)
      · rcases List.mem_cons.1 hv with rfl | hv
        · exact ahead_not h h2
        · exact h3 v hv
theorem leastB_least {asc : Bool} {l : List EntB} (h : l ≠ []) : leastB asc l ∈ l ∧ ∀ v ∈ l, aheadB v (leastB asc l) asc = false := by
  cases l with
  | nil => exact absurd rfl h
  | cons x l =>
    obtain ⟨h1, h2, h3⟩ := leastBf_least asc l x
    refine ⟨?_, fun v hv => ?_⟩
    · rcases h1 with h1 | h1
      · show leastBf asc x l ∈ _
        rw [h1]
        exact List.mem_cons_self
      · exact List.mem_cons_of_mem _ h1
    · rcases List.mem_cons.1 hv with rfl | hv
      · exact h2
      · exact h3 v hv
def fetchL (asc : Bool) (tells : List (List EntB)) : List EntB → List EntB
  | [] => uniqB asc tells.flatten
  | u :: us => (uniqB asc tells.flatten).filter fun e => !aheadB (leastB asc (u :: us)) e asc
theorem fetchL_ok (asc : Bool) (tells : List (List EntB)) (ends : List EntB) : FetchP asc tells ends (fetchL asc tells ends) := by
  cases ends with
  | nil => exact fetch_all asc tells
  | cons u us =>
    obtain ⟨h1, h2⟩ := leastB_least (asc := asc) (l := u :: us) (by simp)
    exact fetch_upto asc tells (u :: us) _ h1 h2
theorem upto_map (asc : Bool) (u : EntB) (l : List EntX) : (uptoE asc u l).map EntX.b = (l.map EntX.b).filter fun e => !aheadB u e asc := by
  unfold uptoE
  rw [List.filter_map]
  rfl
def replyOf (x : ReplX) : RepB := replyAt x.S x.k
def upX (x : ReplX) : Bool := !(replyOf x).fail
def tellX (T : List PairB → Bool) (a : AskB) (x : ReplX) : List EntB := tellL T a (mostOf a.lim (replyOf x)) (x.L.map EntX.b)
def moreX (T : List PairB → Bool) (a : AskB) (x : ReplX) : Bool := moreL T a (mostOf a.lim (replyOf x)) (x.L.map EntX.b)
def lastX (T : List PairB → Bool) (a : AskB) (x : ReplX) : Option EntB := if moreX T a x = true then (tellX T a x).getLast? else none
def orderX (Rs : List ReplX) (ord : List Nat) : List ReplX := ord.filterMap fun i => Rs[i]?
def tellsX (T : List PairB → Bool) (a : AskB) (Xs : List ReplX) : List (List EntB) := (Xs.filter upX).map (tellX T a)
def endsX (T : List PairB → Bool) (a : AskB) (Xs : List ReplX) : List EntB := (Xs.filter upX).filterMap (lastX T a)
theorem order_next {Rs : List ReplX} {ord : List Nat} {j i : Nat} {x : ReplX} (h : ord[j]? = some i) (hx : Rs[i]? = some x) : orderX Rs (ord.take (j + 1)) = orderX Rs (ord.take j) ++ [x] := by
  unfold orderX
  rw [List.take_add_one, h, List.filterMap_append]
  simp [hx]
theorem tells_down {T : List PairB → Bool} {a : AskB} {Xs : List ReplX} {x : ReplX} (h : upX x = false) : tellsX T a (Xs ++ [x]) = tellsX T a Xs ∧ endsX T a (Xs ++ [x]) = endsX T a Xs := by
  unfold tellsX endsX
  rw [List.filter_append, List.filter_cons, h]
  simp
theorem tells_up {T : List PairB → Bool} {a : AskB} {Xs : List ReplX} {x : ReplX} (h : upX x = true) : tellsX T a (Xs ++ [x]) = tellsX T a Xs ++ [tellX T a x] := by
  unfold tellsX
  rw [List.filter_append, List.filter_cons, h]
  simp
theorem ends_no {T : List PairB → Bool} {a : AskB} {Xs : List ReplX} {x : ReplX} (h : upX x = true) (hm : moreX T a x = false) : endsX T a (Xs ++ [x]) = endsX T a Xs := by
  unfold endsX lastX
  rw [List.filter_append, List.filter_cons, h]
  simp [hm]
theorem ends_yes {T : List PairB → Bool} {a : AskB} {Xs : List ReplX} {x : ReplX} {p : List EntB} {u : EntB} (h : upX x = true) (hm : moreX T a x = true) (hp : tellX T a x = p ++ [u]) : endsX T a (Xs ++ [x]) = endsX T a Xs ++ [u] := by
  unfold endsX lastX
  rw [List.filter_append, List.filter_cons, h]
  simp [hm, hp]
theorem more_some {T : List PairB → Bool} {a : AskB} {x : ReplX} (hl : 1 ≤ a.lim) (hm : moreX T a x = true) : ∃ p u, tellX T a x = p ++ [u] := by
  unfold moreX moreL at hm
  have h1 := of_decide_eq_true hm
  have h2 := mostOf_pos (r := replyOf x) hl
  exact take_end (l := metL T a (x.L.map EntX.b)) (fun e => by rw [e] at h1; simp at h1) (by omega)
theorem asked_get : ∀ (ord : List Nat) (Rs : List ReplX), ord.Nodup → ∀ k : Nat, (ord.foldl (fun l i => l.modify i ReplX.next) Rs)[k]? = (Rs[k]?).map fun x => if k ∈ ord then x.next else x
  | [], Rs, _, k => by
    rw [List.foldl_nil]
    cases Rs[k]? <;> simp
  | i :: ord, Rs, h, k => by
    obtain ⟨h1, h2⟩ := List.nodup_cons.1 h
    rw [List.foldl_cons, asked_get ord _ h2 k, List.getElem?_modify]
    rcases Rs[k]? with _ | x
    · split <;> rfl
    · by_cases e : i = k
      · subst e
        simp [h1]
      · have e2 : ¬ k = i := fun h => e h.symm
        simp [e, e2]
theorem asked_next {Rs : List ReplX} {ord : List Nat} {j i : Nat} (h : ord[j]? = some i) : askedL Rs ord (j + 1) = (askedL Rs ord j).modify i ReplX.next := by
  unfold askedL
  rw [List.take_add_one, h, List.foldl_append]
  rfl
theorem asked_at {Rs : List ReplX} {ord : List Nat} {j i : Nat} {x : ReplX} (hn : ord.Nodup) (h : ord[j]? = some i) (hx : Rs[i]? = some x) : (askedL Rs ord j)[i]? = some x := by
  unfold askedL
  rw [asked_get _ _ (hn.sublist (List.take_sublist _ _)), hx]
  have h1 : i ∉ ord.take j := fun hm => by
    obtain ⟨m, hm⟩ := List.mem_iff_getElem?.1 hm
    have hmj : m < j := by
      rcases Nat.lt_or_ge m j with h2 | h2
      · exact h2
      · rw [List.getElem?_eq_none (by rw [List.length_take]; omega)] at hm; cases hm
    rw [List.getElem?_take_of_lt hmj] at hm
    have hj := (List.getElem?_eq_some_iff.1 h).1
    have := (List.getElem?_inj (i := m) (j := j) (l := ord) (by omega) hn).1 (by rw [hm, h])
    omega
  simp [h1]
theorem asked_all {Rs : List ReplX} {ord : List Nat} (hn : ord.Nodup) (ha : ∀ i, i < Rs.length → i ∈ ord) : askedL Rs ord ord.length = Rs.map ReplX.next := by
  apply List.ext_getElem?
  intro k
  unfold askedL
  rw [List.take_length, asked_get _ _ hn, List.getElem?_map]
  rcases h : Rs[k]? with _ | x
  · rfl
  · have := ha k (List.getElem?_eq_some_iff.1 h).1
    simp [this]
end Go.Proofs.YtdaainifkldcpaaGreatDoor
