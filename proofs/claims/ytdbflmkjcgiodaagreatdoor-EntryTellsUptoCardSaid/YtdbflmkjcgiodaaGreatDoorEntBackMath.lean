/- Entries of few: they are right, small, and put one behind the other. No walk but one.
   An entry whose parts are not many: it can be put; what it is put as is read again, or cut is none. -/
import Derived.Test.YtdbflmkjcgiodaaGreatDoorEntExam
import Derived.Test.YtdbflmkjcgiodaaGreatDoorItemOpen
namespace Go.Proofs.YtdbflmkjcgiodaaGreatDoor
open Go.RowKit
set_option linter.unusedVariables false
set_option linter.unusedSimpArgs false

theorem rightGo_of : ∀ (l : List PairB) (prev : Option ByteArray), (∀ p ∈ l, nameB p.1 = true ∧ p.2.size ≤ 256) → l.Pairwise RiseP → (∀ q, prev = some q → ∀ p ∈ l, txtC q p.1 < 0) → rightGo prev l = true
  | [], _, _, _, _ => rfl
  | p :: l, prev, h1, h2, h3 => by
    rw [rightGo, Bool.and_eq_true]
    have hp := h1 p List.mem_cons_self
    rw [List.pairwise_cons] at h2
    refine ⟨?_, rightGo_of l (some p.1) (fun q hq => h1 q (List.mem_cons_of_mem _ hq)) h2.2 (fun q hq r hr => by injection hq with hq; subst hq; exact h2.1 r hr)⟩
    unfold okAt
    rw [hp.1, decide_eq_true hp.2]
    cases prev with
    | none => rfl
    | some q =>
      have := h3 q rfl p List.mem_cons_self
      simp [this]
theorem few_mem (lt : List TagB) : ∀ p ∈ fewL lt, nameB p.1 = true ∧ p.1.size ≤ 3 ∧ p.2.size ≤ 3 := by
  intro p hp
  have hs := ofL_set (few2L lt)
  refine ⟨hs.named p hp, ?_⟩
  have h2 : p ∈ few2L lt := by
    unfold fewL at hp
    rw [ofL_mem] at hp
    have := List.mem_of_getLast? hp
    rw [List.mem_filter] at this
    unfold namedL at this
    exact (List.mem_filter.1 this.1).1
  unfold few2L tagsL at h2
  obtain ⟨t, ht, rfl⟩ := List.mem_map.1 h2
  obtain ⟨u, _, rfl⟩ := List.mem_map.1 (List.mem_of_mem_take ht)
  unfold tagP ownT
  dsimp only
  rw [if_pos rfl]
  have hn : ∀ i, i < 5 → (tagNs.getD i .empty).size ≤ 3 := by decide
  have hv : ∀ i, i < 8 → (tagVs.getD i .empty).size ≤ 3 := by decide
  exact ⟨hn _ (by omega), hv _ (by omega)⟩
theorem few_right (lt : List TagB) : rightB (fewL lt) = true := by
  unfold rightB
  rw [decide_eq_true (by have := fewL_len lt; omega), Bool.true_and]
  exact rightGo_of _ _ (fun p hp => ⟨(few_mem lt p hp).1, by have := (few_mem lt p hp).2.2; omega⟩) (ofL_set (few2L lt)).rise (fun q hq => by cases hq)
theorem few_bulk (lt : List TagB) : bulkP (fewL lt) ≤ 10 * (fewL lt).length := by
  have h := few_mem lt
  generalize fewL lt = l at h
  induction l with
  | nil => exact Nat.le_refl _
  | cons p l ih =>
    have h1 := h p List.mem_cons_self
    have h2 := ih fun q hq => h q (List.mem_cons_of_mem _ hq)
    rw [bulkP, List.length_cons]
    omega
theorem line_size (k : Nat) : (lineTs.getD (k % 8) .empty).size ≤ 9 := by
  have h : ∀ i, i < 8 → (lineTs.getD i .empty).size ≤ 9 := by decide
  exact h _ (by omega)
def ownI (x : ItemX) : ItemX := ⟨x.e, true, x.t, x.LA, x.Ln, x.Lc, x.lt, x.k⟩
theorem ownI_good {B : Nat} {w : World} {x : ItemX} (h : GoodI B w x) : GoodI B w (ownI x) := ⟨h.ent, h.tags, h.len, h.lo, h.hi, h.line⟩
/-- what is put of an entry of few, and what that is read as -/
structure FewE (e : EntB) : Prop where
  right : rightE e = true
  lo : -9223372036854775808 ≤ e.ts
  hi : e.ts ≤ 9223372036854775807
  len : e.ls.length ≤ 2
  set : ∀ p ∈ e.ls, p.1.size ≤ 1048576 ∧ p.2.size ≤ 1048576
  join : (joinB ⟨#[44]⟩ (e.ls.map partT)).length ≤ 700000000
  line : e.ln.size ≤ 4000000
  size : (entT e).size ≤ 200
theorem textT_join (ps : List PairB) : (joinB ⟨#[44]⟩ (ps.map partT)).length ≤ (textT ps).size := by
  unfold textT
  rw [ByteArray.size_append, ByteArray.size_append]
  have s3 : (⟨(joinB ⟨#[44]⟩ (ps.map partT)).toArray⟩ : ByteArray).size = (joinB ⟨#[44]⟩ (ps.map partT)).length := by simp [ByteArray.size]
  omega
theorem own_few {B : Nat} {w : World} {x : ItemX} (h : GoodI B w x) : FewE (itemB (ownI x)) := by
  have e : itemB (ownI x) = ⟨x.t.tmod 12, fewL x.lt, lineTs.getD (x.k % 8) .empty⟩ := rfl
  rw [e]
  have h1 := h.lo
  have h2 := h.hi
  have hz : -11 ≤ x.t.tmod 12 ∧ x.t.tmod 12 ≤ 11 := by
    rcases Int.le_total 0 x.t with g | g
    · rw [Int.tmod_eq_emod_of_nonneg g]; omega
    · have e : x.t.tmod 12 = -((-x.t) % 12) := by
        rw [← Int.tmod_eq_emod_of_nonneg (by omega), Int.neg_tmod, Int.neg_neg]
      rw [e]; omega
  have hl := fewL_len x.lt
  have hb := few_bulk x.lt
  have hn := line_size x.k
  have ht := text_size (fewL x.lt)
  have hp := putS_size (lineTs.getD (x.k % 8) .empty)
  have hi := itoaS_size (x.t.tmod 12) (by omega) (by omega)
  refine ⟨?_, by show _ ≤ x.t.tmod 12; omega, by show x.t.tmod 12 ≤ _; omega, hl, fun p hp => ?_, ?_, by show (lineTs.getD (x.k % 8) .empty).size ≤ _; omega, ?_⟩
  · unfold rightE
    dsimp only
    rw [few_right, decide_eq_true (by omega)]
    rfl
  · have := (few_mem x.lt p hp).2
    omega
  · have := textT_join (fewL x.lt)
    dsimp only
    omega
  · unfold entT
    rw [ByteArray.size_append, ByteArray.size_append]
    dsimp only
    omega
theorem put_few (a : EntX) (w : World) {B1 : Nat} (ha : Good B1 w a) (hf : FewE a.b) (hl : LibIs w) :
    Calls Tryz.prog 21 #[.agg #[.int .i64 a.ts, .slice a.A a.n a.c, .string a.ln]] w fun e w' => e = .returned (.string (entT a.b)) ∧ Below w.heap.size w w' :=
  entPut_any a.ts a.A a.n a.c a.ls a.ln (by have h1 : a.ls.length = a.n := ha.set.1.1; have h2 : a.ls.length ≤ 2 := hf.len; omega) hf.join hf.set hf.line hf.lo hf.hi w ha.set.1 hl

/-- what entries are put, one behind the other -/
def putsT : List EntB → ByteArray
  | [] => .empty
  | e :: l => entT e ++ putsT l
theorem putsT_app (l m : List EntB) : putsT (l ++ m) = putsT l ++ putsT m := by
  induction l with
  | nil => show putsT m = ByteArray.empty ++ putsT m; rw [ByteArray.empty_append]
  | cons e l ih => show entT e ++ putsT (l ++ m) = (entT e ++ putsT l) ++ putsT m; rw [ih, ByteArray.append_assoc]
theorem putsT_size (l : List EntB) (h : ∀ e ∈ l, FewE e) : (putsT l).size ≤ 200 * l.length := by
  induction l with
  | nil => exact Nat.le_refl _
  | cons e l ih =>
    rw [putsT, ByteArray.size_append, List.length_cons]
    have h1 := (h e List.mem_cons_self).size
    have h2 := ih fun x hx => h x (List.mem_cons_of_mem _ hx)
    omega
theorem putsT_one (e : EntB) : putsT [e] = entT e := by show entT e ++ ByteArray.empty = _; rw [ByteArray.append_empty]
theorem ent_some (e : EntB) : 1 ≤ (entT e).size := by
  rw [entT_size]
  unfold entL
  obtain ⟨r, h⟩ := textL_head e.ls
  rw [h]
  simp only [List.length_append, List.length_cons]
  omega
theorem entP_puts (e : EntB) (r : ByteArray) (h : FewE e) : entP (entT e ++ r) = some (e, (entT e).size) := by
  rw [entP_text (entT e ++ r) e r.data.toList h.lo h.hi h.right (by rw [text_joined, entT_list]), entT_size]
theorem tail_text (a r : ByteArray) : (a ++ r).extract a.size (a ++ r).size = r := by
  refine text_ext1 ?_
  rw [rest_list]
  unfold atL
  rw [text_joined, ← size_toList, List.drop_left]
def ownL (l : List ItemX) (j : Nat) : List EntB := (l.take j).map fun x => itemB (ownI x)
theorem ownL_next (l : List ItemX) (j : Nat) (hj : j < l.length) : ownL l (j + 1) = ownL l j ++ [itemB (ownI (l.getD j inil))] := by
  unfold ownL
  rw [List.take_succ_eq_append_getElem hj, List.map_append, List.getD_eq_getElem?_getD, List.getElem?_eq_getElem hj]
  rfl
theorem ownL_few {B : Nat} {w : World} {l : List ItemX} (h : ∀ x ∈ l, GoodI B w x) (j : Nat) : ∀ e ∈ ownL l j, FewE e := by
  intro e he
  obtain ⟨x, hx, rfl⟩ := List.mem_map.1 he
  exact own_few (h x (List.mem_of_mem_take hx))
theorem ownL_len (l : List ItemX) (j : Nat) : (ownL l j).length ≤ j := by
  unfold ownL
  rw [List.length_map, List.length_take]
  omega
end Go.Proofs.YtdbflmkjcgiodaaGreatDoor
namespace Go.Proofs.YtdbflmkjcgiodaaGreatDoor
open Go.RowKit
set_option linter.unusedVariables false
set_option linter.unusedSimpArgs false

structure PutE (e : EntB) : Prop where
  lo : -9223372036854775808 ≤ e.ts
  hi : e.ts ≤ 9223372036854775807
  len : e.ls.length ≤ 1048576
  set : ∀ p ∈ e.ls, p.1.size ≤ 1048576 ∧ p.2.size ≤ 1048576
  join : (joinB ⟨#[44]⟩ (e.ls.map partT)).length ≤ 700000000
  line : e.ln.size ≤ 4000000
  size : (entT e).size ≤ 9000000
theorem FewE.put {e : EntB} (h : FewE e) : PutE e := ⟨h.lo, h.hi, by have := h.len; omega, h.set, h.join, h.line, by have := h.size; omega⟩
theorem sum_bulk (ps : List PairB) : bulkP ps + 2 * ps.length ≤ sumN (ps.map fun p => p.1.size + p.2.size + 3) := by
  induction ps with
  | nil => exact Nat.le_refl _
  | cons p ps ih =>
    rw [bulkP, List.map_cons, sumN, List.length_cons]
    omega
theorem item_put {B : Nat} {w : World} {x : ItemX} (h : GoodI B w x) (hk : itemK x ≤ 1048576) : PutE (itemB x) := by
  cases ho : x.own with
  | true =>
    have e : itemB x = itemB (ownI x) := by unfold itemB ownI; rw [ho]
    rw [e]
    exact (own_few h).put
  | false =>
    have e : itemB x = x.e.b := by unfold itemB; rw [ho]; rfl
    rw [e]
    have hb := sum_bulk x.e.ls
    have h1 : x.e.ln.size + sumN (x.e.ls.map fun p => p.1.size + p.2.size + 3) ≤ 1048576 := by
      unfold itemK entK at hk
      omega
    have ht := text_size x.e.ls
    have hj := textT_join x.e.ls
    have hp := putS_size x.e.ln
    have hi := itoaS_size x.e.ts h.ent.lo h.ent.hi
    refine ⟨h.ent.lo, h.ent.hi, by show x.e.ls.length ≤ _; omega, fun p hp => ?_, by show (joinB ⟨#[44]⟩ (x.e.ls.map partT)).length ≤ _; omega, by show x.e.ln.size ≤ _; omega, ?_⟩
    · have := sumN_mem (List.mem_map.2 ⟨p, hp, rfl⟩ : _ ∈ x.e.ls.map fun p => p.1.size + p.2.size + 3)
      omega
    · unfold entT
      rw [ByteArray.size_append, ByteArray.size_append]
      show (itoaS x.e.ts).size + (textT x.e.ls).size + (putS x.e.ln).size ≤ _
      omega
theorem put_ent (a : EntX) (w : World) {B1 : Nat} (ha : Good B1 w a) (hf : PutE a.b) (hl : LibIs w) :
    Calls Tryz.prog 21 #[.agg #[.int .i64 a.ts, .slice a.A a.n a.c, .string a.ln]] w fun e w' => e = .returned (.string (entT a.b)) ∧ Below w.heap.size w w' :=
  entPut_any a.ts a.A a.n a.c a.ls a.ln (by have h1 : a.ls.length = a.n := ha.set.1.1; have h2 : a.ls.length ≤ 1048576 := hf.len; omega) hf.join hf.set hf.line hf.lo hf.hi w ha.set.1 hl
/-- what is read of what was put, with something behind; of what is cut -/
theorem back_some (e : EntB) (be : ByteArray) (h : PutE e) : ∃ (o : Option (EntB × Nat)) (n : Nat) (ok : Bool), entP (entT e ++ be) = o ∧ (o.map (·.2)).getD 0 = n ∧ o.isSome = ok ∧ (rightE e = true → n = (entT e).size ∧ ok = true ∧ entOf o = e) := by
  refine ⟨_, _, _, rfl, rfl, rfl, fun hr => ?_⟩
  rw [entP_text (entT e ++ be) e be.data.toList h.lo h.hi hr (by rw [text_joined, entT_list]), entT_size]
  exact ⟨rfl, rfl, rfl⟩
theorem back_less (e : EntB) (k : Nat) (h : PutE e) (hk : k < (entT e).size) : ∃ (o : Option (EntB × Nat)) (n : Nat) (ok : Bool), entP ((entT e).extract 0 k) = o ∧ (o.map (·.2)).getD 0 = n ∧ o.isSome = ok ∧ (rightE e = true → ok = false) := by
  refine ⟨_, _, _, rfl, rfl, rfl, fun hr => ?_⟩
  rw [entP_short _ e k h.lo h.hi hr (by rw [← entT_size]; exact hk) (by rw [mid_list, List.drop_zero, entT_list])]
  rfl
theorem parse_as (t : ByteArray) (o : Option (EntB × Nat)) (n : Nat) (ok : Bool) (ht : t.size ≤ 16000000) (h1 : entP t = o) (h2 : (o.map (·.2)).getD 0 = n) (h3 : o.isSome = ok) (w : World) (hl : LibIs w) :
    Calls Tryz.prog 27 #[.string t] w fun e w' => ∃ x : EntX, e = .returned (.tuple #[.agg #[.int .i64 x.ts, .slice x.A x.n x.c, .string x.ln], .int .i64 (n : Int), .bool ok]) ∧ x.b = entOf o ∧ Good 0 w' x ∧ Below w.heap.size w w' := by
  refine (entParse_any t ht w hl).mono ?_
  rintro e w' ⟨x, rfl, hx, gx, hb⟩
  refine ⟨x, ?_, by rw [hx, h1], gx, hb⟩
  rw [h1]
  unfold entV
  rw [h2, h3]
  rfl
end Go.Proofs.YtdbflmkjcgiodaaGreatDoor
