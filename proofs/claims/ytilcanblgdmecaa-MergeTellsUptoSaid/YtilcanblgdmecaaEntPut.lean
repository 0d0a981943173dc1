/- What an entry is read as, and that what was put is read: no walk.
   What an entry is put as: the walk. -/
import Derived.Test.YtilcanblgdmecaaEntRow
import Derived.Test.YtilcanblgdmecaaLabBackMath
import Derived.Test.YtilcanblgdmecaaScanNum
import Derived.Test.YtilcanblgdmecaaNumExam
namespace Go.Proofs.Ytilcanblgdmecaa
open Go.RowKit Go.Lib
set_option linter.unusedVariables false
set_option linter.unusedSimpArgs false

def entT (e : EntB) : ByteArray := itoaS e.ts ++ textT e.ls ++ putS e.ln
def entL (e : EntB) : List UInt8 := itoa e.ts ++ (textL e.ls ++ putB e.ln.data.toList)
theorem entT_list (e : EntB) : (entT e).data.toList = entL e := by
  unfold entT entL
  rw [text_joined, text_joined, itoaS_list, text_list, List.append_assoc]
  congr 2
theorem entT_size (e : EntB) : (entT e).size = (entL e).length := by rw [← size_toList, entT_list]
/-- where the line of an entry begins -/
def lineAt (t : ByteArray) (n : Nat) : Nat := numTo t 0 + min n (t.size - numTo t 0)
def lineP (t : ByteArray) (v : Int) (ps : List PairB) (k : Nat) : Option (EntB × Nat) :=
  if (quoR t k).2.2 = true then (if rightE ⟨v, ps, tx (quoR t k).1⟩ = true then some (⟨v, ps, tx (quoR t k).1⟩, k + (quoR t k).2.1) else none) else none
def entRest (t : ByteArray) (v : Int) : Option (List PairB × Nat) → Option (EntB × Nat)
  | none => none
  | some x => lineP t v x.1 (lineAt t x.2)
def entFrom (t : ByteArray) (k : Nat) : Option Int → Option (EntB × Nat)
  | none => none
  | some v => entRest t v (parseL (t.extract k t.size))
/-- the entry that a text begins with -/
def entP (t : ByteArray) : Option (EntB × Nat) := entFrom t (numTo t 0) (numR t 0)

theorem entFrom_some (t : ByteArray) (k : Nat) (v : Int) : entFrom t k (some v) = entRest t v (parseL (t.extract k t.size)) := rfl
theorem entRest_some (t : ByteArray) (v : Int) (ps : List PairB) (n : Nat) : entRest t v (some (ps, n)) = lineP t v ps (lineAt t n) := rfl
theorem entRest_none (t : ByteArray) (v : Int) : entRest t v none = none := rfl
theorem dig_good {c : UInt8} (h : 48 ≤ c.toNat ∧ c.toNat ≤ 57) : goodK [0] c = true := by
  unfold goodK kindB
  simp [h.1, h.2]
theorem dig_bad : goodK [0] 123 = false := by decide
theorem while_app {p : UInt8 → Bool} {a r : List UInt8} (ha : ∀ c ∈ a, p c = true) (hr : ∀ c x, r = c :: x → p c = false) : (a ++ r).takeWhile p = a := by
  induction a with
  | nil =>
    cases r with
    | nil => rfl
    | cons c x => rw [List.nil_append, List.takeWhile_cons, hr c x rfl]; rfl
  | cons c a ih => rw [List.cons_append, List.takeWhile_cons, ha c List.mem_cons_self, if_pos rfl, ih fun d hd => ha d (List.mem_cons_of_mem _ hd)]
/-- digits, or '-' and digits: how far a number goes -/
theorem num_end (t : ByteArray) (s d r : List UInt8) (hs : s = [] ∨ s = [45]) (hd : ∀ c ∈ d, 48 ≤ c.toNat ∧ c.toNat ≤ 57) (hr : ∀ c x, r = c :: x → goodK [0] c = false) (hne : s = [] → ∀ c x, d ++ r = c :: x → c ≠ 45) (h : t.data.toList = s ++ (d ++ r)) : numEnd t 0 = (s ++ d).length := by
  have hw : (d ++ r).takeWhile (goodK [0]) = d := while_app (fun c hc => dig_good (hd c hc)) hr
  have h0 : atL t 0 = s ++ (d ++ r) := by rw [at_zero, h]
  have key : takeTo t 0 [minus] = s.length := by
    unfold takeTo minus
    rw [takeR_byte, h0]
    rcases hs with rfl | rfl
    · have hh : ([] ++ (d ++ r) : List UInt8).head? ≠ some 45 := by
        rw [List.nil_append]
        cases hdr : d ++ r with
        | nil => simp
        | cons c x =>
          intro e
          injection e with e
          exact hne rfl c x hdr e
      rw [if_neg hh]
      rfl
    · rw [if_pos (show ([45] ++ (d ++ r) : List UInt8).head? = some 45 from rfl)]
      rfl
  unfold numEnd
  have h1 : atL t s.length = d ++ r := by
    have := at_add t 0 s (d ++ r) h0
    rwa [Nat.zero_add] at this
  rw [key, run_at, h1, hw, List.length_append]
theorem itoa_parts (z : Int) : ∃ s d, itoa z = s ++ d ∧ (s = [] ∨ s = [45]) ∧ d ≠ [] ∧ ∀ c ∈ d, 48 ≤ c.toNat ∧ c.toNat ≤ 57 := by
  unfold itoa
  split
  · exact ⟨[45], _, rfl, .inr rfl, digits_ne _, digits_all _⟩
  · exact ⟨[], _, rfl, .inl rfl, digits_ne _, digits_all _⟩
theorem head_dig {d : List UInt8} (hne : d ≠ []) (hd : ∀ c ∈ d, 48 ≤ c.toNat ∧ c.toNat ≤ 57) (r : List UInt8) : ∀ c x, d ++ r = c :: x → c ≠ 45 := by
  intro c x e
  cases d with
  | nil => exact absurd rfl hne
  | cons b d =>
    injection e with e _
    subst e
    intro e
    have := hd b List.mem_cons_self
    rw [e] at this
    have : (45 : UInt8).toNat = 45 := rfl
    omega
theorem num_read (t : ByteArray) (z : Int) (r : List UInt8) (h0 : -9223372036854775808 ≤ z) (h1 : z ≤ 9223372036854775807) (hr : ∀ c x, r = c :: x → goodK [0] c = false) (h : t.data.toList = itoa z ++ r) : numR t 0 = some z ∧ numTo t 0 = (itoa z).length := by
  obtain ⟨s, d, e, hs, hne, hd⟩ := itoa_parts z
  have he : numEnd t 0 = (itoa z).length := by
    rw [e]
    exact num_end t s d r hs hd hr (fun _ => head_dig hne hd r) (by rw [h, e, List.append_assoc])
  have hx : t.extract 0 (numEnd t 0) = itoaS z := by
    refine text_ext1 ?_
    rw [mid_list, he, h, itoaS_list, List.drop_zero, List.take_left]
  have hp : parseZ (t.extract 0 (numEnd t 0)) = some z := by
    rw [hx]
    exact (parseZ_iff _ _).2 ⟨⟨h0, h1⟩, rfl⟩
  refine ⟨hp, ?_⟩
  unfold numTo
  rw [hp, if_pos (show (some z).isSome = true from rfl), he]
theorem num_short (t : ByteArray) (z : Int) (j : Nat) (hj : j ≤ (itoa z).length) (h : t.data.toList = (itoa z).take j) : numEnd t 0 = t.size := by
  obtain ⟨s, d, e, hs, hne, hd⟩ := itoa_parts z
  have ht : t.size = ((itoa z).take j).length := by rw [← size_toList, h]
  rcases hs with rfl | rfl
  · have h2 : t.data.toList = [] ++ (d.take j ++ []) := by rw [h, e, List.append_nil]; rfl
    have hd2 : ∀ c ∈ d.take j, 48 ≤ c.toNat ∧ c.toNat ≤ 57 := fun c hc => hd c (List.mem_of_mem_take hc)
    rw [num_end t [] (d.take j) [] (.inl rfl) hd2 (fun c x e => by cases e) (fun _ c x e2 e3 => by
      rw [List.append_nil] at e2
      have hm := hd2 c (by rw [e2]; exact List.mem_cons_self)
      rw [e3] at hm
      have : (45 : UInt8).toNat = 45 := rfl
      omega) h2, ht, e]
    rfl
  · cases j with
    | zero =>
      rw [num_end t [] [] [] (.inl rfl) (fun c hc => by cases hc) (fun c x e => by cases e) (fun _ c x e => by cases e) (by rw [h]; rfl), ht]
      rfl
    | succ j =>
      have h2 : t.data.toList = [45] ++ (d.take j ++ []) := by rw [h, e, List.append_nil]; rfl
      rw [num_end t [45] (d.take j) [] (.inr rfl) (fun c hc => hd c (List.mem_of_mem_take hc)) (fun c x e => by cases e) (fun e => by cases e) h2, ht, e]
      rfl
theorem parseL_nil (t : ByteArray) (h : t.data.toList = []) : parseL t = none := parse_short t [] 0 (fun q hq => by cases hq) (by decide) (by rw [h]; rfl)

theorem parseL_right {t : ByteArray} {x : List PairB × Nat} (h : parseL t = some x) : rightB x.1 = true := by
  unfold parseL at h
  split at h
  · cases h
  · split at h
    · injection h with h
      subst h
      decide
    · rw [Option.bind_eq_some_iff] at h
      obtain ⟨y, _, h⟩ := h
      split at h
      · injection h with h
        subst h
        assumption
      · cases h
theorem textL_head (ps : List PairB) : ∃ r, textL ps = 123 :: r := by cases ps <;> exact ⟨_, rfl⟩
theorem entP_text (t : ByteArray) (e : EntB) (x : List UInt8) (h0 : -9223372036854775808 ≤ e.ts) (h1 : e.ts ≤ 9223372036854775807) (hr : rightE e = true) (h : t.data.toList = entL e ++ x) : entP t = some (e, (entL e).length) := by
  obtain ⟨z, ps, ln⟩ := e
  have hrr : rightB ps = true := by unfold rightE at hr; rw [Bool.and_eq_true] at hr; exact hr.1
  obtain ⟨r, hh⟩ := textL_head ps
  have e1 : t.data.toList = itoa z ++ (textL ps ++ (putB ln.data.toList ++ x)) := by rw [h]; unfold entL; simp only [List.append_assoc]
  obtain ⟨n1, n2⟩ := num_read t z _ h0 h1 (by rw [hh]; rintro c x e; injection e with e; subst e; exact dig_bad) e1
  have hlen : t.size = (itoa z).length + ((textL ps).length + ((putB ln.data.toList).length + x.length)) := by rw [← size_toList, e1]; simp only [List.length_append]
  have e2 : (t.extract (numTo t 0) t.size).data.toList = textL ps ++ (putB ln.data.toList ++ x) := by
    rw [rest_list, n2]
    unfold atL
    rw [e1, List.drop_left]
  have p1 := parse_text _ _ ps (right_good hrr) e2
  rw [if_pos hrr] at p1
  have e3 : lineAt t (textL ps).length = (itoa z).length + (textL ps).length := by unfold lineAt; rw [n2]; omega
  have e4 : atL t ((itoa z).length + (textL ps).length) = putB ln.data.toList ++ x := by
    unfold atL
    rw [e1, ← List.drop_drop, List.drop_left, List.drop_left]
  have q1 : quoR t ((itoa z).length + (textL ps).length) = (ln.data.toList, (putB ln.data.toList).length, true) := by rw [quo_at, e4, get_back]
  unfold entP
  rw [n1, entFrom_some, p1, entRest_some, e3]
  unfold lineP
  rw [q1]
  dsimp only
  rw [if_pos rfl, tx_back, if_pos hr]
  unfold entL
  simp only [List.length_append, Nat.add_assoc]
theorem entP_short (t : ByteArray) (e : EntB) (j : Nat) (h0 : -9223372036854775808 ≤ e.ts) (h1 : e.ts ≤ 9223372036854775807) (hr : rightE e = true) (hj : j < (entL e).length) (h : t.data.toList = (entL e).take j) : entP t = none := by
  obtain ⟨z, ps, ln⟩ := e
  have hrr : rightB ps = true := by unfold rightE at hr; rw [Bool.and_eq_true] at hr; exact hr.1
  obtain ⟨r, hh⟩ := textL_head ps
  unfold entL at h hj
  dsimp only at h hj
  simp only [List.length_append] at hj
  rcases Nat.lt_or_ge (itoa z).length j with hjz | hjz
  · have e1 : t.data.toList = itoa z ++ (textL ps ++ putB ln.data.toList).take (j - (itoa z).length) := by
      rw [h, List.take_append, List.take_of_length_le (by omega)]
    obtain ⟨i, hi⟩ : ∃ i, j - (itoa z).length = i + 1 := ⟨j - (itoa z).length - 1, by omega⟩
    rw [hi] at e1
    obtain ⟨n1, n2⟩ := num_read t z _ h0 h1 (by rw [hh]; rintro c x e; injection e with e; subst e; exact dig_bad) e1
    have e2 : (t.extract (numTo t 0) t.size).data.toList = (textL ps ++ putB ln.data.toList).take (i + 1) := by
      rw [rest_list, n2]
      unfold atL
      rw [e1, List.drop_left]
    unfold entP
    rw [n1, entFrom_some]
    rcases Nat.lt_or_ge (i + 1) (textL ps).length with hit | hit
    · rw [List.take_append_of_le_length (by omega)] at e2
      rw [parse_short _ ps (i + 1) (right_good hrr) hit e2, entRest_none]
    · rw [List.take_append, List.take_of_length_le (by omega)] at e1 e2
      have p1 := parse_text _ _ ps (right_good hrr) e2
      rw [if_pos hrr] at p1
      rw [p1, entRest_some]
      have hlen : t.size = (itoa z).length + ((textL ps).length + ((putB ln.data.toList).take (i + 1 - (textL ps).length)).length) := by rw [← size_toList, e1]; simp only [List.length_append]
      have e3 : lineAt t (textL ps).length = (itoa z).length + (textL ps).length := by unfold lineAt; rw [n2]; omega
      have e4 : atL t ((itoa z).length + (textL ps).length) = (putB ln.data.toList).take (i + 1 - (textL ps).length) := by
        unfold atL
        rw [e1, ← List.drop_drop, List.drop_left, List.drop_left]
      have q1 : quoR t ((itoa z).length + (textL ps).length) = ([], 0, false) := by
        rw [quo_at, e4]
        exact get_short _ _ (by omega)
      rw [e3]
      unfold lineP
      rw [q1]
      rfl
  · have e1 : t.data.toList = (itoa z).take j := by rw [h, List.take_append_of_le_length hjz]
    have hz := num_short t z j hjz e1
    unfold entP
    cases hn : numR t 0 with
    | none => rfl
    | some v =>
      rw [entFrom_some]
      have n2 : numTo t 0 = t.size := by
        unfold numTo
        unfold numR at hn
        rw [hn, if_pos (show (some v).isSome = true from rfl), hz]
      rw [parseL_nil _ (by rw [rest_list, n2]; exact at_end t _ (Nat.le_refl _)), entRest_none]
/-- two right entries that are put alike are the same -/
theorem ent_alike {a b : EntB} (a0 : -9223372036854775808 ≤ a.ts) (a1 : a.ts ≤ 9223372036854775807) (b0 : -9223372036854775808 ≤ b.ts) (b1 : b.ts ≤ 9223372036854775807) (ha : rightE a = true) (hb : rightE b = true) (h : entT a = entT b) : a = b := by
  have h1 := entP_text (entT a) a [] a0 a1 ha (by rw [entT_list, List.append_nil])
  have h2 := entP_text (entT b) b [] b0 b1 hb (by rw [entT_list, List.append_nil])
  rw [h] at h1
  have h4 := Option.some.inj (h1.symm.trans h2)
  exact congrArg Prod.fst h4
end Go.Proofs.Ytilcanblgdmecaa
namespace Go.Proofs.Ytilcanblgdmecaa
open Go.RowKit
set_option linter.unusedVariables false
set_option linter.unusedSimpArgs false


end Go.Proofs.Ytilcanblgdmecaa
