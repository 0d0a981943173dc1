/- The document's own entry that a text begins with: it is the one that the program tells. No walk. -/
import Derived.Test.YtdbflmkjcgiodaaGreatDoorEntPut
import Derived.Test.YtdbflmkjcgiodaaGreatDoorEntRow
namespace Go.Proofs.YtdbflmkjcgiodaaGreatDoor
open Go.RowKit Go.Lib
set_option linter.unusedVariables false
set_option linter.unusedSimpArgs false

def notBr (c : UInt8) : Bool := c != 123
/-- where a number may end: at the first '{', or at 21 bytes -/
def brP (t : ByteArray) : Nat := min 21 (t.data.toList.takeWhile notBr).length
def lineQ (t : ByteArray) (v : Int) (ps : List PairB) (k : Nat) : Option (EntB × Nat) :=
  if (quoR t k).2.2 = true then (if (quoR t k).1.length ≤ 256 then some (⟨v, ps, tx (quoR t k).1⟩, k + (quoR t k).2.1) else none) else none
def restQ (t : ByteArray) (k : Nat) (v : Int) : Option (List PairB × Nat) → Option (EntB × Nat)
  | none => none
  | some x => lineQ t v x.1 (k + x.2)
def fromQ (t : ByteArray) (k : Nat) : Option Int → Option (EntB × Nat)
  | none => none
  | some v => restQ t k v (parseL (t.extract k t.size))
/-- the document's entry -/
def entQ (t : ByteArray) : Option (EntB × Nat) := fromQ t (brP t) (parseZ (t.extract 0 (brP t)))

theorem brP_le (t : ByteArray) : brP t ≤ t.size := by
  unfold brP
  have h := (List.takeWhile_prefix (p := notBr) (l := t.data.toList)).length_le
  rw [size_toList] at h
  omega
theorem parseL_head {t : ByteArray} {x : List PairB × Nat} (h : parseL t = some x) : t.data.toList.head? = some 123 := by
  unfold parseL at h
  split at h
  · cases h
  · rename_i y hy
    unfold lbT at hy
    rw [takeR_byte, at_zero] at hy
    split at hy
    · assumption
    · cases hy
theorem pairR_le {t : ByteArray} {k : Nat} (hk : k ≤ t.size) (h : (pairR t k).2.1 = true) : (pairR t k).2.2 ≤ t.size := by
  have h1 := runTo_le (goodK [0, 1, 2]) t k hk
  unfold pairR at h ⊢
  cases hx : takeR t (runTo (goodK [0, 1, 2]) t k) [eqS] with
  | none => rw [hx] at h; cases h
  | some s =>
    have h2 := takeTo_le h1 hx
    have h3 : s.size = 1 := by rw [takeR_one hx]; rfl
    rw [h3] at h2
    exact quoR_le t _ h2
theorem goP_le (t : ByteArray) : ∀ (f k : Nat) (acc : List PairB) (x : List PairB × Nat), k ≤ t.size → goP t f k acc = some x → x.2 ≤ t.size := by
  intro f
  induction f with
  | zero => intro k acc x _ h; rw [goP] at h; cases h
  | succ f ih =>
    intro k acc x hk h
    rw [goP_succ] at h
    split at h
    · rename_i hp
      have h1 := pairR_le hk hp
      cases hx : takeR t (pairR t k).2.2 [cmT, rbT] with
      | none => rw [hx] at h; cases h
      | some s =>
        rw [hx] at h
        dsimp only at h
        have h2 := takeTo_le h1 hx
        have h3 : s.size = 1 := by
          have := takeR_in hx
          simp only [List.mem_cons, List.mem_nil_iff, or_false] at this
          rcases this with rfl | rfl <;> rfl
        rw [h3] at h2
        split at h
        · exact ih _ _ _ h2 h
        · injection h with h
          rw [← h]
          exact h2
    · cases h
theorem parseL_le {t : ByteArray} {x : List PairB × Nat} (h : parseL t = some x) : x.2 ≤ t.size := by
  have h0 := parseL_head h
  have hs : 1 ≤ t.size := by
    rw [← size_toList]
    cases ht : t.data.toList with
    | nil => rw [ht] at h0; cases h0
    | cons c r => simp
  unfold parseL at h
  split at h
  · cases h
  · split at h
    · rename_i y hy
      have h2 := takeTo_le hs hy
      have h3 : y.size = 1 := by rw [takeR_one hy]; rfl
      injection h with h
      rw [← h]
      show 2 ≤ _
      omega
    · rw [Option.bind_eq_some_iff] at h
      obtain ⟨y, hy, h⟩ := h
      split at h
      · injection h with h
        rw [← h]
        exact goP_le t _ _ _ _ hs hy
      · cases h
theorem good_at {t : ByteArray} {k : Nat} {v : Int} {x : List PairB × Nat} (hk : k ≤ t.size) (h1 : parseZ (t.extract 0 k) = some v) (h2 : parseL (t.extract k t.size) = some x) : numR t 0 = some v ∧ numTo t 0 = k ∧ brP t = k := by
  obtain ⟨⟨v0, v1⟩, hv⟩ := (parseZ_iff _ _).1 h1
  have hd := parseL_head h2
  rw [rest_list] at hd
  have ht : t.data.toList.take k = itoa v := by
    have : (t.extract 0 k).data.toList = (itoaS v).data.toList := by rw [hv]
    rw [mid_list, List.drop_zero, itoaS_list] at this
    exact this
  have hlen : (itoa v).length = k := by
    rw [← ht, List.length_take, size_toList]
    omega
  obtain ⟨r, hr⟩ : ∃ r, atL t k = 123 :: r := by
    cases ha : atL t k with
    | nil => rw [ha] at hd; cases hd
    | cons c r =>
      rw [ha] at hd
      injection hd with hd
      exact ⟨r, by rw [hd]⟩
  have hall : t.data.toList = itoa v ++ 123 :: r := by
    rw [← ht, ← hr]
    exact (List.take_append_drop k _).symm
  obtain ⟨n1, n2⟩ := num_read t v (123 :: r) v0 v1 (fun c y e => by rw [← (List.cons.inj e).1]; exact dig_bad) hall
  refine ⟨n1, by rw [n2, hlen], ?_⟩
  unfold brP
  have hw : t.data.toList.takeWhile notBr = itoa v := by
    have h3 : ∀ c ∈ itoa v, notBr c = true := by
      intro c hc
      have := itoa_all v c hc
      unfold notBr
      rw [bne_iff_ne]
      intro e
      rw [e] at this
      have e2 : (123 : UInt8).toNat = 123 := rfl
      omega
    have h4 : ∀ c y, (123 :: r : List UInt8) = c :: y → notBr c = false := by
      intro c y e
      have e := (List.cons.inj e).1
      rw [← e]
      rfl
    rw [hall]
    exact while_app h3 h4
  rw [hw, hlen]
  have := itoaS_size v v0 v1
  rw [← size_toList, itoaS_list, hlen] at this
  omega
theorem entQ_is (t : ByteArray) : entQ t = entP t := by
  have hle := brP_le t
  have hend : numEnd t 0 ≤ t.size := by
    unfold numEnd
    refine runTo_le _ _ _ ?_
    unfold takeTo
    cases hx : takeR t 0 [minus] with
    | none => exact Nat.zero_le _
    | some s => exact takeTo_le (Nat.zero_le _) hx
  by_cases h : ∃ v x, numR t 0 = some v ∧ parseL (t.extract (numTo t 0) t.size) = some x
  · obtain ⟨v, ⟨ps, n⟩, h1, h2⟩ := h
    have hk : numTo t 0 = numEnd t 0 := by
      unfold numTo
      unfold numR at h1
      rw [h1, if_pos (show (some v).isSome = true from rfl)]
    obtain ⟨_, _, hb⟩ := good_at (t := t) (k := numTo t 0) (by rw [hk]; exact hend) (by rw [hk]; exact h1) h2
    have hr := parseL_right h2
    have hn := parseL_le h2
    rw [ByteArray.size_extract] at hn
    have hz : parseZ (t.extract 0 (numTo t 0)) = some v := by rw [hk]; exact h1
    have ha : lineAt t n = numTo t 0 + n := by
      unfold lineAt
      dsimp only at hn
      omega
    have hline : lineQ t v ps (numTo t 0 + n) = lineP t v ps (lineAt t n) := by
      rw [ha]
      unfold lineQ lineP rightE
      dsimp only at hr ⊢
      rw [hr, Bool.true_and, tx_size]
      by_cases hs : (quoR t (numTo t 0 + n)).1.length ≤ 256
      · rw [if_pos hs, decide_eq_true hs, if_pos rfl]
      · rw [if_neg hs, decide_eq_false hs, if_neg (show ¬ (false = true) from by decide)]
    unfold entQ entP
    rw [hb, hz, h1, entFrom_some, h2, entRest_some, ← hline]
    unfold fromQ
    rw [h2]
    rfl
  · have e1 : entP t = none := by
      unfold entP
      cases hn : numR t 0 with
      | none => rfl
      | some v =>
        rw [entFrom_some]
        cases hp : parseL (t.extract (numTo t 0) t.size) with
        | none => rfl
        | some x => exact absurd ⟨v, x, hn, hp⟩ h
    rw [e1]
    unfold entQ
    cases hz : parseZ (t.extract 0 (brP t)) with
    | none => rfl
    | some v =>
      show restQ t (brP t) v (parseL (t.extract (brP t) t.size)) = none
      cases hp : parseL (t.extract (brP t) t.size) with
      | none => rfl
      | some x =>
        obtain ⟨g1, g2, _⟩ := good_at hle hz hp
        exact absurd ⟨v, x, g1, by rw [g2]; exact hp⟩ h
end Go.Proofs.YtdbflmkjcgiodaaGreatDoor
