/- That a cursor that was put is read, whatever stands behind it: no walk. -/
import Derived.Test.YtfamcebgcpaolaaGreatDoorCurReadH
import Derived.Test.YtfamcebgcpaolaaGreatDoorCurPut
namespace Go.Proofs.YtfamcebgcpaolaaGreatDoor
open Go.RowKit Go.Lib
set_option linter.unusedVariables false
set_option linter.unusedSimpArgs false

structure CurB where
  dg : Nat
  ln : Int
  by_ : Int
  e : EntB
def CurB.put (c : CurB) : ByteArray := putC c.dg c.ln c.by_ c.e
def CurB.body (c : CurB) : ByteArray := bodyC c.dg c.ln c.by_ c.e
def CurB.right (c : CurB) : Bool := rightC c.ln c.by_ c.e
def curE (t : ByteArray) (dg : Nat) (ln by_ : Int) (k : Nat) : Option CurB := (entP (t.extract k t.size)).map fun x => ⟨dg, ln, by_, x.1⟩
def curN2 (t : ByteArray) (dg : Nat) (ln : Int) : Option (Int × Nat) → Option CurB
  | none => none
  | some x => curE t dg ln x.1 x.2
def curN1 (t : ByteArray) (dg : Nat) : Option (Int × Nat) → Option CurB
  | none => none
  | some x => curN2 t dg x.1 (numC t x.2)
def curH (t : ByteArray) : Option (Nat × Nat) → Option CurB
  | none => none
  | some x => curN1 t x.1 (numC t x.2)
/-- the cursor, all but the sum, that a text begins with -/
def curP (t : ByteArray) : Option CurB := if (takeR t 0 [headC]).isSome = true then curH t (hexC t (takeTo t 0 [headC])) else none
def getC1 (t : ByteArray) : Option CurB → Option CurB
  | none => none
  | some c => if c.right = true then (if c.put = t then some c else none) else none
/-- the cursor whose Put a text is -/
def getC (t : ByteArray) : Option CurB := getC1 t (curP t)

theorem num_end_at (t : ByteArray) (k : Nat) (s d r : List UInt8) (hs : s = [] ∨ s = [45]) (hd : ∀ c ∈ d, 48 ≤ c.toNat ∧ c.toNat ≤ 57) (hr : ∀ c x, r = c :: x → goodK [0] c = false) (hne : s = [] → ∀ c x, d ++ r = c :: x → c ≠ 45) (h : atL t k = s ++ (d ++ r)) : numEnd t k = k + (s ++ d).length := by
  have hw : (d ++ r).takeWhile (goodK [0]) = d := while_app (fun c hc => dig_good (hd c hc)) hr
  have key : takeTo t k [minus] = k + s.length := by
    unfold takeTo minus
    rw [takeR_byte, h]
    rcases hs with rfl | rfl
    · have hh : ([] ++ (d ++ r) : List UInt8).head? ≠ some 45 := by
        rw [List.nil_append]
        cases hdr : d ++ r with
        | nil => simp
        | cons c x =>
          intro e
          injection e with e
          exact hne rfl c x hdr e
      rw [if_neg hh]
      rfl
    · rw [if_pos (show ([45] ++ (d ++ r) : List UInt8).head? = some 45 from rfl)]
      rfl
  unfold numEnd
  have h1 : atL t (k + s.length) = d ++ r := at_add t k s (d ++ r) h
  rw [key, run_at, h1, hw, List.length_append]
  omega
theorem num_read_at (t : ByteArray) (k : Nat) (z : Int) (r : List UInt8) (h0 : -9223372036854775808 ≤ z) (h1 : z ≤ 9223372036854775807) (hr : ∀ c x, r = c :: x → goodK [0] c = false) (h : atL t k = itoa z ++ r) : numR t k = some z ∧ numTo t k = k + (itoa z).length := by
  obtain ⟨s, d, e, hs, hne, hd⟩ := itoa_parts z
  have he : numEnd t k = k + (itoa z).length := by
    rw [e]
    exact num_end_at t k s d r hs hd hr (fun _ => head_dig hne hd r) (by rw [h, e, List.append_assoc])
  have hx : t.extract k (numEnd t k) = itoaS z := by
    refine text_ext1 ?_
    rw [mid_list, he, List.drop_take, show k + (itoa z).length - k = (itoa z).length by omega]
    show (atL t k).take (itoa z).length = _
    rw [h, itoaS_list, List.take_left]
  have hp : parseZ (t.extract k (numEnd t k)) = some z := by
    rw [hx]
    exact (parseZ_iff _ _).2 ⟨⟨h0, h1⟩, rfl⟩
  refine ⟨hp, ?_⟩
  unfold numTo
  rw [hp, if_pos (show (some z).isSome = true from rfl), he]
theorem dv_hexC0 (d : Nat) (h : d < 16) : dv (hexC0 d) = d := (dv_is _ d h).1 rfl
theorem at_head (t : ByteArray) (k : Nat) : t.data.toList[k]? = (atL t k).head? := by
  unfold atL
  rw [List.head?_drop]
theorem at_next (t : ByteArray) (k : Nat) (c : UInt8) (r : List UInt8) (h : atL t k = c :: r) : atL t (k + 1) = r := at_add t k [c] r h
theorem readH_hx (t : ByteArray) (m : Nat) (r : List UInt8) : ∀ (i k n : Nat), atL t k = hx i m ++ r → readH t i k n = some (n * 16 ^ i + m % 16 ^ i)
  | 0, k, n, _ => by rw [readH, Nat.pow_zero, Nat.mod_one, Nat.mul_one, Nat.add_zero]
  | i + 1, k, n, h => by
    rw [hx, List.cons_append] at h
    have hd : m / 16 ^ i % 16 < 16 := Nat.mod_lt _ (by decide)
    have ih := readH_hx t m r i (k + 1) (n * 16 + m / 16 ^ i % 16) (at_next t k _ _ h)
    rw [readH, at_head, h]
    show (if dv (hexC0 (m / 16 ^ i % 16)) < 16 then readH t i (k + 1) (n * 16 + dv (hexC0 (m / 16 ^ i % 16))) else none) = _
    rw [dv_hexC0 _ hd, if_pos hd, ih, Nat.pow_succ, Nat.mod_mul]
    congr 1
    generalize m / 16 ^ i % 16 = d
    generalize m % 16 ^ i = u
    generalize 16 ^ i = p
    have e1 : (n * 16 + d) * p = n * (p * 16) + p * d := by rw [Nat.add_mul, Nat.mul_assoc, Nat.mul_comm 16 p, Nat.mul_comm d p]
    omega
theorem readH_lt (t : ByteArray) : ∀ (i k n v : Nat), readH t i k n = some v → v < (n + 1) * 16 ^ i
  | 0, k, n, v, h => by
    rw [readH] at h
    injection h with h
    rw [Nat.pow_zero]
    omega
  | i + 1, k, n, v, h => by
    rw [readH] at h
    cases hc : t.data.toList[k]? with
    | none => rw [hc] at h; cases h
    | some c =>
      rw [hc] at h
      replace h : (if dv c < 16 then readH t i (k + 1) (n * 16 + dv c) else none) = some v := h
      split at h
      · rename_i hd
        have ih := readH_lt t i (k + 1) (n * 16 + dv c) v h
        have h2 : (n * 16 + dv c + 1) * 16 ^ i ≤ ((n + 1) * 16) * 16 ^ i := Nat.mul_le_mul_right _ (by omega)
        rw [Nat.pow_succ, Nat.mul_comm (16 ^ i) 16, ← Nat.mul_assoc]
        omega
      · cases h
theorem parted_at {α : Type} (t : ByteArray) (v : α) (k : Nat) (r : List UInt8) (h : atL t k = 58 :: r) : partedO t v k = some (v, k + 1) := by
  unfold partedO takeTo colS
  rw [takeR_byte, h, if_pos (show (58 :: r : List UInt8).head? = some 58 from rfl)]
  rfl
theorem parted_some {α : Type} {t : ByteArray} {v w : α} {k j : Nat} (h : partedO t v k = some (w, j)) : w = v := by
  unfold partedO at h
  split at h
  · injection h with h
    injection h with h1 h2
    exact h1.symm
  · cases h
theorem hexC_at (t : ByteArray) (k m : Nat) (r : List UInt8) (hm : m < 18446744073709551616) (h : atL t k = hx 16 m ++ 58 :: r) : hexC t k = some (m, k + 17) := by
  have h2 : atL t (k + 16) = 58 :: r := by
    have := at_add t k _ _ h
    rwa [hx_len] at this
  unfold hexC
  rw [readH_hx t m _ 16 k 0 h, Nat.zero_mul, Nat.zero_add, Nat.mod_eq_of_lt (show m < 16 ^ 16 from hm)]
  exact parted_at t m (k + 16) r h2
theorem hexC_lt {t : ByteArray} {k v j : Nat} (h : hexC t k = some (v, j)) : v < 18446744073709551616 := by
  unfold hexC at h
  cases hr : readH t 16 k 0 with
  | none => rw [hr] at h; cases h
  | some u =>
    rw [hr] at h
    have h2 := parted_some (show partedO t u (k + 16) = some (v, j) from h)
    have := readH_lt t 16 k 0 u hr
    rw [h2]
    exact this
theorem numC_at (t : ByteArray) (k : Nat) (z : Int) (r : List UInt8) (h0 : -9223372036854775808 ≤ z) (h1 : z ≤ 9223372036854775807) (h : atL t k = itoa z ++ 58 :: r) : numC t k = some (z, k + (itoa z).length + 1) := by
  obtain ⟨n1, n2⟩ := num_read_at t k z _ h0 h1 (by rintro c x e; injection e with e _; subst e; decide) h
  unfold numC
  rw [n1, n2]
  exact parted_at t z _ r (at_add t k _ _ h)
theorem numC_in {t : ByteArray} {k j : Nat} {v : Int} (h : numC t k = some (v, j)) : -9223372036854775808 ≤ v ∧ v ≤ 9223372036854775807 := by
  unfold numC at h
  cases hr : numR t k with
  | none => rw [hr] at h; cases h
  | some u =>
    rw [hr] at h
    rw [parted_some (show partedO t u _ = some (v, j) from h)]
    exact ((parseZ_iff _ _).1 hr).1
theorem entP_right {t : ByteArray} {x : EntB × Nat} (h : entP t = some x) : rightE x.1 = true ∧ -9223372036854775808 ≤ x.1.ts ∧ x.1.ts ≤ 9223372036854775807 := by
  unfold entP at h
  cases hr : numR t 0 with
  | none => rw [hr] at h; cases h
  | some v =>
    rw [hr, entFrom_some] at h
    cases hp : parseL (t.extract (numTo t 0) t.size) with
    | none => rw [hp] at h; cases h
    | some y =>
      rw [hp] at h
      replace h : lineP t v y.1 (lineAt t y.2) = some x := h
      unfold lineP at h
      split at h
      · split at h
        · rename_i h2
          injection h with h
          subst h
          exact ⟨h2, ((parseZ_iff _ _).1 hr).1⟩
        · cases h
      · cases h

/-- what a cursor's numbers are, and that its entry is right -/
structure OkC (c : CurB) : Prop where
  dg : c.dg < 18446744073709551616
  l0 : -9223372036854775808 ≤ c.ln
  l1 : c.ln ≤ 9223372036854775807
  b0 : -9223372036854775808 ≤ c.by_
  b1 : c.by_ ≤ 9223372036854775807
  right : rightE c.e = true
  t0 : -9223372036854775808 ≤ c.e.ts
  t1 : c.e.ts ≤ 9223372036854775807
def bodyL (c : CurB) : List UInt8 := [99, 49, 58] ++ (hx 16 c.dg ++ 58 :: (itoa c.ln ++ 58 :: (itoa c.by_ ++ 58 :: (entL c.e ++ [58]))))
theorem body_list (c : CurB) : c.body.data.toList = bodyL c := by
  unfold CurB.body bodyC bodyL
  rw [text_joined, text_joined]
  show [99, 49, 58] ++ joinB cutC [hexS c.dg, itoaS c.ln, itoaS c.by_, entT c.e] ++ [58] = _
  unfold joinB
  simp [Lib.join, itoaS_list, entT_list, cutC, hexS]
theorem put_list (c : CurB) : c.put.data.toList = bodyL c ++ hx 16 (sumS c.body) := by
  show (c.body ++ hexS (sumS c.body)).data.toList = _
  rw [text_joined, body_list]
  rfl
theorem curP_text (t : ByteArray) (c : CurB) (x : List UInt8) (hc : OkC c) (h : t.data.toList = bodyL c ++ x) : curP t = some c := by
  have e0 : atL t 0 = [99, 49, 58] ++ (hx 16 c.dg ++ 58 :: (itoa c.ln ++ 58 :: (itoa c.by_ ++ 58 :: (entL c.e ++ 58 :: x)))) := by
    unfold atL bodyL at *
    rw [List.drop_zero, h]
    simp
  have e1 : atL t 3 = _ := at_add t 0 [99, 49, 58] _ e0
  have p1 := hexC_at t 3 c.dg _ hc.dg e1
  have e2 : atL t 20 = _ := at_next t 19 _ _ (by have := at_add t 3 _ _ e1; rwa [hx_len] at this)
  have p2 := numC_at t 20 c.ln _ hc.l0 hc.l1 e2
  have e3 := at_next t _ _ _ (at_add t 20 _ _ e2)
  have p3 := numC_at t _ c.by_ _ hc.b0 hc.b1 e3
  have e4 := at_next t _ _ _ (at_add t _ _ _ e3)
  have p4 := entP_text (t.extract (20 + (itoa c.ln).length + 1 + (itoa c.by_).length + 1) t.size) c.e (58 :: x) hc.t0 hc.t1 hc.right (by rw [rest_list, e4])
  have hd : takeR t 0 [headC] = some headC := by
    rw [takeR_at, e0]
    rfl
  unfold curP
  rw [hd, if_pos (show (some headC).isSome = true from rfl)]
  have ht : takeTo t 0 [headC] = 3 := by
    unfold takeTo
    rw [hd]
    rfl
  rw [ht, p1]
  show curN1 t c.dg (numC t 20) = _
  rw [p2]
  show curN2 t c.dg c.ln (numC t _) = _
  rw [p3]
  show curE t c.dg c.ln c.by_ _ = _
  unfold curE
  rw [p4]
  rfl
theorem curP_ok {t : ByteArray} {c : CurB} (h : curP t = some c) : OkC c := by
  unfold curP at h
  split at h
  · cases h1 : hexC t (takeTo t 0 [headC]) with
    | none => rw [h1] at h; cases h
    | some x =>
      obtain ⟨d, k⟩ := x
      rw [h1] at h
      replace h : curN1 t d (numC t k) = some c := h
      cases h2 : numC t k with
      | none => rw [h2] at h; cases h
      | some y =>
        obtain ⟨n, k2⟩ := y
        rw [h2] at h
        replace h : curN2 t d n (numC t k2) = some c := h
        cases h3 : numC t k2 with
        | none => rw [h3] at h; cases h
        | some z =>
          obtain ⟨b, k3⟩ := z
          rw [h3] at h
          replace h : (entP (t.extract k3 t.size)).map (fun x => (⟨d, n, b, x.1⟩ : CurB)) = some c := h
          cases h4 : entP (t.extract k3 t.size) with
          | none => rw [h4] at h; cases h
          | some e =>
            rw [h4] at h
            injection h with h
            subst h
            exact ⟨hexC_lt h1, (numC_in h2).1, (numC_in h2).2, (numC_in h3).1, (numC_in h3).2, (entP_right h4).1, (entP_right h4).2.1, (entP_right h4).2.2⟩
  · cases h
theorem right_ent {c : CurB} (h : c.right = true) : 0 ≤ c.ln ∧ 0 ≤ c.by_ ∧ rightE c.e = true := by
  unfold CurB.right rightC at h
  simpa using h
theorem curP_put (c : CurB) (x : ByteArray) (hc : OkC c) : curP (c.put ++ x) = some c :=
  curP_text _ c (hx 16 (sumS c.body) ++ x.data.toList) hc (by rw [text_joined, put_list, List.append_assoc])
/-- a text is got as the cursor whose Put it is, and as no other one -/
theorem getC_iff (t : ByteArray) (c : CurB) : getC t = some c ↔ OkC c ∧ c.right = true ∧ c.put = t := by
  unfold getC
  constructor
  · intro h
    cases hp : curP t with
    | none => rw [hp] at h; cases h
    | some d =>
      rw [hp] at h
      replace h : (if d.right = true then (if d.put = t then some d else none) else none) = some c := h
      split at h
      · rename_i h1
        split at h
        · rename_i h2
          injection h with h
          subst h
          exact ⟨curP_ok hp, h1, h2⟩
        · cases h
      · cases h
  · rintro ⟨h1, h2, rfl⟩
    have hp := curP_put c .empty h1
    rw [ByteArray.append_empty] at hp
    rw [hp]
    show (if c.right = true then (if c.put = c.put then some c else none) else none) = some c
    rw [if_pos h2, if_pos rfl]
/-- with something behind, or cut, what was put is none -/
theorem getC_more (c : CurB) (x : ByteArray) (hc : OkC c) (hx : x.size ≠ 0) : getC (c.put ++ x) = none := by
  cases h : getC (c.put ++ x) with
  | none => rfl
  | some d =>
    obtain ⟨h1, h2, h3⟩ := (getC_iff _ _).1 h
    have h4 := curP_put c x hc
    have h5 := curP_put d .empty h1
    rw [ByteArray.append_empty, h3, h4] at h5
    obtain rfl : c = d := Option.some.inj h5
    have h6 := congrArg ByteArray.size h3
    rw [ByteArray.size_append] at h6
    omega
theorem getC_less (c : CurB) (k : Nat) (hc : OkC c) (hk : k < c.put.size) : getC (c.put.extract 0 k) = none := by
  cases h : getC (c.put.extract 0 k) with
  | none => rfl
  | some d =>
    obtain ⟨h1, h2, h3⟩ := (getC_iff _ _).1 h
    have h4 := curP_put c .empty hc
    rw [ByteArray.append_empty] at h4
    have h5 := curP_put d (c.put.extract k c.put.size) h1
    have e : c.put.extract 0 k ++ c.put.extract k c.put.size = c.put := by
      refine text_ext1 ?_
      rw [text_joined, mid_list, rest_list, List.drop_zero]
      unfold atL
      exact List.take_append_drop _ _
    rw [h3, e, h4] at h5
    obtain rfl : c = d := Option.some.inj h5
    have h6 := congrArg ByteArray.size h3
    rw [ByteArray.size_extract] at h6
    omega
/-- with one byte another one it is none -/
theorem getC_bent (c : CurB) (l r : List UInt8) (a b : UInt8) (hab : a ≠ b) (h : c.put.data.toList = l ++ a :: r) (t : ByteArray) (ht : t.data.toList = l ++ b :: r) : getC t = none := by
  cases hg : getC t with
  | none => rfl
  | some d =>
    exfalso
    obtain ⟨h1, h2, h3⟩ := (getC_iff _ _).1 hg
    have e1 : c.body.data.toList ++ hx 16 (sumS c.body) = l ++ a :: r := by rw [body_list, ← put_list, h]
    have e2 : d.body.data.toList ++ hx 16 (sumS d.body) = l ++ b :: r := by rw [body_list, ← put_list, h3, ht]
    have hl : c.body.data.toList.length = d.body.data.toList.length := by
      have g1 := congrArg List.length e1
      have g2 := congrArg List.length e2
      simp only [List.length_append, hx_len, List.length_cons] at g1 g2
      omega
    have inj : hx 16 (sumS c.body) = hx 16 (sumS d.body) → sumS c.body = sumS d.body := fun e =>
      hexS_inj (fnv_lt _ _ fnv0_lt) (fnv_lt _ _ fnv0_lt) (by unfold hexS; rw [e])
    rcases Nat.lt_or_ge l.length c.body.data.toList.length with hlt | hge
    · obtain ⟨u, hu⟩ : ∃ u, c.body.data.toList = l ++ a :: u := by
        have g := congrArg (List.take c.body.data.toList.length) e1
        rw [List.take_left, List.take_append, List.take_of_length_le (by omega)] at g
        obtain ⟨i, hi⟩ : ∃ i, c.body.data.toList.length - l.length = i + 1 := ⟨c.body.data.toList.length - l.length - 1, by omega⟩
        rw [hi, List.take_succ_cons] at g
        exact ⟨_, g⟩
      rw [hu, List.append_assoc, List.cons_append] at e1
      have e3 := List.append_cancel_left e1
      injection e3 with _ e3
      have hu2 : d.body.data.toList = l ++ b :: u := by
        rw [← e3, show l ++ b :: (u ++ hx 16 (sumS c.body)) = (l ++ b :: u) ++ hx 16 (sumS c.body) by simp] at e2
        exact (List.append_inj e2 (by rw [← hl, hu]; simp)).1
      have e4 : hx 16 (sumS d.body) = hx 16 (sumS c.body) := by
        rw [hu2, ← e3, show l ++ b :: (u ++ hx 16 (sumS c.body)) = (l ++ b :: u) ++ hx 16 (sumS c.body) by simp] at e2
        exact List.append_cancel_left e2
      have e5 := inj e4.symm
      unfold sumS at e5
      rw [hu, hu2] at e5
      exact hab (fnv_turn l u a b fnv0 fnv0_lt e5)
    · have g1 := congrArg (List.take c.body.data.toList.length) e1
      rw [List.take_left, List.take_append_of_le_length hge] at g1
      have g2 := congrArg (List.take c.body.data.toList.length) e2
      rw [List.take_append_of_le_length hge, hl, List.take_left, ← hl] at g2
      have hcd : c.body = d.body := text_ext1 (g1.trans g2.symm)
      rw [← hcd] at e2
      have e3 := e1.symm.trans e2
      have e4 := List.append_cancel_left e3
      injection e4 with e4 _
      exact hab e4
end Go.Proofs.YtfamcebgcpaolaaGreatDoor
