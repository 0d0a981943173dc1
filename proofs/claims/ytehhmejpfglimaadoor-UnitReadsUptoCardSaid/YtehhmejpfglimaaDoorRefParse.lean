/- The document's own number of a text. -/
import Derived.Test.YtehhmejpfglimaaDoorRefText
import Derived.Test.YtehhmejpfglimaaDoorNumMath
namespace Go.Proofs.YtehhmejpfglimaaDoor
open Go.RowKit
set_option linter.unusedVariables false

def accU (l : List UInt8) : Nat := l.foldl (fun a c => (a * 10 + (c.toNat - 48)) % 18446744073709551616) 0
theorem accU_lt (l : List UInt8) : accU l < 18446744073709551616 := by
  unfold accU
  rcases List.eq_nil_or_concat l with rfl | ⟨l', c, rfl⟩
  · decide
  · rw [List.concat_eq_append, List.foldl_append]
    exact Nat.mod_lt _ (by decide)
theorem accU_snoc (l : List UInt8) (c : UInt8) : accU (l ++ [c]) = (accU l * 10 + (c.toNat - 48)) % 18446744073709551616 := by
  unfold accU
  rw [List.foldl_append]
  rfl
theorem accU_digits (u : Nat) : accU (Lib.decDigits u) = u % 18446744073709551616 := by
  induction u using Nat.strongRecOn with
  | _ u ih =>
    by_cases h : u < 10
    · rw [Lib.decDigits, dif_pos h]
      show (0 * 10 + ((UInt8.ofNat (48 + u)).toNat - 48)) % _ = _
      rw [digit_byte u h]
      omega
    · rw [Lib.decDigits, dif_neg h, accU_snoc, ih _ (by omega), digit_byte _ (by omega)]
      omega
/-- what is read of the digits, by the sign -/
def readU (neg : Bool) (u : Nat) : Int := if neg then wrap64 (-(wrap64 (u : Int))) else wrap64 (u : Int)
theorem readU_true (u : Nat) : readU true u = wrap64 (-(wrap64 (u : Int))) := by unfold readU; rw [if_pos rfl]
theorem readU_false (u : Nat) : readU false u = wrap64 (u : Int) := by unfold readU; rw [if_neg (by decide)]
theorem readU_range (neg : Bool) (u : Nat) : -9223372036854775808 ≤ readU neg u ∧ readU neg u ≤ 9223372036854775807 := by
  unfold readU
  split <;> exact wrap_range _
def skip (neg : Bool) (l : List UInt8) : List UInt8 := if neg then l.drop 1 else l
def isNeg (l : List UInt8) : Bool := decide (l.head? = some 45)
theorem read_itoa (v : Int) (h0 : -9223372036854775808 ≤ v) (h1 : v ≤ 9223372036854775807) :
    readU (isNeg (Lib.itoa v)) (accU (skip (isNeg (Lib.itoa v)) (Lib.itoa v))) = v ∧ ∀ c ∈ skip (isNeg (Lib.itoa v)) (Lib.itoa v), 48 ≤ c.toNat ∧ c.toNat ≤ 57 := by
  by_cases h : v < 0
  · have e : Lib.itoa v = 45 :: Lib.decDigits v.natAbs := by unfold Lib.itoa; rw [if_pos h]
    have e1 : isNeg (Lib.itoa v) = true := by rw [e]; rfl
    have e2 : skip true (Lib.itoa v) = Lib.decDigits v.natAbs := by rw [e]; rfl
    rw [e1, e2, accU_digits]
    refine ⟨?_, digits_all _⟩
    unfold readU wrap64
    simp only [if_true]
    omega
  · have e : Lib.itoa v = Lib.decDigits v.toNat := by unfold Lib.itoa; rw [if_neg h]
    have e1 : isNeg (Lib.itoa v) = false := by
      rw [e]
      cases hd : Lib.decDigits v.toNat with
      | nil => exact absurd hd (digits_ne _)
      | cons c r =>
        have hc := digits_all v.toNat c (by rw [hd]; simp)
        unfold isNeg
        simp only [List.head?_cons, Option.some.injEq, decide_eq_false_iff_not]
        rintro rfl
        revert hc; decide
    have e2 : skip false (Lib.itoa v) = Lib.decDigits v.toNat := by rw [e]; rfl
    rw [e1, e2, accU_digits]
    refine ⟨?_, digits_all _⟩
    unfold readU wrap64
    simp only [Bool.false_eq_true, if_false]
    omega
/-- what the document's own Parse comes to: none, or the number whose text it is -/
theorem parse_end (s : ByteArray) (m : Int) (hm : m = readU (isNeg s.data.toList) (accU (skip (isNeg s.data.toList) s.data.toList))) : parseZ s = if itoaS m = s then some m else none := by
  have hr := readU_range (isNeg s.data.toList) (accU (skip (isNeg s.data.toList) s.data.toList))
  rw [← hm] at hr
  split
  · rename_i h
    exact (parseZ_iff s m).2 ⟨hr, h.symm⟩
  · rename_i h
    refine parseZ_none fun v v0 v1 e => h ?_
    have h2 := (read_itoa v v0 v1).1
    have e2 : s.data.toList = Lib.itoa v := by rw [e, itoaS_list]
    rw [e2] at hm
    rw [hm, h2, e]
theorem parse_bad (s : ByteArray) (c : UInt8) (hc : c ∈ skip (isNeg s.data.toList) s.data.toList) (h : ¬ (48 ≤ c.toNat ∧ c.toNat ≤ 57)) : parseZ s = none := by
  refine parseZ_none fun v v0 v1 e => h ?_
  have e2 : s.data.toList = Lib.itoa v := by rw [e, itoaS_list]
  rw [e2] at hc
  exact (read_itoa v v0 v1).2 c hc
theorem digits_len19 : ∀ (k u : Nat), u < 10 ^ (k + 1) → (Lib.decDigits u).length ≤ k + 1
  | 0, u, h => by
    rw [Lib.decDigits, dif_pos (by simpa using h)]
    simp
  | k + 1, u, h => by
    by_cases h1 : u < 10
    · rw [Lib.decDigits, dif_pos h1]; simp
    · rw [Lib.decDigits, dif_neg h1, List.length_append]
      have := digits_len19 k (u / 10) (by rw [Nat.pow_succ] at h; omega)
      simp
      omega
theorem itoa_len20 (v : Int) (h0 : -9223372036854775808 ≤ v) (h1 : v ≤ 9223372036854775807) : (itoaS v).size ≤ 20 := by
  have e : (itoaS v).size = (Lib.itoa v).length := by rw [← itoaS_list, size_toList]
  rw [e]
  unfold Lib.itoa
  split
  · have := digits_len19 18 v.natAbs (by omega)
    simp
    omega
  · have := digits_len19 18 v.toNat (by omega)
    omega
theorem parse_long (s : ByteArray) (h : 20 < s.size) : parseZ s = none := by
  refine parseZ_none fun v v0 v1 e => ?_
  have := itoa_len20 v v0 v1
  rw [← e] at this
  omega
theorem parse_empty (s : ByteArray) (h : s.size = 0) : parseZ s = none := by
  refine parseZ_none fun v v0 v1 e => ?_
  have e2 : s.data.toList = Lib.itoa v := by rw [e, itoaS_list]
  have e3 := congrArg List.length e2
  rw [size_toList, h] at e3
  exact itoa_ne v (List.eq_nil_of_length_eq_zero e3.symm)

theorem u64_mul (a : Nat) : IntKind.u64.wrap ((a : Int) * 10) = ((a * 10 % 18446744073709551616 : Nat) : Int) := by rw [wrap_u64]; omega
theorem bytes_cons1 (s : ByteArray) (h : 0 < s.size) : ∃ r, s.data.toList = s[0] :: r := by
  cases hs : s.data.toList with
  | nil =>
    have := size_toList s
    rw [hs] at this
    simp at this
    omega
  | cons c r =>
    refine ⟨r, ?_⟩
    have e : s.data.toList[0]? = some s[0] := by
      rw [Array.getElem?_toList]
      exact Array.getElem?_eq_getElem (show 0 < s.data.size from h)
    rw [hs] at e
    simp at e
    rw [← e]
theorem byte_at (s : ByteArray) (k : Nat) (h : k < s.size) : s.data.toList[k]? = some s[k] := by
  rw [Array.getElem?_toList]
  exact Array.getElem?_eq_getElem (show k < s.data.size from h)
/-- the digits up to k -/
theorem skip_snoc (s : ByteArray) (neg : Bool) (k : Nat) (c : UInt8) (hk : k < s.size) (hc : s[k] = c) (h1 : neg = true → 1 ≤ k) : skip neg (s.data.toList.take (k + 1)) = skip neg (s.data.toList.take k) ++ [c] := by
  have hl : k < s.data.toList.length := by rw [size_toList]; exact hk
  have e : s.data.toList.take (k + 1) = s.data.toList.take k ++ [c] := by
    rw [List.take_succ_eq_append_getElem hl]
    have := byte_at s k hk
    rw [List.getElem?_eq_getElem hl] at this
    injection this with this
    rw [this, hc]
  rw [e]
  unfold skip
  cases neg with
  | false => rfl
  | true =>
    have := h1 rfl
    simp only [if_true]
    rw [List.drop_append_of_le_length (by rw [List.length_take]; omega)]
theorem skip_mem (s : ByteArray) (neg : Bool) (k : Nat) (hk : k < s.size) (h1 : neg = true → 1 ≤ k) : s[k] ∈ skip neg s.data.toList := by
  have hl : k < s.data.toList.length := by rw [size_toList]; exact hk
  have e : s.data.toList[k] = s[k] := by
    have := byte_at s k hk
    rw [List.getElem?_eq_getElem hl] at this
    injection this
  unfold skip
  cases neg with
  | false => simp only [Bool.false_eq_true, if_false]; rw [← e]; exact List.getElem_mem hl
  | true =>
    have := h1 rfl
    simp only [if_true]
    rw [← e, List.mem_iff_getElem?]
    exact ⟨k - 1, by rw [List.getElem?_drop, show 1 + (k - 1) = k by omega, List.getElem?_eq_getElem hl]⟩

set_option maxHeartbeats 1600000 in
theorem refParse_any (s : ByteArray) (hs : s.size ≤ 281474976710656) (W : World) :
    Calls Tryd.prog 40 #[.string s] W fun e w' => e = .returned (.tuple #[.int .i64 ((parseZ s).getD 0), .bool (parseZ s).isSome]) ∧ Below W.heap.size W w' := by
  by_cases h0 : s.size = 0
  · have E := Lib.hid (parse_empty s h0)
    have hem : s.toList = [] := by rw [Lib.toList_data]; exact List.eq_nil_of_length_eq_zero (by rw [size_toList]; exact h0)
    have hem2 : s.toList.isEmpty = true := by rw [hem]; rfl
    clear h0
    go_enter Tryd.func40, Tryd.ntmps40
    go_wp2
    go_ret2
    exact ⟨ret_num (by rw [E.out]; rfl) (by rw [E.out]; rfl), Below.refl _ _⟩
  · obtain ⟨r, hr⟩ := bytes_cons1 s (by omega)
    have hne : s.toList.isEmpty = false := by rw [Lib.toList_data, hr]; rfl
    have hne2 : ¬ s.toList = [] := by rw [Lib.toList_data, hr]; simp
    by_cases h20 : 20 < s.size
    · have E := Lib.hid (parse_long s h20)
      have h20' : (20 : Int) < (s.size : Int) := by omega
      clear h0 hr
      go_enter Tryd.func40, Tryd.ntmps40
      go_wp2
      go_ret2
      exact ⟨ret_num (by rw [E.out]; rfl) (by rw [E.out]; rfl), Below.refl _ _⟩
    · obtain ⟨c0, hc0⟩ : ∃ c, s[0] = c := ⟨_, rfl⟩
      rw [hc0] at hr
      have h20' : ¬ (20 : Int) < (s.size : Int) := by omega
      have hp : 0 < s.size := by omega
      have hp' : (0 : Int) < (s.size : Int) := by omega
      have hneg : ((c0.toNat : Int) == 45) = isNeg s.data.toList := by
        rw [hr]
        unfold isNeg
        simp only [List.head?_cons, Option.some.injEq]
        by_cases h : c0 = 45
        · subst h; rfl
        · rw [decide_eq_false h, beq_eq_false_iff_ne]
          intro h2
          exact h (UInt8.toNat_inj.1 (by show c0.toNat = 45; omega))
      have PE := Lib.hid (parse_end s)
      have PB := Lib.hid (fun c => parse_bad s c)
      obtain ⟨neg, hng⟩ : ∃ b, isNeg s.data.toList = b := ⟨_, rfl⟩
      rw [hng] at hneg
      replace PE := PE.out
      replace PB := PB.out
      rw [hng] at PE PB
      replace PE := Lib.hid PE
      replace PB := Lib.hid PB
      obtain ⟨at0, hat⟩ : ∃ a : Nat, a = (if neg = true then 1 else 0) := ⟨_, rfl⟩
      have HS0 : Hid (skip neg (s.data.toList.take at0) = []) := Lib.hid (by
        subst hat
        cases neg with
        | false => rfl
        | true => show (s.data.toList.take 1).drop 1 = []; rw [hr]; rfl)
      have HAT : Hid (neg = true → 1 ≤ at0) := Lib.hid (fun h => by rw [hat, h]; exact Nat.le_refl _)
      have hfull : skip neg (s.data.toList.take s.size) = skip neg s.data.toList := by rw [List.take_of_length_le (by rw [size_toList]; exact Nat.le_refl _)]
      have HF := Lib.hid hfull
      have ha1 : at0 ≤ 1 := by rw [hat]; split <;> omega
      have hneg2 : (neg = true ∧ at0 = 1) ∨ (neg = false ∧ at0 = 0) := by cases neg <;> simp [hat]
      clear hr hng hfull hat
      rcases hneg2 with ⟨hn, rfl⟩ | ⟨hn, rfl⟩
      all_goals
        rw [hn] at hneg
        have HN := Lib.hid hn
        clear hn
        go_enter Tryd.func40, Tryd.ntmps40
        go_wp2
        go_loop [4, 6] (fun nv iv => ∃ (k a : Nat), 0 ≤ k ∧ k ≤ s.size ∧ iv = .int .i64 k ∧ nv = .int .u64 (a : Int) ∧ Hid (a = accU (skip neg (s.data.toList.take k))) ∧ Hid (neg = true → 1 ≤ k)) (fun _ iv => s.size - (intOf iv).toNat)
        case atStart => first | exact ⟨1, 0, Nat.zero_le _, by omega, rfl, rfl, Lib.hid (by rw [HS0.out]; rfl), HAT⟩ | exact ⟨0, 0, Nat.zero_le _, by omega, rfl, rfl, Lib.hid (by rw [HS0.out]; rfl), HAT⟩
        case round =>
          obtain ⟨k, a, _, hk, rfl, rfl, HA, H1⟩ := hrel
          have hab : a < 18446744073709551616 := by rw [HA.out]; exact accU_lt _
          by_cases hkn : k < s.size
          · have hsn := skip_snoc s neg k s[k] hkn rfl H1.out
            have hmem := skip_mem s neg k hkn H1.out
            obtain ⟨c, hcc⟩ : ∃ c, s[k] = c := ⟨_, rfl⟩
            rw [hcc] at hsn hmem
            have hkn' : (k : Int) < (s.size : Int) := by omega
            have hcl := c.toNat_lt
            by_cases hd : 48 ≤ c.toNat ∧ c.toNat ≤ 57
            · have hnx := accU_snoc (skip neg (s.data.toList.take k)) c
              rw [← hsn, ← HA.out] at hnx
              have HNX := Lib.hid hnx
              obtain ⟨d, hdd⟩ : ∃ d, c.toNat - 48 = d := ⟨_, rfl⟩
              have w1 : IntKind.u8.wrap ((c.toNat : Int) - 48) = (d : Int) := by rw [IntKind.wrap_u8]; omega
              have q1 : ¬ (c.toNat : Int) < 48 := by omega
              have q2 : ¬ (57 : Int) < (c.toNat : Int) := by omega
              have hv : IntKind.u64.wrap (IntKind.u64.wrap ((a : Int) * 10) + (d : Int)) = (((a * 10 + (c.toNat - 48)) % 18446744073709551616 : Nat) : Int) := by rw [u64_mul, wrap_u64, ← hdd]; omega
              have HV := Lib.hid hv
              clear hnx hsn hmem hv
              go_wp2
              go_round
              case rel => exact ⟨k + 1, _, Nat.zero_le _, by omega, by go_num, by rw [HV.out], Lib.hid HNX.out.symm, Lib.hid fun _ => by omega⟩
              case measure => simp [intOf]; omega
            · have E := Lib.hid (PB.out c hmem hd)
              have q : ((c.toNat : Int) < 48) ∨ (¬ (c.toNat : Int) < 48 ∧ (57 : Int) < (c.toNat : Int)) := by omega
              clear hsn hmem hd
              rcases q with q1 | ⟨q1, q2⟩
              all_goals
                go_wp2
                go_ret2
                exact ⟨ret_num (by rw [E.out]; rfl) (by rw [E.out]; rfl), Below.refl _ _⟩
          · obtain rfl : k = s.size := by omega
            have hac := HA.out
            rw [HF.out] at hac
            have hpe := fun m (h : m = readU neg a) => PE.out m (by rw [← hac]; exact h)
            rw [HN.out] at hpe
            obtain ⟨m1, hm1⟩ : ∃ m, wrap64 (a : Int) = m := ⟨_, rfl⟩
            obtain ⟨m2, hm2⟩ : ∃ m, wrap64 (-m1) = m := ⟨_, rfl⟩
            have r1 : InR m1 := by rw [← hm1]; exact wrap_range _
            have r2 : InR m2 := by rw [← hm2]; exact wrap_range _
            obtain ⟨m, hm, hp2, rm⟩ : ∃ m, Hid ((neg = true ∧ m = m2) ∨ (neg = false ∧ m = m1)) ∧ (parseZ s = if itoaS m = s then some m else none) ∧ InR m := by
              first
              | exact ⟨m2, Lib.hid (.inl ⟨HN.out, rfl⟩), hpe m2 (by rw [readU_true, hm1, hm2]), r2⟩
              | exact ⟨m1, Lib.hid (.inr ⟨HN.out, rfl⟩), hpe m1 (by rw [readU_false, hm1]), r1⟩
            have hme : (neg = true ∧ m = m2) ∨ (neg = false ∧ m = m1) := hm.out
            rw [HN.out] at hme
            simp only [Bool.true_eq_false, Bool.false_eq_true, false_and, or_false, false_or, true_and] at hme
            first | (rw [← hme] at hm1 hm2) | (rw [← hme] at hm2)
            have HT := Lib.hid (fun w => refText_any m rm.1 rm.2 w)
            obtain ⟨t, ht⟩ : ∃ t, itoaS m = t := ⟨_, rfl⟩
            simp only [ht] at HT hp2
            clear hpe hac ht r1 r2 rm hm hme
            go_wp2_with fail
            refine (HT.out _).mono ?_
            rintro e w ⟨rfl, hb⟩
            split at hp2
            · rename_i he
              have g := text_same he
              have E := Lib.hid hp2
              clear he hp2
              go_wp2
              go_ret2
              exact ⟨ret_num (by rw [E.out]; rfl) (by rw [E.out]; rfl), hb⟩
            · rename_i he
              have g := text_other he
              have E := Lib.hid hp2
              clear he hp2
              go_wp2
              go_ret2
              exact ⟨ret_num (by rw [E.out]; rfl) (by rw [E.out]; rfl), hb⟩
end Go.Proofs.YtehhmejpfglimaaDoor
