/- What is told of a number is read as that number. No program. -/
import Derived.Test.YtehhmejpfglimaaDoorUnitTell
namespace Go.Proofs.YtehhmejpfglimaaDoor
open Go.RowKit
set_option linter.unusedVariables false

theorem itoa_pos {q : Int} (h : 0 ≤ q) : Lib.itoa q = Lib.decDigits q.toNat := by unfold Lib.itoa; rw [if_neg (by omega)]
theorem itoa_dig {q : Int} (h : 0 ≤ q) : ∀ c ∈ Lib.itoa q, digC c = true := by
  intro c hc
  rw [itoa_pos h] at hc
  have := digits_all _ c hc
  unfold digC
  rw [decide_eq_true this.1, decide_eq_true this.2]
  rfl
theorem head_stop {p : UInt8 → Bool} {l : List UInt8} (h : ∀ c r, l = c :: r → p c = false) : l.takeWhile p = [] ∧ l.dropWhile p = l := by
  cases l with
  | nil => exact ⟨rfl, rfl⟩
  | cons c r =>
    have hc := h c r rfl
    exact ⟨by rw [List.takeWhile_cons_of_neg (by rw [hc]; decide)], by rw [List.dropWhile_cons_of_neg (by rw [hc]; decide)]⟩
theorem span_run {p : UInt8 → Bool} {a b : List UInt8} (ha : ∀ c ∈ a, p c = true) (hb : ∀ c r, b = c :: r → p c = false) : (a ++ b).takeWhile p = a ∧ (a ++ b).dropWhile p = b := by
  obtain ⟨h1, h2⟩ := head_stop hb
  constructor
  · rw [List.takeWhile_append_of_pos ha, h1, List.append_nil]
  · rw [List.dropWhile_append_of_pos ha, h2]
theorem parse_txt {q : Int} (h0 : -9223372036854775808 ≤ q) (h1 : q ≤ 9223372036854775807) : parseZ (txt (Lib.itoa q)) = some q := (parseZ_iff _ _).2 ⟨⟨h0, h1⟩, rfl⟩
/-- a number, a unit, and what begins with no letter -/
theorem partS_make (U : List (List UInt8 × Int)) {q : Int} (h0 : 0 ≤ q) (h1 : q ≤ 9223372036854775807) {nm rest : List UInt8} (hn : ∀ c ∈ nm, letC c = true) (hne : nm ≠ []) (hr : ∀ c r, rest = c :: r → digC c = true) :
    partS U (Lib.itoa q ++ (nm ++ rest)) = (placeU U nm).map fun i => (q, i, (Lib.itoa q).length + nm.length) := by
  have hb : ∀ c r, nm ++ rest = c :: r → digC c = false := by
    intro c r h
    cases nm with
    | nil => exact absurd rfl hne
    | cons a nm =>
      rw [List.cons_append] at h
      injection h with h _
      rw [← h]
      exact dig_not_let a (hn a (by simp))
  obtain ⟨e1, e2⟩ := span_run (itoa_dig h0) hb
  obtain ⟨e3, _⟩ := span_run hn (b := rest) (fun c r h => by
    have := hr c r h
    cases hl : letC c with
    | false => rfl
    | true => rw [dig_not_let c hl] at this; cases this)
  unfold partS
  rw [e1, e2, e3, parse_txt (by omega) h1]
  rfl
theorem durU_one : ∀ u ∈ durU, 1 ≤ u.2 := by decide
theorem durU_facts : ∀ j, j < 6 → (∀ c ∈ (durU.getD j ([], 0)).1, letC c = true) ∧ (durU.getD j ([], 0)).1 ≠ [] ∧ placeU durU (durU.getD j ([], 0)).1 = some j ∧ manyU durU j = (durU.getD j ([], 0)).2 := by
  intro j hj
  rcases (by omega : j = 0 ∨ j = 1 ∨ j = 2 ∨ j = 3 ∨ j = 4 ∨ j = 5) with rfl | rfl | rfl | rfl | rfl | rfl <;> decide
theorem spanL_head : ∀ (U : List (List UInt8 × Int)) (n : Int), 0 ≤ n → (∀ u ∈ U, 1 ≤ u.2) → ∀ c r, spanL U n = c :: r → digC c = true := by
  intro U
  induction U with
  | nil => intro n _ _ c r h; cases h
  | cons u U ih =>
    intro n h0 hU c r h
    have hu := hU u (by simp)
    have hm : 0 ≤ n.tmod u.2 := by rw [Int.tmod_eq_emod_of_nonneg h0]; exact Int.emod_nonneg _ (by omega)
    have hd : 0 ≤ n.tdiv u.2 := by rw [Int.tdiv_eq_ediv_of_nonneg h0]; exact Int.ediv_nonneg h0 (by omega)
    rw [spanL] at h
    by_cases hf : u.2 ≤ n
    · rw [if_pos hf] at h
      cases hi : Lib.itoa (n.tdiv u.2) with
      | nil => exact absurd hi (itoa_ne _)
      | cons a l =>
        rw [hi, List.cons_append, List.cons_append] at h
        injection h with h _
        rw [← h]
        exact itoa_dig hd a (by rw [hi]; simp)
    · rw [if_neg hf, List.nil_append] at h
      exact ih _ hm (fun v hv => hU v (by simp [hv])) c r h
theorem span_read : ∀ (k j : Nat), j + k = 6 → ∀ (n sum last : Int) (f : Nat), 0 ≤ n → (j = 6 → n = 0) → 0 ≤ sum → sum + n ≤ 9223372036854775807 → last < j → (spanL (durU.drop j) n).length < f → durS (partS durU) f (spanL (durU.drop j) n) sum last = some (sum + n) := by
  intro k
  induction k with
  | zero =>
    intro j hj n sum last f h0 h6 hs hb hl hf
    obtain rfl : j = 6 := by omega
    have hn := h6 rfl
    subst hn
    obtain ⟨f, rfl⟩ : ∃ f', f = f' + 1 := ⟨f - 1, by omega⟩
    have e : spanL (durU.drop 6) 0 = [] := rfl
    rw [e]
    unfold durS
    rw [if_pos rfl, Int.add_zero]
  | succ k ih =>
    intro j hj n sum last f h0 h6 hs hb hl hf
    have hj6 : j < 6 := by omega
    obtain ⟨u1, u2, u3⟩ := unit_ok j hj6
    obtain ⟨a1, a2, a3, a4⟩ := durU_facts j hj6
    have hdr : durU.drop j = durU.getD j ([], 0) :: durU.drop (j + 1) := by
      rw [List.drop_eq_getElem_cons (show j < durU.length from hj6), List.getD_eq_getElem?_getD, List.getElem?_eq_getElem (show j < durU.length from hj6)]
      rfl
    have hlast : j = 5 → (durU.getD j ([], 0)).2 = 1 := by rintro rfl; rfl
    obtain ⟨⟨nm, m⟩, hu⟩ : ∃ u, durU.getD j ([], 0) = u := ⟨_, rfl⟩
    rw [hu] at u1 u2 u3 a1 a2 a3 a4 hdr hlast
    dsimp only at u1 u2 u3 a1 a2 a3 a4 hlast
    obtain ⟨d0, d1, r0, r1⟩ := tdiv_ok n m h0 (by omega) u1
    have hsp : spanL (durU.drop j) n = (if m ≤ n then Lib.itoa (n.tdiv m) ++ nm else []) ++ spanL (durU.drop (j + 1)) (n.tmod m) := by rw [hdr, spanL]
    have hdm : n.tdiv m * m + n.tmod m = n := by
      have := Int.mul_tdiv_add_tmod n m
      rw [Int.mul_comm]
      exact this
    have hmz : j + 1 = 6 → n.tmod m = 0 := fun h => by rw [hlast (by omega)]; exact Int.tmod_one n
    by_cases hmn : m ≤ n
    · rw [if_pos hmn, List.append_assoc] at hsp
      rw [hsp] at hf ⊢
      obtain ⟨f, rfl⟩ : ∃ f', f = f' + 1 := ⟨f - 1, by omega⟩
      have hhead := spanL_head (durU.drop (j + 1)) (n.tmod m) r0 (fun u hu => durU_one u (List.mem_of_mem_drop hu))
      have hlp : 1 ≤ (Lib.itoa (n.tdiv m)).length := List.length_pos_iff.2 (itoa_ne _)
      have hp := partS_make durU d0 (by omega) a1 a2 hhead
      rw [a3, Option.map_some] at hp
      unfold durS
      have hne : Lib.itoa (n.tdiv m) ++ (nm ++ spanL (durU.drop (j + 1)) (n.tmod m)) ≠ [] := by
        intro h
        exact itoa_ne _ (List.append_eq_nil_iff.1 h).1
      have hprod : 0 ≤ n.tdiv m * m := Int.mul_nonneg d0 (by omega)
      have ht : timesO (n.tdiv m) m = some (n.tdiv m * m) := by rw [timesO_eq, if_pos ⟨by omega, by omega⟩]
      have ha : stepR (· + ·) (some sum) (n.tdiv m * m) = some (sum + n.tdiv m * m) := by
        simp only [stepR, Option.bind_some]
        rw [if_pos ⟨by omega, by omega⟩]
      have hdrop : (Lib.itoa (n.tdiv m) ++ (nm ++ spanL (durU.drop (j + 1)) (n.tmod m))).drop ((Lib.itoa (n.tdiv m)).length + nm.length) = spanL (durU.drop (j + 1)) (n.tmod m) := by
        rw [← List.append_assoc, ← List.length_append, List.drop_left' rfl]
      rw [if_neg hne, hp]
      simp only [Option.bind_some]
      rw [if_neg (by omega), a4, ht]
      simp only [Option.bind_some]
      rw [ha]
      simp only [Option.bind_some]
      rw [hdrop, ih (j + 1) (by omega) (n.tmod m) (sum + n.tdiv m * m) j f r0 hmz (by omega) (by omega) (by omega) (by
        rw [List.length_append, List.length_append] at hf
        omega)]
      congr 1
      omega
    · rw [if_neg hmn, List.nil_append] at hsp
      have hr : n.tmod m = n := by rw [Int.tmod_eq_emod_of_nonneg h0]; exact Int.emod_eq_of_lt h0 (by omega)
      rw [hr] at hsp hmz
      rw [hsp] at hf ⊢
      exact ih (j + 1) (by omega) n sum last f h0 hmz hs hb (by omega) hf
theorem dur_span (n : Int) (h0 : 0 ≤ n) (h1 : n ≤ 9223372036854775807) : durZ (spanB n) = some n := by
  unfold spanB
  by_cases hn : n = 0
  · rw [if_pos hn, hn]; decide +kernel
  · rw [if_neg hn]
    have h := span_read 6 0 rfl n 0 (-1) ((spanL durU n).length + 1) h0 (fun h => by cases h) (by decide) (by omega) (by decide) (Nat.lt_succ_self _)
    rw [List.drop_zero, Int.zero_add] at h
    unfold durZ
    rw [if_neg, h]
    intro e
    rw [e] at h
    unfold durS at h
    rw [if_pos rfl] at h
    injection h with h
    exact hn h.symm
/-- which unit a size is told in -/
theorem sizeL_is (n : Int) (h0 : 0 ≤ n) (h1 : n ≤ 9223372036854775807) : ∃ i, i < 4 ∧ sizeL sizU n = Lib.itoa (n.tdiv (sizU.getD i ([], 0)).2) ++ (sizU.getD i ([], 0)).1 ∧ n.tdiv (sizU.getD i ([], 0)).2 * (sizU.getD i ([], 0)).2 = n := by
  have hdm : ∀ m : Int, n.tmod m = 0 → n.tdiv m * m = n := fun m h => by
    have := Int.mul_tdiv_add_tmod n m
    rw [h, Int.add_zero, Int.mul_comm] at this
    exact this
  by_cases a0 : n.tmod 1073741824 = 0
  · exact ⟨0, by decide, by show sizeL ((_, _) :: _) n = _; rw [sizeL, if_pos a0]; rfl, hdm _ a0⟩
  · by_cases a1 : n.tmod 1048576 = 0
    · exact ⟨1, by decide, by show sizeL ((_, _) :: (_, _) :: _) n = _; rw [sizeL, if_neg a0, sizeL, if_pos a1]; rfl, hdm _ a1⟩
    · by_cases a2 : n.tmod 1024 = 0
      · exact ⟨2, by decide, by show sizeL ((_, _) :: (_, _) :: (_, _) :: _) n = _; rw [sizeL, if_neg a0, sizeL, if_neg a1, sizeL, if_pos a2]; rfl, hdm _ a2⟩
      · have a3 : n.tmod 1 = 0 := Int.tmod_one n
        exact ⟨3, by decide, by show sizeL ((_, _) :: (_, _) :: (_, _) :: (_, _) :: _) n = _; rw [sizeL, if_neg a0, sizeL, if_neg a1, sizeL, if_neg a2, sizeL, if_pos a3]; rfl, hdm _ a3⟩
theorem sizU_facts : ∀ j, j < 4 → (∀ c ∈ (sizU.getD j ([], 0)).1, letC c = true) ∧ (sizU.getD j ([], 0)).1 ≠ [] ∧ placeU sizU (sizU.getD j ([], 0)).1 = some j ∧ manyU sizU j = (sizU.getD j ([], 0)).2 ∧ placeU durU (sizU.getD j ([], 0)).1 = none := by
  intro j hj
  rcases (by omega : j = 0 ∨ j = 1 ∨ j = 2 ∨ j = 3) with rfl | rfl | rfl | rfl <;> decide
theorem siz_size (n : Int) (h0 : 0 ≤ n) (h1 : n ≤ 9223372036854775807) : sizZ (sizeB n) = some n ∧ durZ (sizeB n) = none := by
  unfold sizeB
  by_cases hn : n = 0
  · rw [if_pos hn, hn]; exact ⟨by decide +kernel, by decide +kernel⟩
  · rw [if_neg hn]
    obtain ⟨i, hi, e, hm⟩ := sizeL_is n h0 h1
    obtain ⟨u1, u2, u3⟩ := unit_ok2 i hi
    obtain ⟨a1, a2, a3, a4, a5⟩ := sizU_facts i hi
    obtain ⟨⟨nm, m⟩, hu⟩ : ∃ u, sizU.getD i ([], 0) = u := ⟨_, rfl⟩
    rw [hu] at u1 u2 u3 a1 a2 a3 a4 a5 e hm
    dsimp only at u1 u2 u3 a1 a2 a3 a4 a5 e hm
    obtain ⟨d0, d1, r0, r1⟩ := tdiv_ok n m h0 (by omega) u1
    have hp := partS_make sizU d0 (by omega) a1 a2 (rest := []) (fun c r h => by cases h)
    have hp2 := partS_make durU d0 (by omega) a1 a2 (rest := []) (fun c r h => by cases h)
    rw [List.append_nil, ← e] at hp hp2
    rw [a3, Option.map_some] at hp
    rw [a5, Option.map_none] at hp2
    have hlen : (sizeL sizU n).length = (Lib.itoa (n.tdiv m)).length + nm.length := by rw [e, List.length_append]
    have hne : sizeL sizU n ≠ [] := by rw [e]; intro h; exact itoa_ne _ (List.append_eq_nil_iff.1 h).1
    constructor
    · unfold sizZ
      rw [hp]
      simp only [Option.bind_some]
      rw [if_pos hlen.symm, a4, timesO_eq, hm, if_pos ⟨by omega, h1⟩]
    · unfold durZ
      rw [if_neg hne]
      exact durS_next hne hp2
end Go.Proofs.YtehhmejpfglimaaDoor
