-- shaken
import Derived.Test.YtepokdmkdnlbfaaGreatDoorBase
import Derived.Test.YtepokdmkdnlbfaaGreatDoorUnitTell
import Derived.Test.YtepokdmkdnlbfaaGreatDoorAstRight
import Derived.Test.YtepokdmkdnlbfaaGreatDoorGet
namespace Go.Proofs.YtepokdmkdnlbfaaGreatDoor
open Go.RowKit
set_option linter.unusedVariables false
set_option linter.unusedSimpArgs false
theorem itoa_pos {q : Int} (h : 0 ≤ q) : Lib.itoa q = Lib.decDigits q.toNat := by unfold Lib.itoa; rw [if_neg (by omega)]
theorem uItoa_dig {q : Int} (h : 0 ≤ q) : ∀ c ∈ Lib.itoa q, digC c = true := by
  intro c hc
  rw [itoa_pos h] at hc
  have := digits_all _ c hc
  unfold digC
  rw [decide_eq_true this.1, decide_eq_true this.2]
  rfl
theorem head_stop {p : UInt8 → Bool} {l : List UInt8} (h : ∀ c r, l = c :: r → p c = false) : l.takeWhile p = [] ∧ l.dropWhile p = l := by
  cases l with
  | nil => exact ⟨rfl, rfl⟩
  | cons c r =>
    have hc := h c r rfl
    exact ⟨by rw [List.takeWhile_cons_of_neg (by rw [hc]; decide)], by rw [List.dropWhile_cons_of_neg (by rw [hc]; decide)]⟩
theorem span_run {p : UInt8 → Bool} {a b : List UInt8} (ha : ∀ c ∈ a, p c = true) (hb : ∀ c r, b = c :: r → p c = false) : (a ++ b).takeWhile p = a ∧ (a ++ b).dropWhile p = b := by
  obtain ⟨h1, h2⟩ := head_stop hb
  constructor
  · rw [List.takeWhile_append_of_pos ha, h1, List.append_nil]
  · rw [List.dropWhile_append_of_pos ha, h2]
theorem parse_txt {q : Int} (h0 : -9223372036854775808 ≤ q) (h1 : q ≤ 9223372036854775807) : parseZ (txt (Lib.itoa q)) = some q := (parseZ_iff _ _).2 ⟨⟨h0, h1⟩, rfl⟩
theorem partS_make (U : List (List UInt8 × Int)) {q : Int} (h0 : 0 ≤ q) (h1 : q ≤ 9223372036854775807) {nm rest : List UInt8} (hn : ∀ c ∈ nm, letC c = true) (hne : nm ≠ []) (hr : ∀ c r, rest = c :: r → digC c = true) :
    partS U (Lib.itoa q ++ (nm ++ rest)) = (placeU U nm).map fun i => (q, i, (Lib.itoa q).length + nm.length) := by
  have hb : ∀ c r, nm ++ rest = c :: r → digC c = false := by
    intro c r h
    cases nm with
    | nil => exact absurd rfl hne
    | cons a nm =>
      rw [List.cons_append] at h
      injection h with h _
      rw [← h]
      exact dig_not_let a (hn a (by simp))
  obtain ⟨e1, e2⟩ := span_run (uItoa_dig h0) hb
  obtain ⟨e3, _⟩ := span_run hn (b := rest) (fun c r h => by
    have := hr c r h
    cases hl : letC c with
    | false => rfl
    | true => rw [dig_not_let c hl] at this; cases this)
  unfold partS
  rw [e1, e2, e3, parse_txt (by omega) h1]
  rfl
theorem durU_one : ∀ u ∈ durU, 1 ≤ u.2 := by decide
theorem durU_facts : ∀ j, j < 6 → (∀ c ∈ (durU.getD j ([], 0)).1, letC c = true) ∧ (durU.getD j ([], 0)).1 ≠ [] ∧ placeU durU (durU.getD j ([], 0)).1 = some j ∧ manyU durU j = (durU.getD j ([], 0)).2 := by
  intro j hj
  rcases (by omega : j = 0 ∨ j = 1 ∨ j = 2 ∨ j = 3 ∨ j = 4 ∨ j = 5) with rfl | rfl | rfl | rfl | rfl | rfl <;> decide
theorem spanL_head : ∀ (U : List (List UInt8 × Int)) (n : Int), 0 ≤ n → (∀ u ∈ U, 1 ≤ u.2) → ∀ c r, spanL U n = c :: r → digC c = true := by
  intro U
  induction U with
  | nil => intro n _ _ c r h; cases h
  | cons u U ih =>
    intro n h0 hU c r h
    have hu := hU u (by simp)
    have hm : 0 ≤ n.tmod u.2 := by rw [Int.tmod_eq_emod_of_nonneg h0]; exact Int.emod_nonneg _ (by omega)
    have hd : 0 ≤ n.tdiv u.2 := by rw [Int.tdiv_eq_ediv_of_nonneg h0]; exact Int.ediv_nonneg h0 (by omega)
    rw [spanL] at h
    by_cases hf : u.2 ≤ n
    · rw [if_pos hf] at h
      cases hi : Lib.itoa (n.tdiv u.2) with
      | nil => exact absurd hi (itoa_ne _)
      | cons a l =>
        rw [hi, List.cons_append, List.cons_append] at h
        injection h with h _
        rw [← h]
        exact uItoa_dig hd a (by rw [hi]; simp)
    · rw [if_neg hf, List.nil_append] at h
      exact ih _ hm (fun v hv => hU v (by simp [hv])) c r h
theorem span_read : ∀ (k j : Nat), j + k = 6 → ∀ (n sum last : Int) (f : Nat), 0 ≤ n → (j = 6 → n = 0) → 0 ≤ sum → sum + n ≤ 9223372036854775807 → last < j → (spanL (durU.drop j) n).length < f → durS (partS durU) f (spanL (durU.drop j) n) sum last = some (sum + n) := by
  intro k
  induction k with
  | zero =>
    intro j hj n sum last f h0 h6 hs hb hl hf
    obtain rfl : j = 6 := by omega
    have hn := h6 rfl
    subst hn
    obtain ⟨f, rfl⟩ : ∃ f', f = f' + 1 := ⟨f - 1, by omega⟩
    have e : spanL (durU.drop 6) 0 = [] := rfl
    rw [e]
    unfold durS
    rw [if_pos rfl, Int.add_zero]
  | succ k ih =>
    intro j hj n sum last f h0 h6 hs hb hl hf
    have hj6 : j < 6 := by omega
    obtain ⟨u1, u2, u3⟩ := unit_ok j hj6
    obtain ⟨a1, a2, a3, a4⟩ := durU_facts j hj6
    have hdr : durU.drop j = durU.getD j ([], 0) :: durU.drop (j + 1) := by
      rw [List.drop_eq_getElem_cons (show j < durU.length from hj6), List.getD_eq_getElem?_getD, List.getElem?_eq_getElem (show j < durU.length from hj6)]
      rfl
    have hlast : j = 5 → (durU.getD j ([], 0)).2 = 1 := by rintro rfl; rfl
    obtain ⟨⟨nm, m⟩, hu⟩ : ∃ u, durU.getD j ([], 0) = u := ⟨_, rfl⟩
    rw [hu] at u1 u2 u3 a1 a2 a3 a4 hdr hlast
    dsimp only at u1 u2 u3 a1 a2 a3 a4 hlast
    obtain ⟨d0, d1, r0, r1⟩ := tdiv_ok n m h0 (by omega) u1
    have hsp : spanL (durU.drop j) n = (if m ≤ n then Lib.itoa (n.tdiv m) ++ nm else []) ++ spanL (durU.drop (j + 1)) (n.tmod m) := by rw [hdr, spanL]
    have hdm : n.tdiv m * m + n.tmod m = n := by
      have := Int.mul_tdiv_add_tmod n m
      rw [Int.mul_comm]
      exact this
    have hmz : j + 1 = 6 → n.tmod m = 0 := fun h => by rw [hlast (by omega)]; exact Int.tmod_one n
    by_cases hmn : m ≤ n
    · rw [if_pos hmn, List.append_assoc] at hsp
      rw [hsp] at hf ⊢
      obtain ⟨f, rfl⟩ : ∃ f', f = f' + 1 := ⟨f - 1, by omega⟩
      have hhead := spanL_head (durU.drop (j + 1)) (n.tmod m) r0 (fun u hu => durU_one u (List.mem_of_mem_drop hu))
      have hlp : 1 ≤ (Lib.itoa (n.tdiv m)).length := List.length_pos_iff.2 (itoa_ne _)
      have hp := partS_make durU d0 (by omega) a1 a2 hhead
      rw [a3, Option.map_some] at hp
      unfold durS
      have hne : Lib.itoa (n.tdiv m) ++ (nm ++ spanL (durU.drop (j + 1)) (n.tmod m)) ≠ [] := by
        intro h
        exact itoa_ne _ (List.append_eq_nil_iff.1 h).1
      have hprod : 0 ≤ n.tdiv m * m := Int.mul_nonneg d0 (by omega)
      have ht : timesO (n.tdiv m) m = some (n.tdiv m * m) := by rw [timesO_eq, if_pos ⟨by omega, by omega⟩]
      have ha : stepR (· + ·) (some sum) (n.tdiv m * m) = some (sum + n.tdiv m * m) := by
        simp only [stepR, Option.bind_some]
        rw [if_pos ⟨by omega, by omega⟩]
      have hdrop : (Lib.itoa (n.tdiv m) ++ (nm ++ spanL (durU.drop (j + 1)) (n.tmod m))).drop ((Lib.itoa (n.tdiv m)).length + nm.length) = spanL (durU.drop (j + 1)) (n.tmod m) := by
        rw [← List.append_assoc, ← List.length_append, List.drop_left' rfl]
      rw [if_neg hne, hp]
      simp only [Option.bind_some]
      rw [if_neg (by omega), a4, ht]
      simp only [Option.bind_some]
      rw [ha]
      simp only [Option.bind_some]
      rw [hdrop, ih (j + 1) (by omega) (n.tmod m) (sum + n.tdiv m * m) j f r0 hmz (by omega) (by omega) (by omega) (by
        rw [List.length_append, List.length_append] at hf
        omega)]
      congr 1
      omega
    · rw [if_neg hmn, List.nil_append] at hsp
      have hr : n.tmod m = n := by rw [Int.tmod_eq_emod_of_nonneg h0]; exact Int.emod_eq_of_lt h0 (by omega)
      rw [hr] at hsp hmz
      rw [hsp] at hf ⊢
      exact ih (j + 1) (by omega) n sum last f h0 hmz hs hb (by omega) hf
theorem dur_span (n : Int) (h0 : 0 ≤ n) (h1 : n ≤ 9223372036854775807) : durZ (spanB n) = some n := by
  unfold spanB
  by_cases hn : n = 0
  · rw [if_pos hn, hn]; decide +kernel
  · rw [if_neg hn]
    have h := span_read 6 0 rfl n 0 (-1) ((spanL durU n).length + 1) h0 (fun h => by cases h) (by decide) (by omega) (by decide) (Nat.lt_succ_self _)
    rw [List.drop_zero, Int.zero_add] at h
    unfold durZ
    rw [if_neg, h]
    intro e
    rw [e] at h
    unfold durS at h
    rw [if_pos rfl] at h
    injection h with h
    exact hn h.symm
theorem sizeL_is (n : Int) (h0 : 0 ≤ n) (h1 : n ≤ 9223372036854775807) : ∃ i, i < 4 ∧ sizeL sizU n = Lib.itoa (n.tdiv (sizU.getD i ([], 0)).2) ++ (sizU.getD i ([], 0)).1 ∧ n.tdiv (sizU.getD i ([], 0)).2 * (sizU.getD i ([], 0)).2 = n := by
  have hdm : ∀ m : Int, n.tmod m = 0 → n.tdiv m * m = n := fun m h => by
    have := Int.mul_tdiv_add_tmod n m
    rw [h, Int.add_zero, Int.mul_comm] at this
    exact this
  by_cases a0 : n.tmod 1073741824 = 0
  · exact ⟨0, by decide, by show sizeL ((_, _) :: _) n = _; rw [sizeL, if_pos a0]; rfl, hdm _ a0⟩
  · by_cases a1 : n.tmod 1048576 = 0
    · exact ⟨1, by decide, by show sizeL ((_, _) :: (_, _) :: _) n = _; rw [sizeL, if_neg a0, sizeL, if_pos a1]; rfl, hdm _ a1⟩
    · by_cases a2 : n.tmod 1024 = 0
      · exact ⟨2, by decide, by show sizeL ((_, _) :: (_, _) :: (_, _) :: _) n = _; rw [sizeL, if_neg a0, sizeL, if_neg a1, sizeL, if_pos a2]; rfl, hdm _ a2⟩
      · have a3 : n.tmod 1 = 0 := Int.tmod_one n
        exact ⟨3, by decide, by show sizeL ((_, _) :: (_, _) :: (_, _) :: (_, _) :: _) n = _; rw [sizeL, if_neg a0, sizeL, if_neg a1, sizeL, if_neg a2, sizeL, if_pos a3]; rfl, hdm _ a3⟩
theorem sizU_facts : ∀ j, j < 4 → (∀ c ∈ (sizU.getD j ([], 0)).1, letC c = true) ∧ (sizU.getD j ([], 0)).1 ≠ [] ∧ placeU sizU (sizU.getD j ([], 0)).1 = some j ∧ manyU sizU j = (sizU.getD j ([], 0)).2 ∧ placeU durU (sizU.getD j ([], 0)).1 = none := by
  intro j hj
  rcases (by omega : j = 0 ∨ j = 1 ∨ j = 2 ∨ j = 3) with rfl | rfl | rfl | rfl <;> decide
theorem siz_size (n : Int) (h0 : 0 ≤ n) (h1 : n ≤ 9223372036854775807) : sizZ (sizeB n) = some n ∧ durZ (sizeB n) = none := by
  unfold sizeB
  by_cases hn : n = 0
  · rw [if_pos hn, hn]; exact ⟨by decide +kernel, by decide +kernel⟩
  · rw [if_neg hn]
    obtain ⟨i, hi, e, hm⟩ := sizeL_is n h0 h1
    obtain ⟨u1, u2, u3⟩ := unit_ok2 i hi
    obtain ⟨a1, a2, a3, a4, a5⟩ := sizU_facts i hi
    obtain ⟨⟨nm, m⟩, hu⟩ : ∃ u, sizU.getD i ([], 0) = u := ⟨_, rfl⟩
    rw [hu] at u1 u2 u3 a1 a2 a3 a4 a5 e hm
    dsimp only at u1 u2 u3 a1 a2 a3 a4 a5 e hm
    obtain ⟨d0, d1, r0, r1⟩ := tdiv_ok n m h0 (by omega) u1
    have hp := partS_make sizU d0 (by omega) a1 a2 (rest := []) (fun c r h => by cases h)
    have hp2 := partS_make durU d0 (by omega) a1 a2 (rest := []) (fun c r h => by cases h)
    rw [List.append_nil, ← e] at hp hp2
    rw [a3, Option.map_some] at hp
    rw [a5, Option.map_none] at hp2
    have hlen : (sizeL sizU n).length = (Lib.itoa (n.tdiv m)).length + nm.length := by rw [e, List.length_append]
    have hne : sizeL sizU n ≠ [] := by rw [e]; intro h; exact itoa_ne _ (List.append_eq_nil_iff.1 h).1
    constructor
    · unfold sizZ
      rw [hp]
      simp only [Option.bind_some]
      rw [if_pos hlen.symm, a4, timesO_eq, hm, if_pos ⟨by omega, h1⟩]
    · unfold durZ
      rw [if_neg hne]
      exact durS_next hne hp2

open Go.Sort
structure RowT (w : World) (g n j : Nat) (ss : List ByteArray) (cs : Array Value) : Prop where
  blk : Blk w g 9 cs
  size : cs.size = n
  at_ : ∀ i, i < j → cs[i]? = some (.string (ss.getD i .empty))
  all_ : ∀ i, i < n → ∃ s, cs[i]? = some (.string s)
theorem RowT.below {w w' : World} {g n j : Nat} {ss : List ByteArray} {cs : Array Value} (h : RowT w g n j ss cs) (hb : Below w.heap.size w w') : RowT w' g n j ss cs := ⟨h.blk.below hb h.blk.lt, h.size, h.at_, h.all_⟩
theorem RowT.drew {w : World} {g n j : Nat} {ss : List ByteArray} {cs : Array Value} (h : RowT w g n j ss cs) : RowT w.drew g n j ss cs := ⟨h.blk, h.size, h.at_, h.all_⟩
theorem RowT.store {w : World} {g n j : Nat} {ss : List ByteArray} {cs : Array Value} (h : RowT w g n j ss cs) (hj : j < n) : RowT (w.setCell ⟨g, j, none⟩ (.string (ss.getD j .empty))) g n (j + 1) ss (cs.setIfInBounds j (.string (ss.getD j .empty))) := by
  refine ⟨h.blk.set_ j _, by rw [Array.size_setIfInBounds]; exact h.size, fun i hi => ?_, fun i hi => ?_⟩
  · by_cases e : i = j
    · subst e
      rw [Array.getElem?_setIfInBounds_self_of_lt (by rw [h.size]; exact hj)]
    · rw [Array.getElem?_setIfInBounds_ne (Ne.symm e)]
      exact h.at_ i (by omega)
  · by_cases e : i = j
    · subst e
      exact ⟨_, Array.getElem?_setIfInBounds_self_of_lt (by rw [h.size]; exact hj)⟩
    · rw [Array.getElem?_setIfInBounds_ne (Ne.symm e)]
      exact h.all_ i hi
theorem RowT.texts {w : World} {g n : Nat} {ss : List ByteArray} {cs : Array Value} (h : RowT w g n n ss cs) (hl : ss.length = n) : Texts w (some ⟨g, 0, none⟩) n ss :=
  ⟨hl, fun _ => ⟨g, 0, rfl, h.blk.lt, fun j hj => by rw [Nat.zero_add, h.blk.cell j]; exact h.at_ j hj⟩⟩
theorem made_cell (n i : Nat) (h : i < n) : (madeCells #[Value.string ⟨#[]⟩] n)[i]? = some (.string ⟨#[]⟩) := by
  simp [madeCells, h, Nat.mod_one]
theorem join_le : ∀ (ss : List ByteArray) (sep : ByteArray) (M : Nat), (∀ x ∈ ss, x.size ≤ M) → (joinB sep ss).length ≤ ss.length * (M + sep.size)
  | [], sep, M, _ => Nat.zero_le _
  | [x], sep, M, h => by
    have hx := h x (by simp)
    show (Lib.join [x.data.toList] sep.data.toList).length ≤ _
    rw [Lib.join_one, size_toList, List.length_singleton, Nat.one_mul]
    omega
  | x :: y :: r, sep, M, h => by
    have hx := h x (by simp)
    have ih := join_le (y :: r) sep M (fun z hz => h z (by simp [hz]))
    have e : joinB sep (x :: y :: r) = x.data.toList ++ sep.data.toList ++ joinB sep (y :: r) := by
      unfold joinB
      simp only [List.map_cons, Lib.join_cons, Lib.joinTail, List.flatten_cons, List.append_assoc]
    rw [e, List.length_append, List.length_append, size_toList, size_toList, List.length_cons, Nat.succ_mul]
    omega
theorem spanL_len : ∀ (U : List (List UInt8 × Int)) (n : Int), 0 ≤ n → n ≤ 9223372036854775807 → (∀ u ∈ U, 1 ≤ u.2 ∧ u.1.length ≤ 2) → (spanL U n).length ≤ 30 * U.length := by
  intro U
  induction U with
  | nil => intro n _ _ _; simp [spanL]
  | cons u U ih =>
    intro n h0 h1 hU
    obtain ⟨a, b⟩ := hU u (by simp)
    obtain ⟨d0, d1, r0, r1⟩ := tdiv_ok n u.2 h0 h1 a
    have h2 := ih (n.tmod u.2) r0 (by omega) (fun v hv => hU v (by simp [hv]))
    have h3 := Lib.itoa_length_le (n.tdiv u.2) (by omega) (by omega)
    rw [spanL, List.length_append, List.length_cons]
    split
    · rw [List.length_append]; omega
    · simp; omega
theorem spanB_size (n : Int) (h0 : 0 ≤ n) (h1 : n ≤ 9223372036854775807) : (txt (spanB n)).size ≤ 180 := by
  rw [txt_size]
  unfold spanB
  split
  · simp
  · exact spanL_len durU n h0 h1 (by decide)
theorem sizeB_size (n : Int) (h0 : 0 ≤ n) (h1 : n ≤ 9223372036854775807) : (txt (sizeB n)).size ≤ 180 := by
  rw [txt_size]
  unfold sizeB
  split
  · simp
  · obtain ⟨i, hi, e, _⟩ := sizeL_is n h0 h1
    obtain ⟨u1, u2, u3⟩ := unit_ok2 i hi
    obtain ⟨d0, d1, _, _⟩ := tdiv_ok n _ h0 h1 u1
    have h3 := Lib.itoa_length_le (n.tdiv (sizU.getD i ([], 0)).2) (by omega) (by omega)
    rw [e, List.length_append]
    omega
def quoT (v : ByteArray) : ByteArray := ⟨(putB v.data.toList).toArray⟩
theorem quoT_size (v : ByteArray) : (quoT v).size ≤ 4 * v.size + 2 := by
  have h := flat_len v.data.toList
  have e : (quoT v).size = (putB v.data.toList).length := by simp [quoT, ByteArray.size]
  rw [e, putB, List.length_cons, List.length_append, List.length_singleton]
  have : v.data.toList.length = v.size := size_toList v
  omega
def Few (x : ByteArray) : Prop := x.size ≤ 4000000
def putA (nm op v : ByteArray) : ByteArray := nm ++ op ++ quoT v
theorem testPut_any (op v nm : ByteArray) (h1 : Few nm) (h2 : Few op) (h3 : Few v) (W : World) :
    Calls Tryz.prog 24 #[.agg #[.string op, .string v, .string nm]] W fun e w' => e = .returned (.string (putA nm op v)) ∧ Below W.heap.size W w' := by
  unfold Few at h1 h2 h3
  have HB0 := Lib.hid ((Below.refl W.heap.size W).alloc (Nat.le_refl _) (.cells #[.string op, .string v, .string nm] 64))
  have BK := Lib.hid (Blk.new W 64 #[.string op, .string v, .string nm])
  have PT := Lib.hid (fun w => put_any v h3 w)
  have hq := quoT_size v
  obtain ⟨q, hq2⟩ : ∃ q, (⟨(putB v.data.toList).toArray⟩ : ByteArray) = q := ⟨_, rfl⟩
  have hq3 : quoT v = q := hq2
  rw [hq2] at PT
  rw [hq3] at hq
  obtain ⟨R, hR⟩ : ∃ R, putA nm op v = R := ⟨_, rfl⟩
  rw [hR]
  have E := Lib.hid (show nm ++ op ++ q = R by rw [← hR, ← hq3]; rfl)
  have s1 : ¬ 9223372036854775807 < nm.size + op.size := by omega
  have s2 : ¬ 9223372036854775807 < nm.size + op.size + q.size := by omega
  have c0 := BK.out.cell 0
  have c1 := BK.out.cell 1
  have c2 := BK.out.cell 2
  simp only [List.getElem?_toArray, List.getElem?_cons_zero, List.getElem?_cons_succ] at c0 c1 c2
  clear hq2 hq3 hR
  go_enter Tryz.func24, Tryz.ntmps24
  go_wp2
  go_region_held3 (fun w' => w'.cell? ⟨W.heap.size, 0, none⟩ = some (.string op) ∧ w'.cell? ⟨W.heap.size, 1, none⟩ = some (.string v) ∧ w'.cell? ⟨W.heap.size, 2, none⟩ = some (.string nm)) (first | go_keep | (rw [hb3.cell (by simp), hb3.cell (by simp), hb3.cell (by simp)]; exact ⟨c0, c1, c2⟩))
    (first | (go_at_call 22; refine (PT.out _).mono ?_; rintro e w3 ⟨rfl, hb3⟩))
  have HB := Lib.hid (hop (below_drewN HB0.out 1) (Nat.le_refl _) hb3)
  clear hb3
  go_wp2
  go_ret
  exact ⟨by rw [← E.out]; rfl, HB.out⟩
def putM (m : MatB) : ByteArray := putA m.nm m.op m.v
def putG (s : StgB) : ByteArray :=
  if s.kind = 1 then s.op ++ ⟨#[32]⟩ ++ quoT s.v
  else if s.kind = 2 then ⟨#[124, 32, 108, 111, 103, 102, 109, 116]⟩
  else if s.kind = 3 then (⟨#[124, 32]⟩ : ByteArray) ++ putA s.nm s.op s.v
  else if s.kind = 4 then (⟨#[124, 32]⟩ : ByteArray) ++ s.nm ++ ⟨#[32]⟩ ++ s.op ++ ⟨#[32]⟩ ++ litT s.num s.unit
  else ⟨#[]⟩
def FewM (m : MatB) : Prop := Few m.nm ∧ Few m.op ∧ Few m.v
def FewG (s : StgB) : Prop := Few s.nm ∧ Few s.op ∧ Few s.v ∧ Num64 s.num
theorem putA_size {nm op v : ByteArray} (h1 : Few nm) (h2 : Few op) (h3 : Few v) : (putA nm op v).size ≤ 24000002 := by
  unfold Few at h1 h2 h3
  have := quoT_size v
  unfold putA
  simp only [ByteArray.size_append]
  omega
theorem litT_size (n u : Int) (h : Num64 n) : (litT n u).size ≤ 200 := by
  obtain ⟨h0, h1⟩ := h
  unfold litT
  split
  · exact Nat.le_trans (itoaS_size n h0 h1) (by decide)
  · split
    · split
      · decide
      · exact Nat.le_trans (spanB_size n (by omega) h1) (by decide)
    · split
      · split
        · decide
        · exact Nat.le_trans (sizeB_size n (by omega) h1) (by decide)
      · decide
theorem putG_size (s : StgB) (h : FewG s) : (putG s).size ≤ 30000000 := by
  obtain ⟨h1, h2, h3, h4⟩ := h
  have k1 := putA_size h1 h2 h3
  have k2 := quoT_size s.v
  have k3 := litT_size s.num s.unit h4
  unfold Few at h1 h2 h3
  unfold putG
  split
  · simp only [ByteArray.size_append]; show _ + 1 + _ ≤ _; omega
  · split
    · decide
    · split
      · simp only [ByteArray.size_append]; show 2 + _ ≤ _; omega
      · split
        · simp only [ByteArray.size_append]; show 2 + _ + 1 + _ + 1 + _ ≤ _; omega
        · decide
theorem putMatcher_any (nm op v : ByteArray) (h : FewM ⟨nm, op, v⟩) (W : World) :
    Calls Tryz.prog 16 #[.agg #[.string nm, .string op, .string v]] W fun e w' => e = .returned (.string (putA nm op v)) ∧ Below W.heap.size W w' := by
  have HB0 := Lib.hid ((Below.refl W.heap.size W).alloc (Nat.le_refl _) (.cells #[.string nm, .string op, .string v] 43))
  have TO := Lib.hid (fun w => testOf_any nm op v w)
  have RT := Lib.hid (fun w => testPut_any op v nm h.1 h.2.1 h.2.2 w)
  clear h
  go_enter Tryz.func16, Tryz.ntmps16
  go_wp2_with fail
  refine (TO.out _).mono ?_
  rintro e w1 ⟨rfl, hb⟩
  have HB := Lib.hid (hop HB0.out (Nat.le_refl _) hb)
  clear hb HB0
  go_wp2_with fail
  refine (RT.out _).mono ?_
  rintro e w2 ⟨rfl, hb⟩
  have HB2 := Lib.hid (hop HB.out (Nat.le_refl _) hb)
  clear hb
  go_wp2
  go_ret
  exact ⟨rfl, HB2.out⟩
theorem putStage_any (k : Int) (nm op v : ByteArray) (n u : Int) (h : FewG ⟨k, nm, op, v, n, u⟩) (W : World) (hl : LibIs W) :
    Calls Tryz.prog 12 #[.agg #[.int .i64 k, .string nm, .string op, .string v, .int .i64 n, .int .i64 u]] W fun e w' => e = .returned (.string (putG ⟨k, nm, op, v, n, u⟩)) ∧ Below W.heap.size W w' := by
  obtain ⟨h1, h2, h3, h4⟩ := h
  simp only at h1 h2 h3 h4
  have HB0 := Lib.hid ((Below.refl W.heap.size W).alloc (Nat.le_refl _) (.cells #[.int .i64 k, .string nm, .string op, .string v, .int .i64 n, .int .i64 u] 27))
  have BK := Lib.hid (Blk.new W 27 #[.int .i64 k, .string nm, .string op, .string v, .int .i64 n, .int .i64 u])
  obtain ⟨R, hR⟩ : ∃ R, putG ⟨k, nm, op, v, n, u⟩ = R := ⟨_, rfl⟩
  rw [hR]
  unfold putG at hR
  simp only [] at hR
  by_cases k1 : k = 1
  · subst k1
    rw [if_pos rfl] at hR
    unfold Few at h1 h2 h3
    have PT := Lib.hid (fun w => put_any v h3 w)
    have hq := quoT_size v
    obtain ⟨q, hq2⟩ : ∃ q, (⟨(putB v.data.toList).toArray⟩ : ByteArray) = q := ⟨_, rfl⟩
    have hq3 : quoT v = q := hq2
    rw [hq2] at PT
    rw [hq3] at hq hR
    have E := Lib.hid hR
    have s1 : ¬ 9223372036854775807 < op.size + 1 := by omega
    have s2 : ¬ 9223372036854775807 < op.size + 1 + q.size := by omega
    have c0 := BK.out.cell 0
    have c1 := BK.out.cell 2
    have c2 := BK.out.cell 3
    simp only [List.getElem?_toArray, List.getElem?_cons_zero, List.getElem?_cons_succ] at c0 c1 c2
    clear hq2 hq3 hR hl h4
    go_enter Tryz.func12, Tryz.ntmps12
    go_wp2
    go_region_held3 (fun w' => w'.cell? ⟨W.heap.size, 2, none⟩ = some (.string op) ∧ w'.cell? ⟨W.heap.size, 3, none⟩ = some (.string v)) (first | go_keep | (rw [hb3.cell (by simp), hb3.cell (by simp)]; exact ⟨c1, c2⟩))
      (first | (go_at_call 22; refine (PT.out _).mono ?_; rintro e w3 ⟨rfl, hb3⟩))
    have HB := Lib.hid (hop (below_drewN HB0.out 1) (Nat.le_refl _) hb3)
    clear hb3
    go_wp2
    go_ret
    exact ⟨by rw [← E.out]; rfl, HB.out⟩
  · have g1 : (k == 1) = false := beq_eq_false_iff_ne.2 k1
    rw [if_neg k1] at hR
    by_cases k2 : k = 2
    · subst k2
      rw [if_pos rfl] at hR
      subst hR
      have c0 := BK.out.cell 0
      clear hl h4
      go_enter Tryz.func12, Tryz.ntmps12
      go_wp2
      go_ret
      exact ⟨rfl, HB0.out⟩
    · have g2 : (k == 2) = false := beq_eq_false_iff_ne.2 k2
      rw [if_neg k2] at hR
      by_cases k3 : k = 3
      · subst k3
        rw [if_pos rfl] at hR
        have hq := putA_size h1 h2 h3
        have TO := Lib.hid (fun w => testOf_any nm op v w)
        have RT := Lib.hid (fun w => testPut_any op v nm h1 h2 h3 w)
        obtain ⟨q, hq2⟩ : ∃ q, putA nm op v = q := ⟨_, rfl⟩
        rw [hq2] at RT hq hR
        have E := Lib.hid hR
        have s1 : ¬ 9223372036854775807 < 2 + q.size := by omega
        have c0 := BK.out.cell 0
        have c1 := BK.out.cell 1
        have c2 := BK.out.cell 2
        have c3 := BK.out.cell 3
        clear hq2 hR hl h4 h1 h2 h3
        go_enter Tryz.func12, Tryz.ntmps12
        go_wp2_with fail
        refine (TO.out _).mono ?_
        rintro e w1 ⟨rfl, hb⟩
        have HB := Lib.hid (hop HB0.out (Nat.le_refl _) hb)
        clear hb HB0
        go_wp2_with fail
        refine (RT.out _).mono ?_
        rintro e w2 ⟨rfl, hb⟩
        have HB2 := Lib.hid (hop HB.out (Nat.le_refl _) hb)
        clear hb
        go_wp2
        go_ret
        exact ⟨by rw [← E.out]; rfl, HB2.out⟩
      · have g3 : (k == 3) = false := beq_eq_false_iff_ne.2 k3
        rw [if_neg k3] at hR
        by_cases k4 : k = 4
        · subst k4
          rw [if_pos rfl] at hR
          have CL := Lib.hid (literal_any n u h4.1 h4.2 _ (hl.below HB0.out))
          have hq := litT_size n u h4
          unfold Few at h1 h2 h3
          obtain ⟨q, hq2⟩ : ∃ q, litT n u = q := ⟨_, rfl⟩
          obtain ⟨o, ho⟩ : ∃ o, litOk n u = o := ⟨_, rfl⟩
          rw [hq2, ho] at CL
          rw [hq2] at hR hq
          have E := Lib.hid hR
          have s1 : ¬ 9223372036854775807 < 2 + nm.size := by omega
          have s2 : ¬ 9223372036854775807 < 2 + nm.size + 1 := by omega
          have s3 : ¬ 9223372036854775807 < 2 + nm.size + 1 + op.size := by omega
          have s4 : ¬ 9223372036854775807 < 2 + nm.size + 1 + op.size + 1 := by omega
          have s5 : ¬ 9223372036854775807 < 2 + nm.size + 1 + op.size + 1 + q.size := by omega
          have c0 := BK.out.cell 0
          clear hq2 hR hl h4 ho
          go_enter Tryz.func12, Tryz.ntmps12
          go_wp2_with fail
          refine CL.out.mono ?_
          rintro e w1 ⟨rfl, hb⟩
          have HB := Lib.hid (hop HB0.out (Nat.le_refl _) hb)
          have BK2 := Lib.hid (BK.out.below hb (by simp))
          have d1 := BK2.out.cell 1
          have d2 := BK2.out.cell 2
          clear hb HB0 c0
          go_wp2
          go_ret
          exact ⟨by rw [← E.out]; rfl, HB.out⟩
        · have g4 : (k == 4) = false := beq_eq_false_iff_ne.2 k4
          rw [if_neg k4] at hR
          subst hR
          have c0 := BK.out.cell 0
          clear hl h4
          go_enter Tryz.func12, Tryz.ntmps12
          go_wp2
          go_ret
          exact ⟨rfl, HB0.out⟩
end Go.Proofs.YtepokdmkdnlbfaaGreatDoor
