-- shaken
import Derived.Test.YtepokdmkdnlbfaaGreatDoorGet
import Derived.Test.YtepokdmkdnlbfaaGreatDoorPut
import Derived.Test.YtepokdmkdnlbfaaGreatDoorAstQuery
namespace Go.Proofs.YtepokdmkdnlbfaaGreatDoor
open Go.RowKit
set_option linter.unusedVariables false
set_option linter.unusedSimpArgs false
def hex2 (a b : UInt8) : UInt8 × Bool := if hexI a < 0 ∨ hexI b < 0 then (0, false) else (UInt8.ofNat (hexI a * 16 + hexI b).toNat, rareB (UInt8.ofNat (hexI a * 16 + hexI b).toNat))
theorem hexB_two (a b : UInt8) (r : List UInt8) : hexB (a :: b :: r) = hex2 a b := rfl
theorem hex_back : ∀ b : UInt8, hex2 (digB (b.toNat / 16)) (digB (b.toNat % 16)) = (b, rareB b) := by
  have h : ∀ b : Fin 256, hex2 (digB (b.1 / 16)) (digB (b.1 % 16)) = (UInt8.ofNat b.1, rareB (UInt8.ofNat b.1)) := by decide +kernel
  intro b
  have := h ⟨b.toNat, b.toNat_lt⟩
  simpa using this
theorem first_form (b : UInt8) (r : List UInt8) : firstB (formB b ++ r) = (b, (formB b).length, true) := by
  unfold formB
  by_cases h1 : b = 34 ∨ b = 92
  · rw [if_pos h1]
    simp [firstB, h1]
  · rw [if_neg h1]
    by_cases h2 : b = 10
    · subst h2; simp [firstB]
    · rw [if_neg h2]
      by_cases h3 : b = 9
      · subst h3; simp [firstB]
      · rw [if_neg h3]
        by_cases h4 : rareB b = true
        · rw [if_pos h4]
          have := hex_back b
          simp [firstB, hexB_two, this, h4]
        · rw [if_neg h4]
          have h1a : b ≠ 34 := fun h => h1 (.inl h)
          have h1b : b ≠ 92 := fun h => h1 (.inr h)
          have h4' : rareB b = false := by simpa using h4
          simp [firstB, h1b, h4', h2, h3]
theorem form_head : ∀ b : UInt8, (formB b).head? ≠ some 34 := by
  have h : ∀ b : Fin 256, decide ((formB (UInt8.ofNat b.1)).head? ≠ some 34) = true := by decide +kernel
  intro b
  have := h ⟨b.toNat, b.toNat_lt⟩
  simpa using this
theorem form_cons (b : UInt8) : ∃ c r, formB b = c :: r ∧ c ≠ 34 := by
  have h1 := (formB_len b).1
  have h2 := form_head b
  match h : formB b with
  | [] => rw [h] at h1; simp at h1
  | c :: r => exact ⟨c, r, rfl, fun hc => h2 (by rw [h, hc]; rfl)⟩
theorem go_form (f : Nat) (b : UInt8) (x out : List UInt8) (n : Nat) : getGo (f + 1) (formB b ++ x) out n = getGo f x (out ++ [b]) (n + (formB b).length) := by
  obtain ⟨c, r, e, hc⟩ := form_cons b
  have hf := first_form b x
  rw [e, List.cons_append] at hf ⊢
  rw [getGo, if_neg hc, hf]
  simp
theorem go_flat (l x : List UInt8) : ∀ (f : Nat) (out : List UInt8) (n : Nat), l.length < f → getGo f (l.flatMap formB ++ (34 :: x)) out n = some (out ++ l, n + (l.flatMap formB).length + 1) := by
  induction l with
  | nil =>
    intro f out n hf
    match f, hf with
    | f + 1, _ => simp [getGo]
  | cons b l ih =>
    intro f out n hf
    match f, hf with
    | f + 1, hf =>
      rw [List.flatMap_cons, List.append_assoc, go_form, ih f _ _ (by simp at hf; omega)]
      simp
      omega
theorem get_back (l x : List UInt8) : getR (putB l ++ x) = (l, (putB l).length, true) := by
  have hl := flat_len l
  have h : getB (putB l ++ x) = some (l, (putB l).length) := by
    have := go_flat l x ((l.flatMap formB ++ [34] ++ x).length + 1) [] 1 (by simp only [List.length_append]; omega)
    simp only [getB, putB, List.cons_append, if_true, List.length_cons, List.append_assoc, List.nil_append] at this ⊢
    rw [this]
    simp
    omega
  rw [getR, h]
theorem tok_run {p : UInt8 → Bool} {a b a' b' : List UInt8} (ha : ∀ c ∈ a, p c = true) (ha' : ∀ c ∈ a', p c = true) (hb : ∀ c r, b = c :: r → p c = false) (hb' : ∀ c r, b' = c :: r → p c = false) (h : a ++ b = a' ++ b') : a = a' ∧ b = b' := by
  obtain ⟨h1, h2⟩ := span_run ha hb
  obtain ⟨h3, h4⟩ := span_run ha' hb'
  rw [h] at h1 h2
  exact ⟨h1.symm.trans h3, h2.symm.trans h4⟩
theorem quo_cut {v v' r r' : List UInt8} (h : putB v ++ r = putB v' ++ r') : v = v' ∧ r = r' := by
  have h1 := get_back v r
  rw [h, get_back v' r'] at h1
  have h2 : v' = v := congrArg Prod.fst h1
  subst h2
  exact ⟨rfl, List.append_cancel_left h⟩
theorem quoT_list (v : ByteArray) : (quoT v).data.toList = putB v.data.toList := rfl
theorem putA_list (nm op v : ByteArray) : (putA nm op v).data.toList = nm.data.toList ++ (op.data.toList ++ putB v.data.toList) := by
  unfold putA
  rw [text_joined, text_joined, quoT_list, List.append_assoc]
theorem among_mem {s : ByteArray} {ss : List ByteArray} (h : amongB s ss = true) : s ∈ ss := by
  unfold amongB at h
  obtain ⟨x, hx, he⟩ := List.any_eq_true.1 h
  rw [← (eqB_iff x s).1 he]
  exact hx
structure NameOk (nm : ByteArray) : Prop where
  good : ∀ c ∈ nm.data.toList, goodK [0, 1, 2] c = true
  size : nm.size ≤ 32
theorem name_ok {nm : ByteArray} (h : nameB nm = true) : NameOk nm := by
  unfold nameB at h
  simp only [Bool.and_eq_true, decide_eq_true_eq, List.all_eq_true] at h
  exact ⟨h.2.2.2, h.2.1⟩
theorem fits_ok {ops : List ByteArray} {op v : ByteArray} (h : fitsB ops op v = true) : op ∈ ops ∧ v.size ≤ 256 := by
  unfold fitsB at h
  simp only [Bool.and_eq_true, decide_eq_true_eq] at h
  exact ⟨among_mem h.1, h.2.1⟩
theorem right_ok {nm op v : ByteArray} (h : rightA nm op v = true) : NameOk nm ∧ op ∈ textOps ∧ v.size ≤ 256 := by
  unfold rightA at h
  rw [Bool.and_eq_true] at h
  exact ⟨name_ok h.1, fits_ok h.2⟩
theorem op_text {op : ByteArray} (h : op ∈ textOps) : (∃ c t, op.data.toList = c :: t ∧ goodK [0, 1, 2] c = false ∧ c ≠ 32) ∧ (∀ c ∈ op.data.toList, (c != 34) = true) ∧ op.size ≤ 2 := by
  simp only [textOps, List.mem_cons, List.not_mem_nil, or_false] at h
  rcases h with rfl | rfl | rfl | rfl
  · exact ⟨⟨61, [], rfl, by decide, by decide⟩, by decide, by decide⟩
  · exact ⟨⟨33, [61], rfl, by decide, by decide⟩, by decide, by decide⟩
  · exact ⟨⟨61, [126], rfl, by decide, by decide⟩, by decide, by decide⟩
  · exact ⟨⟨33, [126], rfl, by decide, by decide⟩, by decide, by decide⟩
theorem op_line {op : ByteArray} (h : op ∈ lineOps) : (∀ c ∈ op.data.toList, (c != 32) = true) ∧ op.size = 2 := by
  simp only [lineOps, List.mem_cons, List.not_mem_nil, or_false] at h
  rcases h with rfl | rfl | rfl | rfl <;> exact ⟨by decide, by decide⟩
theorem op_num {op : ByteArray} (h : op ∈ numOps) : (∀ c ∈ op.data.toList, (c != 32) = true) ∧ op.size ≤ 2 := by
  simp only [numOps, List.mem_cons, List.not_mem_nil, or_false] at h
  rcases h with rfl | rfl | rfl | rfl | rfl | rfl <;> exact ⟨by decide, by decide⟩
theorem opq_cut {op op' v v' : ByteArray} (h : op ∈ textOps) (h' : op' ∈ textOps) {r r' : List UInt8} (e : op.data.toList ++ (putB v.data.toList ++ r) = op'.data.toList ++ (putB v'.data.toList ++ r')) : op = op' ∧ v = v' ∧ r = r' := by
  have hq : ∀ (w : ByteArray) (r : List UInt8) (c : UInt8) (t : List UInt8), putB w.data.toList ++ r = c :: t → (c != 34) = false := by
    intro w r c t h
    unfold putB at h
    rw [List.cons_append] at h
    have := (List.cons.inj h).1
    rw [← this]; decide
  obtain ⟨h1, h2⟩ := tok_run (p := fun c => c != 34) (op_text h).2.1 (op_text h').2.1 (hq v r) (hq v' r') e
  obtain ⟨h3, h4⟩ := quo_cut h2
  exact ⟨text_ext1 h1, text_ext1 h3, h4⟩
theorem head_op {op : ByteArray} (h : op ∈ textOps) (r : List UInt8) : ∀ c t, op.data.toList ++ r = c :: t → goodK [0, 1, 2] c = false ∧ c ≠ 32 := by
  intro c t e
  obtain ⟨⟨c', t', h1, h2, h3⟩, _⟩ := op_text h
  rw [h1, List.cons_append] at e
  rw [← (List.cons.inj e).1]
  exact ⟨h2, h3⟩
theorem putA_cut {nm op v nm' op' v' : ByteArray} (h : rightA nm op v = true) (h' : rightA nm' op' v' = true) {r r' : List UInt8} (e : (putA nm op v).data.toList ++ r = (putA nm' op' v').data.toList ++ r') : nm = nm' ∧ op = op' ∧ v = v' ∧ r = r' := by
  obtain ⟨hn, ho, _⟩ := right_ok h
  obtain ⟨hn', ho', _⟩ := right_ok h'
  rw [putA_list, putA_list, List.append_assoc, List.append_assoc, List.append_assoc, List.append_assoc] at e
  obtain ⟨h1, h2⟩ := tok_run (p := goodK [0, 1, 2]) hn.good hn'.good (fun c t k => (head_op ho _ c t k).1) (fun c t k => (head_op ho' _ c t k).1) e
  obtain ⟨h3, h4, h5⟩ := opq_cut ho ho' h2
  exact ⟨text_ext1 h1, h3, h4, h5⟩
theorem joinB_one (s x : ByteArray) : joinB s [x] = x.data.toList := Lib.join_one _ _
theorem joinB_more (s x y : ByteArray) (l : List ByteArray) : joinB s (x :: y :: l) = x.data.toList ++ (s.data.toList ++ joinB s (y :: l)) := by
  unfold joinB
  simp only [List.map_cons, Lib.join_cons, Lib.joinTail, List.flatten_cons, List.append_assoc]
theorem mats_cut : ∀ (M M' : List MatB), M ≠ [] → M' ≠ [] → (∀ m ∈ M, rightM m = true) → (∀ m ∈ M', rightM m = true) → ∀ (r r' : List UInt8), joinB ⟨#[44]⟩ (M.map putM) ++ 125 :: r = joinB ⟨#[44]⟩ (M'.map putM) ++ 125 :: r' → M = M' ∧ r = r'
  | [], _, h, _, _, _, _, _, _ => absurd rfl h
  | _ :: _, [], _, h, _, _, _, _, _ => absurd rfl h
  | [m], [m'], _, _, h, h', r, r', e => by
    rw [List.map_cons, List.map_nil, List.map_cons, List.map_nil, joinB_one, joinB_one] at e
    obtain ⟨h1, h2, h3, h4⟩ := putA_cut (h m (by simp)) (h' m' (by simp)) e
    obtain ⟨a, b, c⟩ := m
    obtain ⟨a', b', c'⟩ := m'
    simp only at h1 h2 h3
    subst h1 h2 h3
    exact ⟨rfl, (List.cons.inj h4).2⟩
  | [m], m' :: y' :: l', _, _, h, h', r, r', e => by
    rw [List.map_cons, List.map_nil, joinB_one, List.map_cons, List.map_cons, joinB_more, List.append_assoc] at e
    obtain ⟨_, _, _, h4⟩ := putA_cut (h m (by simp)) (h' m' (by simp)) e
    exact absurd (List.cons.inj h4).1 (by decide)
  | m :: y :: l, [m'], _, _, h, h', r, r', e => by
    rw [List.map_cons (l := [])] at e
    rw [List.map_nil, joinB_one, List.map_cons, List.map_cons, joinB_more, List.append_assoc] at e
    obtain ⟨_, _, _, h4⟩ := putA_cut (h m (by simp)) (h' m' (by simp)) e
    exact absurd (List.cons.inj h4).1 (by decide)
  | m :: y :: l, m' :: y' :: l', _, _, h, h', r, r', e => by
    rw [List.map_cons, List.map_cons, joinB_more, List.map_cons, List.map_cons, joinB_more] at e
    simp only [List.append_assoc] at e
    obtain ⟨h1, h2, h3, h4⟩ := putA_cut (h m (by simp)) (h' m' (by simp)) e
    obtain ⟨a, b, c⟩ := m
    obtain ⟨a', b', c'⟩ := m'
    simp only at h1 h2 h3
    subst h1 h2 h3
    have h5 := (List.cons.inj h4).2
    rw [← List.map_cons, ← List.map_cons] at h5
    obtain ⟨h6, h7⟩ := mats_cut (y :: l) (y' :: l') (by simp) (by simp) (fun m hm => h m (List.mem_cons_of_mem _ hm)) (fun m hm => h' m (List.mem_cons_of_mem _ hm)) r r' h5
    exact ⟨by rw [h6], h7⟩
theorem dig_no {c : UInt8} (h : digC c = true) : (c != 32) = true ∧ letC c = false := by
  unfold digC at h
  simp only [Bool.and_eq_true, decide_eq_true_eq] at h
  constructor
  · rw [bne_iff_ne]; rintro rfl; exact absurd h.1 (by decide)
  · unfold letC
    simp only [Bool.or_eq_false_iff, Bool.and_eq_false_iff, decide_eq_false_iff_not]
    omega
theorem let_no {c : UInt8} (h : letC c = true) : (c != 32) = true := by
  rw [bne_iff_ne]; rintro rfl; exact absurd h (by decide)
theorem itoa_no (n : Int) : ∀ c ∈ Lib.itoa n, (c != 32) = true ∧ letC c = false := by
  intro c hc
  by_cases h : 0 ≤ n
  · exact dig_no (uItoa_dig h c hc)
  · have e : Lib.itoa n = 45 :: Lib.itoa (n.natAbs : Int) := by
      unfold Lib.itoa
      rw [if_pos (by omega), if_neg (by omega), Int.toNat_natCast]
    rw [e] at hc
    rcases List.mem_cons.1 hc with rfl | hc
    · exact ⟨by decide, by decide⟩
    · exact dig_no (uItoa_dig (by omega) c hc)
theorem durU_let : ∀ u ∈ durU, (∀ c ∈ u.1, letC c = true) ∧ u.1 ≠ [] := by decide
theorem sizU_let : ∀ u ∈ sizU, (∀ c ∈ u.1, letC c = true) ∧ u.1 ≠ [] := by decide
theorem spanL_no : ∀ (U : List (List UInt8 × Int)), (∀ u ∈ U, ∀ c ∈ u.1, letC c = true) → ∀ n, ∀ c ∈ spanL U n, (c != 32) = true
  | [], _, _, c, hc => by simp [spanL] at hc
  | u :: U, h, n, c, hc => by
    rw [spanL] at hc
    rcases List.mem_append.1 hc with hc | hc
    · split at hc
      · rcases List.mem_append.1 hc with hc | hc
        · exact (itoa_no _ c hc).1
        · exact let_no (h u (by simp) c hc)
      · cases hc
    · exact spanL_no U (fun u hu => h u (List.mem_cons_of_mem _ hu)) _ c hc
theorem sizeL_no : ∀ (U : List (List UInt8 × Int)), (∀ u ∈ U, ∀ c ∈ u.1, letC c = true) → ∀ n, ∀ c ∈ sizeL U n, (c != 32) = true
  | [], _, _, c, hc => by
    rw [sizeL] at hc
    revert hc; revert c; decide
  | u :: U, h, n, c, hc => by
    rw [sizeL] at hc
    split at hc
    · rcases List.mem_append.1 hc with hc | hc
      · exact (itoa_no _ c hc).1
      · exact let_no (h u (by simp) c hc)
    · exact sizeL_no U (fun u hu => h u (List.mem_cons_of_mem _ hu)) _ c hc
theorem spanL_let : ∀ (U : List (List UInt8 × Int)), (∀ u ∈ U, (∀ c ∈ u.1, letC c = true) ∧ u.1 ≠ []) → ∀ n, spanL U n = [] ∨ ∃ c ∈ spanL U n, letC c = true
  | [], _, _ => .inl rfl
  | u :: U, h, n => by
    rw [spanL]
    split
    · obtain ⟨c, t, hct⟩ := List.exists_cons_of_ne_nil (h u (by simp)).2
      exact .inr ⟨c, by rw [hct]; simp, (h u (by simp)).1 c (by rw [hct]; simp)⟩
    · rw [List.nil_append]
      exact spanL_let U (fun u hu => h u (List.mem_cons_of_mem _ hu)) _
theorem spanB_let (n : Int) (h0 : 0 ≤ n) (h1 : n ≤ 9223372036854775807) : ∃ c ∈ spanB n, letC c = true := by
  by_cases h : n = 0
  · rw [spanB, if_pos h]; exact ⟨115, by simp, by decide⟩
  · rcases spanL_let durU durU_let n with k | k
    · have e := dur_span n h0 h1
      have e0 : durZ [] = none := by decide
      rw [spanB, if_neg h, k, e0] at e
      cases e
    · rw [spanB, if_neg h]; exact k
theorem sizeB_let (n : Int) (h0 : 0 ≤ n) (h1 : n ≤ 9223372036854775807) : ∃ c ∈ sizeB n, letC c = true := by
  by_cases h : n = 0
  · rw [sizeB, if_pos h]; exact ⟨66, by simp, by decide⟩
  · obtain ⟨i, hi, e, _⟩ := sizeL_is n h0 h1
    rw [sizeB, if_neg h, e]
    obtain ⟨k1, k2, _⟩ := sizU_facts i hi
    obtain ⟨c, t, hct⟩ := List.exists_cons_of_ne_nil k2
    exact ⟨c, by rw [hct]; simp, k1 c (by rw [hct]; simp)⟩
theorem litT_forms {n u : Int} (h : litOk n u = true) : (u = 0 ∧ (litT n u).data.toList = Lib.itoa n) ∨ (u = 1 ∧ 0 ≤ n ∧ (litT n u).data.toList = spanB n) ∨ (u = 2 ∧ 0 ≤ n ∧ (litT n u).data.toList = sizeB n) := by
  unfold litOk at h
  split at h
  · rename_i h0
    exact .inl ⟨h0, by rw [litT, if_pos h0, itoaS_list]⟩
  · rename_i h0
    split at h
    · rename_i h1
      have hn := of_decide_eq_true h
      rcases h1 with h1 | h1
      · exact .inr (.inl ⟨h1, hn, by rw [litT, if_neg h0, if_pos h1, if_neg (by omega)]; rfl⟩)
      · exact .inr (.inr ⟨h1, hn, by rw [litT, if_neg h0, if_neg (by omega), if_pos h1, if_neg (by omega)]; rfl⟩)
    · cases h
theorem litT_no {n u : Int} (h : litOk n u = true) : ∀ c ∈ (litT n u).data.toList, (c != 32) = true := by
  intro c hc
  rcases litT_forms h with ⟨_, e⟩ | ⟨_, _, e⟩ | ⟨_, _, e⟩
  · rw [e] at hc; exact (itoa_no n c hc).1
  · rw [e] at hc
    unfold spanB at hc
    split at hc
    · revert hc; revert c; decide
    · exact spanL_no durU (fun u hu => (durU_let u hu).1) n c hc
  · rw [e] at hc
    unfold sizeB at hc
    split at hc
    · revert hc; revert c; decide
    · exact sizeL_no sizU (fun u hu => (sizU_let u hu).1) n c hc
theorem litT_inj {n u n' u' : Int} (hn : Num64 n) (hn' : Num64 n') (h : litOk n u = true) (h' : litOk n' u' = true) (e : (litT n u).data.toList = (litT n' u').data.toList) : n = n' ∧ u = u' := by
  have no : ∀ (k : Int) (l : List UInt8), Lib.itoa k = l → (∃ c ∈ l, letC c = true) → False := by
    rintro k l rfl ⟨c, hc, hl⟩
    rw [(itoa_no k c hc).2] at hl
    cases hl
  obtain ⟨a0, a1⟩ := hn
  obtain ⟨b0, b1⟩ := hn'
  rcases litT_forms h with ⟨hu, k⟩ | ⟨hu, g, k⟩ | ⟨hu, g, k⟩ <;> rcases litT_forms h' with ⟨hu', k'⟩ | ⟨hu', g', k'⟩ | ⟨hu', g', k'⟩
  · rw [k, k'] at e; exact ⟨itoa_inj a0 a1 b0 b1 e, by rw [hu, hu']⟩
  · rw [k, k'] at e; exact (no n _ e (spanB_let n' g' b1)).elim
  · rw [k, k'] at e; exact (no n _ e (sizeB_let n' g' b1)).elim
  · rw [k, k'] at e; exact (no n' _ e.symm (spanB_let n g a1)).elim
  · rw [k, k'] at e
    have h1 := dur_span n g a1
    rw [e, dur_span n' g' b1] at h1
    exact ⟨(Option.some.inj h1).symm, by rw [hu, hu']⟩
  · rw [k, k'] at e
    have h1 := dur_span n g a1
    rw [e, (siz_size n' g' b1).2] at h1
    cases h1
  · rw [k, k'] at e; exact (no n' _ e.symm (sizeB_let n g a1)).elim
  · rw [k, k'] at e
    have h1 := dur_span n' g' b1
    rw [← e, (siz_size n g a1).2] at h1
    cases h1
  · rw [k, k'] at e
    have h1 := (siz_size n g a1).1
    rw [e, (siz_size n' g' b1).1] at h1
    exact ⟨(Option.some.inj h1).symm, by rw [hu, hu']⟩
inductive StgIs (s : StgB) : Prop
  | line (op v : ByteArray) (h : s = ⟨1, ⟨#[]⟩, op, v, 0, 0⟩) (h2 : fitsB lineOps op v = true)
  | log (h : s = ⟨2, ⟨#[]⟩, ⟨#[]⟩, ⟨#[]⟩, 0, 0⟩)
  | label (nm op v : ByteArray) (h : s = ⟨3, nm, op, v, 0, 0⟩) (h2 : nm.data.toList ≠ logL) (h3 : rightA nm op v = true)
  | number (nm op : ByteArray) (n u : Int) (h : s = ⟨4, nm, op, ⟨#[]⟩, n, u⟩) (h2 : nm.data.toList ≠ logL) (h3 : nameB nm = true) (h4 : op ∈ numOps) (h5 : litOk n u = true)
theorem eqStg_yes {a b : StgB} (h : eqStg a b = true) : a = b := Classical.byContradiction fun k => by rw [eqStg_no k] at h; cases h
theorem not_log {nm : ByteArray} (h : (!(nm.toList == logL)) = true) : nm.data.toList ≠ logL := by
  intro e
  rw [Lib.toList_data, e] at h
  exact absurd h (by decide)
theorem stg_is {s : StgB} (h : rightS s = true) : StgIs s := by
  unfold rightS at h
  split at h
  · rw [Bool.and_eq_true] at h
    exact .line s.op s.v (eqStg_yes h.1) h.2
  · split at h
    · exact .log (eqStg_yes h)
    · split at h
      · rw [Bool.and_eq_true, Bool.and_eq_true] at h
        exact .label s.nm s.op s.v (eqStg_yes h.1) (not_log h.2.1) h.2.2
      · split at h
        · rw [Bool.and_eq_true] at h
          obtain ⟨h1, h2⟩ := h
          unfold rightC at h2
          rw [Bool.and_eq_true, Bool.and_eq_true, Bool.and_eq_true] at h2
          exact .number s.nm s.op s.num s.unit (eqStg_yes h1) (not_log h2.2.2.1) h2.2.1 (among_mem h2.2.2.2) h2.1
        · cases h
theorem putG_line (op v : ByteArray) : (putG ⟨1, ⟨#[]⟩, op, v, 0, 0⟩).data.toList = op.data.toList ++ 32 :: putB v.data.toList := by
  unfold putG
  simp only [if_true]
  rw [text_joined, text_joined, quoT_list]
  simp
theorem putG_log : (putG ⟨2, ⟨#[]⟩, ⟨#[]⟩, ⟨#[]⟩, 0, 0⟩).data.toList = 124 :: 32 :: logL := by decide
theorem putG_label (nm op v : ByteArray) : (putG ⟨3, nm, op, v, 0, 0⟩).data.toList = 124 :: 32 :: (putA nm op v).data.toList := by
  unfold putG
  simp only [show ¬ (3 : Int) = 1 by decide, show ¬ (3 : Int) = 2 by decide, if_false, if_true]
  rw [text_joined]; rfl
theorem putG_number (nm op : ByteArray) (n u : Int) : (putG ⟨4, nm, op, ⟨#[]⟩, n, u⟩).data.toList = 124 :: 32 :: (nm.data.toList ++ 32 :: (op.data.toList ++ 32 :: (litT n u).data.toList)) := by
  unfold putG
  simp only [show ¬ (4 : Int) = 1 by decide, show ¬ (4 : Int) = 2 by decide, show ¬ (4 : Int) = 3 by decide, if_false, if_true]
  rw [text_joined, text_joined, text_joined, text_joined, text_joined]
  simp
def EndS (r : List UInt8) : Prop := ∀ c t, r = c :: t → c = 32
theorem EndS.no {r : List UInt8} (h : EndS r) : ∀ c t, r = c :: t → (c != 32) = false := fun c t e => by rw [h c t e]; decide
theorem EndS.bad {r : List UInt8} (h : EndS r) : ∀ c t, r = c :: t → goodK [0, 1, 2] c = false := fun c t e => by rw [h c t e]; decide
theorem sp_no (l : List UInt8) : ∀ c t, (32 :: l : List UInt8) = c :: t → (c != 32) = false := fun c t e => by rw [← (List.cons.inj e).1]; decide
theorem sp_bad (l : List UInt8) : ∀ c t, (32 :: l : List UInt8) = c :: t → goodK [0, 1, 2] c = false := fun c t e => by rw [← (List.cons.inj e).1]; decide
theorem bar_sp : ∀ c ∈ ([124] : List UInt8), (c != 32) = true := by decide
theorem log_good : ∀ c ∈ logL, goodK [0, 1, 2] c = true := by decide
theorem line_bar {op : ByteArray} (h : op ∈ lineOps) : op.data.toList ≠ [124] := fun e => by
  have := (op_line h).2
  rw [← size_toList, e] at this
  cases this
theorem stg_cut {s s' : StgB} (h : rightS s = true) (h' : rightS s' = true) (hn : Num64 s.num) (hn' : Num64 s'.num) {r r' : List UInt8} (hr : EndS r) (hr' : EndS r') (e : (putG s).data.toList ++ r = (putG s').data.toList ++ r') : s = s' ∧ r = r' := by
  cases stg_is h with
  | line op v k k2 =>
    subst k
    rw [putG_line] at e
    simp only [List.append_assoc, List.cons_append] at e
    cases stg_is h' with
    | line op' v' k' k2' =>
      subst k'
      rw [putG_line] at e
      simp only [List.append_assoc, List.cons_append] at e
      obtain ⟨e1, e2⟩ := tok_run (p := fun c => c != 32) (op_line (fits_ok k2).1).1 (op_line (fits_ok k2').1).1 (sp_no _) (sp_no _) e
      obtain ⟨e3, e4⟩ := quo_cut (List.cons.inj e2).2
      rw [text_ext1 e1, text_ext1 e3]
      exact ⟨rfl, e4⟩
    | log k' =>
      subst k'
      rw [putG_log] at e
      simp only [List.append_assoc, List.cons_append] at e
      exact absurd (tok_run (p := fun c => c != 32) (op_line (fits_ok k2).1).1 bar_sp (sp_no _) (sp_no _) e).1 (line_bar (fits_ok k2).1)
    | label nm' op' v' k' _ _ =>
      subst k'
      rw [putG_label] at e
      simp only [List.append_assoc, List.cons_append] at e
      exact absurd (tok_run (p := fun c => c != 32) (op_line (fits_ok k2).1).1 bar_sp (sp_no _) (sp_no _) e).1 (line_bar (fits_ok k2).1)
    | number nm' op' n' u' k' _ _ _ _ =>
      subst k'
      rw [putG_number] at e
      simp only [List.append_assoc, List.cons_append] at e
      exact absurd (tok_run (p := fun c => c != 32) (op_line (fits_ok k2).1).1 bar_sp (sp_no _) (sp_no _) e).1 (line_bar (fits_ok k2).1)
  | log k =>
    subst k
    rw [putG_log] at e
    simp only [List.append_assoc, List.cons_append] at e
    cases stg_is h' with
    | line op' v' k' k2' =>
      subst k'
      rw [putG_line] at e
      simp only [List.append_assoc, List.cons_append] at e
      exact absurd (tok_run (p := fun c => c != 32) (op_line (fits_ok k2').1).1 bar_sp (sp_no _) (sp_no _) e.symm).1 (line_bar (fits_ok k2').1)
    | log k' =>
      subst k'
      rw [putG_log] at e
      simp only [List.append_assoc, List.cons_append] at e
      exact ⟨rfl, List.append_cancel_left (List.cons.inj (List.cons.inj e).2).2⟩
    | label nm' op' v' k' k2' k3' =>
      subst k'
      rw [putG_label] at e
      simp only [List.append_assoc, List.cons_append] at e
      have e1 := (List.cons.inj (List.cons.inj e).2).2
      rw [putA_list, List.append_assoc] at e1
      obtain ⟨ho, hp, _⟩ := right_ok k3'
      have e2 := (tok_run (p := goodK [0, 1, 2]) log_good ho.good hr.bad (fun c t q => by rw [List.append_assoc] at q; exact (head_op hp _ c t q).1) e1).1
      exact absurd e2.symm k2'
    | number nm' op' n' u' k' k2' k3' _ _ =>
      subst k'
      rw [putG_number] at e
      simp only [List.append_assoc, List.cons_append] at e
      have e1 := (List.cons.inj (List.cons.inj e).2).2
      have e2 := (tok_run (p := goodK [0, 1, 2]) log_good (name_ok k3').good hr.bad (sp_bad _) e1).1
      exact absurd e2.symm k2'
  | label nm op v k k2 k3 =>
    subst k
    rw [putG_label] at e
    simp only [List.append_assoc, List.cons_append] at e
    obtain ⟨ho, hp, _⟩ := right_ok k3
    cases stg_is h' with
    | line op' v' k' k2' =>
      subst k'
      rw [putG_line] at e
      simp only [List.append_assoc, List.cons_append] at e
      exact absurd (tok_run (p := fun c => c != 32) (op_line (fits_ok k2').1).1 bar_sp (sp_no _) (sp_no _) e.symm).1 (line_bar (fits_ok k2').1)
    | log k' =>
      subst k'
      rw [putG_log] at e
      simp only [List.append_assoc, List.cons_append] at e
      have e1 := (List.cons.inj (List.cons.inj e).2).2
      rw [putA_list, List.append_assoc] at e1
      have e2 := (tok_run (p := goodK [0, 1, 2]) ho.good log_good (fun c t q => by rw [List.append_assoc] at q; exact (head_op hp _ c t q).1) hr'.bad e1).1
      exact absurd e2 k2
    | label nm' op' v' k' k2' k3' =>
      subst k'
      rw [putG_label] at e
      simp only [List.append_assoc, List.cons_append] at e
      obtain ⟨e1, e2, e3, e4⟩ := putA_cut k3 k3' (List.cons.inj (List.cons.inj e).2).2
      rw [e1, e2, e3]
      exact ⟨rfl, e4⟩
    | number nm' op' n' u' k' k2' k3' _ _ =>
      subst k'
      rw [putG_number] at e
      simp only [List.append_assoc, List.cons_append] at e
      have e1 := (List.cons.inj (List.cons.inj e).2).2
      rw [putA_list, List.append_assoc, List.append_assoc] at e1
      have e2 := (tok_run (p := goodK [0, 1, 2]) ho.good (name_ok k3').good (fun c t q => (head_op hp _ c t q).1) (sp_bad _) e1).2
      obtain ⟨⟨c, t, h1, _, h3⟩, _⟩ := op_text hp
      rw [h1, List.cons_append] at e2
      exact absurd (List.cons.inj e2).1 h3
  | number nm op n u k k2 k3 k4 k5 =>
    subst k
    rw [putG_number] at e
    simp only [List.append_assoc, List.cons_append] at e
    cases stg_is h' with
    | line op' v' k' k2' =>
      subst k'
      rw [putG_line] at e
      simp only [List.append_assoc, List.cons_append] at e
      exact absurd (tok_run (p := fun c => c != 32) (op_line (fits_ok k2').1).1 bar_sp (sp_no _) (sp_no _) e.symm).1 (line_bar (fits_ok k2').1)
    | log k' =>
      subst k'
      rw [putG_log] at e
      simp only [List.append_assoc, List.cons_append] at e
      have e1 := (List.cons.inj (List.cons.inj e).2).2
      have e2 := (tok_run (p := goodK [0, 1, 2]) (name_ok k3).good log_good (sp_bad _) hr'.bad e1).1
      exact absurd e2 k2
    | label nm' op' v' k' k2' k3' =>
      subst k'
      rw [putG_label] at e
      simp only [List.append_assoc, List.cons_append] at e
      obtain ⟨ho, hp, _⟩ := right_ok k3'
      have e1 := (List.cons.inj (List.cons.inj e).2).2
      rw [putA_list, List.append_assoc, List.append_assoc] at e1
      have e2 := (tok_run (p := goodK [0, 1, 2]) (name_ok k3).good ho.good (sp_bad _) (fun c t q => (head_op hp _ c t q).1) e1).2
      obtain ⟨⟨c, t, h1, _, h3⟩, _⟩ := op_text hp
      rw [h1, List.cons_append] at e2
      exact absurd (List.cons.inj e2).1.symm h3
    | number nm' op' n' u' k' k2' k3' k4' k5' =>
      subst k'
      rw [putG_number] at e
      simp only [List.append_assoc, List.cons_append] at e
      have e1 := (List.cons.inj (List.cons.inj e).2).2
      obtain ⟨e2, e3⟩ := tok_run (p := goodK [0, 1, 2]) (name_ok k3).good (name_ok k3').good (sp_bad _) (sp_bad _) e1
      obtain ⟨e4, e5⟩ := tok_run (p := fun c => c != 32) (op_num k4).1 (op_num k4').1 (sp_no _) (sp_no _) (List.cons.inj e3).2
      obtain ⟨e6, e7⟩ := tok_run (p := fun c => c != 32) (litT_no k5) (litT_no k5') hr.no hr'.no (List.cons.inj e5).2
      obtain ⟨e8, e9⟩ : n = n' ∧ u = u' := litT_inj hn hn' k5 k5' e6
      rw [text_ext1 e2, text_ext1 e4, e8, e9]
      exact ⟨rfl, e7⟩
def stgsL (S : List StgB) : List UInt8 := (S.map fun s => 32 :: (putG s).data.toList).flatten
theorem stgsL_end (S : List StgB) : EndS (stgsL S) := by
  intro c t e
  cases S with
  | nil => cases e
  | cons s S =>
    unfold stgsL at e
    rw [List.map_cons, List.flatten_cons, List.cons_append] at e
    exact (List.cons.inj e).1.symm
theorem stgs_cut : ∀ (S S' : List StgB), (∀ s ∈ S, rightS s = true ∧ Num64 s.num) → (∀ s ∈ S', rightS s = true ∧ Num64 s.num) → stgsL S = stgsL S' → S = S'
  | [], [], _, _, _ => rfl
  | [], _ :: _, _, _, e => by
    unfold stgsL at e
    rw [List.map_nil, List.flatten_nil, List.map_cons, List.flatten_cons, List.cons_append] at e
    cases e
  | _ :: _, [], _, _, e => by
    unfold stgsL at e
    rw [List.map_nil, List.flatten_nil, List.map_cons, List.flatten_cons, List.cons_append] at e
    cases e
  | s :: S, s' :: S', h, h', e => by
    have e1 : (putG s).data.toList ++ stgsL S = (putG s').data.toList ++ stgsL S' := by
      unfold stgsL at e ⊢
      rw [List.map_cons, List.flatten_cons, List.cons_append, List.map_cons, List.flatten_cons, List.cons_append] at e
      exact (List.cons.inj e).2
    obtain ⟨e2, e3⟩ := stg_cut (h s (by simp)).1 (h' s' (by simp)).1 (h s (by simp)).2 (h' s' (by simp)).2 (stgsL_end S) (stgsL_end S') e1
    rw [e2, stgs_cut S S' (fun x hx => h x (List.mem_cons_of_mem _ hx)) (fun x hx => h' x (List.mem_cons_of_mem _ hx)) e3]
theorem putQ_list (M : List MatB) (S : List StgB) : (putQ M S).data.toList = 123 :: (joinB ⟨#[44]⟩ (M.map putM) ++ 125 :: stgsL S) := by
  unfold putQ
  show joinB ⟨#[32]⟩ (headT M :: S.map putG) = _
  have e : joinB ⟨#[32]⟩ (headT M :: S.map putG) = (headT M).data.toList ++ stgsL S := by
    unfold joinB stgsL
    rw [List.map_cons, Lib.join_cons, Lib.joinTail, List.map_map, List.map_map]
    rfl
  rw [e]
  unfold headT
  rw [text_joined, text_joined]
  simp
theorem rightQ_ok {M : List MatB} {S : List StgB} (h : rightQ M S = true) : M ≠ [] ∧ M.length ≤ 8 ∧ S.length ≤ 16 ∧ (∀ m ∈ M, rightM m = true) ∧ (∀ s ∈ S, rightS s = true) := by
  unfold rightQ at h
  simp only [Bool.and_eq_true, decide_eq_true_eq, List.all_eq_true] at h
  obtain ⟨⟨h1, h2, h3⟩, h4, h5⟩ := h
  exact ⟨fun e => by rw [e] at h1; exact absurd h1 (by decide), h2, h3, h4, h5⟩
theorem putQ_inj {M M' : List MatB} {S S' : List StgB} (h : rightQ M S = true) (h' : rightQ M' S' = true) (hS : ∀ s ∈ S, Num64 s.num) (hS' : ∀ s ∈ S', Num64 s.num) : putQ M S = putQ M' S' ↔ M = M' ∧ S = S' := by
  constructor
  · intro e
    obtain ⟨a1, _, _, a4, a5⟩ := rightQ_ok h
    obtain ⟨b1, _, _, b4, b5⟩ := rightQ_ok h'
    have e1 := congrArg (fun t : ByteArray => t.data.toList) e
    simp only [putQ_list] at e1
    obtain ⟨e2, e3⟩ := mats_cut M M' a1 b1 a4 b4 _ _ (List.cons.inj e1).2
    exact ⟨e2, stgs_cut S S' (fun s hs => ⟨a5 s hs, hS s hs⟩) (fun s hs => ⟨b5 s hs, hS' s hs⟩) e3⟩
  · rintro ⟨rfl, rfl⟩
    rfl
theorem putQ_more (M : List MatB) (S : List StgB) (x : StgB) : putQ M (S ++ [x]) = putQ M S ++ (⟨#[32]⟩ : ByteArray) ++ putG x := by
  apply text_ext1
  rw [text_joined, text_joined, putQ_list, putQ_list]
  unfold stgsL
  simp
theorem few_right {nm op v : ByteArray} (h : rightA nm op v = true) : FewM ⟨nm, op, v⟩ := by
  obtain ⟨h1, h2, h3⟩ := right_ok h
  have := (op_text h2).2.2
  exact ⟨by unfold Few; exact Nat.le_trans h1.size (by decide), by unfold Few; exact Nat.le_trans this (by decide), by unfold Few; exact Nat.le_trans h3 (by decide)⟩
theorem few_stage {s : StgB} (h : rightS s = true) (hn : Num64 s.num) : FewG s := by
  have e0 : Few ⟨#[]⟩ := by unfold Few; decide
  cases stg_is h with
  | line op v k k2 =>
    subst k
    have := (op_line (fits_ok k2).1).2
    exact ⟨e0, by unfold Few; exact Nat.le_trans (Nat.le_of_eq this) (by decide), by unfold Few; exact Nat.le_trans (fits_ok k2).2 (by decide), hn⟩
  | log k => subst k; exact ⟨e0, e0, e0, hn⟩
  | label nm op v k k2 k3 =>
    subst k
    obtain ⟨a, b, c⟩ := few_right k3
    exact ⟨a, b, c, hn⟩
  | number nm op n u k k2 k3 k4 k5 =>
    subst k
    have := (op_num k4).2
    exact ⟨by unfold Few; exact Nat.le_trans (name_ok k3).size (by decide), by unfold Few; exact Nat.le_trans this (by decide), e0, hn⟩
end Go.Proofs.YtepokdmkdnlbfaaGreatDoor
