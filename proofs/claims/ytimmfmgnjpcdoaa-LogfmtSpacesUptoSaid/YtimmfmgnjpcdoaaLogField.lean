/- A field of a line: how it is read. -/
import Derived.Test.YtimmfmgnjpcdoaaLogScan
import Derived.Test.YtimmfmgnjpcdoaaLabParse
namespace Go.Proofs.Ytimmfmgnjpcdoaa
open Go.RowKit Go.Sort
set_option linter.unusedVariables false
set_option linter.unusedSimpArgs false

def notKey (c : UInt8) : Bool := !keyB c
section
variable {p : UInt8 → Bool} {t : ByteArray}
theorem run_end {k : Nat} (h : t.size ≤ k) : runTo p t k = k := by
  unfold runTo
  rw [List.drop_of_length_le (by rw [size_toList]; exact h)]
  rfl
theorem run_step1 {k : Nat} {c : UInt8} (h : t.data.toList[k]? = some c) : runTo p t k = if p c then runTo p t (k + 1) else k := by
  have hk : k < t.data.toList.length := by
    rcases Nat.lt_or_ge k t.data.toList.length with h1 | h1
    · exact h1
    · rw [List.getElem?_eq_none h1] at h; cases h
  have hc : t.data.toList[k] = c := by rw [List.getElem?_eq_getElem hk] at h; exact Option.some.inj h
  unfold runTo
  rw [List.drop_eq_getElem_cons hk, hc, List.takeWhile_cons]
  split
  · rw [List.length_cons]; omega
  · rfl
theorem run_skip : ∀ (d k : Nat), (∀ i, k ≤ i → i < k + d → ∃ c, t.data.toList[i]? = some c ∧ p c = true) → runTo p t k = runTo p t (k + d)
  | 0, k, _ => rfl
  | d + 1, k, h => by
    obtain ⟨c, hc, hp⟩ := h k (Nat.le_refl _) (by omega)
    rw [run_step1 hc, if_pos hp, run_skip d (k + 1) (fun i h1 h2 => h i (by omega) (by omega))]
    congr 1
    omega
theorem run_all (k : Nat) : ∀ i, k ≤ i → i < runTo p t k → ∃ c, t.data.toList[i]? = some c ∧ p c = true := by
  intro i h1 h2
  unfold runTo at h2
  have hl : i - k < ((t.data.toList.drop k).takeWhile p).length := by omega
  have hm : ((t.data.toList.drop k).takeWhile p)[i - k] ∈ (t.data.toList.drop k).takeWhile p := List.getElem_mem _
  have hp := List.all_eq_true.1 (List.all_takeWhile (p := p) (l := t.data.toList.drop k)) _ hm
  refine ⟨_, ?_, hp⟩
  have h4 : (t.data.toList.drop k)[i - k]? = some ((t.data.toList.drop k).takeWhile p)[i - k] := by
    obtain ⟨r, hr⟩ := List.takeWhile_prefix p (l := t.data.toList.drop k)
    conv => lhs; rw [← hr]
    rw [List.getElem?_append_left hl, List.getElem?_eq_getElem hl]
  rw [List.getElem?_drop] at h4
  rw [← h4]
  congr 1
  omega
theorem run_ge (k : Nat) : k ≤ runTo p t k := by unfold runTo; omega
end
/-- the value at k, and how far it is read -/
def valR (t : ByteArray) (k : Nat) : ByteArray × Nat :=
  match takeR t k [eqS] with
  | some _ => if (quoR t (k + 1)).2.2 = true then (⟨(quoR t (k + 1)).1.toArray⟩, k + 1 + (quoR t (k + 1)).2.1) else (t.extract (k + 1) (runTo valB t (k + 1)), runTo valB t (k + 1))
  | none => (.empty, k)
/-- the field behind k -/
def fieldR (t : ByteArray) (k : Nat) : Option (PairB × Nat) :=
  if runTo notKey t k < t.size then some ((t.extract (runTo notKey t k) (runTo keyB t (runTo notKey t k)), (valR t (runTo keyB t (runTo notKey t k))).1), (valR t (runTo keyB t (runTo notKey t k))).2) else none
def fieldV (t : ByteArray) (k : Nat) : PairB × Bool × Nat := match fieldR t k with
  | some (p, j) => (p, true, j)
  | none => (pnil, false, t.size)
theorem quo_none {t : ByteArray} {k : Nat} (h : (quoR t k).2.2 = false) : (quoR t k).2.1 = 0 := by
  unfold quoR getR at *
  split at h
  · cases h
  · next e => rfl
theorem valR_le (t : ByteArray) (k : Nat) (hk : k ≤ t.size) : k ≤ (valR t k).2 ∧ (valR t k).2 ≤ t.size := by
  unfold valR
  cases h : takeR t k [eqS] with
  | none => exact ⟨Nat.le_refl _, hk⟩
  | some x =>
    have h1 := takeTo_le hk h
    have h2 : x.size = 1 := by rw [takeR_one h]; rfl
    rw [h2] at h1
    dsimp only
    split
    · have := quoR_le t (k + 1) h1
      exact ⟨by dsimp only; omega, this⟩
    · exact ⟨Nat.le_trans (Nat.le_succ _) (run_ge _), runTo_le _ _ _ h1⟩
/-- what stands ahead of a field may be gone by -/
theorem field_skip {t : ByteArray} {k j : Nat} (hkj : k ≤ j) (h : ∀ i, k ≤ i → i < j → ∃ c, t.data.toList[i]? = some c ∧ notKey c = true) : fieldR t k = fieldR t j := by
  obtain ⟨d, rfl⟩ : ∃ d, j = k + d := ⟨j - k, by omega⟩
  unfold fieldR
  rw [run_skip d k h]
theorem fieldV_skip {t : ByteArray} {k j : Nat} (hkj : k ≤ j) (h : ∀ i, k ≤ i → i < j → ∃ c, t.data.toList[i]? = some c ∧ notKey c = true) : fieldV t k = fieldV t j := by
  unfold fieldV
  rw [field_skip hkj h]
theorem field_end (t : ByteArray) : fieldV t t.size = (pnil, false, t.size) := by
  unfold fieldV fieldR
  rw [run_end (Nat.le_refl _), if_neg (Nat.lt_irrefl _)]
theorem field_here {t : ByteArray} {j : Nat} {c : UInt8} (hc : t.data.toList[j]? = some c) (hj : j < t.size) (hp : keyB c = true) : fieldV t j = ((t.extract j (runTo keyB t j), (valR t (runTo keyB t j)).1), true, (valR t (runTo keyB t j)).2) := by
  have e : runTo notKey t j = j := by
    rw [run_step1 hc, if_neg (by unfold notKey; rw [hp]; decide)]
  unfold fieldV fieldR
  rw [e, if_pos hj]
theorem space_notKey {c : UInt8} (h : goodK [3] c = true) : notKey c = true := by
  unfold notKey keyB valB
  rw [h]
  rfl
theorem field_space (t : ByteArray) (j : Nat) : fieldV t j = fieldV t (runTo (goodK [3]) t j) :=
  fieldV_skip (run_ge _) (fun i h1 h2 => by
    obtain ⟨c, h3, h4⟩ := run_all j i h1 h2
    exact ⟨c, h3, space_notKey h4⟩)
theorem field_one {t : ByteArray} {j : Nat} {c : UInt8} (hc : t.data.toList[j]? = some c) (hp : keyB c = false) : fieldV t j = fieldV t (j + 1) :=
  fieldV_skip (Nat.le_succ _) (fun i h1 h2 => by
    obtain rfl : i = j := by omega
    exact ⟨c, hc, by unfold notKey; rw [hp]; rfl⟩)

theorem logNext_any (b : Nat) (ty : TypeId) (t : ByteArray) (k : Nat) (hk : k < t.size) (W : World) (h : RdX W b ty t k) :
    Calls Try.prog 46 #[.pointer (some ⟨b, 0, none⟩)] W fun e w' => (∃ x, e = .returned (.tuple #[.int .u8 x, .bool true])) ∧ RdX w' b ty t (k + 1) ∧ W.grownBy w' (some b) := by
  obtain ⟨cs, h⟩ := h
  obtain ⟨c, hc⟩ : ∃ c, t[k] = c := ⟨_, rfl⟩
  have PK := Lib.hid (peek_more b ty cs t k hk c hc W h)
  have HR := Lib.hid h
  have hsz := h.sz
  have hw : IntKind.i64.wrap ((k : Int) + 1) = ((k + 1 : Nat) : Int) := by rw [IntKind.wrap_i64]; omega
  clear h
  go_enter Try.func46, Try.ntmps46
  go_wp2_with fail
  refine PK.out.mono ?_
  rintro e w ⟨rfl, q, rfl⟩
  have R1 := HR.out.drewN q
  have c1 := R1.pos
  have f1 := R1.blk.frozen 1
  have R2 := Lib.hid (R1.to (j := k + 1) (by omega))
  clear R1 hc PK
  go_wp2
  go_ret2
  refine ⟨⟨_, rfl⟩, ⟨_, by first | exact R2.out | (have := R2.out; push_cast at this ⊢; exact this)⟩, ⟨rfl, rfl, rfl, by simp, fun i hi hne => Below.heap_setCell _ ⟨b, 1, none⟩ _ i (fun e => hne (by rw [e]))⟩⟩
theorem runSp_any (b : Nat) (ty : TypeId) (t : ByteArray) (k : Nat) (w : World) (hR : RdX w b ty t k) :
    Calls Try.prog 41 #[.pointer (some ⟨b, 0, none⟩), .slice (some ⟨w.heap.size, 0, none⟩) 1 1] (w.alloc (.cells ([3].map (Value.int .i64)).toArray 71)) fun e w' => (∃ s, e = .returned (.string s)) ∧ RdX w' b ty t (runTo (goodK [3]) t k) ∧ w.grownBy w' (some b) := by
  obtain ⟨cs, hR⟩ := hR
  have hlt := hR.lt
  have h := run_any b ty cs t k (some ⟨w.heap.size, 0, none⟩) 1 1 [3] (by decide) _ (hR.alloc (.cells ([3].map (Value.int .i64)).toArray 71)) (ints_lit w 71 [3] (by decide) _ rfl) (by intro a h; injection h with h; rw [← h]; show w.heap.size ≠ b; omega)
  exact h.mono fun e w' ⟨h1, h2, h3⟩ => ⟨⟨_, h1⟩, ⟨_, h2⟩, World.grownBy.trans (World.grownBy_alloc _ _ _) h3⟩
theorem takeE_any (b : Nat) (ty : TypeId) (t : ByteArray) (k : Nat) (w : World) (hR : RdX w b ty t k) :
    Calls Try.prog 56 #[.pointer (some ⟨b, 0, none⟩), .slice (some ⟨w.heap.size, 0, none⟩) 1 1] (w.alloc (.cells #[.string eqS] 9)) fun e w' => (∃ s, e = .returned (.tuple #[.string s, .bool (takeR t k [eqS]).isSome])) ∧ RdX w' b ty t (k + if (takeR t k [eqS]).isSome then 1 else 0) ∧ w.grownBy w' (some b) := by
  obtain ⟨cs, hR⟩ := hR
  have hlt := hR.lt
  have h := take_any b ty cs t k (some ⟨w.heap.size, 0, none⟩) 1 1 [eqS] (by decide) (by intro s hs; rw [List.mem_singleton.1 hs]; decide) _ (hR.alloc (.cells #[.string eqS] 9)) (one_text w eqS) (by intro a h; injection h with h; rw [← h]; show w.heap.size ≠ b; omega)
  cases ho : takeR t k [eqS] with
  | none =>
    rw [ho, takeTo_none ho] at h
    exact h.mono fun e w' ⟨h1, h2, h3⟩ => ⟨⟨_, h1⟩, ⟨_, h2⟩, World.grownBy.trans (World.grownBy_alloc _ _ _) h3⟩
  | some x =>
    rw [ho, takeTo_some ho, takeR_one ho] at h
    exact h.mono fun e w' ⟨h1, h2, h3⟩ => ⟨⟨_, h1⟩, ⟨_, h2⟩, World.grownBy.trans (World.grownBy_alloc _ _ _) h3⟩
set_option maxRecDepth 100000 in
set_option maxHeartbeats 1600000 in
theorem value_any (b : Nat) (ty : TypeId) (t : ByteArray) (k : Nat) (hs : t.size ≤ 16000000) (W : World) (hR : RdX W b ty t k) :
    Calls Try.prog 45 #[.pointer (some ⟨b, 0, none⟩)] W fun e w' => e = .returned (.string (valR t k).1) ∧ RdX w' b ty t (valR t k).2 ∧ W.grownBy w' (some b) := by
  have TK := takeE_any b ty t k W hR
  have hv : valR t k = (match takeR t k [eqS] with
    | some _ => if (quoR t (k + 1)).2.2 = true then (⟨(quoR t (k + 1)).1.toArray⟩, k + 1 + (quoR t (k + 1)).2.1) else (t.extract (k + 1) (runTo valB t (k + 1)), runTo valB t (k + 1))
    | none => (.empty, k)) := rfl
  obtain ⟨X, hX⟩ : ∃ X, valR t k = X := ⟨_, rfl⟩
  rw [hX] at hv ⊢
  cases ho : takeR t k [eqS] with
  | none =>
    rw [ho] at hv TK
    subst hv
    replace TK := Lib.hid TK
    clear hR ho hX
    go_enter Try.func45, Try.ntmps45
    go_wp2_with fail
    refine TK.out.mono ?_
    rintro e w1 ⟨⟨s, rfl⟩, hR1, hg1⟩
    have HE := Lib.hid (And.intro hR1 hg1)
    clear hR1 hg1
    go_wp2
    go_ret
    exact ⟨rfl, HE.out.1, HE.out.2⟩
  | some x =>
    rw [ho] at hv TK
    dsimp only at hv
    replace TK := Lib.hid TK
    have HV := Lib.hid hv
    clear hR ho hX hv
    go_enter Try.func45, Try.ntmps45
    go_wp2_with fail
    refine TK.out.mono ?_
    rintro e w1 ⟨⟨s, rfl⟩, hR1, hg1⟩
    obtain ⟨cs1, hR1⟩ := hR1
    have QT := quoted_any b ty cs1 t (k + 1) hs w1 hR1
    have HG1 := Lib.hid hg1
    have hqn := quo_none (t := t) (k := k + 1)
    have hv := HV.out
    obtain ⟨⟨l, m, ok⟩, hq⟩ : ∃ z, quoR t (k + 1) = z := ⟨_, rfl⟩
    rw [hq] at QT hqn hv
    dsimp only at hqn hv
    cases ok with
    | true =>
      rw [if_pos rfl] at hv
      subst hv
      replace QT := Lib.hid QT
      clear hq hR1 hg1 hqn TK
      go_wp2_with fail
      refine QT.out.mono ?_
      rintro e w2 ⟨rfl, hR2, hg2⟩
      have HE := Lib.hid (show RdX w2 b ty t (k + 1 + m) ∧ W.grownBy w2 (some b) from ⟨⟨_, hR2⟩, World.grownBy.trans HG1.out hg2⟩)
      clear hR2 hg2
      go_wp2
      go_ret
      exact ⟨rfl, HE.out.1, HE.out.2⟩
    | false =>
      rw [if_neg (by decide)] at hv
      have hm := hqn rfl
      subst hm
      replace QT := Lib.hid QT
      have HV2 := Lib.hid hv
      clear hq hR1 hg1 hqn TK hv
      go_wp2_with fail
      refine QT.out.mono ?_
      rintro e w2 ⟨rfl, hR2, hg2⟩
      have WH := Lib.hid (whileV_any b ty _ t (k + 1) w2 (by simpa using hR2))
      have HG2 := Lib.hid (World.grownBy.trans HG1.out hg2)
      clear hR2 hg2 QT
      go_wp2_with fail
      refine WH.out.mono ?_
      rintro e w3 ⟨rfl, hR3, hg3⟩
      have HE := Lib.hid (show RdX w3 b ty t (runTo valB t (k + 1)) ∧ W.grownBy w3 (some b) from ⟨⟨_, hR3⟩, World.grownBy.trans HG2.out hg3⟩)
      clear hR3 hg3
      go_wp2
      go_ret
      exact ⟨by rw [HV2.out]; rfl, by rw [HV2.out]; exact HE.out.1, HE.out.2⟩
theorem RdX.pos {w : World} {b : Nat} {ty : TypeId} {t : ByteArray} {k : Nat} (h : RdX w b ty t k) : w.cell? ⟨b, 1, none⟩ = some (.int .i64 (k : Int)) := let ⟨cs, hR⟩ := h; hR.pos
theorem logDone_any (b : Nat) (ty : TypeId) (t : ByteArray) (k : Nat) (W : World) (h : RdX W b ty t k) :
    Calls Try.prog 42 #[.pointer (some ⟨b, 0, none⟩)] W fun e w' => e = .returned (.bool ((k : Int) == (t.size : Int))) ∧ RdX w' b ty t k ∧ W.grownBy w' (some b) ∧ ∃ q, w' = W.drewN q := by
  obtain ⟨cs, hR⟩ := h
  refine (done_any b ty cs t k W hR).mono ?_
  rintro e w' ⟨rfl, q, rfl⟩
  exact ⟨rfl, ⟨_, hR.drewN q⟩, grown_drewN (World.grownBy.refl _ _) q, q, rfl⟩
theorem extract_none (t : ByteArray) (j : Nat) : t.extract j j = .empty := by
  apply ByteArray.ext
  simp
theorem empty_test {s : ByteArray} (h : 0 < s.size) : ¬ s.toList = [] ∧ s.toList.isEmpty = false := by
  have h1 : ¬ s.toList = [] := by
    rw [Lib.toList_data]
    intro h2
    have := size_toList s
    rw [h2] at this
    simp at this
    omega
  refine ⟨h1, ?_⟩
  cases h2 : s.toList.isEmpty with
  | false => rfl
  | true => exact absurd (List.isEmpty_iff.1 h2) h1
set_option maxRecDepth 100000 in
set_option maxHeartbeats 3200000 in
theorem field_any (b : Nat) (ty : TypeId) (t : ByteArray) (k : Nat) (hs : t.size ≤ 16000000) (W : World) (hR : RdX W b ty t k) :
    Calls Try.prog 26 #[.pointer (some ⟨b, 0, none⟩)] W fun e w' => e = .returned (.tuple #[.agg #[.string (fieldV t k).1.1, .string (fieldV t k).1.2], .bool (fieldV t k).2.1]) ∧ RdX w' b ty t (fieldV t k).2.2 ∧ W.grownBy w' (some b) := by
  have hlt : b < W.heap.size := by obtain ⟨cs, h⟩ := hR; exact h.lt
  have hkt : k ≤ t.size := by obtain ⟨cs, h⟩ := hR; exact h.le
  have hRa : RdX (W.alloc (.cells #[.string ⟨#[]⟩, .string ⟨#[]⟩] 39)) b ty t k := by obtain ⟨cs, h⟩ := hR; exact ⟨cs, h.alloc _⟩
  have RN := runSp_any b ty t k (W.alloc (.cells #[.string ⟨#[]⟩, .string ⟨#[]⟩] 39)) hRa
  have hz1 : (W.alloc (.cells #[.string ⟨#[]⟩, .string ⟨#[]⟩] 39)).heap.size = W.heap.size + 1 := by simp
  rw [hz1] at RN
  replace RN := Lib.hid RN
  have HB0 := Lib.hid (Blk.new W 39 #[.string ⟨#[]⟩, .string ⟨#[]⟩])
  obtain ⟨X, hX⟩ : ∃ X, fieldV t k = X := ⟨_, rfl⟩
  rw [hX]
  have HX := Lib.hid ((field_space t k).symm.trans hX)
  have hne : W.heap.size ≠ b := by omega
  clear hR hRa hz1 hX
  go_enter Try.func26, Try.ntmps26
  go_wp2_with fail
  refine RN.out.mono ?_
  rintro e w1 ⟨⟨s, rfl⟩, hR1, hg1⟩
  have HB1 := Lib.hid (HB0.out.kept hg1 hne)
  have HG1 := Lib.hid (World.grownBy.trans (World.grownBy_alloc W (.cells #[.string ⟨#[]⟩, .string ⟨#[]⟩] 39) (some b)) hg1)
  have HR1 := Lib.hid hR1
  clear hR1 hg1 RN HB0
  go_wp2
  go_loopw [] (fun wr => ∃ j, Hid (fieldV t j = X) ∧ Hid (RdX wr b ty t j) ∧ Hid (Blk wr W.heap.size 39 #[.string ⟨#[]⟩, .string ⟨#[]⟩]) ∧ Hid (W.grownBy wr (some b))) (fun wr => t.size - (intOf ((wr.cell? ⟨b, 1, none⟩).getD undef)).toNat)
  case atStart => exact ⟨_, HX, HR1, HB1, HG1⟩
  case round =>
    clear HX HR1 HB1 HG1
    obtain ⟨j, HX, HR, HB, HG⟩ := hrel
    have hjt : j ≤ t.size := by obtain ⟨cs, h⟩ := HR.out; exact h.le
    have DN := logDone_any b ty t j wr HR.out
    have HC := Lib.hid HR.out.pos
    by_cases hj : j < t.size
    · rw [show ((j : Int) == (t.size : Int)) = false by rw [beq_eq_false_iff_ne]; omega] at DN
      replace DN := Lib.hid DN
      obtain ⟨c, hc⟩ : ∃ c, t.data.toList[j]? = some c := ⟨_, List.getElem?_eq_getElem (by rw [size_toList]; exact hj)⟩
      have HCC := Lib.hid hc
      have HK := Lib.hid (show (keyB c = true ∧ j < runTo keyB t j) ∨ (keyB c = false ∧ runTo keyB t j = j) from by
        cases hkc : keyB c with
        | true =>
          refine .inl ⟨rfl, ?_⟩
          rw [run_step1 hc, if_pos hkc]
          exact Nat.lt_of_lt_of_le (Nat.lt_succ_self j) (run_ge _)
        | false => exact .inr ⟨rfl, by rw [run_step1 hc, if_neg (by rw [hkc]; decide)]⟩)
      clear hc
      go_wp2_with fail
      refine DN.out.mono ?_
      rintro e w2 ⟨rfl, hR2, hg2, q, hq⟩
      have HB2 := Lib.hid (show Blk w2 W.heap.size 39 #[.string ⟨#[]⟩, .string ⟨#[]⟩] from by rw [hq]; exact HB.out.drewN q)
      have HG2 := Lib.hid (World.grownBy.trans HG.out hg2)
      obtain ⟨cs2, hR2⟩ := hR2
      have WK := whileK_any b ty cs2 t j w2 hR2
      obtain ⟨j2, hj2⟩ : ∃ j2, runTo keyB t j = j2 := ⟨_, rfl⟩
      rw [hj2] at WK
      have hk := HK.out
      rw [hj2] at hk
      have hj2t : j2 ≤ t.size := by rw [← hj2]; exact runTo_le _ _ _ hjt
      have HJ2 := Lib.hid hj2
      replace WK := Lib.hid WK
      clear hR2 hg2 hq DN HB HG HR hj2 HK
      rcases hk with ⟨hkc, hjj⟩ | ⟨hkc, hjj⟩
      · have HE := Lib.hid (show X = ((t.extract j j2, (valR t j2).1), true, (valR t j2).2) from by rw [← HX.out, field_here HCC.out hj hkc, HJ2.out])
        have hes := empty_test (s := t.extract j j2) (by rw [ByteArray.size_extract]; omega)
        obtain ⟨key, hkey⟩ : ∃ s, t.extract j j2 = s := ⟨_, rfl⟩
        replace WK := WK.out
        replace HE := HE.out
        rw [hkey] at WK HE hes
        obtain ⟨he1, he2⟩ := hes
        have he3 : (!key.toList.isEmpty) = true := by rw [he2]; rfl
        replace WK := Lib.hid WK
        have HE := Lib.hid HE
        clear hkey
        go_wp2_with fail
        refine WK.out.mono ?_
        rintro e w3 ⟨rfl, hR3, hg3⟩
        have HB3 := Lib.hid (HB2.out.kept hg3 hne)
        have HG3 := Lib.hid (World.grownBy.trans HG2.out hg3)
        have VL := value_any b ty t j2 hs w3 ⟨_, hR3⟩
        obtain ⟨v, hv⟩ : ∃ v, (valR t j2).1 = v := ⟨_, rfl⟩
        rw [hv] at VL
        replace VL := Lib.hid VL
        have HV := Lib.hid hv
        clear hR3 hg3 WK HB2 HG2 hv
        go_wp2_with fail
        refine VL.out.mono ?_
        rintro e w4 ⟨rfl, hR4, hg4⟩
        have hB4 := HB3.out.kept hg4 hne
        have k0 : w4.cell? ⟨W.heap.size, 0, none⟩ = some (.string ⟨#[]⟩) := (hB4.cell 0).trans rfl
        have k1' : w4.cell? ⟨W.heap.size, 1, none⟩ = some (.string ⟨#[]⟩) := (hB4.cell 1).trans rfl
        have f0 := hB4.frozen 0
        have f1 := hB4.frozen 1
        have HB4 := Lib.hid hB4
        have HR4 := Lib.hid hR4
        have HG4 := Lib.hid (World.grownBy.trans HG3.out hg4)
        clear hB4 hR4 hg4 VL
        go_wp2
        (try simp only [Exit.inBlock, Exit.then])
        refine bodyPost_ret (results_row_tmp rfl _ _ W.heap.size 39 _ (0, 0) _ rfl ((HB4.out.set_ 0 (.string key)).set_ 1 (.string v)) Try.underlying39 rfl (by kernel_rfl)) rfl ?_
        refine ⟨by rw [HE.out, HV.out]; rfl, ?_, ?_⟩
        · rw [HE.out]
          obtain ⟨cs4, h4⟩ := HR4.out
          exact ⟨_, (h4.far (p := ⟨W.heap.size, 0, none⟩) (fun h => hne h.symm) _).far (p := ⟨W.heap.size, 1, none⟩) (fun h => hne h.symm) _⟩
        · exact grown_new (p := ⟨W.heap.size, 1, none⟩) (grown_new (p := ⟨W.heap.size, 0, none⟩) HG4.out (Nat.le_refl _) _) (Nat.le_refl _) _
      · subst hjj
        replace WK := WK.out
        rw [extract_none] at WK
        replace WK := Lib.hid WK
        have he : ByteArray.empty.toList = [] := by rw [Lib.toList_data]; rfl
        have he2 : ByteArray.empty.toList.isEmpty = true := by rw [he]; rfl
        have HX2 := Lib.hid (show fieldV t (runTo (goodK [3]) t (j2 + 1)) = X from by rw [← field_space, ← field_one HCC.out hkc]; exact HX.out)
        have HJL := Lib.hid (run_ge (p := goodK [3]) (t := t) (j2 + 1))
        go_wp2_with fail
        refine WK.out.mono ?_
        rintro e w3 ⟨rfl, hR3, hg3⟩
        have HB3 := Lib.hid (HB2.out.kept hg3 hne)
        have HG3 := Lib.hid (World.grownBy.trans HG2.out hg3)
        have NX := Lib.hid (logNext_any b ty t j2 hj w3 ⟨_, hR3⟩)
        clear hR3 hg3 WK HB2 HG2 he he2
        go_wp2_with fail
        refine NX.out.mono ?_
        rintro e w4 ⟨⟨x, rfl⟩, hR4, hg4⟩
        have HB4 := Lib.hid ((HB3.out.kept hg4 hne).alloc (.cells ([3].map (Value.int .i64)).toArray 71))
        have HB4' := Lib.hid (HB3.out.kept hg4 hne)
        have HG4 := Lib.hid (World.grownBy.trans HG3.out hg4)
        have RN := Lib.hid (runSp_any b ty t (j2 + 1) w4 hR4)
        clear hR4 hg4 NX HB3 HG3
        go_wp2_with fail
        refine RN.out.mono ?_
        rintro e w5 ⟨⟨s5, rfl⟩, hR5, hg5⟩
        have HB5 := Lib.hid (HB4'.out.kept hg5 hne)
        have HG5 := Lib.hid (World.grownBy.trans HG4.out hg5)
        have HR5 := Lib.hid hR5
        have hc5 := hR5.pos
        have HC5 := Lib.hid hc5
        clear hR5 hg5 RN hc5
        go_wp2
        go_round
        case rel => exact ⟨_, HX2, HR5, HB5, HG5⟩
        case measure =>
          rw [HC5.out, HC.out]
          simp [intOf]
          have := HJL.out
          omega
    · obtain rfl : j = t.size := by omega
      rw [show ((t.size : Int) == (t.size : Int)) = true by simp] at DN
      replace DN := Lib.hid DN
      have HE := Lib.hid (show X = (pnil, false, t.size) from by rw [← HX.out, field_end])
      go_wp2_with fail
      refine DN.out.mono ?_
      rintro e w2 ⟨rfl, hR2, hg2, q, hq⟩
      have hB2 : Blk w2 W.heap.size 39 #[.string ⟨#[]⟩, .string ⟨#[]⟩] := by rw [hq]; exact HB.out.drewN q
      have k0 : w2.cell? ⟨W.heap.size, 0, none⟩ = some (.string ⟨#[]⟩) := (hB2.cell 0).trans rfl
      have k1' : w2.cell? ⟨W.heap.size, 1, none⟩ = some (.string ⟨#[]⟩) := (hB2.cell 1).trans rfl
      have f0 := hB2.frozen 0
      have f1 := hB2.frozen 1
      have HG2 := Lib.hid (World.grownBy.trans HG.out hg2)
      have HR2 := Lib.hid hR2
      have HB2 := Lib.hid hB2
      clear hR2 hg2 hq DN hB2
      go_wp2
      (try simp only [Exit.inBlock, Exit.then])
      refine bodyPost_ret (results_row_tmp rfl _ _ W.heap.size 39 _ (0, 0) _ rfl ((HB2.out.set_ 0 (.string ⟨#[]⟩)).set_ 1 (.string ⟨#[]⟩)) Try.underlying39 rfl (by kernel_rfl)) rfl ?_
      refine ⟨by rw [HE.out]; rfl, ?_, ?_⟩
      · rw [HE.out]
        obtain ⟨cs4, h4⟩ := HR2.out
        exact ⟨_, (h4.far (p := ⟨W.heap.size, 0, none⟩) (fun h => hne h.symm) _).far (p := ⟨W.heap.size, 1, none⟩) (fun h => hne h.symm) _⟩
      · exact grown_new (p := ⟨W.heap.size, 1, none⟩) (grown_new (p := ⟨W.heap.size, 0, none⟩) HG2.out (Nat.le_refl _) _) (Nat.le_refl _) _
end Go.Proofs.Ytimmfmgnjpcdoaa
