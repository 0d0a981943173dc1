/- The fields of a line: the walk of All. -/
import Derived.Test.YtimmfmgnjpcdoaaLogField
import Derived.Test.YtimmfmgnjpcdoaaLabOf
namespace Go.Proofs.Ytimmfmgnjpcdoaa
open Go.RowKit Go.Sort
set_option linter.unusedVariables false
set_option linter.unusedSimpArgs false

def okF (p : PairB) : Bool := nameB p.1 && decide (p.2.size ≤ 256)
def allR (t : ByteArray) : Nat → Nat → Nat → List PairB
  | 0, _, _ => []
  | f + 1, k, m => if m = 0 then [] else match fieldR t k with
    | none => []
    | some (p, j) => if okF p = true then p :: allR t f j (m - 1) else allR t f j m
/-- the fields of a line -/
def allF (t : ByteArray) : List PairB := allR t (t.size + 1) 0 64
theorem allR_succ (t : ByteArray) (f k m : Nat) : allR t (f + 1) k m = if m = 0 then [] else match fieldR t k with
    | none => []
    | some (p, j) => if okF p = true then p :: allR t f j (m - 1) else allR t f j m := rfl
theorem field_more {t : ByteArray} {k j : Nat} {p : PairB} (h : fieldR t k = some (p, j)) : k < j ∧ j ≤ t.size := by
  unfold fieldR at h
  split at h
  · next hlt =>
    obtain ⟨_, h2⟩ := Prod.mk.inj (Option.some.inj h)
    have h3 : k ≤ runTo notKey t k := run_ge k
    obtain ⟨c, hc⟩ : ∃ c, t.data.toList[runTo notKey t k]? = some c := ⟨_, List.getElem?_eq_getElem (by rw [size_toList]; exact hlt)⟩
    have hk : keyB c = true := by
      cases hkc : keyB c with
      | true => rfl
      | false =>
        have e1 : runTo notKey t (runTo notKey t k) = runTo notKey t k := by
          have h5 := run_skip (p := notKey) (t := t) (runTo notKey t k - k) k (fun i h1 h2 => run_all k i h1 (by omega))
          rw [show k + (runTo notKey t k - k) = runTo notKey t k by omega] at h5
          exact h5.symm
        have e2 := run_step1 (p := notKey) hc
        rw [e1, if_pos (by unfold notKey; rw [hkc]; rfl)] at e2
        have := run_ge (p := notKey) (t := t) (runTo notKey t k + 1)
        omega
    have h4 : runTo notKey t k < runTo keyB t (runTo notKey t k) := by
      rw [run_step1 (p := keyB) hc, if_pos hk]
      exact Nat.lt_of_lt_of_le (Nat.lt_succ_self _) (run_ge _)
    have h5 := valR_le t (runTo keyB t (runTo notKey t k)) (runTo_le _ _ _ (Nat.le_of_lt hlt))
    omega
  · cases h
theorem OwnP.keptB {w w' : World} {B : Nat} {v : Value} {l : List PairB} (h : OwnP w B v l) {b : Nat} (hg : w.grownBy w' (some b)) (hb : b < B) : OwnP w' B v l := by
  refine ⟨h.1, ?_⟩
  rcases h.2 with h0 | ⟨g, cap, cur, hv, hgB, hh, r⟩
  · exact .inl h0
  · exact .inr ⟨g, cap, cur, hv, hgB, (hg.block g (lt_of_block hh) (fun e => by injection e with e; omega)).trans hh, r⟩
theorem RdX.kept {w w' : World} {b : Nat} {ty : TypeId} {t : ByteArray} {k g : Nat} (h : RdX w b ty t k) (hg : w.grownBy w' (some g)) (hne : b ≠ g) : RdX w' b ty t k := by
  obtain ⟨cs, hR⟩ := h
  exact ⟨cs, hR.blk.kept hg hne, hR.c0, hR.c1, hR.le, hR.sz⟩
theorem RdX.kept2 {w w' : World} {b : Nat} {ty : TypeId} {t : ByteArray} {k : Nat} {row : Option Nat} (h : RdX w b ty t k) (hg : w.grownBy w' row) (hne : row ≠ some b) : RdX w' b ty t k := by
  obtain ⟨cs, hR⟩ := h
  exact ⟨cs, (hg.block b hR.blk.lt (fun e => hne e.symm)).trans hR.blk, hR.c0, hR.c1, hR.le, hR.sz⟩
theorem RdX.below' {w w' : World} {b : Nat} {ty : TypeId} {t : ByteArray} {k : Nat} (h : RdX w b ty t k) (hb : Below w.heap.size w w') : RdX w' b ty t k := let ⟨cs, hR⟩ := h; ⟨cs, hR.below hb hR.lt⟩
set_option maxRecDepth 100000 in
set_option maxHeartbeats 3200000 in
theorem all_any (t : ByteArray) (hs : t.size ≤ 16000000) (W : World) :
    Calls Try.prog 12 #[.string t] W fun e w' => ∃ v, e = .returned v ∧ OwnP w' W.heap.size v (allF t) ∧ Below W.heap.size W w' := by
  have h0 : W.heap.size ≤ W.heap.size := Nat.le_refl _
  obtain ⟨i0, hinf, hz0, hz1, hz2⟩ := info_parts infoPair
  obtain ⟨T, hT⟩ : ∃ T, allF t = T := ⟨_, rfl⟩
  rw [hT]
  have HT := Lib.hid (show ∃ f, t.size < f + 0 ∧ [] ++ allR t f 0 (64 - ([] : List PairB).length) = T from ⟨t.size + 1, by omega, hT⟩)
  clear hT
  go_enter Try.func12, Try.ntmps12
  go_wp2_with fail
  refine (of_any t _).mono ?_
  rintro e w1 ⟨rfl, hb1⟩
  have hs1 := hb1.size
  obtain ⟨b, hbb⟩ : ∃ b, w1.heap.size = b := ⟨_, rfl⟩
  have hbW : W.heap.size ≤ b := by omega
  have HR0 := Lib.hid (show RdX (w1.alloc (.cells #[.string t, .int .i64 0] 59)) b 59 t 0 from ⟨_, by rw [← hbb]; exact Blk.new w1 _ _, rfl, rfl, Nat.zero_le _, by omega⟩)
  have HB0 := Lib.hid (show Below W.heap.size W (w1.alloc (.cells #[.string t, .int .i64 0] 59)) from hb1.alloc hs1 _)
  have hz : (w1.alloc (.cells #[.string t, .int .i64 0] 59)).heap.size = b + 1 := by simp [hbb]
  have HZ := Lib.hid (Nat.le_of_eq hz.symm)
  clear hz hb1
  go_wp2
  clear hbb hs1
  obtain ⟨w2, hw2⟩ : ∃ z, w1.alloc (.cells #[.string t, .int .i64 0] 59) = z := ⟨_, rfl⟩
  replace HR0 := HR0.out
  replace HB0 := HB0.out
  replace HZ := HZ.out
  rw [hw2] at HR0 HB0 HZ ⊢
  replace HR0 := Lib.hid HR0
  replace HB0 := Lib.hid HB0
  replace HZ := Lib.hid HZ
  clear hw2
  go_loopw [3] (fun sv wr => ∃ (l : List PairB) (k : Nat), l.length ≤ 64 ∧ Hid (OwnP wr (b + 1) sv l) ∧ Hid (RdX wr b 59 t k) ∧ Hid (∃ f, t.size < f + k ∧ l ++ allR t f k (64 - l.length) = T) ∧ Hid (Below W.heap.size W wr) ∧ Hid (b + 1 ≤ wr.heap.size)) (fun _ wr => t.size - (intOf ((wr.cell? ⟨b, 1, none⟩).getD undef)).toNat)
  case atStart => exact ⟨[], 0, by decide, Lib.hid (OwnP.nil _ _), HR0, HT, HB0, HZ⟩
  case round =>
    clear HR0 HT HB0 HZ
    obtain ⟨l, k, hl, HO, HR, HT, HB, HZ⟩ := hrel
    have hkt : k ≤ t.size := by obtain ⟨cs, h⟩ := HR.out; exact h.le
    obtain ⟨A, cap, hv, hnc, _⟩ := HO.out.pairs
    subst hv
    obtain ⟨n, hn⟩ : ∃ n, l.length = n := ⟨_, rfl⟩
    have HN := Lib.hid hn
    rw [hn] at hl ⊢
    replace HO := HO.out
    rw [hn] at HO
    replace HO := Lib.hid HO
    clear hnc hn
    by_cases hlt : n < 64
    · have hltI : (n : Int) < 64 := by omega
      have FD := field_any b 59 t k hs wr HR.out
      have hstep : (∃ f, t.size < (f + 1) + k ∧ l ++ (match fieldR t k with
          | none => []
          | some (p, j) => if okF p = true then p :: allR t f j (64 - n - 1) else allR t f j (64 - n)) = T) := by
        obtain ⟨f, hf, he⟩ := HT.out
        obtain ⟨f2, rfl⟩ : ∃ f2, f = f2 + 1 := ⟨f - 1, by omega⟩
        refine ⟨f2, hf, ?_⟩
        rw [allR_succ, HN.out, if_neg (by omega)] at he
        exact he
      have HC := Lib.hid HR.out.pos
      cases hfr : fieldR t k with
      | none =>
        rw [hfr] at hstep
        have HE := Lib.hid (show l = T from by obtain ⟨f, _, he⟩ := hstep; rw [← he, List.append_nil])
        have hfv : fieldV t k = (pnil, false, t.size) := by unfold fieldV; rw [hfr]
        rw [hfv] at FD
        replace FD := Lib.hid FD
        clear hfr hfv hstep
        go_wp2_with fail
        refine FD.out.mono ?_
        rintro e w3 ⟨rfl, hR3, hg3⟩
        have HO3 := Lib.hid (HO.out.keptB hg3 (Nat.lt_succ_self b))
        have HB3 := Lib.hid (HB.out.grown hg3 HB.out.size (fun r hr => by injection hr with hr; omega))
        clear hR3 hg3 FD
        go_wp2
        go_ret
        exact ⟨_, rfl, by rw [← HE.out]; exact ((HO3.out.alloc _).mono (by omega)), HB3.out.alloc HB3.out.size _⟩
      | some pj =>
        obtain ⟨⟨p1, p2⟩, j⟩ := pj
        rw [hfr] at hstep
        have HST := Lib.hid hstep
        have hmore := field_more hfr
        have hfv : fieldV t k = ((p1, p2), true, j) := by unfold fieldV; rw [hfr]
        rw [hfv] at FD
        replace FD := Lib.hid FD
        clear hfr hfv hstep
        go_wp2_with fail
        refine FD.out.mono ?_
        rintro e w3 ⟨rfl, hR3, hg3⟩
        have HO3 := Lib.hid (HO.out.keptB hg3 (Nat.lt_succ_self b))
        have hb3 := HB.out.grown hg3 HB.out.size (fun r hr => by injection hr with hr; omega)
        have hz3 : b + 1 ≤ w3.heap.size := Nat.le_trans HZ.out hg3.size
        have hs3 := hb3.size
        have B1 := Blk.new w3 39 #[.string p1, .string p2]
        have HB1 := Lib.hid B1
        have HR4 := Lib.hid (hR3.kept2 (World.grownBy_alloc w3 (.cells #[.string p1, .string p2] 39) none) (by simp))
        have HO4 := Lib.hid (HO3.out.alloc (.cells #[.string p1, .string p2] 39))
        have HB4 := Lib.hid (hb3.alloc hs3 (.cells #[.string p1, .string p2] 39))
        obtain ⟨g, hg⟩ : ∃ g, w3.heap.size = g := ⟨_, rfl⟩
        have hz4 : (w3.alloc (.cells #[.string p1, .string p2] 39)).heap.size = g + 1 := by simp [hg]
        obtain ⟨w4, hw4⟩ : ∃ z, w3.alloc (.cells #[.string p1, .string p2] 39) = z := ⟨_, rfl⟩
        replace HB1 := HB1.out
        replace HR4 := HR4.out
        replace HO4 := HO4.out
        replace HB4 := HB4.out
        rw [hw4, hg] at HB1
        rw [hw4] at HR4 HO4 HB4 hz4
        have e1 : w4.cell? ⟨g, 0, none⟩ = some (.string p1) := (HB1.cell 0).trans rfl
        have e2 : w4.cell? ⟨g, 1, none⟩ = some (.string p2) := (HB1.cell 1).trans rfl
        have hgl : g < w4.heap.size := by omega
        replace HB1 := Lib.hid HB1
        replace HR4 := Lib.hid HR4
        replace HO4 := Lib.hid HO4
        replace HB4 := Lib.hid HB4
        have hzb : b + 1 ≤ w4.heap.size := by omega
        have NM := Lib.hid (fun w => name_any p1 w)
        have HM := Lib.hid hmore
        clear B1 hb3 hs3 hR3 hg3 FD HO3 hmore hz3 hz4
        go_wp2_with fail
        try rw [hw4]
        refine (NM.out _).mono ?_
        rintro e w5 ⟨rfl, hx⟩
        have f1 : w5.cell? ⟨g, 0, none⟩ = some (.string p1) := (hx.cell (p := ⟨g, 0, none⟩) hgl).trans e1
        have f2 : w5.cell? ⟨g, 1, none⟩ = some (.string p2) := (hx.cell (p := ⟨g, 1, none⟩) hgl).trans e2
        have HR5 := Lib.hid (HR4.out.below' hx)
        have HO5 := Lib.hid (HO4.out.below hx)
        have hb5 := hop HB4.out h0 hx
        have HB5 := Lib.hid hb5
        have hz5 : b + 1 ≤ w5.heap.size := Nat.le_trans hzb hx.size
        have HC5 := Lib.hid HR5.out.pos
        have HLL := Lib.hid (show l.length = n from HN.out)
        clear e1 e2 hx HR4 HO4 HB4 NM HB1 hgl hb5 HO HR HB HT hzb
        cases hnb : nameB p1 with
        | false =>
          have HOK := Lib.hid (show okF (p1, p2) = false by unfold okF; rw [hnb]; rfl)
          have HN2 := Lib.hid (show ∃ f, t.size < f + j ∧ l ++ allR t f j (64 - l.length) = T from by
            obtain ⟨f, hf, he⟩ := HST.out
            rw [HOK.out, if_neg (by decide)] at he
            exact ⟨f, by have := HM.out; omega, by rw [HN.out]; exact he⟩)
          clear hnb
          go_wp2
          go_round
          case rel => exact ⟨l, j, by rw [HLL.out]; omega, HO5, HR5, HN2, HB5, Lib.hid hz5⟩
          case measure =>
            rw [HC5.out, HC.out]
            simp [intOf]
            have := HM.out
            omega
        | true =>
          by_cases hv : p2.size ≤ 256
          · have hvI : (p2.size : Int) ≤ 256 := by omega
            have HN2 := Lib.hid (show ∃ f, t.size < f + j ∧ (l ++ [(p1, p2)]) ++ allR t f j (64 - (n + 1)) = T from by
              obtain ⟨f, hf, he⟩ := HST.out
              rw [show okF (p1, p2) = true by unfold okF; rw [hnb, decide_eq_true hv]; rfl, if_pos rfl] at he
              exact ⟨f, by have := HM.out; omega, by rw [List.append_assoc]; exact he⟩)
            have hown := HO5.out
            have hb5 := HB5.out
            have hs5 := hb5.size
            have hw5 : OwnP w5 (b + 1) (.slice A n cap) l := hown
            unfold OwnP at hown
            rw [HLL.out] at hown
            clear hnb
            go_wp2_with (at_builtin; refine wpList_append_own _ rfl (.tmp 28) (.tmp 30) 26 rfl (b + 1) 39 i0 (.agg #[.string ⟨#[]⟩, .string ⟨#[]⟩]) 2 32 Try.underlying26 hinf hz0 hz1 hz2 rfl (by decide) _ _ _ rfl (World.ownsRow.alloc hown _) ⟨w5.heap.size, 0, none⟩ 1 1 (pairV (p1, p2)) rfl rfl (new_cells_at _ _ _ _ (by simp)) (pairV_one _) (by unfold maxLen; omega) (by omega) (by simp; omega) ?_)
            intro v' w6 hown' hgrow _
            have hb6 := (hb5.alloc hs5 (.cells #[.string p1, .string p2] 39)).grown hgrow (by simp; omega) (fun r hr => Nat.le_trans (by omega) (World.ownsRow.lt hown r hr).1)
            have hown6 : OwnP w6 (b + 1) v' (l ++ [(p1, p2)]) := OwnP.snoc (p := (p1, p2)) (by rw [HLL.out]; exact hown')
            have hR6 := (HR5.out.kept2 (World.grownBy_alloc w5 (.cells #[.string p1, .string p2] 39) none) (by simp)).kept2 hgrow (fun e => by have := (World.ownsRow.lt hown b e).1; omega)
            have HO6 := Lib.hid hown6
            have HB6 := Lib.hid hb6
            have HR6 := Lib.hid hR6
            have HC6 := Lib.hid hR6.pos
            have HZ6 := Lib.hid (show b + 1 ≤ w6.heap.size from Nat.le_trans hz5 (Nat.le_trans (by simp) hgrow.size))
            clear hown' hgrow hown hw5 hb5 hs5 hb6 hown6 hR6
            go_wp2
            go_round
            case rel => exact ⟨l ++ [(p1, p2)], j, by rw [List.length_append, List.length_singleton, HLL.out]; omega, HO6, HR6, Lib.hid (by rw [List.length_append, List.length_singleton, HLL.out]; exact HN2.out), HB6, HZ6⟩
            case measure =>
              rw [HC6.out, HC.out]
              simp [intOf]
              have := HM.out
              omega
          · have hvI : ¬ (p2.size : Int) ≤ 256 := by omega
            have HOK := Lib.hid (show okF (p1, p2) = false by unfold okF; rw [decide_eq_false hv, Bool.and_false])
            have HN2 := Lib.hid (show ∃ f, t.size < f + j ∧ l ++ allR t f j (64 - l.length) = T from by
              obtain ⟨f, hf, he⟩ := HST.out
              rw [HOK.out, if_neg (by decide)] at he
              exact ⟨f, by have := HM.out; omega, by rw [HN.out]; exact he⟩)
            clear hnb
            go_wp2
            go_round
            case rel => exact ⟨l, j, by rw [HLL.out]; omega, HO5, HR5, HN2, HB5, Lib.hid hz5⟩
            case measure =>
              rw [HC5.out, HC.out]
              simp [intOf]
              have := HM.out
              omega
    · obtain rfl : n = 64 := by omega
      have HE := Lib.hid (show l = T from by
        obtain ⟨f, _, he⟩ := HT.out
        rw [HN.out] at he
        cases f with
        | zero => rw [← he]; simp [allR]
        | succ f => rw [← he, allR_succ, if_pos rfl, List.append_nil])
      go_wp2
      go_ret
      exact ⟨_, rfl, by rw [← HE.out]; exact HO.out.mono (by omega), HB.out⟩
end Go.Proofs.Ytimmfmgnjpcdoaa
