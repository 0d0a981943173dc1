/- What is put as fields is read as fields, wherever it stands; spaces ahead are gone by. No walk. -/
import Derived.Test.YtimmfmgnjpcdoaaLogOf
import Derived.Test.YtimmfmgnjpcdoaaLogPut
import Derived.Test.YtimmfmgnjpcdoaaLabBackMath
namespace Go.Proofs.Ytimmfmgnjpcdoaa
open Go.RowKit
set_option linter.unusedVariables false
set_option linter.unusedSimpArgs false

theorem good_key {c : UInt8} (h : goodK [0, 1, 2] c = true) : keyB c = true := by
  have hc := c.toNat_lt
  have h1 : ∀ n : Fin 256, goodK [0, 1, 2] (UInt8.ofNat n.val) = true → keyB (UInt8.ofNat n.val) = true := by decide +kernel
  have h2 := h1 ⟨c.toNat, hc⟩
  have e : UInt8.ofNat c.toNat = c := by simp
  simp only [e] at h2
  exact h2 h
theorem eq_key : keyB 61 = false := by decide
theorem run_key (t : ByteArray) (k : Nat) (nm r : List UInt8) (hn : ∀ c ∈ nm, goodK [0, 1, 2] c = true) (h : atL t k = nm ++ 61 :: r) : runTo keyB t k = k + nm.length := by
  rw [run_at, h]
  congr 1
  have e : (nm ++ 61 :: r).takeWhile keyB = nm := by
    clear h
    induction nm with
    | nil => rw [List.nil_append, List.takeWhile_cons_of_neg (by rw [eq_key]; decide)]
    | cons c nm ih =>
      rw [List.cons_append, List.takeWhile_cons_of_pos (good_key (hn c List.mem_cons_self)), ih (fun d hd => hn d (List.mem_cons_of_mem _ hd))]
  rw [e]
theorem named_pos {p : PairB} (h : nameB p.1 = true) : ∃ c r, p.1.data.toList = c :: r := by
  unfold nameB at h
  simp only [Bool.and_eq_true] at h
  have h1 : 0 < p.1.size := of_decide_eq_true h.1
  cases e : p.1.data.toList with
  | nil =>
    have := size_toList p.1
    rw [e] at this
    simp at this
    omega
  | cons c r => exact ⟨c, r, rfl⟩
/-- a put label at k: the field that is read there -/
theorem field_put {t : ByteArray} {k : Nat} {p : PairB} {x : List UInt8} (hn : nameB p.1 = true) (h : atL t k = partL p ++ x) : fieldR t k = some (p, k + (partL p).length) := by
  have hg := named_good hn
  have h1 : atL t k = p.1.data.toList ++ 61 :: (putB p.2.data.toList ++ x) := by
    rw [h]
    unfold partL
    simp
  have hr := run_key t k _ _ hg h1
  obtain ⟨c, r, hc⟩ := named_pos hn
  have hk : k < t.size := by
    rcases Nat.lt_or_ge k t.size with hk | hk
    · exact hk
    · rw [at_end t k hk, hc] at h1
      cases h1
  have hck : t.data.toList[k]? = some c := by
    have e : (atL t k)[0]? = some c := by rw [h1, hc]; rfl
    unfold atL at e
    rw [List.getElem?_drop] at e
    exact e
  have hkb : keyB c = true := good_key (hg c (by rw [hc]; exact List.mem_cons_self))
  have hnk : runTo notKey t k = k := by
    rw [run_step1 hck, if_neg (by unfold notKey; rw [hkb]; decide)]
  have h2 : atL t (k + p.1.data.toList.length) = 61 :: (putB p.2.data.toList ++ x) := at_add t k _ _ h1
  have h3 : atL t (k + p.1.data.toList.length + 1) = putB p.2.data.toList ++ x := at_add t _ [61] _ h2
  have hq : quoR t (k + p.1.data.toList.length + 1) = (p.2.data.toList, (putB p.2.data.toList).length, true) := by
    rw [quo_at, h3, get_back]
  have hv : valR t (k + p.1.data.toList.length) = (p.2, k + (partL p).length) := by
    unfold valR
    rw [show eqS = (⟨#[61]⟩ : ByteArray) from rfl, takeR_byte, h2]
    rw [List.head?_cons, if_pos rfl]
    dsimp only
    rw [hq]
    dsimp only
    rw [if_pos rfl, partL_len]
    congr 1
    omega
  have hx : t.extract k (k + p.1.data.toList.length) = p.1 := by
    have e := run_tx keyB t k
    rw [hr] at e
    rw [e, h1]
    have e2 : (p.1.data.toList ++ 61 :: (putB p.2.data.toList ++ x)).takeWhile keyB = p.1.data.toList := by
      have e3 := hr
      rw [run_at, h1] at e3
      have e4 : ((p.1.data.toList ++ 61 :: (putB p.2.data.toList ++ x)).takeWhile keyB).length = p.1.data.toList.length := by omega
      have e5 := List.takeWhile_prefix keyB (l := p.1.data.toList ++ 61 :: (putB p.2.data.toList ++ x))
      exact (List.prefix_of_prefix_length_le e5 (List.prefix_append _ _) (by omega)).eq_of_length e4
    rw [e2]
    rfl
  unfold fieldR
  rw [hnk, if_pos hk, hr, hv, hx]
/-- put labels at k, and spaces between: the fields -/
theorem all_put (t : ByteArray) : ∀ (ps : List PairB) (k f m : Nat) (x : List UInt8), (∀ p ∈ ps, nameB p.1 = true ∧ p.2.size ≤ 256) → ps ≠ [] → ps.length ≤ m → ps.length ≤ f → atL t k = Lib.join (ps.map partL) [32] ++ x →
    allR t f k m = ps ++ allR t (f - ps.length) (k + (Lib.join (ps.map partL) [32]).length) (m - ps.length)
  | [], k, f, m, x, hp, h0, hm, hf, h => absurd rfl h0
  | p :: ps, k, f, m, x, hp, h0, hm, hf, h => by
    obtain ⟨f2, rfl⟩ : ∃ f2, f = f2 + 1 := ⟨f - 1, by rw [List.length_cons] at hf; omega⟩
    have hp1 := hp p List.mem_cons_self
    rw [List.length_cons] at hm hf
    cases ps with
    | nil =>
      rw [List.map_cons, List.map_nil, Lib.join_one] at h ⊢
      rw [allR_succ, if_neg (by omega), field_put hp1.1 h]
      dsimp only
      rw [if_pos (by unfold okF; rw [hp1.1, decide_eq_true hp1.2]; rfl)]
      rfl
    | cons q r =>
      have hj : Lib.join ((p :: q :: r).map partL) [32] = partL p ++ ([32] ++ Lib.join ((q :: r).map partL) [32]) := by
        rw [List.map_cons, List.map_cons, Lib.join_cons, Lib.join_cons]
        simp [Lib.joinTail]
      rw [hj] at h ⊢
      have h1 : atL t k = partL p ++ (32 :: (Lib.join ((q :: r).map partL) [32] ++ x)) := by rw [h]; simp
      have h2 := at_add t k _ _ h1
      have h3 : atL t (k + (partL p).length + 1) = Lib.join ((q :: r).map partL) [32] ++ x := at_add t _ [32] _ h2
      rw [allR_succ, if_neg (by omega), field_put hp1.1 h1]
      dsimp only
      rw [if_pos (by unfold okF; rw [hp1.1, decide_eq_true hp1.2]; rfl)]
      have hsp : allR t f2 (k + (partL p).length) (m - 1) = allR t f2 (k + (partL p).length + 1) (m - 1) := by
        have hc : t.data.toList[k + (partL p).length]? = some 32 := by
          have e : (atL t (k + (partL p).length))[0]? = some 32 := by rw [h2]; rfl
          unfold atL at e
          rw [List.getElem?_drop] at e
          exact e
        cases f2 with
        | zero => rfl
        | succ f3 =>
          rw [allR_succ, allR_succ]
          have e : fieldR t (k + (partL p).length) = fieldR t (k + (partL p).length + 1) := field_skip (Nat.le_succ _) (fun i i1 i2 => by
            obtain rfl : i = k + (partL p).length := by omega
            exact ⟨32, hc, by decide⟩)
          rw [e]
      rw [hsp, all_put t (q :: r) (k + (partL p).length + 1) f2 (m - 1) x (fun z hz => hp z (List.mem_cons_of_mem _ hz)) (by simp) (by simp at hm ⊢; omega) (by simp at hf ⊢; omega) h3]
      have e1 : f2 - (q :: r).length = f2 + 1 - (p :: q :: r).length := by simp only [List.length_cons]; omega
      have e2 : m - 1 - (q :: r).length = m - (p :: q :: r).length := by simp only [List.length_cons]; omega
      have e3 : k + (partL p).length + 1 + (Lib.join ((q :: r).map partL) [32]).length = k + (partL p ++ ([32] ++ Lib.join ((q :: r).map partL) [32])).length := by
        rw [List.length_append, List.length_append]
        simp only [List.length_cons, List.length_nil]
        omega
      rw [e1, e2, e3]
      rfl
end Go.Proofs.Ytimmfmgnjpcdoaa
