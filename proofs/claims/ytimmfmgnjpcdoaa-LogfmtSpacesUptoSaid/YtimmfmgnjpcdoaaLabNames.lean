/- The chapter's examples of labels are so.
   Names, byte by byte: the classes of a byte, and a name of so many bytes. -/
import Derived.Test.YtimmfmgnjpcdoaaLabParse
import Derived.Test.YtimmfmgnjpcdoaaLabWith
import Derived.Test.YtimmfmgnjpcdoaaLabText
import Derived.Test.YtimmfmgnjpcdoaaConv
import Derived.Laws.OwnMore
namespace Go.Proofs.Ytimmfmgnjpcdoaa
open Go.RowKit Go.Sort
set_option linter.unusedVariables false
set_option linter.unusedSimpArgs false

def ps4 : List PairB := [(⟨#[98]⟩, ⟨#[50]⟩), (⟨#[97]⟩, ⟨#[49]⟩), (⟨#[98]⟩, ⟨#[51]⟩), (⟨#[57]⟩, ⟨#[]⟩)]
def s2 : List PairB := [(⟨#[97]⟩, ⟨#[49]⟩), (⟨#[98]⟩, ⟨#[51]⟩)]
def tx2 : ByteArray := ⟨#[123, 97, 61, 34, 49, 34, 44, 98, 61, 34, 51, 34, 125]⟩
theorem le_of : ofL ps4 = s2 := by decide +kernel
theorem le_named : (namedL ps4).length < 20 := by decide +kernel
theorem le_get1 : getL s2 ⟨#[98]⟩ = some ⟨#[51]⟩ := by decide +kernel
theorem le_get2 : getL s2 ⟨#[99]⟩ = none := by decide +kernel
theorem le_text : ((⟨#[123]⟩ : ByteArray) ++ (⟨(joinB ⟨#[44]⟩ (s2.map partT)).toArray⟩ : ByteArray) ++ (⟨#[125]⟩ : ByteArray)) = tx2 := by decide +kernel
theorem le_parse : parseL (tx2 ++ (⟨#[120]⟩ : ByteArray)) = some (s2, 13) := by decide +kernel
theorem le_bad : parseL ⟨#[123, 98, 61, 34, 49, 34, 44, 97, 61, 34, 50, 34, 125]⟩ = none := by decide +kernel
theorem le_names : nameB ⟨#[97, 95, 57]⟩ = true ∧ nameB ⟨#[57, 97]⟩ = false ∧ nameB ⟨#[]⟩ = false := by decide +kernel
theorem le_right : rightB s2 = true := by decide +kernel
theorem le_with : (ofL (s2 ++ [(⟨#[99]⟩, ⟨#[]⟩)])).length = 3 := by decide +kernel
theorem le_with2 : (namedL (s2 ++ [(⟨#[99]⟩, ⟨#[]⟩)])).length < 20 := by decide +kernel
theorem le_order : orderL s2 [] = 1 := by decide +kernel
theorem pairs_lit (w : World) (ps : List PairB) (g : Nat) (hg : g = w.heap.size) : Pairs (w.alloc (.cells (pVs ps).toArray 39)) (some ⟨g, 0, none⟩) ps.length ps := by
  subst hg
  refine ⟨rfl, fun _ => ⟨_, 0, rfl, by simp, fun j hj => ?_⟩⟩
  have hb := Blk.new w 39 (pVs ps).toArray
  have h0 := pVs_at ps (j * 2) (by omega)
  have h1 := pVs_at ps (j * 2 + 1) (by omega)
  rw [show j * 2 / 2 = j by omega, show j * 2 % 2 = 0 by omega] at h0
  rw [show (j * 2 + 1) / 2 = j by omega, show (j * 2 + 1) % 2 = 1 by omega] at h1
  rw [Nat.zero_add, hb.cell, hb.cell, List.getElem?_toArray, List.getElem?_toArray, h0, h1]
  exact ⟨rfl, rfl⟩

end Go.Proofs.Ytimmfmgnjpcdoaa
namespace Go.Proofs.Ytimmfmgnjpcdoaa
open Go.RowKit
set_option linter.unusedVariables false
set_option linter.unusedSimpArgs false

theorem conv_x (w : World) (n : Nat) (h : n < 256) : (convert 22 9 (.slice (some ⟨w.heap.size, 0, none⟩) 2 2)).run Try.prog (w.alloc (.cells #[.int .u8 120, .int .u8 (n : Int)] 5)) = .ok (.string ⟨#[120, UInt8.ofNat n]⟩) (w.alloc (.cells #[.int .u8 120, .int .u8 (n : Int)] 5)) := by
  have h2 : (UInt8.ofNat n).toNat = n := by simp; omega
  have h3 := conv_own (own_new w [120, UInt8.ofNat n] 0 (Nat.zero_le _) (by simp))
  simpa [bV, h2] using h3

def lettB (r : Nat) : UInt8 := [97, 98, 99, 88, 89, 90, 48, 49, 57, 95].getD r 0
theorem lett_at (q : Nat) (h : q < 10) : (⟨#[97, 98, 99, 88, 89, 90, 48, 49, 57, 95]⟩ : ByteArray)[q]'(by exact h) = lettB q := by
  have : ∀ q : Fin 10, (⟨#[97, 98, 99, 88, 89, 90, 48, 49, 57, 95]⟩ : ByteArray)[q.1]'(by exact q.2) = lettB q.1 := by decide
  exact this ⟨q, h⟩

theorem good012' : ∀ n, n < 256 → goodK [0, 1, 2] (UInt8.ofNat n) = decide ((48 ≤ n ∧ n ≤ 57) ∨ (65 ≤ n ∧ n ≤ 90) ∨ n = 95 ∨ (97 ≤ n ∧ n ≤ 122)) := by decide +kernel
theorem good12' : ∀ n, n < 256 → goodK [1, 2] (UInt8.ofNat n) = decide ((65 ≤ n ∧ n ≤ 90) ∨ n = 95 ∨ (97 ≤ n ∧ n ≤ 122)) := by decide +kernel
theorem good0' : ∀ n, n < 256 → goodK [0] (UInt8.ofNat n) = decide (48 ≤ n ∧ n ≤ 57) := by decide +kernel
theorem name1' : ∀ n, n < 256 → nameB ⟨#[UInt8.ofNat n]⟩ = decide ((65 ≤ n ∧ n ≤ 90) ∨ n = 95 ∨ (97 ≤ n ∧ n ≤ 122)) := by decide +kernel
theorem name2' : ∀ n, n < 256 → nameB ⟨#[120, UInt8.ofNat n]⟩ = decide ((48 ≤ n ∧ n ≤ 57) ∨ (65 ≤ n ∧ n ≤ 90) ∨ n = 95 ∨ (97 ≤ n ∧ n ≤ 122)) := by decide +kernel
theorem of_toNat8 (c : UInt8) : UInt8.ofNat c.toNat = c := by simp
theorem good012 (c : UInt8) (n : Nat) (h : c.toNat = n) : goodK [0, 1, 2] c = decide ((48 ≤ n ∧ n ≤ 57) ∨ (65 ≤ n ∧ n ≤ 90) ∨ n = 95 ∨ (97 ≤ n ∧ n ≤ 122)) := by
  subst h
  have := good012' c.toNat c.toNat_lt
  rwa [of_toNat8] at this
theorem good0 (c : UInt8) (n : Nat) (h : c.toNat = n) : goodK [0] c = decide (48 ≤ n ∧ n ≤ 57) := by
  subst h
  have := good0' c.toNat c.toNat_lt
  rwa [of_toNat8] at this

/-- the test ahead of the loop -/
def startB (t : ByteArray) : Bool := decide (0 < t.size) && (decide (t.size ≤ 32) && t.data.toList.head?.all fun c => !goodK [0] c)
/-- the answer behind k bytes -/
def wantK (t : ByteArray) (k : Nat) : Bool := startB t && (t.data.toList.take k).all (goodK [0, 1, 2])
theorem want_zero (t : ByteArray) : wantK t 0 = startB t := by simp [wantK]
theorem want_all (t : ByteArray) : wantK t t.size = nameB t := by
  unfold wantK startB nameB
  rw [List.take_of_length_le (by rw [size_toList]; exact Nat.le_refl _)]
  simp only [Bool.and_assoc]
theorem want_next (t : ByteArray) (k : Nat) (h : k < t.size) : wantK t (k + 1) = (wantK t k && goodK [0, 1, 2] t[k]) := by
  unfold wantK
  have hsn : t.data.toList.take (k + 1) = t.data.toList.take k ++ [t[k]] := by
    rw [List.take_succ_eq_append_getElem (by rw [size_toList]; exact h)]
    rfl
  rw [hsn, List.all_append, List.all_cons, List.all_nil, Bool.and_true, Bool.and_assoc]
theorem start_none {t : ByteArray} (h : t.size = 0) : startB t = false := by unfold startB; rw [decide_eq_false (by omega)]; rfl
theorem start_long {t : ByteArray} (h : 32 < t.size) : startB t = false := by unfold startB; rw [decide_eq_true (by omega), decide_eq_false (by omega)]; rfl
theorem start_else {t : ByteArray} (h : 0 < t.size) (h2 : t.size ≤ 32) (n : Nat) (hn : t[0].toNat = n) : startB t = !decide (48 ≤ n ∧ n ≤ 57) := by
  obtain ⟨r, hr⟩ := bytes_at0 t h
  unfold startB
  rw [decide_eq_true h, decide_eq_true h2, hr, ← good0 t[0] n hn]
  simp
/-- a byte lies in one of eight places, as the tests ask of it -/
theorem ways8 (n : Nat) :
    (n < 97 ∧ n < 65 ∧ n < 48 ∧ ((n : Int) == 95) = false ∧ decide ((48 ≤ n ∧ n ≤ 57) ∨ (65 ≤ n ∧ n ≤ 90) ∨ n = 95 ∨ (97 ≤ n ∧ n ≤ 122)) = false ∧ decide ((65 ≤ n ∧ n ≤ 90) ∨ n = 95 ∨ (97 ≤ n ∧ n ≤ 122)) = false) ∨
    (n < 97 ∧ n < 65 ∧ 48 ≤ n ∧ (n : Int) ≤ 57 ∧ ((n : Int) == 95) = false ∧ decide ((48 ≤ n ∧ n ≤ 57) ∨ (65 ≤ n ∧ n ≤ 90) ∨ n = 95 ∨ (97 ≤ n ∧ n ≤ 122)) = true ∧ decide ((65 ≤ n ∧ n ≤ 90) ∨ n = 95 ∨ (97 ≤ n ∧ n ≤ 122)) = false) ∨
    (n < 97 ∧ n < 65 ∧ 48 ≤ n ∧ decide ((n : Int) ≤ 57) = false ∧ ((n : Int) == 95) = false ∧ decide ((48 ≤ n ∧ n ≤ 57) ∨ (65 ≤ n ∧ n ≤ 90) ∨ n = 95 ∨ (97 ≤ n ∧ n ≤ 122)) = false ∧ decide ((65 ≤ n ∧ n ≤ 90) ∨ n = 95 ∨ (97 ≤ n ∧ n ≤ 122)) = false) ∨
    (n < 97 ∧ 65 ≤ n ∧ (n : Int) ≤ 90 ∧ decide ((48 ≤ n ∧ n ≤ 57) ∨ (65 ≤ n ∧ n ≤ 90) ∨ n = 95 ∨ (97 ≤ n ∧ n ≤ 122)) = true ∧ decide ((65 ≤ n ∧ n ≤ 90) ∨ n = 95 ∨ (97 ≤ n ∧ n ≤ 122)) = true) ∨
    (n < 97 ∧ 65 ≤ n ∧ decide ((n : Int) ≤ 90) = false ∧ 48 ≤ n ∧ decide ((n : Int) ≤ 57) = false ∧ ((n : Int) == 95) = false ∧ decide ((48 ≤ n ∧ n ≤ 57) ∨ (65 ≤ n ∧ n ≤ 90) ∨ n = 95 ∨ (97 ≤ n ∧ n ≤ 122)) = false ∧ decide ((65 ≤ n ∧ n ≤ 90) ∨ n = 95 ∨ (97 ≤ n ∧ n ≤ 122)) = false) ∨
    (n < 97 ∧ 65 ≤ n ∧ decide ((n : Int) ≤ 90) = false ∧ 48 ≤ n ∧ decide ((n : Int) ≤ 57) = false ∧ ((n : Int) == 95) = true ∧ decide ((48 ≤ n ∧ n ≤ 57) ∨ (65 ≤ n ∧ n ≤ 90) ∨ n = 95 ∨ (97 ≤ n ∧ n ≤ 122)) = true ∧ decide ((65 ≤ n ∧ n ≤ 90) ∨ n = 95 ∨ (97 ≤ n ∧ n ≤ 122)) = true) ∨
    (97 ≤ n ∧ (n : Int) ≤ 122 ∧ decide ((48 ≤ n ∧ n ≤ 57) ∨ (65 ≤ n ∧ n ≤ 90) ∨ n = 95 ∨ (97 ≤ n ∧ n ≤ 122)) = true ∧ decide ((65 ≤ n ∧ n ≤ 90) ∨ n = 95 ∨ (97 ≤ n ∧ n ≤ 122)) = true) ∨
    (97 ≤ n ∧ decide ((n : Int) ≤ 122) = false ∧ 65 ≤ n ∧ decide ((n : Int) ≤ 90) = false ∧ 48 ≤ n ∧ decide ((n : Int) ≤ 57) = false ∧ ((n : Int) == 95) = false ∧ decide ((48 ≤ n ∧ n ≤ 57) ∨ (65 ≤ n ∧ n ≤ 90) ∨ n = 95 ∨ (97 ≤ n ∧ n ≤ 122)) = false ∧ decide ((65 ≤ n ∧ n ≤ 90) ∨ n = 95 ∨ (97 ≤ n ∧ n ≤ 122)) = false) := by
  rcases (by omega : n < 48 ∨ (48 ≤ n ∧ n ≤ 57) ∨ (57 < n ∧ n < 65) ∨ (65 ≤ n ∧ n ≤ 90) ∨ (90 < n ∧ n < 97 ∧ n ≠ 95) ∨ n = 95 ∨ (97 ≤ n ∧ n ≤ 122) ∨ 122 < n) with h | ⟨h, g⟩ | ⟨h, g⟩ | ⟨h, g⟩ | ⟨h, g, g2⟩ | h | ⟨h, g⟩ | h
  · exact .inl ⟨by omega, by omega, by omega, beq_eq_false_iff_ne.2 (by omega), decide_eq_false (by omega), decide_eq_false (by omega)⟩
  · exact .inr (.inl ⟨by omega, by omega, by omega, by omega, beq_eq_false_iff_ne.2 (by omega), decide_eq_true (by omega), decide_eq_false (by omega)⟩)
  · exact .inr (.inr (.inl ⟨by omega, by omega, by omega, decide_eq_false (by omega), beq_eq_false_iff_ne.2 (by omega), decide_eq_false (by omega), decide_eq_false (by omega)⟩))
  · exact .inr (.inr (.inr (.inl ⟨by omega, by omega, by omega, decide_eq_true (by omega), decide_eq_true (by omega)⟩)))
  · exact .inr (.inr (.inr (.inr (.inl ⟨by omega, by omega, decide_eq_false (by omega), by omega, decide_eq_false (by omega), beq_eq_false_iff_ne.2 (by omega), decide_eq_false (by omega), decide_eq_false (by omega)⟩))))
  · exact .inr (.inr (.inr (.inr (.inr (.inl ⟨by omega, by omega, decide_eq_false (by omega), by omega, decide_eq_false (by omega), beq_iff_eq.2 (by omega), decide_eq_true (by omega), decide_eq_true (by omega)⟩)))))
  · exact .inr (.inr (.inr (.inr (.inr (.inr (.inl ⟨by omega, by omega, decide_eq_true (by omega), decide_eq_true (by omega)⟩))))))
  · exact .inr (.inr (.inr (.inr (.inr (.inr (.inr ⟨by omega, decide_eq_false (by omega), by omega, decide_eq_false (by omega), by omega, decide_eq_false (by omega), beq_eq_false_iff_ne.2 (by omega), decide_eq_false (by omega), decide_eq_false (by omega)⟩))))))
theorem ways4 (n : Nat) (L K : Bool) (h1 : L = decide ((65 ≤ n ∧ n ≤ 90) ∨ n = 95 ∨ (97 ≤ n ∧ n ≤ 122))) (h2 : K = decide ((48 ≤ n ∧ n ≤ 57) ∨ (65 ≤ n ∧ n ≤ 90) ∨ n = 95 ∨ (97 ≤ n ∧ n ≤ 122))) :
    (L = true ∧ K = true) ∨ (L = false ∧ K = false ∧ n < 48) ∨ (L = false ∧ K = true ∧ 48 ≤ n ∧ (n : Int) ≤ 57) ∨ (L = false ∧ K = false ∧ 48 ≤ n ∧ decide ((n : Int) ≤ 57) = false) := by
  subst h1 h2
  rcases (by omega : n < 48 ∨ (48 ≤ n ∧ n ≤ 57) ∨ (57 < n ∧ ¬ ((65 ≤ n ∧ n ≤ 90) ∨ n = 95 ∨ (97 ≤ n ∧ n ≤ 122))) ∨ ((65 ≤ n ∧ n ≤ 90) ∨ n = 95 ∨ (97 ≤ n ∧ n ≤ 122))) with h | ⟨h, g⟩ | ⟨h, g⟩ | h
  · exact .inr (.inl ⟨decide_eq_false (by omega), decide_eq_false (by omega), h⟩)
  · exact .inr (.inr (.inl ⟨decide_eq_false (by omega), decide_eq_true (by omega), h, by omega⟩))
  · exact .inr (.inr (.inr ⟨decide_eq_false g, decide_eq_false (by omega), by omega, decide_eq_false (by omega)⟩))
  · exact .inl ⟨decide_eq_true h, decide_eq_true (.inr h)⟩
end Go.Proofs.Ytimmfmgnjpcdoaa
