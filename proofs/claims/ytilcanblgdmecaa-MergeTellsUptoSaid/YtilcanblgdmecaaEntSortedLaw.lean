/- The walk of the law EntrySorted: entries that were put in their order one by one are sorted. -/
import Derived.Test.YtilcanblgdmecaaEntBackMath
import Derived.Test.YtilcanblgdmecaaEntSortMath
import Derived.Laws.AppendOwnNone
namespace Go.Proofs.Ytilcanblgdmecaa
open Go.RowKit
set_option linter.unusedVariables false
set_option linter.unusedSimpArgs false

theorem OwnE.src {B B' : Nat} {w : World} {v : Value} {l : List EntX} (h : OwnE B w B' v l) (h0 : 0 < l.length) : ∃ g cap, v = .slice (some ⟨g, 0, none⟩) l.length cap ∧ B' ≤ g ∧ g < w.heap.size ∧ l.length ≤ cap ∧ (∀ (j i : Nat) (a : EntX), l[j]? = some a → i < 3 → w.cell? ⟨g, j * 3 + i, none⟩ = (EntX.V a)[i]?) := OwnR.at_ entV_len h.1 h0
theorem src_from {w : World} {g : Nat} {l : List EntX} (h : ∀ (j i : Nat) (a : EntX), l[j]? = some a → i < 3 → w.cell? ⟨g, j * 3 + i, none⟩ = (EntX.V a)[i]?) (k : Nat) : ∀ (j : Nat) (u : Value), (rowV EntX.V (l.drop k))[j]? = some u → w.cell? ((⟨g, k * 3, none⟩ : Addr).add j) = some u := by
  intro j u hu
  have hlt : j < (l.drop k).length * 3 := by
    rcases Nat.lt_or_ge j ((l.drop k).length * 3) with h1 | h1
    · exact h1
    · rw [List.getElem?_eq_none (by rw [rowV_len entV_len]; exact h1)] at hu; cases hu
  have hq : (l.drop k)[j / 3]? = some ((l.drop k).getD (j / 3) xnil) := by
    rw [List.getD_eq_getElem?_getD, List.getElem?_eq_getElem (by omega)]
    rfl
  have e := rowV_at entV_len (l.drop k) (j / 3) (j % 3) _ hq (by omega)
  rw [show j / 3 * 3 + j % 3 = j by omega, hu] at e
  rw [List.getElem?_drop] at hq
  have hc := h (k + j / 3) (j % 3) _ hq (by omega)
  rw [ints_add, show k * 3 + j = (k + j / 3) * 3 + j % 3 by omega, hc, e]
theorem src_upto {w : World} {g : Nat} {l : List EntX} (h : ∀ (j i : Nat) (a : EntX), l[j]? = some a → i < 3 → w.cell? ⟨g, j * 3 + i, none⟩ = (EntX.V a)[i]?) (k : Nat) : ∀ (j : Nat) (u : Value), (rowV EntX.V (l.take k))[j]? = some u → w.cell? ((⟨g, 0, none⟩ : Addr).add j) = some u := by
  have h2 := src_from (l := l.take k) (g := g) (w := w) (fun j i a hj hi => h j i a (by
    rw [List.getElem?_take] at hj
    split at hj
    · exact hj
    · cases hj) hi) 0
  rw [List.drop_zero, Nat.zero_mul] at h2
  exact h2

theorem own_made (w : World) (x : EntX) (o : Obj) (cp : Nat) (h1 : 1 ≤ cp) (h2 : cp ≤ maxLen) (B : Nat) (hB : B ≤ w.heap.size + 1) :
    OwnR EntX.V 3 ((w.alloc o).alloc (.cells (#[.int .i64 x.ts, .slice x.A x.n x.c, .string x.ln] ++ Builtin.zeroCells #[.int .i64 0, .slice none 0 0, .string ⟨#[]⟩] (cp - 1)) 26)).drew B 26 (.slice (some ⟨w.heap.size + 1, 0, none⟩) 1 cp) [x] := by
  refine ⟨rfl, .inr ⟨w.heap.size + 1, cp, _, rfl, hB, (blk_next w o _ _).drew, h1, h2, ?_, ?_⟩⟩
  · rw [Array.size_append, size_zeroCells]
    show 3 + (cp - 1) * 3 = cp * 3
    omega
  · rw [Array.toList_append]
    rfl

end Go.Proofs.Ytilcanblgdmecaa
