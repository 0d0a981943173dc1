/- What a heap's calls do, told by what is in it in order. -/
import Derived.Test.YtlicnijhmncoeaaHeap2Pop
import Derived.Test.YtlicnijhmncoeaaHeap2New
import Derived.Test.YtlicnijhmncoeaaHeapOrd
namespace Go.Proofs.Ytlicnijhmncoeaa.T2
open Go.RowKit
set_option linter.unusedVariables false
set_option linter.unusedSimpArgs false

/-- at b stands a heap; what is in it, in order, is M -/
def HeapO (w : World) (b : Nat) (v : Value) (M : List (KeyP TwoX)) (came : Nat) : Prop := ∃ L, HeapSt w b v L came ∧ IsHeapP tenK L ∧ L.Perm M ∧ SortP tenK M
theorem HeapO.old {w : World} {b : Nat} {v : Value} {M : List (KeyP TwoX)} {came : Nat} (h : HeapO w b v M came) : ∀ y ∈ M, y.at_ < came := by
  obtain ⟨L, h1, h2, h3, h4⟩ := h
  exact fun y hy => h1.old y (h3.mem_iff.2 hy)
theorem HeapO.good {w : World} {b : Nat} {v : Value} {M : List (KeyP TwoX)} {came : Nat} (h : HeapO w b v M came) : ∀ y ∈ M, GoodT y.it := by
  obtain ⟨L, h1, h2, h3, h4⟩ := h
  exact fun y hy => h1.good y (h3.mem_iff.2 hy)
theorem HeapO.few {w : World} {b : Nat} {v : Value} {M : List (KeyP TwoX)} {came : Nat} (h : HeapO w b v M came) : M.length ≤ came ∧ came ≤ 1000000 := by
  obtain ⟨L, h1, h2, h3, h4⟩ := h
  rw [← h3.length_eq]
  exact ⟨h1.few, h1.less⟩
theorem HeapO.sort {w : World} {b : Nat} {v : Value} {M : List (KeyP TwoX)} {came : Nat} (h : HeapO w b v M came) : SortP tenK M := by
  obtain ⟨L, h1, h2, h3, h4⟩ := h
  exact h4
theorem HeapO.lt {w : World} {b : Nat} {v : Value} {M : List (KeyP TwoX)} {came : Nat} (h : HeapO w b v M came) : b < w.heap.size := by
  obtain ⟨L, h1, h2, h3, h4⟩ := h
  exact h1.blk.lt
theorem HeapO.own {w : World} {b : Nat} {v : Value} {M : List (KeyP TwoX)} {came : Nat} (h : HeapO w b v M came) : ∀ k, v.ownBlock = some k → b < k ∧ k < w.heap.size := by
  obtain ⟨L, h1, h2, h3, h4⟩ := h
  intro k hk
  have := World.ownsRow.lt h1.row k hk
  omega
theorem HeapO.below {w w' : World} {b : Nat} {v : Value} {M : List (KeyP TwoX)} {came : Nat} (h : HeapO w b v M came) (hb : Below w.heap.size w w') : HeapO w' b v M came := by
  obtain ⟨L, h1, h2, h3, h4⟩ := h
  exact ⟨L, h1.below hb, h2, h3, h4⟩
theorem HeapO.kept {w w' : World} {b : Nat} {v : Value} {M : List (KeyP TwoX)} {came : Nat} (h : HeapO w b v M came) (hb : w'.heap[b]? = w.heap[b]?) (hv : ∀ k, v.ownBlock = some k → w'.heap[k]? = w.heap[k]?) : HeapO w' b v M came := by
  obtain ⟨L, h1, h2, h3, h4⟩ := h
  exact ⟨L, h1.kept hb hv, h2, h3, h4⟩
theorem newO_any (A : Option Addr) (n c : Nat) (xs : List TwoX) (hn : xs.length = n) (hn6 : n ≤ 1000000) (w : World) (hx : IntsA w.heap.size (.slice none 0 0) w A xs) :
    Calls Try.prog 18 #[.func (.func 19) #[] #[], .slice A n c] w fun e w' => e = .returned (.pointer (some ⟨w.heap.size, 0, none⟩)) ∧ Below w.heap.size w w' ∧ ∃ v', HeapO w' w.heap.size v' (putP tenK 0 xs []) n := by
  refine (new_any A n c xs hn hn6 w hx).mono ?_
  rintro e w' ⟨v', L', he, hs, hp, hh, hb⟩
  exact ⟨he, hb, v', L', hs, hh, hp.trans (putP_perm tenK xs 0 []).symm, putP_sort tenK xs 0 [] List.Pairwise.nil (fun y hy => absurd hy List.not_mem_nil)⟩
theorem pushO_any (b : Nat) (v : Value) (M : List (KeyP TwoX)) (came : Nat) (A : Option Addr) (n c : Nat) (xs : List TwoX) (hn : xs.length = n) (hcm : came + n ≤ 1000000) (w : World) (h : HeapO w b v M came) (hx : IntsA b v w A xs) :
    Calls Try.prog 20 #[.pointer (some ⟨b, 0, none⟩), .slice A n c] w fun e w' => e = .returned (.tuple #[]) ∧ ∃ v', HeapO w' b v' (putP tenK came xs M) (came + n) ∧ HG b w v w' v' := by
  have ho := h.old
  obtain ⟨L, h1, h2, h3, h4⟩ := h
  refine (push_any b v L came A n c xs hn hcm w h1 h2 hx).mono ?_
  rintro e w' ⟨he, v', L', hs, hp, hh, hg⟩
  exact ⟨he, v', ⟨L', hs, hh, hp.trans ((h3.append_right _).trans (putP_perm tenK xs came M).symm), putP_sort tenK xs came M h4 ho⟩, hg⟩
theorem peekO_none (b : Nat) (v : Value) (came : Nat) (w : World) (h : HeapO w b v [] came) :
    Calls Try.prog 47 #[.pointer (some ⟨b, 0, none⟩)] w fun e w' => e = .returned (.tuple #[.agg #[.string .empty, .int .i64 0], .bool false]) ∧ Below w.heap.size w w' := by
  obtain ⟨L, h1, h2, h3, h4⟩ := h
  obtain rfl : L = [] := List.perm_nil.1 h3
  exact peek_none b v came w h1
theorem popO_none (b : Nat) (v : Value) (came : Nat) (w : World) (h : HeapO w b v [] came) :
    Calls Try.prog 23 #[.pointer (some ⟨b, 0, none⟩)] w fun e w' => e = .returned (.tuple #[.agg #[.string .empty, .int .i64 0], .bool false]) ∧ Below w.heap.size w w' := by
  obtain ⟨L, h1, h2, h3, h4⟩ := h
  obtain rfl : L = [] := List.perm_nil.1 h3
  exact pop_none b v came w h1
theorem peekO_any (b : Nat) (v : Value) (m : KeyP TwoX) (M : List (KeyP TwoX)) (came : Nat) (w : World) (h : HeapO w b v (m :: M) came) :
    Calls Try.prog 47 #[.pointer (some ⟨b, 0, none⟩)] w fun e w' => e = .returned (.tuple #[.agg #[.string m.it.s, .int .i64 m.it.n], .bool true]) ∧ Below w.heap.size w w' := by
  obtain ⟨L, h1, h2, h3, h4⟩ := h
  have h0 : 0 < L.length := by rw [h3.length_eq]; simp
  have := peek_any b v L came h0 w h1
  rwa [sort_first tenK h2 h3 h4] at this
theorem popO_any (b : Nat) (v : Value) (m : KeyP TwoX) (M : List (KeyP TwoX)) (came : Nat) (w : World) (h : HeapO w b v (m :: M) came) :
    Calls Try.prog 23 #[.pointer (some ⟨b, 0, none⟩)] w fun e w' => e = .returned (.tuple #[.agg #[.string m.it.s, .int .i64 m.it.n], .bool true]) ∧ ∃ v', HeapO w' b v' M came ∧ HG b w v w' v' := by
  obtain ⟨L, h1, h2, h3, h4⟩ := h
  have h0 : 0 < L.length := by rw [h3.length_eq]; simp
  refine (pop_any b v L came h0 w h1 h2).mono ?_
  rintro e w' ⟨he, v', L', hs, hp, hh, hg⟩
  have hr := sort_rest tenK h2 h3 h4 hp
  rw [sort_first tenK h2 h3 h4] at he
  exact ⟨he, v', ⟨L', hs, hh, hr, (List.pairwise_cons.1 h4).2⟩, hg⟩
theorem lenO_any (b : Nat) (v : Value) (M : List (KeyP TwoX)) (came : Nat) (w : World) (h : HeapO w b v M came) :
    Calls Try.prog 22 #[.pointer (some ⟨b, 0, none⟩)] w fun e w' => e = .returned (.int .i64 (M.length : Int)) ∧ w' = w := by
  obtain ⟨L, h1, h2, h3, h4⟩ := h
  have := len_any b v L came w h1
  rwa [h3.length_eq] at this
theorem manyO_any (b : Nat) (v : Value) (M : List (KeyP TwoX)) (came : Nat) (w : World) (h : HeapO w b v M came) :
    Calls Try.prog 46 #[.pointer (some ⟨b, 0, none⟩)] w fun e w' => e = .returned (.int .i64 (M.length : Int)) ∧ w' = w := by
  obtain ⟨L, h1, h2, h3, h4⟩ := h
  have := many_any b v L came w h1
  rwa [h3.length_eq] at this
theorem HeapO.over {w w' W : World} {b B : Nat} {v v' : Value} {M : List (KeyP TwoX)} {came : Nat} (h : HeapO w b v M came) (hB : B ≤ b) (hb : Below B W w) (hg : HG b w v w' v') : Below B W w' := by
  have h1 := hb.size
  have h2 := h.lt
  refine ⟨hg.os.trans hb.os, hg.tape.trans hb.tape, hg.output.trans hb.output, Nat.le_trans h1 hg.size, fun k hk => ?_⟩
  exact (hg.block k (by omega) (by omega) (fun e => by have := (h.own k e.symm).1; omega)).trans (hb.block k hk)
/-- the list that the call makes is none of the heap's -/
def ApartV (v lv : Value) : Prop := ∀ k, v.ownBlock = some k → lv.ownBlock ≠ some k
theorem OwnR.keptH {α : Type} {V : α → List Value} {s : Nat} {w w' : World} {B e b : Nat} {v v' lv : Value} {l : List α} (h : OwnR V s w B e lv l) (hg : HG b w v w' v') (hb : b < B) (ha : ApartV v lv) : OwnR V s w' B e lv l := by
  refine ⟨h.1, ?_⟩
  rcases h.2 with h0 | ⟨g, cap, cur, rfl, hbg, hh, x⟩
  · exact .inl h0
  · exact .inr ⟨g, cap, cur, rfl, hbg, (hg.block g (lt_of_block hh) (by omega) (fun e => ha g e.symm rfl)).trans hh, x⟩
theorem ApartV.keptR {α : Type} {V : α → List Value} {s : Nat} {w w' : World} {B e b : Nat} {v v' lv : Value} {l : List α} (ha : ApartV v lv) (h : OwnR V s w B e lv l) (hg : HG b w v w' v') : ApartV v' lv := by
  intro i hi hl
  rcases hg.own i hi with h1 | h1
  · exact ha i h1 hl
  · have := (World.ownsRow.lt h i hl).2
    omega
theorem HG.grown {b B : Nat} {w w1 w2 : World} {v v1 : Value} {row : Option Nat} (h : HG b w v w1 v1) (g : w1.grownBy w2 row) (hrow : ∀ k, row = some k → w.heap.size ≤ k) : HG b w v w2 v1 :=
  ⟨g.os.trans h.os, g.tape.trans h.tape, g.output.trans h.output, Nat.le_trans h.size g.size, fun k hk hkb hkv => by
    have h1 := h.size
    exact (g.block k (by omega) (fun e => by have := hrow k e.symm; omega)).trans (h.block k hk hkb hkv), h.own⟩
theorem HG.alloc {b : Nat} {w w1 : World} {v v1 : Value} (h : HG b w v w1 v1) (o : Obj) : HG b w v (w1.alloc o) v1 := h.trans (HG.of_below ((Below.refl _ _).alloc (Nat.le_refl _) o))
end Go.Proofs.Ytlicnijhmncoeaa.T2
