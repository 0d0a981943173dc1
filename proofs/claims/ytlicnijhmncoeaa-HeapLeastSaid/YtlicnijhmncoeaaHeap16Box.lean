/- What a heap's calls do, told by what is in it in order. -/
import Derived.Test.YtlicnijhmncoeaaHeap16Pop
import Derived.Test.YtlicnijhmncoeaaHeap16New
import Derived.Test.YtlicnijhmncoeaaHeapOrd
namespace Go.Proofs.Ytlicnijhmncoeaa.I16
open Go.RowKit
set_option linter.unusedVariables false
set_option linter.unusedSimpArgs false

/-- at b stands a heap; what is in it, in order, is M -/
def HeapO (w : World) (b : Nat) (v : Value) (M : List (KeyP Int)) (came : Nat) : Prop := ∃ L, HeapSt w b v L came ∧ IsHeapP tenK L ∧ L.Perm M ∧ SortP tenK M
theorem HeapO.old {w : World} {b : Nat} {v : Value} {M : List (KeyP Int)} {came : Nat} (h : HeapO w b v M came) : ∀ y ∈ M, y.at_ < came := by
  obtain ⟨L, h1, h2, h3, h4⟩ := h
  exact fun y hy => h1.old y (h3.mem_iff.2 hy)
theorem HeapO.good {w : World} {b : Nat} {v : Value} {M : List (KeyP Int)} {came : Nat} (h : HeapO w b v M came) : ∀ y ∈ M, -32768 ≤ y.it ∧ y.it ≤ 32767 := by
  obtain ⟨L, h1, h2, h3, h4⟩ := h
  exact fun y hy => h1.good y (h3.mem_iff.2 hy)
theorem HeapO.few {w : World} {b : Nat} {v : Value} {M : List (KeyP Int)} {came : Nat} (h : HeapO w b v M came) : M.length ≤ came ∧ came ≤ 1000000 := by
  obtain ⟨L, h1, h2, h3, h4⟩ := h
  rw [← h3.length_eq]
  exact ⟨h1.few, h1.less⟩
theorem HeapO.sort {w : World} {b : Nat} {v : Value} {M : List (KeyP Int)} {came : Nat} (h : HeapO w b v M came) : SortP tenK M := by
  obtain ⟨L, h1, h2, h3, h4⟩ := h
  exact h4
theorem HeapO.lt {w : World} {b : Nat} {v : Value} {M : List (KeyP Int)} {came : Nat} (h : HeapO w b v M came) : b < w.heap.size := by
  obtain ⟨L, h1, h2, h3, h4⟩ := h
  exact h1.blk.lt
theorem HeapO.own {w : World} {b : Nat} {v : Value} {M : List (KeyP Int)} {came : Nat} (h : HeapO w b v M came) : ∀ k, v.ownBlock = some k → b < k ∧ k < w.heap.size := by
  obtain ⟨L, h1, h2, h3, h4⟩ := h
  intro k hk
  have := World.ownsRow.lt h1.row k hk
  omega
theorem HeapO.below {w w' : World} {b : Nat} {v : Value} {M : List (KeyP Int)} {came : Nat} (h : HeapO w b v M came) (hb : Below w.heap.size w w') : HeapO w' b v M came := by
  obtain ⟨L, h1, h2, h3, h4⟩ := h
  exact ⟨L, h1.below hb, h2, h3, h4⟩
theorem HeapO.kept {w w' : World} {b : Nat} {v : Value} {M : List (KeyP Int)} {came : Nat} (h : HeapO w b v M came) (hb : w'.heap[b]? = w.heap[b]?) (hv : ∀ k, v.ownBlock = some k → w'.heap[k]? = w.heap[k]?) : HeapO w' b v M came := by
  obtain ⟨L, h1, h2, h3, h4⟩ := h
  refine ⟨L, ⟨hb.trans h1.blk, ?_, h1.good, h1.old, h1.few, h1.less⟩, h2, h3, h4⟩
  refine ⟨h1.row.1, ?_⟩
  rcases h1.row.2 with h0 | ⟨g, cap, cur, rfl, hg, hh, x⟩
  · exact .inl h0
  · exact .inr ⟨g, cap, cur, rfl, hg, (hv g rfl).trans hh, x⟩
theorem newO_any (A : Option Addr) (n c : Nat) (xs : List Int) (hn : xs.length = n) (hn6 : n ≤ 1000000) (w : World) (hx : IntsA w.heap.size (.slice none 0 0) w A xs) :
    Calls Try.prog 29 #[.func (.func 30) #[] #[], .slice A n c] w fun e w' => e = .returned (.pointer (some ⟨w.heap.size, 0, none⟩)) ∧ Below w.heap.size w w' ∧ ∃ v', HeapO w' w.heap.size v' (putP tenK 0 xs []) n := by
  refine (new_any A n c xs hn hn6 w hx).mono ?_
  rintro e w' ⟨v', L', he, hs, hp, hh, hb⟩
  exact ⟨he, hb, v', L', hs, hh, hp.trans (putP_perm tenK xs 0 []).symm, putP_sort tenK xs 0 [] List.Pairwise.nil (fun y hy => absurd hy List.not_mem_nil)⟩
theorem pushO_any (b : Nat) (v : Value) (M : List (KeyP Int)) (came : Nat) (A : Option Addr) (n c : Nat) (xs : List Int) (hn : xs.length = n) (hcm : came + n ≤ 1000000) (w : World) (h : HeapO w b v M came) (hx : IntsA b v w A xs) :
    Calls Try.prog 31 #[.pointer (some ⟨b, 0, none⟩), .slice A n c] w fun e w' => e = .returned (.tuple #[]) ∧ ∃ v', HeapO w' b v' (putP tenK came xs M) (came + n) ∧ HG b w v w' v' := by
  have ho := h.old
  obtain ⟨L, h1, h2, h3, h4⟩ := h
  refine (push_any b v L came A n c xs hn hcm w h1 h2 hx).mono ?_
  rintro e w' ⟨he, v', L', hs, hp, hh, hg⟩
  exact ⟨he, v', ⟨L', hs, hh, hp.trans ((h3.append_right _).trans (putP_perm tenK xs came M).symm), putP_sort tenK xs came M h4 ho⟩, hg⟩
theorem peekO_none (b : Nat) (v : Value) (came : Nat) (w : World) (h : HeapO w b v [] came) :
    Calls Try.prog 32 #[.pointer (some ⟨b, 0, none⟩)] w fun e w' => e = .returned (.tuple #[.int .i16 0, .bool false]) ∧ w' = w := by
  obtain ⟨L, h1, h2, h3, h4⟩ := h
  obtain rfl : L = [] := List.perm_nil.1 h3
  exact peek_none b v came w h1
theorem popO_none (b : Nat) (v : Value) (came : Nat) (w : World) (h : HeapO w b v [] came) :
    Calls Try.prog 33 #[.pointer (some ⟨b, 0, none⟩)] w fun e w' => e = .returned (.tuple #[.int .i16 0, .bool false]) ∧ w' = w := by
  obtain ⟨L, h1, h2, h3, h4⟩ := h
  obtain rfl : L = [] := List.perm_nil.1 h3
  exact pop_none b v came w h1
theorem peekO_any (b : Nat) (v : Value) (m : KeyP Int) (M : List (KeyP Int)) (came : Nat) (w : World) (h : HeapO w b v (m :: M) came) :
    Calls Try.prog 32 #[.pointer (some ⟨b, 0, none⟩)] w fun e w' => e = .returned (.tuple #[.int .i16 m.it, .bool true]) ∧ w' = w := by
  obtain ⟨L, h1, h2, h3, h4⟩ := h
  have h0 : 0 < L.length := by rw [h3.length_eq]; simp
  have := peek_any b v L came h0 w h1
  rwa [sort_first tenK h2 h3 h4] at this
theorem popO_any (b : Nat) (v : Value) (m : KeyP Int) (M : List (KeyP Int)) (came : Nat) (w : World) (h : HeapO w b v (m :: M) came) :
    Calls Try.prog 33 #[.pointer (some ⟨b, 0, none⟩)] w fun e w' => e = .returned (.tuple #[.int .i16 m.it, .bool true]) ∧ ∃ v', HeapO w' b v' M came ∧ HG b w v w' v' := by
  obtain ⟨L, h1, h2, h3, h4⟩ := h
  have h0 : 0 < L.length := by rw [h3.length_eq]; simp
  refine (pop_any b v L came h0 w h1 h2).mono ?_
  rintro e w' ⟨he, v', L', hs, hp, hh, hg⟩
  have hr := sort_rest tenK h2 h3 h4 hp
  rw [sort_first tenK h2 h3 h4] at he
  exact ⟨he, v', ⟨L', hs, hh, hr, (List.pairwise_cons.1 h4).2⟩, hg⟩
theorem lenO_any (b : Nat) (v : Value) (M : List (KeyP Int)) (came : Nat) (w : World) (h : HeapO w b v M came) :
    Calls Try.prog 34 #[.pointer (some ⟨b, 0, none⟩)] w fun e w' => e = .returned (.int .i64 (M.length : Int)) ∧ w' = w := by
  obtain ⟨L, h1, h2, h3, h4⟩ := h
  have := len_any b v L came w h1
  rwa [h3.length_eq] at this
theorem manyO_any (b : Nat) (v : Value) (M : List (KeyP Int)) (came : Nat) (w : World) (h : HeapO w b v M came) :
    Calls Try.prog 60 #[.pointer (some ⟨b, 0, none⟩)] w fun e w' => e = .returned (.int .i64 (M.length : Int)) ∧ w' = w := by
  obtain ⟨L, h1, h2, h3, h4⟩ := h
  have := many_any b v L came w h1
  rwa [h3.length_eq] at this
theorem IntsA.of {b : Nat} {v : Value} {w : World} {A : Option Addr} {n : Nat} {xs : List Int} (h : Ints .i16 w A n xs) (ha : 0 < n → ∀ g o, A = some ⟨g, o, none⟩ → g < w.heap.size → g ≠ b ∧ some g ≠ v.ownBlock) : IntsA b v w A xs := by
  refine ⟨fun x hx => ?_, fun h0 => ?_⟩
  · have := bdi16 (h.2.1 x hx)
    exact this
  · obtain ⟨g, o, rfl, hlt, hc⟩ := h.2.2 (by rw [← h.1]; exact h0)
    obtain ⟨h1, h2⟩ := ha (by rw [← h.1]; exact h0) g o rfl hlt
    exact ⟨g, o, rfl, hlt, h1, h2, fun j hj => hc j (by rw [← h.1]; exact hj)⟩
theorem IntsA.old_ {b : Nat} {v : Value} {W w : World} {A : Option Addr} {n : Nat} {xs : List Int} (h : Ints .i16 W A n xs) (hb : Below W.heap.size W w) (hW : W.heap.size ≤ b) (hv : ∀ k, v.ownBlock = some k → b < k) : IntsA b v w A xs := by
  refine IntsA.of (h.below hb) (fun hn g o hA _ => ?_)
  obtain ⟨g', o', h1, h2, _⟩ := h.2.2 hn
  rw [hA] at h1
  injection h1 with h1
  injection h1 with h1
  exact ⟨by omega, fun e => by have := hv g e.symm; omega⟩
theorem HeapO.over {w w' W : World} {b B : Nat} {v v' : Value} {M : List (KeyP Int)} {came : Nat} (h : HeapO w b v M came) (hB : B ≤ b) (hb : Below B W w) (hg : HG b w v w' v') : Below B W w' := by
  have h1 := hb.size
  have h2 := h.lt
  refine ⟨hg.os.trans hb.os, hg.tape.trans hb.tape, hg.output.trans hb.output, Nat.le_trans h1 hg.size, fun k hk => ?_⟩
  exact (hg.block k (by omega) (by omega) (fun e => by have := (h.own k e.symm).1; omega)).trans (hb.block k hk)
end Go.Proofs.Ytlicnijhmncoeaa.I16
