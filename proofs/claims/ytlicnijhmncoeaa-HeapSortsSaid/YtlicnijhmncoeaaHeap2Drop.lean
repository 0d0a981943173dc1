/- The last item of a heap let go of: the walk of drop. -/
import Derived.Test.YtlicnijhmncoeaaHeap2Peek
namespace Go.Proofs.Ytlicnijhmncoeaa.T2
open Go.RowKit
set_option linter.unusedVariables false
set_option linter.unusedSimpArgs false

def dropW (w : World) (b g m : Nat) (v : Value) : World := (((w.setCell ⟨g, m * 3, none⟩ (.string ⟨#[]⟩)).setCell ⟨g, m * 3 + 1, none⟩ (.int .i64 0)).setCell ⟨g, m * 3 + 2, none⟩ (.int .i64 0)).setCell ⟨b, 0, none⟩ v
theorem drop_state {b g cap came m : Nat} {L : List (KeyP TwoX)} {cur : Array Value} {w : World} (h : HeapSt w b (.slice (some ⟨g, 0, none⟩) L.length cap) L came) (hm1 : m + 1 = L.length) (hg : b + 1 ≤ g) (hB : Blk w g 103 cur) (hc : L.length ≤ cap) (hm : cap ≤ maxLen) (hs : cur.size = cap * 3)
    (hcl : ∀ j, j < L.length → cur[j * 3]? = some (.string (getP L j).it.s) ∧ cur[j * 3 + 1]? = some (.int .i64 (getP L j).it.n) ∧ cur[j * 3 + 2]? = some (.int .i64 ((getP L j).at_ : Int))) :
    HeapSt (dropW w b g m (.slice (some ⟨g, 0, none⟩) m cap)) b (.slice (some ⟨g, 0, none⟩) m cap) (L.take m) came ∧ HG b w (.slice (some ⟨g, 0, none⟩) L.length cap) (dropW w b g m (.slice (some ⟨g, 0, none⟩) m cap)) (.slice (some ⟨g, 0, none⟩) m cap) := by
  have hgb : b ≠ g := by omega
  have hlen : (L.take m).length = m := by rw [List.length_take]; omega
  refine ⟨⟨?_, ?_, fun x hx => h.good x (List.mem_of_mem_take hx), fun x hx => h.old x (List.mem_of_mem_take hx), by rw [hlen]; have := h.few; omega, h.less⟩, ?_⟩
  · have B3 := ((((h.blk.far (p := ⟨g, m * 3, none⟩) hgb (.string ⟨#[]⟩)).far (p := ⟨g, m * 3 + 1, none⟩) hgb (.int .i64 0)).far (p := ⟨g, m * 3 + 2, none⟩) hgb (.int .i64 0)).set_ 0 (.slice (some ⟨g, 0, none⟩) m cap))
    simpa [dropW] using B3
  · have B3 := (((hB.set_ (m * 3) (.string ⟨#[]⟩)).set_ (m * 3 + 1) (.int .i64 0)).set_ (m * 3 + 2) (.int .i64 0)).far (p := ⟨b, 0, none⟩) (Ne.symm hgb) (.slice (some ⟨g, 0, none⟩) m cap)
    have key := own_shut (L := L.take m) hg B3 (by rw [hlen]; omega) hm (by rw [Array.size_setIfInBounds, Array.size_setIfInBounds, Array.size_setIfInBounds]; exact hs) (fun j hj => by
      rw [hlen] at hj
      obtain ⟨q1, q2, q3⟩ := hcl j (by omega)
      have sz : m * 3 + 2 < cur.size := by omega
      have key3 : ∀ p, p < m * 3 → (((cur.setIfInBounds (m * 3) (.string ⟨#[]⟩)).setIfInBounds (m * 3 + 1) (.int .i64 0)).setIfInBounds (m * 3 + 2) (.int .i64 0))[p]? = cur[p]? := fun p hp => by
        rw [set_at _ _ _ _ (by rw [Array.size_setIfInBounds, Array.size_setIfInBounds]; exact sz), set_at _ _ _ _ (by rw [Array.size_setIfInBounds]; omega), set_at _ _ _ _ (by omega), if_neg (by omega), if_neg (by omega), if_neg (by omega)]
      rw [getP_take hj, key3 _ (by omega), key3 _ (by omega), key3 _ (by omega)]
      exact ⟨q1, q2, q3⟩)
    rw [hlen] at key
    exact key
  · refine ⟨rfl, rfl, rfl, by simp [dropW], fun k hk hkb hkv => ?_, fun k hk => .inl hk⟩
    have hkg : k ≠ g := fun e => hkv (by rw [e]; rfl)
    exact (Below.heap_setCell _ _ _ k hkb).trans ((Below.heap_setCell _ _ _ k hkg).trans ((Below.heap_setCell _ _ _ k hkg).trans (Below.heap_setCell _ _ _ k hkg)))

set_option maxRecDepth 100000 in
set_option maxHeartbeats 1600000 in
theorem drop_any (b : Nat) (v : Value) (L : List (KeyP TwoX)) (came : Nat) (hL : 0 < L.length) (w : World) (h : HeapSt w b v L came) :
    Calls Try.prog 49 #[.pointer (some ⟨b, 0, none⟩)] w fun e w' => e = .returned (.tuple #[]) ∧ ∃ v', HeapSt w' b v' (L.take (L.length - 1)) came ∧ HG b w v w' v' := by
  obtain ⟨g, cap, cur, hv, hg, hB, hc, hm, hs, hcl⟩ := own_open h.row hL
  subst hv
  have hfew := h.few
  have hless := h.less
  obtain ⟨m, hm1⟩ : ∃ m, m + 1 = L.length := ⟨L.length - 1, by omega⟩
  have HF := Lib.hid (drop_state h hm1 hg hB hc hm hs hcl)
  have c0 : w.cell? ⟨b, 0, none⟩ = some (.slice (some ⟨g, 0, none⟩) L.length cap) := (h.blk.cell 0).trans rfl
  have hgb : b ≠ g := by omega
  obtain ⟨i1, i2, i3⟩ := hcl m (by omega)
  have ci1 : w.cell? ⟨g, m * 3, none⟩ = some (.string (getP L m).it.s) := (hB.cell (m * 3)).trans i1
  have ci2 : w.cell? ⟨g, m * 3 + 1, none⟩ = some (.int .i64 (getP L m).it.n) := (hB.cell (m * 3 + 1)).trans i2
  have ci3 : w.cell? ⟨g, m * 3 + 2, none⟩ = some (.int .i64 ((getP L m).at_ : Int)) := (hB.cell (m * 3 + 2)).trans i3
  have fi1 := hB.frozen (m * 3)
  have fi2 := hB.frozen (m * 3 + 1)
  have fi3 := hB.frozen (m * 3 + 2)
  have f0 := h.blk.frozen 0
  have hmI : (L.length : Int) - 1 = (m : Int) := by omega
  have hmn : L.length - 1 = m := by omega
  rw [hmn]
  obtain ⟨n, hn⟩ : ∃ n, L.length = n := ⟨_, rfl⟩
  rw [hn] at c0 hmI HF hc hm1 hL
  rw [hn]
  have hn1 : n ≤ 1000000 := by omega
  have hmn' : (m : Int) < (n : Int) := by omega
  clear h hB hs hcl hn hfew hless i1 i2 i3 hmn
  go_enter Try.func49, Try.ntmps49
  go_wp2
  refine bodyPost_end (results_none rfl _ _ _) rfl ?_
  exact ⟨rfl, _, HF.out⟩
end Go.Proofs.Ytlicnijhmncoeaa.T2
