/- The contract of the document's own answer to Behind: the same pieces, in order. -/
import Derived.Test.YtmdpdffifpbbeaaRefs
namespace Go.Proofs.Ytmdpdffifpbbeaa
open Go.RowKit
set_option linter.unusedVariables false

theorem pair_news1 (w : World) (t : TypeId) (a b : Value) : ∀ (j : Nat) (u : Value), [a, b][j]? = some u → (w.alloc (.cells #[a, b] t)).cell? ((⟨w.heap.size, 0, none⟩ : Addr).add j) = some u := by
  intro j u hj
  match j, hj with
  | 0, hj => simp at hj; subst hj; simp [Addr.add]
  | 1, hj => simp at hj; subst hj; simp [Addr.add]
theorem own_take36 {w : World} {B e : Nat} {v : Value} (asc : Bool) (ts : Int) (xs : List (Int × Int)) (k : Nat) (hk : k < xs.length) (x : Int × Int) (hx : x = xs.getD k (0, 0)) (hyes : may asc ts x = true)
    (h : w.ownsRow B e 2 v ((kept asc ts xs k).length + 1) (spanCells (kept asc ts xs k) ++ [.int .i64 x.1, .int .i64 x.2])) : w.ownsRow B e 2 v (kept asc ts xs (k + 1)).length (spanCells (kept asc ts xs (k + 1))) := by
  rw [kept_succ _ _ _ _ hk, ← hx, if_pos hyes, spanCells_app, List.length_append]
  simpa [spanCells] using h
theorem own_skip36 {w : World} {B e : Nat} {v : Value} (asc : Bool) (ts : Int) (xs : List (Int × Int)) (k : Nat) (hk : k < xs.length) (x : Int × Int) (hx : x = xs.getD k (0, 0)) (hno : ¬ may asc ts x = true)
    (h : w.ownsRow B e 2 v (kept asc ts xs k).length (spanCells (kept asc ts xs k))) : w.ownsRow B e 2 v (kept asc ts xs (k + 1)).length (spanCells (kept asc ts xs (k + 1))) := by
  rw [kept_succ _ _ _ _ hk, ← hx, if_neg hno, List.append_nil]
  exact h

set_option maxHeartbeats 400000 in
theorem refBehind_any (asc : Bool) (ts : Int) (A : Option Addr) (g n c : Nat) (xs : List (Int × Int)) (hl : xs.length = n) (hn : n ≤ 64) (W : World) (hA : 0 < n → A = some ⟨g, 0, none⟩ ∧ g < W.heap.size ∧ RowOf W g xs) :
    Calls Try.prog 14 #[.bool asc, .int .i64 ts, .slice A n c] W fun e w' => ∃ v, e = .returned v ∧ w'.ownsRow W.heap.size 36 2 v (xs.filter (may asc ts)).length (spanCells (xs.filter (may asc ts))) ∧ Below W.heap.size W w' := by
  obtain ⟨i0, hi, hz0, hz1, hz2⟩ := info_parts info36
  have HL := Lib.hid hl
  have HA := Lib.hid hA
  clear hl hA
  go_enter Try.func14, Try.ntmps14
  go_wp2
  go_loopw [7, 8] (fun v i wr => ∃ k : Nat, k ≤ n ∧ i = .int .i64 k ∧ wr.ownsRow W.heap.size 36 2 v (kept asc ts xs k).length (spanCells (kept asc ts xs k)) ∧ Below W.heap.size W wr) (fun _ i _ => n - (intOf i).toNat)
  case atStart => exact ⟨0, Nat.zero_le _, rfl, World.ownsRow_nil _ _ _ _, Below.refl _ _⟩
  case round =>
    obtain ⟨k, hk, rfl, hown, hbel⟩ := hrel
    by_cases hkn : k < n
    · obtain ⟨rfl, hg, hrow⟩ := HA.out (by omega)
      obtain ⟨c0, c1⟩ := (hrow.below hbel hg) k (by rw [HL.out]; exact hkn)
      obtain ⟨x, hx⟩ : ∃ x, x = xs.getD k (0, 0) := ⟨_, rfl⟩
      rw [← hx] at c0 c1
      have HX := Lib.hid hx
      clear hx hrow
      have hle := kept_le asc ts xs k
      rw [HL.out] at hle
      cases asc
      · have hsz := hbel.size
        by_cases hyes : x.1 ≤ ts
        · have hle2 : (kept false ts xs k).length ≤ 64 := by omega
          go_wp2_with (at_builtin; refine wpList_append_own _ rfl (.tmp 38) (.tmp 43) 31 rfl W.heap.size 36 i0 (.agg #[.int .i64 0, .int .i64 0]) 2 16 Try.underlying31 hi hz0 hz1 hz2 rfl (by decide) _ _ _ rfl (hown.alloc _) ⟨wr.heap.size, 0, none⟩ 1 1 [.int .i64 x.1, .int .i64 x.2] rfl rfl (pair_news1 _ _ _ _) (pair_one _ _) (by unfold maxLen; omega) (by omega) (by simp; omega) ?_)
          intro v' w1 hown' hgrow _
          have hbel' := (hbel.alloc hbel.size _).grown hgrow (by simp; omega) (fun r hr => (hown.lt r hr).1)
          have hown2 := own_take36 false ts xs k (by rw [HL.out]; exact hkn) x HX.out (by simpa [may] using hyes) hown'
          clear hown' hgrow hown hbel
          go_wp2
          go_roundw
          case rel => exact ⟨k + 1, by omega, by go_num, hown2, hbel'⟩
          case measure => simp [intOf]; omega
        · have hown2 := own_skip36 false ts xs k (by rw [HL.out]; exact hkn) x HX.out (by simpa [may] using hyes) hown
          clear hown
          go_wp2
          go_roundw
          case rel => exact ⟨k + 1, by omega, by go_num, hown2, hbel⟩
          case measure => simp [intOf]; omega
      · have hsz := hbel.size
        by_cases hyes : ts < x.2
        · have hle2 : (kept true ts xs k).length ≤ 64 := by omega
          go_wp2_with (at_builtin; refine wpList_append_own _ rfl (.tmp 38) (.tmp 43) 31 rfl W.heap.size 36 i0 (.agg #[.int .i64 0, .int .i64 0]) 2 16 Try.underlying31 hi hz0 hz1 hz2 rfl (by decide) _ _ _ rfl (hown.alloc _) ⟨wr.heap.size, 0, none⟩ 1 1 [.int .i64 x.1, .int .i64 x.2] rfl rfl (pair_news1 _ _ _ _) (pair_one _ _) (by unfold maxLen; omega) (by omega) (by simp; omega) ?_)
          intro v' w1 hown' hgrow _
          have hbel' := (hbel.alloc hbel.size _).grown hgrow (by simp; omega) (fun r hr => (hown.lt r hr).1)
          have hown2 := own_take36 true ts xs k (by rw [HL.out]; exact hkn) x HX.out (by simpa [may] using hyes) hown'
          clear hown' hgrow hown hbel
          go_wp2
          go_roundw
          case rel => exact ⟨k + 1, by omega, by go_num, hown2, hbel'⟩
          case measure => simp [intOf]; omega
        · have hown2 := own_skip36 true ts xs k (by rw [HL.out]; exact hkn) x HX.out (by simpa [may] using hyes) hown
          clear hown
          go_wp2
          go_roundw
          case rel => exact ⟨k + 1, by omega, by go_num, hown2, hbel⟩
          case measure => simp [intOf]; omega
    · obtain rfl : k = n := by omega
      go_wp2
      go_ret
      refine ⟨_, rfl, ?_, hbel⟩
      have e : kept asc ts xs k = xs.filter (may asc ts) := by unfold kept; rw [List.take_of_length_le (by rw [HL.out]; exact Nat.le_refl _)]
      rwa [e] at hown
end Go.Proofs.Ytmdpdffifpbbeaa
