import Derived.Test.YtmdpdffifpbbeaaAll
namespace Go.Proofs.Ytmdpdffifpbbeaa
open Go.RowKit

def RowOf (w : World) (g : Nat) (xs : List (Int × Int)) : Prop :=
  ∀ i, i < xs.length → w.cell? ⟨g, i * 2, none⟩ = some (.int .i64 (xs.getD i (0, 0)).1) ∧ w.cell? ⟨g, i * 2 + 1, none⟩ = some (.int .i64 (xs.getD i (0, 0)).2)
theorem RowOf.below {w w' : World} {g B : Nat} {xs : List (Int × Int)} (h : RowOf w g xs) (hb : Below B w w') (hg : g < B) : RowOf w' g xs := fun i hi => by
  obtain ⟨a, b⟩ := h i hi
  exact ⟨(hb.cell (p := ⟨g, i * 2, none⟩) hg).trans a, (hb.cell (p := ⟨g, i * 2 + 1, none⟩) hg).trans b⟩
theorem RowOf.blk {w : World} {g : Nat} {xs : List (Int × Int)} (h : Blk w g 35 (spanCells xs).toArray) : RowOf w g xs := fun i hi => by
  obtain ⟨a, b⟩ := cells_at xs i hi
  exact ⟨(h.cell _).trans a, (h.cell _).trans b⟩

def may (asc : Bool) (ts : Int) (p : Int × Int) : Bool := if asc then decide (ts < p.2) else decide (p.1 ≤ ts)
def kept (asc : Bool) (ts : Int) (xs : List (Int × Int)) (k : Nat) : List (Int × Int) := (xs.take k).filter (may asc ts)
theorem kept_le (asc : Bool) (ts : Int) (xs : List (Int × Int)) (k : Nat) : (kept asc ts xs k).length ≤ xs.length := by
  unfold kept
  exact Nat.le_trans (List.length_filter_le _ _) (by rw [List.length_take]; omega)
theorem kept_succ (asc : Bool) (ts : Int) (xs : List (Int × Int)) (k : Nat) (h : k < xs.length) :
    kept asc ts xs (k + 1) = kept asc ts xs k ++ if may asc ts (xs.getD k (0, 0)) = true then [xs.getD k (0, 0)] else [] := by
  unfold kept
  rw [List.take_succ_eq_append_getElem h, List.filter_append]
  congr 1
  simp [List.filter_cons, List.getD_eq_getElem?_getD, h]

theorem pair_news (w : World) (o : Obj) (t : TypeId) (a b : Value) : ∀ (j : Nat) (u : Value), [a, b][j]? = some u → ((w.alloc o).alloc (.cells #[a, b] t)).cell? ((⟨w.heap.size + 1, 0, none⟩ : Addr).add j) = some u := by
  intro j u hj
  match j, hj with
  | 0, hj => simp at hj; subst hj; simp [Addr.add]
  | 1, hj => simp at hj; subst hj; simp [Addr.add]
theorem pair_one (x y : Int) : ∀ u ∈ [Value.int .i64 x, Value.int .i64 y], u.oneCell' = true := by
  intro u hu; simp at hu; rcases hu with rfl | rfl <;> rfl
theorem own_take {w : World} {B : Nat} {v : Value} (asc : Bool) (ts : Int) (xs : List (Int × Int)) (k : Nat) (hk : k < xs.length) (x : Int × Int) (hx : x = xs.getD k (0, 0)) (hyes : may asc ts x = true)
    (h : w.ownsRow B 35 2 v ((kept asc ts xs k).length + 1) (spanCells (kept asc ts xs k) ++ [.int .i64 x.1, .int .i64 x.2])) : w.ownsRow B 35 2 v (kept asc ts xs (k + 1)).length (spanCells (kept asc ts xs (k + 1))) := by
  rw [kept_succ _ _ _ _ hk, ← hx, if_pos hyes, spanCells_app, List.length_append]
  simpa [spanCells] using h
theorem own_skip {w : World} {B : Nat} {v : Value} (asc : Bool) (ts : Int) (xs : List (Int × Int)) (k : Nat) (hk : k < xs.length) (x : Int × Int) (hx : x = xs.getD k (0, 0)) (hno : ¬ may asc ts x = true)
    (h : w.ownsRow B 35 2 v (kept asc ts xs k).length (spanCells (kept asc ts xs k))) : w.ownsRow B 35 2 v (kept asc ts xs (k + 1)).length (spanCells (kept asc ts xs (k + 1))) := by
  rw [kept_succ _ _ _ _ hk, ← hx, if_neg hno, List.append_nil]
  exact h

set_option maxHeartbeats 400000 in
theorem behind_any (asc : Bool) (ts : Int) (A : Option Addr) (g n c : Nat) (xs : List (Int × Int)) (hl : xs.length = n) (hn : n ≤ 64) (W : World) (hA : 0 < n → A = some ⟨g, 0, none⟩ ∧ g < W.heap.size ∧ RowOf W g xs) :
    Calls Try.prog 13 #[.bool asc, .int .i64 ts, .slice A n c] W fun e w' => ∃ v, e = .returned v ∧ w'.ownsRow W.heap.size 35 2 v (xs.filter (may asc ts)).length (spanCells (xs.filter (may asc ts))) ∧ Below W.heap.size W w' := by
  obtain ⟨i0, hi, hz0, hz1, hz2⟩ := info_parts info35
  have HL := Lib.hid hl
  have HA := Lib.hid hA
  clear hl hA
  go_enter Try.func13, Try.ntmps13
  go_wp2
  go_loopw [7, 12] (fun v i wr => ∃ k : Nat, k ≤ n ∧ i = .int .i64 k ∧ wr.ownsRow W.heap.size 35 2 v (kept asc ts xs k).length (spanCells (kept asc ts xs k)) ∧ Below W.heap.size W wr) (fun _ i _ => n - (intOf i).toNat)
  case atStart => exact ⟨0, Nat.zero_le _, rfl, World.ownsRow_nil _ _ _ _, Below.refl _ _⟩
  case round =>
    obtain ⟨k, hk, rfl, hown, hbel⟩ := hrel
    by_cases hkn : k < n
    · obtain ⟨rfl, hg, hrow⟩ := HA.out (by omega)
      obtain ⟨c0, c1⟩ := (hrow.below hbel hg) k (by rw [HL.out]; exact hkn)
      obtain ⟨x, hx⟩ : ∃ x, x = xs.getD k (0, 0) := ⟨_, rfl⟩
      rw [← hx] at c0 c1
      have HX := Lib.hid hx
      clear hx hrow
      have hle := kept_le asc ts xs k
      rw [HL.out] at hle
      cases asc
      · have hsz := hbel.size
        by_cases hyes : x.1 ≤ ts
        · have hle2 : (kept false ts xs k).length ≤ 64 := by omega
          go_wp2_with (at_builtin; refine wpList_append_own _ rfl (.tmp 33) (.tmp 35) 28 rfl W.heap.size 35 i0 (.agg #[.int .i64 0, .int .i64 0]) 2 16 Try.underlying28 hi hz0 hz1 hz2 rfl (by decide) _ _ _ rfl ((hown.alloc _).alloc _) ⟨wr.heap.size + 1, 0, none⟩ 1 1 [.int .i64 x.1, .int .i64 x.2] rfl rfl (pair_news _ _ _ _ _) (pair_one _ _) (by unfold maxLen; omega) (by omega) (by simp; omega) ?_)
          intro v' w1 hown' hgrow _
          have hbel' := (((hbel.alloc hbel.size _).alloc (by simp; omega) _)).grown hgrow (by simp; omega) (fun r hr => (hown.lt r hr).1)
          have hown2 := own_take false ts xs k (by rw [HL.out]; exact hkn) x HX.out (by simpa [may] using hyes) hown'
          clear hown' hgrow hown hbel
          go_wp2
          go_roundw
          case rel => exact ⟨k + 1, by omega, by go_num, hown2, hbel'⟩
          case measure => simp [intOf]; omega
        · have hown2 := own_skip false ts xs k (by rw [HL.out]; exact hkn) x HX.out (by simpa [may] using hyes) hown
          clear hown
          go_wp2
          go_roundw
          case rel => exact ⟨k + 1, by omega, by go_num, hown2.alloc _, hbel.alloc hbel.size _⟩
          case measure => simp [intOf]; omega
      · have hsz := hbel.size
        by_cases hyes : ts < x.2
        · have hle2 : (kept true ts xs k).length ≤ 64 := by omega
          go_wp2_with (at_builtin; refine wpList_append_own _ rfl (.tmp 33) (.tmp 35) 28 rfl W.heap.size 35 i0 (.agg #[.int .i64 0, .int .i64 0]) 2 16 Try.underlying28 hi hz0 hz1 hz2 rfl (by decide) _ _ _ rfl ((hown.alloc _).alloc _) ⟨wr.heap.size + 1, 0, none⟩ 1 1 [.int .i64 x.1, .int .i64 x.2] rfl rfl (pair_news _ _ _ _ _) (pair_one _ _) (by unfold maxLen; omega) (by omega) (by simp; omega) ?_)
          intro v' w1 hown' hgrow _
          have hbel' := (((hbel.alloc hbel.size _).alloc (by simp; omega) _)).grown hgrow (by simp; omega) (fun r hr => (hown.lt r hr).1)
          have hown2 := own_take true ts xs k (by rw [HL.out]; exact hkn) x HX.out (by simpa [may] using hyes) hown'
          clear hown' hgrow hown hbel
          go_wp2
          go_roundw
          case rel => exact ⟨k + 1, by omega, by go_num, hown2, hbel'⟩
          case measure => simp [intOf]; omega
        · have hown2 := own_skip true ts xs k (by rw [HL.out]; exact hkn) x HX.out (by simpa [may] using hyes) hown
          clear hown
          go_wp2
          go_roundw
          case rel => exact ⟨k + 1, by omega, by go_num, hown2.alloc _, hbel.alloc hbel.size _⟩
          case measure => simp [intOf]; omega
    · obtain rfl : k = n := by omega
      go_wp2
      go_ret
      refine ⟨_, rfl, ?_, hbel⟩
      have e : kept asc ts xs k = xs.filter (may asc ts) := by unfold kept; rw [List.take_of_length_le (by rw [HL.out]; exact Nat.le_refl _)]
      rwa [e] at hown
end Go.Proofs.Ytmdpdffifpbbeaa
