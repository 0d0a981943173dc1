-- shaken
import Derived.Test.YtdaainifkldcpaaGreatDoorStoSort
namespace Go.Proofs.YtdaainifkldcpaaGreatDoor.Se
open Go.RowKit Go.Sort Go.Proofs.YtdaainifkldcpaaGreatDoor.Sy
set_option linter.unusedVariables false
set_option linter.unusedSimpArgs false
def tagE (l : List EntX) : List (KeyP EntX) := (List.range l.length).map fun i => ⟨l.getD i xnil, i⟩
theorem tagE_len (l : List EntX) : (tagE l).length = l.length := by unfold tagE; rw [List.length_map, List.length_range]
theorem tagE_at (l : List EntX) (i : Nat) (h : i < l.length) : getP (tagE l) i = ⟨l.getD i xnil, i⟩ := by
  unfold getP tagE
  rw [List.getD_eq_getElem?_getD, List.getElem?_map, List.getElem?_range h]
  rfl
theorem tagE_it (l : List EntX) : (tagE l).map (fun x => x.it) = l := by
  apply List.ext_getElem?
  intro i
  unfold tagE
  rw [List.map_map, List.getElem?_map]
  rcases Nat.lt_or_ge i l.length with h | h
  · rw [List.getElem?_range h, List.getElem?_eq_getElem h]
    show some (l.getD i xnil) = _
    rw [List.getD_eq_getElem?_getD, List.getElem?_eq_getElem h]
    rfl
  · rw [List.getElem?_eq_none (by simpa using h), List.getElem?_eq_none h]
    rfl
theorem up_sorted (L : List (KeyP EntX)) (h : Up entO L 0 L.length) : SortedP (L.map fun x => x.it) := by
  unfold SortedP
  rw [List.pairwise_iff_getElem]
  intro i j hi hj hij
  rw [List.length_map] at hi hj
  rw [List.getElem_map, List.getElem_map]
  have h1 := h i j (Nat.zero_le _) hij hj
  rw [getP_at hi, getP_at hj] at h1
  unfold leB
  unfold Tlt entO at h1
  rcases h1 with h1 | ⟨h1, _⟩ <;> omega
theorem own_sortE {w : World} {B g n cap : Nat} {l : List EntX} (h : OwnR EntX.V 3 w B 47 (.slice (some ⟨g, 0, none⟩) n cap) l) : n = l.length ∧ B ≤ g ∧ n ≤ cap ∧ cap ≤ maxLen ∧ SortE (cap * 3) w g (tagE l) := by
  rcases h.2 with ⟨e, _⟩ | ⟨g', cap', cur, e, hbg, hg, hnc, hcm, hcs, ht⟩
  · cases e
  · injection e with e1 e2 e3
    injection e1 with e1
    injection e1 with e1 _ _
    subst e1 e2 e3
    refine ⟨rfl, hbg, hnc, hcm, cur, hg, ⟨hcs, by rw [tagE_len]; omega⟩, fun j r hj hr => ?_⟩
    rw [tagE_len] at hj
    rw [tagE_at _ _ hj]
    have hx : l[j]? = some (l.getD j xnil) := by
      rw [List.getD_eq_getElem?_getD, List.getElem?_eq_getElem hj]; rfl
    have h1 := rowV_at entV_len l j r _ hx hr
    rw [← ht, List.getElem?_take_of_lt (by omega), Array.getElem?_toList] at h1
    exact h1
theorem own_unsort {w : World} {B g n cap : Nat} {L : List (KeyP EntX)} (hn : n = L.length) (hB : B ≤ g) (hnc : n ≤ cap) (hcm : cap ≤ maxLen) (h : SortE (cap * 3) w g L) : OwnR EntX.V 3 w B 47 (.slice (some ⟨g, 0, none⟩) n cap) (L.map fun x => x.it) := by
  obtain ⟨cur, hg, ⟨hcs, _⟩, hc⟩ := h
  have hl : (L.map fun x => x.it).length = n := by rw [List.length_map, hn]
  unfold OwnR
  rw [hl]
  refine ⟨by rw [rowV_len entV_len, hl], .inr ⟨g, cap, cur, rfl, hB, hg, hnc, hcm, hcs, ?_⟩⟩
  apply List.ext_getElem?
  intro k
  rcases Nat.lt_or_ge k (n * 3) with hk | hk
  · rw [List.getElem?_take_of_lt hk, Array.getElem?_toList]
    have hj : k / 3 < L.length := by omega
    have e : k = k / 3 * 3 + k % 3 := by omega
    have h1 := hc (k / 3) (k % 3) hj (Nat.mod_lt _ (by decide))
    rw [← e] at h1
    rw [h1]
    have h2 := rowV_at entV_len (L.map fun x => x.it) (k / 3) (k % 3) (getP L (k / 3)).it (by rw [List.getElem?_map, getP_eq hj]; rfl) (Nat.mod_lt _ (by decide))
    rw [← e] at h2
    exact h2.symm
  · rw [List.getElem?_eq_none (by rw [List.length_take]; omega), List.getElem?_eq_none (by rw [rowV_len entV_len, hl]; omega)]
set_option maxRecDepth 100000 in
set_option maxHeartbeats 1600000 in
theorem len64_any (n : Nat) (hn : n ≤ 12) (W : World) : Calls Tryz.prog 116 #[.int .u64 (n : Int)] W fun e w' => ∃ z : Int, e = .returned (.int .i64 z) ∧ w' = W := by
  have hc : n = 0 ∨ n = 1 ∨ n = 2 ∨ n = 3 ∨ n = 4 ∨ n = 5 ∨ n = 6 ∨ n = 7 ∨ n = 8 ∨ n = 9 ∨ n = 10 ∨ n = 11 ∨ n = 12 := by omega
  clear hn
  rcases hc with rfl | rfl | rfl | rfl | rfl | rfl | rfl | rfl | rfl | rfl | rfl | rfl | rfl
  all_goals
    go_enter Tryz.func116, Tryz.ntmps116
    go_wp2
    go_ret
    exact ⟨_, rfl, rfl⟩
set_option maxHeartbeats 1600000 in
theorem bitsLen_any (n : Nat) (hn : n ≤ 12) (W : World) : Calls Tryz.prog 81 #[.int .u64 (n : Int)] W fun e w' => ∃ z : Int, e = .returned (.int .i64 z) ∧ w' = W := by
  have C := Lib.hid (len64_any n hn)
  go_enter Tryz.func81, Tryz.ntmps81
  go_wp2_with fail
  refine (C.out W).mono ?_
  rintro e _ ⟨z, rfl, rfl⟩
  go_wp2
  go_ret
  exact ⟨_, rfl, rfl⟩
theorem insertion_none (W : World) : Calls Tryz.prog 107 #[.slice none 0 0, .int .i64 0, .int .i64 0, .func (.func 53) #[] #[]] W fun e w' => e = .returned (.tuple #[]) ∧ w' = W := by
  go_enter Tryz.func107, Tryz.ntmps107
  go_wp2
  go_loopw [8] (fun iv wr => iv = .int .i64 1 ∧ wr = W) (fun _ _ => 0)
  case atStart => exact ⟨rfl, rfl⟩
  case round =>
    obtain ⟨rfl, rfl⟩ := hrel
    go_wp2
    refine bodyPost_end (results_none rfl _ _ _) rfl ?_
    exact ⟨rfl, rfl⟩
def SortedTo (B : Nat) (v : Value) (l : List EntX) (w : World) (e : Ending) (w' : World) : Prop := e = .returned (.tuple #[]) ∧ ∃ l', OwnR EntX.V 3 w' B 47 v l' ∧ l'.Perm l ∧ SortedP l' ∧ w.grownBy w' v.ownBlock
theorem insertO_any (B : Nat) (A : Option Addr) (n cap : Nat) (l : List EntX) (hn : n ≤ 12) (w : World) (h : OwnR EntX.V 3 w B 47 (.slice A n cap) l) (hg : ∀ x ∈ l, Good B w x) :
    Calls Tryz.prog 107 #[.slice A n cap, .int .i64 0, .int .i64 (n : Int), .func (.func 53) #[] #[]] w fun e w' => SortedTo B (.slice A n cap) l w e w' := by
  rcases h.2 with ⟨e, h0⟩ | ⟨g, cap', cur, e, hbg, hgg, hnc, hcm, hcs, ht⟩
  · injection e with e1 e2 e3
    subst e1 e2 e3
    have hl : l = [] := List.eq_nil_of_length_eq_zero h0
    subst hl
    refine (insertion_none w).mono fun e w' ⟨h1, h2⟩ => ?_
    subst h2
    exact ⟨h1, [], h, List.Perm.refl _, List.Pairwise.nil, ⟨rfl, rfl, rfl, Nat.le_refl _, fun _ _ _ => rfl⟩⟩
  · injection e with e1 e2 e3
    subst e1 e2 e3
    obtain ⟨_, _, _, _, hs⟩ := own_sortE h
    have hs0 := hs
    refine (insertion_any B g cap (tagE l) 0 l.length l.length (tagE_len l) (by omega) (Nat.zero_le _) (Nat.le_refl _) hbg (fun i j _ hij hj => by rw [tagE_at _ _ (by omega), tagE_at _ _ hj]; exact hij) (cap * 3) w hs (fun i hi => by
      rw [tagE_at _ _ hi]
      refine hg _ ?_
      show l.getD i xnil ∈ l
      rw [List.getD_eq_getElem?_getD, List.getElem?_eq_getElem hi]
      exact List.getElem_mem _)).mono ?_
    rintro e w' ⟨h1, L', hs', hm, hu, hf⟩
    have hl' : L'.length = l.length := by rw [hm.len, tagE_len]
    refine ⟨h1, L'.map (fun x => x.it), own_unsort hl'.symm hbg hnc hcm hs', ?_, up_sorted L' (by rw [hl']; exact hu), hf.grown⟩
    have hp := hm.perm.map (fun x : KeyP EntX => x.it)
    rwa [tagE_it] at hp
set_option maxRecDepth 100000 in
set_option maxHeartbeats 1600000 in
theorem pdq_any (B : Nat) (A : Option Addr) (n cap : Nat) (l : List EntX) (z : Int) (hn : n ≤ 12) (w : World) (h : OwnR EntX.V 3 w B 47 (.slice A n cap) l) (hg : ∀ x ∈ l, Good B w x) :
    Calls Tryz.prog 80 #[.slice A n cap, .int .i64 0, .int .i64 (n : Int), .int .i64 z, .func (.func 53) #[] #[]] w fun e w' => SortedTo B (.slice A n cap) l w e w' := by
  have IN := Lib.hid (insertO_any B A n cap l hn w h hg)
  have hn12 : (n : Int) ≤ 12 := by omega
  have hw : IntKind.i64.wrap ((n : Int) - 0) = (n : Int) := by rw [IntKind.wrap_i64]; omega
  clear h hg hn
  go_enter Tryz.func80, Tryz.ntmps80
  go_wp2
  go_loopw [1, 2, 3, 10, 11] (fun av bv zv xv yv wr => av = .int .i64 0 ∧ bv = .int .i64 (n : Int) ∧ zv = .int .i64 z ∧ xv = .bool true ∧ yv = .bool true ∧ wr = w) (fun _ _ _ _ _ _ => 0)
  case atStart => exact ⟨rfl, rfl, rfl, rfl, rfl, rfl⟩
  case round =>
    obtain ⟨rfl, rfl, rfl, rfl, rfl, rfl⟩ := hrel
    go_wp2_with fail
    refine IN.out.mono ?_
    rintro e w2 ⟨rfl, hs⟩
    have HS := Lib.hid hs
    clear hs
    go_wp2
    refine bodyPost_ret (results_none rfl _ _ _) rfl ?_
    exact ⟨rfl, HS.out⟩
set_option maxRecDepth 100000 in
set_option maxHeartbeats 1600000 in
theorem sortFunc_any (B : Nat) (A : Option Addr) (n cap : Nat) (l : List EntX) (hn : n ≤ 12) (w : World) (h : OwnR EntX.V 3 w B 47 (.slice A n cap) l) (hg : ∀ x ∈ l, Good B w x) :
    Calls Tryz.prog 52 #[.slice A n cap, .func (.func 53) #[] #[]] w fun e w' => SortedTo B (.slice A n cap) l w e w' := by
  have PQ := Lib.hid (fun z => pdq_any B A n cap l z hn w h hg)
  have LE := Lib.hid (fun W => bitsLen_any n hn W)
  have hw : IntKind.u64.wrap (n : Int) = (n : Int) := by rw [IntKind.wrap_u64]; omega
  clear h hg hn
  go_enter Tryz.func52, Tryz.ntmps52
  go_wp2_with fail
  refine (LE.out w).mono ?_
  rintro e _ ⟨z, rfl, rfl⟩
  go_wp2_with fail
  refine (PQ.out z).mono ?_
  rintro e w2 ⟨rfl, hs⟩
  have HS := Lib.hid hs
  clear hs
  go_wp2
  refine bodyPost_end (results_none rfl _ _ _) rfl ?_
  exact ⟨rfl, HS.out⟩
end Go.Proofs.YtdaainifkldcpaaGreatDoor.Se
