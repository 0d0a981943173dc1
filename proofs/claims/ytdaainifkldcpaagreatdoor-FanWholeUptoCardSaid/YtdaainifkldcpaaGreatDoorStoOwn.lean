-- shaken
import Derived.Test.YtdaainifkldcpaaGreatDoorStoSortO
import Derived.Deep.AppendLies
import Derived.Test.YtdaainifkldcpaaGreatDoorEntRow
namespace Go.Proofs.YtdaainifkldcpaaGreatDoor
open Go.RowKit
set_option linter.unusedVariables false
set_option linter.unusedSimpArgs false
theorem infoPairE : (Tryz.prog.info? 165).map (fun i => (i.zero, i.size, i.bytes)) = some (some (.agg #[.string ⟨#[]⟩, .string ⟨#[]⟩]), 2, 32) := by kernel_rfl
theorem infoReply : (Tryz.prog.info? 85).map (fun i => (i.zero, i.size, i.bytes)) = some (some (.agg #[.bool false, .int .i64 0]), 2, 16) := by kernel_rfl
def prV (p : PairB) : List Value := [.string p.1, .string p.2]
theorem prV_len (p : PairB) : (prV p).length = 2 := rfl
theorem prV_one (l : List PairB) : ∀ u ∈ rowV prV l, u.oneCell' = true := by
  intro u hu
  obtain ⟨p, _, hp⟩ := List.mem_flatMap.1 hu
  simp only [prV, List.mem_cons, List.not_mem_nil, or_false] at hp
  rcases hp with rfl | rfl <;> rfl
theorem repV_len (p : RepB) : (RepB.V p).length = 2 := rfl
theorem repV_one (l : List RepB) : ∀ u ∈ rowV RepB.V l, u.oneCell' = true := by
  intro u hu
  obtain ⟨p, _, hp⟩ := List.mem_flatMap.1 hu
  simp only [RepB.V, List.mem_cons, List.not_mem_nil, or_false] at hp
  rcases hp with rfl | rfl <;> rfl
theorem pairs_rowE {w : World} {A : Option Addr} {n : Nat} {l : List PairB} (h : Pairs w A n l) : RowR prV 2 w A n l := by
  refine ⟨h.1, fun hn => ?_⟩
  obtain ⟨b, off, e, hlt, hc⟩ := h.2 hn
  refine ⟨b, off, e, hlt, fun j i a hj hi => ?_⟩
  have hjl : j < n := by
    rcases Nat.lt_or_ge j n with h1 | h1
    · exact h1
    · rw [List.getElem?_eq_none (by rw [h.1]; exact h1)] at hj; cases hj
  have ha : l.getD j pnil = a := by rw [List.getD_eq_getElem?_getD, hj]; rfl
  obtain ⟨c1, c2⟩ := hc j hjl
  rw [ha] at c1 c2
  rcases (by omega : i = 0 ∨ i = 1) with rfl | rfl
  · exact c1
  · exact c2
theorem row_pairsE {w : World} {A : Option Addr} {n : Nat} {l : List PairB} (h : RowR prV 2 w A n l) : Pairs w A n l := by
  refine ⟨h.1, fun hn => ?_⟩
  obtain ⟨b, off, e, hlt, hc⟩ := h.2 hn
  refine ⟨b, off, e, hlt, fun j hj => ?_⟩
  have hx : l[j]? = some (l.getD j pnil) := by
    rw [List.getD_eq_getElem?_getD, List.getElem?_eq_getElem (by rw [h.1]; exact hj)]
    rfl
  exact ⟨(hc j 0 _ hx (by decide)).trans rfl, (hc j 1 _ hx (by decide)).trans rfl⟩
theorem RowR.src {α : Type} {V : α → List Value} {s : Nat} (hV : ∀ a, (V a).length = s) (hs : 0 < s) {w : World} {ad : Addr} {n : Nat} {l : List α} (h : RowR V s w (some ad) n l) : ∀ (j : Nat) (u : Value), (rowV V l)[j]? = some u → w.cell? (ad.add j) = some u := by
  intro j u hu
  have hj : j < n * s := by
    rcases Nat.lt_or_ge j (n * s) with h1 | h1
    · exact h1
    · rw [List.getElem?_eq_none (by rw [rowV_len hV, h.1]; exact h1)] at hu; cases hu
  have hn : 0 < n := by
    rcases Nat.eq_zero_or_pos n with e | e
    · subst e; omega
    · exact e
  obtain ⟨b, off, e, hlt, hc⟩ := h.2 hn
  injection e with e
  subst e
  have hjs : j / s < n := Nat.div_lt_of_lt_mul (by rw [Nat.mul_comm]; exact hj)
  obtain ⟨a, ha⟩ : ∃ a, l[j / s]? = some a := ⟨_, List.getElem?_eq_getElem (by rw [h.1]; exact hjs)⟩
  have e2 : j / s * s + j % s = j := by rw [Nat.mul_comm]; exact Nat.div_add_mod j s
  have h1 := rowV_at hV l (j / s) (j % s) a ha (Nat.mod_lt _ hs)
  rw [e2] at h1
  rw [ints_add, ← e2, ← Nat.add_assoc, hc _ _ a ha (Nat.mod_lt _ hs), ← h1]
  exact hu
theorem own_zero (w : World) (B : Nat) (g s : Nat) (T : TypeId) (h : Blk w g T #[]) (hB : B ≤ g) : w.ownsRow B T s (.slice (some ⟨g, 0, none⟩) 0 0) 0 [] :=
  ⟨(Nat.zero_mul s).symm, .inr ⟨g, 0, #[], rfl, hB, h, Nat.le_refl _, Nat.zero_le _, by simp, by simp⟩⟩
set_option maxHeartbeats 1600000 in
theorem cloneS_any (A : Option Addr) (n c : Nat) (l : List PairB) (hn : n ≤ 100000) (W : World) (h : RowR prV 2 W A n l) :
    Calls Tryz.prog 79 #[.slice A n c] W fun e w' => ∃ v, e = .returned v ∧ OwnR prV 2 w' W.heap.size 165 v l ∧ Below W.heap.size W w' := by
  obtain ⟨i0, hinf, hz0, hz1, hz2⟩ := info_parts infoPairE
  have hl := h.1
  cases A with
  | none =>
    have hn0 : n = 0 := by
      rcases Nat.eq_zero_or_pos n with e | e
      · exact e
      · obtain ⟨b, off, e, _⟩ := h.2 e
        cases e
    subst hn0
    have hl0 : l = [] := List.eq_nil_of_length_eq_zero hl
    subst hl0
    have hnil : ∀ w, (binOp .eql 45 (.slice none 0 c) (.slice none 0 0)).run Tryz.prog w = .ok (.bool true) w := fun w => Lib.run_eql_slice_nil w _ _ none 0 c 0 0 Tryz.underlying45
    clear h hl
    go_enter Tryz.func79, Tryz.ntmps79
    go_wp2
    go_ret
    exact ⟨_, rfl, OwnR.nil _ _ _, Below.refl _ _⟩
  | some ad =>
    have HLN := Lib.hid (show (rowV prV l).length = n * 2 by rw [rowV_len prV_len, hl])
    have HL := Lib.hid hl
    have HB := Lib.hid (own_zero (W.alloc (.cells #[] 165)) W.heap.size W.heap.size 2 165 (Blk.new W _ #[]) (Nat.le_refl _))
    have HA2 := Lib.hid ((h.below ((Below.refl _ _).alloc (Nat.le_refl _) (.cells #[] 165))).src prV_len (by decide))
    have hnil : ∀ w, (binOp .eql 45 (.slice (some ad) n c) (.slice none 0 0)).run Tryz.prog w = .ok (.bool false) w := fun w => Lib.run_eql_slice_nil w _ _ (some ad) n c 0 0 Tryz.underlying45
    clear h hl
    go_enter Tryz.func79, Tryz.ntmps79
    go_wp2_with (at_builtin; refine wpList_append_own _ rfl (.tmp 5) (.tmp 6) 45 rfl W.heap.size 165 i0 (.agg #[.string ⟨#[]⟩, .string ⟨#[]⟩]) 2 32 Tryz.underlying45 hinf hz0 hz1 hz2 rfl (by decide) _ _ _ rfl HB.out ad n c (rowV prV l) rfl HLN.out HA2.out (prV_one l) (by unfold maxLen; omega) (by omega) (by simp) ?_)
    intro v' w4 hown' hgrow _
    have ho : OwnR prV 2 w4 W.heap.size 165 v' l := by
      unfold OwnR
      rw [HL.out]
      simpa using hown'
    have hb := ((Below.refl W.heap.size W).alloc (Nat.le_refl _) (.cells #[] 165)).grown hgrow (by simp) (fun r hr => (World.ownsRow.lt HB.out r hr).1)
    have HO := Lib.hid ho
    have HB2 := Lib.hid hb
    clear hown' hgrow ho hb
    go_wp2
    go_ret
    exact ⟨_, rfl, HO.out, HB2.out⟩
set_option maxHeartbeats 1600000 in
theorem cloneR_any (A : Option Addr) (n c : Nat) (l : List RepB) (hn : n ≤ 100000) (W : World) (h : RowR RepB.V 2 W A n l) :
    Calls Tryz.prog 77 #[.slice A n c] W fun e w' => ∃ v, e = .returned v ∧ OwnR RepB.V 2 w' W.heap.size 85 v l ∧ Below W.heap.size W w' := by
  obtain ⟨i0, hinf, hz0, hz1, hz2⟩ := info_parts infoReply
  have hl := h.1
  cases A with
  | none =>
    have hn0 : n = 0 := by
      rcases Nat.eq_zero_or_pos n with e | e
      · exact e
      · obtain ⟨b, off, e, _⟩ := h.2 e
        cases e
    subst hn0
    have hl0 : l = [] := List.eq_nil_of_length_eq_zero hl
    subst hl0
    have hnil : ∀ w, (binOp .eql 79 (.slice none 0 c) (.slice none 0 0)).run Tryz.prog w = .ok (.bool true) w := fun w => Lib.run_eql_slice_nil w _ _ none 0 c 0 0 Tryz.underlying79
    clear h hl
    go_enter Tryz.func77, Tryz.ntmps77
    go_wp2
    go_ret
    exact ⟨_, rfl, OwnR.nil _ _ _, Below.refl _ _⟩
  | some ad =>
    have HLN := Lib.hid (show (rowV RepB.V l).length = n * 2 by rw [rowV_len repV_len, hl])
    have HL := Lib.hid hl
    have HB := Lib.hid (own_zero (W.alloc (.cells #[] 85)) W.heap.size W.heap.size 2 85 (Blk.new W _ #[]) (Nat.le_refl _))
    have HA2 := Lib.hid ((h.below ((Below.refl _ _).alloc (Nat.le_refl _) (.cells #[] 85))).src repV_len (by decide))
    have hnil : ∀ w, (binOp .eql 79 (.slice (some ad) n c) (.slice none 0 0)).run Tryz.prog w = .ok (.bool false) w := fun w => Lib.run_eql_slice_nil w _ _ (some ad) n c 0 0 Tryz.underlying79
    clear h hl
    go_enter Tryz.func77, Tryz.ntmps77
    go_wp2_with (at_builtin; refine wpList_append_own _ rfl (.tmp 5) (.tmp 6) 79 rfl W.heap.size 85 i0 (.agg #[.bool false, .int .i64 0]) 2 16 Tryz.underlying79 hinf hz0 hz1 hz2 rfl (by decide) _ _ _ rfl HB.out ad n c (rowV RepB.V l) rfl HLN.out HA2.out (repV_one l) (by unfold maxLen; omega) (by omega) (by simp) ?_)
    intro v' w4 hown' hgrow _
    have ho : OwnR RepB.V 2 w4 W.heap.size 85 v' l := by
      unfold OwnR
      rw [HL.out]
      simpa using hown'
    have hb := ((Below.refl W.heap.size W).alloc (Nat.le_refl _) (.cells #[] 85)).grown hgrow (by simp) (fun r hr => (World.ownsRow.lt HB.out r hr).1)
    have HO := Lib.hid ho
    have HB2 := Lib.hid hb
    clear hown' hgrow ho hb
    go_wp2
    go_ret
    exact ⟨_, rfl, HO.out, HB2.out⟩
theorem own_set {B : Nat} {w : World} {v : Value} {l : List PairB} (h : OwnR prV 2 w B 165 v l) : ∃ A c, v = .slice A l.length c ∧ SetAt 0 w A l.length l := by
  obtain ⟨A, cap, rfl, _, _, hr⟩ := OwnR.open prV_len h
  refine ⟨A, cap, rfl, row_pairsE hr, fun h0 a ha => ?_⟩
  rcases h.2 with ⟨e, h1⟩ | ⟨g, cap', cur, e, _, hh, _⟩
  · omega
  · injection e with e1 _ _
    rw [ha] at e1
    injection e1 with e1
    subst e1
    exact .inr ⟨cur, hh⟩
theorem setOne {w : World} {g T : Nat} {cs : Array Value} (h : Blk w g T cs) (i : Nat) (u : Value) : w.grownBy (w.setCell ⟨g, i, none⟩ u) (some g) := ⟨rfl, rfl, rfl, by simp, fun k hk hg => Below.heap_setCell _ _ _ k (fun e => hg (by rw [e]))⟩
set_option maxRecDepth 100000 in
set_option maxHeartbeats 1600000 in
theorem own_any (B : Nat) (x : EntX) (hn : x.n ≤ 1000) (W : World) (h : Good B W x) :
    Calls Tryz.prog 51 #[.agg #[.int .i64 x.ts, .slice x.A x.n x.c, .string x.ln]] W fun e w' => ∃ y : EntX, e = .returned (.agg #[.int .i64 y.ts, .slice y.A y.n y.c, .string y.ln]) ∧ y.b = x.b ∧ Good 0 w' y ∧ Below W.heap.size W w' := by
  obtain ⟨ts, A, n, c, ls, ln⟩ := x
  dsimp only at hn h ⊢
  have hlen := h.set.1.1
  obtain ⟨w1, hw1⟩ : ∃ z, (W.alloc (.cells #[.int .i64 ts, .slice A n c, .string ln] 47)).alloc (.cells #[.int .i64 0, .slice none 0 0, .string ⟨#[]⟩] 47) = z := ⟨_, rfl⟩
  have TW := Two.new W #[.int .i64 ts, .slice A n c, .string ln] #[.int .i64 0, .slice none 0 0, .string ⟨#[]⟩]
  rw [hw1] at TW
  have CL := Lib.hid (cloneS_any A n c ls (by omega) w1 (pairs_rowE (h.set.1.below TW.below)))
  have HLO := Lib.hid h.lo
  have HHI := Lib.hid h.hi
  have HLEN := Lib.hid hlen
  obtain ⟨c0_, _⟩ := TW.cells 0
  obtain ⟨c1_, _⟩ := TW.cells 1
  obtain ⟨c2_, _⟩ := TW.cells 2
  replace c0_ : w1.cell? ⟨W.heap.size, 0, none⟩ = some (.int .i64 ts) := c0_
  replace c1_ : w1.cell? ⟨W.heap.size, 1, none⟩ = some (.slice A n c) := c1_
  replace c2_ : w1.cell? ⟨W.heap.size, 2, none⟩ = some (.string ln) := c2_
  have HTW := Lib.hid TW
  clear h TW hlen
  go_enter Tryz.func51, Tryz.ntmps51
  go_wp2_with fail
  (try rw [hw1])
  refine CL.out.mono ?_
  rintro e w2 ⟨v, rfl, ho, hb⟩
  have TW2 := HTW.out.next hb
  obtain ⟨A', c', rfl, hs⟩ := own_set ho
  obtain ⟨m, hm⟩ : ∃ m, ls.length = m := ⟨_, rfl⟩
  rw [hm] at hs ⊢
  have HV := Lib.hid hm
  have HS := Lib.hid hs
  obtain ⟨g0, hg0⟩ : ∃ g, W.heap.size = g := ⟨_, rfl⟩
  have k1 := TW2.b1
  have k2 := TW2.b2
  have HB := Lib.hid TW2.below
  rw [hg0] at k1 k2 HB ⊢
  have m1_ := (k1.cell 1).trans (show _ = some (Value.slice A n c) from rfl)
  have f1_ := k1.frozen 1
  have k3 := k1.set_ 1 (.slice A' m c')
  have p0_ := (k3.cell 0).trans (show _ = some (Value.int .i64 ts) from rfl)
  have p1_ := (k3.cell 1).trans (show _ = some (Value.slice A' m c') from rfl)
  have p2_ := (k3.cell 2).trans (show _ = some (Value.string ln) from rfl)
  have k4 := k2.far (p := ⟨g0, 1, none⟩) (by show g0 + 1 ≠ g0; omega) (.slice A' m c')
  have e0_ := (k4.cell 0).trans (show _ = some (Value.int .i64 0) from rfl)
  have e1_ := (k4.cell 1).trans (show _ = some (Value.slice none 0 0) from rfl)
  have e2_ := (k4.cell 2).trans (show _ = some (Value.string ⟨#[]⟩) from rfl)
  have q0_ := k4.frozen 0
  have q1_ := k4.frozen 1
  have q2_ := k4.frozen 2
  have K5 := Lib.hid (((k4.set_ 0 (.int .i64 ts)).set_ 1 (.slice A' m c')).set_ 2 (.string ln))
  have HB2 := Lib.hid ((((HB.out.setCell (p := ⟨g0, 1, none⟩) (Nat.le_refl _) (.slice A' m c')).setCell (p := ⟨g0 + 1, 0, none⟩) (by show g0 ≤ g0 + 1; omega) (.int .i64 ts)).setCell (p := ⟨g0 + 1, 1, none⟩) (by show g0 ≤ g0 + 1; omega) (.slice A' m c')).setCell (p := ⟨g0 + 1, 2, none⟩) (by show g0 ≤ g0 + 1; omega) (.string ln))
  have HG := Lib.hid (show SetAt 0 ((((w2.setCell ⟨g0, 1, none⟩ (.slice A' m c')).setCell ⟨g0 + 1, 0, none⟩ (.int .i64 ts)).setCell ⟨g0 + 1, 1, none⟩ (.slice A' m c')).setCell ⟨g0 + 1, 2, none⟩ (.string ln)) A' m ls from
    (((hs.grown (setOne k1 1 (.slice A' m c')) (fun b e => by obtain rfl := Option.some.inj e; exact ⟨Nat.zero_le _, _, _, ent_not_pair, k1⟩)).grown (setOne k4 0 (.int .i64 ts)) (fun b e => by obtain rfl := Option.some.inj e; exact ⟨Nat.zero_le _, _, _, ent_not_pair, k4⟩)).grown (setOne (k4.set_ 0 (.int .i64 ts)) 1 (.slice A' m c')) (fun b e => by obtain rfl := Option.some.inj e; exact ⟨Nat.zero_le _, _, _, ent_not_pair, k4.set_ 0 (.int .i64 ts)⟩)).grown (setOne ((k4.set_ 0 (.int .i64 ts)).set_ 1 (.slice A' m c')) 2 (.string ln)) (fun b e => by obtain rfl := Option.some.inj e; exact ⟨Nat.zero_le _, _, _, ent_not_pair, (k4.set_ 0 (.int .i64 ts)).set_ 1 (.slice A' m c')⟩))
  have HG0 := Lib.hid hg0
  clear k1 k2 k3 k4 HB HTW TW2 hb ho hs hm hw1 CL c0_ c1_ c2_ hg0
  go_wp2
  refine bodyPost_ret (results_cell_row rfl _ _ (g0 + 1) 47 #[.int .i64 ts, (.slice A' m c'), .string ln] (0, 0) _ rfl K5.out Tryz.underlying47 rfl (by kernel_rfl)) rfl ?_
  refine ⟨⟨ts, A', m, c', ls, ln⟩, rfl, rfl, ⟨HG.out, by have := HLEN.out; have := HV.out; show m ≤ _; omega, HLO.out, HHI.out⟩, by rw [HG0.out]; exact HB2.out⟩
end Go.Proofs.YtdaainifkldcpaaGreatDoor
