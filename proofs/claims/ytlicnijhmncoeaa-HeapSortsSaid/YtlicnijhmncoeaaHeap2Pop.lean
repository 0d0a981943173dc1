/- The first thing of a heap taken out: the walk of Pop. -/
import Derived.Test.YtlicnijhmncoeaaHeap2Drop
import Derived.Test.YtlicnijhmncoeaaHeap2Sink
import Derived.Test.YtlicnijhmncoeaaHeap2Push
namespace Go.Proofs.Ytlicnijhmncoeaa.T2
open Go.RowKit
set_option linter.unusedVariables false
set_option linter.unusedSimpArgs false

set_option maxRecDepth 100000 in
set_option maxHeartbeats 1600000 in
theorem sink_none (b : Nat) (v : Value) (came : Nat) (w : World) (h : HeapSt w b v [] came) :
    Calls Try.prog 50 #[.pointer (some ⟨b, 0, none⟩), .int .i64 0] w fun e w' => e = .returned (.tuple #[]) ∧ HeapSt w' b v [] came ∧ HG b w v w' v := by
  have H0 := Lib.hid h
  clear h
  go_enter Try.func50, Try.ntmps50
  go_wp2
  go_loopw [1] (fun iv wr => iv = .int .i64 0 ∧ Hid (HeapSt wr b v [] came) ∧ Hid (HG b w v wr v)) (fun _ _ => 0)
  case atStart => exact ⟨rfl, H0, Lib.hid (HG.refl _ _ _)⟩
  case round =>
    obtain ⟨rfl, HS, HGG⟩ := hrel
    obtain ⟨v0, hv0⟩ : ∃ v, v = wr := ⟨_, rfl⟩
    subst hv0
    go_wp2
    go_loopw [4, 5] (fun fv kv w3 => fv = .int .i64 0 ∧ kv = .int .i64 1 ∧ Below v0.heap.size v0 w3) (fun _ _ _ => 0)
    case atStart => exact ⟨rfl, rfl, Below.refl _ _⟩
    case round =>
      obtain ⟨rfl, rfl, hb3⟩ := hrel
      have HS3 := Lib.hid (HS.out.below hb3)
      go_wp2_with fail
      refine (many_any b v [] came wr HS3.out).mono ?_
      rintro e w4 ⟨rfl, rfl⟩
      go_wp2
      refine bodyPost_ret (results_none rfl _ _ _) rfl ?_
      exact ⟨rfl, HS3.out, HGG.out.trans (HG.of_below hb3)⟩

theorem HG.setCell_new {b : Nat} {w w' : World} {v v' : Value} {p : Addr} (h : HG b w v w' v') (hp : w.heap.size ≤ p.block) (u : Value) : HG b w v (w'.setCell p u) v' :=
  ⟨h.os, h.tape, h.output, by simpa using h.size, fun k hk hkb hkv => (Below.heap_setCell _ _ _ k (by omega)).trans (h.block k hk hkb hkv), h.own⟩
theorem HeapSt.kept {w w' : World} {b : Nat} {v : Value} {L : List (KeyP TwoX)} {came : Nat} (h1 : HeapSt w b v L came) (hb : w'.heap[b]? = w.heap[b]?) (hv : ∀ k, v.ownBlock = some k → w'.heap[k]? = w.heap[k]?) : HeapSt w' b v L came := by
  refine ⟨hb.trans h1.blk, ?_, h1.good, h1.old, h1.few, h1.less⟩
  refine ⟨h1.row.1, ?_⟩
  rcases h1.row.2 with h0 | ⟨g, cap, cur, rfl, hg, hh, x⟩
  · exact .inl h0
  · exact .inr ⟨g, cap, cur, rfl, hg, (hv g rfl).trans hh, x⟩
theorem HG.blk {b g : Nat} {w w' : World} {v v' : Value} {ty : TypeId} {cs : Array Value} (h : HG b w v w' v') (hB : Blk w g ty cs) (h1 : g ≠ b) (h2 : v.ownBlock ≠ some g) : Blk w' g ty cs := (h.block g hB.lt h1 (fun e => h2 e.symm)).trans hB
set_option maxRecDepth 100000 in
set_option maxHeartbeats 1600000 in
theorem pop_none (b : Nat) (v : Value) (came : Nat) (w : World) (h : HeapSt w b v [] came) :
    Calls Try.prog 23 #[.pointer (some ⟨b, 0, none⟩)] w fun e w' => e = .returned (.tuple #[.agg #[.string .empty, .int .i64 0], .bool false]) ∧ Below w.heap.size w w' := by
  obtain ⟨g2, hg2⟩ : ∃ g, w.heap.size = g := ⟨_, rfl⟩
  obtain ⟨w1, hw1⟩ : ∃ z, w.alloc (.cells #[.string ⟨#[]⟩, .int .i64 0] 43) = z := ⟨_, rfl⟩
  have K2 : Blk w1 g2 43 #[.string ⟨#[]⟩, .int .i64 0] := by rw [← hw1, ← hg2]; exact Blk.new _ _ _
  have hb1 : Below w.heap.size w w1 := by rw [← hw1]; exact (Below.refl _ _).alloc (Nat.le_refl _) _
  have HK := Lib.hid K2
  have HB := Lib.hid hb1
  have PK := peek_none b v came w1 (h.below hb1)
  obtain ⟨ts, hts⟩ : ∃ z, ByteArray.empty = z := ⟨_, rfl⟩
  obtain ⟨tn, htn⟩ : ∃ z, (0 : Int) = z := ⟨_, rfl⟩
  rw [hts, htn] at PK
  rw [hts, htn]
  replace PK := Lib.hid PK
  have HN := Lib.hid (show w.heap.size ≤ g2 by omega)
  clear h K2 hb1 hts htn
  go_enter Try.func23, Try.ntmps23
  go_wp2_with fail
  clear hw1 hg2
  refine PK.out.mono ?_
  rintro e w4 ⟨rfl, hb4⟩
  have HB4 := Lib.hid (hop HB.out (Nat.le_refl _) hb4)
  have HK4 := Lib.hid (HK.out.below hb4 HK.out.lt)
  clear hb4 HK HB
  obtain ⟨w5, hw5⟩ : ∃ z, w4.alloc (.cells #[.string ts, .int .i64 tn] 43) = z := ⟨_, rfl⟩
  obtain ⟨g4, hg4⟩ : ∃ g, w4.heap.size = g := ⟨_, rfl⟩
  have hb5 : Below w4.heap.size w4 w5 := by rw [← hw5]; exact (Below.refl _ _).alloc (Nat.le_refl _) _
  have K25 := HK4.out.below hb5 HK4.out.lt
  have K45 : Blk w5 g4 43 #[.string ts, .int .i64 tn] := by rw [← hw5, ← hg4]; exact Blk.new _ _ _
  have HB5 := Lib.hid (hop HB4.out (Nat.le_refl _) hb5)
  have c0 : w5.cell? ⟨g2, 0, none⟩ = some (.string ⟨#[]⟩) := (K25.cell 0).trans rfl
  have c1 : w5.cell? ⟨g2, 1, none⟩ = some (.int .i64 0) := (K25.cell 1).trans rfl
  have z0 := K25.frozen 0
  have z1 := K25.frozen 1
  have d0 : w5.cell? ⟨g4, 0, none⟩ = some (.string ts) := (K45.cell 0).trans rfl
  have d1 : w5.cell? ⟨g4, 1, none⟩ = some (.int .i64 tn) := (K45.cell 1).trans rfl
  have HR := Lib.hid ((K25.set_ 0 (.string ts)).set_ 1 (.int .i64 tn))
  have HBE := Lib.hid ((HB5.out.setCell (p := ⟨g2, 0, none⟩) HN.out (.string ts)).setCell (p := ⟨g2, 1, none⟩) HN.out (.int .i64 tn))
  clear hb5 K25 K45
  go_wp2
  (try simp only [Exit.inBlock, Exit.then])
  refine bodyPost_ret (results_row_tmp rfl _ _ _ 43 _ (0, 0) _ rfl HR.out Try.underlying43 rfl (by kernel_rfl)) rfl ?_
  exact ⟨rfl, HBE.out⟩
set_option maxRecDepth 100000 in
set_option maxHeartbeats 1600000 in
theorem pop_any (b : Nat) (v : Value) (L : List (KeyP TwoX)) (came : Nat) (hL : 0 < L.length) (w : World) (h : HeapSt w b v L came) (hh : IsHeapP tenK L) :
    Calls Try.prog 23 #[.pointer (some ⟨b, 0, none⟩)] w fun e w' => e = .returned (.tuple #[.agg #[.string (getP L 0).it.s, .int .i64 (getP L 0).it.n], .bool true]) ∧ ∃ v' L', HeapSt w' b v' L' came ∧ (getP L 0 :: L').Perm L ∧ IsHeapP tenK L' ∧ HG b w v w' v' := by
  have hfew := h.few
  have hless := h.less
  obtain ⟨m, hm⟩ : ∃ m, m + 1 = L.length := ⟨L.length - 1, by omega⟩
  have hmn : L.length - 1 = m := by omega
  have hmI : (L.length : Int) - 1 = (m : Int) := by omega
  have HD := Lib.hid (down_pop tenK hh hL)
  have HPP := Lib.hid (pop_perm hL)
  rw [hmn] at HD HPP
  have hml : m < L.length := by omega
  have hls := swapP_len L 0 m
  have htl : ((swapP L 0 m).take m).length = m := by rw [List.length_take, hls]; omega
  have H0 := Lib.hid h
  have S0 : True := trivial
  have hml6 : m ≤ 1000000 := by omega
  have hmw : IntKind.i64.wrap (m : Int) = (m : Int) := by rw [IntKind.wrap_i64]; omega
  have SW := fun w h => swap_any b v L came 0 m hL hml w h
  obtain ⟨M, hM⟩ : ∃ M, swapP L 0 m = M := ⟨_, rfl⟩
  simp only [hM, show ((0 : Nat) : Int) = 0 from rfl] at SW
  rw [hM] at HD HPP hls htl
  obtain ⟨M2, hM2⟩ : ∃ M2, M.take m = M2 := ⟨_, rfl⟩
  rw [hM2] at HD HPP htl
  have DR := fun w h => drop_any b v M came (by omega) w h
  simp only [hls, show L.length - 1 = m by omega, hM2] at DR
  have HSW := Lib.hid SW
  have HDR := Lib.hid DR
  have HTL := Lib.hid htl
  have hbl := h.blk.lt
  have hrow := fun k hk => World.ownsRow.lt h.row k hk
  obtain ⟨g2, hg2⟩ : ∃ g, w.heap.size = g := ⟨_, rfl⟩
  obtain ⟨w1, hw1⟩ : ∃ z, w.alloc (.cells #[.string ⟨#[]⟩, .int .i64 0] 43) = z := ⟨_, rfl⟩
  have K2 : Blk w1 g2 43 #[.string ⟨#[]⟩, .int .i64 0] := by rw [← hw1, ← hg2]; exact Blk.new _ _ _
  have hb1 : Below w.heap.size w w1 := by rw [← hw1]; exact (Below.refl _ _).alloc (Nat.le_refl _) _
  have HK := Lib.hid K2
  have HB := Lib.hid hb1
  have HN := Lib.hid (show w.heap.size ≤ g2 by omega)
  have HNV := Lib.hid (show ∀ k, v.ownBlock = some k → k < g2 from fun k hk => by have := (hrow k hk).2; omega)
  have HNB := Lib.hid (show b < g2 by have : b < w.heap.size := hbl; omega)
  have PK := peek_any b v L came hL w1 (h.below hb1)
  obtain ⟨ts, hts⟩ : ∃ z, (getP L 0).it.s = z := ⟨_, rfl⟩
  obtain ⟨tn, htn⟩ : ∃ z, (getP L 0).it.n = z := ⟨_, rfl⟩
  rw [hts, htn] at PK
  rw [hts, htn]
  replace PK := Lib.hid PK
  clear h hh hmn SW DR hM hM2 hls htl hbl hrow K2 hb1 hts htn
  go_enter Try.func23, Try.ntmps23
  go_wp2_with fail
  clear hw1 hg2
  refine PK.out.mono ?_
  rintro e w4 ⟨rfl, hb4⟩
  have HB4 := Lib.hid (hop HB.out (Nat.le_refl _) hb4)
  have HK4 := Lib.hid (HK.out.below hb4 HK.out.lt)
  clear hb4 HK HB PK
  obtain ⟨w5, hw5⟩ : ∃ z, w4.alloc (.cells #[.string ts, .int .i64 tn] 43) = z := ⟨_, rfl⟩
  obtain ⟨g4, hg4⟩ : ∃ g, w4.heap.size = g := ⟨_, rfl⟩
  have hb5 : Below w4.heap.size w4 w5 := by rw [← hw5]; exact (Below.refl _ _).alloc (Nat.le_refl _) _
  have hdr : Below w5.heap.size w5 w5.drew := below_drewN (Below.refl _ _) 1
  have K45 : Blk w5 g4 43 #[.string ts, .int .i64 tn] := by rw [← hw5, ← hg4]; exact Blk.new _ _ _
  have HK25 := Lib.hid ((HK4.out.below hb5 HK4.out.lt).below hdr (HK4.out.below hb5 HK4.out.lt).lt)
  have HK45 := Lib.hid (K45.below hdr K45.lt)
  have HB5 := Lib.hid (hop (hop HB4.out (Nat.le_refl _) hb5) (Nat.le_refl _) hdr)
  have HM := Lib.hid (H0.out.below HB5.out)
  have HG5 := Lib.hid (HG.of_below (b := b) (v := v) HB5.out)
  have HN4 := Lib.hid (show g2 < g4 from by have := HK4.out.lt; omega)
  clear hb5 hdr K45 HK4 HB4 HB5
  go_wp2_with fail
  clear hw5 hg4
  refine wp_region_held_drew (S := fun w' => True) (by kernel_rfl) S0 (fun hHeld => ?_)
  refine wpAnyH_take (i := 0) (oi := { dst := some 12, op := Go.Op.move (Go.Operand.tmp 0), type := 44, pos := "heap.go:50", after := #[], guard := none }) (v := ?_) rfl (by kernel_rfl) (by kernel_rfl) (by kernel_rfl) (fun _ _ _ h => h) (Or.inl ⟨by kernel_rfl, ?_⟩) (by assumption) ?_
  rotate_left
  · intro w _
    first | (go_simp; done) | (go_simp; with_reducible rfl)
  try simp only [Act.put, List.setIfInBounds_toArray, List.set_cons_zero, List.set_cons_succ]
  refine wpAnyH_take (i := 1) (oi := { dst := some 13, op := Go.Op.nilCheck (Go.Operand.tmp 12), type := 0, pos := "heap.go:50", after := #[{ on := 0, ground := Go.Ground.data }], guard := none }) (v := ?_) rfl (by kernel_rfl) (by kernel_rfl) (by kernel_rfl) (fun _ _ _ h => h) (Or.inl ⟨by kernel_rfl, ?_⟩) (by assumption) ?_
  rotate_left
  · intro w _
    first | (go_simp; done) | (go_simp; with_reducible rfl)
  try simp only [Act.put, List.setIfInBounds_toArray, List.set_cons_zero, List.set_cons_succ]
  refine wpAnyH_take (i := 2) (oi := { dst := some 14, op := Go.Op.fieldAddr 84 (Go.Operand.tmp 13) 0, type := 0, pos := "heap.go:50", after := #[{ on := 1, ground := Go.Ground.data }], guard := none }) (v := ?_) rfl (by kernel_rfl) (by kernel_rfl) (by kernel_rfl) (fun _ _ _ h => h) (Or.inl ⟨by kernel_rfl, ?_⟩) (by assumption) ?_
  rotate_left
  · intro w _
    first | (go_simp; done) | (go_simp; with_reducible rfl)
  try simp only [Act.put, List.setIfInBounds_toArray, List.set_cons_zero, List.set_cons_succ]
  refine wpAnyH_take (i := 3) (oi := { dst := some 15, op := Go.Op.move (Go.Operand.tmp 0), type := 44, pos := "heap.go:50", after := #[], guard := none }) (v := ?_) rfl (by kernel_rfl) (by kernel_rfl) (by kernel_rfl) (fun _ _ _ h => h) (Or.inl ⟨by kernel_rfl, ?_⟩) (by assumption) ?_
  rotate_left
  · intro w _
    first | (go_simp; done) | (go_simp; with_reducible rfl)
  try simp only [Act.put, List.setIfInBounds_toArray, List.set_cons_zero, List.set_cons_succ]
  refine wpAnyH_take (i := 4) (oi := { dst := some 16, op := Go.Op.nilCheck (Go.Operand.tmp 15), type := 0, pos := "heap.go:50", after := #[{ on := 3, ground := Go.Ground.data }], guard := none }) (v := ?_) rfl (by kernel_rfl) (by kernel_rfl) (by kernel_rfl) (fun _ _ _ h => h) (Or.inl ⟨by kernel_rfl, ?_⟩) (by assumption) ?_
  rotate_left
  · intro w _
    first | (go_simp; done) | (go_simp; with_reducible rfl)
  try simp only [Act.put, List.setIfInBounds_toArray, List.set_cons_zero, List.set_cons_succ]
  refine wpAnyH_take (i := 5) (oi := { dst := some 17, op := Go.Op.fieldAddr 84 (Go.Operand.tmp 16) 0, type := 0, pos := "heap.go:50", after := #[{ on := 4, ground := Go.Ground.data }], guard := none }) (v := ?_) rfl (by kernel_rfl) (by kernel_rfl) (by kernel_rfl) (fun _ _ _ h => h) (Or.inl ⟨by kernel_rfl, ?_⟩) (by assumption) ?_
  rotate_left
  · intro w _
    first | (go_simp; done) | (go_simp; with_reducible rfl)
  try simp only [Act.put, List.setIfInBounds_toArray, List.set_cons_zero, List.set_cons_succ]
  refine wpAnyH_ready (rs := [6]) (by kernel_rfl) (by simp) ?_
  refine AllReadyH.cons (o := { dst := some 18, op := Go.Op.call { callee := Go.Callee.value (Go.Operand.func 46), args := #[Go.Operand.tmp 17], argTypes := #[82] }, type := 3, pos := "heap.go:50", after := #[{ on := 5, ground := Go.Ground.data }], guard := none }) rfl (fun K hK => ?_) AllReadyH.nil
  go_simp
  go_at_call 46
  refine (many_any b v L came _ HM.out).mono ?_
  rintro e wm ⟨rfl, rfl⟩
  refine hK.out _ _ S0 (fun _ => ?_)
  clear hK K
  try simp only [Act.put, List.setIfInBounds_toArray, List.set_cons_zero, List.set_cons_succ]
  refine wpAnyH_take (i := 7) (oi := { dst := some 19, op := Go.Op.binOp Go.BinOp.sub 3 (Go.Operand.tmp 18) (Go.Operand.const (Go.Value.int Go.IntKind.i64 1)) 3, type := 3, pos := "heap.go:50", after := #[{ on := 6, ground := Go.Ground.data }], guard := none }) (v := ?_) rfl (by kernel_rfl) (by kernel_rfl) (by kernel_rfl) (fun _ _ _ h => h) (Or.inl ⟨by kernel_rfl, ?_⟩) (by assumption) ?_
  rotate_left
  · intro w _
    first | (go_simp; done) | (go_simp; with_reducible rfl)
  try simp only [Act.put, List.setIfInBounds_toArray, List.set_cons_zero, List.set_cons_succ]
  refine wpAnyH_ready (rs := [8]) (by kernel_rfl) (by simp) ?_
  refine AllReadyH.cons (o := { dst := some 20, op := Go.Op.call { callee := Go.Callee.value (Go.Operand.func 48), args := #[Go.Operand.tmp 14, Go.Operand.const (Go.Value.int Go.IntKind.i64 0), Go.Operand.tmp 19], argTypes := #[82, 3, 3] }, type := 0, pos := "heap.go:50", after := #[{ on := 2, ground := Go.Ground.data }, { on := 7, ground := Go.Ground.data }, { on := 6, ground := Go.Ground.chain }], guard := none }) rfl (fun K hK => ?_) AllReadyH.nil
  go_simp
  go_at_call 48
  (try simp only [hmI, hmw])
  refine (HSW.out _ HM.out).mono ?_
  rintro e ws ⟨rfl, hss, hgs⟩
  have HS3 := Lib.hid hss
  have HG3 := Lib.hid hgs
  clear hss hgs
  refine hK.out _ _ S0 (fun _ => ?_)
  clear hK K
  try simp only [Act.put, List.setIfInBounds_toArray, List.set_cons_zero, List.set_cons_succ]
  refine wpAnyH_done (by kernel_rfl) ?_ _
  go_wp2_with fail
  refine (HDR.out _ HS3.out).mono ?_
  rintro e wd ⟨rfl, vd, hs5, hg5⟩
  have HS5 := Lib.hid hs5
  have HGD := Lib.hid (HG3.out.trans hg5)
  clear hs5 hg5 HS3 HG3
  rcases Nat.eq_zero_or_pos m with hm0 | hm0
  · have hnil : M2 = [] := List.eq_nil_of_length_eq_zero (by rw [HTL.out]; exact hm0)
    subst hnil
    go_wp2_with fail
    refine (sink_none b vd came _ HS5.out).mono ?_
    rintro e w6 ⟨rfl, hs6, hg6⟩
    obtain ⟨v6, rfl⟩ : ∃ z, z = vd := ⟨_, rfl⟩
    have HS6 := Lib.hid hs6
    have HG6 := Lib.hid (HGD.out.trans hg6)
    have HPP6 := HPP
    have HHH : Hid (IsHeapP tenK ([] : List (KeyP TwoX))) := Lib.hid (fun j _ hj => absurd hj (Nat.not_lt_zero _))
    clear hs6 hg6
    have HGA := Lib.hid (HG5.out.trans HG6.out)
    have hn1 : g2 ≠ b := by have := HNB.out; omega
    have hn2 : g4 ≠ b := by have := HNB.out; have := HN4.out; omega
    have hn3 : v.ownBlock ≠ some g2 := fun e => by have := HNV.out _ e; omega
    have hn4 : v.ownBlock ≠ some g4 := fun e => by have := HNV.out _ e; have := HN4.out; omega
    have K26 := HG6.out.blk HK25.out hn1 hn3
    have K46 := HG6.out.blk HK45.out hn2 hn4
    have hown6 : v6.ownBlock ≠ some g2 := fun e => by
      rcases HG6.out.own _ e with h | h
      · exact hn3 h
      · have := HK25.out.lt
        omega
    have c0 : w6.cell? ⟨g2, 0, none⟩ = some (.string ⟨#[]⟩) := (K26.cell 0).trans rfl
    have c1 : w6.cell? ⟨g2, 1, none⟩ = some (.int .i64 0) := (K26.cell 1).trans rfl
    have z0 := K26.frozen 0
    have z1 := K26.frozen 1
    have d0 : w6.cell? ⟨g4, 0, none⟩ = some (.string ts) := (K46.cell 0).trans rfl
    have d1 : w6.cell? ⟨g4, 1, none⟩ = some (.int .i64 tn) := (K46.cell 1).trans rfl
    have HR := Lib.hid ((K26.set_ 0 (.string ts)).set_ 1 (.int .i64 tn))
    have HGE := Lib.hid ((HGA.out.setCell_new (p := ⟨g2, 0, none⟩) HN.out (.string ts)).setCell_new (p := ⟨g2, 1, none⟩) HN.out (.int .i64 tn))
    have HSE := Lib.hid (HS6.out.kept (w' := (w6.setCell ⟨g2, 0, none⟩ (.string ts)).setCell ⟨g2, 1, none⟩ (.int .i64 tn)) ((Below.heap_setCell _ _ _ b (Ne.symm hn1)).trans (Below.heap_setCell _ _ _ b (Ne.symm hn1))) (fun k hk => by
      have hne : k ≠ g2 := fun e => hown6 (by rw [← e]; exact hk)
      exact (Below.heap_setCell _ _ _ k hne).trans (Below.heap_setCell _ _ _ k hne)))
    clear hn1 hn2 hn3 hn4 K26 K46 hown6 HG6 HG5 HGA HS6
    go_wp2
    (try simp only [Exit.inBlock, Exit.then])
    refine bodyPost_ret (results_row_tmp rfl _ _ _ 43 _ (0, 0) _ rfl HR.out Try.underlying43 rfl (by kernel_rfl)) rfl ?_
    exact ⟨rfl, v6, _, HSE.out, HPP6.out, HHH.out, HGE.out⟩
  · have SK := fun w h => sink_any b vd M2 came 0 HD.out (by rw [HTL.out]; exact hm0) w h
    simp only [show ((0 : Nat) : Int) = 0 from rfl] at SK
    replace SK := Lib.hid SK
    go_wp2_with fail
    refine (SK.out _ HS5.out).mono ?_
    rintro e w6 ⟨rfl, L6, hp6, hh6, hs6, hg6⟩
    obtain ⟨v6, rfl⟩ : ∃ z, z = vd := ⟨_, rfl⟩
    have HS6 := Lib.hid hs6
    have HPP6 := Lib.hid ((hp6.cons (getP L 0)).trans HPP.out)
    have HHH := Lib.hid hh6
    have HG6 := Lib.hid (HGD.out.trans hg6)
    clear hs6 hp6 hh6 hg6
    have HGA := Lib.hid (HG5.out.trans HG6.out)
    have hn1 : g2 ≠ b := by have := HNB.out; omega
    have hn2 : g4 ≠ b := by have := HNB.out; have := HN4.out; omega
    have hn3 : v.ownBlock ≠ some g2 := fun e => by have := HNV.out _ e; omega
    have hn4 : v.ownBlock ≠ some g4 := fun e => by have := HNV.out _ e; have := HN4.out; omega
    have K26 := HG6.out.blk HK25.out hn1 hn3
    have K46 := HG6.out.blk HK45.out hn2 hn4
    have hown6 : v6.ownBlock ≠ some g2 := fun e => by
      rcases HG6.out.own _ e with h | h
      · exact hn3 h
      · have := HK25.out.lt
        omega
    have c0 : w6.cell? ⟨g2, 0, none⟩ = some (.string ⟨#[]⟩) := (K26.cell 0).trans rfl
    have c1 : w6.cell? ⟨g2, 1, none⟩ = some (.int .i64 0) := (K26.cell 1).trans rfl
    have z0 := K26.frozen 0
    have z1 := K26.frozen 1
    have d0 : w6.cell? ⟨g4, 0, none⟩ = some (.string ts) := (K46.cell 0).trans rfl
    have d1 : w6.cell? ⟨g4, 1, none⟩ = some (.int .i64 tn) := (K46.cell 1).trans rfl
    have HR := Lib.hid ((K26.set_ 0 (.string ts)).set_ 1 (.int .i64 tn))
    have HGE := Lib.hid ((HGA.out.setCell_new (p := ⟨g2, 0, none⟩) HN.out (.string ts)).setCell_new (p := ⟨g2, 1, none⟩) HN.out (.int .i64 tn))
    have HSE := Lib.hid (HS6.out.kept (w' := (w6.setCell ⟨g2, 0, none⟩ (.string ts)).setCell ⟨g2, 1, none⟩ (.int .i64 tn)) ((Below.heap_setCell _ _ _ b (Ne.symm hn1)).trans (Below.heap_setCell _ _ _ b (Ne.symm hn1))) (fun k hk => by
      have hne : k ≠ g2 := fun e => hown6 (by rw [← e]; exact hk)
      exact (Below.heap_setCell _ _ _ k hne).trans (Below.heap_setCell _ _ _ k hne)))
    clear hn1 hn2 hn3 hn4 K26 K46 hown6 HG6 HG5 HGA HS6
    go_wp2
    (try simp only [Exit.inBlock, Exit.then])
    refine bodyPost_ret (results_row_tmp rfl _ _ _ 43 _ (0, 0) _ rfl HR.out Try.underlying43 rfl (by kernel_rfl)) rfl ?_
    exact ⟨rfl, v6, _, HSE.out, HPP6.out, HHH.out, HGE.out⟩
end Go.Proofs.Ytlicnijhmncoeaa.T2
