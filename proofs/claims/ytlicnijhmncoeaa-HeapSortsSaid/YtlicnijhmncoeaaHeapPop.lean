/- The first thing of a heap taken out: the walk of Pop. -/
import Derived.Test.YtlicnijhmncoeaaHeapDrop
import Derived.Test.YtlicnijhmncoeaaHeapSink
import Derived.Test.YtlicnijhmncoeaaHeapPush
namespace Go.Proofs.Ytlicnijhmncoeaa
open Go.RowKit
set_option linter.unusedVariables false
set_option linter.unusedSimpArgs false

set_option maxRecDepth 100000 in
set_option maxHeartbeats 1600000 in
theorem sink_none (b : Nat) (v : Value) (came : Nat) (w : World) (h : HeapSt w b v [] came) :
    Calls Try.prog 40 #[.pointer (some ⟨b, 0, none⟩), .int .i64 0] w fun e w' => e = .returned (.tuple #[]) ∧ HeapSt w' b v [] came ∧ HG b w v w' v := by
  have H0 := Lib.hid h
  clear h
  go_enter Try.func40, Try.ntmps40
  go_wp2
  go_loopw [1] (fun iv wr => iv = .int .i64 0 ∧ Hid (HeapSt wr b v [] came) ∧ Hid (HG b w v wr v)) (fun _ _ => 0)
  case atStart => exact ⟨rfl, H0, Lib.hid (HG.refl _ _ _)⟩
  case round =>
    obtain ⟨rfl, HS, HGG⟩ := hrel
    obtain ⟨v0, hv0⟩ : ∃ v, v = wr := ⟨_, rfl⟩
    subst hv0
    go_wp2
    go_loopw [4, 5] (fun fv kv w3 => fv = .int .i64 0 ∧ kv = .int .i64 1 ∧ Below v0.heap.size v0 w3) (fun _ _ _ => 0)
    case atStart => exact ⟨rfl, rfl, Below.refl _ _⟩
    case round =>
      obtain ⟨rfl, rfl, hb3⟩ := hrel
      have HS3 := Lib.hid (HS.out.below hb3)
      go_wp2_with fail
      refine (many_any b v [] came wr HS3.out).mono ?_
      rintro e w4 ⟨rfl, rfl⟩
      go_wp2
      refine bodyPost_ret (results_none rfl _ _ _) rfl ?_
      exact ⟨rfl, HS3.out, HGG.out.trans (HG.of_below hb3)⟩

set_option maxRecDepth 100000 in
set_option maxHeartbeats 1600000 in
theorem pop_none (b : Nat) (v : Value) (came : Nat) (w : World) (h : HeapSt w b v [] came) :
    Calls Try.prog 11 #[.pointer (some ⟨b, 0, none⟩)] w fun e w' => e = .returned (.tuple #[.int .i64 0, .bool false]) ∧ w' = w := by
  go_enter Try.func11, Try.ntmps11
  go_wp2_with fail
  refine (peek_none b v came w h).mono ?_
  rintro e w4 ⟨rfl, rfl⟩
  go_wp2
  (try simp only [Exit.inBlock, Exit.then])
  refine bodyPost_ret (results_tmp2 rfl _ _ _) rfl ?_
  exact ⟨by first | rfl | (simp; done), by first | rfl | trivial⟩

set_option maxRecDepth 100000 in
set_option maxHeartbeats 1600000 in
theorem pop_any (b : Nat) (v : Value) (L : List (KeyP Int)) (came : Nat) (hL : 0 < L.length) (w : World) (h : HeapSt w b v L came) (hh : IsHeapP tenK L) :
    Calls Try.prog 11 #[.pointer (some ⟨b, 0, none⟩)] w fun e w' => e = .returned (.tuple #[.int .i64 (getP L 0).it, .bool true]) ∧ ∃ v' L', HeapSt w' b v' L' came ∧ (getP L 0 :: L').Perm L ∧ IsHeapP tenK L' ∧ HG b w v w' v' := by
  have hfew := h.few
  have hless := h.less
  obtain ⟨m, hm⟩ : ∃ m, m + 1 = L.length := ⟨L.length - 1, by omega⟩
  have hmn : L.length - 1 = m := by omega
  have hmI : (L.length : Int) - 1 = (m : Int) := by omega
  have HD := Lib.hid (down_pop tenK hh hL)
  have HPP := Lib.hid (pop_perm hL)
  rw [hmn] at HD HPP
  have hml : m < L.length := by omega
  have hls := swapP_len L 0 m
  have htl : ((swapP L 0 m).take m).length = m := by rw [List.length_take, hls]; omega
  have H0 := Lib.hid h
  have S0 : True := trivial
  have hml6 : m ≤ 1000000 := by omega
  have hmw : IntKind.i64.wrap (m : Int) = (m : Int) := by rw [IntKind.wrap_i64]; omega
  have SW := fun w h => swap_any b v L came 0 m hL hml w h
  obtain ⟨M, hM⟩ : ∃ M, swapP L 0 m = M := ⟨_, rfl⟩
  simp only [hM, show ((0 : Nat) : Int) = 0 from rfl] at SW
  rw [hM] at HD HPP hls htl
  obtain ⟨M2, hM2⟩ : ∃ M2, M.take m = M2 := ⟨_, rfl⟩
  rw [hM2] at HD HPP htl
  have DR := fun w h => drop_any b v M came (by omega) w h
  simp only [hls, show L.length - 1 = m by omega, hM2] at DR
  have HSW := Lib.hid SW
  have HDR := Lib.hid DR
  have HTL := Lib.hid htl
  have PK := fun w h => peek_any b v L came hL w h
  obtain ⟨x0, hx0⟩ : ∃ x, (getP L 0).it = x := ⟨_, rfl⟩
  simp only [hx0] at PK
  rw [hx0]
  clear hx0
  clear h hh hmn SW DR hM hM2 hls htl
  go_enter Try.func11, Try.ntmps11
  go_wp2_with fail
  refine (PK w H0.out).mono ?_
  clear PK
  rintro e w1 ⟨rfl, rfl⟩
  go_wp2_with fail
  refine wp_region_held_drew (S := fun w' => True) (by kernel_rfl) S0 (fun hHeld => ?_)
  have HM : Hid (HeapSt w1.drew b v L came) := Lib.hid (H0.out.below (below_drewN (Below.refl _ _) 1))
  have HGM : Hid (HG b w1 v w1.drew v) := Lib.hid (HG.of_below (below_drewN (Below.refl _ _) 1))
  refine wpAnyH_take (i := 0) (oi := { dst := some 12, op := Go.Op.move (Go.Operand.tmp 0), type := 25, pos := "heap.go:50", after := #[], guard := none }) (v := ?_) rfl (by kernel_rfl) (by kernel_rfl) (by kernel_rfl) (fun _ _ _ h => h) (Or.inl ⟨by kernel_rfl, ?_⟩) (by assumption) ?_
  rotate_left
  · intro w _
    first | (go_simp; done) | (go_simp; with_reducible rfl)
  try simp only [Act.put, List.setIfInBounds_toArray, List.set_cons_zero, List.set_cons_succ]
  refine wpAnyH_take (i := 1) (oi := { dst := some 13, op := Go.Op.nilCheck (Go.Operand.tmp 12), type := 0, pos := "heap.go:50", after := #[{ on := 0, ground := Go.Ground.data }], guard := none }) (v := ?_) rfl (by kernel_rfl) (by kernel_rfl) (by kernel_rfl) (fun _ _ _ h => h) (Or.inl ⟨by kernel_rfl, ?_⟩) (by assumption) ?_
  rotate_left
  · intro w _
    first | (go_simp; done) | (go_simp; with_reducible rfl)
  try simp only [Act.put, List.setIfInBounds_toArray, List.set_cons_zero, List.set_cons_succ]
  refine wpAnyH_take (i := 2) (oi := { dst := some 14, op := Go.Op.fieldAddr 74 (Go.Operand.tmp 13) 0, type := 0, pos := "heap.go:50", after := #[{ on := 1, ground := Go.Ground.data }], guard := none }) (v := ?_) rfl (by kernel_rfl) (by kernel_rfl) (by kernel_rfl) (fun _ _ _ h => h) (Or.inl ⟨by kernel_rfl, ?_⟩) (by assumption) ?_
  rotate_left
  · intro w _
    first | (go_simp; done) | (go_simp; with_reducible rfl)
  try simp only [Act.put, List.setIfInBounds_toArray, List.set_cons_zero, List.set_cons_succ]
  refine wpAnyH_take (i := 3) (oi := { dst := some 15, op := Go.Op.move (Go.Operand.tmp 0), type := 25, pos := "heap.go:50", after := #[], guard := none }) (v := ?_) rfl (by kernel_rfl) (by kernel_rfl) (by kernel_rfl) (fun _ _ _ h => h) (Or.inl ⟨by kernel_rfl, ?_⟩) (by assumption) ?_
  rotate_left
  · intro w _
    first | (go_simp; done) | (go_simp; with_reducible rfl)
  try simp only [Act.put, List.setIfInBounds_toArray, List.set_cons_zero, List.set_cons_succ]
  refine wpAnyH_take (i := 4) (oi := { dst := some 16, op := Go.Op.nilCheck (Go.Operand.tmp 15), type := 0, pos := "heap.go:50", after := #[{ on := 3, ground := Go.Ground.data }], guard := none }) (v := ?_) rfl (by kernel_rfl) (by kernel_rfl) (by kernel_rfl) (fun _ _ _ h => h) (Or.inl ⟨by kernel_rfl, ?_⟩) (by assumption) ?_
  rotate_left
  · intro w _
    first | (go_simp; done) | (go_simp; with_reducible rfl)
  try simp only [Act.put, List.setIfInBounds_toArray, List.set_cons_zero, List.set_cons_succ]
  refine wpAnyH_take (i := 5) (oi := { dst := some 17, op := Go.Op.fieldAddr 74 (Go.Operand.tmp 16) 0, type := 0, pos := "heap.go:50", after := #[{ on := 4, ground := Go.Ground.data }], guard := none }) (v := ?_) rfl (by kernel_rfl) (by kernel_rfl) (by kernel_rfl) (fun _ _ _ h => h) (Or.inl ⟨by kernel_rfl, ?_⟩) (by assumption) ?_
  rotate_left
  · intro w _
    first | (go_simp; done) | (go_simp; with_reducible rfl)
  try simp only [Act.put, List.setIfInBounds_toArray, List.set_cons_zero, List.set_cons_succ]
  refine wpAnyH_ready (rs := [6]) (by kernel_rfl) (by simp) ?_
  refine AllReadyH.cons (o := { dst := some 18, op := Go.Op.call { callee := Go.Callee.value (Go.Operand.func 38), args := #[Go.Operand.tmp 17], argTypes := #[72] }, type := 3, pos := "heap.go:50", after := #[{ on := 5, ground := Go.Ground.data }], guard := none }) rfl (fun K hK => ?_) AllReadyH.nil
  go_simp
  go_at_call 38
  refine (many_any b v L came _ HM.out).mono ?_
  rintro e wm ⟨rfl, rfl⟩
  refine hK.out _ _ S0 (fun _ => ?_)
  clear hK K
  try simp only [Act.put, List.setIfInBounds_toArray, List.set_cons_zero, List.set_cons_succ]
  refine wpAnyH_take (i := 7) (oi := { dst := some 19, op := Go.Op.binOp Go.BinOp.sub 3 (Go.Operand.tmp 18) (Go.Operand.const (Go.Value.int Go.IntKind.i64 1)) 3, type := 3, pos := "heap.go:50", after := #[{ on := 6, ground := Go.Ground.data }], guard := none }) (v := ?_) rfl (by kernel_rfl) (by kernel_rfl) (by kernel_rfl) (fun _ _ _ h => h) (Or.inl ⟨by kernel_rfl, ?_⟩) (by assumption) ?_
  rotate_left
  · intro w _
    first | (go_simp; done) | (go_simp; with_reducible rfl)
  try simp only [Act.put, List.setIfInBounds_toArray, List.set_cons_zero, List.set_cons_succ]
  refine wpAnyH_ready (rs := [8]) (by kernel_rfl) (by simp) ?_
  refine AllReadyH.cons (o := { dst := some 20, op := Go.Op.call { callee := Go.Callee.value (Go.Operand.func 37), args := #[Go.Operand.tmp 14, Go.Operand.const (Go.Value.int Go.IntKind.i64 0), Go.Operand.tmp 19], argTypes := #[72, 3, 3] }, type := 0, pos := "heap.go:50", after := #[{ on := 2, ground := Go.Ground.data }, { on := 7, ground := Go.Ground.data }, { on := 6, ground := Go.Ground.chain }], guard := none }) rfl (fun K hK => ?_) AllReadyH.nil
  go_simp
  go_at_call 37
  (try simp only [hmI, hmw])
  refine (HSW.out _ HM.out).mono ?_
  rintro e ws ⟨rfl, hss, hgs⟩
  have HS3 := Lib.hid hss
  have HG3 := Lib.hid (HGM.out.trans hgs)
  clear hss hgs
  refine hK.out _ _ S0 (fun _ => ?_)
  clear hK K
  try simp only [Act.put, List.setIfInBounds_toArray, List.set_cons_zero, List.set_cons_succ]
  refine wpAnyH_done (by kernel_rfl) ?_ _
  go_wp2_with fail
  refine (HDR.out _ HS3.out).mono ?_
  rintro e w5 ⟨rfl, v5, hs5, hg5⟩
  have HS5 := Lib.hid hs5
  have HG5 := Lib.hid (HG3.out.trans hg5)
  clear hs5 hg5 HS3 HG3
  rcases Nat.eq_zero_or_pos m with hm0 | hm0
  · have hnil : M2 = [] := List.eq_nil_of_length_eq_zero (by rw [HTL.out]; exact hm0)
    subst hnil
    go_wp2_with fail
    refine (sink_none b v5 came _ HS5.out).mono ?_
    rintro e w6 ⟨rfl, hs6, hg6⟩
    have HS6 := Lib.hid hs6
    have HG6 := Lib.hid (HG5.out.trans hg6)
    clear hs6 hg6
    go_wp2
    (try simp only [Exit.inBlock, Exit.then])
    refine bodyPost_ret (results_tmp2 rfl _ _ _) rfl ?_
    exact ⟨by first | rfl | (simp; done), v5, [], HS6.out, HPP.out, fun j _ hj => absurd hj (Nat.not_lt_zero _), HG6.out⟩
  · have SK := fun w h => sink_any b v5 M2 came 0 HD.out (by rw [HTL.out]; exact hm0) w h
    simp only [show ((0 : Nat) : Int) = 0 from rfl] at SK
    replace SK := Lib.hid SK
    go_wp2_with fail
    refine (SK.out _ HS5.out).mono ?_
    rintro e w6 ⟨rfl, L6, hp6, hh6, hs6, hg6⟩
    have HS6 := Lib.hid hs6
    have HP6 := Lib.hid ((hp6.cons (getP L 0)).trans HPP.out)
    have HH6 := Lib.hid hh6
    have HG6 := Lib.hid (HG5.out.trans hg6)
    clear hs6 hp6 hh6 hg6
    go_wp2
    (try simp only [Exit.inBlock, Exit.then])
    refine bodyPost_ret (results_tmp2 rfl _ _ _) rfl ?_
    exact ⟨by first | rfl | (simp; done), v5, L6, HS6.out, HP6.out, HH6.out, HG6.out⟩
end Go.Proofs.Ytlicnijhmncoeaa
