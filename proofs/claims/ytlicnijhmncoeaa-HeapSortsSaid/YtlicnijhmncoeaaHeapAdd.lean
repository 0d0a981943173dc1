/- An item put at a heap's end: the walk of add. -/
import Derived.Test.YtlicnijhmncoeaaHeapDrop
import Derived.Test.YtlicnijhmncoeaaHeapRise
import Derived.Deep.AppendLies
namespace Go.Proofs.Ytlicnijhmncoeaa
open Go.RowKit
set_option linter.unusedVariables false
set_option linter.unusedSimpArgs false

theorem infoItemI : (Try.prog.info? 79).map (fun i => (i.zero, i.size, i.bytes)) = some (some (.agg #[.int .i64 0, .int .i64 0]), 2, 16) := by kernel_rfl
def addW (w : World) (b : Nat) (v : Value) (came : Nat) : World := (w.setCell ⟨b, 0, none⟩ v).setCell ⟨b, 1, none⟩ (.int .i64 ((came : Int) + 1))
theorem own_no {w : World} {b : Nat} {v : Value} {L : List (KeyP Int)} {came : Nat} (h : HeapSt w b v L came) : some b ≠ v.ownBlock := fun e => by
  have := (World.ownsRow.lt h.row b e.symm).1
  omega
theorem add_blk {b came : Nat} {L : List (KeyP Int)} {v : Value} {w1 w2 : World} (h : HeapSt w1 b v L came) (hgrow : w1.grownBy w2 v.ownBlock) : Blk w2 b 74 #[v, .int .i64 (came : Int), .func (.func 9) #[] #[]] :=
  (hgrow.block b h.blk.lt (own_no h)).trans h.blk
theorem add_state {b came g : Nat} {L : List (KeyP Int)} {v nv : Value} {x : Int} {w w1 w2 : World} (h : HeapSt w1 b v L came) (hb : Below w.heap.size w w1) (hlo : -9223372036854775808 ≤ x) (hhi : x ≤ 9223372036854775807) (hc : came < 1000000)
    (hrow : OwnR itV 2 w2 (b + 1) 79 nv (L ++ [⟨x, came⟩])) (hgrow : w1.grownBy w2 v.ownBlock) (hno : nv.ownBlock = some g) (hg : v.ownBlock = some g ∨ g = w1.heap.size) :
    HeapSt (addW w2 b nv came) b nv (L ++ [⟨x, came⟩]) (came + 1) ∧ HG b w v (addW w2 b nv came) nv := by
  have B2 := add_blk h hgrow
  have hlen : (L ++ [(⟨x, came⟩ : KeyP Int)]).length = L.length + 1 := by simp
  refine ⟨⟨?_, ?_, fun y hy => ?_, fun y hy => ?_, by rw [hlen]; have := h.few; omega, by omega⟩, ?_⟩
  · have B3 := (B2.set_ 0 nv).set_ 1 (.int .i64 ((came : Int) + 1))
    simpa [addW] using B3
  · obtain ⟨g2, cap, cur, hv, hg2, hB, hcp, hm, hs, hcl⟩ := own_open hrow (by rw [hlen]; omega)
    subst hv
    have hgb : g2 ≠ b := by omega
    exact own_shut hg2 ((hB.far (p := ⟨b, 0, none⟩) hgb _).far (p := ⟨b, 1, none⟩) hgb _) hcp hm hs hcl
  · rcases List.mem_append.1 hy with hy | hy
    · exact h.good y hy
    · rw [List.mem_singleton.1 hy]
      exact ⟨hlo, hhi⟩
  · rcases List.mem_append.1 hy with hy | hy
    · have := h.old y hy
      omega
    · rw [List.mem_singleton.1 hy]
      exact Nat.lt_succ_self _
  · refine ⟨hgrow.os.trans hb.os, hgrow.tape.trans hb.tape, hgrow.output.trans hb.output, ?_, fun k hk hkb hkv => ?_, fun k hk => ?_⟩
    · have h1 := hb.size
      have h2 := hgrow.size
      simp [addW]
      omega
    · have h1 := hb.size
      exact (Below.heap_setCell _ _ _ k hkb).trans ((Below.heap_setCell _ _ _ k hkb).trans ((hgrow.block k (by omega) hkv).trans (hb.block k hk)))
    · have h1 := hb.size
      rw [hno] at hk
      injection hk with hk
      subst hk
      rcases hg with hg | hg
      · exact .inl hg
      · exact .inr (by omega)

/-- what the call has not touched so far -/
def BelowD (w w' : World) : Prop := Below w.heap.size w w'
theorem BelowD.start (w : World) : BelowD w w.drew := below_drewN (Below.refl _ _) 1
theorem BelowD.below {w w1 w2 : World} (h : BelowD w w1) (k : Below w1.heap.size w1 w2) : BelowD w w2 := hop h (Nat.le_refl _) k
set_option maxRecDepth 100000 in
set_option maxHeartbeats 1600000 in
theorem hadd_any (b : Nat) (v : Value) (L : List (KeyP Int)) (came : Nat) (x : Int) (hlo : -9223372036854775808 ≤ x) (hhi : x ≤ 9223372036854775807) (hcm : came < 1000000) (w : World) (h : HeapSt w b v L came) :
    Calls Try.prog 43 #[.pointer (some ⟨b, 0, none⟩), .int .i64 x] w fun e w' => e = .returned (.int .i64 (L.length : Int)) ∧ ∃ v', HeapSt w' b v' (L ++ [⟨x, came⟩]) (came + 1) ∧ HG b w v w' v' := by
  obtain ⟨i0, hi, hz0, hz1, hz2⟩ := info_parts infoItemI
  have hfew := h.few
  have HB0 : BelowD w w.drew := BelowD.start w
  have hst : HeapSt w.drew b v L came := h.below (below_drewN (Below.refl _ _) 1)
  clear h
  have S0 : True := trivial
  have HS := Lib.hid (fun (w1 w2 : World) (_ : True) (_ : Below w1.heap.size w1 w2) => trivial)
  go_enter Try.func43, Try.ntmps43
  go_wp2
  refine wp_region_held_drew (S := fun w' => True) (by kernel_rfl) S0 (fun hHeld => ?_)
  obtain ⟨w0, hw0⟩ : ∃ z, w.drew = z := ⟨_, rfl⟩
  rw [hw0] at hst HB0 ⊢
  clear hw0
  refine wpAnyH_take (i := 0) (oi := { dst := some 5, op := Go.Op.move (Go.Operand.tmp 0), type := 100, pos := "heap.go:124", after := #[], guard := none }) (v := ?_) rfl (by kernel_rfl) (by kernel_rfl) (by kernel_rfl) (fun _ _ _ h => h) (Or.inl ⟨by kernel_rfl, ?_⟩) (by assumption) ?_
  rotate_left
  · intro w _
    first | (go_simp; done) | (go_simp; with_reducible rfl)
  try simp only [Act.put, List.setIfInBounds_toArray, List.set_cons_zero, List.set_cons_succ]
  refine wpAnyH_take (i := 1) (oi := { dst := some 6, op := Go.Op.move (Go.Operand.tmp 0), type := 100, pos := "heap.go:124", after := #[], guard := none }) (v := ?_) rfl (by kernel_rfl) (by kernel_rfl) (by kernel_rfl) (fun _ _ _ h => h) (Or.inl ⟨by kernel_rfl, ?_⟩) (by assumption) ?_
  rotate_left
  · intro w _
    first | (go_simp; done) | (go_simp; with_reducible rfl)
  try simp only [Act.put, List.setIfInBounds_toArray, List.set_cons_zero, List.set_cons_succ]
  refine wpAnyH_take (i := 2) (oi := { dst := some 7, op := Go.Op.nilCheck (Go.Operand.tmp 6), type := 0, pos := "heap.go:124", after := #[{ on := 1, ground := Go.Ground.data }], guard := none }) (v := ?_) rfl (by kernel_rfl) (by kernel_rfl) (by kernel_rfl) (fun _ _ _ h => h) (Or.inl ⟨by kernel_rfl, ?_⟩) (by assumption) ?_
  rotate_left
  · intro w _
    first | (go_simp; done) | (go_simp; with_reducible rfl)
  try simp only [Act.put, List.setIfInBounds_toArray, List.set_cons_zero, List.set_cons_succ]
  refine wpAnyH_take (i := 3) (oi := { dst := some 8, op := Go.Op.fieldAddr 72 (Go.Operand.tmp 7) 0, type := 0, pos := "heap.go:124", after := #[{ on := 2, ground := Go.Ground.data }], guard := none }) (v := ?_) rfl (by kernel_rfl) (by kernel_rfl) (by kernel_rfl) (fun _ _ _ h => h) (Or.inl ⟨by kernel_rfl, ?_⟩) (by assumption) ?_
  rotate_left
  · intro w _
    first | (go_simp; done) | (go_simp; with_reducible rfl)
  try simp only [Act.put, List.setIfInBounds_toArray, List.set_cons_zero, List.set_cons_succ]
  refine wpAnyH_take (i := 5) (oi := { dst := some 10, op := Go.Op.move (Go.Operand.tmp 1), type := 3, pos := "heap.go:124", after := #[], guard := none }) (v := ?_) rfl (by kernel_rfl) (by kernel_rfl) (by kernel_rfl) (fun _ _ _ h => h) (Or.inl ⟨by kernel_rfl, ?_⟩) (by assumption) ?_
  rotate_left
  · intro w _
    first | (go_simp; done) | (go_simp; with_reducible rfl)
  try simp only [Act.put, List.setIfInBounds_toArray, List.set_cons_zero, List.set_cons_succ]
  refine wpAnyH_take (i := 6) (oi := { dst := some 11, op := Go.Op.move (Go.Operand.tmp 0), type := 100, pos := "heap.go:124", after := #[], guard := none }) (v := ?_) rfl (by kernel_rfl) (by kernel_rfl) (by kernel_rfl) (fun _ _ _ h => h) (Or.inl ⟨by kernel_rfl, ?_⟩) (by assumption) ?_
  rotate_left
  · intro w _
    first | (go_simp; done) | (go_simp; with_reducible rfl)
  try simp only [Act.put, List.setIfInBounds_toArray, List.set_cons_zero, List.set_cons_succ]
  refine wpAnyH_take (i := 7) (oi := { dst := some 12, op := Go.Op.nilCheck (Go.Operand.tmp 11), type := 0, pos := "heap.go:124", after := #[{ on := 6, ground := Go.Ground.data }], guard := none }) (v := ?_) rfl (by kernel_rfl) (by kernel_rfl) (by kernel_rfl) (fun _ _ _ h => h) (Or.inl ⟨by kernel_rfl, ?_⟩) (by assumption) ?_
  rotate_left
  · intro w _
    first | (go_simp; done) | (go_simp; with_reducible rfl)
  try simp only [Act.put, List.setIfInBounds_toArray, List.set_cons_zero, List.set_cons_succ]
  refine wpAnyH_take (i := 8) (oi := { dst := some 13, op := Go.Op.fieldAddr 72 (Go.Operand.tmp 12) 1, type := 0, pos := "heap.go:124", after := #[{ on := 7, ground := Go.Ground.data }], guard := none }) (v := ?_) rfl (by kernel_rfl) (by kernel_rfl) (by kernel_rfl) (fun _ _ _ h => h) (Or.inl ⟨by kernel_rfl, ?_⟩) (by assumption) ?_
  rotate_left
  · intro w _
    first | (go_simp; done) | (go_simp; with_reducible rfl)
  try simp only [Act.put, List.setIfInBounds_toArray, List.set_cons_zero, List.set_cons_succ]
  refine wpAnyH_ready (rs := [4, 9]) (by kernel_rfl) (by simp) ?_
  refine AllReadyH.cons (o := { dst := some 9, op := Go.Op.load 70 (Go.Operand.tmp 8), type := 70, pos := "heap.go:124", after := #[{ on := 3, ground := Go.Ground.data }], guard := none }) rfl (fun K hK => ?_) ?_
  ·
    have c0 : w0.cell? ⟨b, 0, none⟩ = some (v) := (hst.blk.cell 0).trans rfl
    go_simp
    clear c0
    refine hK.out _ _ S0 (fun _ => ?_)
    clear hK K
    try simp only [Act.put, List.setIfInBounds_toArray, List.set_cons_zero, List.set_cons_succ]
    refine wpAnyH_ready (rs := [9]) (by kernel_rfl) (by simp) ?_
    refine AllReadyH.cons (o := { dst := some 14, op := Go.Op.load 3 (Go.Operand.tmp 13), type := 3, pos := "heap.go:124", after := #[{ on := 8, ground := Go.Ground.data }], guard := none }) rfl (fun K hK => ?_) AllReadyH.nil
    have c0 : w0.cell? ⟨b, 1, none⟩ = some (.int .i64 (came : Int)) := (hst.blk.cell 1).trans rfl
    go_simp
    clear c0
    refine hK.out _ _ S0 (fun _ => ?_)
    clear hK K
    try simp only [Act.put, List.setIfInBounds_toArray, List.set_cons_zero, List.set_cons_succ]
    refine wpAnyH_take (i := 10) (oi := { dst := some 15, op := Go.Op.build 79 #[(0, Go.Operand.tmp 10), (1, Go.Operand.tmp 14)], type := 79, pos := "heap.go:124", after := #[{ on := 5, ground := Go.Ground.data }, { on := 9, ground := Go.Ground.data }], guard := none }) (v := ?_) rfl (by kernel_rfl) (by kernel_rfl) (by kernel_rfl) (fun _ _ _ h => h) (Or.inl ⟨by kernel_rfl, ?_⟩) (by assumption) ?_
    rotate_left
    · intro w _
      first | (go_simp; done) | (go_simp; with_reducible rfl)
    try simp only [Act.put, List.setIfInBounds_toArray, List.set_cons_zero, List.set_cons_succ]
    refine wpAnyH_ready (rs := [11]) (by kernel_rfl) (by simp) ?_
    refine AllReadyH.cons (o := { dst := some 16, op := Go.Op.buildSlice 70 1 #[(0, Go.Operand.tmp 15)], type := 70, pos := "heap.go:124", after := #[{ on := 10, ground := Go.Ground.data }], guard := none }) rfl (fun K hK => ?_) AllReadyH.nil
    go_simp
    have hb3 : Below w0.heap.size w0 (w0.alloc (.cells #[.int .i64 x, .int .i64 (came : Int)] 79)) := (Below.refl _ _).alloc (Nat.le_refl _) _
    obtain ⟨g11, hg11⟩ : ∃ g, w0.heap.size = g := ⟨_, rfl⟩
    have HN : BlkW (w0.alloc (.cells #[.int .i64 x, .int .i64 (came : Int)] 79)) g11 79 #[.int .i64 x, .int .i64 (came : Int)] := by rw [← hg11]; exact Blk.new _ _ _
    obtain ⟨wc3, hwwc3⟩ : ∃ z, w0.alloc (.cells #[.int .i64 x, .int .i64 (came : Int)] 79) = z := ⟨_, rfl⟩
    have Hb3 := Lib.hid hb3
    have HHN := Lib.hid HN
    clear hb3 HN
    rw [hwwc3] at Hb3 HHN
    rw [hwwc3, hg11]
    have hb3 := Hb3.out
    have HN := HHN.out
    clear hwwc3 Hb3 HHN hg11
    have hst_ := hst.below hb3
    clear hst
    have hst := hst_
    clear hst_
    have HB0_ := HB0.below hb3
    clear HB0
    have HB0 := HB0_
    clear HB0_
    have Sc3 := HS.out _ _ (by assumption) hb3
    refine hK.out _ _ Sc3 (fun _ => ?_)
    clear hK K hb3
    try simp only [Act.put, List.setIfInBounds_toArray, List.set_cons_zero, List.set_cons_succ]
    refine wpAnyH_ready (rs := [12]) (by kernel_rfl) (by simp) ?_
    refine AllReadyH.cons (o := { dst := some 17, op := Go.Op.call { callee := Go.Callee.builtin Go.Builtin.append, args := #[Go.Operand.tmp 9, Go.Operand.tmp 16], argTypes := #[70, 70] }, type := 70, pos := "heap.go:124", after := #[{ on := 4, ground := Go.Ground.data }, { on := 11, ground := Go.Ground.data }], guard := none }) rfl (fun K hK => ?_) AllReadyH.nil
    refine step_append_lies _ (by rfl) (.tmp 9) (.tmp 16) 70 (by rfl) (b + 1) 79 i0 (.agg #[.int .i64 0, .int .i64 0]) 2 16 Try.underlying70 hi hz0 hz1 hz2 rfl (by decide) _ _ _ (by rfl) hst.row ⟨_, 0, none⟩ 1 1 (itV ⟨x, came⟩) (by rfl) rfl (World.news_of_block HN) (itV_one _) (by omega) (by unfold maxLen; omega) (by omega) (by have := hst.blk.lt; omega) _ rfl ?_
    intro g cap w2 hown' hgrow hg' hlt2
    have BB := add_blk hst hgrow
    have HAS := Lib.hid (add_state (w := w) hst HB0 hlo hhi hcm (OwnR.snoc (a := (⟨x, came⟩ : KeyP Int)) hown') hgrow rfl hg')
    refine hK.out _ _ S0 (fun _ => ?_)
    clear hK K
    try simp only [Act.put, List.setIfInBounds_toArray, List.set_cons_zero, List.set_cons_succ]
    refine wpAnyH_take (i := 13) (oi := { dst := some 18, op := Go.Op.nilCheck (Go.Operand.tmp 5), type := 0, pos := "heap.go:124", after := #[{ on := 0, ground := Go.Ground.data }, { on := 0, ground := Go.Ground.phase }, { on := 1, ground := Go.Ground.phase }, { on := 2, ground := Go.Ground.phase }, { on := 3, ground := Go.Ground.phase }, { on := 4, ground := Go.Ground.phase }, { on := 5, ground := Go.Ground.phase }, { on := 6, ground := Go.Ground.phase }, { on := 7, ground := Go.Ground.phase }, { on := 8, ground := Go.Ground.phase }, { on := 9, ground := Go.Ground.phase }, { on := 10, ground := Go.Ground.phase }, { on := 11, ground := Go.Ground.phase }, { on := 12, ground := Go.Ground.phase }], guard := none }) (v := ?_) rfl (by kernel_rfl) (by kernel_rfl) (by kernel_rfl) (fun _ _ _ h => h) (Or.inl ⟨by kernel_rfl, ?_⟩) (by assumption) ?_
    rotate_left
    · intro w _
      first | (go_simp; done) | (go_simp; with_reducible rfl)
    try simp only [Act.put, List.setIfInBounds_toArray, List.set_cons_zero, List.set_cons_succ]
    refine wpAnyH_take (i := 14) (oi := { dst := some 19, op := Go.Op.fieldAddr 72 (Go.Operand.tmp 18) 0, type := 0, pos := "heap.go:124", after := #[{ on := 13, ground := Go.Ground.data }, { on := 0, ground := Go.Ground.phase }, { on := 1, ground := Go.Ground.phase }, { on := 2, ground := Go.Ground.phase }, { on := 3, ground := Go.Ground.phase }, { on := 4, ground := Go.Ground.phase }, { on := 5, ground := Go.Ground.phase }, { on := 6, ground := Go.Ground.phase }, { on := 7, ground := Go.Ground.phase }, { on := 8, ground := Go.Ground.phase }, { on := 9, ground := Go.Ground.phase }, { on := 10, ground := Go.Ground.phase }, { on := 11, ground := Go.Ground.phase }, { on := 12, ground := Go.Ground.phase }], guard := none }) (v := ?_) rfl (by kernel_rfl) (by kernel_rfl) (by kernel_rfl) (fun _ _ _ h => h) (Or.inl ⟨by kernel_rfl, ?_⟩) (by assumption) ?_
    rotate_left
    · intro w _
      first | (go_simp; done) | (go_simp; with_reducible rfl)
    try simp only [Act.put, List.setIfInBounds_toArray, List.set_cons_zero, List.set_cons_succ]
    refine wpAnyH_ready (rs := [15]) (by kernel_rfl) (by simp) ?_
    refine AllReadyH.cons (o := { dst := none, op := Go.Op.store 70 (Go.Operand.tmp 19) (Go.Operand.tmp 17), type := 0, pos := "heap.go:124", after := #[{ on := 14, ground := Go.Ground.data }, { on := 12, ground := Go.Ground.data }, { on := 12, ground := Go.Ground.chain }, { on := 0, ground := Go.Ground.phase }, { on := 1, ground := Go.Ground.phase }, { on := 2, ground := Go.Ground.phase }, { on := 3, ground := Go.Ground.phase }, { on := 4, ground := Go.Ground.phase }, { on := 5, ground := Go.Ground.phase }, { on := 6, ground := Go.Ground.phase }, { on := 7, ground := Go.Ground.phase }, { on := 8, ground := Go.Ground.phase }, { on := 9, ground := Go.Ground.phase }, { on := 10, ground := Go.Ground.phase }, { on := 11, ground := Go.Ground.phase }, { on := 12, ground := Go.Ground.phase }], guard := none }) rfl (fun K hK => ?_) AllReadyH.nil
    have c0 := BB.cell 0
    have f0 := BB.frozen 0
    go_simp
    refine hK.out _ _ S0 (fun _ => ?_)
    clear hK K
    try simp only [Act.put, List.setIfInBounds_toArray, List.set_cons_zero, List.set_cons_succ]
    refine wpAnyH_done (by kernel_rfl) ?_ _
    have d0 := BB.cell 0
    have d1 := BB.cell 1
    have e1 := BB.frozen 1
    go_wp2
    go_ret
    exact ⟨by first | rfl | go_num, _, HAS.out⟩
  refine AllReadyH.cons (o := { dst := some 14, op := Go.Op.load 3 (Go.Operand.tmp 13), type := 3, pos := "heap.go:124", after := #[{ on := 8, ground := Go.Ground.data }], guard := none }) rfl (fun K hK => ?_) AllReadyH.nil
  ·
    have c0 : w0.cell? ⟨b, 1, none⟩ = some (.int .i64 (came : Int)) := (hst.blk.cell 1).trans rfl
    go_simp
    clear c0
    refine hK.out _ _ S0 (fun _ => ?_)
    clear hK K
    try simp only [Act.put, List.setIfInBounds_toArray, List.set_cons_zero, List.set_cons_succ]
    refine wpAnyH_take (i := 10) (oi := { dst := some 15, op := Go.Op.build 79 #[(0, Go.Operand.tmp 10), (1, Go.Operand.tmp 14)], type := 79, pos := "heap.go:124", after := #[{ on := 5, ground := Go.Ground.data }, { on := 9, ground := Go.Ground.data }], guard := none }) (v := ?_) rfl (by kernel_rfl) (by kernel_rfl) (by kernel_rfl) (fun _ _ _ h => h) (Or.inl ⟨by kernel_rfl, ?_⟩) (by assumption) ?_
    rotate_left
    · intro w _
      first | (go_simp; done) | (go_simp; with_reducible rfl)
    try simp only [Act.put, List.setIfInBounds_toArray, List.set_cons_zero, List.set_cons_succ]
    refine wpAnyH_ready (rs := [4, 11]) (by kernel_rfl) (by simp) ?_
    refine AllReadyH.cons (o := { dst := some 9, op := Go.Op.load 70 (Go.Operand.tmp 8), type := 70, pos := "heap.go:124", after := #[{ on := 3, ground := Go.Ground.data }], guard := none }) rfl (fun K hK => ?_) ?_
    ·
      have c0 : w0.cell? ⟨b, 0, none⟩ = some (v) := (hst.blk.cell 0).trans rfl
      go_simp
      clear c0
      refine hK.out _ _ S0 (fun _ => ?_)
      clear hK K
      try simp only [Act.put, List.setIfInBounds_toArray, List.set_cons_zero, List.set_cons_succ]
      refine wpAnyH_ready (rs := [11]) (by kernel_rfl) (by simp) ?_
      refine AllReadyH.cons (o := { dst := some 16, op := Go.Op.buildSlice 70 1 #[(0, Go.Operand.tmp 15)], type := 70, pos := "heap.go:124", after := #[{ on := 10, ground := Go.Ground.data }], guard := none }) rfl (fun K hK => ?_) AllReadyH.nil
      go_simp
      have hb3 : Below w0.heap.size w0 (w0.alloc (.cells #[.int .i64 x, .int .i64 (came : Int)] 79)) := (Below.refl _ _).alloc (Nat.le_refl _) _
      obtain ⟨g11, hg11⟩ : ∃ g, w0.heap.size = g := ⟨_, rfl⟩
      have HN : BlkW (w0.alloc (.cells #[.int .i64 x, .int .i64 (came : Int)] 79)) g11 79 #[.int .i64 x, .int .i64 (came : Int)] := by rw [← hg11]; exact Blk.new _ _ _
      obtain ⟨wc8, hwwc8⟩ : ∃ z, w0.alloc (.cells #[.int .i64 x, .int .i64 (came : Int)] 79) = z := ⟨_, rfl⟩
      have Hb3 := Lib.hid hb3
      have HHN := Lib.hid HN
      clear hb3 HN
      rw [hwwc8] at Hb3 HHN
      rw [hwwc8, hg11]
      have hb3 := Hb3.out
      have HN := HHN.out
      clear hwwc8 Hb3 HHN hg11
      have hst_ := hst.below hb3
      clear hst
      have hst := hst_
      clear hst_
      have HB0_ := HB0.below hb3
      clear HB0
      have HB0 := HB0_
      clear HB0_
      have Sc8 := HS.out _ _ (by assumption) hb3
      refine hK.out _ _ Sc8 (fun _ => ?_)
      clear hK K hb3
      try simp only [Act.put, List.setIfInBounds_toArray, List.set_cons_zero, List.set_cons_succ]
      refine wpAnyH_ready (rs := [12]) (by kernel_rfl) (by simp) ?_
      refine AllReadyH.cons (o := { dst := some 17, op := Go.Op.call { callee := Go.Callee.builtin Go.Builtin.append, args := #[Go.Operand.tmp 9, Go.Operand.tmp 16], argTypes := #[70, 70] }, type := 70, pos := "heap.go:124", after := #[{ on := 4, ground := Go.Ground.data }, { on := 11, ground := Go.Ground.data }], guard := none }) rfl (fun K hK => ?_) AllReadyH.nil
      refine step_append_lies _ (by rfl) (.tmp 9) (.tmp 16) 70 (by rfl) (b + 1) 79 i0 (.agg #[.int .i64 0, .int .i64 0]) 2 16 Try.underlying70 hi hz0 hz1 hz2 rfl (by decide) _ _ _ (by rfl) hst.row ⟨_, 0, none⟩ 1 1 (itV ⟨x, came⟩) (by rfl) rfl (World.news_of_block HN) (itV_one _) (by omega) (by unfold maxLen; omega) (by omega) (by have := hst.blk.lt; omega) _ rfl ?_
      intro g cap w2 hown' hgrow hg' hlt2
      have BB := add_blk hst hgrow
      have HAS := Lib.hid (add_state (w := w) hst HB0 hlo hhi hcm (OwnR.snoc (a := (⟨x, came⟩ : KeyP Int)) hown') hgrow rfl hg')
      refine hK.out _ _ S0 (fun _ => ?_)
      clear hK K
      try simp only [Act.put, List.setIfInBounds_toArray, List.set_cons_zero, List.set_cons_succ]
      refine wpAnyH_take (i := 13) (oi := { dst := some 18, op := Go.Op.nilCheck (Go.Operand.tmp 5), type := 0, pos := "heap.go:124", after := #[{ on := 0, ground := Go.Ground.data }, { on := 0, ground := Go.Ground.phase }, { on := 1, ground := Go.Ground.phase }, { on := 2, ground := Go.Ground.phase }, { on := 3, ground := Go.Ground.phase }, { on := 4, ground := Go.Ground.phase }, { on := 5, ground := Go.Ground.phase }, { on := 6, ground := Go.Ground.phase }, { on := 7, ground := Go.Ground.phase }, { on := 8, ground := Go.Ground.phase }, { on := 9, ground := Go.Ground.phase }, { on := 10, ground := Go.Ground.phase }, { on := 11, ground := Go.Ground.phase }, { on := 12, ground := Go.Ground.phase }], guard := none }) (v := ?_) rfl (by kernel_rfl) (by kernel_rfl) (by kernel_rfl) (fun _ _ _ h => h) (Or.inl ⟨by kernel_rfl, ?_⟩) (by assumption) ?_
      rotate_left
      · intro w _
        first | (go_simp; done) | (go_simp; with_reducible rfl)
      try simp only [Act.put, List.setIfInBounds_toArray, List.set_cons_zero, List.set_cons_succ]
      refine wpAnyH_take (i := 14) (oi := { dst := some 19, op := Go.Op.fieldAddr 72 (Go.Operand.tmp 18) 0, type := 0, pos := "heap.go:124", after := #[{ on := 13, ground := Go.Ground.data }, { on := 0, ground := Go.Ground.phase }, { on := 1, ground := Go.Ground.phase }, { on := 2, ground := Go.Ground.phase }, { on := 3, ground := Go.Ground.phase }, { on := 4, ground := Go.Ground.phase }, { on := 5, ground := Go.Ground.phase }, { on := 6, ground := Go.Ground.phase }, { on := 7, ground := Go.Ground.phase }, { on := 8, ground := Go.Ground.phase }, { on := 9, ground := Go.Ground.phase }, { on := 10, ground := Go.Ground.phase }, { on := 11, ground := Go.Ground.phase }, { on := 12, ground := Go.Ground.phase }], guard := none }) (v := ?_) rfl (by kernel_rfl) (by kernel_rfl) (by kernel_rfl) (fun _ _ _ h => h) (Or.inl ⟨by kernel_rfl, ?_⟩) (by assumption) ?_
      rotate_left
      · intro w _
        first | (go_simp; done) | (go_simp; with_reducible rfl)
      try simp only [Act.put, List.setIfInBounds_toArray, List.set_cons_zero, List.set_cons_succ]
      refine wpAnyH_ready (rs := [15]) (by kernel_rfl) (by simp) ?_
      refine AllReadyH.cons (o := { dst := none, op := Go.Op.store 70 (Go.Operand.tmp 19) (Go.Operand.tmp 17), type := 0, pos := "heap.go:124", after := #[{ on := 14, ground := Go.Ground.data }, { on := 12, ground := Go.Ground.data }, { on := 12, ground := Go.Ground.chain }, { on := 0, ground := Go.Ground.phase }, { on := 1, ground := Go.Ground.phase }, { on := 2, ground := Go.Ground.phase }, { on := 3, ground := Go.Ground.phase }, { on := 4, ground := Go.Ground.phase }, { on := 5, ground := Go.Ground.phase }, { on := 6, ground := Go.Ground.phase }, { on := 7, ground := Go.Ground.phase }, { on := 8, ground := Go.Ground.phase }, { on := 9, ground := Go.Ground.phase }, { on := 10, ground := Go.Ground.phase }, { on := 11, ground := Go.Ground.phase }, { on := 12, ground := Go.Ground.phase }], guard := none }) rfl (fun K hK => ?_) AllReadyH.nil
      have c0 := BB.cell 0
      have f0 := BB.frozen 0
      go_simp
      refine hK.out _ _ S0 (fun _ => ?_)
      clear hK K
      try simp only [Act.put, List.setIfInBounds_toArray, List.set_cons_zero, List.set_cons_succ]
      refine wpAnyH_done (by kernel_rfl) ?_ _
      have d0 := BB.cell 0
      have d1 := BB.cell 1
      have e1 := BB.frozen 1
      go_wp2
      go_ret
      exact ⟨by first | rfl | go_num, _, HAS.out⟩
    refine AllReadyH.cons (o := { dst := some 16, op := Go.Op.buildSlice 70 1 #[(0, Go.Operand.tmp 15)], type := 70, pos := "heap.go:124", after := #[{ on := 10, ground := Go.Ground.data }], guard := none }) rfl (fun K hK => ?_) AllReadyH.nil
    ·
      go_simp
      have hb3 : Below w0.heap.size w0 (w0.alloc (.cells #[.int .i64 x, .int .i64 (came : Int)] 79)) := (Below.refl _ _).alloc (Nat.le_refl _) _
      obtain ⟨g11, hg11⟩ : ∃ g, w0.heap.size = g := ⟨_, rfl⟩
      have HN : BlkW (w0.alloc (.cells #[.int .i64 x, .int .i64 (came : Int)] 79)) g11 79 #[.int .i64 x, .int .i64 (came : Int)] := by rw [← hg11]; exact Blk.new _ _ _
      obtain ⟨wc11, hwwc11⟩ : ∃ z, w0.alloc (.cells #[.int .i64 x, .int .i64 (came : Int)] 79) = z := ⟨_, rfl⟩
      have Hb3 := Lib.hid hb3
      have HHN := Lib.hid HN
      clear hb3 HN
      rw [hwwc11] at Hb3 HHN
      rw [hwwc11, hg11]
      have hb3 := Hb3.out
      have HN := HHN.out
      clear hwwc11 Hb3 HHN hg11
      have hst_ := hst.below hb3
      clear hst
      have hst := hst_
      clear hst_
      have HB0_ := HB0.below hb3
      clear HB0
      have HB0 := HB0_
      clear HB0_
      have Sc11 := HS.out _ _ (by assumption) hb3
      refine hK.out _ _ Sc11 (fun _ => ?_)
      clear hK K hb3
      try simp only [Act.put, List.setIfInBounds_toArray, List.set_cons_zero, List.set_cons_succ]
      refine wpAnyH_ready (rs := [4]) (by kernel_rfl) (by simp) ?_
      refine AllReadyH.cons (o := { dst := some 9, op := Go.Op.load 70 (Go.Operand.tmp 8), type := 70, pos := "heap.go:124", after := #[{ on := 3, ground := Go.Ground.data }], guard := none }) rfl (fun K hK => ?_) AllReadyH.nil
      have c0 : wc11.cell? ⟨b, 0, none⟩ = some (v) := (hst.blk.cell 0).trans rfl
      go_simp
      clear c0
      refine hK.out _ _ S0 (fun _ => ?_)
      clear hK K
      try simp only [Act.put, List.setIfInBounds_toArray, List.set_cons_zero, List.set_cons_succ]
      refine wpAnyH_ready (rs := [12]) (by kernel_rfl) (by simp) ?_
      refine AllReadyH.cons (o := { dst := some 17, op := Go.Op.call { callee := Go.Callee.builtin Go.Builtin.append, args := #[Go.Operand.tmp 9, Go.Operand.tmp 16], argTypes := #[70, 70] }, type := 70, pos := "heap.go:124", after := #[{ on := 4, ground := Go.Ground.data }, { on := 11, ground := Go.Ground.data }], guard := none }) rfl (fun K hK => ?_) AllReadyH.nil
      refine step_append_lies _ (by rfl) (.tmp 9) (.tmp 16) 70 (by rfl) (b + 1) 79 i0 (.agg #[.int .i64 0, .int .i64 0]) 2 16 Try.underlying70 hi hz0 hz1 hz2 rfl (by decide) _ _ _ (by rfl) hst.row ⟨_, 0, none⟩ 1 1 (itV ⟨x, came⟩) (by rfl) rfl (World.news_of_block HN) (itV_one _) (by omega) (by unfold maxLen; omega) (by omega) (by have := hst.blk.lt; omega) _ rfl ?_
      intro g cap w2 hown' hgrow hg' hlt2
      have BB := add_blk hst hgrow
      have HAS := Lib.hid (add_state (w := w) hst HB0 hlo hhi hcm (OwnR.snoc (a := (⟨x, came⟩ : KeyP Int)) hown') hgrow rfl hg')
      refine hK.out _ _ S0 (fun _ => ?_)
      clear hK K
      try simp only [Act.put, List.setIfInBounds_toArray, List.set_cons_zero, List.set_cons_succ]
      refine wpAnyH_take (i := 13) (oi := { dst := some 18, op := Go.Op.nilCheck (Go.Operand.tmp 5), type := 0, pos := "heap.go:124", after := #[{ on := 0, ground := Go.Ground.data }, { on := 0, ground := Go.Ground.phase }, { on := 1, ground := Go.Ground.phase }, { on := 2, ground := Go.Ground.phase }, { on := 3, ground := Go.Ground.phase }, { on := 4, ground := Go.Ground.phase }, { on := 5, ground := Go.Ground.phase }, { on := 6, ground := Go.Ground.phase }, { on := 7, ground := Go.Ground.phase }, { on := 8, ground := Go.Ground.phase }, { on := 9, ground := Go.Ground.phase }, { on := 10, ground := Go.Ground.phase }, { on := 11, ground := Go.Ground.phase }, { on := 12, ground := Go.Ground.phase }], guard := none }) (v := ?_) rfl (by kernel_rfl) (by kernel_rfl) (by kernel_rfl) (fun _ _ _ h => h) (Or.inl ⟨by kernel_rfl, ?_⟩) (by assumption) ?_
      rotate_left
      · intro w _
        first | (go_simp; done) | (go_simp; with_reducible rfl)
      try simp only [Act.put, List.setIfInBounds_toArray, List.set_cons_zero, List.set_cons_succ]
      refine wpAnyH_take (i := 14) (oi := { dst := some 19, op := Go.Op.fieldAddr 72 (Go.Operand.tmp 18) 0, type := 0, pos := "heap.go:124", after := #[{ on := 13, ground := Go.Ground.data }, { on := 0, ground := Go.Ground.phase }, { on := 1, ground := Go.Ground.phase }, { on := 2, ground := Go.Ground.phase }, { on := 3, ground := Go.Ground.phase }, { on := 4, ground := Go.Ground.phase }, { on := 5, ground := Go.Ground.phase }, { on := 6, ground := Go.Ground.phase }, { on := 7, ground := Go.Ground.phase }, { on := 8, ground := Go.Ground.phase }, { on := 9, ground := Go.Ground.phase }, { on := 10, ground := Go.Ground.phase }, { on := 11, ground := Go.Ground.phase }, { on := 12, ground := Go.Ground.phase }], guard := none }) (v := ?_) rfl (by kernel_rfl) (by kernel_rfl) (by kernel_rfl) (fun _ _ _ h => h) (Or.inl ⟨by kernel_rfl, ?_⟩) (by assumption) ?_
      rotate_left
      · intro w _
        first | (go_simp; done) | (go_simp; with_reducible rfl)
      try simp only [Act.put, List.setIfInBounds_toArray, List.set_cons_zero, List.set_cons_succ]
      refine wpAnyH_ready (rs := [15]) (by kernel_rfl) (by simp) ?_
      refine AllReadyH.cons (o := { dst := none, op := Go.Op.store 70 (Go.Operand.tmp 19) (Go.Operand.tmp 17), type := 0, pos := "heap.go:124", after := #[{ on := 14, ground := Go.Ground.data }, { on := 12, ground := Go.Ground.data }, { on := 12, ground := Go.Ground.chain }, { on := 0, ground := Go.Ground.phase }, { on := 1, ground := Go.Ground.phase }, { on := 2, ground := Go.Ground.phase }, { on := 3, ground := Go.Ground.phase }, { on := 4, ground := Go.Ground.phase }, { on := 5, ground := Go.Ground.phase }, { on := 6, ground := Go.Ground.phase }, { on := 7, ground := Go.Ground.phase }, { on := 8, ground := Go.Ground.phase }, { on := 9, ground := Go.Ground.phase }, { on := 10, ground := Go.Ground.phase }, { on := 11, ground := Go.Ground.phase }, { on := 12, ground := Go.Ground.phase }], guard := none }) rfl (fun K hK => ?_) AllReadyH.nil
      have c0 := BB.cell 0
      have f0 := BB.frozen 0
      go_simp
      refine hK.out _ _ S0 (fun _ => ?_)
      clear hK K
      try simp only [Act.put, List.setIfInBounds_toArray, List.set_cons_zero, List.set_cons_succ]
      refine wpAnyH_done (by kernel_rfl) ?_ _
      have d0 := BB.cell 0
      have d1 := BB.cell 1
      have e1 := BB.frozen 1
      go_wp2
      go_ret
      exact ⟨by first | rfl | go_num, _, HAS.out⟩
end Go.Proofs.Ytlicnijhmncoeaa
