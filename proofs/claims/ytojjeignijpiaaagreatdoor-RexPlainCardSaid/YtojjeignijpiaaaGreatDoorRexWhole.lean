/- A parser made; all of a text read: the walks of newParser and whole. -/
import Derived.Test.YtojjeignijpiaaaGreatDoorRexExpr
namespace Go.Proofs.YtojjeignijpiaaaGreatDoor
open Go.RowKit
set_option linter.unusedVariables false
set_option linter.unusedSimpArgs false

theorem results_row_tmp2 {P : Program} {fn : Func} {p u v : Tmp} {ty : TypeId} (h : fn.results = #[.cell p ty, .tmp u, .tmp v]) (tmps : Array Value) (w : World) (g : Nat) (t : TypeId) (cs : Array Value) (fr : Nat × Nat) (d : TypeDesc)
    (hp : tmps.getD p undef = .pointer (some ⟨g, 0, none⟩)) (hg : w.heap[g]? = some (.cells cs t fr))
    (hu : P.underlying ty = some d) (hd : (match d with | .struct _ | .array _ _ => true | _ => false) = true) (hi : (P.info? ty).map (·.size) = some cs.size) :
    (results fn tmps).run P w = .ok (.tuple #[.agg cs, tmps.getD u undef, tmps.getD v undef]) w := by
  have hp' : tmps[p]?.getD undef = .pointer (some ⟨g, 0, none⟩) := by simpa using hp
  simp only [results, h]
  simp [Sem.run_bind, hp', asAddr, run_loadVar_row w g t ty cs fr d hg hu hd hi, Result.andThen]

set_option maxHeartbeats 800000 in
theorem newParser_any (t : ByteArray) (ht : t.size ≤ 256) (W : World) :
    Calls Tryz.prog 24 #[.string t] W fun e w' => ∃ b, e = .returned (.pointer (some ⟨b, 0, none⟩)) ∧ Ps w' b t 0 0 false 0 ∧ W.heap.size ≤ b ∧ Below W.heap.size W w' := by
  have OF := Lib.hid (of_any t W)
  go_enter Tryz.func24, Tryz.ntmps24
  go_wp2_with fail
  refine OF.out.mono ?_
  rintro e w1 ⟨rfl, hx⟩
  have hsz := hx.size
  have HX := Lib.hid hx
  clear hx OF
  go_wp2
  go_ret
  exact ⟨w1.heap.size, rfl, ⟨Blk.new w1 70 (psC t 0 0 false 0), Nat.zero_le _, ht⟩, hsz, HX.out.alloc hsz _⟩
def WholePost (R : Res NodeT) (w : World) (B : Nat) (t : ByteArray) (x : NodeX) (at' : Int) (ok : Bool) : Prop :=
  match R with
  | .ok n r => ok = true ∧ x.t = n ∧ at' = (t.size : Int) - (r.length : Int) ∧ GoodN w (fun g => B ≤ g) x
  | .bad m => ok = false ∧ x = nilX ∧ at' = (t.size : Int) - (m : Int)
set_option maxRecDepth 100000 in
set_option maxHeartbeats 3200000 in
theorem whole_any (b : Nat) (t : ByteArray) (e0 : Int) (W : World) (h : Ps W b t 0 0 false e0) (hl : LibF W b) :
    Calls Tryz.prog 25 #[.pointer (some ⟨b, 0, none⟩)] W fun e w' => ∃ x at' ok, e = .returned (.tuple #[.agg (nodeC x), .int .i64 at', .bool ok]) ∧ W.grownBy w' (some b) ∧ WholePost (exprP (t.size + 1) false (atL t 0)) w' W.heap.size t x at' ok := by
  have hlt := h.lt
  have hbn : W.heap.size ≠ b := by omega
  have hG0 := World.grownBy_alloc W (.cells #[.int .i64 0, .int .u64 0, .int .u64 0, .int .u64 0, .int .u64 0, .int .i64 0, .int .i64 0, .slice none 0 0] 36) (some b)
  have EX := expression_all (t.size + 1) b t 0 0 e0 _ (h.alloc (.cells #[.int .i64 0, .int .u64 0, .int .u64 0, .int .u64 0, .int .u64 0, .int .i64 0, .int .i64 0, .slice none 0 0] 36)) (hl.next hG0) (Nat.le_refl _) (by rw [at_len]; omega)
  have hsz0 : (W.alloc (.cells #[.int .i64 0, .int .u64 0, .int .u64 0, .int .u64 0, .int .u64 0, .int .i64 0, .int .i64 0, .slice none 0 0] 36)).heap.size = W.heap.size + 1 := by simp
  rw [hsz0, show decide (0 < 0) = false from rfl] at EX
  obtain ⟨R, hR⟩ : ∃ R, exprP (t.size + 1) false (atL t 0) = R := ⟨_, rfl⟩
  rw [hR] at EX ⊢
  have HG0 := Lib.hid hG0
  have HK0 := Lib.hid (Blk.new W 36 #[.int .i64 0, .int .u64 0, .int .u64 0, .int .u64 0, .int .u64 0, .int .i64 0, .int .i64 0, .slice none 0 0])
  replace EX := Lib.hid EX
  clear h hl hR hG0 hsz0
  go_enter Tryz.func25, Tryz.ntmps25
  go_wp2_with fail
  refine EX.out.mono ?_
  rintro e w1 ⟨x, j, f, e1, rfl, hp, hg, ⟨⟨hgood, hwf⟩, hres⟩⟩
  have hk1 := HK0.out.kept hg hbn
  obtain ⟨⟨d0, d1, d2, d3, d4, d5, d6, d7⟩, f0, f1, f2, f3, f4, f5, f6, f7⟩ := nil_cells hk1
  have q3 := hp.fault
  have hb1 := hp.lt
  have hjt := hp.le
  obtain ⟨w2, hw2⟩ : ∃ z, ((((((((w1.setCell ⟨W.heap.size, 0, none⟩ (.int .i64 x.kind)).setCell ⟨W.heap.size, 1, none⟩ (.int .u64 (word x.set 0 : Nat))).setCell ⟨W.heap.size, 2, none⟩ (.int .u64 (word x.set 1 : Nat))).setCell ⟨W.heap.size, 3, none⟩ (.int .u64 (word x.set 2 : Nat))).setCell ⟨W.heap.size, 4, none⟩ (.int .u64 (word x.set 3 : Nat))).setCell ⟨W.heap.size, 5, none⟩ (.int .i64 x.mn)).setCell ⟨W.heap.size, 6, none⟩ (.int .i64 x.mx)).setCell ⟨W.heap.size, 7, none⟩ (.slice x.A x.n x.c)) = z := ⟨_, rfl⟩
  have HK2 := Lib.hid (show Blk w2 W.heap.size 36 (nodeC x) by rw [← hw2]; exact blk_eight hk1 nilX_lit _ _ _ _ _ _ _ _)
  have HP2 := Lib.hid (show Ps w2 b t j 0 f e1 by rw [← hw2]; exact ps_eight hp (Ne.symm hbn) _ _ _ _ _ _ _ _)
  have HG2 := Lib.hid (show W.grownBy w2 (some b) by rw [← hw2]; exact grown_eight (World.grownBy.trans HG0.out hg) (Nat.le_refl _) _ _ _ _ _ _ _ _)
  have HD2 := Lib.hid (show GoodN w2 (fun g => W.heap.size + 1 ≤ g) x by rw [← hw2]; exact good_eight2 hgood (fun q hq e => by omega) _ _ _ _ _ _ _ _)
  have HW2 := Lib.hid hw2
  have HRES := Lib.hid hres
  have hp3 : w2.cell? ⟨b, 3, none⟩ = some (.bool f) := HP2.out.fault
  clear hk1 hp hg hgood hwf hres EX HG0 HK0 hw2
  unfold nodeC nodeV
  cases f with
  | true =>
    go_wp2
    rw [HW2.out]
    have S0 : Ps w2.drew b t j 0 true e1 := HP2.out.drewN 1
    have D0 := HK2.out.drew
    obtain ⟨⟨y0, y1, y2, y3, y4, y5, y6, y7⟩, z0, z1, z2, z3, z4, z5, z6, z7⟩ := node_cells D0
    obtain ⟨⟨r0, r1, r2, r3, r4, r5, r6, r7⟩, s0, s1, s2, s3, s4, s5, s6, s7⟩ := node_cells HK2.out
    clear D0
    refine wp_region_held_drew (S := (fun w' => Ps w' b t j 0 true e1)) (by kernel_rfl) S0 (fun hHeld => ?_)
    refine wpAnyH_take (i := 0) (oi := { dst := some 11, op := Go.Op.build 36 #[], type := 36, pos := "parse.go:31", after := #[], guard := none }) (v := ?_) rfl (by kernel_rfl) (by kernel_rfl) (by kernel_rfl) (fun _ _ _ h => h) (Or.inl ⟨by kernel_rfl, ?_⟩) (by assumption) ?_
    rotate_left
    · intro w hSw
      first | (go_simp; done) | (go_simp; with_reducible rfl)
    try simp only [Act.put, List.setIfInBounds_toArray, List.set_cons_zero, List.set_cons_succ]
    refine wpAnyH_take (i := 1) (oi := { dst := some 12, op := Go.Op.move (Go.Operand.tmp 0), type := 53, pos := "parse.go:31", after := #[{ on := 5, ground := Go.Ground.gcOnly Go.Departure.lateStores }], guard := none }) (v := ?_) rfl (by kernel_rfl) (by kernel_rfl) (by kernel_rfl) (fun _ _ _ h => h) (Or.inl ⟨by kernel_rfl, ?_⟩) (by assumption) ?_
    rotate_left
    · intro w hSw
      first | (go_simp; done) | (go_simp; with_reducible rfl)
    try simp only [Act.put, List.setIfInBounds_toArray, List.set_cons_zero, List.set_cons_succ]
    refine wpAnyH_take (i := 2) (oi := { dst := some 13, op := Go.Op.nilCheck (Go.Operand.tmp 12), type := 0, pos := "parse.go:31", after := #[{ on := 1, ground := Go.Ground.data }, { on := 5, ground := Go.Ground.gcOnly Go.Departure.lateStores }], guard := none }) (v := ?_) rfl (by kernel_rfl) (by kernel_rfl) (by kernel_rfl) (fun _ _ _ h => h) (Or.inl ⟨by kernel_rfl, ?_⟩) (by assumption) ?_
    rotate_left
    · intro w hSw
      first | (go_simp; done) | (go_simp; with_reducible rfl)
    try simp only [Act.put, List.setIfInBounds_toArray, List.set_cons_zero, List.set_cons_succ]
    refine wpAnyH_take (i := 3) (oi := { dst := some 14, op := Go.Op.fieldAddr 70 (Go.Operand.tmp 13) 3, type := 0, pos := "parse.go:31", after := #[{ on := 2, ground := Go.Ground.data }, { on := 5, ground := Go.Ground.gcOnly Go.Departure.lateStores }], guard := none }) (v := ?_) rfl (by kernel_rfl) (by kernel_rfl) (by kernel_rfl) (fun _ _ _ h => h) (Or.inl ⟨by kernel_rfl, ?_⟩) (by assumption) ?_
    rotate_left
    · intro w hSw
      first | (go_simp; done) | (go_simp; with_reducible rfl)
    try simp only [Act.put, List.setIfInBounds_toArray, List.set_cons_zero, List.set_cons_succ]
    refine wpAnyH_take (i := 4) (oi := { dst := some 15, op := Go.Op.load 3 (Go.Operand.tmp 14), type := 3, pos := "parse.go:31", after := #[{ on := 3, ground := Go.Ground.data }, { on := 5, ground := Go.Ground.gcOnly Go.Departure.lateStores }], guard := none }) (v := ?_) rfl (by kernel_rfl) (by kernel_rfl) (by kernel_rfl) (fun _ _ _ h => h) (Or.inl ⟨by kernel_rfl, ?_⟩) (by assumption) ?_
    rotate_left
    · intro w hSw
      have q4 := hSw.place
      first | (go_simp; done) | (go_simp; with_reducible rfl)
    try simp only [Act.put, List.setIfInBounds_toArray, List.set_cons_zero, List.set_cons_succ]
    refine wpAnyH_ready (rs := [5]) (by kernel_rfl) (by simp) ?_
    refine AllReadyH.cons (o := { dst := none, op := Go.Op.store 36 (Go.Operand.tmp 2) (Go.Operand.tmp 11), type := 0, pos := "parse.go:31", after := #[{ on := 0, ground := Go.Ground.data }, { on := 0, ground := Go.Ground.phase }, { on := 1, ground := Go.Ground.textOnly Go.Departure.lateStores }, { on := 2, ground := Go.Ground.textOnly Go.Departure.lateStores }, { on := 3, ground := Go.Ground.textOnly Go.Departure.lateStores }, { on := 4, ground := Go.Ground.textOnly Go.Departure.lateStores }], guard := none }) rfl (fun K hK => ?_) AllReadyH.nil
    go_simp
    have S1 := (ps_eight HP2.out (Ne.symm hbn) (.int .i64 0) (.int .u64 0) (.int .u64 0) (.int .u64 0) (.int .u64 0) (.int .i64 0) (.int .i64 0) (.slice none 0 0)).drewN 1
    refine hK.out _ _ S1 (fun _ => ?_)
    clear hK K
    try simp only [Act.put, List.setIfInBounds_toArray, List.set_cons_zero, List.set_cons_succ]
    refine wpAnyH_take (i := 6) (oi := { dst := some 3, op := Go.Op.assign (Go.Operand.tmp 15), type := 3, pos := "parse.go:31", after := #[{ on := 4, ground := Go.Ground.data }, { on := 5, ground := Go.Ground.chain }, { on := 0, ground := Go.Ground.phase }, { on := 1, ground := Go.Ground.phase }, { on := 2, ground := Go.Ground.phase }, { on := 3, ground := Go.Ground.phase }, { on := 4, ground := Go.Ground.phase }, { on := 5, ground := Go.Ground.phase }], guard := none }) (v := ?_) rfl (by kernel_rfl) (by kernel_rfl) (by kernel_rfl) (fun _ _ _ h => h) (Or.inl ⟨by kernel_rfl, ?_⟩) (by assumption) ?_
    rotate_left
    · intro w hSw
      first | (go_simp; done) | (go_simp; with_reducible rfl)
    try simp only [Act.put, List.setIfInBounds_toArray, List.set_cons_zero, List.set_cons_succ]
    refine wpAnyH_take (i := 7) (oi := { dst := some 4, op := Go.Op.assign (Go.Operand.const (Go.Value.bool false)), type := 4, pos := "parse.go:31", after := #[{ on := 6, ground := Go.Ground.chain }, { on := 0, ground := Go.Ground.phase }, { on := 1, ground := Go.Ground.phase }, { on := 2, ground := Go.Ground.phase }, { on := 3, ground := Go.Ground.phase }, { on := 4, ground := Go.Ground.phase }, { on := 5, ground := Go.Ground.phase }, { on := 6, ground := Go.Ground.phase }], guard := none }) (v := ?_) rfl (by kernel_rfl) (by kernel_rfl) (by kernel_rfl) (fun _ _ _ h => h) (Or.inl ⟨by kernel_rfl, ?_⟩) (by assumption) ?_
    rotate_left
    · intro w hSw
      first | (go_simp; done) | (go_simp; with_reducible rfl)
    try simp only [Act.put, List.setIfInBounds_toArray, List.set_cons_zero, List.set_cons_succ]
    refine wpAnyH_done (by kernel_rfl) ?_ _
    go_wp2
    refine bodyPost_ret (results_row_tmp2 rfl _ _ W.heap.size 36 nilC (0, 0) _ rfl (blk_eight HK2.out rfl _ _ _ _ _ _ _ _).drew Tryz.underlying36 rfl (by kernel_rfl)) rfl ?_
    refine ⟨nilX, e1, false, rfl, World.grownBy.trans (grown_eight HG2.out (Nat.le_refl _) _ _ _ _ _ _ _ _) (grown_drew _ _ 1), ?_⟩
    cases R with
    | ok n r => exact absurd HRES.out.1 (by decide)
    | bad m => exact ⟨rfl, rfl, HRES.out.2.1⟩
  | false =>
    go_wp2
    rw [HW2.out]
    have S0 : Blk w2.drew W.heap.size 36 (nodeC x) := HK2.out.drew
    have AT := Lib.hid (place_any b t j 0 false e1 w2.drew (HP2.out.drewN 1))
    obtain ⟨⟨y0, y1, y2, y3, y4, y5, y6, y7⟩, z0, z1, z2, z3, z4, z5, z6, z7⟩ := node_cells S0
    obtain ⟨⟨r0, r1, r2, r3, r4, r5, r6, r7⟩, s0, s1, s2, s3, s4, s5, s6, s7⟩ := node_cells HK2.out
    refine wp_region_held_drew (S := (fun w' => Blk w' W.heap.size 36 (nodeC x))) (by kernel_rfl) S0 (fun hHeld => ?_)
    refine wpAnyH_take (i := 0) (oi := { dst := some 16, op := Go.Op.load 36 (Go.Operand.tmp 2), type := 36, pos := "parse.go:33", after := #[], guard := none }) (v := ?_) rfl (by kernel_rfl) (by kernel_rfl) (by kernel_rfl) (fun _ _ _ h => h) (Or.inl ⟨by kernel_rfl, ?_⟩) (by assumption) ?_
    rotate_left
    · intro w hSw
      obtain ⟨⟨u0, u1, u2, u3, u4, u5, u6, u7⟩, _⟩ := node_cells hSw
      first | (go_simp; done) | (go_simp; with_reducible rfl)
    try simp only [Act.put, List.setIfInBounds_toArray, List.set_cons_zero, List.set_cons_succ]
    refine wpAnyH_take (i := 1) (oi := { dst := some 17, op := Go.Op.move (Go.Operand.tmp 0), type := 53, pos := "parse.go:33", after := #[], guard := none }) (v := ?_) rfl (by kernel_rfl) (by kernel_rfl) (by kernel_rfl) (fun _ _ _ h => h) (Or.inl ⟨by kernel_rfl, ?_⟩) (by assumption) ?_
    rotate_left
    · intro w hSw
      first | (go_simp; done) | (go_simp; with_reducible rfl)
    try simp only [Act.put, List.setIfInBounds_toArray, List.set_cons_zero, List.set_cons_succ]
    refine wpAnyH_take (i := 2) (oi := { dst := some 18, op := Go.Op.nilCheck (Go.Operand.tmp 17), type := 0, pos := "parse.go:33", after := #[{ on := 1, ground := Go.Ground.data }], guard := none }) (v := ?_) rfl (by kernel_rfl) (by kernel_rfl) (by kernel_rfl) (fun _ _ _ h => h) (Or.inl ⟨by kernel_rfl, ?_⟩) (by assumption) ?_
    rotate_left
    · intro w hSw
      first | (go_simp; done) | (go_simp; with_reducible rfl)
    try simp only [Act.put, List.setIfInBounds_toArray, List.set_cons_zero, List.set_cons_succ]
    refine wpAnyH_take (i := 3) (oi := { dst := some 19, op := Go.Op.fieldAddr 70 (Go.Operand.tmp 18) 0, type := 0, pos := "parse.go:33", after := #[{ on := 2, ground := Go.Ground.data }], guard := none }) (v := ?_) rfl (by kernel_rfl) (by kernel_rfl) (by kernel_rfl) (fun _ _ _ h => h) (Or.inl ⟨by kernel_rfl, ?_⟩) (by assumption) ?_
    rotate_left
    · intro w hSw
      first | (go_simp; done) | (go_simp; with_reducible rfl)
    try simp only [Act.put, List.setIfInBounds_toArray, List.set_cons_zero, List.set_cons_succ]
    refine wpAnyH_ready (rs := [4]) (by kernel_rfl) (by simp) ?_
    refine AllReadyH.cons (o := { dst := some 20, op := Go.Op.call { callee := Go.Callee.value (Go.Operand.func 35), args := #[Go.Operand.tmp 19], argTypes := #[67] }, type := 3, pos := "parse.go:33", after := #[{ on := 3, ground := Go.Ground.data }], guard := none }) rfl (fun K hK => ?_) AllReadyH.nil
    go_simp
    go_at_call 35
    refine AT.out.mono ?_
    rintro e w3 ⟨rfl, rfl⟩
    refine hK.out _ _ S0 (fun _ => ?_)
    clear hK K
    try simp only [Act.put, List.setIfInBounds_toArray, List.set_cons_zero, List.set_cons_succ]
    refine wpAnyH_ready (rs := [5]) (by kernel_rfl) (by simp) ?_
    refine AllReadyH.cons (o := { dst := none, op := Go.Op.store 36 (Go.Operand.tmp 2) (Go.Operand.tmp 16), type := 0, pos := "parse.go:33", after := #[{ on := 0, ground := Go.Ground.data }, { on := 4, ground := Go.Ground.chain }, { on := 0, ground := Go.Ground.phase }, { on := 1, ground := Go.Ground.textOnly Go.Departure.lateStores }, { on := 2, ground := Go.Ground.textOnly Go.Departure.lateStores }, { on := 3, ground := Go.Ground.textOnly Go.Departure.lateStores }, { on := 4, ground := Go.Ground.textOnly Go.Departure.lateStoresUnsure }], guard := none }) rfl (fun K hK => ?_) AllReadyH.nil
    go_simp
    have S1 : Blk _ W.heap.size 36 (nodeC x) := (blk_eight HK2.out rfl (.int .i64 x.kind) (.int .u64 (word x.set 0 : Nat)) (.int .u64 (word x.set 1 : Nat)) (.int .u64 (word x.set 2 : Nat)) (.int .u64 (word x.set 3 : Nat)) (.int .i64 x.mn) (.int .i64 x.mx) (.slice x.A x.n x.c)).drew
    refine hK.out _ _ S1 (fun _ => ?_)
    clear hK K
    try simp only [Act.put, List.setIfInBounds_toArray, List.set_cons_zero, List.set_cons_succ]
    refine wpAnyH_take (i := 6) (oi := { dst := some 3, op := Go.Op.assign (Go.Operand.tmp 20), type := 3, pos := "parse.go:33", after := #[{ on := 4, ground := Go.Ground.data }, { on := 5, ground := Go.Ground.chain }, { on := 0, ground := Go.Ground.phase }, { on := 1, ground := Go.Ground.phase }, { on := 2, ground := Go.Ground.phase }, { on := 3, ground := Go.Ground.phase }, { on := 4, ground := Go.Ground.phase }, { on := 5, ground := Go.Ground.phase }], guard := none }) (v := ?_) rfl (by kernel_rfl) (by kernel_rfl) (by kernel_rfl) (fun _ _ _ h => h) (Or.inl ⟨by kernel_rfl, ?_⟩) (by assumption) ?_
    rotate_left
    · intro w hSw
      first | (go_simp; done) | (go_simp; with_reducible rfl)
    try simp only [Act.put, List.setIfInBounds_toArray, List.set_cons_zero, List.set_cons_succ]
    refine wpAnyH_take (i := 7) (oi := { dst := some 4, op := Go.Op.assign (Go.Operand.const (Go.Value.bool true)), type := 4, pos := "parse.go:33", after := #[{ on := 6, ground := Go.Ground.chain }, { on := 0, ground := Go.Ground.phase }, { on := 1, ground := Go.Ground.phase }, { on := 2, ground := Go.Ground.phase }, { on := 3, ground := Go.Ground.phase }, { on := 4, ground := Go.Ground.phase }, { on := 5, ground := Go.Ground.phase }, { on := 6, ground := Go.Ground.phase }], guard := none }) (v := ?_) rfl (by kernel_rfl) (by kernel_rfl) (by kernel_rfl) (fun _ _ _ h => h) (Or.inl ⟨by kernel_rfl, ?_⟩) (by assumption) ?_
    rotate_left
    · intro w hSw
      first | (go_simp; done) | (go_simp; with_reducible rfl)
    try simp only [Act.put, List.setIfInBounds_toArray, List.set_cons_zero, List.set_cons_succ]
    refine wpAnyH_done (by kernel_rfl) ?_ _
    go_wp2
    refine bodyPost_ret (results_row_tmp2 rfl _ _ W.heap.size 36 (nodeC x) (0, 0) _ rfl S1 Tryz.underlying36 rfl (by kernel_rfl)) rfl ?_
    refine ⟨x, (j : Int), true, rfl, World.grownBy.trans (grown_eight HG2.out (Nat.le_refl _) _ _ _ _ _ _ _ _) (grown_drew _ _ 1), ?_⟩
    cases R with
    | bad m => exact absurd HRES.out.1 (by decide)
    | ok n r =>
      obtain ⟨_, hx, hr⟩ := HRES.out
      refine ⟨rfl, hx, by rw [← hr, at_len]; omega, ?_⟩
      exact ((good_eight2 HD2.out (fun q hq e => by omega) _ _ _ _ _ _ _ _).later (below_drewN (Below.refl _ _) 1)).weaken (fun q hq _ => Nat.le_of_succ_le hq)
end Go.Proofs.YtojjeignijpiaaaGreatDoor
