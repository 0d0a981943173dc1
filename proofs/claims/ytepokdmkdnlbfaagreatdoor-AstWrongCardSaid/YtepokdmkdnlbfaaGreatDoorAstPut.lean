-- shaken
import Derived.Test.YtepokdmkdnlbfaaGreatDoorBase
import Derived.Test.YtepokdmkdnlbfaaGreatDoorUnitTell
import Derived.Test.YtepokdmkdnlbfaaGreatDoorAstRight
import Derived.Test.YtepokdmkdnlbfaaGreatDoorGet
namespace Go.Proofs.YtepokdmkdnlbfaaGreatDoor
open Go.RowKit Go.Sort
set_option linter.unusedVariables false
set_option linter.unusedSimpArgs false
structure RowT (w : World) (g n j : Nat) (ss : List ByteArray) (cs : Array Value) : Prop where
  blk : Blk w g 9 cs
  size : cs.size = n
  at_ : ∀ i, i < j → cs[i]? = some (.string (ss.getD i .empty))
  all_ : ∀ i, i < n → ∃ s, cs[i]? = some (.string s)
theorem RowT.below {w w' : World} {g n j : Nat} {ss : List ByteArray} {cs : Array Value} (h : RowT w g n j ss cs) (hb : Below w.heap.size w w') : RowT w' g n j ss cs := ⟨h.blk.below hb h.blk.lt, h.size, h.at_, h.all_⟩
theorem RowT.drew {w : World} {g n j : Nat} {ss : List ByteArray} {cs : Array Value} (h : RowT w g n j ss cs) : RowT w.drew g n j ss cs := ⟨h.blk, h.size, h.at_, h.all_⟩
theorem RowT.store {w : World} {g n j : Nat} {ss : List ByteArray} {cs : Array Value} (h : RowT w g n j ss cs) (hj : j < n) : RowT (w.setCell ⟨g, j, none⟩ (.string (ss.getD j .empty))) g n (j + 1) ss (cs.setIfInBounds j (.string (ss.getD j .empty))) := by
  refine ⟨h.blk.set_ j _, by rw [Array.size_setIfInBounds]; exact h.size, fun i hi => ?_, fun i hi => ?_⟩
  · by_cases e : i = j
    · subst e
      rw [Array.getElem?_setIfInBounds_self_of_lt (by rw [h.size]; exact hj)]
    · rw [Array.getElem?_setIfInBounds_ne (Ne.symm e)]
      exact h.at_ i (by omega)
  · by_cases e : i = j
    · subst e
      exact ⟨_, Array.getElem?_setIfInBounds_self_of_lt (by rw [h.size]; exact hj)⟩
    · rw [Array.getElem?_setIfInBounds_ne (Ne.symm e)]
      exact h.all_ i hi
theorem RowT.texts {w : World} {g n : Nat} {ss : List ByteArray} {cs : Array Value} (h : RowT w g n n ss cs) (hl : ss.length = n) : Texts w (some ⟨g, 0, none⟩) n ss :=
  ⟨hl, fun _ => ⟨g, 0, rfl, h.blk.lt, fun j hj => by rw [Nat.zero_add, h.blk.cell j]; exact h.at_ j hj⟩⟩
theorem made_cell (n i : Nat) (h : i < n) : (madeCells #[Value.string ⟨#[]⟩] n)[i]? = some (.string ⟨#[]⟩) := by
  simp [madeCells, h, Nat.mod_one]
theorem join_le : ∀ (ss : List ByteArray) (sep : ByteArray) (M : Nat), (∀ x ∈ ss, x.size ≤ M) → (joinB sep ss).length ≤ ss.length * (M + sep.size)
  | [], sep, M, _ => Nat.zero_le _
  | [x], sep, M, h => by
    have hx := h x (by simp)
    show (Lib.join [x.data.toList] sep.data.toList).length ≤ _
    rw [Lib.join_one, size_toList, List.length_singleton, Nat.one_mul]
    omega
  | x :: y :: r, sep, M, h => by
    have hx := h x (by simp)
    have ih := join_le (y :: r) sep M (fun z hz => h z (by simp [hz]))
    have e : joinB sep (x :: y :: r) = x.data.toList ++ sep.data.toList ++ joinB sep (y :: r) := by
      unfold joinB
      simp only [List.map_cons, Lib.join_cons, Lib.joinTail, List.flatten_cons, List.append_assoc]
    rw [e, List.length_append, List.length_append, size_toList, size_toList, List.length_cons, Nat.succ_mul]
    omega
theorem sizeL_is (n : Int) (h0 : 0 ≤ n) (h1 : n ≤ 9223372036854775807) : ∃ i, i < 4 ∧ sizeL sizU n = Lib.itoa (n.tdiv (sizU.getD i ([], 0)).2) ++ (sizU.getD i ([], 0)).1 ∧ n.tdiv (sizU.getD i ([], 0)).2 * (sizU.getD i ([], 0)).2 = n := by
  have hdm : ∀ m : Int, n.tmod m = 0 → n.tdiv m * m = n := fun m h => by
    have := Int.mul_tdiv_add_tmod n m
    rw [h, Int.add_zero, Int.mul_comm] at this
    exact this
  by_cases a0 : n.tmod 1073741824 = 0
  · exact ⟨0, by decide, by show sizeL ((_, _) :: _) n = _; rw [sizeL, if_pos a0]; rfl, hdm _ a0⟩
  · by_cases a1 : n.tmod 1048576 = 0
    · exact ⟨1, by decide, by show sizeL ((_, _) :: (_, _) :: _) n = _; rw [sizeL, if_neg a0, sizeL, if_pos a1]; rfl, hdm _ a1⟩
    · by_cases a2 : n.tmod 1024 = 0
      · exact ⟨2, by decide, by show sizeL ((_, _) :: (_, _) :: (_, _) :: _) n = _; rw [sizeL, if_neg a0, sizeL, if_neg a1, sizeL, if_pos a2]; rfl, hdm _ a2⟩
      · have a3 : n.tmod 1 = 0 := Int.tmod_one n
        exact ⟨3, by decide, by show sizeL ((_, _) :: (_, _) :: (_, _) :: (_, _) :: _) n = _; rw [sizeL, if_neg a0, sizeL, if_neg a1, sizeL, if_neg a2, sizeL, if_pos a3]; rfl, hdm _ a3⟩
theorem spanL_len : ∀ (U : List (List UInt8 × Int)) (n : Int), 0 ≤ n → n ≤ 9223372036854775807 → (∀ u ∈ U, 1 ≤ u.2 ∧ u.1.length ≤ 2) → (spanL U n).length ≤ 30 * U.length := by
  intro U
  induction U with
  | nil => intro n _ _ _; simp [spanL]
  | cons u U ih =>
    intro n h0 h1 hU
    obtain ⟨a, b⟩ := hU u (by simp)
    obtain ⟨d0, d1, r0, r1⟩ := tdiv_ok n u.2 h0 h1 a
    have h2 := ih (n.tmod u.2) r0 (by omega) (fun v hv => hU v (by simp [hv]))
    have h3 := Lib.itoa_length_le (n.tdiv u.2) (by omega) (by omega)
    rw [spanL, List.length_append, List.length_cons]
    split
    · rw [List.length_append]; omega
    · simp; omega
theorem spanB_size (n : Int) (h0 : 0 ≤ n) (h1 : n ≤ 9223372036854775807) : (txt (spanB n)).size ≤ 180 := by
  rw [txt_size]
  unfold spanB
  split
  · simp
  · exact spanL_len durU n h0 h1 (by decide)
theorem sizeB_size (n : Int) (h0 : 0 ≤ n) (h1 : n ≤ 9223372036854775807) : (txt (sizeB n)).size ≤ 180 := by
  rw [txt_size]
  unfold sizeB
  split
  · simp
  · obtain ⟨i, hi, e, _⟩ := sizeL_is n h0 h1
    obtain ⟨u1, u2, u3⟩ := unit_ok2 i hi
    obtain ⟨d0, d1, _, _⟩ := tdiv_ok n _ h0 h1 u1
    have h3 := Lib.itoa_length_le (n.tdiv (sizU.getD i ([], 0)).2) (by omega) (by omega)
    rw [e, List.length_append]
    omega
def quoT (v : ByteArray) : ByteArray := ⟨(putB v.data.toList).toArray⟩
theorem quoT_size (v : ByteArray) : (quoT v).size ≤ 4 * v.size + 2 := by
  have h := flat_len v.data.toList
  have e : (quoT v).size = (putB v.data.toList).length := by simp [quoT, ByteArray.size]
  rw [e, putB, List.length_cons, List.length_append, List.length_singleton]
  have : v.data.toList.length = v.size := size_toList v
  omega
def Few (x : ByteArray) : Prop := x.size ≤ 4000000
def putA (nm op v : ByteArray) : ByteArray := nm ++ op ++ quoT v
theorem testPut_any (op v nm : ByteArray) (h1 : Few nm) (h2 : Few op) (h3 : Few v) (W : World) :
    Calls Tryz.prog 24 #[.agg #[.string op, .string v, .string nm]] W fun e w' => e = .returned (.string (putA nm op v)) ∧ Below W.heap.size W w' := by
  unfold Few at h1 h2 h3
  have HB0 := Lib.hid ((Below.refl W.heap.size W).alloc (Nat.le_refl _) (.cells #[.string op, .string v, .string nm] 64))
  have BK := Lib.hid (Blk.new W 64 #[.string op, .string v, .string nm])
  have PT := Lib.hid (fun w => put_any v h3 w)
  have hq := quoT_size v
  obtain ⟨q, hq2⟩ : ∃ q, (⟨(putB v.data.toList).toArray⟩ : ByteArray) = q := ⟨_, rfl⟩
  have hq3 : quoT v = q := hq2
  rw [hq2] at PT
  rw [hq3] at hq
  obtain ⟨R, hR⟩ : ∃ R, putA nm op v = R := ⟨_, rfl⟩
  rw [hR]
  have E := Lib.hid (show nm ++ op ++ q = R by rw [← hR, ← hq3]; rfl)
  have s1 : ¬ 9223372036854775807 < nm.size + op.size := by omega
  have s2 : ¬ 9223372036854775807 < nm.size + op.size + q.size := by omega
  have c0 := BK.out.cell 0
  have c1 := BK.out.cell 1
  have c2 := BK.out.cell 2
  simp only [List.getElem?_toArray, List.getElem?_cons_zero, List.getElem?_cons_succ] at c0 c1 c2
  clear hq2 hq3 hR
  go_enter Tryz.func24, Tryz.ntmps24
  go_wp2
  go_region_held3 (fun w' => w'.cell? ⟨W.heap.size, 0, none⟩ = some (.string op) ∧ w'.cell? ⟨W.heap.size, 1, none⟩ = some (.string v) ∧ w'.cell? ⟨W.heap.size, 2, none⟩ = some (.string nm)) (first | go_keep | (rw [hb3.cell (by simp), hb3.cell (by simp), hb3.cell (by simp)]; exact ⟨c0, c1, c2⟩))
    (first | (go_at_call 22; refine (PT.out _).mono ?_; rintro e w3 ⟨rfl, hb3⟩))
  have HB := Lib.hid (hop (below_drewN HB0.out 1) (Nat.le_refl _) hb3)
  clear hb3
  go_wp2
  go_ret
  exact ⟨by rw [← E.out]; rfl, HB.out⟩
def putM (m : MatB) : ByteArray := putA m.nm m.op m.v
def putG (s : StgB) : ByteArray :=
  if s.kind = 1 then s.op ++ ⟨#[32]⟩ ++ quoT s.v
  else if s.kind = 2 then ⟨#[124, 32, 108, 111, 103, 102, 109, 116]⟩
  else if s.kind = 3 then (⟨#[124, 32]⟩ : ByteArray) ++ putA s.nm s.op s.v
  else if s.kind = 4 then (⟨#[124, 32]⟩ : ByteArray) ++ s.nm ++ ⟨#[32]⟩ ++ s.op ++ ⟨#[32]⟩ ++ litT s.num s.unit
  else ⟨#[]⟩
def FewM (m : MatB) : Prop := Few m.nm ∧ Few m.op ∧ Few m.v
def FewG (s : StgB) : Prop := Few s.nm ∧ Few s.op ∧ Few s.v ∧ Num64 s.num
theorem putA_size {nm op v : ByteArray} (h1 : Few nm) (h2 : Few op) (h3 : Few v) : (putA nm op v).size ≤ 24000002 := by
  unfold Few at h1 h2 h3
  have := quoT_size v
  unfold putA
  simp only [ByteArray.size_append]
  omega
theorem litT_size (n u : Int) (h : Num64 n) : (litT n u).size ≤ 200 := by
  obtain ⟨h0, h1⟩ := h
  unfold litT
  split
  · exact Nat.le_trans (itoaS_size n h0 h1) (by decide)
  · split
    · split
      · decide
      · exact Nat.le_trans (spanB_size n (by omega) h1) (by decide)
    · split
      · split
        · decide
        · exact Nat.le_trans (sizeB_size n (by omega) h1) (by decide)
      · decide
theorem putG_size (s : StgB) (h : FewG s) : (putG s).size ≤ 30000000 := by
  obtain ⟨h1, h2, h3, h4⟩ := h
  have k1 := putA_size h1 h2 h3
  have k2 := quoT_size s.v
  have k3 := litT_size s.num s.unit h4
  unfold Few at h1 h2 h3
  unfold putG
  split
  · simp only [ByteArray.size_append]; show _ + 1 + _ ≤ _; omega
  · split
    · decide
    · split
      · simp only [ByteArray.size_append]; show 2 + _ ≤ _; omega
      · split
        · simp only [ByteArray.size_append]; show 2 + _ + 1 + _ + 1 + _ ≤ _; omega
        · decide
theorem putMatcher_any (nm op v : ByteArray) (h : FewM ⟨nm, op, v⟩) (W : World) :
    Calls Tryz.prog 16 #[.agg #[.string nm, .string op, .string v]] W fun e w' => e = .returned (.string (putA nm op v)) ∧ Below W.heap.size W w' := by
  have HB0 := Lib.hid ((Below.refl W.heap.size W).alloc (Nat.le_refl _) (.cells #[.string nm, .string op, .string v] 43))
  have TO := Lib.hid (fun w => testOf_any nm op v w)
  have RT := Lib.hid (fun w => testPut_any op v nm h.1 h.2.1 h.2.2 w)
  clear h
  go_enter Tryz.func16, Tryz.ntmps16
  go_wp2_with fail
  refine (TO.out _).mono ?_
  rintro e w1 ⟨rfl, hb⟩
  have HB := Lib.hid (hop HB0.out (Nat.le_refl _) hb)
  clear hb HB0
  go_wp2_with fail
  refine (RT.out _).mono ?_
  rintro e w2 ⟨rfl, hb⟩
  have HB2 := Lib.hid (hop HB.out (Nat.le_refl _) hb)
  clear hb
  go_wp2
  go_ret
  exact ⟨rfl, HB2.out⟩
theorem putStage_any (k : Int) (nm op v : ByteArray) (n u : Int) (h : FewG ⟨k, nm, op, v, n, u⟩) (W : World) (hl : LibIs W) :
    Calls Tryz.prog 12 #[.agg #[.int .i64 k, .string nm, .string op, .string v, .int .i64 n, .int .i64 u]] W fun e w' => e = .returned (.string (putG ⟨k, nm, op, v, n, u⟩)) ∧ Below W.heap.size W w' := by
  obtain ⟨h1, h2, h3, h4⟩ := h
  simp only at h1 h2 h3 h4
  have HB0 := Lib.hid ((Below.refl W.heap.size W).alloc (Nat.le_refl _) (.cells #[.int .i64 k, .string nm, .string op, .string v, .int .i64 n, .int .i64 u] 27))
  have BK := Lib.hid (Blk.new W 27 #[.int .i64 k, .string nm, .string op, .string v, .int .i64 n, .int .i64 u])
  obtain ⟨R, hR⟩ : ∃ R, putG ⟨k, nm, op, v, n, u⟩ = R := ⟨_, rfl⟩
  rw [hR]
  unfold putG at hR
  simp only [] at hR
  by_cases k1 : k = 1
  · subst k1
    rw [if_pos rfl] at hR
    unfold Few at h1 h2 h3
    have PT := Lib.hid (fun w => put_any v h3 w)
    have hq := quoT_size v
    obtain ⟨q, hq2⟩ : ∃ q, (⟨(putB v.data.toList).toArray⟩ : ByteArray) = q := ⟨_, rfl⟩
    have hq3 : quoT v = q := hq2
    rw [hq2] at PT
    rw [hq3] at hq hR
    have E := Lib.hid hR
    have s1 : ¬ 9223372036854775807 < op.size + 1 := by omega
    have s2 : ¬ 9223372036854775807 < op.size + 1 + q.size := by omega
    have c0 := BK.out.cell 0
    have c1 := BK.out.cell 2
    have c2 := BK.out.cell 3
    simp only [List.getElem?_toArray, List.getElem?_cons_zero, List.getElem?_cons_succ] at c0 c1 c2
    clear hq2 hq3 hR hl h4
    go_enter Tryz.func12, Tryz.ntmps12
    go_wp2
    go_region_held3 (fun w' => w'.cell? ⟨W.heap.size, 2, none⟩ = some (.string op) ∧ w'.cell? ⟨W.heap.size, 3, none⟩ = some (.string v)) (first | go_keep | (rw [hb3.cell (by simp), hb3.cell (by simp)]; exact ⟨c1, c2⟩))
      (first | (go_at_call 22; refine (PT.out _).mono ?_; rintro e w3 ⟨rfl, hb3⟩))
    have HB := Lib.hid (hop (below_drewN HB0.out 1) (Nat.le_refl _) hb3)
    clear hb3
    go_wp2
    go_ret
    exact ⟨by rw [← E.out]; rfl, HB.out⟩
  · have g1 : (k == 1) = false := beq_eq_false_iff_ne.2 k1
    rw [if_neg k1] at hR
    by_cases k2 : k = 2
    · subst k2
      rw [if_pos rfl] at hR
      subst hR
      have c0 := BK.out.cell 0
      clear hl h4
      go_enter Tryz.func12, Tryz.ntmps12
      go_wp2
      go_ret
      exact ⟨rfl, HB0.out⟩
    · have g2 : (k == 2) = false := beq_eq_false_iff_ne.2 k2
      rw [if_neg k2] at hR
      by_cases k3 : k = 3
      · subst k3
        rw [if_pos rfl] at hR
        have hq := putA_size h1 h2 h3
        have TO := Lib.hid (fun w => testOf_any nm op v w)
        have RT := Lib.hid (fun w => testPut_any op v nm h1 h2 h3 w)
        obtain ⟨q, hq2⟩ : ∃ q, putA nm op v = q := ⟨_, rfl⟩
        rw [hq2] at RT hq hR
        have E := Lib.hid hR
        have s1 : ¬ 9223372036854775807 < 2 + q.size := by omega
        have c0 := BK.out.cell 0
        have c1 := BK.out.cell 1
        have c2 := BK.out.cell 2
        have c3 := BK.out.cell 3
        clear hq2 hR hl h4 h1 h2 h3
        go_enter Tryz.func12, Tryz.ntmps12
        go_wp2_with fail
        refine (TO.out _).mono ?_
        rintro e w1 ⟨rfl, hb⟩
        have HB := Lib.hid (hop HB0.out (Nat.le_refl _) hb)
        clear hb HB0
        go_wp2_with fail
        refine (RT.out _).mono ?_
        rintro e w2 ⟨rfl, hb⟩
        have HB2 := Lib.hid (hop HB.out (Nat.le_refl _) hb)
        clear hb
        go_wp2
        go_ret
        exact ⟨by rw [← E.out]; rfl, HB2.out⟩
      · have g3 : (k == 3) = false := beq_eq_false_iff_ne.2 k3
        rw [if_neg k3] at hR
        by_cases k4 : k = 4
        · subst k4
          rw [if_pos rfl] at hR
          have CL := Lib.hid (literal_any n u h4.1 h4.2 _ (hl.below HB0.out))
          have hq := litT_size n u h4
          unfold Few at h1 h2 h3
          obtain ⟨q, hq2⟩ : ∃ q, litT n u = q := ⟨_, rfl⟩
          obtain ⟨o, ho⟩ : ∃ o, litOk n u = o := ⟨_, rfl⟩
          rw [hq2, ho] at CL
          rw [hq2] at hR hq
          have E := Lib.hid hR
          have s1 : ¬ 9223372036854775807 < 2 + nm.size := by omega
          have s2 : ¬ 9223372036854775807 < 2 + nm.size + 1 := by omega
          have s3 : ¬ 9223372036854775807 < 2 + nm.size + 1 + op.size := by omega
          have s4 : ¬ 9223372036854775807 < 2 + nm.size + 1 + op.size + 1 := by omega
          have s5 : ¬ 9223372036854775807 < 2 + nm.size + 1 + op.size + 1 + q.size := by omega
          have c0 := BK.out.cell 0
          clear hq2 hR hl h4 ho
          go_enter Tryz.func12, Tryz.ntmps12
          go_wp2_with fail
          refine CL.out.mono ?_
          rintro e w1 ⟨rfl, hb⟩
          have HB := Lib.hid (hop HB0.out (Nat.le_refl _) hb)
          have BK2 := Lib.hid (BK.out.below hb (by simp))
          have d1 := BK2.out.cell 1
          have d2 := BK2.out.cell 2
          clear hb HB0 c0
          go_wp2
          go_ret
          exact ⟨by rw [← E.out]; rfl, HB.out⟩
        · have g4 : (k == 4) = false := beq_eq_false_iff_ne.2 k4
          rw [if_neg k4] at hR
          subst hR
          have c0 := BK.out.cell 0
          clear hl h4
          go_enter Tryz.func12, Tryz.ntmps12
          go_wp2
          go_ret
          exact ⟨rfl, HB0.out⟩
end Go.Proofs.YtepokdmkdnlbfaaGreatDoor
