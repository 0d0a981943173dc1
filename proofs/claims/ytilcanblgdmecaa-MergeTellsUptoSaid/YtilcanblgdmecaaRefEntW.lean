/- The document's own entry that a text begins with: it is the one that the program tells. No walk.
   The document's own entries: the walks of refEntry, sameEntry, Put, Parse. -/
import Derived.Test.YtilcanblgdmecaaEntPut
import Derived.Test.YtilcanblgdmecaaEntRow
import Derived.Test.YtilcanblgdmecaaEntParse
import Derived.Test.YtilcanblgdmecaaEntBackMath
import Derived.Test.YtilcanblgdmecaaRefParse6
import Derived.Test.YtilcanblgdmecaaRefNum
import Derived.Test.YtilcanblgdmecaaRefPut
namespace Go.Proofs.Ytilcanblgdmecaa
open Go.RowKit Go.Lib
set_option linter.unusedVariables false
set_option linter.unusedSimpArgs false

def notBr (c : UInt8) : Bool := c != 123
/-- where a number may end: at the first '{', or at 21 bytes -/
def brP (t : ByteArray) : Nat := min 21 (t.data.toList.takeWhile notBr).length
def lineQ (t : ByteArray) (v : Int) (ps : List PairB) (k : Nat) : Option (EntB × Nat) :=
  if (quoR t k).2.2 = true then (if (quoR t k).1.length ≤ 256 then some (⟨v, ps, tx (quoR t k).1⟩, k + (quoR t k).2.1) else none) else none
def restQ (t : ByteArray) (k : Nat) (v : Int) : Option (List PairB × Nat) → Option (EntB × Nat)
  | none => none
  | some x => lineQ t v x.1 (k + x.2)
def fromQ (t : ByteArray) (k : Nat) : Option Int → Option (EntB × Nat)
  | none => none
  | some v => restQ t k v (parseL (t.extract k t.size))
/-- the document's entry -/
def entQ (t : ByteArray) : Option (EntB × Nat) := fromQ t (brP t) (parseZ (t.extract 0 (brP t)))

theorem brP_le (t : ByteArray) : brP t ≤ t.size := by
  unfold brP
  have h := (List.takeWhile_prefix (p := notBr) (l := t.data.toList)).length_le
  rw [size_toList] at h
  omega
theorem parseL_head {t : ByteArray} {x : List PairB × Nat} (h : parseL t = some x) : t.data.toList.head? = some 123 := by
  unfold parseL at h
  split at h
  · cases h
  · rename_i y hy
    unfold lbT at hy
    rw [takeR_byte, at_zero] at hy
    split at hy
    · assumption
    · cases hy
theorem pairR_le {t : ByteArray} {k : Nat} (hk : k ≤ t.size) (h : (pairR t k).2.1 = true) : (pairR t k).2.2 ≤ t.size := by
  have h1 := runTo_le (goodK [0, 1, 2]) t k hk
  unfold pairR at h ⊢
  cases hx : takeR t (runTo (goodK [0, 1, 2]) t k) [eqS] with
  | none => rw [hx] at h; cases h
  | some s =>
    have h2 := takeTo_le h1 hx
    have h3 : s.size = 1 := by rw [takeR_one hx]; rfl
    rw [h3] at h2
    exact quoR_le t _ h2
theorem goP_le (t : ByteArray) : ∀ (f k : Nat) (acc : List PairB) (x : List PairB × Nat), k ≤ t.size → goP t f k acc = some x → x.2 ≤ t.size := by
  intro f
  induction f with
  | zero => intro k acc x _ h; rw [goP] at h; cases h
  | succ f ih =>
    intro k acc x hk h
    rw [goP_succ] at h
    split at h
    · rename_i hp
      have h1 := pairR_le hk hp
      cases hx : takeR t (pairR t k).2.2 [cmT, rbT] with
      | none => rw [hx] at h; cases h
      | some s =>
        rw [hx] at h
        dsimp only at h
        have h2 := takeTo_le h1 hx
        have h3 : s.size = 1 := by
          have := takeR_in hx
          simp only [List.mem_cons, List.mem_nil_iff, or_false] at this
          rcases this with rfl | rfl <;> rfl
        rw [h3] at h2
        split at h
        · exact ih _ _ _ h2 h
        · injection h with h
          rw [← h]
          exact h2
    · cases h
theorem parseL_le {t : ByteArray} {x : List PairB × Nat} (h : parseL t = some x) : x.2 ≤ t.size := by
  have h0 := parseL_head h
  have hs : 1 ≤ t.size := by
    rw [← size_toList]
    cases ht : t.data.toList with
    | nil => rw [ht] at h0; cases h0
    | cons c r => simp
  unfold parseL at h
  split at h
  · cases h
  · split at h
    · rename_i y hy
      have h2 := takeTo_le hs hy
      have h3 : y.size = 1 := by rw [takeR_one hy]; rfl
      injection h with h
      rw [← h]
      show 2 ≤ _
      omega
    · rw [Option.bind_eq_some_iff] at h
      obtain ⟨y, hy, h⟩ := h
      split at h
      · injection h with h
        rw [← h]
        exact goP_le t _ _ _ _ hs hy
      · cases h
theorem good_at {t : ByteArray} {k : Nat} {v : Int} {x : List PairB × Nat} (hk : k ≤ t.size) (h1 : parseZ (t.extract 0 k) = some v) (h2 : parseL (t.extract k t.size) = some x) : numR t 0 = some v ∧ numTo t 0 = k ∧ brP t = k := by
  obtain ⟨⟨v0, v1⟩, hv⟩ := (parseZ_iff _ _).1 h1
  have hd := parseL_head h2
  rw [rest_list] at hd
  have ht : t.data.toList.take k = itoa v := by
    have : (t.extract 0 k).data.toList = (itoaS v).data.toList := by rw [hv]
    rw [mid_list, List.drop_zero, itoaS_list] at this
    exact this
  have hlen : (itoa v).length = k := by
    rw [← ht, List.length_take, size_toList]
    omega
  obtain ⟨r, hr⟩ : ∃ r, atL t k = 123 :: r := by
    cases ha : atL t k with
    | nil => rw [ha] at hd; cases hd
    | cons c r =>
      rw [ha] at hd
      injection hd with hd
      exact ⟨r, by rw [hd]⟩
  have hall : t.data.toList = itoa v ++ 123 :: r := by
    rw [← ht, ← hr]
    exact (List.take_append_drop k _).symm
  obtain ⟨n1, n2⟩ := num_read t v (123 :: r) v0 v1 (fun c y e => by rw [← (List.cons.inj e).1]; exact dig_bad) hall
  refine ⟨n1, by rw [n2, hlen], ?_⟩
  unfold brP
  have hw : t.data.toList.takeWhile notBr = itoa v := by
    have h3 : ∀ c ∈ itoa v, notBr c = true := by
      intro c hc
      have := itoa_all v c hc
      unfold notBr
      rw [bne_iff_ne]
      intro e
      rw [e] at this
      have e2 : (123 : UInt8).toNat = 123 := rfl
      omega
    have h4 : ∀ c y, (123 :: r : List UInt8) = c :: y → notBr c = false := by
      intro c y e
      have e := (List.cons.inj e).1
      rw [← e]
      rfl
    rw [hall]
    exact while_app h3 h4
  rw [hw, hlen]
  have := itoaS_size v v0 v1
  rw [← size_toList, itoaS_list, hlen] at this
  omega
theorem entQ_is (t : ByteArray) : entQ t = entP t := by
  have hle := brP_le t
  have hend : numEnd t 0 ≤ t.size := by
    unfold numEnd
    refine runTo_le _ _ _ ?_
    unfold takeTo
    cases hx : takeR t 0 [minus] with
    | none => exact Nat.zero_le _
    | some s => exact takeTo_le (Nat.zero_le _) hx
  by_cases h : ∃ v x, numR t 0 = some v ∧ parseL (t.extract (numTo t 0) t.size) = some x
  · obtain ⟨v, ⟨ps, n⟩, h1, h2⟩ := h
    have hk : numTo t 0 = numEnd t 0 := by
      unfold numTo
      unfold numR at h1
      rw [h1, if_pos (show (some v).isSome = true from rfl)]
    obtain ⟨_, _, hb⟩ := good_at (t := t) (k := numTo t 0) (by rw [hk]; exact hend) (by rw [hk]; exact h1) h2
    have hr := parseL_right h2
    have hn := parseL_le h2
    rw [ByteArray.size_extract] at hn
    have hz : parseZ (t.extract 0 (numTo t 0)) = some v := by rw [hk]; exact h1
    have ha : lineAt t n = numTo t 0 + n := by
      unfold lineAt
      dsimp only at hn
      omega
    have hline : lineQ t v ps (numTo t 0 + n) = lineP t v ps (lineAt t n) := by
      rw [ha]
      unfold lineQ lineP rightE
      dsimp only at hr ⊢
      rw [hr, Bool.true_and, tx_size]
      by_cases hs : (quoR t (numTo t 0 + n)).1.length ≤ 256
      · rw [if_pos hs, decide_eq_true hs, if_pos rfl]
      · rw [if_neg hs, decide_eq_false hs, if_neg (show ¬ (false = true) from by decide)]
    unfold entQ entP
    rw [hb, hz, h1, entFrom_some, h2, entRest_some, ← hline]
    unfold fromQ
    rw [h2]
    rfl
  · have e1 : entP t = none := by
      unfold entP
      cases hn : numR t 0 with
      | none => rfl
      | some v =>
        rw [entFrom_some]
        cases hp : parseL (t.extract (numTo t 0) t.size) with
        | none => rfl
        | some x => exact absurd ⟨v, x, hn, hp⟩ h
    rw [e1]
    unfold entQ
    cases hz : parseZ (t.extract 0 (brP t)) with
    | none => rfl
    | some v =>
      show restQ t (brP t) v (parseL (t.extract (brP t) t.size)) = none
      cases hp : parseL (t.extract (brP t) t.size) with
      | none => rfl
      | some x =>
        obtain ⟨g1, g2, _⟩ := good_at hle hz hp
        exact absurd ⟨v, x, g1, by rw [g2]; exact hp⟩ h
end Go.Proofs.Ytilcanblgdmecaa
namespace Go.Proofs.Ytilcanblgdmecaa
open Go.RowKit
set_option linter.unusedVariables false
set_option linter.unusedSimpArgs false

/-- an entry of the document's, as it lies in memory -/
structure GoodQ (w : World) (x : EntX) : Prop where
  set : Pairs w x.A x.n x.ls
  own : 0 < x.n → ∀ a, x.A = some a → ∃ cur, w.heap[a.block]? = some (.cells cur 97 (0, 0))
theorem GoodQ.below {w w' : World} {x : EntX} (h : GoodQ w x) (hb : Below w.heap.size w w') : GoodQ w' x := ⟨h.set.below hb, fun hn a ha => by
  obtain ⟨cur, h1⟩ := h.own hn a ha
  exact ⟨cur, (hb.block _ (lt_of_block h1)).trans h1⟩⟩
theorem goodQ_own {w : World} {B : Nat} {t : Int} {A : Option Addr} {n c : Nat} {ps : List PairB} {l : ByteArray} (h : OwnQ w B (.slice A n c) ps) : GoodQ w ⟨t, A, n, c, ps, l⟩ := by
  obtain ⟨A1, cap, e1, _, _, hp⟩ := OwnQ.pairs h
  injection e1 with e1 e2 e3
  subst e1 e2
  refine ⟨hp, fun h0 a ha => ?_⟩
  dsimp only at h0 ha
  rcases h.2 with ⟨e, h1⟩ | ⟨g, cap, cur, e, _, hh, _⟩
  · omega
  · injection e with e1 _ _
    rw [ha] at e1
    injection e1 with e1
    subst e1
    exact ⟨cur, hh⟩

theorem refPairs_own (A : Option Addr) (n c : Nat) (ps : List PairB) (hn : n ≤ 1048576) (W : World) (h1 : Pairs W A n ps) :
    Calls Try.prog 34 #[.slice A n c] W fun e w' => ∃ A' n' c', e = .returned (.slice A' n' c') ∧ n' = n ∧ OwnQ w' W.heap.size (.slice A' n' c') ps ∧ Below W.heap.size W w' := by
  refine (refPairs_any A n c ps hn W h1).mono ?_
  rintro e w' ⟨v, rfl, hown, hb⟩
  obtain ⟨B, cap, rfl, _, _, hp⟩ := hown.pairs
  exact ⟨B, _, cap, rfl, h1.1, hown, hb⟩

set_option maxRecDepth 100000 in
set_option maxHeartbeats 1600000 in
theorem refEntry_any (a : EntX) (hn : a.n ≤ 1048576) (W : World) (h1 : Pairs W a.A a.n a.ls) :
    Calls Try.prog 21 #[.agg #[.int .i64 a.ts, .slice a.A a.n a.c, .string a.ln]] W fun e w' => ∃ q : EntX, e = .returned (.agg #[.int .i64 q.ts, .slice q.A q.n q.c, .string q.ln]) ∧ q.b = a.b ∧ q.n = a.n ∧ GoodQ w' q ∧ Below W.heap.size W w' := by
  have h0 : W.heap.size ≤ W.heap.size := Nat.le_refl _
  obtain ⟨t1, A, n, c, ps, l1⟩ := a
  dsimp only at hn h1 ⊢
  have RP := Lib.hid (fun w h => refPairs_own A n c ps hn w (h1.below h))
  clear h1
  go_enter Try.func21, Try.ntmps21
  go_wp2
  obtain ⟨w1, hw1⟩ : ∃ w, (W.alloc (.cells #[.int .i64 t1, .slice A n c, .string l1] 26)).alloc (.cells #[.int .i64 0, .slice none 0 0, .string ⟨#[]⟩] 48) = w := ⟨_, rfl⟩
  have B1 : Blk w1 W.heap.size 26 #[.int .i64 t1, .slice A n c, .string l1] := by rw [← hw1]; exact (Blk.new W _ _).alloc _
  have B2 : Blk w1 (W.heap.size + 1) 48 #[.int .i64 0, .slice none 0 0, .string ⟨#[]⟩] := by rw [← hw1]; exact blk_next W _ _ _
  have hb1 : Below W.heap.size W w1 := by rw [← hw1]; exact ((Below.refl _ _).alloc (Nat.le_refl _) _).alloc (by simp) _
  have hs1 : W.heap.size + 2 ≤ w1.heap.size := by rw [← hw1]; simp
  rw [hw1]
  clear hw1
  have HS := Lib.hid (fun (w w' : World) (hS : Below W.heap.size W w ∧ w.cell? ⟨W.heap.size, 0, none⟩ = some (.int .i64 t1) ∧ w.cell? ⟨W.heap.size, 1, none⟩ = some (.slice A n c) ∧ w.cell? ⟨W.heap.size, 2, none⟩ = some (.string l1) ∧ ∃ c0 c1 c2, Blk w (W.heap.size + 1) 48 #[c0, c1, c2]) (hx : Below w.heap.size w w') =>
    show Below W.heap.size W w' ∧ w'.cell? ⟨W.heap.size, 0, none⟩ = some (.int .i64 t1) ∧ w'.cell? ⟨W.heap.size, 1, none⟩ = some (.slice A n c) ∧ w'.cell? ⟨W.heap.size, 2, none⟩ = some (.string l1) ∧ ∃ c0 c1 c2, Blk w' (W.heap.size + 1) 48 #[c0, c1, c2] from by
      obtain ⟨hb, c1, c2, c3, v0, v1, v2, hB⟩ := hS
      have z1 := block_lt_of_cell c1
      exact ⟨hop hb (Nat.le_refl _) hx, (hx.cell (p := ⟨_, 0, none⟩) z1).trans c1, (hx.cell (p := ⟨_, 1, none⟩) z1).trans c2, (hx.cell (p := ⟨_, 2, none⟩) z1).trans c3, v0, v1, v2, hB.below hx hB.lt⟩)
  have HST := Lib.hid (fun (w : World) (u v x : Value) (hS : Below W.heap.size W w ∧ w.cell? ⟨W.heap.size, 0, none⟩ = some (.int .i64 t1) ∧ w.cell? ⟨W.heap.size, 1, none⟩ = some (.slice A n c) ∧ w.cell? ⟨W.heap.size, 2, none⟩ = some (.string l1) ∧ ∃ c0 c1 c2, Blk w (W.heap.size + 1) 48 #[c0, c1, c2]) =>
    show Below W.heap.size W (((w.setCell ⟨W.heap.size + 1, 0, none⟩ u).setCell ⟨W.heap.size + 1, 1, none⟩ v).setCell ⟨W.heap.size + 1, 2, none⟩ x) ∧ (((w.setCell ⟨W.heap.size + 1, 0, none⟩ u).setCell ⟨W.heap.size + 1, 1, none⟩ v).setCell ⟨W.heap.size + 1, 2, none⟩ x).cell? ⟨W.heap.size, 0, none⟩ = some (.int .i64 t1) ∧ (((w.setCell ⟨W.heap.size + 1, 0, none⟩ u).setCell ⟨W.heap.size + 1, 1, none⟩ v).setCell ⟨W.heap.size + 1, 2, none⟩ x).cell? ⟨W.heap.size, 1, none⟩ = some (.slice A n c) ∧ (((w.setCell ⟨W.heap.size + 1, 0, none⟩ u).setCell ⟨W.heap.size + 1, 1, none⟩ v).setCell ⟨W.heap.size + 1, 2, none⟩ x).cell? ⟨W.heap.size, 2, none⟩ = some (.string l1) ∧ ∃ c0 c1 c2, Blk (((w.setCell ⟨W.heap.size + 1, 0, none⟩ u).setCell ⟨W.heap.size + 1, 1, none⟩ v).setCell ⟨W.heap.size + 1, 2, none⟩ x) (W.heap.size + 1) 48 #[c0, c1, c2] from by
      obtain ⟨hb, c1, c2, c3, v0, v1, v2, hB⟩ := hS
      have far : ∀ (w : World) (i j : Nat) (u y : Value), w.cell? ⟨W.heap.size, i, none⟩ = some y → (w.setCell ⟨W.heap.size + 1, j, none⟩ u).cell? ⟨W.heap.size, i, none⟩ = some y := fun w i j u y h => by
        refine (World.cell?_of_block (Below.heap_setCell w ⟨W.heap.size + 1, j, none⟩ u W.heap.size ?_)).trans h
        simp
      refine ⟨((hb.setCell (by simp) _).setCell (by simp) _).setCell (by simp) _, far _ _ _ _ _ (far _ _ _ _ _ (far _ _ _ _ _ c1)), far _ _ _ _ _ (far _ _ _ _ _ (far _ _ _ _ _ c2)), far _ _ _ _ _ (far _ _ _ _ _ (far _ _ _ _ _ c3)), u, v, x, ((hB.set_ 0 u).set_ 1 v).set_ 2 x⟩)
  have hS1 : Below W.heap.size W w1 ∧ w1.cell? ⟨W.heap.size, 0, none⟩ = some (.int .i64 t1) ∧ w1.cell? ⟨W.heap.size, 1, none⟩ = some (.slice A n c) ∧ w1.cell? ⟨W.heap.size, 2, none⟩ = some (.string l1) ∧ ∃ c0 c1 c2, Blk w1 (W.heap.size + 1) 48 #[c0, c1, c2] := ⟨hb1, (B1.cell 0).trans rfl, (B1.cell 1).trans rfl, (B1.cell 2).trans rfl, _, _, _, B2⟩
  have hS0 := HS.out w1 w1.drew hS1 ((Below.refl _ _).drew)
  clear B1 B2 hb1
  refine wp_region_held_drew (S := fun w' => Below W.heap.size W w' ∧ w'.cell? ⟨W.heap.size, 0, none⟩ = some (.int .i64 t1) ∧ w'.cell? ⟨W.heap.size, 1, none⟩ = some (.slice A n c) ∧ w'.cell? ⟨W.heap.size, 2, none⟩ = some (.string l1) ∧ ∃ c0 c1 c2, Blk w' (W.heap.size + 1) 48 #[c0, c1, c2]) (by kernel_rfl) hS0 (fun hHeld => ?_)
  refine wpAnyH_take (i := 0) (oi := { dst := some 3, op := Go.Op.fieldAddr 26 (Go.Operand.tmp 1) 0, type := 0, pos := "law.go:98", after := #[], guard := none }) (v := ?_) rfl (by kernel_rfl) (by kernel_rfl) (by kernel_rfl) (fun _ _ _ h => h) (Or.inl ⟨by kernel_rfl, ?_⟩) (by assumption) ?_
  rotate_left
  · intro w _
    first | (go_simp; done) | (go_simp; with_reducible rfl)
  try simp only [Act.put, List.setIfInBounds_toArray, List.set_cons_zero, List.set_cons_succ]
  refine wpAnyH_take (i := 1) (oi := { dst := some 4, op := Go.Op.load 2 (Go.Operand.tmp 3), type := 2, pos := "law.go:98", after := #[{ on := 0, ground := Go.Ground.data }], guard := none }) (v := ?_) rfl (by kernel_rfl) (by kernel_rfl) (by kernel_rfl) (fun _ _ _ h => h) (Or.inl ⟨by kernel_rfl, ?_⟩) (by assumption) ?_
  rotate_left
  · intro w hSw; (try dsimp only at hSw); go_split_ands
    first | (go_simp; done) | (go_simp; with_reducible rfl)
  try simp only [Act.put, List.setIfInBounds_toArray, List.set_cons_zero, List.set_cons_succ]
  refine wpAnyH_take (i := 2) (oi := { dst := some 5, op := Go.Op.fieldAddr 26 (Go.Operand.tmp 1) 1, type := 0, pos := "law.go:98", after := #[], guard := none }) (v := ?_) rfl (by kernel_rfl) (by kernel_rfl) (by kernel_rfl) (fun _ _ _ h => h) (Or.inl ⟨by kernel_rfl, ?_⟩) (by assumption) ?_
  rotate_left
  · intro w _
    first | (go_simp; done) | (go_simp; with_reducible rfl)
  try simp only [Act.put, List.setIfInBounds_toArray, List.set_cons_zero, List.set_cons_succ]
  refine wpAnyH_take (i := 3) (oi := { dst := some 6, op := Go.Op.load 24 (Go.Operand.tmp 5), type := 24, pos := "law.go:98", after := #[{ on := 2, ground := Go.Ground.data }], guard := none }) (v := ?_) rfl (by kernel_rfl) (by kernel_rfl) (by kernel_rfl) (fun _ _ _ h => h) (Or.inl ⟨by kernel_rfl, ?_⟩) (by assumption) ?_
  rotate_left
  · intro w hSw; (try dsimp only at hSw); go_split_ands
    first | (go_simp; done) | (go_simp; with_reducible rfl)
  try simp only [Act.put, List.setIfInBounds_toArray, List.set_cons_zero, List.set_cons_succ]
  refine wpAnyH_take (i := 5) (oi := { dst := some 8, op := Go.Op.fieldAddr 26 (Go.Operand.tmp 1) 2, type := 0, pos := "law.go:98", after := #[], guard := none }) (v := ?_) rfl (by kernel_rfl) (by kernel_rfl) (by kernel_rfl) (fun _ _ _ h => h) (Or.inl ⟨by kernel_rfl, ?_⟩) (by assumption) ?_
  rotate_left
  · intro w _
    first | (go_simp; done) | (go_simp; with_reducible rfl)
  try simp only [Act.put, List.setIfInBounds_toArray, List.set_cons_zero, List.set_cons_succ]
  refine wpAnyH_take (i := 6) (oi := { dst := some 9, op := Go.Op.load 9 (Go.Operand.tmp 8), type := 9, pos := "law.go:98", after := #[{ on := 5, ground := Go.Ground.data }], guard := none }) (v := ?_) rfl (by kernel_rfl) (by kernel_rfl) (by kernel_rfl) (fun _ _ _ h => h) (Or.inl ⟨by kernel_rfl, ?_⟩) (by assumption) ?_
  rotate_left
  · intro w hSw; (try dsimp only at hSw); go_split_ands
    first | (go_simp; done) | (go_simp; with_reducible rfl)
  try simp only [Act.put, List.setIfInBounds_toArray, List.set_cons_zero, List.set_cons_succ]
  refine wpAnyH_ready (rs := [4]) (by kernel_rfl) (by simp) ?_
  refine AllReadyH.cons (o := { dst := some 7, op := Go.Op.call { callee := Go.Callee.value (Go.Operand.func 34), args := #[Go.Operand.tmp 6], argTypes := #[23] }, type := 46, pos := "law.go:98", after := #[{ on := 3, ground := Go.Ground.data }], guard := none }) rfl (fun K hK => ?_) AllReadyH.nil
  go_simp
  go_at_call 34
  refine (RP.out _ hS0.1).mono ?_
  rintro e w3 ⟨A', n', c', rfl, hn', hown, hb3⟩
  have HOW := Lib.hid hown
  have HNN := Lib.hid hn'
  clear hown hn'
  have S3 := HS.out _ _ hS0 hb3
  refine hK.out _ _ S3 (fun _ => ?_)
  clear hK K hb3
  try simp only [Act.put, List.setIfInBounds_toArray, List.set_cons_zero, List.set_cons_succ]
  refine wpAnyH_take (i := 7) (oi := { dst := some 10, op := Go.Op.build 48 #[(0, Go.Operand.tmp 4), (1, Go.Operand.tmp 7), (2, Go.Operand.tmp 9)], type := 48, pos := "law.go:98", after := #[{ on := 1, ground := Go.Ground.data }, { on := 4, ground := Go.Ground.data }, { on := 6, ground := Go.Ground.data }], guard := none }) (v := ?_) rfl (by kernel_rfl) (by kernel_rfl) (by kernel_rfl) (fun _ _ _ h => h) (Or.inl ⟨by kernel_rfl, ?_⟩) (by assumption) ?_
  rotate_left
  · intro w _
    first | (go_simp; done) | (go_simp; with_reducible rfl)
  try simp only [Act.put, List.setIfInBounds_toArray, List.set_cons_zero, List.set_cons_succ]
  obtain ⟨sb, q0, q1, q2, c0, c1, c2, B3⟩ := S3
  have r0 : w3.cell? ⟨W.heap.size + 1, 0, none⟩ = some c0 := (B3.cell 0).trans rfl
  have r1 : w3.cell? ⟨W.heap.size + 1, 1, none⟩ = some c1 := (B3.cell 1).trans rfl
  have r2 : w3.cell? ⟨W.heap.size + 1, 2, none⟩ = some c2 := (B3.cell 2).trans rfl
  have f0 := B3.frozen 0
  have f1 := B3.frozen 1
  have f2 := B3.frozen 2
  have S7 := HST.out _ (.int .i64 t1) (.slice A' n' c') (.string l1) ⟨sb, q0, q1, q2, c0, c1, c2, B3⟩
  have HB4 := Lib.hid (((B3.set_ 0 (.int .i64 t1)).set_ 1 (.slice A' n' c')).set_ 2 (.string l1))
  refine wpAnyH_ready (rs := [8]) (by kernel_rfl) (by simp) ?_
  refine AllReadyH.cons (o := { dst := none, op := Go.Op.store 48 (Go.Operand.tmp 2) (Go.Operand.tmp 10), type := 0, pos := "law.go:98", after := #[{ on := 7, ground := Go.Ground.data }, { on := 4, ground := Go.Ground.chain }, { on := 0, ground := Go.Ground.phase }, { on := 1, ground := Go.Ground.phase }, { on := 2, ground := Go.Ground.phase }, { on := 3, ground := Go.Ground.phase }, { on := 4, ground := Go.Ground.phase }, { on := 5, ground := Go.Ground.phase }, { on := 6, ground := Go.Ground.phase }, { on := 7, ground := Go.Ground.phase }], guard := none }) rfl (fun K hK => ?_) AllReadyH.nil
  go_simp
  refine hK.out _ _ S7 (fun _ => ?_)
  clear hK K
  try simp only [Act.put, List.setIfInBounds_toArray, List.set_cons_zero, List.set_cons_succ]
  refine wpAnyH_done (by kernel_rfl) ?_ _
  go_wp2
  refine bodyPost_ret (results_cell_row rfl _ _ (W.heap.size + 1) 48 #[.int .i64 t1, .slice A' n' c', .string l1] (0, 0) _ rfl HB4.out Try.underlying48 rfl (by kernel_rfl)) rfl ?_
  refine ⟨⟨t1, A', n', c', ps, l1⟩, rfl, rfl, HNN.out, ?_, S7.1⟩
  have gr : ∀ (w : World) (i : Nat) (u : Value), w.grownBy (w.setCell ⟨W.heap.size + 1, i, none⟩ u) (some (W.heap.size + 1)) := fun w i u => ⟨rfl, rfl, rfl, by simp, fun k hk hne => Below.heap_setCell w ⟨W.heap.size + 1, i, none⟩ u k (fun e => hne (by rw [e]))⟩
  have hlt : ∀ b, some (W.heap.size + 1) = some b → b < W.heap.size + 2 := fun b hb => by injection hb with hb; omega
  have ho := ((OwnR.kept (OwnR.kept (OwnR.kept (OwnR.mono HOW.out (show W.heap.size + 2 ≤ _ from hs1)) (gr _ 0 (.int .i64 t1)) hlt) (gr _ 1 (.slice A' n' c')) hlt) (gr _ 2 (.string l1)) hlt))
  exact goodQ_own ho

set_option maxRecDepth 100000 in
set_option maxHeartbeats 1600000 in
theorem sameEntry_any (a q : EntX) (hn : a.n ≤ 9223372036854775807) (W : World) (h1 : Pairs W a.A a.n a.ls) (h2 : Pairs W q.A q.n q.ls) :
    Calls Try.prog 18 #[.agg #[.int .i64 a.ts, .slice a.A a.n a.c, .string a.ln], .agg #[.int .i64 q.ts, .slice q.A q.n q.c, .string q.ln]] W fun e w' => e = .returned (.bool (sameE a.b q.b)) ∧ Below W.heap.size W w' := by
  have h0 : W.heap.size ≤ W.heap.size := Nat.le_refl _
  obtain ⟨t1, A, n, c, ps, l1⟩ := a
  obtain ⟨t2, B, m, d, qs, l2⟩ := q
  dsimp only at hn h1 h2 ⊢
  have SM := fun w h => samePairs_any A B n m c d ps qs hn w (h1.below h) (h2.below h)
  obtain ⟨T, hT⟩ : ∃ T, sameE (EntX.b ⟨t1, A, n, c, ps, l1⟩) (EntX.b ⟨t2, B, m, d, qs, l2⟩) = T := ⟨_, rfl⟩
  rw [hT]
  have hT2 : (decide (t1 = t2) && (decide (ps = qs) && decide (l1 = l2))) = T := hT
  obtain ⟨x, hx⟩ : ∃ x, decide (ps = qs) = x := ⟨_, rfl⟩
  simp only [hx] at SM
  rw [hx] at hT2
  replace SM := Lib.hid SM
  clear h1 h2 hT hx
  have hte := text_eq l1 l2
  obtain ⟨y, hy⟩ : ∃ x, decide (l1 = l2) = x := ⟨_, rfl⟩
  rw [hy] at hte hT2
  have g1 : (t1 == t2) = decide (t1 = t2) := by rw [Bool.eq_iff_iff, beq_iff_eq, decide_eq_true_iff]
  obtain ⟨z, hz⟩ : ∃ x, decide (t1 = t2) = x := ⟨_, rfl⟩
  rw [hz] at g1 hT2
  clear hy hz
  go_enter Try.func18, Try.ntmps18
  go_wp2_with fail
  obtain ⟨w1, hw1⟩ : ∃ w, (W.alloc (.cells #[.int .i64 t1, .slice A n c, .string l1] 26)).alloc (.cells #[.int .i64 t2, .slice B m d, .string l2] 48) = w := ⟨_, rfl⟩
  have B1 : Blk w1 W.heap.size 26 #[.int .i64 t1, .slice A n c, .string l1] := by rw [← hw1]; exact (Blk.new W _ _).alloc _
  have B2 : Blk w1 (W.heap.size + 1) 48 #[.int .i64 t2, .slice B m d, .string l2] := by rw [← hw1]; exact blk_next W _ _ _
  have hb1 : Below W.heap.size W w1 := by rw [← hw1]; exact ((Below.refl _ _).alloc (Nat.le_refl _) _).alloc (by simp) _
  rw [hw1]
  clear hw1
  refine (SM.out _ hb1).mono ?_
  rintro e w2 ⟨rfl, hx⟩
  replace B1 := B1.below hx B1.lt
  replace B2 := B2.below hx B2.lt
  have a0 : w2.cell? ⟨W.heap.size, 0, none⟩ = some (.int .i64 t1) := (B1.cell 0).trans rfl
  have a2 : w2.cell? ⟨W.heap.size, 2, none⟩ = some (.string l1) := (B1.cell 2).trans rfl
  have b0 : w2.cell? ⟨W.heap.size + 1, 0, none⟩ = some (.int .i64 t2) := (B2.cell 0).trans rfl
  have b2 : w2.cell? ⟨W.heap.size + 1, 2, none⟩ = some (.string l2) := (B2.cell 2).trans rfl
  have HB := Lib.hid (hop hb1 h0 hx)
  clear hx B1 B2 hb1 SM
  cases x with
  | false =>
    have E := Lib.hid (show false = T from by rw [← hT2]; cases z <;> rfl)
    clear hT2
    go_wp2
    go_ret
    exact ⟨ret_bool E.out, HB.out⟩
  | true =>
    cases z with
    | false =>
      have E := Lib.hid (show false = T from hT2)
      clear hT2
      go_wp2
      go_ret
      exact ⟨ret_bool E.out, HB.out⟩
    | true =>
      have E := Lib.hid (show y = T from hT2)
      clear hT2
      go_wp2
      go_ret
      exact ⟨ret_bool (by first | exact E.out | (rw [← E.out]; first | exact hte | (rw [← hte]; simp; done))), HB.out⟩

end Go.Proofs.Ytilcanblgdmecaa
