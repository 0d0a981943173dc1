/- The document's own entry that a text begins with: it is the one that the program tells. No walk.
   The document's own entries: the walks of refEntry, sameEntry, Put, Parse. -/
import Derived.Test.YtfamcebgcpaolaaGreatDoorEntPut
import Derived.Test.YtfamcebgcpaolaaGreatDoorEntRow
import Derived.Test.YtfamcebgcpaolaaGreatDoorEntParse
import Derived.Test.YtfamcebgcpaolaaGreatDoorEntBackMath
import Derived.Test.YtfamcebgcpaolaaGreatDoorRefParse6
import Derived.Test.YtfamcebgcpaolaaGreatDoorRefNum
import Derived.Test.YtfamcebgcpaolaaGreatDoorRefPut
namespace Go.Proofs.YtfamcebgcpaolaaGreatDoor
open Go.RowKit Go.Lib
set_option linter.unusedVariables false
set_option linter.unusedSimpArgs false

def notBr (c : UInt8) : Bool := c != 123
/-- where a number may end: at the first '{', or at 21 bytes -/
def brP (t : ByteArray) : Nat := min 21 (t.data.toList.takeWhile notBr).length
def lineQ (t : ByteArray) (v : Int) (ps : List PairB) (k : Nat) : Option (EntB × Nat) :=
  if (quoR t k).2.2 = true then (if (quoR t k).1.length ≤ 256 then some (⟨v, ps, tx (quoR t k).1⟩, k + (quoR t k).2.1) else none) else none
def restQ (t : ByteArray) (k : Nat) (v : Int) : Option (List PairB × Nat) → Option (EntB × Nat)
  | none => none
  | some x => lineQ t v x.1 (k + x.2)
def fromQ (t : ByteArray) (k : Nat) : Option Int → Option (EntB × Nat)
  | none => none
  | some v => restQ t k v (parseL (t.extract k t.size))
/-- the document's entry -/
def entQ (t : ByteArray) : Option (EntB × Nat) := fromQ t (brP t) (parseZ (t.extract 0 (brP t)))

theorem brP_le (t : ByteArray) : brP t ≤ t.size := by
  unfold brP
  have h := (List.takeWhile_prefix (p := notBr) (l := t.data.toList)).length_le
  rw [size_toList] at h
  omega
theorem parseL_head {t : ByteArray} {x : List PairB × Nat} (h : parseL t = some x) : t.data.toList.head? = some 123 := by
  unfold parseL at h
  split at h
  · cases h
  · rename_i y hy
    unfold lbT at hy
    rw [takeR_byte, at_zero] at hy
    split at hy
    · assumption
    · cases hy
theorem pairR_le {t : ByteArray} {k : Nat} (hk : k ≤ t.size) (h : (pairR t k).2.1 = true) : (pairR t k).2.2 ≤ t.size := by
  have h1 := runTo_le (goodK [0, 1, 2]) t k hk
  unfold pairR at h ⊢
  cases hx : takeR t (runTo (goodK [0, 1, 2]) t k) [eqS] with
  | none => rw [hx] at h; cases h
  | some s =>
    have h2 := takeTo_le h1 hx
    have h3 : s.size = 1 := by rw [takeR_one hx]; rfl
    rw [h3] at h2
    exact quoR_le t _ h2
theorem goP_le (t : ByteArray) : ∀ (f k : Nat) (acc : List PairB) (x : List PairB × Nat), k ≤ t.size → goP t f k acc = some x → x.2 ≤ t.size := by
  intro f
  induction f with
  | zero => intro k acc x _ h; rw [goP] at h; cases h
  | succ f ih =>
    intro k acc x hk h
    rw [goP_succ] at h
    split at h
    · rename_i hp
      have h1 := pairR_le hk hp
      cases hx : takeR t (pairR t k).2.2 [cmT, rbT] with
      | none => rw [hx] at h; cases h
      | some s =>
        rw [hx] at h
        dsimp only at h
        have h2 := takeTo_le h1 hx
        have h3 : s.size = 1 := by
          have := takeR_in hx
          simp only [List.mem_cons, List.mem_nil_iff, or_false] at this
          rcases this with rfl | rfl <;> rfl
        rw [h3] at h2
        split at h
        · exact ih _ _ _ h2 h
        · injection h with h
          rw [← h]
          exact h2
    · cases h
theorem parseL_le {t : ByteArray} {x : List PairB × Nat} (h : parseL t = some x) : x.2 ≤ t.size := by
  have h0 := parseL_head h
  have hs : 1 ≤ t.size := by
    rw [← size_toList]
    cases ht : t.data.toList with
    | nil => rw [ht] at h0; cases h0
    | cons c r => simp
  unfold parseL at h
  split at h
  · cases h
  · split at h
    · rename_i y hy
      have h2 := takeTo_le hs hy
      have h3 : y.size = 1 := by rw [takeR_one hy]; rfl
      injection h with h
      rw [← h]
      show 2 ≤ _
      omega
    · rw [Option.bind_eq_some_iff] at h
      obtain ⟨y, hy, h⟩ := h
      split at h
      · injection h with h
        rw [← h]
        exact goP_le t _ _ _ _ hs hy
      · cases h
theorem good_at {t : ByteArray} {k : Nat} {v : Int} {x : List PairB × Nat} (hk : k ≤ t.size) (h1 : parseZ (t.extract 0 k) = some v) (h2 : parseL (t.extract k t.size) = some x) : numR t 0 = some v ∧ numTo t 0 = k ∧ brP t = k := by
  obtain ⟨⟨v0, v1⟩, hv⟩ := (parseZ_iff _ _).1 h1
  have hd := parseL_head h2
  rw [rest_list] at hd
  have ht : t.data.toList.take k = itoa v := by
    have : (t.extract 0 k).data.toList = (itoaS v).data.toList := by rw [hv]
    rw [mid_list, List.drop_zero, itoaS_list] at this
    exact this
  have hlen : (itoa v).length = k := by
    rw [← ht, List.length_take, size_toList]
    omega
  obtain ⟨r, hr⟩ : ∃ r, atL t k = 123 :: r := by
    cases ha : atL t k with
    | nil => rw [ha] at hd; cases hd
    | cons c r =>
      rw [ha] at hd
      injection hd with hd
      exact ⟨r, by rw [hd]⟩
  have hall : t.data.toList = itoa v ++ 123 :: r := by
    rw [← ht, ← hr]
    exact (List.take_append_drop k _).symm
  obtain ⟨n1, n2⟩ := num_read t v (123 :: r) v0 v1 (fun c y e => by rw [← (List.cons.inj e).1]; exact dig_bad) hall
  refine ⟨n1, by rw [n2, hlen], ?_⟩
  unfold brP
  have hw : t.data.toList.takeWhile notBr = itoa v := by
    have h3 : ∀ c ∈ itoa v, notBr c = true := by
      intro c hc
      have := itoa_all v c hc
      unfold notBr
      rw [bne_iff_ne]
      intro e
      rw [e] at this
      have e2 : (123 : UInt8).toNat = 123 := rfl
      omega
    have h4 : ∀ c y, (123 :: r : List UInt8) = c :: y → notBr c = false := by
      intro c y e
      have e := (List.cons.inj e).1
      rw [← e]
      rfl
    rw [hall]
    exact while_app h3 h4
  rw [hw, hlen]
  have := itoaS_size v v0 v1
  rw [← size_toList, itoaS_list, hlen] at this
  omega
theorem entQ_is (t : ByteArray) : entQ t = entP t := by
  have hle := brP_le t
  have hend : numEnd t 0 ≤ t.size := by
    unfold numEnd
    refine runTo_le _ _ _ ?_
    unfold takeTo
    cases hx : takeR t 0 [minus] with
    | none => exact Nat.zero_le _
    | some s => exact takeTo_le (Nat.zero_le _) hx
  by_cases h : ∃ v x, numR t 0 = some v ∧ parseL (t.extract (numTo t 0) t.size) = some x
  · obtain ⟨v, ⟨ps, n⟩, h1, h2⟩ := h
    have hk : numTo t 0 = numEnd t 0 := by
      unfold numTo
      unfold numR at h1
      rw [h1, if_pos (show (some v).isSome = true from rfl)]
    obtain ⟨_, _, hb⟩ := good_at (t := t) (k := numTo t 0) (by rw [hk]; exact hend) (by rw [hk]; exact h1) h2
    have hr := parseL_right h2
    have hn := parseL_le h2
    rw [ByteArray.size_extract] at hn
    have hz : parseZ (t.extract 0 (numTo t 0)) = some v := by rw [hk]; exact h1
    have ha : lineAt t n = numTo t 0 + n := by
      unfold lineAt
      dsimp only at hn
      omega
    have hline : lineQ t v ps (numTo t 0 + n) = lineP t v ps (lineAt t n) := by
      rw [ha]
      unfold lineQ lineP rightE
      dsimp only at hr ⊢
      rw [hr, Bool.true_and, tx_size]
      by_cases hs : (quoR t (numTo t 0 + n)).1.length ≤ 256
      · rw [if_pos hs, decide_eq_true hs, if_pos rfl]
      · rw [if_neg hs, decide_eq_false hs, if_neg (show ¬ (false = true) from by decide)]
    unfold entQ entP
    rw [hb, hz, h1, entFrom_some, h2, entRest_some, ← hline]
    unfold fromQ
    rw [h2]
    rfl
  · have e1 : entP t = none := by
      unfold entP
      cases hn : numR t 0 with
      | none => rfl
      | some v =>
        rw [entFrom_some]
        cases hp : parseL (t.extract (numTo t 0) t.size) with
        | none => rfl
        | some x => exact absurd ⟨v, x, hn, hp⟩ h
    rw [e1]
    unfold entQ
    cases hz : parseZ (t.extract 0 (brP t)) with
    | none => rfl
    | some v =>
      show restQ t (brP t) v (parseL (t.extract (brP t) t.size)) = none
      cases hp : parseL (t.extract (brP t) t.size) with
      | none => rfl
      | some x =>
        obtain ⟨g1, g2, _⟩ := good_at hle hz hp
        exact absurd ⟨v, x, g1, by rw [g2]; exact hp⟩ h
end Go.Proofs.YtfamcebgcpaolaaGreatDoor
namespace Go.Proofs.YtfamcebgcpaolaaGreatDoor
open Go.RowKit
set_option linter.unusedVariables false
set_option linter.unusedSimpArgs false

/-- an entry of the document's, as it lies in memory -/
structure GoodQ (w : World) (x : EntX) : Prop where
  set : Pairs w x.A x.n x.ls
  own : 0 < x.n → ∀ a, x.A = some a → ∃ cur, w.heap[a.block]? = some (.cells cur 117 (0, 0))
theorem GoodQ.below {w w' : World} {x : EntX} (h : GoodQ w x) (hb : Below w.heap.size w w') : GoodQ w' x := ⟨h.set.below hb, fun hn a ha => by
  obtain ⟨cur, h1⟩ := h.own hn a ha
  exact ⟨cur, (hb.block _ (lt_of_block h1)).trans h1⟩⟩
theorem goodQ_own {w : World} {B : Nat} {t : Int} {A : Option Addr} {n c : Nat} {ps : List PairB} {l : ByteArray} (h : OwnQ w B (.slice A n c) ps) : GoodQ w ⟨t, A, n, c, ps, l⟩ := by
  obtain ⟨A1, cap, e1, _, _, hp⟩ := OwnQ.pairs h
  injection e1 with e1 e2 e3
  subst e1 e2
  refine ⟨hp, fun h0 a ha => ?_⟩
  dsimp only at h0 ha
  rcases h.2 with ⟨e, h1⟩ | ⟨g, cap, cur, e, _, hh, _⟩
  · omega
  · injection e with e1 _ _
    rw [ha] at e1
    injection e1 with e1
    subst e1
    exact ⟨cur, hh⟩

set_option maxRecDepth 100000 in
set_option maxHeartbeats 1600000 in
theorem refEntPut_any (t1 : Int) (A : Option Addr) (n c : Nat) (ps : List PairB) (l1 : ByteArray) (hp : PutE ⟨t1, ps, l1⟩) (hn : n ≤ 1048576) (W : World) (h1 : Pairs W A n ps) :
    Calls Tryz.prog 29 #[.agg #[.int .i64 t1, .slice A n c, .string l1]] W fun e w' => e = .returned (.string (entT ⟨t1, ps, l1⟩)) ∧ Below W.heap.size W w' := by
  have h0 : W.heap.size ≤ W.heap.size := Nat.le_refl _
  have hb1 : Below W.heap.size W (W.alloc (.cells #[.int .i64 t1, .slice A n c, .string l1] 43)) := (Below.refl _ _).alloc (Nat.le_refl _) _
  have B1 := Blk.new W 43 #[.int .i64 t1, .slice A n c, .string l1]
  have C1 := fun w => refText_any t1 hp.lo hp.hi w
  have C2 := fun w h => refTextL_any A n c ps hn hp.set w (h1.below h)
  have C3 := fun w => refPut_any l1 hp.line w
  have E : itoaS t1 ++ textT ps ++ putS l1 = entT ⟨t1, ps, l1⟩ := rfl
  have zz := hp.size
  rw [← E, ByteArray.size_append, ByteArray.size_append] at zz
  have e3 : (⟨(putB l1.data.toList).toArray⟩ : ByteArray) = putS l1 := rfl
  simp only [e3] at C3
  obtain ⟨x, hx⟩ : ∃ x, itoaS t1 = x := ⟨_, rfl⟩
  obtain ⟨y, hy⟩ : ∃ x, textT ps = x := ⟨_, rfl⟩
  obtain ⟨z, hz⟩ : ∃ x, putS l1 = x := ⟨_, rfl⟩
  obtain ⟨T, hT⟩ : ∃ x, entT ⟨t1, ps, l1⟩ = x := ⟨_, rfl⟩
  rw [hx, hy, hz, hT] at E
  rw [hx, hy, hz] at zz
  rw [hT]
  simp only [hx] at C1
  simp only [hy] at C2
  simp only [hz] at C3
  have HC1 := Lib.hid C1
  have HC2 := Lib.hid C2
  have HC3 := Lib.hid C3
  have g1 : ¬ 9223372036854775807 < x.size + y.size := by omega
  have g2 : ¬ 9223372036854775807 < (x ++ y).size + z.size := by rw [ByteArray.size_append]; omega
  have g3 : ¬ 9223372036854775807 < x.size + y.size + z.size := by omega
  have HE := Lib.hid E
  clear C1 C2 C3 E hx hy hz hT zz e3 h1 hp
  go_enter Tryz.func29, Tryz.ntmps29
  go_wp2
  obtain ⟨w1, hw1⟩ : ∃ w, W.alloc (.cells #[.int .i64 t1, .slice A n c, .string l1] 43) = w := ⟨_, rfl⟩
  rw [hw1] at hb1 B1 ⊢
  clear hw1
  have k0 : w1.cell? ⟨W.heap.size, 0, none⟩ = some (.int .i64 t1) := (B1.cell 0).trans rfl
  have k1 : w1.cell? ⟨W.heap.size, 1, none⟩ = some (.slice A n c) := (B1.cell 1).trans rfl
  have k2 : w1.cell? ⟨W.heap.size, 2, none⟩ = some (.string l1) := (B1.cell 2).trans rfl
  have HS := Lib.hid (fun (w w' : World) (hS : Below W.heap.size W w ∧ w.cell? ⟨W.heap.size, 0, none⟩ = some (.int .i64 t1) ∧ w.cell? ⟨W.heap.size, 1, none⟩ = some (.slice A n c) ∧ w.cell? ⟨W.heap.size, 2, none⟩ = some (.string l1)) (hx : Below w.heap.size w w') =>
    show Below W.heap.size W w' ∧ w'.cell? ⟨W.heap.size, 0, none⟩ = some (.int .i64 t1) ∧ w'.cell? ⟨W.heap.size, 1, none⟩ = some (.slice A n c) ∧ w'.cell? ⟨W.heap.size, 2, none⟩ = some (.string l1) from by
      obtain ⟨hb, c1, c2, c3⟩ := hS
      have z1 := block_lt_of_cell c1
      exact ⟨hop hb (Nat.le_refl _) hx, (hx.cell (p := ⟨_, 0, none⟩) z1).trans c1, (hx.cell (p := ⟨_, 1, none⟩) z1).trans c2, (hx.cell (p := ⟨_, 2, none⟩) z1).trans c3⟩)
  have hS0 := HS.out w1 w1.drew ⟨hb1, k0, k1, k2⟩ ((Below.refl _ _).drew)
  clear B1 hb1
  go_region_held3 (fun w' => Below W.heap.size W w' ∧ w'.cell? ⟨W.heap.size, 0, none⟩ = some (.int .i64 t1) ∧ w'.cell? ⟨W.heap.size, 1, none⟩ = some (.slice A n c) ∧ w'.cell? ⟨W.heap.size, 2, none⟩ = some (.string l1))
    (first | assumption | exact HS.out _ _ (by assumption) (by assumption))
    (first | (go_at_call 28; refine (HC1.out _).mono ?_; rintro e w3 ⟨rfl, hb3⟩) | (go_at_call 49; refine (HC2.out _ (by go_split_ands; assumption)).mono ?_; rintro e w3 ⟨rfl, hb3⟩) | (go_at_call 32; refine (HC3.out _).mono ?_; rintro e w3 ⟨rfl, hb3⟩))
  all_goals
    go_wp2
    go_ret
    exact ⟨by rw [← HE.out]; rfl, by go_split_ands; assumption⟩

theorem refPairs_own (A : Option Addr) (n c : Nat) (ps : List PairB) (hn : n ≤ 1048576) (W : World) (h1 : Pairs W A n ps) :
    Calls Tryz.prog 50 #[.slice A n c] W fun e w' => ∃ A' n' c', e = .returned (.slice A' n' c') ∧ n' = n ∧ OwnQ w' W.heap.size (.slice A' n' c') ps ∧ Below W.heap.size W w' := by
  refine (refPairs_any A n c ps hn W h1).mono ?_
  rintro e w' ⟨v, rfl, hown, hb⟩
  obtain ⟨B, cap, rfl, _, _, hp⟩ := hown.pairs
  exact ⟨B, _, cap, rfl, h1.1, hown, hb⟩

set_option maxRecDepth 100000 in
set_option maxHeartbeats 1600000 in
theorem refEntry_any (a : EntX) (hn : a.n ≤ 1048576) (W : World) (h1 : Pairs W a.A a.n a.ls) :
    Calls Tryz.prog 30 #[.agg #[.int .i64 a.ts, .slice a.A a.n a.c, .string a.ln]] W fun e w' => ∃ q : EntX, e = .returned (.agg #[.int .i64 q.ts, .slice q.A q.n q.c, .string q.ln]) ∧ q.b = a.b ∧ q.n = a.n ∧ GoodQ w' q ∧ Below W.heap.size W w' := by
  have h0 : W.heap.size ≤ W.heap.size := Nat.le_refl _
  obtain ⟨t1, A, n, c, ps, l1⟩ := a
  dsimp only at hn h1 ⊢
  have RP := Lib.hid (fun w h => refPairs_own A n c ps hn w (h1.below h))
  clear h1
  go_enter Tryz.func30, Tryz.ntmps30
  go_wp2
  obtain ⟨w1, hw1⟩ : ∃ w, (W.alloc (.cells #[.int .i64 t1, .slice A n c, .string l1] 27)).alloc (.cells #[.int .i64 0, .slice none 0 0, .string ⟨#[]⟩] 43) = w := ⟨_, rfl⟩
  have B1 : Blk w1 W.heap.size 27 #[.int .i64 t1, .slice A n c, .string l1] := by rw [← hw1]; exact (Blk.new W _ _).alloc _
  have B2 : Blk w1 (W.heap.size + 1) 43 #[.int .i64 0, .slice none 0 0, .string ⟨#[]⟩] := by rw [← hw1]; exact blk_next W _ _ _
  have hb1 : Below W.heap.size W w1 := by rw [← hw1]; exact ((Below.refl _ _).alloc (Nat.le_refl _) _).alloc (by simp) _
  have hs1 : W.heap.size + 2 ≤ w1.heap.size := by rw [← hw1]; simp
  rw [hw1]
  clear hw1
  have HS := Lib.hid (fun (w w' : World) (hS : Below W.heap.size W w ∧ w.cell? ⟨W.heap.size, 0, none⟩ = some (.int .i64 t1) ∧ w.cell? ⟨W.heap.size, 1, none⟩ = some (.slice A n c) ∧ w.cell? ⟨W.heap.size, 2, none⟩ = some (.string l1) ∧ ∃ c0 c1 c2, Blk w (W.heap.size + 1) 43 #[c0, c1, c2]) (hx : Below w.heap.size w w') =>
    show Below W.heap.size W w' ∧ w'.cell? ⟨W.heap.size, 0, none⟩ = some (.int .i64 t1) ∧ w'.cell? ⟨W.heap.size, 1, none⟩ = some (.slice A n c) ∧ w'.cell? ⟨W.heap.size, 2, none⟩ = some (.string l1) ∧ ∃ c0 c1 c2, Blk w' (W.heap.size + 1) 43 #[c0, c1, c2] from by
      obtain ⟨hb, c1, c2, c3, v0, v1, v2, hB⟩ := hS
      have z1 := block_lt_of_cell c1
      exact ⟨hop hb (Nat.le_refl _) hx, (hx.cell (p := ⟨_, 0, none⟩) z1).trans c1, (hx.cell (p := ⟨_, 1, none⟩) z1).trans c2, (hx.cell (p := ⟨_, 2, none⟩) z1).trans c3, v0, v1, v2, hB.below hx hB.lt⟩)
  have HST := Lib.hid (fun (w : World) (u v x : Value) (hS : Below W.heap.size W w ∧ w.cell? ⟨W.heap.size, 0, none⟩ = some (.int .i64 t1) ∧ w.cell? ⟨W.heap.size, 1, none⟩ = some (.slice A n c) ∧ w.cell? ⟨W.heap.size, 2, none⟩ = some (.string l1) ∧ ∃ c0 c1 c2, Blk w (W.heap.size + 1) 43 #[c0, c1, c2]) =>
    show Below W.heap.size W (((w.setCell ⟨W.heap.size + 1, 0, none⟩ u).setCell ⟨W.heap.size + 1, 1, none⟩ v).setCell ⟨W.heap.size + 1, 2, none⟩ x) ∧ (((w.setCell ⟨W.heap.size + 1, 0, none⟩ u).setCell ⟨W.heap.size + 1, 1, none⟩ v).setCell ⟨W.heap.size + 1, 2, none⟩ x).cell? ⟨W.heap.size, 0, none⟩ = some (.int .i64 t1) ∧ (((w.setCell ⟨W.heap.size + 1, 0, none⟩ u).setCell ⟨W.heap.size + 1, 1, none⟩ v).setCell ⟨W.heap.size + 1, 2, none⟩ x).cell? ⟨W.heap.size, 1, none⟩ = some (.slice A n c) ∧ (((w.setCell ⟨W.heap.size + 1, 0, none⟩ u).setCell ⟨W.heap.size + 1, 1, none⟩ v).setCell ⟨W.heap.size + 1, 2, none⟩ x).cell? ⟨W.heap.size, 2, none⟩ = some (.string l1) ∧ ∃ c0 c1 c2, Blk (((w.setCell ⟨W.heap.size + 1, 0, none⟩ u).setCell ⟨W.heap.size + 1, 1, none⟩ v).setCell ⟨W.heap.size + 1, 2, none⟩ x) (W.heap.size + 1) 43 #[c0, c1, c2] from by
      obtain ⟨hb, c1, c2, c3, v0, v1, v2, hB⟩ := hS
      have far : ∀ (w : World) (i j : Nat) (u y : Value), w.cell? ⟨W.heap.size, i, none⟩ = some y → (w.setCell ⟨W.heap.size + 1, j, none⟩ u).cell? ⟨W.heap.size, i, none⟩ = some y := fun w i j u y h => by
        refine (World.cell?_of_block (Below.heap_setCell w ⟨W.heap.size + 1, j, none⟩ u W.heap.size ?_)).trans h
        simp
      refine ⟨((hb.setCell (by simp) _).setCell (by simp) _).setCell (by simp) _, far _ _ _ _ _ (far _ _ _ _ _ (far _ _ _ _ _ c1)), far _ _ _ _ _ (far _ _ _ _ _ (far _ _ _ _ _ c2)), far _ _ _ _ _ (far _ _ _ _ _ (far _ _ _ _ _ c3)), u, v, x, ((hB.set_ 0 u).set_ 1 v).set_ 2 x⟩)
  have hS1 : Below W.heap.size W w1 ∧ w1.cell? ⟨W.heap.size, 0, none⟩ = some (.int .i64 t1) ∧ w1.cell? ⟨W.heap.size, 1, none⟩ = some (.slice A n c) ∧ w1.cell? ⟨W.heap.size, 2, none⟩ = some (.string l1) ∧ ∃ c0 c1 c2, Blk w1 (W.heap.size + 1) 43 #[c0, c1, c2] := ⟨hb1, (B1.cell 0).trans rfl, (B1.cell 1).trans rfl, (B1.cell 2).trans rfl, _, _, _, B2⟩
  have hS0 := HS.out w1 w1.drew hS1 ((Below.refl _ _).drew)
  clear B1 B2 hb1
  refine wp_region_held_drew (S := fun w' => Below W.heap.size W w' ∧ w'.cell? ⟨W.heap.size, 0, none⟩ = some (.int .i64 t1) ∧ w'.cell? ⟨W.heap.size, 1, none⟩ = some (.slice A n c) ∧ w'.cell? ⟨W.heap.size, 2, none⟩ = some (.string l1) ∧ ∃ c0 c1 c2, Blk w' (W.heap.size + 1) 43 #[c0, c1, c2]) (by kernel_rfl) hS0 (fun hHeld => ?_)
  refine wpAnyH_take (i := 0) (oi := { dst := some 3, op := Go.Op.fieldAddr 27 (Go.Operand.tmp 1) 0, type := 0, pos := "law.go:112", after := #[], guard := none }) (v := ?_) rfl (by kernel_rfl) (by kernel_rfl) (by kernel_rfl) (fun _ _ _ h => h) (Or.inl ⟨by kernel_rfl, ?_⟩) (by assumption) ?_
  rotate_left
  · intro w _
    first | (go_simp; done) | (go_simp; with_reducible rfl)
  try simp only [Act.put, List.setIfInBounds_toArray, List.set_cons_zero, List.set_cons_succ]
  refine wpAnyH_take (i := 1) (oi := { dst := some 4, op := Go.Op.load 2 (Go.Operand.tmp 3), type := 2, pos := "law.go:112", after := #[{ on := 0, ground := Go.Ground.data }], guard := none }) (v := ?_) rfl (by kernel_rfl) (by kernel_rfl) (by kernel_rfl) (fun _ _ _ h => h) (Or.inl ⟨by kernel_rfl, ?_⟩) (by assumption) ?_
  rotate_left
  · intro w hSw; (try dsimp only at hSw); go_split_ands
    first | (go_simp; done) | (go_simp; with_reducible rfl)
  try simp only [Act.put, List.setIfInBounds_toArray, List.set_cons_zero, List.set_cons_succ]
  refine wpAnyH_take (i := 2) (oi := { dst := some 5, op := Go.Op.fieldAddr 27 (Go.Operand.tmp 1) 1, type := 0, pos := "law.go:112", after := #[], guard := none }) (v := ?_) rfl (by kernel_rfl) (by kernel_rfl) (by kernel_rfl) (fun _ _ _ h => h) (Or.inl ⟨by kernel_rfl, ?_⟩) (by assumption) ?_
  rotate_left
  · intro w _
    first | (go_simp; done) | (go_simp; with_reducible rfl)
  try simp only [Act.put, List.setIfInBounds_toArray, List.set_cons_zero, List.set_cons_succ]
  refine wpAnyH_take (i := 3) (oi := { dst := some 6, op := Go.Op.load 25 (Go.Operand.tmp 5), type := 25, pos := "law.go:112", after := #[{ on := 2, ground := Go.Ground.data }], guard := none }) (v := ?_) rfl (by kernel_rfl) (by kernel_rfl) (by kernel_rfl) (fun _ _ _ h => h) (Or.inl ⟨by kernel_rfl, ?_⟩) (by assumption) ?_
  rotate_left
  · intro w hSw; (try dsimp only at hSw); go_split_ands
    first | (go_simp; done) | (go_simp; with_reducible rfl)
  try simp only [Act.put, List.setIfInBounds_toArray, List.set_cons_zero, List.set_cons_succ]
  refine wpAnyH_take (i := 5) (oi := { dst := some 8, op := Go.Op.fieldAddr 27 (Go.Operand.tmp 1) 2, type := 0, pos := "law.go:112", after := #[], guard := none }) (v := ?_) rfl (by kernel_rfl) (by kernel_rfl) (by kernel_rfl) (fun _ _ _ h => h) (Or.inl ⟨by kernel_rfl, ?_⟩) (by assumption) ?_
  rotate_left
  · intro w _
    first | (go_simp; done) | (go_simp; with_reducible rfl)
  try simp only [Act.put, List.setIfInBounds_toArray, List.set_cons_zero, List.set_cons_succ]
  refine wpAnyH_take (i := 6) (oi := { dst := some 9, op := Go.Op.load 9 (Go.Operand.tmp 8), type := 9, pos := "law.go:112", after := #[{ on := 5, ground := Go.Ground.data }], guard := none }) (v := ?_) rfl (by kernel_rfl) (by kernel_rfl) (by kernel_rfl) (fun _ _ _ h => h) (Or.inl ⟨by kernel_rfl, ?_⟩) (by assumption) ?_
  rotate_left
  · intro w hSw; (try dsimp only at hSw); go_split_ands
    first | (go_simp; done) | (go_simp; with_reducible rfl)
  try simp only [Act.put, List.setIfInBounds_toArray, List.set_cons_zero, List.set_cons_succ]
  refine wpAnyH_ready (rs := [4]) (by kernel_rfl) (by simp) ?_
  refine AllReadyH.cons (o := { dst := some 7, op := Go.Op.call { callee := Go.Callee.value (Go.Operand.func 50), args := #[Go.Operand.tmp 6], argTypes := #[24] }, type := 41, pos := "law.go:112", after := #[{ on := 3, ground := Go.Ground.data }], guard := none }) rfl (fun K hK => ?_) AllReadyH.nil
  go_simp
  go_at_call 50
  refine (RP.out _ hS0.1).mono ?_
  rintro e w3 ⟨A', n', c', rfl, hn', hown, hb3⟩
  have HOW := Lib.hid hown
  have HNN := Lib.hid hn'
  clear hown hn'
  have S3 := HS.out _ _ hS0 hb3
  refine hK.out _ _ S3 (fun _ => ?_)
  clear hK K hb3
  try simp only [Act.put, List.setIfInBounds_toArray, List.set_cons_zero, List.set_cons_succ]
  refine wpAnyH_take (i := 7) (oi := { dst := some 10, op := Go.Op.build 43 #[(0, Go.Operand.tmp 4), (1, Go.Operand.tmp 7), (2, Go.Operand.tmp 9)], type := 43, pos := "law.go:112", after := #[{ on := 1, ground := Go.Ground.data }, { on := 4, ground := Go.Ground.data }, { on := 6, ground := Go.Ground.data }], guard := none }) (v := ?_) rfl (by kernel_rfl) (by kernel_rfl) (by kernel_rfl) (fun _ _ _ h => h) (Or.inl ⟨by kernel_rfl, ?_⟩) (by assumption) ?_
  rotate_left
  · intro w _
    first | (go_simp; done) | (go_simp; with_reducible rfl)
  try simp only [Act.put, List.setIfInBounds_toArray, List.set_cons_zero, List.set_cons_succ]
  obtain ⟨sb, q0, q1, q2, c0, c1, c2, B3⟩ := S3
  have r0 : w3.cell? ⟨W.heap.size + 1, 0, none⟩ = some c0 := (B3.cell 0).trans rfl
  have r1 : w3.cell? ⟨W.heap.size + 1, 1, none⟩ = some c1 := (B3.cell 1).trans rfl
  have r2 : w3.cell? ⟨W.heap.size + 1, 2, none⟩ = some c2 := (B3.cell 2).trans rfl
  have f0 := B3.frozen 0
  have f1 := B3.frozen 1
  have f2 := B3.frozen 2
  have S7 := HST.out _ (.int .i64 t1) (.slice A' n' c') (.string l1) ⟨sb, q0, q1, q2, c0, c1, c2, B3⟩
  have HB4 := Lib.hid (((B3.set_ 0 (.int .i64 t1)).set_ 1 (.slice A' n' c')).set_ 2 (.string l1))
  refine wpAnyH_ready (rs := [8]) (by kernel_rfl) (by simp) ?_
  refine AllReadyH.cons (o := { dst := none, op := Go.Op.store 43 (Go.Operand.tmp 2) (Go.Operand.tmp 10), type := 0, pos := "law.go:112", after := #[{ on := 7, ground := Go.Ground.data }, { on := 4, ground := Go.Ground.chain }, { on := 0, ground := Go.Ground.phase }, { on := 1, ground := Go.Ground.phase }, { on := 2, ground := Go.Ground.phase }, { on := 3, ground := Go.Ground.phase }, { on := 4, ground := Go.Ground.phase }, { on := 5, ground := Go.Ground.phase }, { on := 6, ground := Go.Ground.phase }, { on := 7, ground := Go.Ground.phase }], guard := none }) rfl (fun K hK => ?_) AllReadyH.nil
  go_simp
  refine hK.out _ _ S7 (fun _ => ?_)
  clear hK K
  try simp only [Act.put, List.setIfInBounds_toArray, List.set_cons_zero, List.set_cons_succ]
  refine wpAnyH_done (by kernel_rfl) ?_ _
  go_wp2
  refine bodyPost_ret (results_cell_row rfl _ _ (W.heap.size + 1) 43 #[.int .i64 t1, .slice A' n' c', .string l1] (0, 0) _ rfl HB4.out Tryz.underlying43 rfl (by kernel_rfl)) rfl ?_
  refine ⟨⟨t1, A', n', c', ps, l1⟩, rfl, rfl, HNN.out, ?_, S7.1⟩
  have gr : ∀ (w : World) (i : Nat) (u : Value), w.grownBy (w.setCell ⟨W.heap.size + 1, i, none⟩ u) (some (W.heap.size + 1)) := fun w i u => ⟨rfl, rfl, rfl, by simp, fun k hk hne => Below.heap_setCell w ⟨W.heap.size + 1, i, none⟩ u k (fun e => hne (by rw [e]))⟩
  have hlt : ∀ b, some (W.heap.size + 1) = some b → b < W.heap.size + 2 := fun b hb => by injection hb with hb; omega
  have ho := ((OwnR.kept (OwnR.kept (OwnR.kept (OwnR.mono HOW.out (show W.heap.size + 2 ≤ _ from hs1)) (gr _ 0 (.int .i64 t1)) hlt) (gr _ 1 (.slice A' n' c')) hlt) (gr _ 2 (.string l1)) hlt))
  exact goodQ_own ho

set_option maxRecDepth 100000 in
set_option maxHeartbeats 1600000 in
theorem sameEntry_any (a q : EntX) (hn : a.n ≤ 9223372036854775807) (W : World) (h1 : Pairs W a.A a.n a.ls) (h2 : Pairs W q.A q.n q.ls) :
    Calls Tryz.prog 22 #[.agg #[.int .i64 a.ts, .slice a.A a.n a.c, .string a.ln], .agg #[.int .i64 q.ts, .slice q.A q.n q.c, .string q.ln]] W fun e w' => e = .returned (.bool (sameE a.b q.b)) ∧ Below W.heap.size W w' := by
  have h0 : W.heap.size ≤ W.heap.size := Nat.le_refl _
  obtain ⟨t1, A, n, c, ps, l1⟩ := a
  obtain ⟨t2, B, m, d, qs, l2⟩ := q
  dsimp only at hn h1 h2 ⊢
  have SM := fun w h => samePairs_any A B n m c d ps qs hn w (h1.below h) (h2.below h)
  obtain ⟨T, hT⟩ : ∃ T, sameE (EntX.b ⟨t1, A, n, c, ps, l1⟩) (EntX.b ⟨t2, B, m, d, qs, l2⟩) = T := ⟨_, rfl⟩
  rw [hT]
  have hT2 : (decide (t1 = t2) && (decide (ps = qs) && decide (l1 = l2))) = T := hT
  obtain ⟨x, hx⟩ : ∃ x, decide (ps = qs) = x := ⟨_, rfl⟩
  simp only [hx] at SM
  rw [hx] at hT2
  replace SM := Lib.hid SM
  clear h1 h2 hT hx
  have hte := text_eq l1 l2
  obtain ⟨y, hy⟩ : ∃ x, decide (l1 = l2) = x := ⟨_, rfl⟩
  rw [hy] at hte hT2
  have g1 : (t1 == t2) = decide (t1 = t2) := by rw [Bool.eq_iff_iff, beq_iff_eq, decide_eq_true_iff]
  obtain ⟨z, hz⟩ : ∃ x, decide (t1 = t2) = x := ⟨_, rfl⟩
  rw [hz] at g1 hT2
  clear hy hz
  go_enter Tryz.func22, Tryz.ntmps22
  go_wp2_with fail
  obtain ⟨w1, hw1⟩ : ∃ w, (W.alloc (.cells #[.int .i64 t1, .slice A n c, .string l1] 27)).alloc (.cells #[.int .i64 t2, .slice B m d, .string l2] 43) = w := ⟨_, rfl⟩
  have B1 : Blk w1 W.heap.size 27 #[.int .i64 t1, .slice A n c, .string l1] := by rw [← hw1]; exact (Blk.new W _ _).alloc _
  have B2 : Blk w1 (W.heap.size + 1) 43 #[.int .i64 t2, .slice B m d, .string l2] := by rw [← hw1]; exact blk_next W _ _ _
  have hb1 : Below W.heap.size W w1 := by rw [← hw1]; exact ((Below.refl _ _).alloc (Nat.le_refl _) _).alloc (by simp) _
  rw [hw1]
  clear hw1
  refine (SM.out _ hb1).mono ?_
  rintro e w2 ⟨rfl, hx⟩
  replace B1 := B1.below hx B1.lt
  replace B2 := B2.below hx B2.lt
  have a0 : w2.cell? ⟨W.heap.size, 0, none⟩ = some (.int .i64 t1) := (B1.cell 0).trans rfl
  have a2 : w2.cell? ⟨W.heap.size, 2, none⟩ = some (.string l1) := (B1.cell 2).trans rfl
  have b0 : w2.cell? ⟨W.heap.size + 1, 0, none⟩ = some (.int .i64 t2) := (B2.cell 0).trans rfl
  have b2 : w2.cell? ⟨W.heap.size + 1, 2, none⟩ = some (.string l2) := (B2.cell 2).trans rfl
  have HB := Lib.hid (hop hb1 h0 hx)
  clear hx B1 B2 hb1 SM
  cases x with
  | false =>
    have E := Lib.hid (show false = T from by rw [← hT2]; cases z <;> rfl)
    clear hT2
    go_wp2
    go_ret
    exact ⟨ret_bool E.out, HB.out⟩
  | true =>
    cases z with
    | false =>
      have E := Lib.hid (show false = T from hT2)
      clear hT2
      go_wp2
      go_ret
      exact ⟨ret_bool E.out, HB.out⟩
    | true =>
      have E := Lib.hid (show y = T from hT2)
      clear hT2
      go_wp2
      go_ret
      exact ⟨ret_bool (by first | exact E.out | (rw [← E.out]; first | exact hte | (rw [← hte]; simp; done))), HB.out⟩

set_option maxRecDepth 100000 in
set_option maxHeartbeats 1600000 in
theorem refEntParse_any (t : ByteArray) (hs : t.size ≤ 16000000) (W : World) :
    Calls Tryz.prog 41 #[.string t] W fun e w' => ∃ x : EntX, e = .returned (entV x (entP t)) ∧ x.b = entOf (entP t) ∧ GoodQ w' x ∧ Below W.heap.size W w' := by
  have h0 : W.heap.size ≤ W.heap.size := Nat.le_refl _
  rw [← entQ_is]
  obtain ⟨Z, hZ⟩ : ∃ Z, entQ t = Z := ⟨_, rfl⟩
  rw [hZ]
  have HZ := Lib.hid (show fromQ t (brP t) (parseZ (t.extract 0 (brP t))) = Z from hZ)
  have HU := Lib.hid Tryz.underlying43
  have hble := brP_le t
  clear hZ
  go_enter Tryz.func41, Tryz.ntmps41
  go_wp2
  obtain ⟨w1, hw1⟩ : ∃ w, W.alloc (.cells #[.int .i64 0, .slice none 0 0, .string ⟨#[]⟩] 43) = w := ⟨_, rfl⟩
  have B1 : Blk w1 W.heap.size 43 #[.int .i64 0, .slice none 0 0, .string ⟨#[]⟩] := by rw [← hw1]; exact Blk.new W _ _
  have hb1 : Below W.heap.size W w1 := by rw [← hw1]; exact (Below.refl _ _).alloc h0 _
  rw [hw1]
  clear hw1
  have HB1 := Lib.hid B1
  have Hb1 := Lib.hid hb1
  clear B1 hb1
  go_loopw [5] (fun iv wr => ∃ k : Nat, iv = .int .i64 k ∧ k ≤ t.size ∧ k ≤ 21 ∧ Hid (k ≤ (t.data.toList.takeWhile notBr).length) ∧ wr = w1) (fun iv _ => 21 - (intOf iv).toNat)
  case atStart => exact ⟨0, rfl, Nat.zero_le _, Nat.zero_le _, Lib.hid (Nat.zero_le _), rfl⟩
  case round =>
    obtain ⟨k, rfl, hkt, hk21, HK, hwr⟩ := hrel
    subst hwr
    by_cases hk : k < t.size
    · have hkI0 : (k : Int) < (t.size : Int) := by omega
      have hget : t.data.toList[k]? = some t[k] := by
        have := at_get t 0 k (Nat.zero_le _) hk
        rwa [at_zero, Nat.sub_zero] at this
      obtain ⟨c, hc⟩ : ∃ c, t[k] = c := ⟨_, rfl⟩
      rw [hc] at hget
      obtain ⟨s1, s2⟩ := run_step notBr _ _ _ HK.out hget
      by_cases hcb : c = 123
      · have E0 : brP t = k := by
          have h1 := s2 (by rw [hcb]; rfl)
          unfold brP
          omega
        have z1 : c.toNat = 123 := by rw [hcb]; rfl
        have z2 : ((c.toNat : Int) != 123) = false := by rw [z1]; rfl
        have z3 : ((c.toNat : Int) == 123) = true := by rw [z1]; rfl
        clear s1 s2 hget hcb z1
        have HZ2 := HZ.out
        rw [E0] at HZ2
        have hkI : (k : Int) ≤ (t.size : Int) := by omega
        have RP := fun w => refParse_any (t.extract 0 k) (by rw [ByteArray.size_extract]; omega) w
        have hpl := fun x (h : parseL (t.extract k t.size) = some x) => parseL_le h
        obtain ⟨o, ho⟩ : ∃ o, parseZ (t.extract 0 k) = o := ⟨_, rfl⟩
        simp only [ho] at RP
        rw [ho] at HZ2
        replace RP := Lib.hid RP
        have HZ3 := Lib.hid HZ2
        have HPL := Lib.hid hpl
        clear ho HZ2 E0 hpl
        go_wp2_with fail
        refine (RP.out _).mono ?_
        rintro e w2 ⟨rfl, hx⟩
        have B2 := HB1.out.below hx HB1.out.lt
        have hb2 := hop Hb1.out h0 hx
        have q0 : w2.cell? ⟨W.heap.size, 0, none⟩ = some (.int .i64 0) := (B2.cell 0).trans rfl
        have q1 : w2.cell? ⟨W.heap.size, 1, none⟩ = some (.slice none 0 0) := (B2.cell 1).trans rfl
        have q2 : w2.cell? ⟨W.heap.size, 2, none⟩ = some (.string ⟨#[]⟩) := (B2.cell 2).trans rfl
        have f0 := B2.frozen 0
        have f1 := B2.frozen 1
        have f2 := B2.frozen 2
        have HB2 := Lib.hid B2
        have Hb2 := Lib.hid hb2
        clear hx B2 hb2 RP
        cases o with
        | none =>
          have E := Lib.hid (show Z = none from HZ3.out.symm)
          simp only [Option.getD_none, Option.isSome_none]
          go_wp2
          refine bodyPost_ret (results_row_tmp2 rfl _ _ W.heap.size 43 _ (0, 0) _ rfl (((HB2.out.set_ 0 (.int .i64 0)).set_ 1 (.slice none 0 0)).set_ 2 (.string ⟨#[]⟩)) HU.out rfl (by kernel_rfl)) rfl ?_
          rw [E.out]
          exact ⟨xnil, rfl, rfl, ⟨pairs_none _, fun h => absurd h (by decide)⟩, ((Hb2.out.setCell (p := ⟨W.heap.size, 0, none⟩) (by simp) _).setCell (p := ⟨W.heap.size, 1, none⟩) (by simp) _).setCell (p := ⟨W.heap.size, 2, none⟩) (by simp) _⟩
        | some v =>
          have HZ4 := Lib.hid (show restQ t k v (parseL (t.extract k t.size)) = Z from HZ3.out)
          have RL := fun w => refParseL_any (t.extract k t.size) (by rw [ByteArray.size_extract]; omega) w
          rw [parseQ_is] at RL
          obtain ⟨s, hs1⟩ : ∃ s, parseL (t.extract k t.size) = s := ⟨_, rfl⟩
          simp only [hs1] at RL
          replace HZ4 := HZ4.out
          replace HPL := HPL.out
          simp only [hs1] at HPL
          rw [hs1] at HZ4
          replace HPL := Lib.hid HPL
          replace HZ4 := Lib.hid HZ4
          replace RL := Lib.hid RL
          simp only [Option.getD_some, Option.isSome_some]
          clear hs1 HZ3
          go_wp2_with fail
          refine (RL.out _).mono ?_
          rintro e w3 ⟨vv, rfl, hown, hx⟩
          have B3 := HB2.out.below hx HB2.out.lt
          have hb3 := hop Hb2.out h0 hx
          have hl3 : W.heap.size < w2.heap.size := HB2.out.lt
          have q0 : w3.cell? ⟨W.heap.size, 0, none⟩ = some (.int .i64 0) := (B3.cell 0).trans rfl
          have q1 : w3.cell? ⟨W.heap.size, 1, none⟩ = some (.slice none 0 0) := (B3.cell 1).trans rfl
          have q2 : w3.cell? ⟨W.heap.size, 2, none⟩ = some (.string ⟨#[]⟩) := (B3.cell 2).trans rfl
          have f0 := B3.frozen 0
          have f1 := B3.frozen 1
          have f2 := B3.frozen 2
          have HB3 := Lib.hid B3
          have Hb3 := Lib.hid hb3
          clear hx B3 hb3 RL
          cases s with
          | none =>
            have E := Lib.hid (show Z = none from HZ4.out.symm)
            obtain ⟨A2, c2, rfl, _, _, _⟩ := OwnQ.pairs hown
            simp only [parseV, Option.map_none, Option.getD_none, Option.isSome_none]
            go_wp2
            refine bodyPost_ret (results_row_tmp2 rfl _ _ W.heap.size 43 _ (0, 0) _ rfl (((HB3.out.set_ 0 (.int .i64 0)).set_ 1 (.slice none 0 0)).set_ 2 (.string ⟨#[]⟩)) HU.out rfl (by kernel_rfl)) rfl ?_
            rw [E.out]
            exact ⟨xnil, rfl, rfl, ⟨pairs_none _, fun h => absurd h (by decide)⟩, ((Hb3.out.setCell (p := ⟨W.heap.size, 0, none⟩) (by simp) _).setCell (p := ⟨W.heap.size, 1, none⟩) (by simp) _).setCell (p := ⟨W.heap.size, 2, none⟩) (by simp) _⟩
          | some x =>
            obtain ⟨ps, n⟩ := x
            have hnl := HPL.out _ rfl
            rw [ByteArray.size_extract] at hnl
            dsimp only at hnl
            have hkn : k + n ≤ t.size := by omega
            have hknI : (k : Int) + (n : Int) ≤ (t.size : Int) := by omega
            have hw1 : IntKind.i64.wrap ((k : Int) + (n : Int)) = ((k + n : Nat) : Int) := by rw [IntKind.wrap_i64]; omega
            have hkn2 : ((k + n : Nat) : Int) ≤ (t.size : Int) := by omega
            have HOW := Lib.hid hown
            have HZ5 := Lib.hid (show lineQ t v ps (k + n) = Z from HZ4.out)
            have RG := fun w => refGet_any (t.extract (k + n) t.size) (by rw [ByteArray.size_extract]; omega) w
            have eq0 : getR (t.extract (k + n) t.size).data.toList = quoR t (k + n) := rfl
            simp only [eq0] at RG
            have hql := quoR_le t (k + n) hkn
            obtain ⟨⟨l, m, ok⟩, hq⟩ : ∃ z, quoR t (k + n) = z := ⟨_, rfl⟩
            simp only [hq] at RG
            rw [hq] at hql
            dsimp only at hql
            have HZ6 := HZ5.out
            unfold lineQ at HZ6
            rw [hq] at HZ6
            dsimp only at HZ6
            have etx : (⟨l.toArray⟩ : ByteArray) = tx l := rfl
            have els := tx_size l
            simp only [etx] at RG
            obtain ⟨ln, hln⟩ : ∃ x, tx l = x := ⟨_, rfl⟩
            simp only [hln] at RG
            rw [hln] at HZ6 els
            rw [← els] at HZ6
            replace RG := Lib.hid RG
            have HZ7 := Lib.hid HZ6
            obtain ⟨A2, c2, rfl, _, _, _⟩ := OwnQ.pairs hown
            obtain ⟨n2, hn2⟩ : ∃ n, ps.length = n := ⟨_, rfl⟩
            replace HOW : OwnQ w3 w2.heap.size (.slice A2 ps.length c2) ps := HOW.out
            rw [hn2] at HOW
            rw [show (parsedL (some (ps, n))).length = ps.length from rfl, hn2]
            replace HOW := Lib.hid HOW
            simp only [parseV, Option.map_some, Option.getD_some, Option.isSome_some]
            clear hown eq0 hq etx els hln HZ6 HZ5 HZ4 HPL hnl hn2
            go_wp2_with fail
            refine (RG.out _).mono ?_
            rintro e w4 ⟨rfl, hx⟩
            have B4 := HB3.out.below hx HB3.out.lt
            have hb4 := hop Hb3.out h0 hx
            have HO4 := Lib.hid (OwnR.below HOW.out hx)
            have q0 : w4.cell? ⟨W.heap.size, 0, none⟩ = some (.int .i64 0) := (B4.cell 0).trans rfl
            have q1 : w4.cell? ⟨W.heap.size, 1, none⟩ = some (.slice none 0 0) := (B4.cell 1).trans rfl
            have q2 : w4.cell? ⟨W.heap.size, 2, none⟩ = some (.string ⟨#[]⟩) := (B4.cell 2).trans rfl
            have f0 := B4.frozen 0
            have f1 := B4.frozen 1
            have f2 := B4.frozen 2
            have HB4 := Lib.hid B4
            have Hb4 := Lib.hid hb4
            clear hx B4 hb4 RG HOW
            cases ok with
            | false =>
              have E := Lib.hid (show Z = none from by have := HZ7.out; rw [if_neg (by decide)] at this; exact this.symm)
              go_wp2
              refine bodyPost_ret (results_row_tmp2 rfl _ _ W.heap.size 43 _ (0, 0) _ rfl (((HB4.out.set_ 0 (.int .i64 0)).set_ 1 (.slice none 0 0)).set_ 2 (.string ⟨#[]⟩)) HU.out rfl (by kernel_rfl)) rfl ?_
              rw [E.out]
              exact ⟨xnil, rfl, rfl, ⟨pairs_none _, fun h => absurd h (by decide)⟩, ((Hb4.out.setCell (p := ⟨W.heap.size, 0, none⟩) (by simp) _).setCell (p := ⟨W.heap.size, 1, none⟩) (by simp) _).setCell (p := ⟨W.heap.size, 2, none⟩) (by simp) _⟩
            | true =>
              by_cases h256 : ln.size ≤ 256
              · have E := Lib.hid (show Z = some (⟨v, ps, ln⟩, k + n + m) from by have := HZ7.out; rw [if_pos rfl, if_pos h256] at this; exact this.symm)
                have g1 : ¬ (256 : Int) < (ln.size : Int) := by omega
                have g2 : ¬ 256 < ln.size := by omega
                have hw2 : IntKind.i64.wrap (((k + n : Nat) : Int) + (m : Int)) = ((k + n + m : Nat) : Int) := by rw [IntKind.wrap_i64]; omega
                have hw3 : IntKind.i64.wrap ((k : Int) + (n : Int) + (m : Int)) = ((k + n + m : Nat) : Int) := by rw [IntKind.wrap_i64]; omega
                clear h256
                go_wp2
                refine bodyPost_ret (results_row_tmp2 rfl _ _ W.heap.size 43 _ (0, 0) _ rfl (((HB4.out.set_ 0 (.int .i64 v)).set_ 1 (.slice A2 n2 c2)).set_ 2 (.string ln)) HU.out rfl (by kernel_rfl)) rfl ?_
                rw [E.out]
                refine ⟨⟨v, A2, n2, c2, ps, ln⟩, rfl, rfl, ?_, ((Hb4.out.setCell (p := ⟨W.heap.size, 0, none⟩) (by simp) _).setCell (p := ⟨W.heap.size, 1, none⟩) (by simp) _).setCell (p := ⟨W.heap.size, 2, none⟩) (by simp) _⟩
                have gr : ∀ (w : World) (i : Nat) (u : Value), w.grownBy (w.setCell ⟨W.heap.size, i, none⟩ u) (some W.heap.size) := fun w i u => ⟨rfl, rfl, rfl, by simp, fun k hk hne => Below.heap_setCell w ⟨W.heap.size, i, none⟩ u k (fun e => hne (by rw [e]))⟩
                have hlt : ∀ b, some W.heap.size = some b → b < w2.heap.size := fun b hb => by injection hb with hb; omega
                have ho := ((OwnR.kept (OwnR.kept (OwnR.kept HO4.out (gr _ 0 (.int .i64 v)) hlt) (gr _ 1 (.slice A2 n2 c2)) hlt) (gr _ 2 (.string ln)) hlt))
                exact goodQ_own ho
              · have E := Lib.hid (show Z = none from by have := HZ7.out; rw [if_pos rfl, if_neg h256] at this; exact this.symm)
                have g1 : (256 : Int) < (ln.size : Int) := by omega
                have g2 : 256 < ln.size := by omega
                clear h256
                go_wp2
                refine bodyPost_ret (results_row_tmp2 rfl _ _ W.heap.size 43 _ (0, 0) _ rfl (((HB4.out.set_ 0 (.int .i64 0)).set_ 1 (.slice none 0 0)).set_ 2 (.string ⟨#[]⟩)) HU.out rfl (by kernel_rfl)) rfl ?_
                rw [E.out]
                exact ⟨xnil, rfl, rfl, ⟨pairs_none _, fun h => absurd h (by decide)⟩, ((Hb4.out.setCell (p := ⟨W.heap.size, 0, none⟩) (by simp) _).setCell (p := ⟨W.heap.size, 1, none⟩) (by simp) _).setCell (p := ⟨W.heap.size, 2, none⟩) (by simp) _⟩
      · have hcn : c.toNat ≠ 123 := fun h => hcb (UInt8.toNat_inj.1 h)
        have z2 : ((c.toNat : Int) != 123) = true := by rw [bne_iff_ne]; omega
        have z3 : ((c.toNat : Int) == 123) = false := by rw [beq_eq_false_iff_ne]; omega
        have z4 : ¬ (c.toNat : Int) = 123 := by omega
        have z5 : ¬ c.toNat = 123 := hcn
        have hk2 := s1 (by unfold notBr; rw [bne_iff_ne]; exact hcb)
        by_cases h21 : k < 21
        · have y1 : (k : Int) < 21 := by omega
          have HK2 := Lib.hid hk2
          clear s1 s2 hget hcb hcn hk2
          go_wp2
          go_round
          case rel => exact ⟨k + 1, by go_num, by omega, by omega, HK2, trivial⟩
          case measure => simp [intOf]; omega
        · have y1 : ¬ (k : Int) < 21 := by omega
          have E0 : brP t = k := by
            unfold brP
            omega
          clear s1 s2 hget hcb hcn hk2
          have HZ2 := HZ.out
          rw [E0] at HZ2
          have hkI : (k : Int) ≤ (t.size : Int) := by omega
          have RP := fun w => refParse_any (t.extract 0 k) (by rw [ByteArray.size_extract]; omega) w
          have hpl := fun x (h : parseL (t.extract k t.size) = some x) => parseL_le h
          obtain ⟨o, ho⟩ : ∃ o, parseZ (t.extract 0 k) = o := ⟨_, rfl⟩
          simp only [ho] at RP
          rw [ho] at HZ2
          replace RP := Lib.hid RP
          have HZ3 := Lib.hid HZ2
          have HPL := Lib.hid hpl
          clear ho HZ2 E0 hpl
          go_wp2_with fail
          refine (RP.out _).mono ?_
          rintro e w2 ⟨rfl, hx⟩
          have B2 := HB1.out.below hx HB1.out.lt
          have hb2 := hop Hb1.out h0 hx
          have q0 : w2.cell? ⟨W.heap.size, 0, none⟩ = some (.int .i64 0) := (B2.cell 0).trans rfl
          have q1 : w2.cell? ⟨W.heap.size, 1, none⟩ = some (.slice none 0 0) := (B2.cell 1).trans rfl
          have q2 : w2.cell? ⟨W.heap.size, 2, none⟩ = some (.string ⟨#[]⟩) := (B2.cell 2).trans rfl
          have f0 := B2.frozen 0
          have f1 := B2.frozen 1
          have f2 := B2.frozen 2
          have HB2 := Lib.hid B2
          have Hb2 := Lib.hid hb2
          clear hx B2 hb2 RP
          cases o with
          | none =>
            have E := Lib.hid (show Z = none from HZ3.out.symm)
            simp only [Option.getD_none, Option.isSome_none]
            go_wp2
            refine bodyPost_ret (results_row_tmp2 rfl _ _ W.heap.size 43 _ (0, 0) _ rfl (((HB2.out.set_ 0 (.int .i64 0)).set_ 1 (.slice none 0 0)).set_ 2 (.string ⟨#[]⟩)) HU.out rfl (by kernel_rfl)) rfl ?_
            rw [E.out]
            exact ⟨xnil, rfl, rfl, ⟨pairs_none _, fun h => absurd h (by decide)⟩, ((Hb2.out.setCell (p := ⟨W.heap.size, 0, none⟩) (by simp) _).setCell (p := ⟨W.heap.size, 1, none⟩) (by simp) _).setCell (p := ⟨W.heap.size, 2, none⟩) (by simp) _⟩
          | some v =>
            have HZ4 := Lib.hid (show restQ t k v (parseL (t.extract k t.size)) = Z from HZ3.out)
            have RL := fun w => refParseL_any (t.extract k t.size) (by rw [ByteArray.size_extract]; omega) w
            rw [parseQ_is] at RL
            obtain ⟨s, hs1⟩ : ∃ s, parseL (t.extract k t.size) = s := ⟨_, rfl⟩
            simp only [hs1] at RL
            replace HZ4 := HZ4.out
            replace HPL := HPL.out
            simp only [hs1] at HPL
            rw [hs1] at HZ4
            replace HPL := Lib.hid HPL
            replace HZ4 := Lib.hid HZ4
            replace RL := Lib.hid RL
            simp only [Option.getD_some, Option.isSome_some]
            clear hs1 HZ3
            go_wp2_with fail
            refine (RL.out _).mono ?_
            rintro e w3 ⟨vv, rfl, hown, hx⟩
            have B3 := HB2.out.below hx HB2.out.lt
            have hb3 := hop Hb2.out h0 hx
            have hl3 : W.heap.size < w2.heap.size := HB2.out.lt
            have q0 : w3.cell? ⟨W.heap.size, 0, none⟩ = some (.int .i64 0) := (B3.cell 0).trans rfl
            have q1 : w3.cell? ⟨W.heap.size, 1, none⟩ = some (.slice none 0 0) := (B3.cell 1).trans rfl
            have q2 : w3.cell? ⟨W.heap.size, 2, none⟩ = some (.string ⟨#[]⟩) := (B3.cell 2).trans rfl
            have f0 := B3.frozen 0
            have f1 := B3.frozen 1
            have f2 := B3.frozen 2
            have HB3 := Lib.hid B3
            have Hb3 := Lib.hid hb3
            clear hx B3 hb3 RL
            cases s with
            | none =>
              have E := Lib.hid (show Z = none from HZ4.out.symm)
              obtain ⟨A2, c2, rfl, _, _, _⟩ := OwnQ.pairs hown
              simp only [parseV, Option.map_none, Option.getD_none, Option.isSome_none]
              go_wp2
              refine bodyPost_ret (results_row_tmp2 rfl _ _ W.heap.size 43 _ (0, 0) _ rfl (((HB3.out.set_ 0 (.int .i64 0)).set_ 1 (.slice none 0 0)).set_ 2 (.string ⟨#[]⟩)) HU.out rfl (by kernel_rfl)) rfl ?_
              rw [E.out]
              exact ⟨xnil, rfl, rfl, ⟨pairs_none _, fun h => absurd h (by decide)⟩, ((Hb3.out.setCell (p := ⟨W.heap.size, 0, none⟩) (by simp) _).setCell (p := ⟨W.heap.size, 1, none⟩) (by simp) _).setCell (p := ⟨W.heap.size, 2, none⟩) (by simp) _⟩
            | some x =>
              obtain ⟨ps, n⟩ := x
              have hnl := HPL.out _ rfl
              rw [ByteArray.size_extract] at hnl
              dsimp only at hnl
              have hkn : k + n ≤ t.size := by omega
              have hknI : (k : Int) + (n : Int) ≤ (t.size : Int) := by omega
              have hw1 : IntKind.i64.wrap ((k : Int) + (n : Int)) = ((k + n : Nat) : Int) := by rw [IntKind.wrap_i64]; omega
              have hkn2 : ((k + n : Nat) : Int) ≤ (t.size : Int) := by omega
              have HOW := Lib.hid hown
              have HZ5 := Lib.hid (show lineQ t v ps (k + n) = Z from HZ4.out)
              have RG := fun w => refGet_any (t.extract (k + n) t.size) (by rw [ByteArray.size_extract]; omega) w
              have eq0 : getR (t.extract (k + n) t.size).data.toList = quoR t (k + n) := rfl
              simp only [eq0] at RG
              have hql := quoR_le t (k + n) hkn
              obtain ⟨⟨l, m, ok⟩, hq⟩ : ∃ z, quoR t (k + n) = z := ⟨_, rfl⟩
              simp only [hq] at RG
              rw [hq] at hql
              dsimp only at hql
              have HZ6 := HZ5.out
              unfold lineQ at HZ6
              rw [hq] at HZ6
              dsimp only at HZ6
              have etx : (⟨l.toArray⟩ : ByteArray) = tx l := rfl
              have els := tx_size l
              simp only [etx] at RG
              obtain ⟨ln, hln⟩ : ∃ x, tx l = x := ⟨_, rfl⟩
              simp only [hln] at RG
              rw [hln] at HZ6 els
              rw [← els] at HZ6
              replace RG := Lib.hid RG
              have HZ7 := Lib.hid HZ6
              obtain ⟨A2, c2, rfl, _, _, _⟩ := OwnQ.pairs hown
              obtain ⟨n2, hn2⟩ : ∃ n, ps.length = n := ⟨_, rfl⟩
              replace HOW : OwnQ w3 w2.heap.size (.slice A2 ps.length c2) ps := HOW.out
              rw [hn2] at HOW
              rw [show (parsedL (some (ps, n))).length = ps.length from rfl, hn2]
              replace HOW := Lib.hid HOW
              simp only [parseV, Option.map_some, Option.getD_some, Option.isSome_some]
              clear hown eq0 hq etx els hln HZ6 HZ5 HZ4 HPL hnl hn2
              go_wp2_with fail
              refine (RG.out _).mono ?_
              rintro e w4 ⟨rfl, hx⟩
              have B4 := HB3.out.below hx HB3.out.lt
              have hb4 := hop Hb3.out h0 hx
              have HO4 := Lib.hid (OwnR.below HOW.out hx)
              have q0 : w4.cell? ⟨W.heap.size, 0, none⟩ = some (.int .i64 0) := (B4.cell 0).trans rfl
              have q1 : w4.cell? ⟨W.heap.size, 1, none⟩ = some (.slice none 0 0) := (B4.cell 1).trans rfl
              have q2 : w4.cell? ⟨W.heap.size, 2, none⟩ = some (.string ⟨#[]⟩) := (B4.cell 2).trans rfl
              have f0 := B4.frozen 0
              have f1 := B4.frozen 1
              have f2 := B4.frozen 2
              have HB4 := Lib.hid B4
              have Hb4 := Lib.hid hb4
              clear hx B4 hb4 RG HOW
              cases ok with
              | false =>
                have E := Lib.hid (show Z = none from by have := HZ7.out; rw [if_neg (by decide)] at this; exact this.symm)
                go_wp2
                refine bodyPost_ret (results_row_tmp2 rfl _ _ W.heap.size 43 _ (0, 0) _ rfl (((HB4.out.set_ 0 (.int .i64 0)).set_ 1 (.slice none 0 0)).set_ 2 (.string ⟨#[]⟩)) HU.out rfl (by kernel_rfl)) rfl ?_
                rw [E.out]
                exact ⟨xnil, rfl, rfl, ⟨pairs_none _, fun h => absurd h (by decide)⟩, ((Hb4.out.setCell (p := ⟨W.heap.size, 0, none⟩) (by simp) _).setCell (p := ⟨W.heap.size, 1, none⟩) (by simp) _).setCell (p := ⟨W.heap.size, 2, none⟩) (by simp) _⟩
              | true =>
                by_cases h256 : ln.size ≤ 256
                · have E := Lib.hid (show Z = some (⟨v, ps, ln⟩, k + n + m) from by have := HZ7.out; rw [if_pos rfl, if_pos h256] at this; exact this.symm)
                  have g1 : ¬ (256 : Int) < (ln.size : Int) := by omega
                  have g2 : ¬ 256 < ln.size := by omega
                  have hw2 : IntKind.i64.wrap (((k + n : Nat) : Int) + (m : Int)) = ((k + n + m : Nat) : Int) := by rw [IntKind.wrap_i64]; omega
                  have hw3 : IntKind.i64.wrap ((k : Int) + (n : Int) + (m : Int)) = ((k + n + m : Nat) : Int) := by rw [IntKind.wrap_i64]; omega
                  clear h256
                  go_wp2
                  refine bodyPost_ret (results_row_tmp2 rfl _ _ W.heap.size 43 _ (0, 0) _ rfl (((HB4.out.set_ 0 (.int .i64 v)).set_ 1 (.slice A2 n2 c2)).set_ 2 (.string ln)) HU.out rfl (by kernel_rfl)) rfl ?_
                  rw [E.out]
                  refine ⟨⟨v, A2, n2, c2, ps, ln⟩, rfl, rfl, ?_, ((Hb4.out.setCell (p := ⟨W.heap.size, 0, none⟩) (by simp) _).setCell (p := ⟨W.heap.size, 1, none⟩) (by simp) _).setCell (p := ⟨W.heap.size, 2, none⟩) (by simp) _⟩
                  have gr : ∀ (w : World) (i : Nat) (u : Value), w.grownBy (w.setCell ⟨W.heap.size, i, none⟩ u) (some W.heap.size) := fun w i u => ⟨rfl, rfl, rfl, by simp, fun k hk hne => Below.heap_setCell w ⟨W.heap.size, i, none⟩ u k (fun e => hne (by rw [e]))⟩
                  have hlt : ∀ b, some W.heap.size = some b → b < w2.heap.size := fun b hb => by injection hb with hb; omega
                  have ho := ((OwnR.kept (OwnR.kept (OwnR.kept HO4.out (gr _ 0 (.int .i64 v)) hlt) (gr _ 1 (.slice A2 n2 c2)) hlt) (gr _ 2 (.string ln)) hlt))
                  exact goodQ_own ho
                · have E := Lib.hid (show Z = none from by have := HZ7.out; rw [if_pos rfl, if_neg h256] at this; exact this.symm)
                  have g1 : (256 : Int) < (ln.size : Int) := by omega
                  have g2 : 256 < ln.size := by omega
                  clear h256
                  go_wp2
                  refine bodyPost_ret (results_row_tmp2 rfl _ _ W.heap.size 43 _ (0, 0) _ rfl (((HB4.out.set_ 0 (.int .i64 0)).set_ 1 (.slice none 0 0)).set_ 2 (.string ⟨#[]⟩)) HU.out rfl (by kernel_rfl)) rfl ?_
                  rw [E.out]
                  exact ⟨xnil, rfl, rfl, ⟨pairs_none _, fun h => absurd h (by decide)⟩, ((Hb4.out.setCell (p := ⟨W.heap.size, 0, none⟩) (by simp) _).setCell (p := ⟨W.heap.size, 1, none⟩) (by simp) _).setCell (p := ⟨W.heap.size, 2, none⟩) (by simp) _⟩
    · have hkI0 : ¬ (k : Int) < (t.size : Int) := by omega
      have E0 : brP t = k := by
        have h1 := HK.out
        have h2 := (List.takeWhile_prefix (p := notBr) (l := t.data.toList)).length_le
        rw [size_toList] at h2
        unfold brP
        omega
      have HZ2 := HZ.out
      rw [E0] at HZ2
      have hkI : (k : Int) ≤ (t.size : Int) := by omega
      have RP := fun w => refParse_any (t.extract 0 k) (by rw [ByteArray.size_extract]; omega) w
      have hpl := fun x (h : parseL (t.extract k t.size) = some x) => parseL_le h
      obtain ⟨o, ho⟩ : ∃ o, parseZ (t.extract 0 k) = o := ⟨_, rfl⟩
      simp only [ho] at RP
      rw [ho] at HZ2
      replace RP := Lib.hid RP
      have HZ3 := Lib.hid HZ2
      have HPL := Lib.hid hpl
      clear ho HZ2 E0 hpl
      go_wp2_with fail
      refine (RP.out _).mono ?_
      rintro e w2 ⟨rfl, hx⟩
      have B2 := HB1.out.below hx HB1.out.lt
      have hb2 := hop Hb1.out h0 hx
      have q0 : w2.cell? ⟨W.heap.size, 0, none⟩ = some (.int .i64 0) := (B2.cell 0).trans rfl
      have q1 : w2.cell? ⟨W.heap.size, 1, none⟩ = some (.slice none 0 0) := (B2.cell 1).trans rfl
      have q2 : w2.cell? ⟨W.heap.size, 2, none⟩ = some (.string ⟨#[]⟩) := (B2.cell 2).trans rfl
      have f0 := B2.frozen 0
      have f1 := B2.frozen 1
      have f2 := B2.frozen 2
      have HB2 := Lib.hid B2
      have Hb2 := Lib.hid hb2
      clear hx B2 hb2 RP
      cases o with
      | none =>
        have E := Lib.hid (show Z = none from HZ3.out.symm)
        simp only [Option.getD_none, Option.isSome_none]
        go_wp2
        refine bodyPost_ret (results_row_tmp2 rfl _ _ W.heap.size 43 _ (0, 0) _ rfl (((HB2.out.set_ 0 (.int .i64 0)).set_ 1 (.slice none 0 0)).set_ 2 (.string ⟨#[]⟩)) HU.out rfl (by kernel_rfl)) rfl ?_
        rw [E.out]
        exact ⟨xnil, rfl, rfl, ⟨pairs_none _, fun h => absurd h (by decide)⟩, ((Hb2.out.setCell (p := ⟨W.heap.size, 0, none⟩) (by simp) _).setCell (p := ⟨W.heap.size, 1, none⟩) (by simp) _).setCell (p := ⟨W.heap.size, 2, none⟩) (by simp) _⟩
      | some v =>
        have HZ4 := Lib.hid (show restQ t k v (parseL (t.extract k t.size)) = Z from HZ3.out)
        have RL := fun w => refParseL_any (t.extract k t.size) (by rw [ByteArray.size_extract]; omega) w
        rw [parseQ_is] at RL
        obtain ⟨s, hs1⟩ : ∃ s, parseL (t.extract k t.size) = s := ⟨_, rfl⟩
        simp only [hs1] at RL
        replace HZ4 := HZ4.out
        replace HPL := HPL.out
        simp only [hs1] at HPL
        rw [hs1] at HZ4
        replace HPL := Lib.hid HPL
        replace HZ4 := Lib.hid HZ4
        replace RL := Lib.hid RL
        simp only [Option.getD_some, Option.isSome_some]
        clear hs1 HZ3
        go_wp2_with fail
        refine (RL.out _).mono ?_
        rintro e w3 ⟨vv, rfl, hown, hx⟩
        have B3 := HB2.out.below hx HB2.out.lt
        have hb3 := hop Hb2.out h0 hx
        have hl3 : W.heap.size < w2.heap.size := HB2.out.lt
        have q0 : w3.cell? ⟨W.heap.size, 0, none⟩ = some (.int .i64 0) := (B3.cell 0).trans rfl
        have q1 : w3.cell? ⟨W.heap.size, 1, none⟩ = some (.slice none 0 0) := (B3.cell 1).trans rfl
        have q2 : w3.cell? ⟨W.heap.size, 2, none⟩ = some (.string ⟨#[]⟩) := (B3.cell 2).trans rfl
        have f0 := B3.frozen 0
        have f1 := B3.frozen 1
        have f2 := B3.frozen 2
        have HB3 := Lib.hid B3
        have Hb3 := Lib.hid hb3
        clear hx B3 hb3 RL
        cases s with
        | none =>
          have E := Lib.hid (show Z = none from HZ4.out.symm)
          obtain ⟨A2, c2, rfl, _, _, _⟩ := OwnQ.pairs hown
          simp only [parseV, Option.map_none, Option.getD_none, Option.isSome_none]
          go_wp2
          refine bodyPost_ret (results_row_tmp2 rfl _ _ W.heap.size 43 _ (0, 0) _ rfl (((HB3.out.set_ 0 (.int .i64 0)).set_ 1 (.slice none 0 0)).set_ 2 (.string ⟨#[]⟩)) HU.out rfl (by kernel_rfl)) rfl ?_
          rw [E.out]
          exact ⟨xnil, rfl, rfl, ⟨pairs_none _, fun h => absurd h (by decide)⟩, ((Hb3.out.setCell (p := ⟨W.heap.size, 0, none⟩) (by simp) _).setCell (p := ⟨W.heap.size, 1, none⟩) (by simp) _).setCell (p := ⟨W.heap.size, 2, none⟩) (by simp) _⟩
        | some x =>
          obtain ⟨ps, n⟩ := x
          have hnl := HPL.out _ rfl
          rw [ByteArray.size_extract] at hnl
          dsimp only at hnl
          have hkn : k + n ≤ t.size := by omega
          have hknI : (k : Int) + (n : Int) ≤ (t.size : Int) := by omega
          have hw1 : IntKind.i64.wrap ((k : Int) + (n : Int)) = ((k + n : Nat) : Int) := by rw [IntKind.wrap_i64]; omega
          have hkn2 : ((k + n : Nat) : Int) ≤ (t.size : Int) := by omega
          have HOW := Lib.hid hown
          have HZ5 := Lib.hid (show lineQ t v ps (k + n) = Z from HZ4.out)
          have RG := fun w => refGet_any (t.extract (k + n) t.size) (by rw [ByteArray.size_extract]; omega) w
          have eq0 : getR (t.extract (k + n) t.size).data.toList = quoR t (k + n) := rfl
          simp only [eq0] at RG
          have hql := quoR_le t (k + n) hkn
          obtain ⟨⟨l, m, ok⟩, hq⟩ : ∃ z, quoR t (k + n) = z := ⟨_, rfl⟩
          simp only [hq] at RG
          rw [hq] at hql
          dsimp only at hql
          have HZ6 := HZ5.out
          unfold lineQ at HZ6
          rw [hq] at HZ6
          dsimp only at HZ6
          have etx : (⟨l.toArray⟩ : ByteArray) = tx l := rfl
          have els := tx_size l
          simp only [etx] at RG
          obtain ⟨ln, hln⟩ : ∃ x, tx l = x := ⟨_, rfl⟩
          simp only [hln] at RG
          rw [hln] at HZ6 els
          rw [← els] at HZ6
          replace RG := Lib.hid RG
          have HZ7 := Lib.hid HZ6
          obtain ⟨A2, c2, rfl, _, _, _⟩ := OwnQ.pairs hown
          obtain ⟨n2, hn2⟩ : ∃ n, ps.length = n := ⟨_, rfl⟩
          replace HOW : OwnQ w3 w2.heap.size (.slice A2 ps.length c2) ps := HOW.out
          rw [hn2] at HOW
          rw [show (parsedL (some (ps, n))).length = ps.length from rfl, hn2]
          replace HOW := Lib.hid HOW
          simp only [parseV, Option.map_some, Option.getD_some, Option.isSome_some]
          clear hown eq0 hq etx els hln HZ6 HZ5 HZ4 HPL hnl hn2
          go_wp2_with fail
          refine (RG.out _).mono ?_
          rintro e w4 ⟨rfl, hx⟩
          have B4 := HB3.out.below hx HB3.out.lt
          have hb4 := hop Hb3.out h0 hx
          have HO4 := Lib.hid (OwnR.below HOW.out hx)
          have q0 : w4.cell? ⟨W.heap.size, 0, none⟩ = some (.int .i64 0) := (B4.cell 0).trans rfl
          have q1 : w4.cell? ⟨W.heap.size, 1, none⟩ = some (.slice none 0 0) := (B4.cell 1).trans rfl
          have q2 : w4.cell? ⟨W.heap.size, 2, none⟩ = some (.string ⟨#[]⟩) := (B4.cell 2).trans rfl
          have f0 := B4.frozen 0
          have f1 := B4.frozen 1
          have f2 := B4.frozen 2
          have HB4 := Lib.hid B4
          have Hb4 := Lib.hid hb4
          clear hx B4 hb4 RG HOW
          cases ok with
          | false =>
            have E := Lib.hid (show Z = none from by have := HZ7.out; rw [if_neg (by decide)] at this; exact this.symm)
            go_wp2
            refine bodyPost_ret (results_row_tmp2 rfl _ _ W.heap.size 43 _ (0, 0) _ rfl (((HB4.out.set_ 0 (.int .i64 0)).set_ 1 (.slice none 0 0)).set_ 2 (.string ⟨#[]⟩)) HU.out rfl (by kernel_rfl)) rfl ?_
            rw [E.out]
            exact ⟨xnil, rfl, rfl, ⟨pairs_none _, fun h => absurd h (by decide)⟩, ((Hb4.out.setCell (p := ⟨W.heap.size, 0, none⟩) (by simp) _).setCell (p := ⟨W.heap.size, 1, none⟩) (by simp) _).setCell (p := ⟨W.heap.size, 2, none⟩) (by simp) _⟩
          | true =>
            by_cases h256 : ln.size ≤ 256
            · have E := Lib.hid (show Z = some (⟨v, ps, ln⟩, k + n + m) from by have := HZ7.out; rw [if_pos rfl, if_pos h256] at this; exact this.symm)
              have g1 : ¬ (256 : Int) < (ln.size : Int) := by omega
              have g2 : ¬ 256 < ln.size := by omega
              have hw2 : IntKind.i64.wrap (((k + n : Nat) : Int) + (m : Int)) = ((k + n + m : Nat) : Int) := by rw [IntKind.wrap_i64]; omega
              have hw3 : IntKind.i64.wrap ((k : Int) + (n : Int) + (m : Int)) = ((k + n + m : Nat) : Int) := by rw [IntKind.wrap_i64]; omega
              clear h256
              go_wp2
              refine bodyPost_ret (results_row_tmp2 rfl _ _ W.heap.size 43 _ (0, 0) _ rfl (((HB4.out.set_ 0 (.int .i64 v)).set_ 1 (.slice A2 n2 c2)).set_ 2 (.string ln)) HU.out rfl (by kernel_rfl)) rfl ?_
              rw [E.out]
              refine ⟨⟨v, A2, n2, c2, ps, ln⟩, rfl, rfl, ?_, ((Hb4.out.setCell (p := ⟨W.heap.size, 0, none⟩) (by simp) _).setCell (p := ⟨W.heap.size, 1, none⟩) (by simp) _).setCell (p := ⟨W.heap.size, 2, none⟩) (by simp) _⟩
              have gr : ∀ (w : World) (i : Nat) (u : Value), w.grownBy (w.setCell ⟨W.heap.size, i, none⟩ u) (some W.heap.size) := fun w i u => ⟨rfl, rfl, rfl, by simp, fun k hk hne => Below.heap_setCell w ⟨W.heap.size, i, none⟩ u k (fun e => hne (by rw [e]))⟩
              have hlt : ∀ b, some W.heap.size = some b → b < w2.heap.size := fun b hb => by injection hb with hb; omega
              have ho := ((OwnR.kept (OwnR.kept (OwnR.kept HO4.out (gr _ 0 (.int .i64 v)) hlt) (gr _ 1 (.slice A2 n2 c2)) hlt) (gr _ 2 (.string ln)) hlt))
              exact goodQ_own ho
            · have E := Lib.hid (show Z = none from by have := HZ7.out; rw [if_pos rfl, if_neg h256] at this; exact this.symm)
              have g1 : (256 : Int) < (ln.size : Int) := by omega
              have g2 : 256 < ln.size := by omega
              clear h256
              go_wp2
              refine bodyPost_ret (results_row_tmp2 rfl _ _ W.heap.size 43 _ (0, 0) _ rfl (((HB4.out.set_ 0 (.int .i64 0)).set_ 1 (.slice none 0 0)).set_ 2 (.string ⟨#[]⟩)) HU.out rfl (by kernel_rfl)) rfl ?_
              rw [E.out]
              exact ⟨xnil, rfl, rfl, ⟨pairs_none _, fun h => absurd h (by decide)⟩, ((Hb4.out.setCell (p := ⟨W.heap.size, 0, none⟩) (by simp) _).setCell (p := ⟨W.heap.size, 1, none⟩) (by simp) _).setCell (p := ⟨W.heap.size, 2, none⟩) (by simp) _⟩
end Go.Proofs.YtfamcebgcpaolaaGreatDoor
