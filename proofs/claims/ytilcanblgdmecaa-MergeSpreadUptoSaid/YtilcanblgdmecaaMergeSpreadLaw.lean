/- However entries are spread over lists, and in whatever order the lists stand, they are merged to the same: the walk of MergeSpread. -/
import Derived.Test.YtilcanblgdmecaaMergeAgainLaw
import Derived.Deep.AppendLies
namespace Go.Proofs.Ytilcanblgdmecaa
open Go.RowKit
set_option linter.unusedVariables false
set_option linter.unusedSimpArgs false

/-- three slices of entries that the call owns, in a row at g -/
structure Lists3 (w : World) (g : Nat) (v : Nat → Value) (X : Nat → List EntX) : Prop where
  blk : ∃ cs, Blk w g 59 cs ∧ cs.size = 3 ∧ ∀ k, k < 3 → cs[k]? = some (v k)
  own : ∀ k, k < 3 → OwnR EntX.V 3 w (g + 1) 26 (v k) (X k)
  apart : ∀ i k, i < 3 → k < 3 → i ≠ k → ApartV (v i) (v k)
def updV {α : Type} (v : Nat → α) (k : Nat) (x : α) : Nat → α := fun i => if i = k then x else v i
theorem updV_same {α : Type} (v : Nat → α) (k : Nat) (x : α) : updV v k x k = x := by unfold updV; rw [if_pos rfl]
theorem updV_other {α : Type} (v : Nat → α) {k i : Nat} (x : α) (h : i ≠ k) : updV v k x i = v i := by unfold updV; rw [if_neg h]
theorem Lists3.below {w w' : World} {g : Nat} {v : Nat → Value} {X : Nat → List EntX} (h : Lists3 w g v X) (hb : Below w.heap.size w w') : Lists3 w' g v X := by
  obtain ⟨cs, h1, h2⟩ := h.blk
  exact ⟨⟨cs, h1.below hb h1.lt, h2⟩, fun k hk => (h.own k hk).below hb, h.apart⟩
theorem Lists3.cell {w : World} {g : Nat} {v : Nat → Value} {X : Nat → List EntX} (h : Lists3 w g v X) (k : Nat) (hk : k < 3) : w.cell? ⟨g, k, none⟩ = some (v k) := by
  obtain ⟨cs, h1, h2, h3⟩ := h.blk
  exact (h1.cell k).trans (h3 k hk)
theorem Lists3.lt {w : World} {g : Nat} {v : Nat → Value} {X : Nat → List EntX} (h : Lists3 w g v X) : g < w.heap.size := by
  obtain ⟨cs, h1, _⟩ := h.blk
  exact h1.lt
theorem Lists3.grown {w w' : World} {g k : Nat} {v : Nat → Value} {X : Nat → List EntX} (h : Lists3 w g v X) (hk : k < 3) (hg : w.grownBy w' (v k).ownBlock) : ∃ cs, Blk w' g 59 cs ∧ cs.size = 3 ∧ ∀ k, k < 3 → cs[k]? = some (v k) := by
  obtain ⟨cs, h1, h2⟩ := h.blk
  exact ⟨cs, (hg.block g h1.lt (fun e => by have := (World.ownsRow.lt (h.own k hk) g e.symm).1; omega)).trans h1, h2⟩
theorem Lists3.put {w w' : World} {g k gn : Nat} {v : Nat → Value} {X : Nat → List EntX} {nv : Value} {y : EntX} (h : Lists3 w g v X) (hk : k < 3) (hrow : OwnR EntX.V 3 w' (g + 1) 26 nv (X k ++ [y])) (hg : w.grownBy w' (v k).ownBlock) (hno : nv.ownBlock = some gn) (hn : (v k).ownBlock = some gn ∨ gn = w.heap.size) :
    Lists3 (w'.setCell ⟨g, k, none⟩ nv) g (updV v k nv) (updV X k (X k ++ [y])) := by
  obtain ⟨cs, b1, b2, b3⟩ := h.grown hk hg
  have far : ∀ i, ∀ (hi : i < 3) {u : Value} {Y : List EntX}, OwnR EntX.V 3 w' (g + 1) 26 u Y → OwnR EntX.V 3 (w'.setCell ⟨g, k, none⟩ nv) (g + 1) 26 u Y := fun i hi u Y ho => by
    refine ⟨ho.1, ?_⟩
    rcases ho.2 with h0 | ⟨g2, cap, cur, hv, hbg, hh, x⟩
    · exact .inl h0
    · exact .inr ⟨g2, cap, cur, hv, hbg, (Below.heap_setCell _ _ _ g2 (show g2 ≠ g by omega)).trans hh, x⟩
  refine ⟨⟨_, b1.set_ k nv, by rw [Array.size_setIfInBounds]; exact b2, fun i hi => ?_⟩, fun i hi => ?_, fun i j hi hj hij => ?_⟩
  · rw [set_at _ _ _ _ (by omega)]
    by_cases e : i = k
    · subst e
      rw [if_pos rfl, updV_same]
    · rw [if_neg e, updV_other _ _ e]
      exact b3 i hi
  · by_cases e : i = k
    · subst e
      rw [updV_same, updV_same]
      exact far i hi hrow
    · rw [updV_other _ _ e, updV_other _ _ e]
      refine far i hi ?_
      have ho := h.own i hi
      refine ⟨ho.1, ?_⟩
      rcases ho.2 with h0 | ⟨g2, cap, cur, hv, hbg, hh, x⟩
      · exact .inl h0
      · exact .inr ⟨g2, cap, cur, hv, hbg, (hg.block g2 (lt_of_block hh) (fun e2 => h.apart k i hk hi (Ne.symm e) g2 e2.symm (by rw [hv]; rfl))).trans hh, x⟩
  · by_cases e : i = k
    · subst e
      rw [updV_same, updV_other _ _ (Ne.symm hij)]
      intro b hb hb2
      rw [hno] at hb
      injection hb with hb
      subst hb
      rcases hn with hn | hn
      · exact h.apart i j hi hj hij _ hn hb2
      · have := (World.ownsRow.lt (h.own j hj) _ hb2).2
        omega
    · by_cases e2 : j = k
      · subst e2
        rw [updV_same, updV_other _ _ e]
        intro b hb hb2
        rw [hno] at hb2
        injection hb2 with hb2
        subst hb2
        rcases hn with hn | hn
        · exact h.apart i j hi hj hij _ hb hn
        · have := (World.ownsRow.lt (h.own i hi) _ hb).2
          omega
      · rw [updV_other _ _ e, updV_other _ _ e2]
        exact h.apart i j hi hj hij
/-- what lies in the three lists of the first so many -/
structure Spread (L : List EntX) (j : Nat) (X : Nat → List EntX) : Prop where
  sub : ∀ k, k < 3 → (X k).Sublist (L.take j)
  all : ∀ e ∈ L.take j, ∃ k, k < 3 ∧ e ∈ X k
theorem Spread.new (L : List EntX) : Spread L 0 (fun _ => []) := ⟨fun k _ => List.nil_sublist _, fun e he => by rw [List.take_zero] at he; exact absurd he List.not_mem_nil⟩
/-- one more into the k-th list; the others may have it already -/
theorem sub_put {L : List EntX} {j k : Nat} {X : Nat → List EntX} {y : EntX} (h : ∀ i, i < 3 → (X i).Sublist (L.take (j + 1))) (hk : (X k).Sublist (L.take j)) (hy : L[j]? = some y) : ∀ i, i < 3 → (updV X k (X k ++ [y]) i).Sublist (L.take (j + 1)) := by
  intro i hi
  by_cases e : i = k
  · subst e
    rw [updV_same]
    have hj := (List.getElem?_eq_some_iff.1 hy).1
    rw [List.take_succ_eq_append_getElem hj, (List.getElem?_eq_some_iff.1 hy).2]
    exact hk.append_right _
  · rw [updV_other _ _ e]
    exact h i hi
theorem Spread.up {L : List EntX} {j : Nat} {X : Nat → List EntX} (h : Spread L j X) : ∀ i, i < 3 → (X i).Sublist (L.take (j + 1)) := fun i hi => (h.sub i hi).trans (List.take_sublist_take_left (Nat.le_succ j))
theorem Spread.put {L : List EntX} {j k : Nat} {X : Nat → List EntX} {y : EntX} (h : Spread L j X) (hk : k < 3) (hy : L[j]? = some y) : Spread L (j + 1) (updV X k (X k ++ [y])) := by
  refine ⟨sub_put h.up (h.sub k hk) hy, fun e he => ?_⟩
  have hj := (List.getElem?_eq_some_iff.1 hy).1
  rw [List.take_succ_eq_append_getElem hj, (List.getElem?_eq_some_iff.1 hy).2] at he
  rcases List.mem_append.1 he with he | he
  · obtain ⟨i, hi, hx⟩ := h.all e he
    refine ⟨i, hi, ?_⟩
    by_cases e2 : i = k
    · subst e2
      rw [updV_same]
      exact List.mem_append_left _ hx
    · rw [updV_other _ _ e2]
      exact hx
  · refine ⟨k, hk, ?_⟩
    rw [updV_same]
    exact List.mem_append_right _ he
theorem Spread.put2 {L : List EntX} {j k m : Nat} {X : Nat → List EntX} {y : EntX} (h : Spread L j X) (hk : k < 3) (hm : m < 3) (hkm : m ≠ k) (hy : L[j]? = some y) : Spread L (j + 1) (updV (updV X k (X k ++ [y])) m (updV X k (X k ++ [y]) m ++ [y])) := by
  have h1 := h.put hk hy
  refine ⟨sub_put h1.sub (by rw [updV_other _ _ hkm]; exact h.sub m hm) hy, fun e he => ?_⟩
  obtain ⟨i, hi, hx⟩ := h1.all e he
  refine ⟨i, hi, ?_⟩
  by_cases e2 : i = m
  · subst e2
    rw [updV_same]
    exact List.mem_append_left _ hx
  · rw [updV_other _ _ e2]
    exact hx

theorem strict_at {asc : Bool} {L : List EntX} (h : StrictB asc (L.map EntX.b)) {i : Nat} {u x : EntX} (hu : L[i]? = some u) (hx : L[i + 1]? = some x) : aheadB u.b x.b asc = true := by
  unfold StrictB at h
  rw [List.pairwise_map] at h
  obtain ⟨h1, rfl⟩ := List.getElem?_eq_some_iff.1 hu
  obtain ⟨h2, rfl⟩ := List.getElem?_eq_some_iff.1 hx
  exact List.pairwise_iff_getElem.1 h i (i + 1) h1 h2 (Nat.lt_succ_self i)
theorem bdu8s {x : Int} (h : (Lit.int .u8 x).wf = true) : 0 ≤ x ∧ x ≤ 255 := by
  simpa [Lit.wf, IntKind.min, IntKind.max, IntKind.signed, IntKind.bits] using h
set_option maxRecDepth 100000 in
set_option maxHeartbeats 3200000 in
theorem mergeSpread_walk {W : World} (AX : Option Addr) (nX cX : Nat) (lX : List ItemX) (AW : Option Addr) (nW cW : Nat) (zs : List Int) (asc : Bool) (hX : ItemsP W.heap.size W AX nX lX) (ulX : sumN (lX.map itemK) ≤ 1048576) (hncX : nX ≤ cX) (hcmX : cX ≤ maxLen)
    (hW : Ints .u8 W AW nW zs) (hnW : nW ≤ 1048576) (hcW : nW ≤ cW) :
    Calls Try.prog 4 #[.slice AX nX cX, .slice AW nW cW, .bool asc] W fun e w' => e = .returned (.bool true) ∧ Below W.heap.size W w' := by
  have h0 : W.heap.size ≤ W.heap.size := Nat.le_refl _
  obtain ⟨i0, hi, hz0, hz1, hz2⟩ := info_parts infoEnt
  have HX := Lib.hid (mergeExamples_any W)
  have IW := Lib.hid hW
  have ITX := Lib.hid (fun w (h : Below W.heap.size W w) => items_any W.heap.size AX nX cX 12 lX (by unfold maxLen at hcmX; omega) (by decide) w h.size (hX.below h))
  have GIX := Lib.hid (And.intro hX.2 ulX)
  clear hX ulX hncX hcmX hW hcW
  go_enter Try.func4, Try.ntmps4
  go_wp2_with fail
  refine HX.out.mono ?_
  rintro e w1 ⟨rfl, hx⟩
  have HB := Lib.hid hx
  clear hx HX
  go_wp2_with fail
  refine (ITX.out _ HB.out).mono ?_
  rintro e w2 ⟨vu, Lu, rfl, ho, hL, hx⟩
  have hlen : Lu.length ≤ 12 := by
    have h3 := congrArg List.length hL
    rw [List.length_map] at h3
    have := itemsB_len lX 12
    omega
  have Nu := Lib.hid (items_n GIX.out.1 GIX.out.2 hL ho.2)
  replace HB := Lib.hid (hop HB.out (Nat.le_refl _) hx)
  have hcap := ho.1
  obtain ⟨Au, cu, rfl, _, _, hE⟩ := ho.ents
  have Eu := Lib.hid hE
  have Cu := Lib.hid (OwnR.cap hcap)
  have Mu := Lib.hid hlen
  clear ho hL hx hE hcap
  have SO := Lib.hid (sorted_any W.heap.size Au cu Lu asc (by have := Mu.out; omega) Nu.out w2 HB.out.size Eu.out)
  go_wp2_with fail
  refine SO.out.mono ?_
  rintro e w3 ⟨va, La, rfl, ho, hs, hlen, hn, hx⟩
  have Na := Lib.hid hn
  have Sa := Lib.hid hs
  clear Eu
  replace HB := Lib.hid (hop HB.out (Nat.le_refl _) hx)
  have hcap := ho.1
  obtain ⟨Aa, ca, rfl, _, _, hE⟩ := ho.ents
  have Ca := Lib.hid (OwnR.cap hcap)
  have Ma := Lib.hid (show La.length ≤ 12 by rw [hlen]; exact Mu.out)
  obtain ⟨na, hnk⟩ : ∃ n, La.length = n := ⟨_, rfl⟩
  have HLa := Lib.hid hnk
  rw [hnk] at hE Ca Ma ⊢
  have Ea := Lib.hid hE
  clear ho hs hlen hn hx hE hcap hnk SO Cu Nu Mu
  have hna : na ≤ 12 := Ma.out
  obtain ⟨g9, hg9⟩ : ∃ g, w3.heap.size = g := ⟨_, rfl⟩
  obtain ⟨wl, hwl⟩ : ∃ z, w3.alloc (.cells #[.slice none 0 0, .slice none 0 0, .slice none 0 0] 59) = z := ⟨_, rfl⟩
  have L0 : Lists3 wl g9 (fun _ => .slice none 0 0) (fun _ => []) := by
    have hb : Blk wl g9 59 #[.slice none 0 0, .slice none 0 0, .slice none 0 0] := by rw [← hwl, ← hg9]; exact Blk.new _ _ _
    refine ⟨⟨_, hb, rfl, fun k hk => ?_⟩, fun k hk => OwnR.nil _ _ _, fun i k hi hk hik b hb2 => by cases hb2⟩
    match k, hk with
    | 0, _ => rfl
    | 1, _ => rfl
    | 2, _ => rfl
  have HL0 := Lib.hid L0
  have HBl := Lib.hid (show Below w3.heap.size w3 wl by rw [← hwl]; exact (Below.refl _ _).alloc (Nat.le_refl _) _)
  have HG9 := Lib.hid hg9
  clear L0
  go_wp2
  clear hwl hg9
  go_loopw [10] (fun iv wr => ∃ (j : Nat) (v : Nat → Value) (X : Nat → List EntX), j ≤ na ∧ iv = .int .i64 (j : Int) ∧ Hid (Lists3 wr g9 v X) ∧ Hid (Spread La j X) ∧ Below w3.heap.size w3 wr) (fun iv _ => na - (intOf iv).toNat)
  case atStart => exact ⟨0, _, _, Nat.zero_le _, rfl, HL0, Lib.hid (Spread.new La), HBl.out⟩
  case round =>
    obtain ⟨j, v, X, hjn, rfl, HLS, HSP, hb⟩ := hrel
    by_cases hj : j < na
    · have hjI : (j : Int) < (na : Int) := by omega
      have hsize := hb.size
      have hg9w : g9 < wr.heap.size := HLS.out.lt
      obtain ⟨b1, o1, hA, hlt1, hc⟩ := Ea.out.at_ (by omega)
      obtain ⟨y1, y2, y3, gy⟩ := hc j hj
      have yq : La[j]? = some (La.getD j xnil) := by
        have := HLa.out
        rw [List.getD_eq_getElem?_getD, List.getElem?_eq_getElem (by omega)]
        rfl
      obtain ⟨y, hy⟩ : ∃ y, La.getD j xnil = y := ⟨_, rfl⟩
      rw [hy] at y1 y2 y3 yq
      subst hA
      have HYQ := Lib.hid yq
      clear hc gy hy yq
      have HS := Lib.hid (fun (wa wb : World) (hS : Below w3.heap.size w3 wa ∧ wa.cell? ⟨b1, o1 + j * 3, none⟩ = some (.int .i64 y.ts) ∧ wa.cell? ⟨b1, o1 + j * 3 + 1, none⟩ = some (.slice y.A y.n y.c) ∧ wa.cell? ⟨b1, o1 + j * 3 + 2, none⟩ = some (.string y.ln)) (h : Below wa.heap.size wa wb) => show Below w3.heap.size w3 wb ∧ wb.cell? ⟨b1, o1 + j * 3, none⟩ = some (.int .i64 y.ts) ∧ wb.cell? ⟨b1, o1 + j * 3 + 1, none⟩ = some (.slice y.A y.n y.c) ∧ wb.cell? ⟨b1, o1 + j * 3 + 2, none⟩ = some (.string y.ln) from by
        have hb7 := hop hS.1 (Nat.le_refl _) h
        exact ⟨hb7, (hb7.cell (p := ⟨b1, o1 + j * 3, none⟩) hlt1).trans y1, (hb7.cell (p := ⟨b1, o1 + j * 3 + 1, none⟩) hlt1).trans y2, (hb7.cell (p := ⟨b1, o1 + j * 3 + 2, none⟩) hlt1).trans y3⟩)
      have HLN := Lib.hid (show ∀ k, k < 3 → (X k).length ≤ 12 from fun k hk => by
        have h1 := (HSP.out.sub k hk).length_le
        rw [List.length_take] at h1
        omega)
      have HHB := Lib.hid hb
      clear hb
      by_cases hjw : j < nW
      · have hjwI : (j : Int) < (nW : Int) := by omega
        obtain ⟨bw, ow, hAw, hltw, hcw⟩ := (IW.out.below (hop HB.out (Nat.le_refl _) HHB.out)).2.2 (by have := IW.out.1; omega)
        have hzj := hcw j (by have := IW.out.1; omega)
        subst hAw
        have hzm : zs.getD j 0 ∈ zs := by
          have := IW.out.1
          rw [List.getD_eq_getElem?_getD, List.getElem?_eq_getElem (by omega)]
          exact List.getElem_mem _
        obtain ⟨z, hz⟩ : ∃ z, zs.getD j 0 = z := ⟨_, rfl⟩
        rw [hz] at hzj hzm
        obtain ⟨z0, z1⟩ := bdu8s (IW.out.2.1 z hzm)
        obtain ⟨q, hq⟩ : ∃ q : Nat, z.tmod 4 = (q : Int) := ⟨(z.tmod 4).toNat, by rw [Int.tmod_eq_emod_of_nonneg z0]; omega⟩
        have hq4 : q < 4 := by rw [Int.tmod_eq_emod_of_nonneg z0] at hq; omega
        have qw1 : IntKind.u8.wrap (z.tmod 4) = (q : Int) := by rw [hq, IntKind.wrap_u8]; omega
        have qw2 : IntKind.i64.wrap (q : Int) = (q : Int) := by rw [IntKind.wrap_i64]; omega
        have qw4 : IntKind.u8.wrap (q : Int) = (q : Int) := by rw [IntKind.wrap_u8]; omega
        clear hcw hz hzm
        rcases (by omega : q = 3 ∨ q < 3) with hq3 | hq3
        · obtain rfl : q = 3 := hq3
          go_wp2
          have LS1 : Lists3 wr.drew g9 (v) (X) := (HLS.out).below (below_drewN (Below.refl _ _) 1 : Below wr.heap.size wr wr.drew)
          have hd0 : Below w3.heap.size w3 wr.drew := below_drewN HHB.out 1
          have S0 : Below w3.heap.size w3 wr.drew ∧ wr.drew.cell? ⟨b1, o1 + j * 3, none⟩ = some (.int .i64 y.ts) ∧ wr.drew.cell? ⟨b1, o1 + j * 3 + 1, none⟩ = some (.slice y.A y.n y.c) ∧ wr.drew.cell? ⟨b1, o1 + j * 3 + 2, none⟩ = some (.string y.ln) := ⟨hd0, (hd0.cell (p := ⟨b1, o1 + j * 3, none⟩) hlt1).trans y1, (hd0.cell (p := ⟨b1, o1 + j * 3 + 1, none⟩) hlt1).trans y2, (hd0.cell (p := ⟨b1, o1 + j * 3 + 2, none⟩) hlt1).trans y3⟩
          clear hd0
          go_wp2
          refine wp_region_held_drew (S := fun w' => Below w3.heap.size w3 w' ∧ w'.cell? ⟨b1, o1 + j * 3, none⟩ = some (.int .i64 y.ts) ∧ w'.cell? ⟨b1, o1 + j * 3 + 1, none⟩ = some (.slice y.A y.n y.c) ∧ w'.cell? ⟨b1, o1 + j * 3 + 2, none⟩ = some (.string y.ln)) (by kernel_rfl) S0 (fun hHeld => ?_)
          obtain ⟨wd1, hwd1⟩ : ∃ z, wr.drew = z := ⟨_, rfl⟩
          rw [hwd1] at LS1 S0 ⊢
          clear hwd1 hHeld
          refine wpAnyH_take (i := 0) (oi := { dst := some 47, op := Go.Op.indexAddr 59 (Go.Operand.tmp 9) (Go.Operand.const (Go.Value.int Go.IntKind.i64 0)), type := 0, pos := "keeps.go:22", after := #[], guard := none }) (v := ?_) rfl (by kernel_rfl) (by kernel_rfl) (by kernel_rfl) (fun _ _ _ h => h) (Or.inl ⟨by kernel_rfl, ?_⟩) (by assumption) ?_
          rotate_left
          · intro w _
            first | (go_simp; done) | (go_simp; with_reducible rfl)
          try simp only [Act.put, List.setIfInBounds_toArray, List.set_cons_zero, List.set_cons_succ]
          refine wpAnyH_take (i := 2) (oi := { dst := some 49, op := Go.Op.move (Go.Operand.tmp 8), type := 34, pos := "keeps.go:22", after := #[], guard := none }) (v := ?_) rfl (by kernel_rfl) (by kernel_rfl) (by kernel_rfl) (fun _ _ _ h => h) (Or.inl ⟨by kernel_rfl, ?_⟩) (by assumption) ?_
          rotate_left
          · intro w _
            first | (go_simp; done) | (go_simp; with_reducible rfl)
          try simp only [Act.put, List.setIfInBounds_toArray, List.set_cons_zero, List.set_cons_succ]
          refine wpAnyH_take (i := 3) (oi := { dst := some 50, op := Go.Op.move (Go.Operand.tmp 10), type := 3, pos := "keeps.go:22", after := #[], guard := none }) (v := ?_) rfl (by kernel_rfl) (by kernel_rfl) (by kernel_rfl) (fun _ _ _ h => h) (Or.inl ⟨by kernel_rfl, ?_⟩) (by assumption) ?_
          rotate_left
          · intro w _
            first | (go_simp; done) | (go_simp; with_reducible rfl)
          try simp only [Act.put, List.setIfInBounds_toArray, List.set_cons_zero, List.set_cons_succ]
          refine wpAnyH_take (i := 4) (oi := { dst := some 51, op := Go.Op.indexAddr 34 (Go.Operand.tmp 49) (Go.Operand.tmp 50), type := 0, pos := "keeps.go:22", after := #[{ on := 2, ground := Go.Ground.data }, { on := 3, ground := Go.Ground.data }], guard := none }) (v := ?_) rfl (by kernel_rfl) (by kernel_rfl) (by kernel_rfl) (fun _ _ _ h => h) (Or.inl ⟨by kernel_rfl, ?_⟩) (by assumption) ?_
          rotate_left
          · intro w _
            first | (go_simp; done) | (go_simp; with_reducible rfl)
          try simp only [Act.put, List.setIfInBounds_toArray, List.set_cons_zero, List.set_cons_succ]
          refine wpAnyH_take (i := 5) (oi := { dst := some 52, op := Go.Op.load 26 (Go.Operand.tmp 51), type := 26, pos := "keeps.go:22", after := #[{ on := 4, ground := Go.Ground.data }], guard := none }) (v := ?_) rfl (by kernel_rfl) (by kernel_rfl) (by kernel_rfl) (fun _ _ _ h => h) (Or.inl ⟨by kernel_rfl, ?_⟩) (by assumption) ?_
          rotate_left
          · intro w hSw
            (try dsimp only at hSw)
            go_split_ands
            first | (go_simp; done) | (go_simp; with_reducible rfl)
          try simp only [Act.put, List.setIfInBounds_toArray, List.set_cons_zero, List.set_cons_succ]
          refine wpAnyH_ready (rs := [1, 6]) (by kernel_rfl) (by simp) ?_
          refine AllReadyH.cons (o := { dst := some 48, op := Go.Op.load 34 (Go.Operand.tmp 47), type := 34, pos := "keeps.go:22", after := #[{ on := 0, ground := Go.Ground.data }], guard := none }) rfl (fun K hK => ?_) ?_
          ·
            have c0 : wd1.cell? ⟨g9, 0, none⟩ = some (v 0) := LS1.cell 0 (by decide)
            go_simp
            clear c0
            refine hK.out _ _ (by assumption) (fun _ => ?_)
            clear hK K
            try simp only [Act.put, List.setIfInBounds_toArray, List.set_cons_zero, List.set_cons_succ]
            refine wpAnyH_ready (rs := [6]) (by kernel_rfl) (by simp) ?_
            refine AllReadyH.cons (o := { dst := some 53, op := Go.Op.buildSlice 34 1 #[(0, Go.Operand.tmp 52)], type := 34, pos := "keeps.go:22", after := #[{ on := 5, ground := Go.Ground.data }], guard := none }) rfl (fun K hK => ?_) AllReadyH.nil
            go_simp
            have hb3 : Below wd1.heap.size wd1 (wd1.alloc (.cells #[.int .i64 y.ts, .slice y.A y.n y.c, .string y.ln] 26)) := (Below.refl _ _).alloc (Nat.le_refl _) _
            obtain ⟨g6, hg6⟩ : ∃ g, wd1.heap.size = g := ⟨_, rfl⟩
            have HN : BlkW (wd1.alloc (.cells #[.int .i64 y.ts, .slice y.A y.n y.c, .string y.ln] 26)) g6 26 #[.int .i64 y.ts, .slice y.A y.n y.c, .string y.ln] := by rw [← hg6]; exact Blk.new _ _ _
            obtain ⟨wr1x2, hwwr1x2⟩ : ∃ z, wd1.alloc (.cells #[.int .i64 y.ts, .slice y.A y.n y.c, .string y.ln] 26) = z := ⟨_, rfl⟩
            have Hb3 := Lib.hid hb3
            have HHN := Lib.hid HN
            clear hb3 HN
            rw [hwwr1x2] at Hb3 HHN
            rw [hwwr1x2, hg6]
            have hb3 := Hb3.out
            have HN := HHN.out
            clear hwwr1x2 Hb3 HHN hg6
            have LS1_ := LS1.below hb3
            clear LS1
            have LS1 := LS1_
            clear LS1_
            have Sr1x2 := HS.out _ _ (by assumption) hb3
            refine hK.out _ _ Sr1x2 (fun _ => ?_)
            clear hK K hb3
            try simp only [Act.put, List.setIfInBounds_toArray, List.set_cons_zero, List.set_cons_succ]
            refine wpAnyH_ready (rs := [7]) (by kernel_rfl) (by simp) ?_
            refine AllReadyH.cons (o := { dst := some 54, op := Go.Op.call { callee := Go.Callee.builtin Go.Builtin.append, args := #[Go.Operand.tmp 48, Go.Operand.tmp 53], argTypes := #[34, 34] }, type := 34, pos := "keeps.go:22", after := #[{ on := 1, ground := Go.Ground.data }, { on := 6, ground := Go.Ground.data }], guard := none }) rfl (fun K hK => ?_) AllReadyH.nil
            have hSb : Below w3.heap.size w3 wr1x2 := by go_split_ands; assumption
            refine step_append_lies _ (by rfl) (.tmp 48) (.tmp 53) 34 (by rfl) (g9 + 1) 26 i0 (.agg #[.int .i64 0, .slice none 0 0, .string ⟨#[]⟩]) 3 48 Try.underlying34 hi hz0 hz1 hz2 rfl (by decide) _ _ _ (by rfl) (LS1.own 0 (by decide)) ⟨_, 0, none⟩ 1 1 (EntX.V y) (by rfl) rfl (World.news_of_block HN) (entV_one _) (by omega) (by unfold maxLen; have := HLN.out 0 (by decide); omega) (by have := HLN.out 0 (by decide); omega) (by have := LS1.lt; omega) _ rfl ?_
            intro gn cap w2 hown' hgrow hg' hlt2
            have NL := Lib.hid (LS1.put (by decide) (OwnR.snoc (a := y) hown') hgrow rfl hg')
            obtain ⟨cs, bk1, bk2, bk3⟩ := LS1.grown (by decide) hgrow
            have k0 : w2.cell? ⟨g9, 0, none⟩ = some (v 0) := (bk1.cell 0).trans (bk3 0 (by decide))
            have f0 := bk1.frozen 0
            have hb2 := hSb.grown hgrow (by have := hSb.size; omega) (fun r hr => by have h1 := (World.ownsRow.lt (LS1.own 0 (by decide)) r hr).1; have h2 := HG9.out; omega)
            have HB2 := Lib.hid hb2
            have hS2 : Below w3.heap.size w3 w2 ∧ w2.cell? ⟨b1, o1 + j * 3, none⟩ = some (.int .i64 y.ts) ∧ w2.cell? ⟨b1, o1 + j * 3 + 1, none⟩ = some (.slice y.A y.n y.c) ∧ w2.cell? ⟨b1, o1 + j * 3 + 2, none⟩ = some (.string y.ln) := ⟨hb2, (hb2.cell (p := ⟨b1, o1 + j * 3, none⟩) hlt1).trans y1, (hb2.cell (p := ⟨b1, o1 + j * 3 + 1, none⟩) hlt1).trans y2, (hb2.cell (p := ⟨b1, o1 + j * 3 + 2, none⟩) hlt1).trans y3⟩
            clear bk1 bk2 bk3 hb2 hSb hown' hgrow hg' HN
            refine hK.out _ _ hS2 (fun _ => ?_)
            clear hK K
            try simp only [Act.put, List.setIfInBounds_toArray, List.set_cons_zero, List.set_cons_succ]
            refine wpAnyH_take (i := 8) (oi := { dst := some 55, op := Go.Op.indexAddr 59 (Go.Operand.tmp 9) (Go.Operand.const (Go.Value.int Go.IntKind.i64 0)), type := 0, pos := "keeps.go:22", after := #[{ on := 0, ground := Go.Ground.phase }, { on := 1, ground := Go.Ground.phase }, { on := 2, ground := Go.Ground.phase }, { on := 3, ground := Go.Ground.phase }, { on := 4, ground := Go.Ground.phase }, { on := 5, ground := Go.Ground.phase }, { on := 6, ground := Go.Ground.phase }, { on := 7, ground := Go.Ground.phase }], guard := none }) (v := ?_) rfl (by kernel_rfl) (by kernel_rfl) (by kernel_rfl) (fun _ _ _ h => h) (Or.inl ⟨by kernel_rfl, ?_⟩) (by assumption) ?_
            rotate_left
            · intro w _
              first | (go_simp; done) | (go_simp; with_reducible rfl)
            try simp only [Act.put, List.setIfInBounds_toArray, List.set_cons_zero, List.set_cons_succ]
            refine wpAnyH_ready (rs := [9]) (by kernel_rfl) (by simp) ?_
            refine AllReadyH.cons (o := { dst := none, op := Go.Op.store 34 (Go.Operand.tmp 55) (Go.Operand.tmp 54), type := 0, pos := "keeps.go:22", after := #[{ on := 8, ground := Go.Ground.data }, { on := 7, ground := Go.Ground.data }, { on := 7, ground := Go.Ground.chain }, { on := 0, ground := Go.Ground.phase }, { on := 1, ground := Go.Ground.phase }, { on := 2, ground := Go.Ground.phase }, { on := 3, ground := Go.Ground.phase }, { on := 4, ground := Go.Ground.phase }, { on := 5, ground := Go.Ground.phase }, { on := 6, ground := Go.Ground.phase }, { on := 7, ground := Go.Ground.phase }], guard := none }) rfl (fun K hK => ?_) AllReadyH.nil
            have hb4 : Below w3.heap.size w3 (w2.setCell ⟨g9, 0, none⟩ (.slice (some ⟨gn, 0, none⟩) (((X 0).length) + 1) cap)) := HB2.out.setCell (p := ⟨g9, 0, none⟩) (show w3.heap.size ≤ g9 by have := HG9.out; omega) _
            have hS4 : Below w3.heap.size w3 (w2.setCell ⟨g9, 0, none⟩ (.slice (some ⟨gn, 0, none⟩) (((X 0).length) + 1) cap)) ∧ (w2.setCell ⟨g9, 0, none⟩ (.slice (some ⟨gn, 0, none⟩) (((X 0).length) + 1) cap)).cell? ⟨b1, o1 + j * 3, none⟩ = some (.int .i64 y.ts) ∧ (w2.setCell ⟨g9, 0, none⟩ (.slice (some ⟨gn, 0, none⟩) (((X 0).length) + 1) cap)).cell? ⟨b1, o1 + j * 3 + 1, none⟩ = some (.slice y.A y.n y.c) ∧ (w2.setCell ⟨g9, 0, none⟩ (.slice (some ⟨gn, 0, none⟩) (((X 0).length) + 1) cap)).cell? ⟨b1, o1 + j * 3 + 2, none⟩ = some (.string y.ln) := ⟨hb4, (hb4.cell (p := ⟨b1, o1 + j * 3, none⟩) hlt1).trans y1, (hb4.cell (p := ⟨b1, o1 + j * 3 + 1, none⟩) hlt1).trans y2, (hb4.cell (p := ⟨b1, o1 + j * 3 + 2, none⟩) hlt1).trans y3⟩
            have HB4 := Lib.hid hb4
            clear hb4
            go_simp
            refine hK.out _ _ hS4 (fun _ => ?_)
            clear hK K
            try simp only [Act.put, List.setIfInBounds_toArray, List.set_cons_zero, List.set_cons_succ]
            refine wpAnyH_done (by kernel_rfl) ?_ _
            obtain ⟨wn1, hwn1⟩ : ∃ z, w2.setCell ⟨g9, 0, none⟩ (.slice (some ⟨gn, 0, none⟩) (((X 0).length) + 1) cap) = z := ⟨_, rfl⟩
            rw [hwn1] at NL HB4
            simp only [hwn1]
            clear hwn1 k0 f0 HB2 LS1
            go_split_ands
            have NL1 := NL
            have HB41 := HB4
            clear NL HB4
            obtain ⟨NV0, hNV0⟩ : ∃ u, (.slice (some ⟨gn, 0, none⟩) ((X 0).length + 1) cap : Value) = u := ⟨_, rfl⟩
            rw [hNV0] at NL1
            clear hNV0
            have hlt0 := hlt1
            go_wp2
            have LS2 : Lists3 wn1.drew g9 (updV v 0 NV0) (updV X 0 (X 0 ++ [y])) := (NL1.out).below (below_drewN (Below.refl _ _) 1 : Below wn1.heap.size wn1 wn1.drew)
            have hd0 : Below w3.heap.size w3 wn1.drew := below_drewN HB41.out 1
            have S0 : Below w3.heap.size w3 wn1.drew ∧ wn1.drew.cell? ⟨b1, o1 + j * 3, none⟩ = some (.int .i64 y.ts) ∧ wn1.drew.cell? ⟨b1, o1 + j * 3 + 1, none⟩ = some (.slice y.A y.n y.c) ∧ wn1.drew.cell? ⟨b1, o1 + j * 3 + 2, none⟩ = some (.string y.ln) := ⟨hd0, (hd0.cell (p := ⟨b1, o1 + j * 3, none⟩) hlt1).trans y1, (hd0.cell (p := ⟨b1, o1 + j * 3 + 1, none⟩) hlt1).trans y2, (hd0.cell (p := ⟨b1, o1 + j * 3 + 2, none⟩) hlt1).trans y3⟩
            clear hd0
            go_wp2
            refine wp_region_held_drew (S := fun w' => Below w3.heap.size w3 w' ∧ w'.cell? ⟨b1, o1 + j * 3, none⟩ = some (.int .i64 y.ts) ∧ w'.cell? ⟨b1, o1 + j * 3 + 1, none⟩ = some (.slice y.A y.n y.c) ∧ w'.cell? ⟨b1, o1 + j * 3 + 2, none⟩ = some (.string y.ln)) (by kernel_rfl) S0 (fun hHeld => ?_)
            obtain ⟨wd2, hwd2⟩ : ∃ z, wn1.drew = z := ⟨_, rfl⟩
            rw [hwd2] at LS2 S0 ⊢
            clear hwd2 hHeld
            refine wpAnyH_take (i := 0) (oi := { dst := some 56, op := Go.Op.move (Go.Operand.tmp 11), type := 3, pos := "keeps.go:25", after := #[], guard := none }) (v := ?_) rfl (by kernel_rfl) (by kernel_rfl) (by kernel_rfl) (fun _ _ _ h => h) (Or.inl ⟨by kernel_rfl, ?_⟩) (by assumption) ?_
            rotate_left
            · intro w _
              first | (go_simp; done) | (go_simp; with_reducible rfl)
            try simp only [Act.put, List.setIfInBounds_toArray, List.set_cons_zero, List.set_cons_succ]
            refine wpAnyH_take (i := 1) (oi := { dst := some 57, op := Go.Op.move (Go.Operand.tmp 11), type := 3, pos := "keeps.go:25", after := #[], guard := none }) (v := ?_) rfl (by kernel_rfl) (by kernel_rfl) (by kernel_rfl) (fun _ _ _ h => h) (Or.inl ⟨by kernel_rfl, ?_⟩) (by assumption) ?_
            rotate_left
            · intro w _
              first | (go_simp; done) | (go_simp; with_reducible rfl)
            try simp only [Act.put, List.setIfInBounds_toArray, List.set_cons_zero, List.set_cons_succ]
            refine wpAnyH_take (i := 2) (oi := { dst := some 58, op := Go.Op.indexAddr 59 (Go.Operand.tmp 9) (Go.Operand.tmp 57), type := 0, pos := "keeps.go:25", after := #[{ on := 1, ground := Go.Ground.data }], guard := none }) (v := ?_) rfl (by kernel_rfl) (by kernel_rfl) (by kernel_rfl) (fun _ _ _ h => h) (Or.inl ⟨by kernel_rfl, ?_⟩) (by assumption) ?_
            rotate_left
            · intro w _
              first | (go_simp; done) | (go_simp; with_reducible rfl)
            try simp only [Act.put, List.setIfInBounds_toArray, List.set_cons_zero, List.set_cons_succ]
            refine wpAnyH_take (i := 4) (oi := { dst := some 60, op := Go.Op.move (Go.Operand.tmp 8), type := 34, pos := "keeps.go:25", after := #[], guard := none }) (v := ?_) rfl (by kernel_rfl) (by kernel_rfl) (by kernel_rfl) (fun _ _ _ h => h) (Or.inl ⟨by kernel_rfl, ?_⟩) (by assumption) ?_
            rotate_left
            · intro w _
              first | (go_simp; done) | (go_simp; with_reducible rfl)
            try simp only [Act.put, List.setIfInBounds_toArray, List.set_cons_zero, List.set_cons_succ]
            refine wpAnyH_take (i := 5) (oi := { dst := some 61, op := Go.Op.move (Go.Operand.tmp 10), type := 3, pos := "keeps.go:25", after := #[], guard := none }) (v := ?_) rfl (by kernel_rfl) (by kernel_rfl) (by kernel_rfl) (fun _ _ _ h => h) (Or.inl ⟨by kernel_rfl, ?_⟩) (by assumption) ?_
            rotate_left
            · intro w _
              first | (go_simp; done) | (go_simp; with_reducible rfl)
            try simp only [Act.put, List.setIfInBounds_toArray, List.set_cons_zero, List.set_cons_succ]
            refine wpAnyH_take (i := 6) (oi := { dst := some 62, op := Go.Op.indexAddr 34 (Go.Operand.tmp 60) (Go.Operand.tmp 61), type := 0, pos := "keeps.go:25", after := #[{ on := 4, ground := Go.Ground.data }, { on := 5, ground := Go.Ground.data }], guard := none }) (v := ?_) rfl (by kernel_rfl) (by kernel_rfl) (by kernel_rfl) (fun _ _ _ h => h) (Or.inl ⟨by kernel_rfl, ?_⟩) (by assumption) ?_
            rotate_left
            · intro w _
              first | (go_simp; done) | (go_simp; with_reducible rfl)
            try simp only [Act.put, List.setIfInBounds_toArray, List.set_cons_zero, List.set_cons_succ]
            refine wpAnyH_take (i := 7) (oi := { dst := some 63, op := Go.Op.load 26 (Go.Operand.tmp 62), type := 26, pos := "keeps.go:25", after := #[{ on := 6, ground := Go.Ground.data }], guard := none }) (v := ?_) rfl (by kernel_rfl) (by kernel_rfl) (by kernel_rfl) (fun _ _ _ h => h) (Or.inl ⟨by kernel_rfl, ?_⟩) (by assumption) ?_
            rotate_left
            · intro w hSw
              (try dsimp only at hSw)
              go_split_ands
              first | (go_simp; done) | (go_simp; with_reducible rfl)
            try simp only [Act.put, List.setIfInBounds_toArray, List.set_cons_zero, List.set_cons_succ]
            refine wpAnyH_ready (rs := [3, 8]) (by kernel_rfl) (by simp) ?_
            refine AllReadyH.cons (o := { dst := some 59, op := Go.Op.load 34 (Go.Operand.tmp 58), type := 34, pos := "keeps.go:25", after := #[{ on := 2, ground := Go.Ground.data }], guard := none }) rfl (fun K hK => ?_) ?_
            ·
              have c0 : wd2.cell? ⟨g9, 2, none⟩ = some (updV v 0 NV0 2) := LS2.cell 2 (by decide)
              go_simp
              clear c0
              refine hK.out _ _ (by assumption) (fun _ => ?_)
              clear hK K
              try simp only [Act.put, List.setIfInBounds_toArray, List.set_cons_zero, List.set_cons_succ]
              refine wpAnyH_ready (rs := [8]) (by kernel_rfl) (by simp) ?_
              refine AllReadyH.cons (o := { dst := some 64, op := Go.Op.buildSlice 34 1 #[(0, Go.Operand.tmp 63)], type := 34, pos := "keeps.go:25", after := #[{ on := 7, ground := Go.Ground.data }], guard := none }) rfl (fun K hK => ?_) AllReadyH.nil
              go_simp
              have hb3 : Below wd2.heap.size wd2 (wd2.alloc (.cells #[.int .i64 y.ts, .slice y.A y.n y.c, .string y.ln] 26)) := (Below.refl _ _).alloc (Nat.le_refl _) _
              obtain ⟨g8, hg8⟩ : ∃ g, wd2.heap.size = g := ⟨_, rfl⟩
              have HN : BlkW (wd2.alloc (.cells #[.int .i64 y.ts, .slice y.A y.n y.c, .string y.ln] 26)) g8 26 #[.int .i64 y.ts, .slice y.A y.n y.c, .string y.ln] := by rw [← hg8]; exact Blk.new _ _ _
              obtain ⟨wr2x2, hwwr2x2⟩ : ∃ z, wd2.alloc (.cells #[.int .i64 y.ts, .slice y.A y.n y.c, .string y.ln] 26) = z := ⟨_, rfl⟩
              have Hb3 := Lib.hid hb3
              have HHN := Lib.hid HN
              clear hb3 HN
              rw [hwwr2x2] at Hb3 HHN
              rw [hwwr2x2, hg8]
              have hb3 := Hb3.out
              have HN := HHN.out
              clear hwwr2x2 Hb3 HHN hg8
              have LS2_ := LS2.below hb3
              clear LS2
              have LS2 := LS2_
              clear LS2_
              have Sr2x2 := HS.out _ _ (by assumption) hb3
              refine hK.out _ _ Sr2x2 (fun _ => ?_)
              clear hK K hb3
              try simp only [Act.put, List.setIfInBounds_toArray, List.set_cons_zero, List.set_cons_succ]
              refine wpAnyH_ready (rs := [9]) (by kernel_rfl) (by simp) ?_
              refine AllReadyH.cons (o := { dst := some 65, op := Go.Op.call { callee := Go.Callee.builtin Go.Builtin.append, args := #[Go.Operand.tmp 59, Go.Operand.tmp 64], argTypes := #[34, 34] }, type := 34, pos := "keeps.go:25", after := #[{ on := 3, ground := Go.Ground.data }, { on := 8, ground := Go.Ground.data }], guard := none }) rfl (fun K hK => ?_) AllReadyH.nil
              have hSb : Below w3.heap.size w3 wr2x2 := by go_split_ands; assumption
              refine step_append_lies _ (by rfl) (.tmp 59) (.tmp 64) 34 (by rfl) (g9 + 1) 26 i0 (.agg #[.int .i64 0, .slice none 0 0, .string ⟨#[]⟩]) 3 48 Try.underlying34 hi hz0 hz1 hz2 rfl (by decide) _ _ _ (by rfl) (LS2.own 2 (by decide)) ⟨_, 0, none⟩ 1 1 (EntX.V y) (by rfl) rfl (World.news_of_block HN) (entV_one _) (by omega) (by unfold maxLen; have := HLN.out 2 (by decide); rw [updV_other _ _ (by decide)]; omega) (by have := HLN.out 2 (by decide); rw [updV_other _ _ (by decide)]; omega) (by have := LS2.lt; omega) _ rfl ?_
              intro gn cap w2 hown' hgrow hg' hlt2
              have NL := Lib.hid (LS2.put (by decide) (OwnR.snoc (a := y) hown') hgrow rfl hg')
              obtain ⟨cs, bk1, bk2, bk3⟩ := LS2.grown (by decide) hgrow
              have k0 : w2.cell? ⟨g9, 2, none⟩ = some (updV v 0 NV0 2) := (bk1.cell 2).trans (bk3 2 (by decide))
              have f0 := bk1.frozen 2
              have hb2 := hSb.grown hgrow (by have := hSb.size; omega) (fun r hr => by have h1 := (World.ownsRow.lt (LS2.own 2 (by decide)) r hr).1; have h2 := HG9.out; omega)
              have HB2 := Lib.hid hb2
              have hS2 : Below w3.heap.size w3 w2 ∧ w2.cell? ⟨b1, o1 + j * 3, none⟩ = some (.int .i64 y.ts) ∧ w2.cell? ⟨b1, o1 + j * 3 + 1, none⟩ = some (.slice y.A y.n y.c) ∧ w2.cell? ⟨b1, o1 + j * 3 + 2, none⟩ = some (.string y.ln) := ⟨hb2, (hb2.cell (p := ⟨b1, o1 + j * 3, none⟩) hlt1).trans y1, (hb2.cell (p := ⟨b1, o1 + j * 3 + 1, none⟩) hlt1).trans y2, (hb2.cell (p := ⟨b1, o1 + j * 3 + 2, none⟩) hlt1).trans y3⟩
              clear bk1 bk2 bk3 hb2 hSb hown' hgrow hg' HN
              refine hK.out _ _ hS2 (fun _ => ?_)
              clear hK K
              try simp only [Act.put, List.setIfInBounds_toArray, List.set_cons_zero, List.set_cons_succ]
              refine wpAnyH_take (i := 10) (oi := { dst := some 66, op := Go.Op.indexAddr 59 (Go.Operand.tmp 9) (Go.Operand.tmp 56), type := 0, pos := "keeps.go:25", after := #[{ on := 0, ground := Go.Ground.data }, { on := 0, ground := Go.Ground.phase }, { on := 1, ground := Go.Ground.phase }, { on := 2, ground := Go.Ground.phase }, { on := 3, ground := Go.Ground.phase }, { on := 4, ground := Go.Ground.phase }, { on := 5, ground := Go.Ground.phase }, { on := 6, ground := Go.Ground.phase }, { on := 7, ground := Go.Ground.phase }, { on := 8, ground := Go.Ground.phase }, { on := 9, ground := Go.Ground.phase }], guard := none }) (v := ?_) rfl (by kernel_rfl) (by kernel_rfl) (by kernel_rfl) (fun _ _ _ h => h) (Or.inl ⟨by kernel_rfl, ?_⟩) (by assumption) ?_
              rotate_left
              · intro w _
                first | (go_simp; done) | (go_simp; with_reducible rfl)
              try simp only [Act.put, List.setIfInBounds_toArray, List.set_cons_zero, List.set_cons_succ]
              refine wpAnyH_ready (rs := [11]) (by kernel_rfl) (by simp) ?_
              refine AllReadyH.cons (o := { dst := none, op := Go.Op.store 34 (Go.Operand.tmp 66) (Go.Operand.tmp 65), type := 0, pos := "keeps.go:25", after := #[{ on := 10, ground := Go.Ground.data }, { on := 9, ground := Go.Ground.data }, { on := 9, ground := Go.Ground.chain }, { on := 0, ground := Go.Ground.phase }, { on := 1, ground := Go.Ground.phase }, { on := 2, ground := Go.Ground.phase }, { on := 3, ground := Go.Ground.phase }, { on := 4, ground := Go.Ground.phase }, { on := 5, ground := Go.Ground.phase }, { on := 6, ground := Go.Ground.phase }, { on := 7, ground := Go.Ground.phase }, { on := 8, ground := Go.Ground.phase }, { on := 9, ground := Go.Ground.phase }], guard := none }) rfl (fun K hK => ?_) AllReadyH.nil
              have hb4 : Below w3.heap.size w3 (w2.setCell ⟨g9, 2, none⟩ (.slice (some ⟨gn, 0, none⟩) (((updV X 0 (X 0 ++ [y]) 2).length) + 1) cap)) := HB2.out.setCell (p := ⟨g9, 2, none⟩) (show w3.heap.size ≤ g9 by have := HG9.out; omega) _
              have hS4 : Below w3.heap.size w3 (w2.setCell ⟨g9, 2, none⟩ (.slice (some ⟨gn, 0, none⟩) (((updV X 0 (X 0 ++ [y]) 2).length) + 1) cap)) ∧ (w2.setCell ⟨g9, 2, none⟩ (.slice (some ⟨gn, 0, none⟩) (((updV X 0 (X 0 ++ [y]) 2).length) + 1) cap)).cell? ⟨b1, o1 + j * 3, none⟩ = some (.int .i64 y.ts) ∧ (w2.setCell ⟨g9, 2, none⟩ (.slice (some ⟨gn, 0, none⟩) (((updV X 0 (X 0 ++ [y]) 2).length) + 1) cap)).cell? ⟨b1, o1 + j * 3 + 1, none⟩ = some (.slice y.A y.n y.c) ∧ (w2.setCell ⟨g9, 2, none⟩ (.slice (some ⟨gn, 0, none⟩) (((updV X 0 (X 0 ++ [y]) 2).length) + 1) cap)).cell? ⟨b1, o1 + j * 3 + 2, none⟩ = some (.string y.ln) := ⟨hb4, (hb4.cell (p := ⟨b1, o1 + j * 3, none⟩) hlt1).trans y1, (hb4.cell (p := ⟨b1, o1 + j * 3 + 1, none⟩) hlt1).trans y2, (hb4.cell (p := ⟨b1, o1 + j * 3 + 2, none⟩) hlt1).trans y3⟩
              have HB4 := Lib.hid hb4
              clear hb4
              go_simp
              refine hK.out _ _ hS4 (fun _ => ?_)
              clear hK K
              try simp only [Act.put, List.setIfInBounds_toArray, List.set_cons_zero, List.set_cons_succ]
              refine wpAnyH_done (by kernel_rfl) ?_ _
              obtain ⟨wn2, hwn2⟩ : ∃ z, w2.setCell ⟨g9, 2, none⟩ (.slice (some ⟨gn, 0, none⟩) (((updV X 0 (X 0 ++ [y]) 2).length) + 1) cap) = z := ⟨_, rfl⟩
              rw [hwn2] at NL HB4
              simp only [hwn2]
              clear hwn2 k0 f0 HB2 LS2
              go_split_ands
              have NSP := Lib.hid (HSP.out.put2 (k := 0) (m := 2) (by decide) (by decide) (by decide) HYQ.out)
              go_wp2
              go_round
              case rel => exact ⟨j + 1, _, _, by omega, by go_num, NL, NSP, HB4.out⟩
              case measure => simp [intOf]; omega
            refine AllReadyH.cons (o := { dst := some 64, op := Go.Op.buildSlice 34 1 #[(0, Go.Operand.tmp 63)], type := 34, pos := "keeps.go:25", after := #[{ on := 7, ground := Go.Ground.data }], guard := none }) rfl (fun K hK => ?_) AllReadyH.nil
            ·
              go_simp
              have hb3 : Below wd2.heap.size wd2 (wd2.alloc (.cells #[.int .i64 y.ts, .slice y.A y.n y.c, .string y.ln] 26)) := (Below.refl _ _).alloc (Nat.le_refl _) _
              obtain ⟨g8, hg8⟩ : ∃ g, wd2.heap.size = g := ⟨_, rfl⟩
              have HN : BlkW (wd2.alloc (.cells #[.int .i64 y.ts, .slice y.A y.n y.c, .string y.ln] 26)) g8 26 #[.int .i64 y.ts, .slice y.A y.n y.c, .string y.ln] := by rw [← hg8]; exact Blk.new _ _ _
              obtain ⟨wr2x5, hwwr2x5⟩ : ∃ z, wd2.alloc (.cells #[.int .i64 y.ts, .slice y.A y.n y.c, .string y.ln] 26) = z := ⟨_, rfl⟩
              have Hb3 := Lib.hid hb3
              have HHN := Lib.hid HN
              clear hb3 HN
              rw [hwwr2x5] at Hb3 HHN
              rw [hwwr2x5, hg8]
              have hb3 := Hb3.out
              have HN := HHN.out
              clear hwwr2x5 Hb3 HHN hg8
              have LS2_ := LS2.below hb3
              clear LS2
              have LS2 := LS2_
              clear LS2_
              have Sr2x5 := HS.out _ _ (by assumption) hb3
              refine hK.out _ _ Sr2x5 (fun _ => ?_)
              clear hK K hb3
              try simp only [Act.put, List.setIfInBounds_toArray, List.set_cons_zero, List.set_cons_succ]
              refine wpAnyH_ready (rs := [3]) (by kernel_rfl) (by simp) ?_
              refine AllReadyH.cons (o := { dst := some 59, op := Go.Op.load 34 (Go.Operand.tmp 58), type := 34, pos := "keeps.go:25", after := #[{ on := 2, ground := Go.Ground.data }], guard := none }) rfl (fun K hK => ?_) AllReadyH.nil
              have c0 : wr2x5.cell? ⟨g9, 2, none⟩ = some (updV v 0 NV0 2) := LS2.cell 2 (by decide)
              go_simp
              clear c0
              refine hK.out _ _ (by assumption) (fun _ => ?_)
              clear hK K
              try simp only [Act.put, List.setIfInBounds_toArray, List.set_cons_zero, List.set_cons_succ]
              refine wpAnyH_ready (rs := [9]) (by kernel_rfl) (by simp) ?_
              refine AllReadyH.cons (o := { dst := some 65, op := Go.Op.call { callee := Go.Callee.builtin Go.Builtin.append, args := #[Go.Operand.tmp 59, Go.Operand.tmp 64], argTypes := #[34, 34] }, type := 34, pos := "keeps.go:25", after := #[{ on := 3, ground := Go.Ground.data }, { on := 8, ground := Go.Ground.data }], guard := none }) rfl (fun K hK => ?_) AllReadyH.nil
              have hSb : Below w3.heap.size w3 wr2x5 := by go_split_ands; assumption
              refine step_append_lies _ (by rfl) (.tmp 59) (.tmp 64) 34 (by rfl) (g9 + 1) 26 i0 (.agg #[.int .i64 0, .slice none 0 0, .string ⟨#[]⟩]) 3 48 Try.underlying34 hi hz0 hz1 hz2 rfl (by decide) _ _ _ (by rfl) (LS2.own 2 (by decide)) ⟨_, 0, none⟩ 1 1 (EntX.V y) (by rfl) rfl (World.news_of_block HN) (entV_one _) (by omega) (by unfold maxLen; have := HLN.out 2 (by decide); rw [updV_other _ _ (by decide)]; omega) (by have := HLN.out 2 (by decide); rw [updV_other _ _ (by decide)]; omega) (by have := LS2.lt; omega) _ rfl ?_
              intro gn cap w2 hown' hgrow hg' hlt2
              have NL := Lib.hid (LS2.put (by decide) (OwnR.snoc (a := y) hown') hgrow rfl hg')
              obtain ⟨cs, bk1, bk2, bk3⟩ := LS2.grown (by decide) hgrow
              have k0 : w2.cell? ⟨g9, 2, none⟩ = some (updV v 0 NV0 2) := (bk1.cell 2).trans (bk3 2 (by decide))
              have f0 := bk1.frozen 2
              have hb2 := hSb.grown hgrow (by have := hSb.size; omega) (fun r hr => by have h1 := (World.ownsRow.lt (LS2.own 2 (by decide)) r hr).1; have h2 := HG9.out; omega)
              have HB2 := Lib.hid hb2
              have hS2 : Below w3.heap.size w3 w2 ∧ w2.cell? ⟨b1, o1 + j * 3, none⟩ = some (.int .i64 y.ts) ∧ w2.cell? ⟨b1, o1 + j * 3 + 1, none⟩ = some (.slice y.A y.n y.c) ∧ w2.cell? ⟨b1, o1 + j * 3 + 2, none⟩ = some (.string y.ln) := ⟨hb2, (hb2.cell (p := ⟨b1, o1 + j * 3, none⟩) hlt1).trans y1, (hb2.cell (p := ⟨b1, o1 + j * 3 + 1, none⟩) hlt1).trans y2, (hb2.cell (p := ⟨b1, o1 + j * 3 + 2, none⟩) hlt1).trans y3⟩
              clear bk1 bk2 bk3 hb2 hSb hown' hgrow hg' HN
              refine hK.out _ _ hS2 (fun _ => ?_)
              clear hK K
              try simp only [Act.put, List.setIfInBounds_toArray, List.set_cons_zero, List.set_cons_succ]
              refine wpAnyH_take (i := 10) (oi := { dst := some 66, op := Go.Op.indexAddr 59 (Go.Operand.tmp 9) (Go.Operand.tmp 56), type := 0, pos := "keeps.go:25", after := #[{ on := 0, ground := Go.Ground.data }, { on := 0, ground := Go.Ground.phase }, { on := 1, ground := Go.Ground.phase }, { on := 2, ground := Go.Ground.phase }, { on := 3, ground := Go.Ground.phase }, { on := 4, ground := Go.Ground.phase }, { on := 5, ground := Go.Ground.phase }, { on := 6, ground := Go.Ground.phase }, { on := 7, ground := Go.Ground.phase }, { on := 8, ground := Go.Ground.phase }, { on := 9, ground := Go.Ground.phase }], guard := none }) (v := ?_) rfl (by kernel_rfl) (by kernel_rfl) (by kernel_rfl) (fun _ _ _ h => h) (Or.inl ⟨by kernel_rfl, ?_⟩) (by assumption) ?_
              rotate_left
              · intro w _
                first | (go_simp; done) | (go_simp; with_reducible rfl)
              try simp only [Act.put, List.setIfInBounds_toArray, List.set_cons_zero, List.set_cons_succ]
              refine wpAnyH_ready (rs := [11]) (by kernel_rfl) (by simp) ?_
              refine AllReadyH.cons (o := { dst := none, op := Go.Op.store 34 (Go.Operand.tmp 66) (Go.Operand.tmp 65), type := 0, pos := "keeps.go:25", after := #[{ on := 10, ground := Go.Ground.data }, { on := 9, ground := Go.Ground.data }, { on := 9, ground := Go.Ground.chain }, { on := 0, ground := Go.Ground.phase }, { on := 1, ground := Go.Ground.phase }, { on := 2, ground := Go.Ground.phase }, { on := 3, ground := Go.Ground.phase }, { on := 4, ground := Go.Ground.phase }, { on := 5, ground := Go.Ground.phase }, { on := 6, ground := Go.Ground.phase }, { on := 7, ground := Go.Ground.phase }, { on := 8, ground := Go.Ground.phase }, { on := 9, ground := Go.Ground.phase }], guard := none }) rfl (fun K hK => ?_) AllReadyH.nil
              have hb4 : Below w3.heap.size w3 (w2.setCell ⟨g9, 2, none⟩ (.slice (some ⟨gn, 0, none⟩) (((updV X 0 (X 0 ++ [y]) 2).length) + 1) cap)) := HB2.out.setCell (p := ⟨g9, 2, none⟩) (show w3.heap.size ≤ g9 by have := HG9.out; omega) _
              have hS4 : Below w3.heap.size w3 (w2.setCell ⟨g9, 2, none⟩ (.slice (some ⟨gn, 0, none⟩) (((updV X 0 (X 0 ++ [y]) 2).length) + 1) cap)) ∧ (w2.setCell ⟨g9, 2, none⟩ (.slice (some ⟨gn, 0, none⟩) (((updV X 0 (X 0 ++ [y]) 2).length) + 1) cap)).cell? ⟨b1, o1 + j * 3, none⟩ = some (.int .i64 y.ts) ∧ (w2.setCell ⟨g9, 2, none⟩ (.slice (some ⟨gn, 0, none⟩) (((updV X 0 (X 0 ++ [y]) 2).length) + 1) cap)).cell? ⟨b1, o1 + j * 3 + 1, none⟩ = some (.slice y.A y.n y.c) ∧ (w2.setCell ⟨g9, 2, none⟩ (.slice (some ⟨gn, 0, none⟩) (((updV X 0 (X 0 ++ [y]) 2).length) + 1) cap)).cell? ⟨b1, o1 + j * 3 + 2, none⟩ = some (.string y.ln) := ⟨hb4, (hb4.cell (p := ⟨b1, o1 + j * 3, none⟩) hlt1).trans y1, (hb4.cell (p := ⟨b1, o1 + j * 3 + 1, none⟩) hlt1).trans y2, (hb4.cell (p := ⟨b1, o1 + j * 3 + 2, none⟩) hlt1).trans y3⟩
              have HB4 := Lib.hid hb4
              clear hb4
              go_simp
              refine hK.out _ _ hS4 (fun _ => ?_)
              clear hK K
              try simp only [Act.put, List.setIfInBounds_toArray, List.set_cons_zero, List.set_cons_succ]
              refine wpAnyH_done (by kernel_rfl) ?_ _
              obtain ⟨wn2, hwn2⟩ : ∃ z, w2.setCell ⟨g9, 2, none⟩ (.slice (some ⟨gn, 0, none⟩) (((updV X 0 (X 0 ++ [y]) 2).length) + 1) cap) = z := ⟨_, rfl⟩
              rw [hwn2] at NL HB4
              simp only [hwn2]
              clear hwn2 k0 f0 HB2 LS2
              go_split_ands
              have NSP := Lib.hid (HSP.out.put2 (k := 0) (m := 2) (by decide) (by decide) (by decide) HYQ.out)
              go_wp2
              go_round
              case rel => exact ⟨j + 1, _, _, by omega, by go_num, NL, NSP, HB4.out⟩
              case measure => simp [intOf]; omega
          refine AllReadyH.cons (o := { dst := some 53, op := Go.Op.buildSlice 34 1 #[(0, Go.Operand.tmp 52)], type := 34, pos := "keeps.go:22", after := #[{ on := 5, ground := Go.Ground.data }], guard := none }) rfl (fun K hK => ?_) AllReadyH.nil
          ·
            go_simp
            have hb3 : Below wd1.heap.size wd1 (wd1.alloc (.cells #[.int .i64 y.ts, .slice y.A y.n y.c, .string y.ln] 26)) := (Below.refl _ _).alloc (Nat.le_refl _) _
            obtain ⟨g6, hg6⟩ : ∃ g, wd1.heap.size = g := ⟨_, rfl⟩
            have HN : BlkW (wd1.alloc (.cells #[.int .i64 y.ts, .slice y.A y.n y.c, .string y.ln] 26)) g6 26 #[.int .i64 y.ts, .slice y.A y.n y.c, .string y.ln] := by rw [← hg6]; exact Blk.new _ _ _
            obtain ⟨wr1x5, hwwr1x5⟩ : ∃ z, wd1.alloc (.cells #[.int .i64 y.ts, .slice y.A y.n y.c, .string y.ln] 26) = z := ⟨_, rfl⟩
            have Hb3 := Lib.hid hb3
            have HHN := Lib.hid HN
            clear hb3 HN
            rw [hwwr1x5] at Hb3 HHN
            rw [hwwr1x5, hg6]
            have hb3 := Hb3.out
            have HN := HHN.out
            clear hwwr1x5 Hb3 HHN hg6
            have LS1_ := LS1.below hb3
            clear LS1
            have LS1 := LS1_
            clear LS1_
            have Sr1x5 := HS.out _ _ (by assumption) hb3
            refine hK.out _ _ Sr1x5 (fun _ => ?_)
            clear hK K hb3
            try simp only [Act.put, List.setIfInBounds_toArray, List.set_cons_zero, List.set_cons_succ]
            refine wpAnyH_ready (rs := [1]) (by kernel_rfl) (by simp) ?_
            refine AllReadyH.cons (o := { dst := some 48, op := Go.Op.load 34 (Go.Operand.tmp 47), type := 34, pos := "keeps.go:22", after := #[{ on := 0, ground := Go.Ground.data }], guard := none }) rfl (fun K hK => ?_) AllReadyH.nil
            have c0 : wr1x5.cell? ⟨g9, 0, none⟩ = some (v 0) := LS1.cell 0 (by decide)
            go_simp
            clear c0
            refine hK.out _ _ (by assumption) (fun _ => ?_)
            clear hK K
            try simp only [Act.put, List.setIfInBounds_toArray, List.set_cons_zero, List.set_cons_succ]
            refine wpAnyH_ready (rs := [7]) (by kernel_rfl) (by simp) ?_
            refine AllReadyH.cons (o := { dst := some 54, op := Go.Op.call { callee := Go.Callee.builtin Go.Builtin.append, args := #[Go.Operand.tmp 48, Go.Operand.tmp 53], argTypes := #[34, 34] }, type := 34, pos := "keeps.go:22", after := #[{ on := 1, ground := Go.Ground.data }, { on := 6, ground := Go.Ground.data }], guard := none }) rfl (fun K hK => ?_) AllReadyH.nil
            have hSb : Below w3.heap.size w3 wr1x5 := by go_split_ands; assumption
            refine step_append_lies _ (by rfl) (.tmp 48) (.tmp 53) 34 (by rfl) (g9 + 1) 26 i0 (.agg #[.int .i64 0, .slice none 0 0, .string ⟨#[]⟩]) 3 48 Try.underlying34 hi hz0 hz1 hz2 rfl (by decide) _ _ _ (by rfl) (LS1.own 0 (by decide)) ⟨_, 0, none⟩ 1 1 (EntX.V y) (by rfl) rfl (World.news_of_block HN) (entV_one _) (by omega) (by unfold maxLen; have := HLN.out 0 (by decide); omega) (by have := HLN.out 0 (by decide); omega) (by have := LS1.lt; omega) _ rfl ?_
            intro gn cap w2 hown' hgrow hg' hlt2
            have NL := Lib.hid (LS1.put (by decide) (OwnR.snoc (a := y) hown') hgrow rfl hg')
            obtain ⟨cs, bk1, bk2, bk3⟩ := LS1.grown (by decide) hgrow
            have k0 : w2.cell? ⟨g9, 0, none⟩ = some (v 0) := (bk1.cell 0).trans (bk3 0 (by decide))
            have f0 := bk1.frozen 0
            have hb2 := hSb.grown hgrow (by have := hSb.size; omega) (fun r hr => by have h1 := (World.ownsRow.lt (LS1.own 0 (by decide)) r hr).1; have h2 := HG9.out; omega)
            have HB2 := Lib.hid hb2
            have hS2 : Below w3.heap.size w3 w2 ∧ w2.cell? ⟨b1, o1 + j * 3, none⟩ = some (.int .i64 y.ts) ∧ w2.cell? ⟨b1, o1 + j * 3 + 1, none⟩ = some (.slice y.A y.n y.c) ∧ w2.cell? ⟨b1, o1 + j * 3 + 2, none⟩ = some (.string y.ln) := ⟨hb2, (hb2.cell (p := ⟨b1, o1 + j * 3, none⟩) hlt1).trans y1, (hb2.cell (p := ⟨b1, o1 + j * 3 + 1, none⟩) hlt1).trans y2, (hb2.cell (p := ⟨b1, o1 + j * 3 + 2, none⟩) hlt1).trans y3⟩
            clear bk1 bk2 bk3 hb2 hSb hown' hgrow hg' HN
            refine hK.out _ _ hS2 (fun _ => ?_)
            clear hK K
            try simp only [Act.put, List.setIfInBounds_toArray, List.set_cons_zero, List.set_cons_succ]
            refine wpAnyH_take (i := 8) (oi := { dst := some 55, op := Go.Op.indexAddr 59 (Go.Operand.tmp 9) (Go.Operand.const (Go.Value.int Go.IntKind.i64 0)), type := 0, pos := "keeps.go:22", after := #[{ on := 0, ground := Go.Ground.phase }, { on := 1, ground := Go.Ground.phase }, { on := 2, ground := Go.Ground.phase }, { on := 3, ground := Go.Ground.phase }, { on := 4, ground := Go.Ground.phase }, { on := 5, ground := Go.Ground.phase }, { on := 6, ground := Go.Ground.phase }, { on := 7, ground := Go.Ground.phase }], guard := none }) (v := ?_) rfl (by kernel_rfl) (by kernel_rfl) (by kernel_rfl) (fun _ _ _ h => h) (Or.inl ⟨by kernel_rfl, ?_⟩) (by assumption) ?_
            rotate_left
            · intro w _
              first | (go_simp; done) | (go_simp; with_reducible rfl)
            try simp only [Act.put, List.setIfInBounds_toArray, List.set_cons_zero, List.set_cons_succ]
            refine wpAnyH_ready (rs := [9]) (by kernel_rfl) (by simp) ?_
            refine AllReadyH.cons (o := { dst := none, op := Go.Op.store 34 (Go.Operand.tmp 55) (Go.Operand.tmp 54), type := 0, pos := "keeps.go:22", after := #[{ on := 8, ground := Go.Ground.data }, { on := 7, ground := Go.Ground.data }, { on := 7, ground := Go.Ground.chain }, { on := 0, ground := Go.Ground.phase }, { on := 1, ground := Go.Ground.phase }, { on := 2, ground := Go.Ground.phase }, { on := 3, ground := Go.Ground.phase }, { on := 4, ground := Go.Ground.phase }, { on := 5, ground := Go.Ground.phase }, { on := 6, ground := Go.Ground.phase }, { on := 7, ground := Go.Ground.phase }], guard := none }) rfl (fun K hK => ?_) AllReadyH.nil
            have hb4 : Below w3.heap.size w3 (w2.setCell ⟨g9, 0, none⟩ (.slice (some ⟨gn, 0, none⟩) (((X 0).length) + 1) cap)) := HB2.out.setCell (p := ⟨g9, 0, none⟩) (show w3.heap.size ≤ g9 by have := HG9.out; omega) _
            have hS4 : Below w3.heap.size w3 (w2.setCell ⟨g9, 0, none⟩ (.slice (some ⟨gn, 0, none⟩) (((X 0).length) + 1) cap)) ∧ (w2.setCell ⟨g9, 0, none⟩ (.slice (some ⟨gn, 0, none⟩) (((X 0).length) + 1) cap)).cell? ⟨b1, o1 + j * 3, none⟩ = some (.int .i64 y.ts) ∧ (w2.setCell ⟨g9, 0, none⟩ (.slice (some ⟨gn, 0, none⟩) (((X 0).length) + 1) cap)).cell? ⟨b1, o1 + j * 3 + 1, none⟩ = some (.slice y.A y.n y.c) ∧ (w2.setCell ⟨g9, 0, none⟩ (.slice (some ⟨gn, 0, none⟩) (((X 0).length) + 1) cap)).cell? ⟨b1, o1 + j * 3 + 2, none⟩ = some (.string y.ln) := ⟨hb4, (hb4.cell (p := ⟨b1, o1 + j * 3, none⟩) hlt1).trans y1, (hb4.cell (p := ⟨b1, o1 + j * 3 + 1, none⟩) hlt1).trans y2, (hb4.cell (p := ⟨b1, o1 + j * 3 + 2, none⟩) hlt1).trans y3⟩
            have HB4 := Lib.hid hb4
            clear hb4
            go_simp
            refine hK.out _ _ hS4 (fun _ => ?_)
            clear hK K
            try simp only [Act.put, List.setIfInBounds_toArray, List.set_cons_zero, List.set_cons_succ]
            refine wpAnyH_done (by kernel_rfl) ?_ _
            obtain ⟨wn1, hwn1⟩ : ∃ z, w2.setCell ⟨g9, 0, none⟩ (.slice (some ⟨gn, 0, none⟩) (((X 0).length) + 1) cap) = z := ⟨_, rfl⟩
            rw [hwn1] at NL HB4
            simp only [hwn1]
            clear hwn1 k0 f0 HB2 LS1
            go_split_ands
            have NL1 := NL
            have HB41 := HB4
            clear NL HB4
            obtain ⟨NV0, hNV0⟩ : ∃ u, (.slice (some ⟨gn, 0, none⟩) ((X 0).length + 1) cap : Value) = u := ⟨_, rfl⟩
            rw [hNV0] at NL1
            clear hNV0
            have hlt0 := hlt1
            go_wp2
            have LS2 : Lists3 wn1.drew g9 (updV v 0 NV0) (updV X 0 (X 0 ++ [y])) := (NL1.out).below (below_drewN (Below.refl _ _) 1 : Below wn1.heap.size wn1 wn1.drew)
            have hd0 : Below w3.heap.size w3 wn1.drew := below_drewN HB41.out 1
            have S0 : Below w3.heap.size w3 wn1.drew ∧ wn1.drew.cell? ⟨b1, o1 + j * 3, none⟩ = some (.int .i64 y.ts) ∧ wn1.drew.cell? ⟨b1, o1 + j * 3 + 1, none⟩ = some (.slice y.A y.n y.c) ∧ wn1.drew.cell? ⟨b1, o1 + j * 3 + 2, none⟩ = some (.string y.ln) := ⟨hd0, (hd0.cell (p := ⟨b1, o1 + j * 3, none⟩) hlt1).trans y1, (hd0.cell (p := ⟨b1, o1 + j * 3 + 1, none⟩) hlt1).trans y2, (hd0.cell (p := ⟨b1, o1 + j * 3 + 2, none⟩) hlt1).trans y3⟩
            clear hd0
            go_wp2
            refine wp_region_held_drew (S := fun w' => Below w3.heap.size w3 w' ∧ w'.cell? ⟨b1, o1 + j * 3, none⟩ = some (.int .i64 y.ts) ∧ w'.cell? ⟨b1, o1 + j * 3 + 1, none⟩ = some (.slice y.A y.n y.c) ∧ w'.cell? ⟨b1, o1 + j * 3 + 2, none⟩ = some (.string y.ln)) (by kernel_rfl) S0 (fun hHeld => ?_)
            obtain ⟨wd2, hwd2⟩ : ∃ z, wn1.drew = z := ⟨_, rfl⟩
            rw [hwd2] at LS2 S0 ⊢
            clear hwd2 hHeld
            refine wpAnyH_take (i := 0) (oi := { dst := some 56, op := Go.Op.move (Go.Operand.tmp 11), type := 3, pos := "keeps.go:25", after := #[], guard := none }) (v := ?_) rfl (by kernel_rfl) (by kernel_rfl) (by kernel_rfl) (fun _ _ _ h => h) (Or.inl ⟨by kernel_rfl, ?_⟩) (by assumption) ?_
            rotate_left
            · intro w _
              first | (go_simp; done) | (go_simp; with_reducible rfl)
            try simp only [Act.put, List.setIfInBounds_toArray, List.set_cons_zero, List.set_cons_succ]
            refine wpAnyH_take (i := 1) (oi := { dst := some 57, op := Go.Op.move (Go.Operand.tmp 11), type := 3, pos := "keeps.go:25", after := #[], guard := none }) (v := ?_) rfl (by kernel_rfl) (by kernel_rfl) (by kernel_rfl) (fun _ _ _ h => h) (Or.inl ⟨by kernel_rfl, ?_⟩) (by assumption) ?_
            rotate_left
            · intro w _
              first | (go_simp; done) | (go_simp; with_reducible rfl)
            try simp only [Act.put, List.setIfInBounds_toArray, List.set_cons_zero, List.set_cons_succ]
            refine wpAnyH_take (i := 2) (oi := { dst := some 58, op := Go.Op.indexAddr 59 (Go.Operand.tmp 9) (Go.Operand.tmp 57), type := 0, pos := "keeps.go:25", after := #[{ on := 1, ground := Go.Ground.data }], guard := none }) (v := ?_) rfl (by kernel_rfl) (by kernel_rfl) (by kernel_rfl) (fun _ _ _ h => h) (Or.inl ⟨by kernel_rfl, ?_⟩) (by assumption) ?_
            rotate_left
            · intro w _
              first | (go_simp; done) | (go_simp; with_reducible rfl)
            try simp only [Act.put, List.setIfInBounds_toArray, List.set_cons_zero, List.set_cons_succ]
            refine wpAnyH_take (i := 4) (oi := { dst := some 60, op := Go.Op.move (Go.Operand.tmp 8), type := 34, pos := "keeps.go:25", after := #[], guard := none }) (v := ?_) rfl (by kernel_rfl) (by kernel_rfl) (by kernel_rfl) (fun _ _ _ h => h) (Or.inl ⟨by kernel_rfl, ?_⟩) (by assumption) ?_
            rotate_left
            · intro w _
              first | (go_simp; done) | (go_simp; with_reducible rfl)
            try simp only [Act.put, List.setIfInBounds_toArray, List.set_cons_zero, List.set_cons_succ]
            refine wpAnyH_take (i := 5) (oi := { dst := some 61, op := Go.Op.move (Go.Operand.tmp 10), type := 3, pos := "keeps.go:25", after := #[], guard := none }) (v := ?_) rfl (by kernel_rfl) (by kernel_rfl) (by kernel_rfl) (fun _ _ _ h => h) (Or.inl ⟨by kernel_rfl, ?_⟩) (by assumption) ?_
            rotate_left
            · intro w _
              first | (go_simp; done) | (go_simp; with_reducible rfl)
            try simp only [Act.put, List.setIfInBounds_toArray, List.set_cons_zero, List.set_cons_succ]
            refine wpAnyH_take (i := 6) (oi := { dst := some 62, op := Go.Op.indexAddr 34 (Go.Operand.tmp 60) (Go.Operand.tmp 61), type := 0, pos := "keeps.go:25", after := #[{ on := 4, ground := Go.Ground.data }, { on := 5, ground := Go.Ground.data }], guard := none }) (v := ?_) rfl (by kernel_rfl) (by kernel_rfl) (by kernel_rfl) (fun _ _ _ h => h) (Or.inl ⟨by kernel_rfl, ?_⟩) (by assumption) ?_
            rotate_left
            · intro w _
              first | (go_simp; done) | (go_simp; with_reducible rfl)
            try simp only [Act.put, List.setIfInBounds_toArray, List.set_cons_zero, List.set_cons_succ]
            refine wpAnyH_take (i := 7) (oi := { dst := some 63, op := Go.Op.load 26 (Go.Operand.tmp 62), type := 26, pos := "keeps.go:25", after := #[{ on := 6, ground := Go.Ground.data }], guard := none }) (v := ?_) rfl (by kernel_rfl) (by kernel_rfl) (by kernel_rfl) (fun _ _ _ h => h) (Or.inl ⟨by kernel_rfl, ?_⟩) (by assumption) ?_
            rotate_left
            · intro w hSw
              (try dsimp only at hSw)
              go_split_ands
              first | (go_simp; done) | (go_simp; with_reducible rfl)
            try simp only [Act.put, List.setIfInBounds_toArray, List.set_cons_zero, List.set_cons_succ]
            refine wpAnyH_ready (rs := [3, 8]) (by kernel_rfl) (by simp) ?_
            refine AllReadyH.cons (o := { dst := some 59, op := Go.Op.load 34 (Go.Operand.tmp 58), type := 34, pos := "keeps.go:25", after := #[{ on := 2, ground := Go.Ground.data }], guard := none }) rfl (fun K hK => ?_) ?_
            ·
              have c0 : wd2.cell? ⟨g9, 2, none⟩ = some (updV v 0 NV0 2) := LS2.cell 2 (by decide)
              go_simp
              clear c0
              refine hK.out _ _ (by assumption) (fun _ => ?_)
              clear hK K
              try simp only [Act.put, List.setIfInBounds_toArray, List.set_cons_zero, List.set_cons_succ]
              refine wpAnyH_ready (rs := [8]) (by kernel_rfl) (by simp) ?_
              refine AllReadyH.cons (o := { dst := some 64, op := Go.Op.buildSlice 34 1 #[(0, Go.Operand.tmp 63)], type := 34, pos := "keeps.go:25", after := #[{ on := 7, ground := Go.Ground.data }], guard := none }) rfl (fun K hK => ?_) AllReadyH.nil
              go_simp
              have hb3 : Below wd2.heap.size wd2 (wd2.alloc (.cells #[.int .i64 y.ts, .slice y.A y.n y.c, .string y.ln] 26)) := (Below.refl _ _).alloc (Nat.le_refl _) _
              obtain ⟨g8, hg8⟩ : ∃ g, wd2.heap.size = g := ⟨_, rfl⟩
              have HN : BlkW (wd2.alloc (.cells #[.int .i64 y.ts, .slice y.A y.n y.c, .string y.ln] 26)) g8 26 #[.int .i64 y.ts, .slice y.A y.n y.c, .string y.ln] := by rw [← hg8]; exact Blk.new _ _ _
              obtain ⟨wr2x2, hwwr2x2⟩ : ∃ z, wd2.alloc (.cells #[.int .i64 y.ts, .slice y.A y.n y.c, .string y.ln] 26) = z := ⟨_, rfl⟩
              have Hb3 := Lib.hid hb3
              have HHN := Lib.hid HN
              clear hb3 HN
              rw [hwwr2x2] at Hb3 HHN
              rw [hwwr2x2, hg8]
              have hb3 := Hb3.out
              have HN := HHN.out
              clear hwwr2x2 Hb3 HHN hg8
              have LS2_ := LS2.below hb3
              clear LS2
              have LS2 := LS2_
              clear LS2_
              have Sr2x2 := HS.out _ _ (by assumption) hb3
              refine hK.out _ _ Sr2x2 (fun _ => ?_)
              clear hK K hb3
              try simp only [Act.put, List.setIfInBounds_toArray, List.set_cons_zero, List.set_cons_succ]
              refine wpAnyH_ready (rs := [9]) (by kernel_rfl) (by simp) ?_
              refine AllReadyH.cons (o := { dst := some 65, op := Go.Op.call { callee := Go.Callee.builtin Go.Builtin.append, args := #[Go.Operand.tmp 59, Go.Operand.tmp 64], argTypes := #[34, 34] }, type := 34, pos := "keeps.go:25", after := #[{ on := 3, ground := Go.Ground.data }, { on := 8, ground := Go.Ground.data }], guard := none }) rfl (fun K hK => ?_) AllReadyH.nil
              have hSb : Below w3.heap.size w3 wr2x2 := by go_split_ands; assumption
              refine step_append_lies _ (by rfl) (.tmp 59) (.tmp 64) 34 (by rfl) (g9 + 1) 26 i0 (.agg #[.int .i64 0, .slice none 0 0, .string ⟨#[]⟩]) 3 48 Try.underlying34 hi hz0 hz1 hz2 rfl (by decide) _ _ _ (by rfl) (LS2.own 2 (by decide)) ⟨_, 0, none⟩ 1 1 (EntX.V y) (by rfl) rfl (World.news_of_block HN) (entV_one _) (by omega) (by unfold maxLen; have := HLN.out 2 (by decide); rw [updV_other _ _ (by decide)]; omega) (by have := HLN.out 2 (by decide); rw [updV_other _ _ (by decide)]; omega) (by have := LS2.lt; omega) _ rfl ?_
              intro gn cap w2 hown' hgrow hg' hlt2
              have NL := Lib.hid (LS2.put (by decide) (OwnR.snoc (a := y) hown') hgrow rfl hg')
              obtain ⟨cs, bk1, bk2, bk3⟩ := LS2.grown (by decide) hgrow
              have k0 : w2.cell? ⟨g9, 2, none⟩ = some (updV v 0 NV0 2) := (bk1.cell 2).trans (bk3 2 (by decide))
              have f0 := bk1.frozen 2
              have hb2 := hSb.grown hgrow (by have := hSb.size; omega) (fun r hr => by have h1 := (World.ownsRow.lt (LS2.own 2 (by decide)) r hr).1; have h2 := HG9.out; omega)
              have HB2 := Lib.hid hb2
              have hS2 : Below w3.heap.size w3 w2 ∧ w2.cell? ⟨b1, o1 + j * 3, none⟩ = some (.int .i64 y.ts) ∧ w2.cell? ⟨b1, o1 + j * 3 + 1, none⟩ = some (.slice y.A y.n y.c) ∧ w2.cell? ⟨b1, o1 + j * 3 + 2, none⟩ = some (.string y.ln) := ⟨hb2, (hb2.cell (p := ⟨b1, o1 + j * 3, none⟩) hlt1).trans y1, (hb2.cell (p := ⟨b1, o1 + j * 3 + 1, none⟩) hlt1).trans y2, (hb2.cell (p := ⟨b1, o1 + j * 3 + 2, none⟩) hlt1).trans y3⟩
              clear bk1 bk2 bk3 hb2 hSb hown' hgrow hg' HN
              refine hK.out _ _ hS2 (fun _ => ?_)
              clear hK K
              try simp only [Act.put, List.setIfInBounds_toArray, List.set_cons_zero, List.set_cons_succ]
              refine wpAnyH_take (i := 10) (oi := { dst := some 66, op := Go.Op.indexAddr 59 (Go.Operand.tmp 9) (Go.Operand.tmp 56), type := 0, pos := "keeps.go:25", after := #[{ on := 0, ground := Go.Ground.data }, { on := 0, ground := Go.Ground.phase }, { on := 1, ground := Go.Ground.phase }, { on := 2, ground := Go.Ground.phase }, { on := 3, ground := Go.Ground.phase }, { on := 4, ground := Go.Ground.phase }, { on := 5, ground := Go.Ground.phase }, { on := 6, ground := Go.Ground.phase }, { on := 7, ground := Go.Ground.phase }, { on := 8, ground := Go.Ground.phase }, { on := 9, ground := Go.Ground.phase }], guard := none }) (v := ?_) rfl (by kernel_rfl) (by kernel_rfl) (by kernel_rfl) (fun _ _ _ h => h) (Or.inl ⟨by kernel_rfl, ?_⟩) (by assumption) ?_
              rotate_left
              · intro w _
                first | (go_simp; done) | (go_simp; with_reducible rfl)
              try simp only [Act.put, List.setIfInBounds_toArray, List.set_cons_zero, List.set_cons_succ]
              refine wpAnyH_ready (rs := [11]) (by kernel_rfl) (by simp) ?_
              refine AllReadyH.cons (o := { dst := none, op := Go.Op.store 34 (Go.Operand.tmp 66) (Go.Operand.tmp 65), type := 0, pos := "keeps.go:25", after := #[{ on := 10, ground := Go.Ground.data }, { on := 9, ground := Go.Ground.data }, { on := 9, ground := Go.Ground.chain }, { on := 0, ground := Go.Ground.phase }, { on := 1, ground := Go.Ground.phase }, { on := 2, ground := Go.Ground.phase }, { on := 3, ground := Go.Ground.phase }, { on := 4, ground := Go.Ground.phase }, { on := 5, ground := Go.Ground.phase }, { on := 6, ground := Go.Ground.phase }, { on := 7, ground := Go.Ground.phase }, { on := 8, ground := Go.Ground.phase }, { on := 9, ground := Go.Ground.phase }], guard := none }) rfl (fun K hK => ?_) AllReadyH.nil
              have hb4 : Below w3.heap.size w3 (w2.setCell ⟨g9, 2, none⟩ (.slice (some ⟨gn, 0, none⟩) (((updV X 0 (X 0 ++ [y]) 2).length) + 1) cap)) := HB2.out.setCell (p := ⟨g9, 2, none⟩) (show w3.heap.size ≤ g9 by have := HG9.out; omega) _
              have hS4 : Below w3.heap.size w3 (w2.setCell ⟨g9, 2, none⟩ (.slice (some ⟨gn, 0, none⟩) (((updV X 0 (X 0 ++ [y]) 2).length) + 1) cap)) ∧ (w2.setCell ⟨g9, 2, none⟩ (.slice (some ⟨gn, 0, none⟩) (((updV X 0 (X 0 ++ [y]) 2).length) + 1) cap)).cell? ⟨b1, o1 + j * 3, none⟩ = some (.int .i64 y.ts) ∧ (w2.setCell ⟨g9, 2, none⟩ (.slice (some ⟨gn, 0, none⟩) (((updV X 0 (X 0 ++ [y]) 2).length) + 1) cap)).cell? ⟨b1, o1 + j * 3 + 1, none⟩ = some (.slice y.A y.n y.c) ∧ (w2.setCell ⟨g9, 2, none⟩ (.slice (some ⟨gn, 0, none⟩) (((updV X 0 (X 0 ++ [y]) 2).length) + 1) cap)).cell? ⟨b1, o1 + j * 3 + 2, none⟩ = some (.string y.ln) := ⟨hb4, (hb4.cell (p := ⟨b1, o1 + j * 3, none⟩) hlt1).trans y1, (hb4.cell (p := ⟨b1, o1 + j * 3 + 1, none⟩) hlt1).trans y2, (hb4.cell (p := ⟨b1, o1 + j * 3 + 2, none⟩) hlt1).trans y3⟩
              have HB4 := Lib.hid hb4
              clear hb4
              go_simp
              refine hK.out _ _ hS4 (fun _ => ?_)
              clear hK K
              try simp only [Act.put, List.setIfInBounds_toArray, List.set_cons_zero, List.set_cons_succ]
              refine wpAnyH_done (by kernel_rfl) ?_ _
              obtain ⟨wn2, hwn2⟩ : ∃ z, w2.setCell ⟨g9, 2, none⟩ (.slice (some ⟨gn, 0, none⟩) (((updV X 0 (X 0 ++ [y]) 2).length) + 1) cap) = z := ⟨_, rfl⟩
              rw [hwn2] at NL HB4
              simp only [hwn2]
              clear hwn2 k0 f0 HB2 LS2
              go_split_ands
              have NSP := Lib.hid (HSP.out.put2 (k := 0) (m := 2) (by decide) (by decide) (by decide) HYQ.out)
              go_wp2
              go_round
              case rel => exact ⟨j + 1, _, _, by omega, by go_num, NL, NSP, HB4.out⟩
              case measure => simp [intOf]; omega
            refine AllReadyH.cons (o := { dst := some 64, op := Go.Op.buildSlice 34 1 #[(0, Go.Operand.tmp 63)], type := 34, pos := "keeps.go:25", after := #[{ on := 7, ground := Go.Ground.data }], guard := none }) rfl (fun K hK => ?_) AllReadyH.nil
            ·
              go_simp
              have hb3 : Below wd2.heap.size wd2 (wd2.alloc (.cells #[.int .i64 y.ts, .slice y.A y.n y.c, .string y.ln] 26)) := (Below.refl _ _).alloc (Nat.le_refl _) _
              obtain ⟨g8, hg8⟩ : ∃ g, wd2.heap.size = g := ⟨_, rfl⟩
              have HN : BlkW (wd2.alloc (.cells #[.int .i64 y.ts, .slice y.A y.n y.c, .string y.ln] 26)) g8 26 #[.int .i64 y.ts, .slice y.A y.n y.c, .string y.ln] := by rw [← hg8]; exact Blk.new _ _ _
              obtain ⟨wr2x5, hwwr2x5⟩ : ∃ z, wd2.alloc (.cells #[.int .i64 y.ts, .slice y.A y.n y.c, .string y.ln] 26) = z := ⟨_, rfl⟩
              have Hb3 := Lib.hid hb3
              have HHN := Lib.hid HN
              clear hb3 HN
              rw [hwwr2x5] at Hb3 HHN
              rw [hwwr2x5, hg8]
              have hb3 := Hb3.out
              have HN := HHN.out
              clear hwwr2x5 Hb3 HHN hg8
              have LS2_ := LS2.below hb3
              clear LS2
              have LS2 := LS2_
              clear LS2_
              have Sr2x5 := HS.out _ _ (by assumption) hb3
              refine hK.out _ _ Sr2x5 (fun _ => ?_)
              clear hK K hb3
              try simp only [Act.put, List.setIfInBounds_toArray, List.set_cons_zero, List.set_cons_succ]
              refine wpAnyH_ready (rs := [3]) (by kernel_rfl) (by simp) ?_
              refine AllReadyH.cons (o := { dst := some 59, op := Go.Op.load 34 (Go.Operand.tmp 58), type := 34, pos := "keeps.go:25", after := #[{ on := 2, ground := Go.Ground.data }], guard := none }) rfl (fun K hK => ?_) AllReadyH.nil
              have c0 : wr2x5.cell? ⟨g9, 2, none⟩ = some (updV v 0 NV0 2) := LS2.cell 2 (by decide)
              go_simp
              clear c0
              refine hK.out _ _ (by assumption) (fun _ => ?_)
              clear hK K
              try simp only [Act.put, List.setIfInBounds_toArray, List.set_cons_zero, List.set_cons_succ]
              refine wpAnyH_ready (rs := [9]) (by kernel_rfl) (by simp) ?_
              refine AllReadyH.cons (o := { dst := some 65, op := Go.Op.call { callee := Go.Callee.builtin Go.Builtin.append, args := #[Go.Operand.tmp 59, Go.Operand.tmp 64], argTypes := #[34, 34] }, type := 34, pos := "keeps.go:25", after := #[{ on := 3, ground := Go.Ground.data }, { on := 8, ground := Go.Ground.data }], guard := none }) rfl (fun K hK => ?_) AllReadyH.nil
              have hSb : Below w3.heap.size w3 wr2x5 := by go_split_ands; assumption
              refine step_append_lies _ (by rfl) (.tmp 59) (.tmp 64) 34 (by rfl) (g9 + 1) 26 i0 (.agg #[.int .i64 0, .slice none 0 0, .string ⟨#[]⟩]) 3 48 Try.underlying34 hi hz0 hz1 hz2 rfl (by decide) _ _ _ (by rfl) (LS2.own 2 (by decide)) ⟨_, 0, none⟩ 1 1 (EntX.V y) (by rfl) rfl (World.news_of_block HN) (entV_one _) (by omega) (by unfold maxLen; have := HLN.out 2 (by decide); rw [updV_other _ _ (by decide)]; omega) (by have := HLN.out 2 (by decide); rw [updV_other _ _ (by decide)]; omega) (by have := LS2.lt; omega) _ rfl ?_
              intro gn cap w2 hown' hgrow hg' hlt2
              have NL := Lib.hid (LS2.put (by decide) (OwnR.snoc (a := y) hown') hgrow rfl hg')
              obtain ⟨cs, bk1, bk2, bk3⟩ := LS2.grown (by decide) hgrow
              have k0 : w2.cell? ⟨g9, 2, none⟩ = some (updV v 0 NV0 2) := (bk1.cell 2).trans (bk3 2 (by decide))
              have f0 := bk1.frozen 2
              have hb2 := hSb.grown hgrow (by have := hSb.size; omega) (fun r hr => by have h1 := (World.ownsRow.lt (LS2.own 2 (by decide)) r hr).1; have h2 := HG9.out; omega)
              have HB2 := Lib.hid hb2
              have hS2 : Below w3.heap.size w3 w2 ∧ w2.cell? ⟨b1, o1 + j * 3, none⟩ = some (.int .i64 y.ts) ∧ w2.cell? ⟨b1, o1 + j * 3 + 1, none⟩ = some (.slice y.A y.n y.c) ∧ w2.cell? ⟨b1, o1 + j * 3 + 2, none⟩ = some (.string y.ln) := ⟨hb2, (hb2.cell (p := ⟨b1, o1 + j * 3, none⟩) hlt1).trans y1, (hb2.cell (p := ⟨b1, o1 + j * 3 + 1, none⟩) hlt1).trans y2, (hb2.cell (p := ⟨b1, o1 + j * 3 + 2, none⟩) hlt1).trans y3⟩
              clear bk1 bk2 bk3 hb2 hSb hown' hgrow hg' HN
              refine hK.out _ _ hS2 (fun _ => ?_)
              clear hK K
              try simp only [Act.put, List.setIfInBounds_toArray, List.set_cons_zero, List.set_cons_succ]
              refine wpAnyH_take (i := 10) (oi := { dst := some 66, op := Go.Op.indexAddr 59 (Go.Operand.tmp 9) (Go.Operand.tmp 56), type := 0, pos := "keeps.go:25", after := #[{ on := 0, ground := Go.Ground.data }, { on := 0, ground := Go.Ground.phase }, { on := 1, ground := Go.Ground.phase }, { on := 2, ground := Go.Ground.phase }, { on := 3, ground := Go.Ground.phase }, { on := 4, ground := Go.Ground.phase }, { on := 5, ground := Go.Ground.phase }, { on := 6, ground := Go.Ground.phase }, { on := 7, ground := Go.Ground.phase }, { on := 8, ground := Go.Ground.phase }, { on := 9, ground := Go.Ground.phase }], guard := none }) (v := ?_) rfl (by kernel_rfl) (by kernel_rfl) (by kernel_rfl) (fun _ _ _ h => h) (Or.inl ⟨by kernel_rfl, ?_⟩) (by assumption) ?_
              rotate_left
              · intro w _
                first | (go_simp; done) | (go_simp; with_reducible rfl)
              try simp only [Act.put, List.setIfInBounds_toArray, List.set_cons_zero, List.set_cons_succ]
              refine wpAnyH_ready (rs := [11]) (by kernel_rfl) (by simp) ?_
              refine AllReadyH.cons (o := { dst := none, op := Go.Op.store 34 (Go.Operand.tmp 66) (Go.Operand.tmp 65), type := 0, pos := "keeps.go:25", after := #[{ on := 10, ground := Go.Ground.data }, { on := 9, ground := Go.Ground.data }, { on := 9, ground := Go.Ground.chain }, { on := 0, ground := Go.Ground.phase }, { on := 1, ground := Go.Ground.phase }, { on := 2, ground := Go.Ground.phase }, { on := 3, ground := Go.Ground.phase }, { on := 4, ground := Go.Ground.phase }, { on := 5, ground := Go.Ground.phase }, { on := 6, ground := Go.Ground.phase }, { on := 7, ground := Go.Ground.phase }, { on := 8, ground := Go.Ground.phase }, { on := 9, ground := Go.Ground.phase }], guard := none }) rfl (fun K hK => ?_) AllReadyH.nil
              have hb4 : Below w3.heap.size w3 (w2.setCell ⟨g9, 2, none⟩ (.slice (some ⟨gn, 0, none⟩) (((updV X 0 (X 0 ++ [y]) 2).length) + 1) cap)) := HB2.out.setCell (p := ⟨g9, 2, none⟩) (show w3.heap.size ≤ g9 by have := HG9.out; omega) _
              have hS4 : Below w3.heap.size w3 (w2.setCell ⟨g9, 2, none⟩ (.slice (some ⟨gn, 0, none⟩) (((updV X 0 (X 0 ++ [y]) 2).length) + 1) cap)) ∧ (w2.setCell ⟨g9, 2, none⟩ (.slice (some ⟨gn, 0, none⟩) (((updV X 0 (X 0 ++ [y]) 2).length) + 1) cap)).cell? ⟨b1, o1 + j * 3, none⟩ = some (.int .i64 y.ts) ∧ (w2.setCell ⟨g9, 2, none⟩ (.slice (some ⟨gn, 0, none⟩) (((updV X 0 (X 0 ++ [y]) 2).length) + 1) cap)).cell? ⟨b1, o1 + j * 3 + 1, none⟩ = some (.slice y.A y.n y.c) ∧ (w2.setCell ⟨g9, 2, none⟩ (.slice (some ⟨gn, 0, none⟩) (((updV X 0 (X 0 ++ [y]) 2).length) + 1) cap)).cell? ⟨b1, o1 + j * 3 + 2, none⟩ = some (.string y.ln) := ⟨hb4, (hb4.cell (p := ⟨b1, o1 + j * 3, none⟩) hlt1).trans y1, (hb4.cell (p := ⟨b1, o1 + j * 3 + 1, none⟩) hlt1).trans y2, (hb4.cell (p := ⟨b1, o1 + j * 3 + 2, none⟩) hlt1).trans y3⟩
              have HB4 := Lib.hid hb4
              clear hb4
              go_simp
              refine hK.out _ _ hS4 (fun _ => ?_)
              clear hK K
              try simp only [Act.put, List.setIfInBounds_toArray, List.set_cons_zero, List.set_cons_succ]
              refine wpAnyH_done (by kernel_rfl) ?_ _
              obtain ⟨wn2, hwn2⟩ : ∃ z, w2.setCell ⟨g9, 2, none⟩ (.slice (some ⟨gn, 0, none⟩) (((updV X 0 (X 0 ++ [y]) 2).length) + 1) cap) = z := ⟨_, rfl⟩
              rw [hwn2] at NL HB4
              simp only [hwn2]
              clear hwn2 k0 f0 HB2 LS2
              go_split_ands
              have NSP := Lib.hid (HSP.out.put2 (k := 0) (m := 2) (by decide) (by decide) (by decide) HYQ.out)
              go_wp2
              go_round
              case rel => exact ⟨j + 1, _, _, by omega, by go_num, NL, NSP, HB4.out⟩
              case measure => simp [intOf]; omega
        · have hne3 : ¬ ((q : Int) = 3) := by omega
          have hne4 : ((q : Int) == 3) = false := by rw [beq_eq_false_iff_ne]; exact hne3
          have hne5 : ¬ (q = 3) := by omega
          have hqI : (q : Int) < 3 := by omega
          have hqI0 : (0 : Int) ≤ (q : Int) := by omega
          go_wp2
          have LS3 : Lists3 wr.drew g9 (v) (X) := (HLS.out).below (below_drewN (Below.refl _ _) 1 : Below wr.heap.size wr wr.drew)
          have hd0 : Below w3.heap.size w3 wr.drew := below_drewN HHB.out 1
          have S0 : Below w3.heap.size w3 wr.drew ∧ wr.drew.cell? ⟨b1, o1 + j * 3, none⟩ = some (.int .i64 y.ts) ∧ wr.drew.cell? ⟨b1, o1 + j * 3 + 1, none⟩ = some (.slice y.A y.n y.c) ∧ wr.drew.cell? ⟨b1, o1 + j * 3 + 2, none⟩ = some (.string y.ln) := ⟨hd0, (hd0.cell (p := ⟨b1, o1 + j * 3, none⟩) hlt1).trans y1, (hd0.cell (p := ⟨b1, o1 + j * 3 + 1, none⟩) hlt1).trans y2, (hd0.cell (p := ⟨b1, o1 + j * 3 + 2, none⟩) hlt1).trans y3⟩
          clear hd0
          go_wp2
          refine wp_region_held_drew (S := fun w' => Below w3.heap.size w3 w' ∧ w'.cell? ⟨b1, o1 + j * 3, none⟩ = some (.int .i64 y.ts) ∧ w'.cell? ⟨b1, o1 + j * 3 + 1, none⟩ = some (.slice y.A y.n y.c) ∧ w'.cell? ⟨b1, o1 + j * 3 + 2, none⟩ = some (.string y.ln)) (by kernel_rfl) S0 (fun hHeld => ?_)
          obtain ⟨wd3, hwd3⟩ : ∃ z, wr.drew = z := ⟨_, rfl⟩
          rw [hwd3] at LS3 S0 ⊢
          clear hwd3 hHeld
          refine wpAnyH_take (i := 0) (oi := { dst := some 56, op := Go.Op.move (Go.Operand.tmp 11), type := 3, pos := "keeps.go:25", after := #[], guard := none }) (v := ?_) rfl (by kernel_rfl) (by kernel_rfl) (by kernel_rfl) (fun _ _ _ h => h) (Or.inl ⟨by kernel_rfl, ?_⟩) (by assumption) ?_
          rotate_left
          · intro w _
            first | (go_simp; done) | (go_simp; with_reducible rfl)
          try simp only [Act.put, List.setIfInBounds_toArray, List.set_cons_zero, List.set_cons_succ]
          refine wpAnyH_take (i := 1) (oi := { dst := some 57, op := Go.Op.move (Go.Operand.tmp 11), type := 3, pos := "keeps.go:25", after := #[], guard := none }) (v := ?_) rfl (by kernel_rfl) (by kernel_rfl) (by kernel_rfl) (fun _ _ _ h => h) (Or.inl ⟨by kernel_rfl, ?_⟩) (by assumption) ?_
          rotate_left
          · intro w _
            first | (go_simp; done) | (go_simp; with_reducible rfl)
          try simp only [Act.put, List.setIfInBounds_toArray, List.set_cons_zero, List.set_cons_succ]
          refine wpAnyH_take (i := 2) (oi := { dst := some 58, op := Go.Op.indexAddr 59 (Go.Operand.tmp 9) (Go.Operand.tmp 57), type := 0, pos := "keeps.go:25", after := #[{ on := 1, ground := Go.Ground.data }], guard := none }) (v := ?_) rfl (by kernel_rfl) (by kernel_rfl) (by kernel_rfl) (fun _ _ _ h => h) (Or.inl ⟨by kernel_rfl, ?_⟩) (by assumption) ?_
          rotate_left
          · intro w _
            first | (go_simp; done) | (go_simp; with_reducible rfl)
          try simp only [Act.put, List.setIfInBounds_toArray, List.set_cons_zero, List.set_cons_succ]
          refine wpAnyH_take (i := 4) (oi := { dst := some 60, op := Go.Op.move (Go.Operand.tmp 8), type := 34, pos := "keeps.go:25", after := #[], guard := none }) (v := ?_) rfl (by kernel_rfl) (by kernel_rfl) (by kernel_rfl) (fun _ _ _ h => h) (Or.inl ⟨by kernel_rfl, ?_⟩) (by assumption) ?_
          rotate_left
          · intro w _
            first | (go_simp; done) | (go_simp; with_reducible rfl)
          try simp only [Act.put, List.setIfInBounds_toArray, List.set_cons_zero, List.set_cons_succ]
          refine wpAnyH_take (i := 5) (oi := { dst := some 61, op := Go.Op.move (Go.Operand.tmp 10), type := 3, pos := "keeps.go:25", after := #[], guard := none }) (v := ?_) rfl (by kernel_rfl) (by kernel_rfl) (by kernel_rfl) (fun _ _ _ h => h) (Or.inl ⟨by kernel_rfl, ?_⟩) (by assumption) ?_
          rotate_left
          · intro w _
            first | (go_simp; done) | (go_simp; with_reducible rfl)
          try simp only [Act.put, List.setIfInBounds_toArray, List.set_cons_zero, List.set_cons_succ]
          refine wpAnyH_take (i := 6) (oi := { dst := some 62, op := Go.Op.indexAddr 34 (Go.Operand.tmp 60) (Go.Operand.tmp 61), type := 0, pos := "keeps.go:25", after := #[{ on := 4, ground := Go.Ground.data }, { on := 5, ground := Go.Ground.data }], guard := none }) (v := ?_) rfl (by kernel_rfl) (by kernel_rfl) (by kernel_rfl) (fun _ _ _ h => h) (Or.inl ⟨by kernel_rfl, ?_⟩) (by assumption) ?_
          rotate_left
          · intro w _
            first | (go_simp; done) | (go_simp; with_reducible rfl)
          try simp only [Act.put, List.setIfInBounds_toArray, List.set_cons_zero, List.set_cons_succ]
          refine wpAnyH_take (i := 7) (oi := { dst := some 63, op := Go.Op.load 26 (Go.Operand.tmp 62), type := 26, pos := "keeps.go:25", after := #[{ on := 6, ground := Go.Ground.data }], guard := none }) (v := ?_) rfl (by kernel_rfl) (by kernel_rfl) (by kernel_rfl) (fun _ _ _ h => h) (Or.inl ⟨by kernel_rfl, ?_⟩) (by assumption) ?_
          rotate_left
          · intro w hSw
            (try dsimp only at hSw)
            go_split_ands
            first | (go_simp; done) | (go_simp; with_reducible rfl)
          try simp only [Act.put, List.setIfInBounds_toArray, List.set_cons_zero, List.set_cons_succ]
          refine wpAnyH_ready (rs := [3, 8]) (by kernel_rfl) (by simp) ?_
          refine AllReadyH.cons (o := { dst := some 59, op := Go.Op.load 34 (Go.Operand.tmp 58), type := 34, pos := "keeps.go:25", after := #[{ on := 2, ground := Go.Ground.data }], guard := none }) rfl (fun K hK => ?_) ?_
          ·
            have c0 : wd3.cell? ⟨g9, q, none⟩ = some (v q) := LS3.cell q hq3
            go_simp
            clear c0
            refine hK.out _ _ (by assumption) (fun _ => ?_)
            clear hK K
            try simp only [Act.put, List.setIfInBounds_toArray, List.set_cons_zero, List.set_cons_succ]
            refine wpAnyH_ready (rs := [8]) (by kernel_rfl) (by simp) ?_
            refine AllReadyH.cons (o := { dst := some 64, op := Go.Op.buildSlice 34 1 #[(0, Go.Operand.tmp 63)], type := 34, pos := "keeps.go:25", after := #[{ on := 7, ground := Go.Ground.data }], guard := none }) rfl (fun K hK => ?_) AllReadyH.nil
            go_simp
            have hb3 : Below wd3.heap.size wd3 (wd3.alloc (.cells #[.int .i64 y.ts, .slice y.A y.n y.c, .string y.ln] 26)) := (Below.refl _ _).alloc (Nat.le_refl _) _
            obtain ⟨g8, hg8⟩ : ∃ g, wd3.heap.size = g := ⟨_, rfl⟩
            have HN : BlkW (wd3.alloc (.cells #[.int .i64 y.ts, .slice y.A y.n y.c, .string y.ln] 26)) g8 26 #[.int .i64 y.ts, .slice y.A y.n y.c, .string y.ln] := by rw [← hg8]; exact Blk.new _ _ _
            obtain ⟨wr3x2, hwwr3x2⟩ : ∃ z, wd3.alloc (.cells #[.int .i64 y.ts, .slice y.A y.n y.c, .string y.ln] 26) = z := ⟨_, rfl⟩
            have Hb3 := Lib.hid hb3
            have HHN := Lib.hid HN
            clear hb3 HN
            rw [hwwr3x2] at Hb3 HHN
            rw [hwwr3x2, hg8]
            have hb3 := Hb3.out
            have HN := HHN.out
            clear hwwr3x2 Hb3 HHN hg8
            have LS3_ := LS3.below hb3
            clear LS3
            have LS3 := LS3_
            clear LS3_
            have Sr3x2 := HS.out _ _ (by assumption) hb3
            refine hK.out _ _ Sr3x2 (fun _ => ?_)
            clear hK K hb3
            try simp only [Act.put, List.setIfInBounds_toArray, List.set_cons_zero, List.set_cons_succ]
            refine wpAnyH_ready (rs := [9]) (by kernel_rfl) (by simp) ?_
            refine AllReadyH.cons (o := { dst := some 65, op := Go.Op.call { callee := Go.Callee.builtin Go.Builtin.append, args := #[Go.Operand.tmp 59, Go.Operand.tmp 64], argTypes := #[34, 34] }, type := 34, pos := "keeps.go:25", after := #[{ on := 3, ground := Go.Ground.data }, { on := 8, ground := Go.Ground.data }], guard := none }) rfl (fun K hK => ?_) AllReadyH.nil
            have hSb : Below w3.heap.size w3 wr3x2 := by go_split_ands; assumption
            refine step_append_lies _ (by rfl) (.tmp 59) (.tmp 64) 34 (by rfl) (g9 + 1) 26 i0 (.agg #[.int .i64 0, .slice none 0 0, .string ⟨#[]⟩]) 3 48 Try.underlying34 hi hz0 hz1 hz2 rfl (by decide) _ _ _ (by rfl) (LS3.own q hq3) ⟨_, 0, none⟩ 1 1 (EntX.V y) (by rfl) rfl (World.news_of_block HN) (entV_one _) (by omega) (by unfold maxLen; have := HLN.out q hq3; omega) (by have := HLN.out q hq3; omega) (by have := LS3.lt; omega) _ rfl ?_
            intro gn cap w2 hown' hgrow hg' hlt2
            have NL := Lib.hid (LS3.put hq3 (OwnR.snoc (a := y) hown') hgrow rfl hg')
            obtain ⟨cs, bk1, bk2, bk3⟩ := LS3.grown hq3 hgrow
            have k0 : w2.cell? ⟨g9, q, none⟩ = some (v q) := (bk1.cell q).trans (bk3 q hq3)
            have f0 := bk1.frozen q
            have hb2 := hSb.grown hgrow (by have := hSb.size; omega) (fun r hr => by have h1 := (World.ownsRow.lt (LS3.own q hq3) r hr).1; have h2 := HG9.out; omega)
            have HB2 := Lib.hid hb2
            have hS2 : Below w3.heap.size w3 w2 ∧ w2.cell? ⟨b1, o1 + j * 3, none⟩ = some (.int .i64 y.ts) ∧ w2.cell? ⟨b1, o1 + j * 3 + 1, none⟩ = some (.slice y.A y.n y.c) ∧ w2.cell? ⟨b1, o1 + j * 3 + 2, none⟩ = some (.string y.ln) := ⟨hb2, (hb2.cell (p := ⟨b1, o1 + j * 3, none⟩) hlt1).trans y1, (hb2.cell (p := ⟨b1, o1 + j * 3 + 1, none⟩) hlt1).trans y2, (hb2.cell (p := ⟨b1, o1 + j * 3 + 2, none⟩) hlt1).trans y3⟩
            clear bk1 bk2 bk3 hb2 hSb hown' hgrow hg' HN
            refine hK.out _ _ hS2 (fun _ => ?_)
            clear hK K
            try simp only [Act.put, List.setIfInBounds_toArray, List.set_cons_zero, List.set_cons_succ]
            refine wpAnyH_take (i := 10) (oi := { dst := some 66, op := Go.Op.indexAddr 59 (Go.Operand.tmp 9) (Go.Operand.tmp 56), type := 0, pos := "keeps.go:25", after := #[{ on := 0, ground := Go.Ground.data }, { on := 0, ground := Go.Ground.phase }, { on := 1, ground := Go.Ground.phase }, { on := 2, ground := Go.Ground.phase }, { on := 3, ground := Go.Ground.phase }, { on := 4, ground := Go.Ground.phase }, { on := 5, ground := Go.Ground.phase }, { on := 6, ground := Go.Ground.phase }, { on := 7, ground := Go.Ground.phase }, { on := 8, ground := Go.Ground.phase }, { on := 9, ground := Go.Ground.phase }], guard := none }) (v := ?_) rfl (by kernel_rfl) (by kernel_rfl) (by kernel_rfl) (fun _ _ _ h => h) (Or.inl ⟨by kernel_rfl, ?_⟩) (by assumption) ?_
            rotate_left
            · intro w _
              first | (go_simp; done) | (go_simp; with_reducible rfl)
            try simp only [Act.put, List.setIfInBounds_toArray, List.set_cons_zero, List.set_cons_succ]
            refine wpAnyH_ready (rs := [11]) (by kernel_rfl) (by simp) ?_
            refine AllReadyH.cons (o := { dst := none, op := Go.Op.store 34 (Go.Operand.tmp 66) (Go.Operand.tmp 65), type := 0, pos := "keeps.go:25", after := #[{ on := 10, ground := Go.Ground.data }, { on := 9, ground := Go.Ground.data }, { on := 9, ground := Go.Ground.chain }, { on := 0, ground := Go.Ground.phase }, { on := 1, ground := Go.Ground.phase }, { on := 2, ground := Go.Ground.phase }, { on := 3, ground := Go.Ground.phase }, { on := 4, ground := Go.Ground.phase }, { on := 5, ground := Go.Ground.phase }, { on := 6, ground := Go.Ground.phase }, { on := 7, ground := Go.Ground.phase }, { on := 8, ground := Go.Ground.phase }, { on := 9, ground := Go.Ground.phase }], guard := none }) rfl (fun K hK => ?_) AllReadyH.nil
            have hb4 : Below w3.heap.size w3 (w2.setCell ⟨g9, q, none⟩ (.slice (some ⟨gn, 0, none⟩) (((X q).length) + 1) cap)) := HB2.out.setCell (p := ⟨g9, q, none⟩) (show w3.heap.size ≤ g9 by have := HG9.out; omega) _
            have hS4 : Below w3.heap.size w3 (w2.setCell ⟨g9, q, none⟩ (.slice (some ⟨gn, 0, none⟩) (((X q).length) + 1) cap)) ∧ (w2.setCell ⟨g9, q, none⟩ (.slice (some ⟨gn, 0, none⟩) (((X q).length) + 1) cap)).cell? ⟨b1, o1 + j * 3, none⟩ = some (.int .i64 y.ts) ∧ (w2.setCell ⟨g9, q, none⟩ (.slice (some ⟨gn, 0, none⟩) (((X q).length) + 1) cap)).cell? ⟨b1, o1 + j * 3 + 1, none⟩ = some (.slice y.A y.n y.c) ∧ (w2.setCell ⟨g9, q, none⟩ (.slice (some ⟨gn, 0, none⟩) (((X q).length) + 1) cap)).cell? ⟨b1, o1 + j * 3 + 2, none⟩ = some (.string y.ln) := ⟨hb4, (hb4.cell (p := ⟨b1, o1 + j * 3, none⟩) hlt1).trans y1, (hb4.cell (p := ⟨b1, o1 + j * 3 + 1, none⟩) hlt1).trans y2, (hb4.cell (p := ⟨b1, o1 + j * 3 + 2, none⟩) hlt1).trans y3⟩
            have HB4 := Lib.hid hb4
            clear hb4
            go_simp
            refine hK.out _ _ hS4 (fun _ => ?_)
            clear hK K
            try simp only [Act.put, List.setIfInBounds_toArray, List.set_cons_zero, List.set_cons_succ]
            refine wpAnyH_done (by kernel_rfl) ?_ _
            obtain ⟨wn3, hwn3⟩ : ∃ z, w2.setCell ⟨g9, q, none⟩ (.slice (some ⟨gn, 0, none⟩) (((X q).length) + 1) cap) = z := ⟨_, rfl⟩
            rw [hwn3] at NL HB4
            simp only [hwn3]
            clear hwn3 k0 f0 HB2 LS3
            go_split_ands
            have NSP := Lib.hid (HSP.out.put (k := q) hq3 HYQ.out)
            go_wp2
            go_round
            case rel => exact ⟨j + 1, _, _, by omega, by go_num, NL, NSP, HB4.out⟩
            case measure => simp [intOf]; omega
          refine AllReadyH.cons (o := { dst := some 64, op := Go.Op.buildSlice 34 1 #[(0, Go.Operand.tmp 63)], type := 34, pos := "keeps.go:25", after := #[{ on := 7, ground := Go.Ground.data }], guard := none }) rfl (fun K hK => ?_) AllReadyH.nil
          ·
            go_simp
            have hb3 : Below wd3.heap.size wd3 (wd3.alloc (.cells #[.int .i64 y.ts, .slice y.A y.n y.c, .string y.ln] 26)) := (Below.refl _ _).alloc (Nat.le_refl _) _
            obtain ⟨g8, hg8⟩ : ∃ g, wd3.heap.size = g := ⟨_, rfl⟩
            have HN : BlkW (wd3.alloc (.cells #[.int .i64 y.ts, .slice y.A y.n y.c, .string y.ln] 26)) g8 26 #[.int .i64 y.ts, .slice y.A y.n y.c, .string y.ln] := by rw [← hg8]; exact Blk.new _ _ _
            obtain ⟨wr3x5, hwwr3x5⟩ : ∃ z, wd3.alloc (.cells #[.int .i64 y.ts, .slice y.A y.n y.c, .string y.ln] 26) = z := ⟨_, rfl⟩
            have Hb3 := Lib.hid hb3
            have HHN := Lib.hid HN
            clear hb3 HN
            rw [hwwr3x5] at Hb3 HHN
            rw [hwwr3x5, hg8]
            have hb3 := Hb3.out
            have HN := HHN.out
            clear hwwr3x5 Hb3 HHN hg8
            have LS3_ := LS3.below hb3
            clear LS3
            have LS3 := LS3_
            clear LS3_
            have Sr3x5 := HS.out _ _ (by assumption) hb3
            refine hK.out _ _ Sr3x5 (fun _ => ?_)
            clear hK K hb3
            try simp only [Act.put, List.setIfInBounds_toArray, List.set_cons_zero, List.set_cons_succ]
            refine wpAnyH_ready (rs := [3]) (by kernel_rfl) (by simp) ?_
            refine AllReadyH.cons (o := { dst := some 59, op := Go.Op.load 34 (Go.Operand.tmp 58), type := 34, pos := "keeps.go:25", after := #[{ on := 2, ground := Go.Ground.data }], guard := none }) rfl (fun K hK => ?_) AllReadyH.nil
            have c0 : wr3x5.cell? ⟨g9, q, none⟩ = some (v q) := LS3.cell q hq3
            go_simp
            clear c0
            refine hK.out _ _ (by assumption) (fun _ => ?_)
            clear hK K
            try simp only [Act.put, List.setIfInBounds_toArray, List.set_cons_zero, List.set_cons_succ]
            refine wpAnyH_ready (rs := [9]) (by kernel_rfl) (by simp) ?_
            refine AllReadyH.cons (o := { dst := some 65, op := Go.Op.call { callee := Go.Callee.builtin Go.Builtin.append, args := #[Go.Operand.tmp 59, Go.Operand.tmp 64], argTypes := #[34, 34] }, type := 34, pos := "keeps.go:25", after := #[{ on := 3, ground := Go.Ground.data }, { on := 8, ground := Go.Ground.data }], guard := none }) rfl (fun K hK => ?_) AllReadyH.nil
            have hSb : Below w3.heap.size w3 wr3x5 := by go_split_ands; assumption
            refine step_append_lies _ (by rfl) (.tmp 59) (.tmp 64) 34 (by rfl) (g9 + 1) 26 i0 (.agg #[.int .i64 0, .slice none 0 0, .string ⟨#[]⟩]) 3 48 Try.underlying34 hi hz0 hz1 hz2 rfl (by decide) _ _ _ (by rfl) (LS3.own q hq3) ⟨_, 0, none⟩ 1 1 (EntX.V y) (by rfl) rfl (World.news_of_block HN) (entV_one _) (by omega) (by unfold maxLen; have := HLN.out q hq3; omega) (by have := HLN.out q hq3; omega) (by have := LS3.lt; omega) _ rfl ?_
            intro gn cap w2 hown' hgrow hg' hlt2
            have NL := Lib.hid (LS3.put hq3 (OwnR.snoc (a := y) hown') hgrow rfl hg')
            obtain ⟨cs, bk1, bk2, bk3⟩ := LS3.grown hq3 hgrow
            have k0 : w2.cell? ⟨g9, q, none⟩ = some (v q) := (bk1.cell q).trans (bk3 q hq3)
            have f0 := bk1.frozen q
            have hb2 := hSb.grown hgrow (by have := hSb.size; omega) (fun r hr => by have h1 := (World.ownsRow.lt (LS3.own q hq3) r hr).1; have h2 := HG9.out; omega)
            have HB2 := Lib.hid hb2
            have hS2 : Below w3.heap.size w3 w2 ∧ w2.cell? ⟨b1, o1 + j * 3, none⟩ = some (.int .i64 y.ts) ∧ w2.cell? ⟨b1, o1 + j * 3 + 1, none⟩ = some (.slice y.A y.n y.c) ∧ w2.cell? ⟨b1, o1 + j * 3 + 2, none⟩ = some (.string y.ln) := ⟨hb2, (hb2.cell (p := ⟨b1, o1 + j * 3, none⟩) hlt1).trans y1, (hb2.cell (p := ⟨b1, o1 + j * 3 + 1, none⟩) hlt1).trans y2, (hb2.cell (p := ⟨b1, o1 + j * 3 + 2, none⟩) hlt1).trans y3⟩
            clear bk1 bk2 bk3 hb2 hSb hown' hgrow hg' HN
            refine hK.out _ _ hS2 (fun _ => ?_)
            clear hK K
            try simp only [Act.put, List.setIfInBounds_toArray, List.set_cons_zero, List.set_cons_succ]
            refine wpAnyH_take (i := 10) (oi := { dst := some 66, op := Go.Op.indexAddr 59 (Go.Operand.tmp 9) (Go.Operand.tmp 56), type := 0, pos := "keeps.go:25", after := #[{ on := 0, ground := Go.Ground.data }, { on := 0, ground := Go.Ground.phase }, { on := 1, ground := Go.Ground.phase }, { on := 2, ground := Go.Ground.phase }, { on := 3, ground := Go.Ground.phase }, { on := 4, ground := Go.Ground.phase }, { on := 5, ground := Go.Ground.phase }, { on := 6, ground := Go.Ground.phase }, { on := 7, ground := Go.Ground.phase }, { on := 8, ground := Go.Ground.phase }, { on := 9, ground := Go.Ground.phase }], guard := none }) (v := ?_) rfl (by kernel_rfl) (by kernel_rfl) (by kernel_rfl) (fun _ _ _ h => h) (Or.inl ⟨by kernel_rfl, ?_⟩) (by assumption) ?_
            rotate_left
            · intro w _
              first | (go_simp; done) | (go_simp; with_reducible rfl)
            try simp only [Act.put, List.setIfInBounds_toArray, List.set_cons_zero, List.set_cons_succ]
            refine wpAnyH_ready (rs := [11]) (by kernel_rfl) (by simp) ?_
            refine AllReadyH.cons (o := { dst := none, op := Go.Op.store 34 (Go.Operand.tmp 66) (Go.Operand.tmp 65), type := 0, pos := "keeps.go:25", after := #[{ on := 10, ground := Go.Ground.data }, { on := 9, ground := Go.Ground.data }, { on := 9, ground := Go.Ground.chain }, { on := 0, ground := Go.Ground.phase }, { on := 1, ground := Go.Ground.phase }, { on := 2, ground := Go.Ground.phase }, { on := 3, ground := Go.Ground.phase }, { on := 4, ground := Go.Ground.phase }, { on := 5, ground := Go.Ground.phase }, { on := 6, ground := Go.Ground.phase }, { on := 7, ground := Go.Ground.phase }, { on := 8, ground := Go.Ground.phase }, { on := 9, ground := Go.Ground.phase }], guard := none }) rfl (fun K hK => ?_) AllReadyH.nil
            have hb4 : Below w3.heap.size w3 (w2.setCell ⟨g9, q, none⟩ (.slice (some ⟨gn, 0, none⟩) (((X q).length) + 1) cap)) := HB2.out.setCell (p := ⟨g9, q, none⟩) (show w3.heap.size ≤ g9 by have := HG9.out; omega) _
            have hS4 : Below w3.heap.size w3 (w2.setCell ⟨g9, q, none⟩ (.slice (some ⟨gn, 0, none⟩) (((X q).length) + 1) cap)) ∧ (w2.setCell ⟨g9, q, none⟩ (.slice (some ⟨gn, 0, none⟩) (((X q).length) + 1) cap)).cell? ⟨b1, o1 + j * 3, none⟩ = some (.int .i64 y.ts) ∧ (w2.setCell ⟨g9, q, none⟩ (.slice (some ⟨gn, 0, none⟩) (((X q).length) + 1) cap)).cell? ⟨b1, o1 + j * 3 + 1, none⟩ = some (.slice y.A y.n y.c) ∧ (w2.setCell ⟨g9, q, none⟩ (.slice (some ⟨gn, 0, none⟩) (((X q).length) + 1) cap)).cell? ⟨b1, o1 + j * 3 + 2, none⟩ = some (.string y.ln) := ⟨hb4, (hb4.cell (p := ⟨b1, o1 + j * 3, none⟩) hlt1).trans y1, (hb4.cell (p := ⟨b1, o1 + j * 3 + 1, none⟩) hlt1).trans y2, (hb4.cell (p := ⟨b1, o1 + j * 3 + 2, none⟩) hlt1).trans y3⟩
            have HB4 := Lib.hid hb4
            clear hb4
            go_simp
            refine hK.out _ _ hS4 (fun _ => ?_)
            clear hK K
            try simp only [Act.put, List.setIfInBounds_toArray, List.set_cons_zero, List.set_cons_succ]
            refine wpAnyH_done (by kernel_rfl) ?_ _
            obtain ⟨wn3, hwn3⟩ : ∃ z, w2.setCell ⟨g9, q, none⟩ (.slice (some ⟨gn, 0, none⟩) (((X q).length) + 1) cap) = z := ⟨_, rfl⟩
            rw [hwn3] at NL HB4
            simp only [hwn3]
            clear hwn3 k0 f0 HB2 LS3
            go_split_ands
            have NSP := Lib.hid (HSP.out.put (k := q) hq3 HYQ.out)
            go_wp2
            go_round
            case rel => exact ⟨j + 1, _, _, by omega, by go_num, NL, NSP, HB4.out⟩
            case measure => simp [intOf]; omega
      · have hjwI : ¬ (j : Int) < (nW : Int) := by omega
        go_wp2
        have LS4 : Lists3 wr.drew g9 (v) (X) := (HLS.out).below (below_drewN (Below.refl _ _) 1 : Below wr.heap.size wr wr.drew)
        have hd0 : Below w3.heap.size w3 wr.drew := below_drewN HHB.out 1
        have S0 : Below w3.heap.size w3 wr.drew ∧ wr.drew.cell? ⟨b1, o1 + j * 3, none⟩ = some (.int .i64 y.ts) ∧ wr.drew.cell? ⟨b1, o1 + j * 3 + 1, none⟩ = some (.slice y.A y.n y.c) ∧ wr.drew.cell? ⟨b1, o1 + j * 3 + 2, none⟩ = some (.string y.ln) := ⟨hd0, (hd0.cell (p := ⟨b1, o1 + j * 3, none⟩) hlt1).trans y1, (hd0.cell (p := ⟨b1, o1 + j * 3 + 1, none⟩) hlt1).trans y2, (hd0.cell (p := ⟨b1, o1 + j * 3 + 2, none⟩) hlt1).trans y3⟩
        clear hd0
        go_wp2
        refine wp_region_held_drew (S := fun w' => Below w3.heap.size w3 w' ∧ w'.cell? ⟨b1, o1 + j * 3, none⟩ = some (.int .i64 y.ts) ∧ w'.cell? ⟨b1, o1 + j * 3 + 1, none⟩ = some (.slice y.A y.n y.c) ∧ w'.cell? ⟨b1, o1 + j * 3 + 2, none⟩ = some (.string y.ln)) (by kernel_rfl) S0 (fun hHeld => ?_)
        obtain ⟨wd4, hwd4⟩ : ∃ z, wr.drew = z := ⟨_, rfl⟩
        rw [hwd4] at LS4 S0 ⊢
        clear hwd4 hHeld
        refine wpAnyH_take (i := 0) (oi := { dst := some 56, op := Go.Op.move (Go.Operand.tmp 11), type := 3, pos := "keeps.go:25", after := #[], guard := none }) (v := ?_) rfl (by kernel_rfl) (by kernel_rfl) (by kernel_rfl) (fun _ _ _ h => h) (Or.inl ⟨by kernel_rfl, ?_⟩) (by assumption) ?_
        rotate_left
        · intro w _
          first | (go_simp; done) | (go_simp; with_reducible rfl)
        try simp only [Act.put, List.setIfInBounds_toArray, List.set_cons_zero, List.set_cons_succ]
        refine wpAnyH_take (i := 1) (oi := { dst := some 57, op := Go.Op.move (Go.Operand.tmp 11), type := 3, pos := "keeps.go:25", after := #[], guard := none }) (v := ?_) rfl (by kernel_rfl) (by kernel_rfl) (by kernel_rfl) (fun _ _ _ h => h) (Or.inl ⟨by kernel_rfl, ?_⟩) (by assumption) ?_
        rotate_left
        · intro w _
          first | (go_simp; done) | (go_simp; with_reducible rfl)
        try simp only [Act.put, List.setIfInBounds_toArray, List.set_cons_zero, List.set_cons_succ]
        refine wpAnyH_take (i := 2) (oi := { dst := some 58, op := Go.Op.indexAddr 59 (Go.Operand.tmp 9) (Go.Operand.tmp 57), type := 0, pos := "keeps.go:25", after := #[{ on := 1, ground := Go.Ground.data }], guard := none }) (v := ?_) rfl (by kernel_rfl) (by kernel_rfl) (by kernel_rfl) (fun _ _ _ h => h) (Or.inl ⟨by kernel_rfl, ?_⟩) (by assumption) ?_
        rotate_left
        · intro w _
          first | (go_simp; done) | (go_simp; with_reducible rfl)
        try simp only [Act.put, List.setIfInBounds_toArray, List.set_cons_zero, List.set_cons_succ]
        refine wpAnyH_take (i := 4) (oi := { dst := some 60, op := Go.Op.move (Go.Operand.tmp 8), type := 34, pos := "keeps.go:25", after := #[], guard := none }) (v := ?_) rfl (by kernel_rfl) (by kernel_rfl) (by kernel_rfl) (fun _ _ _ h => h) (Or.inl ⟨by kernel_rfl, ?_⟩) (by assumption) ?_
        rotate_left
        · intro w _
          first | (go_simp; done) | (go_simp; with_reducible rfl)
        try simp only [Act.put, List.setIfInBounds_toArray, List.set_cons_zero, List.set_cons_succ]
        refine wpAnyH_take (i := 5) (oi := { dst := some 61, op := Go.Op.move (Go.Operand.tmp 10), type := 3, pos := "keeps.go:25", after := #[], guard := none }) (v := ?_) rfl (by kernel_rfl) (by kernel_rfl) (by kernel_rfl) (fun _ _ _ h => h) (Or.inl ⟨by kernel_rfl, ?_⟩) (by assumption) ?_
        rotate_left
        · intro w _
          first | (go_simp; done) | (go_simp; with_reducible rfl)
        try simp only [Act.put, List.setIfInBounds_toArray, List.set_cons_zero, List.set_cons_succ]
        refine wpAnyH_take (i := 6) (oi := { dst := some 62, op := Go.Op.indexAddr 34 (Go.Operand.tmp 60) (Go.Operand.tmp 61), type := 0, pos := "keeps.go:25", after := #[{ on := 4, ground := Go.Ground.data }, { on := 5, ground := Go.Ground.data }], guard := none }) (v := ?_) rfl (by kernel_rfl) (by kernel_rfl) (by kernel_rfl) (fun _ _ _ h => h) (Or.inl ⟨by kernel_rfl, ?_⟩) (by assumption) ?_
        rotate_left
        · intro w _
          first | (go_simp; done) | (go_simp; with_reducible rfl)
        try simp only [Act.put, List.setIfInBounds_toArray, List.set_cons_zero, List.set_cons_succ]
        refine wpAnyH_take (i := 7) (oi := { dst := some 63, op := Go.Op.load 26 (Go.Operand.tmp 62), type := 26, pos := "keeps.go:25", after := #[{ on := 6, ground := Go.Ground.data }], guard := none }) (v := ?_) rfl (by kernel_rfl) (by kernel_rfl) (by kernel_rfl) (fun _ _ _ h => h) (Or.inl ⟨by kernel_rfl, ?_⟩) (by assumption) ?_
        rotate_left
        · intro w hSw
          (try dsimp only at hSw)
          go_split_ands
          first | (go_simp; done) | (go_simp; with_reducible rfl)
        try simp only [Act.put, List.setIfInBounds_toArray, List.set_cons_zero, List.set_cons_succ]
        refine wpAnyH_ready (rs := [3, 8]) (by kernel_rfl) (by simp) ?_
        refine AllReadyH.cons (o := { dst := some 59, op := Go.Op.load 34 (Go.Operand.tmp 58), type := 34, pos := "keeps.go:25", after := #[{ on := 2, ground := Go.Ground.data }], guard := none }) rfl (fun K hK => ?_) ?_
        ·
          have c0 : wd4.cell? ⟨g9, 0, none⟩ = some (v 0) := LS4.cell 0 (by decide)
          go_simp
          clear c0
          refine hK.out _ _ (by assumption) (fun _ => ?_)
          clear hK K
          try simp only [Act.put, List.setIfInBounds_toArray, List.set_cons_zero, List.set_cons_succ]
          refine wpAnyH_ready (rs := [8]) (by kernel_rfl) (by simp) ?_
          refine AllReadyH.cons (o := { dst := some 64, op := Go.Op.buildSlice 34 1 #[(0, Go.Operand.tmp 63)], type := 34, pos := "keeps.go:25", after := #[{ on := 7, ground := Go.Ground.data }], guard := none }) rfl (fun K hK => ?_) AllReadyH.nil
          go_simp
          have hb3 : Below wd4.heap.size wd4 (wd4.alloc (.cells #[.int .i64 y.ts, .slice y.A y.n y.c, .string y.ln] 26)) := (Below.refl _ _).alloc (Nat.le_refl _) _
          obtain ⟨g8, hg8⟩ : ∃ g, wd4.heap.size = g := ⟨_, rfl⟩
          have HN : BlkW (wd4.alloc (.cells #[.int .i64 y.ts, .slice y.A y.n y.c, .string y.ln] 26)) g8 26 #[.int .i64 y.ts, .slice y.A y.n y.c, .string y.ln] := by rw [← hg8]; exact Blk.new _ _ _
          obtain ⟨wr4x2, hwwr4x2⟩ : ∃ z, wd4.alloc (.cells #[.int .i64 y.ts, .slice y.A y.n y.c, .string y.ln] 26) = z := ⟨_, rfl⟩
          have Hb3 := Lib.hid hb3
          have HHN := Lib.hid HN
          clear hb3 HN
          rw [hwwr4x2] at Hb3 HHN
          rw [hwwr4x2, hg8]
          have hb3 := Hb3.out
          have HN := HHN.out
          clear hwwr4x2 Hb3 HHN hg8
          have LS4_ := LS4.below hb3
          clear LS4
          have LS4 := LS4_
          clear LS4_
          have Sr4x2 := HS.out _ _ (by assumption) hb3
          refine hK.out _ _ Sr4x2 (fun _ => ?_)
          clear hK K hb3
          try simp only [Act.put, List.setIfInBounds_toArray, List.set_cons_zero, List.set_cons_succ]
          refine wpAnyH_ready (rs := [9]) (by kernel_rfl) (by simp) ?_
          refine AllReadyH.cons (o := { dst := some 65, op := Go.Op.call { callee := Go.Callee.builtin Go.Builtin.append, args := #[Go.Operand.tmp 59, Go.Operand.tmp 64], argTypes := #[34, 34] }, type := 34, pos := "keeps.go:25", after := #[{ on := 3, ground := Go.Ground.data }, { on := 8, ground := Go.Ground.data }], guard := none }) rfl (fun K hK => ?_) AllReadyH.nil
          have hSb : Below w3.heap.size w3 wr4x2 := by go_split_ands; assumption
          refine step_append_lies _ (by rfl) (.tmp 59) (.tmp 64) 34 (by rfl) (g9 + 1) 26 i0 (.agg #[.int .i64 0, .slice none 0 0, .string ⟨#[]⟩]) 3 48 Try.underlying34 hi hz0 hz1 hz2 rfl (by decide) _ _ _ (by rfl) (LS4.own 0 (by decide)) ⟨_, 0, none⟩ 1 1 (EntX.V y) (by rfl) rfl (World.news_of_block HN) (entV_one _) (by omega) (by unfold maxLen; have := HLN.out 0 (by decide); omega) (by have := HLN.out 0 (by decide); omega) (by have := LS4.lt; omega) _ rfl ?_
          intro gn cap w2 hown' hgrow hg' hlt2
          have NL := Lib.hid (LS4.put (by decide) (OwnR.snoc (a := y) hown') hgrow rfl hg')
          obtain ⟨cs, bk1, bk2, bk3⟩ := LS4.grown (by decide) hgrow
          have k0 : w2.cell? ⟨g9, 0, none⟩ = some (v 0) := (bk1.cell 0).trans (bk3 0 (by decide))
          have f0 := bk1.frozen 0
          have hb2 := hSb.grown hgrow (by have := hSb.size; omega) (fun r hr => by have h1 := (World.ownsRow.lt (LS4.own 0 (by decide)) r hr).1; have h2 := HG9.out; omega)
          have HB2 := Lib.hid hb2
          have hS2 : Below w3.heap.size w3 w2 ∧ w2.cell? ⟨b1, o1 + j * 3, none⟩ = some (.int .i64 y.ts) ∧ w2.cell? ⟨b1, o1 + j * 3 + 1, none⟩ = some (.slice y.A y.n y.c) ∧ w2.cell? ⟨b1, o1 + j * 3 + 2, none⟩ = some (.string y.ln) := ⟨hb2, (hb2.cell (p := ⟨b1, o1 + j * 3, none⟩) hlt1).trans y1, (hb2.cell (p := ⟨b1, o1 + j * 3 + 1, none⟩) hlt1).trans y2, (hb2.cell (p := ⟨b1, o1 + j * 3 + 2, none⟩) hlt1).trans y3⟩
          clear bk1 bk2 bk3 hb2 hSb hown' hgrow hg' HN
          refine hK.out _ _ hS2 (fun _ => ?_)
          clear hK K
          try simp only [Act.put, List.setIfInBounds_toArray, List.set_cons_zero, List.set_cons_succ]
          refine wpAnyH_take (i := 10) (oi := { dst := some 66, op := Go.Op.indexAddr 59 (Go.Operand.tmp 9) (Go.Operand.tmp 56), type := 0, pos := "keeps.go:25", after := #[{ on := 0, ground := Go.Ground.data }, { on := 0, ground := Go.Ground.phase }, { on := 1, ground := Go.Ground.phase }, { on := 2, ground := Go.Ground.phase }, { on := 3, ground := Go.Ground.phase }, { on := 4, ground := Go.Ground.phase }, { on := 5, ground := Go.Ground.phase }, { on := 6, ground := Go.Ground.phase }, { on := 7, ground := Go.Ground.phase }, { on := 8, ground := Go.Ground.phase }, { on := 9, ground := Go.Ground.phase }], guard := none }) (v := ?_) rfl (by kernel_rfl) (by kernel_rfl) (by kernel_rfl) (fun _ _ _ h => h) (Or.inl ⟨by kernel_rfl, ?_⟩) (by assumption) ?_
          rotate_left
          · intro w _
            first | (go_simp; done) | (go_simp; with_reducible rfl)
          try simp only [Act.put, List.setIfInBounds_toArray, List.set_cons_zero, List.set_cons_succ]
          refine wpAnyH_ready (rs := [11]) (by kernel_rfl) (by simp) ?_
          refine AllReadyH.cons (o := { dst := none, op := Go.Op.store 34 (Go.Operand.tmp 66) (Go.Operand.tmp 65), type := 0, pos := "keeps.go:25", after := #[{ on := 10, ground := Go.Ground.data }, { on := 9, ground := Go.Ground.data }, { on := 9, ground := Go.Ground.chain }, { on := 0, ground := Go.Ground.phase }, { on := 1, ground := Go.Ground.phase }, { on := 2, ground := Go.Ground.phase }, { on := 3, ground := Go.Ground.phase }, { on := 4, ground := Go.Ground.phase }, { on := 5, ground := Go.Ground.phase }, { on := 6, ground := Go.Ground.phase }, { on := 7, ground := Go.Ground.phase }, { on := 8, ground := Go.Ground.phase }, { on := 9, ground := Go.Ground.phase }], guard := none }) rfl (fun K hK => ?_) AllReadyH.nil
          have hb4 : Below w3.heap.size w3 (w2.setCell ⟨g9, 0, none⟩ (.slice (some ⟨gn, 0, none⟩) (((X 0).length) + 1) cap)) := HB2.out.setCell (p := ⟨g9, 0, none⟩) (show w3.heap.size ≤ g9 by have := HG9.out; omega) _
          have hS4 : Below w3.heap.size w3 (w2.setCell ⟨g9, 0, none⟩ (.slice (some ⟨gn, 0, none⟩) (((X 0).length) + 1) cap)) ∧ (w2.setCell ⟨g9, 0, none⟩ (.slice (some ⟨gn, 0, none⟩) (((X 0).length) + 1) cap)).cell? ⟨b1, o1 + j * 3, none⟩ = some (.int .i64 y.ts) ∧ (w2.setCell ⟨g9, 0, none⟩ (.slice (some ⟨gn, 0, none⟩) (((X 0).length) + 1) cap)).cell? ⟨b1, o1 + j * 3 + 1, none⟩ = some (.slice y.A y.n y.c) ∧ (w2.setCell ⟨g9, 0, none⟩ (.slice (some ⟨gn, 0, none⟩) (((X 0).length) + 1) cap)).cell? ⟨b1, o1 + j * 3 + 2, none⟩ = some (.string y.ln) := ⟨hb4, (hb4.cell (p := ⟨b1, o1 + j * 3, none⟩) hlt1).trans y1, (hb4.cell (p := ⟨b1, o1 + j * 3 + 1, none⟩) hlt1).trans y2, (hb4.cell (p := ⟨b1, o1 + j * 3 + 2, none⟩) hlt1).trans y3⟩
          have HB4 := Lib.hid hb4
          clear hb4
          go_simp
          refine hK.out _ _ hS4 (fun _ => ?_)
          clear hK K
          try simp only [Act.put, List.setIfInBounds_toArray, List.set_cons_zero, List.set_cons_succ]
          refine wpAnyH_done (by kernel_rfl) ?_ _
          obtain ⟨wn4, hwn4⟩ : ∃ z, w2.setCell ⟨g9, 0, none⟩ (.slice (some ⟨gn, 0, none⟩) (((X 0).length) + 1) cap) = z := ⟨_, rfl⟩
          rw [hwn4] at NL HB4
          simp only [hwn4]
          clear hwn4 k0 f0 HB2 LS4
          go_split_ands
          have NSP := Lib.hid (HSP.out.put (k := 0) (by decide) HYQ.out)
          go_wp2
          go_round
          case rel => exact ⟨j + 1, _, _, by omega, by go_num, NL, NSP, HB4.out⟩
          case measure => simp [intOf]; omega
        refine AllReadyH.cons (o := { dst := some 64, op := Go.Op.buildSlice 34 1 #[(0, Go.Operand.tmp 63)], type := 34, pos := "keeps.go:25", after := #[{ on := 7, ground := Go.Ground.data }], guard := none }) rfl (fun K hK => ?_) AllReadyH.nil
        ·
          go_simp
          have hb3 : Below wd4.heap.size wd4 (wd4.alloc (.cells #[.int .i64 y.ts, .slice y.A y.n y.c, .string y.ln] 26)) := (Below.refl _ _).alloc (Nat.le_refl _) _
          obtain ⟨g8, hg8⟩ : ∃ g, wd4.heap.size = g := ⟨_, rfl⟩
          have HN : BlkW (wd4.alloc (.cells #[.int .i64 y.ts, .slice y.A y.n y.c, .string y.ln] 26)) g8 26 #[.int .i64 y.ts, .slice y.A y.n y.c, .string y.ln] := by rw [← hg8]; exact Blk.new _ _ _
          obtain ⟨wr4x5, hwwr4x5⟩ : ∃ z, wd4.alloc (.cells #[.int .i64 y.ts, .slice y.A y.n y.c, .string y.ln] 26) = z := ⟨_, rfl⟩
          have Hb3 := Lib.hid hb3
          have HHN := Lib.hid HN
          clear hb3 HN
          rw [hwwr4x5] at Hb3 HHN
          rw [hwwr4x5, hg8]
          have hb3 := Hb3.out
          have HN := HHN.out
          clear hwwr4x5 Hb3 HHN hg8
          have LS4_ := LS4.below hb3
          clear LS4
          have LS4 := LS4_
          clear LS4_
          have Sr4x5 := HS.out _ _ (by assumption) hb3
          refine hK.out _ _ Sr4x5 (fun _ => ?_)
          clear hK K hb3
          try simp only [Act.put, List.setIfInBounds_toArray, List.set_cons_zero, List.set_cons_succ]
          refine wpAnyH_ready (rs := [3]) (by kernel_rfl) (by simp) ?_
          refine AllReadyH.cons (o := { dst := some 59, op := Go.Op.load 34 (Go.Operand.tmp 58), type := 34, pos := "keeps.go:25", after := #[{ on := 2, ground := Go.Ground.data }], guard := none }) rfl (fun K hK => ?_) AllReadyH.nil
          have c0 : wr4x5.cell? ⟨g9, 0, none⟩ = some (v 0) := LS4.cell 0 (by decide)
          go_simp
          clear c0
          refine hK.out _ _ (by assumption) (fun _ => ?_)
          clear hK K
          try simp only [Act.put, List.setIfInBounds_toArray, List.set_cons_zero, List.set_cons_succ]
          refine wpAnyH_ready (rs := [9]) (by kernel_rfl) (by simp) ?_
          refine AllReadyH.cons (o := { dst := some 65, op := Go.Op.call { callee := Go.Callee.builtin Go.Builtin.append, args := #[Go.Operand.tmp 59, Go.Operand.tmp 64], argTypes := #[34, 34] }, type := 34, pos := "keeps.go:25", after := #[{ on := 3, ground := Go.Ground.data }, { on := 8, ground := Go.Ground.data }], guard := none }) rfl (fun K hK => ?_) AllReadyH.nil
          have hSb : Below w3.heap.size w3 wr4x5 := by go_split_ands; assumption
          refine step_append_lies _ (by rfl) (.tmp 59) (.tmp 64) 34 (by rfl) (g9 + 1) 26 i0 (.agg #[.int .i64 0, .slice none 0 0, .string ⟨#[]⟩]) 3 48 Try.underlying34 hi hz0 hz1 hz2 rfl (by decide) _ _ _ (by rfl) (LS4.own 0 (by decide)) ⟨_, 0, none⟩ 1 1 (EntX.V y) (by rfl) rfl (World.news_of_block HN) (entV_one _) (by omega) (by unfold maxLen; have := HLN.out 0 (by decide); omega) (by have := HLN.out 0 (by decide); omega) (by have := LS4.lt; omega) _ rfl ?_
          intro gn cap w2 hown' hgrow hg' hlt2
          have NL := Lib.hid (LS4.put (by decide) (OwnR.snoc (a := y) hown') hgrow rfl hg')
          obtain ⟨cs, bk1, bk2, bk3⟩ := LS4.grown (by decide) hgrow
          have k0 : w2.cell? ⟨g9, 0, none⟩ = some (v 0) := (bk1.cell 0).trans (bk3 0 (by decide))
          have f0 := bk1.frozen 0
          have hb2 := hSb.grown hgrow (by have := hSb.size; omega) (fun r hr => by have h1 := (World.ownsRow.lt (LS4.own 0 (by decide)) r hr).1; have h2 := HG9.out; omega)
          have HB2 := Lib.hid hb2
          have hS2 : Below w3.heap.size w3 w2 ∧ w2.cell? ⟨b1, o1 + j * 3, none⟩ = some (.int .i64 y.ts) ∧ w2.cell? ⟨b1, o1 + j * 3 + 1, none⟩ = some (.slice y.A y.n y.c) ∧ w2.cell? ⟨b1, o1 + j * 3 + 2, none⟩ = some (.string y.ln) := ⟨hb2, (hb2.cell (p := ⟨b1, o1 + j * 3, none⟩) hlt1).trans y1, (hb2.cell (p := ⟨b1, o1 + j * 3 + 1, none⟩) hlt1).trans y2, (hb2.cell (p := ⟨b1, o1 + j * 3 + 2, none⟩) hlt1).trans y3⟩
          clear bk1 bk2 bk3 hb2 hSb hown' hgrow hg' HN
          refine hK.out _ _ hS2 (fun _ => ?_)
          clear hK K
          try simp only [Act.put, List.setIfInBounds_toArray, List.set_cons_zero, List.set_cons_succ]
          refine wpAnyH_take (i := 10) (oi := { dst := some 66, op := Go.Op.indexAddr 59 (Go.Operand.tmp 9) (Go.Operand.tmp 56), type := 0, pos := "keeps.go:25", after := #[{ on := 0, ground := Go.Ground.data }, { on := 0, ground := Go.Ground.phase }, { on := 1, ground := Go.Ground.phase }, { on := 2, ground := Go.Ground.phase }, { on := 3, ground := Go.Ground.phase }, { on := 4, ground := Go.Ground.phase }, { on := 5, ground := Go.Ground.phase }, { on := 6, ground := Go.Ground.phase }, { on := 7, ground := Go.Ground.phase }, { on := 8, ground := Go.Ground.phase }, { on := 9, ground := Go.Ground.phase }], guard := none }) (v := ?_) rfl (by kernel_rfl) (by kernel_rfl) (by kernel_rfl) (fun _ _ _ h => h) (Or.inl ⟨by kernel_rfl, ?_⟩) (by assumption) ?_
          rotate_left
          · intro w _
            first | (go_simp; done) | (go_simp; with_reducible rfl)
          try simp only [Act.put, List.setIfInBounds_toArray, List.set_cons_zero, List.set_cons_succ]
          refine wpAnyH_ready (rs := [11]) (by kernel_rfl) (by simp) ?_
          refine AllReadyH.cons (o := { dst := none, op := Go.Op.store 34 (Go.Operand.tmp 66) (Go.Operand.tmp 65), type := 0, pos := "keeps.go:25", after := #[{ on := 10, ground := Go.Ground.data }, { on := 9, ground := Go.Ground.data }, { on := 9, ground := Go.Ground.chain }, { on := 0, ground := Go.Ground.phase }, { on := 1, ground := Go.Ground.phase }, { on := 2, ground := Go.Ground.phase }, { on := 3, ground := Go.Ground.phase }, { on := 4, ground := Go.Ground.phase }, { on := 5, ground := Go.Ground.phase }, { on := 6, ground := Go.Ground.phase }, { on := 7, ground := Go.Ground.phase }, { on := 8, ground := Go.Ground.phase }, { on := 9, ground := Go.Ground.phase }], guard := none }) rfl (fun K hK => ?_) AllReadyH.nil
          have hb4 : Below w3.heap.size w3 (w2.setCell ⟨g9, 0, none⟩ (.slice (some ⟨gn, 0, none⟩) (((X 0).length) + 1) cap)) := HB2.out.setCell (p := ⟨g9, 0, none⟩) (show w3.heap.size ≤ g9 by have := HG9.out; omega) _
          have hS4 : Below w3.heap.size w3 (w2.setCell ⟨g9, 0, none⟩ (.slice (some ⟨gn, 0, none⟩) (((X 0).length) + 1) cap)) ∧ (w2.setCell ⟨g9, 0, none⟩ (.slice (some ⟨gn, 0, none⟩) (((X 0).length) + 1) cap)).cell? ⟨b1, o1 + j * 3, none⟩ = some (.int .i64 y.ts) ∧ (w2.setCell ⟨g9, 0, none⟩ (.slice (some ⟨gn, 0, none⟩) (((X 0).length) + 1) cap)).cell? ⟨b1, o1 + j * 3 + 1, none⟩ = some (.slice y.A y.n y.c) ∧ (w2.setCell ⟨g9, 0, none⟩ (.slice (some ⟨gn, 0, none⟩) (((X 0).length) + 1) cap)).cell? ⟨b1, o1 + j * 3 + 2, none⟩ = some (.string y.ln) := ⟨hb4, (hb4.cell (p := ⟨b1, o1 + j * 3, none⟩) hlt1).trans y1, (hb4.cell (p := ⟨b1, o1 + j * 3 + 1, none⟩) hlt1).trans y2, (hb4.cell (p := ⟨b1, o1 + j * 3 + 2, none⟩) hlt1).trans y3⟩
          have HB4 := Lib.hid hb4
          clear hb4
          go_simp
          refine hK.out _ _ hS4 (fun _ => ?_)
          clear hK K
          try simp only [Act.put, List.setIfInBounds_toArray, List.set_cons_zero, List.set_cons_succ]
          refine wpAnyH_done (by kernel_rfl) ?_ _
          obtain ⟨wn4, hwn4⟩ : ∃ z, w2.setCell ⟨g9, 0, none⟩ (.slice (some ⟨gn, 0, none⟩) (((X 0).length) + 1) cap) = z := ⟨_, rfl⟩
          rw [hwn4] at NL HB4
          simp only [hwn4]
          clear hwn4 k0 f0 HB2 LS4
          go_split_ands
          have NSP := Lib.hid (HSP.out.put (k := 0) (by decide) HYQ.out)
          go_wp2
          go_round
          case rel => exact ⟨j + 1, _, _, by omega, by go_num, NL, NSP, HB4.out⟩
          case measure => simp [intOf]; omega
    · skip
      have hjn2 : na = j := by omega
      subst hjn2
      have hLt : La.take na = La := List.take_of_length_le (by rw [HLa.out]; exact Nat.le_refl _)
      replace Ea := Lib.hid (Ea.out.below hb)
      replace HB := Lib.hid (hop HB.out (Nat.le_refl _) hb)
      obtain ⟨Lr0, hLr0⟩ : ∃ l, X 0 = l := ⟨_, rfl⟩
      have SUB0 := Lib.hid (show Lr0.Sublist La by rw [← hLr0, ← hLt]; exact HSP.out.sub 0 (by decide))
      have hor0 := HLS.out.own 0 (by decide)
      rw [hLr0] at hor0
      obtain ⟨Ar0, cr0, hvr0, _, _, hrr0⟩ := OwnR.open entV_len hor0
      rw [hvr0] at hor0
      obtain ⟨nr0, hnr0⟩ : ∃ n, Lr0.length = n := ⟨_, rfl⟩
      have HLr0 := Lib.hid hnr0
      have Mr0 := Lib.hid (show nr0 ≤ 12 by have h1 := SUB0.out.length_le; rw [hnr0, HLa.out] at h1; omega)
      rw [hnr0] at hvr0 hrr0 hor0
      have Cr0 := Lib.hid (OwnR.cap hor0)
      have HV0 := Lib.hid hvr0
      have Er0 := Lib.hid (show Ents W.heap.size wr Ar0 nr0 Lr0 from ⟨hrr0, fun e he => Ea.out.2 e (SUB0.out.subset he)⟩)
      have Sr0 := Lib.hid (sortedA_E (List.Pairwise.sublist SUB0.out Sa.out))
      clear hnr0 hvr0 hrr0 hor0
      obtain ⟨Lr1, hLr1⟩ : ∃ l, X 1 = l := ⟨_, rfl⟩
      have SUB1 := Lib.hid (show Lr1.Sublist La by rw [← hLr1, ← hLt]; exact HSP.out.sub 1 (by decide))
      have hor1 := HLS.out.own 1 (by decide)
      rw [hLr1] at hor1
      obtain ⟨Ar1, cr1, hvr1, _, _, hrr1⟩ := OwnR.open entV_len hor1
      rw [hvr1] at hor1
      obtain ⟨nr1, hnr1⟩ : ∃ n, Lr1.length = n := ⟨_, rfl⟩
      have HLr1 := Lib.hid hnr1
      have Mr1 := Lib.hid (show nr1 ≤ 12 by have h1 := SUB1.out.length_le; rw [hnr1, HLa.out] at h1; omega)
      rw [hnr1] at hvr1 hrr1 hor1
      have Cr1 := Lib.hid (OwnR.cap hor1)
      have HV1 := Lib.hid hvr1
      have Er1 := Lib.hid (show Ents W.heap.size wr Ar1 nr1 Lr1 from ⟨hrr1, fun e he => Ea.out.2 e (SUB1.out.subset he)⟩)
      have Sr1 := Lib.hid (sortedA_E (List.Pairwise.sublist SUB1.out Sa.out))
      clear hnr1 hvr1 hrr1 hor1
      obtain ⟨Lr2, hLr2⟩ : ∃ l, X 2 = l := ⟨_, rfl⟩
      have SUB2 := Lib.hid (show Lr2.Sublist La by rw [← hLr2, ← hLt]; exact HSP.out.sub 2 (by decide))
      have hor2 := HLS.out.own 2 (by decide)
      rw [hLr2] at hor2
      obtain ⟨Ar2, cr2, hvr2, _, _, hrr2⟩ := OwnR.open entV_len hor2
      rw [hvr2] at hor2
      obtain ⟨nr2, hnr2⟩ : ∃ n, Lr2.length = n := ⟨_, rfl⟩
      have HLr2 := Lib.hid hnr2
      have Mr2 := Lib.hid (show nr2 ≤ 12 by have h1 := SUB2.out.length_le; rw [hnr2, HLa.out] at h1; omega)
      rw [hnr2] at hvr2 hrr2 hor2
      have Cr2 := Lib.hid (OwnR.cap hor2)
      have HV2 := Lib.hid hvr2
      have Er2 := Lib.hid (show Ents W.heap.size wr Ar2 nr2 Lr2 from ⟨hrr2, fun e he => Ea.out.2 e (SUB2.out.subset he)⟩)
      have Sr2 := Lib.hid (sortedA_E (List.Pairwise.sublist SUB2.out Sa.out))
      clear hnr2 hvr2 hrr2 hor2
      have S1 := Lib.hid (sortedA_E Sa.out)
      have COV := Lib.hid (show ∀ e, e ∈ La.map EntX.b ↔ e ∈ Lr0.map EntX.b ∨ e ∈ Lr1.map EntX.b ∨ e ∈ Lr2.map EntX.b from fun e => by
        constructor
        · intro he
          obtain ⟨y, hy, rfl⟩ := List.mem_map.1 he
          obtain ⟨i, hi, hx⟩ := HSP.out.all y (by rw [hLt]; exact hy)
          match i, hi with
          | 0, _ => rw [hLr0] at hx; exact .inl (List.mem_map.2 ⟨y, hx, rfl⟩)
          | 1, _ => rw [hLr1] at hx; exact .inr (.inl (List.mem_map.2 ⟨y, hx, rfl⟩))
          | 2, _ => rw [hLr2] at hx; exact .inr (.inr (List.mem_map.2 ⟨y, hx, rfl⟩))
        · rintro (he | he | he)
          all_goals
            obtain ⟨y, hy, rfl⟩ := List.mem_map.1 he
          · exact List.mem_map.2 ⟨y, SUB0.out.subset hy, rfl⟩
          · exact List.mem_map.2 ⟨y, SUB1.out.subset hy, rfl⟩
          · exact List.mem_map.2 ⟨y, SUB2.out.subset hy, rfl⟩)
      have SLp := Lib.hid (show sortedLs asc [⟨Aa, na, ca, La⟩] = true by simp only [sortedLs, List.all_cons, List.all_nil, S1.out, Bool.and_self])
      have SLq := Lib.hid (show sortedLs asc [⟨Ar0, nr0, cr0, Lr0⟩, ⟨Ar1, nr1, cr1, Lr1⟩, ⟨Ar2, nr2, cr2, Lr2⟩] = true by simp only [sortedLs, List.all_cons, List.all_nil, Sr0.out, Sr1.out, Sr2.out, Bool.and_self])
      have SLm := Lib.hid (show sortedLs asc [⟨Ar2, nr2, cr2, Lr2⟩, ⟨Ar0, nr0, cr0, Lr0⟩, ⟨Ar1, nr1, cr1, Lr1⟩, ⟨Ar0, nr0, cr0, Lr0⟩] = true by simp only [sortedLs, List.all_cons, List.all_nil, Sr0.out, Sr1.out, Sr2.out, Bool.and_self])
      clear hb HSP hLr0 hLr1 hLr2 hLt HL0 HBl SUB0 SUB1 SUB2 Sa S1 Sr0 Sr1 Sr2 hj hjn
      obtain ⟨gp, hgp⟩ : ∃ g, wr.heap.size = g := ⟨_, rfl⟩
      obtain ⟨w4, hw4⟩ : ∃ z, wr.alloc (.cells #[.slice Aa na ca] 34) = z := ⟨_, rfl⟩
      have bw4 : Below wr.heap.size wr w4 := by rw [← hw4]; exact (Below.refl _ _).alloc (Nat.le_refl _) _
      have AL := all_lists W.heap.size asc 100 [⟨Aa, na, ca, La⟩] 1 rfl wr w4 gp hgp 34 hw4 (by
        intro x hx
        simp only [List.mem_cons, List.mem_nil_iff, or_false] at hx
        subst hx
        · exact ⟨Ea.out, Ca.out⟩) true SLp.out (by simp only [totL, List.map_cons, List.map_nil, List.sum_cons, List.sum_nil]; have := Ma.out; omega) HB.out.size
      replace AL := Lib.hid AL
      replace Ea := Lib.hid (Ea.out.below bw4)
      replace Er0 := Lib.hid (Er0.out.below bw4)
      replace Er1 := Lib.hid (Er1.out.below bw4)
      replace Er2 := Lib.hid (Er2.out.below bw4)
      replace HLS := Lib.hid (HLS.out.below bw4)
      replace HB := Lib.hid (hop HB.out (Nat.le_refl _) bw4)
      go_wp2_with fail
      refine AL.out.mono ?_
      rintro e w5 ⟨Ap, np, cp, Lp, rfl, hE, hl, hc, hL, hx⟩
      replace Ea := Lib.hid (Ea.out.below hx)
      replace Er0 := Lib.hid (Er0.out.below hx)
      replace Er1 := Lib.hid (Er1.out.below hx)
      replace Er2 := Lib.hid (Er2.out.below hx)
      replace HLS := Lib.hid (HLS.out.below hx)
      replace HB := Lib.hid (hop HB.out (Nat.le_refl _) hx)
      have Ep := Lib.hid hE
      have HLp := Lib.hid hl
      have Cp := Lib.hid hc
      have Rp := Lib.hid hL
      clear hE hl hc hL hx hw4 hgp bw4 AL
      obtain ⟨U, hU⟩ : ∃ U, uniqB asc (allB [⟨Aa, na, ca, La⟩]) = U := ⟨_, rfl⟩
      have WP := Lib.hid (show Lp.map EntX.b = U by
        rw [Rp.out, ← hU]
        exact merge_whole SLp.out (fun x hx => by
          simp only [List.mem_cons, List.mem_nil_iff, or_false] at hx
          subst hx
          exact HLa.out) (by
          simp only [totL, List.map_cons, List.map_nil, List.sum_cons, List.sum_nil]
          show _ ≤ 100
          omega))
      have HUM := Lib.hid (show ∀ e, e ∈ Lp.map EntX.b ↔ e ∈ La.map EntX.b from fun e => by
        rw [WP.out, ← hU, uniq_mem, allB_mem]
        simp)
      have HST := Lib.hid (show StrictB asc (Lp.map EntX.b) by rw [WP.out, ← hU]; exact uniq_strict _ _)
      have HUQ := Lib.hid (show ∀ m, (∀ e, e ∈ m ↔ e ∈ La.map EntX.b) → uniqB asc m = U from fun m hm => by
        rw [← hU]
        exact uniq_same (fun e => by rw [hm e, allB_mem]; simp))
      clear hU Rp SLp
      have l0 : w5.cell? ⟨g9, 0, none⟩ = some (.slice Ar0 nr0 cr0) := by rw [HLS.out.cell 0 (by decide), HV0.out]
      have l1 : w5.cell? ⟨g9, 1, none⟩ = some (.slice Ar1 nr1 cr1) := by rw [HLS.out.cell 1 (by decide), HV1.out]
      have l2 : w5.cell? ⟨g9, 2, none⟩ = some (.slice Ar2 nr2 cr2) := by rw [HLS.out.cell 2 (by decide), HV2.out]
      obtain ⟨gq, hgq⟩ : ∃ g, w5.heap.size = g := ⟨_, rfl⟩
      obtain ⟨w6, hw6⟩ : ∃ z, w5.alloc (.cells #[.slice Ar0 nr0 cr0, .slice Ar1 nr1 cr1, .slice Ar2 nr2 cr2] 34) = z := ⟨_, rfl⟩
      have bw6 : Below w5.heap.size w5 w6 := by rw [← hw6]; exact (Below.refl _ _).alloc (Nat.le_refl _) _
      have AL := all_lists W.heap.size asc 100 [⟨Ar0, nr0, cr0, Lr0⟩, ⟨Ar1, nr1, cr1, Lr1⟩, ⟨Ar2, nr2, cr2, Lr2⟩] 3 rfl w5 w6 gq hgq 34 hw6 (by
        intro x hx
        simp only [List.mem_cons, List.mem_nil_iff, or_false] at hx
        rcases hx with rfl | rfl | rfl
        · exact ⟨Er0.out, Cr0.out⟩
        · exact ⟨Er1.out, Cr1.out⟩
        · exact ⟨Er2.out, Cr2.out⟩) true SLq.out (by simp only [totL, List.map_cons, List.map_nil, List.sum_cons, List.sum_nil]; have := Mr0.out; have := Mr1.out; have := Mr2.out; omega) HB.out.size
      replace AL := Lib.hid AL
      replace Ea := Lib.hid (Ea.out.below bw6)
      replace Er0 := Lib.hid (Er0.out.below bw6)
      replace Er1 := Lib.hid (Er1.out.below bw6)
      replace Er2 := Lib.hid (Er2.out.below bw6)
      replace Ep := Lib.hid (Ep.out.below bw6)
      replace HLS := Lib.hid (HLS.out.below bw6)
      replace HB := Lib.hid (hop HB.out (Nat.le_refl _) bw6)
      go_wp2_with fail
      refine AL.out.mono ?_
      rintro e w7 ⟨Aq, nq, cq, Lq, rfl, hE, hl, hc, hL, hx⟩
      replace Ea := Lib.hid (Ea.out.below hx)
      replace Er0 := Lib.hid (Er0.out.below hx)
      replace Er1 := Lib.hid (Er1.out.below hx)
      replace Er2 := Lib.hid (Er2.out.below hx)
      replace Ep := Lib.hid (Ep.out.below hx)
      replace HLS := Lib.hid (HLS.out.below hx)
      replace HB := Lib.hid (hop HB.out (Nat.le_refl _) hx)
      have Eq := Lib.hid hE
      have HLq := Lib.hid hl
      have Cq := Lib.hid hc
      have Rq := Lib.hid hL
      clear hE hl hc hL hx hw6 hgq bw6 AL
      clear l0 l1 l2
      have WQ := Lib.hid (show Lq.map EntX.b = U by
        rw [Rq.out, merge_whole SLq.out (fun x hx => ?_) ?_]
        · exact HUQ.out _ (fun e => by
            rw [allB_mem, COV.out e]
            constructor
            · rintro ⟨x, hx, he⟩
              simp only [List.mem_cons, List.mem_nil_iff, or_false] at hx
              rcases hx with rfl | rfl | rfl
              · exact .inl he
              · exact .inr (.inl he)
              · exact .inr (.inr he)
            · rintro (he | he | he)
              · exact ⟨_, by simp only [List.mem_cons]; exact .inl rfl, he⟩
              · exact ⟨_, by simp only [List.mem_cons]; exact .inr (.inl rfl), he⟩
              · exact ⟨_, by simp only [List.mem_cons]; exact .inr (.inr (.inl rfl)), he⟩)
        · simp only [totL, List.map_cons, List.map_nil, List.sum_cons, List.sum_nil]
          have := Mr0.out; have := Mr1.out; have := Mr2.out
          show _ ≤ 100
          omega
        · rename_i hx
          simp only [List.mem_cons, List.mem_nil_iff, or_false] at hx
          rcases hx with rfl | rfl | rfl
          · exact HLr0.out
          · exact HLr1.out
          · exact HLr2.out)
      clear Rq SLq
      have l0 : w7.cell? ⟨g9, 0, none⟩ = some (.slice Ar0 nr0 cr0) := by rw [HLS.out.cell 0 (by decide), HV0.out]
      have l1 : w7.cell? ⟨g9, 1, none⟩ = some (.slice Ar1 nr1 cr1) := by rw [HLS.out.cell 1 (by decide), HV1.out]
      have l2 : w7.cell? ⟨g9, 2, none⟩ = some (.slice Ar2 nr2 cr2) := by rw [HLS.out.cell 2 (by decide), HV2.out]
      obtain ⟨gm, hgm⟩ : ∃ g, w7.heap.size = g := ⟨_, rfl⟩
      obtain ⟨w8, hw8⟩ : ∃ z, w7.alloc (.cells #[.slice Ar2 nr2 cr2, .slice Ar0 nr0 cr0, .slice Ar1 nr1 cr1, .slice Ar0 nr0 cr0] 34) = z := ⟨_, rfl⟩
      have bw8 : Below w7.heap.size w7 w8 := by rw [← hw8]; exact (Below.refl _ _).alloc (Nat.le_refl _) _
      have AL := all_lists W.heap.size asc 100 [⟨Ar2, nr2, cr2, Lr2⟩, ⟨Ar0, nr0, cr0, Lr0⟩, ⟨Ar1, nr1, cr1, Lr1⟩, ⟨Ar0, nr0, cr0, Lr0⟩] 4 rfl w7 w8 gm hgm 34 hw8 (by
        intro x hx
        simp only [List.mem_cons, List.mem_nil_iff, or_false] at hx
        rcases hx with rfl | rfl | rfl | rfl
        · exact ⟨Er2.out, Cr2.out⟩
        · exact ⟨Er0.out, Cr0.out⟩
        · exact ⟨Er1.out, Cr1.out⟩
        · exact ⟨Er0.out, Cr0.out⟩) true SLm.out (by simp only [totL, List.map_cons, List.map_nil, List.sum_cons, List.sum_nil]; have := Mr2.out; have := Mr0.out; have := Mr1.out; omega) HB.out.size
      replace AL := Lib.hid AL
      replace Ea := Lib.hid (Ea.out.below bw8)
      replace Er0 := Lib.hid (Er0.out.below bw8)
      replace Er1 := Lib.hid (Er1.out.below bw8)
      replace Er2 := Lib.hid (Er2.out.below bw8)
      replace Ep := Lib.hid (Ep.out.below bw8)
      replace Eq := Lib.hid (Eq.out.below bw8)
      replace HLS := Lib.hid (HLS.out.below bw8)
      replace HB := Lib.hid (hop HB.out (Nat.le_refl _) bw8)
      go_wp2_with fail
      refine AL.out.mono ?_
      rintro e w9 ⟨Am, nm, cm, Lm, rfl, hE, hl, hc, hL, hx⟩
      replace Ea := Lib.hid (Ea.out.below hx)
      replace Er0 := Lib.hid (Er0.out.below hx)
      replace Er1 := Lib.hid (Er1.out.below hx)
      replace Er2 := Lib.hid (Er2.out.below hx)
      replace Ep := Lib.hid (Ep.out.below hx)
      replace Eq := Lib.hid (Eq.out.below hx)
      replace HLS := Lib.hid (HLS.out.below hx)
      replace HB := Lib.hid (hop HB.out (Nat.le_refl _) hx)
      have Em := Lib.hid hE
      have HLm := Lib.hid hl
      have Cm := Lib.hid hc
      have Rm := Lib.hid hL
      clear hE hl hc hL hx hw8 hgm bw8 AL
      clear l0 l1 l2
      have WM := Lib.hid (show Lm.map EntX.b = U by
        rw [Rm.out, merge_whole SLm.out (fun x hx => ?_) ?_]
        · exact HUQ.out _ (fun e => by
            rw [allB_mem, COV.out e]
            constructor
            · rintro ⟨x, hx, he⟩
              simp only [List.mem_cons, List.mem_nil_iff, or_false] at hx
              rcases hx with rfl | rfl | rfl | rfl
              · exact .inr (.inr he)
              · exact .inl he
              · exact .inr (.inl he)
              · exact .inl he
            · rintro (he | he | he)
              · exact ⟨_, by simp only [List.mem_cons]; exact .inr (.inl rfl), he⟩
              · exact ⟨_, by simp only [List.mem_cons]; exact .inr (.inr (.inl rfl)), he⟩
              · exact ⟨_, by simp only [List.mem_cons]; exact .inl rfl, he⟩)
        · simp only [totL, List.map_cons, List.map_nil, List.sum_cons, List.sum_nil]
          have := Mr2.out; have := Mr0.out; have := Mr1.out
          show _ ≤ 100
          omega
        · rename_i hx
          simp only [List.mem_cons, List.mem_nil_iff, or_false] at hx
          rcases hx with rfl | rfl | rfl | rfl
          · exact HLr2.out
          · exact HLr0.out
          · exact HLr1.out
          · exact HLr0.out)
      clear Rm SLm
      have hqp : np = nq := by rw [← HLq.out, ← HLp.out, ← List.length_map (f := EntX.b), WP.out, ← WQ.out, List.length_map]
      have hmp : np = nm := by rw [← HLm.out, ← HLp.out, ← List.length_map (f := EntX.b), WP.out, ← WM.out, List.length_map]
      subst hqp
      subst hmp
      have hnp12 : np ≤ 12 := by
        have h1 := uniq_len asc (La.map EntX.b)
        rw [HUQ.out _ (fun e => Iff.rfl), ← WP.out, List.length_map, List.length_map, HLp.out, HLa.out] at h1
        omega
      have W1 := Lib.hid (WP.out.trans WQ.out.symm)
      have W2 := Lib.hid (WP.out.trans WM.out.symm)
      clear COV HUQ HLS HV0 HV1 HV2 Er0 Er1 Er2 Cr0 Cr1 Cr2 Mr0 Mr1 Mr2 WQ WM
      go_wp2
      go_loopw [18] (fun iv wr => ∃ j : Nat, j ≤ np ∧ iv = .int .i64 (j : Int) ∧ Below w9.heap.size w9 wr) (fun iv _ => np - (intOf iv).toNat)
      case atStart => exact ⟨0, Nat.zero_le _, rfl, Below.refl _ _⟩
      case round =>
        obtain ⟨j, hjn, rfl, hb⟩ := hrel
        by_cases hj : j < np
        · have hjI : (j : Int) < (np : Int) := by omega
          obtain ⟨bx, ox, hA, hltx, hc⟩ := (Ep.out.below hb).at_ (by omega)
          obtain ⟨c1, c2, c3, gx⟩ := hc j (by omega)
          have xq : Lp[j]? = some (Lp.getD j xnil) := by
            have := HLp.out
            rw [List.getD_eq_getElem?_getD, List.getElem?_eq_getElem (by omega)]
            rfl
          obtain ⟨x, hx⟩ : ∃ t, Lp.getD j xnil = t := ⟨_, rfl⟩
          rw [hx] at c1 c2 c3 gx xq
          have Qx := Lib.hid xq
          have Gx := Lib.hid gx
          have HCP := Lib.hid hc
          clear hc hx xq gx
          have hA1 := hA
          clear hA
          obtain ⟨by_, oy, hA, hlty, hc⟩ := (Eq.out.below hb).at_ (by omega)
          obtain ⟨d1, d2, d3, gy⟩ := hc j (by omega)
          have yq : Lq[j]? = some (Lq.getD j xnil) := by
            have := HLq.out
            rw [List.getD_eq_getElem?_getD, List.getElem?_eq_getElem (by omega)]
            rfl
          obtain ⟨y, hy⟩ : ∃ t, Lq.getD j xnil = t := ⟨_, rfl⟩
          rw [hy] at d1 d2 d3 gy yq
          have Qy := Lib.hid yq
          have Gy := Lib.hid gy
          clear hc hy yq gy
          have hA2 := hA
          clear hA
          obtain ⟨bv, ov, hA, hltv, hc⟩ := (Em.out.below hb).at_ (by omega)
          obtain ⟨f1, f2, f3, gv⟩ := hc j (by omega)
          have vq : Lm[j]? = some (Lm.getD j xnil) := by
            have := HLm.out
            rw [List.getD_eq_getElem?_getD, List.getElem?_eq_getElem (by omega)]
            rfl
          obtain ⟨v, hv⟩ : ∃ t, Lm.getD j xnil = t := ⟨_, rfl⟩
          rw [hv] at f1 f2 f3 gv vq
          have Qv := Lib.hid vq
          have Gv := Lib.hid gv
          clear hc hv vq gv
          subst hA
          subst hA1
          subst hA2
          have Hb := Lib.hid hb
          have S1 := fun w (h : Below wr.heap.size wr w) => same_good x y w (Gx.out.below h) (Gy.out.below h)
          rw [show sameE x.b y.b = true from sameE_iff.2 (at_same W1.out.symm Qy.out Qx.out).symm] at S1
          replace S1 := Lib.hid S1
          have S2 := fun w (h : Below wr.heap.size wr w) => same_good x v w (Gx.out.below h) (Gv.out.below h)
          rw [show sameE x.b v.b = true from sameE_iff.2 (at_same W2.out.symm Qv.out Qx.out).symm] at S2
          replace S2 := Lib.hid S2
          rcases Nat.eq_zero_or_pos j with hj0 | hj0
          · obtain rfl : j = 0 := hj0
            rw [Nat.zero_mul, Nat.add_zero] at c1 c2 c3 d1 d2 d3 f1 f2 f3
            have S0 : Below wr.heap.size wr wr.drew ∧ wr.drew.cell? ⟨bx, ox, none⟩ = some (.int .i64 x.ts) ∧ wr.drew.cell? ⟨bx, ox + 1, none⟩ = some (.slice x.A x.n x.c) ∧ wr.drew.cell? ⟨bx, ox + 2, none⟩ = some (.string x.ln) ∧ wr.drew.cell? ⟨by_, oy, none⟩ = some (.int .i64 y.ts) ∧ wr.drew.cell? ⟨by_, oy + 1, none⟩ = some (.slice y.A y.n y.c) ∧ wr.drew.cell? ⟨by_, oy + 2, none⟩ = some (.string y.ln) ∧ wr.drew.cell? ⟨bv, ov, none⟩ = some (.int .i64 v.ts) ∧ wr.drew.cell? ⟨bv, ov + 1, none⟩ = some (.slice v.A v.n v.c) ∧ wr.drew.cell? ⟨bv, ov + 2, none⟩ = some (.string v.ln) := ⟨(Below.refl _ _).drew, c1, c2, c3, d1, d2, d3, f1, f2, f3⟩
            have HS := Lib.hid (fun (wa wb : World) (hS : Below wr.heap.size wr wa ∧ wa.cell? ⟨bx, ox, none⟩ = some (.int .i64 x.ts) ∧ wa.cell? ⟨bx, ox + 1, none⟩ = some (.slice x.A x.n x.c) ∧ wa.cell? ⟨bx, ox + 2, none⟩ = some (.string x.ln) ∧ wa.cell? ⟨by_, oy, none⟩ = some (.int .i64 y.ts) ∧ wa.cell? ⟨by_, oy + 1, none⟩ = some (.slice y.A y.n y.c) ∧ wa.cell? ⟨by_, oy + 2, none⟩ = some (.string y.ln) ∧ wa.cell? ⟨bv, ov, none⟩ = some (.int .i64 v.ts) ∧ wa.cell? ⟨bv, ov + 1, none⟩ = some (.slice v.A v.n v.c) ∧ wa.cell? ⟨bv, ov + 2, none⟩ = some (.string v.ln)) (h : Below wa.heap.size wa wb) => show Below wr.heap.size wr wb ∧ wb.cell? ⟨bx, ox, none⟩ = some (.int .i64 x.ts) ∧ wb.cell? ⟨bx, ox + 1, none⟩ = some (.slice x.A x.n x.c) ∧ wb.cell? ⟨bx, ox + 2, none⟩ = some (.string x.ln) ∧ wb.cell? ⟨by_, oy, none⟩ = some (.int .i64 y.ts) ∧ wb.cell? ⟨by_, oy + 1, none⟩ = some (.slice y.A y.n y.c) ∧ wb.cell? ⟨by_, oy + 2, none⟩ = some (.string y.ln) ∧ wb.cell? ⟨bv, ov, none⟩ = some (.int .i64 v.ts) ∧ wb.cell? ⟨bv, ov + 1, none⟩ = some (.slice v.A v.n v.c) ∧ wb.cell? ⟨bv, ov + 2, none⟩ = some (.string v.ln) from by
              obtain ⟨s0, s1, s2, s3, s4, s5, s6, s7, s8, s9⟩ := hS
              exact ⟨hop s0 (Nat.le_refl _) h, (h.cell (p := ⟨bx, ox, none⟩) (block_lt_of_cell s1)).trans s1, (h.cell (p := ⟨bx, ox + 1, none⟩) (block_lt_of_cell s2)).trans s2, (h.cell (p := ⟨bx, ox + 2, none⟩) (block_lt_of_cell s3)).trans s3, (h.cell (p := ⟨by_, oy, none⟩) (block_lt_of_cell s4)).trans s4, (h.cell (p := ⟨by_, oy + 1, none⟩) (block_lt_of_cell s5)).trans s5, (h.cell (p := ⟨by_, oy + 2, none⟩) (block_lt_of_cell s6)).trans s6, (h.cell (p := ⟨bv, ov, none⟩) (block_lt_of_cell s7)).trans s7, (h.cell (p := ⟨bv, ov + 1, none⟩) (block_lt_of_cell s8)).trans s8, (h.cell (p := ⟨bv, ov + 2, none⟩) (block_lt_of_cell s9)).trans s9⟩)
            clear hb c1 c2 c3 d1 d2 d3 f1 f2 f3
            go_wp2
            refine wp_region_held_drew (S := fun w' => Below wr.heap.size wr w' ∧ w'.cell? ⟨bx, ox, none⟩ = some (.int .i64 x.ts) ∧ w'.cell? ⟨bx, ox + 1, none⟩ = some (.slice x.A x.n x.c) ∧ w'.cell? ⟨bx, ox + 2, none⟩ = some (.string x.ln) ∧ w'.cell? ⟨by_, oy, none⟩ = some (.int .i64 y.ts) ∧ w'.cell? ⟨by_, oy + 1, none⟩ = some (.slice y.A y.n y.c) ∧ w'.cell? ⟨by_, oy + 2, none⟩ = some (.string y.ln) ∧ w'.cell? ⟨bv, ov, none⟩ = some (.int .i64 v.ts) ∧ w'.cell? ⟨bv, ov + 1, none⟩ = some (.slice v.A v.n v.c) ∧ w'.cell? ⟨bv, ov + 2, none⟩ = some (.string v.ln)) (by kernel_rfl) S0 (fun hHeld => ?_)
            refine wpAnyH_take (i := 0) (oi := { dst := some 130, op := Go.Op.move (Go.Operand.tmp 12), type := 34, pos := "keeps.go:34", after := #[], guard := none }) (v := ?_) rfl (by kernel_rfl) (by kernel_rfl) (by kernel_rfl) (fun _ _ _ h => h) (Or.inl ⟨by kernel_rfl, ?_⟩) (by assumption) ?_
            rotate_left
            · intro w _
              first | (go_simp; done) | (go_simp; with_reducible rfl)
            try simp only [Act.put, List.setIfInBounds_toArray, List.set_cons_zero, List.set_cons_succ]
            refine wpAnyH_take (i := 1) (oi := { dst := some 131, op := Go.Op.move (Go.Operand.tmp 18), type := 3, pos := "keeps.go:34", after := #[], guard := none }) (v := ?_) rfl (by kernel_rfl) (by kernel_rfl) (by kernel_rfl) (fun _ _ _ h => h) (Or.inl ⟨by kernel_rfl, ?_⟩) (by assumption) ?_
            rotate_left
            · intro w _
              first | (go_simp; done) | (go_simp; with_reducible rfl)
            try simp only [Act.put, List.setIfInBounds_toArray, List.set_cons_zero, List.set_cons_succ]
            refine wpAnyH_take (i := 2) (oi := { dst := some 132, op := Go.Op.indexAddr 34 (Go.Operand.tmp 130) (Go.Operand.tmp 131), type := 0, pos := "keeps.go:34", after := #[{ on := 0, ground := Go.Ground.data }, { on := 1, ground := Go.Ground.data }], guard := none }) (v := ?_) rfl (by kernel_rfl) (by kernel_rfl) (by kernel_rfl) (fun _ _ _ h => h) (Or.inl ⟨by kernel_rfl, ?_⟩) (by assumption) ?_
            rotate_left
            · intro w _
              first | (go_simp; done) | (go_simp; with_reducible rfl)
            try simp only [Act.put, List.setIfInBounds_toArray, List.set_cons_zero, List.set_cons_succ]
            refine wpAnyH_take (i := 3) (oi := { dst := some 133, op := Go.Op.load 26 (Go.Operand.tmp 132), type := 26, pos := "keeps.go:34", after := #[{ on := 2, ground := Go.Ground.data }], guard := none }) (v := ?_) rfl (by kernel_rfl) (by kernel_rfl) (by kernel_rfl) (fun _ _ _ h => h) (Or.inl ⟨by kernel_rfl, ?_⟩) (by assumption) ?_
            rotate_left
            · intro w hSw
              (try dsimp only at hSw)
              go_split_ands
              first | (go_simp; done) | (go_simp; with_reducible rfl)
            try simp only [Act.put, List.setIfInBounds_toArray, List.set_cons_zero, List.set_cons_succ]
            refine wpAnyH_take (i := 4) (oi := { dst := some 134, op := Go.Op.move (Go.Operand.tmp 14), type := 34, pos := "keeps.go:34", after := #[], guard := none }) (v := ?_) rfl (by kernel_rfl) (by kernel_rfl) (by kernel_rfl) (fun _ _ _ h => h) (Or.inl ⟨by kernel_rfl, ?_⟩) (by assumption) ?_
            rotate_left
            · intro w _
              first | (go_simp; done) | (go_simp; with_reducible rfl)
            try simp only [Act.put, List.setIfInBounds_toArray, List.set_cons_zero, List.set_cons_succ]
            refine wpAnyH_take (i := 5) (oi := { dst := some 135, op := Go.Op.move (Go.Operand.tmp 18), type := 3, pos := "keeps.go:34", after := #[], guard := none }) (v := ?_) rfl (by kernel_rfl) (by kernel_rfl) (by kernel_rfl) (fun _ _ _ h => h) (Or.inl ⟨by kernel_rfl, ?_⟩) (by assumption) ?_
            rotate_left
            · intro w _
              first | (go_simp; done) | (go_simp; with_reducible rfl)
            try simp only [Act.put, List.setIfInBounds_toArray, List.set_cons_zero, List.set_cons_succ]
            refine wpAnyH_take (i := 6) (oi := { dst := some 136, op := Go.Op.indexAddr 34 (Go.Operand.tmp 134) (Go.Operand.tmp 135), type := 0, pos := "keeps.go:34", after := #[{ on := 4, ground := Go.Ground.data }, { on := 5, ground := Go.Ground.data }], guard := none }) (v := ?_) rfl (by kernel_rfl) (by kernel_rfl) (by kernel_rfl) (fun _ _ _ h => h) (Or.inl ⟨by kernel_rfl, ?_⟩) (by assumption) ?_
            rotate_left
            · intro w _
              first | (go_simp; done) | (go_simp; with_reducible rfl)
            try simp only [Act.put, List.setIfInBounds_toArray, List.set_cons_zero, List.set_cons_succ]
            refine wpAnyH_take (i := 7) (oi := { dst := some 137, op := Go.Op.load 26 (Go.Operand.tmp 136), type := 26, pos := "keeps.go:34", after := #[{ on := 6, ground := Go.Ground.data }], guard := none }) (v := ?_) rfl (by kernel_rfl) (by kernel_rfl) (by kernel_rfl) (fun _ _ _ h => h) (Or.inl ⟨by kernel_rfl, ?_⟩) (by assumption) ?_
            rotate_left
            · intro w hSw
              (try dsimp only at hSw)
              go_split_ands
              first | (go_simp; done) | (go_simp; with_reducible rfl)
            try simp only [Act.put, List.setIfInBounds_toArray, List.set_cons_zero, List.set_cons_succ]
            refine wpAnyH_ready (rs := [8]) (by kernel_rfl) (by simp) ?_
            refine AllReadyH.cons (o := { dst := some 138, op := Go.Op.call { callee := Go.Callee.value (Go.Operand.func 22), args := #[Go.Operand.tmp 133, Go.Operand.tmp 137], argTypes := #[26, 26] }, type := 4, pos := "keeps.go:34", after := #[{ on := 3, ground := Go.Ground.data }, { on := 7, ground := Go.Ground.data }], guard := none }) rfl (fun K hK => ?_) AllReadyH.nil
            go_simp
            go_at_call 22
            refine (S1.out _ (show Below wr.heap.size wr wr.drew from by go_split_ands; assumption)).mono ?_
            rintro e wc1 ⟨rfl, hb3⟩
            have Sc1 := HS.out _ _ (by assumption) hb3
            refine hK.out _ _ Sc1 (fun _ => ?_)
            clear hK K hb3
            try simp only [Act.put, List.setIfInBounds_toArray, List.set_cons_zero, List.set_cons_succ]
            refine wpAnyH_take (i := 9) (oi := { dst := some 139, op := Go.Op.unOp Go.UnOp.not 4 (Go.Operand.tmp 138), type := 4, pos := "keeps.go:34", after := #[{ on := 8, ground := Go.Ground.data }], guard := none }) (v := ?_) rfl (by kernel_rfl) (by kernel_rfl) (by kernel_rfl) (fun _ _ _ h => h) (Or.inl ⟨by kernel_rfl, ?_⟩) (by assumption) ?_
            rotate_left
            · intro w _
              first | (go_simp; done) | (go_simp; with_reducible rfl)
            try simp only [Act.put, List.setIfInBounds_toArray, List.set_cons_zero, List.set_cons_succ]
            refine wpAnyH_take (i := 10) (oi := { dst := some 140, op := Go.Op.move (Go.Operand.tmp 139), type := 4, pos := "keeps.go:34", after := #[{ on := 9, ground := Go.Ground.data }, { on := 8, ground := Go.Ground.chain }], guard := none }) (v := ?_) rfl (by kernel_rfl) (by kernel_rfl) (by kernel_rfl) (fun _ _ _ h => h) (Or.inl ⟨by kernel_rfl, ?_⟩) (by assumption) ?_
            rotate_left
            · intro w _
              first | (go_simp; done) | (go_simp; with_reducible rfl)
            try simp only [Act.put, List.setIfInBounds_toArray, List.set_cons_zero, List.set_cons_succ]
            refine wpAnyH_take (i := 11) (oi := { dst := some 141, op := Go.Op.move (Go.Operand.tmp 12), type := 34, pos := "keeps.go:34", after := #[{ on := 10, ground := Go.Ground.guard }], guard := some (10, false) }) (v := ?_) rfl (by kernel_rfl) (by kernel_rfl) (by kernel_rfl) (fun _ _ _ h => h) (Or.inl ⟨by kernel_rfl, ?_⟩) (by assumption) ?_
            rotate_left
            · intro w _
              first | (go_simp; done) | (go_simp; with_reducible rfl)
            try simp only [Act.put, List.setIfInBounds_toArray, List.set_cons_zero, List.set_cons_succ]
            refine wpAnyH_take (i := 12) (oi := { dst := some 142, op := Go.Op.move (Go.Operand.tmp 18), type := 3, pos := "keeps.go:34", after := #[{ on := 10, ground := Go.Ground.guard }], guard := some (10, false) }) (v := ?_) rfl (by kernel_rfl) (by kernel_rfl) (by kernel_rfl) (fun _ _ _ h => h) (Or.inl ⟨by kernel_rfl, ?_⟩) (by assumption) ?_
            rotate_left
            · intro w _
              first | (go_simp; done) | (go_simp; with_reducible rfl)
            try simp only [Act.put, List.setIfInBounds_toArray, List.set_cons_zero, List.set_cons_succ]
            refine wpAnyH_take (i := 13) (oi := { dst := some 143, op := Go.Op.indexAddr 34 (Go.Operand.tmp 141) (Go.Operand.tmp 142), type := 0, pos := "keeps.go:34", after := #[{ on := 11, ground := Go.Ground.data }, { on := 12, ground := Go.Ground.data }, { on := 10, ground := Go.Ground.guard }], guard := some (10, false) }) (v := ?_) rfl (by kernel_rfl) (by kernel_rfl) (by kernel_rfl) (fun _ _ _ h => h) (Or.inl ⟨by kernel_rfl, ?_⟩) (by assumption) ?_
            rotate_left
            · intro w _
              first | (go_simp; done) | (go_simp; with_reducible rfl)
            try simp only [Act.put, List.setIfInBounds_toArray, List.set_cons_zero, List.set_cons_succ]
            refine wpAnyH_take (i := 14) (oi := { dst := some 144, op := Go.Op.load 26 (Go.Operand.tmp 143), type := 26, pos := "keeps.go:34", after := #[{ on := 13, ground := Go.Ground.data }, { on := 10, ground := Go.Ground.guard }], guard := some (10, false) }) (v := ?_) rfl (by kernel_rfl) (by kernel_rfl) (by kernel_rfl) (fun _ _ _ h => h) (Or.inl ⟨by kernel_rfl, ?_⟩) (by assumption) ?_
            rotate_left
            · intro w hSw
              (try dsimp only at hSw)
              go_split_ands
              first | (go_simp; done) | (go_simp; with_reducible rfl)
            try simp only [Act.put, List.setIfInBounds_toArray, List.set_cons_zero, List.set_cons_succ]
            refine wpAnyH_take (i := 15) (oi := { dst := some 145, op := Go.Op.move (Go.Operand.tmp 16), type := 34, pos := "keeps.go:34", after := #[{ on := 10, ground := Go.Ground.guard }], guard := some (10, false) }) (v := ?_) rfl (by kernel_rfl) (by kernel_rfl) (by kernel_rfl) (fun _ _ _ h => h) (Or.inl ⟨by kernel_rfl, ?_⟩) (by assumption) ?_
            rotate_left
            · intro w _
              first | (go_simp; done) | (go_simp; with_reducible rfl)
            try simp only [Act.put, List.setIfInBounds_toArray, List.set_cons_zero, List.set_cons_succ]
            refine wpAnyH_take (i := 16) (oi := { dst := some 146, op := Go.Op.move (Go.Operand.tmp 18), type := 3, pos := "keeps.go:34", after := #[{ on := 10, ground := Go.Ground.guard }], guard := some (10, false) }) (v := ?_) rfl (by kernel_rfl) (by kernel_rfl) (by kernel_rfl) (fun _ _ _ h => h) (Or.inl ⟨by kernel_rfl, ?_⟩) (by assumption) ?_
            rotate_left
            · intro w _
              first | (go_simp; done) | (go_simp; with_reducible rfl)
            try simp only [Act.put, List.setIfInBounds_toArray, List.set_cons_zero, List.set_cons_succ]
            refine wpAnyH_take (i := 17) (oi := { dst := some 147, op := Go.Op.indexAddr 34 (Go.Operand.tmp 145) (Go.Operand.tmp 146), type := 0, pos := "keeps.go:34", after := #[{ on := 15, ground := Go.Ground.data }, { on := 16, ground := Go.Ground.data }, { on := 10, ground := Go.Ground.guard }], guard := some (10, false) }) (v := ?_) rfl (by kernel_rfl) (by kernel_rfl) (by kernel_rfl) (fun _ _ _ h => h) (Or.inl ⟨by kernel_rfl, ?_⟩) (by assumption) ?_
            rotate_left
            · intro w _
              first | (go_simp; done) | (go_simp; with_reducible rfl)
            try simp only [Act.put, List.setIfInBounds_toArray, List.set_cons_zero, List.set_cons_succ]
            refine wpAnyH_take (i := 18) (oi := { dst := some 148, op := Go.Op.load 26 (Go.Operand.tmp 147), type := 26, pos := "keeps.go:34", after := #[{ on := 17, ground := Go.Ground.data }, { on := 10, ground := Go.Ground.guard }], guard := some (10, false) }) (v := ?_) rfl (by kernel_rfl) (by kernel_rfl) (by kernel_rfl) (fun _ _ _ h => h) (Or.inl ⟨by kernel_rfl, ?_⟩) (by assumption) ?_
            rotate_left
            · intro w hSw
              (try dsimp only at hSw)
              go_split_ands
              first | (go_simp; done) | (go_simp; with_reducible rfl)
            try simp only [Act.put, List.setIfInBounds_toArray, List.set_cons_zero, List.set_cons_succ]
            refine wpAnyH_ready (rs := [19]) (by kernel_rfl) (by simp) ?_
            refine AllReadyH.cons (o := { dst := some 149, op := Go.Op.call { callee := Go.Callee.value (Go.Operand.func 22), args := #[Go.Operand.tmp 144, Go.Operand.tmp 148], argTypes := #[26, 26] }, type := 4, pos := "keeps.go:34", after := #[{ on := 14, ground := Go.Ground.data }, { on := 18, ground := Go.Ground.data }, { on := 10, ground := Go.Ground.chain }, { on := 10, ground := Go.Ground.guard }], guard := some (10, false) }) rfl (fun K hK => ?_) AllReadyH.nil
            go_simp
            go_at_call 22
            refine (S2.out _ (show Below wr.heap.size wr wc1 from by go_split_ands; assumption)).mono ?_
            rintro e wc2 ⟨rfl, hb3⟩
            have Sc2 := HS.out _ _ (by assumption) hb3
            refine hK.out _ _ Sc2 (fun _ => ?_)
            clear hK K hb3
            try simp only [Act.put, List.setIfInBounds_toArray, List.set_cons_zero, List.set_cons_succ]
            refine wpAnyH_take (i := 20) (oi := { dst := some 150, op := Go.Op.unOp Go.UnOp.not 4 (Go.Operand.tmp 149), type := 4, pos := "keeps.go:34", after := #[{ on := 19, ground := Go.Ground.data }, { on := 10, ground := Go.Ground.guard }], guard := some (10, false) }) (v := ?_) rfl (by kernel_rfl) (by kernel_rfl) (by kernel_rfl) (fun _ _ _ h => h) (Or.inl ⟨by kernel_rfl, ?_⟩) (by assumption) ?_
            rotate_left
            · intro w _
              first | (go_simp; done) | (go_simp; with_reducible rfl)
            try simp only [Act.put, List.setIfInBounds_toArray, List.set_cons_zero, List.set_cons_succ]
            refine wpAnyH_take (i := 21) (oi := { dst := some 151, op := Go.Op.pick (Go.Operand.tmp 140) (Go.Operand.const (Go.Value.bool true)) (Go.Operand.tmp 150), type := 4, pos := "keeps.go:34", after := #[{ on := 10, ground := Go.Ground.data }, { on := 20, ground := Go.Ground.data }], guard := none }) (v := ?_) rfl (by kernel_rfl) (by kernel_rfl) (by kernel_rfl) (fun _ _ _ h => h) (Or.inl ⟨by kernel_rfl, ?_⟩) (by assumption) ?_
            rotate_left
            · intro w _
              first | (go_simp; done) | (go_simp; with_reducible rfl)
            try simp only [Act.put, List.setIfInBounds_toArray, List.set_cons_zero, List.set_cons_succ]
            refine wpAnyH_take (i := 22) (oi := { dst := some 152, op := Go.Op.move (Go.Operand.tmp 151), type := 4, pos := "keeps.go:34", after := #[{ on := 21, ground := Go.Ground.data }, { on := 19, ground := Go.Ground.chain }], guard := none }) (v := ?_) rfl (by kernel_rfl) (by kernel_rfl) (by kernel_rfl) (fun _ _ _ h => h) (Or.inl ⟨by kernel_rfl, ?_⟩) (by assumption) ?_
            rotate_left
            · intro w _
              first | (go_simp; done) | (go_simp; with_reducible rfl)
            try simp only [Act.put, List.setIfInBounds_toArray, List.set_cons_zero, List.set_cons_succ]
            refine wpAnyH_take (i := 23) (oi := { dst := some 153, op := Go.Op.move (Go.Operand.tmp 18), type := 3, pos := "keeps.go:34", after := #[{ on := 22, ground := Go.Ground.guard }], guard := some (22, false) }) (v := ?_) rfl (by kernel_rfl) (by kernel_rfl) (by kernel_rfl) (fun _ _ _ h => h) (Or.inl ⟨by kernel_rfl, ?_⟩) (by assumption) ?_
            rotate_left
            · intro w _
              first | (go_simp; done) | (go_simp; with_reducible rfl)
            try simp only [Act.put, List.setIfInBounds_toArray, List.set_cons_zero, List.set_cons_succ]
            refine wpAnyH_take (i := 24) (oi := { dst := some 154, op := Go.Op.binOp Go.BinOp.gtr 3 (Go.Operand.tmp 153) (Go.Operand.const (Go.Value.int Go.IntKind.i64 0)) 3, type := 4, pos := "keeps.go:34", after := #[{ on := 23, ground := Go.Ground.data }, { on := 22, ground := Go.Ground.guard }], guard := some (22, false) }) (v := ?_) rfl (by kernel_rfl) (by kernel_rfl) (by kernel_rfl) (fun _ _ _ h => h) (Or.inl ⟨by kernel_rfl, ?_⟩) (by assumption) ?_
            rotate_left
            · intro w _
              first | (go_simp; done) | (go_simp; with_reducible rfl)
            try simp only [Act.put, List.setIfInBounds_toArray, List.set_cons_zero, List.set_cons_succ]
            refine wpAnyH_take (i := 25) (oi := { dst := some 155, op := Go.Op.move (Go.Operand.tmp 154), type := 4, pos := "keeps.go:34", after := #[{ on := 24, ground := Go.Ground.data }, { on := 22, ground := Go.Ground.chain }, { on := 22, ground := Go.Ground.guard }], guard := some (22, false) }) (v := ?_) rfl (by kernel_rfl) (by kernel_rfl) (by kernel_rfl) (fun _ _ _ h => h) (Or.inl ⟨by kernel_rfl, ?_⟩) (by assumption) ?_
            rotate_left
            · intro w _
              first | (go_simp; done) | (go_simp; with_reducible rfl)
            try simp only [Act.put, List.setIfInBounds_toArray, List.set_cons_zero, List.set_cons_succ]
            refine wpAnyH_take (i := 26) (oi := { dst := some 156, op := Go.Op.move (Go.Operand.tmp 12), type := 34, pos := "keeps.go:34", after := #[{ on := 25, ground := Go.Ground.guard }], guard := some (25, true) }) (v := undef) rfl (by kernel_rfl) (by kernel_rfl) (by kernel_rfl) (fun _ _ _ h => h) (Or.inr ⟨by kernel_rfl, rfl⟩) (by assumption) ?_
            try simp only [Act.put, List.setIfInBounds_toArray, List.set_cons_zero, List.set_cons_succ]
            refine wpAnyH_take (i := 27) (oi := { dst := some 157, op := Go.Op.move (Go.Operand.tmp 18), type := 3, pos := "keeps.go:34", after := #[{ on := 25, ground := Go.Ground.guard }], guard := some (25, true) }) (v := undef) rfl (by kernel_rfl) (by kernel_rfl) (by kernel_rfl) (fun _ _ _ h => h) (Or.inr ⟨by kernel_rfl, rfl⟩) (by assumption) ?_
            try simp only [Act.put, List.setIfInBounds_toArray, List.set_cons_zero, List.set_cons_succ]
            refine wpAnyH_take (i := 28) (oi := { dst := some 158, op := Go.Op.binOp Go.BinOp.sub 3 (Go.Operand.tmp 157) (Go.Operand.const (Go.Value.int Go.IntKind.i64 1)) 3, type := 3, pos := "keeps.go:34", after := #[{ on := 27, ground := Go.Ground.data }, { on := 25, ground := Go.Ground.guard }], guard := some (25, true) }) (v := undef) rfl (by kernel_rfl) (by kernel_rfl) (by kernel_rfl) (fun _ _ _ h => h) (Or.inr ⟨by kernel_rfl, rfl⟩) (by assumption) ?_
            try simp only [Act.put, List.setIfInBounds_toArray, List.set_cons_zero, List.set_cons_succ]
            refine wpAnyH_take (i := 29) (oi := { dst := some 159, op := Go.Op.indexAddr 34 (Go.Operand.tmp 156) (Go.Operand.tmp 158), type := 0, pos := "keeps.go:34", after := #[{ on := 26, ground := Go.Ground.data }, { on := 28, ground := Go.Ground.data }, { on := 25, ground := Go.Ground.guard }], guard := some (25, true) }) (v := undef) rfl (by kernel_rfl) (by kernel_rfl) (by kernel_rfl) (fun _ _ _ h => h) (Or.inr ⟨by kernel_rfl, rfl⟩) (by assumption) ?_
            try simp only [Act.put, List.setIfInBounds_toArray, List.set_cons_zero, List.set_cons_succ]
            refine wpAnyH_take (i := 30) (oi := { dst := some 160, op := Go.Op.load 26 (Go.Operand.tmp 159), type := 26, pos := "keeps.go:34", after := #[{ on := 29, ground := Go.Ground.data }, { on := 25, ground := Go.Ground.guard }], guard := some (25, true) }) (v := undef) rfl (by kernel_rfl) (by kernel_rfl) (by kernel_rfl) (fun _ _ _ h => h) (Or.inr ⟨by kernel_rfl, rfl⟩) (by assumption) ?_
            try simp only [Act.put, List.setIfInBounds_toArray, List.set_cons_zero, List.set_cons_succ]
            refine wpAnyH_take (i := 31) (oi := { dst := some 161, op := Go.Op.move (Go.Operand.tmp 12), type := 34, pos := "keeps.go:34", after := #[{ on := 25, ground := Go.Ground.guard }], guard := some (25, true) }) (v := undef) rfl (by kernel_rfl) (by kernel_rfl) (by kernel_rfl) (fun _ _ _ h => h) (Or.inr ⟨by kernel_rfl, rfl⟩) (by assumption) ?_
            try simp only [Act.put, List.setIfInBounds_toArray, List.set_cons_zero, List.set_cons_succ]
            refine wpAnyH_take (i := 32) (oi := { dst := some 162, op := Go.Op.move (Go.Operand.tmp 18), type := 3, pos := "keeps.go:34", after := #[{ on := 25, ground := Go.Ground.guard }], guard := some (25, true) }) (v := undef) rfl (by kernel_rfl) (by kernel_rfl) (by kernel_rfl) (fun _ _ _ h => h) (Or.inr ⟨by kernel_rfl, rfl⟩) (by assumption) ?_
            try simp only [Act.put, List.setIfInBounds_toArray, List.set_cons_zero, List.set_cons_succ]
            refine wpAnyH_take (i := 33) (oi := { dst := some 163, op := Go.Op.indexAddr 34 (Go.Operand.tmp 161) (Go.Operand.tmp 162), type := 0, pos := "keeps.go:34", after := #[{ on := 31, ground := Go.Ground.data }, { on := 32, ground := Go.Ground.data }, { on := 25, ground := Go.Ground.guard }], guard := some (25, true) }) (v := undef) rfl (by kernel_rfl) (by kernel_rfl) (by kernel_rfl) (fun _ _ _ h => h) (Or.inr ⟨by kernel_rfl, rfl⟩) (by assumption) ?_
            try simp only [Act.put, List.setIfInBounds_toArray, List.set_cons_zero, List.set_cons_succ]
            refine wpAnyH_take (i := 34) (oi := { dst := some 164, op := Go.Op.load 26 (Go.Operand.tmp 163), type := 26, pos := "keeps.go:34", after := #[{ on := 33, ground := Go.Ground.data }, { on := 25, ground := Go.Ground.guard }], guard := some (25, true) }) (v := undef) rfl (by kernel_rfl) (by kernel_rfl) (by kernel_rfl) (fun _ _ _ h => h) (Or.inr ⟨by kernel_rfl, rfl⟩) (by assumption) ?_
            try simp only [Act.put, List.setIfInBounds_toArray, List.set_cons_zero, List.set_cons_succ]
            refine wpAnyH_take (i := 35) (oi := { dst := some 165, op := Go.Op.move (Go.Operand.tmp 2), type := 4, pos := "keeps.go:34", after := #[{ on := 25, ground := Go.Ground.guard }], guard := some (25, true) }) (v := undef) rfl (by kernel_rfl) (by kernel_rfl) (by kernel_rfl) (fun _ _ _ h => h) (Or.inr ⟨by kernel_rfl, rfl⟩) (by assumption) ?_
            try simp only [Act.put, List.setIfInBounds_toArray, List.set_cons_zero, List.set_cons_succ]
            refine wpAnyH_take (i := 36) (oi := { dst := some 166, op := Go.Op.call { callee := Go.Callee.value (Go.Operand.func 23), args := #[Go.Operand.tmp 160, Go.Operand.tmp 164, Go.Operand.tmp 165], argTypes := #[26, 26, 4] }, type := 4, pos := "keeps.go:34", after := #[{ on := 30, ground := Go.Ground.data }, { on := 34, ground := Go.Ground.data }, { on := 35, ground := Go.Ground.data }, { on := 25, ground := Go.Ground.chain }, { on := 25, ground := Go.Ground.guard }], guard := some (25, true) }) (v := undef) rfl (by kernel_rfl) (by kernel_rfl) (by kernel_rfl) (fun _ _ _ h => h) (Or.inr ⟨by kernel_rfl, rfl⟩) (by assumption) ?_
            try simp only [Act.put, List.setIfInBounds_toArray, List.set_cons_zero, List.set_cons_succ]
            refine wpAnyH_take (i := 37) (oi := { dst := some 167, op := Go.Op.unOp Go.UnOp.not 4 (Go.Operand.tmp 166), type := 4, pos := "keeps.go:34", after := #[{ on := 36, ground := Go.Ground.data }, { on := 25, ground := Go.Ground.guard }], guard := some (25, true) }) (v := undef) rfl (by kernel_rfl) (by kernel_rfl) (by kernel_rfl) (fun _ _ _ h => h) (Or.inr ⟨by kernel_rfl, rfl⟩) (by assumption) ?_
            try simp only [Act.put, List.setIfInBounds_toArray, List.set_cons_zero, List.set_cons_succ]
            refine wpAnyH_take (i := 38) (oi := { dst := some 168, op := Go.Op.pick (Go.Operand.tmp 155) (Go.Operand.tmp 167) (Go.Operand.const (Go.Value.bool false)), type := 4, pos := "keeps.go:34", after := #[{ on := 25, ground := Go.Ground.data }, { on := 37, ground := Go.Ground.data }, { on := 22, ground := Go.Ground.guard }], guard := some (22, false) }) (v := ?_) rfl (by kernel_rfl) (by kernel_rfl) (by kernel_rfl) (fun _ _ _ h => h) (Or.inl ⟨by kernel_rfl, ?_⟩) (by assumption) ?_
            rotate_left
            · intro w _
              first | (go_simp; done) | (go_simp; with_reducible rfl)
            try simp only [Act.put, List.setIfInBounds_toArray, List.set_cons_zero, List.set_cons_succ]
            refine wpAnyH_take (i := 39) (oi := { dst := some 169, op := Go.Op.pick (Go.Operand.tmp 152) (Go.Operand.const (Go.Value.bool true)) (Go.Operand.tmp 168), type := 4, pos := "keeps.go:34", after := #[{ on := 22, ground := Go.Ground.data }, { on := 38, ground := Go.Ground.data }], guard := none }) (v := ?_) rfl (by kernel_rfl) (by kernel_rfl) (by kernel_rfl) (fun _ _ _ h => h) (Or.inl ⟨by kernel_rfl, ?_⟩) (by assumption) ?_
            rotate_left
            · intro w _
              first | (go_simp; done) | (go_simp; with_reducible rfl)
            try simp only [Act.put, List.setIfInBounds_toArray, List.set_cons_zero, List.set_cons_succ]
            refine wpAnyH_done (by kernel_rfl) ?_ _
            have hbz := hop Hb.out (Nat.le_refl _) (show Below wr.heap.size wr wc2 from by go_split_ands; assumption)
            go_split_ands
            clear S1 S2 HS
            go_wp2
            go_round
            case rel => exact ⟨0 + 1, by omega, by go_num, hbz⟩
            case measure => simp [intOf]; omega
          · obtain ⟨i, hji⟩ : ∃ i, j = i + 1 := ⟨j - 1, by omega⟩
            obtain ⟨g1, g2, g3, gu⟩ := HCP.out i (by omega)
            have uq : Lp[i]? = some (Lp.getD i xnil) := by
              have := HLp.out
              rw [List.getD_eq_getElem?_getD, List.getElem?_eq_getElem (by omega)]
              rfl
            obtain ⟨u, hu⟩ : ∃ t, Lp.getD i xnil = t := ⟨_, rfl⟩
            rw [hu] at g1 g2 g3 gu uq
            have Gu := Lib.hid gu
            have hwp : IntKind.i64.wrap ((j : Int) - 1) = (i : Int) := by rw [IntKind.wrap_i64]; omega
            have hiI : (i : Int) < (np : Int) := by omega
            have q1 : decide (0 < j) = true := decide_eq_true hj0
            have q2 : 0 < j := hj0
            have q3 : (0 : Int) < (j : Int) := by omega
            have A1 := fun w (h : Below wr.heap.size wr w) => ahead_good u x asc w (Gu.out.below h) (Gx.out.below h)
            rw [show aheadB u.b x.b asc = true from strict_at HST.out uq (by rw [← hji]; exact Qx.out)] at A1
            replace A1 := Lib.hid A1
            have HJI := Lib.hid hji
            clear uq hu gu hji HCP
            have S0 : Below wr.heap.size wr wr.drew ∧ wr.drew.cell? ⟨bx, ox + j * 3, none⟩ = some (.int .i64 x.ts) ∧ wr.drew.cell? ⟨bx, ox + j * 3 + 1, none⟩ = some (.slice x.A x.n x.c) ∧ wr.drew.cell? ⟨bx, ox + j * 3 + 2, none⟩ = some (.string x.ln) ∧ wr.drew.cell? ⟨by_, oy + j * 3, none⟩ = some (.int .i64 y.ts) ∧ wr.drew.cell? ⟨by_, oy + j * 3 + 1, none⟩ = some (.slice y.A y.n y.c) ∧ wr.drew.cell? ⟨by_, oy + j * 3 + 2, none⟩ = some (.string y.ln) ∧ wr.drew.cell? ⟨bv, ov + j * 3, none⟩ = some (.int .i64 v.ts) ∧ wr.drew.cell? ⟨bv, ov + j * 3 + 1, none⟩ = some (.slice v.A v.n v.c) ∧ wr.drew.cell? ⟨bv, ov + j * 3 + 2, none⟩ = some (.string v.ln) ∧ wr.drew.cell? ⟨bx, ox + i * 3, none⟩ = some (.int .i64 u.ts) ∧ wr.drew.cell? ⟨bx, ox + i * 3 + 1, none⟩ = some (.slice u.A u.n u.c) ∧ wr.drew.cell? ⟨bx, ox + i * 3 + 2, none⟩ = some (.string u.ln) := ⟨(Below.refl _ _).drew, c1, c2, c3, d1, d2, d3, f1, f2, f3, g1, g2, g3⟩
            have HS := Lib.hid (fun (wa wb : World) (hS : Below wr.heap.size wr wa ∧ wa.cell? ⟨bx, ox + j * 3, none⟩ = some (.int .i64 x.ts) ∧ wa.cell? ⟨bx, ox + j * 3 + 1, none⟩ = some (.slice x.A x.n x.c) ∧ wa.cell? ⟨bx, ox + j * 3 + 2, none⟩ = some (.string x.ln) ∧ wa.cell? ⟨by_, oy + j * 3, none⟩ = some (.int .i64 y.ts) ∧ wa.cell? ⟨by_, oy + j * 3 + 1, none⟩ = some (.slice y.A y.n y.c) ∧ wa.cell? ⟨by_, oy + j * 3 + 2, none⟩ = some (.string y.ln) ∧ wa.cell? ⟨bv, ov + j * 3, none⟩ = some (.int .i64 v.ts) ∧ wa.cell? ⟨bv, ov + j * 3 + 1, none⟩ = some (.slice v.A v.n v.c) ∧ wa.cell? ⟨bv, ov + j * 3 + 2, none⟩ = some (.string v.ln) ∧ wa.cell? ⟨bx, ox + i * 3, none⟩ = some (.int .i64 u.ts) ∧ wa.cell? ⟨bx, ox + i * 3 + 1, none⟩ = some (.slice u.A u.n u.c) ∧ wa.cell? ⟨bx, ox + i * 3 + 2, none⟩ = some (.string u.ln)) (h : Below wa.heap.size wa wb) => show Below wr.heap.size wr wb ∧ wb.cell? ⟨bx, ox + j * 3, none⟩ = some (.int .i64 x.ts) ∧ wb.cell? ⟨bx, ox + j * 3 + 1, none⟩ = some (.slice x.A x.n x.c) ∧ wb.cell? ⟨bx, ox + j * 3 + 2, none⟩ = some (.string x.ln) ∧ wb.cell? ⟨by_, oy + j * 3, none⟩ = some (.int .i64 y.ts) ∧ wb.cell? ⟨by_, oy + j * 3 + 1, none⟩ = some (.slice y.A y.n y.c) ∧ wb.cell? ⟨by_, oy + j * 3 + 2, none⟩ = some (.string y.ln) ∧ wb.cell? ⟨bv, ov + j * 3, none⟩ = some (.int .i64 v.ts) ∧ wb.cell? ⟨bv, ov + j * 3 + 1, none⟩ = some (.slice v.A v.n v.c) ∧ wb.cell? ⟨bv, ov + j * 3 + 2, none⟩ = some (.string v.ln) ∧ wb.cell? ⟨bx, ox + i * 3, none⟩ = some (.int .i64 u.ts) ∧ wb.cell? ⟨bx, ox + i * 3 + 1, none⟩ = some (.slice u.A u.n u.c) ∧ wb.cell? ⟨bx, ox + i * 3 + 2, none⟩ = some (.string u.ln) from by
              obtain ⟨s0, s1, s2, s3, s4, s5, s6, s7, s8, s9, s10, s11, s12⟩ := hS
              exact ⟨hop s0 (Nat.le_refl _) h, (h.cell (p := ⟨bx, ox + j * 3, none⟩) (block_lt_of_cell s1)).trans s1, (h.cell (p := ⟨bx, ox + j * 3 + 1, none⟩) (block_lt_of_cell s2)).trans s2, (h.cell (p := ⟨bx, ox + j * 3 + 2, none⟩) (block_lt_of_cell s3)).trans s3, (h.cell (p := ⟨by_, oy + j * 3, none⟩) (block_lt_of_cell s4)).trans s4, (h.cell (p := ⟨by_, oy + j * 3 + 1, none⟩) (block_lt_of_cell s5)).trans s5, (h.cell (p := ⟨by_, oy + j * 3 + 2, none⟩) (block_lt_of_cell s6)).trans s6, (h.cell (p := ⟨bv, ov + j * 3, none⟩) (block_lt_of_cell s7)).trans s7, (h.cell (p := ⟨bv, ov + j * 3 + 1, none⟩) (block_lt_of_cell s8)).trans s8, (h.cell (p := ⟨bv, ov + j * 3 + 2, none⟩) (block_lt_of_cell s9)).trans s9, (h.cell (p := ⟨bx, ox + i * 3, none⟩) (block_lt_of_cell s10)).trans s10, (h.cell (p := ⟨bx, ox + i * 3 + 1, none⟩) (block_lt_of_cell s11)).trans s11, (h.cell (p := ⟨bx, ox + i * 3 + 2, none⟩) (block_lt_of_cell s12)).trans s12⟩)
            clear hb c1 c2 c3 d1 d2 d3 f1 f2 f3 g1 g2 g3
            go_wp2
            refine wp_region_held_drew (S := fun w' => Below wr.heap.size wr w' ∧ w'.cell? ⟨bx, ox + j * 3, none⟩ = some (.int .i64 x.ts) ∧ w'.cell? ⟨bx, ox + j * 3 + 1, none⟩ = some (.slice x.A x.n x.c) ∧ w'.cell? ⟨bx, ox + j * 3 + 2, none⟩ = some (.string x.ln) ∧ w'.cell? ⟨by_, oy + j * 3, none⟩ = some (.int .i64 y.ts) ∧ w'.cell? ⟨by_, oy + j * 3 + 1, none⟩ = some (.slice y.A y.n y.c) ∧ w'.cell? ⟨by_, oy + j * 3 + 2, none⟩ = some (.string y.ln) ∧ w'.cell? ⟨bv, ov + j * 3, none⟩ = some (.int .i64 v.ts) ∧ w'.cell? ⟨bv, ov + j * 3 + 1, none⟩ = some (.slice v.A v.n v.c) ∧ w'.cell? ⟨bv, ov + j * 3 + 2, none⟩ = some (.string v.ln) ∧ w'.cell? ⟨bx, ox + i * 3, none⟩ = some (.int .i64 u.ts) ∧ w'.cell? ⟨bx, ox + i * 3 + 1, none⟩ = some (.slice u.A u.n u.c) ∧ w'.cell? ⟨bx, ox + i * 3 + 2, none⟩ = some (.string u.ln)) (by kernel_rfl) S0 (fun hHeld => ?_)
            refine wpAnyH_take (i := 0) (oi := { dst := some 130, op := Go.Op.move (Go.Operand.tmp 12), type := 34, pos := "keeps.go:34", after := #[], guard := none }) (v := ?_) rfl (by kernel_rfl) (by kernel_rfl) (by kernel_rfl) (fun _ _ _ h => h) (Or.inl ⟨by kernel_rfl, ?_⟩) (by assumption) ?_
            rotate_left
            · intro w _
              first | (go_simp; done) | (go_simp; with_reducible rfl)
            try simp only [Act.put, List.setIfInBounds_toArray, List.set_cons_zero, List.set_cons_succ]
            refine wpAnyH_take (i := 1) (oi := { dst := some 131, op := Go.Op.move (Go.Operand.tmp 18), type := 3, pos := "keeps.go:34", after := #[], guard := none }) (v := ?_) rfl (by kernel_rfl) (by kernel_rfl) (by kernel_rfl) (fun _ _ _ h => h) (Or.inl ⟨by kernel_rfl, ?_⟩) (by assumption) ?_
            rotate_left
            · intro w _
              first | (go_simp; done) | (go_simp; with_reducible rfl)
            try simp only [Act.put, List.setIfInBounds_toArray, List.set_cons_zero, List.set_cons_succ]
            refine wpAnyH_take (i := 2) (oi := { dst := some 132, op := Go.Op.indexAddr 34 (Go.Operand.tmp 130) (Go.Operand.tmp 131), type := 0, pos := "keeps.go:34", after := #[{ on := 0, ground := Go.Ground.data }, { on := 1, ground := Go.Ground.data }], guard := none }) (v := ?_) rfl (by kernel_rfl) (by kernel_rfl) (by kernel_rfl) (fun _ _ _ h => h) (Or.inl ⟨by kernel_rfl, ?_⟩) (by assumption) ?_
            rotate_left
            · intro w _
              first | (go_simp; done) | (go_simp; with_reducible rfl)
            try simp only [Act.put, List.setIfInBounds_toArray, List.set_cons_zero, List.set_cons_succ]
            refine wpAnyH_take (i := 3) (oi := { dst := some 133, op := Go.Op.load 26 (Go.Operand.tmp 132), type := 26, pos := "keeps.go:34", after := #[{ on := 2, ground := Go.Ground.data }], guard := none }) (v := ?_) rfl (by kernel_rfl) (by kernel_rfl) (by kernel_rfl) (fun _ _ _ h => h) (Or.inl ⟨by kernel_rfl, ?_⟩) (by assumption) ?_
            rotate_left
            · intro w hSw
              (try dsimp only at hSw)
              go_split_ands
              first | (go_simp; done) | (go_simp; with_reducible rfl)
            try simp only [Act.put, List.setIfInBounds_toArray, List.set_cons_zero, List.set_cons_succ]
            refine wpAnyH_take (i := 4) (oi := { dst := some 134, op := Go.Op.move (Go.Operand.tmp 14), type := 34, pos := "keeps.go:34", after := #[], guard := none }) (v := ?_) rfl (by kernel_rfl) (by kernel_rfl) (by kernel_rfl) (fun _ _ _ h => h) (Or.inl ⟨by kernel_rfl, ?_⟩) (by assumption) ?_
            rotate_left
            · intro w _
              first | (go_simp; done) | (go_simp; with_reducible rfl)
            try simp only [Act.put, List.setIfInBounds_toArray, List.set_cons_zero, List.set_cons_succ]
            refine wpAnyH_take (i := 5) (oi := { dst := some 135, op := Go.Op.move (Go.Operand.tmp 18), type := 3, pos := "keeps.go:34", after := #[], guard := none }) (v := ?_) rfl (by kernel_rfl) (by kernel_rfl) (by kernel_rfl) (fun _ _ _ h => h) (Or.inl ⟨by kernel_rfl, ?_⟩) (by assumption) ?_
            rotate_left
            · intro w _
              first | (go_simp; done) | (go_simp; with_reducible rfl)
            try simp only [Act.put, List.setIfInBounds_toArray, List.set_cons_zero, List.set_cons_succ]
            refine wpAnyH_take (i := 6) (oi := { dst := some 136, op := Go.Op.indexAddr 34 (Go.Operand.tmp 134) (Go.Operand.tmp 135), type := 0, pos := "keeps.go:34", after := #[{ on := 4, ground := Go.Ground.data }, { on := 5, ground := Go.Ground.data }], guard := none }) (v := ?_) rfl (by kernel_rfl) (by kernel_rfl) (by kernel_rfl) (fun _ _ _ h => h) (Or.inl ⟨by kernel_rfl, ?_⟩) (by assumption) ?_
            rotate_left
            · intro w _
              first | (go_simp; done) | (go_simp; with_reducible rfl)
            try simp only [Act.put, List.setIfInBounds_toArray, List.set_cons_zero, List.set_cons_succ]
            refine wpAnyH_take (i := 7) (oi := { dst := some 137, op := Go.Op.load 26 (Go.Operand.tmp 136), type := 26, pos := "keeps.go:34", after := #[{ on := 6, ground := Go.Ground.data }], guard := none }) (v := ?_) rfl (by kernel_rfl) (by kernel_rfl) (by kernel_rfl) (fun _ _ _ h => h) (Or.inl ⟨by kernel_rfl, ?_⟩) (by assumption) ?_
            rotate_left
            · intro w hSw
              (try dsimp only at hSw)
              go_split_ands
              first | (go_simp; done) | (go_simp; with_reducible rfl)
            try simp only [Act.put, List.setIfInBounds_toArray, List.set_cons_zero, List.set_cons_succ]
            refine wpAnyH_ready (rs := [8]) (by kernel_rfl) (by simp) ?_
            refine AllReadyH.cons (o := { dst := some 138, op := Go.Op.call { callee := Go.Callee.value (Go.Operand.func 22), args := #[Go.Operand.tmp 133, Go.Operand.tmp 137], argTypes := #[26, 26] }, type := 4, pos := "keeps.go:34", after := #[{ on := 3, ground := Go.Ground.data }, { on := 7, ground := Go.Ground.data }], guard := none }) rfl (fun K hK => ?_) AllReadyH.nil
            go_simp
            go_at_call 22
            refine (S1.out _ (show Below wr.heap.size wr wr.drew from by go_split_ands; assumption)).mono ?_
            rintro e wc1 ⟨rfl, hb3⟩
            have Sc1 := HS.out _ _ (by assumption) hb3
            refine hK.out _ _ Sc1 (fun _ => ?_)
            clear hK K hb3
            try simp only [Act.put, List.setIfInBounds_toArray, List.set_cons_zero, List.set_cons_succ]
            refine wpAnyH_take (i := 9) (oi := { dst := some 139, op := Go.Op.unOp Go.UnOp.not 4 (Go.Operand.tmp 138), type := 4, pos := "keeps.go:34", after := #[{ on := 8, ground := Go.Ground.data }], guard := none }) (v := ?_) rfl (by kernel_rfl) (by kernel_rfl) (by kernel_rfl) (fun _ _ _ h => h) (Or.inl ⟨by kernel_rfl, ?_⟩) (by assumption) ?_
            rotate_left
            · intro w _
              first | (go_simp; done) | (go_simp; with_reducible rfl)
            try simp only [Act.put, List.setIfInBounds_toArray, List.set_cons_zero, List.set_cons_succ]
            refine wpAnyH_take (i := 10) (oi := { dst := some 140, op := Go.Op.move (Go.Operand.tmp 139), type := 4, pos := "keeps.go:34", after := #[{ on := 9, ground := Go.Ground.data }, { on := 8, ground := Go.Ground.chain }], guard := none }) (v := ?_) rfl (by kernel_rfl) (by kernel_rfl) (by kernel_rfl) (fun _ _ _ h => h) (Or.inl ⟨by kernel_rfl, ?_⟩) (by assumption) ?_
            rotate_left
            · intro w _
              first | (go_simp; done) | (go_simp; with_reducible rfl)
            try simp only [Act.put, List.setIfInBounds_toArray, List.set_cons_zero, List.set_cons_succ]
            refine wpAnyH_take (i := 11) (oi := { dst := some 141, op := Go.Op.move (Go.Operand.tmp 12), type := 34, pos := "keeps.go:34", after := #[{ on := 10, ground := Go.Ground.guard }], guard := some (10, false) }) (v := ?_) rfl (by kernel_rfl) (by kernel_rfl) (by kernel_rfl) (fun _ _ _ h => h) (Or.inl ⟨by kernel_rfl, ?_⟩) (by assumption) ?_
            rotate_left
            · intro w _
              first | (go_simp; done) | (go_simp; with_reducible rfl)
            try simp only [Act.put, List.setIfInBounds_toArray, List.set_cons_zero, List.set_cons_succ]
            refine wpAnyH_take (i := 12) (oi := { dst := some 142, op := Go.Op.move (Go.Operand.tmp 18), type := 3, pos := "keeps.go:34", after := #[{ on := 10, ground := Go.Ground.guard }], guard := some (10, false) }) (v := ?_) rfl (by kernel_rfl) (by kernel_rfl) (by kernel_rfl) (fun _ _ _ h => h) (Or.inl ⟨by kernel_rfl, ?_⟩) (by assumption) ?_
            rotate_left
            · intro w _
              first | (go_simp; done) | (go_simp; with_reducible rfl)
            try simp only [Act.put, List.setIfInBounds_toArray, List.set_cons_zero, List.set_cons_succ]
            refine wpAnyH_take (i := 13) (oi := { dst := some 143, op := Go.Op.indexAddr 34 (Go.Operand.tmp 141) (Go.Operand.tmp 142), type := 0, pos := "keeps.go:34", after := #[{ on := 11, ground := Go.Ground.data }, { on := 12, ground := Go.Ground.data }, { on := 10, ground := Go.Ground.guard }], guard := some (10, false) }) (v := ?_) rfl (by kernel_rfl) (by kernel_rfl) (by kernel_rfl) (fun _ _ _ h => h) (Or.inl ⟨by kernel_rfl, ?_⟩) (by assumption) ?_
            rotate_left
            · intro w _
              first | (go_simp; done) | (go_simp; with_reducible rfl)
            try simp only [Act.put, List.setIfInBounds_toArray, List.set_cons_zero, List.set_cons_succ]
            refine wpAnyH_take (i := 14) (oi := { dst := some 144, op := Go.Op.load 26 (Go.Operand.tmp 143), type := 26, pos := "keeps.go:34", after := #[{ on := 13, ground := Go.Ground.data }, { on := 10, ground := Go.Ground.guard }], guard := some (10, false) }) (v := ?_) rfl (by kernel_rfl) (by kernel_rfl) (by kernel_rfl) (fun _ _ _ h => h) (Or.inl ⟨by kernel_rfl, ?_⟩) (by assumption) ?_
            rotate_left
            · intro w hSw
              (try dsimp only at hSw)
              go_split_ands
              first | (go_simp; done) | (go_simp; with_reducible rfl)
            try simp only [Act.put, List.setIfInBounds_toArray, List.set_cons_zero, List.set_cons_succ]
            refine wpAnyH_take (i := 15) (oi := { dst := some 145, op := Go.Op.move (Go.Operand.tmp 16), type := 34, pos := "keeps.go:34", after := #[{ on := 10, ground := Go.Ground.guard }], guard := some (10, false) }) (v := ?_) rfl (by kernel_rfl) (by kernel_rfl) (by kernel_rfl) (fun _ _ _ h => h) (Or.inl ⟨by kernel_rfl, ?_⟩) (by assumption) ?_
            rotate_left
            · intro w _
              first | (go_simp; done) | (go_simp; with_reducible rfl)
            try simp only [Act.put, List.setIfInBounds_toArray, List.set_cons_zero, List.set_cons_succ]
            refine wpAnyH_take (i := 16) (oi := { dst := some 146, op := Go.Op.move (Go.Operand.tmp 18), type := 3, pos := "keeps.go:34", after := #[{ on := 10, ground := Go.Ground.guard }], guard := some (10, false) }) (v := ?_) rfl (by kernel_rfl) (by kernel_rfl) (by kernel_rfl) (fun _ _ _ h => h) (Or.inl ⟨by kernel_rfl, ?_⟩) (by assumption) ?_
            rotate_left
            · intro w _
              first | (go_simp; done) | (go_simp; with_reducible rfl)
            try simp only [Act.put, List.setIfInBounds_toArray, List.set_cons_zero, List.set_cons_succ]
            refine wpAnyH_take (i := 17) (oi := { dst := some 147, op := Go.Op.indexAddr 34 (Go.Operand.tmp 145) (Go.Operand.tmp 146), type := 0, pos := "keeps.go:34", after := #[{ on := 15, ground := Go.Ground.data }, { on := 16, ground := Go.Ground.data }, { on := 10, ground := Go.Ground.guard }], guard := some (10, false) }) (v := ?_) rfl (by kernel_rfl) (by kernel_rfl) (by kernel_rfl) (fun _ _ _ h => h) (Or.inl ⟨by kernel_rfl, ?_⟩) (by assumption) ?_
            rotate_left
            · intro w _
              first | (go_simp; done) | (go_simp; with_reducible rfl)
            try simp only [Act.put, List.setIfInBounds_toArray, List.set_cons_zero, List.set_cons_succ]
            refine wpAnyH_take (i := 18) (oi := { dst := some 148, op := Go.Op.load 26 (Go.Operand.tmp 147), type := 26, pos := "keeps.go:34", after := #[{ on := 17, ground := Go.Ground.data }, { on := 10, ground := Go.Ground.guard }], guard := some (10, false) }) (v := ?_) rfl (by kernel_rfl) (by kernel_rfl) (by kernel_rfl) (fun _ _ _ h => h) (Or.inl ⟨by kernel_rfl, ?_⟩) (by assumption) ?_
            rotate_left
            · intro w hSw
              (try dsimp only at hSw)
              go_split_ands
              first | (go_simp; done) | (go_simp; with_reducible rfl)
            try simp only [Act.put, List.setIfInBounds_toArray, List.set_cons_zero, List.set_cons_succ]
            refine wpAnyH_ready (rs := [19]) (by kernel_rfl) (by simp) ?_
            refine AllReadyH.cons (o := { dst := some 149, op := Go.Op.call { callee := Go.Callee.value (Go.Operand.func 22), args := #[Go.Operand.tmp 144, Go.Operand.tmp 148], argTypes := #[26, 26] }, type := 4, pos := "keeps.go:34", after := #[{ on := 14, ground := Go.Ground.data }, { on := 18, ground := Go.Ground.data }, { on := 10, ground := Go.Ground.chain }, { on := 10, ground := Go.Ground.guard }], guard := some (10, false) }) rfl (fun K hK => ?_) AllReadyH.nil
            go_simp
            go_at_call 22
            refine (S2.out _ (show Below wr.heap.size wr wc1 from by go_split_ands; assumption)).mono ?_
            rintro e wc2 ⟨rfl, hb3⟩
            have Sc2 := HS.out _ _ (by assumption) hb3
            refine hK.out _ _ Sc2 (fun _ => ?_)
            clear hK K hb3
            try simp only [Act.put, List.setIfInBounds_toArray, List.set_cons_zero, List.set_cons_succ]
            refine wpAnyH_take (i := 20) (oi := { dst := some 150, op := Go.Op.unOp Go.UnOp.not 4 (Go.Operand.tmp 149), type := 4, pos := "keeps.go:34", after := #[{ on := 19, ground := Go.Ground.data }, { on := 10, ground := Go.Ground.guard }], guard := some (10, false) }) (v := ?_) rfl (by kernel_rfl) (by kernel_rfl) (by kernel_rfl) (fun _ _ _ h => h) (Or.inl ⟨by kernel_rfl, ?_⟩) (by assumption) ?_
            rotate_left
            · intro w _
              first | (go_simp; done) | (go_simp; with_reducible rfl)
            try simp only [Act.put, List.setIfInBounds_toArray, List.set_cons_zero, List.set_cons_succ]
            refine wpAnyH_take (i := 21) (oi := { dst := some 151, op := Go.Op.pick (Go.Operand.tmp 140) (Go.Operand.const (Go.Value.bool true)) (Go.Operand.tmp 150), type := 4, pos := "keeps.go:34", after := #[{ on := 10, ground := Go.Ground.data }, { on := 20, ground := Go.Ground.data }], guard := none }) (v := ?_) rfl (by kernel_rfl) (by kernel_rfl) (by kernel_rfl) (fun _ _ _ h => h) (Or.inl ⟨by kernel_rfl, ?_⟩) (by assumption) ?_
            rotate_left
            · intro w _
              first | (go_simp; done) | (go_simp; with_reducible rfl)
            try simp only [Act.put, List.setIfInBounds_toArray, List.set_cons_zero, List.set_cons_succ]
            refine wpAnyH_take (i := 22) (oi := { dst := some 152, op := Go.Op.move (Go.Operand.tmp 151), type := 4, pos := "keeps.go:34", after := #[{ on := 21, ground := Go.Ground.data }, { on := 19, ground := Go.Ground.chain }], guard := none }) (v := ?_) rfl (by kernel_rfl) (by kernel_rfl) (by kernel_rfl) (fun _ _ _ h => h) (Or.inl ⟨by kernel_rfl, ?_⟩) (by assumption) ?_
            rotate_left
            · intro w _
              first | (go_simp; done) | (go_simp; with_reducible rfl)
            try simp only [Act.put, List.setIfInBounds_toArray, List.set_cons_zero, List.set_cons_succ]
            refine wpAnyH_take (i := 23) (oi := { dst := some 153, op := Go.Op.move (Go.Operand.tmp 18), type := 3, pos := "keeps.go:34", after := #[{ on := 22, ground := Go.Ground.guard }], guard := some (22, false) }) (v := ?_) rfl (by kernel_rfl) (by kernel_rfl) (by kernel_rfl) (fun _ _ _ h => h) (Or.inl ⟨by kernel_rfl, ?_⟩) (by assumption) ?_
            rotate_left
            · intro w _
              first | (go_simp; done) | (go_simp; with_reducible rfl)
            try simp only [Act.put, List.setIfInBounds_toArray, List.set_cons_zero, List.set_cons_succ]
            refine wpAnyH_take (i := 24) (oi := { dst := some 154, op := Go.Op.binOp Go.BinOp.gtr 3 (Go.Operand.tmp 153) (Go.Operand.const (Go.Value.int Go.IntKind.i64 0)) 3, type := 4, pos := "keeps.go:34", after := #[{ on := 23, ground := Go.Ground.data }, { on := 22, ground := Go.Ground.guard }], guard := some (22, false) }) (v := ?_) rfl (by kernel_rfl) (by kernel_rfl) (by kernel_rfl) (fun _ _ _ h => h) (Or.inl ⟨by kernel_rfl, ?_⟩) (by assumption) ?_
            rotate_left
            · intro w _
              first | (go_simp; done) | (go_simp; with_reducible rfl)
            try simp only [Act.put, List.setIfInBounds_toArray, List.set_cons_zero, List.set_cons_succ]
            refine wpAnyH_take (i := 25) (oi := { dst := some 155, op := Go.Op.move (Go.Operand.tmp 154), type := 4, pos := "keeps.go:34", after := #[{ on := 24, ground := Go.Ground.data }, { on := 22, ground := Go.Ground.chain }, { on := 22, ground := Go.Ground.guard }], guard := some (22, false) }) (v := ?_) rfl (by kernel_rfl) (by kernel_rfl) (by kernel_rfl) (fun _ _ _ h => h) (Or.inl ⟨by kernel_rfl, ?_⟩) (by assumption) ?_
            rotate_left
            · intro w _
              first | (go_simp; done) | (go_simp; with_reducible rfl)
            try simp only [Act.put, List.setIfInBounds_toArray, List.set_cons_zero, List.set_cons_succ]
            refine wpAnyH_take (i := 26) (oi := { dst := some 156, op := Go.Op.move (Go.Operand.tmp 12), type := 34, pos := "keeps.go:34", after := #[{ on := 25, ground := Go.Ground.guard }], guard := some (25, true) }) (v := ?_) rfl (by kernel_rfl) (by kernel_rfl) (by kernel_rfl) (fun _ _ _ h => h) (Or.inl ⟨by kernel_rfl, ?_⟩) (by assumption) ?_
            rotate_left
            · intro w _
              first | (go_simp; done) | (go_simp; with_reducible rfl)
            try simp only [Act.put, List.setIfInBounds_toArray, List.set_cons_zero, List.set_cons_succ]
            refine wpAnyH_take (i := 27) (oi := { dst := some 157, op := Go.Op.move (Go.Operand.tmp 18), type := 3, pos := "keeps.go:34", after := #[{ on := 25, ground := Go.Ground.guard }], guard := some (25, true) }) (v := ?_) rfl (by kernel_rfl) (by kernel_rfl) (by kernel_rfl) (fun _ _ _ h => h) (Or.inl ⟨by kernel_rfl, ?_⟩) (by assumption) ?_
            rotate_left
            · intro w _
              first | (go_simp; done) | (go_simp; with_reducible rfl)
            try simp only [Act.put, List.setIfInBounds_toArray, List.set_cons_zero, List.set_cons_succ]
            refine wpAnyH_take (i := 28) (oi := { dst := some 158, op := Go.Op.binOp Go.BinOp.sub 3 (Go.Operand.tmp 157) (Go.Operand.const (Go.Value.int Go.IntKind.i64 1)) 3, type := 3, pos := "keeps.go:34", after := #[{ on := 27, ground := Go.Ground.data }, { on := 25, ground := Go.Ground.guard }], guard := some (25, true) }) (v := ?_) rfl (by kernel_rfl) (by kernel_rfl) (by kernel_rfl) (fun _ _ _ h => h) (Or.inl ⟨by kernel_rfl, ?_⟩) (by assumption) ?_
            rotate_left
            · intro w _
              first | (go_simp; done) | (go_simp; with_reducible rfl)
            try simp only [Act.put, List.setIfInBounds_toArray, List.set_cons_zero, List.set_cons_succ]
            refine wpAnyH_take (i := 29) (oi := { dst := some 159, op := Go.Op.indexAddr 34 (Go.Operand.tmp 156) (Go.Operand.tmp 158), type := 0, pos := "keeps.go:34", after := #[{ on := 26, ground := Go.Ground.data }, { on := 28, ground := Go.Ground.data }, { on := 25, ground := Go.Ground.guard }], guard := some (25, true) }) (v := ?_) rfl (by kernel_rfl) (by kernel_rfl) (by kernel_rfl) (fun _ _ _ h => h) (Or.inl ⟨by kernel_rfl, ?_⟩) (by assumption) ?_
            rotate_left
            · intro w _
              first | (go_simp; done) | (go_simp; with_reducible rfl)
            try simp only [Act.put, List.setIfInBounds_toArray, List.set_cons_zero, List.set_cons_succ]
            refine wpAnyH_take (i := 30) (oi := { dst := some 160, op := Go.Op.load 26 (Go.Operand.tmp 159), type := 26, pos := "keeps.go:34", after := #[{ on := 29, ground := Go.Ground.data }, { on := 25, ground := Go.Ground.guard }], guard := some (25, true) }) (v := ?_) rfl (by kernel_rfl) (by kernel_rfl) (by kernel_rfl) (fun _ _ _ h => h) (Or.inl ⟨by kernel_rfl, ?_⟩) (by assumption) ?_
            rotate_left
            · intro w hSw
              (try dsimp only at hSw)
              go_split_ands
              first | (go_simp; done) | (go_simp; with_reducible rfl)
            try simp only [Act.put, List.setIfInBounds_toArray, List.set_cons_zero, List.set_cons_succ]
            refine wpAnyH_take (i := 31) (oi := { dst := some 161, op := Go.Op.move (Go.Operand.tmp 12), type := 34, pos := "keeps.go:34", after := #[{ on := 25, ground := Go.Ground.guard }], guard := some (25, true) }) (v := ?_) rfl (by kernel_rfl) (by kernel_rfl) (by kernel_rfl) (fun _ _ _ h => h) (Or.inl ⟨by kernel_rfl, ?_⟩) (by assumption) ?_
            rotate_left
            · intro w _
              first | (go_simp; done) | (go_simp; with_reducible rfl)
            try simp only [Act.put, List.setIfInBounds_toArray, List.set_cons_zero, List.set_cons_succ]
            refine wpAnyH_take (i := 32) (oi := { dst := some 162, op := Go.Op.move (Go.Operand.tmp 18), type := 3, pos := "keeps.go:34", after := #[{ on := 25, ground := Go.Ground.guard }], guard := some (25, true) }) (v := ?_) rfl (by kernel_rfl) (by kernel_rfl) (by kernel_rfl) (fun _ _ _ h => h) (Or.inl ⟨by kernel_rfl, ?_⟩) (by assumption) ?_
            rotate_left
            · intro w _
              first | (go_simp; done) | (go_simp; with_reducible rfl)
            try simp only [Act.put, List.setIfInBounds_toArray, List.set_cons_zero, List.set_cons_succ]
            refine wpAnyH_take (i := 33) (oi := { dst := some 163, op := Go.Op.indexAddr 34 (Go.Operand.tmp 161) (Go.Operand.tmp 162), type := 0, pos := "keeps.go:34", after := #[{ on := 31, ground := Go.Ground.data }, { on := 32, ground := Go.Ground.data }, { on := 25, ground := Go.Ground.guard }], guard := some (25, true) }) (v := ?_) rfl (by kernel_rfl) (by kernel_rfl) (by kernel_rfl) (fun _ _ _ h => h) (Or.inl ⟨by kernel_rfl, ?_⟩) (by assumption) ?_
            rotate_left
            · intro w _
              first | (go_simp; done) | (go_simp; with_reducible rfl)
            try simp only [Act.put, List.setIfInBounds_toArray, List.set_cons_zero, List.set_cons_succ]
            refine wpAnyH_take (i := 34) (oi := { dst := some 164, op := Go.Op.load 26 (Go.Operand.tmp 163), type := 26, pos := "keeps.go:34", after := #[{ on := 33, ground := Go.Ground.data }, { on := 25, ground := Go.Ground.guard }], guard := some (25, true) }) (v := ?_) rfl (by kernel_rfl) (by kernel_rfl) (by kernel_rfl) (fun _ _ _ h => h) (Or.inl ⟨by kernel_rfl, ?_⟩) (by assumption) ?_
            rotate_left
            · intro w hSw
              (try dsimp only at hSw)
              go_split_ands
              first | (go_simp; done) | (go_simp; with_reducible rfl)
            try simp only [Act.put, List.setIfInBounds_toArray, List.set_cons_zero, List.set_cons_succ]
            refine wpAnyH_take (i := 35) (oi := { dst := some 165, op := Go.Op.move (Go.Operand.tmp 2), type := 4, pos := "keeps.go:34", after := #[{ on := 25, ground := Go.Ground.guard }], guard := some (25, true) }) (v := ?_) rfl (by kernel_rfl) (by kernel_rfl) (by kernel_rfl) (fun _ _ _ h => h) (Or.inl ⟨by kernel_rfl, ?_⟩) (by assumption) ?_
            rotate_left
            · intro w _
              first | (go_simp; done) | (go_simp; with_reducible rfl)
            try simp only [Act.put, List.setIfInBounds_toArray, List.set_cons_zero, List.set_cons_succ]
            refine wpAnyH_ready (rs := [36]) (by kernel_rfl) (by simp) ?_
            refine AllReadyH.cons (o := { dst := some 166, op := Go.Op.call { callee := Go.Callee.value (Go.Operand.func 23), args := #[Go.Operand.tmp 160, Go.Operand.tmp 164, Go.Operand.tmp 165], argTypes := #[26, 26, 4] }, type := 4, pos := "keeps.go:34", after := #[{ on := 30, ground := Go.Ground.data }, { on := 34, ground := Go.Ground.data }, { on := 35, ground := Go.Ground.data }, { on := 25, ground := Go.Ground.chain }, { on := 25, ground := Go.Ground.guard }], guard := some (25, true) }) rfl (fun K hK => ?_) AllReadyH.nil
            go_simp
            go_at_call 23
            refine (A1.out _ (show Below wr.heap.size wr wc2 from by go_split_ands; assumption)).mono ?_
            rintro e wc3 ⟨rfl, hb3⟩
            have Sc3 := HS.out _ _ (by assumption) hb3
            refine hK.out _ _ Sc3 (fun _ => ?_)
            clear hK K hb3
            try simp only [Act.put, List.setIfInBounds_toArray, List.set_cons_zero, List.set_cons_succ]
            refine wpAnyH_take (i := 37) (oi := { dst := some 167, op := Go.Op.unOp Go.UnOp.not 4 (Go.Operand.tmp 166), type := 4, pos := "keeps.go:34", after := #[{ on := 36, ground := Go.Ground.data }, { on := 25, ground := Go.Ground.guard }], guard := some (25, true) }) (v := ?_) rfl (by kernel_rfl) (by kernel_rfl) (by kernel_rfl) (fun _ _ _ h => h) (Or.inl ⟨by kernel_rfl, ?_⟩) (by assumption) ?_
            rotate_left
            · intro w _
              first | (go_simp; done) | (go_simp; with_reducible rfl)
            try simp only [Act.put, List.setIfInBounds_toArray, List.set_cons_zero, List.set_cons_succ]
            refine wpAnyH_take (i := 38) (oi := { dst := some 168, op := Go.Op.pick (Go.Operand.tmp 155) (Go.Operand.tmp 167) (Go.Operand.const (Go.Value.bool false)), type := 4, pos := "keeps.go:34", after := #[{ on := 25, ground := Go.Ground.data }, { on := 37, ground := Go.Ground.data }, { on := 22, ground := Go.Ground.guard }], guard := some (22, false) }) (v := ?_) rfl (by kernel_rfl) (by kernel_rfl) (by kernel_rfl) (fun _ _ _ h => h) (Or.inl ⟨by kernel_rfl, ?_⟩) (by assumption) ?_
            rotate_left
            · intro w _
              first | (go_simp; done) | (go_simp; with_reducible rfl)
            try simp only [Act.put, List.setIfInBounds_toArray, List.set_cons_zero, List.set_cons_succ]
            refine wpAnyH_take (i := 39) (oi := { dst := some 169, op := Go.Op.pick (Go.Operand.tmp 152) (Go.Operand.const (Go.Value.bool true)) (Go.Operand.tmp 168), type := 4, pos := "keeps.go:34", after := #[{ on := 22, ground := Go.Ground.data }, { on := 38, ground := Go.Ground.data }], guard := none }) (v := ?_) rfl (by kernel_rfl) (by kernel_rfl) (by kernel_rfl) (fun _ _ _ h => h) (Or.inl ⟨by kernel_rfl, ?_⟩) (by assumption) ?_
            rotate_left
            · intro w _
              first | (go_simp; done) | (go_simp; with_reducible rfl)
            try simp only [Act.put, List.setIfInBounds_toArray, List.set_cons_zero, List.set_cons_succ]
            refine wpAnyH_done (by kernel_rfl) ?_ _
            have hbz := hop Hb.out (Nat.le_refl _) (show Below wr.heap.size wr wc3 from by go_split_ands; assumption)
            go_split_ands
            clear S1 S2 HS
            go_wp2
            go_round
            case rel => exact ⟨j + 1, by omega, by go_num, hbz⟩
            case measure => simp [intOf]; omega
        · obtain rfl : np = j := by omega
          have HB2 := Lib.hid (hop HB.out (Nat.le_refl _) hb)
          replace Ea := Lib.hid (Ea.out.below hb)
          replace Ep := Lib.hid (Ep.out.below hb)
          obtain ⟨v1, hv1⟩ : ∃ v, v = wr := ⟨_, rfl⟩
          subst hv1
          clear hb hj hjn Eq Em HB
          go_wp2
          go_loopw [19] (fun iv wr => ∃ j : Nat, j ≤ na ∧ iv = .int .i64 (j : Int) ∧ Below v1.heap.size v1 wr) (fun iv _ => na - (intOf iv).toNat)
          case atStart => exact ⟨0, Nat.zero_le _, rfl, Below.refl _ _⟩
          case round =>
            obtain ⟨j, hjn, rfl, hb⟩ := hrel
            by_cases hj : j < na
            · have hjI : (j : Int) < (na : Int) := by omega
              obtain ⟨v2, hv2⟩ : ∃ v, v = wr := ⟨_, rfl⟩
              subst hv2
              have Hb2 := Lib.hid hb
              obtain ⟨bx, ox, hA, hltx, hc⟩ := (Ea.out.below hb).at_ (by omega)
              obtain ⟨c1, c2, c3, gx⟩ := hc j (by omega)
              have xq : La[j]? = some (La.getD j xnil) := by
                have := HLa.out
                rw [List.getD_eq_getElem?_getD, List.getElem?_eq_getElem (by omega)]
                rfl
              obtain ⟨x, hx⟩ : ∃ t, La.getD j xnil = t := ⟨_, rfl⟩
              rw [hx] at c1 c2 c3 gx xq
              have Qx := Lib.hid xq
              have Gx := Lib.hid gx
              clear hc hx xq gx
              subst hA
              have Ep2 := Lib.hid (Ep.out.below hb)
              have HIN := Lib.hid (show ∃ (i : Nat) (u : EntX), Lp[i]? = some u ∧ u.b = x.b from by
                have h1 : x.b ∈ Lp.map EntX.b := (HUM.out _).2 (List.mem_map.2 ⟨x, List.mem_of_getElem? Qx.out, rfl⟩)
                obtain ⟨u, hu, e⟩ := List.mem_map.1 h1
                obtain ⟨i, hi, hq⟩ := List.mem_iff_getElem.1 hu
                exact ⟨i, u, by rw [List.getElem?_eq_getElem hi, hq], e⟩)
              clear hb
              go_wp2
              go_loopw [20, 21] (fun tv iv wr => ∃ (k : Nat) (b : Bool), k ≤ np ∧ tv = .bool b ∧ iv = .int .i64 (k : Int) ∧ Hid (b = false → ∀ (i : Nat) (u : EntX), i < k → Lp[i]? = some u → u.b ≠ x.b) ∧ Below v2.heap.size v2 wr) (fun _ iv _ => np - (intOf iv).toNat)
              case atStart => exact ⟨0, false, Nat.zero_le _, rfl, rfl, Lib.hid (fun _ i u hi => absurd hi (Nat.not_lt_zero _)), Below.refl _ _⟩
              case round =>
                obtain ⟨k, b, hkn, rfl, rfl, HK, hb⟩ := hrel
                by_cases hk : k < np
                · have hkI : (k : Int) < (np : Int) := by omega
                  cases b with
                  | true =>
                    have Hb3 := Lib.hid hb
                    clear hb
                    go_wp2
                    go_quiet (fail)
                    generalize hw4 : World.drewN _ _ = w4
                    have hb4 : Below v2.heap.size v2 w4 := by rw [← hw4]; exact below_drewN Hb3.out _
                    clear hw4
                    go_wp2
                    go_round
                    case rel => exact ⟨k + 1, true, by omega, rfl, by go_num, Lib.hid (fun h => by cases h), hb4⟩
                    case measure => simp [intOf]; omega
                  | false =>
                    obtain ⟨by_, oy, hA, hlty, hc⟩ := (Ep2.out.below hb).at_ (by omega)
                    obtain ⟨d1, d2, d3, gy⟩ := hc k (by omega)
                    have yq : Lp[k]? = some (Lp.getD k xnil) := by
                      have := HLp.out
                      rw [List.getD_eq_getElem?_getD, List.getElem?_eq_getElem (by omega)]
                      rfl
                    obtain ⟨y, hy⟩ : ∃ t, Lp.getD k xnil = t := ⟨_, rfl⟩
                    rw [hy] at d1 d2 d3 gy yq
                    have Qy := Lib.hid yq
                    have Gy := Lib.hid gy
                    clear hc hy yq gy
                    subst hA
                    have hltx2 : bx < wr.heap.size := Nat.lt_of_lt_of_le hltx hb.size
                    have e1 := (hb.cell (p := ⟨bx, ox + j * 3, none⟩) hltx).trans c1
                    have e2 := (hb.cell (p := ⟨bx, ox + j * 3 + 1, none⟩) hltx).trans c2
                    have e3 := (hb.cell (p := ⟨bx, ox + j * 3 + 2, none⟩) hltx).trans c3
                    have Gx2 := Lib.hid (Gx.out.below hb)
                    have SA := fun w (h : Below wr.heap.size wr w) => same_good x y w (Gx2.out.below h) (Gy.out.below h)
                    obtain ⟨z, hz⟩ : ∃ z, sameE x.b y.b = z := ⟨_, rfl⟩
                    simp only [hz] at SA
                    replace SA := Lib.hid SA
                    have HK2 := Lib.hid (show z = false → ∀ (i : Nat) (u : EntX), i < k + 1 → Lp[i]? = some u → u.b ≠ x.b from fun hzf i u hi hu => by
                      rcases (by omega : i < k ∨ i = k) with h1 | h1
                      · exact HK.out rfl i u h1 hu
                      · subst h1
                        rw [Qy.out] at hu
                        injection hu with hu
                        subst hu
                        intro e
                        rw [sameE_iff.2 e.symm, hzf] at hz
                        cases hz)
                    have Hb := Lib.hid hb
                    clear hb hz HK
                    have S0 : Below wr.heap.size wr wr.drew := (Below.refl _ _).drew
                    go_wp2
                    go_region_held3 (fun w' => Below wr.heap.size wr w' ∧ w'.cell? ⟨bx, ox + j * 3, none⟩ = some (.int .i64 x.ts) ∧ w'.cell? ⟨bx, ox + j * 3 + 1, none⟩ = some (.slice x.A x.n x.c) ∧ w'.cell? ⟨bx, ox + j * 3 + 2, none⟩ = some (.string x.ln) ∧ w'.cell? ⟨by_, oy + k * 3, none⟩ = some (.int .i64 y.ts) ∧ w'.cell? ⟨by_, oy + k * 3 + 1, none⟩ = some (.slice y.A y.n y.c) ∧ w'.cell? ⟨by_, oy + k * 3 + 2, none⟩ = some (.string y.ln))
                      (first | assumption | exact ⟨by assumption, by assumption, by assumption, by assumption, by assumption, by assumption, by assumption⟩ | exact ⟨by assumption, (hb5.cell (p := ⟨_, _, none⟩) hltx2).trans e1, (hb5.cell (p := ⟨_, _, none⟩) hltx2).trans e2, (hb5.cell (p := ⟨_, _, none⟩) hltx2).trans e3, (hb5.cell (p := ⟨_, _, none⟩) hlty).trans d1, (hb5.cell (p := ⟨_, _, none⟩) hlty).trans d2, (hb5.cell (p := ⟨_, _, none⟩) hlty).trans d3⟩)
                      (first | (go_at_call 22; refine (SA.out _ S0).mono ?_; rintro e wz ⟨rfl, hb5⟩; replace hb5 : Below wr.heap.size wr wz := ⟨hb5.os, hb5.tape, hb5.output, hb5.size, hb5.block⟩))
                    all_goals
                      have hbz := hop Hb.out (Nat.le_refl _) hb5
                      clear hb5 d1 d2 d3 e1 e2 e3 SA S0
                      go_wp2
                      go_round
                      case rel => exact ⟨k + 1, z, by omega, rfl, by go_num, HK2, hbz⟩
                      case measure => simp [intOf]; omega
                · obtain rfl : np = k := by omega
                  cases b with
                  | false =>
                    obtain ⟨i, u, hu, e⟩ := HIN.out
                    exact absurd e (HK.out rfl i u (by rw [← HLp.out]; exact (List.getElem?_eq_some_iff.1 hu).1) hu)
                  | true =>
                    have hb9 := hop Hb2.out (Nat.le_refl _) hb
                    clear hb
                    go_wp2
                    go_round
                    case rel => exact ⟨j + 1, by omega, by go_num, hb9⟩
                    case measure => simp [intOf]; omega
            · obtain rfl : na = j := by omega
              have HF := Lib.hid (hop HB2.out (Nat.le_refl _) hb)
              clear hb
              go_wp2
              go_ret
              exact ⟨by first | rfl | (simp; done), HF.out⟩
end Go.Proofs.Ytilcanblgdmecaa
