/- What the law MergeTells keeps while it lays the lists: the program's, the document's, and all entries. -/
import Derived.Test.YtilcanblgdmecaaMergeRefAll
import Derived.Maps.AppendAt
import Derived.Deep.AppendLies
namespace Go.Proofs.Ytilcanblgdmecaa
open Go.RowKit
set_option linter.unusedVariables false
set_option linter.unusedSimpArgs false

def Foot (xs rs : List LsX) (b : Nat) : Prop := ∃ x, (x ∈ xs ∨ x ∈ rs) ∧ 0 < x.n ∧ ∃ a, x.A = some a ∧ a.block = b
theorem RowR.grown {α : Type} {V : α → List Value} {s : Nat} {w w' : World} {A : Option Addr} {n : Nat} {l : List α} {r : Option Nat} (h : RowR V s w A n l) (hg : w.grownBy w' r) (hr : 0 < n → ∀ a, A = some a → r ≠ some a.block) : RowR V s w' A n l :=
  ⟨h.1, fun hn => by
    obtain ⟨b, off, e, hlt, hc⟩ := h.2 hn
    have h1 := hg.size
    refine ⟨b, off, e, by omega, fun j i a hj hi => ?_⟩
    rw [← hc j i a hj hi]
    exact World.cell?_of_block (hg.block b hlt (fun e2 => hr hn _ e e2.symm))⟩
theorem OwnR.keptG {α : Type} {V : α → List Value} {s : Nat} {w w' : World} {B ty : Nat} {v : Value} {l : List α} {r : Option Nat} (h : OwnR V s w B ty v l) (hg : w.grownBy w' r) (hr : ∀ k, r = some k → v.ownBlock ≠ some k) : OwnR V s w' B ty v l := by
  refine ⟨h.1, ?_⟩
  rcases h.2 with h0 | ⟨g, cap, cur, hv, hbg, hh, x⟩
  · exact .inl h0
  · exact .inr ⟨g, cap, cur, hv, hbg, (hg.block g (lt_of_block hh) (fun e => hr g e.symm (by rw [hv]; rfl))).trans hh, x⟩
theorem not_types : 26 ≠ 48 ∧ 26 ≠ 34 ∧ 26 ≠ 38 ∧ 34 ≠ 38 ∧ 26 ≠ 92 ∧ 26 ≠ 97 ∧ 34 ≠ 92 ∧ 34 ≠ 97 ∧ 38 ≠ 92 ∧ 38 ≠ 97 := by decide
theorem own_apart {α β : Type} {V : α → List Value} {U : β → List Value} {s t : Nat} {w : World} {B C e f : Nat} {v u : Value} {l : List α} {m : List β} (h : OwnR V s w B e v l) (k : OwnR U t w C f u m) (hef : e ≠ f) : ∀ b, v.ownBlock = some b → u.ownBlock ≠ some b := by
  intro b hb hb2
  obtain ⟨_, c1, e1⟩ := own_row_type h b hb
  obtain ⟨_, c2, e2⟩ := own_row_type k b hb2
  rw [e1] at e2
  injection e2 with e2
  injection e2 with _ e2
  exact hef e2
structure RowsOk (B : Nat) (w : World) (xs rs : List LsX) (L : List EntX) : Prop where
  lx : ∀ x ∈ xs, Ents B w x.A x.n x.l ∧ x.n ≤ x.c ∧ x.c ≤ maxLen
  lr : ∀ x ∈ rs, EntsQ w x.A x.n x.l ∧ (∀ e ∈ x.l, e.n ≤ 1048576) ∧ (x.A = none → x.n = 0 ∧ x.c = 0)
  lL : ∀ x ∈ L, Good B w x
theorem RowsOk.below {B : Nat} {w w' : World} {xs rs : List LsX} {L : List EntX} (h : RowsOk B w xs rs L) (hb : Below w.heap.size w w') : RowsOk B w' xs rs L :=
  ⟨fun x hx => ⟨(h.lx x hx).1.below hb, (h.lx x hx).2⟩, fun x hx => ⟨(h.lr x hx).1.below hb, (h.lr x hx).2⟩, fun x hx => (h.lL x hx).below hb⟩
theorem RowsOk.foot_lt {B : Nat} {w : World} {xs rs : List LsX} {L : List EntX} (h : RowsOk B w xs rs L) {b : Nat} (hf : Foot xs rs b) : b < w.heap.size := by
  obtain ⟨x, hx, hn, a, ha, rfl⟩ := hf
  rcases hx with hx | hx
  · obtain ⟨b, o, e, hlt, _⟩ := (h.lx x hx).1.1.2 hn
    rw [ha] at e
    injection e with e
    rw [e]
    exact hlt
  · obtain ⟨b, o, e, hlt, _⟩ := (h.lr x hx).1.1.2 hn
    rw [ha] at e
    injection e with e
    rw [e]
    exact hlt
theorem RowsOk.grown {B : Nat} {w w' : World} {xs rs : List LsX} {L : List EntX} {r : Option Nat} (h : RowsOk B w xs rs L) (hg : w.grownBy w' r) (hr : ∀ k, r = some k → B ≤ k ∧ ¬ Foot xs rs k ∧ ∃ cur t, t ≠ 92 ∧ t ≠ 97 ∧ w.heap[k]? = some (.cells cur t (0, 0))) : RowsOk B w' xs rs L := by
  have g1 : ∀ y, Good B w y → Good B w' y := fun y hy => hy.grown hg fun b hb => by
    obtain ⟨h1, _, cur, t, h2, _, h3⟩ := hr b hb
    exact ⟨h1, cur, t, h2, h3⟩
  have g2 : ∀ y, GoodQ w y → GoodQ w' y := fun y hy => hy.grown hg fun b hb => by
    obtain ⟨h1, _, cur, t, _, h2, h3⟩ := hr b hb
    exact ⟨cur, t, h2, h3⟩
  exact ⟨fun x hx => ⟨⟨(h.lx x hx).1.1.grown hg (fun hn a ha e => (hr _ e).2.1 ⟨x, .inl hx, hn, a, ha, rfl⟩), fun y hy => g1 y ((h.lx x hx).1.2 y hy)⟩, (h.lx x hx).2⟩,
    fun x hx => ⟨⟨(h.lr x hx).1.1.grown hg (fun hn a ha e => (hr _ e).2.1 ⟨x, .inr hx, hn, a, ha, rfl⟩), fun y hy => g2 y ((h.lr x hx).1.2 y hy)⟩, (h.lr x hx).2⟩,
    fun x hx => g1 x (h.lL x hx)⟩
structure TellS (B base : Nat) (w : World) (va vb vc : Value) (xs rs : List LsX) (L : List EntX) : Prop where
  oa : OwnR LsX.V 1 w base 34 va xs
  ob : OwnR LsX.V 1 w base 38 vb rs
  oc : OwnR EntX.V 3 w base 26 vc L
  ok : RowsOk B w xs rs L
  ap : ∀ b, Foot xs rs b → va.ownBlock ≠ some b ∧ vb.ownBlock ≠ some b ∧ vc.ownBlock ≠ some b
  hB : B ≤ base
theorem TellS.new (B base : Nat) (w : World) (hB : B ≤ base) : TellS B base w (.slice none 0 0) (.slice none 0 0) (.slice none 0 0) [] [] [] :=
  ⟨OwnR.nil _ _ _, OwnR.nil _ _ _, OwnR.nil _ _ _, ⟨fun x hx => absurd hx List.not_mem_nil, fun x hx => absurd hx List.not_mem_nil, fun x hx => absurd hx List.not_mem_nil⟩, fun b hf => by obtain ⟨x, hx, _⟩ := hf; rcases hx with hx | hx <;> exact absurd hx List.not_mem_nil, hB⟩
theorem TellS.below {B base : Nat} {w w' : World} {va vb vc : Value} {xs rs : List LsX} {L : List EntX} (h : TellS B base w va vb vc xs rs L) (hb : Below w.heap.size w w') : TellS B base w' va vb vc xs rs L :=
  ⟨OwnR.below h.oa hb, OwnR.below h.ob hb, OwnR.below h.oc hb, h.ok.below hb, h.ap, h.hB⟩
theorem own_ge {α : Type} {V : α → List Value} {s : Nat} {w : World} {B e : Nat} {v : Value} {l : List α} (h : OwnR V s w B e v l) {k : Nat} (hk : v.ownBlock = some k) : B ≤ k ∧ k < w.heap.size := World.ownsRow.lt h k hk
theorem TellS.putA {B base : Nat} {w w' : World} {va vb vc nv : Value} {xs rs : List LsX} {L : List EntX} {x : LsX} (h : TellS B base w va vb vc xs rs L) (hg : w.grownBy w' va.ownBlock) (ho : OwnR LsX.V 1 w' base 34 nv (xs ++ [x])) (hn : nv.ownBlock = va.ownBlock ∨ nv.ownBlock = some w.heap.size)
    (hx : Ents B w x.A x.n x.l ∧ x.n ≤ x.c ∧ x.c ≤ maxLen) (hf : 0 < x.n → ∀ a, x.A = some a → va.ownBlock ≠ some a.block ∧ vb.ownBlock ≠ some a.block ∧ vc.ownBlock ≠ some a.block) : TellS B base w' nv vb vc (xs ++ [x]) rs L := by
  have ok1 : RowsOk B w (xs ++ [x]) rs L := ⟨fun y hy => by
    rcases List.mem_append.1 hy with hy | hy
    · exact h.ok.lx y hy
    · rw [List.mem_singleton.1 hy]; exact hx, h.ok.lr, h.ok.lL⟩
  have ap1 : ∀ b, Foot (xs ++ [x]) rs b → va.ownBlock ≠ some b ∧ vb.ownBlock ≠ some b ∧ vc.ownBlock ≠ some b := fun b hfo => by
    obtain ⟨y, hy, hn0, a, ha, rfl⟩ := hfo
    rcases hy with hy | hy
    · rcases List.mem_append.1 hy with hy | hy
      · exact h.ap _ ⟨y, .inl hy, hn0, a, ha, rfl⟩
      · rw [List.mem_singleton.1 hy] at hn0 ha; exact hf hn0 a ha
    · exact h.ap _ ⟨y, .inr hy, hn0, a, ha, rfl⟩
  refine ⟨ho, OwnR.keptG h.ob hg (fun k hk => own_apart h.oa h.ob not_types.2.2.2.1 k hk), OwnR.keptG h.oc hg (fun k hk => own_apart h.oa h.oc (Ne.symm not_types.2.1) k hk), ok1.grown hg (fun k hk => ?_), fun b hfo => ?_, h.hB⟩
  · obtain ⟨_, cur, e⟩ := own_row_type h.oa k hk
    exact ⟨Nat.le_trans h.hB (own_ge h.oa hk).1, fun hfo => (ap1 k hfo).1 hk, cur, _, not_types.2.2.2.2.2.2.1, not_types.2.2.2.2.2.2.2.1, e⟩
  · have h1 := ap1 b hfo
    refine ⟨fun e => ?_, h1.2⟩
    rcases hn with hn | hn
    · rw [hn] at e
      exact h1.1 e
    · rw [hn] at e
      injection e with e
      have := ok1.foot_lt hfo
      omega
theorem TellS.putB {B base : Nat} {w w' : World} {va vb vc nv : Value} {xs rs : List LsX} {L : List EntX} {x : LsX} (h : TellS B base w va vb vc xs rs L) (hg : w.grownBy w' vb.ownBlock) (ho : OwnR LsX.V 1 w' base 38 nv (rs ++ [x])) (hn : nv.ownBlock = vb.ownBlock ∨ nv.ownBlock = some w.heap.size)
    (hx : EntsQ w x.A x.n x.l ∧ (∀ e ∈ x.l, e.n ≤ 1048576) ∧ (x.A = none → x.n = 0 ∧ x.c = 0)) (hf : 0 < x.n → ∀ a, x.A = some a → va.ownBlock ≠ some a.block ∧ vb.ownBlock ≠ some a.block ∧ vc.ownBlock ≠ some a.block) : TellS B base w' va nv vc xs (rs ++ [x]) L := by
  have ok1 : RowsOk B w xs (rs ++ [x]) L := ⟨h.ok.lx, fun y hy => by
    rcases List.mem_append.1 hy with hy | hy
    · exact h.ok.lr y hy
    · rw [List.mem_singleton.1 hy]; exact hx, h.ok.lL⟩
  have ap1 : ∀ b, Foot xs (rs ++ [x]) b → va.ownBlock ≠ some b ∧ vb.ownBlock ≠ some b ∧ vc.ownBlock ≠ some b := fun b hfo => by
    obtain ⟨y, hy, hn0, a, ha, rfl⟩ := hfo
    rcases hy with hy | hy
    · exact h.ap _ ⟨y, .inl hy, hn0, a, ha, rfl⟩
    · rcases List.mem_append.1 hy with hy | hy
      · exact h.ap _ ⟨y, .inr hy, hn0, a, ha, rfl⟩
      · rw [List.mem_singleton.1 hy] at hn0 ha; exact hf hn0 a ha
  refine ⟨OwnR.keptG h.oa hg (fun k hk => own_apart h.ob h.oa (Ne.symm not_types.2.2.2.1) k hk), ho, OwnR.keptG h.oc hg (fun k hk => own_apart h.ob h.oc (Ne.symm not_types.2.2.1) k hk), ok1.grown hg (fun k hk => ?_), fun b hfo => ?_, h.hB⟩
  · obtain ⟨_, cur, e⟩ := own_row_type h.ob k hk
    exact ⟨Nat.le_trans h.hB (own_ge h.ob hk).1, fun hfo => (ap1 k hfo).2.1 hk, cur, _, not_types.2.2.2.2.2.2.2.2.1, not_types.2.2.2.2.2.2.2.2.2, e⟩
  · have h1 := ap1 b hfo
    refine ⟨h1.1, fun e => ?_, h1.2.2⟩
    rcases hn with hn | hn
    · rw [hn] at e
      exact h1.2.1 e
    · rw [hn] at e
      injection e with e
      have := ok1.foot_lt hfo
      omega
theorem TellS.putC {B base : Nat} {w w' : World} {va vb vc nv : Value} {xs rs : List LsX} {L M : List EntX} (h : TellS B base w va vb vc xs rs L) (hg : w.grownBy w' vc.ownBlock) (ho : OwnR EntX.V 3 w' base 26 nv (L ++ M)) (hn : nv.ownBlock = vc.ownBlock ∨ nv.ownBlock = some w.heap.size)
    (hx : ∀ x ∈ M, Good B w x) : TellS B base w' va vb nv xs rs (L ++ M) := by
  have ok1 : RowsOk B w xs rs (L ++ M) := ⟨h.ok.lx, h.ok.lr, fun y hy => by
    rcases List.mem_append.1 hy with hy | hy
    · exact h.ok.lL y hy
    · exact hx y hy⟩
  refine ⟨OwnR.keptG h.oa hg (fun k hk => own_apart h.oc h.oa not_types.2.1 k hk), OwnR.keptG h.ob hg (fun k hk => own_apart h.oc h.ob not_types.2.2.1 k hk), ho, ok1.grown hg (fun k hk => ?_), fun b hfo => ?_, h.hB⟩
  · obtain ⟨_, cur, e⟩ := own_row_type h.oc k hk
    exact ⟨Nat.le_trans h.hB (own_ge h.oc hk).1, fun hfo => (h.ap k hfo).2.2 hk, cur, _, not_types.2.2.2.2.1, not_types.2.2.2.2.2.1, e⟩
  · have h1 := h.ap b hfo
    refine ⟨h1.1, h1.2.1, fun e => ?_⟩
    rcases hn with hn | hn
    · rw [hn] at e
      exact h1.2.2 e
    · rw [hn] at e
      injection e with e
      have := h.ok.foot_lt hfo
      omega
theorem TellS.same {B base : Nat} {w : World} {va vb vc : Value} {xs rs : List LsX} {L : List EntX} (h : TellS B base w va vb vc xs rs L) : TellS B base w va vb vc xs rs (L ++ []) := by rw [List.append_nil]; exact h

set_option maxRecDepth 100000 in
set_option maxHeartbeats 1600000 in
theorem refEntries_own (B : Nat) (A : Option Addr) (n c : Nat) (l : List EntX) (hn : n ≤ 1048576) (hl : ∀ x ∈ l, x.n ≤ 1048576) (W : World) (h1 : Ents B W A n l) :
    Calls Try.prog 11 #[.slice A n c] W fun e w' => ∃ (A' : Option Addr) (c' : Nat) (L : List EntX), e = .returned (.slice A' n c') ∧ L.map EntX.b = l.map EntX.b ∧ (∀ x ∈ L, x.n ≤ 1048576) ∧ OwnEQ w' W.heap.size (.slice A' n c') L ∧ L.length = n ∧ (A' = none → n = 0 ∧ c' = 0) ∧ Below W.heap.size W w' := by
  have h0 : W.heap.size ≤ W.heap.size := Nat.le_refl _
  obtain ⟨i0, hi, hz0, hz1, hz2⟩ := info_parts infoEntQ
  have H1 := Lib.hid h1
  have HLN := Lib.hid hl
  have RE := Lib.hid refEntry_any
  clear h1 hl
  go_enter Try.func11, Try.ntmps11
  go_wp2
  go_loopw [3, 4] (fun sv iv wr => ∃ (j : Nat) (L : List EntX), j ≤ n ∧ iv = .int .i64 j ∧ Hid (L.map EntX.b = (l.take j).map EntX.b) ∧ Hid (∀ x ∈ L, x.n ≤ 1048576) ∧ OwnEQ wr W.heap.size sv L ∧ Below W.heap.size W wr) (fun _ iv _ => n - (intOf iv).toNat)
  case atStart => exact ⟨0, [], Nat.zero_le _, rfl, Lib.hid rfl, Lib.hid (fun _ h => by cases h), ⟨OwnR.nil _ _ _, fun _ h => by cases h⟩, Below.refl _ _⟩
  case round =>
    obtain ⟨j, L, hjn, rfl, HLB, HLL, hown, hb⟩ := hrel
    have hsz := hb.size
    by_cases hj : j < n
    · have h2 := H1.out.below hb
      obtain ⟨b1, o1, rfl, hlt1, hc1⟩ := h2.at_ (by omega)
      obtain ⟨c1, c2, c3, gI⟩ := hc1 j hj
      have hjl : j < l.length := by rw [h2.1.1]; exact hj
      have hks : l.take (j + 1) = l.take j ++ [l.getD j xnil] := by
        rw [List.take_succ_eq_append_getElem hjl, List.getD_eq_getElem?_getD, List.getElem?_eq_getElem hjl]
        rfl
      have hmem : l.getD j xnil ∈ l := by
        rw [List.getD_eq_getElem?_getD, List.getElem?_eq_getElem hjl]
        exact List.getElem_mem _
      have hxn := HLN.out _ hmem
      have hLl : L.length ≤ 1048576 := by
        have h3 := congrArg List.length HLB.out
        rw [List.length_map, List.length_map, List.length_take] at h3
        omega
      obtain ⟨x, hx⟩ : ∃ p, l.getD j xnil = p := ⟨_, rfl⟩
      rw [hx] at c1 c2 c3 hks gI hxn
      have IT := Lib.hid (fun w (h : Below wr.heap.size wr w) => RE.out x hxn w (gI.set.1.below h))
      obtain ⟨ts, eA, en, ec, els, eln⟩ := x
      dsimp only at c1 c2 c3
      have hjI : (j : Int) < (n : Int) := by omega
      have HXN := Lib.hid hxn
      have HKS := Lib.hid hks
      have HOW := Lib.hid hown
      replace IT := IT.out
      dsimp only at IT
      replace IT := Lib.hid IT
      clear hks hx hc1 h2 hjl gI hown hmem hxn
      go_wp2_with fail
      refine (IT.out _ (Below.refl _ _)).mono ?_
      rintro e w2 ⟨y, rfl, hy, hyn, gy, hx⟩
      have hb2 := hop hb h0 hx
      have ho2 := HOW.out.below hx
      have hs2 := hb2.size
      have HY := Lib.hid hy
      have HYN := Lib.hid (show y.n ≤ 1048576 by rw [hyn]; exact HXN.out)
      obtain ⟨yt, yA, yn, yc, yl, ys⟩ := y
      have HGY := Lib.hid gy
      have HO2 := Lib.hid ho2
      clear hx c1 c2 c3 hb gy hy ho2 hyn
      dsimp only
      go_wp2_with (at_builtin; refine wpList_append_own _ rfl (.tmp 11) (.tmp 17) 38 rfl W.heap.size 48 i0 (.agg #[.int .i64 0, .slice none 0 0, .string ⟨#[]⟩]) 3 48 Try.underlying38 hi hz0 hz1 hz2 rfl (by decide) _ _ _ rfl (OwnR.alloc HO2.out.1 _) ⟨w2.heap.size, 0, none⟩ 1 1 (EntX.V ⟨yt, yA, yn, yc, yl, ys⟩) rfl rfl (new_cells_at _ _ _ _ (by simp)) (entV_one _) (by unfold maxLen; omega) (by omega) (by simp; omega) ?_)
      intro v' w3 hown' hgrow _
      have hb3 := (hb2.alloc hs2 _).grown hgrow (by simp; omega) (fun r hr => (World.ownsRow.lt HO2.out.1 r hr).1)
      have hown3 := OwnEQ.snoc (HO2.out.alloc _) (HGY.out.below ((Below.refl _ _).alloc (Nat.le_refl _) _)) hgrow hown'
      have hmap : (L ++ [(⟨yt, yA, yn, yc, yl, ys⟩ : EntX)]).map EntX.b = (l.take (j + 1)).map EntX.b := by
        rw [List.map_append, HLB.out, HKS.out, List.map_append]
        show _ ++ [EntX.b _] = _ ++ [EntX.b _]
        rw [HY.out]
      have HMAP := Lib.hid hmap
      have HLL2 := Lib.hid (show ∀ x ∈ L ++ [(⟨yt, yA, yn, yc, yl, ys⟩ : EntX)], x.n ≤ 1048576 from fun z hz => by
        rcases List.mem_append.1 hz with hz | hz
        · exact HLL.out z hz
        · rw [List.mem_singleton.1 hz]; exact HYN.out)
      have HO3 := Lib.hid hown3
      clear hown' hgrow hmap hown3
      go_wp2
      go_round
      case rel => exact ⟨j + 1, _, by omega, by go_num, HMAP, HLL2, HO3.out, hb3⟩
      case measure => simp [intOf]; omega
    · obtain rfl : j = n := by omega
      have hown2 := hown
      obtain ⟨A', c', rfl, _, hnone, _⟩ := OwnR.open entV_len hown.1
      have hm := HLB.out
      have hll : l.length = j := H1.out.1.1
      rw [List.take_of_length_le (by omega)] at hm
      have hLl : L.length = j := by
        have h3 := congrArg List.length hm
        rw [List.length_map, List.length_map] at h3
        omega
      rw [hLl] at hown2 hnone ⊢
      have HE := Lib.hid hown2
      have HNO := Lib.hid hnone
      have HLL9 := Lib.hid hLl
      have HM := Lib.hid hm
      have hjI : ¬ (j : Int) < (j : Int) := by omega
      clear hm hll hj hown hown2 hnone hLl
      go_wp2
      go_ret
      first | exact ⟨A', c', L, rfl, HM.out, HLL.out, HE.out, HLL9.out, HNO.out, hb⟩ | exact ⟨A', c', ⟨rfl, rfl⟩, L, HM.out, HLL.out, HE.out, HLL9.out, HNO.out, hb⟩ | exact ⟨A', c', rfl, L, HM.out, HLL.out, HE.out, HLL9.out, HNO.out, hb⟩ | exact ⟨A', c', L, ⟨rfl, rfl⟩, HM.out, HLL.out, HE.out, HLL9.out, HNO.out, hb⟩

theorem not_types2 : 48 ≠ 34 ∧ 48 ≠ 38 ∧ 48 ≠ 26 := by decide
theorem own_some {w : World} {b0 ty n c : Nat} {A : Option Addr} {M : List EntX} (ho : OwnR EntX.V 3 w b0 ty (.slice A n c) M) (hM : M.length = n) (hn : 0 < n) {a : Addr} (ha : A = some a) : (Value.slice A n c).ownBlock = some a.block ∧ b0 ≤ a.block := by
  obtain ⟨g, cap, e, hg, _⟩ := OwnR.at_ entV_len ho (by omega)
  injection e with e1 e2 e3
  subst e1
  injection ha with ha
  subst ha
  exact ⟨rfl, hg⟩
theorem TellS.off {B base b0 n c : Nat} {w : World} {va vb vc : Value} {xs rs : List LsX} {L M : List EntX} {A : Option Addr} (h : TellS B base w va vb vc xs rs L) (ho : OwnR EntX.V 3 w b0 26 (.slice A n c) M) (hM : M.length = n) (hw : ∀ k, vc.ownBlock = some k → k < b0) : 0 < n → ∀ a, A = some a → va.ownBlock ≠ some a.block ∧ vb.ownBlock ≠ some a.block ∧ vc.ownBlock ≠ some a.block := by
  intro hn a ha
  obtain ⟨h1, h2⟩ := own_some ho hM hn ha
  exact ⟨fun e => own_apart h.oa ho (Ne.symm not_types.2.1) _ e h1, fun e => own_apart h.ob ho (Ne.symm not_types.2.2.1) _ e h1, fun e => by have := hw _ e; omega⟩
theorem TellS.offQ {B base b0 n c : Nat} {w : World} {va vb vc : Value} {xs rs : List LsX} {L M : List EntX} {A : Option Addr} (h : TellS B base w va vb vc xs rs L) (ho : OwnR EntX.V 3 w b0 48 (.slice A n c) M) (hM : M.length = n) : 0 < n → ∀ a, A = some a → va.ownBlock ≠ some a.block ∧ vb.ownBlock ≠ some a.block ∧ vc.ownBlock ≠ some a.block := by
  intro hn a ha
  obtain ⟨h1, h2⟩ := own_some ho hM hn ha
  exact ⟨fun e => own_apart h.oa ho (Ne.symm not_types2.1) _ e h1, fun e => own_apart h.ob ho (Ne.symm not_types2.2.1) _ e h1, fun e => own_apart h.oc ho (Ne.symm not_types2.2.2) _ e h1⟩

set_option maxRecDepth 100000 in
set_option maxHeartbeats 800000 in
theorem sorted_same_any (A : Option Addr) (n c : Nat) (asc : Bool) (W : World) : Calls Try.prog 9 #[.slice A n c, .bool asc, .bool false] W fun e w' => e = .returned (.slice A n c) ∧ w' = W := by
  go_enter Try.func9, Try.ntmps9
  go_wp2
  go_ret
  exact ⟨by first | rfl | (simp; done), by first | rfl | trivial⟩
/-- entries put in their order, or as they are -/
theorem sorted_both (really : Bool) (B b0 : Nat) (A : Option Addr) (n c : Nat) (l : List EntX) (asc : Bool) (hln : l.length = n) (hL : n ≤ 100) (hn : ∀ x ∈ l, x.n ≤ 1048576) (W : World) (hB : B ≤ b0) (hb0 : b0 ≤ W.heap.size) (h1 : OwnE B W b0 (.slice A n c) l) :
    Calls Try.prog 9 #[.slice A n c, .bool asc, .bool really] W fun e w' => ∃ v M, e = .returned v ∧ OwnE B w' b0 v M ∧ M.length = n ∧ (∀ x ∈ M, x.n ≤ 1048576) ∧ Below W.heap.size W w' := by
  subst hln
  cases really with
  | false =>
    refine (sorted_same_any A l.length c asc W).mono ?_
    rintro e w' ⟨rfl, rfl⟩
    exact ⟨_, l, rfl, h1, rfl, hn, Below.refl _ _⟩
  | true =>
    obtain ⟨A2, c2, e2, _, _, hE⟩ := h1.ents
    injection e2 with e3 e4 e5
    subst e3
    refine (sorted_any B A c l asc hL hn W (by omega) hE).mono ?_
    rintro e w' ⟨v, M, rfl, hO, _, hM, hMn, hb⟩
    exact ⟨v, M, rfl, hO.mono (Nat.le_refl _) hb0, hM, hMn, hb⟩
/-- the program's lists and the document's, of the same -/
def Alike (xs rs : List LsX) : Prop := xs.map (fun x => x.l.map EntX.b) = rs.map (fun x => x.l.map EntX.b)
theorem Alike.put {xs rs : List LsX} {x r : LsX} (h : Alike xs rs) (hx : r.l.map EntX.b = x.l.map EntX.b) : Alike (xs ++ [x]) (rs ++ [r]) := by
  unfold Alike at *
  rw [List.map_append, List.map_append, h, List.map_cons, List.map_cons, hx, List.map_nil]
theorem Alike.same : ∀ {xs rs : List LsX}, Alike xs rs → ∀ asc, sortedLs asc rs = sortedLs asc xs ∧ allB rs = allB xs := by
  intro xs
  induction xs with
  | nil =>
    intro rs h asc
    cases rs with
    | nil => exact ⟨rfl, rfl⟩
    | cons r rs => exact absurd h (by simp [Alike])
  | cons x xs ih =>
    intro rs h asc
    cases rs with
    | nil => exact absurd h (by simp [Alike])
    | cons r rs =>
      unfold Alike at h
      rw [List.map_cons, List.map_cons] at h
      injection h with h1 h2
      obtain ⟨k1, k2⟩ := ih h2 asc
      refine ⟨?_, ?_⟩
      · unfold sortedLs at *
        rw [List.all_cons, List.all_cons, k1, sortedE_map asc r.l x.l h1.symm]
      · unfold allB at *
        rw [List.flatMap_cons, List.flatMap_cons, k2, h1]
theorem Alike.tot {xs rs : List LsX} (h : Alike xs rs) (hx : ∀ x ∈ xs, x.l.length = x.n) (hr : ∀ x ∈ rs, x.l.length = x.n) : totL rs = totL xs := by
  rw [← allB_len xs hx, ← allB_len rs hr, (h.same true).2]
theorem firstF_alike {asc : Bool} : ∀ {l m : List EntX} {f g : EntX}, f.b = g.b → l.map EntX.b = m.map EntX.b → (firstF asc f l).b = (firstF asc g m).b := by
  intro l
  induction l with
  | nil =>
    intro m f g hfg h
    cases m with
    | nil => exact hfg
    | cons y m => exact absurd h (by simp)
  | cons x l ih =>
    intro m f g hfg h
    cases m with
    | nil => exact absurd h (by simp)
    | cons y m =>
      rw [List.map_cons, List.map_cons] at h
      injection h with h1 h2
      rw [firstF, firstF, h1, hfg]
      refine ih ?_ h2
      by_cases hq : aheadB y.b g.b asc = true
      · rw [if_pos hq, if_pos hq]; exact h1
      · rw [if_neg hq, if_neg hq]; exact hfg
theorem firstE_alike {asc : Bool} {l m : List EntX} (h : l.map EntX.b = m.map EntX.b) : (firstE asc l).b = (firstE asc m).b := by
  cases l with
  | nil =>
    cases m with
    | nil => rfl
    | cons y m => exact absurd h (by simp)
  | cons x l =>
    cases m with
    | nil => exact absurd h (by simp)
    | cons y m =>
      rw [List.map_cons, List.map_cons] at h
      injection h with h1 h2
      exact firstF_alike h1 h2
theorem uptoE_alike {asc : Bool} {u v : EntB} {l m : List EntX} (huv : u = v) (h : l.map EntX.b = m.map EntX.b) : (uptoE asc u l).map EntX.b = (uptoE asc v m).map EntX.b := by
  subst huv
  have key : ∀ k : List EntX, (uptoE asc u k).map EntX.b = (k.map EntX.b).filter fun e => !aheadB u e asc := fun k => by
    unfold uptoE
    rw [List.filter_map]
    rfl
  rw [key, key, h]
theorem goodQ_nil (w : World) : SmallQ w xnil := ⟨⟨pairs_none w, fun h => absurd h (by decide)⟩, by decide⟩
theorem firstE_small {w : World} {l : List EntX} (asc : Bool) (h : ∀ x ∈ l, SmallQ w x) : SmallQ w (firstE asc l) := by
  cases l with
  | nil => exact goodQ_nil w
  | cons x l =>
    rcases firstF_mem asc l x with h1 | h1
    · rw [show firstE asc (x :: l) = firstF asc x l from rfl, h1]
      exact h x List.mem_cons_self
    · exact h _ (List.mem_cons_of_mem _ h1)
/-- lists of items, as they come in -/
structure ItLs where
  A : Option Addr
  n : Nat
  c : Nat
  l : List ItemX
instance : Inhabited ItLs := ⟨⟨none, 0, 0, []⟩⟩
def ItLs.V (x : ItLs) : List Value := [.slice x.A x.n x.c]
structure GridI (B : Nat) (w : World) (A : Option Addr) (n : Nat) (xs : List ItLs) : Prop where
  row : RowR ItLs.V 1 w A n xs
  good : ∀ x ∈ xs, ItemsP B w x.A x.n x.l ∧ x.n ≤ x.c ∧ x.c ≤ maxLen ∧ sumN (x.l.map itemK) ≤ 1048576
theorem GridI.below {B : Nat} {w w' : World} {A : Option Addr} {n : Nat} {xs : List ItLs} (h : GridI B w A n xs) (hb : Below w.heap.size w w') : GridI B w' A n xs :=
  ⟨h.row.below hb, fun x hx => ⟨(h.good x hx).1.below hb, (h.good x hx).2⟩⟩
theorem GridI.at_ {B : Nat} {w : World} {A : Option Addr} {n : Nat} {xs : List ItLs} (h : GridI B w A n xs) (hn : 0 < n) : ∃ g o, A = some ⟨g, o, none⟩ ∧ g < w.heap.size ∧ ∀ j, j < n →
    w.cell? ⟨g, o + j, none⟩ = some (.slice (xs.getD j default).A (xs.getD j default).n (xs.getD j default).c) ∧ xs.getD j default ∈ xs := by
  obtain ⟨b, off, e, hlt, hc⟩ := h.row.2 hn
  refine ⟨b, off, e, hlt, fun j hj => ?_⟩
  have hg : xs[j]? = some (xs.getD j default) := by
    have := h.row.1
    rw [List.getD_eq_getElem?_getD, List.getElem?_eq_getElem (by omega)]
    rfl
  have h1 := hc j 0 _ hg (by decide)
  rw [Nat.mul_one, Nat.add_zero] at h1
  exact ⟨h1, List.mem_of_getElem? hg⟩
end Go.Proofs.Ytilcanblgdmecaa
