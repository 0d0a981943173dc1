-- shaken
import Derived.Test.YtdaainifkldcpaaGreatDoorMem
import Derived.RowKit
import Derived.Below
import Derived.OpenShut
import Derived.Lib.Join
import Derived.Laws.ResultCell
import Derived.Deep.AppendLies
namespace Go.Proofs.YtdaainifkldcpaaGreatDoor
open Go.RowKit
set_option linter.unusedVariables false
set_option linter.unusedSimpArgs false
def Ints (k : IntKind) (w : World) (A : Option Addr) (n : Nat) (zs : List Int) : Prop :=
  zs.length = n ∧ (∀ z ∈ zs, (Lit.int k z).wf = true) ∧ (0 < n → ∃ b off, A = some ⟨b, off, none⟩ ∧ b < w.heap.size ∧ ∀ j, j < n → w.cell? ⟨b, off + j, none⟩ = some (.int k (zs.getD j 0)))
theorem Ints.below {k : IntKind} {w w' : World} {A : Option Addr} {n : Nat} {zs : List Int} (h : Ints k w A n zs) (hb : Below w.heap.size w w') : Ints k w' A n zs :=
  ⟨h.1, h.2.1, fun hn => by
    obtain ⟨b, off, e, hlt, hc⟩ := h.2.2 hn
    exact ⟨b, off, e, Nat.lt_of_lt_of_le hlt hb.size, fun j hj => (hb.cell (p := ⟨b, off + j, none⟩) hlt).trans (hc j hj)⟩⟩
theorem Ints.less {k : IntKind} {w : World} {A : Option Addr} {n m : Nat} {zs : List Int} (h : Ints k w A n zs) (hm : m ≤ n) : Ints k w A m (zs.take m) :=
  ⟨by rw [List.length_take, h.1]; omega, fun z hz => h.2.1 z (List.mem_of_mem_take hz), fun hp => by
    obtain ⟨b, off, e, hlt, hc⟩ := h.2.2 (by omega)
    refine ⟨b, off, e, hlt, fun j hj => ?_⟩
    rw [hc j (by omega), List.getD_eq_getElem?_getD, List.getD_eq_getElem?_getD, List.getElem?_take_of_lt hj]⟩
theorem ints_add (b off i : Nat) : (⟨b, off, none⟩ : Addr).add i = ⟨b, off + i, none⟩ := by unfold Addr.add; split <;> simp_all
theorem ints_new (k : IntKind) (w : World) (t : TypeId) (zs : List Int) (hw : ∀ z ∈ zs, (Lit.int k z).wf = true) (g : Nat) (hg : g = w.heap.size) : Ints k (w.alloc (.cells (zs.map (Value.int k)).toArray t)) (some ⟨g, 0, none⟩) zs.length zs := by
  subst hg
  refine ⟨rfl, hw, fun hn => ⟨_, _, rfl, by simp, fun j hj => ?_⟩⟩
  rw [Nat.zero_add, cell_of_row _ _ _ _ _ _ (heap_alloc_new w _), List.getElem?_toArray, List.getElem?_map, List.getD_eq_getElem?_getD, List.getElem?_eq_getElem hj]
  rfl
theorem hop {B : Nat} {a w w' : World} (h : Below B a w) (hB : B ≤ a.heap.size) (h2 : Below w.heap.size w w') : Below B a w' := h.trans (h2.mono (Nat.le_trans hB h.size))
theorem ints_lit (w : World) (t : TypeId) (zs : List Int) (hw : zs.all (fun z => (Lit.int .i64 z).wf) = true) (g : Nat) (hg : g = w.heap.size) : Ints .i64 (w.alloc (.cells (zs.map (Value.int .i64)).toArray t)) (some ⟨g, 0, none⟩) zs.length zs :=
  ints_new .i64 w t zs (by simpa using hw) g hg
theorem text_eq (a b : ByteArray) : (a.toList == b.toList) = decide (a = b) := by
  rw [Bool.eq_iff_iff, beq_iff_eq, decide_eq_true_eq, Lib.toList_data, Lib.toList_data]
  exact ⟨fun h => ByteArray.ext (Array.toList_inj.1 h), fun h => by rw [h]⟩
theorem text_same {a b : ByteArray} (h : a = b) : (a.toList == b.toList) = true := by rw [text_eq, decide_eq_true h]
theorem text_other {a b : ByteArray} (h : a ≠ b) : (a.toList == b.toList) = false := by rw [text_eq, decide_eq_false h]
theorem text_ext1 {a b : ByteArray} (h : a.data.toList = b.data.toList) : a = b := ByteArray.ext (Array.toList_inj.1 h)
theorem results_row_tmp {P : Program} {fn : Func} {p u : Tmp} {ty : TypeId} (h : fn.results = #[.cell p ty, .tmp u]) (tmps : Array Value) (w : World) (g : Nat) (t : TypeId) (cs : Array Value) (fr : Nat × Nat) (d : TypeDesc)
    (hp : tmps.getD p undef = .pointer (some ⟨g, 0, none⟩)) (hg : w.heap[g]? = some (.cells cs t fr))
    (hu : P.underlying ty = some d) (hd : (match d with | .struct _ | .array _ _ => true | _ => false) = true) (hi : (P.info? ty).map (·.size) = some cs.size) :
    (results fn tmps).run P w = .ok (.tuple #[.agg cs, tmps.getD u undef]) w := by
  have hp' : tmps[p]?.getD undef = .pointer (some ⟨g, 0, none⟩) := by simpa using hp
  rw [results_cell_tmp h]
  simp [hp', asAddr, run_loadVar_row w g t ty cs fr d hg hu hd hi, Result.andThen]
section
variable {α : Type} {V : α → List Value} {s : Nat}
def rowV (V : α → List Value) (l : List α) : List Value := l.flatMap V
theorem rowV_len (hV : ∀ a, (V a).length = s) (l : List α) : (rowV V l).length = l.length * s := by
  induction l with
  | nil => simp [rowV]
  | cons a l ih => simp only [rowV, List.flatMap_cons, List.length_append, List.length_cons] at *; rw [ih, hV, Nat.succ_mul, Nat.add_comm]
theorem rowV_app (l m : List α) : rowV V (l ++ m) = rowV V l ++ rowV V m := by simp [rowV]
theorem rowV_at (hV : ∀ a, (V a).length = s) : ∀ (l : List α) (j i : Nat) (a : α), l[j]? = some a → i < s → (rowV V l)[j * s + i]? = (V a)[i]?
  | [], j, i, a, h, hi => by simp at h
  | x :: l, 0, i, a, h, hi => by
    have e : x = a := by simpa using h
    subst e
    show (V x ++ rowV V l)[0 * s + i]? = _
    rw [Nat.zero_mul, Nat.zero_add, List.getElem?_append_left (by rw [hV]; exact hi)]
  | x :: l, j + 1, i, a, h, hi => by
    have ih := rowV_at hV l j i a (by simpa using h) hi
    show (V x ++ rowV V l)[(j + 1) * s + i]? = _
    rw [List.getElem?_append_right (by rw [hV, Nat.succ_mul]; omega), hV, show (j + 1) * s + i - s = j * s + i by rw [Nat.succ_mul]; omega, ih]
def RowR (V : α → List Value) (s : Nat) (w : World) (A : Option Addr) (n : Nat) (l : List α) : Prop :=
  l.length = n ∧ (0 < n → ∃ b off, A = some ⟨b, off, none⟩ ∧ b < w.heap.size ∧ ∀ (j i : Nat) (a : α), l[j]? = some a → i < s → w.cell? ⟨b, off + j * s + i, none⟩ = (V a)[i]?)
theorem RowR.below {w w' : World} {A : Option Addr} {n : Nat} {l : List α} (h : RowR V s w A n l) (hb : Below w.heap.size w w') : RowR V s w' A n l :=
  ⟨h.1, fun hn => by
    obtain ⟨b, off, e, hlt, hc⟩ := h.2 hn
    exact ⟨b, off, e, Nat.lt_of_lt_of_le hlt hb.size, fun j i a hj hi => (hb.cell (p := ⟨b, off + j * s + i, none⟩) hlt).trans (hc j i a hj hi)⟩⟩
theorem RowR.none (w : World) : RowR V s w none 0 [] := ⟨rfl, fun h => absurd h (by omega)⟩
def OwnR (V : α → List Value) (s : Nat) (w : World) (B ty : Nat) (v : Value) (l : List α) : Prop := w.ownsRow B ty s v l.length (rowV V l)
theorem OwnR.nil (w : World) (B ty : Nat) : OwnR V s w B ty (.slice none 0 0) [] := World.ownsRow_nil _ _ _ _
theorem OwnR.alloc {w : World} {B ty : Nat} {v : Value} {l : List α} (h : OwnR V s w B ty v l) (o : Obj) : OwnR V s (w.alloc o) B ty v l := World.ownsRow.alloc h o
theorem OwnR.snoc {w : World} {B ty : Nat} {v : Value} {l : List α} {a : α} (h : w.ownsRow B ty s v (l.length + 1) (rowV V l ++ V a)) : OwnR V s w B ty v (l ++ [a]) := by
  unfold OwnR
  rw [List.length_append, rowV_app]
  have e : rowV V [a] = V a := by simp [rowV]
  rw [e]
  exact h
theorem OwnR.snocs {w : World} {B ty : Nat} {v : Value} {l m : List α} (h : w.ownsRow B ty s v (l.length + m.length) (rowV V l ++ rowV V m)) : OwnR V s w B ty v (l ++ m) := by
  unfold OwnR
  rw [List.length_append, rowV_app]
  exact h
theorem OwnR.kept {w w' : World} {B ty : Nat} {v : Value} {l : List α} {r : Option Nat} (h : OwnR V s w B ty v l) (hg : w.grownBy w' r) (hr : ∀ b, r = some b → b < B) : OwnR V s w' B ty v l := by
  refine ⟨h.1, ?_⟩
  rcases h.2 with h0 | ⟨g, cap, cur, hv, hbg, hh, x⟩
  · exact .inl h0
  · exact .inr ⟨g, cap, cur, hv, hbg, (hg.block g (lt_of_block hh) (fun e => by have := hr g e.symm; omega)).trans hh, x⟩
theorem OwnR.below {w w' : World} {B ty : Nat} {v : Value} {l : List α} (h : OwnR V s w B ty v l) (hb : Below w.heap.size w w') : OwnR V s w' B ty v l := by
  refine ⟨h.1, ?_⟩
  rcases h.2 with h0 | ⟨g, cap, cur, hv, hbg, hh, x⟩
  · exact .inl h0
  · exact .inr ⟨g, cap, cur, hv, hbg, (hb.block g (lt_of_block hh)).trans hh, x⟩
theorem OwnR.mono {w : World} {B B' ty : Nat} {v : Value} {l : List α} (h : OwnR V s w B ty v l) (hB : B' ≤ B) : OwnR V s w B' ty v l := by
  refine ⟨h.1, ?_⟩
  rcases h.2 with h0 | ⟨g, cap, cur, hv, hbg, hh, x⟩
  · exact .inl h0
  · exact .inr ⟨g, cap, cur, hv, Nat.le_trans hB hbg, hh, x⟩
theorem OwnR.drewN {w : World} {B ty : Nat} {v : Value} {l : List α} (h : OwnR V s w B ty v l) (q : Nat) : OwnR V s (w.drewN q) B ty v l := h
theorem OwnR.open (hV : ∀ a, (V a).length = s) {w : World} {B ty : Nat} {v : Value} {l : List α} (h : OwnR V s w B ty v l) : ∃ A cap, v = .slice A l.length cap ∧ l.length ≤ cap ∧ (A = Option.none → l.length = 0 ∧ cap = 0) ∧ RowR V s w A l.length l := by
  rcases h.2 with ⟨rfl, h0⟩ | ⟨g, cap, cur, rfl, hg, hh, hc, _⟩
  · have e : l = [] := List.eq_nil_of_length_eq_zero h0
    subst e
    exact ⟨_, _, rfl, Nat.le_refl _, fun _ => ⟨rfl, rfl⟩, RowR.none w⟩
  · refine ⟨_, cap, rfl, hc, (fun e => by cases e), rfl, fun _ => ⟨g, 0, rfl, lt_of_block hh, fun j i a hj hi => ?_⟩⟩
    have hjl : j < l.length := by
      rcases Nat.lt_or_ge j l.length with h1 | h1
      · exact h1
      · rw [List.getElem?_eq_none h1] at hj; cases hj
    have hlt : j * s + i < l.length * s := Nat.lt_of_lt_of_le (Nat.add_lt_add_left hi _) (by rw [← Nat.succ_mul]; exact Nat.mul_le_mul_right s hjl)
    rw [show 0 + j * s + i = j * s + i by omega, World.ownsRow.cellAt h _ hlt, rowV_at hV l j i a hj hi]
theorem OwnR.at_ (hV : ∀ a, (V a).length = s) {w : World} {B ty : Nat} {v : Value} {l : List α} (h : OwnR V s w B ty v l) (h0 : 0 < l.length) : ∃ g cap, v = .slice (some ⟨g, 0, none⟩) l.length cap ∧ B ≤ g ∧ g < w.heap.size ∧ l.length ≤ cap ∧ ∀ (j i : Nat) (a : α), l[j]? = some a → i < s → w.cell? ⟨g, j * s + i, none⟩ = (V a)[i]? := by
  have h2 := OwnR.open hV h
  rcases h.2 with ⟨rfl, h0⟩ | ⟨g, cap, cur, rfl, hg, hh, hc, _⟩
  · omega
  · obtain ⟨A, cap2, e, _, _, _, h3⟩ := h2
    injection e with e1 e2 e3
    subst e1 e3
    obtain ⟨b, off, e, hlt, hc2⟩ := h3 h0
    injection e with e
    injection e with e4 e5
    subst e4 e5
    refine ⟨_, _, rfl, hg, hlt, hc, fun j i a hj hi => ?_⟩
    have := hc2 j i a hj hi
    rwa [Nat.zero_add] at this
end

end Go.Proofs.YtdaainifkldcpaaGreatDoor
namespace Go.Proofs.YtdaainifkldcpaaGreatDoor
open Go.RowKit
set_option linter.unusedVariables false
set_option linter.unusedSimpArgs false
theorem run_append_rows {P : Program} (w : World) (t ty : TypeId) (base : Nat) (e : TypeId) (i : TypeInfo) (z : Value) (size bytes : Nat) (ht : P.underlying t = some (.slice e)) (hi : P.info? e = some i) (hz : i.zero = some z)
    (hsize : i.size = size) (hby : i.bytes = bytes) (hzs : z.cells.size = size) (hsz : 0 < size)
    (v : Value) (n : Nat) (xs : List Value) (hown : w.ownsRow base e size v n xs)
    (B : Nat) (A : Option Addr) (m c : Nat) (news : List Value) (hx : w.ownsRow B e size (.slice A m c) m news) (h1 : ∀ u ∈ news, u.oneCell' = true)
    (h63 : n + m ≤ maxLen) (hbytes : (n + m) * bytes ≤ 140737488355328) (hbase : base ≤ w.heap.size) :
    ∃ v' w', (Builtin.append_ #[t, t] ty #[v, .slice A m c]).run P w = .ok v' w' ∧ w'.ownsRow base e size v' (n + m) (xs ++ news) ∧ w.grownBy w' v.ownBlock ∧ (v'.ownBlock = v.ownBlock ∨ v'.ownBlock = some w.heap.size) := by
  rcases hx.2 with ⟨h0, h0'⟩ | ⟨g, cap, cur, hv, hbg, hg, hnc, hcm, hcs, htake⟩
  · injection h0 with e1 e2 e3
    subst e1 e2 e3
    have hn : news = [] := List.eq_nil_of_length_eq_zero (by simpa using hx.1)
    subst hn
    rw [Nat.add_zero, List.append_nil]
    refine ⟨v, w, ?_, hown, ⟨rfl, rfl, rfl, Nat.le_refl _, fun _ _ _ => rfl⟩, .inl rfl⟩
    rcases hown.2 with ⟨rfl, h0'⟩ | ⟨g, cap, cur, rfl, hbg, hg, hnc, hcm, hcs, htake⟩
    · simp [Builtin.append_, run_underlying ht, sizeOf, typeInfo, hi, Builtin.lenOf, Builtin.firstCells, loadCells, loadCellsFrom]
    · simp [Builtin.append_, run_underlying ht, sizeOf, typeInfo, hi, Builtin.lenOf, Builtin.firstCells, loadCells, loadCellsFrom, hnc, storeCells]
  · injection hv with e1 e2 e3
    subst e1 e3
    obtain ⟨v', w', hr, h2, h3, _, h5⟩ := run_append_own_at (P := P) w base t ty e i z size bytes ht hi hz hsize hby hzs hsz v n xs hown ⟨g, 0, none⟩ m c news hx.1 (hx.cells (g := g) rfl) h1 h63 hbytes hbase
    exact ⟨v', w', hr, h2, h3, h5⟩
theorem wpList_append_rows {P : Program} {w : World} {ops : Array Oper} {rest : List Oper} {o : Oper} {a : Act} {Q : Exit → Act → World → Prop} (hgd : o.guard = none) (s x : Operand) (t : TypeId)
    (ho : o.op = .call { callee := .builtin .append, args := #[s, x], argTypes := #[t, t] })
    (base : Nat) (e : TypeId) (i : TypeInfo) (z : Value) (size bytes : Nat) (ht : P.underlying t = some (.slice e)) (hi : P.info? e = some i) (hz : i.zero = some z)
    (hsize : i.size = size) (hby : i.bytes = bytes) (hzs : z.cells.size = size) (hsz : 0 < size)
    (v : Value) (n : Nat) (xs : List Value) (hs : a.eval s = v) (hown : w.ownsRow base e size v n xs)
    (B : Nat) (u : Value) (m : Nat) (news : List Value) (hx : a.eval x = u) (hu : w.ownsRow B e size u m news) (h1 : ∀ u ∈ news, u.oneCell' = true)
    (h63 : n + m ≤ maxLen) (hbytes : (n + m) * bytes ≤ 140737488355328) (hbase : base ≤ w.heap.size)
    (h : ∀ v' w', w'.ownsRow base e size v' (n + m) (xs ++ news) → w.grownBy w' v.ownBlock → (v'.ownBlock = v.ownBlock ∨ v'.ownBlock = some w.heap.size) → wpList P ops Q rest (a.put o.dst v') w') :
    wpList P ops Q (o :: rest) a w := by
  refine wpList_plain hgd fun K hK => ?_
  obtain ⟨A, c, rfl⟩ : ∃ A c, u = .slice A m c := by
    rcases hu.2 with ⟨rfl, h0⟩ | ⟨g, cap, cur, rfl, _⟩
    · exact ⟨none, 0, by rw [h0]⟩
    · exact ⟨_, _, rfl⟩
  obtain ⟨v', w', hr, h2, h3, h5⟩ := run_append_rows (P := P) w t o.type base e i z size bytes ht hi hz hsize hby hzs hsz v n xs hown B A m c news hu h1 h63 hbytes hbase
  unfold Oper.wp execOp
  simp only [ho, resolve, invoke, builtin, Sem.run_bind, Sem.run_pure, Result.andThen_ok, List.map_toArray, List.map_cons, List.map_nil, hs, hx, hr]
  exact hK _ _ (h v' w' h2 h3 h5)
end Go.Proofs.YtdaainifkldcpaaGreatDoor
