-- shaken
import Derived.Test.YtbkpoimaienhpaaGreatDoorNfaFind
import Derived.Test.YtbkpoimaienhpaaGreatDoorAstStage
import Derived.Lib.IndexMore
namespace Go.Proofs.YtbkpoimaienhpaaGreatDoor
open Go.RowKit
set_option linter.unusedVariables false
set_option linter.unusedSimpArgs false
def eqT (a b : ByteArray) : Bool := a.toList == b.toList
def hasT (s sub : ByteArray) : Bool := Lib.contains s.data.toList sub.data.toList
def exprOf (v : ByteArray) : NodeT := (parseB v.data.toList).1
def sufT (op : ByteArray) : Bool := Lib.hasSuffix op.data.toList [126]
noncomputable def testM (op v t : ByteArray) : Bool :=
  if op.data.toList = [61] then eqT t v else if op.data.toList = [33, 61] then !eqT t v else if op.data.toList = [61, 126] then wholeB t.data.toList (exprOf v) else !wholeB t.data.toList (exprOf v)
noncomputable def lineM (op v t : ByteArray) : Bool :=
  if op.data.toList = [124, 61] then hasT t v else if op.data.toList = [33, 61] then !hasT t v else if op.data.toList = [124, 126] then foundB t.data.toList (exprOf v) else !foundB t.data.toList (exprOf v)
theorem testM_eq (v t : ByteArray) : testM ⟨#[61]⟩ v t = eqT t v := rfl
theorem testM_ne (v t : ByteArray) : testM ⟨#[33, 61]⟩ v t = !eqT t v := rfl
theorem testM_w (v t : ByteArray) : testM ⟨#[61, 126]⟩ v t = wholeB t.data.toList (exprOf v) := rfl
theorem testM_nw (v t : ByteArray) : testM ⟨#[33, 126]⟩ v t = !wholeB t.data.toList (exprOf v) := rfl
theorem lineM_in (v t : ByteArray) : lineM ⟨#[124, 61]⟩ v t = hasT t v := rfl
theorem lineM_out (v t : ByteArray) : lineM ⟨#[33, 61]⟩ v t = !hasT t v := rfl
theorem lineM_f (v t : ByteArray) : lineM ⟨#[124, 126]⟩ v t = foundB t.data.toList (exprOf v) := rfl
theorem lineM_nf (v t : ByteArray) : lineM ⟨#[33, 126]⟩ v t = !foundB t.data.toList (exprOf v) := rfl
theorem text_four {op : ByteArray} (h : op ∈ textOps) : op = ⟨#[61]⟩ ∨ op = ⟨#[33, 61]⟩ ∨ op = ⟨#[61, 126]⟩ ∨ op = ⟨#[33, 126]⟩ := by
  simpa only [textOps, List.mem_cons, List.not_mem_nil, or_false] using h
theorem line_four {op : ByteArray} (h : op ∈ lineOps) : op = ⟨#[124, 61]⟩ ∨ op = ⟨#[33, 61]⟩ ∨ op = ⟨#[124, 126]⟩ ∨ op = ⟨#[33, 126]⟩ := by
  simpa only [lineOps, List.mem_cons, List.not_mem_nil, or_false] using h
theorem among_in {s : ByteArray} {ss : List ByteArray} (h : amongB s ss = true) : s ∈ ss := by
  unfold amongB at h
  obtain ⟨x, hx, he⟩ := List.any_eq_true.1 h
  rw [← (eqB_iff x s).1 he]
  exact hx
theorem fits_in {ops : List ByteArray} {op v : ByteArray} (h : fitsB ops op v = true) : op ∈ ops ∧ v.size ≤ 256 ∧ (amongB op exprOps = true → okB v = true) := by
  unfold fitsB at h
  simp only [Bool.and_eq_true, decide_eq_true_eq, Bool.or_eq_true, Bool.not_eq_true'] at h
  refine ⟨among_in h.1, h.2.1, fun k => ?_⟩
  rcases h.2.2 with h2 | h2
  · rw [h2] at k; cases k
  · exact h2
theorem suf_text {op : ByteArray} (h : op ∈ textOps) : sufT op = amongB op exprOps := by
  rcases text_four h with rfl | rfl | rfl | rfl <;> decide +kernel
theorem suf_line {op : ByteArray} (h : op ∈ lineOps) : sufT op = amongB op exprOps := by
  rcases line_four h with rfl | rfl | rfl | rfl <;> decide +kernel
theorem ok_parse {v : ByteArray} (h : okB v = true) : parseB v.data.toList = (exprOf v, (parseB v.data.toList).2.1, 0) := by
  unfold okB at h
  have h2 : (parseB v.data.toList).2.2 = 0 := by simpa using h
  unfold exprOf
  rw [← h2]
theorem blk_type {w : World} {g : Nat} {t t' : TypeId} {cs cs' : Array Value} (h : Blk w g t cs) (k : Blk w g t' cs') : t = t' := by
  unfold Blk at h k
  rw [h] at k
  injection k with k
  injection k with _ k _
def Save (T : TypeId) (w w' : World) : Prop := ∀ k t cs, Blk w k t cs → t ≠ T → Blk w' k t cs
theorem Save.set {w : World} {g : Nat} {T : TypeId} {cs : Array Value} (K : Blk w g T cs) (i : Nat) (u : Value) : Save T w (w.setCell ⟨g, i, none⟩ u) :=
  fun k t cs h ht => h.far (p := ⟨g, i, none⟩) (fun e => ht (by obtain rfl : k = g := e; exact blk_type h K)) u
theorem Save.grown {w w' : World} {T : TypeId} {r : Option Nat} (h : w.grownBy w' r) (hr : ∀ k, r = some k → ∃ cs, Blk w k T cs) : Save T w w' :=
  fun k t cs hk ht => (h.block k hk.lt (fun e => by obtain ⟨c, hc⟩ := hr k e.symm; exact ht (blk_type hk hc))).trans hk
theorem Save.below {w w' : World} (T : TypeId) (hb : Below w.heap.size w w') : Save T w w' := fun _ _ _ h _ => h.below hb h.lt
theorem OwnR.only {α : Type} {V : α → List Value} {s : Nat} {w w' : World} {B ty T : Nat} {v : Value} {l : List α} (h : OwnR V s w B ty v l) (ho : Save T w w') (ht : ty ≠ T) : OwnR V s w' B ty v l := by
  refine ⟨h.1, ?_⟩
  rcases h.2 with h0 | ⟨g, cap, cur, hv, hg, hh, hx⟩
  · exact .inl h0
  · exact .inr ⟨g, cap, cur, hv, hg, ho g ty cur hh ht, hx⟩
theorem PrgAt.only {w w' : World} {b : Nat} {x : NodeT} {T : TypeId} (h : PrgAt w b x) (ho : Save T w w') (h1 : 110 ≠ T) (h2 : 131 ≠ T) : PrgAt w' b x := by
  obtain ⟨hn, hs, base, v, t, hp, ht⟩ := h
  exact ⟨hn, hs, base, v, t, ⟨ho _ _ _ hp.blk h1, OwnR.only hp.row ho h2⟩, ht⟩
def ProgP (w : World) (p : Value) (op v : ByteArray) : Prop := (sufT op = false → p = .pointer none) ∧ (sufT op = true → ∃ b, p = .pointer (some ⟨b, 0, none⟩) ∧ PrgAt w b (exprOf v))
theorem ProgP.below {w w' : World} {p : Value} {op v : ByteArray} (h : ProgP w p op v) (hb : Below w.heap.size w w') : ProgP w' p op v :=
  ⟨h.1, fun k => by obtain ⟨b, h1, h2⟩ := h.2 k; exact ⟨b, h1, h2.below hb⟩⟩
theorem ProgP.only {w w' : World} {p : Value} {op v : ByteArray} {T : TypeId} (h : ProgP w p op v) (ho : Save T w w') (h1 : 110 ≠ T) (h2 : 131 ≠ T) : ProgP w' p op v :=
  ⟨h.1, fun k => by obtain ⟨b, h3, h4⟩ := h.2 k; exact ⟨b, h3, h4.only ho h1 h2⟩⟩
def OneP (w : World) (b : Nat) (nm op v : ByteArray) : Prop := ∃ p, Blk w b 66 #[.string op, .string v, p, .string nm] ∧ ProgP w p op v
theorem OneP.below {w w' : World} {b : Nat} {nm op v : ByteArray} (h : OneP w b nm op v) (hb : Below w.heap.size w w') : OneP w' b nm op v := by
  obtain ⟨p, h1, h2⟩ := h
  exact ⟨p, h1.below hb h1.lt, h2.below hb⟩
theorem OneP.only {w w' : World} {b : Nat} {nm op v : ByteArray} {T : TypeId} (h : OneP w b nm op v) (ho : Save T w w') (h0 : 66 ≠ T) (h1 : 110 ≠ T) (h2 : 131 ≠ T) : OneP w' b nm op v := by
  obtain ⟨p, h3, h4⟩ := h
  exact ⟨p, ho _ _ _ h3 h0, h4.only ho h1 h2⟩
def LineP (w : World) (b : Nat) (op v : ByteArray) : Prop := ∃ p, Blk w b 69 #[.string op, .string v, p] ∧ ProgP w p op v
theorem LineP.below {w w' : World} {b : Nat} {op v : ByteArray} (h : LineP w b op v) (hb : Below w.heap.size w w') : LineP w' b op v := by
  obtain ⟨p, h1, h2⟩ := h
  exact ⟨p, h1.below hb h1.lt, h2.below hb⟩
end Go.Proofs.YtbkpoimaienhpaaGreatDoor
