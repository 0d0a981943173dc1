-- shaken
import Derived.Test.YtdaainifkldcpaaGreatDoorRows
import Derived.Test.YtdaainifkldcpaaGreatDoorMem
import Derived.WalkKit
import Derived.ProofKit
import Derived.OpenShut
import Derived.ShutString
import Derived.ChangeOld
import Derived.Below
import Derived.JoinedCond
import Derived.SliceStrings
import Derived.Shelf.Vars
namespace Go.Proofs.YtdaainifkldcpaaGreatDoor
set_option linter.unusedVariables false
set_option linter.unusedSimpArgs false
open Go.ChangeShapes Go.RowKit
section
variable {H : Type} {enc : TypeId × Value → H}
theorem handed_cond_shaped {a : Assume} {C : Checked} {os : Os} {f : FuncId} {fn : Func} {s : OpenSpec} {k : (H : Type) → List (DataW H) → Bool} (hk : s.cond = some k) {F : Stop.Interp} {conds : List PathCond} {apart fresh handsOn again : Bool}
    (own : ownKnob C.prog.godebug = none) (started : os.Started) (noInit : C.prog.inits.idxOf? f = none) (hfn : C.prog.funcs[f]? = some fn)
    (witness : ∃ (w : World) (tape : Tape) (i : Input), w.os = os ∧ (w.forCall tape i).Shaped C.prog ∧ i.vars = [] ∧ Input.okWide C.prog (w.forCall tape i) .any w.heap.size f i ∧
      s.pre6 enc C.prog fn conds apart (w.forCall tape i).memory i.args ∧ a.holds C.prog (lone (Frame.enter C.prog f i.args .normal) [] (w.forCall tape i)))
    (contract : ∀ (W : World) (base : Nat) (args : Array Value) (ds gs : List (DataW H)) (before : List MemPlace),
      (∀ (j : Nat) t v, fn.params[j]? = some t → args[j]? = some v → Value.okWide C.prog W .any base t v) →
      DataW.Whole enc C.prog fn.params.toList s.vars apart W args.toList ds gs before → k H (ds ++ gs) = true → W.ShapedOpen C.prog →
      Calls C.prog f args W fun e W' => ∃ v, e = .returned v ∧ (s.at F).post enc C.prog fn apart fresh handsOn again W args v W') :
    ReturnsInHanded a C os f .any (s.pre6 enc C.prog fn conds apart) ((s.at F).post enc C.prog fn apart fresh handsOn again) := by
  refine returnsInHanded_of_calls own started noInit witness ?_
  intro w tape i _ hsh _ hok hpre _
  obtain ⟨_, _, _, fn', hfn', _, _, _, _, hval⟩ := hok
  have e : fn' = fn := Option.some.inj (hfn'.symm.trans hfn)
  subst e
  obtain ⟨ds, gs, before, hw, _, hkk⟩ := (OpenSpec.pre_some hk conds apart _ _).1 hpre.1
  have hw' := DataW.Whole.of_heap (w' := w.forCall tape i) (by rfl) hw
  refine (contract (w.forCall tape i) w.heap.size i.args ds gs before hval hw' hkk hsh).mono fun e W' ⟨v, he, hp⟩ => ?_
  subst he
  exact ChangeSpec.post_blind hp
end
def bulkT (ss : List ByteArray) : Nat := ss.foldr (fun s n => s.size + 1 + n) 0
theorem bulkT_cons (s : ByteArray) (ss : List ByteArray) : bulkT (s :: ss) = s.size + 1 + bulkT ss := rfl
theorem bulkT_len (ss : List ByteArray) : ss.length ≤ bulkT ss := by
  induction ss with
  | nil => simp [bulkT]
  | cons s ss ih => rw [bulkT_cons, List.length_cons]; omega
theorem bulkT_mem {s : ByteArray} {ss : List ByteArray} (h : s ∈ ss) : s.size + 1 ≤ bulkT ss := by
  induction ss with
  | nil => cases h
  | cons x ss ih =>
    rw [bulkT_cons]
    rcases List.mem_cons.1 h with rfl | h
    · omega
    · have := ih h; omega
theorem bulk_all {H : Type} (ss : List ByteArray) : Rows.uptoBulkAll (strs (H := H) ss) = bulkT ss := by
  induction ss with
  | nil => rfl
  | cons s ss ih =>
    show Rows.uptoBulk (DataW.lit (H := H) (.string s.data.toList)) + Rows.uptoBulkAll (strs (H := H) ss) = _
    rw [ih, bulkT_cons]
    simp [Rows.uptoBulk]
theorem bulk_text {H : Type} (s : ByteArray) : Rows.uptoBulk (DataW.lit (H := H) (.string s.data.toList)) = s.size + 1 := by
  simp [Rows.uptoBulk]
theorem bulk_one {H : Type} (d : DataW H) : 1 ≤ Rows.uptoBulk d := by
  cases d with
  | lit l => cases l <;> simp [Rows.uptoBulk]
  | nil => simp [Rows.uptoBulk]
  | ptr d => simp [Rows.uptoBulk]
  | slice elems spare => simp [Rows.uptoBulk]
  | agg parts => simp [Rows.uptoBulk]
  | iface t d => simp [Rows.uptoBulk]
  | map entries => simp [Rows.uptoBulk]
  | held h => simp [Rows.uptoBulk]
theorem bulk_part {H : Type} {d : DataW H} {l : List (DataW H)} (h : d ∈ l) : Rows.uptoBulk d ≤ Rows.uptoBulkAll l := by
  induction l with
  | nil => cases h
  | cons x r ih =>
    simp only [Rows.uptoBulkAll]
    rcases List.mem_cons.1 h with e | e
    · subst e; omega
    · have := ih e; omega
theorem bulk_len {H : Type} (l : List (DataW H)) : l.length ≤ Rows.uptoBulkAll l := by
  induction l with
  | nil => simp [Rows.uptoBulkAll]
  | cons x r ih => have := bulk_one x; simp only [Rows.uptoBulkAll, List.length_cons]; omega
theorem bulk_slice {H : Type} (elems spare : List (DataW H)) : elems.length + spare.length + 1 ≤ Rows.uptoBulk (.slice elems spare) ∧ Rows.uptoBulkAll elems + Rows.uptoBulkAll spare + 1 = Rows.uptoBulk (.slice elems spare) := by
  have h1 := bulk_len elems
  have h2 := bulk_len spare
  refine ⟨?_, by simp only [Rows.uptoBulk]⟩
  simp only [Rows.uptoBulk]
  omega
theorem bulk_bound {H : Type} {l : List (DataW H)} (hk : Rows.uptoSmall H l = true) : Rows.uptoBulkAll l ≤ 1048576 := of_decide_eq_true hk
theorem texts_bulk {H : Type} {d : DataW H} {ss : List ByteArray} {l : Nat} (hd : d = .slice (strs (ss.take l)) (strs (ss.drop l))) (h : Rows.uptoBulk d ≤ 1048576) : bulkT (ss.take l) ≤ 1048576 := by
  subst hd
  have := (bulk_slice (H := H) (strs (ss.take l)) (strs (ss.drop l))).2
  rw [bulk_all, bulk_all] at this
  omega
theorem ints_bulk {H : Type} {d : DataW H} {k : IntKind} {zs : List Int} {l : Nat} (hd : d = .slice (lits k (zs.take l)) (lits k (zs.drop l))) (h : Rows.uptoBulk d ≤ 1048576) (hl : l ≤ zs.length) : l ≤ 1048576 := by
  subst hd
  have h2 := (bulk_slice (H := H) (lits k (zs.take l)) (lits k (zs.drop l))).1
  have e : (lits (H := H) k (zs.take l)).length = l := by simp only [lits, List.length_map, List.length_take]; omega
  omega
end Go.Proofs.YtdaainifkldcpaaGreatDoor
