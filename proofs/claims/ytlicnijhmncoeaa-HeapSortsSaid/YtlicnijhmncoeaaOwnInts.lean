/- Slices of numbers that a call owns. No program. -/
import Derived.Test.YtlicnijhmncoeaaMem
import Derived.Test.YtlicnijhmncoeaaBase
namespace Go.Proofs.Ytlicnijhmncoeaa
open Go.RowKit
set_option linter.unusedVariables false
set_option linter.unusedSimpArgs false

def iV (k : IntKind) (l : List Int) : List Value := l.map (Value.int k)
theorem iV_app (k : IntKind) (l m : List Int) : iV k (l ++ m) = iV k l ++ iV k m := by simp [iV]
theorem iV_one (k : IntKind) (l : List Int) : ∀ u ∈ iV k l, u.oneCell' = true := by
  intro u hu
  simp only [iV, List.mem_map] at hu
  obtain ⟨b, _, rfl⟩ := hu
  rfl
/-- v is a slice of numbers that the call owns, and holds l -/
def OwnI (k : IntKind) (w : World) (B e : Nat) (v : Value) (l : List Int) : Prop := w.ownsRow B e 1 v l.length (iV k l)
theorem OwnI.nil (k : IntKind) (w : World) (B e : Nat) : OwnI k w B e (.slice none 0 0) [] := World.ownsRow_nil _ _ _ _
theorem OwnI.alloc {k : IntKind} {w : World} {B e : Nat} {v : Value} {l : List Int} (h : OwnI k w B e v l) (o : Obj) : OwnI k (w.alloc o) B e v l := World.ownsRow.alloc h o
theorem OwnI.snoc {k : IntKind} {w : World} {B e : Nat} {v : Value} {l m : List Int} (h : w.ownsRow B e 1 v (l.length + m.length) (iV k l ++ iV k m)) : OwnI k w B e v (l ++ m) := by
  unfold OwnI
  rwa [List.length_append, iV_app]
theorem OwnI.ints {k : IntKind} {w : World} {B e : Nat} {v : Value} {l : List Int} (h : OwnI k w B e v l) (hw : ∀ z ∈ l, (Lit.int k z).wf = true) : ∃ A cap, v = .slice A l.length cap ∧ l.length ≤ cap ∧ Ints k w A l.length l := by
  rcases Nat.eq_zero_or_pos l.length with h0 | h0
  · obtain ⟨A, cap, rfl⟩ := own_shape h
    have hl := List.eq_nil_of_length_eq_zero h0
    subst hl
    exact ⟨A, cap, rfl, Nat.zero_le _, rfl, by simp, fun h => absurd h (by simp)⟩
  · have hcap : ∃ g cap, v = .slice (some ⟨g, 0, none⟩) l.length cap ∧ l.length ≤ cap := by
      rcases h.2 with ⟨_, hh⟩ | ⟨g, cap, cur, rfl, _, _, hh⟩
      · omega
      · exact ⟨g, cap, rfl, by omega⟩
    obtain ⟨g, cap, rfl, hc⟩ := hcap
    obtain ⟨g', cap', he, _, hlt, hcell⟩ := own_at h h0
    injection he with he1 _ he2
    injection he1 with he1
    injection he1 with he1
    subst he1
    exact ⟨_, _, rfl, hc, rfl, hw, fun _ => ⟨g, 0, rfl, hlt, fun j hj => by
      rw [Nat.zero_add, hcell j (by omega), iV, List.getElem?_map, List.getD_eq_getElem?_getD, List.getElem?_eq_getElem hj]
      rfl⟩⟩
end Go.Proofs.Ytlicnijhmncoeaa
