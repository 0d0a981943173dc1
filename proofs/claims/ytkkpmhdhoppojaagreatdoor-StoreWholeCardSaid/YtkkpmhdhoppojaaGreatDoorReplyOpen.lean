-- shaken
import Derived.Test.YtkkpmhdhoppojaaGreatDoorStoReplies
import Derived.Test.YtkkpmhdhoppojaaGreatDoorEntBackMath
namespace Go.Proofs.YtkkpmhdhoppojaaGreatDoor
open Go.RowKit
set_option linter.unusedVariables false
set_option linter.unusedSimpArgs false
theorem cells_reply : Tryz.prog.cellsOf 32 = 2 := by kernel_rfl
theorem cells_intR : Tryz.prog.cellsOf 3 = 1 := by kernel_rfl
section
variable {H : Type} {enc : TypeId × Value → H} {w : World} {base : Nat} {spare : Nat → Bool} {held : Bool}
theorem one_reply {n : Nat} {cs : List Value} {y : DataW H × List MemPlace} (h : DataW.trod enc Tryz.prog w base spare held n 32 cs = some y) : ∃ r : RepB, numRep r ∧ cs = r.V := by
  obtain ⟨xs, m, _, hy, hl, hlen, hf⟩ := DataW.trod_struct Tryz.underlying32 h
  rw [cells_reply] at hl
  obtain ⟨c0, c1, rfl⟩ : ∃ a b, cs = [a, b] := two_of hl
  obtain ⟨y0, y1, rfl⟩ : ∃ a b, xs = [a, b] := two_of hlen
  have f0 : DataW.trod enc Tryz.prog w base spare held m 4 [c0] = some y0 := by
    have h : DataW.trod enc Tryz.prog w base spare held m 4 (List.take (Tryz.prog.cellsOf 4) (List.drop 0 [c0, c1])) = some y0 := hf 0 _ rfl
    rw [cells_bool] at h
    exact h
  have f1 : DataW.trod enc Tryz.prog w base spare held m 3 [c1] = some y1 := by
    have h : DataW.trod enc Tryz.prog w base spare held m 3 (List.take (Tryz.prog.cellsOf 3) (List.drop 1 [c0, c1])) = some y1 := hf 1 _ rfl
    rw [cells_intR] at h
    exact h
  obtain ⟨b, e0, d0⟩ := DataW.trod_bool Tryz.underlying4 f0
  obtain ⟨z, e1, d1, hz⟩ := DataW.trod_int Tryz.underlying3 f1
  injection e0 with e0
  injection e1 with e1
  subst e0 e1
  have hz2 : (Lit.int .i64 z).wf = true := hz
  obtain ⟨h1, h2⟩ := bdi64 hz2
  exact ⟨⟨b, z⟩, ⟨h1, h2⟩, rfl⟩
instance : Inhabited RepB := ⟨⟨false, 0⟩⟩
theorem replies_open {n : Nat} {cs : List Value} {y : DataW H × List MemPlace} (h : DataW.trod enc Tryz.prog w base spare held n 23 cs = some y) : ∃ A len cap l, cs = [.slice A len cap] ∧ (RowR RepB.V 2 w A len l ∧ ∀ r ∈ l, numRep r) ∧ len ≤ cap ∧ cap ≤ maxLen := by
  obtain ⟨A, len, cap, l, rfl, hr, hg, _, h1, h2, _⟩ := row_open (V := RepB.V) (s := 2) (G := numRep) (K := fun _ => 0) (fun _ => rfl) (by decide) (fun _ => ⟨_, _, rfl⟩) Tryz.underlying23 cells_reply (fun h => by
    obtain ⟨t, h1, h2⟩ := one_reply h
    exact ⟨t, h1, h2, Nat.zero_le _⟩) h
  exact ⟨A, len, cap, l, rfl, ⟨hr, hg⟩, h1, h2⟩
end
end Go.Proofs.YtkkpmhdhoppojaaGreatDoor
