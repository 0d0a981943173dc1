-- shaken
import Derived.Test.YtkkpmhdhoppojaaGreatDoorLabTag
import Derived.Test.YtkkpmhdhoppojaaGreatDoorRows
import Derived.Test.YtkkpmhdhoppojaaGreatDoorMem
import Derived.WalkKit
import Derived.ProofKit
import Derived.OpenShut
import Derived.ShutString
import Derived.ChangeOld
import Derived.Below
import Derived.JoinedCond
import Derived.SliceStrings
import Derived.Shelf.Vars
import Derived.Deep.Slices
import Derived.ChangeSame
namespace Go.Proofs.YtkkpmhdhoppojaaGreatDoor
open Go.RowKit Go.ChangeShapes Go.WideShapes Go.Deep
set_option linter.unusedVariables false
set_option linter.unusedSimpArgs false
theorem cells_tag : Tryz.prog.cellsOf 150 = 4 := by kernel_rfl
theorem cells_pair : Tryz.prog.cellsOf 123 = 2 := by kernel_rfl
theorem cells_string : Tryz.prog.cellsOf 9 = 1 := by kernel_rfl
theorem cells_bool : Tryz.prog.cellsOf 4 = 1 := by kernel_rfl
theorem cells_u8 : Tryz.prog.cellsOf 5 = 1 := by kernel_rfl
theorem two_of {α : Type} {l : List α} (h : l.length = 2) : ∃ a b, l = [a, b] := by
  match l, h with
  | [a, b], _ => exact ⟨a, b, rfl⟩
theorem three_of {α : Type} {l : List α} (h : l.length = 3) : ∃ a b c, l = [a, b, c] := by
  match l, h with
  | [a, b, c], _ => exact ⟨a, b, c, rfl⟩
theorem four_of {α : Type} {l : List α} (h : l.length = 4) : ∃ a b c d, l = [a, b, c, d] := by
  match l, h with
  | [a, b, c, d], _ => exact ⟨a, b, c, d, rfl⟩
section
variable {H : Type} {enc : TypeId × Value → H} {w : World} {base : Nat} {spare : Nat → Bool} {held : Bool}
end

end Go.Proofs.YtkkpmhdhoppojaaGreatDoor
namespace Go.Proofs.YtkkpmhdhoppojaaGreatDoor
open Go.RowKit Go.ChangeShapes Go.WideShapes Go.Deep
set_option linter.unusedVariables false
set_option linter.unusedSimpArgs false
def bulkG : List TagB → Nat
  | [] => 0
  | t :: ts => t.nm.size + t.vl.size + 6 + bulkG ts
section
variable {H : Type} {enc : TypeId × Value → H} {w : World} {base : Nat} {spare : Nat → Bool} {held : Bool}
theorem one_tag_bulk {n : Nat} {cs : List Value} {y : DataW H × List MemPlace} (h : DataW.trod enc Tryz.prog w base spare held n 150 cs = some y) : ∃ t : TagB, t.k < 256 ∧ cs = [.string t.nm, .string t.vl, .bool t.own, .int .u8 (t.k : Int)] ∧ Rows.uptoBulk y.1 = t.nm.size + t.vl.size + 6 := by
  obtain ⟨xs, m, _, hy, hl, hlen, hf⟩ := DataW.trod_struct Tryz.underlying150 h
  rw [cells_tag] at hl
  obtain ⟨c0, c1, c2, c3, rfl⟩ : ∃ a b c d, cs = [a, b, c, d] := four_of hl
  obtain ⟨y0, y1, y2, rfl⟩ : ∃ a b c, xs = [a, b, c] := three_of hlen
  have f0 : DataW.trod enc Tryz.prog w base spare held m 123 [c0, c1] = some y0 := by
    have h : DataW.trod enc Tryz.prog w base spare held m 123 (List.take (Tryz.prog.cellsOf 123) (List.drop 0 [c0, c1, c2, c3])) = some y0 := hf 0 _ rfl
    rw [cells_pair] at h
    exact h
  have f1 : DataW.trod enc Tryz.prog w base spare held m 4 [c2] = some y1 := by
    have h : DataW.trod enc Tryz.prog w base spare held m 4 (List.take (Tryz.prog.cellsOf 4) (List.drop 2 [c0, c1, c2, c3])) = some y1 := hf 1 _ rfl
    rw [cells_bool] at h
    exact h
  have f2 : DataW.trod enc Tryz.prog w base spare held m 5 [c3] = some y2 := by
    have h : DataW.trod enc Tryz.prog w base spare held m 5 (List.take (Tryz.prog.cellsOf 5) (List.drop 3 [c0, c1, c2, c3])) = some y2 := hf 2 _ rfl
    rw [cells_u8] at h
    exact h
  obtain ⟨ow, e1, d1⟩ := DataW.trod_bool Tryz.underlying4 f1
  obtain ⟨k, e2, d2, hk⟩ := DataW.trod_int Tryz.underlying5 f2
  obtain ⟨k0, k1⟩ := bdu8 hk
  obtain ⟨xs, m, _, d0, _, hlen, hf⟩ := DataW.trod_struct Tryz.underlying123 f0
  obtain ⟨y3, y4, rfl⟩ : ∃ a b, xs = [a, b] := two_of hlen
  have g0 : DataW.trod enc Tryz.prog w base spare held m 9 [c0] = some y3 := by
    have h : DataW.trod enc Tryz.prog w base spare held m 9 (List.take (Tryz.prog.cellsOf 9) (List.drop 0 [c0, c1])) = some y3 := hf 0 _ rfl
    rw [cells_string] at h
    exact h
  have g1 : DataW.trod enc Tryz.prog w base spare held m 9 [c1] = some y4 := by
    have h : DataW.trod enc Tryz.prog w base spare held m 9 (List.take (Tryz.prog.cellsOf 9) (List.drop 1 [c0, c1])) = some y4 := hf 1 _ rfl
    rw [cells_string] at h
    exact h
  obtain ⟨s0, e3, d3, _⟩ := DataW.trod_string Tryz.underlying9 g0
  obtain ⟨s1, e4, d4, _⟩ := DataW.trod_string Tryz.underlying9 g1
  injection e1 with e1
  injection e2 with e2
  injection e3 with e3
  injection e4 with e4
  subst e1 e2 e3 e4 d3 d4 d0 d1 d2 hy
  refine ⟨⟨s0, s1, ow, k.toNat⟩, by show k.toNat < 256; omega, ?_, ?_⟩
  · show _ = [Value.string s0, .string s1, .bool ow, .int .u8 (k.toNat : Int)]
    rw [show (k.toNat : Int) = k by omega]
  · simp only [List.map_cons, List.map_nil, Rows.uptoBulk, Rows.uptoBulkAll, size_toList]
    omega
end
end Go.Proofs.YtkkpmhdhoppojaaGreatDoor
