-- shaken
import Derived.Test.YtdaainifkldcpaaGreatDoorEntBackMath
import Derived.Test.YtdaainifkldcpaaGreatDoorStoNone
namespace Go.Proofs.YtdaainifkldcpaaGreatDoor
open Go.RowKit
set_option linter.unusedVariables false
set_option linter.unusedSimpArgs false
theorem cells_reply : Tryz.prog.cellsOf 85 = 2 := by kernel_rfl
theorem cells_intR : Tryz.prog.cellsOf 3 = 1 := by kernel_rfl
section
variable {H : Type} {enc : TypeId × Value → H} {w : World} {base : Nat} {spare : Nat → Bool} {held : Bool}
theorem one_reply {n : Nat} {cs : List Value} {y : DataW H × List MemPlace} (h : DataW.trod enc Tryz.prog w base spare held n 85 cs = some y) : ∃ r : RepB, numRep r ∧ cs = r.V := by
  obtain ⟨xs, m, _, hy, hl, hlen, hf⟩ := DataW.trod_struct Tryz.underlying85 h
  rw [cells_reply] at hl
  obtain ⟨c0, c1, rfl⟩ : ∃ a b, cs = [a, b] := two_of hl
  obtain ⟨y0, y1, rfl⟩ : ∃ a b, xs = [a, b] := two_of hlen
  have f0 : DataW.trod enc Tryz.prog w base spare held m 4 [c0] = some y0 := by
    have h : DataW.trod enc Tryz.prog w base spare held m 4 (List.take (Tryz.prog.cellsOf 4) (List.drop 0 [c0, c1])) = some y0 := hf 0 _ rfl
    rw [cells_bool] at h
    exact h
  have f1 : DataW.trod enc Tryz.prog w base spare held m 3 [c1] = some y1 := by
    have h : DataW.trod enc Tryz.prog w base spare held m 3 (List.take (Tryz.prog.cellsOf 3) (List.drop 1 [c0, c1])) = some y1 := hf 1 _ rfl
    rw [cells_intR] at h
    exact h
  obtain ⟨b, e0, d0⟩ := DataW.trod_bool Tryz.underlying4 f0
  obtain ⟨z, e1, d1, hz⟩ := DataW.trod_int Tryz.underlying3 f1
  injection e0 with e0
  injection e1 with e1
  subst e0 e1
  have hz2 : (Lit.int .i64 z).wf = true := hz
  obtain ⟨h1, h2⟩ := bdi64 hz2
  exact ⟨⟨b, z⟩, ⟨h1, h2⟩, rfl⟩
instance : Inhabited RepB := ⟨⟨false, 0⟩⟩
theorem replies_open {n : Nat} {cs : List Value} {y : DataW H × List MemPlace} (h : DataW.trod enc Tryz.prog w base spare held n 79 cs = some y) : ∃ A len cap l, cs = [.slice A len cap] ∧ (RowR RepB.V 2 w A len l ∧ ∀ r ∈ l, numRep r) ∧ len ≤ cap ∧ cap ≤ maxLen := by
  obtain ⟨A, len, cap, l, rfl, hr, hg, _, h1, h2, _⟩ := row_open (V := RepB.V) (s := 2) (G := numRep) (K := fun _ => 0) (fun _ => rfl) (by decide) (fun _ => ⟨_, _, rfl⟩) Tryz.underlying79 cells_reply (fun h => by
    obtain ⟨t, h1, h2⟩ := one_reply h
    exact ⟨t, h1, h2, Nat.zero_le _⟩) h
  exact ⟨A, len, cap, l, rfl, ⟨hr, hg⟩, h1, h2⟩
end

end Go.Proofs.YtdaainifkldcpaaGreatDoor
namespace Go.Proofs.YtdaainifkldcpaaGreatDoor
open Go.RowKit
set_option linter.unusedVariables false
set_option linter.unusedSimpArgs false
structure BackX where
  A : Option Addr
  n : Nat
  c : Nat
  l : List ItemX
  B : Option Addr
  m : Nat
  d : Nat
  S : List RepB
def BackX.V (x : BackX) : List Value := [.slice x.A x.n x.c, .slice x.B x.m x.d]
structure GoodB (B : Nat) (w : World) (x : BackX) : Prop where
  items : ItemsP B w x.A x.n x.l
  nc : x.n ≤ x.c
  cm : x.c ≤ maxLen
  reps : RowR RepB.V 2 w x.B x.m x.S
  num : ∀ r ∈ x.S, numRep r
  md : x.m ≤ x.d
  dm : x.d ≤ maxLen
theorem GoodB.below {B : Nat} {w w' : World} {x : BackX} (h : GoodB B w x) (hb : Below w.heap.size w w') : GoodB B w' x := ⟨h.items.below hb, h.nc, h.cm, h.reps.below hb, h.num, h.md, h.dm⟩
def backK (x : BackX) : Nat := sumN (x.l.map fun i => itemK i + 1)
instance : Inhabited BackX := ⟨⟨none, 0, 0, [], none, 0, 0, []⟩⟩
theorem sum_one {l : List Nat} {k : Nat} (h : k ∈ l) : k ≤ sumN l := by
  induction l with
  | nil => cases h
  | cons x l ih =>
    show k ≤ x + sumN l
    rcases List.mem_cons.1 h with rfl | h
    · omega
    · have := ih h; omega
theorem back_len (x : BackX) : x.l.length ≤ backK x := by
  have h : ∀ l : List ItemX, l.length ≤ sumN (l.map fun i => itemK i + 1) := by
    intro l
    induction l with
    | nil => exact Nat.zero_le _
    | cons y l ih =>
      show l.length + 1 ≤ (itemK y + 1) + sumN (l.map fun i => itemK i + 1)
      omega
  exact h x.l
theorem cells_backend : Tryz.prog.cellsOf 81 = 2 := by kernel_rfl
theorem cells_itemsL : Tryz.prog.cellsOf 78 = 1 := by kernel_rfl
theorem cells_replyL : Tryz.prog.cellsOf 79 = 1 := by kernel_rfl
section
variable {H : Type} {enc : TypeId × Value → H} {w : World} {base : Nat} {spare : Nat → Bool} {held : Bool}
theorem items_openN {n : Nat} {cs : List Value} {y : DataW H × List MemPlace} (h : DataW.trod enc Tryz.prog w base spare held n 78 cs = some y) : ∃ A len cap l, cs = [.slice A len cap] ∧ ItemsP w.heap.size w A len l ∧ sumN (l.map fun i => itemK i + 1) + 1 ≤ Rows.uptoBulk y.1 ∧ len ≤ cap ∧ cap ≤ maxLen := by
  obtain ⟨A, len, cap, l, rfl, hr, hg, hk, h1, h2, _⟩ := row_open (V := ItemX.V) (s := 7) (G := fun x => GoodI w.heap.size w x) (K := fun i => itemK i + 1) (fun _ => rfl) (by decide) (fun _ => ⟨_, _, rfl⟩) Tryz.underlying78 cells_item (fun h => one_item h) h
  exact ⟨A, len, cap, l, rfl, ⟨hr, hg⟩, hk, h1, h2⟩
theorem one_backend {n : Nat} {cs : List Value} {y : DataW H × List MemPlace} (h : DataW.trod enc Tryz.prog w base spare held n 81 cs = some y) : ∃ x : BackX, GoodB w.heap.size w x ∧ cs = x.V ∧ backK x + 1 ≤ Rows.uptoBulk y.1 := by
  obtain ⟨xs, m, _, hy, hl, hlen, hf⟩ := DataW.trod_struct Tryz.underlying81 h
  rw [cells_backend] at hl
  obtain ⟨c0, c1, rfl⟩ : ∃ a b, cs = [a, b] := two_of hl
  obtain ⟨y0, y1, rfl⟩ : ∃ a b, xs = [a, b] := two_of hlen
  have f0 : DataW.trod enc Tryz.prog w base spare held m 78 [c0] = some y0 := by
    have h : DataW.trod enc Tryz.prog w base spare held m 78 (List.take (Tryz.prog.cellsOf 78) (List.drop 0 [c0, c1])) = some y0 := hf 0 _ rfl
    rw [cells_itemsL] at h
    exact h
  have f1 : DataW.trod enc Tryz.prog w base spare held m 79 [c1] = some y1 := by
    have h : DataW.trod enc Tryz.prog w base spare held m 79 (List.take (Tryz.prog.cellsOf 79) (List.drop 1 [c0, c1])) = some y1 := hf 1 _ rfl
    rw [cells_replyL] at h
    exact h
  obtain ⟨A, n, c, l, e0, hi, hk, h1, h2⟩ := items_openN f0
  obtain ⟨B, m', d, S, e1, hr, h3, h4⟩ := replies_open f1
  injection e0 with e0
  injection e1 with e1
  subst e0 e1 hy
  refine ⟨⟨A, n, c, l, B, m', d, S⟩, ⟨hi, h1, h2, hr.1, hr.2, h3, h4⟩, rfl, ?_⟩
  simp only [backK, List.map_cons, List.map_nil, Rows.uptoBulk, Rows.uptoBulkAll]
  omega
theorem backs_open {n : Nat} {cs : List Value} {y : DataW H × List MemPlace} (h : DataW.trod enc Tryz.prog w base spare held n 22 cs = some y) : ∃ A len cap l, cs = [.slice A len cap] ∧ (RowR BackX.V 2 w A len l ∧ ∀ x ∈ l, GoodB w.heap.size w x) ∧ (∀ x ∈ l, backK x ≤ Rows.uptoBulk y.1) ∧ len ≤ cap ∧ cap ≤ maxLen := by
  obtain ⟨A, len, cap, l, rfl, hr, hg, hk, h1, h2, _⟩ := row_open (V := BackX.V) (s := 2) (G := fun x => GoodB w.heap.size w x) (K := backK) (fun _ => rfl) (by decide) (fun _ => ⟨_, _, rfl⟩) Tryz.underlying22 cells_backend (fun h => by
    obtain ⟨t, h1, h2, h3⟩ := one_backend h
    exact ⟨t, h1, h2, by omega⟩) h
  refine ⟨A, len, cap, l, rfl, ⟨hr, hg⟩, fun x hx => ?_, h1, h2⟩
  have h3 := sum_one (List.mem_map_of_mem (f := backK) hx)
  omega
end
end Go.Proofs.YtdaainifkldcpaaGreatDoor
