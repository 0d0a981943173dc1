/- What an entry is put as: the walk. -/
import Derived.Test.YtdbflmkjcgiodaaGreatDoorEntRow
import Derived.Test.YtdbflmkjcgiodaaGreatDoorEntMath
import Derived.Test.YtdbflmkjcgiodaaGreatDoorNumExam
namespace Go.Proofs.YtdbflmkjcgiodaaGreatDoor
open Go.RowKit
set_option linter.unusedVariables false
set_option linter.unusedSimpArgs false


set_option maxRecDepth 100000 in
set_option maxHeartbeats 1600000 in
theorem entPut_any (t1 : Int) (A : Option Addr) (n c : Nat) (ps : List PairB) (l1 : ByteArray) (hn : n ≤ 1048576) (hj : (joinB ⟨#[44]⟩ (ps.map partT)).length ≤ 700000000) (hps : ∀ p ∈ ps, p.1.size ≤ 1048576 ∧ p.2.size ≤ 1048576) (hl1 : l1.size ≤ 4000000)
    (h0t : -9223372036854775808 ≤ t1) (h1t : t1 ≤ 9223372036854775807) (W : World) (h1 : Pairs W A n ps) (hl : LibIs W) :
    Calls Tryz.prog 21 #[.agg #[.int .i64 t1, .slice A n c, .string l1]] W fun e w' => e = .returned (.string (entT ⟨t1, ps, l1⟩)) ∧ Below W.heap.size W w' := by
  have h0 : W.heap.size ≤ W.heap.size := Nat.le_refl _
  have hb1 : Below W.heap.size W (W.alloc (.cells #[.int .i64 t1, .slice A n c, .string l1] 25)) := (Below.refl _ _).alloc (Nat.le_refl _) _
  have B1 := Blk.new W 25 #[.int .i64 t1, .slice A n c, .string l1]
  have C1 := fun w h => text_any t1 h0t h1t w (hl.below h)
  have C2 := fun w h => text_long A n c ps hn hj hps w (h1.below h)
  have C3 := fun w => put_any l1 hl1 w
  have E : itoaS t1 ++ textT ps ++ putS l1 = entT ⟨t1, ps, l1⟩ := rfl
  have z1 := itoaS_size t1 h0t h1t
  have z3 := putS_size l1
  have z2 : (textT ps).size ≤ 800000000 := by
    unfold textT
    rw [ByteArray.size_append, ByteArray.size_append]
    have s1 : (⟨#[123]⟩ : ByteArray).size = 1 := rfl
    have s2 : (⟨#[125]⟩ : ByteArray).size = 1 := rfl
    have s3 : (⟨(joinB ⟨#[44]⟩ (ps.map partT)).toArray⟩ : ByteArray).size = (joinB ⟨#[44]⟩ (ps.map partT)).length := by simp [ByteArray.size]
    omega
  have e2 : (⟨#[123]⟩ : ByteArray) ++ (⟨(joinB ⟨#[44]⟩ (ps.map partT)).toArray⟩ : ByteArray) ++ (⟨#[125]⟩ : ByteArray) = textT ps := rfl
  have e3 : (⟨(putB l1.data.toList).toArray⟩ : ByteArray) = putS l1 := rfl
  simp only [e2] at C2
  simp only [e3] at C3
  obtain ⟨x, hx⟩ : ∃ x, itoaS t1 = x := ⟨_, rfl⟩
  obtain ⟨y, hy⟩ : ∃ x, textT ps = x := ⟨_, rfl⟩
  obtain ⟨z, hz⟩ : ∃ x, putS l1 = x := ⟨_, rfl⟩
  obtain ⟨T, hT⟩ : ∃ x, entT ⟨t1, ps, l1⟩ = x := ⟨_, rfl⟩
  rw [hx, hy, hz, hT] at E
  rw [hx] at z1
  rw [hy] at z2
  rw [hz] at z3
  rw [hT]
  simp only [hx] at C1
  simp only [hy] at C2
  simp only [hz] at C3
  have HC1 := Lib.hid C1
  have HC2 := Lib.hid C2
  have HC3 := Lib.hid C3
  have g1 : ¬ 9223372036854775807 < x.size + y.size := by omega
  have g2 : ¬ 9223372036854775807 < (x ++ y).size + z.size := by rw [ByteArray.size_append]; omega
  have g3 : ¬ 9223372036854775807 < x.size + y.size + z.size := by omega
  have HE := Lib.hid E
  clear C1 C2 C3 E hx hy hz hT z1 z2 z3 e2 e3 h1 hps hj hl
  go_enter Tryz.func21, Tryz.ntmps21
  go_wp2
  obtain ⟨w1, hw1⟩ : ∃ w, W.alloc (.cells #[.int .i64 t1, .slice A n c, .string l1] 25) = w := ⟨_, rfl⟩
  rw [hw1] at hb1 B1 ⊢
  clear hw1
  have k0 : w1.cell? ⟨W.heap.size, 0, none⟩ = some (.int .i64 t1) := (B1.cell 0).trans rfl
  have k1 : w1.cell? ⟨W.heap.size, 1, none⟩ = some (.slice A n c) := (B1.cell 1).trans rfl
  have k2 : w1.cell? ⟨W.heap.size, 2, none⟩ = some (.string l1) := (B1.cell 2).trans rfl
  have HS := Lib.hid (fun (w w' : World) (hS : Below W.heap.size W w ∧ w.cell? ⟨W.heap.size, 0, none⟩ = some (.int .i64 t1) ∧ w.cell? ⟨W.heap.size, 1, none⟩ = some (.slice A n c) ∧ w.cell? ⟨W.heap.size, 2, none⟩ = some (.string l1)) (hx : Below w.heap.size w w') =>
    show Below W.heap.size W w' ∧ w'.cell? ⟨W.heap.size, 0, none⟩ = some (.int .i64 t1) ∧ w'.cell? ⟨W.heap.size, 1, none⟩ = some (.slice A n c) ∧ w'.cell? ⟨W.heap.size, 2, none⟩ = some (.string l1) from by
      obtain ⟨hb, c1, c2, c3⟩ := hS
      have z1 := block_lt_of_cell c1
      exact ⟨hop hb (Nat.le_refl _) hx, (hx.cell (p := ⟨_, 0, none⟩) z1).trans c1, (hx.cell (p := ⟨_, 1, none⟩) z1).trans c2, (hx.cell (p := ⟨_, 2, none⟩) z1).trans c3⟩)
  have hS0 := HS.out w1 w1.drew ⟨hb1, k0, k1, k2⟩ ((Below.refl _ _).drew)
  clear B1 hb1
  go_region_held3 (fun w' => Below W.heap.size W w' ∧ w'.cell? ⟨W.heap.size, 0, none⟩ = some (.int .i64 t1) ∧ w'.cell? ⟨W.heap.size, 1, none⟩ = some (.slice A n c) ∧ w'.cell? ⟨W.heap.size, 2, none⟩ = some (.string l1))
    (first | assumption | exact HS.out _ _ (by assumption) (by assumption))
    (first | (go_at_call 40; refine (HC1.out _ (by go_split_ands; assumption)).mono ?_; rintro e w3 ⟨rfl, hb3⟩) | (go_at_call 41; refine (HC2.out _ (by go_split_ands; assumption)).mono ?_; rintro e w3 ⟨rfl, hb3⟩) | (go_at_call 42; refine (HC3.out _).mono ?_; rintro e w3 ⟨rfl, hb3⟩))
  all_goals
    go_wp2
    go_ret
    exact ⟨by rw [← HE.out]; rfl, by go_split_ands; assumption⟩
end Go.Proofs.YtdbflmkjcgiodaaGreatDoor
