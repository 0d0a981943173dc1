/- A text in quotes that stands in a text; how far it is read; a reader, whatever its cells. -/
import Derived.Test.YtnhbahfpinijiaaScanPick
import Derived.Test.YtnhbahfpinijiaaGet2
import Derived.Laws.ResultCell
namespace Go.Proofs.Ytnhbahfpinijiaa
open Go.RowKit
set_option linter.unusedVariables false

theorem getGo_le : ∀ (f : Nat) (l out : List UInt8) (n : Nat) (o : List UInt8) (m : Nat), getGo f l out n = some (o, m) → m ≤ n + l.length := by
  intro f
  induction f with
  | zero => intro l out n o m h; cases h
  | succ f ih =>
    intro l out n o m h
    cases l with
    | nil => cases h
    | cons c r =>
      unfold getGo at h
      split at h
      · injection h with h
        injection h with _ h
        rw [List.length_cons]; omega
      · split at h
        · next hok =>
          have h1 := firstB_ok c r hok
          have h2 := ih _ _ _ _ _ h
          rw [List.length_drop] at h2
          omega
        · cases h
theorem getR_le (l : List UInt8) : (getR l).2.1 ≤ l.length := by
  unfold getR
  cases h : getB l with
  | none => exact Nat.zero_le _
  | some x =>
    obtain ⟨o, m⟩ := x
    unfold getB at h
    cases l with
    | nil => cases h
    | cons c r =>
      dsimp only at h
      split at h
      · have := getGo_le _ _ _ _ _ _ h
        rw [List.length_cons]
        show m ≤ _
        omega
      · cases h
/-- the text in quotes that stands at k -/
def quoR (t : ByteArray) (k : Nat) : List UInt8 × Nat × Bool := getR (t.extract k t.size).data.toList
theorem quoR_le (t : ByteArray) (k : Nat) (hk : k ≤ t.size) : k + (quoR t k).2.1 ≤ t.size := by
  have h := getR_le (t.extract k t.size).data.toList
  rw [size_toList, ByteArray.size_extract] at h
  unfold quoR
  omega
set_option maxHeartbeats 800000 in
theorem quoted_any (b : Nat) (ty : TypeId) (cs : Array Value) (t : ByteArray) (k : Nat) (hs : t.size ≤ 16000000) (W : World) (hR : Rd W b ty cs t k) :
    Calls Try.prog 24 #[.pointer (some ⟨b, 0, none⟩)] W fun e w' => e = .returned (.tuple #[.string ⟨(quoR t k).1.toArray⟩, .bool (quoR t k).2.2]) ∧ Rd w' b ty (cs.setIfInBounds 1 (.int .i64 (k + (quoR t k).2.1 : Nat))) t (k + (quoR t k).2.1) ∧ W.grownBy w' (some b) := by
  have hle := quoR_le t k hR.le
  have hkt := hR.le
  have RS := Lib.hid (rest_any b ty cs t k W hR)
  have GT := Lib.hid (fun w => get_any (t.extract k t.size) (by rw [ByteArray.size_extract]; omega) w)
  have HR := Lib.hid hR
  have hlt := hR.lt
  clear hR
  have e : getR (t.extract k t.size).data.toList = quoR t k := rfl
  replace GT := GT.out
  simp only [e] at GT
  obtain ⟨⟨l, m, ok⟩, hx⟩ : ∃ x, quoR t k = x := ⟨_, rfl⟩
  rw [hx] at hle ⊢
  simp only [hx] at GT
  replace GT := Lib.hid GT
  dsimp only at hle ⊢
  have q1 : IntKind.i64.wrap ((k : Int) + (m : Int)) = (k : Int) + (m : Int) := by rw [IntKind.wrap_i64]; omega
  clear e hx
  go_enter Try.func24, Try.ntmps24
  go_wp2_with fail
  refine RS.out.mono ?_
  rintro e w1 ⟨rfl, q, rfl⟩
  go_wp2_with fail
  refine (GT.out _).mono ?_
  rintro e w2 ⟨rfl, hx⟩
  have hR2 := (HR.out.drewN q).below hx hlt
  have c1 := hR2.pos
  have f1 := hR2.blk.frozen 1
  have hg : W.grownBy w2 (some b) := World.grownBy.trans (grown_drewN (World.grownBy.refl _ _) q) (grown_of_below hx _)
  have HR2 := Lib.hid hR2
  have HG := Lib.hid hg
  clear hx hR2 hg
  go_wp2
  go_ret2
  have h := HR2.out.toI (j := k + m) (z := (k : Int) + (m : Int)) (by omega) hle
  exact ⟨rfl, h, World.grownBy.trans HG.out (grown_pos _ 0 b _)⟩
theorem at_any (b : Nat) (ty : TypeId) (cs : Array Value) (t : ByteArray) (k : Nat) (W : World) (hR : Rd W b ty cs t k) :
    Calls Try.prog 18 #[.pointer (some ⟨b, 0, none⟩)] W fun e w' => e = .returned (.int .i64 (k : Int)) ∧ w' = W := by
  have c1 := hR.pos
  clear hR
  go_enter Try.func18, Try.ntmps18
  go_wp2
  go_ret
  exact ⟨rfl, rfl⟩
/-- a reader at k, whatever its cells -/
def RdX (w : World) (b : Nat) (ty : TypeId) (t : ByteArray) (k : Nat) : Prop := ∃ cs, Rd w b ty cs t k
theorem Blk.kept {w w' : World} {g b : Nat} {t : TypeId} {cs : Array Value} (h : Blk w g t cs) (hg : w.grownBy w' (some b)) (hb : g ≠ b) : Blk w' g t cs := (hg.block g h.lt (fun e => hb (by injection e))).trans h
theorem one_text (w : World) (s : ByteArray) : Texts (w.alloc (.cells #[.string s] 9)) (some ⟨w.heap.size, 0, none⟩) 1 [s] := ⟨rfl, fun _ => ⟨_, 0, rfl, by simp, fun j hj => by
  obtain rfl : j = 0 := by omega
  rw [(Blk.new w _ #[.string s]).cell 0]; rfl⟩⟩

theorem Rd.far {w : World} {b : Nat} {ty : TypeId} {cs : Array Value} {t : ByteArray} {k : Nat} (h : Rd w b ty cs t k) {p : Addr} (hp : b ≠ p.block) (v : Value) : Rd (w.setCell p v) b ty cs t k := ⟨h.blk.far hp v, h.c0, h.c1, h.le, h.sz⟩
theorem grown_new {W w : World} {row : Option Nat} (h : W.grownBy w row) {p : Addr} (hp : W.heap.size ≤ p.block) (v : Value) : W.grownBy (w.setCell p v) row :=
  ⟨h.os, h.tape, h.output, by simp [World.setCell]; exact h.size, fun k hk hr => (Below.heap_setCell w p v k (by omega)).trans (h.block k hk hr)⟩

theorem Blk.stays {w w' : World} {g : Nat} {t : TypeId} {cs : Array Value} {row : Option Nat} (h : Blk w g t cs) (hg : w.grownBy w' row) (hr : row = some g → False) : Blk w' g t cs := (hg.block g h.lt (fun e => hr e.symm)).trans h
end Go.Proofs.Ytnhbahfpinijiaa
