/- A slice of slices of bytes that can be read; and what the parts of letters joined are. -/
import Derived.Test.YthmbgnjbmkmajaaCutMath
import Derived.Test.YthmbgnjbmkmajaaRefParts
import Derived.Deep.Matrix
namespace Go.Proofs.Ythmbgnjbmkmajaa
open Go.RowKit
set_option linter.unusedVariables false

def Rows8 (w : World) (A : Option Addr) (n : Nat) (L : Nat → Nat) (Z : Nat → Nat → Int) : Prop :=
  0 < n → ∃ b off, A = some ⟨b, off, none⟩ ∧ b < w.heap.size ∧ ∀ r, r < n → ∃ R C, w.cell? ⟨b, off + r, none⟩ = some (.slice R (L r) C) ∧
    (0 < L r → ∃ b' off', R = some ⟨b', off', none⟩ ∧ b' < w.heap.size ∧ ∀ c, c < L r → w.cell? ⟨b', off' + c, none⟩ = some (.int .u8 (Z r c)) ∧ 0 ≤ Z r c ∧ Z r c ≤ 255)
theorem Rows8.below {w w' : World} {A : Option Addr} {n : Nat} {L : Nat → Nat} {Z : Nat → Nat → Int} (h : Rows8 w A n L Z) (hb : Below w.heap.size w w') : Rows8 w' A n L Z := fun hn => by
  obtain ⟨b, off, e, hlt, hc⟩ := h hn
  refine ⟨b, off, e, Nat.lt_of_lt_of_le hlt hb.size, fun r hr => ?_⟩
  obtain ⟨R, C, h1, h2⟩ := hc r hr
  refine ⟨R, C, (hb.cell (p := ⟨b, off + r, none⟩) hlt).trans h1, fun hl => ?_⟩
  obtain ⟨b', off', e', hlt', hc'⟩ := h2 hl
  exact ⟨b', off', e', Nat.lt_of_lt_of_le hlt' hb.size, fun c hcl => ⟨(hb.cell (p := ⟨b', off' + c, none⟩) hlt').trans (hc' c hcl).1, (hc' c hcl).2⟩⟩
theorem add_plain (b off i : Nat) : (⟨b, off, none⟩ : Addr).add i = ⟨b, off + i, none⟩ := by unfold Addr.add; split <;> simp_all
theorem plain_addr {w : World} {a : Addr} {v : Value} (h : w.cell? (a.add 0) = some v) : ∃ b off, a = ⟨b, off, none⟩ ∧ b < w.heap.size := by
  obtain ⟨b, off, spot⟩ := a
  have hspot : spot = none := by simpa [Addr.add] using World.cell?_spot h
  subst hspot
  rw [add_plain] at h
  exact ⟨b, off, rfl, block_lt_of_cell h⟩
theorem rows8_open {w : World} {a : Addr} {len cap : Nat} {A : Nat → Option Addr} {L C : Nat → Nat} {Z : Nat → List Int} (hl : len ≤ cap)
    (h : ∀ r, r < cap → w.cell? (a.add r) = some (.slice (A r) (L r) (C r)) ∧ L r ≤ C r ∧ C r ≤ maxLen ∧ (Z r).length = C r ∧ (∀ n ∈ Z r, (Lit.int .u8 n).wf = true) ∧ (A r = none → C r = 0) ∧
      ∀ a', A r = some a' → 0 ≤ a'.block ∧ ∀ c, c < C r → w.cell? (a'.add c) = some (.int .u8 ((Z r).getD c 0))) : Rows8 w (some a) len L (fun r c => (Z r).getD c 0) := fun hn => by
  obtain ⟨b, off, rfl, hlt⟩ := plain_addr (h 0 (by omega)).1
  refine ⟨b, off, rfl, hlt, fun r hr => ?_⟩
  obtain ⟨h1, h2, _, h3, h4, h5, h6⟩ := h r (by omega)
  rw [add_plain] at h1
  refine ⟨_, _, h1, fun hL => ?_⟩
  cases hA : A r with
  | none => have := h5 hA; omega
  | some a' =>
    obtain ⟨_, h7⟩ := h6 a' hA
    obtain ⟨b', off', rfl, hlt'⟩ := plain_addr (h7 0 (by omega))
    refine ⟨b', off', rfl, hlt', fun c hc => ?_⟩
    have h8 := h7 c (by omega)
    rw [add_plain] at h8
    have hm : (Z r).getD c 0 ∈ Z r := by
      rw [List.getD_eq_getElem?_getD, List.getElem?_eq_getElem (by omega)]
      exact List.getElem_mem _
    exact ⟨h8, bdu8 (h4 _ hm)⟩

/-- the text of one row: at most six letters -/
def letter (z : Int) : UInt8 := UInt8.ofNat (97 + z % 26).toNat
def partL (L : Nat) (z : Nat → Int) (k : Nat) : List UInt8 := (List.range (min k (min L 6))).map fun c => letter (z c)
def partT (L : Nat) (z : Nat → Int) (k : Nat) : ByteArray := ⟨(partL L z k).toArray⟩
theorem letter_nat (z : Int) (h : 0 ≤ z) (h2 : z ≤ 255) : ((letter z).toNat : Int) = 97 + z % 26 := by
  unfold letter
  rw [UInt8.toNat_ofNat']; omega
end Go.Proofs.Ythmbgnjbmkmajaa
