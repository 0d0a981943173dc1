/- The byte whose form a text begins with.
   The byte whose form a text, which is not nothing, begins with.
   The text whose Put a text begins with. -/
import Derived.Test.YtgcojilaeflfbaaGreatDoorPut
import Derived.Test.YtgcojilaeflfbaaGreatDoorShelf
import Derived.Lib.IndexBytes
import Derived.WalkLawsBesides
namespace Go.Proofs.YtgcojilaeflfbaaGreatDoor
open Go.RowKit
set_option linter.unusedVariables false
set_option linter.unusedSimpArgs false

def digitsL : List UInt8 := [48, 49, 50, 51, 52, 53, 54, 55, 56, 57, 97, 98, 99, 100, 101, 102]
def hexI (c : UInt8) : Int := Lib.indexByte digitsL c
/-- the byte whose two digits stand there, and whether digits are its only form -/
def hexB (l : List UInt8) : UInt8 × Bool :=
  match l with
  | a :: b :: _ => if hexI a < 0 ∨ hexI b < 0 then (0, false) else (UInt8.ofNat (hexI a * 16 + hexI b).toNat, rareB (UInt8.ofNat (hexI a * 16 + hexI b).toNat))
  | _ => (0, false)
theorem hexI_range : ∀ c : UInt8, -1 ≤ hexI c ∧ hexI c < 16 := by
  have h : ∀ c : Fin 256, -1 ≤ hexI (UInt8.ofNat c.1) ∧ hexI (UInt8.ofNat c.1) < 16 := by decide +kernel
  intro c
  have := h ⟨c.toNat, c.toNat_lt⟩
  simpa using this
theorem bytes_cons (t : ByteArray) (h : 0 < t.size) : ∃ r, t.data.toList = t[0] :: r ∧ r.length + 1 = t.size := by
  obtain ⟨⟨l⟩⟩ := t
  match l, h with
  | a :: r, _ => exact ⟨r, rfl, by simp [ByteArray.size]⟩
theorem bytes_cons2 (t : ByteArray) (h : 1 < t.size) : ∃ r, t.data.toList = t[0] :: t[1] :: r ∧ r.length + 2 = t.size := by
  obtain ⟨⟨l⟩⟩ := t
  match l, h with
  | a :: b :: r, _ => exact ⟨r, rfl, by simp [ByteArray.size]⟩
theorem ret2_eq {a a' : Int} {b b' : Bool} (h : a = a') (h2 : b = b') : Ending.returned (.tuple #[.int .u8 a, .bool b]) = .returned (.tuple #[.int .u8 a', .bool b']) := by rw [h, h2]

end Go.Proofs.YtgcojilaeflfbaaGreatDoor
namespace Go.Proofs.YtgcojilaeflfbaaGreatDoor
open Go.RowKit
set_option linter.unusedVariables false
set_option linter.unusedSimpArgs false

/-- the byte, how many bytes its form has, and whether there is one -/
def firstB (l : List UInt8) : UInt8 × Nat × Bool :=
  match l with
  | [] => (0, 0, false)
  | c :: r =>
    if c ≠ 92 then (c, 1, !rareB c && (c != 10 && c != 9))
    else match r with
      | [] => (0, 0, false)
      | d :: r' =>
        if d = 34 ∨ d = 92 then (d, 2, true) else if d = 110 then (10, 2, true) else if d = 116 then (9, 2, true)
        else if d = 120 then ((hexB r').1, 4, (hexB r').2) else (0, 0, false)
theorem byte_eq (c : UInt8) (k : UInt8) (h : c = k) : (((c.toNat : Int)) == (k.toNat : Int)) = true ∧ (((c.toNat : Int)) != (k.toNat : Int)) = false := by subst h; simp
theorem byte_ne (c : UInt8) (k : UInt8) (h : c ≠ k) : (((c.toNat : Int)) == (k.toNat : Int)) = false ∧ (((c.toNat : Int)) != (k.toNat : Int)) = true := by
  have : (c.toNat : Int) ≠ (k.toNat : Int) := fun e => h (UInt8.toNat_inj.1 (by omega))
  exact ⟨by rw [beq_eq_false_iff_ne]; exact this, by rw [bne_iff_ne]; exact this⟩
theorem drew_le (w : World) (n m : Nat) : ∃ q, (w.drewN n).drewN m = w.drewN q := ⟨n + m, World.drewN_drewN _ _ _⟩

end Go.Proofs.YtgcojilaeflfbaaGreatDoor
namespace Go.Proofs.YtgcojilaeflfbaaGreatDoor
open Go.RowKit
set_option linter.unusedVariables false
set_option linter.unusedSimpArgs false

def getGo : Nat → List UInt8 → List UInt8 → Nat → Option (List UInt8 × Nat)
  | 0, _, _, _ => none
  | _ + 1, [], _, _ => none
  | f + 1, c :: r, out, at_ =>
    if c = 34 then some (out, at_ + 1)
    else if (firstB (c :: r)).2.2 = true then getGo f ((c :: r).drop (firstB (c :: r)).2.1) (out ++ [(firstB (c :: r)).1]) (at_ + (firstB (c :: r)).2.1)
    else none
def getB (l : List UInt8) : Option (List UInt8 × Nat) :=
  match l with
  | c :: r => if c = 34 then getGo l.length r [] 1 else none
  | [] => none
def getR (l : List UInt8) : List UInt8 × Nat × Bool :=
  match getB l with
  | some (t, n) => (t, n, true)
  | none => ([], 0, false)
theorem firstB_ok (c : UInt8) (r : List UInt8) (h : (firstB (c :: r)).2.2 = true) : 1 ≤ (firstB (c :: r)).2.1 ∧ (firstB (c :: r)).2.1 ≤ (c :: r).length := by
  unfold firstB at h ⊢
  by_cases h1 : c ≠ 92
  · simp [h1]
  · simp only [h1, if_false] at h ⊢
    match r with
    | [] => simp at h
    | d :: r' =>
      simp only at h ⊢
      split at h
      · next hh => simp [hh]
      · next hh =>
        simp only [hh, if_false]
        split at h
        · next h3 => simp [h3]
        · next h3 =>
          simp only [h3, if_false]
          split at h
          · next h4 => simp [h4]
          · next h4 =>
            simp only [h4, if_false]
            split at h
            · next h5 =>
              simp only [h5, if_true]
              match r', h with
              | [], h => simp [hexB] at h
              | [_], h => simp [hexB] at h
              | _ :: _ :: r'', _ => simp
            · simp at h
theorem OwnB.drewN {w : World} {B e : Nat} {v : Value} {l : List UInt8} (h : OwnB w B e v l) (q : Nat) : OwnB (w.drewN q) B e v l := h
theorem drop_cons (s : ByteArray) (k : Nat) (h : k < s.size) : s.data.toList.drop k = s[k] :: s.data.toList.drop (k + 1) := by
  rw [List.drop_eq_getElem_cons (by simpa using h)]
  rfl
theorem ret3_eq {a a' : List UInt8} {b b' : Int} {c c' : Bool} (h : a = a') (h2 : b = b') (h3 : c = c') : Ending.returned (.tuple #[.string ⟨a.toArray⟩, .int .i64 b, .bool c]) = .returned (.tuple #[.string ⟨a'.toArray⟩, .int .i64 b', .bool c']) := by rw [h, h2, h3]

end Go.Proofs.YtgcojilaeflfbaaGreatDoor
