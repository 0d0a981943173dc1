-- shaken
import Derived.Test.YtbkpoimaienhpaaGreatDoorRexSpans
import Derived.Test.YtbkpoimaienhpaaGreatDoorScanNum
namespace Go.Proofs.YtbkpoimaienhpaaGreatDoor
open Go.RowKit
set_option linter.unusedVariables false
set_option linter.unusedSimpArgs false
def psC (t : ByteArray) (k o : Nat) (f : Bool) (e : Int) : Array Value := #[.string t, .int .i64 (k : Int), .int .i64 (o : Int), .bool f, .int .i64 e]
structure Ps (w : World) (b : Nat) (t : ByteArray) (k o : Nat) (f : Bool) (e : Int) : Prop where
  blk : Blk w b 145 (psC t k o f e)
  le : k ≤ t.size
  sz : t.size ≤ 256
section
variable {w w' : World} {b : Nat} {t : ByteArray} {k o : Nat} {f : Bool} {e : Int}
theorem Ps.rd (h : Ps w b t k o f e) : Rd w b 145 (psC t k o f e) t k := ⟨h.blk, rfl, rfl, h.le, Nat.le_trans h.sz (by decide)⟩
theorem Ps.of (hb : Ps w b t k o f e) {j : Nat} (h : Rd w' b 145 ((psC t k o f e).setIfInBounds 1 (.int .i64 (j : Nat))) t j) : Ps w' b t j o f e := ⟨h.blk, h.le, hb.sz⟩
theorem Ps.lt (h : Ps w b t k o f e) : b < w.heap.size := h.blk.lt
theorem Ps.drewN (h : Ps w b t k o f e) (q : Nat) : Ps (w.drewN q) b t k o f e := ⟨h.blk.drewN q, h.le, h.sz⟩
theorem Ps.alloc (h : Ps w b t k o f e) (x : Obj) : Ps (w.alloc x) b t k o f e := ⟨h.blk.alloc x, h.le, h.sz⟩
theorem Ps.below {B : Nat} (h : Ps w b t k o f e) (hb : Below B w w') (hB : b < B) : Ps w' b t k o f e := ⟨h.blk.below hb hB, h.le, h.sz⟩
theorem Ps.belowS (h : Ps w b t k o f e) (hb : Below w.heap.size w w') : Ps w' b t k o f e := h.below hb h.lt
theorem Ps.stays {r : Option Nat} (h : Ps w b t k o f e) (hg : w.grownBy w' r) (hr : r = some b → False) : Ps w' b t k o f e := ⟨h.blk.stays hg hr, h.le, h.sz⟩
theorem Ps.far (h : Ps w b t k o f e) {p : Addr} (hp : b ≠ p.block) (v : Value) : Ps (w.setCell p v) b t k o f e := ⟨h.blk.far hp v, h.le, h.sz⟩
theorem Ps.fault (h : Ps w b t k o f e) : w.cell? ⟨b, 3, none⟩ = some (.bool f) := h.blk.cell 3
theorem Ps.place (h : Ps w b t k o f e) : w.cell? ⟨b, 4, none⟩ = some (.int .i64 e) := h.blk.cell 4
theorem Ps.opened (h : Ps w b t k o f e) : w.cell? ⟨b, 2, none⟩ = some (.int .i64 (o : Int)) := h.blk.cell 2
end
def LibF (W : World) (b : Nat) : Prop := ∀ w, W.grownBy w (some b) → LibIs w
theorem LibF.next {W w : World} {b : Nat} (h : LibF W b) (hg : W.grownBy w (some b)) : LibF w b := fun w2 h2 => h w2 (World.grownBy.trans hg h2)
theorem grown_drew (W : World) (r : Option Nat) (q : Nat) : W.grownBy (W.drewN q) r := grown_of_below (below_drewN (Below.refl _ _) q) r
theorem peek0 (b : Nat) (t : ByteArray) (k o : Nat) (f : Bool) (e0 : Int) (h0 : atL t k = []) (W : World) (h : Ps W b t k o f e0) :
    Calls Tryz.prog 106 #[.pointer (some ⟨b, 0, none⟩)] W fun e w' => e = .returned (.tuple #[.int .u8 0, .bool false]) ∧ ∃ q, w' = W.drewN q := by
  have hk : k = t.size := Nat.le_antisymm h.le (at_nil t k h0)
  subst hk
  exact peek_end b _ _ t W h.rd
theorem at_head {t : ByteArray} {k : Nat} {c : UInt8} {r : List UInt8} (h0 : atL t k = c :: r) : ∃ hk : k < t.size, t[k] = c ∧ atL t (k + 1) = r := by
  have hk : k < t.size := by
    rcases Nat.lt_or_ge k t.size with h | h
    · exact h
    · rw [at_end t k h] at h0; cases h0
  rw [at_cons t k hk] at h0
  injection h0 with h1 h2
  exact ⟨hk, h1, h2⟩
theorem peek1 (b : Nat) (t : ByteArray) (k o : Nat) (f : Bool) (e0 : Int) (c : UInt8) (r : List UInt8) (h0 : atL t k = c :: r) (W : World) (h : Ps W b t k o f e0) :
    Calls Tryz.prog 106 #[.pointer (some ⟨b, 0, none⟩)] W fun e w' => e = .returned (.tuple #[.int .u8 (c.toNat : Int), .bool true]) ∧ ∃ q, w' = W.drewN q := by
  obtain ⟨hk, hc, _⟩ := at_head h0
  exact peek_more b _ _ t k hk c hc W h.rd
theorem next0 (b : Nat) (t : ByteArray) (k o : Nat) (f : Bool) (e0 : Int) (h0 : atL t k = []) (W : World) (h : Ps W b t k o f e0) :
    Calls Tryz.prog 125 #[.pointer (some ⟨b, 0, none⟩)] W fun e w' => e = .returned (.tuple #[.int .u8 0, .bool false]) ∧ Ps w' b t k o f e0 ∧ W.grownBy w' (some b) := by
  have hk : k = t.size := Nat.le_antisymm h.le (at_nil t k h0)
  subst hk
  refine (next_end b _ _ t W h.rd).mono ?_
  rintro e w ⟨he, q, rfl⟩
  exact ⟨he, h.drewN q, grown_drew _ _ _⟩
theorem next1 (b : Nat) (t : ByteArray) (k o : Nat) (f : Bool) (e0 : Int) (c : UInt8) (r : List UInt8) (h0 : atL t k = c :: r) (W : World) (h : Ps W b t k o f e0) :
    Calls Tryz.prog 125 #[.pointer (some ⟨b, 0, none⟩)] W fun e w' => e = .returned (.tuple #[.int .u8 (c.toNat : Int), .bool true]) ∧ (Ps w' b t (k + 1) o f e0 ∧ atL t (k + 1) = r) ∧ W.grownBy w' (some b) := by
  obtain ⟨hk, hc, hr⟩ := at_head h0
  refine (next_more b _ _ t k hk c hc W h.rd).mono ?_
  rintro e w ⟨he, h2, hg⟩
  exact ⟨he, ⟨h.of h2, hr⟩, hg⟩
theorem take_lit (b : Nat) (s : ByteArray) (hs : s.size ≤ 256) (t : ByteArray) (k o : Nat) (f : Bool) (e0 : Int) (W : World) (h : Ps W b t k o f e0) :
    Calls Tryz.prog 96 #[.pointer (some ⟨b, 0, none⟩), .slice (some ⟨W.heap.size, 0, none⟩) 1 1] (W.alloc (.cells #[.string s] 9)) fun e w' =>
      (∃ x, e = .returned (.tuple #[.string x, .bool (s.data.toList.isPrefixOf (atL t k))])) ∧ Ps w' b t (if s.data.toList.isPrefixOf (atL t k) then k + s.size else k) o f e0 ∧ W.grownBy w' (some b) := by
  have hlt := h.lt
  have T := take_any b _ _ t k (some ⟨W.heap.size, 0, none⟩) 1 1 [s] (by decide) (by intro x hx; rw [List.mem_singleton.1 hx]; omega) (W.alloc (.cells #[.string s] 9)) (h.rd.alloc _) (one_text W s) (by intro a ha; injection ha with ha; rw [← ha]; show W.heap.size ≠ b; omega)
  refine T.mono ?_
  rintro e w ⟨he, h2, hg⟩
  have hR : takeR t k [s] = if s.data.toList.isPrefixOf (atL t k) then some s else none := by
    rw [takeR_at, List.find?_cons, List.find?_nil]
    cases s.data.toList.isPrefixOf (atL t k) <;> rfl
  have hT : takeTo t k [s] = if s.data.toList.isPrefixOf (atL t k) then k + s.size else k := by
    unfold takeTo
    rw [hR]
    cases s.data.toList.isPrefixOf (atL t k) <;> rfl
  refine ⟨?_, ?_, World.grownBy.trans (World.grownBy_alloc _ _ _) hg⟩
  · rw [hR] at he
    cases hp : s.data.toList.isPrefixOf (atL t k)
    · rw [hp] at he; exact ⟨_, he⟩
    · rw [hp] at he; exact ⟨_, he⟩
  · rw [hT] at h2
    exact h.of h2
theorem take_yes (b : Nat) (s : ByteArray) (hs : s.size ≤ 256) (r : List UInt8) (t : ByteArray) (k o : Nat) (f : Bool) (e0 : Int) (h0 : atL t k = s.data.toList ++ r) (W : World) (h : Ps W b t k o f e0) :
    Calls Tryz.prog 96 #[.pointer (some ⟨b, 0, none⟩), .slice (some ⟨W.heap.size, 0, none⟩) 1 1] (W.alloc (.cells #[.string s] 9)) fun e w' =>
      (∃ x, e = .returned (.tuple #[.string x, .bool true])) ∧ (Ps w' b t (k + s.size) o f e0 ∧ atL t (k + s.size) = r) ∧ W.grownBy w' (some b) := by
  have hp : s.data.toList.isPrefixOf (atL t k) = true := by rw [h0, List.isPrefixOf_iff_prefix]; exact List.prefix_append _ _
  have hr : atL t (k + s.size) = r := by
    have := at_add t k _ _ h0
    rwa [size_toList] at this
  refine (take_lit b s hs t k o f e0 W h).mono ?_
  rintro e w ⟨he, h2, hg⟩
  rw [hp] at he h2
  exact ⟨he, ⟨h2, hr⟩, hg⟩
theorem take_no (b : Nat) (s : ByteArray) (hs : s.size ≤ 256) (t : ByteArray) (k o : Nat) (f : Bool) (e0 : Int) (h0 : s.data.toList.isPrefixOf (atL t k) = false) (W : World) (h : Ps W b t k o f e0) :
    Calls Tryz.prog 96 #[.pointer (some ⟨b, 0, none⟩), .slice (some ⟨W.heap.size, 0, none⟩) 1 1] (W.alloc (.cells #[.string s] 9)) fun e w' =>
      (∃ x, e = .returned (.tuple #[.string x, .bool false])) ∧ Ps w' b t k o f e0 ∧ W.grownBy w' (some b) := by
  refine (take_lit b s hs t k o f e0 W h).mono ?_
  rintro e w ⟨he, h2, hg⟩
  rw [h0] at he h2
  exact ⟨he, h2, hg⟩
theorem take_yes2 (b : Nat) (s : ByteArray) (hs : s.size ≤ 256) (r : List UInt8) (t : ByteArray) (k o : Nat) (f : Bool) (e0 : Int) (h0 : atL t k = s.data.toList ++ r) (W : World) (h : Ps W b t k o f e0) (g : Nat) (hg : g = W.heap.size) :
    Calls Tryz.prog 96 #[.pointer (some ⟨b, 0, none⟩), .slice (some ⟨g, 0, none⟩) 1 1] (W.alloc (.cells #[.string s] 9)) fun e w' =>
      (∃ x, e = .returned (.tuple #[.string x, .bool true])) ∧ (Ps w' b t (k + s.size) o f e0 ∧ atL t (k + s.size) = r) ∧ W.grownBy w' (some b) := by
  subst hg
  exact take_yes b s hs r t k o f e0 h0 W h
theorem take_no2 (b : Nat) (s : ByteArray) (hs : s.size ≤ 256) (t : ByteArray) (k o : Nat) (f : Bool) (e0 : Int) (h0 : s.data.toList.isPrefixOf (atL t k) = false) (W : World) (h : Ps W b t k o f e0) (g : Nat) (hg : g = W.heap.size) :
    Calls Tryz.prog 96 #[.pointer (some ⟨b, 0, none⟩), .slice (some ⟨g, 0, none⟩) 1 1] (W.alloc (.cells #[.string s] 9)) fun e w' =>
      (∃ x, e = .returned (.tuple #[.string x, .bool false])) ∧ Ps w' b t k o f e0 ∧ W.grownBy w' (some b) := by
  subst hg
  exact take_no b s hs t k o f e0 h0 W h
theorem place_any (b : Nat) (t : ByteArray) (k o : Nat) (f : Bool) (e0 : Int) (W : World) (h : Ps W b t k o f e0) :
    Calls Tryz.prog 73 #[.pointer (some ⟨b, 0, none⟩)] W fun e w' => e = .returned (.int .i64 (k : Int)) ∧ w' = W := by
  have c1 : W.cell? ⟨b, 1, none⟩ = some (.int .i64 (k : Int)) := h.blk.cell 1
  clear h
  go_enter Tryz.func73, Tryz.ntmps73
  go_wp2
  go_ret
  exact ⟨rfl, rfl⟩
end Go.Proofs.YtbkpoimaienhpaaGreatDoor
