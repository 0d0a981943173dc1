/- A heap and the document's own beside it: neither's call touches the other one; they tell the same. -/
import Derived.Test.YtlicnijhmncoeaaHeapRefPop
import Derived.Test.YtlicnijhmncoeaaHeapRel
import Derived.Test.YtlicnijhmncoeaaHeapDrain
namespace Go.Proofs.Ytlicnijhmncoeaa
open Go.RowKit
set_option linter.unusedVariables false
set_option linter.unusedSimpArgs false

structure SepH (w : World) (b : Nat) (v : Value) (a : Nat) (u : Value) : Prop where
  ne : a ≠ b
  va : v.ownBlock ≠ some a
  ub : u.ownBlock ≠ some b
  vu : ∀ k, v.ownBlock = some k → u.ownBlock ≠ some k
structure TwoH (W w : World) (b : Nat) (v : Value) (M : List (KeyP Int)) (came : Nat) (a : Nat) (u : Value) (X : List Int) : Prop where
  hp : HeapO w b v M came
  rf : RefH w a u X
  sep : SepH w b v a u
  bel : Below W.heap.size W w
  hb : W.heap.size ≤ b
  ha : W.heap.size ≤ a
section
variable {W w w' : World} {b : Nat} {v : Value} {M : List (KeyP Int)} {came : Nat} {a : Nat} {u : Value} {X : List Int}
theorem TwoH.below (h : TwoH W w b v M came a u X) (hx : Below w.heap.size w w') : TwoH W w' b v M came a u X :=
  ⟨h.hp.below hx, h.rf.below hx, ⟨h.sep.ne, h.sep.va, h.sep.ub, h.sep.vu⟩, hop h.bel (Nat.le_refl _) hx, h.hb, h.ha⟩
theorem TwoH.left (h : TwoH W w b v M came a u X) {v' : Value} {M' : List (KeyP Int)} {came' : Nat} (ho : HeapO w' b v' M' came') (hg : HG b w v w' v') : TwoH W w' b v' M' came' a u X := by
  have hal := h.rf.blk.lt
  have hul := h.rf.own
  refine ⟨ho, ⟨(hg.block a hal h.sep.ne (fun e => h.sep.va e.symm)).trans h.rf.blk, ?_, h.rf.good⟩, ⟨h.sep.ne, fun e => ?_, h.sep.ub, fun k hk hu => ?_⟩, h.hp.over h.hb h.bel hg, h.hb, h.ha⟩
  · refine ⟨h.rf.row.1, ?_⟩
    rcases h.rf.row.2 with h0 | ⟨g, cap, cur, hv, hgb, hh, x⟩
    · exact .inl h0
    · exact .inr ⟨g, cap, cur, hv, hgb, (hg.block g (lt_of_block hh) (fun e => h.sep.ub (by rw [hv, ← e]; rfl)) (fun e => h.sep.vu g e.symm (by rw [hv]; rfl))).trans hh, x⟩
  · rcases hg.own a e with h1 | h1
    · exact h.sep.va h1
    · omega
  · rcases hg.own k hk with h1 | h1
    · exact h.sep.vu k h1 hu
    · have := (hul k hu).2
      omega
theorem TwoH.right (h : TwoH W w b v M came a u X) {u' : Value} {X' : List Int} (ho : RefH w' a u' X') (hg : HG a w u w' u') : TwoH W w' b v M came a u' X' := by
  have hbl := h.hp.lt
  have hvl := h.hp.own
  refine ⟨h.hp.kept (hg.block b hbl (Ne.symm h.sep.ne) (fun e => h.sep.ub e.symm)) (fun k hk => hg.block k (hvl k hk).2 (fun e => h.sep.va (by rw [hk, e])) (fun e => h.sep.vu k hk e.symm)), ho, ⟨h.sep.ne, h.sep.va, fun e => ?_, fun k hk hu => ?_⟩, ?_, h.hb, h.ha⟩
  · rcases hg.own b e with h1 | h1
    · exact h.sep.ub h1
    · omega
  · rcases hg.own k hu with h1 | h1
    · exact h.sep.vu k hk h1
    · have := (hvl k hk).2
      omega
  · have h1 := h.bel.size
    refine ⟨hg.os.trans h.bel.os, hg.tape.trans h.bel.tape, hg.output.trans h.bel.output, Nat.le_trans h1 hg.size, fun k hk => ?_⟩
    have h2 := h.ha
    exact (hg.block k (by omega) (by omega) (fun e => by have := (h.rf.own k e.symm).1; omega)).trans (h.bel.block k hk)
theorem TwoH.few (h : TwoH W w b v M came a u X) (r : RelP M X came) : X.length ≤ 1000000 := by
  have h1 := h.hp.few
  have h2 := r.len
  omega
theorem both_peek (h : TwoH W w b v M came a u X) (r : RelP M X came) : ∃ (x : Int) (ok : Bool),
    (Calls Try.prog 15 #[.pointer (some ⟨b, 0, none⟩)] w fun e w' => e = .returned (.tuple #[.int .i64 x, .bool ok]) ∧ w' = w) ∧
    (Calls Try.prog 16 #[.pointer (some ⟨a, 0, none⟩)] w fun e w' => e = .returned (.tuple #[.int .i64 x, .bool ok]) ∧ TwoH W w' b v M came a u X) := by
  have RP := refPeek_any a u X (h.few r) w h.rf
  have hl := r.len
  cases M with
  | nil =>
    refine ⟨0, false, peekO_none b v came w h.hp, RP.mono ?_⟩
    rintro e w1 ⟨⟨x, ok, he, ⟨_, rfl, rfl⟩ | ⟨q, _, hq, _, _⟩⟩, hb⟩
    · exact ⟨he, h.below hb⟩
    · rw [List.length_nil] at hl
      omega
  | cons m M =>
    refine ⟨m.it, true, peekO_any b v m M came w h.hp, RP.mono ?_⟩
    rintro e w1 ⟨⟨x, ok, he, ⟨h0, _, _⟩ | ⟨q, hf, hq, hx, hok⟩⟩, hb⟩
    · rw [h0] at hl
      simp at hl
    · have := (r.pop hf hq).1
      rw [hx, this, hok] at he
      exact ⟨he, h.below hb⟩
theorem both_pop (h : TwoH W w b v M came a u X) (r : RelP M X came) : ∃ (x : Int) (ok : Bool) (M' : List (KeyP Int)),
    (Calls Try.prog 11 #[.pointer (some ⟨b, 0, none⟩)] w fun e w' => e = .returned (.tuple #[.int .i64 x, .bool ok]) ∧ ∃ v', TwoH W w' b v' M' came a u X) ∧
    (∀ (w1 : World) (v1 : Value), TwoH W w1 b v1 M' came a u X → Calls Try.prog 12 #[.pointer (some ⟨a, 0, none⟩)] w1 fun e w' => e = .returned (.tuple #[.int .i64 x, .bool ok]) ∧ ∃ u' Y, TwoH W w' b v1 M' came a u' Y ∧ RelP M' Y came) := by
  have hX := h.few r
  have hl := r.len
  cases M with
  | nil =>
    refine ⟨0, false, [], (popO_none b v came w h.hp).mono ?_, fun w1 v1 h1 => (refPop_any a u X hX w1 h1.rf).mono ?_⟩
    · rintro e w1 ⟨he, rfl⟩
      exact ⟨he, v, h⟩
    · rintro e w2 ⟨x, ok, Y, u', he, hr, hg, ⟨h0, rfl, rfl, rfl⟩ | ⟨q, _, hq, _⟩⟩
      · exact ⟨he, u', [], h1.right hr hg, RelP.nil _⟩
      · rw [List.length_nil] at hl
        omega
  | cons m M =>
    refine ⟨m.it, true, M, (popO_any b v m M came w h.hp).mono ?_, fun w1 v1 h1 => (refPop_any a u X hX w1 h1.rf).mono ?_⟩
    · rintro e w1 ⟨he, v', ho, hg⟩
      exact ⟨he, v', h.left ho hg⟩
    · rintro e w2 ⟨x, ok, Y, u', he, hr, hg, ⟨h0, _⟩ | ⟨q, hf, hq, hx, hok, rfl⟩⟩
      · rw [h0] at hl
        simp at hl
      · obtain ⟨e1, e2⟩ := r.pop hf hq
        rw [hx, e1, hok] at he
        exact ⟨he, u', _, h1.right hr hg, e2⟩
/-- the document's heap popped, where the heap's has been drained up to here -/
theorem ref_next {m : KeyP Int} {M0 : List (KeyP Int)} (h : TwoH W w b v M0 came a u X) (hX : X.length ≤ 1000000) (r : RelP (m :: M) X came) :
    Calls Try.prog 12 #[.pointer (some ⟨a, 0, none⟩)] w fun e w' => e = .returned (.tuple #[.int .i64 m.it, .bool true]) ∧ ∃ u' Y, TwoH W w' b v M0 came a u' Y ∧ RelP M Y came ∧ HG a w u w' u' := by
  have hl := r.len
  refine (refPop_any a u X hX w h.rf).mono ?_
  rintro e w2 ⟨x, ok, Y, u', he, hr, hg, ⟨h0, _⟩ | ⟨q, hf, hq, hx, hok, rfl⟩⟩
  · rw [h0] at hl
    simp at hl
  · obtain ⟨e1, e2⟩ := r.pop hf hq
    rw [hx, e1, hok] at he
    exact ⟨he, u', _, h.right hr hg, e2, hg⟩
theorem ref_done {M0 : List (KeyP Int)} (h : TwoH W w b v M0 came a u X) (r : RelP [] X came) :
    Calls Try.prog 12 #[.pointer (some ⟨a, 0, none⟩)] w fun e w' => e = .returned (.tuple #[.int .i64 0, .bool false]) ∧ ∃ u', TwoH W w' b v M0 came a u' [] := by
  have hl := r.len
  refine (refPop_any a u X (by simp at hl; omega) w h.rf).mono ?_
  rintro e w2 ⟨x, ok, Y, u', he, hr, hg, ⟨h0, rfl, rfl, rfl⟩ | ⟨q, hf, hq, _⟩⟩
  · exact ⟨he, u', h.right hr hg⟩
  · rw [List.length_nil] at hl
    omega
theorem both_push (h : TwoH W w b v M came a u X) (r : RelP M X came) (A : Option Addr) (n c : Nat) (xs : List Int) (hx : Ints .i64 W A n xs) (hnil : A = none → c = 0) (hn : came + n ≤ 1000000) :
    (Calls Try.prog 14 #[.pointer (some ⟨b, 0, none⟩), .slice A n c] w fun e w' => e = .returned (.tuple #[]) ∧ ∃ v', TwoH W w' b v' (putP tenK came xs M) (came + n) a u X) ∧
    (∀ (w1 : World) (v1 : Value), TwoH W w1 b v1 (putP tenK came xs M) (came + n) a u X → Calls Try.prog 10 #[.pointer (some ⟨a, 0, none⟩), .slice A n c] w1 fun e w' => e = .returned (.tuple #[]) ∧ ∃ u' Y, TwoH W w' b v1 (putP tenK came xs M) (came + n) a u' Y ∧ RelP (putP tenK came xs M) Y (came + n)) := by
  have hX := h.few r
  refine ⟨(pushO_any b v M came A n c xs hx.1 hn w h.hp (IntsA.old_ hx h.bel h.hb (fun k hk => (h.hp.own k hk).1))).mono ?_, fun w1 v1 h1 => (refPush_any a u X A n c xs hX (by omega) hnil w1 h1.rf (hx.below h1.bel)).mono ?_⟩
  · rintro e w1 ⟨he, v', ho, hg⟩
    exact ⟨he, v', h.left ho hg⟩
  · rintro e w2 ⟨he, u', hr, hg⟩
    refine ⟨he, u', _, h1.right hr hg, ?_⟩
    have := r.push xs
    rwa [hx.1] at this
end
end Go.Proofs.Ytlicnijhmncoeaa
