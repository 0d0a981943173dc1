-- shaken
import Derived.Test.YtepokdmkdnlbfaaGreatDoorNfaPure
import Derived.Test.YtepokdmkdnlbfaaGreatDoorRexCat
import Derived.Deep.AppendLies
import Derived.Lib.SliceRun
import Derived.Laws.MakeOwn
import Derived.Test.YtepokdmkdnlbfaaGreatDoorMem
namespace Go.Proofs.YtepokdmkdnlbfaaGreatDoor
open Go.RowKit
set_option linter.unusedVariables false
set_option linter.unusedSimpArgs false
theorem infoState : (Tryz.prog.info? 141).map (fun i => (i.zero, i.size, i.bytes)) = some (some (.agg #[.int .i64 0, .int .u64 0, .int .u64 0, .int .u64 0, .int .u64 0, .int .i64 0, .int .i64 0]), 7, 56) := by kernel_rfl
def stV (x : St) : List Value := [.int .i64 (x.kind : Nat), .int .u64 (word x.set 0 : Nat), .int .u64 (word x.set 1 : Nat), .int .u64 (word x.set 2 : Nat), .int .u64 (word x.set 3 : Nat), .int .i64 (x.next : Nat), .int .i64 (x.other : Nat)]
theorem stV_len (x : St) : (stV x).length = 7 := rfl
theorem stV_one (x : St) : ∀ u ∈ stV x, u.oneCell' = true := by
  intro u hu
  simp [stV] at hu
  rcases hu with rfl | rfl | rfl | rfl | rfl | rfl | rfl <;> rfl
theorem blk_ne {w : World} {a b : Nat} {t u : TypeId} {cs ds : Array Value} (h : Blk w a t cs) (k : Blk w b u ds) (hne : t ≠ u) : a ≠ b := by
  rintro rfl
  unfold Blk at h k
  rw [h] at k
  injection k with k
  injection k with _ k _
  exact hne k
theorem own_blk {w : World} {B e size n : Nat} {v : Value} {xs : List Value} (h : w.ownsRow B e size v n xs) {g : Nat} (hg : v.ownBlock = some g) : ∃ cur, Blk w g e cur := by
  rcases h.2 with ⟨rfl, _⟩ | ⟨g2, cap, cur, rfl, _, hh, _⟩
  · cases hg
  · have e2 : g2 = g := by simpa [Value.ownBlock] using hg
    subst e2
    exact ⟨cur, hh⟩
structure KG (S : Nat → Prop) (w : World) (v : Value) (w' : World) (v' : Value) : Prop where
  os : w'.os = w.os
  tape : w'.tape = w.tape
  output : w'.output = w.output
  size : w.heap.size ≤ w'.heap.size
  block : ∀ k, k < w.heap.size → ¬ S k → some k ≠ v.ownBlock → w'.heap[k]? = w.heap[k]?
  own : ∀ k, v'.ownBlock = some k → v.ownBlock = some k ∨ w.heap.size ≤ k
theorem KG.refl (S : Nat → Prop) (w : World) (v : Value) : KG S w v w v := ⟨rfl, rfl, rfl, Nat.le_refl _, fun _ _ _ _ => rfl, fun k h => .inl h⟩
theorem KG.trans {S : Nat → Prop} {w1 w2 w3 : World} {v1 v2 v3 : Value} (h : KG S w1 v1 w2 v2) (k : KG S w2 v2 w3 v3) : KG S w1 v1 w3 v3 :=
  ⟨k.os.trans h.os, k.tape.trans h.tape, k.output.trans h.output, Nat.le_trans h.size k.size, fun i hi hb hv => by
    have h2 : some i ≠ v2.ownBlock := fun e => by
      rcases h.own i e.symm with h3 | h3
      · exact hv h3.symm
      · omega
    exact (k.block i (Nat.lt_of_lt_of_le hi h.size) hb h2).trans (h.block i hi hb hv), fun i hi => by
    rcases k.own i hi with h3 | h3
    · exact h.own i h3
    · exact .inr (Nat.le_trans h.size h3)⟩
theorem KG.of_below {S : Nat → Prop} {w w' : World} {v : Value} (h : Below w.heap.size w w') : KG S w v w' v := ⟨h.os, h.tape, h.output, h.size, fun k hk _ _ => h.block k hk, fun k h => .inl h⟩
theorem KG.below {S : Nat → Prop} {w w1 w' : World} {v v' : Value} (h : KG S w v w1 v') (k : Below w1.heap.size w1 w') : KG S w v w' v' := h.trans (.of_below k)
theorem KG.alloc {S : Nat → Prop} {w w1 : World} {v v1 : Value} (h : KG S w v w1 v1) (o : Obj) : KG S w v (w1.alloc o) v1 := h.below ((Below.refl _ _).alloc (Nat.le_refl _) o)
theorem KG.drewN {S : Nat → Prop} {w w1 : World} {v v1 : Value} (h : KG S w v w1 v1) (n : Nat) : KG S w v (w1.drewN n) v1 := ⟨h.os, h.tape, h.output, h.size, h.block, h.own⟩
theorem KG.set {S : Nat → Prop} {w w1 : World} {v v1 : Value} (h : KG S w v w1 v1) {p : Addr} (hp : S p.block) (u : Value) : KG S w v (w1.setCell p u) v1 :=
  ⟨h.os, h.tape, h.output, by rw [World.size_setCell]; exact h.size, fun k hk hs hv => (Below.heap_setCell w1 p u k (fun e => hs (by rw [e]; exact hp))).trans (h.block k hk hs hv), h.own⟩
theorem KG.grown {S : Nat → Prop} {w w1 w2 : World} {v v1 v2 : Value} (h : KG S w v w1 v1) (g : w1.grownBy w2 v1.ownBlock) (hv : ∀ k, v2.ownBlock = some k → v1.ownBlock = some k ∨ w1.heap.size ≤ k) : KG S w v w2 v2 :=
  h.trans ⟨g.os, g.tape, g.output, g.size, fun k hk _ hk2 => g.block k hk hk2, hv⟩
theorem KG.kept {S : Nat → Prop} {w w' : World} {v v' : Value} (h : KG S w v w' v') {g : Nat} {t : TypeId} {cs : Array Value} (hb : Blk w g t cs) (hs : ¬ S g) (hv : some g ≠ v.ownBlock) : Blk w' g t cs := (h.block g hb.lt hs hv).trans hb
theorem KG.row {S : Nat → Prop} {w w' : World} {v v' u : Value} {B e s n : Nat} {xs : List Value} (h : KG S w v w' v') (ho : w.ownsRow B e s u n xs) (hs : ∀ k, u.ownBlock = some k → ¬ S k ∧ some k ≠ v.ownBlock) : w'.ownsRow B e s u n xs := by
  refine ⟨ho.1, ?_⟩
  rcases ho.2 with h0 | ⟨g, cap, cur, rfl, hg, hh, x⟩
  · exact .inl h0
  · obtain ⟨a, b⟩ := hs g rfl
    exact .inr ⟨g, cap, cur, rfl, hg, (h.block g (lt_of_block hh) a b).trans hh, x⟩
theorem KG.over {S : Nat → Prop} {w w' W : World} {v v' : Value} {B : Nat} (hb : Below B W w) (hB : B ≤ W.heap.size) (hg : KG S w v w' v') (hS : ∀ k, S k → B ≤ k) (hv : ∀ k, v.ownBlock = some k → B ≤ k) : Below B W w' :=
  ⟨hg.os.trans hb.os, hg.tape.trans hb.tape, hg.output.trans hb.output, Nat.le_trans hb.size hg.size, fun k hk =>
    (hg.block k (Nat.lt_of_lt_of_le (Nat.lt_of_lt_of_le hk hB) hb.size) (fun e => by have := hS k e; omega) (fun e => by have := hv k e.symm; omega)).trans (hb.block k hk)⟩
structure PG (base : Nat) (w : World) (b : Nat) (v y1 y2 y3 : Value) (Q : List St) : Prop where
  blk : Blk w b 136 #[v, y1, y2, y3]
  row : OwnR stV 7 w base 141 v Q
theorem PG.nb {base : Nat} {w : World} {b : Nat} {v y1 y2 y3 : Value} {Q : List St} (h : PG base w b v y1 y2 y3 Q) : v.ownBlock ≠ some b := fun e => by
  obtain ⟨cur, hc⟩ := own_blk h.row e
  exact blk_ne h.blk hc (by decide) rfl
theorem PG.below {base : Nat} {w w' : World} {b : Nat} {v y1 y2 y3 : Value} {Q : List St} (h : PG base w b v y1 y2 y3 Q) (hb : Below w.heap.size w w') : PG base w' b v y1 y2 y3 Q :=
  ⟨h.blk.below hb h.blk.lt, OwnR.below h.row hb⟩
theorem PG.lt {base : Nat} {w : World} {b : Nat} {v y1 y2 y3 : Value} {Q : List St} (h : PG base w b v y1 y2 y3 Q) : b < w.heap.size := h.blk.lt
set_option maxHeartbeats 1600000 in
set_option maxRecDepth 100000 in
theorem nfaAdd_any (base b : Nat) (v y1 y2 y3 : Value) (Q : List St) (x : St) (a : Addr) (c : Nat) (W : World) (hP : PG base W b v y1 y2 y3 Q) (hR : ∀ (j : Nat) (u : Value), (stV x)[j]? = some u → W.cell? (a.add j) = some u) (hq : Q.length ≤ 1000000) (hB : base ≤ W.heap.size) :
    Calls Tryz.prog 69 #[.pointer (some ⟨b, 0, none⟩), .slice (some a) 1 c] W fun e w' => ∃ v', e = .returned (.int .i64 (Q.length : Nat)) ∧ PG base w' b v' y1 y2 y3 (Q ++ [x]) ∧ KG (fun k => k = b) W v w' v' := by
  obtain ⟨i0, hi, hz0, hz1, hz2⟩ := info_parts infoState
  have HR := Lib.hid hR
  have HO := Lib.hid hP.row
  have HK := Lib.hid hP.blk
  have HN := Lib.hid hP.nb
  obtain ⟨A, cap, rfl⟩ := own_shape hP.row
  have c0 := hP.blk.cell 0
  have f0 := hP.blk.frozen 0
  clear hR hP
  go_enter Tryz.func69, Tryz.ntmps69
  go_wp2_with (at_builtin; refine wpList_append_lies _ rfl (.tmp 15) (.tmp 16) 132 rfl base 141 i0 (.agg #[.int .i64 0, .int .u64 0, .int .u64 0, .int .u64 0, .int .u64 0, .int .i64 0, .int .i64 0]) 7 56 Tryz.underlying132 hi hz0 hz1 hz2 rfl (by decide) _ _ _ rfl HO.out a 1 c (stV x) rfl rfl HR.out (stV_one x) (by decide) (by unfold maxLen; omega) (by omega) hB _ rfl ?_)
  intro g cap1 w1 hown hgrow hat hlt
  have hb1 : Blk w1 b 136 #[.slice A Q.length cap, y1, y2, y3] := (hgrow.block b HK.out.lt (fun e => HN.out e.symm)).trans HK.out
  have d0 := hb1.frozen 0
  have e0 := hb1.cell 0
  have HP := Lib.hid (show PG base (w1.setCell ⟨b, 0, none⟩ (.slice (some ⟨g, 0, none⟩) (Q.length + 1) cap1)) b (.slice (some ⟨g, 0, none⟩) (Q.length + 1) cap1) y1 y2 y3 (Q ++ [x]) from ⟨hb1.set_ 0 _, by
    have hne : b ≠ g := by
      rcases hat with h1 | h1
      · exact fun e => HN.out (by rw [h1, e])
      · have := HK.out.lt; omega
    refine OwnR.snoc (l := Q) ?_
    refine ⟨hown.1, ?_⟩
    rcases hown.2 with h0 | ⟨g2, cap2, cur, hv, hg, hh, xx⟩
    · exact .inl h0
    · refine .inr ⟨g2, cap2, cur, hv, hg, ?_, xx⟩
      have e2 : g = g2 := by injection hv with hv; injection hv with hv; injection hv
      subst e2
      exact (Below.heap_setCell w1 ⟨b, 0, none⟩ _ g (fun e => hne e.symm)).trans hh⟩)
  have HKG := Lib.hid (show KG (fun k => k = b) W (.slice A Q.length cap) (w1.setCell ⟨b, 0, none⟩ (.slice (some ⟨g, 0, none⟩) (Q.length + 1) cap1)) (.slice (some ⟨g, 0, none⟩) (Q.length + 1) cap1) from
    KG.set (S := fun k => k = b) (p := ⟨b, 0, none⟩) (KG.grown (v2 := .slice (some ⟨g, 0, none⟩) (Q.length + 1) cap1) (KG.refl _ _ _) hgrow (fun k hk => by
      have e2 : g = k := by simpa [Value.ownBlock] using hk
      subst e2
      rcases hat with h1 | h1
      · exact .inl h1
      · exact .inr (by omega))) rfl _)
  clear hown hgrow hat hb1
  go_wp2
  go_ret
  exact ⟨_, rfl, HP.out, HKG.out⟩
set_option maxHeartbeats 1600000 in
theorem nfaAt_any (b g off n c k : Nat) (y1 y2 y3 : Value) (W : World) (hb : Blk W b 136 #[.slice (some ⟨g, off, none⟩) n c, y1, y2, y3]) (hk : k < n) (hn : n ≤ 1000000) :
    Calls Tryz.prog 98 #[.pointer (some ⟨b, 0, none⟩), .int .i64 (k : Nat)] W fun e w' => e = .returned (.pointer (some ⟨g, off + k * 7, none⟩)) ∧ W = w' := by
  have c0 := hb.cell 0
  clear hb
  have hI : (k : Int) < n := by omega
  go_enter Tryz.func98, Tryz.ntmps98
  go_wp2
  go_ret
  exact ⟨rfl, rfl⟩
def Apart2 (fb sb : Nat) (v : Value) (gb tb : Nat) (u : Value) : Prop := fb ≠ gb ∧ sb ≠ tb ∧ ∀ k, v.ownBlock = some k → u.ownBlock ≠ some k
theorem Apart2.symm {fb sb gb tb : Nat} {v u : Value} (h : Apart2 fb sb v gb tb u) : Apart2 gb tb u fb sb v := ⟨h.1.symm, h.2.1.symm, fun k hk e => h.2.2 k e hk⟩
theorem KG.any {S : Nat → Prop} {w w' : World} (h : KG S w (.slice none 0 0) w' (.slice none 0 0)) (v v' : Value) (hv : ∀ k, v'.ownBlock = some k → v.ownBlock = some k) : KG S w v w' v' :=
  ⟨h.os, h.tape, h.output, h.size, fun k hk hs _ => h.block k hk hs (fun e => by cases e), fun k hk => .inl (hv k hk)⟩
theorem PG.cells {base : Nat} {w : World} {b : Nat} {v y1 y2 y3 : Value} {T : List St} (h : PG base w b v y1 y2 y3 T) {q : Nat} {x : St} (hx : T[q]? = some x) :
    ∃ g cap, v = .slice (some ⟨g, 0, none⟩) T.length cap ∧ w.cell? ⟨g, q * 7, none⟩ = some (.int .i64 (x.kind : Nat)) ∧ w.cell? ⟨g, q * 7 + 1, none⟩ = some (.int .u64 (word x.set 0 : Nat)) ∧ w.cell? ⟨g, q * 7 + 2, none⟩ = some (.int .u64 (word x.set 1 : Nat)) ∧ w.cell? ⟨g, q * 7 + 3, none⟩ = some (.int .u64 (word x.set 2 : Nat)) ∧ w.cell? ⟨g, q * 7 + 4, none⟩ = some (.int .u64 (word x.set 3 : Nat)) ∧ w.cell? ⟨g, q * 7 + 5, none⟩ = some (.int .i64 (x.next : Nat)) ∧ w.cell? ⟨g, q * 7 + 6, none⟩ = some (.int .i64 (x.other : Nat)) := by
  have hq : q < T.length := (List.getElem?_eq_some_iff.1 hx).1
  obtain ⟨g, cap, e, _, _, _, hc⟩ := OwnR.at_ stV_len h.row (by omega)
  refine ⟨g, cap, e, hc q 0 x hx (by decide), hc q 1 x hx (by decide), hc q 2 x hx (by decide), hc q 3 x hx (by decide), hc q 4 x hx (by decide), hc q 5 x hx (by decide), hc q 6 x hx (by decide)⟩
end Go.Proofs.YtepokdmkdnlbfaaGreatDoor
