-- shaken
import Derived.Test.YtbkpoimaienhpaaGreatDoorNfaPure
import Derived.Test.YtbkpoimaienhpaaGreatDoorRexCat
import Derived.Deep.AppendLies
import Derived.Lib.SliceRun
import Derived.Laws.MakeOwn
import Derived.Test.YtbkpoimaienhpaaGreatDoorMem
namespace Go.Proofs.YtbkpoimaienhpaaGreatDoor
open Go.RowKit
set_option linter.unusedVariables false
set_option linter.unusedSimpArgs false
theorem infoState : (Tryz.prog.info? 131).map (fun i => (i.zero, i.size, i.bytes)) = some (some (.agg #[.int .i64 0, .int .u64 0, .int .u64 0, .int .u64 0, .int .u64 0, .int .i64 0, .int .i64 0]), 7, 56) := by kernel_rfl
theorem infoInt : (Tryz.prog.info? 3).map (fun i => (i.zero, i.size, i.bytes)) = some (some (.int .i64 0), 1, 8) := by kernel_rfl
def stV (x : St) : List Value := [.int .i64 (x.kind : Nat), .int .u64 (word x.set 0 : Nat), .int .u64 (word x.set 1 : Nat), .int .u64 (word x.set 2 : Nat), .int .u64 (word x.set 3 : Nat), .int .i64 (x.next : Nat), .int .i64 (x.other : Nat)]
theorem stV_len (x : St) : (stV x).length = 7 := rfl
theorem stV_one (x : St) : ∀ u ∈ stV x, u.oneCell' = true := by
  intro u hu
  simp [stV] at hu
  rcases hu with rfl | rfl | rfl | rfl | rfl | rfl | rfl <;> rfl
def placeV (n : Nat) : List Value := [.int .i64 (n : Nat)]
theorem placeV_len (n : Nat) : (placeV n).length = 1 := rfl
theorem placeV_one (n : Nat) : ∀ u ∈ placeV n, u.oneCell' = true := by
  intro u hu
  simp [placeV] at hu
  rcases hu with rfl
  rfl
theorem blk_ne {w : World} {a b : Nat} {t u : TypeId} {cs ds : Array Value} (h : Blk w a t cs) (k : Blk w b u ds) (hne : t ≠ u) : a ≠ b := by
  rintro rfl
  unfold Blk at h k
  rw [h] at k
  injection k with k
  injection k with _ k _
  exact hne k
theorem own_blk {w : World} {B e size n : Nat} {v : Value} {xs : List Value} (h : w.ownsRow B e size v n xs) {g : Nat} (hg : v.ownBlock = some g) : ∃ cur, Blk w g e cur := by
  rcases h.2 with ⟨rfl, _⟩ | ⟨g2, cap, cur, rfl, _, hh, _⟩
  · cases hg
  · have e2 : g2 = g := by simpa [Value.ownBlock] using hg
    subst e2
    exact ⟨cur, hh⟩
structure KG (S : Nat → Prop) (w : World) (v : Value) (w' : World) (v' : Value) : Prop where
  os : w'.os = w.os
  tape : w'.tape = w.tape
  output : w'.output = w.output
  size : w.heap.size ≤ w'.heap.size
  block : ∀ k, k < w.heap.size → ¬ S k → some k ≠ v.ownBlock → w'.heap[k]? = w.heap[k]?
  own : ∀ k, v'.ownBlock = some k → v.ownBlock = some k ∨ w.heap.size ≤ k
theorem KG.refl (S : Nat → Prop) (w : World) (v : Value) : KG S w v w v := ⟨rfl, rfl, rfl, Nat.le_refl _, fun _ _ _ _ => rfl, fun k h => .inl h⟩
theorem KG.trans {S : Nat → Prop} {w1 w2 w3 : World} {v1 v2 v3 : Value} (h : KG S w1 v1 w2 v2) (k : KG S w2 v2 w3 v3) : KG S w1 v1 w3 v3 :=
  ⟨k.os.trans h.os, k.tape.trans h.tape, k.output.trans h.output, Nat.le_trans h.size k.size, fun i hi hb hv => by
    have h2 : some i ≠ v2.ownBlock := fun e => by
      rcases h.own i e.symm with h3 | h3
      · exact hv h3.symm
      · omega
    exact (k.block i (Nat.lt_of_lt_of_le hi h.size) hb h2).trans (h.block i hi hb hv), fun i hi => by
    rcases k.own i hi with h3 | h3
    · exact h.own i h3
    · exact .inr (Nat.le_trans h.size h3)⟩
theorem KG.of_below {S : Nat → Prop} {w w' : World} {v : Value} (h : Below w.heap.size w w') : KG S w v w' v := ⟨h.os, h.tape, h.output, h.size, fun k hk _ _ => h.block k hk, fun k h => .inl h⟩
theorem KG.below {S : Nat → Prop} {w w1 w' : World} {v v' : Value} (h : KG S w v w1 v') (k : Below w1.heap.size w1 w') : KG S w v w' v' := h.trans (.of_below k)
theorem KG.alloc {S : Nat → Prop} {w w1 : World} {v v1 : Value} (h : KG S w v w1 v1) (o : Obj) : KG S w v (w1.alloc o) v1 := h.below ((Below.refl _ _).alloc (Nat.le_refl _) o)
theorem KG.drewN {S : Nat → Prop} {w w1 : World} {v v1 : Value} (h : KG S w v w1 v1) (n : Nat) : KG S w v (w1.drewN n) v1 := ⟨h.os, h.tape, h.output, h.size, h.block, h.own⟩
theorem KG.set {S : Nat → Prop} {w w1 : World} {v v1 : Value} (h : KG S w v w1 v1) {p : Addr} (hp : S p.block) (u : Value) : KG S w v (w1.setCell p u) v1 :=
  ⟨h.os, h.tape, h.output, by rw [World.size_setCell]; exact h.size, fun k hk hs hv => (Below.heap_setCell w1 p u k (fun e => hs (by rw [e]; exact hp))).trans (h.block k hk hs hv), h.own⟩
theorem KG.grown {S : Nat → Prop} {w w1 w2 : World} {v v1 v2 : Value} (h : KG S w v w1 v1) (g : w1.grownBy w2 v1.ownBlock) (hv : ∀ k, v2.ownBlock = some k → v1.ownBlock = some k ∨ w1.heap.size ≤ k) : KG S w v w2 v2 :=
  h.trans ⟨g.os, g.tape, g.output, g.size, fun k hk _ hk2 => g.block k hk hk2, hv⟩
theorem KG.kept {S : Nat → Prop} {w w' : World} {v v' : Value} (h : KG S w v w' v') {g : Nat} {t : TypeId} {cs : Array Value} (hb : Blk w g t cs) (hs : ¬ S g) (hv : some g ≠ v.ownBlock) : Blk w' g t cs := (h.block g hb.lt hs hv).trans hb
theorem KG.row {S : Nat → Prop} {w w' : World} {v v' u : Value} {B e s n : Nat} {xs : List Value} (h : KG S w v w' v') (ho : w.ownsRow B e s u n xs) (hs : ∀ k, u.ownBlock = some k → ¬ S k ∧ some k ≠ v.ownBlock) : w'.ownsRow B e s u n xs := by
  refine ⟨ho.1, ?_⟩
  rcases ho.2 with h0 | ⟨g, cap, cur, rfl, hg, hh, x⟩
  · exact .inl h0
  · obtain ⟨a, b⟩ := hs g rfl
    exact .inr ⟨g, cap, cur, rfl, hg, (h.block g (lt_of_block hh) a b).trans hh, x⟩
theorem KG.over {S : Nat → Prop} {w w' W : World} {v v' : Value} {B : Nat} (hb : Below B W w) (hB : B ≤ W.heap.size) (hg : KG S w v w' v') (hS : ∀ k, S k → B ≤ k) (hv : ∀ k, v.ownBlock = some k → B ≤ k) : Below B W w' :=
  ⟨hg.os.trans hb.os, hg.tape.trans hb.tape, hg.output.trans hb.output, Nat.le_trans hb.size hg.size, fun k hk =>
    (hg.block k (Nat.lt_of_lt_of_le (Nat.lt_of_lt_of_le hk hB) hb.size) (fun e => by have := hS k e; omega) (fun e => by have := hv k e.symm; omega)).trans (hb.block k hk)⟩
structure PG (base : Nat) (w : World) (b : Nat) (v y1 y2 y3 : Value) (Q : List St) : Prop where
  blk : Blk w b 110 #[v, y1, y2, y3]
  row : OwnR stV 7 w base 131 v Q
theorem PG.nb {base : Nat} {w : World} {b : Nat} {v y1 y2 y3 : Value} {Q : List St} (h : PG base w b v y1 y2 y3 Q) : v.ownBlock ≠ some b := fun e => by
  obtain ⟨cur, hc⟩ := own_blk h.row e
  exact blk_ne h.blk hc (by decide) rfl
theorem PG.below {base : Nat} {w w' : World} {b : Nat} {v y1 y2 y3 : Value} {Q : List St} (h : PG base w b v y1 y2 y3 Q) (hb : Below w.heap.size w w') : PG base w' b v y1 y2 y3 Q :=
  ⟨h.blk.below hb h.blk.lt, OwnR.below h.row hb⟩
theorem PG.lt {base : Nat} {w : World} {b : Nat} {v y1 y2 y3 : Value} {Q : List St} (h : PG base w b v y1 y2 y3 Q) : b < w.heap.size := h.blk.lt
set_option maxHeartbeats 1600000 in
set_option maxRecDepth 100000 in
theorem nfaAdd_any (base b : Nat) (v y1 y2 y3 : Value) (Q : List St) (x : St) (a : Addr) (c : Nat) (W : World) (hP : PG base W b v y1 y2 y3 Q) (hR : ∀ (j : Nat) (u : Value), (stV x)[j]? = some u → W.cell? (a.add j) = some u) (hq : Q.length ≤ 1000000) (hB : base ≤ W.heap.size) :
    Calls Tryz.prog 61 #[.pointer (some ⟨b, 0, none⟩), .slice (some a) 1 c] W fun e w' => ∃ v', e = .returned (.int .i64 (Q.length : Nat)) ∧ PG base w' b v' y1 y2 y3 (Q ++ [x]) ∧ KG (fun k => k = b) W v w' v' := by
  obtain ⟨i0, hi, hz0, hz1, hz2⟩ := info_parts infoState
  have HR := Lib.hid hR
  have HO := Lib.hid hP.row
  have HK := Lib.hid hP.blk
  have HN := Lib.hid hP.nb
  obtain ⟨A, cap, rfl⟩ := own_shape hP.row
  have c0 := hP.blk.cell 0
  have f0 := hP.blk.frozen 0
  clear hR hP
  go_enter Tryz.func61, Tryz.ntmps61
  go_wp2_with (at_builtin; refine wpList_append_lies _ rfl (.tmp 15) (.tmp 16) 106 rfl base 131 i0 (.agg #[.int .i64 0, .int .u64 0, .int .u64 0, .int .u64 0, .int .u64 0, .int .i64 0, .int .i64 0]) 7 56 Tryz.underlying106 hi hz0 hz1 hz2 rfl (by decide) _ _ _ rfl HO.out a 1 c (stV x) rfl rfl HR.out (stV_one x) (by decide) (by unfold maxLen; omega) (by omega) hB _ rfl ?_)
  intro g cap1 w1 hown hgrow hat hlt
  have hb1 : Blk w1 b 110 #[.slice A Q.length cap, y1, y2, y3] := (hgrow.block b HK.out.lt (fun e => HN.out e.symm)).trans HK.out
  have d0 := hb1.frozen 0
  have e0 := hb1.cell 0
  have HP := Lib.hid (show PG base (w1.setCell ⟨b, 0, none⟩ (.slice (some ⟨g, 0, none⟩) (Q.length + 1) cap1)) b (.slice (some ⟨g, 0, none⟩) (Q.length + 1) cap1) y1 y2 y3 (Q ++ [x]) from ⟨hb1.set_ 0 _, by
    have hne : b ≠ g := by
      rcases hat with h1 | h1
      · exact fun e => HN.out (by rw [h1, e])
      · have := HK.out.lt; omega
    refine OwnR.snoc (l := Q) ?_
    refine ⟨hown.1, ?_⟩
    rcases hown.2 with h0 | ⟨g2, cap2, cur, hv, hg, hh, xx⟩
    · exact .inl h0
    · refine .inr ⟨g2, cap2, cur, hv, hg, ?_, xx⟩
      have e2 : g = g2 := by injection hv with hv; injection hv with hv; injection hv
      subst e2
      exact (Below.heap_setCell w1 ⟨b, 0, none⟩ _ g (fun e => hne e.symm)).trans hh⟩)
  have HKG := Lib.hid (show KG (fun k => k = b) W (.slice A Q.length cap) (w1.setCell ⟨b, 0, none⟩ (.slice (some ⟨g, 0, none⟩) (Q.length + 1) cap1)) (.slice (some ⟨g, 0, none⟩) (Q.length + 1) cap1) from
    KG.set (S := fun k => k = b) (p := ⟨b, 0, none⟩) (KG.grown (v2 := .slice (some ⟨g, 0, none⟩) (Q.length + 1) cap1) (KG.refl _ _ _) hgrow (fun k hk => by
      have e2 : g = k := by simpa [Value.ownBlock] using hk
      subst e2
      rcases hat with h1 | h1
      · exact .inl h1
      · exact .inr (by omega))) rfl _)
  clear hown hgrow hat hb1
  go_wp2
  go_ret
  exact ⟨_, rfl, HP.out, HKG.out⟩
set_option maxHeartbeats 1600000 in
theorem nfaAt_any (b g off n c k : Nat) (y1 y2 y3 : Value) (W : World) (hb : Blk W b 110 #[.slice (some ⟨g, off, none⟩) n c, y1, y2, y3]) (hk : k < n) (hn : n ≤ 1000000) :
    Calls Tryz.prog 66 #[.pointer (some ⟨b, 0, none⟩), .int .i64 (k : Nat)] W fun e w' => e = .returned (.pointer (some ⟨g, off + k * 7, none⟩)) ∧ W = w' := by
  have c0 := hb.cell 0
  clear hb
  have hI : (k : Int) < n := by omega
  go_enter Tryz.func66, Tryz.ntmps66
  go_wp2
  go_ret
  exact ⟨rfl, rfl⟩
set_option maxHeartbeats 1600000 in
theorem nfaMany_any (b n c : Nat) (A : Option Addr) (y1 y2 y3 : Value) (W : World) (hb : Blk W b 110 #[.slice A n c, y1, y2, y3]) :
    Calls Tryz.prog 49 #[.pointer (some ⟨b, 0, none⟩)] W fun e w' => e = .returned (.int .i64 (n : Nat)) ∧ W = w' := by
  have c0 := hb.cell 0
  clear hb
  go_enter Tryz.func49, Tryz.ntmps49
  go_wp2
  go_ret
  exact ⟨rfl, rfl⟩
def seenC (l : List Bool) : Array Value := (l.map Value.bool).toArray
theorem seenC_at {l : List Bool} {i : Nat} {x : Bool} (h : l[i]? = some x) : (seenC l)[i]? = some (.bool x) := by simp [seenC, h]
theorem seenC_set (l : List Bool) (i : Nat) (x : Bool) : (seenC l).setIfInBounds i (.bool x) = seenC (l.set i x) := by
  apply Array.toList_inj.1
  simp [seenC, List.map_set]
structure FrG (base : Nat) (w : World) (fb sb : Nat) (v : Value) (f : Fr) : Prop where
  blk : Blk w fb 115 #[v, .slice (some ⟨sb, 0, none⟩) f.seen.length f.seen.length, .bool f.matched]
  seen : Blk w sb 4 (seenC f.seen)
  row : OwnR placeV 1 w base 3 v f.places
  lo : base ≤ fb ∧ base ≤ sb
theorem FrG.nf {base : Nat} {w : World} {fb sb : Nat} {v : Value} {f : Fr} (h : FrG base w fb sb v f) : v.ownBlock ≠ some fb ∧ v.ownBlock ≠ some sb ∧ fb ≠ sb :=
  ⟨fun e => by obtain ⟨cur, hc⟩ := own_blk h.row e; exact blk_ne h.blk hc (by decide) rfl, fun e => by obtain ⟨cur, hc⟩ := own_blk h.row e; exact blk_ne h.seen hc (by decide) rfl, blk_ne h.blk h.seen (by decide)⟩
theorem FrG.below {base : Nat} {w w' : World} {fb sb : Nat} {v : Value} {f : Fr} (h : FrG base w fb sb v f) (hb : Below w.heap.size w w') : FrG base w' fb sb v f :=
  ⟨h.blk.below hb h.blk.lt, h.seen.below hb h.seen.lt, OwnR.below h.row hb, h.lo⟩
def Apart2 (fb sb : Nat) (v : Value) (gb tb : Nat) (u : Value) : Prop := fb ≠ gb ∧ sb ≠ tb ∧ ∀ k, v.ownBlock = some k → u.ownBlock ≠ some k
theorem Apart2.symm {fb sb gb tb : Nat} {v u : Value} (h : Apart2 fb sb v gb tb u) : Apart2 gb tb u fb sb v := ⟨h.1.symm, h.2.1.symm, fun k hk e => h.2.2 k e hk⟩
theorem FrG.kept {base : Nat} {w w' : World} {fb sb gb tb : Nat} {v u u' : Value} {f g : Fr} (h : FrG base w fb sb v f) (hg : FrG base w gb tb u g) (ha : Apart2 fb sb v gb tb u) (k : KG (fun k => k = gb ∨ k = tb) w u w' u') : FrG base w' fb sb v f :=
  ⟨k.kept h.blk (fun e => by
      rcases e with e | e
      · exact ha.1 e
      · exact blk_ne h.blk hg.seen (by decide) e) (fun e => by obtain ⟨cur, hc⟩ := own_blk hg.row e.symm; exact blk_ne h.blk hc (by decide) rfl),
   k.kept h.seen (fun e => by
      rcases e with e | e
      · exact blk_ne hg.blk h.seen (by decide) e.symm
      · exact ha.2.1 e) (fun e => by obtain ⟨cur, hc⟩ := own_blk hg.row e.symm; exact blk_ne h.seen hc (by decide) rfl),
   k.row h.row (fun q hq => by
      obtain ⟨cur, hc⟩ := own_blk h.row hq
      exact ⟨fun e => by
        rcases e with rfl | rfl
        · exact blk_ne hg.blk hc (by decide) rfl
        · exact blk_ne hg.seen hc (by decide) rfl, fun e => ha.2.2 q hq e.symm⟩), h.lo⟩
theorem Apart2.kept {base : Nat} {w w' : World} {fb sb gb tb : Nat} {v u u' : Value} {f : Fr} (ha : Apart2 fb sb v gb tb u) (h : FrG base w fb sb v f) (k : KG (fun k => k = gb ∨ k = tb) w u w' u') : Apart2 fb sb v gb tb u' :=
  ⟨ha.1, ha.2.1, fun q hq e => by
    rcases k.own q e with h1 | h1
    · exact ha.2.2 q hq h1
    · have := (World.ownsRow.lt h.row q hq).2
      omega⟩
theorem PG.front {base base' : Nat} {w w' : World} {b : Nat} {v y1 y2 y3 : Value} {Q : List St} {gb tb : Nat} {u u' : Value} {g : Fr} (h : PG base' w b v y1 y2 y3 Q) (hg : FrG base w gb tb u g) (k : KG (fun k => k = gb ∨ k = tb) w u w' u') : PG base' w' b v y1 y2 y3 Q :=
  ⟨k.kept h.blk (fun e => by
      rcases e with rfl | rfl
      · exact blk_ne h.blk hg.blk (by decide) rfl
      · exact blk_ne h.blk hg.seen (by decide) rfl) (fun e => by obtain ⟨cur, hc⟩ := own_blk hg.row e.symm; exact blk_ne h.blk hc (by decide) rfl),
   k.row h.row (fun q hq => by
      obtain ⟨cur, hc⟩ := own_blk h.row hq
      exact ⟨fun e => by
        rcases e with rfl | rfl
        · exact blk_ne hg.blk hc (by decide) rfl
        · exact blk_ne hg.seen hc (by decide) rfl, fun e => by obtain ⟨cur2, hc2⟩ := own_blk hg.row e.symm; exact blk_ne hc hc2 (by decide) rfl⟩)⟩
theorem infoBool : (Tryz.prog.info? 4).map (fun i => (i.zero, i.size, i.bytes)) = some (some (.bool false), 1, 1) := by kernel_rfl
theorem made_seen (n : Nat) : madeCells #[.bool false] n = seenC (List.replicate n false) := by
  apply Array.toList_inj.1
  rw [toList_madeCells_one]
  simp [seenC]
set_option maxHeartbeats 1600000 in
theorem newFront_any (n : Nat) (hn : n ≤ 100000) (W : World) :
    Calls Tryz.prog 48 #[.int .i64 (n : Nat)] W fun e w' => e = .returned (.pointer (some ⟨W.heap.size + 1, 0, none⟩)) ∧ FrG W.heap.size w' (W.heap.size + 1) W.heap.size (.slice none 0 0) (newF n) ∧ Below W.heap.size W w' ∧ w'.heap.size = W.heap.size + 2 := by
  obtain ⟨i0, hi, hz0, hz1, hz2⟩ := info_parts infoBool
  have hmk : ∀ u : World, (Instr.makeSlice 113 (.int .i64 (n : Int)) (.int .i64 (n : Int))).run Tryz.prog u =
      .ok (.slice (some ⟨u.heap.size, 0, none⟩) n n) (u.alloc (.cells (madeCells #[.bool false] n) 4)) := fun u => by
    have h := run_make (P := Tryz.prog) u 113 4 i0 (.bool false) Tryz.underlying113 hi hz0 .i64 .i64 (n : Int) (n : Int) (by omega) (by omega) (by rw [hz2]; omega) (by omega)
    rw [Int.toNat_natCast] at h
    simpa [hz1, Value.cells] using h
  simp only [made_seen] at hmk
  have hln : (List.replicate n false).length = n := List.length_replicate
  obtain ⟨l, hl⟩ : ∃ l, List.replicate n false = l := ⟨_, rfl⟩
  have hnf : newF n = ⟨[], l, false⟩ := by unfold newF; rw [hl]
  rw [hnf]
  rw [hl] at hmk hln
  have HLN := Lib.hid hln
  clear hl hnf hln
  go_enter Tryz.func48, Tryz.ntmps48
  go_wp2
  go_ret
  have K0 := (Blk.new W 4 (seenC l)).alloc (.cells #[.slice none 0 0, .slice (some ⟨W.heap.size, 0, none⟩) n n, .bool false] 115)
  have K1 : Blk ((W.alloc (.cells (seenC l) 4)).alloc (.cells #[.slice none 0 0, .slice (some ⟨W.heap.size, 0, none⟩) n n, .bool false] 115)) (W.heap.size + 1) 115 #[.slice none 0 0, .slice (some ⟨W.heap.size, 0, none⟩) n n, .bool false] := new_at _ _ _ _ (by simp)
  refine ⟨by simp, ⟨?_, K0, OwnR.nil _ _ _, by omega⟩, ((Below.refl _ _).alloc (Nat.le_refl _) _).alloc (by simp) _, by simp⟩
  show Blk _ _ _ #[.slice none 0 0, .slice (some ⟨W.heap.size, 0, none⟩) l.length l.length, .bool false]
  rw [HLN.out]
  exact K1
theorem blk_setCells {b : Nat} {t : TypeId} : ∀ (vs rest pre : List Value) (w : World), rest.length = vs.length → Blk w b t (pre ++ rest).toArray → Blk (w.setCells b pre.length vs) b t (pre ++ vs).toArray
  | [], [], pre, w, _, h => h
  | [], r :: rest, pre, w, hl, h => absurd hl (by simp)
  | v :: vs, [], pre, w, hl, h => absurd hl (by simp)
  | v :: vs, r :: rest, pre, w, hl, h => by
    have h1 := h.set_ pre.length v
    have e : (pre ++ r :: rest).toArray.setIfInBounds pre.length v = ((pre ++ [v]) ++ rest).toArray := by
      apply Array.toList_inj.1
      simp
    rw [e] at h1
    have h2 := blk_setCells vs rest (pre ++ [v]) _ (by simpa using hl) h1
    rw [List.length_append, List.append_assoc] at h2
    exact h2
theorem KG.setCells {S : Nat → Prop} {w : World} {v v1 : Value} {b : Nat} (hS : S b) : ∀ (vs : List Value) (o : Nat) (w1 : World), KG S w v w1 v1 → KG S w v (w1.setCells b o vs) v1
  | [], o, w1, h => h
  | x :: vs, o, w1, h => KG.setCells hS vs (o + 1) _ (h.set (p := ⟨b, o, none⟩) hS x)
theorem KG.any {S : Nat → Prop} {w w' : World} (h : KG S w (.slice none 0 0) w' (.slice none 0 0)) (v v' : Value) (hv : ∀ k, v'.ownBlock = some k → v.ownBlock = some k) : KG S w v w' v' :=
  ⟨h.os, h.tape, h.output, h.size, fun k hk hs _ => h.block k hk hs (fun e => by cases e), fun k hk => .inl (hv k hk)⟩
set_option maxHeartbeats 3200000 in
set_option maxRecDepth 100000 in
theorem frClear_any (base fb sb : Nat) (v : Value) (f : Fr) (W : World) (h : FrG base W fb sb v f) (h0 : 0 < f.seen.length) :
    Calls Tryz.prog 67 #[.pointer (some ⟨fb, 0, none⟩)] W fun e w' => ∃ v', e = .returned (.tuple #[]) ∧ FrG base w' fb sb v' (newF f.seen.length) ∧ KG (fun k => k = fb ∨ k = sb) W v w' v' ∧ (∀ k, v'.ownBlock = some k → v.ownBlock = some k) := by
  obtain ⟨l, m, ok⟩ : ∃ l m, f.seen = l ∧ l.length = m := ⟨_, _, rfl, rfl⟩
  obtain ⟨hl, hm⟩ := ok
  have hK := h.blk
  have hB := h.seen
  rw [hl] at h0 hK hB ⊢
  rw [hm] at h0 hK ⊢
  have hcl : ∀ (v2 : Value) (ty : TypeId), (Builtin.clear_ #[113] ty #[.slice (some ⟨sb, 0, none⟩) m m]).run Tryz.prog (W.setCell ⟨fb, 0, none⟩ v2) = .ok (.tuple #[]) ((W.setCell ⟨fb, 0, none⟩ v2).setCells sb 0 (List.replicate m (.bool false))) := fun v2 ty => by
    have hb2 : Blk (W.setCell ⟨fb, 0, none⟩ v2) sb 4 (seenC l) := hB.far (p := ⟨fb, 0, none⟩) h.nf.2.2.symm v2
    refine Lib.run_clear_slice _ _ 4 ty (.bool false) Tryz.underlying113 (fun w => rfl) rfl rfl sb 0 m m h0 (fun j hj => ?_) (fun j hj => hb2.frozen _)
    rw [hb2.cell, Nat.zero_add, seenC_at (List.getElem?_eq_getElem (by omega))]
    rfl
  have hout : ∀ (v2 : Value), OwnR placeV 1 W base 3 v2 [] → (∀ k, v2.ownBlock = some k → v.ownBlock = some k) →
      FrG base (((W.setCell ⟨fb, 0, none⟩ v2).setCells sb 0 (List.replicate m (.bool false))).setCell ⟨fb, 2, none⟩ (.bool false)) fb sb v2 (newF m) ∧ KG (fun k => k = fb ∨ k = sb) W v (((W.setCell ⟨fb, 0, none⟩ v2).setCells sb 0 (List.replicate m (.bool false))).setCell ⟨fb, 2, none⟩ (.bool false)) v2 ∧
      (((W.setCell ⟨fb, 0, none⟩ v2).setCells sb 0 (List.replicate m (.bool false))).cell? ⟨fb, 2, none⟩ = some (.bool f.matched) ∧ ((W.setCell ⟨fb, 0, none⟩ v2).setCells sb 0 (List.replicate m (.bool false))).frozen? ⟨fb, 2, none⟩ = false) := fun v2 hv2 ho2 => by
    have hne := h.nf
    have k1 : KG (fun k => k = fb ∨ k = sb) W (.slice none 0 0) (W.setCell ⟨fb, 0, none⟩ v2) (.slice none 0 0) := (KG.refl _ _ _).set (.inl rfl) v2
    have k2 : KG (fun k => k = fb ∨ k = sb) W (.slice none 0 0) ((W.setCell ⟨fb, 0, none⟩ v2).setCells sb 0 (List.replicate m (.bool false))) (.slice none 0 0) := KG.setCells (.inr rfl) _ _ _ k1
    have k3 := k2.set (p := ⟨fb, 2, none⟩) (.inl rfl) (.bool false)
    have kw : KG (fun k => k = sb) (W.setCell ⟨fb, 0, none⟩ v2) (.slice none 0 0) ((W.setCell ⟨fb, 0, none⟩ v2).setCells sb 0 (List.replicate m (.bool false))) (.slice none 0 0) := KG.setCells (S := fun k => k = sb) rfl _ _ _ (KG.refl _ _ _)
    have b1 : Blk (W.setCell ⟨fb, 0, none⟩ v2) fb 115 #[v2, .slice (some ⟨sb, 0, none⟩) m m, .bool f.matched] := hK.set_ 0 v2
    have b2 := kw.kept b1 hne.2.2 (fun e => by cases e)
    have b3 := b2.set_ 2 (.bool false)
    have s1 : Blk (W.setCell ⟨fb, 0, none⟩ v2) sb 4 ([] ++ l.map Value.bool).toArray := hB.far (p := ⟨fb, 0, none⟩) hne.2.2.symm v2
    have s2 := blk_setCells (List.replicate m (.bool false)) (l.map Value.bool) [] _ (by simpa using hm) s1
    have s3 := s2.far (p := ⟨fb, 2, none⟩) hne.2.2.symm (.bool false)
    refine ⟨⟨?_, ?_, ?_, h.lo⟩, k3.any v v2 ho2, b2.cell 2, b2.frozen 2⟩
    · have e : (newF m).seen.length = m := List.length_replicate
      rw [e]
      exact b3
    · have e : (seenC (newF m).seen) = ([] ++ List.replicate m (Value.bool false)).toArray := by simp [seenC, newF]
      rw [e]
      exact s3
    · exact k3.row hv2 (fun k hk => ⟨fun e => by
        have hq := ho2 k hk
        rcases e with rfl | rfl
        · exact hne.1 hq
        · exact hne.2.1 hq, fun e => by cases e⟩)
  have hc1 : ∀ v2, (W.setCell ⟨fb, 0, none⟩ v2).cell? ⟨fb, 1, none⟩ = some (.slice (some ⟨sb, 0, none⟩) m m) := fun v2 => by
    have b1 : Blk (W.setCell ⟨fb, 0, none⟩ v2) fb 115 #[v2, .slice (some ⟨sb, 0, none⟩) m m, .bool f.matched] := hK.set_ 0 v2
    exact b1.cell 1
  have c0 := hK.cell 0
  have f0 := hK.frozen 0
  rcases h.row.2 with ⟨rfl, hn0⟩ | ⟨g, cap, cur, rfl, hg, hh, hc, hm2, hs, ht⟩
  · obtain ⟨HF, HKG, d2, z2⟩ := hout (.slice none 0 0) (OwnR.nil _ _ _) (fun k hk => hk)
    have HF := Lib.hid HF
    have HKG := Lib.hid HKG
    have e1 := hc1 (.slice none 0 0)
    have hcl2 := hcl (.slice none 0 0)
    clear hout hcl hK hB h hc1
    go_enter Tryz.func67, Tryz.ntmps67
    go_wp2
    go_end0
    exact ⟨_, rfl, HF.out, HKG.out, fun k hk => hk⟩
  · obtain ⟨HF, HKG, d2, z2⟩ := hout (.slice (some ⟨g, 0, none⟩) 0 cap) ⟨rfl, .inr ⟨g, cap, cur, rfl, hg, hh, Nat.zero_le _, hm2, hs, by simp [rowV]⟩⟩ (fun k hk => hk)
    have HF := Lib.hid HF
    have HKG := Lib.hid HKG
    have e1 := hc1 (.slice (some ⟨g, 0, none⟩) 0 cap)
    have hcl2 := hcl (.slice (some ⟨g, 0, none⟩) 0 cap)
    have hcap : f.places.length ≤ cap := hc
    clear hout hcl hK hB h hc1 hg hh hm2 hs ht hc
    go_enter Tryz.func67, Tryz.ntmps67
    go_wp2
    go_end0
    exact ⟨_, rfl, HF.out, HKG.out, fun k hk => hk⟩
theorem PG.cells {base : Nat} {w : World} {b : Nat} {v y1 y2 y3 : Value} {T : List St} (h : PG base w b v y1 y2 y3 T) {q : Nat} {x : St} (hx : T[q]? = some x) :
    ∃ g cap, v = .slice (some ⟨g, 0, none⟩) T.length cap ∧ w.cell? ⟨g, q * 7, none⟩ = some (.int .i64 (x.kind : Nat)) ∧ w.cell? ⟨g, q * 7 + 1, none⟩ = some (.int .u64 (word x.set 0 : Nat)) ∧ w.cell? ⟨g, q * 7 + 2, none⟩ = some (.int .u64 (word x.set 1 : Nat)) ∧ w.cell? ⟨g, q * 7 + 3, none⟩ = some (.int .u64 (word x.set 2 : Nat)) ∧ w.cell? ⟨g, q * 7 + 4, none⟩ = some (.int .u64 (word x.set 3 : Nat)) ∧ w.cell? ⟨g, q * 7 + 5, none⟩ = some (.int .i64 (x.next : Nat)) ∧ w.cell? ⟨g, q * 7 + 6, none⟩ = some (.int .i64 (x.other : Nat)) := by
  have hq : q < T.length := (List.getElem?_eq_some_iff.1 hx).1
  obtain ⟨g, cap, e, _, _, _, hc⟩ := OwnR.at_ stV_len h.row (by omega)
  refine ⟨g, cap, e, hc q 0 x hx (by decide), hc q 1 x hx (by decide), hc q 2 x hx (by decide), hc q 3 x hx (by decide), hc q 4 x hx (by decide), hc q 5 x hx (by decide), hc q 6 x hx (by decide)⟩
theorem FrG.mark {base : Nat} {w : World} {fb sb : Nat} {v : Value} {f : Fr} (h : FrG base w fb sb v f) (q : Nat) : FrG base (w.setCell ⟨sb, q, none⟩ (.bool true)) fb sb v (f.mark q) := by
  have hne := h.nf
  refine ⟨?_, ?_, ?_, h.lo⟩
  · have e : (f.mark q).seen.length = f.seen.length := List.length_set
    rw [e]
    exact h.blk.far (p := ⟨sb, q, none⟩) hne.2.2 _
  · have := h.seen.set_ q (.bool true)
    rw [seenC_set] at this
    exact this
  · have k : KG (fun k => k = sb) w (.slice none 0 0) (w.setCell ⟨sb, q, none⟩ (.bool true)) (.slice none 0 0) := KG.set (S := fun k => k = sb) (p := ⟨sb, q, none⟩) (KG.refl _ _ _) rfl _
    exact k.row h.row (fun k hk => ⟨fun e => hne.2.1 (by rw [hk, e]), fun e => by cases e⟩)
theorem FrG.done {base : Nat} {w : World} {fb sb : Nat} {v : Value} {f : Fr} (h : FrG base w fb sb v f) : FrG base (w.setCell ⟨fb, 2, none⟩ (.bool true)) fb sb v f.done := by
  have hne := h.nf
  refine ⟨h.blk.set_ 2 _, h.seen.far (p := ⟨fb, 2, none⟩) hne.2.2.symm _, ?_, h.lo⟩
  have k : KG (fun k => k = fb) w (.slice none 0 0) (w.setCell ⟨fb, 2, none⟩ (.bool true)) (.slice none 0 0) := KG.set (S := fun k => k = fb) (p := ⟨fb, 2, none⟩) (KG.refl _ _ _) rfl _
  exact k.row h.row (fun k hk => ⟨fun e => hne.1 (by rw [hk, e]), fun e => by cases e⟩)
def EnterC (T : List St) (base pbase pb : Nat) (pv y1 y2 y3 : Value) (i n : Nat) (f : Fr) : Prop := ∀ (fb sb q : Nat) (v : Value) (W : World), PG pbase W pb pv y1 y2 y3 T → FrG base W fb sb v f → q < T.length → f.seen.length = T.length → f.places.length + f.left ≤ 1000000 → base ≤ W.heap.size →
  Calls Tryz.prog 50 #[.pointer (some ⟨pb, 0, none⟩), .pointer (some ⟨fb, 0, none⟩), .int .i64 (q : Nat), .int .i64 (i : Nat), .int .i64 (n : Nat)] W fun e w' => ∃ v' f', e = .returned (.tuple #[]) ∧ FrG base w' fb sb v' f' ∧ Ent T i n (fun p => p = q) f f' ∧ KG (fun k => k = fb ∨ k = sb) W v w' v'
set_option maxHeartbeats 6400000 in
set_option maxRecDepth 100000 in
theorem enter_step (T : List St) (base pbase pb : Nat) (pv y1 y2 y3 : Value) (i n : Nat) (f : Fr) (hin : ∀ y, y ∈ T → y.next < T.length ∧ y.other < T.length) (hT : T.length ≤ 100000) (hi : i ≤ 9000000000000000000) (hn : n ≤ 9000000000000000000)
    (HE : ∀ f', f'.left < f.left → EnterC T base pbase pb pv y1 y2 y3 i n f') : EnterC T base pbase pb pv y1 y2 y3 i n f := by
  intro fb sb q v W hP hF hq hl hroom hB
  obtain ⟨i0, hi0, hz0, hz1, hz2⟩ := info_parts infoInt
  obtain ⟨s, hs⟩ : ∃ s, f.seen[q]? = some s := ⟨f.seen[q]'(by omega), List.getElem?_eq_getElem (by omega)⟩
  have c1 := hF.blk.cell 1
  have s1 := (hF.seen.cell q).trans (seenC_at hs)
  have z1 := hF.seen.frozen q
  rw [hl] at c1
  have hI : (q : Int) < (T.length : Int) := by omega
  cases s with
  | true =>
    have HF := Lib.hid hF
    have HS := Lib.hid (Ent.seen (T := T) (i := i) (n := n) (f := f) (q := q) hs)
    clear hF hP hs hl hin
    go_enter Tryz.func50, Tryz.ntmps50
    go_wp2
    refine bodyPost_ret (results_none rfl _ _ _) rfl ?_
    exact ⟨v, f, rfl, HF.out, HS.out, KG.refl _ _ _⟩
  | false =>
    have hnh : ¬ f.has q := by unfold Fr.has; rw [hs]; simp
    obtain ⟨x, hx⟩ : ∃ x, T[q]? = some x := ⟨T[q], List.getElem?_eq_getElem hq⟩
    have hqs : q < f.seen.length := by omega
    have hml := mark_left hqs hnh
    obtain ⟨W1, hW1⟩ : ∃ z, W.setCell ⟨sb, q, none⟩ (.bool true) = z := ⟨_, rfl⟩
    have k1 : KG (fun k => k = fb ∨ k = sb) W v W1 v := by rw [← hW1]; exact (KG.refl _ _ _).set (.inr rfl) _
    have f1 : FrG base W1 fb sb v (f.mark q) := by rw [← hW1]; exact hF.mark q
    have p1 : PG pbase W1 pb pv y1 y2 y3 T := hP.front hF k1
    have hl1 : (f.mark q).seen.length = T.length := by rw [show (f.mark q).seen.length = f.seen.length from List.length_set]; exact hl
    have hr1 : (f.mark q).places.length + (f.mark q).left ≤ 1000000 := by show f.places.length + _ ≤ _; omega
    obtain ⟨g, cap, rfl, q0, _, _, _, _, q5, q6⟩ := p1.cells hx
    have AT := nfaAt_any pb g 0 T.length cap q y1 y2 y3 W1 p1.blk hq (by omega)
    rw [Nat.zero_add] at AT
    obtain ⟨hnx, hno⟩ := hin x (List.mem_of_getElem? hx)
    have HX := Lib.hid hx
    have HNH := Lib.hid hnh
    have HQS := Lib.hid hqs
    have HP1 := Lib.hid p1
    have HF1 := Lib.hid f1
    have HK1 := Lib.hid k1
    have HW1 := Lib.hid hW1
    have HL1 := Lib.hid hl1
    have HML := Lib.hid hml
    have HHE := Lib.hid HE
    have hB1 : base ≤ W1.heap.size := Nat.le_trans hB k1.size
    have HAT := Lib.hid AT
    have c2 := f1.blk.cell 2
    have z2 := f1.blk.frozen 2
    have c0 := f1.blk.cell 0
    have z0 := f1.blk.frozen 0
    obtain ⟨xk, xs, xn, xo⟩ := x
    simp only at q0 q5 q6 hnx hno
    have A0 := fun (j : Nat) (hj : j < T.length) (f' : Fr) (hl' : f'.left < f.left) (v' : Value) (w' : World) (hp : PG pbase w' pb (.slice (some ⟨g, 0, none⟩) T.length cap) y1 y2 y3 T) (hf : FrG base w' fb sb v' f') (hs' : f'.seen.length = T.length) (hr' : f'.places.length + f'.left ≤ 1000000) (hb' : base ≤ w'.heap.size) => HE f' hl' fb sb j v' w' hp hf hj hs' hr' hb'
    have HA0 := Lib.hid A0
    have HMK := Lib.hid (show (f.mark q).left < f.left by omega)
    clear hF hP hs hl hin hx hnh hqs hml k1 f1 p1 hl1 AT HE A0 hq
    by_cases h0 : xk = 0
    · subst h0
      have HFD := Lib.hid HF1.out.done
      have HE := Lib.hid (ent_done (i := i) (n := n) HQS.out HNH.out HX.out rfl)
      have HKD := Lib.hid (KG.set (S := fun k => k = fb ∨ k = sb) (p := ⟨fb, 2, none⟩) HK1.out (.inl rfl) (.bool true))
      have hW1 := HW1.out
      go_enter Tryz.func50, Tryz.ntmps50
      go_wp2_with fail
      clear hW1
      refine HAT.out.mono ?_
      rintro e w' ⟨rfl, rfl⟩
      go_wp2
      go_end0
      exact ⟨_, _, rfl, HFD.out, HE.out, HKD.out⟩
    have b0 : ((xk : Int) == 0) = false := by rw [beq_eq_false_iff_ne]; omega
    by_cases h1 : xk = 1
    · subst h1
      have HO := Lib.hid HF1.out.row
      have HNF := Lib.hid HF1.out.nf
      obtain ⟨A, c, hv⟩ := own_shape HF1.out.row
      have hlf : (f.mark q).places.length = f.places.length := rfl
      rw [hlf] at hv
      subst hv
      have hW1 := HW1.out
      go_enter Tryz.func50, Tryz.ntmps50
      go_wp2_with fail
      clear hW1
      refine HAT.out.mono ?_
      rintro e w' ⟨rfl, rfl⟩
      go_wp2_with (at_builtin; refine wpList_append_lies _ rfl (.tmp 44) (.tmp 46) 112 rfl base 3 i0 (.int .i64 0) 1 8 Tryz.underlying112 hi0 hz0 hz1 hz2 rfl (by decide) _ _ _ rfl (OwnR.alloc HO.out _) ⟨W1.heap.size, 0, none⟩ 1 1 (placeV q) rfl rfl (new_cells_at _ _ _ _ rfl) (placeV_one q) (by decide) (by unfold maxLen; omega) (by omega) (by simp; omega) _ rfl ?_)
      intro g2 cap2 w2 hown hgrow hat hlt
      have hF1 := HF1.out
      have hlt1 := hF1.blk.lt
      have hlt2 := hF1.seen.lt
      have hb1 : Blk w2 fb 115 #[.slice A f.places.length c, .slice (some ⟨sb, 0, none⟩) (f.mark q).seen.length (f.mark q).seen.length, .bool (f.mark q).matched] := (hgrow.block fb (by simp; omega) (fun e => HNF.out.1 e.symm)).trans (hF1.blk.alloc _)
      have hb2 : Blk w2 sb 4 (seenC (f.mark q).seen) := (hgrow.block sb (by simp; omega) (fun e => HNF.out.2.1 e.symm)).trans (hF1.seen.alloc _)
      have d0 := hb1.frozen 0
      have e0 := hb1.cell 0
      have hfg : g2 ≠ fb := by
        rcases hat with h1 | h1
        · exact fun e => HNF.out.1 (by rw [h1, e])
        · rw [h1]; simp; omega
      have HF2 := Lib.hid (show FrG base (w2.setCell ⟨fb, 0, none⟩ (.slice (some ⟨g2, 0, none⟩) (f.places.length + 1) cap2)) fb sb (.slice (some ⟨g2, 0, none⟩) (f.places.length + 1) cap2) ((f.mark q).put q) from ⟨hb1.set_ 0 _, hb2.far (p := ⟨fb, 0, none⟩) HNF.out.2.2.symm _, by
        refine OwnR.snoc (l := f.places) ?_
        refine ⟨hown.1, ?_⟩
        rcases hown.2 with h0 | ⟨g3, cap3, cur, hv, hg, hh, xx⟩
        · exact .inl h0
        · refine .inr ⟨g3, cap3, cur, hv, hg, ?_, xx⟩
          have e2 : g2 = g3 := by injection hv with hv; injection hv with hv; injection hv
          subst e2
          exact (Below.heap_setCell w2 ⟨fb, 0, none⟩ _ g2 hfg).trans hh, hF1.lo⟩)
      have HK2 := Lib.hid (show KG (fun k => k = fb ∨ k = sb) W (.slice A f.places.length c) (w2.setCell ⟨fb, 0, none⟩ (.slice (some ⟨g2, 0, none⟩) (f.places.length + 1) cap2)) (.slice (some ⟨g2, 0, none⟩) (f.places.length + 1) cap2) from
        KG.set (S := fun k => k = fb ∨ k = sb) (p := ⟨fb, 0, none⟩) (KG.grown (v2 := .slice (some ⟨g2, 0, none⟩) (f.places.length + 1) cap2) (HK1.out.alloc _) hgrow (fun k hk => by
          have e2 : g2 = k := by simpa [Value.ownBlock] using hk
          subst e2
          rcases hat with h1 | h1
          · exact .inl h1
          · exact .inr (by rw [h1]; first | exact Nat.le_refl _ | (simp; done) | (simp; omega)))) (.inl rfl) _)
      have HE := Lib.hid (ent_take (i := i) (n := n) HQS.out HNH.out HX.out rfl)
      clear hown hgrow hat hb1 hb2 hF1 hlt1 hlt2 hfg
      go_wp2
      go_end0
      exact ⟨_, _, rfl, HF2.out, HE.out, HK2.out⟩
    have b1 : ((xk : Int) == 1) = false := by rw [beq_eq_false_iff_ne]; omega
    by_cases h2 : xk = 2
    · subst h2
      have A1 := Lib.hid (HA0.out xn hnx (f.mark q) HMK.out v W1 HP1.out HF1.out HL1.out hr1 hB1)
      have hW1 := HW1.out
      go_enter Tryz.func50, Tryz.ntmps50
      go_wp2_with fail
      clear hW1
      refine HAT.out.mono ?_
      rintro e w' ⟨rfl, rfl⟩
      go_wp2_with fail
      refine A1.out.mono ?_
      rintro e w2 ⟨v2, f2, rfl, hf2, he2, hk2⟩
      have HF2 := Lib.hid hf2
      have HK2 := Lib.hid (HK1.out.trans hk2)
      have HE2 := Lib.hid he2
      have hp2 := HP1.out.front HF1.out hk2
      obtain ⟨g2, cap2, hv2, r0, _, _, _, _, r5, r6⟩ := hp2.cells HX.out
      injection hv2 with hv2 _ _
      injection hv2 with hv2
      injection hv2 with hv2 _ _
      subst hv2
      simp only at r0 r5 r6
      have A2 := Lib.hid (HA0.out xo hno f2 (Nat.lt_of_le_of_lt he2.left HMK.out) v2 w2 hp2 hf2 (he2.len.trans HL1.out) (Nat.le_trans he2.room hr1) (Nat.le_trans hB1 hk2.size))
      clear hf2 he2 hk2 hp2 A1
      go_wp2_with fail
      refine A2.out.mono ?_
      rintro e w3 ⟨v3, f3, rfl, hf3, he3, hk3⟩
      have HF3 := Lib.hid hf3
      have HK3 := Lib.hid (HK2.out.trans hk3)
      have HE3 := Lib.hid (ent_fork HQS.out HNH.out HX.out rfl HE2.out he3)
      clear hf3 he3 hk3 A2
      go_wp2
      go_end0
      exact ⟨_, _, rfl, HF3.out, HE3.out, HK3.out⟩
    have b2 : ((xk : Int) == 2) = false := by rw [beq_eq_false_iff_ne]; omega
    by_cases h3 : xk = 3
    · subst h3
      by_cases hc : i = 0
      · have bi : ((i : Int) == 0) = true := by rw [hc]; rfl
        have HC := Lib.hid hc
        clear hc
        have A1 := Lib.hid (HA0.out xn hnx (f.mark q) HMK.out v W1 HP1.out HF1.out HL1.out hr1 hB1)
        have hW1 := HW1.out
        go_enter Tryz.func50, Tryz.ntmps50
        go_wp2_with fail
        clear hW1
        refine HAT.out.mono ?_
        rintro e w' ⟨rfl, rfl⟩
        go_wp2_with fail
        refine A1.out.mono ?_
        rintro e w2 ⟨v2, f2, rfl, hf2, he2, hk2⟩
        have HF2 := Lib.hid hf2
        have HK2 := Lib.hid (HK1.out.trans hk2)
        have HE2 := Lib.hid he2
        have HE3 := Lib.hid (ent_beg HQS.out HNH.out HX.out rfl HC.out he2)
        clear hf2 he2 hk2 A1
        go_wp2
        go_end0
        exact ⟨_, _, rfl, HF2.out, HE3.out, HK2.out⟩
      · have bi : ((i : Int) == 0) = false := by rw [beq_eq_false_iff_ne]; omega
        have bi2 : ¬ i = 0 := hc
        have HE3 := Lib.hid (ent_stop (i := i) (n := n) HQS.out HNH.out HX.out (.inl ⟨rfl, hc⟩))
        have hW1 := HW1.out
        go_enter Tryz.func50, Tryz.ntmps50
        go_wp2_with fail
        clear hW1
        refine HAT.out.mono ?_
        rintro e w' ⟨rfl, rfl⟩
        go_wp2
        go_end0
        exact ⟨_, _, rfl, HF1.out, HE3.out, HK1.out⟩
    have b3 : ((xk : Int) == 3) = false := by rw [beq_eq_false_iff_ne]; omega
    by_cases h4 : xk = 4
    · subst h4
      by_cases hc : i = n
      · have bi : ((i : Int) == (n : Int)) = true := by rw [hc]; simp
        have HC := Lib.hid hc
        clear hc
        have A1 := Lib.hid (HA0.out xn hnx (f.mark q) HMK.out v W1 HP1.out HF1.out HL1.out hr1 hB1)
        have hW1 := HW1.out
        go_enter Tryz.func50, Tryz.ntmps50
        go_wp2_with fail
        clear hW1
        refine HAT.out.mono ?_
        rintro e w' ⟨rfl, rfl⟩
        go_wp2_with fail
        refine A1.out.mono ?_
        rintro e w2 ⟨v2, f2, rfl, hf2, he2, hk2⟩
        have HF2 := Lib.hid hf2
        have HK2 := Lib.hid (HK1.out.trans hk2)
        have HE2 := Lib.hid he2
        have HE3 := Lib.hid (ent_fin HQS.out HNH.out HX.out rfl HC.out he2)
        clear hf2 he2 hk2 A1
        go_wp2
        go_end0
        exact ⟨_, _, rfl, HF2.out, HE3.out, HK2.out⟩
      · have bi : ((i : Int) == (n : Int)) = false := by rw [beq_eq_false_iff_ne]; omega
        have bi2 : ¬ i = n := hc
        have HE3 := Lib.hid (ent_stop (i := i) (n := n) HQS.out HNH.out HX.out (.inr (.inl ⟨rfl, hc⟩)))
        have hW1 := HW1.out
        go_enter Tryz.func50, Tryz.ntmps50
        go_wp2_with fail
        clear hW1
        refine HAT.out.mono ?_
        rintro e w' ⟨rfl, rfl⟩
        go_wp2
        go_end0
        exact ⟨_, _, rfl, HF1.out, HE3.out, HK1.out⟩
    have b4 : ((xk : Int) == 4) = false := by rw [beq_eq_false_iff_ne]; omega
    have HE3 := Lib.hid (ent_stop (i := i) (n := n) HQS.out HNH.out HX.out (.inr (.inr (show 5 ≤ xk by omega))))
    have hW1 := HW1.out
    go_enter Tryz.func50, Tryz.ntmps50
    go_wp2_with fail
    clear hW1
    refine HAT.out.mono ?_
    rintro e w' ⟨rfl, rfl⟩
    go_wp2
    go_end0
    exact ⟨_, _, rfl, HF1.out, HE3.out, HK1.out⟩
theorem enter_all (T : List St) (base pbase pb : Nat) (pv y1 y2 y3 : Value) (i n : Nat) (hin : ∀ y, y ∈ T → y.next < T.length ∧ y.other < T.length) (hT : T.length ≤ 100000) (hi : i ≤ 9000000000000000000) (hn : n ≤ 9000000000000000000) : ∀ (k : Nat) (f : Fr), f.left < k → EnterC T base pbase pb pv y1 y2 y3 i n f := by
  intro k
  induction k with
  | zero => exact fun f h => absurd h (Nat.not_lt_zero _)
  | succ k ih => exact fun f h => enter_step T base pbase pb pv y1 y2 y3 i n f hin hT hi hn (fun f' h' => ih f' (by omega))
theorem enter_any (T : List St) (base pbase pb : Nat) (pv y1 y2 y3 : Value) (i n : Nat) (hin : ∀ y, y ∈ T → y.next < T.length ∧ y.other < T.length) (hT : T.length ≤ 100000) (hi : i ≤ 9000000000000000000) (hn : n ≤ 9000000000000000000) (f : Fr) : EnterC T base pbase pb pv y1 y2 y3 i n f :=
  enter_all T base pbase pb pv y1 y2 y3 i n hin hT hi hn _ f (Nat.lt_succ_self _)
theorem cell_later {w w' : World} {g o : Nat} {u : Value} (h : w.cell? ⟨g, o, none⟩ = some u) (hb : Below w.heap.size w w') : w'.cell? ⟨g, o, none⟩ = some u := (hb.cell (p := ⟨g, o, none⟩) (block_lt_of_cell h)).trans h
theorem FrG.place {base : Nat} {w : World} {fb sb : Nat} {v : Value} {f : Fr} (h : FrG base w fb sb v f) {k q : Nat} (hk : f.places[k]? = some q) : ∃ g cap, v = .slice (some ⟨g, 0, none⟩) f.places.length cap ∧ w.cell? ⟨g, k, none⟩ = some (.int .i64 (q : Nat)) := by
  have h0 : k < f.places.length := (List.getElem?_eq_some_iff.1 hk).1
  obtain ⟨g, cap, e, _, _, _, hc⟩ := OwnR.at_ placeV_len h.row (by omega)
  have := hc k 0 q hk (by decide)
  rw [Nat.mul_one, Nat.add_zero] at this
  exact ⟨g, cap, e, this⟩
def StepR (T : List St) (base gb tb i n : Nat) (ps : List Nat) (b : UInt8) (w1 : World) (u1 : Value) (k : Nat) (wr : World) : Prop := ∃ (u2 : Value) (g2 : Fr), FrG base wr gb tb u2 g2 ∧ Ent T i n (Roots T ps b k) (newF T.length) g2 ∧ KG (fun k => k = gb ∨ k = tb) w1 u1 wr u2
set_option maxHeartbeats 6400000 in
set_option maxRecDepth 100000 in
theorem nfaStep_any (T : List St) (base pbase pb : Nat) (pv y1 y2 y3 : Value) (i : Nat) (s : ByteArray) (b : UInt8) (f g : Fr) (fb sb gb tb : Nat) (v u : Value) (W : World) (hin : ∀ y, y ∈ T → y.next < T.length ∧ y.other < T.length) (hT : T.length ≤ 100000) (hsz : s.size ≤ 4000000000000000000) (hb : s.data.toList[i]? = some b)
    (hP : PG pbase W pb pv y1 y2 y3 T) (hF : FrG base W fb sb v f) (hG : FrG base W gb tb u g) (hA : Apart2 fb sb v gb tb u) (hB : base ≤ W.heap.size) (hpl : ∀ q, q ∈ f.places → q < T.length) (hgl : g.seen.length = T.length) (hT0 : 0 < T.length) (hfl : f.places.length ≤ 1000000) :
    Calls Tryz.prog 51 #[.pointer (some ⟨pb, 0, none⟩), .pointer (some ⟨fb, 0, none⟩), .pointer (some ⟨gb, 0, none⟩), .string s, .int .i64 (i : Nat)] W fun e w' => ∃ u' g', e = .returned (.tuple #[]) ∧ FrG base w' gb tb u' g' ∧ Ent T (i + 1) s.size (Roots T f.places b f.places.length) (newF T.length) g' ∧ KG (fun k => k = gb ∨ k = tb) W u w' u' := by
  have hi : i < s.size := by
    have := (List.getElem?_eq_some_iff.1 hb).1
    rwa [size_toList] at this
  have hI : (i : Int) < (s.size : Int) := by omega
  have CL := Lib.hid (frClear_any base gb tb u g W hG (by omega))
  rw [hgl] at CL
  have HP := Lib.hid hP
  have HF := Lib.hid hF
  have HG := Lib.hid hG
  have HA := Lib.hid hA
  have HPL := Lib.hid hpl
  have HIN := Lib.hid hin
  have hbn : b.toNat < 256 := b.toNat_lt
  have hwi : IntKind.i64.wrap ((i : Int) + 1) = ((i + 1 : Nat) : Int) := by rw [IntKind.wrap_i64]; omega
  obtain ⟨n, hn⟩ : ∃ n, f.places.length = n := ⟨_, rfl⟩
  have hget : s.data[i]? = some b := by rw [← Array.getElem?_toList]; exact hb
  have HGET := Lib.hid hget
  have HEN := Lib.hid (fun (f' : Fr) => enter_any T base pbase pb pv y1 y2 y3 (i + 1) s.size hin hT (by omega) (by omega) f')
  clear hP hF hG hA hpl hin hgl hb hget
  rw [hn] at hfl ⊢
  have HN := Lib.hid hn
  clear hn
  have c0 := HF.out.blk.cell 0
  go_enter Tryz.func51, Tryz.ntmps51
  go_wp2_with fail
  refine CL.out.mono ?_
  rintro e w1 ⟨u1, rfl, hg1, hk1, _⟩
  have HF1 := Lib.hid (HF.out.kept HG.out HA.out hk1)
  have HA1 := Lib.hid (HA.out.kept HF.out hk1)
  have HP1 := Lib.hid (HP.out.front HG.out hk1)
  have HG1 := Lib.hid hg1
  have HK1 := Lib.hid hk1
  obtain ⟨A, c, hv⟩ := own_shape HF.out.row
  have d0 := HF1.out.blk.cell 0
  rw [HN.out] at hv
  subst hv
  have hB1 : base ≤ w1.heap.size := Nat.le_trans hB hk1.size
  clear hg1 hk1 CL c0 HF HP HA
  go_wp2
  go_loopw [20] (fun kv wr => ∃ (k : Nat), k ≤ n ∧ kv = .int .i64 (k : Nat) ∧ StepR T base gb tb (i + 1) s.size f.places b w1 u1 k wr) (fun kv _ => n - (intOf kv).toNat)
  case atStart =>
    exact ⟨0, Nat.zero_le _, rfl, u1, newF T.length, HG1.out, (Ent.none _).congr (fun p => (roots_zero T f.places b p).symm), KG.refl _ _ _⟩
  case round =>
    obtain ⟨k, hk, rfl, u2, g2, HGR, HER, HKR⟩ := hrel
    replace HGR := Lib.hid HGR
    replace HER := Lib.hid HER
    replace HKR := Lib.hid HKR
    by_cases h : k < n
    · have hIk : (k : Int) < n := by omega
      obtain ⟨pl, hpl⟩ : ∃ pl, f.places[k]? = some pl := ⟨f.places[k]'(by rw [HN.out]; exact h), List.getElem?_eq_getElem (by rw [HN.out]; exact h)⟩
      have hplT := HPL.out pl (List.mem_of_getElem? hpl)
      have hFr := HF1.out.kept HG1.out HA1.out HKR.out
      have hAr := HA1.out.kept HF1.out HKR.out
      have hPr := HP1.out.front HG1.out HKR.out
      have hGr := HGR.out
      obtain ⟨g3, cap3, hv3, r0⟩ := hFr.place hpl
      injection hv3 with hv3 hv4 hv5
      subst hv3 hv5
      clear hv4
      obtain ⟨x, hx⟩ : ∃ x, T[pl]? = some x := ⟨T[pl], List.getElem?_eq_getElem hplT⟩
      obtain ⟨hnx, hno⟩ := HIN.out x (List.mem_of_getElem? hx)
      obtain ⟨pg, pcap, rfl, q0, q1, q2, q3, q4, q5, q6⟩ := hPr.cells hx
      have AT := nfaAt_any pb pg 0 T.length pcap pl y1 y2 y3 wr hPr.blk hplT (by omega)
      rw [Nat.zero_add] at AT
      replace AT := Lib.hid AT
      have HX := Lib.hid hx
      have HPLK := Lib.hid hpl
      have HPR := Lib.hid hPr
      have hBr : base ≤ wr.heap.size := Nat.le_trans hB1 HKR.out.size
      have hr1 : g2.places.length + g2.left ≤ 1000000 := by
        have := HER.out.room
        have h2 : (newF T.length).left ≤ T.length := by unfold Fr.left newF; exact Nat.le_trans List.count_le_length (by simp)
        have h3 : (newF T.length).places.length = 0 := rfl
        omega
      have hl2 : g2.seen.length = T.length := HER.out.len.trans List.length_replicate
      have HL2 := Lib.hid hl2
      obtain ⟨xk, xs, xn, xo⟩ := x
      simp only at q0 q1 q2 q3 q4 q5 q6 hnx hno
      have HAS := Lib.hid (show ∀ w, Calls Tryz.prog 68 #[setV xs, .int .u8 ((s[i]'hi).toNat : Int)] w fun e w' => e = .returned (.bool (xs.testBit b.toNat)) ∧ Below w.heap.size w w' from fun w => by
        have hsb : s[i]'hi = b := by
          have h1 := HGET.out
          rw [Array.getElem?_eq_getElem (by exact hi)] at h1
          exact Option.some.inj h1
        rw [hsb]
        exact rexHas_any xs b.toNat hbn w)
      have HR := Lib.hid hr1
      clear hFr hAr hPr hGr hx hpl hl2 hr1
      go_wp2_with fail
      refine AT.out.mono ?_
      rintro e w' ⟨rfl, rfl⟩
      go_wp2
      have HS := Lib.hid (show ∀ w w' : World, (w.cell? ⟨pg, pl * 7 + 1, none⟩ = some (.int .u64 (word xs 0 : Nat)) ∧ w.cell? ⟨pg, pl * 7 + 2, none⟩ = some (.int .u64 (word xs 1 : Nat)) ∧ w.cell? ⟨pg, pl * 7 + 3, none⟩ = some (.int .u64 (word xs 2 : Nat)) ∧ w.cell? ⟨pg, pl * 7 + 4, none⟩ = some (.int .u64 (word xs 3 : Nat)) ∧ Below wr.heap.size wr w) → Below w.heap.size w w' → (w'.cell? ⟨pg, pl * 7 + 1, none⟩ = some (.int .u64 (word xs 0 : Nat)) ∧ w'.cell? ⟨pg, pl * 7 + 2, none⟩ = some (.int .u64 (word xs 1 : Nat)) ∧ w'.cell? ⟨pg, pl * 7 + 3, none⟩ = some (.int .u64 (word xs 2 : Nat)) ∧ w'.cell? ⟨pg, pl * 7 + 4, none⟩ = some (.int .u64 (word xs 3 : Nat)) ∧ Below wr.heap.size wr w') from fun w w' ⟨a1, a2, a3, a4, a5⟩ hb => ⟨cell_later a1 hb, cell_later a2 hb, cell_later a3 hb, cell_later a4 hb, hop a5 (Nat.le_refl _) hb⟩)
      have S0 : (wr.drew.cell? ⟨pg, pl * 7 + 1, none⟩ = some (.int .u64 (word xs 0 : Nat)) ∧ wr.drew.cell? ⟨pg, pl * 7 + 2, none⟩ = some (.int .u64 (word xs 1 : Nat)) ∧ wr.drew.cell? ⟨pg, pl * 7 + 3, none⟩ = some (.int .u64 (word xs 2 : Nat)) ∧ wr.drew.cell? ⟨pg, pl * 7 + 4, none⟩ = some (.int .u64 (word xs 3 : Nat)) ∧ Below wr.heap.size wr wr.drew) := ⟨q1, q2, q3, q4, below_drewN (Below.refl _ _) 1⟩
      refine wp_region_held_drew (S := fun w' => (w'.cell? ⟨pg, pl * 7 + 1, none⟩ = some (.int .u64 (word xs 0 : Nat)) ∧ w'.cell? ⟨pg, pl * 7 + 2, none⟩ = some (.int .u64 (word xs 1 : Nat)) ∧ w'.cell? ⟨pg, pl * 7 + 3, none⟩ = some (.int .u64 (word xs 2 : Nat)) ∧ w'.cell? ⟨pg, pl * 7 + 4, none⟩ = some (.int .u64 (word xs 3 : Nat)) ∧ Below wr.heap.size wr w')) (by kernel_rfl) S0 (fun hHeld => ?_)
      refine tV 0 ?_; refine tV 1 ?_; refine tV 2 ?_; refine tH 3 ?_; refine tV 4 ?_; refine tV 5 ?_; refine tV 6 ?_
      refine rdy [7] ?_
      refine rdC (fun K hK => ?_) AllReadyH.nil
      go_simp
      go_at_call 68
      refine (HAS.out _).mono ?_
      rintro e wc1 ⟨rfl, hb3⟩
      have Sc1 := HS.out _ _ (by assumption) hb3
      refine hK.out _ _ Sc1 (fun _ => ?_)
      clear hK K hb3
      try simp only [Act.put, pz1, pz2, pz3]
      refine wpAnyH_done (by kernel_rfl) ?_ _
      have hSc1 := Sc1
      clear Sc1
      have hbw := hSc1.2.2.2.2
      have HBW := Lib.hid hbw
      have e5 := cell_later q5 hbw
      clear HS hHeld S0 q0 q1 q2 q3 q4
      have hG4 := HGR.out.below hbw
      have hP4 := HPR.out.below hbw
      have EN := Lib.hid (HEN.out g2 gb tb xn u2 wc1 hP4 hG4 hnx HL2.out HR.out (Nat.le_trans hBr hbw.size))
      have HG4 := Lib.hid hG4
      clear hG4 hP4 hSc1 hbw
      cases hc : xs.testBit b.toNat with
      | false =>
        have HE5 := Lib.hid (HER.out.congr (roots_no HPLK.out HX.out hc))
        have HK5 := Lib.hid (HKR.out.below HBW.out)
        clear hc
        go_wp2
        go_round
        case rel => exact ⟨k + 1, by omega, by go_num, _, _, HG4.out, HE5.out, HK5.out⟩
        case measure => simp [intOf]; omega
      | true =>
        have HC := Lib.hid hc
        clear hc
        go_wp2_with fail
        refine EN.out.mono ?_
        rintro e w5 ⟨u5, g5, rfl, hg5, he5, hk5⟩
        have HG5 := Lib.hid hg5
        have HE5 := Lib.hid (show Ent T (i + 1) s.size (Roots T f.places b (k + 1)) (newF T.length) g5 from (HER.out.comp he5).congr (fun p => by rw [roots_succ HPLK.out HX.out p, HC.out]; simp))
        have HK5 := Lib.hid ((HKR.out.below HBW.out).trans hk5)
        clear hg5 he5 hk5
        go_wp2
        go_round
        case rel => exact ⟨k + 1, by omega, by go_num, _, _, HG5.out, HE5.out, HK5.out⟩
        case measure => simp [intOf]; omega
    · obtain rfl : k = n := by omega
      have hIk : ¬ (k : Int) < (k : Int) := by omega
      go_wp2
      go_end0
      exact ⟨rfl, _, _, HGR.out, HER.out, HK1.out.trans HKR.out⟩
end Go.Proofs.YtbkpoimaienhpaaGreatDoor
