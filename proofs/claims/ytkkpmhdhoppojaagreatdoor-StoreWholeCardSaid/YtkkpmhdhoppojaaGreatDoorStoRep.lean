-- shaken
import Derived.Test.YtkkpmhdhoppojaaGreatDoorStoOwn
namespace Go.Proofs.YtkkpmhdhoppojaaGreatDoor
open Go.RowKit
set_option linter.unusedVariables false
set_option linter.unusedSimpArgs false
theorem Se.FG.set_ {b : Nat} {w : World} (i : Nat) (v : Value) : Se.FG b w (w.setCell ⟨b, i, none⟩ v) := ⟨rfl, rfl, rfl, by simp, fun k hk hg => Below.heap_setCell _ _ _ k hg⟩
theorem Se.FG.below {b B : Nat} {w0 w w' : World} (h : Se.FG b w w') (hb : Below B w0 w) (hB : B ≤ b) (hs : B ≤ w.heap.size) : Below B w0 w' := ⟨h.os.trans hb.os, h.tape.trans hb.tape, h.output.trans hb.output, Nat.le_trans hb.size h.size, fun k hk => (h.block k (by omega) (by omega)).trans (hb.block k hk)⟩
theorem OwnR.shape {α : Type} {V : α → List Value} {s : Nat} {w : World} {B ty : Nat} {v : Value} {l : List α} (h : OwnR V s w B ty v l) : ∃ A cap, v = .slice A l.length cap := own_shape h
theorem Blk.fg {w w' : World} {b g T : Nat} {cs : Array Value} (h : Blk w g T cs) (hf : Se.FG b w w') (hg : g ≠ b) : Blk w' g T cs := (hf.block g h.lt hg).trans h
theorem OwnR.fgT {α : Type} {V : α → List Value} {s : Nat} {w w' : World} {B T T' b : Nat} {v : Value} {l : List α} {cur : Array Value} (h : OwnR V s w B T v l) (hf : Se.FG b w w') (hb : Blk w b T' cur) (hT : T' ≠ T) : OwnR V s w' B T v l := by
  refine ⟨h.1, ?_⟩
  rcases h.2 with h0 | ⟨g, cap, cur', hv, hbg, hh, x⟩
  · exact .inl h0
  · refine .inr ⟨g, cap, cur', hv, hbg, (hf.block g (lt_of_block hh) (fun e => ?_)).trans hh, x⟩
    subst e
    unfold Blk at hb
    rw [hb] at hh
    injection hh with hh
    injection hh with _ hh _
    exact hT hh
theorem Good.fgT {B b T' : Nat} {w w' : World} {x : EntX} {cur : Array Value} (h : Good B w x) (hf : Se.FG b w w') (hB : B ≤ b) (hb : Blk w b T' cur) (hT : T' ≠ 123) : Good B w' x :=
  h.grown hf.grown fun b' e => by
    obtain rfl := Option.some.inj e
    exact ⟨hB, _, _, hT, hb⟩
theorem rep_not_reply : 94 ≠ 32 := by decide
theorem rep_not_ent : 94 ≠ 56 := by decide
theorem rep_not_pair : 94 ≠ 123 := by decide
structure RepP (B : Nat) (w : World) (b : Nat) (S : List RepB) (k : Nat) (L : List EntX) (rv lv : Value) : Prop where
  blk : Blk w b 94 #[rv, .int .i64 (k : Int), lv]
  rep : OwnR RepB.V 2 w B 32 rv S
  ent : OwnE 0 w B lv L
  low : B ≤ b
theorem RepP.below {B : Nat} {w w' : World} {b : Nat} {S : List RepB} {k : Nat} {L : List EntX} {rv lv : Value} (h : RepP B w b S k L rv lv) (hb : Below w.heap.size w w') : RepP B w' b S k L rv lv :=
  ⟨h.blk.below hb h.blk.lt, OwnR.below h.rep hb, h.ent.below hb, h.low⟩
theorem RepP.fg {B : Nat} {w w' : World} {b c T' : Nat} {S : List RepB} {k : Nat} {L : List EntX} {rv lv : Value} {cur : Array Value} (h : RepP B w b S k L rv lv) (hf : Se.FG c w w') (hc : Blk w c T' cur) (hbc : b ≠ c) (h1 : T' ≠ 32) (h2 : T' ≠ 56) (h3 : T' ≠ 123) : RepP B w' b S k L rv lv :=
  ⟨h.blk.fg hf hbc, OwnR.fgT h.rep hf hc h1, ⟨OwnR.fgT h.ent.1 hf hc h2, fun x hx => (h.ent.2 x hx).fgT hf (Nat.zero_le _) hc h3⟩, h.low⟩
theorem RepP.set {B : Nat} {w : World} {b : Nat} {S : List RepB} {k k' : Nat} {L : List EntX} {rv lv : Value} (h : RepP B w b S k L rv lv) : RepP B (w.setCell ⟨b, 1, none⟩ (.int .i64 (k' : Int))) b S k' L rv lv :=
  ⟨h.blk.set_ 1 _, OwnR.fgT h.rep (Se.FG.set_ 1 _) h.blk rep_not_reply, ⟨OwnR.fgT h.ent.1 (Se.FG.set_ 1 _) h.blk rep_not_ent, fun x hx => (h.ent.2 x hx).fgT (Se.FG.set_ 1 _) (Nat.zero_le _) h.blk rep_not_pair⟩, h.low⟩
set_option maxHeartbeats 800000 in
theorem scriptOf_any (A : Option Addr) (n c : Nat) (S : List RepB) (hn : n ≤ 100000) (W : World) (h : RowR RepB.V 2 W A n S) :
    Calls Tryz.prog 29 #[.slice A n c] W fun e w' => ∃ v, e = .returned (.agg #[v, .int .i64 0]) ∧ OwnR RepB.V 2 w' W.heap.size 32 v S ∧ Below W.heap.size W w' := by
  have K := Blk.new W 91 #[.slice none 0 0, .int .i64 0]
  have hb0 : Below W.heap.size W (W.alloc (.cells #[.slice none 0 0, .int .i64 0] 91)) := (Below.refl _ _).alloc (Nat.le_refl _) _
  obtain ⟨w1, hw1⟩ : ∃ z, W.alloc (.cells #[.slice none 0 0, .int .i64 0] 91) = z := ⟨_, rfl⟩
  rw [hw1] at K hb0
  have CL := Lib.hid (cloneR_any A n c S hn w1 (h.below hb0))
  have HB := Lib.hid hb0
  have HK := Lib.hid K
  have hs1 : W.heap.size < w1.heap.size := K.lt
  clear h K hb0
  go_enter Tryz.func29, Tryz.ntmps29
  go_wp2_with fail
  (try rw [hw1])
  refine CL.out.mono ?_
  rintro e w2 ⟨v0, rfl, ho, hb⟩
  obtain ⟨A', c', rfl⟩ := OwnR.shape ho
  have K2 := HK.out.below hb HK.out.lt
  have e0_ := (K2.cell 0).trans (show _ = some (Value.slice none 0 0) from rfl)
  have e1_ := (K2.cell 1).trans (show _ = some (Value.int .i64 0) from rfl)
  have f0_ := K2.frozen 0
  have f1_ := K2.frozen 1
  have HO := Lib.hid (OwnR.mono (OwnR.fgT (OwnR.fgT ho (Se.FG.set_ (b := W.heap.size) 0 (.slice A' S.length c')) K2 (by decide)) (Se.FG.set_ (b := W.heap.size) 1 (.int .i64 0)) (K2.set_ 0 (.slice A' S.length c')) (by decide)) (Nat.le_of_lt hs1))
  have K3 := Lib.hid ((K2.set_ 0 (.slice A' S.length c')).set_ 1 (.int .i64 0))
  have HB2 := Lib.hid (((hop HB.out (Nat.le_refl _) hb).setCell (p := ⟨W.heap.size, 0, none⟩) (Nat.le_refl _) (.slice A' S.length c')).setCell (p := ⟨W.heap.size, 1, none⟩) (Nat.le_refl _) (.int .i64 0))
  clear ho hb K2 HB HK hw1
  go_wp2
  refine bodyPost_ret (results_cell_row rfl _ _ W.heap.size 91 #[(.slice A' S.length c'), .int .i64 0] (0, 0) _ rfl K3.out Tryz.underlying91 rfl (by kernel_rfl)) rfl ?_
  exact ⟨(.slice A' S.length c'), rfl, HO.out, HB2.out⟩
end Go.Proofs.YtkkpmhdhoppojaaGreatDoor
