-- shaken
import Derived.Test.YtdaainifkldcpaaGreatDoorFanAnsw
namespace Go.Proofs.YtdaainifkldcpaaGreatDoor
open Go.RowKit
set_option linter.unusedVariables false
set_option linter.unusedSimpArgs false
def cutW (w : World) (G : Nat) : World := { w with heap := w.heap.extract 0 G }
theorem cut_size {w : World} {G : Nat} (h : G ≤ w.heap.size) : (cutW w G).heap.size = G := by
  show (w.heap.extract 0 G).size = G
  rw [Array.size_extract]
  omega
theorem cut_at {w : World} {G k : Nat} (hk : k < G) : (cutW w G).heap[k]? = w.heap[k]? := by
  show (w.heap.extract 0 G)[k]? = _
  rw [Array.getElem?_extract]
  rcases Nat.lt_or_ge k w.heap.size with h | h
  · rw [if_pos (by omega), Nat.zero_add]
  · rw [if_neg (by omega), Array.getElem?_eq_none h]
theorem cut_below {w : World} {G : Nat} (h : G ≤ w.heap.size) : Below (cutW w G).heap.size (cutW w G) w :=
  ⟨rfl, rfl, rfl, by rw [cut_size h]; exact h, fun k hk => (cut_at (by rw [cut_size h] at hk; exact hk)).symm⟩
theorem cut_fg {b : Nat} {u w w' : World} (h : Below u.heap.size u w) (hf : Se.FG b w w') : Se.FG b u (cutW w' u.heap.size) :=
  ⟨hf.os.trans h.os, hf.tape.trans h.tape, hf.output.trans h.output, by rw [cut_size (Nat.le_trans h.size hf.size)]; exact Nat.le_refl _, fun k hk hkb =>
    (cut_at hk).trans ((hf.block k (Nat.lt_of_lt_of_le hk h.size) hkb).trans (h.block k hk))⟩
structure GhostF (B : Nat) (G : Nat) (Bs : List Nat) (W u w : World) (f : Nat) (Rs : List ReplX) (ord : List Nat) (rv ov : Value) (AO : World → Prop) (B1 : Nat) (af : EntX) : Prop where
  size : u.heap.size = G
  under : Below u.heap.size u w
  fan : FanP B u f Rs ord rv ov
  ao : AO u
  aft : Good B1 u af
  hops : Hops 140 Bs W u
theorem GhostF.start {B B1 : Nat} {W : World} {f : Nat} {Rs : List ReplX} {ord : List Nat} {rv ov : Value} {AO : World → Prop} {af : EntX} (Bs : List Nat) (h : FanP B W f Rs ord rv ov) (ha : AO W) (hg : Good B1 W af) : GhostF B W.heap.size Bs W W W f Rs ord rv ov AO B1 af :=
  ⟨rfl, Below.refl _ _, h, ha, hg, .refl W⟩
theorem GhostF.more {B B1 G : Nat} {Bs : List Nat} {W u w w' : World} {f : Nat} {Rs : List ReplX} {ord : List Nat} {rv ov : Value} {AO : World → Prop} {af : EntX} (h : GhostF B G Bs W u w f Rs ord rv ov AO B1 af) (hb : Below G w w') : GhostF B G Bs W u w' f Rs ord rv ov AO B1 af :=
  ⟨h.size, h.under.trans (by rw [h.size]; exact hb), h.fan, h.ao, h.aft, h.hops⟩
theorem GhostF.step {B B1 G : Nat} {Bs : List Nat} {W u w w' : World} {f : Nat} {Rs : List ReplX} {ord : List Nat} {rv ov : Value} {AO : World → Prop} {af : EntX} (h : GhostF B G Bs W u w f Rs ord rv ov AO B1 af) (i : Nat) (y : ReplX) (hy : Rs[i]? = some y) (hB : y.b ∈ Bs) (hB1 : B1 ≤ y.b) (hao : ∀ w w' cur, AO w → Se.FG y.b w w' → Blk w y.b 140 cur → AO w')
    (hf : Se.FG y.b w w') (hn : y.next.P B w') : GhostF B G Bs W (cutW w' G) w' f (Rs.modify i ReplX.next) ord rv ov AO B1 af := by
  have hyp := h.fan.reps.all y (List.mem_of_getElem? hy)
  have hfg := cut_fg h.under hf
  rw [h.size] at hfg
  have hGw : G ≤ w'.heap.size := by have := h.under.size; have := hf.size; rw [h.size] at *; omega
  have hyb : y.b < G := by rw [← h.size]; exact hyp.blk.lt
  refine ⟨cut_size hGw, cut_below hGw, h.fan.step i y hy hfg ?_, hao _ _ _ h.ao hfg hyp.blk, h.aft.fgT hfg hB1 hyp.blk rep_not_pair, .step h.hops hB hyp.blk hfg⟩
  exact RepP.step hyp hfg ((cut_at hyb).trans hn.blk)
theorem GhostF.rep {B B1 G : Nat} {Bs : List Nat} {W u w : World} {f : Nat} {Rs : List ReplX} {ord : List Nat} {rv ov : Value} {AO : World → Prop} {af : EntX} (h : GhostF B G Bs W u w f Rs ord rv ov AO B1 af) {y : ReplX} (hy : y ∈ Rs) : y.P B w := (h.fan.reps.all y hy).below h.under
theorem GhostF.big {B B1 G : Nat} {Bs : List Nat} {W u w : World} {f : Nat} {Rs : List ReplX} {ord : List Nat} {rv ov : Value} {AO : World → Prop} {af : EntX} (h : GhostF B G Bs W u w f Rs ord rv ov AO B1 af) : G ≤ w.heap.size := by have := h.under.size; rw [h.size] at this; exact this
theorem GhostF.more2 {B B1 G : Nat} {Bs : List Nat} {W u w w' : World} {f : Nat} {Rs : List ReplX} {ord : List Nat} {rv ov : Value} {AO : World → Prop} {af : EntX} (h : GhostF B G Bs W u w f Rs ord rv ov AO B1 af) (hb : Below w.heap.size w w') : GhostF B G Bs W u w' f Rs ord rv ov AO B1 af :=
  h.more (hb.mono h.big)
theorem GhostF.ptr {B B1 G : Nat} {Bs : List Nat} {W u w : World} {f N rc : Nat} {RA : Option Addr} {Xs : List ReplX} {ord : List Nat} {ov : Value} {AO : World → Prop} {af : EntX} (h : GhostF B G Bs W u w f Xs ord (.slice RA N rc) ov AO B1 af) {i : Nat} {y : ReplX} (hy : Xs[i]? = some y) :
    ∃ rb, RA = some ⟨rb, 0, none⟩ ∧ w.cell? ⟨rb, i, none⟩ = some (.pointer (some ⟨y.b, 0, none⟩)) := by
  have h1 := (h.fan.below h.under).row
  have hi := (List.getElem?_eq_some_iff.1 hy).1
  have hpos : 0 < (Xs.map ReplX.b).length := by rw [List.length_map]; omega
  obtain ⟨g, cap, e, _, _, _, hc⟩ := OwnR.at_ (V := ptrV) (fun _ => rfl) h1 hpos
  injection e with e1 _ _
  subst e1
  have h2 := hc i 0 y.b (by rw [List.getElem?_map, hy]; rfl) (by decide)
  rw [Nat.mul_one, Nat.add_zero] at h2
  exact ⟨g, rfl, h2⟩
theorem GhostF.plc {B B1 G : Nat} {Bs : List Nat} {W u w : World} {f n c : Nat} {A : Option Addr} {Xs : List ReplX} {ord : List Nat} {rv : Value} {AO : World → Prop} {af : EntX} (h : GhostF B G Bs W u w f Xs ord rv (.slice A n c) AO B1 af) {j i : Nat} (hj : ord[j]? = some i) :
    ∃ pb, A = some ⟨pb, 0, none⟩ ∧ w.cell? ⟨pb, j, none⟩ = some (.int .i64 (i : Int)) := by
  have h1 := (h.fan.below h.under).plc
  have hi := (List.getElem?_eq_some_iff.1 hj).1
  have hpos : 0 < ord.length := by omega
  obtain ⟨g, cap, e, _, _, _, hc⟩ := OwnR.at_ (V := placeV) (fun _ => rfl) h1 hpos
  injection e with e1 _ _
  subst e1
  have h2 := hc j 0 i hj (by decide)
  rw [Nat.mul_one, Nat.add_zero] at h2
  exact ⟨g, rfl, h2⟩
theorem GhostF.blk {B B1 G : Nat} {Bs : List Nat} {W u w : World} {f : Nat} {Rs : List ReplX} {ord : List Nat} {rv ov : Value} {AO : World → Prop} {af : EntX} (h : GhostF B G Bs W u w f Rs ord rv ov AO B1 af) : Blk w f 115 #[rv, ov] := (h.fan.below h.under).blk
end Go.Proofs.YtdaainifkldcpaaGreatDoor
