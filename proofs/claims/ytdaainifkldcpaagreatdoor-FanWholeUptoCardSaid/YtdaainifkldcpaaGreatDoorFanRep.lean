-- shaken
import Derived.Test.YtdaainifkldcpaaGreatDoorFanMath
import Derived.Test.YtdaainifkldcpaaGreatDoorStoNone
namespace Go.Proofs.YtdaainifkldcpaaGreatDoor
open Go.RowKit
set_option linter.unusedVariables false
set_option linter.unusedSimpArgs false
inductive Hops (T' : Nat) (Bs : List Nat) : World → World → Prop
  | refl (w : World) : Hops T' Bs w w
  | step {w w1 w2 : World} {b : Nat} {cur : Array Value} (h : Hops T' Bs w w1) (hb : b ∈ Bs) (hk : Blk w1 b T' cur) (hf : Se.FG b w1 w2) : Hops T' Bs w w2
  | more {w w1 w2 : World} (h : Hops T' Bs w w1) (hb : Below w1.heap.size w1 w2) : Hops T' Bs w w2
theorem Hops.keep {T' : Nat} {Bs : List Nat} {w w' : World} {P : World → Prop} (h : Hops T' Bs w w') (hp : P w) (hs : ∀ w1 w2 b cur, b ∈ Bs → Blk w1 b T' cur → Se.FG b w1 w2 → P w1 → P w2) (hm : ∀ w1 w2, Below w1.heap.size w1 w2 → P w1 → P w2) : P w' := by
  induction h with
  | refl => exact hp
  | step _ hb hk hf ih => exact hs _ _ _ _ hb hk hf ih
  | more _ hb ih => exact hm _ _ hb ih
theorem Hops.trans {T' : Nat} {Bs : List Nat} {w w1 w2 : World} (h : Hops T' Bs w w1) (h2 : Hops T' Bs w1 w2) : Hops T' Bs w w2 := by
  induction h2 with
  | refl => exact h
  | step _ hb hk hf ih => exact .step ih hb hk hf
  | more _ hb ih => exact .more ih hb
theorem Hops.size {T' : Nat} {Bs : List Nat} {w w' : World} (h : Hops T' Bs w w') : w.heap.size ≤ w'.heap.size := by
  induction h with
  | refl => exact Nat.le_refl _
  | step _ _ _ hf ih => exact Nat.le_trans ih hf.size
  | more _ hb ih => exact Nat.le_trans ih hb.size
theorem Hops.under {T' : Nat} {Bs : List Nat} {B : Nat} {w0 w w' : World} (h : Hops T' Bs w w') (hb : Below B w0 w) (hB : ∀ b ∈ Bs, B ≤ b) (hs : B ≤ w.heap.size) : Below B w0 w' := by
  have h2 : Below B w0 w' ∧ B ≤ w'.heap.size := h.keep (P := fun x => Below B w0 x ∧ B ≤ x.heap.size) ⟨hb, hs⟩
    (fun w1 w2 b cur hb _ hf hp => ⟨hf.below hp.1 (hB b hb) hp.2, Nat.le_trans hp.2 hf.size⟩)
    (fun w1 w2 hb hp => ⟨⟨hb.os.trans hp.1.os, hb.tape.trans hp.1.tape, hb.output.trans hp.1.output, Nat.le_trans hp.1.size hb.size, fun k hk => (hb.block k (Nat.lt_of_lt_of_le hk hp.2)).trans (hp.1.block k hk)⟩, Nat.le_trans hp.2 hb.size⟩)
  exact h2.1
theorem Blk.hops {T' : Nat} {Bs : List Nat} {w w' : World} {g T : Nat} {cs : Array Value} (h : Blk w g T cs) (hc : Hops T' Bs w w') (hg : g ∉ Bs) : Blk w' g T cs :=
  hc.keep (P := fun x => Blk x g T cs) h (fun w1 w2 b cur hb _ hf hp => hp.fg hf (fun e => hg (e ▸ hb))) (fun w1 w2 hb hp => hp.below hb hp.lt)
theorem OwnR.hops {α : Type} {V : α → List Value} {s : Nat} {T' : Nat} {Bs : List Nat} {w w' : World} {B T : Nat} {v : Value} {l : List α} (h : OwnR V s w B T v l) (hc : Hops T' Bs w w') (hT : T' ≠ T) : OwnR V s w' B T v l :=
  hc.keep (P := fun x => OwnR V s x B T v l) h (fun w1 w2 b cur hb hk hf hp => OwnR.fgT hp hf hk hT) (fun w1 w2 hb hp => OwnR.below hp hb)
theorem OwnE.hops {T' : Nat} {Bs : List Nat} {w w' : World} {B B' : Nat} {v : Value} {l : List EntX} (h : OwnE B w B' v l) (hc : Hops T' Bs w w') (hB : ∀ b ∈ Bs, B ≤ b) (h1 : T' ≠ 47) (h2 : T' ≠ 165) : OwnE B w' B' v l :=
  hc.keep (P := fun x => OwnE B x B' v l) h (fun w1 w2 b cur hb hk hf hp => hp.fgT hf (hB b hb) hk h1 h2) (fun w1 w2 hb hp => hp.below hb)
theorem Good.hops {T' : Nat} {Bs : List Nat} {w w' : World} {B : Nat} {x : EntX} (h : Good B w x) (hc : Hops T' Bs w w') (hB : ∀ b ∈ Bs, B ≤ b) (h2 : T' ≠ 165) : Good B w' x :=
  hc.keep (P := fun z => Good B z x) h (fun w1 w2 b cur hb hk hf hp => hp.fgT hf (hB b hb) hk h2) (fun w1 w2 hb hp => hp.below hb)
structure ReplX where
  b : Nat
  S : List RepB
  k : Nat
  L : List EntX
  rv : Value
  lv : Value
def ReplX.P (B : Nat) (w : World) (x : ReplX) : Prop := RepP B w x.b x.S x.k x.L x.rv x.lv
def ReplX.next (x : ReplX) : ReplX := ⟨x.b, x.S, x.k + 1, x.L, x.rv, x.lv⟩
def ptrV (b : Nat) : List Value := [.pointer (some ⟨b, 0, none⟩)]
def placeV (i : Nat) : List Value := [.int .i64 (i : Int)]
theorem ReplX.P.below {B : Nat} {w w' : World} {x : ReplX} (h : x.P B w) (hb : Below w.heap.size w w') : x.P B w' := RepP.below h hb
theorem ReplX.P.apart {B : Nat} {w w' : World} {x y : ReplX} (h : x.P B w) (hy : y.P B w) (hf : Se.FG y.b w w') (hxy : x.b ≠ y.b) : x.P B w' :=
  RepP.fg h hf hy.blk hxy rep_not_reply rep_not_ent rep_not_pair
def askedL (Rs : List ReplX) (ord : List Nat) (j : Nat) : List ReplX := (ord.take j).foldl (fun l i => l.modify i ReplX.next) Rs
structure RepsP (B : Nat) (w : World) (Rs : List ReplX) : Prop where
  all : ∀ x ∈ Rs, x.P B w
  apart : (Rs.map ReplX.b).Pairwise (· ≠ ·)
theorem RepsP.below {B : Nat} {w w' : World} {Rs : List ReplX} (h : RepsP B w Rs) (hb : Below w.heap.size w w') : RepsP B w' Rs := ⟨fun x hx => (h.all x hx).below hb, h.apart⟩
theorem RepsP.step {B : Nat} {w w' : World} {Rs : List ReplX} (h : RepsP B w Rs) (i : Nat) (y : ReplX) (hy : Rs[i]? = some y) (hf : Se.FG y.b w w') (hn : y.next.P B w') : RepsP B w' (Rs.modify i ReplX.next) := by
  have hi : i < Rs.length := (List.getElem?_eq_some_iff.1 hy).1
  have hmap : (Rs.modify i ReplX.next).map ReplX.b = Rs.map ReplX.b := by
    apply List.ext_getElem?
    intro k
    rw [List.getElem?_map, List.getElem?_map, List.getElem?_modify]
    rcases Rs[k]? with _ | x
    · split <;> rfl
    · split <;> rfl
  refine ⟨fun x hx => ?_, by rw [hmap]; exact h.apart⟩
  obtain ⟨k, hk⟩ := List.mem_iff_getElem?.1 hx
  rw [List.getElem?_modify] at hk
  rcases hz : Rs[k]? with _ | z
  · rw [hz] at hk
    split at hk <;> cases hk
  · rw [hz] at hk
    by_cases hik : i = k
    · subst hik
      rw [hy] at hz
      injection hz with hz
      subst hz
      have h3 : (if i = i then y.next else y) = x := Option.some.inj hk
      rw [if_pos rfl] at h3
      rw [← h3]
      exact hn
    · have h3 : (if i = k then z.next else z) = x := Option.some.inj hk
      rw [if_neg hik] at h3
      subst h3
      refine (h.all z (List.mem_of_getElem? hz)).apart (h.all y (List.mem_of_getElem? hy)) hf (fun e => ?_)
      have hp := List.pairwise_iff_getElem.1 h.apart
      have h1 : (Rs.map ReplX.b)[i]? = some y.b := by rw [List.getElem?_map, hy]; rfl
      have h2 : (Rs.map ReplX.b)[k]? = some z.b := by rw [List.getElem?_map, hz]; rfl
      obtain ⟨l1, e1⟩ := List.getElem?_eq_some_iff.1 h1
      obtain ⟨l2, e2⟩ := List.getElem?_eq_some_iff.1 h2
      rcases Nat.lt_or_gt_of_ne hik with h3 | h3
      · exact hp i k l1 l2 h3 (by rw [e1, e2, e])
      · exact hp k i l2 l1 h3 (by rw [e1, e2, e])
structure FanP (B : Nat) (w : World) (f : Nat) (Rs : List ReplX) (ord : List Nat) (rv ov : Value) : Prop where
  blk : Blk w f 115 #[rv, ov]
  row : OwnR ptrV 1 w B 86 rv (Rs.map ReplX.b)
  plc : OwnR placeV 1 w B 3 ov ord
  reps : RepsP B w Rs
  low : B ≤ f
  ordok : ∀ i ∈ ord, i < Rs.length
theorem FanP.below {B : Nat} {w w' : World} {f : Nat} {Rs : List ReplX} {ord : List Nat} {rv ov : Value} (h : FanP B w f Rs ord rv ov) (hb : Below w.heap.size w w') : FanP B w' f Rs ord rv ov :=
  ⟨h.blk.below hb h.blk.lt, OwnR.below h.row hb, OwnR.below h.plc hb, h.reps.below hb, h.low, h.ordok⟩
theorem rep_not_fan : 140 ≠ 115 := by decide
theorem rep_not_ptr : 140 ≠ 86 := by decide
theorem rep_not_int : 140 ≠ 3 := by decide
theorem blk_apart {w : World} {f b T T' : Nat} {cs cur : Array Value} (h : Blk w f T cs) (hb : Blk w b T' cur) (hT : T' ≠ T) : f ≠ b := fun e => by
  subst e
  unfold Blk at h hb
  rw [hb] at h
  injection h with h
  injection h with _ h _
  exact hT h
theorem FanP.step {B : Nat} {w w' : World} {f : Nat} {Rs : List ReplX} {ord : List Nat} {rv ov : Value} (h : FanP B w f Rs ord rv ov) (i : Nat) (y : ReplX) (hy : Rs[i]? = some y) (hf : Se.FG y.b w w') (hn : y.next.P B w') : FanP B w' f (Rs.modify i ReplX.next) ord rv ov := by
  have hyp := h.reps.all y (List.mem_of_getElem? hy)
  have hmap : (Rs.modify i ReplX.next).map ReplX.b = Rs.map ReplX.b := by
    apply List.ext_getElem?
    intro k
    rw [List.getElem?_map, List.getElem?_map, List.getElem?_modify]
    rcases Rs[k]? with _ | x
    · split <;> rfl
    · split <;> rfl
  exact ⟨h.blk.fg hf (blk_apart h.blk hyp.blk rep_not_fan), by rw [hmap]; exact OwnR.fgT h.row hf hyp.blk rep_not_ptr, OwnR.fgT h.plc hf hyp.blk rep_not_int, h.reps.step i y hy hf hn, h.low, fun k hk => by rw [List.length_modify]; exact h.ordok k hk⟩
end Go.Proofs.YtdaainifkldcpaaGreatDoor
