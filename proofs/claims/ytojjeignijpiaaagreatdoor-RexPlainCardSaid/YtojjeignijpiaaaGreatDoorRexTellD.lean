/- How an expression is told: the walks of within and node.
   How a repetition is told: the walk of repeat.
   How an expression is told: the walk of node, and of Put. -/
import Derived.Test.YtojjeignijpiaaaGreatDoorRexTellW
namespace Go.Proofs.YtojjeignijpiaaaGreatDoor
open Go.RowKit
set_option linter.unusedVariables false
set_option linter.unusedSimpArgs false

/-- an expression that can be told: what is repeated is there, and all numbers are numbers -/
inductive OkP : NodeX → Prop where
  | mk {k : Int} {s : Nat} {mn mx : Int} {A : Option Addr} {n c : Nat} {l : List NodeX} (hm : -9223372036854775808 ≤ mn ∧ mn ≤ 9223372036854775807) (hx : -9223372036854775808 ≤ mx ∧ mx ≤ 9223372036854775807) (h6 : k = 6 → l ≠ []) (hk : ∀ x, x ∈ l → OkP x) : OkP (.mk k s mn mx A n c l)
theorem NF.parts {x : NodeT} (h : NF x) : (-9223372036854775808 ≤ x.mn ∧ x.mn ≤ 9223372036854775807) ∧ (-9223372036854775808 ≤ x.mx ∧ x.mx ≤ 9223372036854775807) ∧ (x.kind = 6 → x.kids ≠ []) ∧ ∀ y, y ∈ x.kids → NF y := by
  cases h with
  | nil => exact ⟨by decide, by decide, (fun h => by cases h), (fun y h => by cases h)⟩
  | one => exact ⟨(by show (-9223372036854775808 : Int) ≤ 0 ∧ (0 : Int) ≤ _; decide), (by show (-9223372036854775808 : Int) ≤ 0 ∧ (0 : Int) ≤ _; decide), (fun h => by cases h), (fun y h => by cases h)⟩
  | beg => exact ⟨by decide, by decide, (fun h => by cases h), (fun y h => by cases h)⟩
  | fin => exact ⟨by decide, by decide, (fun h => by cases h), (fun y h => by cases h)⟩
  | cat _ _ hl => exact ⟨(by show (-9223372036854775808 : Int) ≤ 0 ∧ (0 : Int) ≤ _; decide), (by show (-9223372036854775808 : Int) ≤ 0 ∧ (0 : Int) ≤ _; decide), (fun h => by cases h), hl⟩
  | alt _ _ hl => exact ⟨(by show (-9223372036854775808 : Int) ≤ 0 ∧ (0 : Int) ≤ _; decide), (by show (-9223372036854775808 : Int) ≤ 0 ∧ (0 : Int) ≤ _; decide), (fun h => by cases h), hl⟩
  | rep hx h0 h20 hn =>
    rename_i x m n
    refine ⟨?_, ?_, (fun _ h => by cases h), fun y hy => ?_⟩
    · show -9223372036854775808 ≤ m ∧ m ≤ 9223372036854775807
      omega
    · show -9223372036854775808 ≤ n ∧ n ≤ 9223372036854775807
      omega
    · rw [List.mem_singleton.1 hy]; exact hx
theorem NF.okP : ∀ (m : Nat) (x : NodeX), SizeOf.sizeOf x < m → NF x.t → OkP x := by
  intro m
  induction m with
  | zero => exact fun x h => absurd h (Nat.not_lt_zero _)
  | succ m ih =>
    intro x h hx
    obtain ⟨p1, p2, p3, p4⟩ := hx.parts
    rw [NodeX.t_kids] at p3 p4
    obtain ⟨xk, xs, xm, xx, xA, xn, xc, xl⟩ := x
    refine .mk p1 p2 (fun h6 e => p3 h6 (by rw [show (NodeX.mk xk xs xm xx xA xn xc xl).kids = xl from rfl, e]; rfl)) (fun y hy => ih y ?_ (p4 _ (List.mem_map.2 ⟨y, hy, rfl⟩)))
    have h1 := List.sizeOf_lt_of_mem hy
    simp at h1 h
    omega
theorem NF.ok {x : NodeX} (h : NF x.t) : OkP x := NF.okP _ x (Nat.lt_succ_self _) h
theorem OkP.kid {x y : NodeX} (h : OkP x) (hy : y ∈ x.kids) : OkP y := by
  cases h with
  | mk _ _ _ hk => exact hk y hy
theorem GoodN.wrote {B b : Nat} {w w' : World} {x : NodeX} (h : GoodN w (fun g => g < B) x) (k : Wrote B b w w') : GoodN w' (fun g => g < B) x := h.frame k.size (fun g hg _ => k.below.block g hg)
theorem LibB.wrote {B b : Nat} {w w' : World} (h : LibB B w) (k : Wrote B b w w') : LibB B w' := h.next k.below
/-! ### Texts of the first kids -/
theorem catsT_app (l m : List NodeT) : catsT (l ++ m) = catsT l ++ catsT m := by
  induction l with
  | nil => rw [catsT_nil]; rfl
  | cons x l ih => rw [List.cons_append, catsT_cons, catsT_cons, ih, List.append_assoc]
theorem barsT_app (l m : List NodeT) : barsT (l ++ m) = barsT l ++ barsT m := by
  induction l with
  | nil => rw [barsT_nil]; rfl
  | cons x l ih => rw [List.cons_append, barsT_cons, barsT_cons, ih, List.cons_append, List.append_assoc]
theorem catsT_next {l : List NodeX} {j : Nat} {p : NodeX} (h : l[j]? = some p) : catsT ((l.take (j + 1)).map NodeX.t) = catsT ((l.take j).map NodeX.t) ++ inB (decide (p.t.kind = 5)) (putT p.t) := by
  rw [List.take_add_one, h, List.map_append, catsT_app]
  show _ ++ catsT [p.t] = _
  rw [catsT_cons, catsT_nil, List.append_nil]
theorem catsT_pre (l : List NodeX) (j : Nat) : (catsT ((l.take j).map NodeX.t)).length ≤ (catsT (l.map NodeX.t)).length := by
  conv => rhs; rw [← List.take_append_drop j l, List.map_append, catsT_app, List.length_append]
  omega
/-- the first j of a choice, with what stands ahead of the next one -/
theorem altsT_snoc (l : List NodeT) (x : NodeT) : altsT (l ++ [x]) = altsT l ++ ((if l.length = 0 then [] else [124]) ++ putT x) := by
  cases l with
  | nil => rw [List.nil_append, altsT_cons, altsT_nil, barsT_nil, List.append_nil]; rfl
  | cons y l =>
    rw [List.cons_append, altsT_cons, altsT_cons, barsT_app, barsT_cons, barsT_nil, List.append_nil, List.append_assoc]
    rfl
theorem altsT_next {l : List NodeX} {j : Nat} {p : NodeX} (h : l[j]? = some p) : altsT ((l.take (j + 1)).map NodeX.t) = altsT ((l.take j).map NodeX.t) ++ ((if j = 0 then [] else [124]) ++ putT p.t) := by
  have hj : j < l.length := by
    rcases Nat.lt_or_ge j l.length with h1 | h1
    · exact h1
    · rw [List.getElem?_eq_none h1] at h; cases h
  rw [List.take_add_one, h, List.map_append]
  show altsT (_ ++ [p.t]) = _
  rw [altsT_snoc, List.length_map, List.length_take, Nat.min_eq_left (by omega)]
theorem altsT_app_len (l m : List NodeT) : (altsT l).length ≤ (altsT (l ++ m)).length := by
  cases l with
  | nil => rw [altsT_nil]; exact Nat.zero_le _
  | cons y l => rw [List.cons_append, altsT_cons, altsT_cons, barsT_app]; simp
theorem altsT_pre (l : List NodeX) (j : Nat) : (altsT ((l.take j).map NodeX.t)).length ≤ (altsT (l.map NodeX.t)).length := by
  conv => rhs; rw [← List.take_append_drop j l, List.map_append]
  exact altsT_app_len _ _

def NodeW (x : NodeX) : Prop := ∀ (B b : Nat) (l : List UInt8) (W : World), GoodN W (fun g => g < B) x → OkP x → Wr B b l W → LibB B W → l.length + (putT x.t).length ≤ 140737488355328 → B ≤ W.heap.size →
  Calls Tryz.prog 26 #[.pointer (some ⟨b, 0, none⟩), .agg (nodeC x)] W fun e w' => e = .returned (.tuple #[]) ∧ Wr B b (l ++ putT x.t) w' ∧ Wrote B b W w'
def WithinW (x : NodeX) : Prop := ∀ (br : Bool) (B b : Nat) (l : List UInt8) (W : World), GoodN W (fun g => g < B) x → OkP x → Wr B b l W → LibB B W → l.length + (inB br (putT x.t)).length ≤ 140737488355328 → B ≤ W.heap.size →
  Calls Tryz.prog 38 #[.pointer (some ⟨b, 0, none⟩), .agg (nodeC x), .bool br] W fun e w' => e = .returned (.tuple #[]) ∧ Wr B b (l ++ inB br (putT x.t)) w' ∧ Wrote B b W w'
set_option maxRecDepth 100000 in
set_option maxHeartbeats 3200000 in
theorem within_any (x : NodeX) (HN : NodeW x) : WithinW x := by
  intro br B b l W hg ho h hl hlen hB
  have hbW := h.lt
  have hWo := Wrote.alloc (b := b) W hB (.cells (nodeC x) 36)
  have HWo := Lib.hid hWo
  have hk0 := Blk.new W 36 (nodeC x)
  have HK0 := Lib.hid hk0
  have H0 := Lib.hid (h.alloc (.cells (nodeC x) 36))
  have HG := Lib.hid (hg.wrote hWo)
  have HL := Lib.hid (hl.wrote hWo)
  have HO := Lib.hid ho
  have HB0 := Lib.hid (show B ≤ (W.alloc (.cells (nodeC x) 36)).heap.size by simp; omega)
  obtain ⟨T, hT⟩ : ∃ T, putT x.t = T := ⟨_, rfl⟩
  rw [hT] at hlen ⊢
  replace HN := Lib.hid (fun B b l W h1 h2 h3 h4 h5 h6 => by have := HN B b l W h1 h2 h3 h4 h5 h6; rw [hT] at this; exact this)
  have hTT := Lib.hid hT
  clear h hl hg ho hWo hT
  cases br with
  | true =>
    rw [inB_true] at hlen ⊢
    have W1 := Lib.hid (wr_byte B b l 40 40 rfl _ H0.out (by simp only [List.length_cons, List.length_append] at hlen; omega) HB0.out)
    have HLEN := Lib.hid hlen
    clear hlen hk0
    unfold nodeC nodeV
    go_enter Tryz.func38, Tryz.ntmps38
    go_wp2_with fail
    refine W1.out.mono ?_
    rintro e w1 ⟨rfl, h1, k1⟩
    have hk1 : Blk w1 W.heap.size 36 (nodeC x) := k1.blk (by decide) (by omega) HK0.out
    obtain ⟨⟨a0, a1, a2, a3, a4, a5, a6, a7⟩, _⟩ := node_cells hk1
    have W2 := Lib.hid (HN.out B b (l ++ [40]) w1 (HG.out.wrote k1) HO.out h1 (HL.out.wrote k1) (by rw [hTT.out]; have := HLEN.out; simp only [List.length_cons, List.length_append] at this ⊢; simp at this ⊢; omega) (by have := k1.size; have := HB0.out; omega))
    have HK1 := Lib.hid (HWo.out.trans k1)
    unfold nodeC nodeV at W2
    clear hk1 k1 h1 W1
    go_wp2_with fail
    refine W2.out.mono ?_
    rintro e w2 ⟨rfl, h2, k2⟩
    have W3 := Lib.hid (wr_byte B b (l ++ [40] ++ T) 41 41 rfl w2 h2 (by have := HLEN.out; simp only [List.length_cons, List.length_append] at this ⊢; simp at this ⊢; omega) (by have := k2.size; have := HK1.out.size; omega))
    have HK2 := Lib.hid (HK1.out.trans k2)
    clear k2 h2 W2 a0 a1 a2 a3 a4 a5 a6 a7
    go_wp2_with fail
    refine W3.out.mono ?_
    rintro e w3 ⟨rfl, h3, k3⟩
    have H3 := Lib.hid h3
    have HK3 := Lib.hid (HK2.out.trans k3)
    clear h3 k3
    go_wp2
    go_end0
    have h6 := H3.out
    have e6 : l ++ [40] ++ T ++ [41] = l ++ 40 :: (T ++ [41]) := by simp
    rw [e6] at h6
    exact ⟨rfl, h6, HK3.out⟩
  | false =>
    rw [inB_false] at hlen ⊢
    obtain ⟨⟨a0, a1, a2, a3, a4, a5, a6, a7⟩, _⟩ := node_cells hk0
    have W2 := Lib.hid (HN.out B b l _ HG.out HO.out H0.out HL.out (by rw [hTT.out]; exact hlen) HB0.out)
    clear hlen hk0
    unfold nodeC nodeV at *
    go_enter Tryz.func38, Tryz.ntmps38
    go_wp2_with fail
    refine W2.out.mono ?_
    rintro e w2 ⟨rfl, h2, k2⟩
    have H3 := Lib.hid h2
    have HK3 := Lib.hid (HWo.out.trans k2)
    clear k2 h2 W2 a0 a1 a2 a3 a4 a5 a6 a7
    go_wp2
    go_end0
    exact ⟨rfl, H3.out, HK3.out⟩
end Go.Proofs.YtojjeignijpiaaaGreatDoor
namespace Go.Proofs.YtojjeignijpiaaaGreatDoor
open Go.RowKit
set_option linter.unusedVariables false
set_option linter.unusedSimpArgs false

theorem Wr.below {B b : Nat} {l : List UInt8} {w w' : World} (h : Wr B b l w) (hb : Below w.heap.size w w') : Wr B b l w' := h.later hb
def RepW (x : NodeX) : Prop := ∀ (B b : Nat) (l : List UInt8) (W : World), GoodN W (fun g => g < B) x → OkP x → Wr B b l W → LibB B W → l.length + (firstP (x.kids.map NodeX.t) ++ timesT x.mn x.mx).length ≤ 140737488355328 → B ≤ W.heap.size → x.kids ≠ [] →
  Calls Tryz.prog 39 #[.pointer (some ⟨b, 0, none⟩), .agg (nodeC x)] W fun e w' => e = .returned (.tuple #[]) ∧ Wr B b (l ++ (firstP (x.kids.map NodeX.t) ++ timesT x.mn x.mx)) w' ∧ Wrote B b W w'
set_option maxRecDepth 100000 in
set_option maxHeartbeats 6400000 in
theorem repeat_any (x : NodeX) (HN : ∀ y, y ∈ x.kids → WithinW y) : RepW x := by
  intro B b l W hg ho h hl hlen hB hne
  have hbW := h.lt
  have hrow := hg.row
  have hkid := fun y hy => hg.kid (y := y) hy
  have hoks := fun y hy => ho.kid (y := y) hy
  have hcap := hg.capL
  have hlenM := hg.lenM
  have hbds : (-9223372036854775808 ≤ x.mn ∧ x.mn ≤ 9223372036854775807) ∧ (-9223372036854775808 ≤ x.mx ∧ x.mx ≤ 9223372036854775807) := by
    cases ho with
    | mk h1 h2 _ _ => exact ⟨h1, h2⟩
  have hP : 0 < x.n → ∀ a, x.A = some a → a.block < B := by
    cases hg with
    | mk _ _ _ _ h5 _ => exact h5
  obtain ⟨xk, xs, xm, xx, xA, xn, xc, xl⟩ := x
  simp only [NodeX.kind, NodeX.set, NodeX.mn, NodeX.mx, NodeX.A, NodeX.n, NodeX.c, NodeX.kids] at hrow hkid hoks hcap hlenM hbds hP HN hlen hne ⊢
  obtain ⟨y, ys, rfl⟩ : ∃ y ys, xl = y :: ys := by
    cases xl with
    | nil => exact absurd rfl hne
    | cons y ys => exact ⟨y, ys, rfl⟩
  have hn0 : 0 < xn := by have := hrow.1; simp at this; omega
  have hnI : (0 : Int) < (xn : Int) := by omega
  obtain ⟨a, off, rfl, hab, hc⟩ := hrow.2 hn0
  have haB : a < B := hP hn0 _ rfl
  rw [List.map_cons, firstP_cons, NodeX.t_kind] at hlen ⊢
  have hWo : Wrote B b W ((W.alloc (.cells (nodeC (NodeX.mk xk xs xm xx (some ⟨a, off, none⟩) xn xc (y :: ys))) 36)).alloc (.cells (nodeC y) 36)) := (Wrote.alloc W hB _).trans (Wrote.alloc _ (by simp; omega) _)
  have YG := Lib.hid ((hkid y List.mem_cons_self).wrote hWo)
  have YO := Lib.hid (hoks y List.mem_cons_self)
  have HW0 := Lib.hid ((h.alloc (.cells (nodeC (NodeX.mk xk xs xm xx (some ⟨a, off, none⟩) xn xc (y :: ys))) 36)).alloc (.cells (nodeC y) 36))
  have HLB := Lib.hid (hl.wrote hWo)
  have HLB0 := Lib.hid hl
  have YW := Lib.hid (HN y List.mem_cons_self)
  have HBX := Lib.hid ((Blk.new W 36 (nodeC (NodeX.mk xk xs xm xx (some ⟨a, off, none⟩) xn xc (y :: ys)))).alloc (.cells (nodeC y) 36))
  have HBY := Lib.hid (new_at (W.alloc (.cells (nodeC (NodeX.mk xk xs xm xx (some ⟨a, off, none⟩) xn xc (y :: ys))) 36)) 36 (nodeC y) (W.heap.size + 1) (by simp))
  have HWo := Lib.hid hWo
  have hBWa : B ≤ W.heap.size + 1 + 1 := by omega
  have htm := fun w hl => times_any xm xx hbds.1.1 hbds.1.2 hbds.2.1 hbds.2.2 w hl
  have HTM := Lib.hid htm
  obtain ⟨T, hT⟩ : ∃ T, timesT xm xx = T := ⟨_, rfl⟩
  rw [hT] at HTM hlen ⊢
  have c0 := hc 0 0 y rfl (by decide)
  have c1 := hc 0 1 y rfl (by decide)
  have c2 := hc 0 2 y rfl (by decide)
  have c3 := hc 0 3 y rfl (by decide)
  have c4 := hc 0 4 y rfl (by decide)
  have c5 := hc 0 5 y rfl (by decide)
  have c6 := hc 0 6 y rfl (by decide)
  have c7 := hc 0 7 y rfl (by decide)
  simp only [Nat.zero_mul, Nat.add_zero] at c0 c1 c2 c3 c4 c5 c6 c7
  simp only [nodeV, List.getElem?_cons_zero, List.getElem?_cons_succ] at c0 c1 c2 c3 c4 c5 c6 c7
  obtain ⟨⟨a0, a1, a2, a3, a4, a5, a6, a7⟩, _⟩ := node_cells HBX.out
  obtain ⟨⟨b0, b1, b2, b3, b4, b5, b6, b7⟩, _⟩ := node_cells HBY.out
  obtain ⟨⟨z0, z1, z2, z3, z4, z5, z6, z7⟩, _⟩ := node_cells ((Blk.new W 36 (nodeC (NodeX.mk xk xs xm xx (some ⟨a, off, none⟩) xn xc (y :: ys)))).alloc (.cells #[.int .i64 0, .int .u64 0, .int .u64 0, .int .u64 0, .int .u64 0, .int .i64 0, .int .i64 0, .slice none 0 0] 36))
  simp only [NodeX.kind, NodeX.set, NodeX.mn, NodeX.mx, NodeX.A, NodeX.n, NodeX.c] at a0 a1 a2 a3 a4 a5 a6 a7 z0 z1 z2 z3 z4 z5 z6 z7
  clear hT htm h hl hg ho hrow hkid hoks hcap hlenM hbds hP HN hc hWo hne
  have ebr : (decide (y.kind = 0) || decide (4 ≤ y.kind)) = (y.kind == 0 || decide (4 ≤ y.kind)) := rfl
  rw [ebr] at hlen ⊢
  obtain ⟨U, hU⟩ : ∃ U, inB (y.kind == 0 || decide (4 ≤ y.kind)) (putT y.t) = U := ⟨_, rfl⟩
  rw [hU] at hlen ⊢
  rw [List.length_append] at hlen
  have W1 := YW.out (y.kind == 0 || decide (4 ≤ y.kind)) B b l _ YG.out YO.out HW0.out HLB.out (by rw [hU]; omega) (by simp; omega)
  rw [hU] at W1
  have HLEN := Lib.hid hlen
  replace W1 := Lib.hid W1
  clear hlen hU ebr YW YG YO HW0 HLB
  obtain ⟨CX, hCX⟩ : ∃ CX, nodeC (NodeX.mk xk xs xm xx (some ⟨a, off, none⟩) xn xc (y :: ys)) = CX := ⟨_, rfl⟩
  have HBXX := Lib.hid (show (CX = nodeC (NodeX.mk xk xs xm xx (some ⟨a, off, none⟩) xn xc (y :: ys))) from hCX.symm)
  rw [hCX] at W1 HBX HBY HWo a0 a1 a2 a3 a4 a5 a6 a7 z0 z1 z2 z3 z4 z5 z6 z7 b0 b1 b2 b3 b4 b5 b6 b7 ⊢
  clear hCX
  unfold nodeC nodeV at W1 HWo HBX
  obtain ⟨yk, hyk⟩ : ∃ k, y.kind = k := ⟨_, rfl⟩
  rw [hyk] at W1 HWo HBX c0
  clear hyk b0 b1 b2 b3 b4 b5 b6 b7
  by_cases hy0 : yk = 0
  · subst hy0
    rw [show ((0 : Int) == 0 || decide (4 ≤ (0 : Int))) = true from rfl] at W1
    go_enter Tryz.func39, Tryz.ntmps39
    go_wp2_with fail
    refine W1.out.mono ?_
    rintro e w1 ⟨rfl, h1, k1⟩
    have H1 := Lib.hid h1
    have HK1 := Lib.hid (HWo.out.trans k1)
    have hk1 : Blk w1 W.heap.size 36 CX := k1.blk (by decide) (by omega) HBX.out
    have S0 : (Blk w1.drew W.heap.size 36 CX ∧ (w1.drew.cell? ⟨W.heap.size, 0, none⟩ = some (.int .i64 xk) ∧ w1.drew.cell? ⟨W.heap.size, 1, none⟩ = some (.int .u64 (word xs 0 : Nat)) ∧ w1.drew.cell? ⟨W.heap.size, 2, none⟩ = some (.int .u64 (word xs 1 : Nat)) ∧ w1.drew.cell? ⟨W.heap.size, 3, none⟩ = some (.int .u64 (word xs 2 : Nat)) ∧ w1.drew.cell? ⟨W.heap.size, 4, none⟩ = some (.int .u64 (word xs 3 : Nat)) ∧ w1.drew.cell? ⟨W.heap.size, 5, none⟩ = some (.int .i64 xm) ∧ w1.drew.cell? ⟨W.heap.size, 6, none⟩ = some (.int .i64 xx) ∧ w1.drew.cell? ⟨W.heap.size, 7, none⟩ = some (.slice (some ⟨a, off, none⟩) xn xc)) ∧ Wrote B b W w1.drew) := ⟨hk1, (by have := node_cells (show Blk w1.drew W.heap.size 36 (nodeC (NodeX.mk xk xs xm xx (some ⟨a, off, none⟩) xn xc (y :: ys))) by rw [← HBXX.out]; exact hk1); exact this.1), HK1.out.trans (Wrote.of (below_drewN (Below.refl _ _) 1) (Nat.le_trans hB HK1.out.size))⟩
    have HS := Lib.hid (show ∀ w w', (Blk w W.heap.size 36 CX ∧ (w.cell? ⟨W.heap.size, 0, none⟩ = some (.int .i64 xk) ∧ w.cell? ⟨W.heap.size, 1, none⟩ = some (.int .u64 (word xs 0 : Nat)) ∧ w.cell? ⟨W.heap.size, 2, none⟩ = some (.int .u64 (word xs 1 : Nat)) ∧ w.cell? ⟨W.heap.size, 3, none⟩ = some (.int .u64 (word xs 2 : Nat)) ∧ w.cell? ⟨W.heap.size, 4, none⟩ = some (.int .u64 (word xs 3 : Nat)) ∧ w.cell? ⟨W.heap.size, 5, none⟩ = some (.int .i64 xm) ∧ w.cell? ⟨W.heap.size, 6, none⟩ = some (.int .i64 xx) ∧ w.cell? ⟨W.heap.size, 7, none⟩ = some (.slice (some ⟨a, off, none⟩) xn xc)) ∧ Wrote B b W w) → Below w.heap.size w w' → (Blk w' W.heap.size 36 CX ∧ (w'.cell? ⟨W.heap.size, 0, none⟩ = some (.int .i64 xk) ∧ w'.cell? ⟨W.heap.size, 1, none⟩ = some (.int .u64 (word xs 0 : Nat)) ∧ w'.cell? ⟨W.heap.size, 2, none⟩ = some (.int .u64 (word xs 1 : Nat)) ∧ w'.cell? ⟨W.heap.size, 3, none⟩ = some (.int .u64 (word xs 2 : Nat)) ∧ w'.cell? ⟨W.heap.size, 4, none⟩ = some (.int .u64 (word xs 3 : Nat)) ∧ w'.cell? ⟨W.heap.size, 5, none⟩ = some (.int .i64 xm) ∧ w'.cell? ⟨W.heap.size, 6, none⟩ = some (.int .i64 xx) ∧ w'.cell? ⟨W.heap.size, 7, none⟩ = some (.slice (some ⟨a, off, none⟩) xn xc)) ∧ Wrote B b W w') from fun w w' h hb => ⟨h.1.below hb h.1.lt, (node_cells (show Blk w' W.heap.size 36 (nodeC (NodeX.mk xk xs xm xx (some ⟨a, off, none⟩) xn xc (y :: ys))) by rw [← HBXX.out]; exact h.1.below hb h.1.lt)).1, h.2.2.trans (Wrote.of hb (Nat.le_trans hB h.2.2.size))⟩)
    clear h1 k1 hk1 W1 a0 a1 a2 a3 a4 a5 a6 a7 z0 z1 z2 z3 z4 z5 z6 z7 c0 c1 c2 c3 c4 c5 c6 c7
    go_wp2
    refine wp_region_held_drew (S := fun w' => (Blk w' W.heap.size 36 CX ∧ (w'.cell? ⟨W.heap.size, 0, none⟩ = some (.int .i64 xk) ∧ w'.cell? ⟨W.heap.size, 1, none⟩ = some (.int .u64 (word xs 0 : Nat)) ∧ w'.cell? ⟨W.heap.size, 2, none⟩ = some (.int .u64 (word xs 1 : Nat)) ∧ w'.cell? ⟨W.heap.size, 3, none⟩ = some (.int .u64 (word xs 2 : Nat)) ∧ w'.cell? ⟨W.heap.size, 4, none⟩ = some (.int .u64 (word xs 3 : Nat)) ∧ w'.cell? ⟨W.heap.size, 5, none⟩ = some (.int .i64 xm) ∧ w'.cell? ⟨W.heap.size, 6, none⟩ = some (.int .i64 xx) ∧ w'.cell? ⟨W.heap.size, 7, none⟩ = some (.slice (some ⟨a, off, none⟩) xn xc)) ∧ Wrote B b W w')) (by kernel_rfl) S0 (fun hHeld => ?_)
    refine wpAnyH_take (i := 0) (oi := { dst := some 25, op := Go.Op.move (Go.Operand.tmp 0), type := 72, pos := "put.go:62", after := #[], guard := none }) (v := ?_) rfl (by kernel_rfl) (by kernel_rfl) (by kernel_rfl) (fun _ _ _ h => h) (Or.inl ⟨by kernel_rfl, ?_⟩) (by assumption) ?_
    rotate_left
    · intro w _
      first | (go_simp; done) | (go_simp; with_reducible rfl)
    try simp only [Act.put, List.setIfInBounds_toArray, List.set_cons_zero, List.set_cons_succ]
    refine wpAnyH_take (i := 1) (oi := { dst := some 26, op := Go.Op.nilCheck (Go.Operand.tmp 25), type := 0, pos := "put.go:62", after := #[{ on := 0, ground := Go.Ground.data }], guard := none }) (v := ?_) rfl (by kernel_rfl) (by kernel_rfl) (by kernel_rfl) (fun _ _ _ h => h) (Or.inl ⟨by kernel_rfl, ?_⟩) (by assumption) ?_
    rotate_left
    · intro w _
      first | (go_simp; done) | (go_simp; with_reducible rfl)
    try simp only [Act.put, List.setIfInBounds_toArray, List.set_cons_zero, List.set_cons_succ]
    refine wpAnyH_take (i := 2) (oi := { dst := some 27, op := Go.Op.fieldAddr 60 (Go.Operand.tmp 26) 0, type := 0, pos := "put.go:62", after := #[{ on := 1, ground := Go.Ground.data }], guard := none }) (v := ?_) rfl (by kernel_rfl) (by kernel_rfl) (by kernel_rfl) (fun _ _ _ h => h) (Or.inl ⟨by kernel_rfl, ?_⟩) (by assumption) ?_
    rotate_left
    · intro w _
      first | (go_simp; done) | (go_simp; with_reducible rfl)
    try simp only [Act.put, List.setIfInBounds_toArray, List.set_cons_zero, List.set_cons_succ]
    refine wpAnyH_take (i := 3) (oi := { dst := some 28, op := Go.Op.fieldAddr 36 (Go.Operand.tmp 3) 2, type := 0, pos := "put.go:62", after := #[], guard := none }) (v := ?_) rfl (by kernel_rfl) (by kernel_rfl) (by kernel_rfl) (fun _ _ _ h => h) (Or.inl ⟨by kernel_rfl, ?_⟩) (by assumption) ?_
    rotate_left
    · intro w _
      first | (go_simp; done) | (go_simp; with_reducible rfl)
    try simp only [Act.put, List.setIfInBounds_toArray, List.set_cons_zero, List.set_cons_succ]
    refine wpAnyH_take (i := 4) (oi := { dst := some 29, op := Go.Op.load 3 (Go.Operand.tmp 28), type := 3, pos := "put.go:62", after := #[{ on := 3, ground := Go.Ground.data }], guard := none }) (v := ?_) rfl (by kernel_rfl) (by kernel_rfl) (by kernel_rfl) (fun _ _ _ h => h) (Or.inl ⟨by kernel_rfl, ?_⟩) (by assumption) ?_
    rotate_left
    · intro w hSw
      (try dsimp only at hSw)
      go_split_ands
      first | (go_simp; done) | (go_simp; with_reducible rfl)
    try simp only [Act.put, List.setIfInBounds_toArray, List.set_cons_zero, List.set_cons_succ]
    refine wpAnyH_take (i := 5) (oi := { dst := some 30, op := Go.Op.fieldAddr 36 (Go.Operand.tmp 3) 3, type := 0, pos := "put.go:62", after := #[], guard := none }) (v := ?_) rfl (by kernel_rfl) (by kernel_rfl) (by kernel_rfl) (fun _ _ _ h => h) (Or.inl ⟨by kernel_rfl, ?_⟩) (by assumption) ?_
    rotate_left
    · intro w _
      first | (go_simp; done) | (go_simp; with_reducible rfl)
    try simp only [Act.put, List.setIfInBounds_toArray, List.set_cons_zero, List.set_cons_succ]
    refine wpAnyH_take (i := 6) (oi := { dst := some 31, op := Go.Op.load 3 (Go.Operand.tmp 30), type := 3, pos := "put.go:62", after := #[{ on := 5, ground := Go.Ground.data }], guard := none }) (v := ?_) rfl (by kernel_rfl) (by kernel_rfl) (by kernel_rfl) (fun _ _ _ h => h) (Or.inl ⟨by kernel_rfl, ?_⟩) (by assumption) ?_
    rotate_left
    · intro w hSw
      (try dsimp only at hSw)
      go_split_ands
      first | (go_simp; done) | (go_simp; with_reducible rfl)
    try simp only [Act.put, List.setIfInBounds_toArray, List.set_cons_zero, List.set_cons_succ]
    refine wpAnyH_ready (rs := [7]) (by kernel_rfl) (by simp) ?_
    refine AllReadyH.cons (o := { dst := some 32, op := Go.Op.call { callee := Go.Callee.value (Go.Operand.func 49), args := #[Go.Operand.tmp 29, Go.Operand.tmp 31], argTypes := #[3, 3] }, type := 9, pos := "put.go:62", after := #[{ on := 4, ground := Go.Ground.data }, { on := 6, ground := Go.Ground.data }], guard := none }) rfl (fun K hK => ?_) AllReadyH.nil
    go_simp
    go_at_call 49
    refine (HTM.out _ (HLB0.out _ (by first | exact HK1.out.below | exact HK1.out.below.drew))).mono ?_
    rintro e wc1 ⟨⟨s, rfl, hsT, hsz⟩, hb3⟩
    have hbT := hb3
    have Sc1 := HS.out _ _ (by assumption) hb3
    refine hK.out _ _ Sc1 (fun _ => ?_)
    clear hK K hb3
    try simp only [Act.put, List.setIfInBounds_toArray, List.set_cons_zero, List.set_cons_succ]
    refine wpAnyH_ready (rs := [8]) (by kernel_rfl) (by simp) ?_
    refine AllReadyH.cons (o := { dst := some 33, op := Go.Op.call { callee := Go.Callee.value (Go.Operand.func 48), args := #[Go.Operand.tmp 27, Go.Operand.tmp 32], argTypes := #[58, 9] }, type := 89, pos := "put.go:62", after := #[{ on := 2, ground := Go.Ground.data }, { on := 7, ground := Go.Ground.data }, { on := 7, ground := Go.Ground.chain }], guard := none }) rfl (fun K hK => ?_) AllReadyH.nil
    go_simp
    go_at_call 48
    have H1c := Lib.hid (H1.out.later (show Below w1.heap.size w1 wc1 from ((below_drewN (Below.refl _ _) 1).trans hbT)))
    have hsT2 := hsT
    have hsz2 := hsz
    refine (wr_string B b (l ++ U) s wc1 H1c.out (by have := HLEN.out; rw [List.length_append, ← size_toList, hsT2]; omega) (Nat.le_trans hB Sc1.2.2.size)).mono ?_
    rintro e w9 ⟨rfl, h9, k9⟩
    refine hK.out _ _ ⟨k9.blk (by decide) (by omega) Sc1.1, (node_cells (show Blk w9 W.heap.size 36 (nodeC (NodeX.mk xk xs xm xx (some ⟨a, off, none⟩) xn xc (y :: ys))) by rw [← HBXX.out]; exact k9.blk (by decide) (by omega) Sc1.1)).1, Sc1.2.2.trans k9⟩ (fun _ => ?_)
    clear hK K
    try simp only [Act.put, List.setIfInBounds_toArray, List.set_cons_zero, List.set_cons_succ]
    refine wpAnyH_done (by kernel_rfl) ?_ _
    clear HS hHeld
    go_wp2
    go_end0
    rw [List.append_assoc, hsT] at h9
    exact ⟨rfl, h9, Sc1.2.2.trans k9⟩
  · have hy0' : (yk == 0) = false := beq_eq_false_iff_ne.2 hy0
    rw [hy0', Bool.false_or] at W1
    clear hy0
    go_enter Tryz.func39, Tryz.ntmps39
    go_wp2_with fail
    refine W1.out.mono ?_
    rintro e w1 ⟨rfl, h1, k1⟩
    have H1 := Lib.hid h1
    have HK1 := Lib.hid (HWo.out.trans k1)
    have hk1 : Blk w1 W.heap.size 36 CX := k1.blk (by decide) (by omega) HBX.out
    have S0 : (Blk w1.drew W.heap.size 36 CX ∧ (w1.drew.cell? ⟨W.heap.size, 0, none⟩ = some (.int .i64 xk) ∧ w1.drew.cell? ⟨W.heap.size, 1, none⟩ = some (.int .u64 (word xs 0 : Nat)) ∧ w1.drew.cell? ⟨W.heap.size, 2, none⟩ = some (.int .u64 (word xs 1 : Nat)) ∧ w1.drew.cell? ⟨W.heap.size, 3, none⟩ = some (.int .u64 (word xs 2 : Nat)) ∧ w1.drew.cell? ⟨W.heap.size, 4, none⟩ = some (.int .u64 (word xs 3 : Nat)) ∧ w1.drew.cell? ⟨W.heap.size, 5, none⟩ = some (.int .i64 xm) ∧ w1.drew.cell? ⟨W.heap.size, 6, none⟩ = some (.int .i64 xx) ∧ w1.drew.cell? ⟨W.heap.size, 7, none⟩ = some (.slice (some ⟨a, off, none⟩) xn xc)) ∧ Wrote B b W w1.drew) := ⟨hk1, (by have := node_cells (show Blk w1.drew W.heap.size 36 (nodeC (NodeX.mk xk xs xm xx (some ⟨a, off, none⟩) xn xc (y :: ys))) by rw [← HBXX.out]; exact hk1); exact this.1), HK1.out.trans (Wrote.of (below_drewN (Below.refl _ _) 1) (Nat.le_trans hB HK1.out.size))⟩
    have HS := Lib.hid (show ∀ w w', (Blk w W.heap.size 36 CX ∧ (w.cell? ⟨W.heap.size, 0, none⟩ = some (.int .i64 xk) ∧ w.cell? ⟨W.heap.size, 1, none⟩ = some (.int .u64 (word xs 0 : Nat)) ∧ w.cell? ⟨W.heap.size, 2, none⟩ = some (.int .u64 (word xs 1 : Nat)) ∧ w.cell? ⟨W.heap.size, 3, none⟩ = some (.int .u64 (word xs 2 : Nat)) ∧ w.cell? ⟨W.heap.size, 4, none⟩ = some (.int .u64 (word xs 3 : Nat)) ∧ w.cell? ⟨W.heap.size, 5, none⟩ = some (.int .i64 xm) ∧ w.cell? ⟨W.heap.size, 6, none⟩ = some (.int .i64 xx) ∧ w.cell? ⟨W.heap.size, 7, none⟩ = some (.slice (some ⟨a, off, none⟩) xn xc)) ∧ Wrote B b W w) → Below w.heap.size w w' → (Blk w' W.heap.size 36 CX ∧ (w'.cell? ⟨W.heap.size, 0, none⟩ = some (.int .i64 xk) ∧ w'.cell? ⟨W.heap.size, 1, none⟩ = some (.int .u64 (word xs 0 : Nat)) ∧ w'.cell? ⟨W.heap.size, 2, none⟩ = some (.int .u64 (word xs 1 : Nat)) ∧ w'.cell? ⟨W.heap.size, 3, none⟩ = some (.int .u64 (word xs 2 : Nat)) ∧ w'.cell? ⟨W.heap.size, 4, none⟩ = some (.int .u64 (word xs 3 : Nat)) ∧ w'.cell? ⟨W.heap.size, 5, none⟩ = some (.int .i64 xm) ∧ w'.cell? ⟨W.heap.size, 6, none⟩ = some (.int .i64 xx) ∧ w'.cell? ⟨W.heap.size, 7, none⟩ = some (.slice (some ⟨a, off, none⟩) xn xc)) ∧ Wrote B b W w') from fun w w' h hb => ⟨h.1.below hb h.1.lt, (node_cells (show Blk w' W.heap.size 36 (nodeC (NodeX.mk xk xs xm xx (some ⟨a, off, none⟩) xn xc (y :: ys))) by rw [← HBXX.out]; exact h.1.below hb h.1.lt)).1, h.2.2.trans (Wrote.of hb (Nat.le_trans hB h.2.2.size))⟩)
    clear h1 k1 hk1 W1 a0 a1 a2 a3 a4 a5 a6 a7 z0 z1 z2 z3 z4 z5 z6 z7 c0 c1 c2 c3 c4 c5 c6 c7
    go_wp2
    refine wp_region_held_drew (S := fun w' => (Blk w' W.heap.size 36 CX ∧ (w'.cell? ⟨W.heap.size, 0, none⟩ = some (.int .i64 xk) ∧ w'.cell? ⟨W.heap.size, 1, none⟩ = some (.int .u64 (word xs 0 : Nat)) ∧ w'.cell? ⟨W.heap.size, 2, none⟩ = some (.int .u64 (word xs 1 : Nat)) ∧ w'.cell? ⟨W.heap.size, 3, none⟩ = some (.int .u64 (word xs 2 : Nat)) ∧ w'.cell? ⟨W.heap.size, 4, none⟩ = some (.int .u64 (word xs 3 : Nat)) ∧ w'.cell? ⟨W.heap.size, 5, none⟩ = some (.int .i64 xm) ∧ w'.cell? ⟨W.heap.size, 6, none⟩ = some (.int .i64 xx) ∧ w'.cell? ⟨W.heap.size, 7, none⟩ = some (.slice (some ⟨a, off, none⟩) xn xc)) ∧ Wrote B b W w')) (by kernel_rfl) S0 (fun hHeld => ?_)
    refine wpAnyH_take (i := 0) (oi := { dst := some 25, op := Go.Op.move (Go.Operand.tmp 0), type := 72, pos := "put.go:62", after := #[], guard := none }) (v := ?_) rfl (by kernel_rfl) (by kernel_rfl) (by kernel_rfl) (fun _ _ _ h => h) (Or.inl ⟨by kernel_rfl, ?_⟩) (by assumption) ?_
    rotate_left
    · intro w _
      first | (go_simp; done) | (go_simp; with_reducible rfl)
    try simp only [Act.put, List.setIfInBounds_toArray, List.set_cons_zero, List.set_cons_succ]
    refine wpAnyH_take (i := 1) (oi := { dst := some 26, op := Go.Op.nilCheck (Go.Operand.tmp 25), type := 0, pos := "put.go:62", after := #[{ on := 0, ground := Go.Ground.data }], guard := none }) (v := ?_) rfl (by kernel_rfl) (by kernel_rfl) (by kernel_rfl) (fun _ _ _ h => h) (Or.inl ⟨by kernel_rfl, ?_⟩) (by assumption) ?_
    rotate_left
    · intro w _
      first | (go_simp; done) | (go_simp; with_reducible rfl)
    try simp only [Act.put, List.setIfInBounds_toArray, List.set_cons_zero, List.set_cons_succ]
    refine wpAnyH_take (i := 2) (oi := { dst := some 27, op := Go.Op.fieldAddr 60 (Go.Operand.tmp 26) 0, type := 0, pos := "put.go:62", after := #[{ on := 1, ground := Go.Ground.data }], guard := none }) (v := ?_) rfl (by kernel_rfl) (by kernel_rfl) (by kernel_rfl) (fun _ _ _ h => h) (Or.inl ⟨by kernel_rfl, ?_⟩) (by assumption) ?_
    rotate_left
    · intro w _
      first | (go_simp; done) | (go_simp; with_reducible rfl)
    try simp only [Act.put, List.setIfInBounds_toArray, List.set_cons_zero, List.set_cons_succ]
    refine wpAnyH_take (i := 3) (oi := { dst := some 28, op := Go.Op.fieldAddr 36 (Go.Operand.tmp 3) 2, type := 0, pos := "put.go:62", after := #[], guard := none }) (v := ?_) rfl (by kernel_rfl) (by kernel_rfl) (by kernel_rfl) (fun _ _ _ h => h) (Or.inl ⟨by kernel_rfl, ?_⟩) (by assumption) ?_
    rotate_left
    · intro w _
      first | (go_simp; done) | (go_simp; with_reducible rfl)
    try simp only [Act.put, List.setIfInBounds_toArray, List.set_cons_zero, List.set_cons_succ]
    refine wpAnyH_take (i := 4) (oi := { dst := some 29, op := Go.Op.load 3 (Go.Operand.tmp 28), type := 3, pos := "put.go:62", after := #[{ on := 3, ground := Go.Ground.data }], guard := none }) (v := ?_) rfl (by kernel_rfl) (by kernel_rfl) (by kernel_rfl) (fun _ _ _ h => h) (Or.inl ⟨by kernel_rfl, ?_⟩) (by assumption) ?_
    rotate_left
    · intro w hSw
      (try dsimp only at hSw)
      go_split_ands
      first | (go_simp; done) | (go_simp; with_reducible rfl)
    try simp only [Act.put, List.setIfInBounds_toArray, List.set_cons_zero, List.set_cons_succ]
    refine wpAnyH_take (i := 5) (oi := { dst := some 30, op := Go.Op.fieldAddr 36 (Go.Operand.tmp 3) 3, type := 0, pos := "put.go:62", after := #[], guard := none }) (v := ?_) rfl (by kernel_rfl) (by kernel_rfl) (by kernel_rfl) (fun _ _ _ h => h) (Or.inl ⟨by kernel_rfl, ?_⟩) (by assumption) ?_
    rotate_left
    · intro w _
      first | (go_simp; done) | (go_simp; with_reducible rfl)
    try simp only [Act.put, List.setIfInBounds_toArray, List.set_cons_zero, List.set_cons_succ]
    refine wpAnyH_take (i := 6) (oi := { dst := some 31, op := Go.Op.load 3 (Go.Operand.tmp 30), type := 3, pos := "put.go:62", after := #[{ on := 5, ground := Go.Ground.data }], guard := none }) (v := ?_) rfl (by kernel_rfl) (by kernel_rfl) (by kernel_rfl) (fun _ _ _ h => h) (Or.inl ⟨by kernel_rfl, ?_⟩) (by assumption) ?_
    rotate_left
    · intro w hSw
      (try dsimp only at hSw)
      go_split_ands
      first | (go_simp; done) | (go_simp; with_reducible rfl)
    try simp only [Act.put, List.setIfInBounds_toArray, List.set_cons_zero, List.set_cons_succ]
    refine wpAnyH_ready (rs := [7]) (by kernel_rfl) (by simp) ?_
    refine AllReadyH.cons (o := { dst := some 32, op := Go.Op.call { callee := Go.Callee.value (Go.Operand.func 49), args := #[Go.Operand.tmp 29, Go.Operand.tmp 31], argTypes := #[3, 3] }, type := 9, pos := "put.go:62", after := #[{ on := 4, ground := Go.Ground.data }, { on := 6, ground := Go.Ground.data }], guard := none }) rfl (fun K hK => ?_) AllReadyH.nil
    go_simp
    go_at_call 49
    refine (HTM.out _ (HLB0.out _ (by first | exact HK1.out.below | exact HK1.out.below.drew))).mono ?_
    rintro e wc1 ⟨⟨s, rfl, hsT, hsz⟩, hb3⟩
    have hbT := hb3
    have Sc1 := HS.out _ _ (by assumption) hb3
    refine hK.out _ _ Sc1 (fun _ => ?_)
    clear hK K hb3
    try simp only [Act.put, List.setIfInBounds_toArray, List.set_cons_zero, List.set_cons_succ]
    refine wpAnyH_ready (rs := [8]) (by kernel_rfl) (by simp) ?_
    refine AllReadyH.cons (o := { dst := some 33, op := Go.Op.call { callee := Go.Callee.value (Go.Operand.func 48), args := #[Go.Operand.tmp 27, Go.Operand.tmp 32], argTypes := #[58, 9] }, type := 89, pos := "put.go:62", after := #[{ on := 2, ground := Go.Ground.data }, { on := 7, ground := Go.Ground.data }, { on := 7, ground := Go.Ground.chain }], guard := none }) rfl (fun K hK => ?_) AllReadyH.nil
    go_simp
    go_at_call 48
    have H1c := Lib.hid (H1.out.later (show Below w1.heap.size w1 wc1 from ((below_drewN (Below.refl _ _) 1).trans hbT)))
    have hsT2 := hsT
    have hsz2 := hsz
    refine (wr_string B b (l ++ U) s wc1 H1c.out (by have := HLEN.out; rw [List.length_append, ← size_toList, hsT2]; omega) (Nat.le_trans hB Sc1.2.2.size)).mono ?_
    rintro e w9 ⟨rfl, h9, k9⟩
    refine hK.out _ _ ⟨k9.blk (by decide) (by omega) Sc1.1, (node_cells (show Blk w9 W.heap.size 36 (nodeC (NodeX.mk xk xs xm xx (some ⟨a, off, none⟩) xn xc (y :: ys))) by rw [← HBXX.out]; exact k9.blk (by decide) (by omega) Sc1.1)).1, Sc1.2.2.trans k9⟩ (fun _ => ?_)
    clear hK K
    try simp only [Act.put, List.setIfInBounds_toArray, List.set_cons_zero, List.set_cons_succ]
    refine wpAnyH_done (by kernel_rfl) ?_ _
    clear HS hHeld
    go_wp2
    go_end0
    rw [List.append_assoc, hsT] at h9
    exact ⟨rfl, h9, Sc1.2.2.trans k9⟩

end Go.Proofs.YtojjeignijpiaaaGreatDoor
namespace Go.Proofs.YtojjeignijpiaaaGreatDoor
open Go.RowKit
set_option linter.unusedVariables false
set_option linter.unusedSimpArgs false

theorem putX (k : Int) (s : Nat) (m1 m2 : Int) (A : Option Addr) (n c : Nat) (l : List NodeX) : putT (NodeX.mk k s m1 m2 A n c l).t = (if k = 1 then setT s else if k = 2 then [94] else if k = 3 then [36] else if k = 4 then catsT (l.map NodeX.t) else if k = 5 then altsT (l.map NodeX.t) else if k = 6 then firstP (l.map NodeX.t) ++ timesT m1 m2 else []) := by
  rw [NodeX.t, putT_mk, NodeX.ts_map]
theorem inB_pre (b : Bool) (l : List UInt8) : l.length ≤ (inB b l).length := by
  cases b
  · exact Nat.le_refl _
  · rw [inB_true]; simp; omega
set_option maxRecDepth 100000 in
set_option maxHeartbeats 6400000 in
theorem node_step (x : NodeX) (HS : ∀ y, y ∈ x.kids → NodeW y) : NodeW x := by
  intro B b l W hg ho h hl hlen hB
  have hbW := h.lt
  have HREP := Lib.hid (repeat_any x (fun y hy => within_any y (HS y hy)))
  have hrow := hg.row
  have hkid := fun y hy => hg.kid (y := y) hy
  have hoks := fun y hy => ho.kid (y := y) hy
  have hsx := hg.set_lt
  have hlenM := hg.lenM
  have h6 : x.kind = 6 → x.kids ≠ [] := by
    cases ho with
    | mk _ _ h6 _ => exact h6
  have hP : 0 < x.n → ∀ a, x.A = some a → a.block < B := by
    cases hg with
    | mk _ _ _ _ h5 _ => exact h5
  have HG0 := Lib.hid hg
  have HO0 := Lib.hid ho
  have hWo := Wrote.alloc (b := b) W hB (.cells (nodeC x) 36)
  have hk0 := Blk.new W 36 (nodeC x)
  obtain ⟨⟨a0, a1, a2, a3, a4, a5, a6, a7⟩, _⟩ := node_cells hk0
  have H0 := Lib.hid (h.alloc (.cells (nodeC x) 36))
  have HL := Lib.hid (hl.wrote hWo)
  have HL0 := Lib.hid hl
  have HWo := Lib.hid hWo
  have hB0 : B ≤ (W.alloc (.cells (nodeC x) 36)).heap.size := by simp; omega
  obtain ⟨CX, hCX⟩ : ∃ CX, nodeC x = CX := ⟨_, rfl⟩
  rw [hCX] at HWo H0 HL hB0 a0 a1 a2 a3 a4 a5 a6 a7 ⊢
  have HCX := Lib.hid hCX
  obtain ⟨xk, xs, xm, xx, xA, xn, xc, xl⟩ := x
  rw [putX] at hlen ⊢
  simp only [NodeX.kind, NodeX.set, NodeX.mn, NodeX.mx, NodeX.A, NodeX.n, NodeX.c, NodeX.kids] at hrow hkid hoks hsx hlenM h6 hP HS a0 a1 a2 a3 a4 a5 a6 a7
  have HSS := Lib.hid HS
  have HROW := Lib.hid hrow
  have HKID := Lib.hid hkid
  have HOKS := Lib.hid hoks
  have HPP := Lib.hid hP
  clear h hl hg ho hWo hk0 hCX HS hrow hkid hoks hP
  by_cases hk1 : xk = 1
  · subst hk1
    rw [if_pos rfl] at hlen ⊢
    have W1 := Lib.hid (tellSet_any B b l xs hsx _ H0.out hlen hB0)
    clear hlen HSS HROW HKID HOKS HPP HREP h6 HCX
    unfold setV setC at W1
    go_enter Tryz.func26, Tryz.ntmps26
    go_wp2_with fail
    refine W1.out.mono ?_
    rintro e w1 ⟨rfl, h1, k1⟩
    have H1 := Lib.hid h1
    have K1 := Lib.hid (HWo.out.trans k1)
    clear h1 k1
    go_wp2
    go_end0
    exact ⟨rfl, H1.out, K1.out⟩
  · have b1 : (xk == 1) = false := beq_eq_false_iff_ne.2 hk1
    rw [if_neg hk1] at hlen ⊢
    by_cases hk2 : xk = 2
    · subst hk2
      rw [if_pos rfl] at hlen ⊢
      have W1 := Lib.hid (wr_byte B b l 94 94 rfl _ H0.out (by simpa using hlen) hB0)
      clear hlen HSS HROW HKID HOKS HPP HREP h6 HCX
      go_enter Tryz.func26, Tryz.ntmps26
      go_wp2_with fail
      refine W1.out.mono ?_
      rintro e w1 ⟨rfl, h1, k1⟩
      have H1 := Lib.hid h1
      have K1 := Lib.hid (HWo.out.trans k1)
      clear h1 k1
      go_wp2
      go_end0
      exact ⟨rfl, H1.out, K1.out⟩
    · have b2 : (xk == 2) = false := beq_eq_false_iff_ne.2 hk2
      rw [if_neg hk2] at hlen ⊢
      by_cases hk3 : xk = 3
      · subst hk3
        rw [if_pos rfl] at hlen ⊢
        have W1 := Lib.hid (wr_byte B b l 36 36 rfl _ H0.out (by simpa using hlen) hB0)
        clear hlen HSS HROW HKID HOKS HPP HREP h6 HCX
        go_enter Tryz.func26, Tryz.ntmps26
        go_wp2_with fail
        refine W1.out.mono ?_
        rintro e w1 ⟨rfl, h1, k1⟩
        have H1 := Lib.hid h1
        have K1 := Lib.hid (HWo.out.trans k1)
        clear h1 k1
        go_wp2
        go_end0
        exact ⟨rfl, H1.out, K1.out⟩
      · have b3 : (xk == 3) = false := beq_eq_false_iff_ne.2 hk3
        rw [if_neg hk3] at hlen ⊢
        by_cases hk4 : xk = 4
        · subst hk4
          rw [if_pos rfl] at hlen ⊢
          have HPRE := Lib.hid (catsT_pre xl)
          have HW0 := Lib.hid (show Wr B b (l ++ catsT ((xl.take 0).map NodeX.t)) (W.alloc (.cells CX 36)) by rw [List.take_zero, List.map_nil, catsT_nil, List.append_nil]; exact H0.out)
          have hxl : xl.length = xn := HROW.out.1
          clear HREP h6 HCX
          go_enter Tryz.func26, Tryz.ntmps26
          go_wp2
          go_loopw [33] (fun iv wr => ∃ (j : Nat), j ≤ xn ∧ iv = .int .i64 (j : Nat) ∧ Hid (Wr B b (l ++ catsT ((xl.take j).map NodeX.t)) wr) ∧ Hid (Wrote B b W wr)) (fun iv _ => xn - (intOf iv).toNat)
          case atStart => exact ⟨0, Nat.zero_le _, rfl, HW0, HWo⟩
          case round =>
            obtain ⟨j, hj, rfl, HW, HK⟩ := hrel
            by_cases hjn : j < xn
            · have hI : (j : Int) < xn := by omega
              obtain ⟨a, off, rfl, hlt, hc⟩ := HROW.out.2 (by omega)
              have haB : a < B := HPP.out (by omega) _ rfl
              obtain ⟨p, hp⟩ : ∃ p, xl[j]? = some p := ⟨xl[j], List.getElem?_eq_getElem (by omega)⟩
              have hpl : p ∈ xl := List.mem_of_getElem? hp
              have hB1 := HK.out.below
              have c0 := (hB1.cell (p := ⟨a, off + j * 8 + 0, none⟩) haB).trans (hc j 0 p hp (by decide))
              have c1 := (hB1.cell (p := ⟨a, off + j * 8 + 1, none⟩) haB).trans (hc j 1 p hp (by decide))
              have c2 := (hB1.cell (p := ⟨a, off + j * 8 + 2, none⟩) haB).trans (hc j 2 p hp (by decide))
              have c3 := (hB1.cell (p := ⟨a, off + j * 8 + 3, none⟩) haB).trans (hc j 3 p hp (by decide))
              have c4 := (hB1.cell (p := ⟨a, off + j * 8 + 4, none⟩) haB).trans (hc j 4 p hp (by decide))
              have c5 := (hB1.cell (p := ⟨a, off + j * 8 + 5, none⟩) haB).trans (hc j 5 p hp (by decide))
              have c6 := (hB1.cell (p := ⟨a, off + j * 8 + 6, none⟩) haB).trans (hc j 6 p hp (by decide))
              have c7 := (hB1.cell (p := ⟨a, off + j * 8 + 7, none⟩) haB).trans (hc j 7 p hp (by decide))
              rw [Nat.add_zero] at c0
              simp only [nodeV, List.getElem?_cons_zero, List.getElem?_cons_succ] at c0 c1 c2 c3 c4 c5 c6 c7
              have hnx := catsT_next hp
              rw [NodeX.t_kind, show decide (p.kind = 5) = (p.kind == 5) from rfl] at hnx
              have hlen2 := HPRE.out (j + 1)
              rw [hnx, List.length_append] at hlen2
              have HN := Lib.hid hnx
              have hWs := HK.out.size
              have hKA := HK.out.trans (Wrote.alloc (b := b) wr (by omega) (.cells (nodeC p) 36))
              have HKA := Lib.hid hKA
              have SX := within_any p (HSS.out p hpl) (p.kind == 5) B b (l ++ catsT ((xl.take j).map NodeX.t)) (wr.alloc (.cells (nodeC p) 36)) ((HKID.out p hpl).wrote hKA) (HOKS.out p hpl) (HW.out.alloc _) (HL0.out.wrote hKA) (by rw [List.length_append]; omega) (by simp; omega)
              have K1 := Blk.new wr 36 (nodeC p)
              obtain ⟨⟨d0, d1, d2, d3, d4, d5, d6, d7⟩, _⟩ := node_cells K1
              replace SX := Lib.hid SX
              clear hnx hp hc hB1 hKA K1 hlen2 HPRE HROW
              unfold nodeC nodeV at *
              go_wp2_with fail
              refine SX.out.mono ?_
              rintro e w2 ⟨rfl, h2, k2⟩
              have H2 := Lib.hid h2
              have K2 := Lib.hid (HKA.out.trans k2)
              clear h2 k2
              go_wp2
              go_round
              case rel =>
                refine ⟨j + 1, by omega, by go_num, ?_, K2⟩
                rw [HN.out, ← List.append_assoc]
                exact H2
              case measure => simp [intOf]; omega
            · obtain rfl : j = xn := by omega
              have hI : ¬ (j : Int) < (j : Int) := by omega
              have hh := HW.out
              rw [List.take_of_length_le (by omega)] at hh
              have HH := Lib.hid hh
              clear hh
              go_wp2
              go_end0
              exact ⟨rfl, HH.out, HK.out⟩
        · have b4 : (xk == 4) = false := beq_eq_false_iff_ne.2 hk4
          rw [if_neg hk4] at hlen ⊢
          by_cases hk5 : xk = 5
          · subst hk5
            rw [if_pos rfl] at hlen ⊢
            have HPRE := Lib.hid (altsT_pre xl)
            have HW0 := Lib.hid (show Wr B b (l ++ altsT ((xl.take 0).map NodeX.t)) (W.alloc (.cells CX 36)) by rw [List.take_zero, List.map_nil, altsT_nil, List.append_nil]; exact H0.out)
            have hxl : xl.length = xn := HROW.out.1
            clear HREP h6 HCX
            go_enter Tryz.func26, Tryz.ntmps26
            go_wp2
            go_loopw [49] (fun iv wr => ∃ (j : Nat), j ≤ xn ∧ iv = .int .i64 (j : Nat) ∧ Hid (Wr B b (l ++ altsT ((xl.take j).map NodeX.t)) wr) ∧ Hid (Wrote B b W wr)) (fun iv _ => xn - (intOf iv).toNat)
            case atStart => exact ⟨0, Nat.zero_le _, rfl, HW0, HWo⟩
            case round =>
              obtain ⟨j, hj, rfl, HW, HK⟩ := hrel
              by_cases hjn : j < xn
              · have hI : (j : Int) < xn := by omega
                obtain ⟨a, off, rfl, hlt, hc⟩ := HROW.out.2 (by omega)
                have haB : a < B := HPP.out (by omega) _ rfl
                obtain ⟨p, hp⟩ : ∃ p, xl[j]? = some p := ⟨xl[j], List.getElem?_eq_getElem (by omega)⟩
                have hpl : p ∈ xl := List.mem_of_getElem? hp
                have hB1 := HK.out.below
                have c0 := (hB1.cell (p := ⟨a, off + j * 8 + 0, none⟩) haB).trans (hc j 0 p hp (by decide))
                have c1 := (hB1.cell (p := ⟨a, off + j * 8 + 1, none⟩) haB).trans (hc j 1 p hp (by decide))
                have c2 := (hB1.cell (p := ⟨a, off + j * 8 + 2, none⟩) haB).trans (hc j 2 p hp (by decide))
                have c3 := (hB1.cell (p := ⟨a, off + j * 8 + 3, none⟩) haB).trans (hc j 3 p hp (by decide))
                have c4 := (hB1.cell (p := ⟨a, off + j * 8 + 4, none⟩) haB).trans (hc j 4 p hp (by decide))
                have c5 := (hB1.cell (p := ⟨a, off + j * 8 + 5, none⟩) haB).trans (hc j 5 p hp (by decide))
                have c6 := (hB1.cell (p := ⟨a, off + j * 8 + 6, none⟩) haB).trans (hc j 6 p hp (by decide))
                have c7 := (hB1.cell (p := ⟨a, off + j * 8 + 7, none⟩) haB).trans (hc j 7 p hp (by decide))
                rw [Nat.add_zero] at c0
                simp only [nodeV, List.getElem?_cons_zero, List.getElem?_cons_succ] at c0 c1 c2 c3 c4 c5 c6 c7
                have hnx := altsT_next hp
                have hlen2 := HPRE.out (j + 1)
                rw [hnx, List.length_append, List.length_append] at hlen2
                have HN := Lib.hid hnx
                have hWs := HK.out.size
                have hbr : b < wr.heap.size := HW.out.lt
                have hKA := HK.out.trans (Wrote.alloc (b := b) wr (by omega) (.cells (nodeC p) 36))
                have HKA := Lib.hid hKA
                have HWA := Lib.hid (HW.out.alloc (.cells (nodeC p) 36))
                have PG := Lib.hid (fun w (k : Wrote B b W w) => (HKID.out p hpl).wrote k)
                have PO := Lib.hid (HOKS.out p hpl)
                have PW := Lib.hid (HSS.out p hpl)
                have HK1 := Lib.hid (Blk.new wr 36 (nodeC p))
                obtain ⟨T, hT⟩ : ∃ T, altsT ((xl.take j).map NodeX.t) = T := ⟨_, rfl⟩
                rw [hT] at HW HN hlen2 HWA
                have HLE := Lib.hid hlen2
                clear hnx hp hc hB1 hKA hlen2 HPRE HROW hT
                by_cases hj0 : j = 0
                · subst hj0
                  simp only [Nat.zero_mul, Nat.add_zero] at c0 c1 c2 c3 c4 c5 c6 c7
                  have hle := HLE.out
                  rw [if_pos rfl] at hle
                  obtain ⟨⟨d0, d1, d2, d3, d4, d5, d6, d7⟩, _⟩ := node_cells HK1.out
                  have SX := PW.out B b (l ++ T) _ (PG.out _ HKA.out) PO.out HWA.out (HL0.out.wrote HKA.out) (by rw [List.length_append]; simp at hle; omega) (by simp; omega)
                  replace SX := Lib.hid SX
                  clear hle
                  unfold nodeC nodeV at *
                  go_wp2_with fail
                  refine SX.out.mono ?_
                  rintro e w2 ⟨rfl, h2, k2⟩
                  have H2 := Lib.hid h2
                  have K2 := Lib.hid (HKA.out.trans k2)
                  clear h2 k2
                  go_wp2
                  go_round
                  case rel =>
                    refine ⟨0 + 1, by omega, by go_num, ?_, K2⟩
                    rw [HN.out, if_pos (by trivial), List.nil_append, ← List.append_assoc]
                    exact H2
                  case measure => simp [intOf]; omega
                · have hj1 : (0 : Int) < (j : Int) := by omega
                  have hj2 : (j : Int) > 0 := hj1
                  have hle := HLE.out
                  rw [if_neg hj0] at hle
                  have hle1 : (l ++ T).length + 1 ≤ 140737488355328 := by rw [List.length_append]; simp at hle; omega
                  have hle2 : (l ++ T ++ [124]).length + (putT p.t).length ≤ 140737488355328 := by rw [List.length_append, List.length_append]; simp at hle ⊢; omega
                  have HLE2 := Lib.hid hle2
                  have SB := Lib.hid (wr_byte B b (l ++ T) 124 124 rfl _ HWA.out hle1 (by simp; omega))
                  clear hle hle1 hle2
                  unfold nodeC nodeV at SB
                  go_wp2_with fail
                  refine SB.out.mono ?_
                  rintro e w1 ⟨rfl, h1, k1⟩
                  have hk1 : Blk w1 wr.heap.size 36 (nodeC p) := k1.blk (by decide) (by omega) HK1.out
                  obtain ⟨⟨d0, d1, d2, d3, d4, d5, d6, d7⟩, _⟩ := node_cells hk1
                  have HKB := HKA.out.trans k1
                  have SX := PW.out B b (l ++ T ++ [124]) w1 (PG.out _ HKB) PO.out h1 (HL0.out.wrote HKB) HLE2.out (by have := HKB.size; omega)
                  replace SX := Lib.hid SX
                  replace HKB := Lib.hid HKB
                  clear hk1 k1 h1 SB c0 c1 c2 c3 c4 c5 c6 c7
                  unfold nodeC nodeV at SX
                  go_wp2_with fail
                  refine SX.out.mono ?_
                  rintro e w2 ⟨rfl, h2, k2⟩
                  have H2 := Lib.hid h2
                  have K2 := Lib.hid (HKB.out.trans k2)
                  clear h2 k2
                  go_wp2
                  go_round
                  case rel =>
                    refine ⟨j + 1, by omega, by go_num, ?_, K2⟩
                    rw [HN.out, if_neg hj0, ← List.append_assoc, ← List.append_assoc]
                    exact H2
                  case measure => simp [intOf]; omega
              · obtain rfl : j = xn := by omega
                have hI : ¬ (j : Int) < (j : Int) := by omega
                have hh := HW.out
                rw [List.take_of_length_le (by omega)] at hh
                have HH := Lib.hid hh
                clear hh
                go_wp2
                go_end0
                exact ⟨rfl, HH.out, HK.out⟩
          · have b5 : (xk == 5) = false := beq_eq_false_iff_ne.2 hk5
            rw [if_neg hk5] at hlen ⊢
            by_cases hk6 : xk = 6
            · subst hk6
              rw [if_pos rfl] at hlen ⊢
              have W1 := HREP.out B b l _ (HG0.out.wrote HWo.out) HO0.out H0.out HL.out hlen hB0 (h6 rfl)
              rw [HCX.out] at W1
              replace W1 := Lib.hid W1
              have e8 : CX = #[.int .i64 6, .int .u64 (word xs 0 : Nat), .int .u64 (word xs 1 : Nat), .int .u64 (word xs 2 : Nat), .int .u64 (word xs 3 : Nat), .int .i64 xm, .int .i64 xx, .slice xA xn xc] := HCX.out.symm
              subst e8
              clear hlen HSS HROW HKID HOKS HPP HREP h6 HCX HG0 HO0
              go_enter Tryz.func26, Tryz.ntmps26
              go_wp2_with fail
              refine W1.out.mono ?_
              rintro e w1 ⟨rfl, h1, k1⟩
              have H1 := Lib.hid h1
              have K1 := Lib.hid (HWo.out.trans k1)
              clear h1 k1
              go_wp2
              go_end0
              exact ⟨rfl, H1.out, K1.out⟩
            · have b6 : (xk == 6) = false := beq_eq_false_iff_ne.2 hk6
              rw [if_neg hk6] at hlen ⊢
              clear hlen HSS HROW HKID HOKS HPP HREP h6 HCX HG0 HO0
              go_enter Tryz.func26, Tryz.ntmps26
              go_wp2
              go_end0
              rw [List.append_nil]
              exact ⟨rfl, H0.out, HWo.out⟩
theorem node_all : ∀ (m : Nat) (x : NodeX), SizeOf.sizeOf x < m → NodeW x := by
  intro m
  induction m with
  | zero => exact fun x h => absurd h (Nat.not_lt_zero _)
  | succ m ih =>
    intro x h
    refine node_step x (fun y hy => ih y ?_)
    have h1 := List.sizeOf_lt_of_mem hy
    cases x
    simp [NodeX.kids] at h1 h
    omega
theorem node_any (x : NodeX) : NodeW x := node_all _ x (Nat.lt_succ_self _)
set_option maxRecDepth 100000 in
set_option maxHeartbeats 1600000 in
theorem put_rex (x : NodeX) (P : Nat → Prop) (W : World) (hg : GoodN W P x) (hN : NF x.t) (hl : LibIs W) (hlen : (putT x.t).length ≤ 140737488355328) :
    Calls Tryz.prog 19 #[.agg (nodeC x)] W fun e w' => (∃ s : ByteArray, e = .returned (.string s) ∧ s.data.toList = putT x.t) ∧ Below W.heap.size W w' := by
  have hG : GoodN W (fun g => g < W.heap.size) x := hg.weaken (fun g _ h => h)
  have hWo := Wrote.alloc (B := W.heap.size) (b := W.heap.size + 1) W (Nat.le_refl _) (.cells (nodeC x) 36)
  have hW2 := hWo.trans (Wrote.alloc (W.alloc (.cells (nodeC x) 36)) (by simp) (.cells #[.pointer none, .slice none 0 0] 60))
  have hwr : Wr W.heap.size (W.heap.size + 1) [] ((W.alloc (.cells (nodeC x) 36)).alloc (.cells #[.pointer none, .slice none 0 0] 60)) :=
    .inl ⟨by omega, .slice none 0 0, by rw [show W.heap.size + 1 = (W.alloc (.cells (nodeC x) 36)).heap.size by simp]; exact heap_alloc_new _ _, World.ownsRow_nil _ _ _ _, by simp [Value.ownBlock]⟩
  have W1 := node_any x W.heap.size (W.heap.size + 1) [] _ (hG.wrote hW2) hN.ok hwr ((LibB.of hl).wrote hW2) (by simpa using hlen) (by simp; omega)
  have HK0 := (Blk.new W 36 (nodeC x)).alloc (.cells #[.pointer none, .slice none 0 0] 60)
  obtain ⟨⟨a0, a1, a2, a3, a4, a5, a6, a7⟩, _⟩ := node_cells HK0
  have HW2 := Lib.hid hW2
  replace W1 := Lib.hid W1
  clear hwr hWo hW2 hG hg hN HK0 hlen hl
  unfold nodeC nodeV at *
  go_enter Tryz.func19, Tryz.ntmps19
  go_wp2_with fail
  refine W1.out.mono ?_
  rintro e w1 ⟨rfl, h1, k1⟩
  have hk := HW2.out.trans k1
  have TW := Lib.hid (wr_told W.heap.size (W.heap.size + 1) _ w1 h1 hk.size)
  have HK := Lib.hid hk
  clear h1 k1 hk W1 a0 a1 a2 a3 a4 a5 a6 a7
  go_wp2_with fail
  refine TW.out.mono ?_
  rintro e w2 ⟨rfl, hb2⟩
  go_wp2
  go_ret
  exact ⟨⟨_, rfl, by simp⟩, HK.out.below.trans hb2⟩
end Go.Proofs.YtojjeignijpiaaaGreatDoor
