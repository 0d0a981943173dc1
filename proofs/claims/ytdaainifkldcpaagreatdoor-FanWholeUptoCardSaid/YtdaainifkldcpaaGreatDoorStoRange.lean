-- shaken
import Derived.Test.YtdaainifkldcpaaGreatDoorStoNew
import Derived.Deep.CutRange
import Derived.Deep.DeepCutAuto
import Derived.Test.YtdaainifkldcpaaGreatDoorMem
namespace Go.Proofs.YtdaainifkldcpaaGreatDoor
open Go.RowKit
set_option linter.unusedVariables false
set_option linter.unusedSimpArgs false
structure AskX where
  lo : Int
  hi : Int
  asc : Bool
  lim : Int
  has : Bool
  af : EntX
def AskX.b (a : AskX) : AskB := ⟨a.lo, a.hi, a.asc, a.lim, a.has, a.af.b⟩
def AskX.V (a : AskX) : List Value := [.int .i64 a.lo, .int .i64 a.hi, .bool a.asc, .int .i64 a.lim, .bool a.has, .int .i64 a.af.ts, .slice a.af.A a.af.n a.af.c, .string a.af.ln]
set_option maxHeartbeats 800000 in
theorem askRight_any (a : AskX) (W : World) : Calls Tryz.prog 37 #[.agg a.V.toArray] W fun e w' => e = .returned (.bool (askR a.b)) ∧ Below W.heap.size W w' := by
  obtain ⟨lo, hi, asc, lim, has, ⟨ts, A, n, c, ls, ln⟩⟩ := a
  have HB := Lib.hid ((Below.refl W.heap.size W).alloc (Nat.le_refl _) (.cells #[.int .i64 lo, .int .i64 hi, .bool asc, .int .i64 lim, .bool has, .int .i64 ts, .slice A n c, .string ln] 49))
  have E : askR (AskX.b ⟨lo, hi, asc, lim, has, ⟨ts, A, n, c, ls, ln⟩⟩) = (decide (lo < hi) && decide (1 ≤ lim)) := rfl
  rw [E]
  clear E
  show Calls Tryz.prog 37 #[.agg #[.int .i64 lo, .int .i64 hi, .bool asc, .int .i64 lim, .bool has, .int .i64 ts, .slice A n c, .string ln]] W _
  by_cases h1 : lo < hi
  · by_cases h2 : 1 ≤ lim
    · rw [decide_eq_true h1, decide_eq_true h2]
      go_enter Tryz.func37, Tryz.ntmps37
      go_wp2
      go_ret
      exact ⟨rfl, HB.out⟩
    · rw [decide_eq_true h1, decide_eq_false h2]
      go_enter Tryz.func37, Tryz.ntmps37
      go_wp2
      go_ret
      exact ⟨rfl, HB.out⟩
  · rw [decide_eq_false h1]
    go_enter Tryz.func37, Tryz.ntmps37
    go_wp2
    go_ret
    exact ⟨rfl, HB.out⟩
set_option maxHeartbeats 800000 in
theorem place_any (B : Nat) (b : Nat) (S : List RepB) (k : Nat) (L : List EntX) (rv lv : Value) (i : Nat) (asc : Bool) (hi : i < L.length) (hl : L.length ≤ 1000) (W : World) (h : RepP B W b S k L rv lv) :
    Calls Tryz.prog 59 #[.pointer (some ⟨b, 0, none⟩), .int .i64 (i : Int), .bool asc] W fun e w' => e = .returned (.int .i64 ((if asc then i else L.length - 1 - i : Nat) : Int)) ∧ w' = W := by
  obtain ⟨LA, cap, hv⟩ := OwnR.shape h.ent.1
  have c2_ : W.cell? ⟨b, 2, none⟩ = some lv := (h.blk.cell 2).trans rfl
  rw [hv] at c2_
  obtain ⟨n, hn⟩ : ∃ n, L.length = n := ⟨_, rfl⟩
  rw [hn] at c2_ hi hl ⊢
  clear h hv hn
  cases asc with
  | true =>
    go_enter Tryz.func59, Tryz.ntmps59
    go_wp2
    go_ret
    exact ⟨rfl, rfl⟩
  | false =>
    have w1 : IntKind.i64.wrap ((n : Int) - 1) = (n : Int) - 1 := by rw [IntKind.wrap_i64]; omega
    have w2 : IntKind.i64.wrap ((n : Int) - 1 - (i : Int)) = (n : Int) - 1 - (i : Int) := by rw [IntKind.wrap_i64]; omega
    have E := Lib.hid (show ((n - 1 - i : Nat) : Int) = (n : Int) - 1 - (i : Int) by omega)
    rw [if_neg (by decide), E.out]
    go_enter Tryz.func59, Tryz.ntmps59
    go_wp2
    go_ret
    exact ⟨by first | rfl | simp [w1, w2], rfl⟩
theorem RepP.step {B : Nat} {w w' : World} {b : Nat} {S : List RepB} {k k' : Nat} {L : List EntX} {rv lv : Value} (h : RepP B w b S k L rv lv) (hf : Se.FG b w w') (hb : Blk w' b 140 #[rv, .int .i64 (k' : Int), lv]) : RepP B w' b S k' L rv lv :=
  ⟨hb, OwnR.fgT h.rep hf h.blk rep_not_reply, ⟨OwnR.fgT h.ent.1 hf h.blk rep_not_ent, fun x hx => (h.ent.2 x hx).fgT hf (Nat.zero_le _) h.blk rep_not_pair⟩, h.low⟩
theorem fg_new {W : World} {b g : Nat} (o : Obj) (hg : W.heap.size = g) (i j r : Nat) (x y z : Value) : Se.FG b W ((((W.alloc o).setCell ⟨b, i, none⟩ x).setCell ⟨g, j, none⟩ y).setCell ⟨g, r, none⟩ z) :=
  ⟨rfl, rfl, rfl, by simp, fun k hk hb => (Below.heap_setCell _ _ _ k (by show k ≠ g; omega)).trans ((Below.heap_setCell _ _ _ k (by show k ≠ g; omega)).trans ((Below.heap_setCell _ _ _ k hb).trans (Below.heap_alloc _ _ k hk)))⟩
set_option maxRecDepth 100000 in
set_option maxHeartbeats 1600000 in
theorem call_any (B : Nat) (b : Nat) (S : List RepB) (k : Nat) (L : List EntX) (rv lv : Value) (hk : k ≤ 1000000000) (hS : S.length ≤ 100000) (W : World) (h : RepP B W b S k L rv lv) :
    Calls Tryz.prog 58 #[.pointer (some ⟨b, 0, none⟩)] W fun e w' => e = .returned (.agg #[.bool (replyAt S k).fail, .int .i64 (replyAt S k).most]) ∧ RepP B w' b S (k + 1) L rv lv ∧ Se.FG b W w' := by
  have hlt := h.blk.lt
  obtain ⟨RA, rc, hrv⟩ := OwnR.shape h.rep
  obtain ⟨A', cap', e1, _, _, hrow⟩ := OwnR.open repV_len h.rep
  rw [hrv] at e1
  injection e1 with e1 e2 e3
  subst e1 e3
  obtain ⟨g0, hg0⟩ : ∃ g, W.heap.size = g := ⟨_, rfl⟩
  have K0 : Blk (W.alloc (.cells #[.bool false, .int .i64 0] 85)) g0 85 #[.bool false, .int .i64 0] := by rw [← hg0]; exact Blk.new _ _ _
  have hb0 : Below W.heap.size W (W.alloc (.cells #[.bool false, .int .i64 0] 85)) := (Below.refl _ _).alloc (Nat.le_refl _) _
  have R1 := h.below hb0
  have hwk : IntKind.i64.wrap ((k : Int) + 1) = (k : Int) + 1 := by rw [IntKind.wrap_i64]; omega
  have FGN := Lib.hid (fun y z => fg_new (b := b) (.cells #[.bool false, .int .i64 0] 85) hg0 1 0 1 (.int .i64 ((k : Int) + 1)) y z)
  have HRP := Lib.hid h
  have ROW := Lib.hid ((hrow.below hb0))
  obtain ⟨w1, hw1⟩ : ∃ z, W.alloc (.cells #[.bool false, .int .i64 0] 85) = z := ⟨_, rfl⟩
  rw [hw1] at K0 R1 FGN ROW
  rw [hg0] at hlt
  have hbg : b ≠ g0 := by omega
  have c1_ : w1.cell? ⟨b, 1, none⟩ = some (.int .i64 (k : Int)) := (R1.blk.cell 1).trans rfl
  have f1_ := R1.blk.frozen 1
  have B2 := R1.blk.set_ 1 (.int .i64 ((k : Int) + 1))
  have K2 := K0.far (p := ⟨b, 1, none⟩) (by show g0 ≠ b; omega) (.int .i64 ((k : Int) + 1))
  have ROW2 := Lib.hid (fun (hk1 : k < S.length) => show ∃ b1 o1, RA = some ⟨b1, o1, none⟩ ∧ (w1.setCell ⟨b, 1, none⟩ (.int .i64 ((k : Int) + 1))).cell? ⟨b1, o1 + k * 2, none⟩ = some (.bool (replyAt S k).fail) ∧ (w1.setCell ⟨b, 1, none⟩ (.int .i64 ((k : Int) + 1))).cell? ⟨b1, o1 + k * 2 + 1, none⟩ = some (.int .i64 (replyAt S k).most) from by
    have R2 : RepP B (w1.setCell ⟨b, 1, none⟩ (.int .i64 ((k : Int) + 1))) b S (k + 1) L rv lv := by
      have h2 := R1.set (k' := k + 1)
      rwa [show (((k + 1 : Nat)) : Int) = (k : Int) + 1 by omega] at h2
    obtain ⟨A2, cap2, e1, _, _, hrow2⟩ := OwnR.open repV_len R2.rep
    rw [hrv] at e1
    injection e1 with e1 e2 e3
    subst e1
    obtain ⟨b1, o1, e, _, hcc⟩ := hrow2.2 (by omega)
    have hx : S[k]? = some (replyAt S k) := by unfold replyAt; rw [List.getD_eq_getElem?_getD, List.getElem?_eq_getElem hk1]; rfl
    exact ⟨b1, o1, e, hcc k 0 _ hx (by decide), hcc k 1 _ hx (by decide)⟩)
  have c0_ : (w1.setCell ⟨b, 1, none⟩ (.int .i64 ((k : Int) + 1))).cell? ⟨b, 0, none⟩ = some rv := (B2.cell 0).trans rfl
  rw [hrv] at c0_
  have RZ := Lib.hid (show ¬ k < S.length → replyAt S k = ⟨false, 0⟩ from fun hn => by unfold replyAt; rw [List.getD_eq_getElem?_getD, List.getElem?_eq_none (by omega)]; rfl)
  obtain ⟨⟨fl, mo⟩, hr⟩ : ∃ r, replyAt S k = r := ⟨_, rfl⟩
  rw [hr] at ROW2 RZ ⊢
  obtain ⟨n, hn⟩ : ∃ n, S.length = n := ⟨_, rfl⟩
  rw [hn] at c0_ ROW2 RZ hS
  obtain ⟨w2, hw2⟩ : ∃ z, w1.setCell ⟨b, 1, none⟩ (.int .i64 ((k : Int) + 1)) = z := ⟨_, rfl⟩
  rw [hw2] at c0_ ROW2 K2 B2 FGN
  have e0_ := (K2.cell 0).trans (show _ = some (Value.bool false) from rfl)
  have e1_ := (K2.cell 1).trans (show _ = some (Value.int .i64 0) from rfl)
  have q0_ := K2.frozen 0
  have q1_ := K2.frozen 1
  have HK2 := Lib.hid K2
  have HB2 := Lib.hid B2
  clear h hb0 R1 K0 K2 B2 hrow hrv hr hn ROW e2
  show Calls Tryz.prog 58 #[.pointer (some ⟨b, 0, none⟩)] W fun e w' => e = .returned (.agg #[.bool fl, .int .i64 mo]) ∧ RepP B w' b S (k + 1) L rv lv ∧ Se.FG b W w'
  by_cases hkn : k < n
  · have kI : (k : Int) < (n : Int) := by omega
    obtain ⟨b1, o1, rfl, r0_, r1_⟩ := ROW2.out hkn
    dsimp only at r0_ r1_
    have K3 := Lib.hid ((HK2.out.set_ 0 (.bool fl)).set_ 1 (.int .i64 mo))
    have F3 := Lib.hid (FGN.out (.bool fl) (.int .i64 mo))
    have B3 := Lib.hid ((HB2.out.far (p := ⟨g0, 0, none⟩) (by show b ≠ g0; exact hbg) (.bool fl)).far (p := ⟨g0, 1, none⟩) (by show b ≠ g0; exact hbg) (.int .i64 mo))
    clear ROW2 RZ hkn HK2 HB2 FGN
    go_enter Tryz.func58, Tryz.ntmps58
    go_wp2
    refine bodyPost_ret (results_cell_row rfl _ _ g0 85 #[.bool fl, .int .i64 mo] (0, 0) _ rfl K3.out Tryz.underlying85 rfl (by kernel_rfl)) rfl ?_
    exact ⟨rfl, HRP.out.step F3.out (by rw [show (((k + 1 : Nat)) : Int) = (k : Int) + 1 by omega]; exact B3.out), F3.out⟩
  · have kI : ¬ (k : Int) < (n : Int) := by omega
    have hz := RZ.out hkn
    injection hz with hz1 hz2
    subst hz1 hz2
    have K3 := Lib.hid ((HK2.out.set_ 0 (.bool false)).set_ 1 (.int .i64 0))
    have F3 := Lib.hid (FGN.out (.bool false) (.int .i64 0))
    have B3 := Lib.hid ((HB2.out.far (p := ⟨g0, 0, none⟩) (by show b ≠ g0; exact hbg) (.bool false)).far (p := ⟨g0, 1, none⟩) (by show b ≠ g0; exact hbg) (.int .i64 0))
    clear ROW2 RZ hkn HK2 HB2 FGN
    go_enter Tryz.func58, Tryz.ntmps58
    go_wp2
    refine bodyPost_ret (results_cell_row rfl _ _ g0 85 #[.bool false, .int .i64 0] (0, 0) _ rfl K3.out Tryz.underlying85 rfl (by kernel_rfl)) rfl ?_
    exact ⟨rfl, HRP.out.step F3.out (by rw [show (((k + 1 : Nat)) : Int) = (k : Int) + 1 by omega]; exact B3.out), F3.out⟩
set_option maxHeartbeats 1600000 in
theorem meets_any (B1 B2 : Nat) (a : AskX) (x : EntX) (W : World) (ha : Good B1 W a.af) (hx : Good B2 W x) :
    Calls Tryz.prog 60 #[.agg a.V.toArray, .agg #[.int .i64 x.ts, .slice x.A x.n x.c, .string x.ln]] W fun e w' => e = .returned (.bool (meetsB a.b x.b)) ∧ Below W.heap.size W w' := by
  obtain ⟨lo, hi, asc, lim, has, ⟨ts, A, n, c, ls, ln⟩⟩ := a
  obtain ⟨t2, A2, n2, c2, l2, ln2⟩ := x
  have hbA : Below W.heap.size W ((W.alloc (.cells #[.int .i64 lo, .int .i64 hi, .bool asc, .int .i64 lim, .bool has, .int .i64 ts, .slice A n c, .string ln] 49)).alloc (.cells #[.int .i64 t2, .slice A2 n2 c2, .string ln2] 47)) := ((Below.refl _ _).alloc (Nat.le_refl _) _).alloc (by simp) _
  have AH := Lib.hid (fun w (hw : Below W.heap.size W w) => entAhead_any ts t2 A A2 n n2 c c2 ls l2 ln ln2 asc ha.len hx.len w (ha.set.1.below hw) (hx.set.1.below hw))
  obtain ⟨z, hz⟩ : ∃ z, aheadB ⟨ts, ls, ln⟩ ⟨t2, l2, ln2⟩ asc = z := ⟨_, rfl⟩
  rw [hz] at AH
  have E : meetsB (AskX.b ⟨lo, hi, asc, lim, has, ⟨ts, A, n, c, ls, ln⟩⟩) (EntX.b ⟨t2, A2, n2, c2, l2, ln2⟩) = (decide (lo ≤ t2) && (decide (t2 < hi) && (!has || z))) := by rw [← hz]; rfl
  rw [E]
  have HB := Lib.hid hbA
  clear E hbA ha hx hz
  show Calls Tryz.prog 60 #[.agg #[.int .i64 lo, .int .i64 hi, .bool asc, .int .i64 lim, .bool has, .int .i64 ts, .slice A n c, .string ln], .agg #[.int .i64 t2, .slice A2 n2 c2, .string ln2]] W _
  by_cases h1 : lo ≤ t2
  · have h1' : t2 ≥ lo := h1
    by_cases h2 : t2 < hi
    · cases has with
      | false =>
        rw [decide_eq_true h1, decide_eq_true h2]
        go_enter Tryz.func60, Tryz.ntmps60
        go_wp2
        go_ret
        exact ⟨by first | rfl | simp, HB.out⟩
      | true =>
        rw [decide_eq_true h1, decide_eq_true h2]
        go_enter Tryz.func60, Tryz.ntmps60
        go_wp2_with fail
        refine (AH.out _ HB.out).mono ?_
        rintro e w2 ⟨rfl, hb⟩
        have HB2 := Lib.hid (hop HB.out (Nat.le_refl _) hb)
        clear hb AH HB
        go_wp2
        go_ret
        exact ⟨by first | rfl | simp, HB2.out⟩
    · rw [decide_eq_true h1, decide_eq_false h2]
      go_enter Tryz.func60, Tryz.ntmps60
      go_wp2
      go_ret
      exact ⟨by first | rfl | simp, HB.out⟩
  · rw [decide_eq_false h1]
    go_enter Tryz.func60, Tryz.ntmps60
    go_wp2
    go_ret
    exact ⟨by first | rfl | simp, HB.out⟩
structure TestP (b : Nat) (M : Value) (T : List PairB → Bool) (AO : World → Prop) : Prop where
  below : ∀ w w', AO w → Below w.heap.size w w' → AO w'
  fg : ∀ w w' cur, AO w → Se.FG b w w' → Blk w b 140 cur → AO w'
  test : ∀ w A n c ps, AO w → n ≤ 9223372036854775807 → rightB ps = true → Pairs w A n ps → Calls Tryz.prog 61 #[M, .slice A n c] w fun e w' => e = .returned (.bool (T ps)) ∧ Below w.heap.size w w'
  ptr : ∃ ad, M = .pointer (some ad)
def RangeT (B : Nat) (W : World) (b : Nat) (S : List RepB) (k : Nat) (L : List EntX) (rv lv : Value) (T : List PairB → Bool) (a : AskB) (e : Ending) (w' : World) : Prop :=
  ∃ v Lt, e = .returned (.tuple #[v, .bool (moreL T a (mostOf a.lim (replyAt S k)) (L.map EntX.b)), .int .i64 0]) ∧ OwnE 0 w' W.heap.size v Lt ∧ Lt.map EntX.b = tellL T a (mostOf a.lim (replyAt S k)) (L.map EntX.b) ∧ RepP B w' b S (k + 1) L rv lv ∧ Se.FG b W w'
theorem own_store3 {w : World} {B g : Nat} {v : Value} {l : List EntX} {cs : Array Value} (h : OwnE 0 w B v l) (hg : Blk w g 47 cs) (hv : ∀ b, v.ownBlock = some b → b ≠ g) (ts : Int) (A : Option Addr) (n c : Nat) (ln : ByteArray) :
    OwnE 0 (((w.setCell ⟨g, 0, none⟩ (.int .i64 ts)).setCell ⟨g, 1, none⟩ (.slice A n c)).setCell ⟨g, 2, none⟩ (.string ln)) B v l := by
  have k1 := hg.set_ 0 (.int .i64 ts)
  have k2 := k1.set_ 1 (.slice A n c)
  have s1 : ∀ b, v.ownBlock = some b → (some g : Option Nat) ≠ some b := fun b hb e => hv b hb (Option.some.inj e).symm
  refine ⟨OwnR.grew2 (OwnR.grew2 (OwnR.grew2 h.1 (setOne hg 0 _) s1) (setOne k1 1 _) s1) (setOne k2 2 _) s1, fun x hx => ?_⟩
  have f0 := Se.FG.set_ (b := g) (w := w) 0 (.int .i64 ts)
  have f1 := Se.FG.set_ (b := g) (w := w.setCell ⟨g, 0, none⟩ (.int .i64 ts)) 1 (.slice A n c)
  have f2 := Se.FG.set_ (b := g) (w := (w.setCell ⟨g, 0, none⟩ (.int .i64 ts)).setCell ⟨g, 1, none⟩ (.slice A n c)) 2 (.string ln)
  exact (h.2 x hx).fgT ((f0.trans f1).trans f2) (Nat.zero_le _) hg ent_not_pair
set_option maxRecDepth 100000 in
set_option maxHeartbeats 3200000 in
theorem range_any (B B1 b : Nat) (S : List RepB) (k : Nat) (L : List EntX) (rv lv M : Value) (T : List PairB → Bool) (AO : World → Prop) (tp : TestP b M T AO) (a : AskX) (hk : k ≤ 1000000) (hS : S.length ≤ 100000) (hL : L.length ≤ 1000) (hR : ∀ x ∈ L, rightE x.b = true) (W : World) (h : RepP B W b S k L rv lv) (hao : AO W) (ha : Good B1 W a.af) (hB1 : B1 ≤ b) (har : askR a.b = true) (hlm : a.lim ≤ 9223372036854775807) (hmm : (replyAt S k).most ≤ 9223372036854775807) (hf : (replyAt S k).fail = false) :
    Calls Tryz.prog 29 #[.pointer (some ⟨b, 0, none⟩), .agg a.V.toArray, M] W fun e w' => RangeT B W b S k L rv lv T a.b e w' := by
  have hlt := h.blk.lt
  obtain ⟨ad, rfl⟩ := tp.ptr
  obtain ⟨lo, hi, asc, lim, has, ⟨ats, aA, an, ac, als, aln⟩⟩ := a
  have hbA : Below W.heap.size W (W.alloc (.cells #[.int .i64 lo, .int .i64 hi, .bool asc, .int .i64 lim, .bool has, .int .i64 ats, .slice aA an ac, .string aln] 49)) := (Below.refl _ _).alloc (Nat.le_refl _) _
  have KA := Blk.new W 49 #[.int .i64 lo, .int .i64 hi, .bool asc, .int .i64 lim, .bool has, .int .i64 ats, .slice aA an ac, .string aln]
  obtain ⟨g0, hg0⟩ : ∃ g, W.heap.size = g := ⟨_, rfl⟩
  obtain ⟨w1, hw1⟩ : ∃ z, W.alloc (.cells #[.int .i64 lo, .int .i64 hi, .bool asc, .int .i64 lim, .bool has, .int .i64 ats, .slice aA an ac, .string aln] 49) = z := ⟨_, rfl⟩
  rw [hw1] at hbA KA
  have AR := Lib.hid (askRight_any ⟨lo, hi, asc, lim, has, ⟨ats, aA, an, ac, als, aln⟩⟩ w1)
  rw [har] at AR
  replace AR : Hid (Calls Tryz.prog 37 #[.agg #[.int .i64 lo, .int .i64 hi, .bool asc, .int .i64 lim, .bool has, .int .i64 ats, .slice aA an ac, .string aln]] w1 fun e w' => e = .returned (.bool true) ∧ Below w1.heap.size w1 w') := AR
  have hlim : 1 ≤ lim := by
    have h1 := har
    unfold askR at h1
    rw [Bool.and_eq_true, decide_eq_true_iff, decide_eq_true_iff] at h1
    exact h1.2
  have HA1 := Lib.hid (tp.below _ _ hao hbA)
  have HG1 := Lib.hid (ha.below hbA)
  have HRP := Lib.hid (h.below hbA)
  have HB1 := Lib.hid hbA
  have HKA := Lib.hid (show Blk w1 g0 49 #[.int .i64 lo, .int .i64 hi, .bool asc, .int .i64 lim, .bool has, .int .i64 ats, .slice aA an ac, .string aln] by rw [← hg0]; exact KA)
  have TP := Lib.hid tp
  have HFG := Lib.hid (fun w (hf : Se.FG b w1 w) => (Se.FG.of_below hbA).trans hf)
  have hbg : b < g0 := by omega
  have HARG := Lib.hid har
  have SZ := Lib.hid hg0
  have CA := Lib.hid (fun w (h : RepP B w b S k L rv lv) => call_any B b S k L rv lv (by omega) hS w h)
  obtain ⟨⟨fl, mo⟩, hr⟩ : ∃ r, replyAt S k = r := ⟨_, rfl⟩
  rw [hr] at CA hf hmm
  dsimp only at hf hmm
  subst hf
  have HRE := Lib.hid hr
  have HRR := Lib.hid hR
  replace CA : Hid (∀ w, RepP B w b S k L rv lv → Calls Tryz.prog 58 #[.pointer (some ⟨b, 0, none⟩)] w fun e w' => e = .returned (.agg #[.bool false, .int .i64 mo]) ∧ RepP B w' b S (k + 1) L rv lv ∧ Se.FG b w w') := CA
  have a0_ : w1.cell? ⟨g0, 0, none⟩ = some (.int .i64 lo) := (HKA.out.cell 0).trans rfl
  have a1_ : w1.cell? ⟨g0, 1, none⟩ = some (.int .i64 hi) := (HKA.out.cell 1).trans rfl
  have a2_ : w1.cell? ⟨g0, 2, none⟩ = some (.bool asc) := (HKA.out.cell 2).trans rfl
  have a3_ : w1.cell? ⟨g0, 3, none⟩ = some (.int .i64 lim) := (HKA.out.cell 3).trans rfl
  have a4_ : w1.cell? ⟨g0, 4, none⟩ = some (.bool has) := (HKA.out.cell 4).trans rfl
  have a5_ : w1.cell? ⟨g0, 5, none⟩ = some (.int .i64 ats) := (HKA.out.cell 5).trans rfl
  have a6_ : w1.cell? ⟨g0, 6, none⟩ = some (.slice aA an ac) := (HKA.out.cell 6).trans rfl
  have a7_ : w1.cell? ⟨g0, 7, none⟩ = some (.string aln) := (HKA.out.cell 7).trans rfl
  clear h hao ha har KA hbA tp hlt hr hR
  show Calls Tryz.prog 29 #[.pointer (some ⟨b, 0, none⟩), .agg #[.int .i64 lo, .int .i64 hi, .bool asc, .int .i64 lim, .bool has, .int .i64 ats, .slice aA an ac, .string aln], .pointer (some ad)] W _
  go_enter Tryz.func29, Tryz.ntmps29
  go_wp2_with fail
  (try rw [hw1])
  (try rw [SZ.out])
  refine AR.out.mono ?_
  rintro e w2 ⟨rfl, hb⟩
  replace HA1 := Lib.hid (TP.out.below _ _ HA1.out hb)
  replace HG1 := Lib.hid (HG1.out.below hb)
  replace HRP := Lib.hid (HRP.out.below hb)
  replace HKA := Lib.hid (HKA.out.below hb HKA.out.lt)
  replace HFG := Lib.hid (fun w (hf : Se.FG b w2 w) => HFG.out w ((Se.FG.of_below hb).trans hf))
  clear hb a0_ a1_ a2_ a3_ a4_ a5_ a6_ a7_ hw1 HB1 AR hg0
  go_wp2_with fail
  refine (CA.out w2 HRP.out).mono ?_
  rintro e w2' ⟨rfl, hr1, hf1⟩
  have KB := HRP.out.blk
  replace HA1 := Lib.hid (TP.out.fg _ _ _ HA1.out hf1 KB)
  replace HG1 := Lib.hid (HG1.out.fgT hf1 hB1 KB rep_not_pair)
  replace HKA := Lib.hid (HKA.out.fg hf1 (by omega))
  replace HFG := Lib.hid (fun w (hf : Se.FG b w2' w) => HFG.out w (hf1.trans hf))
  clear HRP CA KB
  have HRP := Lib.hid hr1
  clear hr1 hf1
  obtain ⟨gR, hgR⟩ : ∃ g, w2'.heap.size = g := ⟨_, rfl⟩
  have hb : Below w2'.heap.size w2' (w2'.alloc (.cells #[.bool false, .int .i64 mo] 85)) := (Below.refl _ _).alloc (Nat.le_refl _) _
  have KR : Blk (w2'.alloc (.cells #[.bool false, .int .i64 mo] 85)) gR 85 #[.bool false, .int .i64 mo] := by rw [← hgR]; exact Blk.new _ _ _
  obtain ⟨w3, hw3⟩ : ∃ z, w2'.alloc (.cells #[.bool false, .int .i64 mo] 85) = z := ⟨_, rfl⟩
  rw [hw3] at hb KR
  replace HA1 := Lib.hid (TP.out.below _ _ HA1.out hb)
  replace HG1 := Lib.hid (HG1.out.below hb)
  replace HRP := Lib.hid (HRP.out.below hb)
  replace HKA := Lib.hid (HKA.out.below hb HKA.out.lt)
  replace HFG := Lib.hid (fun w (hf : Se.FG b w3 w) => HFG.out w ((Se.FG.of_below hb).trans hf))
  have s0_ : w3.cell? ⟨gR, 0, none⟩ = some (.bool false) := (KR.cell 0).trans rfl
  have s1_ : w3.cell? ⟨gR, 1, none⟩ = some (.int .i64 mo) := (KR.cell 1).trans rfl
  have a3_ : w3.cell? ⟨g0, 3, none⟩ = some (.int .i64 lim) := (HKA.out.cell 3).trans rfl
  obtain ⟨LA, cap, hlv⟩ := OwnR.shape HRP.out.ent.1
  obtain ⟨n, hn⟩ : ∃ n, L.length = n := ⟨_, rfl⟩
  rw [hn] at hlv
  have l2_ : w3.cell? ⟨b, 2, none⟩ = some (.slice LA n cap) := (HRP.out.blk.cell 2).trans (by rw [← hlv]; rfl)
  have WS3 := Lib.hid (show W.heap.size ≤ w3.heap.size by
    have h1 := (HFG.out w3 (Se.FG.refl _ _)).size
    exact h1)
  obtain ⟨aB, haB⟩ : ∃ x, AskX.b ⟨lo, hi, asc, lim, has, ⟨ats, aA, an, ac, als, aln⟩⟩ = x := ⟨_, rfl⟩
  obtain ⟨D, hD⟩ : ∃ D, dirL asc (L.map EntX.b) = D := ⟨_, rfl⟩
  obtain ⟨p, hp⟩ : ∃ p : EntB → Bool, (fun e => meetsB aB e && T e.ls) = p := ⟨_, rfl⟩
  have hasc : aB.asc = asc := by rw [← haB]; rfl
  have hmet : metL T aB (L.map EntX.b) = D.filter p := by unfold metL; rw [hasc, hD, hp]
  have hDn : D.length = n := by rw [← hD, dirL_len, List.length_map, hn]
  have FULLm := fun (mm : Int) (j : Nat) (e : EntB) (h1 : D[j]? = some e) (h2 : p e = true) (h3 : ((D.take j).filter p).length = mm.toNat) => show tellL T aB mm (L.map EntX.b) = (D.take j).filter p ∧ moreL T aB mm (L.map EntX.b) = true from by
    obtain ⟨q1, q2⟩ := met_full p D j mm.toNat e h1 h2 h3
    refine ⟨by unfold tellL; rw [hmet]; exact q1, by unfold moreL; rw [hmet]; exact decide_eq_true q2⟩
  have ENDm := fun (mm : Int) (h3 : ((D.take n).filter p).length ≤ mm.toNat) => show tellL T aB mm (L.map EntX.b) = (D.take n).filter p ∧ moreL T aB mm (L.map EntX.b) = false from by
    obtain ⟨q1, q2⟩ := met_end p D mm.toNat (by rw [hDn]; exact h3)
    rw [hDn] at q1
    refine ⟨by unfold tellL; rw [hmet]; exact q1, by unfold moreL; rw [hmet]; exact decide_eq_false q2⟩
  have AF := Lib.hid (fun w' (hb : Below w3.heap.size w3 w') => show w'.cell? ⟨g0, 0, none⟩ = some (.int .i64 lo) ∧ w'.cell? ⟨g0, 1, none⟩ = some (.int .i64 hi) ∧ w'.cell? ⟨g0, 2, none⟩ = some (.bool asc) ∧ w'.cell? ⟨g0, 3, none⟩ = some (.int .i64 lim) ∧ w'.cell? ⟨g0, 4, none⟩ = some (.bool has) ∧ w'.cell? ⟨g0, 5, none⟩ = some (.int .i64 ats) ∧ w'.cell? ⟨g0, 6, none⟩ = some (.slice aA an ac) ∧ w'.cell? ⟨g0, 7, none⟩ = some (.string aln) from by
    have K := HKA.out.below hb HKA.out.lt
    exact ⟨(K.cell 0).trans rfl, (K.cell 1).trans rfl, (K.cell 2).trans rfl, (K.cell 3).trans rfl, (K.cell 4).trans rfl, (K.cell 5).trans rfl, (K.cell 6).trans rfl, (K.cell 7).trans rfl⟩)
  have MEX := Lib.hid (fun (x : EntX) (B2 : Nat) (hx : Good B2 w3 x) w' (hb : Below w3.heap.size w3 w') => show Calls Tryz.prog 60 #[.agg #[.int .i64 lo, .int .i64 hi, .bool asc, .int .i64 lim, .bool has, .int .i64 ats, .slice aA an ac, .string aln], .agg #[.int .i64 x.ts, .slice x.A x.n x.c, .string x.ln]] w' fun e w'' => e = .returned (.bool (meetsB aB x.b)) ∧ Below w'.heap.size w' w'' from by
    rw [← haB]
    exact meets_any B1 B2 ⟨lo, hi, asc, lim, has, ⟨ats, aA, an, ac, als, aln⟩⟩ x w' (HG1.out.below hb) (hx.below hb))
  have WAY : ∃ mm, mostOf lim ⟨false, mo⟩ = mm ∧ 1 ≤ mm ∧ mm ≤ 9223372036854775807 ∧ ((¬ 1 ≤ mo ∧ mm = lim) ∨ (1 ≤ mo ∧ lim ≤ mo ∧ mm = lim) ∨ (1 ≤ mo ∧ ¬ lim ≤ mo ∧ mm = mo)) := by
    refine ⟨_, rfl, mostOf_pos hlim, Int.le_trans mostOf_hi hlm, ?_⟩
    unfold mostOf
    by_cases h1 : 1 ≤ mo
    · rw [if_pos h1]
      by_cases h2 : lim ≤ mo
      · exact .inr (.inl ⟨h1, h2, by show min lim mo = lim; omega⟩)
      · exact .inr (.inr ⟨h1, h2, by show min lim mo = mo; omega⟩)
    · rw [if_neg h1]
      exact .inl ⟨h1, rfl⟩
  obtain ⟨mm, hmo, hmm1, hmm2, hway⟩ := WAY
  have FIN := Lib.hid (fun (v : Value) (more : Bool) (Lt : List EntX) (w : World) (h1 : tellL T aB mm (L.map EntX.b) = Lt.map EntX.b) (h2 : moreL T aB mm (L.map EntX.b) = more) (h3 : OwnE 0 w w3.heap.size v Lt) (h4 : Below w3.heap.size w3 w) => show RangeT B W b S k L rv lv T (AskX.b ⟨lo, hi, asc, lim, has, ⟨ats, aA, an, ac, als, aln⟩⟩) (.returned (.tuple #[v, .bool more, .int .i64 0])) w from by
    have e1 : mostOf (AskX.b ⟨lo, hi, asc, lim, has, ⟨ats, aA, an, ac, als, aln⟩⟩).lim (replyAt S k) = mm := by rw [HRE.out]; exact hmo
    refine ⟨v, Lt, ?_, h3.mono (Nat.le_refl _) WS3.out, ?_, HRP.out.below h4, HFG.out w (Se.FG.of_below h4)⟩
    · rw [e1, haB, h2]
    · rw [e1, haB, h1])
  have FULL := Lib.hid (FULLm mm)
  have ENDF := Lib.hid (ENDm mm)
  have HN := Lib.hid hn
  have HD := Lib.hid hD
  have HP := Lib.hid hp
  have HDN := Lib.hid hDn
  have HLV := Lib.hid hlv
  have HB3 := Lib.hid (Below.refl w3.heap.size w3)
  have OE0 := Lib.hid (OwnE.nil 0 w3 w3.heap.size)
  have EQ0 := Lib.hid (show ([] : List EntX).map EntX.b = (D.take 0).filter p from rfl)
  have hn1000 : n ≤ 1000 := by omega
  obtain ⟨i0, hinf, hz0, hz1, hz2⟩ := info_parts infoEntS
  clear hb KR hn hD hp hasc hmet hDn FULLm ENDm haB hmo hlv HKA HG1 HFG hlim hlm hmm
  go_upto_if 30 with fail
  go_cut [10] (fun sv wx => sv = .int .i64 mm ∧ w3 = wx)
  case first =>
    have o3_ : (mo ≥ 1) = (1 ≤ mo) := rfl
    rcases hway with ⟨o1_, hs_⟩ | ⟨o1_, o2_, hs_⟩ | ⟨o1_, o2_, hs_⟩
    all_goals
      go_wp2_with fail
      go_meet
      exact ⟨by first | (rw [hs_]; done) | (rw [hs_]; congr 1; omega), rfl⟩
  case rest =>
    obtain ⟨rfl, rfl⟩ := hcut
    clear hway
    go_wp2
    clear hw3 s0_ s1_ a3_ hgR
    go_loopw [6, 40] (fun vv iv wr => ∃ (j : Nat) (Lt : List EntX), j ≤ n ∧ iv = .int .i64 (j : Nat) ∧ (Lt.length : Int) ≤ mm ∧ Hid (OwnE 0 wr w3.heap.size vv Lt) ∧ Hid (Lt.map EntX.b = (D.take j).filter p) ∧ Hid (Below w3.heap.size w3 wr)) (fun _ iv _ => n - (intOf iv).toNat)
    case atStart => exact ⟨0, [], Nat.zero_le _, rfl, by simp only [List.length_nil]; omega, OE0, EQ0, HB3⟩
    case round =>
      clear OE0 EQ0 HB3
      obtain ⟨j, Lt, hjn, rfl, hlt, OE1, EQ, HB1⟩ := hrel
      obtain ⟨A6, c6, hv6⟩ := OwnR.shape OE1.out.1
      subst hv6
      by_cases hj : j < n
      · have jI : (j : Int) < (n : Int) := by omega
        obtain ⟨q, hq⟩ : ∃ q, (if asc then j else n - 1 - j) = q := ⟨_, rfl⟩
        have hqn : q < n := by rw [← hq]; split <;> omega
        have qI : (q : Int) < (n : Int) := by omega
        obtain ⟨x, hx⟩ : ∃ x, L[q]? = some x := ⟨_, List.getElem?_eq_getElem (by rw [HN.out]; exact hqn)⟩
        have XJ0 : D[j]? = some x.b := by
          rw [← HD.out, dirL_at _ _ _ (by rw [List.length_map, HN.out]; exact hj), List.length_map, HN.out, hq, List.getElem?_map, hx]
          rfl
        have hxm := List.mem_of_getElem? hx
        obtain ⟨A2, cap2, e1, _, _, hrow⟩ := OwnR.open entV_len HRP.out.ent.1
        rw [HLV.out] at e1
        injection e1 with e1 e2 e3
        subst e1
        obtain ⟨b1, o1, hA, hlt1, hcc⟩ := hrow.2 (by rw [HN.out]; omega)
        subst hA
        have SP := Lib.hid (fun w' (hb : Below w3.heap.size w3 w') => show w'.cell? ⟨b, 2, none⟩ = some (.slice (some ⟨b1, o1, none⟩) n cap) ∧ w'.cell? ⟨g0, 2, none⟩ = some (.bool asc) ∧ w'.cell? ⟨b1, o1 + q * 3, none⟩ = some (.int .i64 x.ts) ∧ w'.cell? ⟨b1, o1 + q * 3 + 1, none⟩ = some (.slice x.A x.n x.c) ∧ w'.cell? ⟨b1, o1 + q * 3 + 2, none⟩ = some (.string x.ln) ∧ True from
          ⟨(hb.cell (p := ⟨b, 2, none⟩) HRP.out.blk.lt).trans l2_, (AF.out w' hb).2.2.1, (hb.cell (p := ⟨b1, o1 + q * 3, none⟩) hlt1).trans (hcc q 0 _ hx (by decide)), (hb.cell (p := ⟨b1, o1 + q * 3 + 1, none⟩) hlt1).trans (hcc q 1 _ hx (by decide)), (hb.cell (p := ⟨b1, o1 + q * 3 + 2, none⟩) hlt1).trans (hcc q 2 _ hx (by decide)), trivial⟩)
        have PL := Lib.hid (fun w (hb : Below w3.heap.size w3 w) => place_any B b S (k + 1) L rv lv j asc (by rw [HN.out]; exact hj) (by rw [HN.out]; exact hn1000) w (HRP.out.below hb))
        rw [HN.out, hq] at PL
        have ME := Lib.hid (MEX.out x 0 (HRP.out.ent.2 x hxm))
        have TE := Lib.hid (fun w (hb : Below w3.heap.size w3 w) => TP.out.test w x.A x.n x.c x.ls (TP.out.below _ _ HA1.out hb) (HRP.out.ent.2 x hxm).len (by have h1 := HRR.out x hxm; unfold rightE at h1; exact (Bool.and_eq_true _ _ ▸ h1).1) ((HRP.out.ent.2 x hxm).set.1.below hb))
        have XN : x.n ≤ 1000 := by
          have h1 := rightB_len (ps := x.ls) (by have h1 := HRR.out x hxm; unfold rightE at h1; exact (Bool.and_eq_true _ _ ▸ h1).1)
          have h2 := (HRP.out.ent.2 x hxm).set.1.1
          omega
        have OW := Lib.hid (fun w (hb : Below w3.heap.size w3 w) => own_any 0 x XN w ((HRP.out.ent.2 x hxm).below hb))
        have NX := Lib.hid (met_next p D j x.b XJ0)
        have LTN := Lib.hid (show Lt.length ≤ j by
          have h1 := congrArg List.length EQ.out
          rw [List.length_map] at h1
          rw [h1]
          exact Nat.le_trans (List.length_filter_le _ _) (by rw [List.length_take]; omega))
        obtain ⟨z1, hz1'⟩ : ∃ z, meetsB aB x.b = z := ⟨_, rfl⟩
        obtain ⟨z2, hz2'⟩ : ∃ z, T x.ls = z := ⟨_, rfl⟩
        have PX := Lib.hid (show p x.b = (z1 && z2) by rw [← HP.out]; show (meetsB aB x.b && T x.ls) = _; rw [hz1', hz2'])
        rw [hz1'] at ME
        rw [hz2'] at TE
        have XJ := Lib.hid XJ0
        obtain ⟨xb, hxb⟩ : ∃ e, x.b = e := ⟨_, rfl⟩
        rw [hxb] at XJ NX PX
        have YBX := Lib.hid hxb
        obtain ⟨ts, XA, xn, xc, xls, ln⟩ := x
        dsimp only at SP ME TE OW XN
        have HB0 : Below w3.heap.size w3 wr.drew := below_drewN HB1.out 1
        have OE : OwnE 0 wr.drew w3.heap.size (.slice A6 Lt.length c6) Lt := OE1.out.drewN 1
        clear hcc hx hxm hrow e2 e3 hz1' hz2' hxb XJ0 hq OE1 HB1 hlt1
        go_wp2
        refine wp_region_held_drew (S := fun w' => w'.cell? ⟨b, 2, none⟩ = some (.slice (some ⟨b1, o1, none⟩) n cap) ∧ w'.cell? ⟨g0, 2, none⟩ = some (.bool asc) ∧ w'.cell? ⟨b1, o1 + q * 3, none⟩ = some (.int .i64 ts) ∧ w'.cell? ⟨b1, o1 + q * 3 + 1, none⟩ = some (.slice XA xn xc) ∧ w'.cell? ⟨b1, o1 + q * 3 + 2, none⟩ = some (.string ln) ∧ True) (by kernel_rfl) (SP.out wr.drew HB0) (fun hS => ?_)
        obtain ⟨w0, hw0⟩ : ∃ z, wr.drew = z := ⟨_, rfl⟩
        rw [hw0] at hS HB0 OE ⊢
        clear hw0
        refine tV 0 ?_; refine tV 1 ?_; refine tV 2 ?_; refine tH 3 ?_; refine tV 4 ?_; refine tV 5 ?_; refine tV 6 ?_; refine tH 7 ?_
        refine rdy [8, 11] ?_
        refine rdC (fun K hK => ?_) ?_
        focus
          go_simp
          go_at_call 59
          refine (PL.out w0 HB0).mono ?_
          rintro _ w9_ ⟨rfl, hw9_⟩
          obtain rfl := hw9_.symm
          refine hK.out _ _ hS (fun _ => ?_)
          clear hK K
          try simp only [Act.put, pz1, pz2, pz3]
          refine tV 9 ?_; refine tH 10 ?_
          refine rdy [11] ?_
          refine rdC (fun K hK => ?_) AllReadyH.nil
          go_simp
          have hb3 : Below w0.heap.size w0 (w0.alloc (.cells #[.int .i64 0, .slice none 0 0, .string ⟨#[]⟩] 47)) := (Below.refl _ _).alloc (Nat.le_refl _) _
          obtain ⟨g9, hg9⟩ : ∃ g, w0.heap.size = g := ⟨_, rfl⟩
          have K9 : Blk (w0.alloc (.cells #[.int .i64 0, .slice none 0 0, .string ⟨#[]⟩] 47)) g9 47 #[.int .i64 0, .slice none 0 0, .string ⟨#[]⟩] := by rw [← hg9]; exact Blk.new _ _ _
          have G9 : w3.heap.size ≤ g9 := by rw [← hg9]; exact HB0.size
          have LV9 : ∀ g, (Value.slice A6 Lt.length c6).ownBlock = some g → g < g9 := fun g hg => by rw [← hg9]; exact (World.ownsRow.lt OE.1 g hg).2
          obtain ⟨wT, hwc⟩ : ∃ z, w0.alloc (.cells #[.int .i64 0, .slice none 0 0, .string ⟨#[]⟩] 47) = z := ⟨_, rfl⟩
          rw [hwc] at hb3 K9
          rw [hwc, hg9]
          clear hwc hg9
          replace OE := OE.below hb3
          replace HB0 := hop HB0 (Nat.le_refl _) hb3
          clear hb3 hS
          have hS := SP.out wT HB0
          refine hK.out _ _ hS (fun _ => ?_)
          clear hK K
          try simp only [Act.put, pz1, pz2, pz3]
        rotate_left 1
        refine rdC (fun K hK => ?_) AllReadyH.nil
        focus
          go_simp
          have hb3 : Below w0.heap.size w0 (w0.alloc (.cells #[.int .i64 0, .slice none 0 0, .string ⟨#[]⟩] 47)) := (Below.refl _ _).alloc (Nat.le_refl _) _
          obtain ⟨g9, hg9⟩ : ∃ g, w0.heap.size = g := ⟨_, rfl⟩
          have K9 : Blk (w0.alloc (.cells #[.int .i64 0, .slice none 0 0, .string ⟨#[]⟩] 47)) g9 47 #[.int .i64 0, .slice none 0 0, .string ⟨#[]⟩] := by rw [← hg9]; exact Blk.new _ _ _
          have G9 : w3.heap.size ≤ g9 := by rw [← hg9]; exact HB0.size
          have LV9 : ∀ g, (Value.slice A6 Lt.length c6).ownBlock = some g → g < g9 := fun g hg => by rw [← hg9]; exact (World.ownsRow.lt OE.1 g hg).2
          obtain ⟨wT, hwc⟩ : ∃ z, w0.alloc (.cells #[.int .i64 0, .slice none 0 0, .string ⟨#[]⟩] 47) = z := ⟨_, rfl⟩
          rw [hwc] at hb3 K9
          rw [hwc, hg9]
          clear hwc hg9
          replace OE := OE.below hb3
          replace HB0 := hop HB0 (Nat.le_refl _) hb3
          clear hb3 hS
          have hS := SP.out wT HB0
          refine hK.out _ _ hS (fun _ => ?_)
          clear hK K
          try simp only [Act.put, pz1, pz2, pz3]
          refine rdy [8] ?_
          refine rdC (fun K hK => ?_) AllReadyH.nil
          go_simp
          go_at_call 59
          refine (PL.out wT HB0).mono ?_
          rintro _ w9_ ⟨rfl, hw9_⟩
          obtain rfl := hw9_.symm
          refine hK.out _ _ hS (fun _ => ?_)
          clear hK K
          try simp only [Act.put, pz1, pz2, pz3]
          refine tV 9 ?_; refine tH 10 ?_
        all_goals
          refine rdy [12] ?_
          refine rdC (fun K hK => ?_) AllReadyH.nil
          have e0_ := (K9.cell 0).trans (show _ = some (Value.int .i64 0) from rfl)
          have e1_ := (K9.cell 1).trans (show _ = some (Value.slice none 0 0) from rfl)
          have e2_ := (K9.cell 2).trans (show _ = some (Value.string ⟨#[]⟩) from rfl)
          have q0_ := K9.frozen 0
          have q1_ := K9.frozen 1
          have q2_ := K9.frozen 2
          go_simp
          have HBs := ((HB0.setCell (p := ⟨g9, 0, none⟩) G9 (.int .i64 ts)).setCell (p := ⟨g9, 1, none⟩) G9 (.slice XA xn xc)).setCell (p := ⟨g9, 2, none⟩) G9 (.string ln)
          have hSn := SP.out _ HBs
          refine hK.out _ _ hSn (fun _ => ?_)
          clear hSn hS e0_ e1_ e2_ q0_ q1_ q2_
          clear hK K
          try simp only [Act.put, pz1, pz2, pz3]
          refine wpAnyH_done (by kernel_rfl) ?_ _
          have K9s := ((K9.set_ 0 (.int .i64 ts)).set_ 1 (.slice XA xn xc)).set_ 2 (.string ln)
          have OEs : OwnE 0 (((wT.setCell ⟨g9, 0, none⟩ (.int .i64 ts)).setCell ⟨g9, 1, none⟩ (.slice XA xn xc)).setCell ⟨g9, 2, none⟩ (.string ln)) w3.heap.size (.slice A6 Lt.length c6) Lt := own_store3 OE K9 (fun g hg e => by have := LV9 g hg; omega) ts XA xn xc ln
          obtain ⟨w4, hw4⟩ : ∃ z, (((wT.setCell ⟨g9, 0, none⟩ (.int .i64 ts)).setCell ⟨g9, 1, none⟩ (.slice XA xn xc)).setCell ⟨g9, 2, none⟩ (.string ln)) = z := ⟨_, rfl⟩
          rw [hw4] at K9s OEs HBs ⊢
          have K9x := Lib.hid (show Blk w4 g9 47 #[.int .i64 ts, .slice XA xn xc, .string ln] from K9s)
          have OEx := Lib.hid OEs
          have HBx := Lib.hid HBs
          have G9x := Lib.hid G9
          clear K9 K9s OE OEs HB0 HBs hw4 G9 LV9
          have ltL := LTN.out
          obtain ⟨a0_, a1_, a2_, a3_, a4_, a5_, a6_, a7_⟩ := AF.out w4 HBx.out
          have x0_ : w4.cell? ⟨g9, 0, none⟩ = some (.int .i64 ts) := (K9x.out.cell 0).trans rfl
          have x1_ : w4.cell? ⟨g9, 1, none⟩ = some (.slice XA xn xc) := (K9x.out.cell 1).trans rfl
          have x2_ : w4.cell? ⟨g9, 2, none⟩ = some (.string ln) := (K9x.out.cell 2).trans rfl
          cases z1 with
          | false =>
            have EQ1 := Lib.hid (show Lt.map EntX.b = (D.take (j + 1)).filter p by rw [NX.out, EQ.out, PX.out]; exact (List.append_nil _).symm)
            go_wp2_with fail
            refine (ME.out w4 HBx.out).mono ?_
            rintro e w5 ⟨rfl, hb⟩
            replace K9x := Lib.hid (K9x.out.below hb K9x.out.lt)
            replace OEx := Lib.hid (OEx.out.below hb)
            replace HBx := Lib.hid (hop HBx.out (Nat.le_refl _) hb)
            clear hb
            clear a0_ a1_ a2_ a3_ a4_ a5_ a6_ a7_ x0_ x1_ x2_
            have x1_ : w5.cell? ⟨g9, 1, none⟩ = some (.slice XA xn xc) := (K9x.out.cell 1).trans rfl
            clear x1_
            go_wp2
            go_round
            case rel => exact ⟨j + 1, Lt, by omega, by go_num, by omega, OEx, EQ1, HBx⟩
            case measure => first | (simp [intOf]; done) | (simp [intOf]; omega)
          | true =>
            cases z2 with
            | false =>
              have EQ1 := Lib.hid (show Lt.map EntX.b = (D.take (j + 1)).filter p by rw [NX.out, EQ.out, PX.out]; exact (List.append_nil _).symm)
              go_wp2_with fail
              refine (ME.out w4 HBx.out).mono ?_
              rintro e w5 ⟨rfl, hb⟩
              replace K9x := Lib.hid (K9x.out.below hb K9x.out.lt)
              replace OEx := Lib.hid (OEx.out.below hb)
              replace HBx := Lib.hid (hop HBx.out (Nat.le_refl _) hb)
              clear hb
              clear a0_ a1_ a2_ a3_ a4_ a5_ a6_ a7_ x0_ x1_ x2_
              have x1_ : w5.cell? ⟨g9, 1, none⟩ = some (.slice XA xn xc) := (K9x.out.cell 1).trans rfl
              go_wp2_with fail
              refine (TE.out w5 HBx.out).mono ?_
              rintro e w6 ⟨rfl, hb⟩
              clear x1_
              replace K9x := Lib.hid (K9x.out.below hb K9x.out.lt)
              replace OEx := Lib.hid (OEx.out.below hb)
              replace HBx := Lib.hid (hop HBx.out (Nat.le_refl _) hb)
              clear hb
              go_wp2
              go_round
              case rel => exact ⟨j + 1, Lt, by omega, by go_num, by omega, OEx, EQ1, HBx⟩
              case measure => first | (simp [intOf]; done) | (simp [intOf]; omega)
            | true =>
              by_cases hfull : (Lt.length : Int) = mm
              · have fI : ((Lt.length : Int) == mm) = true := by rw [hfull]; exact beq_self_eq_true _
                have FR := Lib.hid (FULL.out j _ XJ.out PX.out (by rw [← EQ.out, List.length_map]; omega))
                go_wp2_with fail
                refine (ME.out w4 HBx.out).mono ?_
                rintro e w5 ⟨rfl, hb⟩
                replace K9x := Lib.hid (K9x.out.below hb K9x.out.lt)
                replace OEx := Lib.hid (OEx.out.below hb)
                replace HBx := Lib.hid (hop HBx.out (Nat.le_refl _) hb)
                clear hb
                clear a0_ a1_ a2_ a3_ a4_ a5_ a6_ a7_ x0_ x1_ x2_
                have x1_ : w5.cell? ⟨g9, 1, none⟩ = some (.slice XA xn xc) := (K9x.out.cell 1).trans rfl
                go_wp2_with fail
                refine (TE.out w5 HBx.out).mono ?_
                rintro e w6 ⟨rfl, hb⟩
                clear x1_
                replace K9x := Lib.hid (K9x.out.below hb K9x.out.lt)
                replace OEx := Lib.hid (OEx.out.below hb)
                replace HBx := Lib.hid (hop HBx.out (Nat.le_refl _) hb)
                clear hb
                go_wp2
                go_ret3
                exact FIN.out _ _ _ _ (FR.out.1.trans EQ.out.symm) FR.out.2 OEx.out HBx.out
              · have fI : ((Lt.length : Int) == mm) = false := by rw [beq_eq_false_iff_ne]; exact hfull
                have EQ1 := Lib.hid (fun y : EntX => fun (hy : y.b = xb) => show (Lt ++ [y]).map EntX.b = (D.take (j + 1)).filter p by rw [NX.out, List.map_append, EQ.out, PX.out, List.map_singleton, hy]; rfl)
                go_wp2_with fail
                refine (ME.out w4 HBx.out).mono ?_
                rintro e w5 ⟨rfl, hb⟩
                replace K9x := Lib.hid (K9x.out.below hb K9x.out.lt)
                replace OEx := Lib.hid (OEx.out.below hb)
                replace HBx := Lib.hid (hop HBx.out (Nat.le_refl _) hb)
                clear hb
                clear a0_ a1_ a2_ a3_ a4_ a5_ a6_ a7_ x0_ x1_ x2_
                have x1_ : w5.cell? ⟨g9, 1, none⟩ = some (.slice XA xn xc) := (K9x.out.cell 1).trans rfl
                go_wp2_with fail
                refine (TE.out w5 HBx.out).mono ?_
                rintro e w6 ⟨rfl, hb⟩
                clear x1_
                replace K9x := Lib.hid (K9x.out.below hb K9x.out.lt)
                replace OEx := Lib.hid (OEx.out.below hb)
                replace HBx := Lib.hid (hop HBx.out (Nat.le_refl _) hb)
                clear hb
                have x0_ : w6.cell? ⟨g9, 0, none⟩ = some (.int .i64 ts) := (K9x.out.cell 0).trans rfl
                have x1_ : w6.cell? ⟨g9, 1, none⟩ = some (.slice XA xn xc) := (K9x.out.cell 1).trans rfl
                have x2_ : w6.cell? ⟨g9, 2, none⟩ = some (.string ln) := (K9x.out.cell 2).trans rfl
                go_wp2_with fail
                refine (OW.out w6 HBx.out).mono ?_
                rintro e w7 ⟨y, rfl, hyb, hyg, hb⟩
                clear x0_ x1_ x2_
                replace K9x := Lib.hid (K9x.out.below hb K9x.out.lt)
                replace OEx := Lib.hid (OEx.out.below hb)
                replace HBx := Lib.hid (hop HBx.out (Nat.le_refl _) hb)
                clear hb
                have YG := Lib.hid hyg
                have YB := Lib.hid hyb
                clear hyb hyg
                go_wp2_with (at_builtin; refine wpList_append_lies _ rfl (.tmp 70) (.tmp 73) 64 rfl w3.heap.size 47 i0 (.agg #[.int .i64 0, .slice none 0 0, .string ⟨#[]⟩]) 3 48 Tryz.underlying64 hinf hz0 hz1 hz2 rfl (by decide) _ _ _ rfl (OwnR.alloc OEx.out.1 (.cells #[.int .i64 y.ts, .slice y.A y.n y.c, .string y.ln] 47)) ⟨w7.heap.size, 0, none⟩ 1 1 (EntX.V y) rfl rfl (World.news_of_block (Blk.new _ _ _)) (entV_one y) (by decide) (by unfold maxLen; omega) (by omega) (by have := HBx.out.size; simp; omega) _ rfl ?_)
                intro g2 cap2 w8 hown' hgrow hg' hlt2
                have OE8 := Lib.hid (OwnE.snoc (OEx.out.alloc (.cells #[.int .i64 y.ts, .slice y.A y.n y.c, .string y.ln] 47)) (YG.out.below ((Below.refl _ _).alloc (Nat.le_refl _) (.cells #[.int .i64 y.ts, .slice y.A y.n y.c, .string y.ln] 47))) (Nat.zero_le _) hgrow hown')
                have HB8 := Lib.hid ((HBx.out.alloc HBx.out.size (.cells #[.int .i64 y.ts, .slice y.A y.n y.c, .string y.ln] 47)).grown hgrow (by have := HBx.out.size; simp; omega) (fun r hr => (World.ownsRow.lt OEx.out.1 r hr).1))
                have EQ8 := Lib.hid (EQ1.out y (YB.out.trans YBX.out))
                clear hown' hgrow hg' hlt2 OEx HBx K9x EQ1
                have hll : (((Lt ++ [y]).length : Nat) : Int) ≤ mm := by rw [List.length_append]; simp only [List.length_singleton]; omega
                go_wp2
                go_round
                case rel => exact ⟨j + 1, _, by omega, by go_num, hll, OE8, EQ8, HB8⟩
                case measure => first | (simp [intOf]; done) | (simp [intOf]; omega)
      · have jI : ¬ (j : Int) < (n : Int) := by omega
        have ER := Lib.hid (ENDF.out (by
          have h1 := congrArg List.length EQ.out
          rw [List.length_map, show j = n by omega] at h1
          omega))
        go_wp2
        go_ret3
        refine FIN.out _ _ _ _ (ER.out.1.trans ?_) ER.out.2 OE1.out HB1.out
        rw [EQ.out, show j = n by omega]
end Go.Proofs.YtdaainifkldcpaaGreatDoor
