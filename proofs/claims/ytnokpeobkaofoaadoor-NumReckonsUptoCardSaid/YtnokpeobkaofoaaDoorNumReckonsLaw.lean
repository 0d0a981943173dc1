/- The walk of the law NumReckons: any numbers are added, taken off, multiplied, and the least of them is told, as the document says. -/
import Derived.Test.YtnokpeobkaofoaaDoorNumManyLaw
import Derived.Test.YtnokpeobkaofoaaDoorRefNum3
import Derived.Laws.AppendOwnNone
namespace Go.Proofs.YtnokpeobkaofoaaDoor
open Go.RowKit
set_option linter.unusedVariables false

theorem ints_news {k : IntKind} {w : World} {ad : Addr} {n : Nat} {zs : List Int} (h : Ints k w (some ad) n zs) : ∀ (j : Nat) (u : Value), (iV k zs)[j]? = some u → w.cell? (ad.add j) = some u := by
  intro j u hj
  have hlt : j < n := by
    rcases Nat.lt_or_ge j n with hlt | hge
    · exact hlt
    · rw [List.getElem?_eq_none (by rw [iV, List.length_map, h.1]; exact hge)] at hj; cases hj
  obtain ⟨b, off, e, _, hc⟩ := h.2.2 (by omega)
  injection e with e
  subst e
  rw [ints_add, hc j hlt, List.getD_eq_getElem?_getD, List.getElem?_eq_getElem (by rw [h.1]; exact hlt)]
  rw [iV, List.getElem?_map, List.getElem?_eq_getElem (by rw [h.1]; exact hlt)] at hj
  exact hj
theorem wpList_append_own_if {P : Program} {w : World} {ops : Array Oper} {rest : List Oper} {o : Oper} {a : Act} {Q : Exit → Act → World → Prop} (hgd : Region.wanted o (yielded ops a.tmps) = true) (s x : Operand) (t : TypeId)
    (ho : o.op = .call { callee := .builtin .append, args := #[s, x], argTypes := #[t, t] })
    (base : Nat) (e : TypeId) (i : TypeInfo) (z : Value) (size bytes : Nat) (ht : P.underlying t = some (.slice e)) (hi : P.info? e = some i) (hz : i.zero = some z)
    (hsize : i.size = size) (hby : i.bytes = bytes) (hzs : z.cells.size = size) (hsz : 0 < size)
    (v : Value) (n : Nat) (xs : List Value) (hs : a.eval s = v) (hown : w.ownsRow base e size v n xs)
    (ad : Addr) (m c : Nat) (news : List Value) (hx : a.eval x = .slice (some ad) m c) (hl : news.length = m * size) (hnews : ∀ j u, news[j]? = some u → w.cell? (ad.add j) = some u) (h1 : ∀ u ∈ news, u.oneCell' = true)
    (h63 : n + m ≤ maxLen) (hbytes : (n + m) * bytes ≤ 140737488355328) (hbase : base ≤ w.heap.size)
    (h : ∀ v' w', w'.ownsRow base e size v' (n + m) (xs ++ news) → w.grownBy w' v.ownBlock → (v' = .slice none 0 0 ↔ v = .slice none 0 0 ∧ m = 0) → wpList P ops Q rest (a.put o.dst v') w') : wpList P ops Q (o :: rest) a w :=
  wpList_step fun K hK => by
    rw [if_pos hgd]
    exact wp_append_own w s x t ho base e i z size bytes ht hi hz hsize hby hzs hsz v n xs hs hown ad m c news hx hl hnews h1 h63 hbytes hbase fun v' w' h2 h3 h4 => hK _ _ (h v' w' h2 h3 h4)

theorem wpList_append_own_none_if {P : Program} {w : World} {ops : Array Oper} {rest : List Oper} {o : Oper} {a : Act} {Q : Exit → Act → World → Prop} (hgd : Region.wanted o (yielded ops a.tmps) = true) (s x : Operand) (t : TypeId)
    (ho : o.op = .call { callee := .builtin .append, args := #[s, x], argTypes := #[t, t] })
    (base : Nat) (e : TypeId) (i : TypeInfo) (size : Nat) (ht : P.underlying t = some (.slice e)) (hi : P.info? e = some i)
    (v : Value) (n : Nat) (xs : List Value) (hs : a.eval s = v) (hown : w.ownsRow base e size v n xs) (hx : a.eval x = .slice none 0 0)
    (h : wpList P ops Q rest (a.put o.dst v) w) : wpList P ops Q (o :: rest) a w := by
  refine wpList_step fun K hK => ?_
  rw [if_pos hgd]
  have hrun := run_append_owned_none (P := P) (w := w) base t o.type e i size ht hi v n xs hown
  unfold Oper.wp
  simp [execOp, ho, resolve, invoke, builtin, hs, hx, hrun, Result.andThen]
  exact hK _ _ h

/-- the list as far as it was made small -/
def tamed (zs : List Int) (k : Nat) : List Int := (zs.take k).map (fun z => z.tmod 100) ++ zs.drop k
theorem tamed_len (zs : List Int) (k : Nat) : (tamed zs k).length = zs.length := by
  simp [tamed]
  omega
theorem tamed_set (zs : List Int) (k : Nat) (h : k < zs.length) : (tamed zs k).set k ((zs.getD k 0).tmod 100) = tamed zs (k + 1) := by
  unfold tamed
  have hl : ((zs.take k).map (fun z => z.tmod 100)).length = k := by rw [List.length_map, List.length_take]; omega
  rw [List.set_append_right _ _ (by omega), hl, Nat.sub_self, List.drop_eq_getElem_cons h, List.set_cons_zero, List.take_succ_eq_append_getElem h, List.map_append, List.append_assoc, List.getD_eq_getElem?_getD, List.getElem?_eq_getElem h]
  rfl
theorem tamed_get (zs : List Int) (k : Nat) (h : k < zs.length) : (tamed zs k)[k]? = some (zs.getD k 0) := by
  unfold tamed
  have hl : ((zs.take k).map (fun z => z.tmod 100)).length = k := by rw [List.length_map, List.length_take]; omega
  rw [List.getElem?_append_right (by omega), hl, Nat.sub_self, List.getElem?_drop, Nat.add_zero, List.getD_eq_getElem?_getD, List.getElem?_eq_getElem h]
  rfl
theorem tamed_wf (zs : List Int) (k : Nat) (h : ∀ z ∈ zs, (Lit.int .i64 z).wf = true) : ∀ z ∈ tamed zs k, (Lit.int .i64 z).wf = true := by
  intro z hz
  rcases List.mem_append.1 hz with hz | hz
  · obtain ⟨y, hy, rfl⟩ := List.mem_map.1 hz
    have h1 : (y.tmod 100).natAbs < 100 := by rw [Int.natAbs_tmod]; exact Nat.mod_lt _ (by decide)
    simp [Lit.wf, IntKind.min, IntKind.max, IntKind.signed, IntKind.bits]
    omega
  · exact h z (List.mem_of_mem_drop hz)

set_option maxRecDepth 100000 in
set_option maxHeartbeats 3200000 in
theorem numReckons_walk {W : World} (A : Option Addr) (n c : Nat) (zs : List Int) (a b : Int) (small : Bool) (h : Ints .i64 W A n zs) (hn : n ≤ 1048576) (hc : n ≤ c) (hnil : A = none → c = 0) (wa : (Lit.int .i64 a).wf = true) (wb : (Lit.int .i64 b).wf = true) (hl : LibIs W) :
    Calls Tryd.prog 3 #[.slice A n c, .int .i64 a, .int .i64 b, .bool small] W fun e w' => e = .returned (.bool true) ∧ Below W.heap.size W w' := by
  obtain ⟨i0, hi, hz0, hz1, hz2⟩ := info_parts infoI64
  have h0 : W.heap.size ≤ W.heap.size := Nat.le_refl _
  obtain ⟨a0, a1⟩ := bdi64 wa
  obtain ⟨b0, b1⟩ := bdi64 wb
  have HX := Lib.hid (numExamples_any W hl)
  have HWF := Lib.hid h.2.1
  have hlen := h.1
  have HLEN := Lib.hid hlen
  have HI := Lib.hid h
  have hlv : (iV .i64 zs).length = n := by rw [iV, List.length_map, hlen]
  have HLV := Lib.hid hlv
  clear h hlen hlv
  have hA : (A = none ∧ n = 0 ∧ c = 0 ∧ zs = []) ∨ (∃ ad, A = some ad ∧ n = 0 ∧ zs = []) ∨ (∃ ad, A = some ad ∧ 0 < n) := by
    cases A with
    | none =>
      left
      have hc0 := hnil rfl
      have hn0 : n = 0 := by omega
      exact ⟨rfl, hn0, hc0, List.eq_nil_of_length_eq_zero (by rw [HLEN.out, hn0])⟩
    | some ad =>
      right
      rcases Nat.eq_zero_or_pos n with hn0 | hn0
      · exact .inl ⟨ad, rfl, hn0, List.eq_nil_of_length_eq_zero (by rw [HLEN.out, hn0])⟩
      · exact .inr ⟨ad, rfl, hn0⟩
  clear hnil
  rcases hA with ⟨rfl, rfl, rfl, rfl⟩ | ⟨ad, rfl, rfl, rfl⟩ | ⟨ad, rfl, hn0⟩
  · go_enter Tryd.func3, Tryd.ntmps3
    go_wp2_with fail
    refine HX.out.mono ?_
    rintro e w1 ⟨rfl, hb⟩
    have HI1 := Lib.hid (HI.out.below hb)
    have hs1 := hb.size
    go_wp2_with (at_builtin; refine wpList_append_own_none rfl (.const (.slice none 0 0)) (.tmp 27) 22 rfl W.heap.size 2 i0 1 Tryd.underlying22 hi (.slice none 0 0) 0 [] rfl (OwnI.nil .i64 _ _ _) rfl ?_)
    have OWN : OwnI .i64 w1 W.heap.size 2 (.slice none 0 0) [] := OwnI.nil _ _ _ _
    replace OWN : OwnI .i64 _ W.heap.size 2 (.slice none 0 0) (tamed [] 0) := OWN
    go_wp2
    go_loopw [11] (fun i wr => ∃ k : Nat, k ≤ 0 ∧ i = .int .i64 k ∧ OwnI .i64 wr W.heap.size 2 (.slice none 0 0) (tamed [] k) ∧ Below W.heap.size W wr ∧ (small = true ∨ k = 0)) (fun i _ => 0 - (intOf i).toNat)
    case atStart => exact ⟨0, Nat.zero_le _, rfl, OWN, hb, .inr rfl⟩
    case round =>
      obtain ⟨k, hk, rfl, hown, hbz, hks⟩ := hrel
      clear OWN hb
      by_cases hgo : k < 0 ∧ small = true
      · obtain ⟨hkn, rfl⟩ := hgo
        omega
      · have hend : (k = 0) ∨ ((k : Int) < (0 : Nat) ∧ small = false) := by
          by_cases h1 : k < 0
          · right; refine ⟨by omega, ?_⟩
            cases small with
            | true => exact absurd ⟨h1, rfl⟩ hgo
            | false => rfl
          · left; omega
        obtain ⟨ms, hms⟩ : ∃ ms, tamed [] k = ms := ⟨_, rfl⟩
        have hmw : ∀ z ∈ ms, (Lit.int .i64 z).wf = true := by rw [← hms]; exact tamed_wf [] k HWF.out
        have hml : ms.length = 0 := by rw [← hms, tamed_len]; exact HLEN.out
        rw [hms] at hown
        have hints : Ints .i64 wr none 0 ms := by
          obtain ⟨A2, c2, e, _, hi2⟩ := hown.ints hmw
          rw [hml] at e hi2
          injection e with e1 e2 e3
          rw [e1]
          exact hi2
        have S1 := Lib.hid (fun w h => same_below (add_any none 0 0 ms (by omega) w h))
        have S2 := Lib.hid (fun w h => same_below (refAdd_any none 0 0 ms (by omega) w h))
        have S3 := Lib.hid (fun w h => same_below (mul_any none 0 0 ms (by omega) w h))
        have S4 := Lib.hid (fun w h => same_below (refMul_any none 0 0 ms (by omega) w h))
        have S5 := Lib.hid (fun w h => same_below (least_any a none 0 0 ms (by omega) w h))
        have S6 := Lib.hid (fun A2 c2 w h => same_below (refLeast_any a ms A2 (0 + 1) c2 (by omega) w h))
        have D1 := Lib.hid (fun w => same_below (sub_any a b a0 a1 b0 b1 w))
        have D2 := Lib.hid (fun w => same_below (refSub_any a b a0 a1 b0 b1 w))
        have HIZ := Lib.hid hints
        have HMW := Lib.hid hmw
        have HML := Lib.hid hml
        have HWA := Lib.hid wa
        have OWA := Lib.hid (fun (w : World) (h : wr.heap.size ≤ w.heap.size) => (show (w.alloc (.cells #[.int .i64 a] 2)).ownsRow wr.heap.size 2 1 (.slice (some ⟨w.heap.size, 0, none⟩) 1 1) 1 (iV .i64 [a]) from World.ownsRow_lit w #[.int .i64 a] 1 h (by decide) rfl))
        obtain ⟨s1, hs1⟩ : ∃ x, sumR ms = x := ⟨_, rfl⟩
        obtain ⟨s2, hs2⟩ : ∃ x, mulR ms = x := ⟨_, rfl⟩
        obtain ⟨s3, hs3⟩ : ∃ x, stepR (· - ·) (some a) b = x := ⟨_, rfl⟩
        obtain ⟨lz, hlz⟩ : ∃ x, leastZ a ms = x := ⟨_, rfl⟩
        simp only [hs1, hs2, hs3, hlz] at S1 S2 S3 S4 S5 S6 D1 D2
        obtain ⟨n1, hn1⟩ : ∃ x, s1.getD 0 = x := ⟨_, rfl⟩
        obtain ⟨n2, hn2⟩ : ∃ x, s2.getD 0 = x := ⟨_, rfl⟩
        obtain ⟨n3, hn3⟩ : ∃ x, s3.getD 0 = x := ⟨_, rfl⟩
        obtain ⟨q1, hq1⟩ : ∃ x, s1.isSome = x := ⟨_, rfl⟩
        obtain ⟨q2, hq2⟩ : ∃ x, s2.isSome = x := ⟨_, rfl⟩
        obtain ⟨q3, hq3⟩ : ∃ x, s3.isSome = x := ⟨_, rfl⟩
        simp only [hn1, hn2, hn3, hq1, hq2, hq3] at S1 S2 S3 S4 D1 D2
        clear hints hmw hml hs1 hs2 hs3 hlz hn1 hn2 hn3 hq1 hq2 hq3 hown hms hgo hks HWF HLEN HI HI1 HLV HX hc hl
        obtain rfl : k = 0 := by omega
        all_goals
          go_wp2_with fail
          refine (S1.out _ HIZ.out).mono ?_
          rintro e w3 ⟨rfl, hx⟩
          go_wp2_with fail
          refine (S2.out _ (HIZ.out.below hx)).mono ?_
          rintro e w4 ⟨rfl, hx2⟩
          replace hx := hop hx (Nat.le_refl _) hx2
          clear hx2
          go_wp2_with fail
          refine (S3.out _ (HIZ.out.below hx)).mono ?_
          rintro e w5 ⟨rfl, hx2⟩
          replace hx := hop hx (Nat.le_refl _) hx2
          clear hx2
          go_wp2_with fail
          refine (S4.out _ (HIZ.out.below hx)).mono ?_
          rintro e w6 ⟨rfl, hx2⟩
          replace hx := hop hx (Nat.le_refl _) hx2
          clear hx2
          go_wp2_with fail
          refine (D1.out _).mono ?_
          rintro e w7 ⟨rfl, hx2⟩
          replace hx := hop hx (Nat.le_refl _) hx2
          clear hx2
          go_wp2_with fail
          refine (D2.out _).mono ?_
          rintro e w8 ⟨rfl, hx2⟩
          replace hx := hop hx (Nat.le_refl _) hx2
          clear hx2
          go_wp2_with fail
          refine (S5.out _ (HIZ.out.below hx)).mono ?_
          rintro e w9 ⟨rfl, hx2⟩
          replace hx := hop hx (Nat.le_refl _) hx2
          clear hx2
          go_wp2_with (at_builtin; refine wpList_append_own_none_if (by rfl) (.tmp 114) (.tmp 115) 22 rfl wr.heap.size 2 i0 1 Tryd.underlying22 hi _ 1 (iV .i64 [a]) rfl (OWA.out _ hx.size) rfl ?_)
          have hy := hx.alloc hx.size (.cells #[.int .i64 a] 2)
          have HI3 := ints_lit w9 2 [a] (by simpa using HWA.out) _ rfl
          have HI4 := Lib.hid HI3
          clear HI3
          have hms0 : ms = [] := List.eq_nil_of_length_eq_zero HML.out
          subst hms0
          go_wp2_with fail
          refine (S6.out _ _ _ HI4.out).mono ?_
          rintro e w11 ⟨rfl, hx2⟩
          replace hy := hop hy (Nat.le_refl _) hx2
          have hfin := hop hbz h0 hy
          clear hx2
          go_wp2
          go_ret
          exact ⟨by simp, hfin⟩
  · go_enter Tryd.func3, Tryd.ntmps3
    go_wp2_with fail
    refine HX.out.mono ?_
    rintro e w1 ⟨rfl, hb⟩
    have HI1 := Lib.hid (HI.out.below hb)
    have hs1 := hb.size
    go_wp2_with (at_builtin; refine wpList_append_own _ rfl (.const (.slice none 0 0)) (.tmp 27) 22 rfl W.heap.size 2 i0 (.int .i64 0) 1 8 Tryd.underlying22 hi hz0 hz1 hz2 rfl (by decide) (.slice none 0 0) 0 [] rfl (OwnI.nil .i64 _ _ _) ad 0 c (iV .i64 []) rfl rfl (ints_news HI1.out) (iV_one _ _) (by decide) (by decide) hs1 ?_)
    intro v' w2 hown' hgrow hv
    have hbg : Below W.heap.size W w2 := hb.grown hgrow hs1 (fun r hr => by cases hr)
    obtain rfl : v' = .slice none 0 0 := by simpa using hv
    clear hb hown' hgrow hv
    have hb := hbg
    clear hbg
    have OWN : OwnI .i64 w2 W.heap.size 2 (.slice none 0 0) [] := OwnI.nil _ _ _ _
    replace OWN : OwnI .i64 _ W.heap.size 2 (.slice none 0 0) (tamed [] 0) := OWN
    go_wp2
    go_loopw [11] (fun i wr => ∃ k : Nat, k ≤ 0 ∧ i = .int .i64 k ∧ OwnI .i64 wr W.heap.size 2 (.slice none 0 0) (tamed [] k) ∧ Below W.heap.size W wr ∧ (small = true ∨ k = 0)) (fun i _ => 0 - (intOf i).toNat)
    case atStart => exact ⟨0, Nat.zero_le _, rfl, OWN, hb, .inr rfl⟩
    case round =>
      obtain ⟨k, hk, rfl, hown, hbz, hks⟩ := hrel
      clear OWN hb
      by_cases hgo : k < 0 ∧ small = true
      · obtain ⟨hkn, rfl⟩ := hgo
        omega
      · have hend : (k = 0) ∨ ((k : Int) < (0 : Nat) ∧ small = false) := by
          by_cases h1 : k < 0
          · right; refine ⟨by omega, ?_⟩
            cases small with
            | true => exact absurd ⟨h1, rfl⟩ hgo
            | false => rfl
          · left; omega
        obtain ⟨ms, hms⟩ : ∃ ms, tamed [] k = ms := ⟨_, rfl⟩
        have hmw : ∀ z ∈ ms, (Lit.int .i64 z).wf = true := by rw [← hms]; exact tamed_wf [] k HWF.out
        have hml : ms.length = 0 := by rw [← hms, tamed_len]; exact HLEN.out
        rw [hms] at hown
        have hints : Ints .i64 wr none 0 ms := by
          obtain ⟨A2, c2, e, _, hi2⟩ := hown.ints hmw
          rw [hml] at e hi2
          injection e with e1 e2 e3
          rw [e1]
          exact hi2
        have S1 := Lib.hid (fun w h => same_below (add_any none 0 0 ms (by omega) w h))
        have S2 := Lib.hid (fun w h => same_below (refAdd_any none 0 0 ms (by omega) w h))
        have S3 := Lib.hid (fun w h => same_below (mul_any none 0 0 ms (by omega) w h))
        have S4 := Lib.hid (fun w h => same_below (refMul_any none 0 0 ms (by omega) w h))
        have S5 := Lib.hid (fun w h => same_below (least_any a none 0 0 ms (by omega) w h))
        have S6 := Lib.hid (fun A2 c2 w h => same_below (refLeast_any a ms A2 (0 + 1) c2 (by omega) w h))
        have D1 := Lib.hid (fun w => same_below (sub_any a b a0 a1 b0 b1 w))
        have D2 := Lib.hid (fun w => same_below (refSub_any a b a0 a1 b0 b1 w))
        have HIZ := Lib.hid hints
        have HMW := Lib.hid hmw
        have HML := Lib.hid hml
        have HWA := Lib.hid wa
        have OWA := Lib.hid (fun (w : World) (h : wr.heap.size ≤ w.heap.size) => (show (w.alloc (.cells #[.int .i64 a] 2)).ownsRow wr.heap.size 2 1 (.slice (some ⟨w.heap.size, 0, none⟩) 1 1) 1 (iV .i64 [a]) from World.ownsRow_lit w #[.int .i64 a] 1 h (by decide) rfl))
        obtain ⟨s1, hs1⟩ : ∃ x, sumR ms = x := ⟨_, rfl⟩
        obtain ⟨s2, hs2⟩ : ∃ x, mulR ms = x := ⟨_, rfl⟩
        obtain ⟨s3, hs3⟩ : ∃ x, stepR (· - ·) (some a) b = x := ⟨_, rfl⟩
        obtain ⟨lz, hlz⟩ : ∃ x, leastZ a ms = x := ⟨_, rfl⟩
        simp only [hs1, hs2, hs3, hlz] at S1 S2 S3 S4 S5 S6 D1 D2
        obtain ⟨n1, hn1⟩ : ∃ x, s1.getD 0 = x := ⟨_, rfl⟩
        obtain ⟨n2, hn2⟩ : ∃ x, s2.getD 0 = x := ⟨_, rfl⟩
        obtain ⟨n3, hn3⟩ : ∃ x, s3.getD 0 = x := ⟨_, rfl⟩
        obtain ⟨q1, hq1⟩ : ∃ x, s1.isSome = x := ⟨_, rfl⟩
        obtain ⟨q2, hq2⟩ : ∃ x, s2.isSome = x := ⟨_, rfl⟩
        obtain ⟨q3, hq3⟩ : ∃ x, s3.isSome = x := ⟨_, rfl⟩
        simp only [hn1, hn2, hn3, hq1, hq2, hq3] at S1 S2 S3 S4 D1 D2
        clear hints hmw hml hs1 hs2 hs3 hlz hn1 hn2 hn3 hq1 hq2 hq3 hown hms hgo hks HWF HLEN HI HI1 HLV HX hc hl
        obtain rfl : k = 0 := by omega
        all_goals
          go_wp2_with fail
          refine (S1.out _ HIZ.out).mono ?_
          rintro e w3 ⟨rfl, hx⟩
          go_wp2_with fail
          refine (S2.out _ (HIZ.out.below hx)).mono ?_
          rintro e w4 ⟨rfl, hx2⟩
          replace hx := hop hx (Nat.le_refl _) hx2
          clear hx2
          go_wp2_with fail
          refine (S3.out _ (HIZ.out.below hx)).mono ?_
          rintro e w5 ⟨rfl, hx2⟩
          replace hx := hop hx (Nat.le_refl _) hx2
          clear hx2
          go_wp2_with fail
          refine (S4.out _ (HIZ.out.below hx)).mono ?_
          rintro e w6 ⟨rfl, hx2⟩
          replace hx := hop hx (Nat.le_refl _) hx2
          clear hx2
          go_wp2_with fail
          refine (D1.out _).mono ?_
          rintro e w7 ⟨rfl, hx2⟩
          replace hx := hop hx (Nat.le_refl _) hx2
          clear hx2
          go_wp2_with fail
          refine (D2.out _).mono ?_
          rintro e w8 ⟨rfl, hx2⟩
          replace hx := hop hx (Nat.le_refl _) hx2
          clear hx2
          go_wp2_with fail
          refine (S5.out _ (HIZ.out.below hx)).mono ?_
          rintro e w9 ⟨rfl, hx2⟩
          replace hx := hop hx (Nat.le_refl _) hx2
          clear hx2
          go_wp2_with (at_builtin; refine wpList_append_own_none_if (by rfl) (.tmp 114) (.tmp 115) 22 rfl wr.heap.size 2 i0 1 Tryd.underlying22 hi _ 1 (iV .i64 [a]) rfl (OWA.out _ hx.size) rfl ?_)
          have hy := hx.alloc hx.size (.cells #[.int .i64 a] 2)
          have HI3 := ints_lit w9 2 [a] (by simpa using HWA.out) _ rfl
          have HI4 := Lib.hid HI3
          clear HI3
          have hms0 : ms = [] := List.eq_nil_of_length_eq_zero HML.out
          subst hms0
          go_wp2_with fail
          refine (S6.out _ _ _ HI4.out).mono ?_
          rintro e w11 ⟨rfl, hx2⟩
          replace hy := hop hy (Nat.le_refl _) hx2
          have hfin := hop hbz h0 hy
          clear hx2
          go_wp2
          go_ret
          exact ⟨by simp, hfin⟩
  · go_enter Tryd.func3, Tryd.ntmps3
    go_wp2_with fail
    refine HX.out.mono ?_
    rintro e w1 ⟨rfl, hb⟩
    have HI1 := Lib.hid (HI.out.below hb)
    have hs1 := hb.size
    go_wp2_with (at_builtin; refine wpList_append_own _ rfl (.const (.slice none 0 0)) (.tmp 27) 22 rfl W.heap.size 2 i0 (.int .i64 0) 1 8 Tryd.underlying22 hi hz0 hz1 hz2 rfl (by decide) (.slice none 0 0) 0 [] rfl (OwnI.nil .i64 _ _ _) ad n c (iV .i64 zs) rfl (by rw [HLV.out, Nat.mul_one]) (ints_news HI1.out) (iV_one _ _) (by unfold maxLen; omega) (by omega) hs1 ?_)
    intro v' w2 hown' hgrow _
    have hbg : Below W.heap.size W w2 := hb.grown hgrow hs1 (fun r hr => by cases hr)
    have OWN : OwnI .i64 w2 W.heap.size 2 v' zs := by
      unfold OwnI
      rw [HLEN.out]
      exact hown'
    clear hb hown' hgrow
    have hb := hbg
    clear hbg
    obtain ⟨A', cap', hv', hcap, hints⟩ := OWN.ints HWF.out
    rw [HLEN.out] at hv' hcap
    subst hv'
    clear hints
    obtain ⟨g, rfl, hgB⟩ : ∃ g, A' = some ⟨g, 0, none⟩ ∧ W.heap.size ≤ g := by
      obtain ⟨g, cap, e, hg, _⟩ := own_at OWN (by rw [HLEN.out]; omega)
      injection e with e1 _ _
      exact ⟨g, e1, hg⟩
    replace OWN : OwnI .i64 _ W.heap.size 2 (.slice (some ⟨g, 0, none⟩) n cap') (tamed zs 0) := OWN
    go_wp2
    go_loopw [11] (fun i wr => ∃ k : Nat, k ≤ n ∧ i = .int .i64 k ∧ OwnI .i64 wr W.heap.size 2 (.slice (some ⟨g, 0, none⟩) n cap') (tamed zs k) ∧ Below W.heap.size W wr ∧ (small = true ∨ k = 0)) (fun i _ => n - (intOf i).toNat)
    case atStart => exact ⟨0, Nat.zero_le _, rfl, OWN, hb, .inr rfl⟩
    case round =>
      obtain ⟨k, hk, rfl, hown, hbz, hks⟩ := hrel
      clear OWN hb
      by_cases hgo : k < n ∧ small = true
      · obtain ⟨hkn, rfl⟩ := hgo
        have hown2 := hown
        unfold OwnI at hown2
        rw [tamed_len, HLEN.out] at hown2
        have c0 := World.ownsRow.cellAt hown2 k (by omega)
        have f0 := World.ownsRow.frozenAt hown2 k
        have hst := (World.ownsRow.stored hown2 k (.int .i64 ((zs.getD k 0).tmod 100))).1
        rw [iV, List.getElem?_map, tamed_get zs k (by rw [HLEN.out]; exact hkn)] at c0
        have e1 : (iV .i64 (tamed zs k)).set k (.int .i64 ((zs.getD k 0).tmod 100)) = iV .i64 (tamed zs (k + 1)) := by
          rw [← tamed_set zs k (by rw [HLEN.out]; exact hkn), iV, iV, List.map_set]
        rw [e1] at hst
        have hst2 : OwnI .i64 (wr.setCell ⟨g, k, none⟩ (.int .i64 ((zs.getD k 0).tmod 100))) W.heap.size 2 (.slice (some ⟨g, 0, none⟩) n cap') (tamed zs (k + 1)) := by
          unfold OwnI
          rw [tamed_len, HLEN.out]
          exact hst
        replace c0 : wr.cell? ⟨g, k, none⟩ = some (.int .i64 (zs.getD k 0)) := c0
        obtain ⟨z, hz⟩ : ∃ z, zs.getD k 0 = z := ⟨_, rfl⟩
        rw [hz] at c0 hst2
        have HST := Lib.hid hst2
        have q0 : (k : Int) < (n : Int) := by omega
        have hbs := hbz.setCell (p := ⟨g, k, none⟩) hgB (.int .i64 (z.tmod 100))
        have HBS := Lib.hid hbs
        clear hst hst2 e1 hown hown2 hz hbs hks hbz
        go_wp2
        go_round
        case rel => exact ⟨k + 1, by omega, by go_num, HST.out, HBS.out, .inl (by first | rfl | trivial)⟩
        case measure => simp [intOf]; omega
      · have hend : (n = k) ∨ ((k : Int) < (n : Nat) ∧ small = false) := by
          by_cases h1 : k < n
          · right; refine ⟨by omega, ?_⟩
            cases small with
            | true => exact absurd ⟨h1, rfl⟩ hgo
            | false => rfl
          · left; omega
        obtain ⟨ms, hms⟩ : ∃ ms, tamed zs k = ms := ⟨_, rfl⟩
        have hmw : ∀ z ∈ ms, (Lit.int .i64 z).wf = true := by rw [← hms]; exact tamed_wf zs k HWF.out
        have hml : ms.length = n := by rw [← hms, tamed_len]; exact HLEN.out
        rw [hms] at hown
        have hints : Ints .i64 wr (some ⟨g, 0, none⟩) n ms := by
          obtain ⟨A2, c2, e, _, hi2⟩ := hown.ints hmw
          rw [hml] at e hi2
          injection e with e1 e2 e3
          rw [e1]
          exact hi2
        have S1 := Lib.hid (fun w h => same_below (add_any (some ⟨g, 0, none⟩) n cap' ms (by omega) w h))
        have S2 := Lib.hid (fun w h => same_below (refAdd_any (some ⟨g, 0, none⟩) n cap' ms (by omega) w h))
        have S3 := Lib.hid (fun w h => same_below (mul_any (some ⟨g, 0, none⟩) n cap' ms (by omega) w h))
        have S4 := Lib.hid (fun w h => same_below (refMul_any (some ⟨g, 0, none⟩) n cap' ms (by omega) w h))
        have S5 := Lib.hid (fun w h => same_below (least_any a (some ⟨g, 0, none⟩) n cap' ms (by omega) w h))
        have S6 := Lib.hid (fun A2 c2 w h => same_below (refLeast_any a ms A2 (n + 1) c2 (by omega) w h))
        have D1 := Lib.hid (fun w => same_below (sub_any a b a0 a1 b0 b1 w))
        have D2 := Lib.hid (fun w => same_below (refSub_any a b a0 a1 b0 b1 w))
        have HIZ := Lib.hid hints
        have HMW := Lib.hid hmw
        have HML := Lib.hid hml
        have HWA := Lib.hid wa
        have OWA := Lib.hid (fun (w : World) (h : wr.heap.size ≤ w.heap.size) => (show (w.alloc (.cells #[.int .i64 a] 2)).ownsRow wr.heap.size 2 1 (.slice (some ⟨w.heap.size, 0, none⟩) 1 1) 1 (iV .i64 [a]) from World.ownsRow_lit w #[.int .i64 a] 1 h (by decide) rfl))
        obtain ⟨s1, hs1⟩ : ∃ x, sumR ms = x := ⟨_, rfl⟩
        obtain ⟨s2, hs2⟩ : ∃ x, mulR ms = x := ⟨_, rfl⟩
        obtain ⟨s3, hs3⟩ : ∃ x, stepR (· - ·) (some a) b = x := ⟨_, rfl⟩
        obtain ⟨lz, hlz⟩ : ∃ x, leastZ a ms = x := ⟨_, rfl⟩
        simp only [hs1, hs2, hs3, hlz] at S1 S2 S3 S4 S5 S6 D1 D2
        obtain ⟨n1, hn1⟩ : ∃ x, s1.getD 0 = x := ⟨_, rfl⟩
        obtain ⟨n2, hn2⟩ : ∃ x, s2.getD 0 = x := ⟨_, rfl⟩
        obtain ⟨n3, hn3⟩ : ∃ x, s3.getD 0 = x := ⟨_, rfl⟩
        obtain ⟨q1, hq1⟩ : ∃ x, s1.isSome = x := ⟨_, rfl⟩
        obtain ⟨q2, hq2⟩ : ∃ x, s2.isSome = x := ⟨_, rfl⟩
        obtain ⟨q3, hq3⟩ : ∃ x, s3.isSome = x := ⟨_, rfl⟩
        simp only [hn1, hn2, hn3, hq1, hq2, hq3] at S1 S2 S3 S4 D1 D2
        clear hints hmw hml hs1 hs2 hs3 hlz hn1 hn2 hn3 hq1 hq2 hq3 hown hms hgo hks HWF HLEN HI HI1 HLV HX hc hl
        rcases hend with rfl | ⟨hlt, rfl⟩
        all_goals
          go_wp2_with fail
          refine (S1.out _ HIZ.out).mono ?_
          rintro e w3 ⟨rfl, hx⟩
          go_wp2_with fail
          refine (S2.out _ (HIZ.out.below hx)).mono ?_
          rintro e w4 ⟨rfl, hx2⟩
          replace hx := hop hx (Nat.le_refl _) hx2
          clear hx2
          go_wp2_with fail
          refine (S3.out _ (HIZ.out.below hx)).mono ?_
          rintro e w5 ⟨rfl, hx2⟩
          replace hx := hop hx (Nat.le_refl _) hx2
          clear hx2
          go_wp2_with fail
          refine (S4.out _ (HIZ.out.below hx)).mono ?_
          rintro e w6 ⟨rfl, hx2⟩
          replace hx := hop hx (Nat.le_refl _) hx2
          clear hx2
          go_wp2_with fail
          refine (D1.out _).mono ?_
          rintro e w7 ⟨rfl, hx2⟩
          replace hx := hop hx (Nat.le_refl _) hx2
          clear hx2
          go_wp2_with fail
          refine (D2.out _).mono ?_
          rintro e w8 ⟨rfl, hx2⟩
          replace hx := hop hx (Nat.le_refl _) hx2
          clear hx2
          go_wp2_with fail
          refine (S5.out _ (HIZ.out.below hx)).mono ?_
          rintro e w9 ⟨rfl, hx2⟩
          replace hx := hop hx (Nat.le_refl _) hx2
          clear hx2
          go_wp2_with (at_builtin; refine wpList_append_own_if (by rfl) (.tmp 114) (.tmp 115) 22 rfl wr.heap.size 2 i0 (.int .i64 0) 1 8 Tryd.underlying22 hi hz0 hz1 hz2 rfl (by decide) _ 1 (iV .i64 [a]) rfl (OWA.out _ hx.size) ⟨g, 0, none⟩ n cap' (iV .i64 ms) rfl (by rw [iV, List.length_map, HML.out, Nat.mul_one]) (ints_news ((HIZ.out.below hx).below ((Below.refl _ _).alloc (Nat.le_refl _) _))) (iV_one _ _) (by unfold maxLen; omega) (by omega) (by have := hx.size; simp; omega) ?_)
          intro v2 w10 hown' hgrow _
          have hy := (hx.alloc hx.size (.cells #[.int .i64 a] 2)).grown hgrow (by have := hx.size; simp; omega) (fun r hr => by cases hr; exact hx.size)
          have OW2 : OwnI .i64 w10 wr.heap.size 2 v2 (a :: ms) := by
            unfold OwnI
            rw [List.length_cons, HML.out, Nat.add_comm]
            exact hown'
          obtain ⟨A2, c2, hv2, _, hi2⟩ := OW2.ints (by intro z hz; rcases List.mem_cons.1 hz with rfl | hz; exact HWA.out; exact HMW.out z hz)
          rw [List.length_cons, HML.out] at hv2 hi2
          subst hv2
          have HI4 := Lib.hid hi2
          clear hown' hgrow OW2 hi2
          go_wp2_with fail
          refine (S6.out _ _ _ HI4.out).mono ?_
          rintro e w11 ⟨rfl, hx2⟩
          replace hy := hop hy (Nat.le_refl _) hx2
          have hfin := hop hbz h0 hy
          clear hx2
          go_wp2
          go_ret
          exact ⟨by simp, hfin⟩
end Go.Proofs.YtnokpeobkaofoaaDoor
