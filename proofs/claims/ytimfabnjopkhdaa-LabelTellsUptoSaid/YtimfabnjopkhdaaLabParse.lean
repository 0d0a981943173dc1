/- A label that is read.
   A label that is read: its name, its value.
   A set that is read. -/
import Derived.Test.YtimfabnjopkhdaaLabRight
import Derived.Test.YtimfabnjopkhdaaScanQuo
import Derived.Test.YtimfabnjopkhdaaBase
import Derived.Test.YtimfabnjopkhdaaLabOf
import Derived.Laws.ResultCell
namespace Go.Proofs.Ytimfabnjopkhdaa
set_option linter.unusedVariables false
set_option linter.unusedSimpArgs false
end Go.Proofs.Ytimfabnjopkhdaa
namespace Go.Proofs.Ytimfabnjopkhdaa
open Go.RowKit Go.Sort
set_option linter.unusedVariables false
set_option linter.unusedSimpArgs false

def eqS : ByteArray := ⟨#[61]⟩
/-- the label at k, whether it is one, and how far it is read -/
def pairR (t : ByteArray) (k : Nat) : PairB × Bool × Nat :=
  match takeR t (runTo (goodK [0, 1, 2]) t k) [eqS] with
  | some _ => ((t.extract k (runTo (goodK [0, 1, 2]) t k), ⟨(quoR t (runTo (goodK [0, 1, 2]) t k + 1)).1.toArray⟩), (quoR t (runTo (goodK [0, 1, 2]) t k + 1)).2.2, runTo (goodK [0, 1, 2]) t k + 1 + (quoR t (runTo (goodK [0, 1, 2]) t k + 1)).2.1)
  | none => (pnil, false, runTo (goodK [0, 1, 2]) t k)
theorem takeR_one {t : ByteArray} {k : Nat} {s x : ByteArray} (h : takeR t k [s] = some x) : x = s := by
  unfold takeR at h
  have := List.mem_of_find?_eq_some h
  simpa using this
theorem takeTo_le {t : ByteArray} {k : Nat} {ss : List ByteArray} {x : ByteArray} (hk : k ≤ t.size) (h : takeR t k ss = some x) : k + x.size ≤ t.size := by
  unfold takeR at h
  have h2 := List.find?_some h
  have h3 := prefB_size h2
  rw [ByteArray.size_extract] at h3
  omega
set_option maxRecDepth 100000 in
set_option maxHeartbeats 1600000 in
theorem pair_any (b : Nat) (ty : TypeId) (cs : Array Value) (t : ByteArray) (k : Nat) (hs : t.size ≤ 16000000) (W : World) (hR : Rd W b ty cs t k) :
    Calls Try.prog 51 #[.pointer (some ⟨b, 0, none⟩)] W fun e w' => e = .returned (.tuple #[.agg #[.string (pairR t k).1.1, .string (pairR t k).1.2], .bool (pairR t k).2.1]) ∧ RdX w' b ty t (pairR t k).2.2 ∧ W.grownBy w' (some b) := by
  have hlt := hR.lt
  have hkt := hR.le
  obtain ⟨k1, hk1⟩ : ∃ k1, runTo (goodK [0, 1, 2]) t k = k1 := ⟨_, rfl⟩
  have hpr : pairR t k = (match takeR t k1 [eqS] with
    | some _ => ((t.extract k k1, ⟨(quoR t (k1 + 1)).1.toArray⟩), (quoR t (k1 + 1)).2.2, k1 + 1 + (quoR t (k1 + 1)).2.1)
    | none => (pnil, false, k1)) := by unfold pairR; rw [hk1]
  have hz1 : (W.alloc (.cells #[.string ⟨#[]⟩, .string ⟨#[]⟩] 29)).heap.size = W.heap.size + 1 := by simp
  have RN := run_any b ty cs t k (some ⟨W.heap.size + 1, 0, none⟩) 3 3 [0, 1, 2] (by decide) _ ((hR.alloc (.cells #[.string ⟨#[]⟩, .string ⟨#[]⟩] 29)).alloc _) (ints_lit (W.alloc (.cells #[.string ⟨#[]⟩, .string ⟨#[]⟩] 29)) 69 [0, 1, 2] (by decide) (W.heap.size + 1) hz1.symm) (by intro a h; injection h with h; rw [← h]; show W.heap.size + 1 ≠ b; omega)
  rw [hk1] at RN
  replace RN := Lib.hid RN
  have B0 := (Blk.new W 29 #[.string ⟨#[]⟩, .string ⟨#[]⟩]).alloc (.cells ([0, 1, 2].map (Value.int .i64)).toArray 69)
  have HB0 := Lib.hid B0
  have HPR := Lib.hid hpr
  obtain ⟨X, hX⟩ : ∃ X, pairR t k = X := ⟨_, rfl⟩
  rw [hX]
  replace HPR := HPR.out
  rw [hX] at HPR
  replace HPR := Lib.hid HPR
  clear hpr hk1 hR B0 hX hz1
  go_enter Try.func51, Try.ntmps51
  go_wp2_with fail
  refine RN.out.mono ?_
  rintro e w1 ⟨rfl, hR1, hg1⟩
  have hB1 := HB0.out.kept hg1 (by omega)
  have hgW : W.grownBy w1 (some b) := World.grownBy.trans (World.grownBy.trans (World.grownBy_alloc _ _ _) (World.grownBy_alloc _ _ _)) hg1
  obtain ⟨cs1, hcs1⟩ : ∃ c, cs.setIfInBounds 1 (.int .i64 (k1 : Nat)) = c := ⟨_, rfl⟩
  rw [hcs1] at hR1
  have hk1t := hR1.le
  have hlt1 := hR1.lt
  have TK := Lib.hid (take_any b ty cs1 t k1 (some ⟨w1.heap.size, 0, none⟩) 1 1 [eqS] (by decide) (by intro s hs; rw [List.mem_singleton.1 hs]; decide) _ (hR1.alloc _) (one_text w1 eqS) (by intro a h; injection h with h; rw [← h]; show w1.heap.size ≠ b; omega))
  have HB1 := Lib.hid (hB1.alloc (.cells #[.string eqS] 9))
  have HG1 := Lib.hid (World.grownBy.trans hgW (World.grownBy_alloc w1 (.cells #[.string eqS] 9) (some b)))
  clear hR1 hg1 hB1 hgW hcs1 RN HB0
  have hne : W.heap.size ≠ b := by omega
  have hto := fun x (h : takeR t k1 [eqS] = some x) => And.intro (takeR_one h) (And.intro (takeTo_some h) (takeTo_le hk1t h))
  have hno := fun (h : takeR t k1 [eqS] = none) => takeTo_none h
  obtain ⟨o, ho⟩ : ∃ o, takeR t k1 [eqS] = o := ⟨_, rfl⟩
  replace TK := TK.out
  replace HPR := HPR.out
  rw [ho] at TK HPR
  simp only [ho] at hto hno
  replace TK := Lib.hid TK
  have HTO := Lib.hid hto
  have HNO := Lib.hid hno
  clear ho hto hno
  cases o with
  | none =>
    have HX := Lib.hid (show X = (pnil, false, k1) from HPR)
    clear HPR
    go_wp2_with fail
    refine TK.out.mono ?_
    rintro e w2 ⟨rfl, hR2, hg2⟩
    rw [HNO.out trivial] at hR2
    have hB2 := HB1.out.kept hg2 hne
    have k0 : w2.cell? ⟨W.heap.size, 0, none⟩ = some (.string ⟨#[]⟩) := (hB2.cell 0).trans rfl
    have k1' : w2.cell? ⟨W.heap.size, 1, none⟩ = some (.string ⟨#[]⟩) := (hB2.cell 1).trans rfl
    have f0 := hB2.frozen 0
    have f1 := hB2.frozen 1
    have hg3 : W.grownBy w2 (some b) := World.grownBy.trans HG1.out hg2
    have HB2 := Lib.hid hB2
    have HR2 := Lib.hid hR2
    have HG3 := Lib.hid hg3
    clear hB2 hR2 hg2 hg3
    go_wp2
    (try simp only [Exit.inBlock, Exit.then])
    refine bodyPost_ret (results_row_tmp rfl _ _ W.heap.size 29 _ (0, 0) _ rfl ((HB2.out.set_ 0 (.string ⟨#[]⟩)).set_ 1 (.string ⟨#[]⟩)) Try.underlying29 rfl (by kernel_rfl)) rfl ?_
    refine ⟨by rw [HX.out]; rfl, ?_, ?_⟩
    · rw [HX.out]
      exact ⟨_, (HR2.out.far (p := ⟨W.heap.size, 0, none⟩) (fun h => hne h.symm) _).far (p := ⟨W.heap.size, 1, none⟩) (fun h => hne h.symm) _⟩
    · exact grown_new (p := ⟨W.heap.size, 1, none⟩) (grown_new (p := ⟨W.heap.size, 0, none⟩) HG3.out (Nat.le_refl _) _) (Nat.le_refl _) _
  | some x =>
    obtain ⟨hx, hto, hle⟩ := HTO.out x rfl
    have hx1 : x.size = 1 := by rw [hx]; rfl
    rw [hx1] at hto hle
    have HX := Lib.hid (show X = ((t.extract k k1, ⟨(quoR t (k1 + 1)).1.toArray⟩), (quoR t (k1 + 1)).2.2, k1 + 1 + (quoR t (k1 + 1)).2.1) from HPR)
    have HT := Lib.hid hto
    clear HPR hx hx1 hto
    go_wp2_with fail
    refine TK.out.mono ?_
    rintro e w2 ⟨rfl, hR2, hg2⟩
    rw [HT.out] at hR2
    have hB2 := HB1.out.kept hg2 hne
    have hg3 : W.grownBy w2 (some b) := World.grownBy.trans HG1.out hg2
    have QT := quoted_any b ty _ t (k1 + 1) hs w2 hR2
    obtain ⟨⟨l, m, ok⟩, hq⟩ : ∃ z, quoR t (k1 + 1) = z := ⟨_, rfl⟩
    rw [hq] at QT
    have HX2 := HX.out
    rw [hq] at HX2
    replace HX2 := Lib.hid HX2
    replace QT := Lib.hid QT
    have HB2 := Lib.hid hB2
    have HG3 := Lib.hid hg3
    clear hB2 hR2 hg2 hg3 hq
    go_wp2_with fail
    refine QT.out.mono ?_
    rintro e w3 ⟨rfl, hR3, hg4⟩
    have hB3 := HB2.out.kept hg4 hne
    have k0 : w3.cell? ⟨W.heap.size, 0, none⟩ = some (.string ⟨#[]⟩) := (hB3.cell 0).trans rfl
    have k1' : w3.cell? ⟨W.heap.size, 1, none⟩ = some (.string ⟨#[]⟩) := (hB3.cell 1).trans rfl
    have f0 := hB3.frozen 0
    have f1 := hB3.frozen 1
    have hg5 : W.grownBy w3 (some b) := World.grownBy.trans HG3.out hg4
    have HB3 := Lib.hid hB3
    have HR3 := Lib.hid hR3
    have HG5 := Lib.hid hg5
    clear hB3 hR3 hg4 hg5
    go_wp2
    (try simp only [Exit.inBlock, Exit.then])
    refine bodyPost_ret (results_row_tmp rfl _ _ W.heap.size 29 _ (0, 0) _ rfl ((HB3.out.set_ 0 (.string (t.extract k k1))).set_ 1 (.string ⟨l.toArray⟩)) Try.underlying29 rfl (by kernel_rfl)) rfl ?_
    refine ⟨by rw [HX2.out]; rfl, ?_, ?_⟩
    · rw [HX2.out]
      exact ⟨_, (HR3.out.far (p := ⟨W.heap.size, 0, none⟩) (fun h => hne h.symm) _).far (p := ⟨W.heap.size, 1, none⟩) (fun h => hne h.symm) _⟩
    · exact grown_new (p := ⟨W.heap.size, 1, none⟩) (grown_new (p := ⟨W.heap.size, 0, none⟩) HG5.out (Nat.le_refl _) _) (Nat.le_refl _) _
end Go.Proofs.Ytimfabnjopkhdaa
namespace Go.Proofs.Ytimfabnjopkhdaa
open Go.RowKit Go.Sort
set_option linter.unusedVariables false
set_option linter.unusedSimpArgs false

def lbT : ByteArray := ⟨#[123]⟩
def rbT : ByteArray := ⟨#[125]⟩
def cmT : ByteArray := ⟨#[44]⟩
/-- labels, one behind the other, from k on -/
def goP (t : ByteArray) : Nat → Nat → List PairB → Option (List PairB × Nat)
  | 0, _, _ => none
  | f + 1, k, acc =>
    if (pairR t k).2.1 = true then
      match takeR t (pairR t k).2.2 [cmT, rbT] with
      | none => none
      | some s => if s = cmT then goP t f ((pairR t k).2.2 + 1) (acc ++ [(pairR t k).1]) else some (acc ++ [(pairR t k).1], (pairR t k).2.2 + 1)
    else none
theorem goP_succ (t : ByteArray) (f k : Nat) (acc : List PairB) : goP t (f + 1) k acc = if (pairR t k).2.1 = true then
      match takeR t (pairR t k).2.2 [cmT, rbT] with
      | none => none
      | some s => if s = cmT then goP t f ((pairR t k).2.2 + 1) (acc ++ [(pairR t k).1]) else some (acc ++ [(pairR t k).1], (pairR t k).2.2 + 1)
    else none := by rw [goP]
def parseL (t : ByteArray) : Option (List PairB × Nat) :=
  match takeR t 0 [lbT] with
  | none => none
  | some _ => match takeR t 1 [rbT] with
    | some _ => some ([], 2)
    | none => (goP t (t.size + 1) 1 []).bind fun x => if rightB x.1 = true then some x else none
theorem pairR_ge (t : ByteArray) (k : Nat) : k ≤ (pairR t k).2.2 := by
  have h : k ≤ runTo (goodK [0, 1, 2]) t k := by unfold runTo; omega
  unfold pairR
  split
  · show k ≤ runTo (goodK [0, 1, 2]) t k + 1 + _; omega
  · exact h
theorem two_texts (w : World) (s x : ByteArray) : Texts (w.alloc (.cells #[.string s, .string x] 9)) (some ⟨w.heap.size, 0, none⟩) 2 [s, x] := ⟨rfl, fun _ => ⟨_, 0, rfl, by simp, fun j hj => by
  rcases (by omega : j = 0 ∨ j = 1) with rfl | rfl <;> (rw [(Blk.new w _ #[.string s, .string x]).cell]; rfl)⟩⟩
theorem takeR_in {t : ByteArray} {k : Nat} {ss : List ByteArray} {x : ByteArray} (h : takeR t k ss = some x) : x ∈ ss := List.mem_of_find?_eq_some h
theorem OwnP.kept {w w' : World} {b : Nat} {v : Value} {l : List PairB} (h : OwnP w (b + 1) v l) (hg : w.grownBy w' (some b)) : OwnP w' (b + 1) v l := by
  refine ⟨h.1, ?_⟩
  rcases h.2 with h0 | ⟨g, cap, cur, hv, hbg, hh, r⟩
  · exact .inl h0
  · exact .inr ⟨g, cap, cur, hv, hbg, (hg.block g (lt_of_block hh) (fun e => by injection e with e; omega)).trans hh, r⟩
theorem OwnP.drewN {w : World} {B : Nat} {v : Value} {l : List PairB} (h : OwnP w B v l) (q : Nat) : OwnP (w.drewN q) B v l := h
/-- what the call answers -/
def parseV (v : Value) (o : Option (List PairB × Nat)) : Value := .tuple #[v, .int .i64 (((o.map (·.2)).getD 0 : Nat) : Int), .bool o.isSome]
def parsedL (o : Option (List PairB × Nat)) : List PairB := (o.map (·.1)).getD []

set_option maxRecDepth 100000 in
set_option maxHeartbeats 800000 in
theorem parse_labels (t : ByteArray) (hs : t.size ≤ 16000000) (W : World) :
    Calls Try.prog 30 #[.string t] W fun e w' => ∃ v, e = .returned (parseV v (parseL t)) ∧ OwnP w' W.heap.size v (parsedL (parseL t)) ∧ Below W.heap.size W w' := by
  have h0 : W.heap.size ≤ W.heap.size := Nat.le_refl _
  obtain ⟨i0, hi, hz0, hz1, hz2⟩ := info_parts infoPair
  have HOF := Lib.hid (fun w => of_any t w)
  obtain ⟨Z, hZ⟩ : ∃ Z, parseL t = Z := ⟨_, rfl⟩
  rw [hZ]
  have HZ := Lib.hid (show (match takeR t 0 [lbT] with
  | none => none
  | some _ => match takeR t 1 [rbT] with
    | some _ => some ([], 2)
    | none => (goP t (t.size + 1) 1 []).bind fun x => if rightB x.1 = true then some x else none) = Z from hZ)
  clear hZ
  go_enter Try.func30, Try.ntmps30
  go_wp2_with fail
  refine (HOF.out _).mono ?_
  rintro e w1 ⟨rfl, hb1⟩
  go_wp2_with fail
  have hsz1 := hb1.size
  obtain ⟨b, hb⟩ : ∃ b, w1.heap.size = b := ⟨_, rfl⟩
  obtain ⟨w2, hw2⟩ : ∃ w, w1.alloc (.cells #[.string t, .int .i64 0] 78) = w := ⟨_, rfl⟩
  have hR : Rd w2 b 78 #[.string t, .int .i64 0] t 0 := by
    rw [← hw2, ← hb]
    exact ⟨Blk.new w1 _ _, rfl, rfl, Nat.zero_le _, by omega⟩
  have hb2 : Below W.heap.size W w2 := by rw [← hw2]; exact hb1.alloc hsz1 _
  have hbW : W.heap.size ≤ b := by omega
  have hlt := hR.lt
  have hz2' : w2.heap.size = b + 1 := by rw [← hw2, ← hb]; simp
  have GB : ∀ (w w' : World), Below W.heap.size W w → w.grownBy w' (some b) → Below W.heap.size W w' := fun w w' h hg => h.grown hg h.size (fun r hr => by cases hr; exact hbW)
  have TK := take_any b _ _ t 0 (some ⟨w2.heap.size, 0, none⟩) 1 1 [lbT] (by decide) (by intro s hs; rw [List.mem_singleton.1 hs]; decide) _ (hR.alloc _) (one_text w2 lbT) (by intro a h; injection h with h; rw [← h]; show w2.heap.size ≠ b; omega)
  rw [hz2'] at TK
  rw [hw2, hb]
  have hba := hb2.alloc hb2.size (.cells #[.string lbT] 9)
  have hto := fun x (h : takeR t 0 [lbT] = some x) => And.intro (takeR_one h) (takeTo_some h)
  obtain ⟨o, ho⟩ : ∃ o, takeR t 0 [lbT] = o := ⟨_, rfl⟩
  replace HZ := HZ.out
  rw [ho] at TK HZ
  simp only [ho] at hto
  replace TK := Lib.hid TK
  have HTO := Lib.hid hto
  clear ho hto hw2 hb hR
  refine TK.out.mono ?_
  rintro e w3 ⟨rfl, hR3, hg3⟩
  have hb3 := GB _ _ hba hg3
  cases o with
  | none =>
    have E := Lib.hid (show none = Z from HZ)
    clear HZ hR3 hg3
    go_wp2
    go_ret3
    exact ⟨_, by rw [← E.out]; rfl, by rw [← E.out]; exact OwnP.nil _ _, hb3⟩
  | some x =>
    obtain ⟨hx, hto⟩ := HTO.out x rfl
    rw [hto, hx, show 0 + lbT.size = 1 from rfl] at hR3
    obtain ⟨cs3, hcs3⟩ : ∃ c, (#[Value.string t, .int .i64 0].setIfInBounds 1 (.int .i64 ((1 : Nat) : Int))) = c := ⟨_, rfl⟩
    rw [hcs3] at hR3
    have hlt3 := hR3.lt
    have TK2 := take_any b _ _ t 1 (some ⟨w3.heap.size, 0, none⟩) 1 1 [rbT] (by decide) (by intro s hs; rw [List.mem_singleton.1 hs]; decide) _ (hR3.alloc _) (one_text w3 rbT) (by intro a h; injection h with h; rw [← h]; show w3.heap.size ≠ b; omega)
    have hba3 := hb3.alloc hb3.size (.cells #[.string rbT] 9)
    have hto2 := fun x (h : takeR t 1 [rbT] = some x) => And.intro (takeR_one h) (takeTo_some h)
    have hno2 := fun (h : takeR t 1 [rbT] = none) => takeTo_none h
    obtain ⟨o2, ho2⟩ : ∃ o, takeR t 1 [rbT] = o := ⟨_, rfl⟩
    replace HZ : (match takeR t 1 [rbT] with
      | some _ => some ([], 2)
      | none => (goP t (t.size + 1) 1 []).bind fun x => if rightB x.1 = true then some x else none) = Z := HZ
    rw [ho2] at TK2 HZ
    simp only [ho2] at hto2 hno2
    replace TK2 := Lib.hid TK2
    have HTO2 := Lib.hid hto2
    have HNO2 := Lib.hid hno2
    clear ho2 hto2 hno2 hx hto hcs3 hR3 hg3 TK
    go_wp2_with fail
    refine TK2.out.mono ?_
    rintro e w4 ⟨rfl, hR4, hg4⟩
    have hb4 := GB _ _ hba3 hg4
    cases o2 with
    | some y =>
      have E := Lib.hid (show some ([], 2) = Z from HZ)
      obtain ⟨hy, hto⟩ := HTO2.out y rfl
      rw [hto, hy, show 1 + rbT.size = 2 from rfl] at hR4
      have AT := Lib.hid (at_any b _ _ t 2 w4 hR4)
      clear HZ hy hto hR4 hg4
      go_wp2_with fail
      refine AT.out.mono ?_
      rintro e w5 ⟨rfl, rfl⟩
      go_wp2
      go_ret3
      exact ⟨_, by rw [← E.out]; rfl, by rw [← E.out]; exact OwnP.nil _ _, hb4⟩
    | none =>
      rw [HNO2.out (by first | rfl | trivial)] at hR4
      have HZ2 := Lib.hid (show ((goP t (t.size + 1) 1 []).bind fun x => if rightB x.1 = true then some x else none) = Z from HZ)
      have HR4 := Lib.hid (show RdX w4 b 78 t 1 from ⟨_, hR4⟩)
      have HGB := Lib.hid GB
      clear HZ hR4 hg4 GB
      go_wp2
      go_loopw [2, 10] (fun lv bv wr => ∃ (s : ByteArray) (acc : List PairB) (k f : Nat), bv = .string s ∧ Hid ((s = cmT ∧ (goP t f k acc).bind (fun x => if rightB x.1 = true then some x else none) = Z) ∨ (s = rbT ∧ (if rightB acc = true then some (acc, k) else none) = Z)) ∧ t.size < f + k ∧ acc.length ≤ k ∧ OwnP wr (b + 1) lv acc ∧ RdX wr b 78 t k ∧ Below W.heap.size W wr) (fun _ bv wr => t.size + 1 - (intOf ((wr.cell? ⟨b, 1, none⟩).getD undef)).toNat)
      case atStart => exact ⟨cmT, [], 1, t.size + 1, rfl, Lib.hid (.inl ⟨rfl, HZ2.out⟩), by omega, Nat.zero_le _, OwnP.nil _ _, HR4.out, hb4⟩
      case round =>
        obtain ⟨s, acc, k, f, rfl, HS, hf, hak, hown, ⟨cs, hR⟩, hb⟩ := hrel
        have hsz := hb.size
        have hkt := hR.le
        rcases HS.out with ⟨rfl, hT⟩ | ⟨rfl, hT⟩
        · have hc1 : wr.cell? ⟨b, 1, none⟩ = some (.int .i64 (k : Int)) := hR.pos
          obtain ⟨f, rfl⟩ : ∃ f', f = f' + 1 := ⟨f - 1, by omega⟩
          have PR := pair_any b _ cs t k hs wr hR
          have hge := pairR_ge t k
          rw [goP_succ] at hT
          obtain ⟨⟨⟨p1, p2⟩, ok, k2⟩, hx⟩ : ∃ x, pairR t k = x := ⟨_, rfl⟩
          rw [hx] at PR hge hT
          dsimp only at PR hge hT
          replace PR := Lib.hid PR
          have HT := Lib.hid hT
          have HOW := Lib.hid hown
          have HB := Lib.hid hb
          have HC1 := Lib.hid hc1
          clear hx hR hT hown hb hc1
          unfold cmT
          go_wp2_with fail
          refine PR.out.mono ?_
          rintro e w5 ⟨rfl, ⟨cs5, hR5⟩, hg5⟩
          have hb5 := HGB.out _ _ HB.out hg5
          have ho5 := HOW.out.kept hg5
          have hlt5 := hR5.lt
          have hk2t := hR5.le
          cases ok with
          | false =>
            have E := Lib.hid (show none = Z from by have := HT.out; simpa using this)
            clear HT hR5 hg5 ho5
            go_wp2
            go_ret3
            exact ⟨_, by rw [← E.out]; rfl, by rw [← E.out]; exact OwnP.nil _ _, hb5.alloc hb5.size _⟩
          | true =>
            have hT2 := HT.out
            rw [if_pos rfl] at hT2
            have hz5 : (w5.alloc (.cells #[.string p1, .string p2] 29)).heap.size = w5.heap.size + 1 := by simp
            have TK3 := take_any b _ cs5 t k2 (some ⟨(w5.alloc (.cells #[.string p1, .string p2] 29)).heap.size, 0, none⟩) 2 2 [cmT, rbT] (by decide) (by
              intro s hs
              rcases List.mem_cons.1 hs with rfl | hs
              · decide
              · rw [List.mem_singleton.1 hs]; decide) _ ((hR5.alloc (.cells #[.string p1, .string p2] 29)).alloc _) (two_texts (w5.alloc (.cells #[.string p1, .string p2] 29)) cmT rbT) (by intro a h; injection h with h; rw [← h]; show (w5.alloc _).heap.size ≠ b; rw [hz5]; omega)
            rw [hz5] at TK3
            have B5 := (Blk.new w5 29 #[.string p1, .string p2]).alloc (.cells #[.string cmT, .string rbT] 9)
            have hba5 := (hb5.alloc hb5.size (.cells #[.string p1, .string p2] 29)).alloc (by rw [hz5]; have := hb5.size; omega) (.cells #[.string cmT, .string rbT] 9)
            have hoa5 := (ho5.alloc (.cells #[.string p1, .string p2] 29)).alloc (.cells #[.string cmT, .string rbT] 9)
            have hto3 := fun x (h : takeR t k2 [cmT, rbT] = some x) => And.intro (takeR_in h) (And.intro (takeTo_some h) (takeTo_le hk2t h))
            have hno3 := fun (h : takeR t k2 [cmT, rbT] = none) => takeTo_none h
            obtain ⟨o3, ho3⟩ : ∃ o, takeR t k2 [cmT, rbT] = o := ⟨_, rfl⟩
            rw [ho3] at TK3 hT2
            simp only [ho3] at hto3 hno3
            replace TK3 := Lib.hid TK3
            have HTO3 := Lib.hid hto3
            have HT2 := Lib.hid hT2
            have HB5 := Lib.hid B5
            have HBA := Lib.hid hba5
            have HOA := Lib.hid hoa5
            have hne5 : w5.heap.size ≠ b := by omega
            clear ho3 hto3 hno3 hT2 B5 hba5 hoa5 hz5 hR5 hg5 ho5 hb5 HT
            go_wp2_with fail
            refine TK3.out.mono ?_
            rintro e w6 ⟨rfl, hR6, hg6⟩
            have hb6 := HGB.out _ _ HBA.out hg6
            have ho6 := HOA.out.kept hg6
            have hB6 := HB5.out.kept hg6 hne5
            cases o3 with
            | none =>
              have E := Lib.hid (show none = Z from HT2.out)
              clear hR6 hg6 ho6 hB6
              go_wp2
              go_ret3
              exact ⟨_, by rw [← E.out]; rfl, by rw [← E.out]; exact OwnP.nil _ _, hb6⟩
            | some x =>
              obtain ⟨hin, hto, hle⟩ := HTO3.out x rfl
              have hxs : x = cmT ∨ x = rbT := by simpa using hin
              have hx1 : x.size = 1 := by rcases hxs with h | h <;> rw [h] <;> rfl
              rw [hto, hx1] at hR6
              rw [hx1] at hle
              have hc6 : w6.cell? ⟨b, 1, none⟩ = some (.int .i64 ((k2 + 1 : Nat) : Int)) := hR6.pos
              have q1 : w6.cell? ⟨w5.heap.size, 0, none⟩ = some (.string p1) := (hB6.cell 0).trans rfl
              have q2 : w6.cell? ⟨w5.heap.size, 1, none⟩ = some (.string p2) := (hB6.cell 1).trans rfl
              have HNX := Lib.hid (show (x = cmT ∧ (goP t f (k2 + 1) (acc ++ [(p1, p2)])).bind (fun x => if rightB x.1 = true then some x else none) = Z) ∨ (x = rbT ∧ (if rightB (acc ++ [(p1, p2)]) = true then some (acc ++ [(p1, p2)], k2 + 1) else none) = Z) by
                have h2 := HT2.out
                rcases hxs with rfl | rfl
                · exact .inl ⟨rfl, h2⟩
                · exact .inr ⟨rfl, h2⟩)
              have hlen : (acc ++ [(p1, p2)]).length ≤ k2 + 1 := by rw [List.length_append, List.length_singleton]; omega
              have hs6 := hb6.size
              have hbs : b + 1 ≤ w6.heap.size := by have := hR6.lt; omega
              have HR6 := Lib.hid hR6
              have HC6 := Lib.hid hc6
              have hnb : w6.heap.size ≠ b := by omega
              clear hin hto hxs hx1 hR6 hg6 hB6 hc6
              go_wp2_with (at_builtin; refine wpList_append_own _ rfl (.tmp 44) (.tmp 46) 31 rfl (b + 1) 29 i0 (.agg #[.string ⟨#[]⟩, .string ⟨#[]⟩]) 2 32 Try.underlying31 hi hz0 hz1 hz2 rfl (by decide) _ _ _ rfl (ho6.alloc _) ⟨w6.heap.size, 0, none⟩ 1 1 (pairV (p1, p2)) rfl rfl (new_cells_at _ _ _ _ (by simp)) (pairV_one _) (by unfold maxLen; omega) (by omega) (by simp; omega) ?_)
              intro v' w7 hown' hgrow _
              have hb7 := (hb6.alloc hs6 _).grown hgrow (by simp; omega) (fun r hr => Nat.le_trans (by omega) (World.ownsRow.lt ho6 r hr).1)
              have hown7 := OwnP.snoc (p := (p1, p2)) hown'
              have hrow : ∀ r, Value.ownBlock _ = some r → b + 1 ≤ r := fun r hr => (World.ownsRow.lt ho6 r hr).1
              have hR7 : RdX w7 b 78 t (k2 + 1) := ⟨_, ⟨Blk.stays (HR6.out.alloc _).blk hgrow (fun e => by have := hrow b e; omega), HR6.out.c0, HR6.out.c1, HR6.out.le, HR6.out.sz⟩⟩
              have HR7 := Lib.hid hR7
              clear hown' hgrow hR7
              go_wp2
              go_round
              case rel => exact ⟨x, _, k2 + 1, f, rfl, HNX, by omega, hlen, hown7, HR7.out, hb7⟩
              case measure =>
                obtain ⟨cs7, h7⟩ := HR7.out
                rw [h7.pos, HC1.out]
                simp [intOf]
                omega
        · obtain ⟨A, cap, rfl, _, hp⟩ := hown.pairs
          have RT := right_any A acc.length cap acc (by omega) wr hp
          obtain ⟨rb, hrb⟩ : ∃ r, rightB acc = r := ⟨_, rfl⟩
          rw [hrb] at RT hT
          replace RT := Lib.hid RT
          have HOW := Lib.hid (hown.mono (show W.heap.size ≤ b + 1 by omega))
          have HRR := Lib.hid hR
          have HB := Lib.hid hb
          have HT := Lib.hid hT
          clear hrb hp hown hR hb hT
          unfold rbT
          go_wp2_with fail
          refine RT.out.mono ?_
          rintro e w5 ⟨rfl, hx⟩
          have hb5 := hop HB.out h0 hx
          cases rb with
          | false =>
            have E := Lib.hid (show none = Z from by have := HT.out; simpa using this)
            clear hx
            go_wp2
            go_ret3
            exact ⟨_, by rw [← E.out]; rfl, by rw [← E.out]; exact OwnP.nil _ _, hb5⟩
          | true =>
            have E := Lib.hid (show some (acc, k) = Z from by have := HT.out; rw [if_pos rfl] at this; exact this)
            have ho5 := HOW.out.below hx
            have AT := Lib.hid (at_any b _ _ t k w5 (HRR.out.below hx HRR.out.lt))
            clear hx
            go_wp2_with fail
            refine AT.out.mono ?_
            rintro e w6 ⟨rfl, rfl⟩
            go_wp2
            go_ret3
            exact ⟨_, by rw [← E.out]; rfl, by rw [← E.out]; exact ho5, hb5⟩
end Go.Proofs.Ytimfabnjopkhdaa
