/- A label that is read.
   A label that is read: its name, its value. -/
import Derived.Test.YtdbflmkjcgiodaaGreatDoorLabRight
import Derived.Test.YtdbflmkjcgiodaaGreatDoorScanQuo
import Derived.Test.YtdbflmkjcgiodaaGreatDoorBase
import Derived.Laws.ResultCell
namespace Go.Proofs.YtdbflmkjcgiodaaGreatDoor
set_option linter.unusedVariables false
set_option linter.unusedSimpArgs false
end Go.Proofs.YtdbflmkjcgiodaaGreatDoor
namespace Go.Proofs.YtdbflmkjcgiodaaGreatDoor
open Go.RowKit Go.Sort
set_option linter.unusedVariables false
set_option linter.unusedSimpArgs false

def eqS : ByteArray := ⟨#[61]⟩
/-- the label at k, whether it is one, and how far it is read -/
def pairR (t : ByteArray) (k : Nat) : PairB × Bool × Nat :=
  match takeR t (runTo (goodK [0, 1, 2]) t k) [eqS] with
  | some _ => ((t.extract k (runTo (goodK [0, 1, 2]) t k), ⟨(quoR t (runTo (goodK [0, 1, 2]) t k + 1)).1.toArray⟩), (quoR t (runTo (goodK [0, 1, 2]) t k + 1)).2.2, runTo (goodK [0, 1, 2]) t k + 1 + (quoR t (runTo (goodK [0, 1, 2]) t k + 1)).2.1)
  | none => (pnil, false, runTo (goodK [0, 1, 2]) t k)
theorem takeR_one {t : ByteArray} {k : Nat} {s x : ByteArray} (h : takeR t k [s] = some x) : x = s := by
  unfold takeR at h
  have := List.mem_of_find?_eq_some h
  simpa using this
theorem takeTo_le {t : ByteArray} {k : Nat} {ss : List ByteArray} {x : ByteArray} (hk : k ≤ t.size) (h : takeR t k ss = some x) : k + x.size ≤ t.size := by
  unfold takeR at h
  have h2 := List.find?_some h
  have h3 := prefB_size h2
  rw [ByteArray.size_extract] at h3
  omega
set_option maxRecDepth 100000 in
set_option maxHeartbeats 1600000 in
theorem pair_any (b : Nat) (ty : TypeId) (cs : Array Value) (t : ByteArray) (k : Nat) (hs : t.size ≤ 16000000) (W : World) (hR : Rd W b ty cs t k) :
    Calls Tryz.prog 75 #[.pointer (some ⟨b, 0, none⟩)] W fun e w' => e = .returned (.tuple #[.agg #[.string (pairR t k).1.1, .string (pairR t k).1.2], .bool (pairR t k).2.1]) ∧ RdX w' b ty t (pairR t k).2.2 ∧ W.grownBy w' (some b) := by
  have hlt := hR.lt
  have hkt := hR.le
  obtain ⟨k1, hk1⟩ : ∃ k1, runTo (goodK [0, 1, 2]) t k = k1 := ⟨_, rfl⟩
  have hpr : pairR t k = (match takeR t k1 [eqS] with
    | some _ => ((t.extract k k1, ⟨(quoR t (k1 + 1)).1.toArray⟩), (quoR t (k1 + 1)).2.2, k1 + 1 + (quoR t (k1 + 1)).2.1)
    | none => (pnil, false, k1)) := by unfold pairR; rw [hk1]
  have hz1 : (W.alloc (.cells #[.string ⟨#[]⟩, .string ⟨#[]⟩] 66)).heap.size = W.heap.size + 1 := by simp
  have RN := run_any b ty cs t k (some ⟨W.heap.size + 1, 0, none⟩) 3 3 [0, 1, 2] (by decide) _ ((hR.alloc (.cells #[.string ⟨#[]⟩, .string ⟨#[]⟩] 66)).alloc _) (ints_lit (W.alloc (.cells #[.string ⟨#[]⟩, .string ⟨#[]⟩] 66)) 119 [0, 1, 2] (by decide) (W.heap.size + 1) hz1.symm) (by intro a h; injection h with h; rw [← h]; show W.heap.size + 1 ≠ b; omega)
  rw [hk1] at RN
  replace RN := Lib.hid RN
  have B0 := (Blk.new W 66 #[.string ⟨#[]⟩, .string ⟨#[]⟩]).alloc (.cells ([0, 1, 2].map (Value.int .i64)).toArray 119)
  have HB0 := Lib.hid B0
  have HPR := Lib.hid hpr
  obtain ⟨X, hX⟩ : ∃ X, pairR t k = X := ⟨_, rfl⟩
  rw [hX]
  replace HPR := HPR.out
  rw [hX] at HPR
  replace HPR := Lib.hid HPR
  clear hpr hk1 hR B0 hX hz1
  go_enter Tryz.func75, Tryz.ntmps75
  go_wp2_with fail
  refine RN.out.mono ?_
  rintro e w1 ⟨rfl, hR1, hg1⟩
  have hB1 := HB0.out.kept hg1 (by omega)
  have hgW : W.grownBy w1 (some b) := World.grownBy.trans (World.grownBy.trans (World.grownBy_alloc _ _ _) (World.grownBy_alloc _ _ _)) hg1
  obtain ⟨cs1, hcs1⟩ : ∃ c, cs.setIfInBounds 1 (.int .i64 (k1 : Nat)) = c := ⟨_, rfl⟩
  rw [hcs1] at hR1
  have hk1t := hR1.le
  have hlt1 := hR1.lt
  have TK := Lib.hid (take_any b ty cs1 t k1 (some ⟨w1.heap.size, 0, none⟩) 1 1 [eqS] (by decide) (by intro s hs; rw [List.mem_singleton.1 hs]; decide) _ (hR1.alloc _) (one_text w1 eqS) (by intro a h; injection h with h; rw [← h]; show w1.heap.size ≠ b; omega))
  have HB1 := Lib.hid (hB1.alloc (.cells #[.string eqS] 9))
  have HG1 := Lib.hid (World.grownBy.trans hgW (World.grownBy_alloc w1 (.cells #[.string eqS] 9) (some b)))
  clear hR1 hg1 hB1 hgW hcs1 RN HB0
  have hne : W.heap.size ≠ b := by omega
  have hto := fun x (h : takeR t k1 [eqS] = some x) => And.intro (takeR_one h) (And.intro (takeTo_some h) (takeTo_le hk1t h))
  have hno := fun (h : takeR t k1 [eqS] = none) => takeTo_none h
  obtain ⟨o, ho⟩ : ∃ o, takeR t k1 [eqS] = o := ⟨_, rfl⟩
  replace TK := TK.out
  replace HPR := HPR.out
  rw [ho] at TK HPR
  simp only [ho] at hto hno
  replace TK := Lib.hid TK
  have HTO := Lib.hid hto
  have HNO := Lib.hid hno
  clear ho hto hno
  cases o with
  | none =>
    have HX := Lib.hid (show X = (pnil, false, k1) from HPR)
    clear HPR
    go_wp2_with fail
    refine TK.out.mono ?_
    rintro e w2 ⟨rfl, hR2, hg2⟩
    rw [HNO.out trivial] at hR2
    have hB2 := HB1.out.kept hg2 hne
    have k0 : w2.cell? ⟨W.heap.size, 0, none⟩ = some (.string ⟨#[]⟩) := (hB2.cell 0).trans rfl
    have k1' : w2.cell? ⟨W.heap.size, 1, none⟩ = some (.string ⟨#[]⟩) := (hB2.cell 1).trans rfl
    have f0 := hB2.frozen 0
    have f1 := hB2.frozen 1
    have hg3 : W.grownBy w2 (some b) := World.grownBy.trans HG1.out hg2
    have HB2 := Lib.hid hB2
    have HR2 := Lib.hid hR2
    have HG3 := Lib.hid hg3
    clear hB2 hR2 hg2 hg3
    go_wp2
    (try simp only [Exit.inBlock, Exit.then])
    refine bodyPost_ret (results_row_tmp rfl _ _ W.heap.size 66 _ (0, 0) _ rfl ((HB2.out.set_ 0 (.string ⟨#[]⟩)).set_ 1 (.string ⟨#[]⟩)) Tryz.underlying66 rfl (by kernel_rfl)) rfl ?_
    refine ⟨by rw [HX.out]; rfl, ?_, ?_⟩
    · rw [HX.out]
      exact ⟨_, (HR2.out.far (p := ⟨W.heap.size, 0, none⟩) (fun h => hne h.symm) _).far (p := ⟨W.heap.size, 1, none⟩) (fun h => hne h.symm) _⟩
    · exact grown_new (p := ⟨W.heap.size, 1, none⟩) (grown_new (p := ⟨W.heap.size, 0, none⟩) HG3.out (Nat.le_refl _) _) (Nat.le_refl _) _
  | some x =>
    obtain ⟨hx, hto, hle⟩ := HTO.out x rfl
    have hx1 : x.size = 1 := by rw [hx]; rfl
    rw [hx1] at hto hle
    have HX := Lib.hid (show X = ((t.extract k k1, ⟨(quoR t (k1 + 1)).1.toArray⟩), (quoR t (k1 + 1)).2.2, k1 + 1 + (quoR t (k1 + 1)).2.1) from HPR)
    have HT := Lib.hid hto
    clear HPR hx hx1 hto
    go_wp2_with fail
    refine TK.out.mono ?_
    rintro e w2 ⟨rfl, hR2, hg2⟩
    rw [HT.out] at hR2
    have hB2 := HB1.out.kept hg2 hne
    have hg3 : W.grownBy w2 (some b) := World.grownBy.trans HG1.out hg2
    have QT := quoted_any b ty _ t (k1 + 1) hs w2 hR2
    obtain ⟨⟨l, m, ok⟩, hq⟩ : ∃ z, quoR t (k1 + 1) = z := ⟨_, rfl⟩
    rw [hq] at QT
    have HX2 := HX.out
    rw [hq] at HX2
    replace HX2 := Lib.hid HX2
    replace QT := Lib.hid QT
    have HB2 := Lib.hid hB2
    have HG3 := Lib.hid hg3
    clear hB2 hR2 hg2 hg3 hq
    go_wp2_with fail
    refine QT.out.mono ?_
    rintro e w3 ⟨rfl, hR3, hg4⟩
    have hB3 := HB2.out.kept hg4 hne
    have k0 : w3.cell? ⟨W.heap.size, 0, none⟩ = some (.string ⟨#[]⟩) := (hB3.cell 0).trans rfl
    have k1' : w3.cell? ⟨W.heap.size, 1, none⟩ = some (.string ⟨#[]⟩) := (hB3.cell 1).trans rfl
    have f0 := hB3.frozen 0
    have f1 := hB3.frozen 1
    have hg5 : W.grownBy w3 (some b) := World.grownBy.trans HG3.out hg4
    have HB3 := Lib.hid hB3
    have HR3 := Lib.hid hR3
    have HG5 := Lib.hid hg5
    clear hB3 hR3 hg4 hg5
    go_wp2
    (try simp only [Exit.inBlock, Exit.then])
    refine bodyPost_ret (results_row_tmp rfl _ _ W.heap.size 66 _ (0, 0) _ rfl ((HB3.out.set_ 0 (.string (t.extract k k1))).set_ 1 (.string ⟨l.toArray⟩)) Tryz.underlying66 rfl (by kernel_rfl)) rfl ?_
    refine ⟨by rw [HX2.out]; rfl, ?_, ?_⟩
    · rw [HX2.out]
      exact ⟨_, (HR3.out.far (p := ⟨W.heap.size, 0, none⟩) (fun h => hne h.symm) _).far (p := ⟨W.heap.size, 1, none⟩) (fun h => hne h.symm) _⟩
    · exact grown_new (p := ⟨W.heap.size, 1, none⟩) (grown_new (p := ⟨W.heap.size, 0, none⟩) HG5.out (Nat.le_refl _) _) (Nat.le_refl _) _
end Go.Proofs.YtdbflmkjcgiodaaGreatDoor
