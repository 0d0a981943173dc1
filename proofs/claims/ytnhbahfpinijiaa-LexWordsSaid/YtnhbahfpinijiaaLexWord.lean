/- A word of a query: how it is read. -/
import Derived.Test.YtnhbahfpinijiaaLex
import Derived.Deep.RegionWith
import Derived.Deep.RegionHeld3
namespace Go.Proofs.Ytnhbahfpinijiaa
open Go.RowKit
set_option linter.unusedVariables false

theorem RdX.drewN {w : World} {b : Nat} {ty : TypeId} {t : ByteArray} {k : Nat} (h : RdX w b ty t k) (q : Nat) : RdX (w.drewN q) b ty t k := let ⟨cs, hR⟩ := h; ⟨cs, hR.drewN q⟩
theorem RdX.alloc {w : World} {b : Nat} {ty : TypeId} {t : ByteArray} {k : Nat} (h : RdX w b ty t k) (o : Obj) : RdX (w.alloc o) b ty t k := let ⟨cs, hR⟩ := h; ⟨cs, hR.alloc o⟩
theorem RdX.lt {w : World} {b : Nat} {ty : TypeId} {t : ByteArray} {k : Nat} (h : RdX w b ty t k) : b < w.heap.size := let ⟨cs, hR⟩ := h; hR.lt
theorem RdX.le {w : World} {b : Nat} {ty : TypeId} {t : ByteArray} {k : Nat} (h : RdX w b ty t k) : k ≤ t.size := let ⟨cs, hR⟩ := h; hR.le
theorem RdX.below {w w' : World} {b : Nat} {ty : TypeId} {t : ByteArray} {k : Nat} (h : RdX w b ty t k) (hb : Below w.heap.size w w') : RdX w' b ty t k := let ⟨cs, hR⟩ := h; ⟨cs, hR.below hb hR.lt⟩
theorem RdX.at_ {w : World} {b : Nat} {ty : TypeId} {t : ByteArray} {k j : Nat} (h : RdX w b ty t k) (e : k = j) : RdX w b ty t j := e ▸ h
theorem Rd.at_ {w : World} {b : Nat} {ty : TypeId} {cs : Array Value} {t : ByteArray} {k j : Nat} (h : Rd w b ty cs t k) (e : k = j) : Rd w b ty cs t j := e ▸ h
theorem takeO_any (b : Nat) (ty : TypeId) (t : ByteArray) (k : Nat) (w : World) (hR : RdX w b ty t k) :
    Calls Try.prog 23 #[.pointer (some ⟨b, 0, none⟩), .slice (some ⟨w.heap.size, 0, none⟩) 15 15] (w.alloc (.cells (opsT.map Value.string).toArray 9)) fun e w' => e = .returned (.tuple #[.string ((opL (atL t k)).getD .empty), .bool (opL (atL t k)).isSome]) ∧ RdX w' b ty t (k + ((opL (atL t k)).getD .empty).size) ∧ w.grownBy w' (some b) := by
  have hlt := hR.lt
  obtain ⟨cs, hR⟩ := hR
  have h := take_any b ty cs t k (some ⟨w.heap.size, 0, none⟩) 15 15 opsT (by decide) (by intro s hs; have := ops_size s hs; omega) _ (hR.alloc (.cells (opsT.map Value.string).toArray 9)) (texts_lit w opsT w.heap.size rfl) (by intro a h; injection h with h; rw [← h]; show w.heap.size ≠ b; omega)
  have e : takeR t k opsT = opL (atL t k) := takeR_at t k opsT
  unfold takeTo at h
  rw [e] at h
  exact h.mono fun e w' ⟨h1, h2, h3⟩ => ⟨h1, ⟨_, h2⟩, World.grownBy.trans (World.grownBy_alloc _ _ _) h3⟩
theorem quotedX_any (b : Nat) (ty : TypeId) (t : ByteArray) (k : Nat) (hs : t.size ≤ 16000000) (W : World) (hR : RdX W b ty t k) :
    Calls Try.prog 24 #[.pointer (some ⟨b, 0, none⟩)] W fun e w' => e = .returned (.tuple #[.string (tx (getR (atL t k)).1), .bool (getR (atL t k)).2.2]) ∧ RdX w' b ty t (k + (getR (atL t k)).2.1) ∧ W.grownBy w' (some b) := by
  obtain ⟨cs, hR⟩ := hR
  have h := quoted_any b ty cs t k hs W hR
  rw [quo_at] at h
  exact h.mono fun e w' ⟨h1, h2, h3⟩ => ⟨h1, ⟨_, h2⟩, h3⟩
def dash : ByteArray := ⟨#[45]⟩
theorem takeD_any (b : Nat) (ty : TypeId) (t : ByteArray) (k : Nat) (w : World) (hR : RdX w b ty t k) :
    Calls Try.prog 23 #[.pointer (some ⟨b, 0, none⟩), .slice (some ⟨w.heap.size, 0, none⟩) 1 1] (w.alloc (.cells #[.string dash] 9)) fun e w' => ∃ y, e = .returned (.tuple #[.string (if (atL t k).head? = some 45 then dash else .empty), y]) ∧ RdX w' b ty t (if (atL t k).head? = some 45 then k + 1 else k) ∧ w.grownBy w' (some b) := by
  have hlt := hR.lt
  obtain ⟨cs, hR⟩ := hR
  have h := take_any b ty cs t k (some ⟨w.heap.size, 0, none⟩) 1 1 [dash] (by decide) (by intro s hs; rw [List.mem_singleton.1 hs]; decide) _ (hR.alloc (.cells #[.string dash] 9)) (one_text w dash) (by intro a h; injection h with h; rw [← h]; show w.heap.size ≠ b; omega)
  have e : takeR t k [dash] = if (atL t k).head? = some 45 then some dash else none := takeR_byte t k 45
  unfold takeTo at h
  rw [e] at h
  by_cases h45 : (atL t k).head? = some 45
  · simp only [if_pos h45] at h ⊢
    exact h.mono fun e w' ⟨h1, h2, h3⟩ => ⟨_, h1, ⟨_, h2⟩, World.grownBy.trans (World.grownBy_alloc _ _ _) h3⟩
  · simp only [if_neg h45] at h ⊢
    exact h.mono fun e w' ⟨h1, h2, h3⟩ => ⟨_, h1, ⟨_, h2⟩, World.grownBy.trans (World.grownBy_alloc _ _ _) h3⟩

set_option maxHeartbeats 800000 in
theorem word_op (b : Nat) (ty : TypeId) (t : ByteArray) (k : Nat) (o : ByteArray) (ho : opL (atL t k) = some o) (W : World) (hR : RdX W b ty t k) :
    Calls Try.prog 19 #[.pointer (some ⟨b, 0, none⟩)] W fun e w' => e = .returned (.tuple #[.int .i64 4, .string o]) ∧ RdX w' b ty t (k + o.size) ∧ W.grownBy w' (some b) := by
  have TK := fun w h => takeO_any b ty t k w h
  rw [ho] at TK
  replace TK := Lib.hid TK
  have HR := Lib.hid hR
  clear hR ho
  go_enter Try.func19, Try.ntmps19
  go_wp2_with fail
  go_region_with (first | (go_at_call 12; refine (ops_any _).mono ?_; rintro e w' ⟨rfl, rfl⟩) | (go_at_call 23; refine (TK.out _ (HR.out.drewN _)).mono ?_; rintro e w' ⟨rfl, hR2, hg2⟩))
  all_goals
    have HR2 := Lib.hid hR2
    have HG2 := Lib.hid hg2
    clear hR2 hg2
    go_wp2
    go_ret2
    exact ⟨rfl, HR2.out, World.grownBy.trans (grown_drewN (World.grownBy.refl _ _) _) HG2.out⟩
theorem takeN_any (b : Nat) (ty : TypeId) (t : ByteArray) (k : Nat) (ho : opL (atL t k) = none) (w : World) (hR : RdX w b ty t k) :
    Calls Try.prog 23 #[.pointer (some ⟨b, 0, none⟩), .slice (some ⟨w.heap.size, 0, none⟩) 15 15] (w.alloc (.cells (opsT.map Value.string).toArray 9)) fun e w' => e = .returned (.tuple #[.string .empty, .bool false]) ∧ RdX w' b ty t k ∧ w.grownBy w' (some b) := by
  have h := takeO_any b ty t k w hR
  rw [ho] at h
  exact h
theorem quoN_any (b : Nat) (ty : TypeId) (t : ByteArray) (k : Nat) (hs : t.size ≤ 16000000) (hq : (getR (atL t k)).2.2 = false) (W : World) (hR : RdX W b ty t k) :
    Calls Try.prog 24 #[.pointer (some ⟨b, 0, none⟩)] W fun e w' => e = .returned (.tuple #[.string (tx []), .bool false]) ∧ RdX w' b ty t k ∧ W.grownBy w' (some b) := by
  have h := quotedX_any b ty t k hs W hR
  rw [getR_no hq] at h
  exact h
theorem quoS_any (b : Nat) (ty : TypeId) (t : ByteArray) (k : Nat) (hs : t.size ≤ 16000000) (hq : (getR (atL t k)).2.2 = true) (W : World) (hR : RdX W b ty t k) :
    Calls Try.prog 24 #[.pointer (some ⟨b, 0, none⟩)] W fun e w' => e = .returned (.tuple #[.string (tx (getR (atL t k)).1), .bool true]) ∧ RdX w' b ty t (k + (getR (atL t k)).2.1) ∧ W.grownBy w' (some b) := by
  have h := quotedX_any b ty t k hs W hR
  rw [hq] at h
  exact h
set_option maxHeartbeats 800000 in
theorem word_text (b : Nat) (ty : TypeId) (t : ByteArray) (k : Nat) (hs : t.size ≤ 16000000) (ho : opL (atL t k) = none) (hq : (getR (atL t k)).2.2 = true) (W : World) (hR : RdX W b ty t k) :
    Calls Try.prog 19 #[.pointer (some ⟨b, 0, none⟩)] W fun e w' => e = .returned (.tuple #[.int .i64 2, .string (tx (getR (atL t k)).1)]) ∧ RdX w' b ty t (k + (getR (atL t k)).2.1) ∧ W.grownBy w' (some b) := by
  have TK := Lib.hid (fun w h => takeN_any b ty t k ho w h)
  have QU := Lib.hid (fun w h => quoS_any b ty t k hs hq w h)
  have HR := Lib.hid hR
  clear hR ho hq
  go_enter Try.func19, Try.ntmps19
  go_wp2_with fail
  go_region_with (first | (go_at_call 12; refine (ops_any _).mono ?_; rintro e w' ⟨rfl, rfl⟩) | (go_at_call 23; refine (TK.out _ (HR.out.drewN _)).mono ?_; rintro e w1 ⟨rfl, hR1, hg1⟩))
  have HR1 := Lib.hid hR1
  have HG1 := Lib.hid (World.grownBy.trans (grown_drewN (World.grownBy.refl _ _) _) hg1 : W.grownBy w1 (some b))
  clear hR1 hg1 HR TK
  go_wp2_with fail
  refine (QU.out _ HR1.out).mono ?_
  rintro e w2 ⟨rfl, hR2, hg2⟩
  have HR2 := Lib.hid hR2
  have HG2 := Lib.hid (World.grownBy.trans HG1.out hg2)
  clear hR2 hg2 HR1 HG1 QU
  go_wp2
  go_ret2
  exact ⟨rfl, HR2.out, HG2.out⟩
/-- a slice of kinds that is written out, and the call that asks for one of them -/
theorem nextK_any (b : Nat) (ty : TypeId) (t : ByteArray) (k : Nat) (ks : List Int) (hk : ks.all (fun z => (Lit.int .i64 z).wf) = true) (z : Bool) (hz : headK ks (atL t k) = z) (W : World) (hR : RdX W b ty t k) (n : Nat) (hn : n = ks.length) (hn2 : n ≤ 100) :
    Calls Try.prog 25 #[.pointer (some ⟨b, 0, none⟩), .slice (some ⟨W.heap.size, 0, none⟩) n n] (W.alloc (.cells (ks.map (Value.int .i64)).toArray 55)) fun e w' => e = .returned (.bool z) ∧ RdX w' b ty t k ∧ W.grownBy w' (some b) := by
  subst hn
  have h := next_any b ty t k (some ⟨W.heap.size, 0, none⟩) ks.length ks.length ks (by omega) _ (hR.alloc (.cells (ks.map (Value.int .i64)).toArray 55)) (ints_lit W 55 ks hk W.heap.size rfl)
  rw [hz] at h
  exact h.mono fun e w' ⟨h1, q, h2⟩ => ⟨h1, h2 ▸ (hR.alloc _).drewN q, h2 ▸ grown_drewN (World.grownBy_alloc _ _ _) q⟩
theorem runK_any (b : Nat) (ty : TypeId) (t : ByteArray) (k : Nat) (ks : List Int) (hk : ks.all (fun z => (Lit.int .i64 z).wf) = true) (W : World) (hR : RdX W b ty t k) (n : Nat) (hn : n = ks.length) (hn2 : n ≤ 100) :
    Calls Try.prog 22 #[.pointer (some ⟨b, 0, none⟩), .slice (some ⟨W.heap.size, 0, none⟩) n n] (W.alloc (.cells (ks.map (Value.int .i64)).toArray 55)) fun e w' => e = .returned (.string (tx ((atL t k).takeWhile (goodK ks)))) ∧ RdX w' b ty t (k + ((atL t k).takeWhile (goodK ks)).length) ∧ W.grownBy w' (some b) := by
  subst hn
  have hlt := hR.lt
  obtain ⟨cs, hR⟩ := hR
  have h := run_any b ty cs t k (some ⟨W.heap.size, 0, none⟩) ks.length ks.length ks (by omega) _ (hR.alloc (.cells (ks.map (Value.int .i64)).toArray 55)) (ints_lit W 55 ks hk W.heap.size rfl) (by intro a h; injection h with h; rw [← h]; show W.heap.size ≠ b; omega)
  rw [run_tx] at h
  exact h.mono fun e w' ⟨h1, h2, h3⟩ => ⟨h1, ⟨_, h2⟩, World.grownBy.trans (World.grownBy_alloc _ _ _) h3⟩
set_option maxHeartbeats 800000 in
theorem word_name (b : Nat) (ty : TypeId) (t : ByteArray) (k : Nat) (hs : t.size ≤ 16000000) (ho : opL (atL t k) = none) (hq : (getR (atL t k)).2.2 = false) (hh : headK [1, 2] (atL t k) = true) (W : World) (hR : RdX W b ty t k) :
    Calls Try.prog 19 #[.pointer (some ⟨b, 0, none⟩)] W fun e w' => e = .returned (.tuple #[.int .i64 (nameW (atL t k)).1, .string (nameW (atL t k)).2.1]) ∧ RdX w' b ty t (k + (nameW (atL t k)).2.2) ∧ W.grownBy w' (some b) := by
  have TK := Lib.hid (fun w h => takeN_any b ty t k ho w h)
  have QU := Lib.hid (fun w h => quoN_any b ty t k hs hq w h)
  have NX := Lib.hid (fun w h => nextK_any b ty t k [1, 2] (by decide) true hh w h 2 rfl (by decide))
  have NA := Lib.hid (fun w h => lexName_any b ty t k w h)
  have HR := Lib.hid hR
  clear hR ho hq hh
  go_enter Try.func19, Try.ntmps19
  go_wp2_with fail
  go_region_with (first | (go_at_call 12; refine (ops_any _).mono ?_; rintro e w' ⟨rfl, rfl⟩) | (go_at_call 23; refine (TK.out _ (HR.out.drewN _)).mono ?_; rintro e w1 ⟨rfl, hR1, hg1⟩))
  have HR1 := Lib.hid hR1
  have HG1 := Lib.hid (World.grownBy.trans (grown_drewN (World.grownBy.refl _ _) _) hg1 : W.grownBy w1 (some b))
  clear hR1 hg1 HR TK
  go_wp2_with fail
  refine (QU.out _ HR1.out).mono ?_
  rintro e w2 ⟨rfl, hR2, hg2⟩
  have HR2 := Lib.hid hR2
  have HG2 := Lib.hid (World.grownBy.trans HG1.out hg2)
  clear hR2 hg2 HR1 HG1 QU
  go_wp2_with fail
  refine (NX.out _ HR2.out).mono ?_
  rintro e w3 ⟨rfl, hR3, hg3⟩
  have HR3 := Lib.hid hR3
  have HG3 := Lib.hid (World.grownBy.trans HG2.out hg3)
  clear hR3 hg3 HR2 HG2
  go_wp2_with fail
  refine (NA.out _ HR3.out).mono ?_
  rintro e w4 ⟨rfl, hR4, hg4⟩
  have HR4 := Lib.hid hR4
  have HG4 := Lib.hid (World.grownBy.trans HG3.out hg4)
  clear hR4 hg4 HR3 HG3
  go_wp2
  go_ret2
  exact ⟨rfl, HR4.out, HG4.out⟩
/-- the sign ahead, and what stands behind it -/
theorem takeS_any (b : Nat) (ty : TypeId) (t : ByteArray) (k : Nat) (sg : ByteArray) (k2 : Nat) (h : ((atL t k).head? = some 45 ∧ sg = dash ∧ k2 = k + 1) ∨ ((atL t k).head? ≠ some 45 ∧ sg = .empty ∧ k2 = k)) (w : World) (hR : RdX w b ty t k) :
    Calls Try.prog 23 #[.pointer (some ⟨b, 0, none⟩), .slice (some ⟨w.heap.size, 0, none⟩) 1 1] (w.alloc (.cells #[.string dash] 9)) fun e w' => ∃ y, e = .returned (.tuple #[.string sg, y]) ∧ RdX w' b ty t k2 ∧ w.grownBy w' (some b) := by
  have H := takeD_any b ty t k w hR
  rcases h with ⟨h1, rfl, rfl⟩ | ⟨h1, rfl, rfl⟩
  · simp only [if_pos h1] at H
    exact H
  · simp only [if_neg h1] at H
    exact H
set_option maxHeartbeats 800000 in
theorem word_value (b : Nat) (ty : TypeId) (t : ByteArray) (k : Nat) (hs : t.size ≤ 16000000) (ho : opL (atL t k) = none) (hq : (getR (atL t k)).2.2 = false) (hh : headK [1, 2] (atL t k) = false) (sg : ByteArray) (k2 : Nat) (h : ((atL t k).head? = some 45 ∧ sg = dash ∧ k2 = k + 1) ∨ ((atL t k).head? ≠ some 45 ∧ sg = .empty ∧ k2 = k)) (z : Bool) (hz : headK [0] (atL t k2) = z) (W : World) (hR : RdX W b ty t k) :
    Calls Try.prog 19 #[.pointer (some ⟨b, 0, none⟩)] W fun e w' => e = .returned (.tuple #[.int .i64 (if z = true then 3 else 0), .string (if z = true then sg ++ tx ((atL t k2).takeWhile (goodK [0, 1])) else .empty)]) ∧ RdX w' b ty t (k2 + (if z = true then ((atL t k2).takeWhile (goodK [0, 1])).length else 0)) ∧ W.grownBy w' (some b) := by
  have hk2 := hR.le
  have hsz : sg.size + (tx ((atL t k2).takeWhile (goodK [0, 1]))).size ≤ 9223372036854775806 := by
    have h1 : sg.size ≤ 1 := by rcases h with ⟨_, rfl, _⟩ | ⟨_, rfl, _⟩ <;> decide
    have h2 := takeWhile_le (goodK [0, 1]) (atL t k2)
    have h3 := at_len t k2
    rw [tx_size]
    omega
  have TK := Lib.hid (fun w h => takeN_any b ty t k ho w h)
  have QU := Lib.hid (fun w h => quoN_any b ty t k hs hq w h)
  have NX := Lib.hid (fun w h => nextK_any b ty t k [1, 2] (by decide) false hh w h 2 rfl (by decide))
  have TS := Lib.hid (fun w hR => takeS_any b ty t k sg k2 h w hR)
  have NY := Lib.hid (fun w h => nextK_any b ty t k2 [0] (by decide) z hz w h 1 rfl (by decide))
  have RN := fun w h => runK_any b ty t k2 [0, 1] (by decide) w h 2 rfl (by decide)
  obtain ⟨s, hs2⟩ : ∃ s, tx ((atL t k2).takeWhile (goodK [0, 1])) = s := ⟨_, rfl⟩
  obtain ⟨m, hm⟩ : ∃ m, ((atL t k2).takeWhile (goodK [0, 1])).length = m := ⟨_, rfl⟩
  simp only [hs2, hm] at RN hsz ⊢
  replace RN := Lib.hid RN
  have HR := Lib.hid hR
  clear hR ho hq hh h hz hs2 hm
  cases z
  all_goals
    go_enter Try.func19, Try.ntmps19
    go_wp2_with fail
    go_region_with (first | (go_at_call 12; refine (ops_any _).mono ?_; rintro e w' ⟨rfl, rfl⟩) | (go_at_call 23; refine (TK.out _ (HR.out.drewN _)).mono ?_; rintro e w1 ⟨rfl, hR1, hg1⟩))
    have HR1 := Lib.hid hR1
    have HG1 := Lib.hid (World.grownBy.trans (grown_drewN (World.grownBy.refl _ _) _) hg1 : W.grownBy w1 (some b))
    clear hR1 hg1 HR TK
    go_wp2_with fail
    refine (QU.out _ HR1.out).mono ?_
    rintro e w2 ⟨rfl, hR2, hg2⟩
    have HR2 := Lib.hid hR2
    have HG2 := Lib.hid (World.grownBy.trans HG1.out hg2)
    clear hR2 hg2 HR1 HG1 QU
    go_wp2_with fail
    refine (NX.out _ HR2.out).mono ?_
    rintro e w3 ⟨rfl, hR3, hg3⟩
    have HR3 := Lib.hid hR3
    have HG3 := Lib.hid (World.grownBy.trans HG2.out hg3)
    clear hR3 hg3 HR2 HG2
    go_wp2_with fail
    refine (TS.out _ HR3.out).mono ?_
    rintro e w4 ⟨y, rfl, hR4, hg4⟩
    have HR4 := Lib.hid hR4
    have HG4 := Lib.hid (World.grownBy.trans HG3.out hg4)
    clear hR4 hg4 HR3 HG3
    go_wp2_with fail
    refine (NY.out _ HR4.out).mono ?_
    rintro e w5 ⟨rfl, hR5, hg5⟩
    have HR5 := Lib.hid hR5
    have HG5 := Lib.hid (World.grownBy.trans HG4.out hg5)
    clear hR5 hg5 HR4 HG4
  · go_wp2
    go_ret2
    exact ⟨rfl, HR5.out, HG5.out⟩
  · go_wp2_with fail
    refine (RN.out _ HR5.out).mono ?_
    rintro e w6 ⟨rfl, hR6, hg6⟩
    have HR6 := Lib.hid hR6
    have HG6 := Lib.hid (World.grownBy.trans HG5.out hg6)
    clear hR6 hg6 HR5 HG5
    go_wp2
    go_ret2
    exact ⟨rfl, HR6.out, HG6.out⟩
theorem word_any (b : Nat) (ty : TypeId) (t : ByteArray) (k : Nat) (hs : t.size ≤ 16000000) (W : World) (hR : RdX W b ty t k) :
    Calls Try.prog 19 #[.pointer (some ⟨b, 0, none⟩)] W fun e w' => e = .returned (.tuple #[.int .i64 (wordL (atL t k)).1, .string (wordL (atL t k)).2.1]) ∧ RdX w' b ty t (k + (wordL (atL t k)).2.2) ∧ W.grownBy w' (some b) := by
  unfold wordL
  cases ho : opL (atL t k) with
  | some o => exact word_op b ty t k o ho W hR
  | none =>
    dsimp only
    by_cases hq : (getR (atL t k)).2.2 = true
    · rw [if_pos hq]
      exact word_text b ty t k hs ho hq W hR
    · have hq2 : (getR (atL t k)).2.2 = false := by simpa using hq
      rw [if_neg hq]
      by_cases hh : headK [1, 2] (atL t k) = true
      · rw [if_pos hh]
        exact word_name b ty t k hs ho hq2 hh W hR
      · have hh2 : headK [1, 2] (atL t k) = false := by simpa using hh
        rw [if_neg hh]
        unfold valueW
        by_cases h45 : (atL t k).head? = some 45
        · rw [if_pos h45]
          have h := word_value b ty t k hs ho hq2 hh2 dash (k + 1) (.inl ⟨h45, rfl, rfl⟩) _ rfl W hR
          rw [at_drop_add] at h
          by_cases hz : headK [0] ((atL t k).drop 1) = true
          · rw [if_pos hz]
            simp only [if_pos hz] at h
            have e : dash ++ tx (((atL t k).drop 1).takeWhile (goodK [0, 1])) = tx (45 :: ((atL t k).drop 1).takeWhile (goodK [0, 1])) := text_ext1 (by rw [text_joined, tx_list, tx_list]; rfl)
            rw [e, Nat.add_assoc] at h
            exact h
          · rw [if_neg hz]
            simp only [if_neg hz] at h
            exact h
        · rw [if_neg h45]
          have h := word_value b ty t k hs ho hq2 hh2 .empty k (.inr ⟨h45, rfl, rfl⟩) _ rfl W hR
          unfold numW
          by_cases hz : headK [0] (atL t k) = true
          · rw [if_pos hz]
            simp only [if_pos hz] at h
            have e : ByteArray.empty ++ tx ((atL t k).takeWhile (goodK [0, 1])) = tx ((atL t k).takeWhile (goodK [0, 1])) := text_ext1 (by rw [text_joined, tx_list]; rfl)
            rw [e] at h
            exact h
          · rw [if_neg hz]
            simp only [if_neg hz] at h
            exact h
end Go.Proofs.Ytnhbahfpinijiaa
