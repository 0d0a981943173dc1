/- As many bytes of some kinds as there are. -/
import Derived.Test.YtnhbahfpinijiaaScan
namespace Go.Proofs.Ytnhbahfpinijiaa
open Go.RowKit
set_option linter.unusedVariables false

theorem run1_any (c : Nat) (hc : c < 256) (g : Nat) (A : Option Addr) (n cp : Nat) (ks : List Int) (hn : n ≤ 9223372036854775806) (W : World) (hg : W.cell? ⟨g, 0, none⟩ = some (.slice A n cp)) (h : Ints .i64 W A n ks) :
    Calls Try.prog 33 #[.int .u8 (c : Int), .pointer (some ⟨g, 0, none⟩)] W fun e w' => e = .returned (.bool (ks.any fun k => kindB k c)) ∧ W = w' := by
  have H := Lib.hid (is_any c hc A n cp ks hn W h)
  clear h
  go_enter Try.func33, Try.ntmps33
  go_wp2_with fail
  refine H.out.mono ?_
  rintro e w ⟨rfl, rfl⟩
  go_wp2
  go_ret
  exact ⟨rfl, rfl⟩
theorem set_same {cs : Array Value} {v : Value} (h : cs[1]? = some v) : cs.setIfInBounds 1 v = cs := by
  apply Array.ext_getElem?
  intro i
  by_cases hi : i = 1
  · subst hi
    rw [h, Array.getElem?_setIfInBounds_self_of_lt]
    rcases Nat.lt_or_ge 1 cs.size with h1 | h1
    · exact h1
    · rw [Array.getElem?_eq_none h1] at h; cases h
  · rw [Array.getElem?_setIfInBounds_ne (Ne.symm hi)]
theorem set_twice (cs : Array Value) (u v : Value) : (cs.setIfInBounds 1 u).setIfInBounds 1 v = cs.setIfInBounds 1 v := by
  apply Array.ext_getElem?
  intro i
  by_cases hi : i = 1
  · subst hi
    rcases Nat.lt_or_ge 1 cs.size with h1 | h1
    · rw [Array.getElem?_setIfInBounds_self_of_lt (by simpa using h1), Array.getElem?_setIfInBounds_self_of_lt h1]
    · rw [Array.getElem?_eq_none (by simpa using h1), Array.getElem?_eq_none (by simpa using h1)]
  · rw [Array.getElem?_setIfInBounds_ne (Ne.symm hi), Array.getElem?_setIfInBounds_ne (Ne.symm hi), Array.getElem?_setIfInBounds_ne (Ne.symm hi)]
def goodK (ks : List Int) (c : UInt8) : Bool := ks.any fun k => kindB k c.toNat
/-- how far a run of good bytes goes -/
def runTo (p : UInt8 → Bool) (t : ByteArray) (k : Nat) : Nat := k + ((t.data.toList.drop k).takeWhile p).length
theorem run_stop (p : UInt8 → Bool) (l : List UInt8) : ∀ (d k : Nat), (∀ i, k ≤ i → i < k + d → ∃ c, l[i]? = some c ∧ p c = true) → (∀ c, l[k + d]? = some c → p c = false) → ((l.drop k).takeWhile p).length = d := by
  intro d
  induction d with
  | zero =>
    intro k _ h2
    cases hl : l.drop k with
    | nil => rfl
    | cons c r =>
      have : l[k + 0]? = some c := by
        have := congrArg (·[0]?) hl
        simpa [List.getElem?_drop] using this
      rw [List.takeWhile_cons_of_neg (by rw [h2 c this]; decide)]
      rfl
  | succ d ih =>
    intro k h1 h2
    obtain ⟨c, hc, hp⟩ := h1 k (Nat.le_refl _) (by omega)
    have hlt : k < l.length := by
      rcases Nat.lt_or_ge k l.length with h | h
      · exact h
      · rw [List.getElem?_eq_none h] at hc; cases hc
    have hcc : l[k] = c := by rw [List.getElem?_eq_getElem hlt] at hc; injection hc
    rw [List.drop_eq_getElem_cons hlt, hcc, List.takeWhile_cons_of_pos hp, List.length_cons, ih (k + 1) (fun i a b => h1 i (by omega) (by omega)) (fun c h => h2 c (by rw [← h]; congr 1; omega))]
theorem runTo_le (p : UInt8 → Bool) (t : ByteArray) (k : Nat) (hk : k ≤ t.size) : runTo p t k ≤ t.size := by
  unfold runTo
  have h := (List.takeWhile_sublist p (l := t.data.toList.drop k)).length_le
  rw [List.length_drop, size_toList] at h
  omega
theorem cell_kept_by {w w' : World} {b : Nat} {p : Addr} {v : Value} (h : w.cell? p = some v) (hg : w.grownBy w' (some b)) (hp : p.block ≠ b) : w'.cell? p = some v := by
  have hlt : p.block < w.heap.size := block_lt_of_cell h
  rw [World.cell?_of_block (w := w) (hg.block p.block hlt (fun e => hp (Option.some.inj e)))]
  exact h
theorem Ints.kept_by {k : IntKind} {w w' : World} {A : Option Addr} {n b : Nat} {zs : List Int} (h : Ints k w A n zs) (hg : w.grownBy w' (some b)) (hA : ∀ a, A = some a → a.block ≠ b) : Ints k w' A n zs :=
  ⟨h.1, h.2.1, fun hn => by
    obtain ⟨g, off, e, hlt, hc⟩ := h.2.2 hn
    refine ⟨g, off, e, Nat.lt_of_lt_of_le hlt hg.size, fun j hj => cell_kept_by (hc j hj) hg (show g ≠ b from hA _ e)⟩⟩

theorem Rd.toI {w : World} {b : Nat} {ty : TypeId} {cs : Array Value} {t : ByteArray} {k : Nat} (h : Rd w b ty cs t k) {j : Nat} {z : Int} (hz : z = (j : Nat)) (hj : j ≤ t.size) : Rd (w.setCell ⟨b, 1, none⟩ (.int .i64 z)) b ty (cs.setIfInBounds 1 (.int .i64 (j : Nat))) t j := by
  subst hz
  exact h.to hj
theorem grown_pos (w : World) (q b : Nat) (v : Value) : w.grownBy ((w.drewN q).setCell ⟨b, 1, none⟩ v) (some b) :=
  ⟨rfl, rfl, rfl, by simp, fun k hk hne => Below.heap_setCell (w.drewN q) ⟨b, 1, none⟩ v k (fun e => hne (by rw [e]))⟩
theorem grown_drewN {a w : World} {row : Option Nat} (h : a.grownBy w row) (q : Nat) : a.grownBy (w.drewN q) row := ⟨h.os, h.tape, h.output, h.size, h.block⟩

set_option maxHeartbeats 1600000 in
theorem while_any (b : Nat) (ty : TypeId) (cs : Array Value) (t : ByteArray) (k : Nat) (g : Nat) (A : Option Addr) (n cp : Nat) (ks : List Int) (hn : n ≤ 9223372036854775806) (W : World) (hR : Rd W b ty cs t k) (hg : W.cell? ⟨g, 0, none⟩ = some (.slice A n cp)) (hgb : g ≠ b) (hI : Ints .i64 W A n ks) (hA : ∀ a, A = some a → a.block ≠ b) :
    Calls Try.prog 32 #[.pointer (some ⟨b, 0, none⟩), .func (.func 33) #[] #[.pointer (some ⟨g, 0, none⟩)]] W fun e w' => e = .returned (.string (t.extract k (runTo (goodK ks) t k))) ∧ Rd w' b ty (cs.setIfInBounds 1 (.int .i64 (runTo (goodK ks) t k : Nat))) t (runTo (goodK ks) t k) ∧ W.grownBy w' (some b) := by
  have c1 := hR.pos
  have hkt := hR.le
  have hsz := hR.sz
  have HR := Lib.hid hR
  have HG := Lib.hid hg
  have HI := Lib.hid hI
  have HA := Lib.hid hA
  have HS := Lib.hid (set_same hR.c1)
  clear hR hg hI hA
  go_enter Try.func32, Try.ntmps32
  go_wp2
  go_loopw [] (fun wr => ∃ j, k ≤ j ∧ j ≤ t.size ∧ Hid (∀ i, k ≤ i → i < k + (j - k) → ∃ c, t.data.toList[i]? = some c ∧ goodK ks c = true) ∧ Rd wr b ty (cs.setIfInBounds 1 (.int .i64 (j : Nat))) t j ∧ W.grownBy wr (some b)) (fun wr => t.size - (intOf ((wr.cell? ⟨b, 1, none⟩).getD undef)).toNat)
  case atStart => exact ⟨k, Nat.le_refl _, hkt, Lib.hid (fun i a b => by omega), by rw [HS.out]; exact HR.out, World.grownBy.refl _ _⟩
  case round =>
    obtain ⟨j, hkj, hjt, HJ, hRz, hgr⟩ := hrel
    have c1 := hRz.pos
    have c0 := hRz.text
    have hgz := cell_kept_by HG.out hgr hgb
    have hIz := HI.out.kept_by hgr HA.out
    have HRZ := Lib.hid hRz
    have hpz := hRz.blk.frozen 1
    by_cases hjs : j < t.size
    · obtain ⟨c, hc⟩ : ∃ c, t[j] = c := ⟨_, rfl⟩
      have hdn : ∀ q, Calls Try.prog 17 #[.pointer (some ⟨b, 0, none⟩)] (wr.drewN q) fun e w' => e = .returned (.bool false) ∧ ∃ m, w' = (wr.drewN q).drewN m := fun q => by
        have h := done_any b ty _ t j _ (hRz.drewN q)
        rw [show ((j : Int) == (t.size : Int)) = false by rw [beq_eq_false_iff_ne]; omega] at h
        exact h
      have hcl := fun q => run1_any c.toNat c.toNat_lt g A n cp ks hn (wr.drewN q) hgz (hIz.below (below_drewN (Below.refl _ _) q))
      obtain ⟨x, hx⟩ : ∃ x, goodK ks c = x := ⟨_, rfl⟩
      have hx2 : (ks.any fun k => kindB k c.toNat) = x := hx
      simp only [hx2] at hcl
      have DN := Lib.hid hdn
      have CL := Lib.hid hcl
      have hjs' : (j : Int) < (t.size : Int) := by omega
      have hbyte : t.data.toList[j]? = some c := by
        rw [Array.getElem?_toList, ← hc]
        exact Array.getElem?_eq_getElem (show j < t.data.size from hjs)
      have HB := Lib.hid hbyte
      have HX := Lib.hid hx
      have HGR := Lib.hid hgr
      clear hdn hcl hx hx2 hgz hIz hRz hbyte hgr
      cases x with
      | true =>
        go_wp2
        go_quiet (first | (go_at_call 17; exact Calls.quiet_of (DN.out _)) | (go_at_call 33; exact Calls.quiet_of_same (same_sym (CL.out _))))
        go_wp2
        go_round
        case rel => exact ⟨j + 1, by omega, by omega, Lib.hid (fun i a b => by
          by_cases hi : i < k + (j - k)
          · exact HJ.out i a hi
          · obtain rfl : i = j := by omega
            exact ⟨c, HB.out, HX.out⟩), by have h := (HRZ.out.drewN nq).toI (j := j + 1) (z := (j : Int) + 1) (by omega) (by omega); rw [set_twice] at h; exact h, World.grownBy.trans HGR.out (grown_pos wr nq b _)⟩
        case measure =>
          have h := ((HRZ.out.drewN nq).toI (j := j + 1) (z := (j : Int) + 1) (by omega) (by omega)).pos
          rw [h, c1]
          simp [intOf]
          omega
      | false =>
        have E := Lib.hid (show runTo (goodK ks) t k = j by
          unfold runTo
          rw [run_stop (goodK ks) t.data.toList (j - k) k HJ.out (fun c' h => by
            rw [show k + (j - k) = j by omega, HB.out] at h
            injection h with h
            rw [← h]; exact HX.out)]
          omega)
        have hle : (k : Int) ≤ (j : Int) := by omega
        go_wp2
        go_quiet (first | (go_at_call 17; exact Calls.quiet_of (DN.out _)) | (go_at_call 33; exact Calls.quiet_of_same (same_sym (CL.out _))))
        go_wp2
        go_quiet (fail)
        go_wp2
        go_ret
        exact ⟨by rw [E.out]; rfl, by rw [E.out]; exact ((HRZ.out.drewN _).drewN _), grown_drewN (grown_drewN HGR.out _) _⟩
    · obtain rfl : j = t.size := by omega
      have hdn : ∀ q, Calls Try.prog 17 #[.pointer (some ⟨b, 0, none⟩)] (wr.drewN q) fun e w' => e = .returned (.bool true) ∧ ∃ m, w' = (wr.drewN q).drewN m := fun q => by
        have h := done_any b ty _ t t.size _ (hRz.drewN q)
        rw [show ((t.size : Int) == (t.size : Int)) = true by simp] at h
        exact h
      have DN := Lib.hid hdn
      have HGR := Lib.hid hgr
      have E := Lib.hid (show runTo (goodK ks) t k = t.size by
        unfold runTo
        rw [run_stop (goodK ks) t.data.toList (t.size - k) k HJ.out (fun c' h => by
          rw [show k + (t.size - k) = t.size by omega, List.getElem?_eq_none (by rw [size_toList]; exact Nat.le_refl _)] at h
          cases h)]
        omega)
      have hle : (k : Int) ≤ (t.size : Int) := by omega
      clear hdn hgz hIz hRz hgr
      go_wp2
      go_quiet (first | (go_at_call 17; exact Calls.quiet_of (DN.out _)))
      go_wp2
      go_quiet (fail)
      go_wp2
      go_ret
      exact ⟨by rw [E.out]; rfl, by rw [E.out]; exact ((HRZ.out.drewN _).drewN _), grown_drewN (grown_drewN HGR.out _) _⟩

theorem Rd.lt {w : World} {b : Nat} {ty : TypeId} {cs : Array Value} {t : ByteArray} {k : Nat} (h : Rd w b ty cs t k) : b < w.heap.size := h.blk.lt
theorem Rd.alloc {w : World} {b : Nat} {ty : TypeId} {cs : Array Value} {t : ByteArray} {k : Nat} (h : Rd w b ty cs t k) (o : Obj) : Rd (w.alloc o) b ty cs t k := ⟨h.blk.alloc o, h.c0, h.c1, h.le, h.sz⟩
theorem run_any (b : Nat) (ty : TypeId) (cs : Array Value) (t : ByteArray) (k : Nat) (A : Option Addr) (n cp : Nat) (ks : List Int) (hn : n ≤ 9223372036854775806) (W : World) (hR : Rd W b ty cs t k) (hI : Ints .i64 W A n ks) (hA : ∀ a, A = some a → a.block ≠ b) :
    Calls Try.prog 22 #[.pointer (some ⟨b, 0, none⟩), .slice A n cp] W fun e w' => e = .returned (.string (t.extract k (runTo (goodK ks) t k))) ∧ Rd w' b ty (cs.setIfInBounds 1 (.int .i64 (runTo (goodK ks) t k : Nat))) t (runTo (goodK ks) t k) ∧ W.grownBy w' (some b) := by
  have hmf : ∀ (fn : Fn) (first cap : Array Value) (w : World), (Instr.makeFunc fn first cap).run Try.prog w = .ok (.func fn first cap) w := fun _ _ _ _ => rfl
  have hlt := hR.lt
  have H := Lib.hid (while_any b ty cs t k W.heap.size A n cp ks hn (W.alloc (.cells #[.slice A n cp] 64)) (hR.alloc _) (by rw [(Blk.new W _ #[.slice A n cp]).cell 0]; rfl) (by omega) (hI.below ((Below.refl _ _).alloc (Nat.le_refl _) _)) hA)
  clear hR hI hA hlt
  go_enter Try.func22, Try.ntmps22
  go_wp2_with fail
  refine H.out.mono ?_
  rintro e w ⟨rfl, h1, h2⟩
  go_wp2
  go_ret
  exact ⟨rfl, h1, World.grownBy.trans (World.grownBy_alloc _ _ _) h2⟩
end Go.Proofs.Ytnhbahfpinijiaa
