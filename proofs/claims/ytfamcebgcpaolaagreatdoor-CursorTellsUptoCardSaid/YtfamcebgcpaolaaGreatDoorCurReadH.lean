/- What a cursor's text is read by: the walks of the reader's hex and number.
   Sixteen digits of a cursor's text: the walk of the reader's hex. -/
import Derived.Test.YtfamcebgcpaolaaGreatDoorScanNum
import Derived.Test.YtfamcebgcpaolaaGreatDoorCurHex
import Derived.Test.YtfamcebgcpaolaaGreatDoorShelf
import Derived.Lib.IndexBytes
namespace Go.Proofs.YtfamcebgcpaolaaGreatDoor
open Go.RowKit
set_option linter.unusedVariables false
set_option linter.unusedSimpArgs false

def digL : List UInt8 := [48, 49, 50, 51, 52, 53, 54, 55, 56, 57, 97, 98, 99, 100, 101, 102]
def dvI (c : UInt8) : Int := Lib.indexByte digL c
theorem dvI_is : ∀ c : UInt8, dvI c = if dv c < 16 then (dv c : Int) else -1 := by
  have h : ∀ c : Fin 256, dvI (UInt8.ofNat c.1) = if dv (UInt8.ofNat c.1) < 16 then (dv (UInt8.ofNat c.1) : Int) else -1 := by decide +kernel
  intro c
  have := h ⟨c.toNat, c.toNat_lt⟩
  simpa using this
theorem dig_index (c : UInt8) (w : World) : Calls Tryz.prog 74 #[.string ⟨#[48, 49, 50, 51, 52, 53, 54, 55, 56, 57, 97, 98, 99, 100, 101, 102]⟩, .int .u8 (c.toNat : Int)] w fun e w' => e = .returned (.int .i64 (if dv c < 16 then (dv c : Int) else -1)) ∧ w' = w := by
  rw [← dvI_is]
  simpa [dvI, digL] using Tryz.strings_IndexByte ⟨#[48, 49, 50, 51, 52, 53, 54, 55, 56, 57, 97, 98, 99, 100, 101, 102]⟩ (c.toNat : Int) w

def colS : ByteArray := ⟨#[58]⟩
/-- behind what was read: the sign that parts it from the rest -/
def partedO {α : Type} (t : ByteArray) (v : α) (k : Nat) : Option (α × Nat) := if (takeR t k [colS]).isSome = true then some (v, takeTo t k [colS]) else none
def numC1 (t : ByteArray) (k : Nat) : Option Int → Option (Int × Nat)
  | none => none
  | some v => partedO t v k
def numC (t : ByteArray) (k : Nat) : Option (Int × Nat) := numC1 t (numTo t k) (numR t k)
theorem take_colon (b : Nat) (ty : TypeId) (cs : Array Value) (t : ByteArray) (k : Nat) (W : World) (hR : Rd W b ty cs t k) :
    Calls Tryz.prog 55 #[.pointer (some ⟨b, 0, none⟩), .slice (some ⟨W.heap.size, 0, none⟩) 1 1] (W.alloc (.cells #[.string ⟨#[58]⟩] 9)) fun e w' => e = .returned (.tuple #[.string ((takeR t k [colS]).getD .empty), .bool (takeR t k [colS]).isSome]) ∧ Rd w' b ty (cs.setIfInBounds 1 (.int .i64 (takeTo t k [colS] : Nat))) t (takeTo t k [colS]) ∧ (W.alloc (.cells #[.string ⟨#[58]⟩] 9)).grownBy w' (some b) :=
  have hlt := hR.lt
  take_any b ty cs t k (some ⟨W.heap.size, 0, none⟩) 1 1 [colS] (by decide) (by intro s hs; rw [List.mem_singleton.1 hs]; decide) (W.alloc (.cells #[.string ⟨#[58]⟩] 9)) (hR.alloc _) ⟨rfl, fun _ => ⟨_, 0, rfl, by simp, fun j hj => by
    obtain rfl : j = 0 := by omega
    rw [(Blk.new W _ #[.string ⟨#[58]⟩]).cell 0]; rfl⟩⟩ (by intro a h; injection h with h; rw [← h]; show W.heap.size ≠ b; omega)

set_option maxRecDepth 100000 in
set_option maxHeartbeats 800000 in
theorem numC_any (b : Nat) (ty : TypeId) (cs : Array Value) (t : ByteArray) (k : Nat) (W : World) (hR : Rd W b ty cs t k) (hl : LibIs W) (hB : ∀ w, W.grownBy w (some b) → LibIs w) (hs : t.size ≤ 281474976710656) :
    Calls Tryz.prog 57 #[.pointer (some ⟨b, 0, none⟩)] W fun e w' => ∃ (v : Int) (ok : Bool) (j : Nat), e = .returned (.tuple #[.int .i64 v, .bool ok]) ∧ Rd w' b ty (cs.setIfInBounds 1 (.int .i64 (j : Nat))) t j ∧ W.grownBy w' (some b) ∧ Hid (numC t k = (if ok = true then some (v, j) else none)) := by
  have NB := Lib.hid (number_any b ty cs t k W hR hl hB hs)
  have HC := Lib.hid (show numC t k = numC1 t (numTo t k) (numR t k) from rfl)
  obtain ⟨Z, hZ⟩ : ∃ Z, numC t k = Z := ⟨_, rfl⟩
  rw [hZ] at HC ⊢
  obtain ⟨k1, hk1⟩ : ∃ j, numTo t k = j := ⟨_, rfl⟩
  obtain ⟨o, ho⟩ : ∃ o, numR t k = o := ⟨_, rfl⟩
  rw [hk1, ho] at NB HC
  clear hR hZ hk1 ho
  go_enter Tryz.func57, Tryz.ntmps57
  go_wp2_with fail
  refine NB.out.mono ?_
  rintro e w1 ⟨rfl, hR1, hg1⟩
  cases o with
  | none =>
    simp only [Option.getD_none, Option.isSome_none]
    have E := Lib.hid (show Z = none from HC.out)
    have HR := Lib.hid hR1
    have HG := Lib.hid hg1
    clear hR1 hg1 NB HC hl hB
    go_wp2
    go_ret2
    first | exact ⟨0, false, k1, rfl, HR.out, HG.out, Lib.hid E.out⟩ | exact ⟨0, false, k1, ⟨rfl, rfl⟩, HR.out, HG.out, Lib.hid E.out⟩
  | some v =>
    simp only [Option.getD_some, Option.isSome_some]
    have HC2 := Lib.hid (show Z = partedO t v k1 from HC.out)
    have TK := take_colon b ty _ t k1 w1 hR1
    rw [set_twice] at TK
    have HP := Lib.hid (show partedO t v k1 = (if (takeR t k1 [colS]).isSome = true then some (v, takeTo t k1 [colS]) else none) from rfl)
    obtain ⟨o2, ho2⟩ : ∃ o, takeR t k1 [colS] = o := ⟨_, rfl⟩
    obtain ⟨j, hj⟩ : ∃ o, takeTo t k1 [colS] = o := ⟨_, rfl⟩
    rw [ho2, hj] at TK HP
    obtain ⟨ok, hok⟩ : ∃ b, o2.isSome = b := ⟨_, rfl⟩
    obtain ⟨x, hx⟩ : ∃ b : ByteArray, o2.getD .empty = b := ⟨_, rfl⟩
    rw [hok] at TK HP
    rw [hx] at TK
    have HTK := Lib.hid TK
    have HG := Lib.hid (World.grownBy.trans hg1 (World.grownBy_alloc w1 (.cells #[.string ⟨#[58]⟩] 9) (some b)))
    clear TK ho2 hj hok hx hR1 hg1 NB HC hl hB
    go_wp2_with fail
    refine HTK.out.mono ?_
    rintro e w2 ⟨rfl, hR2, hg2⟩
    have HR := Lib.hid hR2
    have HG2 := Lib.hid (World.grownBy.trans HG.out hg2)
    clear hR2 hg2 HTK HG
    go_wp2
    go_ret2
    first | exact ⟨v, ok, j, rfl, HR.out, HG2.out, Lib.hid (HC2.out.trans HP.out)⟩ | exact ⟨v, ok, ⟨rfl, rfl⟩, j, HR.out, HG2.out, Lib.hid (HC2.out.trans HP.out)⟩ | exact ⟨v, ok, j, ⟨rfl, rfl⟩, HR.out, HG2.out, Lib.hid (HC2.out.trans HP.out)⟩
end Go.Proofs.YtfamcebgcpaolaaGreatDoor
namespace Go.Proofs.YtfamcebgcpaolaaGreatDoor
open Go.RowKit
set_option linter.unusedVariables false
set_option linter.unusedSimpArgs false

def readH (t : ByteArray) : Nat → Nat → Nat → Option Nat
  | 0, _, n => some n
  | i + 1, k, n => (t.data.toList[k]?).elim none fun c => if dv c < 16 then readH t i (k + 1) (n * 16 + dv c) else none
theorem readH_end (t : ByteArray) (i k n : Nat) (h : t.size ≤ k) : readH t (i + 1) k n = none := by
  rw [readH, List.getElem?_eq_none (by rw [size_toList]; exact h)]
  rfl
theorem readH_more (t : ByteArray) (i k n : Nat) (h : k < t.size) : readH t (i + 1) k n = if dv t[k] < 16 then readH t i (k + 1) (n * 16 + dv t[k]) else none := by
  have hl : k < t.data.toList.length := by rw [size_toList]; exact h
  rw [readH, List.getElem?_eq_getElem hl]
  rfl
def hexC1 (t : ByteArray) (k : Nat) : Option Nat → Option (Nat × Nat)
  | none => none
  | some v => partedO t v k
def hexC (t : ByteArray) (k : Nat) : Option (Nat × Nat) := hexC1 t (k + 16) (readH t 16 k 0)

set_option maxRecDepth 100000 in
set_option maxHeartbeats 800000 in
theorem hexC_any (b : Nat) (ty : TypeId) (cs : Array Value) (t : ByteArray) (k : Nat) (W : World) (hR : Rd W b ty cs t k) :
    Calls Tryz.prog 56 #[.pointer (some ⟨b, 0, none⟩)] W fun e w' => ∃ (v : Nat) (ok : Bool) (j : Nat), e = .returned (.tuple #[.int .u64 (v : Int), .bool ok]) ∧ v < 18446744073709551616 ∧ Hid (ok = true → Rd w' b ty (cs.setIfInBounds 1 (.int .i64 (j : Nat))) t j) ∧ W.grownBy w' (some b) ∧ Hid (hexC t k = (if ok = true then some (v, j) else none)) := by
  have HC := Lib.hid (show hexC t k = hexC1 t (k + 16) (readH t 16 k 0) from rfl)
  obtain ⟨Z, hZ⟩ : ∃ Z, hexC t k = Z := ⟨_, rfl⟩
  rw [hZ] at HC ⊢
  obtain ⟨o, ho⟩ : ∃ o, readH t 16 k 0 = o := ⟨_, rfl⟩
  rw [ho] at HC
  have HO := Lib.hid (show readH t (16 - 0) (k + 0) 0 = o from ho)
  have hsz := hR.sz
  have HR0 := Lib.hid hR
  have D0 := Lib.hid (fun w => show Calls Tryz.prog 74 #[.string ⟨#[48, 49, 50, 51, 52, 53, 54, 55, 56, 57, 97, 98, 99, 100, 101, 102]⟩, .int .u8 0] w fun e w' => e = .returned (.int .i64 (-1)) ∧ w' = w from dig_index 0 w)
  have DI := Lib.hid dig_index
  clear hZ ho hR
  go_enter Tryz.func56, Tryz.ntmps56
  go_wp2
  go_loopw [4, 10] (fun sv iv wr => ∃ (j n : Nat) (cs1 : Array Value), j ≤ 16 ∧ iv = .int .i64 j ∧ sv = .int .u64 n ∧ n < 16 ^ j ∧ Hid (readH t (16 - j) (k + j) n = o) ∧ Rd wr b ty cs1 t (k + j) ∧ Hid (∀ v, cs1.setIfInBounds 1 v = cs.setIfInBounds 1 v) ∧ W.grownBy wr (some b)) (fun _ iv _ => 16 - (intOf iv).toNat)
  case atStart => exact ⟨0, 0, cs, Nat.zero_le _, rfl, rfl, by decide, HO, HR0.out, Lib.hid (fun _ => rfl), World.grownBy.refl _ _⟩
  case round =>
    obtain ⟨j, n, cs1, hj, rfl, rfl, hn, HJ, hR, HCS, hg⟩ := hrel
    by_cases hj2 : j < 16
    · have hjI : (j : Int) < 16 := by omega
      obtain ⟨i, hi⟩ : ∃ i, 16 - j = i + 1 := ⟨15 - j, by omega⟩
      have hkl := hR.le
      by_cases hk : k + j < t.size
      · have h1 := HJ.out
        rw [hi, readH_more t i (k + j) n hk] at h1
        obtain ⟨c, hc⟩ : ∃ c, t[k + j] = c := ⟨_, rfl⟩
        rw [hc] at h1
        have NX := Lib.hid (next_more b ty cs1 t (k + j) hk c hc wr hR)
        have DC := DI.out c
        obtain ⟨d, hd⟩ : ∃ d, dv c = d := ⟨_, rfl⟩
        rw [hd] at h1
        simp only [hd] at DC
        have hnn : n < 1152921504606846976 := Nat.lt_of_lt_of_le hn (Nat.le_trans (Nat.pow_le_pow_right (by decide) (show j ≤ 15 by omega)) (by decide))
        by_cases hd16 : d < 16
        · rw [if_pos hd16] at h1
          simp only [if_pos hd16] at DC
          have DC2 := Lib.hid DC
          have hor := next_is n d hnn hd16
          rw [show IntKind.u64.wrap ((n : Int) * 16) = (n : Int) * 16 from by rw [IntKind.wrap_u64]; omega] at hor
          have hnx : n * 16 + d < 16 ^ (j + 1) := by rw [Nat.pow_succ]; omega
          have hdw : IntKind.u64.wrap (d : Int) = (d : Int) := by rw [IntKind.wrap_u64]; omega
          have hdn : ¬ (d : Int) < 0 := by omega
          have HH := Lib.hid (show readH t (16 - (j + 1)) (k + (j + 1)) (n * 16 + d) = o from by rw [show 16 - (j + 1) = i by omega, ← Nat.add_assoc]; exact h1)
          obtain ⟨m, hm⟩ : ∃ m, n * 16 + d = m := ⟨_, rfl⟩
          rw [hm] at hor hnx HH
          clear h1 hc hd DC hi hR D0 DI hm HJ hn
          go_wp2_with fail
          refine NX.out.mono ?_
          rintro e w1 ⟨rfl, hR1, hg1⟩
          have HR1 := Lib.hid (show Rd w1 b ty (cs1.setIfInBounds 1 (.int .i64 ((k + j + 1 : Nat) : Int))) t (k + (j + 1)) from hR1)
          have HG1 := Lib.hid (World.grownBy.trans hg hg1)
          clear hR1 hg1 hg NX
          go_wp2_with fail
          refine (DC2.out _).mono ?_
          rintro e w2 ⟨rfl, rfl⟩
          clear DC2
          go_wp2
          go_round
          case rel => exact ⟨j + 1, m, _, by omega, by go_num, by first | rfl | (rw [hor]; done) | (simp [hor]; done), hnx, HH, HR1.out, Lib.hid (fun v => by rw [set_twice]; exact HCS.out v), HG1.out⟩
          case measure => simp [intOf]; omega
        · rw [if_neg hd16] at h1
          simp only [if_neg hd16] at DC
          have DC2 := Lib.hid DC
          have E := Lib.hid (show Z = none from by rw [HC.out, ← h1]; rfl)
          clear h1 hc hd DC hi hR D0 DI HJ hn HC HO
          go_wp2_with fail
          refine NX.out.mono ?_
          rintro e w1 ⟨rfl, _, hg1⟩
          have HG1 := Lib.hid (World.grownBy.trans hg hg1)
          clear hg1 hg NX
          go_wp2_with fail
          refine (DC2.out _).mono ?_
          rintro e w2 ⟨rfl, rfl⟩
          clear DC2
          go_wp2
          go_ret2
          exact ⟨0, false, 0, rfl, by decide, Lib.hid (fun h => by cases h), HG1.out, Lib.hid E.out⟩
      · obtain ⟨K, hK⟩ : ∃ K, k + j = K := ⟨_, rfl⟩
        rw [hK] at hR hk hkl
        obtain rfl : K = t.size := by omega
        have h1 := HJ.out
        rw [hi, hK, readH_end t i t.size n (Nat.le_refl _)] at h1
        have NX := Lib.hid (next_end b ty cs1 t wr hR)
        have E := Lib.hid (show Z = none from by rw [HC.out, ← h1]; rfl)
        clear h1 hi hR DI HJ hn HC HO hK hk hkl
        go_wp2_with fail
        refine NX.out.mono ?_
        rintro e w1 ⟨rfl, q, rfl⟩
        have HG1 := Lib.hid (grown_drewN hg q)
        clear hg NX
        go_wp2_with fail
        refine (D0.out _).mono ?_
        rintro e w2 ⟨rfl, rfl⟩
        clear D0
        go_wp2
        go_ret2
        exact ⟨0, false, 0, rfl, by decide, Lib.hid (fun h => by cases h), HG1.out, Lib.hid E.out⟩
    · obtain rfl : j = 16 := by omega
      have h1 : some n = o := HJ.out
      have HC2 := Lib.hid (show Z = partedO t n (k + 16) from by rw [HC.out, ← h1]; rfl)
      have hlt : n < 18446744073709551616 := Nat.lt_of_lt_of_le hn (by decide)
      have TK := take_colon b ty cs1 t (k + 16) wr hR
      rw [HCS.out] at TK
      have HP := Lib.hid (show partedO t n (k + 16) = (if (takeR t (k + 16) [colS]).isSome = true then some (n, takeTo t (k + 16) [colS]) else none) from rfl)
      obtain ⟨o2, ho2⟩ : ∃ o, takeR t (k + 16) [colS] = o := ⟨_, rfl⟩
      obtain ⟨j2, hj3⟩ : ∃ o, takeTo t (k + 16) [colS] = o := ⟨_, rfl⟩
      rw [ho2, hj3] at TK HP
      obtain ⟨ok, hok⟩ : ∃ b, o2.isSome = b := ⟨_, rfl⟩
      obtain ⟨x, hx⟩ : ∃ b : ByteArray, o2.getD .empty = b := ⟨_, rfl⟩
      rw [hok] at TK HP
      rw [hx] at TK
      have HTK := Lib.hid TK
      have HG := Lib.hid (World.grownBy.trans hg (World.grownBy_alloc wr (.cells #[.string ⟨#[58]⟩] 9) (some b)))
      clear TK ho2 hj3 hok hx hR hg h1 HJ hn HC HO D0 DI HCS
      go_wp2_with fail
      refine HTK.out.mono ?_
      rintro e w2 ⟨rfl, hR2, hg2⟩
      have HR := Lib.hid hR2
      have HG2 := Lib.hid (World.grownBy.trans HG.out hg2)
      clear hR2 hg2 HTK HG
      go_wp2
      go_ret2
      first | exact ⟨n, ok, j2, rfl, hlt, Lib.hid (fun _ => HR.out), HG2.out, Lib.hid (HC2.out.trans HP.out)⟩ | exact ⟨n, ok, ⟨rfl, rfl⟩, hlt, j2, Lib.hid (fun _ => HR.out), HG2.out, Lib.hid (HC2.out.trans HP.out)⟩
end Go.Proofs.YtfamcebgcpaolaaGreatDoor
