-- shaken
import Derived.Test.YtdaainifkldcpaaGreatDoorLabRight
import Derived.Test.YtdaainifkldcpaaGreatDoorLabParse
namespace Go.Proofs.YtdaainifkldcpaaGreatDoor
open Go.RowKit
set_option linter.unusedVariables false
set_option linter.unusedSimpArgs false
structure EntB where
  ts : Int
  ls : List PairB
  ln : ByteArray
def cmpZ (a b : Int) : Int := if a < b then -1 else if b < a then 1 else 0
def entC (a b : EntB) : Int := if cmpZ a.ts b.ts = 0 then (if orderL a.ls b.ls = 0 then txtC a.ln b.ln else orderL a.ls b.ls) else cmpZ a.ts b.ts
theorem cmpZ_vals (a b : Int) : cmpZ a b = -1 ∨ cmpZ a b = 0 ∨ cmpZ a b = 1 := by
  unfold cmpZ
  split
  · exact .inl rfl
  · split
    · exact .inr (.inr rfl)
    · exact .inr (.inl rfl)
theorem cmpZ_ord : Ord3 cmpZ := by
  refine ⟨fun a b => ?_, fun a b h => ?_, fun a b c h1 h2 => ?_⟩
  · unfold cmpZ; repeat' split <;> omega
  · unfold cmpZ at h
    split at h
    · omega
    · split at h <;> omega
  · unfold cmpZ at h1 h2 ⊢
    repeat' split at h1 <;> try omega
    all_goals repeat' split at h2 <;> try omega
    all_goals repeat' split <;> try omega
theorem Ord3.both {α β γ : Type} {f : α → α → Int} {g : β → β → Int} (hf : Ord3 f) (hg : Ord3 g) (p : γ → α) (q : γ → β) (hpq : ∀ x y, p x = p y → q x = q y → x = y) :
    Ord3 (fun x y : γ => if f (p x) (p y) = 0 then g (q x) (q y) else f (p x) (p y)) := by
  refine ⟨fun x y => ?_, fun x y h => ?_, fun x y z h1 h2 => ?_⟩
  · have h := hf.anti (p x) (p y)
    have k := hg.anti (q x) (q y)
    by_cases h0 : f (p x) (p y) = 0
    · rw [if_pos h0, if_pos (by omega)]; exact k
    · rw [if_neg h0, if_neg (by omega)]; exact h
  · by_cases h0 : f (p x) (p y) = 0
    · rw [if_pos h0] at h
      exact hpq x y (hf.zero _ _ h0) (hg.zero _ _ h)
    · rw [if_neg h0] at h; omega
  · by_cases h0 : f (p x) (p y) = 0
    · rw [if_pos h0] at h1
      have e := hf.zero _ _ h0
      by_cases h3 : f (p y) (p z) = 0
      · rw [if_pos h3] at h2
        rw [e, if_pos h3]
        exact hg.trans _ _ _ h1 h2
      · rw [if_neg h3] at h2
        rw [e, if_neg h3]
        exact h2
    · rw [if_neg h0] at h1
      by_cases h3 : f (p y) (p z) = 0
      · have e := hf.zero _ _ h3
        rw [← e, if_neg h0]
        exact h1
      · rw [if_neg h3] at h2
        have := hf.less (a := p x) (b := p y) (c := p z) (by omega) h2
        rw [if_neg (by omega)]
        omega
theorem entC_ord : Ord3 entC := by
  have h1 : Ord3 (fun x y : List PairB × ByteArray => if orderL x.1 y.1 = 0 then txtC x.2 y.2 else orderL x.1 y.1) := orderL_ord.both txtC_ord (fun x : List PairB × ByteArray => x.1) (fun x : List PairB × ByteArray => x.2) (fun x y h1 h2 => Prod.ext h1 h2)
  have h2 : Ord3 (fun x y : EntB => if cmpZ x.ts y.ts = 0 then (if orderL x.ls y.ls = 0 then txtC x.ln y.ln else orderL x.ls y.ls) else cmpZ x.ts y.ts) :=
    cmpZ_ord.both h1 (fun x : EntB => x.ts) (fun x : EntB => (x.ls, x.ln)) (fun x y h1 h2 => by
      obtain ⟨a, b, c⟩ := x
      obtain ⟨a', b', c'⟩ := y
      obtain rfl : a = a' := h1
      injection h2 with h2 h3
      obtain rfl : b = b' := h2
      obtain rfl : c = c' := h3
      rfl)
  exact h2
theorem entC_zero {a b : EntB} : entC a b = 0 ↔ a = b := ⟨entC_ord.zero a b, fun h => by rw [h]; exact entC_ord.refl b⟩
def aheadB (a b : EntB) (asc : Bool) : Bool := if asc then decide (entC a b < 0) else decide (0 < entC a b)
def rightE (e : EntB) : Bool := rightB e.ls && decide (e.ln.size ≤ 256)
set_option maxHeartbeats 800000 in
theorem isNaN_any (a : Int) (W : World) : Calls Tryz.prog 117 #[.int .i64 a] W fun e w' => e = .returned (.bool false) ∧ w' = W := by
  go_enter Tryz.func117, Tryz.ntmps117
  go_wp2
  go_ret
  exact ⟨by first | rfl | (simp; done), rfl⟩
set_option maxHeartbeats 800000 in
theorem compare64_any (a b : Int) (W : World) : Calls Tryz.prog 83 #[.int .i64 a, .int .i64 b] W fun e w' => e = .returned (.int .i64 (cmpZ a b)) ∧ w' = W := by
  have N1 := Lib.hid (fun w => isNaN_any a w)
  have N2 := Lib.hid (fun w => isNaN_any b w)
  by_cases h1 : a < b
  · have E := Lib.hid (show (-1 : Int) = cmpZ a b by unfold cmpZ; rw [if_pos h1])
    go_enter Tryz.func83, Tryz.ntmps83
    go_wp2_with fail
    refine (N1.out _).mono ?_
    rintro e w ⟨rfl, rfl⟩
    go_wp2_with fail
    refine (N2.out _).mono ?_
    rintro e w ⟨rfl, rfl⟩
    go_wp2
    go_ret
    exact ⟨ret_int E.out, rfl⟩
  · by_cases h2 : b < a
    · have E := Lib.hid (show (1 : Int) = cmpZ a b by unfold cmpZ; rw [if_neg h1, if_pos h2])
      go_enter Tryz.func83, Tryz.ntmps83
      go_wp2_with fail
      refine (N1.out _).mono ?_
      rintro e w ⟨rfl, rfl⟩
      go_wp2_with fail
      refine (N2.out _).mono ?_
      rintro e w ⟨rfl, rfl⟩
      go_wp2
      go_ret
      exact ⟨ret_int E.out, rfl⟩
    · have E := Lib.hid (show (0 : Int) = cmpZ a b by unfold cmpZ; rw [if_neg h1, if_neg h2])
      go_enter Tryz.func83, Tryz.ntmps83
      go_wp2_with fail
      refine (N1.out _).mono ?_
      rintro e w ⟨rfl, rfl⟩
      go_wp2_with fail
      refine (N2.out _).mono ?_
      rintro e w ⟨rfl, rfl⟩
      go_wp2
      go_ret
      exact ⟨ret_int E.out, rfl⟩
def firstNZ : List Int → Int
  | [] => 0
  | x :: l => if x = 0 then firstNZ l else x
set_option maxHeartbeats 800000 in
theorem orN_any (zs : List Int) (n : Nat) (A : Option Addr) (cp : Nat) (hn : n ≤ 1000) (W : World) (h : Ints .i64 W A n zs) :
    Calls Tryz.prog 82 #[.slice A n cp] W fun e w' => e = .returned (.int .i64 (firstNZ zs)) ∧ W = w' := by
  obtain ⟨T, hT⟩ : ∃ T, firstNZ zs = T := ⟨_, rfl⟩
  rw [hT]
  have HT := Lib.hid (show firstNZ (zs.drop 0) = T from hT)
  have HL := Lib.hid h.1
  have HI := Lib.hid h
  clear h hT
  go_enter Tryz.func82, Tryz.ntmps82
  go_wp2
  go_loop [8] (fun i => ∃ j : Nat, 0 ≤ j ∧ j ≤ n ∧ i = .int .i64 j ∧ Hid (firstNZ (zs.drop j) = T)) (fun i => n - (intOf i).toNat)
  case atStart => exact ⟨0, Nat.zero_le _, Nat.zero_le _, rfl, HT⟩
  case round =>
    obtain ⟨j, _, hj, rfl, H1⟩ := hrel
    by_cases hj2 : j < n
    · obtain ⟨b, off, rfl, hlt, hc⟩ := HI.out.2.2 (by omega)
      have c := hc j hj2
      have hd : zs.drop j = zs.getD j 0 :: zs.drop (j + 1) := by
        have := HL.out
        rw [List.drop_eq_getElem_cons (by omega), List.getD_eq_getElem?_getD, List.getElem?_eq_getElem (by omega)]
        rfl
      have hs := H1.out
      rw [hd, firstNZ] at hs
      obtain ⟨z, hz⟩ : ∃ z, zs.getD j 0 = z := ⟨_, rfl⟩
      rw [hz] at c hs
      have hjI : (j : Int) < (n : Int) := by omega
      by_cases z0 : z = 0
      · rw [if_pos z0] at hs
        have HN := Lib.hid hs
        subst z0
        clear hz hc hd hs
        go_wp2
        go_round
        case rel => exact ⟨j + 1, Nat.zero_le _, by omega, by go_num, HN⟩
        case measure => simp [intOf]; omega
      · rw [if_neg z0] at hs
        have E := Lib.hid hs
        clear hz hc hd hs
        go_wp2
        go_ret
        exact ⟨ret_int E.out, rfl⟩
    · obtain rfl : j = n := by omega
      have E := Lib.hid (show (0 : Int) = T by
        have := H1.out
        rw [List.drop_of_length_le (by rw [HL.out]; exact Nat.le_refl _)] at this
        exact this)
      go_wp2
      go_ret
      exact ⟨ret_int E.out, rfl⟩
structure Two (W w : World) (c1 c2 : Array Value) : Prop where
  b1 : Blk w W.heap.size 47 c1
  b2 : Blk w (W.heap.size + 1) 47 c2
  below : Below W.heap.size W w
theorem Two.new (W : World) (c1 c2 : Array Value) : Two W ((W.alloc (.cells c1 47)).alloc (.cells c2 47)) c1 c2 := by
  have B2 := Blk.new (W.alloc (.cells c1 47)) 47 c2
  have hs1 : (W.alloc (.cells c1 47)).heap.size = W.heap.size + 1 := by simp
  rw [hs1] at B2
  exact ⟨(Blk.new W 47 c1).alloc _, B2, ((Below.refl _ _).alloc (Nat.le_refl _) _).alloc (by simp) _⟩
theorem Two.next {W w w' : World} {c1 c2 : Array Value} (h : Two W w c1 c2) (hx : Below w.heap.size w w') : Two W w' c1 c2 :=
  ⟨h.b1.below hx h.b1.lt, h.b2.below hx h.b2.lt, hop h.below (Nat.le_refl _) hx⟩
theorem Two.drewN {W w : World} {c1 c2 : Array Value} (h : Two W w c1 c2) (n : Nat) : Two W (w.drewN n) c1 c2 := ⟨h.b1.drewN n, h.b2.drewN n, below_drewN h.below n⟩
theorem Two.alloc {W w : World} {c1 c2 : Array Value} (h : Two W w c1 c2) (o : Obj) : Two W (w.alloc o) c1 c2 := ⟨h.b1.alloc o, h.b2.alloc o, h.below.alloc h.below.size o⟩
theorem Two.cells {W w : World} {c1 c2 : Array Value} (h : Two W w c1 c2) : ∀ i, w.cell? ⟨W.heap.size, i, none⟩ = c1[i]? ∧ w.cell? ⟨W.heap.size + 1, i, none⟩ = c2[i]? := fun i => ⟨h.b1.cell i, h.b2.cell i⟩
def sameE (a b : EntB) : Bool := decide (a.ts = b.ts) && (decide (a.ls = b.ls) && decide (a.ln = b.ln))
theorem sameE_iff {a b : EntB} : sameE a b = true ↔ a = b := by
  unfold sameE
  rw [Bool.and_eq_true, Bool.and_eq_true, decide_eq_true_iff, decide_eq_true_iff, decide_eq_true_iff]
  constructor
  · rintro ⟨h1, h2, h3⟩
    obtain ⟨x, y, z⟩ := a
    obtain ⟨x', y', z'⟩ := b
    obtain rfl : x = x' := h1
    obtain rfl : y = y' := h2
    obtain rfl : z = z' := h3
    rfl
  · rintro rfl; exact ⟨rfl, rfl, rfl⟩
set_option maxRecDepth 100000 in
set_option maxHeartbeats 1600000 in
theorem entSame_any (t1 t2 : Int) (A B : Option Addr) (n m c d : Nat) (ps qs : List PairB) (l1 l2 : ByteArray) (hn : n ≤ 9223372036854775807) (hm : m ≤ 9223372036854775807) (W : World) (h1 : Pairs W A n ps) (h2 : Pairs W B m qs) :
    Calls Tryz.prog 26 #[.agg #[.int .i64 t1, .slice A n c, .string l1], .agg #[.int .i64 t2, .slice B m d, .string l2]] W fun e w' => e = .returned (.bool (sameE ⟨t1, ps, l1⟩ ⟨t2, qs, l2⟩)) ∧ Below W.heap.size W w' := by
  have TW := Two.new W #[.int .i64 t1, .slice A n c, .string l1] #[.int .i64 t2, .slice B m d, .string l2]
  have SM := fun w h => same_any A B n m c d ps qs hn hm w (h1.below h) (h2.below h)
  obtain ⟨T, hT⟩ : ∃ T, sameE ⟨t1, ps, l1⟩ ⟨t2, qs, l2⟩ = T := ⟨_, rfl⟩
  rw [hT]
  have hT2 : (decide (t1 = t2) && (decide (ps = qs) && decide (l1 = l2))) = T := hT
  obtain ⟨x, hx⟩ : ∃ x, decide (ps = qs) = x := ⟨_, rfl⟩
  simp only [hx] at SM
  rw [hx] at hT2
  replace SM := Lib.hid SM
  have HTW := Lib.hid TW
  clear TW h1 h2 hT hx
  by_cases ht : t1 = t2
  · subst ht
    have g1 : (t1 == t1) = true := by simp
    have hte := text_eq l1 l2
    obtain ⟨y, hy⟩ : ∃ x, decide (l1 = l2) = x := ⟨_, rfl⟩
    rw [hy] at hte hT2
    have E := Lib.hid (show (x && y) = T from by rw [← hT2, decide_eq_true rfl]; rfl)
    clear hT2 hy
    go_enter Tryz.func26, Tryz.ntmps26
    go_wp2_with fail
    obtain ⟨w1, hw1⟩ : ∃ w, (W.alloc (.cells #[.int .i64 t1, .slice A n c, .string l1] 47)).alloc (.cells #[.int .i64 t1, .slice B m d, .string l2] 47) = w := ⟨_, rfl⟩
    have hTW := HTW.out
    rw [hw1] at hTW ⊢
    clear hw1 HTW
    refine (SM.out _ hTW.below).mono ?_
    rintro e w2 ⟨rfl, hx⟩
    have TW2 := hTW.next hx
    obtain ⟨k1, k2⟩ := TW2.cells 2
    replace k1 : w2.cell? ⟨W.heap.size, 2, none⟩ = some (.string l1) := k1
    replace k2 : w2.cell? ⟨W.heap.size + 1, 2, none⟩ = some (.string l2) := k2
    have HB := Lib.hid TW2.below
    clear hx TW2 hTW SM
    cases x with
    | false =>
      have E := Lib.hid (show false = T from E.out)
      go_wp2
      go_ret
      exact ⟨ret_bool E.out, HB.out⟩
    | true =>
      have E := Lib.hid (show y = T from E.out)
      go_wp2
      go_ret
      exact ⟨ret_bool (by first | exact E.out | (rw [← E.out]; first | exact hte | (rw [← hte]; simp; done))), HB.out⟩
  · have g1 : (t1 == t2) = false := by rw [beq_eq_false_iff_ne]; exact ht
    have E := Lib.hid (show false = T from by rw [← hT2, decide_eq_false ht]; rfl)
    have HB := Lib.hid HTW.out.below
    clear hT2 ht HTW
    go_enter Tryz.func26, Tryz.ntmps26
    go_wp2
    go_ret
    exact ⟨ret_bool E.out, HB.out⟩
set_option maxRecDepth 100000 in
set_option maxHeartbeats 1600000 in
theorem entRight_any (t1 : Int) (A : Option Addr) (n c : Nat) (ps : List PairB) (l1 : ByteArray) (hn : n ≤ 9223372036854775807) (W : World) (h1 : Pairs W A n ps) :
    Calls Tryz.prog 50 #[.agg #[.int .i64 t1, .slice A n c, .string l1]] W fun e w' => e = .returned (.bool (rightE ⟨t1, ps, l1⟩)) ∧ Below W.heap.size W w' := by
  have hb1 : Below W.heap.size W (W.alloc (.cells #[.int .i64 t1, .slice A n c, .string l1] 47)) := (Below.refl _ _).alloc (Nat.le_refl _) _
  have B1 := Blk.new W 47 #[.int .i64 t1, .slice A n c, .string l1]
  have RT := fun w h => right_any A n c ps hn w (h1.below h)
  obtain ⟨T, hT⟩ : ∃ T, rightE ⟨t1, ps, l1⟩ = T := ⟨_, rfl⟩
  rw [hT]
  have hT2 : (rightB ps && decide (l1.size ≤ 256)) = T := hT
  obtain ⟨x, hx⟩ : ∃ x, rightB ps = x := ⟨_, rfl⟩
  simp only [hx] at RT
  rw [hx] at hT2
  replace RT := Lib.hid RT
  have hz : decide ((l1.size : Int) ≤ 256) = decide (l1.size ≤ 256) := by rw [decide_eq_decide]; omega
  obtain ⟨y, hy⟩ : ∃ x, decide (l1.size ≤ 256) = x := ⟨_, rfl⟩
  rw [hy] at hT2 hz
  have E := Lib.hid hT2
  have HY := Lib.hid hy
  clear h1 hT hx hT2 hy
  go_enter Tryz.func50, Tryz.ntmps50
  go_wp2_with fail
  obtain ⟨w1, hw1⟩ : ∃ w, W.alloc (.cells #[.int .i64 t1, .slice A n c, .string l1] 47) = w := ⟨_, rfl⟩
  rw [hw1] at hb1 B1 ⊢
  clear hw1
  refine (RT.out _ hb1).mono ?_
  rintro e w2 ⟨rfl, hx⟩
  have B2 := B1.below hx B1.lt
  have k1 : w2.cell? ⟨W.heap.size, 2, none⟩ = some (.string l1) := (B2.cell 2).trans rfl
  have HB := Lib.hid (hop hb1 (Nat.le_refl _) hx)
  clear hx B1 B2 RT hb1
  cases x with
  | false =>
    have E := Lib.hid (show false = T from E.out)
    go_wp2
    go_ret
    exact ⟨ret_bool E.out, HB.out⟩
  | true =>
    have E := Lib.hid (show y = T from E.out)
    go_wp2
    go_ret
    exact ⟨ret_bool (by first | exact E.out | (rw [← E.out]; first | exact hz | (rw [← HY.out]; simp; done))), HB.out⟩
set_option maxRecDepth 100000 in
set_option maxHeartbeats 1600000 in
theorem entOrder_any (t1 t2 : Int) (A B : Option Addr) (n m c d : Nat) (ps qs : List PairB) (l1 l2 : ByteArray) (hn : n ≤ 9223372036854775807) (hm : m ≤ 9223372036854775807) (W : World) (h1 : Pairs W A n ps) (h2 : Pairs W B m qs) :
    Calls Tryz.prog 53 #[.agg #[.int .i64 t1, .slice A n c, .string l1], .agg #[.int .i64 t2, .slice B m d, .string l2]] W fun e w' => e = .returned (.int .i64 (entC ⟨t1, ps, l1⟩ ⟨t2, qs, l2⟩)) ∧ Below W.heap.size W w' := by
  have TW := Two.new W #[.int .i64 t1, .slice A n c, .string l1] #[.int .i64 t2, .slice B m d, .string l2]
  have C1 := Lib.hid (fun w => compare64_any t1 t2 w)
  have C2 := Lib.hid (fun w h => order_any A B n m c d ps qs hn hm w (h1.below h) (h2.below h))
  have C3 := Lib.hid (fun w => compare_any l1 l2 w)
  have E := Lib.hid (show firstNZ [cmpZ t1 t2, orderL ps qs, txtC l1 l2] = entC ⟨t1, ps, l1⟩ ⟨t2, qs, l2⟩ from by
    unfold entC firstNZ firstNZ firstNZ firstNZ
    by_cases h0 : txtC l1 l2 = 0
    · rw [if_pos h0, h0]
    · rw [if_neg h0])
  have w1 := cmpZ_vals t1 t2
  have w2 := orderL_vals ps qs
  have w3 := txtC_vals l1 l2
  obtain ⟨x, hx⟩ : ∃ x, cmpZ t1 t2 = x := ⟨_, rfl⟩
  obtain ⟨y, hy⟩ : ∃ x, orderL ps qs = x := ⟨_, rfl⟩
  obtain ⟨z, hz⟩ : ∃ x, txtC l1 l2 = x := ⟨_, rfl⟩
  rw [hx] at C1 w1 E
  rw [hy] at C2 w2 E
  rw [hz] at C3 w3 E
  have hwx : [x, y, z].all (fun z => (Lit.int .i64 z).wf) = true := by
    rcases w1 with rfl | rfl | rfl <;> rcases w2 with rfl | rfl | rfl <;> rcases w3 with rfl | rfl | rfl <;> rfl
  have OR := (fun w g (hg : g = w.heap.size) => orN_any [x, y, z] 3 (some ⟨g, 0, none⟩) 3 (by decide) (w.alloc (.cells #[.int .i64 x, .int .i64 y, .int .i64 z] 3)) (ints_lit w 3 [x, y, z] hwx g hg))
  obtain ⟨T, hT⟩ : ∃ T, firstNZ [x, y, z] = T := ⟨_, rfl⟩
  simp only [hT] at OR
  rw [hT] at E
  replace OR := Lib.hid OR
  have HTW := Lib.hid TW
  clear TW hx hy hz w1 w2 w3 hwx hT h1 h2
  go_enter Tryz.func53, Tryz.ntmps53
  go_wp2
  obtain ⟨w1, hw1⟩ : ∃ w, (W.alloc (.cells #[.int .i64 t1, .slice A n c, .string l1] 47)).alloc (.cells #[.int .i64 t2, .slice B m d, .string l2] 47) = w := ⟨_, rfl⟩
  have hTW := HTW.out
  rw [hw1] at hTW ⊢
  clear hw1 HTW
  have k10 : w1.cell? ⟨W.heap.size, 0, none⟩ = some (.int .i64 t1) := (hTW.cells 0).1
  have k11 : w1.cell? ⟨W.heap.size, 1, none⟩ = some (.slice A n c) := (hTW.cells 1).1
  have k12 : w1.cell? ⟨W.heap.size, 2, none⟩ = some (.string l1) := (hTW.cells 2).1
  have k20 : w1.cell? ⟨W.heap.size + 1, 0, none⟩ = some (.int .i64 t2) := (hTW.cells 0).2
  have k21 : w1.cell? ⟨W.heap.size + 1, 1, none⟩ = some (.slice B m d) := (hTW.cells 1).2
  have k22 : w1.cell? ⟨W.heap.size + 1, 2, none⟩ = some (.string l2) := (hTW.cells 2).2
  have S0 : Below W.heap.size W w1 := hTW.below
  have HS := Lib.hid (fun (w w' : World) (hS : Below W.heap.size W w ∧ w.cell? ⟨W.heap.size, 0, none⟩ = some (.int .i64 t1) ∧ w.cell? ⟨W.heap.size, 1, none⟩ = some (.slice A n c) ∧ w.cell? ⟨W.heap.size, 2, none⟩ = some (.string l1) ∧ w.cell? ⟨W.heap.size + 1, 0, none⟩ = some (.int .i64 t2) ∧ w.cell? ⟨W.heap.size + 1, 1, none⟩ = some (.slice B m d) ∧ w.cell? ⟨W.heap.size + 1, 2, none⟩ = some (.string l2)) (hx : Below w.heap.size w w') =>
    show Below W.heap.size W w' ∧ w'.cell? ⟨W.heap.size, 0, none⟩ = some (.int .i64 t1) ∧ w'.cell? ⟨W.heap.size, 1, none⟩ = some (.slice A n c) ∧ w'.cell? ⟨W.heap.size, 2, none⟩ = some (.string l1) ∧ w'.cell? ⟨W.heap.size + 1, 0, none⟩ = some (.int .i64 t2) ∧ w'.cell? ⟨W.heap.size + 1, 1, none⟩ = some (.slice B m d) ∧ w'.cell? ⟨W.heap.size + 1, 2, none⟩ = some (.string l2) from by
      obtain ⟨hb, c1, c2, c3, c4, c5, c6⟩ := hS
      have z1 := block_lt_of_cell c1
      have z2 := block_lt_of_cell c4
      exact ⟨hop hb (Nat.le_refl _) hx, (hx.cell (p := ⟨W.heap.size, 0, none⟩) z1).trans c1, (hx.cell (p := ⟨W.heap.size, 1, none⟩) z1).trans c2, (hx.cell (p := ⟨W.heap.size, 2, none⟩) z1).trans c3, (hx.cell (p := ⟨W.heap.size + 1, 0, none⟩) z2).trans c4, (hx.cell (p := ⟨W.heap.size + 1, 1, none⟩) z2).trans c5, (hx.cell (p := ⟨W.heap.size + 1, 2, none⟩) z2).trans c6⟩)
  have hS0 := HS.out w1 w1.drew ⟨S0, k10, k11, k12, k20, k21, k22⟩ ((Below.refl _ _).drew)
  clear hTW
  go_region_held3 (fun w' => Below W.heap.size W w' ∧ w'.cell? ⟨W.heap.size, 0, none⟩ = some (.int .i64 t1) ∧ w'.cell? ⟨W.heap.size, 1, none⟩ = some (.slice A n c) ∧ w'.cell? ⟨W.heap.size, 2, none⟩ = some (.string l1) ∧ w'.cell? ⟨W.heap.size + 1, 0, none⟩ = some (.int .i64 t2) ∧ w'.cell? ⟨W.heap.size + 1, 1, none⟩ = some (.slice B m d) ∧ w'.cell? ⟨W.heap.size + 1, 2, none⟩ = some (.string l2))
    (first | assumption | exact ⟨by assumption, by assumption, by assumption, by assumption, by assumption, by assumption, by assumption⟩ | exact HS.out _ _ (by assumption) (by assumption) | exact HS.out _ _ (by assumption) ((Below.refl _ _).drew) | exact HS.out _ _ (by assumption) ((Below.refl _ _).alloc (Nat.le_refl _) _))
    (first | (go_at_call 83; refine (C1.out _).mono ?_; rintro e w3 ⟨rfl, rfl⟩) | (go_at_call 85; refine (C3.out _).mono ?_; rintro e w3 ⟨rfl, rfl⟩) | (go_at_call 84; refine (C2.out _ (by go_split_ands; assumption)).mono ?_; rintro e w3 ⟨rfl, hb3⟩) | (go_at_call 82; refine (OR.out _ _ ?_).mono ?_; rfl; rintro e w3 ⟨rfl, rfl⟩))
  all_goals
    go_wp2
    go_ret
    exact ⟨ret_int E.out, by go_split_ands; assumption⟩
structure EntX where
  ts : Int
  A : Option Addr
  n : Nat
  c : Nat
  ls : List PairB
  ln : ByteArray
def EntX.b (x : EntX) : EntB := ⟨x.ts, x.ls, x.ln⟩
def EntX.V (x : EntX) : List Value := [.int .i64 x.ts, .slice x.A x.n x.c, .string x.ln]
def EntX.val (x : EntX) : Value := .agg #[.int .i64 x.ts, .slice x.A x.n x.c, .string x.ln]
def xnil : EntX := ⟨0, none, 0, 0, [], .empty⟩
theorem entV_len (x : EntX) : x.V.length = 3 := rfl
theorem entV_one (x : EntX) : ∀ v ∈ x.V, v.oneCell' = true := by
  intro v hv
  simp only [EntX.V, List.mem_cons, List.mem_nil_iff, or_false] at hv
  rcases hv with rfl | rfl | rfl <;> rfl
def SetAt (B : Nat) (w : World) (A : Option Addr) (n : Nat) (ls : List PairB) : Prop :=
  Pairs w A n ls ∧ (0 < n → ∀ a, A = some a → a.block < B ∨ ∃ cur, w.heap[a.block]? = some (.cells cur 165 (0, 0)))
theorem SetAt.below {B : Nat} {w w' : World} {A : Option Addr} {n : Nat} {ls : List PairB} (h : SetAt B w A n ls) (hb : Below w.heap.size w w') : SetAt B w' A n ls :=
  ⟨h.1.below hb, fun hn a ha => by
    rcases h.2 hn a ha with h1 | ⟨cur, h1⟩
    · exact .inl h1
    · exact .inr ⟨cur, (hb.block _ (lt_of_block h1)).trans h1⟩⟩
theorem SetAt.mono {B B' : Nat} {w : World} {A : Option Addr} {n : Nat} {ls : List PairB} (h : SetAt B w A n ls) (hB : B ≤ B') : SetAt B' w A n ls :=
  ⟨h.1, fun hn a ha => (h.2 hn a ha).imp_left (fun h => Nat.lt_of_lt_of_le h hB)⟩
theorem SetAt.grown {B : Nat} {w w' : World} {A : Option Addr} {n : Nat} {ls : List PairB} {r : Option Nat} (h : SetAt B w A n ls) (hg : w.grownBy w' r)
    (hr : ∀ b, r = some b → B ≤ b ∧ ∃ cur t, t ≠ 165 ∧ w.heap[b]? = some (.cells cur t (0, 0))) : SetAt B w' A n ls := by
  have key : 0 < n → ∀ a, A = some a → a.block < w.heap.size → w'.heap[a.block]? = w.heap[a.block]? := fun hn a ha hlt => by
    refine hg.block _ hlt fun e => ?_
    obtain ⟨h1, cur, t, ht, h2⟩ := hr _ e.symm
    rcases h.2 hn a ha with h3 | ⟨cur', h3⟩
    · omega
    · rw [h2] at h3
      injection h3 with h3
      injection h3 with _ h3 _
      exact ht h3
  refine ⟨⟨h.1.1, fun hn => ?_⟩, fun hn a ha => ?_⟩
  · obtain ⟨b, off, e, hlt, hc⟩ := h.1.2 hn
    have hk := key hn _ e hlt
    have hcell : ∀ i, w'.cell? ⟨b, i, none⟩ = w.cell? ⟨b, i, none⟩ := fun i => by
      unfold World.cell?
      rw [show w'.heap[b]? = w.heap[b]? from hk]
    exact ⟨b, off, e, Nat.lt_of_lt_of_le hlt hg.size, fun j hj => ⟨(hcell _).trans (hc j hj).1, (hcell _).trans (hc j hj).2⟩⟩
  · obtain ⟨b, off, e, hlt, hc⟩ := h.1.2 hn
    rcases h.2 hn a ha with h1 | ⟨cur, h1⟩
    · exact .inl h1
    · exact .inr ⟨cur, (key hn a ha (lt_of_block h1)).trans h1⟩
structure Good (B : Nat) (w : World) (x : EntX) : Prop where
  set : SetAt B w x.A x.n x.ls
  len : x.n ≤ 9223372036854775807
  lo : -9223372036854775808 ≤ x.ts
  hi : x.ts ≤ 9223372036854775807
theorem Good.below {B : Nat} {w w' : World} {x : EntX} (h : Good B w x) (hb : Below w.heap.size w w') : Good B w' x := ⟨h.set.below hb, h.len, h.lo, h.hi⟩
theorem Good.mono {B B' : Nat} {w : World} {x : EntX} (h : Good B w x) (hB : B ≤ B') : Good B' w x := ⟨h.set.mono hB, h.len, h.lo, h.hi⟩
theorem Good.grown {B : Nat} {w w' : World} {x : EntX} {r : Option Nat} (h : Good B w x) (hg : w.grownBy w' r)
    (hr : ∀ b, r = some b → B ≤ b ∧ ∃ cur t, t ≠ 165 ∧ w.heap[b]? = some (.cells cur t (0, 0))) : Good B w' x := ⟨h.set.grown hg hr, h.len, h.lo, h.hi⟩
def Ents (B : Nat) (w : World) (A : Option Addr) (n : Nat) (l : List EntX) : Prop := RowR EntX.V 3 w A n l ∧ ∀ x ∈ l, Good B w x
theorem Ents.below {B : Nat} {w w' : World} {A : Option Addr} {n : Nat} {l : List EntX} (h : Ents B w A n l) (hb : Below w.heap.size w w') : Ents B w' A n l := ⟨h.1.below hb, fun x hx => (h.2 x hx).below hb⟩
theorem Ents.mono {B B' : Nat} {w : World} {A : Option Addr} {n : Nat} {l : List EntX} (h : Ents B w A n l) (hB : B ≤ B') : Ents B' w A n l := ⟨h.1, fun x hx => (h.2 x hx).mono hB⟩
theorem Ents.none (B : Nat) (w : World) : Ents B w none 0 [] := ⟨RowR.none w, fun x hx => by cases hx⟩
theorem Ents.at_ {B : Nat} {w : World} {A : Option Addr} {n : Nat} {l : List EntX} (h : Ents B w A n l) (hn : 0 < n) : ∃ b off, A = some ⟨b, off, Option.none⟩ ∧ b < w.heap.size ∧ ∀ j, j < n →
    w.cell? ⟨b, off + j * 3, Option.none⟩ = some (.int .i64 (l.getD j xnil).ts) ∧ w.cell? ⟨b, off + j * 3 + 1, Option.none⟩ = some (.slice (l.getD j xnil).A (l.getD j xnil).n (l.getD j xnil).c) ∧ w.cell? ⟨b, off + j * 3 + 2, Option.none⟩ = some (.string (l.getD j xnil).ln) ∧ Good B w (l.getD j xnil) := by
  obtain ⟨b, off, e, hlt, hc⟩ := h.1.2 hn
  refine ⟨b, off, e, hlt, fun j hj => ?_⟩
  have hg : l[j]? = some (l.getD j xnil) := by
    have := h.1.1
    rw [List.getD_eq_getElem?_getD, List.getElem?_eq_getElem (by omega)]
    rfl
  exact ⟨hc j 0 _ hg (by decide), hc j 1 _ hg (by decide), hc j 2 _ hg (by decide), h.2 _ (List.mem_of_getElem? hg)⟩
def OwnE (B : Nat) (w : World) (B' : Nat) (v : Value) (l : List EntX) : Prop := OwnR EntX.V 3 w B' 47 v l ∧ ∀ x ∈ l, Good B w x
theorem OwnE.nil (B : Nat) (w : World) (B' : Nat) : OwnE B w B' (.slice none 0 0) [] := ⟨OwnR.nil _ _ _, fun x hx => by cases hx⟩
theorem OwnE.below {B B' : Nat} {w w' : World} {v : Value} {l : List EntX} (h : OwnE B w B' v l) (hb : Below w.heap.size w w') : OwnE B w' B' v l := ⟨OwnR.below h.1 hb, fun x hx => (h.2 x hx).below hb⟩
theorem OwnE.ents {B B' : Nat} {w : World} {v : Value} {l : List EntX} (h : OwnE B w B' v l) : ∃ A cap, v = .slice A l.length cap ∧ l.length ≤ cap ∧ (A = none → l.length = 0 ∧ cap = 0) ∧ Ents B w A l.length l := by
  obtain ⟨A, cap, h1, h2, h3, h4⟩ := OwnR.open entV_len h.1
  exact ⟨A, cap, h1, h2, h3, h4, h.2⟩
theorem own_row_type {w : World} {B' e s : Nat} {v : Value} {n : Nat} {xs : List Value} (h : w.ownsRow B' e s v n xs) (b : Nat) (hb : v.ownBlock = some b) : B' ≤ b ∧ ∃ cur, w.heap[b]? = some (.cells cur e (0, 0)) := by
  rcases h.2 with ⟨rfl, _⟩ | ⟨g, cap, cur, rfl, hg, hh, _⟩
  · cases hb
  · injection hb with hb
    subst hb
    exact ⟨hg, cur, hh⟩
theorem ent_not_pair : 47 ≠ 165 := by decide
theorem Good.kept {B B' : Nat} {w w' : World} {x : EntX} {v : Value} {l : List EntX} (h : Good B w x) (ho : OwnR EntX.V 3 w B' 47 v l) (hB : B ≤ B') (hg : w.grownBy w' v.ownBlock) : Good B w' x :=
  h.grown hg fun b hb => by
    obtain ⟨h1, cur, h2⟩ := own_row_type ho b hb
    exact ⟨Nat.le_trans hB h1, cur, _, ent_not_pair, h2⟩
theorem OwnE.snoc {B B' : Nat} {w w' : World} {v v' : Value} {l : List EntX} {x : EntX} (h : OwnE B w B' v l) (hx : Good B w x) (hB : B ≤ B') (hg : w.grownBy w' v.ownBlock) (ho : w'.ownsRow B' 47 3 v' (l.length + 1) (rowV EntX.V l ++ x.V)) : OwnE B w' B' v' (l ++ [x]) :=
  ⟨OwnR.snoc ho, fun y hy => by
    rcases List.mem_append.1 hy with hy | hy
    · exact (h.2 y hy).kept h.1 hB hg
    · rw [List.mem_singleton.1 hy]; exact hx.kept h.1 hB hg⟩
theorem OwnE.snocs {B B' : Nat} {w w' : World} {v v' : Value} {l m : List EntX} (h : OwnE B w B' v l) (hx : ∀ x ∈ m, Good B w x) (hB : B ≤ B') (hg : w.grownBy w' v.ownBlock) (ho : w'.ownsRow B' 47 3 v' (l.length + m.length) (rowV EntX.V l ++ rowV EntX.V m)) : OwnE B w' B' v' (l ++ m) :=
  ⟨OwnR.snocs ho, fun y hy => by
    rcases List.mem_append.1 hy with hy | hy
    · exact (h.2 y hy).kept h.1 hB hg
    · exact (hx y hy).kept h.1 hB hg⟩
theorem OwnE.alloc {B B' : Nat} {w : World} {v : Value} {l : List EntX} (h : OwnE B w B' v l) (o : Obj) : OwnE B (w.alloc o) B' v l := h.below ((Below.refl _ _).alloc (Nat.le_refl _) o)
theorem OwnE.drewN {B B' : Nat} {w : World} {v : Value} {l : List EntX} (h : OwnE B w B' v l) (q : Nat) : OwnE B (w.drewN q) B' v l := h.below (below_drewN (Below.refl _ _) q)
theorem OwnE.mono {B B1 B' B1' : Nat} {w : World} {v : Value} {l : List EntX} (h : OwnE B w B' v l) (hB : B ≤ B1) (hB' : B1' ≤ B') : OwnE B1 w B1' v l := ⟨OwnR.mono h.1 hB', fun x hx => (h.2 x hx).mono hB⟩
set_option maxRecDepth 100000 in
set_option maxHeartbeats 1600000 in
theorem entAhead_any (t1 t2 : Int) (A B : Option Addr) (n m c d : Nat) (ps qs : List PairB) (l1 l2 : ByteArray) (asc : Bool) (hn : n ≤ 9223372036854775807) (hm : m ≤ 9223372036854775807) (W : World) (h1 : Pairs W A n ps) (h2 : Pairs W B m qs) :
    Calls Tryz.prog 25 #[.agg #[.int .i64 t1, .slice A n c, .string l1], .agg #[.int .i64 t2, .slice B m d, .string l2], .bool asc] W fun e w' => e = .returned (.bool (aheadB ⟨t1, ps, l1⟩ ⟨t2, qs, l2⟩ asc)) ∧ Below W.heap.size W w' := by
  have TW := Two.new W #[.int .i64 t1, .slice A n c, .string l1] #[.int .i64 t2, .slice B m d, .string l2]
  have OR := fun w h => entOrder_any t1 t2 A B n m c d ps qs l1 l2 hn hm w (h1.below h) (h2.below h)
  obtain ⟨T, hT⟩ : ∃ T, aheadB ⟨t1, ps, l1⟩ ⟨t2, qs, l2⟩ asc = T := ⟨_, rfl⟩
  rw [hT]
  have hT2 : (if asc then decide (entC ⟨t1, ps, l1⟩ ⟨t2, qs, l2⟩ < 0) else decide (0 < entC ⟨t1, ps, l1⟩ ⟨t2, qs, l2⟩)) = T := hT
  obtain ⟨x, hx⟩ : ∃ x, entC ⟨t1, ps, l1⟩ ⟨t2, qs, l2⟩ = x := ⟨_, rfl⟩
  simp only [hx] at OR
  rw [hx] at hT2
  replace OR := Lib.hid OR
  have HTW := Lib.hid TW
  clear TW h1 h2 hT hx
  cases asc with
  | false =>
    have E := Lib.hid (show decide (0 < x) = T from hT2)
    clear hT2
    go_enter Tryz.func25, Tryz.ntmps25
    go_wp2_with fail
    obtain ⟨w1, hw1⟩ : ∃ w, (W.alloc (.cells #[.int .i64 t1, .slice A n c, .string l1] 47)).alloc (.cells #[.int .i64 t2, .slice B m d, .string l2] 47) = w := ⟨_, rfl⟩
    have hTW := HTW.out
    rw [hw1] at hTW ⊢
    clear hw1 HTW
    refine (OR.out _ hTW.below).mono ?_
    rintro e w2 ⟨rfl, hx⟩
    have HB := Lib.hid (hTW.next hx).below
    clear hx hTW OR
    go_wp2
    go_ret
    exact ⟨ret_bool E.out, HB.out⟩
  | true =>
    have E := Lib.hid (show decide (x < 0) = T from hT2)
    clear hT2
    go_enter Tryz.func25, Tryz.ntmps25
    go_wp2_with fail
    obtain ⟨w1, hw1⟩ : ∃ w, (W.alloc (.cells #[.int .i64 t1, .slice A n c, .string l1] 47)).alloc (.cells #[.int .i64 t2, .slice B m d, .string l2] 47) = w := ⟨_, rfl⟩
    have hTW := HTW.out
    rw [hw1] at hTW ⊢
    clear hw1 HTW
    refine (OR.out _ hTW.below).mono ?_
    rintro e w2 ⟨rfl, hx⟩
    have HB := Lib.hid (hTW.next hx).below
    clear hx hTW OR
    go_wp2
    go_ret
    exact ⟨ret_bool E.out, HB.out⟩
def sortedGo (asc : Bool) : EntX → List EntX → Bool
  | _, [] => true
  | x, y :: l => if aheadB y.b x.b asc = true then false else sortedGo asc y l
def sortedE (asc : Bool) : List EntX → Bool
  | [] => true
  | x :: l => sortedGo asc x l
set_option maxRecDepth 100000 in
set_option maxHeartbeats 1600000 in
theorem entSorted_any (asc : Bool) (A : Option Addr) (n c : Nat) (l : List EntX) (hn : n ≤ 9223372036854775807) (B : Nat) (W : World) (h1 : Ents B W A n l) :
    Calls Tryz.prog 67 #[.bool asc, .slice A n c] W fun e w' => e = .returned (.bool (sortedE asc l)) ∧ Below W.heap.size W w' := by
  have h0 : W.heap.size ≤ W.heap.size := Nat.le_refl _
  obtain ⟨T, hT⟩ : ∃ T, sortedE asc l = T := ⟨_, rfl⟩
  rw [hT]
  have HT := Lib.hid (show ∀ j, 1 ≤ j → j = 1 → (n = 0 → true = T) ∧ (0 < n → sortedGo asc (l.getD (j - 1) xnil) (l.drop j) = T) from fun j hj1 hj2 => by
    have hl := h1.1.1
    subst hj2
    refine ⟨fun h => ?_, fun h => ?_⟩
    · have : l = [] := List.eq_nil_of_length_eq_zero (by omega)
      rw [← hT, this]; rfl
    · rw [← hT]
      cases l with
      | nil => simp at hl; omega
      | cons x l => rfl)
  have H1 := Lib.hid h1
  have HL := Lib.hid h1.1.1
  clear h1 hT
  go_enter Tryz.func67, Tryz.ntmps67
  go_wp2
  go_loopw [5] (fun iv wr => ∃ j : Nat, 1 ≤ j ∧ (j ≤ n ∨ (n = 0 ∧ j = 1)) ∧ iv = .int .i64 j ∧ Hid ((n = 0 → true = T) ∧ (0 < n → sortedGo asc (l.getD (j - 1) xnil) (l.drop j) = T)) ∧ Below W.heap.size W wr) (fun iv _ => n - (intOf iv).toNat)
  case atStart => exact ⟨1, Nat.le_refl _, by omega, rfl, Lib.hid (HT.out 1 (Nat.le_refl _) rfl), Below.refl _ _⟩
  case round =>
    obtain ⟨j, hj1, hjn, rfl, HJ, hb⟩ := hrel
    have hsz := hb.size
    by_cases hj : j < n
    · have hjI : (j : Int) < (n : Int) := by omega
      obtain ⟨i, hij⟩ : ∃ i, j = i + 1 := ⟨j - 1, by omega⟩
      have hwp : IntKind.i64.wrap ((j : Int) - 1) = (i : Int) := by rw [IntKind.wrap_i64]; omega
      have hiI : (i : Int) < (n : Int) := by omega
      obtain ⟨b1, o1, rfl, hlt1, hc⟩ := (H1.out.below hb).at_ (by omega)
      obtain ⟨c1, c2, c3, g1⟩ := hc i (by omega)
      obtain ⟨d1, d2, d3, g2⟩ := hc j hj
      have hd : l.drop j = l.getD j xnil :: l.drop (j + 1) := by
        have := HL.out
        rw [List.drop_eq_getElem_cons (by omega), List.getD_eq_getElem?_getD, List.getElem?_eq_getElem (by omega)]
        rfl
      have hs := HJ.out.2 (by omega)
      rw [hd, show j - 1 = i by omega, sortedGo] at hs
      have hnext : j + 1 - 1 = j := by omega
      obtain ⟨x, hx⟩ : ∃ x, l.getD i xnil = x := ⟨_, rfl⟩
      obtain ⟨y, hy⟩ : ∃ x, l.getD j xnil = x := ⟨_, rfl⟩
      rw [hx] at c1 c2 c3 g1 hs
      rw [hy] at d1 d2 d3 g2 hs
      have HN := Lib.hid (show ∀ z, sortedGo asc y (l.drop (j + 1)) = z → (n = 0 → true = z) ∧ (0 < n → sortedGo asc (l.getD (j + 1 - 1) xnil) (l.drop (j + 1)) = z) from fun z hz => ⟨fun h => by omega, fun _ => by rw [hnext, hy]; exact hz⟩)
      obtain ⟨xt, xA, xn, xc, xl, xs⟩ := x
      obtain ⟨yt, yA, yn, yc, yl, ys⟩ := y
      dsimp only at c1 c2 c3 d1 d2 d3
      have AH := fun w h => entAhead_any yt xt yA xA yn xn yc xc yl xl ys xs asc g2.len g1.len w (g2.set.1.below h) (g1.set.1.below h)
      have hab : aheadB (EntX.b ⟨yt, yA, yn, yc, yl, ys⟩) (EntX.b ⟨xt, xA, xn, xc, xl, xs⟩) asc = aheadB ⟨yt, yl, ys⟩ ⟨xt, xl, xs⟩ asc := rfl
      rw [hab] at hs
      obtain ⟨z, hz⟩ : ∃ x, aheadB ⟨yt, yl, ys⟩ ⟨xt, xl, xs⟩ asc = x := ⟨_, rfl⟩
      simp only [hz] at AH
      rw [hz] at hs
      have HSS := Lib.hid hs
      replace AH := Lib.hid AH
      have HIJ := Lib.hid hij
      clear hc hd hx hy hab hz hs g1 g2 hnext hij hj1 hjn
      have S0 : Below wr.heap.size wr wr.drew := (Below.refl _ _).drew
      go_wp2
      go_region_held3 (fun w' => Below wr.heap.size wr w' ∧ w'.cell? ⟨b1, o1 + i * 3, none⟩ = some (.int .i64 xt) ∧ w'.cell? ⟨b1, o1 + i * 3 + 1, none⟩ = some (.slice xA xn xc) ∧ w'.cell? ⟨b1, o1 + i * 3 + 2, none⟩ = some (.string xs) ∧ w'.cell? ⟨b1, o1 + j * 3, none⟩ = some (.int .i64 yt) ∧ w'.cell? ⟨b1, o1 + j * 3 + 1, none⟩ = some (.slice yA yn yc) ∧ w'.cell? ⟨b1, o1 + j * 3 + 2, none⟩ = some (.string ys))
        (first | assumption | exact ⟨by assumption, by assumption, by assumption, by assumption, by assumption, by assumption, by assumption⟩ | exact ⟨by assumption, (hb3.cell (p := ⟨_, _, none⟩) hlt1).trans c1, (hb3.cell (p := ⟨_, _, none⟩) hlt1).trans c2, (hb3.cell (p := ⟨_, _, none⟩) hlt1).trans c3, (hb3.cell (p := ⟨_, _, none⟩) hlt1).trans d1, (hb3.cell (p := ⟨_, _, none⟩) hlt1).trans d2, (hb3.cell (p := ⟨_, _, none⟩) hlt1).trans d3⟩)
        (first | (go_at_call 25; refine (AH.out _ S0).mono ?_; rintro e w3 ⟨rfl, hb3⟩; replace hb3 : Below wr.heap.size wr w3 := ⟨hb3.os, hb3.tape, hb3.output, hb3.size, hb3.block⟩))
      all_goals
        have hb4 := hop hb h0 hb3
        clear hb3
        cases z with
        | false =>
          have HSN := Lib.hid (HN.out T (by have := HSS.out; simpa using this))
          go_wp2
          go_round
          case rel => exact ⟨j + 1, by omega, by omega, by go_num, HSN, hb4⟩
          case measure => simp [intOf]; omega
        | true =>
          have E := Lib.hid (show false = T from by have := HSS.out; simpa using this)
          go_wp2
          go_ret
          exact ⟨ret_bool E.out, hb4⟩
    · have E := Lib.hid (show true = T from by
        rcases Nat.eq_zero_or_pos n with h | h
        · exact HJ.out.1 h
        · have := HJ.out.2 h
          rw [List.drop_of_length_le (by have := HL.out; omega)] at this
          exact this)
      go_wp2
      go_ret
      exact ⟨ret_bool E.out, hb⟩
def leB (a b : EntB) : Prop := entC a b ≤ 0
theorem leB_flip {a b : EntB} : leB a b ↔ ¬ entC b a < 0 := by
  have := entC_ord.anti a b
  unfold leB
  omega
theorem leB_both {a b : EntB} (h1 : leB a b) (h2 : leB b a) : a = b := by
  have := entC_ord.anti a b
  unfold leB at h1 h2
  exact entC_zero.1 (by omega)
def SortedP (l : List EntX) : Prop := l.Pairwise fun x y => leB x.b y.b
theorem ahead_true {a b : EntB} : aheadB a b true = true ↔ entC a b < 0 := by unfold aheadB; rw [if_pos rfl, decide_eq_true_iff]
theorem ahead_false {a b : EntB} : aheadB a b false = true ↔ 0 < entC a b := by unfold aheadB; rw [if_neg (by decide), decide_eq_true_iff]
theorem rises (l : List EntX) (h : SortedP l) : sortedE true l = true := by
  have key : ∀ (l : List EntX) (x : EntX), SortedP (x :: l) → sortedGo true x l = true := by
    intro l
    induction l with
    | nil => intro x _; rfl
    | cons y l ih =>
      intro x h
      unfold SortedP at h
      rw [List.pairwise_cons] at h
      rw [sortedGo, if_neg, ih y h.2]
      rw [ahead_true]
      exact leB_flip.1 (h.1 y List.mem_cons_self)
  cases l with
  | nil => rfl
  | cons x l => exact key l x h
theorem falls (l : List EntX) (h : l.Pairwise fun x y => leB y.b x.b) : sortedE false l = true := by
  have key : ∀ (l : List EntX) (x : EntX), (x :: l).Pairwise (fun x y => leB y.b x.b) → sortedGo false x l = true := by
    intro l
    induction l with
    | nil => intro x _; rfl
    | cons y l ih =>
      intro x h
      rw [List.pairwise_cons] at h
      rw [sortedGo, if_neg, ih y h.2]
      rw [ahead_false]
      have := h.1 y List.mem_cons_self
      unfold leB at this
      omega
  cases l with
  | nil => rfl
  | cons x l => exact key l x h
structure AskB where
  lo : Int
  hi : Int
  asc : Bool
  lim : Int
  has : Bool
  af : EntB
structure RepB where
  fail : Bool
  most : Int
def RepB.V (r : RepB) : List Value := [.bool r.fail, .int .i64 r.most]
def askR (a : AskB) : Bool := decide (a.lo < a.hi) && decide (1 ≤ a.lim)
def meetsB (a : AskB) (e : EntB) : Bool := decide (a.lo ≤ e.ts) && (decide (e.ts < a.hi) && (!a.has || aheadB a.af e a.asc))
def dirL {α : Type} (asc : Bool) (l : List α) : List α := if asc then l else l.reverse
theorem dirL_len {α : Type} (asc : Bool) (l : List α) : (dirL asc l).length = l.length := by unfold dirL; split <;> simp
theorem dirL_mem {α : Type} {asc : Bool} {l : List α} {x : α} : x ∈ dirL asc l ↔ x ∈ l := by unfold dirL; split <;> simp
theorem dirL_at {α : Type} (asc : Bool) (l : List α) (j : Nat) (hj : j < l.length) : (dirL asc l)[j]? = l[if asc then j else l.length - 1 - j]? := by
  unfold dirL
  split
  · rfl
  · rw [List.getElem?_reverse hj]
def replyAt (S : List RepB) (k : Nat) : RepB := S.getD k ⟨false, 0⟩
def mostOf (lim : Int) (r : RepB) : Int := if 1 ≤ r.most then min lim r.most else lim
def metL (T : List PairB → Bool) (a : AskB) (L : List EntB) : List EntB := (dirL a.asc L).filter fun e => meetsB a e && T e.ls
def tellL (T : List PairB → Bool) (a : AskB) (m : Int) (L : List EntB) : List EntB := (metL T a L).take m.toNat
def moreL (T : List PairB → Bool) (a : AskB) (m : Int) (L : List EntB) : Bool := decide (m.toNat < (metL T a L).length)
def newE (es : List EntB) : List EntB := es.filter rightE
theorem newE_next (es : List EntB) (j : Nat) (e : EntB) (h : es[j]? = some e) : newE (es.take (j + 1)) = newE (es.take j) ++ (if rightE e then [e] else []) := by
  unfold newE
  rw [List.take_add_one, h, List.filter_append]
  congr 1
  cases hr : rightE e <;> simp [List.filter, hr]
theorem newE_len (es : List EntB) (j : Nat) : (newE (es.take j)).length ≤ j := by
  unfold newE
  have h1 := List.length_filter_le rightE (es.take j)
  rw [List.length_take] at h1
  omega
theorem mostOf_pos {lim : Int} {r : RepB} (h : 1 ≤ lim) : 1 ≤ mostOf lim r := by unfold mostOf; split <;> omega
theorem mostOf_hi {lim : Int} {r : RepB} : mostOf lim r ≤ lim := by unfold mostOf; split <;> omega
theorem met_next (p : EntB → Bool) (D : List EntB) (j : Nat) (e : EntB) (h : D[j]? = some e) : (D.take (j + 1)).filter p = (D.take j).filter p ++ (if p e then [e] else []) := by
  rw [List.take_add_one, h, List.filter_append]
  congr 1
  cases hr : p e <;> simp [List.filter, hr]
theorem met_split (p : EntB → Bool) (D : List EntB) (j : Nat) (e : EntB) (h : D[j]? = some e) : D.filter p = (D.take j).filter p ++ ((if p e then [e] else []) ++ (D.drop (j + 1)).filter p) := by
  have hj : j < D.length := by
    rcases Nat.lt_or_ge j D.length with h1 | h1
    · exact h1
    · rw [List.getElem?_eq_none h1] at h; cases h
  have e1 : D = D.take j ++ (e :: D.drop (j + 1)) := by
    have h2 : D.drop j = e :: D.drop (j + 1) := by
      rw [List.drop_eq_getElem_cons hj]
      congr 1
      exact Option.some.inj ((List.getElem?_eq_getElem hj).symm.trans h)
    rw [← h2, List.take_append_drop]
  have h3 : D.filter p = (D.take j ++ (e :: D.drop (j + 1))).filter p := by rw [← e1]
  rw [h3, List.filter_append]
  congr 1
  cases hr : p e <;> simp [List.filter, hr]
theorem met_full (p : EntB → Bool) (D : List EntB) (j m : Nat) (e : EntB) (h : D[j]? = some e) (hp : p e = true) (hm : ((D.take j).filter p).length = m) : (D.filter p).take m = (D.take j).filter p ∧ m < (D.filter p).length := by
  rw [met_split p D j e h, hp, if_pos rfl]
  refine ⟨?_, ?_⟩
  · rw [List.take_append_of_le_length (by omega), List.take_of_length_le (by omega)]
  · simp only [List.length_append, List.length_cons, List.length_nil]
    omega
theorem met_end (p : EntB → Bool) (D : List EntB) (m : Nat) (hm : ((D.take D.length).filter p).length ≤ m) : (D.filter p).take m = (D.take D.length).filter p ∧ ¬ m < (D.filter p).length := by
  rw [List.take_length] at hm ⊢
  exact ⟨List.take_of_length_le hm, by omega⟩
def inT (lo hi : Int) (e : EntB) : Bool := decide (lo ≤ e.ts) && decide (e.ts < hi)
theorem meets_in (lo hi : Int) (asc : Bool) (lim : Int) (af : EntB) (e : EntB) : (meetsB ⟨lo, hi, asc, lim, false, af⟩ e && (fun _ : List PairB => true) e.ls) = inT lo hi e := by
  unfold meetsB inT
  simp
theorem met_in (lo hi : Int) (asc : Bool) (lim : Int) (af : EntB) (L : List EntB) : metL (fun _ => true) ⟨lo, hi, asc, lim, false, af⟩ L = (dirL asc L).filter (inT lo hi) := by
  unfold metL
  congr 1
  funext e
  exact meets_in lo hi asc lim af e
end Go.Proofs.YtdaainifkldcpaaGreatDoor
