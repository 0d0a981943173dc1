-- shaken
import Derived.Test.YtbkpoimaienhpaaGreatDoorGet
import Derived.Lib.Join
import Derived.Lib.Index
import Derived.Shelf.Vars
import Derived.Test.YtbkpoimaienhpaaGreatDoorNfaOf
import Derived.Test.YtbkpoimaienhpaaGreatDoorLabMath
import Derived.Test.YtbkpoimaienhpaaGreatDoorUnitTell
namespace Go.Proofs.YtbkpoimaienhpaaGreatDoor
open Go.RowKit
set_option linter.unusedVariables false
set_option linter.unusedSimpArgs false
def eqB (x s : ByteArray) : Bool := x.toList == s.toList
theorem eqB_iff (x s : ByteArray) : eqB x s = true ↔ x = s := by
  unfold eqB
  rw [beq_iff_eq, Lib.toList_data, Lib.toList_data]
  constructor
  · intro h; exact ByteArray.ext (Array.toList_inj.1 h)
  · rintro rfl; rfl
def amongI (s : ByteArray) (ss : List ByteArray) : Int :=
  match ss.findIdx? (fun x => eqB x s) with
  | some i => (i : Int)
  | none => -1
theorem among_at (s : ByteArray) (ss : List ByteArray) (k : Nat) (hk : k < ss.length) (h : eqB (ss.getD k .empty) s = true) (hno : ∀ j, j < k → eqB (ss.getD j .empty) s = false) : amongI s ss = k := by
  have : ss.findIdx? (fun x => eqB x s) = some k := by
    rw [List.findIdx?_eq_some_iff_getElem]
    refine ⟨hk, ?_, fun j hj => ?_⟩
    · rw [List.getD_eq_getElem?_getD, List.getElem?_eq_getElem hk] at h
      exact h
    · have h2 := hno j hj
      rw [List.getD_eq_getElem?_getD, List.getElem?_eq_getElem (by omega)] at h2
      simpa using h2
  rw [amongI, this]
theorem among_no (s : ByteArray) (ss : List ByteArray) (hno : ∀ j, j < ss.length → eqB (ss.getD j .empty) s = false) : amongI s ss = -1 := by
  have : ss.findIdx? (fun x => eqB x s) = none := by
    rw [List.findIdx?_eq_none_iff]
    intro x hx
    obtain ⟨j, hj, rfl⟩ := List.getElem_of_mem hx
    have h2 := hno j hj
    rw [List.getD_eq_getElem?_getD, List.getElem?_eq_getElem hj] at h2
    exact h2
  rw [amongI, this]
set_option maxHeartbeats 400000 in
theorem among_any (s : ByteArray) (A : Option Addr) (n c : Nat) (ss : List ByteArray) (hn : n ≤ 16777216) (W : World) (h : Texts W A n ss) :
    Calls Tryz.prog 62 #[.string s, .slice A n c] W fun e w' => e = .returned (.int .i64 (amongI s ss)) ∧ W = w' := by
  obtain ⟨hl, hA⟩ := h
  have HL := Lib.hid hl
  have HA := Lib.hid hA
  clear hl hA
  go_enter Tryz.func62, Tryz.ntmps62
  go_wp2
  go_loop [9] (fun i => ∃ k : Nat, k ≤ n ∧ i = .int .i64 k ∧ Hid (∀ j, j < k → eqB (ss.getD j .empty) s = false)) (fun i => n - (intOf i).toNat)
  case atStart => exact ⟨0, Nat.zero_le _, rfl, fun j hj => absurd hj (by omega)⟩
  case round =>
    obtain ⟨k, hk, rfl, hno⟩ := hrel
    by_cases hkn : k < n
    · obtain ⟨b, off, rfl, hb, hc⟩ := HA.out (by omega)
      have c0 := hc k hkn
      obtain ⟨x, hx⟩ : ∃ x, x = ss.getD k .empty := ⟨_, rfl⟩
      rw [← hx] at c0
      have HX := Lib.hid hx
      clear hc hx
      by_cases he : eqB x s = true
      · have e := among_at s ss k (by rw [HL.out]; exact hkn) (by rw [← HX.out]; exact he) hno.out
        have E := Lib.hid e
        have he' : (x.toList == s.toList) = true := he
        clear e he
        go_wp2
        go_ret
        exact ⟨by rw [E.out]; rfl, rfl⟩
      · have he' : (x.toList == s.toList) = false := by simpa [eqB] using he
        have hno' : Hid (∀ j, j < k + 1 → eqB (ss.getD j .empty) s = false) := fun j hj => by
          rcases (by omega : j < k ∨ j = k) with h | rfl
          · exact hno.out j h
          · rw [← HX.out]; simpa using he
        clear he
        go_wp2
        go_round
        case rel => exact ⟨k + 1, by omega, by go_num, hno'⟩
        case measure => simp [intOf]; omega
    · obtain rfl : k = n := by omega
      have e := among_no s ss (by rw [HL.out]; exact hno.out)
      have E := Lib.hid e
      clear e
      go_wp2
      go_ret
      exact ⟨by rw [E.out]; rfl, rfl⟩
def amongB (s : ByteArray) (ss : List ByteArray) : Bool := ss.any (fun x => eqB x s)
theorem among_ge (s : ByteArray) (ss : List ByteArray) : decide (0 ≤ amongI s ss) = amongB s ss := by
  unfold amongI amongB
  cases h : ss.findIdx? (fun x => eqB x s) with
  | none =>
    rw [List.findIdx?_eq_none_iff] at h
    have : ss.any (fun x => eqB x s) = false := by rw [List.any_eq_false]; intro x hx; rw [h x hx]; decide
    rw [this]; decide
  | some i =>
    rw [List.findIdx?_eq_some_iff_getElem] at h
    obtain ⟨hi, h1, _⟩ := h
    have : ss.any (fun x => eqB x s) = true := List.any_eq_true.2 ⟨_, List.getElem_mem hi, h1⟩
    rw [this]; exact decide_eq_true (show (0 : Int) ≤ (i : Int) by omega)
theorem texts_lit8 (w : World) (t : TypeId) (ss : List ByteArray) (g : Nat) (hg : g = w.heap.size) : Texts (w.alloc (.cells (ss.map Value.string).toArray t)) (some ⟨g, 0, none⟩) ss.length ss := by
  subst hg
  refine ⟨rfl, fun hn => ⟨_, _, rfl, by simp, fun j hj => ?_⟩⟩
  rw [Nat.zero_add, (Blk.new w t _).cell j]
  simp [hj, List.getD_eq_getElem?_getD]
def textOps : List ByteArray := [⟨#[61]⟩, ⟨#[33, 61]⟩, ⟨#[61, 126]⟩, ⟨#[33, 126]⟩]
def lineOps : List ByteArray := [⟨#[124, 61]⟩, ⟨#[33, 61]⟩, ⟨#[124, 126]⟩, ⟨#[33, 126]⟩]
def numOps : List ByteArray := [⟨#[61, 61]⟩, ⟨#[33, 61]⟩, ⟨#[62]⟩, ⟨#[62, 61]⟩, ⟨#[60]⟩, ⟨#[60, 61]⟩]
def exprOps : List ByteArray := [⟨#[61, 126]⟩, ⟨#[33, 126]⟩, ⟨#[124, 126]⟩]
def okB (v : ByteArray) : Bool := (parseB v.data.toList).2.2 == 0
def fitsB (ops : List ByteArray) (op v : ByteArray) : Bool := amongB op ops && (decide (v.size ≤ 256) && (!amongB op exprOps || okB v))
theorem astAmong_any (s : ByteArray) (A : Option Addr) (n c : Nat) (ss : List ByteArray) (hn : n ≤ 16777216) (W : World) (h : Texts W A n ss) :
    Calls Tryz.prog 44 #[.string s, .slice A n c] W fun e w' => e = .returned (.bool (amongB s ss)) ∧ W = w' := by
  have AM := Lib.hid (among_any s A n c ss hn W h)
  have AG := Lib.hid (among_ge s ss)
  clear h hn
  go_enter Tryz.func44, Tryz.ntmps44
  go_wp2_with fail
  refine (AM.out).mono ?_
  rintro e w1 ⟨rfl, rfl⟩
  go_wp2
  go_ret
  exact ⟨by rw [← AG.out]; rfl, rfl⟩
theorem of_err (t : ByteArray) (W : World) (hl : LibIs W) :
    Calls Tryz.prog 33 #[.string t] W fun e w' => (∃ (v : Value) (a er : Int), e = .returned (.tuple #[v, .int .i64 a, .int .i64 er]) ∧ Hid ((er == 0) = okB t)) ∧ Below W.heap.size W w' := by
  obtain ⟨x, a, er, hp⟩ : ∃ x a er, parseB t.data.toList = (x, a, er) := ⟨_, _, _, rfl⟩
  have ho : (er == 0) = okB t := by unfold okB; rw [hp]
  by_cases h : er = 0
  · subst h
    refine (of_ok t x a W hl hp).mono ?_
    rintro e w ⟨b, h1, _, _, h2⟩
    exact ⟨⟨_, _, _, h1, Lib.hid ho⟩, h2⟩
  · refine (of_no t x a er W hl hp h).mono ?_
    rintro e w ⟨h1, h2⟩
    exact ⟨⟨_, _, _, h1, Lib.hid ho⟩, h2⟩
theorem compiles_any (op v : ByteArray) (W : World) (hl : LibIs W) :
    Calls Tryz.prog 46 #[.agg #[.string op, .string v]] W fun e w' => e = .returned (.bool (okB v)) ∧ Below W.heap.size W w' := by
  have OF := Lib.hid (fun w (hb : Below W.heap.size W w) => of_err v w (hl.below hb))
  clear hl
  have HB0 := Lib.hid ((Below.refl W.heap.size W).alloc (Nat.le_refl _) (.cells #[.string op, .string v] 80))
  go_enter Tryz.func46, Tryz.ntmps46
  go_wp2_with fail
  refine (OF.out _ HB0.out).mono ?_
  rintro e w1 ⟨⟨x, a, er, rfl, HE⟩, hb⟩
  have HB := Lib.hid (hop HB0.out (by simp) hb)
  clear hb HB0
  go_wp2
  go_ret
  exact ⟨by rw [← HE.out]; rfl, HB.out⟩
theorem astExpr_any (op v : ByteArray) (W : World) :
    Calls Tryz.prog 45 #[.agg #[.string op, .string v]] W fun e w' => e = .returned (.bool (amongB op exprOps)) ∧ Below W.heap.size W w' := by
  have HB0 := Lib.hid (((Below.refl W.heap.size W).alloc (Nat.le_refl _) (.cells #[.string op, .string v] 80)).alloc (by simp) (.cells #[.string ⟨#[61, 126]⟩, .string ⟨#[33, 126]⟩, .string ⟨#[124, 126]⟩] 9))
  have TX := Lib.hid (texts_lit8 (W.alloc (.cells #[.string op, .string v] 80)) 9 exprOps (W.heap.size + 1) (by simp))
  go_enter Tryz.func45, Tryz.ntmps45
  go_wp2_with fail
  refine (astAmong_any op _ _ _ exprOps (by decide) _ TX.out).mono ?_
  rintro e w1 ⟨rfl, rfl⟩
  go_wp2
  go_ret
  exact ⟨rfl, HB0.out⟩
theorem testOf_any (nm op v : ByteArray) (W : World) :
    Calls Tryz.prog 30 #[.string nm, .string op, .string v] W fun e w' => e = .returned (.agg #[.string op, .string v, .string nm]) ∧ Below W.heap.size W w' := by
  go_enter Tryz.func30, Tryz.ntmps30
  go_wp2
  refine bodyPost_ret (results_cell_row rfl _ _ W.heap.size 82 #[.string op, .string v, .string nm] (0, 0) _ rfl (Blk.new W _ _) Tryz.underlying82 rfl (by kernel_rfl)) rfl ?_
  exact ⟨rfl, (Below.refl _ _).alloc (Nat.le_refl _) _⟩
theorem fits_any (op v : ByteArray) (A : Option Addr) (n c : Nat) (ss : List ByteArray) (hn : n ≤ 16777216) (W : World) (h : Texts W A n ss) (hl : LibIs W) :
    Calls Tryz.prog 34 #[.agg #[.string op, .string v], .slice A n c] W fun e w' => e = .returned (.bool (fitsB ss op v)) ∧ Below W.heap.size W w' := by
  have HB0 := Lib.hid ((Below.refl W.heap.size W).alloc (Nat.le_refl _) (.cells #[.string op, .string v] 80))
  have AM := Lib.hid (astAmong_any op A n c ss hn _ (h.below HB0.out))
  have EX := Lib.hid (fun w => astExpr_any op v w)
  have CO := Lib.hid (fun w (hb : Below W.heap.size W w) => compiles_any op v w (hl.below hb))
  have BK := Lib.hid (Blk.new W 80 #[.string op, .string v])
  obtain ⟨f, hf⟩ : ∃ f, fitsB ss op v = f := ⟨_, rfl⟩
  rw [hf]
  unfold fitsB at hf
  obtain ⟨b1, h1⟩ : ∃ b, amongB op ss = b := ⟨_, rfl⟩
  obtain ⟨b3, h3⟩ : ∃ b, amongB op exprOps = b := ⟨_, rfl⟩
  obtain ⟨b4, h4⟩ : ∃ b, okB v = b := ⟨_, rfl⟩
  rw [h1, h3, h4] at hf
  rw [h1] at AM
  rw [h3] at EX
  rw [h4] at CO
  clear h hl hn h1 h3 h4
  have c0 := BK.out.cell 0
  have c1 := BK.out.cell 1
  by_cases hv : v.size ≤ 256
  · have i1 : (v.size : Int) ≤ 256 := by omega
    rw [decide_eq_true hv] at hf
    cases b1 with
    | false =>
      subst hf
      go_enter Tryz.func34, Tryz.ntmps34
      go_wp2_with fail
      refine AM.out.mono ?_
      rintro e w1 ⟨rfl, rfl⟩
      go_wp2
      go_ret
      exact ⟨rfl, HB0.out⟩
    | true =>
      cases b3 with
      | false =>
        subst hf
        go_enter Tryz.func34, Tryz.ntmps34
        go_wp2_with fail
        refine AM.out.mono ?_
        rintro e w1 ⟨rfl, rfl⟩
        go_wp2_with fail
        refine (EX.out _).mono ?_
        rintro e w2 ⟨rfl, hb⟩
        have HB := Lib.hid (hop HB0.out (by simp) hb)
        clear hb HB0
        go_wp2
        go_ret
        exact ⟨rfl, HB.out⟩
      | true =>
        go_enter Tryz.func34, Tryz.ntmps34
        go_wp2_with fail
        refine AM.out.mono ?_
        rintro e w1 ⟨rfl, rfl⟩
        go_wp2_with fail
        refine (EX.out _).mono ?_
        rintro e w2 ⟨rfl, hb⟩
        have HB := Lib.hid (hop HB0.out (by simp) hb)
        have BK2 := BK.out.below hb (by simp)
        have d0 := BK2.cell 0
        have d1 := BK2.cell 1
        clear hb HB0 c0 c1 BK2
        go_wp2_with fail
        refine (CO.out _ HB.out).mono ?_
        rintro e w3 ⟨rfl, hb⟩
        have HB2 := Lib.hid (hop HB.out (Nat.le_refl _) hb)
        clear hb HB
        subst hf
        go_wp2
        go_ret
        exact ⟨by cases b4 <;> rfl, HB2.out⟩
  · have i1 : ¬ (v.size : Int) ≤ 256 := by omega
    rw [decide_eq_false hv] at hf
    have hf2 : f = false := by rw [← hf]; cases b1 <;> rfl
    clear hf
    subst hf2
    cases b1 with
    | false =>
      go_enter Tryz.func34, Tryz.ntmps34
      go_wp2_with fail
      refine AM.out.mono ?_
      rintro e w1 ⟨rfl, rfl⟩
      go_wp2
      go_ret
      exact ⟨rfl, HB0.out⟩
    | true =>
      go_enter Tryz.func34, Tryz.ntmps34
      go_wp2_with fail
      refine AM.out.mono ?_
      rintro e w1 ⟨rfl, rfl⟩
      go_wp2
      go_ret
      exact ⟨rfl, HB0.out⟩
def rightA (nm op v : ByteArray) : Bool := nameB nm && fitsB textOps op v
theorem testRight_any (op v nm : ByteArray) (W : World) (hl : LibIs W) :
    Calls Tryz.prog 31 #[.agg #[.string op, .string v, .string nm]] W fun e w' => e = .returned (.bool (rightA nm op v)) ∧ Below W.heap.size W w' := by
  have HB0 := Lib.hid ((Below.refl W.heap.size W).alloc (Nat.le_refl _) (.cells #[.string op, .string v, .string nm] 82))
  have NM := Lib.hid (fun w => name_any nm w)
  have FT := Lib.hid (fun w (hb : Below W.heap.size W w) => fits_any op v (some ⟨w.heap.size, 0, none⟩) 4 4 textOps (by decide) _ (texts_lit8 w 9 textOps _ rfl) (hl.below (hb.alloc hb.size _)))
  have BK := Lib.hid (Blk.new W 82 #[.string op, .string v, .string nm])
  obtain ⟨f, hf⟩ : ∃ f, rightA nm op v = f := ⟨_, rfl⟩
  rw [hf]
  unfold rightA at hf
  obtain ⟨b1, h1⟩ : ∃ b, nameB nm = b := ⟨_, rfl⟩
  obtain ⟨b2, h2⟩ : ∃ b, fitsB textOps op v = b := ⟨_, rfl⟩
  rw [h1, h2] at hf
  rw [h1] at NM
  rw [h2] at FT
  clear hl h1 h2
  have c2 := BK.out.cell 2
  cases b1 with
  | false =>
    subst hf
    go_enter Tryz.func31, Tryz.ntmps31
    go_wp2_with fail
    refine (NM.out _).mono ?_
    rintro e w1 ⟨rfl, hb⟩
    have HB := Lib.hid (hop HB0.out (by simp) hb)
    clear hb HB0
    go_wp2
    go_ret
    exact ⟨rfl, HB.out⟩
  | true =>
    subst hf
    go_enter Tryz.func31, Tryz.ntmps31
    go_wp2_with fail
    refine (NM.out _).mono ?_
    rintro e w1 ⟨rfl, hb⟩
    have HB := Lib.hid (hop HB0.out (by simp) hb)
    have BK2 := BK.out.below hb (by simp)
    have d0 := BK2.cell 0
    have d1 := BK2.cell 1
    clear hb HB0 c2 BK2
    go_wp2_with fail
    refine (FT.out _ HB.out).mono ?_
    rintro e w2 ⟨rfl, hb⟩
    have HB2 := Lib.hid (hop_new HB.out (Nat.le_refl _) hb)
    clear hb
    go_wp2
    go_ret
    exact ⟨rfl, HB2.out⟩
theorem rightMatcher_any (nm op v : ByteArray) (W : World) (hl : LibIs W) :
    Calls Tryz.prog 19 #[.agg #[.string nm, .string op, .string v]] W fun e w' => e = .returned (.bool (rightA nm op v)) ∧ Below W.heap.size W w' := by
  have HB0 := Lib.hid ((Below.refl W.heap.size W).alloc (Nat.le_refl _) (.cells #[.string nm, .string op, .string v] 30))
  have TO := Lib.hid (fun w => testOf_any nm op v w)
  have RT := Lib.hid (fun w (hb : Below W.heap.size W w) => testRight_any op v nm w (hl.below hb))
  clear hl
  go_enter Tryz.func19, Tryz.ntmps19
  go_wp2_with fail
  refine (TO.out _).mono ?_
  rintro e w1 ⟨rfl, hb⟩
  have HB := Lib.hid (hop HB0.out (by simp) hb)
  clear hb HB0
  go_wp2_with fail
  refine (RT.out _ HB.out).mono ?_
  rintro e w2 ⟨rfl, hb⟩
  have HB2 := Lib.hid (hop HB.out (Nat.le_refl _) hb)
  clear hb
  go_wp2
  go_ret
  exact ⟨rfl, HB2.out⟩
end Go.Proofs.YtbkpoimaienhpaaGreatDoor
