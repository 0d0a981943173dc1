-- shaken
import Derived.Test.YtepokdmkdnlbfaaGreatDoorScan
import Derived.Test.YtepokdmkdnlbfaaGreatDoorBase
import Derived.Shelf.SlSortCmp.QuietGrown
import Derived.Lib.AppendIntMem
import Derived.Lib.Bytealg
import GoSem.Op.String
import Derived.Test.YtepokdmkdnlbfaaGreatDoorNfaOf
import Derived.Test.YtepokdmkdnlbfaaGreatDoorUnitTell
import Derived.Test.YtepokdmkdnlbfaaGreatDoorGet
namespace Go.Proofs.YtepokdmkdnlbfaaGreatDoor
open Go.RowKit Go.Sort
set_option linter.unusedVariables false
set_option linter.unusedSimpArgs false
abbrev PairB := ByteArray × ByteArray
def pnil : PairB := (.empty, .empty)
def Pairs (w : World) (A : Option Addr) (n : Nat) (ps : List PairB) : Prop :=
  ps.length = n ∧ (0 < n → ∃ b off, A = some ⟨b, off, none⟩ ∧ b < w.heap.size ∧ ∀ j, j < n → w.cell? ⟨b, off + j * 2, none⟩ = some (.string (ps.getD j pnil).1) ∧ w.cell? ⟨b, off + j * 2 + 1, none⟩ = some (.string (ps.getD j pnil).2))
theorem Pairs.below {w w' : World} {A : Option Addr} {n : Nat} {ps : List PairB} (h : Pairs w A n ps) (hb : Below w.heap.size w w') : Pairs w' A n ps :=
  ⟨h.1, fun hn => by
    obtain ⟨b, off, e, hlt, hc⟩ := h.2 hn
    exact ⟨b, off, e, Nat.lt_of_lt_of_le hlt hb.size, fun j hj => ⟨(hb.cell (p := ⟨b, off + j * 2, none⟩) hlt).trans (hc j hj).1, (hb.cell (p := ⟨b, off + j * 2 + 1, none⟩) hlt).trans (hc j hj).2⟩⟩⟩
def nameB (s : ByteArray) : Bool := decide (0 < s.size) && (decide (s.size ≤ 32) && ((s.data.toList.head?.all fun c => !goodK [0] c) && s.data.toList.all (goodK [0, 1, 2])))
theorem nameB_none {s : ByteArray} (h : s.size = 0) : nameB s = false := by unfold nameB; rw [decide_eq_false (by omega)]; rfl
theorem nameB_long {s : ByteArray} (h : 32 < s.size) : nameB s = false := by unfold nameB; rw [decide_eq_true (by omega), decide_eq_false (by omega)]; rfl
theorem bytes_at0 (s : ByteArray) (h : 0 < s.size) : ∃ r, s.data.toList = s[0] :: r := by
  have hl : 0 < s.data.toList.length := by rw [size_toList]; exact h
  cases hs : s.data.toList with
  | nil => rw [hs] at hl; cases hl
  | cons c r =>
    refine ⟨r, ?_⟩
    have : s.data.toList[0] = c := by simp only [hs, List.getElem_cons_zero]
    rw [show s[0] = s.data.toList[0] from rfl, this]
theorem nameB_digit {s : ByteArray} (h : 0 < s.size) (hd : goodK [0] s[0] = true) : nameB s = false := by
  obtain ⟨r, hr⟩ := bytes_at0 s h
  unfold nameB
  rw [hr]
  simp [hd]
theorem nameB_rest {s : ByteArray} (h : 0 < s.size) (h2 : s.size ≤ 32) (hd : goodK [0] s[0] = false) : nameB s = s.data.toList.all (goodK [0, 1, 2]) := by
  obtain ⟨r, hr⟩ := bytes_at0 s h
  unfold nameB
  rw [decide_eq_true h, decide_eq_true h2, hr]
  simp [hd]
theorem goodK_any (ks : List Int) (c : UInt8) : (ks.any fun k => kindB k c.toNat) = goodK ks c := rfl
def Grown (W w : World) : Prop := ∃ q os, w = grow (W.drewN q) os
theorem Grown.refl (W : World) : Grown W W := ⟨0, #[], by rw [grow_empty]; rfl⟩
theorem Grown.alloc {W w : World} (h : Grown W w) (o : Obj) : Grown W (w.alloc o) := by
  obtain ⟨q, os, rfl⟩ := h
  exact ⟨q, os ++ #[o], by rw [alloc_eq_grow, grow_grow]⟩
theorem Grown.below {W w : World} (h : Grown W w) : Below W.heap.size W w := by
  obtain ⟨q, os, rfl⟩ := h
  exact Go.Lib.below_grow _ _ (Nat.le_refl _) _ _
set_option maxRecDepth 100000 in
set_option maxHeartbeats 1600000 in
theorem name_grown (s : ByteArray) (W : World) :
    Calls Tryz.prog 33 #[.string s] W fun e w' => e = .returned (.bool (nameB s)) ∧ Grown W w' := by
  by_cases h0 : s.size = 0
  · have E := Lib.hid (nameB_none h0)
    have hem : s.toList = [] := by rw [Lib.toList_data]; exact List.eq_nil_of_length_eq_zero (by rw [size_toList]; exact h0)
    have hem2 : s.toList.isEmpty = true := by rw [hem]; rfl
    clear h0
    go_enter Tryz.func33, Tryz.ntmps33
    go_wp2
    go_ret
    exact ⟨ret_bool E.out.symm, Grown.refl _⟩
  · have hp : 0 < s.size := by omega
    have hem : ¬ s.toList = [] := by
      rw [Lib.toList_data]
      intro h
      exact h0 (by rw [← size_toList, h]; rfl)
    have hem2 : s.toList.isEmpty = false := by
      cases h : s.toList.isEmpty with
      | false => rfl
      | true => exact absurd (List.isEmpty_iff.1 h) hem
    by_cases h32 : 32 < s.size
    · have E := Lib.hid (nameB_long h32)
      have hI : (32 : Int) < (s.size : Int) := by omega
      clear h0
      go_enter Tryz.func33, Tryz.ntmps33
      go_wp2
      go_ret
      exact ⟨ret_bool E.out.symm, Grown.refl _⟩
    · have hI : ¬ (32 : Int) < (s.size : Int) := by omega
      have hpI : (0 : Int) < (s.size : Int) := by omega
      have E1 := Lib.hid (nameB_digit hp)
      have E2 := Lib.hid (nameB_rest hp (by omega))
      obtain ⟨c0, hc0⟩ : ∃ c, s[0] = c := ⟨_, rfl⟩
      replace E1 := Lib.hid (hc0 ▸ E1.out)
      replace E2 := Lib.hid (hc0 ▸ E2.out)
      have hc0l := c0.toNat_lt
      have D0 := is_any c0.toNat hc0l (some ⟨W.heap.size, 0, none⟩) 1 1 [0] (by decide) _ (ints_lit W 94 [0] (by decide) _ rfl)
      rw [goodK_any] at D0
      obtain ⟨g0, hg0⟩ : ∃ b, goodK [0] c0 = b := ⟨_, rfl⟩
      rw [hg0] at D0
      replace D0 := Lib.hid D0
      cases g0 with
      | true =>
        have E := Lib.hid (E1.out hg0)
        clear h0 h32 hg0
        go_enter Tryz.func33, Tryz.ntmps33
        go_wp2_with fail
        refine D0.out.mono ?_
        rintro e w ⟨rfl, rfl⟩
        go_wp2
        go_ret
        exact ⟨ret_bool E.out.symm, (Grown.refl _).alloc _⟩
      | false =>
        have E := Lib.hid (E2.out hg0)
        clear h0 h32 hg0
        go_enter Tryz.func33, Tryz.ntmps33
        go_wp2_with fail
        refine D0.out.mono ?_
        rintro e w ⟨rfl, rfl⟩
        go_wp2
        go_loopw [19] (fun iv wr => ∃ k : Nat, k ≤ s.size ∧ iv = .int .i64 k ∧ Hid ((s.data.toList.take k).all (goodK [0, 1, 2]) = true) ∧ Hid (Grown W wr)) (fun iv _ => s.size - (intOf iv).toNat)
        case atStart => exact ⟨0, Nat.zero_le _, rfl, Lib.hid rfl, Lib.hid ((Grown.refl _).alloc _)⟩
        case round =>
          obtain ⟨k, hk, rfl, HK, hb⟩ := hrel
          by_cases hks : k < s.size
          · obtain ⟨c, hc⟩ : ∃ c, s[k] = c := ⟨_, rfl⟩
            have hcl := c.toNat_lt
            have hsn : s.data.toList.take (k + 1) = s.data.toList.take k ++ [c] := by
              rw [List.take_succ_eq_append_getElem (by rw [size_toList]; exact hks), ← hc]
              rfl
            have hmem : c ∈ s.data.toList := by
              rw [← hc]
              exact List.getElem_mem (by rw [size_toList]; exact hks)
            have D := is_any c.toNat hcl (some ⟨wr.heap.size, 0, none⟩) 3 3 [0, 1, 2] (by decide) _ (ints_lit wr 94 [0, 1, 2] (by decide) _ rfl)
            rw [goodK_any] at D
            obtain ⟨g, hg⟩ : ∃ b, goodK [0, 1, 2] c = b := ⟨_, rfl⟩
            rw [hg] at D
            replace D := Lib.hid D
            have hkI : (k : Int) < (s.size : Int) := by omega
            cases g with
            | true =>
              have HN := Lib.hid (show (s.data.toList.take (k + 1)).all (goodK [0, 1, 2]) = true by rw [hsn, List.all_append, HK.out]; simp [hg])
              clear hsn hmem hg
              go_wp2_with fail
              refine D.out.mono ?_
              rintro e w ⟨rfl, rfl⟩
              go_wp2
              go_round
              case rel => exact ⟨k + 1, by omega, by go_num, HN, Lib.hid (hb.out.alloc _)⟩
              case measure => simp [intOf]; omega
            | false =>
              have E3 := Lib.hid (show nameB s = false by
                rw [E.out]
                cases h : s.data.toList.all (goodK [0, 1, 2]) with
                | false => rfl
                | true => rw [List.all_eq_true.1 h c hmem] at hg; cases hg)
              clear hsn hmem hg
              go_wp2_with fail
              refine D.out.mono ?_
              rintro e w ⟨rfl, rfl⟩
              go_wp2
              go_ret
              exact ⟨ret_bool E3.out.symm, hb.out.alloc _⟩
          · obtain rfl : k = s.size := by omega
            have hs := HK.out
            rw [List.take_of_length_le (by rw [size_toList]; exact Nat.le_refl _)] at hs
            have E3 := Lib.hid (show nameB s = true by rw [E.out, hs])
            clear hs hks
            go_wp2
            go_ret
            exact ⟨ret_bool E3.out.symm, hb.out⟩
theorem name_any (s : ByteArray) (W : World) :
    Calls Tryz.prog 33 #[.string s] W fun e w' => e = .returned (.bool (nameB s)) ∧ Below W.heap.size W w' :=
  (name_grown s W).mono fun _ _ ⟨he, hg⟩ => ⟨he, hg.below⟩
structure Ord3 {α : Type} (f : α → α → Int) : Prop where
  anti : ∀ a b, f a b = - f b a
  zero : ∀ a b, f a b = 0 → a = b
  trans : ∀ a b c, f a b ≤ 0 → f b c ≤ 0 → f a c ≤ 0
theorem Ord3.refl {α : Type} {f : α → α → Int} (h : Ord3 f) (a : α) : f a a = 0 := by have := h.anti a a; omega
def amongB (s : ByteArray) (ss : List ByteArray) : Bool := ss.any (fun x => eqB x s)
theorem among_ge (s : ByteArray) (ss : List ByteArray) : decide (0 ≤ amongI s ss) = amongB s ss := by
  unfold amongI amongB
  cases h : ss.findIdx? (fun x => eqB x s) with
  | none =>
    rw [List.findIdx?_eq_none_iff] at h
    have : ss.any (fun x => eqB x s) = false := by rw [List.any_eq_false]; intro x hx; rw [h x hx]; decide
    rw [this]; decide
  | some i =>
    rw [List.findIdx?_eq_some_iff_getElem] at h
    obtain ⟨hi, h1, _⟩ := h
    have : ss.any (fun x => eqB x s) = true := List.any_eq_true.2 ⟨_, List.getElem_mem hi, h1⟩
    rw [this]; exact decide_eq_true (show (0 : Int) ≤ (i : Int) by omega)
theorem texts_lit8 (w : World) (t : TypeId) (ss : List ByteArray) (g : Nat) (hg : g = w.heap.size) : Texts (w.alloc (.cells (ss.map Value.string).toArray t)) (some ⟨g, 0, none⟩) ss.length ss := by
  subst hg
  refine ⟨rfl, fun hn => ⟨_, _, rfl, by simp, fun j hj => ?_⟩⟩
  rw [Nat.zero_add, (Blk.new w t _).cell j]
  simp [hj, List.getD_eq_getElem?_getD]
def textOps : List ByteArray := [⟨#[61]⟩, ⟨#[33, 61]⟩, ⟨#[61, 126]⟩, ⟨#[33, 126]⟩]
def lineOps : List ByteArray := [⟨#[124, 61]⟩, ⟨#[33, 61]⟩, ⟨#[124, 126]⟩, ⟨#[33, 126]⟩]
def numOps : List ByteArray := [⟨#[61, 61]⟩, ⟨#[33, 61]⟩, ⟨#[62]⟩, ⟨#[62, 61]⟩, ⟨#[60]⟩, ⟨#[60, 61]⟩]
def exprOps : List ByteArray := [⟨#[61, 126]⟩, ⟨#[33, 126]⟩, ⟨#[124, 126]⟩]
def okB (v : ByteArray) : Bool := (parseB v.data.toList).2.2 == 0
def fitsB (ops : List ByteArray) (op v : ByteArray) : Bool := amongB op ops && (decide (v.size ≤ 256) && (!amongB op exprOps || okB v))
theorem astAmong_any (s : ByteArray) (A : Option Addr) (n c : Nat) (ss : List ByteArray) (hn : n ≤ 16777216) (W : World) (h : Texts W A n ss) :
    Calls Tryz.prog 34 #[.string s, .slice A n c] W fun e w' => e = .returned (.bool (amongB s ss)) ∧ W = w' := by
  have AM := Lib.hid (among_any s A n c ss hn W h)
  have AG := Lib.hid (among_ge s ss)
  clear h hn
  go_enter Tryz.func34, Tryz.ntmps34
  go_wp2_with fail
  refine (AM.out).mono ?_
  rintro e w1 ⟨rfl, rfl⟩
  go_wp2
  go_ret
  exact ⟨by rw [← AG.out]; rfl, rfl⟩
theorem of_err (t : ByteArray) (W : World) (hl : LibIs W) :
    Calls Tryz.prog 48 #[.string t] W fun e w' => (∃ (v : Value) (a er : Int), e = .returned (.tuple #[v, .int .i64 a, .int .i64 er]) ∧ Hid ((er == 0) = okB t)) ∧ Below W.heap.size W w' := by
  obtain ⟨x, a, er, hp⟩ : ∃ x a er, parseB t.data.toList = (x, a, er) := ⟨_, _, _, rfl⟩
  have ho : (er == 0) = okB t := by unfold okB; rw [hp]
  by_cases h : er = 0
  · subst h
    refine (of_ok t x a W hl hp).mono ?_
    rintro e w ⟨b, h1, _, _, h2⟩
    exact ⟨⟨_, _, _, h1, Lib.hid ho⟩, h2⟩
  · refine (of_no t x a er W hl hp h).mono ?_
    rintro e w ⟨h1, h2⟩
    exact ⟨⟨_, _, _, h1, Lib.hid ho⟩, h2⟩
theorem compiles_any (op v : ByteArray) (W : World) (hl : LibIs W) :
    Calls Tryz.prog 36 #[.agg #[.string op, .string v]] W fun e w' => e = .returned (.bool (okB v)) ∧ Below W.heap.size W w' := by
  have OF := Lib.hid (fun w (hb : Below W.heap.size W w) => of_err v w (hl.below hb))
  clear hl
  have HB0 := Lib.hid ((Below.refl W.heap.size W).alloc (Nat.le_refl _) (.cells #[.string op, .string v] 62))
  go_enter Tryz.func36, Tryz.ntmps36
  go_wp2_with fail
  refine (OF.out _ HB0.out).mono ?_
  rintro e w1 ⟨⟨x, a, er, rfl, HE⟩, hb⟩
  have HB := Lib.hid (hop HB0.out (by simp) hb)
  clear hb HB0
  go_wp2
  go_ret
  exact ⟨by rw [← HE.out]; rfl, HB.out⟩
theorem astExpr_any (op v : ByteArray) (W : World) :
    Calls Tryz.prog 35 #[.agg #[.string op, .string v]] W fun e w' => e = .returned (.bool (amongB op exprOps)) ∧ Below W.heap.size W w' := by
  have HB0 := Lib.hid (((Below.refl W.heap.size W).alloc (Nat.le_refl _) (.cells #[.string op, .string v] 62)).alloc (by simp) (.cells #[.string ⟨#[61, 126]⟩, .string ⟨#[33, 126]⟩, .string ⟨#[124, 126]⟩] 9))
  have TX := Lib.hid (texts_lit8 (W.alloc (.cells #[.string op, .string v] 62)) 9 exprOps (W.heap.size + 1) (by simp))
  go_enter Tryz.func35, Tryz.ntmps35
  go_wp2_with fail
  refine (astAmong_any op _ _ _ exprOps (by decide) _ TX.out).mono ?_
  rintro e w1 ⟨rfl, rfl⟩
  go_wp2
  go_ret
  exact ⟨rfl, HB0.out⟩
theorem testOf_any (nm op v : ByteArray) (W : World) :
    Calls Tryz.prog 23 #[.string nm, .string op, .string v] W fun e w' => e = .returned (.agg #[.string op, .string v, .string nm]) ∧ Below W.heap.size W w' := by
  go_enter Tryz.func23, Tryz.ntmps23
  go_wp2
  refine bodyPost_ret (results_cell_row rfl _ _ W.heap.size 64 #[.string op, .string v, .string nm] (0, 0) _ rfl (Blk.new W _ _) Tryz.underlying64 rfl (by kernel_rfl)) rfl ?_
  exact ⟨rfl, (Below.refl _ _).alloc (Nat.le_refl _) _⟩
theorem fits_any (op v : ByteArray) (A : Option Addr) (n c : Nat) (ss : List ByteArray) (hn : n ≤ 16777216) (W : World) (h : Texts W A n ss) (hl : LibIs W) :
    Calls Tryz.prog 26 #[.agg #[.string op, .string v], .slice A n c] W fun e w' => e = .returned (.bool (fitsB ss op v)) ∧ Below W.heap.size W w' := by
  have HB0 := Lib.hid ((Below.refl W.heap.size W).alloc (Nat.le_refl _) (.cells #[.string op, .string v] 62))
  have AM := Lib.hid (astAmong_any op A n c ss hn _ (h.below HB0.out))
  have EX := Lib.hid (fun w => astExpr_any op v w)
  have CO := Lib.hid (fun w (hb : Below W.heap.size W w) => compiles_any op v w (hl.below hb))
  have BK := Lib.hid (Blk.new W 62 #[.string op, .string v])
  obtain ⟨f, hf⟩ : ∃ f, fitsB ss op v = f := ⟨_, rfl⟩
  rw [hf]
  unfold fitsB at hf
  obtain ⟨b1, h1⟩ : ∃ b, amongB op ss = b := ⟨_, rfl⟩
  obtain ⟨b3, h3⟩ : ∃ b, amongB op exprOps = b := ⟨_, rfl⟩
  obtain ⟨b4, h4⟩ : ∃ b, okB v = b := ⟨_, rfl⟩
  rw [h1, h3, h4] at hf
  rw [h1] at AM
  rw [h3] at EX
  rw [h4] at CO
  clear h hl hn h1 h3 h4
  have c0 := BK.out.cell 0
  have c1 := BK.out.cell 1
  by_cases hv : v.size ≤ 256
  · have i1 : (v.size : Int) ≤ 256 := by omega
    rw [decide_eq_true hv] at hf
    cases b1 with
    | false =>
      subst hf
      go_enter Tryz.func26, Tryz.ntmps26
      go_wp2_with fail
      refine AM.out.mono ?_
      rintro e w1 ⟨rfl, rfl⟩
      go_wp2
      go_ret
      exact ⟨rfl, HB0.out⟩
    | true =>
      cases b3 with
      | false =>
        subst hf
        go_enter Tryz.func26, Tryz.ntmps26
        go_wp2_with fail
        refine AM.out.mono ?_
        rintro e w1 ⟨rfl, rfl⟩
        go_wp2_with fail
        refine (EX.out _).mono ?_
        rintro e w2 ⟨rfl, hb⟩
        have HB := Lib.hid (hop HB0.out (by simp) hb)
        clear hb HB0
        go_wp2
        go_ret
        exact ⟨rfl, HB.out⟩
      | true =>
        go_enter Tryz.func26, Tryz.ntmps26
        go_wp2_with fail
        refine AM.out.mono ?_
        rintro e w1 ⟨rfl, rfl⟩
        go_wp2_with fail
        refine (EX.out _).mono ?_
        rintro e w2 ⟨rfl, hb⟩
        have HB := Lib.hid (hop HB0.out (by simp) hb)
        have BK2 := BK.out.below hb (by simp)
        have d0 := BK2.cell 0
        have d1 := BK2.cell 1
        clear hb HB0 c0 c1 BK2
        go_wp2_with fail
        refine (CO.out _ HB.out).mono ?_
        rintro e w3 ⟨rfl, hb⟩
        have HB2 := Lib.hid (hop HB.out (Nat.le_refl _) hb)
        clear hb HB
        subst hf
        go_wp2
        go_ret
        exact ⟨by cases b4 <;> rfl, HB2.out⟩
  · have i1 : ¬ (v.size : Int) ≤ 256 := by omega
    rw [decide_eq_false hv] at hf
    have hf2 : f = false := by rw [← hf]; cases b1 <;> rfl
    clear hf
    subst hf2
    cases b1 with
    | false =>
      go_enter Tryz.func26, Tryz.ntmps26
      go_wp2_with fail
      refine AM.out.mono ?_
      rintro e w1 ⟨rfl, rfl⟩
      go_wp2
      go_ret
      exact ⟨rfl, HB0.out⟩
    | true =>
      go_enter Tryz.func26, Tryz.ntmps26
      go_wp2_with fail
      refine AM.out.mono ?_
      rintro e w1 ⟨rfl, rfl⟩
      go_wp2
      go_ret
      exact ⟨rfl, HB0.out⟩
def rightA (nm op v : ByteArray) : Bool := nameB nm && fitsB textOps op v
theorem testRight_any (op v nm : ByteArray) (W : World) (hl : LibIs W) :
    Calls Tryz.prog 25 #[.agg #[.string op, .string v, .string nm]] W fun e w' => e = .returned (.bool (rightA nm op v)) ∧ Below W.heap.size W w' := by
  have HB0 := Lib.hid ((Below.refl W.heap.size W).alloc (Nat.le_refl _) (.cells #[.string op, .string v, .string nm] 64))
  have NM := Lib.hid (fun w => name_any nm w)
  have FT := Lib.hid (fun w (hb : Below W.heap.size W w) => fits_any op v (some ⟨w.heap.size, 0, none⟩) 4 4 textOps (by decide) _ (texts_lit8 w 9 textOps _ rfl) (hl.below (hb.alloc hb.size _)))
  have BK := Lib.hid (Blk.new W 64 #[.string op, .string v, .string nm])
  obtain ⟨f, hf⟩ : ∃ f, rightA nm op v = f := ⟨_, rfl⟩
  rw [hf]
  unfold rightA at hf
  obtain ⟨b1, h1⟩ : ∃ b, nameB nm = b := ⟨_, rfl⟩
  obtain ⟨b2, h2⟩ : ∃ b, fitsB textOps op v = b := ⟨_, rfl⟩
  rw [h1, h2] at hf
  rw [h1] at NM
  rw [h2] at FT
  clear hl h1 h2
  have c2 := BK.out.cell 2
  cases b1 with
  | false =>
    subst hf
    go_enter Tryz.func25, Tryz.ntmps25
    go_wp2_with fail
    refine (NM.out _).mono ?_
    rintro e w1 ⟨rfl, hb⟩
    have HB := Lib.hid (hop HB0.out (by simp) hb)
    clear hb HB0
    go_wp2
    go_ret
    exact ⟨rfl, HB.out⟩
  | true =>
    subst hf
    go_enter Tryz.func25, Tryz.ntmps25
    go_wp2_with fail
    refine (NM.out _).mono ?_
    rintro e w1 ⟨rfl, hb⟩
    have HB := Lib.hid (hop HB0.out (by simp) hb)
    have BK2 := BK.out.below hb (by simp)
    have d0 := BK2.cell 0
    have d1 := BK2.cell 1
    clear hb HB0 c2 BK2
    go_wp2_with fail
    refine (FT.out _ HB.out).mono ?_
    rintro e w2 ⟨rfl, hb⟩
    have HB2 := Lib.hid (hop_new HB.out (Nat.le_refl _) hb)
    clear hb
    go_wp2
    go_ret
    exact ⟨rfl, HB2.out⟩
theorem rightMatcher_any (nm op v : ByteArray) (W : World) (hl : LibIs W) :
    Calls Tryz.prog 13 #[.agg #[.string nm, .string op, .string v]] W fun e w' => e = .returned (.bool (rightA nm op v)) ∧ Below W.heap.size W w' := by
  have HB0 := Lib.hid ((Below.refl W.heap.size W).alloc (Nat.le_refl _) (.cells #[.string nm, .string op, .string v] 43))
  have TO := Lib.hid (fun w => testOf_any nm op v w)
  have RT := Lib.hid (fun w (hb : Below W.heap.size W w) => testRight_any op v nm w (hl.below hb))
  clear hl
  go_enter Tryz.func13, Tryz.ntmps13
  go_wp2_with fail
  refine (TO.out _).mono ?_
  rintro e w1 ⟨rfl, hb⟩
  have HB := Lib.hid (hop HB0.out (by simp) hb)
  clear hb HB0
  go_wp2_with fail
  refine (RT.out _ HB.out).mono ?_
  rintro e w2 ⟨rfl, hb⟩
  have HB2 := Lib.hid (hop HB.out (Nat.le_refl _) hb)
  clear hb
  go_wp2
  go_ret
  exact ⟨rfl, HB2.out⟩
end Go.Proofs.YtepokdmkdnlbfaaGreatDoor
