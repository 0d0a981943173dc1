-- shaken
import Derived.Test.YtbkpoimaienhpaaGreatDoorScan
import Derived.Test.YtbkpoimaienhpaaGreatDoorBase
import Derived.Shelf.SlSortCmp.QuietGrown
import Derived.Lib.AppendIntMem
import Derived.Lib.Bytealg
import GoSem.Op.String
import Derived.Deep.RegionHeld3
import Derived.BigRegion
namespace Go.Proofs.YtbkpoimaienhpaaGreatDoor
open Go.RowKit Go.Sort
set_option linter.unusedVariables false
set_option linter.unusedSimpArgs false
abbrev PairB := ByteArray × ByteArray
def pnil : PairB := (.empty, .empty)
def Pairs (w : World) (A : Option Addr) (n : Nat) (ps : List PairB) : Prop :=
  ps.length = n ∧ (0 < n → ∃ b off, A = some ⟨b, off, none⟩ ∧ b < w.heap.size ∧ ∀ j, j < n → w.cell? ⟨b, off + j * 2, none⟩ = some (.string (ps.getD j pnil).1) ∧ w.cell? ⟨b, off + j * 2 + 1, none⟩ = some (.string (ps.getD j pnil).2))
theorem Pairs.below {w w' : World} {A : Option Addr} {n : Nat} {ps : List PairB} (h : Pairs w A n ps) (hb : Below w.heap.size w w') : Pairs w' A n ps :=
  ⟨h.1, fun hn => by
    obtain ⟨b, off, e, hlt, hc⟩ := h.2 hn
    exact ⟨b, off, e, Nat.lt_of_lt_of_le hlt hb.size, fun j hj => ⟨(hb.cell (p := ⟨b, off + j * 2, none⟩) hlt).trans (hc j hj).1, (hb.cell (p := ⟨b, off + j * 2 + 1, none⟩) hlt).trans (hc j hj).2⟩⟩⟩
theorem pairs_none (w : World) : Pairs w none 0 [] := ⟨rfl, fun h => absurd h (by omega)⟩
def nameB (s : ByteArray) : Bool := decide (0 < s.size) && (decide (s.size ≤ 32) && ((s.data.toList.head?.all fun c => !goodK [0] c) && s.data.toList.all (goodK [0, 1, 2])))
theorem nameB_none {s : ByteArray} (h : s.size = 0) : nameB s = false := by unfold nameB; rw [decide_eq_false (by omega)]; rfl
theorem nameB_long {s : ByteArray} (h : 32 < s.size) : nameB s = false := by unfold nameB; rw [decide_eq_true (by omega), decide_eq_false (by omega)]; rfl
theorem bytes_at0 (s : ByteArray) (h : 0 < s.size) : ∃ r, s.data.toList = s[0] :: r := by
  have hl : 0 < s.data.toList.length := by rw [size_toList]; exact h
  cases hs : s.data.toList with
  | nil => rw [hs] at hl; cases hl
  | cons c r =>
    refine ⟨r, ?_⟩
    have : s.data.toList[0] = c := by simp only [hs, List.getElem_cons_zero]
    rw [show s[0] = s.data.toList[0] from rfl, this]
theorem nameB_digit {s : ByteArray} (h : 0 < s.size) (hd : goodK [0] s[0] = true) : nameB s = false := by
  obtain ⟨r, hr⟩ := bytes_at0 s h
  unfold nameB
  rw [hr]
  simp [hd]
theorem nameB_rest {s : ByteArray} (h : 0 < s.size) (h2 : s.size ≤ 32) (hd : goodK [0] s[0] = false) : nameB s = s.data.toList.all (goodK [0, 1, 2]) := by
  obtain ⟨r, hr⟩ := bytes_at0 s h
  unfold nameB
  rw [decide_eq_true h, decide_eq_true h2, hr]
  simp [hd]
theorem goodK_any (ks : List Int) (c : UInt8) : (ks.any fun k => kindB k c.toNat) = goodK ks c := rfl
def Grown (W w : World) : Prop := ∃ q os, w = grow (W.drewN q) os
theorem Grown.refl (W : World) : Grown W W := ⟨0, #[], by rw [grow_empty]; rfl⟩
theorem Grown.alloc {W w : World} (h : Grown W w) (o : Obj) : Grown W (w.alloc o) := by
  obtain ⟨q, os, rfl⟩ := h
  exact ⟨q, os ++ #[o], by rw [alloc_eq_grow, grow_grow]⟩
theorem Grown.below {W w : World} (h : Grown W w) : Below W.heap.size W w := by
  obtain ⟨q, os, rfl⟩ := h
  exact Go.Lib.below_grow _ _ (Nat.le_refl _) _ _
set_option maxRecDepth 100000 in
set_option maxHeartbeats 1600000 in
theorem name_grown (s : ByteArray) (W : World) :
    Calls Tryz.prog 40 #[.string s] W fun e w' => e = .returned (.bool (nameB s)) ∧ Grown W w' := by
  by_cases h0 : s.size = 0
  · have E := Lib.hid (nameB_none h0)
    have hem : s.toList = [] := by rw [Lib.toList_data]; exact List.eq_nil_of_length_eq_zero (by rw [size_toList]; exact h0)
    have hem2 : s.toList.isEmpty = true := by rw [hem]; rfl
    clear h0
    go_enter Tryz.func40, Tryz.ntmps40
    go_wp2
    go_ret
    exact ⟨ret_bool E.out.symm, Grown.refl _⟩
  · have hp : 0 < s.size := by omega
    have hem : ¬ s.toList = [] := by
      rw [Lib.toList_data]
      intro h
      exact h0 (by rw [← size_toList, h]; rfl)
    have hem2 : s.toList.isEmpty = false := by
      cases h : s.toList.isEmpty with
      | false => rfl
      | true => exact absurd (List.isEmpty_iff.1 h) hem
    by_cases h32 : 32 < s.size
    · have E := Lib.hid (nameB_long h32)
      have hI : (32 : Int) < (s.size : Int) := by omega
      clear h0
      go_enter Tryz.func40, Tryz.ntmps40
      go_wp2
      go_ret
      exact ⟨ret_bool E.out.symm, Grown.refl _⟩
    · have hI : ¬ (32 : Int) < (s.size : Int) := by omega
      have hpI : (0 : Int) < (s.size : Int) := by omega
      have E1 := Lib.hid (nameB_digit hp)
      have E2 := Lib.hid (nameB_rest hp (by omega))
      obtain ⟨c0, hc0⟩ : ∃ c, s[0] = c := ⟨_, rfl⟩
      replace E1 := Lib.hid (hc0 ▸ E1.out)
      replace E2 := Lib.hid (hc0 ▸ E2.out)
      have hc0l := c0.toNat_lt
      have D0 := is_any c0.toNat hc0l (some ⟨W.heap.size, 0, none⟩) 1 1 [0] (by decide) _ (ints_lit W 119 [0] (by decide) _ rfl)
      rw [goodK_any] at D0
      obtain ⟨g0, hg0⟩ : ∃ b, goodK [0] c0 = b := ⟨_, rfl⟩
      rw [hg0] at D0
      replace D0 := Lib.hid D0
      cases g0 with
      | true =>
        have E := Lib.hid (E1.out hg0)
        clear h0 h32 hg0
        go_enter Tryz.func40, Tryz.ntmps40
        go_wp2_with fail
        refine D0.out.mono ?_
        rintro e w ⟨rfl, rfl⟩
        go_wp2
        go_ret
        exact ⟨ret_bool E.out.symm, (Grown.refl _).alloc _⟩
      | false =>
        have E := Lib.hid (E2.out hg0)
        clear h0 h32 hg0
        go_enter Tryz.func40, Tryz.ntmps40
        go_wp2_with fail
        refine D0.out.mono ?_
        rintro e w ⟨rfl, rfl⟩
        go_wp2
        go_loopw [19] (fun iv wr => ∃ k : Nat, k ≤ s.size ∧ iv = .int .i64 k ∧ Hid ((s.data.toList.take k).all (goodK [0, 1, 2]) = true) ∧ Hid (Grown W wr)) (fun iv _ => s.size - (intOf iv).toNat)
        case atStart => exact ⟨0, Nat.zero_le _, rfl, Lib.hid rfl, Lib.hid ((Grown.refl _).alloc _)⟩
        case round =>
          obtain ⟨k, hk, rfl, HK, hb⟩ := hrel
          by_cases hks : k < s.size
          · obtain ⟨c, hc⟩ : ∃ c, s[k] = c := ⟨_, rfl⟩
            have hcl := c.toNat_lt
            have hsn : s.data.toList.take (k + 1) = s.data.toList.take k ++ [c] := by
              rw [List.take_succ_eq_append_getElem (by rw [size_toList]; exact hks), ← hc]
              rfl
            have hmem : c ∈ s.data.toList := by
              rw [← hc]
              exact List.getElem_mem (by rw [size_toList]; exact hks)
            have D := is_any c.toNat hcl (some ⟨wr.heap.size, 0, none⟩) 3 3 [0, 1, 2] (by decide) _ (ints_lit wr 119 [0, 1, 2] (by decide) _ rfl)
            rw [goodK_any] at D
            obtain ⟨g, hg⟩ : ∃ b, goodK [0, 1, 2] c = b := ⟨_, rfl⟩
            rw [hg] at D
            replace D := Lib.hid D
            have hkI : (k : Int) < (s.size : Int) := by omega
            cases g with
            | true =>
              have HN := Lib.hid (show (s.data.toList.take (k + 1)).all (goodK [0, 1, 2]) = true by rw [hsn, List.all_append, HK.out]; simp [hg])
              clear hsn hmem hg
              go_wp2_with fail
              refine D.out.mono ?_
              rintro e w ⟨rfl, rfl⟩
              go_wp2
              go_round
              case rel => exact ⟨k + 1, by omega, by go_num, HN, Lib.hid (hb.out.alloc _)⟩
              case measure => simp [intOf]; omega
            | false =>
              have E3 := Lib.hid (show nameB s = false by
                rw [E.out]
                cases h : s.data.toList.all (goodK [0, 1, 2]) with
                | false => rfl
                | true => rw [List.all_eq_true.1 h c hmem] at hg; cases hg)
              clear hsn hmem hg
              go_wp2_with fail
              refine D.out.mono ?_
              rintro e w ⟨rfl, rfl⟩
              go_wp2
              go_ret
              exact ⟨ret_bool E3.out.symm, hb.out.alloc _⟩
          · obtain rfl : k = s.size := by omega
            have hs := HK.out
            rw [List.take_of_length_le (by rw [size_toList]; exact Nat.le_refl _)] at hs
            have E3 := Lib.hid (show nameB s = true by rw [E.out, hs])
            clear hs hks
            go_wp2
            go_ret
            exact ⟨ret_bool E3.out.symm, hb.out⟩
theorem name_any (s : ByteArray) (W : World) :
    Calls Tryz.prog 40 #[.string s] W fun e w' => e = .returned (.bool (nameB s)) ∧ Below W.heap.size W w' :=
  (name_grown s W).mono fun _ _ ⟨he, hg⟩ => ⟨he, hg.below⟩
structure Ord3 {α : Type} (f : α → α → Int) : Prop where
  anti : ∀ a b, f a b = - f b a
  zero : ∀ a b, f a b = 0 → a = b
  trans : ∀ a b c, f a b ≤ 0 → f b c ≤ 0 → f a c ≤ 0
theorem Ord3.refl {α : Type} {f : α → α → Int} (h : Ord3 f) (a : α) : f a a = 0 := by have := h.anti a a; omega
structure TagB where
  nm : ByteArray
  vl : ByteArray
  own : Bool
  k : Nat
  deriving Inhabited
def tagNs : List ByteArray := [⟨#[97, 112, 112]⟩, ⟨#[101, 110, 118]⟩, ⟨#[108, 118, 108]⟩, ⟨#[100, 117, 114]⟩, ⟨#[110]⟩]
def tagVs : List ByteArray := [⟨#[97]⟩, ⟨#[98]⟩, ⟨#[120, 49]⟩, ⟨#[53, 109]⟩, ⟨#[55]⟩, ⟨#[]⟩, ⟨#[50, 75, 66]⟩, ⟨#[97, 98]⟩]
def tagP (t : TagB) : PairB := if t.own then (tagNs.getD (t.k % 5) .empty, tagVs.getD (t.k / 5 % 8) .empty) else (t.nm, t.vl)
set_option maxRecDepth 100000 in
set_option maxHeartbeats 800000 in
theorem tag_as (nm vl : ByteArray) (k : Nat) (W : World) :
    Calls Tryz.prog 26 #[.agg #[.string nm, .string vl, .bool false, .int .u8 (k : Int)]] W fun e w' => e = .returned (.agg #[.string nm, .string vl]) ∧ Below W.heap.size W w' := by
  go_enter Tryz.func26, Tryz.ntmps26
  go_wp2
  refine bodyPost_ret (results_cell_row rfl _ _ (W.heap.size + 1) 53 #[.string nm, .string vl] (0, 0) _ rfl (blk_next W _ _ _) Tryz.underlying53 rfl (by kernel_rfl)) rfl ?_
  exact ⟨rfl, ((Below.refl _ _).alloc (Nat.le_refl _) _).alloc (by simp) _⟩
set_option maxRecDepth 100000 in
set_option maxHeartbeats 1600000 in
theorem tag_own (nm vl : ByteArray) (k q i j : Nat) (hi : i < 5) (hj : j < 8) (h5 : (k : Int).tmod 5 = (i : Int)) (hq : (k : Int) / 5 = (q : Int)) (hw : IntKind.u8.wrap (q : Int) = (q : Int)) (h8 : (q : Int).tmod 8 = (j : Int)) (W : World) :
    Calls Tryz.prog 26 #[.agg #[.string nm, .string vl, .bool true, .int .u8 (k : Int)]] W fun e w' => e = .returned (.agg #[.string (tagNs.getD i .empty), .string (tagVs.getD j .empty)]) ∧ Below W.heap.size W w' := by
  have iI : (i : Int) < 5 := by omega
  have jI : (j : Int) < 8 := by omega
  have hwi : IntKind.u8.wrap (i : Int) = (i : Int) := by rw [IntKind.wrap_u8]; omega
  have hwj : IntKind.u8.wrap (j : Int) = (j : Int) := by rw [IntKind.wrap_u8]; omega
  have H : ∀ (w2 : World) (g : Nat) (hg : g = w2.heap.size),
      (w2.alloc (.cells (tagNs.map Value.string).toArray 9)).cell? ⟨g, i, none⟩ = some (.string (tagNs.getD i .empty)) ∧
      ((w2.alloc (.cells (tagNs.map Value.string).toArray 9)).alloc (.cells (tagVs.map Value.string).toArray 9)).cell? ⟨g, i, none⟩ = some (.string (tagNs.getD i .empty)) ∧
      ((w2.alloc (.cells (tagVs.map Value.string).toArray 9)).alloc (.cells (tagNs.map Value.string).toArray 9)).cell? ⟨g + 1, i, none⟩ = some (.string (tagNs.getD i .empty)) ∧
      (w2.alloc (.cells (tagVs.map Value.string).toArray 9)).cell? ⟨g, j, none⟩ = some (.string (tagVs.getD j .empty)) ∧
      ((w2.alloc (.cells (tagVs.map Value.string).toArray 9)).alloc (.cells (tagNs.map Value.string).toArray 9)).cell? ⟨g, j, none⟩ = some (.string (tagVs.getD j .empty)) ∧
      ((w2.alloc (.cells (tagNs.map Value.string).toArray 9)).alloc (.cells (tagVs.map Value.string).toArray 9)).cell? ⟨g + 1, j, none⟩ = some (.string (tagVs.getD j .empty)) := by
    intro w2 g hg
    have a1 := tlit w2 tagNs g hg i hi
    have a2 := tlit w2 tagVs g hg j hj
    exact ⟨a1, told _ _ g i (by rw [hg]; simp) a1, tlit _ tagNs (g + 1) (by rw [hg]; simp) i hi, a2, told _ _ g j (by rw [hg]; simp) a2, tlit _ tagVs (g + 1) (by rw [hg]; simp) j hj⟩
  have H2 := H ((W.alloc (.cells #[.string nm, .string vl, .bool true, .int .u8 (k : Int)] 71)).alloc (.cells #[.string ⟨#[]⟩, .string ⟨#[]⟩] 53)) (W.heap.size + 1 + 1) (by simp)
  obtain ⟨y, hy⟩ : ∃ y, tagNs.getD i .empty = y := ⟨_, rfl⟩
  obtain ⟨z, hz⟩ : ∃ y, tagVs.getD j .empty = y := ⟨_, rfl⟩
  rw [hy, hz] at H2 ⊢
  obtain ⟨c1, c2, c3, c4, c5, c6⟩ := H2
  simp only [tagNs, tagVs, List.map_cons, List.map_nil] at c1 c2 c3 c4 c5 c6
  clear hy hz H hi hj
  go_enter Tryz.func26, Tryz.ntmps26
  go_wp2
  go_region
  all_goals
    go_wp2
    refine bodyPost_ret (results_cell_row rfl _ _ (W.heap.size + 1) 53 #[.string y, .string z] (0, 0) _ rfl (((blk_next W _ _ _).alloc _).alloc _) Tryz.underlying53 rfl (by kernel_rfl)) rfl ?_
    exact ⟨rfl, below_drewN (((((Below.refl _ _).alloc (Nat.le_refl _) _).alloc (by simp) _).alloc (by simp; omega) _).alloc (by simp; omega) _) 1⟩
theorem tag_any (t : TagB) (hk : t.k < 256) (W : World) :
    Calls Tryz.prog 26 #[.agg #[.string t.nm, .string t.vl, .bool t.own, .int .u8 (t.k : Int)]] W fun e w' => e = .returned (.agg #[.string (tagP t).1, .string (tagP t).2]) ∧ Below W.heap.size W w' := by
  obtain ⟨nm, vl, own, k⟩ := t
  cases own with
  | false => exact tag_as nm vl k W
  | true =>
    have hk' : k < 256 := hk
    exact tag_own nm vl k (k / 5) (k % 5) (k / 5 % 8) (by omega) (by omega) (by rw [Int.tmod_eq_emod_of_nonneg (by omega)]; omega) (by omega) (by rw [IntKind.wrap_u8]; omega) (by rw [Int.tmod_eq_emod_of_nonneg (by omega)]; omega) W
def TagsP (w : World) (A : Option Addr) (n : Nat) (ts : List TagB) : Prop :=
  ts.length = n ∧ (∀ t ∈ ts, t.k < 256) ∧ (0 < n → ∃ b off, A = some ⟨b, off, none⟩ ∧ b < w.heap.size ∧ ∀ j, j < n →
    w.cell? ⟨b, off + j * 4, none⟩ = some (.string (ts.getD j default).nm) ∧ w.cell? ⟨b, off + j * 4 + 1, none⟩ = some (.string (ts.getD j default).vl) ∧
    w.cell? ⟨b, off + j * 4 + 2, none⟩ = some (.bool (ts.getD j default).own) ∧ w.cell? ⟨b, off + j * 4 + 3, none⟩ = some (.int .u8 ((ts.getD j default).k : Int)))
theorem TagsP.below {w w' : World} {A : Option Addr} {n : Nat} {ts : List TagB} (h : TagsP w A n ts) (hb : Below w.heap.size w w') : TagsP w' A n ts :=
  ⟨h.1, h.2.1, fun hn => by
    obtain ⟨b, off, e, hlt, hc⟩ := h.2.2 hn
    exact ⟨b, off, e, Nat.lt_of_lt_of_le hlt hb.size, fun j hj => ⟨(hb.cell (p := ⟨b, off + j * 4, none⟩) hlt).trans (hc j hj).1, (hb.cell (p := ⟨b, off + j * 4 + 1, none⟩) hlt).trans (hc j hj).2.1, (hb.cell (p := ⟨b, off + j * 4 + 2, none⟩) hlt).trans (hc j hj).2.2.1, (hb.cell (p := ⟨b, off + j * 4 + 3, none⟩) hlt).trans (hc j hj).2.2.2⟩⟩⟩
theorem tags_none (w : World) : TagsP w none 0 [] := ⟨rfl, fun _ h => by (cases h), fun h => absurd h (by omega)⟩
def tagsL (ts : List TagB) (most : Nat) : List PairB := (ts.take most).map tagP
theorem tagsL_len (ts : List TagB) (most : Nat) : (tagsL ts most).length ≤ most := by
  unfold tagsL
  rw [List.length_map, List.length_take]
  omega
theorem tagsL_next (ts : List TagB) (j : Nat) (hj : j < ts.length) : tagsL ts (j + 1) = tagsL ts j ++ [tagP (ts.getD j default)] := by
  unfold tagsL
  rw [List.take_succ_eq_append_getElem hj, List.map_append, List.getD_eq_getElem?_getD, List.getElem?_eq_getElem hj]
  rfl
end Go.Proofs.YtbkpoimaienhpaaGreatDoor
