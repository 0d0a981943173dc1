-- shaken
import Derived.Test.YtdaainifkldcpaaGreatDoorScan
import Derived.Test.YtdaainifkldcpaaGreatDoorBase
import Derived.Shelf.SlSortCmp.QuietGrown
import Derived.Lib.AppendIntMem
import Derived.Lib.Bytealg
import GoSem.Op.String
namespace Go.Proofs.YtdaainifkldcpaaGreatDoor
open Go.RowKit Go.Sort
set_option linter.unusedVariables false
set_option linter.unusedSimpArgs false
abbrev PairB := ByteArray × ByteArray
def pnil : PairB := (.empty, .empty)
def Pairs (w : World) (A : Option Addr) (n : Nat) (ps : List PairB) : Prop :=
  ps.length = n ∧ (0 < n → ∃ b off, A = some ⟨b, off, none⟩ ∧ b < w.heap.size ∧ ∀ j, j < n → w.cell? ⟨b, off + j * 2, none⟩ = some (.string (ps.getD j pnil).1) ∧ w.cell? ⟨b, off + j * 2 + 1, none⟩ = some (.string (ps.getD j pnil).2))
theorem Pairs.below {w w' : World} {A : Option Addr} {n : Nat} {ps : List PairB} (h : Pairs w A n ps) (hb : Below w.heap.size w w') : Pairs w' A n ps :=
  ⟨h.1, fun hn => by
    obtain ⟨b, off, e, hlt, hc⟩ := h.2 hn
    exact ⟨b, off, e, Nat.lt_of_lt_of_le hlt hb.size, fun j hj => ⟨(hb.cell (p := ⟨b, off + j * 2, none⟩) hlt).trans (hc j hj).1, (hb.cell (p := ⟨b, off + j * 2 + 1, none⟩) hlt).trans (hc j hj).2⟩⟩⟩
theorem pairs_none (w : World) : Pairs w none 0 [] := ⟨rfl, fun h => absurd h (by omega)⟩
theorem Pairs.less {w : World} {A : Option Addr} {n m : Nat} {ps : List PairB} (h : Pairs w A n ps) (hm : m ≤ n) : Pairs w A m (ps.take m) :=
  ⟨by rw [List.length_take, h.1]; omega, fun hp => by
    obtain ⟨b, off, e, hlt, hc⟩ := h.2 (by omega)
    refine ⟨b, off, e, hlt, fun j hj => ?_⟩
    have e2 : (ps.take m).getD j pnil = ps.getD j pnil := by rw [List.getD_eq_getElem?_getD, List.getD_eq_getElem?_getD, List.getElem?_take_of_lt hj]
    rw [e2]
    exact hc j (by omega)⟩
def nameB (s : ByteArray) : Bool := decide (0 < s.size) && (decide (s.size ≤ 32) && ((s.data.toList.head?.all fun c => !goodK [0] c) && s.data.toList.all (goodK [0, 1, 2])))
theorem nameB_none {s : ByteArray} (h : s.size = 0) : nameB s = false := by unfold nameB; rw [decide_eq_false (by omega)]; rfl
theorem nameB_long {s : ByteArray} (h : 32 < s.size) : nameB s = false := by unfold nameB; rw [decide_eq_true (by omega), decide_eq_false (by omega)]; rfl
theorem bytes_at0 (s : ByteArray) (h : 0 < s.size) : ∃ r, s.data.toList = s[0] :: r := by
  have hl : 0 < s.data.toList.length := by rw [size_toList]; exact h
  cases hs : s.data.toList with
  | nil => rw [hs] at hl; cases hl
  | cons c r =>
    refine ⟨r, ?_⟩
    have : s.data.toList[0] = c := by simp only [hs, List.getElem_cons_zero]
    rw [show s[0] = s.data.toList[0] from rfl, this]
theorem nameB_digit {s : ByteArray} (h : 0 < s.size) (hd : goodK [0] s[0] = true) : nameB s = false := by
  obtain ⟨r, hr⟩ := bytes_at0 s h
  unfold nameB
  rw [hr]
  simp [hd]
theorem nameB_rest {s : ByteArray} (h : 0 < s.size) (h2 : s.size ≤ 32) (hd : goodK [0] s[0] = false) : nameB s = s.data.toList.all (goodK [0, 1, 2]) := by
  obtain ⟨r, hr⟩ := bytes_at0 s h
  unfold nameB
  rw [decide_eq_true h, decide_eq_true h2, hr]
  simp [hd]
theorem goodK_any (ks : List Int) (c : UInt8) : (ks.any fun k => kindB k c.toNat) = goodK ks c := rfl
def Grown (W w : World) : Prop := ∃ q os, w = grow (W.drewN q) os
theorem Grown.refl (W : World) : Grown W W := ⟨0, #[], by rw [grow_empty]; rfl⟩
theorem Grown.alloc {W w : World} (h : Grown W w) (o : Obj) : Grown W (w.alloc o) := by
  obtain ⟨q, os, rfl⟩ := h
  exact ⟨q, os ++ #[o], by rw [alloc_eq_grow, grow_grow]⟩
theorem Grown.below {W w : World} (h : Grown W w) : Below W.heap.size W w := by
  obtain ⟨q, os, rfl⟩ := h
  exact Go.Lib.below_grow _ _ (Nat.le_refl _) _ _
set_option maxRecDepth 100000 in
set_option maxHeartbeats 1600000 in
theorem name_grown (s : ByteArray) (W : World) :
    Calls Tryz.prog 106 #[.string s] W fun e w' => e = .returned (.bool (nameB s)) ∧ Grown W w' := by
  by_cases h0 : s.size = 0
  · have E := Lib.hid (nameB_none h0)
    have hem : s.toList = [] := by rw [Lib.toList_data]; exact List.eq_nil_of_length_eq_zero (by rw [size_toList]; exact h0)
    have hem2 : s.toList.isEmpty = true := by rw [hem]; rfl
    clear h0
    go_enter Tryz.func106, Tryz.ntmps106
    go_wp2
    go_ret
    exact ⟨ret_bool E.out.symm, Grown.refl _⟩
  · have hp : 0 < s.size := by omega
    have hem : ¬ s.toList = [] := by
      rw [Lib.toList_data]
      intro h
      exact h0 (by rw [← size_toList, h]; rfl)
    have hem2 : s.toList.isEmpty = false := by
      cases h : s.toList.isEmpty with
      | false => rfl
      | true => exact absurd (List.isEmpty_iff.1 h) hem
    by_cases h32 : 32 < s.size
    · have E := Lib.hid (nameB_long h32)
      have hI : (32 : Int) < (s.size : Int) := by omega
      clear h0
      go_enter Tryz.func106, Tryz.ntmps106
      go_wp2
      go_ret
      exact ⟨ret_bool E.out.symm, Grown.refl _⟩
    · have hI : ¬ (32 : Int) < (s.size : Int) := by omega
      have hpI : (0 : Int) < (s.size : Int) := by omega
      have E1 := Lib.hid (nameB_digit hp)
      have E2 := Lib.hid (nameB_rest hp (by omega))
      obtain ⟨c0, hc0⟩ : ∃ c, s[0] = c := ⟨_, rfl⟩
      replace E1 := Lib.hid (hc0 ▸ E1.out)
      replace E2 := Lib.hid (hc0 ▸ E2.out)
      have hc0l := c0.toNat_lt
      have D0 := is_any c0.toNat hc0l (some ⟨W.heap.size, 0, none⟩) 1 1 [0] (by decide) _ (ints_lit W 256 [0] (by decide) _ rfl)
      rw [goodK_any] at D0
      obtain ⟨g0, hg0⟩ : ∃ b, goodK [0] c0 = b := ⟨_, rfl⟩
      rw [hg0] at D0
      replace D0 := Lib.hid D0
      cases g0 with
      | true =>
        have E := Lib.hid (E1.out hg0)
        clear h0 h32 hg0
        go_enter Tryz.func106, Tryz.ntmps106
        go_wp2_with fail
        refine D0.out.mono ?_
        rintro e w ⟨rfl, rfl⟩
        go_wp2
        go_ret
        exact ⟨ret_bool E.out.symm, (Grown.refl _).alloc _⟩
      | false =>
        have E := Lib.hid (E2.out hg0)
        clear h0 h32 hg0
        go_enter Tryz.func106, Tryz.ntmps106
        go_wp2_with fail
        refine D0.out.mono ?_
        rintro e w ⟨rfl, rfl⟩
        go_wp2
        go_loopw [19] (fun iv wr => ∃ k : Nat, k ≤ s.size ∧ iv = .int .i64 k ∧ Hid ((s.data.toList.take k).all (goodK [0, 1, 2]) = true) ∧ Hid (Grown W wr)) (fun iv _ => s.size - (intOf iv).toNat)
        case atStart => exact ⟨0, Nat.zero_le _, rfl, Lib.hid rfl, Lib.hid ((Grown.refl _).alloc _)⟩
        case round =>
          obtain ⟨k, hk, rfl, HK, hb⟩ := hrel
          by_cases hks : k < s.size
          · obtain ⟨c, hc⟩ : ∃ c, s[k] = c := ⟨_, rfl⟩
            have hcl := c.toNat_lt
            have hsn : s.data.toList.take (k + 1) = s.data.toList.take k ++ [c] := by
              rw [List.take_succ_eq_append_getElem (by rw [size_toList]; exact hks), ← hc]
              rfl
            have hmem : c ∈ s.data.toList := by
              rw [← hc]
              exact List.getElem_mem (by rw [size_toList]; exact hks)
            have D := is_any c.toNat hcl (some ⟨wr.heap.size, 0, none⟩) 3 3 [0, 1, 2] (by decide) _ (ints_lit wr 256 [0, 1, 2] (by decide) _ rfl)
            rw [goodK_any] at D
            obtain ⟨g, hg⟩ : ∃ b, goodK [0, 1, 2] c = b := ⟨_, rfl⟩
            rw [hg] at D
            replace D := Lib.hid D
            have hkI : (k : Int) < (s.size : Int) := by omega
            cases g with
            | true =>
              have HN := Lib.hid (show (s.data.toList.take (k + 1)).all (goodK [0, 1, 2]) = true by rw [hsn, List.all_append, HK.out]; simp [hg])
              clear hsn hmem hg
              go_wp2_with fail
              refine D.out.mono ?_
              rintro e w ⟨rfl, rfl⟩
              go_wp2
              go_round
              case rel => exact ⟨k + 1, by omega, by go_num, HN, Lib.hid (hb.out.alloc _)⟩
              case measure => simp [intOf]; omega
            | false =>
              have E3 := Lib.hid (show nameB s = false by
                rw [E.out]
                cases h : s.data.toList.all (goodK [0, 1, 2]) with
                | false => rfl
                | true => rw [List.all_eq_true.1 h c hmem] at hg; cases hg)
              clear hsn hmem hg
              go_wp2_with fail
              refine D.out.mono ?_
              rintro e w ⟨rfl, rfl⟩
              go_wp2
              go_ret
              exact ⟨ret_bool E3.out.symm, hb.out.alloc _⟩
          · obtain rfl : k = s.size := by omega
            have hs := HK.out
            rw [List.take_of_length_le (by rw [size_toList]; exact Nat.le_refl _)] at hs
            have E3 := Lib.hid (show nameB s = true by rw [E.out, hs])
            clear hs hks
            go_wp2
            go_ret
            exact ⟨ret_bool E3.out.symm, hb.out⟩
theorem name_any (s : ByteArray) (W : World) :
    Calls Tryz.prog 106 #[.string s] W fun e w' => e = .returned (.bool (nameB s)) ∧ Below W.heap.size W w' :=
  (name_grown s W).mono fun _ _ ⟨he, hg⟩ => ⟨he, hg.below⟩
structure Ord3 {α : Type} (f : α → α → Int) : Prop where
  anti : ∀ a b, f a b = - f b a
  zero : ∀ a b, f a b = 0 → a = b
  trans : ∀ a b c, f a b ≤ 0 → f b c ≤ 0 → f a c ≤ 0
theorem Ord3.refl {α : Type} {f : α → α → Int} (h : Ord3 f) (a : α) : f a a = 0 := by have := h.anti a a; omega
theorem Ord3.less {α : Type} {f : α → α → Int} (h : Ord3 f) {a b c : α} (h1 : f a b < 0) (h2 : f b c ≤ 0) : f a c < 0 := by
  have h3 := h.trans a b c (by omega) h2
  rcases (by omega : f a c < 0 ∨ f a c = 0) with h4 | h4
  · exact h4
  · rw [h.zero a c h4] at h1
    have := h.anti c b
    omega
def lexC {α : Type} (f : α → α → Int) : List α → List α → Int
  | [], [] => 0
  | [], _ :: _ => -1
  | _ :: _, [] => 1
  | a :: l, b :: m => if f a b = 0 then lexC f l m else f a b
theorem Ord3.lex {α : Type} {f : α → α → Int} (h : Ord3 f) : Ord3 (lexC f) := by
  refine ⟨?_, ?_, ?_⟩
  · intro a
    induction a with
    | nil => intro b; cases b <;> rfl
    | cons x a ih =>
      intro b
      cases b with
      | nil => rfl
      | cons y b =>
        have := h.anti x y
        unfold lexC
        by_cases h0 : f x y = 0
        · rw [if_pos h0, if_pos (by omega)]; exact ih b
        · rw [if_neg h0, if_neg (by omega)]; exact this
  · intro a
    induction a with
    | nil => intro b e; cases b with
      | nil => rfl
      | cons y b => unfold lexC at e; omega
    | cons x a ih =>
      intro b e
      cases b with
      | nil => unfold lexC at e; omega
      | cons y b =>
        unfold lexC at e
        by_cases h0 : f x y = 0
        · rw [if_pos h0] at e
          rw [h.zero x y h0, ih b e]
        · rw [if_neg h0] at e; exact absurd e h0
  · intro a
    induction a with
    | nil => intro b c _ _; cases c <;> unfold lexC <;> omega
    | cons x a ih =>
      intro b c h1 h2
      cases b with
      | nil => unfold lexC at h1; omega
      | cons y b =>
        cases c with
        | nil => unfold lexC at h2; omega
        | cons z c =>
          unfold lexC at h1 h2 ⊢
          by_cases hxy : f x y = 0
          · rw [if_pos hxy] at h1
            have e := h.zero x y hxy
            subst e
            by_cases hxz : f x z = 0
            · rw [if_pos hxz] at h2 ⊢
              exact ih b c h1 h2
            · rw [if_neg hxz] at h2 ⊢
              exact h2
          · rw [if_neg hxy] at h1
            have hlt : f x y < 0 := by omega
            have h3 : f x z < 0 := by
              by_cases hyz : f y z = 0
              · rw [← h.zero y z hyz]; exact hlt
              · rw [if_neg hyz] at h2
                exact h.less hlt h2
            rw [if_neg (by omega)]
            omega
def byteC (a b : UInt8) : Int := if a < b then -1 else if b < a then 1 else 0
theorem byteC_ord : Ord3 byteC := by
  have e : ∀ a b : UInt8, (a < b ↔ a.toNat < b.toNat) := fun a b => UInt8.lt_iff_toNat_lt
  refine ⟨?_, ?_, ?_⟩
  · intro a b
    unfold byteC
    simp only [e]
    split <;> split <;> (try split) <;> omega
  · intro a b h
    unfold byteC at h
    simp only [e] at h
    refine UInt8.toNat_inj.1 ?_
    split at h
    · omega
    · split at h <;> omega
  · intro a b c h1 h2
    unfold byteC at *
    simp only [e] at *
    split at h1 <;> split at h2 <;> (try split at h1) <;> (try split at h2) <;> split <;> (try split) <;> omega
theorem cmpB_lex : ∀ a b : List UInt8, Lib.compareBytes a b = lexC byteC a b
  | [], [] => rfl
  | [], _ :: _ => rfl
  | _ :: _, [] => rfl
  | x :: a, y :: b => by
    have ih := cmpB_lex a b
    have hb : byteC x y = if x < y then -1 else if y < x then 1 else 0 := rfl
    unfold Lib.compareBytes lexC
    rw [hb]
    by_cases h1 : x < y
    · simp [h1]
    · by_cases h2 : y < x
      · simp [h1, h2]
      · simp [h1, h2, ih]
theorem cmpB_ord : Ord3 Lib.compareBytes := by
  have e : Lib.compareBytes = lexC byteC := by funext a b; exact cmpB_lex a b
  rw [e]
  exact byteC_ord.lex
theorem cmpB_vals : ∀ a b : List UInt8, Lib.compareBytes a b = -1 ∨ Lib.compareBytes a b = 0 ∨ Lib.compareBytes a b = 1
  | [], [] => .inr (.inl rfl)
  | [], _ :: _ => .inl rfl
  | _ :: _, [] => .inr (.inr rfl)
  | x :: a, y :: b => by
    have ih := cmpB_vals a b
    unfold Lib.compareBytes
    split
    · exact .inl rfl
    · split
      · exact .inr (.inr rfl)
      · exact ih
theorem less_cmpB : ∀ a b : List UInt8, Op.bytesLess a b = decide (Lib.compareBytes a b < 0)
  | [], [] => rfl
  | [], _ :: _ => rfl
  | _ :: _, [] => rfl
  | x :: a, y :: b => by
    have ih := less_cmpB a b
    unfold Op.bytesLess Lib.compareBytes
    by_cases h1 : x < y
    · simp [h1]
    · by_cases h2 : y < x
      · have h3 : ¬ x = y := fun h => by rw [h] at h2; exact absurd h2 (UInt8.lt_irrefl y)
        simp [h1, h2, h3]
      · have h3 : x = y := UInt8.le_antisymm (UInt8.not_lt.1 h2) (UInt8.not_lt.1 h1)
        simp [h1, h2, h3, ih]
def txtC (a b : ByteArray) : Int := Lib.compareBytes a.data.toList b.data.toList
theorem txtC_ord : Ord3 txtC := ⟨fun a b => cmpB_ord.anti _ _, fun a b h => text_ext1 (cmpB_ord.zero _ _ h), fun a b c => cmpB_ord.trans _ _ _⟩
theorem txtC_vals (a b : ByteArray) : txtC a b = -1 ∨ txtC a b = 0 ∨ txtC a b = 1 := cmpB_vals _ _
theorem less_txtC (a b : ByteArray) : Op.bytesLess a.toList b.toList = decide (txtC a b < 0) := by
  rw [Lib.toList_data, Lib.toList_data]
  exact less_cmpB _ _
def pairC (p q : PairB) : Int := if txtC p.1 q.1 = 0 then txtC p.2 q.2 else txtC p.1 q.1
theorem pairC_ord : Ord3 pairC := by
  refine ⟨?_, ?_, ?_⟩
  · intro a b
    have h1 := txtC_ord.anti a.1 b.1
    have h2 := txtC_ord.anti a.2 b.2
    unfold pairC
    by_cases h0 : txtC a.1 b.1 = 0
    · rw [if_pos h0, if_pos (by omega)]; exact h2
    · rw [if_neg h0, if_neg (by omega)]; exact h1
  · intro a b h
    unfold pairC at h
    by_cases h0 : txtC a.1 b.1 = 0
    · rw [if_pos h0] at h
      exact Prod.ext (txtC_ord.zero _ _ h0) (txtC_ord.zero _ _ h)
    · rw [if_neg h0] at h; exact absurd h h0
  · intro a b c h1 h2
    unfold pairC at h1 h2 ⊢
    by_cases hab : txtC a.1 b.1 = 0
    · rw [if_pos hab] at h1
      rw [← txtC_ord.zero _ _ hab] at h2
      by_cases hac : txtC a.1 c.1 = 0
      · rw [if_pos hac] at h2 ⊢
        exact txtC_ord.trans _ _ _ h1 h2
      · rw [if_neg hac] at h2 ⊢
        exact h2
    · rw [if_neg hab] at h1
      have hlt : txtC a.1 c.1 < 0 := by
        by_cases hbc : txtC b.1 c.1 = 0
        · rw [← txtC_ord.zero _ _ hbc]; omega
        · rw [if_neg hbc] at h2
          exact txtC_ord.less (by omega) h2
      rw [if_neg (by omega)]
      omega
theorem pairC_vals (p q : PairB) : pairC p q = -1 ∨ pairC p q = 0 ∨ pairC p q = 1 := by
  unfold pairC
  split
  · exact txtC_vals _ _
  · exact txtC_vals _ _
def orderL (a b : List PairB) : Int := lexC pairC a b
theorem orderL_ord : Ord3 orderL := pairC_ord.lex
theorem orderL_vals : ∀ a b : List PairB, orderL a b = -1 ∨ orderL a b = 0 ∨ orderL a b = 1
  | [], [] => .inr (.inl rfl)
  | [], _ :: _ => .inl rfl
  | _ :: _, [] => .inr (.inr rfl)
  | x :: a, y :: b => by
    have ih := orderL_vals a b
    unfold orderL at ih ⊢
    rw [lexC]
    split
    · exact ih
    · exact pairC_vals _ _
end Go.Proofs.YtdaainifkldcpaaGreatDoor
