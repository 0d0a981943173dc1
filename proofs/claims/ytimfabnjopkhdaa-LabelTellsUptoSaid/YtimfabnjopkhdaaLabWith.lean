/- The library's contract of a slice of labels that is made room in, at this dump.
   Sets with more labels. -/
import Derived.Test.YtimfabnjopkhdaaProg
import Derived.Test.YtimfabnjopkhdaaLabOf
import Derived.Shelf.Spec.SlicesGrow
import Derived.Laws.AppendOwnNone
namespace Go.Proofs
set_option linter.unusedVariables false
set_option linter.unusedSimpArgs false
open Go.Shelf
def Try.growPair_ren : Go.Shelf.Ren := ⟨fun | 4 => 54 | n => n, fun | 22 => 31 | 25 => 29 | 3 => 3 | 4 => 4 | 9 => 9 | 20 => 20 | 0 => 0 | n => n, fun | n => n⟩
theorem Try.growPair : Go.Proofs.Lays8.n4 Try.prog Try.growPair_ren := {
  mixed := by kernel_rfl
  f4 := ⟨Try.f54.name, by decide, Try.func54.trans (congrArg some (by kernel_rfl))⟩
  t0 := Try.underlying0
  a0 := Try.isAgg0
  z0 := Try.sizeOf0
  v0 := Try.zeroValue0
  t3 := Try.underlying3
  a3 := Try.isAgg3
  z3 := Try.sizeOf3
  v3 := Try.zeroValue3
  t4 := Try.underlying4
  a4 := Try.isAgg4
  z4 := Try.sizeOf4
  v4 := Try.zeroValue4
  t9 := Try.underlying9
  a9 := Try.isAgg9
  z9 := Try.sizeOf9
  v9 := Try.zeroValue9
  t20 := Try.underlying20
  a20 := Try.isAgg20
  z20 := Try.sizeOf20
  v20 := Try.zeroValue20
  t22 := Try.underlying31
  a22 := Try.isAgg31
  z22 := Try.sizeOf31
  v22 := Try.zeroValue31 }
end Go.Proofs
namespace Go.Proofs.Ytimfabnjopkhdaa
open Go.RowKit Go.Sort
set_option linter.unusedVariables false
set_option linter.unusedSimpArgs false

theorem pVs_one (l : List PairB) : ∀ v ∈ pVs l, v.oneCell' = true := by
  intro v hv
  simp only [pVs, List.mem_flatMap] at hv
  obtain ⟨p, _, hp⟩ := hv
  exact pairV_one p v hp
/-- room for k labels -/
theorem grow_any (k : Nat) (hk : k ≤ 1000) (W : World) :
    Calls Try.prog 54 #[.slice none 0 0, .int .i64 k] W fun e w' => ∃ v, e = .returned v ∧ OwnP w' W.heap.size v [] ∧ Below W.heap.size W w' := by
  by_cases h0 : k = 0
  · subst h0
    refine (Any8.slices_Grow_room Try.growPair none 0 0 0 W (Nat.le_refl _) (by decide) (by decide) (by decide)).mono ?_
    rintro e w' ⟨rfl, rfl⟩
    exact ⟨_, rfl, OwnP.nil _ _, Below.refl _ _⟩
  · obtain ⟨i0, hi, hz0, hz1, hz2⟩ := info_parts infoPair
    have h := Any8.slices_Grow_grow Try.growPair i0 (.agg #[.string ⟨#[]⟩, .string ⟨#[]⟩]) hi hz0 (by rw [hz1]; decide) none 0 0 k [] W (Nat.le_refl _) (by omega) (by rw [hz2]; omega) (by omega) (by simp) (fun _ => rfl) (fun a h => by cases h)
    refine h.mono ?_
    rintro e w' ⟨rfl, rfl⟩
    obtain ⟨gc, hgc⟩ : ∃ x, grownCap W (0 + k) 0 (Try.growPair_ren.t 25) = x := ⟨_, rfl⟩
    have g1 := grownCap_ge W (0 + k) 0 (Try.growPair_ren.t 25)
    have g2 := grownCap_le_maxLen W (0 + k) 0 (Try.growPair_ren.t 25) (by unfold maxLen; omega)
    rw [hgc] at g1 g2 ⊢
    refine ⟨_, rfl, ⟨rfl, .inr ⟨_, gc, _, rfl, Nat.le_refl _, (heap_alloc_new W.drew _), Nat.zero_le _, g2, ?_, rfl⟩⟩, ((below_drewN (Below.refl W.heap.size W) 1).alloc (Nat.le_refl _) _)⟩
    rw [Array.size_append, Array.size_append, size_zeroCells, size_zeroCells]
    show (0 + (0 + k - 0) * 2) + (gc - (0 + k)) * 2 = gc * 2
    omega
theorem OwnP.more {w : World} {B : Nat} {v : Value} {l m : List PairB} {n : Nat} (hm : m.length = n) (h : w.ownsRow B 29 2 v (l.length + n) (pVs l ++ pVs m)) : OwnP w B v (l ++ m) := by
  unfold OwnP
  rw [List.length_append, pVs_app, hm]
  exact h
/-- labels that can be appended -/
def Src (w : World) (A : Option Addr) (n c : Nat) (ps : List PairB) : Prop := ps.length = n ∧ ((A = none ∧ n = 0 ∧ c = 0) ∨ ∃ ad, A = some ad ∧ ∀ t u, (pVs ps)[t]? = some u → w.cell? (ad.add t) = some u)
theorem Pairs.src {w : World} {A : Option Addr} {n : Nat} (c : Nat) {ps : List PairB} (h : Pairs w A n ps) (hA : A = none → n = 0 ∧ c = 0) : Src w A n c ps := by
  refine ⟨h.1, ?_⟩
  cases A with
  | none => exact .inl ⟨rfl, hA rfl⟩
  | some ad =>
    refine .inr ⟨ad, rfl, fun t u hu => ?_⟩
    have ht : t < n * 2 := by
      rcases Nat.lt_or_ge t (n * 2) with h1 | h1
      · exact h1
      · rw [List.getElem?_eq_none (by rw [pVs_len, h.1]; exact h1)] at hu; cases hu
    obtain ⟨b, off, e, _, hc⟩ := h.2 (by omega)
    injection e with e
    subst e
    rw [pVs_at ps t (by rw [h.1]; exact ht)] at hu
    injection hu with hu
    obtain ⟨c0, c1⟩ := hc (t / 2) (by omega)
    rw [ints_add, ← hu]
    rcases (by omega : t % 2 = 0 ∨ t % 2 = 1) with h2 | h2
    · rw [h2, show off + t = off + t / 2 * 2 by omega]; exact c0
    · rw [h2, show off + t = off + t / 2 * 2 + 1 by omega]; exact c1

set_option maxRecDepth 100000 in
set_option maxHeartbeats 1600000 in
theorem concat_any (g : Nat) (A B : Option Addr) (n m c d : Nat) (ps qs : List PairB) (hn : n ≤ 400) (hm : m ≤ 400) (W : World) (h1 : Pairs W A n ps) (h2 : Pairs W B m qs) (hA : A = none → n = 0 ∧ c = 0) (hB : B = none → m = 0 ∧ d = 0) (hg : g < W.heap.size) (k0 : W.cell? ⟨g, 0, none⟩ = some (.slice A n c)) (k1 : W.cell? ⟨g, 1, none⟩ = some (.slice B m d)) :
    Calls Try.prog 36 #[.slice (some ⟨g, 0, none⟩) 2 2] W fun e w' => ∃ v, e = .returned v ∧ OwnP w' W.heap.size v (ps ++ qs) ∧ Below W.heap.size W w' := by
  obtain ⟨i0, hi, hz0, hz1, hz2⟩ := info_parts infoPair
  have H1 := Lib.hid h1
  have H2 := Lib.hid h2
  have HA := Lib.hid hA
  have HB := Lib.hid hB
  have l1 := Lib.hid h1.1
  have l2 := Lib.hid h2.1
  clear h1 h2 hA hB
  go_enter Try.func36, Try.ntmps36
  go_wp2
  go_loopw [3, 11] (fun sv iv wr => ∃ j s : Nat, iv = .int .i64 j ∧ sv = .int .i64 s ∧ Hid ((j = 0 ∧ s = 0) ∨ (j = 1 ∧ s = n) ∨ (j = 2 ∧ s = n + m)) ∧ wr = W) (fun _ iv _ => 2 - (intOf iv).toNat)
  case atStart => exact ⟨0, 0, rfl, rfl, Lib.hid (.inl ⟨rfl, rfl⟩), rfl⟩
  case round =>
    obtain ⟨j, s, rfl, rfl, HJ, hwr⟩ := hrel
    subst wr
    rcases HJ.out with ⟨rfl, rfl⟩ | ⟨rfl, rfl⟩ | ⟨rfl, rfl⟩
    · have q1 : IntKind.i64.wrap (n : Int) = (n : Int) := by rw [IntKind.wrap_i64]; omega
      have q2 : ¬ (n : Int) < 0 := by omega
      go_wp2
      go_round
      case rel => exact ⟨1, n, by go_num, rfl, Lib.hid (.inr (.inl ⟨rfl, rfl⟩)), trivial⟩
      case measure => simp [intOf]
    · have q1 : IntKind.i64.wrap ((s : Int) + (m : Int)) = (s : Int) + (m : Int) := by rw [IntKind.wrap_i64]; omega
      have q2 : ¬ (s : Int) + (m : Int) < 0 := by omega
      go_wp2
      go_round
      case rel => exact ⟨2, s + m, by go_num, by go_num, Lib.hid (.inr (.inr ⟨rfl, rfl⟩)), trivial⟩
      case measure => simp [intOf]
    · have GR := Lib.hid (grow_any (n + m) (by omega) W)
      replace GR := GR.out
      rw [show (((n + m : Nat) : Int)) = (n : Int) + (m : Int) by omega] at GR
      replace GR := Lib.hid GR
      go_wp2_with fail
      refine GR.out.mono ?_
      rintro e w2 ⟨v, rfl, hown, hb⟩
      have HO := Lib.hid hown
      have HB2 := Lib.hid hb
      clear hown hb
      go_wp2
      go_loopw [6, 27] (fun sv iv wr2 => ∃ (j : Nat) (acc : List PairB), iv = .int .i64 j ∧ Hid ((j = 0 ∧ acc = []) ∨ (j = 1 ∧ acc = ps) ∨ (j = 2 ∧ acc = ps ++ qs)) ∧ OwnP wr2 W.heap.size sv acc ∧ Below W.heap.size W wr2) (fun _ iv _ => 2 - (intOf iv).toNat)
      case atStart => exact ⟨0, [], rfl, Lib.hid (.inl ⟨rfl, rfl⟩), HO.out, HB2.out⟩
      case round =>
        obtain ⟨j, acc, rfl, HJ2, hown, hb⟩ := hrel
        have hsz := hb.size
        have k0' := (hb.cell (p := ⟨g, 0, none⟩) hg).trans k0
        have k1' := (hb.cell (p := ⟨g, 1, none⟩) hg).trans k1
        have hacc : acc.length ≤ 1000 := by
          rcases HJ2.out with ⟨_, h⟩ | ⟨_, h⟩ | ⟨_, h⟩
          · rw [h]; simp
          · rw [h, l1.out]; omega
          · rw [h, List.length_append, l1.out, l2.out]; omega
        rcases HJ2.out with ⟨rfl, rfl⟩ | ⟨rfl, rfl⟩ | ⟨rfl, rfl⟩
        · skip
          rcases (Pairs.src c (H1.out.below hb) HA.out).2 with ⟨rfl, rfl, rfl⟩ | ⟨ad, rfl, hsrc⟩
          · have hnil : ps = [] := List.eq_nil_of_length_eq_zero l1.out
            have HN := Lib.hid hnil
            clear hnil
            go_wp2_with (at_builtin; refine wpList_append_own_none rfl (.tmp 31) (.tmp 32) 31 rfl W.heap.size 29 i0 2 Try.underlying31 hi _ _ _ rfl hown rfl ?_)
            go_wp2
            go_round
            case rel => exact ⟨_, _, _, ⟨1, rfl, ps, Lib.hid (.inr (.inl ⟨rfl, rfl⟩)), by rw [HN.out]; exact hown⟩, rfl, rfl, rfl⟩
            case measure => simp [intOf]
          · go_wp2_with (at_builtin; refine wpList_append_own _ rfl (.tmp 31) (.tmp 32) 31 rfl W.heap.size 29 i0 (.agg #[.string ⟨#[]⟩, .string ⟨#[]⟩]) 2 32 Try.underlying31 hi hz0 hz1 hz2 rfl (by decide) _ _ _ rfl hown ad n c (pVs ps) rfl (by rw [pVs_len, l1.out]) hsrc (pVs_one _) (by unfold maxLen; omega) (by omega) (by omega) ?_)
            intro v' w3 hown' hgrow _
            have hb3 := hb.grown hgrow hsz (fun r hr => (World.ownsRow.lt hown r hr).1)
            have hown3 := OwnP.more (l := []) l1.out (by simpa using hown')
            clear hown' hgrow
            go_wp2
            go_round
            case rel => exact ⟨1, ps, by go_num, Lib.hid (.inr (.inl ⟨rfl, rfl⟩)), hown3, hb3⟩
            case measure => simp [intOf]
        · skip
          rcases (Pairs.src d (H2.out.below hb) HB.out).2 with ⟨rfl, rfl, rfl⟩ | ⟨ad, rfl, hsrc⟩
          · have hnil : qs = [] := List.eq_nil_of_length_eq_zero l2.out
            have HN := Lib.hid hnil
            clear hnil
            go_wp2_with (at_builtin; refine wpList_append_own_none rfl (.tmp 31) (.tmp 32) 31 rfl W.heap.size 29 i0 2 Try.underlying31 hi _ _ _ rfl hown rfl ?_)
            go_wp2
            go_round
            case rel => exact ⟨_, _, _, ⟨2, rfl, acc ++ qs, Lib.hid (.inr (.inr ⟨rfl, rfl⟩)), by rw [HN.out, List.append_nil]; exact hown⟩, rfl, rfl, rfl⟩
            case measure => simp [intOf]
          · go_wp2_with (at_builtin; refine wpList_append_own _ rfl (.tmp 31) (.tmp 32) 31 rfl W.heap.size 29 i0 (.agg #[.string ⟨#[]⟩, .string ⟨#[]⟩]) 2 32 Try.underlying31 hi hz0 hz1 hz2 rfl (by decide) _ _ _ rfl hown ad m d (pVs qs) rfl (by rw [pVs_len, l2.out]) hsrc (pVs_one _) (by unfold maxLen; omega) (by omega) (by omega) ?_)
            intro v' w3 hown' hgrow _
            have hb3 := hb.grown hgrow hsz (fun r hr => (World.ownsRow.lt hown r hr).1)
            have hown3 := OwnP.more l2.out hown'
            clear hown' hgrow
            go_wp2
            go_round
            case rel => exact ⟨2, acc ++ qs, by go_num, Lib.hid (.inr (.inr ⟨rfl, rfl⟩)), hown3, hb3⟩
            case measure => simp [intOf]
        · go_wp2
          go_ret
          exact ⟨_, rfl, hown, hb⟩

set_option maxRecDepth 100000 in
set_option maxHeartbeats 800000 in
theorem with_any (A B : Option Addr) (n m c d : Nat) (ps qs : List PairB) (hn : n ≤ 400) (hm : m ≤ 400) (h20 : (namedL (ps ++ qs)).length < 20) (W : World) (h1 : Pairs W A n ps) (h2 : Pairs W B m qs) (hA : A = none → n = 0 ∧ c = 0) (hB : B = none → m = 0 ∧ d = 0) :
    Calls Try.prog 18 #[.slice A n c, .slice B m d] W fun e w' => ∃ v, e = .returned v ∧ OwnP w' W.heap.size v (ofL (ps ++ qs)) ∧ Below W.heap.size W w' := by
  have h0 : W.heap.size ≤ W.heap.size := Nat.le_refl _
  have B1 := Blk.new W 31 #[.slice A n c, .slice B m d]
  have hal : Below W.heap.size W (W.alloc (.cells #[.slice A n c, .slice B m d] 31)) := (Below.refl _ _).alloc (Nat.le_refl _) _
  have C := Lib.hid (concat_any W.heap.size A B n m c d ps qs hn hm (W.alloc (.cells #[.slice A n c, .slice B m d] 31)) (h1.below hal) (h2.below hal) hA hB (by simp) ((B1.cell 0).trans rfl) ((B1.cell 1).trans rfl))
  have HOF := Lib.hid (fun A2 k c2 w (hk : k ≤ 16777216) (h : Pairs w A2 k (ps ++ qs)) => of_labels A2 k c2 (ps ++ qs) hk h20 w h)
  have HLN := Lib.hid (show (ps ++ qs).length ≤ 800 by rw [List.length_append, h1.1, h2.1]; omega)
  obtain ⟨l, hl⟩ : ∃ l, ps ++ qs = l := ⟨_, rfl⟩
  rw [hl]
  replace C := C.out
  replace HOF := HOF.out
  replace HLN := HLN.out
  rw [hl] at C HLN
  simp only [hl] at HOF
  replace C := Lib.hid C
  replace HOF := Lib.hid HOF
  clear B1 h1 h2 hA hB h20 hl
  go_enter Try.func18, Try.ntmps18
  go_wp2_with fail
  refine C.out.mono ?_
  rintro e w ⟨v, rfl, hown, hx⟩
  have hb := hop hal h0 hx
  obtain ⟨A2, cap, rfl, _, hp⟩ := hown.pairs
  have HF := Lib.hid (HOF.out A2 l.length cap w (by omega) hp)
  clear hx hown hp
  go_wp2_with fail
  refine HF.out.mono ?_
  rintro e w2 ⟨v, rfl, hown, hx⟩
  have hb2 := hop hb h0 hx
  have ho2 := hown.mono hb.size
  clear hx hown
  go_wp2
  go_ret
  exact ⟨_, rfl, ho2, hb2⟩
end Go.Proofs.Ytimfabnjopkhdaa
