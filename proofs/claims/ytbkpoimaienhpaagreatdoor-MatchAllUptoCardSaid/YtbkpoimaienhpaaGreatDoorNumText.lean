-- shaken
import Derived.Test.YtbkpoimaienhpaaGreatDoorRows
import Derived.Test.YtbkpoimaienhpaaGreatDoorMem
import Derived.Test.YtbkpoimaienhpaaGreatDoorDigits
import Derived.Test.YtbkpoimaienhpaaGreatDoorShelf
import Derived.Lib.AppendIntMem
import Derived.Lib.AtoiErrMem
import Derived.Lib.SmallJoins
import Derived.Test.YtbkpoimaienhpaaGreatDoorBase
namespace Go.Proofs.YtbkpoimaienhpaaGreatDoor
open Go.RowKit
set_option linter.unusedVariables false
set_option linter.unusedSimpArgs false
structure LibIs (w : World) : Prop where
  tab : Lib.TabIs Tryz.prog w "internal/strconv.uint64pow10" .u64 Lib.pow10Tab
  syn : ∃ tp p, w.var? Tryz.prog "strconv.ErrSyntax" = some #[.iface tp p]
  rng : ∃ tp p, w.var? Tryz.prog "strconv.ErrRange" = some #[.iface tp p]
theorem libVar {w w' : World} {n : String} {cs : Array Value} (h : w.var? Tryz.prog n = some cs) (hb : Below w.heap.size w w') : w'.var? Tryz.prog n = some cs := by
  unfold World.var? at *
  cases hg : Tryz.prog.globalNamed n with
  | none => simp [hg] at h
  | some g =>
    simp only [hg, Option.bind_some] at h ⊢
    have hlt : g < w.heap.size := by
      rcases Nat.lt_or_ge g w.heap.size with h' | h'
      · exact h'
      · rw [Array.getElem?_eq_none h'] at h; simp at h
    rw [hb.block g hlt]
    exact h
theorem LibIs.below {w w' : World} (h : LibIs w) (hb : Below w.heap.size w w') : LibIs w' :=
  ⟨libVar h.tab hb, by obtain ⟨tp, p, e⟩ := h.syn; exact ⟨tp, p, libVar e hb⟩, by obtain ⟨tp, p, e⟩ := h.rng; exact ⟨tp, p, libVar e hb⟩⟩
theorem formatInt_any (n : Int) (h0 : -9223372036854775808 ≤ n) (h1 : n ≤ 9223372036854775807) (W : World) (hl : LibIs W) :
    Calls Tryz.prog 86 #[.int .i64 n, .int .i64 10] W fun e w' => e = .returned (.string (itoaS n)) ∧ Below W.heap.size W w' :=
  (Tryz.strconv_FormatInt_10 n h0 h1 W hl.tab).mono fun e w' ⟨he, k, os, hw⟩ => ⟨he, by subst hw; exact Lib.below_grow _ _ (Nat.le_refl _) k os⟩
theorem text_any (n : Int) (h0 : -9223372036854775808 ≤ n) (h1 : n ≤ 9223372036854775807) (W : World) (hl : LibIs W) :
    Calls Tryz.prog 63 #[.int .i64 n] W fun e w' => e = .returned (.string (itoaS n)) ∧ Below W.heap.size W w' := by
  have H := Lib.hid (formatInt_any n h0 h1 W hl)
  go_enter Tryz.func63, Tryz.ntmps63
  go_wp2_with fail
  refine H.out.mono ?_
  rintro e w ⟨rfl, hb⟩
  go_wp2
  go_ret
  exact ⟨rfl, hb⟩
theorem parseInt_ok (s : ByteArray) (hs : s.size ≤ 281474976710656) (v : Int) (h : Lib.parseIntB 64 s.data.toList = .ok v) (W : World) :
    Calls Tryz.prog 159 #[.string s, .int .i64 10, .int .i64 64] W fun e w' => e = .returned (.tuple #[.int .i64 v, .nilIface]) ∧ Below W.heap.size W w' :=
  (Any.strconv_ParseInt_10_at64_ok Tryz.laysC174 s (by omega) v h W).mono fun e w' ⟨he, hw⟩ => ⟨he, by
    rcases hw with rfl | ⟨t, rfl⟩
    · exact Below.refl _ _
    · exact Lib.bytesWorld_below _ _ _⟩
theorem parseInt_no (s : ByteArray) (hs : s.size ≤ 281474976710656) (h : ∀ v, Lib.parseIntB 64 s.data.toList ≠ .ok v) (W : World) (hl : LibIs W) :
    Calls Tryz.prog 159 #[.string s, .int .i64 10, .int .i64 64] W fun e w' => (∃ x N, e = .returned (.tuple #[.int .i64 x, .iface 236 (.pointer (some ⟨N, 0, none⟩))])) ∧ Below W.heap.size W w' := by
  rcases hp : Lib.parseIntB 64 s.data.toList with v | _ | _
  · exact absurd hp (h v)
  · obtain ⟨tp, p, hv⟩ := hl.syn
    exact (Any.strconv_ParseInt_10_at64_syntax_var Tryz.laysC174 s hs hp tp p W hv).mono fun e w' ⟨N, he, _, _, hb⟩ => ⟨⟨_, N, he⟩, hb⟩
  · obtain ⟨tp, p, hv⟩ := hl.rng
    exact (Any.strconv_ParseInt_10_at64_range_var Tryz.laysC174 s hs hp tp p W hv).mono fun e w' ⟨N, he, _, _, hb⟩ => ⟨⟨_, N, he⟩, hb⟩
set_option maxHeartbeats 400000 in
theorem parse_any (s : ByteArray) (hs : s.size ≤ 281474976710656) (W : World) (hl : LibIs W) :
    Calls Tryz.prog 156 #[.string s] W fun e w' => e = .returned (.tuple #[.int .i64 ((parseZ s).getD 0), .bool (parseZ s).isSome]) ∧ Below W.heap.size W w' := by
  by_cases h : ∃ v, Lib.parseIntB 64 s.data.toList = .ok v
  · obtain ⟨v, hv⟩ := h
    obtain ⟨v0, v1⟩ := parse_ok_range hv
    have HP := Lib.hid (fun w => parseInt_ok s hs v hv w)
    have HT := Lib.hid (fun w h => text_any v v0 v1 w h)
    by_cases he : itoaS v = s
    · have e : parseZ s = some v := by unfold parseZ; rw [hv]; simp [he]
      have E := Lib.hid e
      have g := text_same he
      obtain ⟨t, ht⟩ : ∃ t, itoaS v = t := ⟨_, rfl⟩
      simp only [ht] at HT g
      clear hv he e ht
      go_enter Tryz.func156, Tryz.ntmps156
      go_wp2_with fail
      refine (HP.out _).mono ?_
      rintro e w ⟨rfl, hb⟩
      go_wp2_with fail
      refine (HT.out _ (hl.below hb)).mono ?_
      rintro e w2 ⟨rfl, hb2⟩
      replace hb := hb.trans (hb2.mono hb.size)
      clear hb2
      go_wp2
      go_ret2
      exact ⟨ret_num (by rw [E.out]; rfl) (by rw [E.out]; rfl), hb⟩
    · have e : parseZ s = none := by unfold parseZ; rw [hv]; simp [he]
      have E := Lib.hid e
      have g := text_other he
      obtain ⟨t, ht⟩ : ∃ t, itoaS v = t := ⟨_, rfl⟩
      simp only [ht] at HT g
      clear hv he e ht
      go_enter Tryz.func156, Tryz.ntmps156
      go_wp2_with fail
      refine (HP.out _).mono ?_
      rintro e w ⟨rfl, hb⟩
      go_wp2_with fail
      refine (HT.out _ (hl.below hb)).mono ?_
      rintro e w2 ⟨rfl, hb2⟩
      replace hb := hb.trans (hb2.mono hb.size)
      clear hb2
      go_wp2
      go_ret2
      exact ⟨ret_num (by rw [E.out]; rfl) (by rw [E.out]; rfl), hb⟩
  · have hn : ∀ v, Lib.parseIntB 64 s.data.toList ≠ .ok v := fun v hv => h ⟨v, hv⟩
    have e : parseZ s = none := by
      unfold parseZ
      split
      · rename_i u hu; exact absurd hu (hn u)
      · rfl
    have E := Lib.hid e
    have HP := Lib.hid (fun w hl => parseInt_no s hs hn w hl)
    clear h hn e
    go_enter Tryz.func156, Tryz.ntmps156
    go_wp2_with fail
    refine (HP.out _ hl).mono ?_
    rintro e w ⟨⟨x, N, rfl⟩, hb⟩
    go_wp2
    go_ret2
    exact ⟨ret_num (by rw [E.out]; rfl) (by rw [E.out]; rfl), hb⟩
theorem LibIs.alloc {w : World} (h : LibIs w) (o : Obj) : LibIs (w.alloc o) := h.below ((Below.refl _ _).alloc (Nat.le_refl _) o)
theorem LibIs.drewN {w : World} (h : LibIs w) (q : Nat) : LibIs (w.drewN q) := h.below (below_drewN (Below.refl _ _) q)
theorem LibIs.drew {w : World} (h : LibIs w) : LibIs w.drew := h.below (below_drewN (Below.refl _ _) 1)
section
variable (W : World) (g : Nat)
variable (hl : LibIs W)
include hl
end
end Go.Proofs.YtbkpoimaienhpaaGreatDoor
