/- The walk of the law QuoteCuts: cut, a text is what stands ahead, the one that it was cut at, and what stands behind. -/
import Derived.Test.YthmbgnjbmkmajaaCutMath
import Derived.Test.YthmbgnjbmkmajaaAmongLaw
import Derived.Test.YthmbgnjbmkmajaaUpto
namespace Go.Proofs.Ythmbgnjbmkmajaa
open Go.RowKit
set_option linter.unusedVariables false

def cut3 (x : ByteArray) : ByteArray := x.extract 0 (min x.size 3)
theorem min_nat (a b : Nat) : ∃ m : Nat, min (a : Int) (b : Int) = (m : Int) ∧ m = min a b := ⟨min a b, by omega, rfl⟩

set_option maxRecDepth 100000 in
set_option maxHeartbeats 1000000 in
theorem cuts_walk (W : World) (s : ByteArray) (A : Option Addr) (n c : Nat) (ss : List ByteArray) (hs : s.size ≤ 1048576) (ht : Texts W A n ss) (hbulk : bulkT ss ≤ 1048576) (hc : n ≤ c) (hm : MaxIs W) :
    Calls Try.prog 7 #[.string s, .slice A n c] W fun e w' => e = .returned (.bool true) ∧ Below W.heap.size W w' := by
  obtain ⟨i0, hi, hz0, hz1, hz2⟩ := info_parts infoStr
  have hn : n ≤ 1048576 := by have := bulkT_len ss; rw [ht.1] at this; omega
  have HT := Lib.hid ht
  have HM := Lib.hid hm
  have HB := Lib.hid hbulk
  clear ht hm hbulk
  go_enter Try.func7, Try.ntmps7
  go_wp2_with fail
  refine (examples_any _ HM.out).mono ?_
  rintro e w1 ⟨rfl, hb1⟩
  go_wp2
  go_loopw [6, 7] (fun v i wr => ∃ (k : Nat), k ≤ n ∧ k ≤ 4 ∧ i = .int .i64 k ∧ OwnT wr W.heap.size 9 v ((ss.take k).map cut3) ∧ Below W.heap.size W wr) (fun _ i _ => n - (intOf i).toNat)
  case atStart => exact ⟨0, Nat.zero_le _, Nat.zero_le _, rfl, OwnT.nil _ _ _, hb1⟩
  case round =>
    obtain ⟨k, hk, hk4, rfl, hown, hbel⟩ := hrel
    have hsz := hbel.size
    by_cases hkn : k < n ∧ k < 4
    · obtain ⟨hkn, hk4⟩ := hkn
      obtain ⟨b, off, rfl, hlt, hcs⟩ := (HT.out.below hbel).2 (by omega)
      have c0 := hcs k hkn
      have hsn : (ss.take (k + 1)).map cut3 = (ss.take k).map cut3 ++ [cut3 (ss.getD k .empty)] := by
        rw [List.take_succ_eq_append_getElem (by rw [HT.out.1]; exact hkn), List.map_append, List.getD_eq_getElem?_getD, List.getElem?_eq_getElem (by rw [HT.out.1]; exact hkn)]
        rfl
      obtain ⟨x, hx⟩ : ∃ x, ss.getD k .empty = x := ⟨_, rfl⟩
      rw [hx] at c0 hsn
      obtain ⟨m, hm1, hm2⟩ := min_nat x.size 3
      replace hm1 : min (x.size : Int) 3 = (m : Int) := hm1
      have hm3 : m ≤ x.size := by omega
      have hm3' : (m : Int) ≤ (x.size : Int) := by omega
      have h3 : cut3 x = x.extract 0 m := by rw [hm2]; rfl
      have hlen : ((ss.take k).map cut3).length ≤ 4 := by simp; omega
      rw [h3] at hsn
      obtain ⟨l, hl⟩ : ∃ l, (ss.take k).map cut3 = l := ⟨_, rfl⟩
      rw [hl] at hown hlen hsn
      have HSN := Lib.hid hsn
      have HBEL := Lib.hid hbel
      have hltb : b < W.heap.size := HT.out.2 (by omega) |>.elim fun b' h => h.elim fun off' h => by
        obtain ⟨e, h1, _⟩ := h
        injection e with e
        injection e with e
        rw [e]; exact h1
      clear hsn hbel hcs hx hl h3 hm2
      go_wp2
      go_region_held3 (fun w' => w'.cell? ⟨b, off + k, none⟩ = some (.string x)) (first | go_keep | (rw [hgrow.cell_far _ (by simp; omega) (fun h => by have := (World.ownsRow.lt hown b h.symm).1; omega)]; assumption))
        ((refine step_append_lies _ (by rfl) (.tmp 28) (.tmp 40) 28 (by rfl) W.heap.size 9 i0 (.string .empty) 1 16 Try.underlying28 hi hz0 hz1 hz2 rfl (by decide) _ _ _ (by rfl) (hown.alloc _) ⟨_, 0, none⟩ 1 1 (tV [x.extract 0 m]) (by rfl) rfl (new_cells _ _ _) (tV_one _) (by omega) (by unfold maxLen; omega) (by omega) (by simp; omega) _ rfl ?_; intro g cap w2 hown' hgrow hg hlt2))
      have hbel' := (((HBEL.out).alloc hsz _).drew).grown hgrow (by simp; omega) (fun r hr => (World.ownsRow.lt hown r hr).1)
      go_wp2
      go_round
      case rel => exact ⟨k + 1, by omega, by omega, by go_num, by rw [HSN.out]; exact OwnT.snoc hown', hbel'⟩
      case measure => simp [intOf]; omega
    · have hkm : k = n ∨ (k = 4 ∧ (4 : Int) < (n : Int)) := by omega
      obtain ⟨l, hl⟩ : ∃ l, (ss.take k).map cut3 = l := ⟨_, rfl⟩
      rw [hl] at hown
      have hlen : l.length ≤ 4 := by rw [← hl]; simp; omega
      obtain ⟨A', cap, rfl, hcap, htx⟩ := hown.texts
      have hcut := cut_is s l
      have hmw := HM.out.below hbel
      have hcall := fun w (h : Below wr.heap.size wr w) => cut_any s (by omega) A' l.length cap l (by omega) w (htx.below h) (hmw.below h)
      have hcone := fun x w (h : Below wr.heap.size wr w) g hg => cut_any s (by omega) (some ⟨g, 0, none⟩) 1 1 [x] (by omega) (w.alloc (.cells (([x] : List ByteArray).map Value.string).toArray 9)) (texts_new w 9 [x] g hg) ((hmw.below h).alloc _)
      have hamong := fun t w (h : Below wr.heap.size wr w) => among_any t A' l.length cap l (by omega) w (htx.below h)
      obtain ⟨a, ha⟩ : ∃ a, (cutR s l).1 = a := ⟨_, rfl⟩
      obtain ⟨sep, hsep⟩ : ∃ a, (cutR s l).2.1 = a := ⟨_, rfl⟩
      obtain ⟨b, hb⟩ : ∃ a, (cutR s l).2.2 = a := ⟨_, rfl⟩
      simp only [ha, hsep, hb] at hcall
      rw [ha, hsep, hb] at hcut
      have hszs : a.size + sep.size + b.size = s.size := by rw [← hcut.whole, ByteArray.size_append, ByteArray.size_append]
      have hjoin := fun w (h : Below wr.heap.size wr w) g hg => join_any sep (some ⟨g, 0, none⟩) 2 2 [a, b] (by decide) (by decide) (by rw [join_two, hcut.whole, size_toList]; omega) (w.alloc (.cells (([a, b] : List ByteArray).map Value.string).toArray 9)) (texts_new w 9 [a, b] g hg)
      simp only [join_two, hcut.whole, str_bytes] at hjoin
      have HTX := Lib.hid htx
      have HC := Lib.hid hcut
      have HCALL := Lib.hid hcall
      have HONE := Lib.hid hcone
      have HAM := Lib.hid hamong
      have HJ := Lib.hid hjoin
      have HBEL := Lib.hid hbel
      clear hcall hcone hamong hjoin hmw htx hl ha hsep hb hbel hkn
      have fin : ∀ w : World, Below wr.heap.size wr w → Below W.heap.size W w := fun w h => HBEL.out.trans (h.mono hsz)
      have FIN := Lib.hid fin
      clear fin
      have f1 : (a ++ sep ++ b).toList = s.toList := by rw [hcut.whole]
      have hfirst := hcut.first
      obtain ⟨i, hi⟩ : ∃ i, amongI sep l = i := ⟨_, rfl⟩
      have hcase : (sep.toList.isEmpty = true ∧ b.toList.isEmpty = true ∧ a.toList = s.toList) ∨ (sep.toList.isEmpty = false ∧ 0 ≤ i) := by
        by_cases hse : sep.size = 0
        · left
          obtain ⟨rfl, rfl⟩ := hcut.none hse
          exact ⟨by rw [empty_iff]; simpa using hse, by rw [empty_iff]; rfl, rfl⟩
        · right
          refine ⟨by rw [empty_iff]; simpa using hse, ?_⟩
          rcases among_cases sep l with ⟨_, hno⟩ | ⟨k, hk, _⟩
          · exfalso
            obtain ⟨j, hj, hje⟩ := List.mem_iff_getElem.1 (hcut.among hse)
            have := hno j hj
            rw [List.getD_eq_getElem?_getD, List.getElem?_eq_getElem hj, Option.getD_some, hje] at this
            have h2 := (eqB_iff sep sep).2 rfl
            rw [h2] at this
            cases this
          · rw [← hi, hk]; omega
      have ham := HAM.out sep
      rw [hi] at ham
      have HAM' := Lib.hid ham
      have g1 : a.size + sep.size ≤ 1048576 := by omega
      have g2 : a.size + sep.size + b.size ≤ 1048576 := by omega
      have HF := Lib.hid hfirst
      clear hcut hi ham hszs hfirst
      rcases hkm with rfl | ⟨rfl, h4n⟩ <;> rcases hcase with ⟨f2, f3, f4⟩ | ⟨f2, f3⟩
      all_goals
        go_wp2_with fail
        refine (HCALL.out _ (Below.refl _ _)).mono ?_
        rintro e w2 ⟨rfl, q, rfl⟩
        go_wp2
        go_loopw [11] (fun i' wz => ∃ j : Nat, j ≤ l.length ∧ i' = .int .i64 j ∧ Below wr.heap.size wr wz) (fun i' _ => l.length - (intOf i').toNat)
        case atStart => exact ⟨0, Nat.zero_le _, rfl, below_drewN (Below.refl _ _) q⟩
        case round =>
          obtain ⟨j, hj, rfl, hbz⟩ := hrel
          have hsz2 := hbz.size
          by_cases hjl : j < l.length
          · obtain ⟨g, o, rfl, hglt, hcell⟩ := (HTX.out.below hbz).2 (by omega)
            have c0 := hcell j hjl
            have hmem : l.getD j .empty ∈ l := by rw [List.getD_eq_getElem?_getD, List.getElem?_eq_getElem hjl]; exact List.getElem_mem hjl
            have hf := HF.out _ hmem
            obtain ⟨x, hx⟩ : ∃ x, l.getD j .empty = x := ⟨_, rfl⟩
            rw [hx] at c0 hf
            have hone := HONE.out x _ hbz _ rfl
            obtain ⟨y, hy⟩ : ∃ y, cutR s [x] = y := ⟨_, rfl⟩
            rw [hy] at hone hf
            obtain ⟨y1, y2, y3⟩ := y
            have HO := Lib.hid hone
            have hbz' := fun q => below_drewN (hbz.alloc hsz2 (.cells (([x] : List ByteArray).map Value.string).toArray 9)) q
            have HBZ := Lib.hid hbz'
            have hxe := empty_iff x
            by_cases hx0 : x.size = 0
            · rw [decide_eq_true hx0] at hxe
              clear hf hx hy hone hcell hmem hx0 hbz hbz'
              go_wp2_with fail
              refine HO.out.mono ?_
              rintro e w3 ⟨rfl, q2, rfl⟩
              go_wp2
              go_round
              case rel => exact ⟨j + 1, by omega, by go_num, HBZ.out q2⟩
              case measure => simp [intOf]; omega
            · rw [decide_eq_false hx0] at hxe
              have hlt : (a.size : Int) ≤ (y1.size : Int) := by have := hf hx0; dsimp only at this; omega
              clear hf hx hy hone hcell hmem hx0 hbz hbz'
              go_wp2_with fail
              refine HO.out.mono ?_
              rintro e w3 ⟨rfl, q2, rfl⟩
              go_wp2
              go_round
              case rel => exact ⟨j + 1, by omega, by go_num, HBZ.out q2⟩
              case measure => simp [intOf]; omega
          · obtain rfl : j = l.length := by omega
            go_wp2_with fail
            refine (HAM'.out _ hbz).mono ?_
            rintro e w3 ⟨rfl, rfl⟩
            go_wp2_with fail
            all_goals
              refine (HJ.out _ hbz _ rfl).mono ?_
              rintro e w4 ⟨rfl, hbj⟩
              have hbl := FIN.out _ ((hbz.alloc hsz2 _).trans (hbj.mono (by simp; omega)))
              go_wp2
              go_ret
              first
                | exact ⟨rfl, hbl⟩
                | exact ⟨ret_bool (a := !decide (i < 0)) (by rw [decide_eq_false (by omega)]; rfl), hbl⟩
end Go.Proofs.Ythmbgnjbmkmajaa
