/- The document's Digest; the walk of the law CursorTells: sums, digits, digests and cursors' texts are as the document says. -/
import Derived.Test.YtfamcebgcpaolaaGreatDoorCurBackLaw
import Derived.Test.YtfamcebgcpaolaaGreatDoorRefGet
namespace Go.Proofs.YtfamcebgcpaolaaGreatDoor
open Go.RowKit
set_option linter.unusedVariables false
set_option linter.unusedSimpArgs false

theorem quoted_next (ss : List ByteArray) (k : Nat) (hk : k < ss.length) : (ss.map putS).take (k + 1) = (ss.map putS).take k ++ [putS (ss.getD k .empty)] := by
  rw [List.take_succ_eq_append_getElem (by rw [List.length_map]; exact hk), List.getElem_map, List.getD_eq_getElem?_getD, List.getElem?_eq_getElem hk]
  rfl
theorem bulk_quoted (ss : List ByteArray) (M : Nat) (h : ∀ s ∈ ss, s.size ≤ M) : bulkT (ss.map putS) ≤ ss.length * (4 * M + 3) := by
  induction ss with
  | nil => simp [bulkT]
  | cons x r ih =>
    have h1 := h x List.mem_cons_self
    have h2 := putS_size x
    have h3 := ih fun s hs => h s (List.mem_cons_of_mem _ hs)
    rw [List.map_cons, bulkT_cons, List.length_cons, Nat.succ_mul]
    omega
theorem ownT_below {w w' : World} {B e : Nat} {v : Value} {l : List ByteArray} (h : OwnT w B e v l) (hb : Below w.heap.size w w') : OwnT w' B e v l := by
  refine ⟨h.1, ?_⟩
  rcases h.2 with h0 | ⟨g, cap, cur, hv, hbg, hh, x⟩
  · exact .inl h0
  · exact .inr ⟨g, cap, cur, hv, hbg, (hb.block g (lt_of_block hh)).trans hh, x⟩

set_option maxRecDepth 100000 in
set_option maxHeartbeats 1600000 in
theorem refDigest_any (A : Option Addr) (n c : Nat) (ss : List ByteArray) (hn : n ≤ 6) (hss : bulkT ss ≤ 1048576) (W : World) (h1 : Texts W A n ss) :
    Calls Tryz.prog 16 #[.slice A n c] W fun e w' => e = .returned (.int .u64 (digestS ss : Int)) ∧ Below W.heap.size W w' := by
  have h0 : W.heap.size ≤ W.heap.size := Nat.le_refl _
  obtain ⟨i0, hi, hz0, hz1, hz2⟩ := info_parts infoStrQ
  have H1 := Lib.hid h1
  have hl := h1.1
  have HL := Lib.hid hl
  have hs1 : ∀ s ∈ ss, s.size ≤ 1048576 := fun s hs => Nat.le_trans (Nat.le_of_succ_le (bulkT_mem hs)) hss
  have HSS := Lib.hid hs1
  have HQ := Lib.hid (quoted_next ss)
  have hb2 : bulkT (ss.map putS) ≤ 13000000 * 2 := by
    have := bulk_quoted ss 1048576 hs1
    rw [hl] at this
    have h2 : n * (4 * 1048576 + 3) ≤ 6 * (4 * 1048576 + 3) := Nat.mul_le_mul_right _ hn
    omega
  have hb3 : bulkT (ss.map putS) ≤ 16777216 := by
    have k1 : ∀ l : List ByteArray, bulkT (l.map putS) ≤ 4 * bulkT l + 2 * l.length := fun l => by
      induction l with
      | nil => simp [bulkT]
      | cons x r ih =>
        have h2 := putS_size x
        rw [List.map_cons, bulkT_cons, bulkT_cons, List.length_cons]
        omega
    have := k1 ss
    omega
  have HB3 := Lib.hid hb3
  clear h1 hl hs1 hss hb2 hb3
  go_enter Tryz.func16, Tryz.ntmps16
  go_wp2
  go_loopw [3, 4] (fun lv iv wr => ∃ k : Nat, k ≤ n ∧ iv = .int .i64 k ∧ OwnT wr W.heap.size 9 lv ((ss.map putS).take k) ∧ Below W.heap.size W wr) (fun _ iv _ => n - (intOf iv).toNat)
  case atStart => exact ⟨0, Nat.zero_le _, rfl, by rw [List.take_zero]; exact OwnT.nil _ _ _, Below.refl _ _⟩
  case round =>
    obtain ⟨k, hk, rfl, hown, hb⟩ := hrel
    by_cases hkn : k < n
    · have hkI : (k : Int) < (n : Int) := by omega
      obtain ⟨b1, o1, rfl, hlt1, hc1⟩ := (H1.out.below hb).2 (by omega)
      have c1 := hc1 k hkn
      have hq := HQ.out k (by rw [HL.out]; exact hkn)
      have hmem := HSS.out (ss.getD k .empty) (by
        rw [List.getD_eq_getElem?_getD, List.getElem?_eq_getElem (by rw [HL.out]; exact hkn)]
        exact List.getElem_mem _)
      obtain ⟨p, hp⟩ : ∃ p, ss.getD k .empty = p := ⟨_, rfl⟩
      rw [hp] at c1 hq hmem
      have PT := fun w => refPut_any p (by omega) w
      obtain ⟨x, hx⟩ : ∃ x, putS p = x := ⟨_, rfl⟩
      have hx2 : (⟨(putB p.data.toList).toArray⟩ : ByteArray) = x := hx
      simp only [hx2] at PT
      rw [hx] at hq
      have hlen : ((ss.map putS).take k).length = k := by rw [List.length_take, List.length_map, HL.out]; omega
      obtain ⟨l, hle⟩ : ∃ l, (ss.map putS).take k = l := ⟨_, rfl⟩
      rw [hle] at hown hq hlen
      have HQ2 := Lib.hid hq
      replace PT := Lib.hid PT
      have HO := Lib.hid hown
      have HB := Lib.hid hb
      have HLEN := Lib.hid hlen
      have hlk : l.length ≤ 6 := by omega
      clear hp hx hx2 hc1 hq hle hown hb hmem hlen
      go_wp2_with fail
      refine (PT.out _).mono ?_
      rintro e w3 ⟨rfl, hb3⟩
      have ho3 := ownT_below HO.out hb3
      have hb4 := hop HB.out h0 hb3
      have hsz4 := hb4.size
      have HO3 := Lib.hid ho3
      have HB4 := Lib.hid hb4
      clear hb3 ho3 hb4 c1
      go_wp2_with (at_builtin; refine wpList_append_own _ rfl (.tmp 11) (.tmp 17) 23 rfl W.heap.size 9 i0 (.string .empty) 1 16 Tryz.underlying23 hi hz0 hz1 hz2 rfl (by decide) _ _ _ rfl (HO3.out.alloc _) ⟨w3.heap.size, 0, none⟩ 1 1 (tV [x]) rfl rfl (new_cells_at _ _ _ _ (by simp)) (tV_one _) (by unfold maxLen; omega) (by omega) (by simp; omega) ?_)
      intro v' w5 hown' hgrow _
      have hb5 := (HB4.out.alloc hsz4 (.cells #[.string x] 9)).grown hgrow (by simp; omega) (fun r hr => (World.ownsRow.lt (HO3.out.alloc (.cells #[.string x] 9)) r hr).1)
      have ho5 : OwnT w5 W.heap.size 9 v' (l ++ [x]) := OwnT.snoc (m := [x]) hown'
      rw [← HQ2.out] at ho5
      have HO5 := Lib.hid ho5
      have HB5 := Lib.hid hb5
      clear hown' hgrow ho5 hb5
      go_wp2
      go_round
      case rel => exact ⟨k + 1, by omega, by go_num, HO5.out, HB5.out⟩
      case measure => simp [intOf]; omega
    · obtain rfl : k = n := by omega
      have hlm : (ss.map putS).length = k := by rw [List.length_map, HL.out]
      rw [List.take_of_length_le (by rw [hlm]; exact Nat.le_refl _)] at hown
      obtain ⟨A', cap, rfl, hcap, htx⟩ := hown.texts
      rw [hlm] at htx ⊢
      have C := refJoin_any ⟨#[44]⟩ A' k cap (ss.map putS) (by omega) (by decide) HB3.out wr htx
      have hE : digestS ss = sumS (joinT ⟨#[44]⟩ (ss.map putS)) := rfl
      have hJs := joinT_take ⟨#[44]⟩ (ss.map putS) (ss.map putS).length (by rw [hlm]; omega) (by decide) HB3.out
      rw [List.take_length] at hJs
      obtain ⟨J, hJJ⟩ : ∃ J, joinT ⟨#[44]⟩ (ss.map putS) = J := ⟨_, rfl⟩
      rw [hJJ] at C hE hJs
      have CS := Lib.hid (fun w => refFnv_any J (by omega) w)
      replace C := Lib.hid C
      have E := Lib.hid hE
      have HB := Lib.hid hb
      clear htx hJJ hJs hE hb hlm HB3
      go_wp2_with fail
      refine C.out.mono ?_
      rintro e w3 ⟨rfl, rfl⟩
      go_wp2_with fail
      refine (CS.out _).mono ?_
      rintro e w4 ⟨rfl, rfl⟩
      go_wp2
      go_ret
      exact ⟨by rw [E.out]; rfl, HB.out⟩

theorem spot_putW {B : Nat} {w : World} {x : SpotX} (h : GoodS B w x) (hk : spotK x ≤ 1048576) : PutC (spotB x) := spot_put h hk
theorem put_curT (c : CurX) (q : EntX) (w : World) (hq : q.b = c.e.b) (gq : GoodQ w q) (hf : PutC c.b) (hn : q.n ≤ 1048576) :
    Calls Tryz.prog 9 #[.agg #[.int .u64 (c.dg : Int), .int .i64 c.ln, .int .i64 c.by_, .int .i64 q.ts, .slice q.A q.n q.c, .string q.ln]] w fun e w' => e = .returned (.tuple #[.string (if c.b.right = true then c.b.put else .empty), .bool c.b.right]) ∧ Below w.heap.size w w' := by
  have hp : PutE q.b := by rw [hq]; exact hf.e
  have h := refPutC_any c.dg c.ln c.by_ q.ts q.A q.n q.c q.ls q.ln hf.dg hf.l0 hf.l1 hf.b0 hf.b1 hp hn w gq.set
  have e : c.b = ⟨c.dg, c.ln, c.by_, q.b⟩ := by rw [hq]; rfl
  rw [e]
  exact h

set_option maxRecDepth 100000 in
set_option maxHeartbeats 6400000 in
theorem cursorTells_walk {W : World} (s : ByteArray) (num : Int) (A : Option Addr) (len cap : Nat) (ss : List ByteArray) (x : SpotX) (us : s.size ≤ 1048576) (wnum : (Lit.int .u64 num).wf = true) (htx : Texts W A len ss) (uss : bulkT ss ≤ 1048576) (hlc : len ≤ cap) (hx : GoodS W.heap.size W x) (ux : spotK x ≤ 1048576) (hl : LibIs W) :
    Calls Tryz.prog 3 #[.string s, .int .u64 num, .slice A len cap, x.val] W fun e w' => e = .returned (.bool true) ∧ Below W.heap.size W w' := by
  have h0 : W.heap.size ≤ W.heap.size := Nat.le_refl _
  obtain ⟨n0, n1⟩ := bdu64' wnum
  obtain ⟨nn, rfl⟩ : ∃ n : Nat, num = n := ⟨num.toNat, by omega⟩
  have hnn : nn < 18446744073709551616 := by omega
  have HX := Lib.hid (fun w h => curExamples_any w (hl.below h))
  have SP := Lib.hid (fun w h => spot_any x w h)
  have HGS := Lib.hid (fun w (h : Below W.heap.size W w) => (show GoodS w.heap.size w x from ⟨((hx.below h).cur).mono h.size, ((hx.below h).item).mono h.size, hx.dg, hx.l0, hx.l1, hx.b0, hx.b1⟩))
  have PC := spot_putW hx ux
  obtain ⟨cb, hcb⟩ : ∃ c, spotB x = c := ⟨_, rfl⟩
  rw [hcb] at PC
  replace SP := SP.out
  simp only [hcb] at SP
  dsimp only [SpotX.val] at SP ⊢
  replace SP := Lib.hid SP
  have RC := Lib.hid (fun (c : CurX) (w : World) (B1 : Nat) (h1 : c.b = cb) (h2 : Good B1 w c.e) => show Calls Tryz.prog 10 #[.agg #[.int .u64 (c.dg : Int), .int .i64 c.ln, .int .i64 c.by_, .int .i64 c.e.ts, .slice c.e.A c.e.n c.e.c, .string c.e.ln]] w fun e w' => ∃ q : EntX, e = .returned (.agg #[.int .u64 (c.dg : Int), .int .i64 c.ln, .int .i64 c.by_, .int .i64 q.ts, .slice q.A q.n q.c, .string q.ln]) ∧ q.b = c.e.b ∧ q.n ≤ 1048576 ∧ GoodQ w' q ∧ Below w.heap.size w w' from by
    have hn : c.e.n ≤ 1048576 := by
      have k1 : c.e.ls.length = c.e.n := h2.set.1.1
      have k2 : c.b.e.ls.length ≤ 1048576 := by rw [h1]; exact PC.e.len
      have k3 : c.e.ls.length ≤ 1048576 := k2
      omega
    have hd : c.dg < 18446744073709551616 := by have := PC.dg; rw [← h1] at this; exact this
    refine (refCursor_any c.dg c.ln c.by_ c.e hd hn w h2.set.1).mono ?_
    rintro e w' ⟨q, rfl, h3, h4, h5, h6⟩
    exact ⟨q, rfl, h3, by rw [h4]; exact hn, h5, h6⟩)
  have RT := Lib.hid (fun (c : CurX) (w : World) (B1 : Nat) (h1 : c.b = cb) (h2 : Good B1 w c.e) => show Calls Tryz.prog 17 #[.agg #[.int .u64 (c.dg : Int), .int .i64 c.ln, .int .i64 c.by_, .int .i64 c.e.ts, .slice c.e.A c.e.n c.e.c, .string c.e.ln]] w fun e w' => e = .returned (.bool cb.right) ∧ Below w.heap.size w w' from by
    have h := right_cur c w h2
    rwa [h1] at h)
  have RQ := Lib.hid (fun (c : CurX) (q : EntX) (w : World) (h1 : c.b = cb) (hq : q.b = c.e.b) (gq : GoodQ w q) (hn : q.n ≤ 1048576) => show Calls Tryz.prog 18 #[.agg #[.int .u64 (c.dg : Int), .int .i64 c.ln, .int .i64 c.by_, .int .i64 q.ts, .slice q.A q.n q.c, .string q.ln]] w fun e w' => e = .returned (.bool cb.right) ∧ Below w.heap.size w w' from by
    have h := refRightC_any c.dg c.ln c.by_ q.ts q.A q.n q.c q.ls q.ln (by omega) w gq.set
    have e : cb = ⟨c.dg, c.ln, c.by_, q.b⟩ := by rw [hq, ← h1]; rfl
    rw [e]
    exact h)
  have PT := Lib.hid (fun (c : CurX) (w : World) (B1 : Nat) (h1 : c.b = cb) (h2 : Good B1 w c.e) (h3 : LibIs w) => show Calls Tryz.prog 8 #[.agg #[.int .u64 (c.dg : Int), .int .i64 c.ln, .int .i64 c.by_, .int .i64 c.e.ts, .slice c.e.A c.e.n c.e.c, .string c.e.ln]] w fun e w' => e = .returned (.tuple #[.string (if cb.right = true then cb.put else .empty), .bool cb.right]) ∧ Below w.heap.size w w' from by
    have h := put_cur c w h2 (by rw [h1]; exact PC) h3
    rwa [h1] at h)
  have PQ := Lib.hid (fun (c : CurX) (q : EntX) (w : World) (h1 : c.b = cb) (hq : q.b = c.e.b) (gq : GoodQ w q) (hn : q.n ≤ 1048576) => show Calls Tryz.prog 9 #[.agg #[.int .u64 (c.dg : Int), .int .i64 c.ln, .int .i64 c.by_, .int .i64 q.ts, .slice q.A q.n q.c, .string q.ln]] w fun e w' => e = .returned (.tuple #[.string (if cb.right = true then cb.put else .empty), .bool cb.right]) ∧ Below w.heap.size w w' from by
    have h := put_curT c q w hq gq (by rw [h1]; exact PC) hn
    rwa [h1] at h)
  obtain ⟨R, hR⟩ : ∃ r, cb.right = r := ⟨_, rfl⟩
  obtain ⟨X, hX⟩ : ∃ r, (if cb.right = true then cb.put else ByteArray.empty) = r := ⟨_, rfl⟩
  rw [hR] at hX
  replace PT := PT.out
  replace PQ := PQ.out
  replace RT := RT.out
  replace RQ := RQ.out
  simp only [hR, hX] at PT PQ
  simp only [hR] at RT RQ
  replace PT := Lib.hid PT
  replace PQ := Lib.hid PQ
  replace RT := Lib.hid RT
  replace RQ := Lib.hid RQ
  -- the first six texts
  obtain ⟨m, hm⟩ : ∃ m, min len 6 = m := ⟨_, rfl⟩
  have hm6 : m ≤ 6 := by omega
  have hml : m ≤ len := by omega
  have hmc : (m : Int) ≤ (cap : Int) := by omega
  have hmin : min (len : Int) 6 = (m : Int) := by omega
  have hlen := htx.1
  have htm : Texts W A m (ss.take m) := ⟨by rw [List.length_take, hlen]; omega, fun h => by
    obtain ⟨b, off, e, hlt, hc⟩ := htx.2 (by omega)
    exact ⟨b, off, e, hlt, fun j hj => by rw [hc j (by omega), List.getD_eq_getElem?_getD, List.getD_eq_getElem?_getD, List.getElem?_take_of_lt hj]⟩⟩
  have hbk := bulkT_take ss m
  obtain ⟨tt, htt⟩ : ∃ l, ss.take m = l := ⟨_, rfl⟩
  rw [htt] at htm hbk
  have DG := fun w (h : Below W.heap.size W w) => digest_any A m cap tt (by omega) (fun s hs => Nat.le_trans (Nat.le_of_succ_le (bulkT_mem hs)) (Nat.le_trans hbk uss)) w (htm.below h)
  have DQ := fun w (h : Below W.heap.size W w) => refDigest_any A m cap tt hm6 (by omega) w (htm.below h)
  obtain ⟨dd, hdd⟩ : ∃ d, digestS tt = d := ⟨_, rfl⟩
  simp only [hdd] at DG DQ
  replace DG := Lib.hid DG
  replace DQ := Lib.hid DQ
  have S1 := fun w => show Calls Tryz.prog 11 #[.string s] w fun e w' => e = .returned (.int .u64 (sumS s : Int)) ∧ Below w.heap.size w w' from (sum_any s (by omega) w).mono (by rintro e w' ⟨rfl, rfl⟩; exact ⟨rfl, Below.refl _ _⟩)
  have S2 := fun w => show Calls Tryz.prog 12 #[.string s] w fun e w' => e = .returned (.int .u64 (sumS s : Int)) ∧ Below w.heap.size w w' from (refFnv_any s (by omega) w).mono (by rintro e w' ⟨rfl, rfl⟩; exact ⟨rfl, Below.refl _ _⟩)
  have X1 := fun w => hex_any nn hnn w
  have X2 := fun w => show Calls Tryz.prog 14 #[.int .u64 (nn : Int)] w fun e w' => e = .returned (.string (hexS nn)) ∧ Below w.heap.size w w' from (refHex_any nn hnn w).mono (by rintro e w' ⟨rfl, rfl⟩; exact ⟨rfl, Below.refl _ _⟩)
  obtain ⟨sm, hsm⟩ : ∃ z, sumS s = z := ⟨_, rfl⟩
  obtain ⟨hh, hhh⟩ : ∃ z, hexS nn = z := ⟨_, rfl⟩
  simp only [hsm] at S1 S2
  simp only [hhh] at X1 X2
  replace S1 := Lib.hid S1
  replace S2 := Lib.hid S2
  replace X1 := Lib.hid X1
  replace X2 := Lib.hid X2
  have HL := Lib.hid hl
  clear hl wnum hx ux hcb PC hR hX htx uss hlen htm hbk htt hdd hsm hhh n0 n1 hnn us hlc
  have r1 : ((sm : Int) == (sm : Int)) = true := by simp
  have r2 : (hh.toList == hh.toList) = true := by simp
  have r3 : ((dd : Int) == (dd : Int)) = true := by simp
  have r4 : (X.toList == X.toList) = true := by simp
  have r5 : (R == R) = true := by simp
  go_enter Tryz.func3, Tryz.ntmps3
  go_wp2_with fail
  obtain ⟨g1, hg1⟩ : ∃ g, W.heap.size = g := ⟨_, rfl⟩
  obtain ⟨w0, hw0⟩ : ∃ w, W.alloc (.cells #[.int .u64 (x.c.dg : Int), .int .i64 x.c.ln, .int .i64 x.c.by_, .int .i64 x.c.e.ts, .slice x.c.e.A x.c.e.n x.c.e.c, .string x.c.e.ln, .bool x.own, .int .i64 x.e.e.ts, .slice x.e.e.A x.e.e.n x.e.e.c, .string x.e.e.ln, .bool x.e.own, .int .i8 x.e.t, .slice x.e.LA x.e.Ln x.e.Lc, .int .u8 (x.e.k : Int)] 35) = w := ⟨_, rfl⟩
  have B0 : Blk w0 g1 35 #[.int .u64 (x.c.dg : Int), .int .i64 x.c.ln, .int .i64 x.c.by_, .int .i64 x.c.e.ts, .slice x.c.e.A x.c.e.n x.c.e.c, .string x.c.e.ln, .bool x.own, .int .i64 x.e.e.ts, .slice x.e.e.A x.e.e.n x.e.e.c, .string x.e.e.ln, .bool x.e.own, .int .i8 x.e.t, .slice x.e.LA x.e.Ln x.e.Lc, .int .u8 (x.e.k : Int)] := by rw [← hw0, ← hg1]; exact Blk.new W _ _
  have hb0 : Below W.heap.size W w0 := by rw [← hw0]; exact (Below.refl _ _).alloc h0 _
  rw [hw0]
  rw [hg1]
  clear hw0 hg1
  refine (HX.out _ hb0).mono ?_
  rintro e w1 ⟨rfl, hx⟩
  have B1 := B0.below hx B0.lt
  have hb1 := hop hb0 h0 hx
  have p0 : w1.cell? ⟨g1, 0, none⟩ = some (.int .u64 (x.c.dg : Int)) := (B1.cell 0).trans rfl
  have p1 : w1.cell? ⟨g1, 1, none⟩ = some (.int .i64 x.c.ln) := (B1.cell 1).trans rfl
  have p2 : w1.cell? ⟨g1, 2, none⟩ = some (.int .i64 x.c.by_) := (B1.cell 2).trans rfl
  have p3 : w1.cell? ⟨g1, 3, none⟩ = some (.int .i64 x.c.e.ts) := (B1.cell 3).trans rfl
  have p4 : w1.cell? ⟨g1, 4, none⟩ = some (.slice x.c.e.A x.c.e.n x.c.e.c) := (B1.cell 4).trans rfl
  have p5 : w1.cell? ⟨g1, 5, none⟩ = some (.string x.c.e.ln) := (B1.cell 5).trans rfl
  have p6 : w1.cell? ⟨g1, 6, none⟩ = some (.bool x.own) := (B1.cell 6).trans rfl
  have p7 : w1.cell? ⟨g1, 7, none⟩ = some (.int .i64 x.e.e.ts) := (B1.cell 7).trans rfl
  have p8 : w1.cell? ⟨g1, 8, none⟩ = some (.slice x.e.e.A x.e.e.n x.e.e.c) := (B1.cell 8).trans rfl
  have p9 : w1.cell? ⟨g1, 9, none⟩ = some (.string x.e.e.ln) := (B1.cell 9).trans rfl
  have p10 : w1.cell? ⟨g1, 10, none⟩ = some (.bool x.e.own) := (B1.cell 10).trans rfl
  have p11 : w1.cell? ⟨g1, 11, none⟩ = some (.int .i8 x.e.t) := (B1.cell 11).trans rfl
  have p12 : w1.cell? ⟨g1, 12, none⟩ = some (.slice x.e.LA x.e.Ln x.e.Lc) := (B1.cell 12).trans rfl
  have p13 : w1.cell? ⟨g1, 13, none⟩ = some (.int .u8 (x.e.k : Int)) := (B1.cell 13).trans rfl
  have HGS2 := Lib.hid (HGS.out _ hb1)
  clear hx hb0 B0 HX HGS B1
  go_wp2_with fail
  clear p0 p1 p2 p3 p4 p5 p6 p7 p8 p9 p10 p11 p12 p13
  refine (SP.out _ HGS2.out).mono ?_
  rintro e w3 ⟨c, rfl, hcb, gc, hx⟩
  have hb3 := hop hb1 h0 hx
  dsimp only [CurX.val]
  obtain ⟨g2, hg2⟩ : ∃ g, w3.heap.size = g := ⟨_, rfl⟩
  obtain ⟨w4, hw4⟩ : ∃ w, w3.alloc (.cells #[.int .u64 (c.dg : Int), .int .i64 c.ln, .int .i64 c.by_, .int .i64 c.e.ts, .slice c.e.A c.e.n c.e.c, .string c.e.ln] 29) = w := ⟨_, rfl⟩
  have B4 : Blk w4 g2 29 #[.int .u64 (c.dg : Int), .int .i64 c.ln, .int .i64 c.by_, .int .i64 c.e.ts, .slice c.e.A c.e.n c.e.c, .string c.e.ln] := by rw [← hw4, ← hg2]; exact Blk.new _ _ _
  have hb4 : Below W.heap.size W w4 := by rw [← hw4]; exact hb3.alloc hb3.size _
  have gc4 : Good w1.heap.size w4 c.e := by rw [← hw4]; exact gc.below ((Below.refl _ _).alloc (Nat.le_refl _) _)
  have HCB := Lib.hid hcb
  have q0 : w4.cell? ⟨g2, 0, none⟩ = some (.int .u64 (c.dg : Int)) := (B4.cell 0).trans rfl
  have q1 : w4.cell? ⟨g2, 1, none⟩ = some (.int .i64 c.ln) := (B4.cell 1).trans rfl
  have q2 : w4.cell? ⟨g2, 2, none⟩ = some (.int .i64 c.by_) := (B4.cell 2).trans rfl
  have q3 : w4.cell? ⟨g2, 3, none⟩ = some (.int .i64 c.e.ts) := (B4.cell 3).trans rfl
  have q4 : w4.cell? ⟨g2, 4, none⟩ = some (.slice c.e.A c.e.n c.e.c) := (B4.cell 4).trans rfl
  have q5 : w4.cell? ⟨g2, 5, none⟩ = some (.string c.e.ln) := (B4.cell 5).trans rfl
  clear hx hb1 hb3 gc SP HGS2 hcb
  go_wp2_with fail
  clear hw4 hg2 q0 q1 q2 q3 q4 q5
  refine (PT.out c _ _ HCB.out gc4 (HL.out.below hb4)).mono ?_
  rintro e w5 ⟨rfl, hx⟩
  have B5 := B4.below hx B4.lt
  have gc5 := gc4.below hx
  have hb5 := hop hb4 h0 hx
  have q0 : w5.cell? ⟨g2, 0, none⟩ = some (.int .u64 (c.dg : Int)) := (B5.cell 0).trans rfl
  have q1 : w5.cell? ⟨g2, 1, none⟩ = some (.int .i64 c.ln) := (B5.cell 1).trans rfl
  have q2 : w5.cell? ⟨g2, 2, none⟩ = some (.int .i64 c.by_) := (B5.cell 2).trans rfl
  have q3 : w5.cell? ⟨g2, 3, none⟩ = some (.int .i64 c.e.ts) := (B5.cell 3).trans rfl
  have q4 : w5.cell? ⟨g2, 4, none⟩ = some (.slice c.e.A c.e.n c.e.c) := (B5.cell 4).trans rfl
  have q5 : w5.cell? ⟨g2, 5, none⟩ = some (.string c.e.ln) := (B5.cell 5).trans rfl
  clear hx hb4 gc4 B4 PT
  go_wp2_with fail
  clear q0 q1 q2 q3 q4 q5
  refine (RC.out c _ _ HCB.out gc5).mono ?_
  rintro e w6 ⟨q, rfl, hq, hqn, gq, hx⟩
  have B6 := B5.below hx B5.lt
  have gc6 := gc5.below hx
  have hb6 := hop hb5 h0 hx
  clear hx hb5 gc5 B5
  go_wp2_with fail
  refine (PQ.out c q _ HCB.out hq gq hqn).mono ?_
  rintro e w9 ⟨rfl, hx⟩
  have B9 := B6.below hx B6.lt
  have gc9 := gc6.below hx
  have HB9 := Lib.hid (hop hb6 h0 hx)
  clear hx hb6 gc6 B6 PQ hq hqn gq
  have GC := Lib.hid (fun w (h : Below w9.heap.size w9 w) => gc9.below h)
  have HS := Lib.hid (fun (w w' : World) (hS : Below w9.heap.size w9 w ∧ w.cell? ⟨g2, 0, none⟩ = some (.int .u64 (c.dg : Int)) ∧ w.cell? ⟨g2, 1, none⟩ = some (.int .i64 c.ln) ∧ w.cell? ⟨g2, 2, none⟩ = some (.int .i64 c.by_) ∧ w.cell? ⟨g2, 3, none⟩ = some (.int .i64 c.e.ts) ∧ w.cell? ⟨g2, 4, none⟩ = some (.slice c.e.A c.e.n c.e.c) ∧ w.cell? ⟨g2, 5, none⟩ = some (.string c.e.ln)) (hx : Below w.heap.size w w') => show Below w9.heap.size w9 w' ∧ w'.cell? ⟨g2, 0, none⟩ = some (.int .u64 (c.dg : Int)) ∧ w'.cell? ⟨g2, 1, none⟩ = some (.int .i64 c.ln) ∧ w'.cell? ⟨g2, 2, none⟩ = some (.int .i64 c.by_) ∧ w'.cell? ⟨g2, 3, none⟩ = some (.int .i64 c.e.ts) ∧ w'.cell? ⟨g2, 4, none⟩ = some (.slice c.e.A c.e.n c.e.c) ∧ w'.cell? ⟨g2, 5, none⟩ = some (.string c.e.ln) from by
    obtain ⟨hb, a0, a1, a2, a3, a4, a5⟩ := hS
    have z1 := block_lt_of_cell a0
    exact ⟨hop hb (Nat.le_refl _) hx, (hx.cell (p := ⟨_, 0, none⟩) z1).trans a0, (hx.cell (p := ⟨_, 1, none⟩) z1).trans a1, (hx.cell (p := ⟨_, 2, none⟩) z1).trans a2, (hx.cell (p := ⟨_, 3, none⟩) z1).trans a3, (hx.cell (p := ⟨_, 4, none⟩) z1).trans a4, (hx.cell (p := ⟨_, 5, none⟩) z1).trans a5⟩)
  have S0 := HS.out w9 w9.drew ⟨Below.refl _ _, (B9.cell 0).trans rfl, (B9.cell 1).trans rfl, (B9.cell 2).trans rfl, (B9.cell 3).trans rfl, (B9.cell 4).trans rfl, (B9.cell 5).trans rfl⟩ ((Below.refl _ _).drew)
  clear B9 gc9
  go_wp2
  refine wp_region_held_drew (S := fun w' => Below w9.heap.size w9 w' ∧ w'.cell? ⟨g2, 0, none⟩ = some (.int .u64 (c.dg : Int)) ∧ w'.cell? ⟨g2, 1, none⟩ = some (.int .i64 c.ln) ∧ w'.cell? ⟨g2, 2, none⟩ = some (.int .i64 c.by_) ∧ w'.cell? ⟨g2, 3, none⟩ = some (.int .i64 c.e.ts) ∧ w'.cell? ⟨g2, 4, none⟩ = some (.slice c.e.A c.e.n c.e.c) ∧ w'.cell? ⟨g2, 5, none⟩ = some (.string c.e.ln)) (by kernel_rfl) S0 (fun hHeld => ?_)
  refine wpAnyH_take (i := 0) (oi := { dst := some 36, op := Go.Op.move (Go.Operand.tmp 9), type := 4, pos := "law.go:164", after := #[], guard := none }) (v := ?_) rfl (by kernel_rfl) (by kernel_rfl) (by kernel_rfl) (fun _ _ _ h => h) (Or.inl ⟨by kernel_rfl, ?_⟩) (by assumption) ?_
  rotate_left
  · intro w _
    first | (go_simp; done) | (go_simp; with_reducible rfl)
  try simp only [Act.put, List.setIfInBounds_toArray, List.set_cons_zero, List.set_cons_succ]
  refine wpAnyH_take (i := 1) (oi := { dst := some 37, op := Go.Op.move (Go.Operand.tmp 36), type := 4, pos := "law.go:164", after := #[{ on := 0, ground := Go.Ground.data }], guard := none }) (v := ?_) rfl (by kernel_rfl) (by kernel_rfl) (by kernel_rfl) (fun _ _ _ h => h) (Or.inl ⟨by kernel_rfl, ?_⟩) (by assumption) ?_
  rotate_left
  · intro w _
    first | (go_simp; done) | (go_simp; with_reducible rfl)
  try simp only [Act.put, List.setIfInBounds_toArray, List.set_cons_zero, List.set_cons_succ]
  refine wpAnyH_take (i := 2) (oi := { dst := some 38, op := Go.Op.move (Go.Operand.tmp 0), type := 9, pos := "law.go:164", after := #[{ on := 1, ground := Go.Ground.guard }], guard := some (1, true) }) (v := ?_) rfl (by kernel_rfl) (by kernel_rfl) (by kernel_rfl) (fun _ _ _ h => h) (Or.inl ⟨by kernel_rfl, ?_⟩) (by assumption) ?_
  rotate_left
  · intro w _
    first | (go_simp; done) | (go_simp; with_reducible rfl)
  try simp only [Act.put, List.setIfInBounds_toArray, List.set_cons_zero, List.set_cons_succ]
  refine wpAnyH_take (i := 4) (oi := { dst := some 40, op := Go.Op.move (Go.Operand.tmp 0), type := 9, pos := "law.go:164", after := #[{ on := 1, ground := Go.Ground.guard }], guard := some (1, true) }) (v := ?_) rfl (by kernel_rfl) (by kernel_rfl) (by kernel_rfl) (fun _ _ _ h => h) (Or.inl ⟨by kernel_rfl, ?_⟩) (by assumption) ?_
  rotate_left
  · intro w _
    first | (go_simp; done) | (go_simp; with_reducible rfl)
  try simp only [Act.put, List.setIfInBounds_toArray, List.set_cons_zero, List.set_cons_succ]
  refine wpAnyH_ready (rs := [3]) (by kernel_rfl) (by simp) ?_
  refine AllReadyH.cons (o := { dst := some 39, op := Go.Op.call { callee := Go.Callee.value (Go.Operand.func 11), args := #[Go.Operand.tmp 38], argTypes := #[9] }, type := 22, pos := "law.go:164", after := #[{ on := 2, ground := Go.Ground.data }, { on := 1, ground := Go.Ground.chain }, { on := 1, ground := Go.Ground.guard }], guard := some (1, true) }) rfl (fun K hK => ?_) AllReadyH.nil
  go_simp
  go_at_call 11
  refine (S1.out _).mono ?_
  rintro e wc1 ⟨rfl, hb3⟩
  have Sc1 := HS.out _ _ (by assumption) hb3
  refine hK.out _ _ Sc1 (fun _ => ?_)
  clear hK K hb3
  try simp only [Act.put, List.setIfInBounds_toArray, List.set_cons_zero, List.set_cons_succ]
  refine wpAnyH_ready (rs := [5]) (by kernel_rfl) (by simp) ?_
  refine AllReadyH.cons (o := { dst := some 41, op := Go.Op.call { callee := Go.Callee.value (Go.Operand.func 12), args := #[Go.Operand.tmp 40], argTypes := #[9] }, type := 22, pos := "law.go:164", after := #[{ on := 4, ground := Go.Ground.data }, { on := 3, ground := Go.Ground.chain }, { on := 1, ground := Go.Ground.guard }], guard := some (1, true) }) rfl (fun K hK => ?_) AllReadyH.nil
  go_simp
  go_at_call 12
  refine (S2.out _).mono ?_
  rintro e wc2 ⟨rfl, hb3⟩
  have Sc2 := HS.out _ _ (by assumption) hb3
  refine hK.out _ _ Sc2 (fun _ => ?_)
  clear hK K hb3
  try simp only [Act.put, List.setIfInBounds_toArray, List.set_cons_zero, List.set_cons_succ]
  refine wpAnyH_take (i := 6) (oi := { dst := some 42, op := Go.Op.binOp Go.BinOp.eql 22 (Go.Operand.tmp 39) (Go.Operand.tmp 41) 22, type := 4, pos := "law.go:164", after := #[{ on := 3, ground := Go.Ground.data }, { on := 5, ground := Go.Ground.data }, { on := 1, ground := Go.Ground.guard }], guard := some (1, true) }) (v := ?_) rfl (by kernel_rfl) (by kernel_rfl) (by kernel_rfl) (fun _ _ _ h => h) (Or.inl ⟨by kernel_rfl, ?_⟩) (by assumption) ?_
  rotate_left
  · intro w _
    first | (go_simp; done) | (go_simp; with_reducible rfl)
  try simp only [Act.put, List.setIfInBounds_toArray, List.set_cons_zero, List.set_cons_succ]
  refine wpAnyH_take (i := 7) (oi := { dst := some 43, op := Go.Op.pick (Go.Operand.tmp 37) (Go.Operand.tmp 42) (Go.Operand.const (Go.Value.bool false)), type := 4, pos := "law.go:164", after := #[{ on := 1, ground := Go.Ground.data }, { on := 6, ground := Go.Ground.data }], guard := none }) (v := ?_) rfl (by kernel_rfl) (by kernel_rfl) (by kernel_rfl) (fun _ _ _ h => h) (Or.inl ⟨by kernel_rfl, ?_⟩) (by assumption) ?_
  rotate_left
  · intro w _
    first | (go_simp; done) | (go_simp; with_reducible rfl)
  try simp only [Act.put, List.setIfInBounds_toArray, List.set_cons_zero, List.set_cons_succ]
  refine wpAnyH_take (i := 8) (oi := { dst := some 44, op := Go.Op.move (Go.Operand.tmp 43), type := 4, pos := "law.go:164", after := #[{ on := 7, ground := Go.Ground.data }, { on := 5, ground := Go.Ground.chain }], guard := none }) (v := ?_) rfl (by kernel_rfl) (by kernel_rfl) (by kernel_rfl) (fun _ _ _ h => h) (Or.inl ⟨by kernel_rfl, ?_⟩) (by assumption) ?_
  rotate_left
  · intro w _
    first | (go_simp; done) | (go_simp; with_reducible rfl)
  try simp only [Act.put, List.setIfInBounds_toArray, List.set_cons_zero, List.set_cons_succ]
  refine wpAnyH_take (i := 9) (oi := { dst := some 45, op := Go.Op.move (Go.Operand.tmp 1), type := 22, pos := "law.go:164", after := #[{ on := 8, ground := Go.Ground.guard }], guard := some (8, true) }) (v := ?_) rfl (by kernel_rfl) (by kernel_rfl) (by kernel_rfl) (fun _ _ _ h => h) (Or.inl ⟨by kernel_rfl, ?_⟩) (by assumption) ?_
  rotate_left
  · intro w _
    first | (go_simp; done) | (go_simp; with_reducible rfl)
  try simp only [Act.put, List.setIfInBounds_toArray, List.set_cons_zero, List.set_cons_succ]
  refine wpAnyH_take (i := 11) (oi := { dst := some 47, op := Go.Op.move (Go.Operand.tmp 1), type := 22, pos := "law.go:164", after := #[{ on := 8, ground := Go.Ground.guard }], guard := some (8, true) }) (v := ?_) rfl (by kernel_rfl) (by kernel_rfl) (by kernel_rfl) (fun _ _ _ h => h) (Or.inl ⟨by kernel_rfl, ?_⟩) (by assumption) ?_
  rotate_left
  · intro w _
    first | (go_simp; done) | (go_simp; with_reducible rfl)
  try simp only [Act.put, List.setIfInBounds_toArray, List.set_cons_zero, List.set_cons_succ]
  refine wpAnyH_ready (rs := [10]) (by kernel_rfl) (by simp) ?_
  refine AllReadyH.cons (o := { dst := some 46, op := Go.Op.call { callee := Go.Callee.value (Go.Operand.func 13), args := #[Go.Operand.tmp 45], argTypes := #[22] }, type := 9, pos := "law.go:164", after := #[{ on := 9, ground := Go.Ground.data }, { on := 8, ground := Go.Ground.chain }, { on := 8, ground := Go.Ground.guard }], guard := some (8, true) }) rfl (fun K hK => ?_) AllReadyH.nil
  go_simp
  go_at_call 13
  refine (X1.out _).mono ?_
  rintro e wc3 ⟨rfl, hb3⟩
  have Sc3 := HS.out _ _ (by assumption) hb3
  refine hK.out _ _ Sc3 (fun _ => ?_)
  clear hK K hb3
  try simp only [Act.put, List.setIfInBounds_toArray, List.set_cons_zero, List.set_cons_succ]
  refine wpAnyH_ready (rs := [12]) (by kernel_rfl) (by simp) ?_
  refine AllReadyH.cons (o := { dst := some 48, op := Go.Op.call { callee := Go.Callee.value (Go.Operand.func 14), args := #[Go.Operand.tmp 47], argTypes := #[22] }, type := 9, pos := "law.go:164", after := #[{ on := 11, ground := Go.Ground.data }, { on := 10, ground := Go.Ground.chain }, { on := 8, ground := Go.Ground.guard }], guard := some (8, true) }) rfl (fun K hK => ?_) AllReadyH.nil
  go_simp
  go_at_call 14
  refine (X2.out _).mono ?_
  rintro e wc4 ⟨rfl, hb3⟩
  have Sc4 := HS.out _ _ (by assumption) hb3
  refine hK.out _ _ Sc4 (fun _ => ?_)
  clear hK K hb3
  try simp only [Act.put, List.setIfInBounds_toArray, List.set_cons_zero, List.set_cons_succ]
  refine wpAnyH_take (i := 13) (oi := { dst := some 49, op := Go.Op.binOp Go.BinOp.eql 9 (Go.Operand.tmp 46) (Go.Operand.tmp 48) 9, type := 4, pos := "law.go:164", after := #[{ on := 10, ground := Go.Ground.data }, { on := 12, ground := Go.Ground.data }, { on := 8, ground := Go.Ground.guard }], guard := some (8, true) }) (v := ?_) rfl (by kernel_rfl) (by kernel_rfl) (by kernel_rfl) (fun _ _ _ h => h) (Or.inl ⟨by kernel_rfl, ?_⟩) (by assumption) ?_
  rotate_left
  · intro w _
    first | (go_simp; done) | (go_simp; with_reducible rfl)
  try simp only [Act.put, List.setIfInBounds_toArray, List.set_cons_zero, List.set_cons_succ]
  refine wpAnyH_take (i := 14) (oi := { dst := some 50, op := Go.Op.pick (Go.Operand.tmp 44) (Go.Operand.tmp 49) (Go.Operand.const (Go.Value.bool false)), type := 4, pos := "law.go:164", after := #[{ on := 8, ground := Go.Ground.data }, { on := 13, ground := Go.Ground.data }], guard := none }) (v := ?_) rfl (by kernel_rfl) (by kernel_rfl) (by kernel_rfl) (fun _ _ _ h => h) (Or.inl ⟨by kernel_rfl, ?_⟩) (by assumption) ?_
  rotate_left
  · intro w _
    first | (go_simp; done) | (go_simp; with_reducible rfl)
  try simp only [Act.put, List.setIfInBounds_toArray, List.set_cons_zero, List.set_cons_succ]
  refine wpAnyH_take (i := 15) (oi := { dst := some 51, op := Go.Op.move (Go.Operand.tmp 50), type := 4, pos := "law.go:164", after := #[{ on := 14, ground := Go.Ground.data }, { on := 12, ground := Go.Ground.chain }], guard := none }) (v := ?_) rfl (by kernel_rfl) (by kernel_rfl) (by kernel_rfl) (fun _ _ _ h => h) (Or.inl ⟨by kernel_rfl, ?_⟩) (by assumption) ?_
  rotate_left
  · intro w _
    first | (go_simp; done) | (go_simp; with_reducible rfl)
  try simp only [Act.put, List.setIfInBounds_toArray, List.set_cons_zero, List.set_cons_succ]
  refine wpAnyH_take (i := 16) (oi := { dst := some 52, op := Go.Op.move (Go.Operand.tmp 2), type := 23, pos := "law.go:164", after := #[{ on := 15, ground := Go.Ground.guard }], guard := some (15, true) }) (v := ?_) rfl (by kernel_rfl) (by kernel_rfl) (by kernel_rfl) (fun _ _ _ h => h) (Or.inl ⟨by kernel_rfl, ?_⟩) (by assumption) ?_
  rotate_left
  · intro w _
    first | (go_simp; done) | (go_simp; with_reducible rfl)
  try simp only [Act.put, List.setIfInBounds_toArray, List.set_cons_zero, List.set_cons_succ]
  refine wpAnyH_take (i := 18) (oi := { dst := some 54, op := Go.Op.move (Go.Operand.tmp 2), type := 23, pos := "law.go:164", after := #[{ on := 15, ground := Go.Ground.guard }], guard := some (15, true) }) (v := ?_) rfl (by kernel_rfl) (by kernel_rfl) (by kernel_rfl) (fun _ _ _ h => h) (Or.inl ⟨by kernel_rfl, ?_⟩) (by assumption) ?_
  rotate_left
  · intro w _
    first | (go_simp; done) | (go_simp; with_reducible rfl)
  try simp only [Act.put, List.setIfInBounds_toArray, List.set_cons_zero, List.set_cons_succ]
  refine wpAnyH_ready (rs := [17]) (by kernel_rfl) (by simp) ?_
  refine AllReadyH.cons (o := { dst := some 53, op := Go.Op.call { callee := Go.Callee.value (Go.Operand.func 15), args := #[Go.Operand.tmp 52], argTypes := #[23] }, type := 22, pos := "law.go:164", after := #[{ on := 16, ground := Go.Ground.data }, { on := 15, ground := Go.Ground.chain }, { on := 15, ground := Go.Ground.guard }], guard := some (15, true) }) rfl (fun K hK => ?_) AllReadyH.nil
  go_simp
  go_at_call 15
  refine (DG.out _ (hop HB9.out h0 (by go_split_ands; assumption))).mono ?_
  rintro e wc5 ⟨rfl, hb3⟩
  have Sc5 := HS.out _ _ (by assumption) hb3
  refine hK.out _ _ Sc5 (fun _ => ?_)
  clear hK K hb3
  try simp only [Act.put, List.setIfInBounds_toArray, List.set_cons_zero, List.set_cons_succ]
  refine wpAnyH_ready (rs := [19]) (by kernel_rfl) (by simp) ?_
  refine AllReadyH.cons (o := { dst := some 55, op := Go.Op.call { callee := Go.Callee.value (Go.Operand.func 16), args := #[Go.Operand.tmp 54], argTypes := #[23] }, type := 22, pos := "law.go:164", after := #[{ on := 18, ground := Go.Ground.data }, { on := 17, ground := Go.Ground.chain }, { on := 15, ground := Go.Ground.guard }], guard := some (15, true) }) rfl (fun K hK => ?_) AllReadyH.nil
  go_simp
  go_at_call 16
  refine (DQ.out _ (hop HB9.out h0 (by go_split_ands; assumption))).mono ?_
  rintro e wc6 ⟨rfl, hb3⟩
  have Sc6 := HS.out _ _ (by assumption) hb3
  refine hK.out _ _ Sc6 (fun _ => ?_)
  clear hK K hb3
  try simp only [Act.put, List.setIfInBounds_toArray, List.set_cons_zero, List.set_cons_succ]
  refine wpAnyH_take (i := 20) (oi := { dst := some 56, op := Go.Op.binOp Go.BinOp.eql 22 (Go.Operand.tmp 53) (Go.Operand.tmp 55) 22, type := 4, pos := "law.go:164", after := #[{ on := 17, ground := Go.Ground.data }, { on := 19, ground := Go.Ground.data }, { on := 15, ground := Go.Ground.guard }], guard := some (15, true) }) (v := ?_) rfl (by kernel_rfl) (by kernel_rfl) (by kernel_rfl) (fun _ _ _ h => h) (Or.inl ⟨by kernel_rfl, ?_⟩) (by assumption) ?_
  rotate_left
  · intro w _
    first | (go_simp; done) | (go_simp; with_reducible rfl)
  try simp only [Act.put, List.setIfInBounds_toArray, List.set_cons_zero, List.set_cons_succ]
  refine wpAnyH_take (i := 21) (oi := { dst := some 57, op := Go.Op.pick (Go.Operand.tmp 51) (Go.Operand.tmp 56) (Go.Operand.const (Go.Value.bool false)), type := 4, pos := "law.go:164", after := #[{ on := 15, ground := Go.Ground.data }, { on := 20, ground := Go.Ground.data }], guard := none }) (v := ?_) rfl (by kernel_rfl) (by kernel_rfl) (by kernel_rfl) (fun _ _ _ h => h) (Or.inl ⟨by kernel_rfl, ?_⟩) (by assumption) ?_
  rotate_left
  · intro w _
    first | (go_simp; done) | (go_simp; with_reducible rfl)
  try simp only [Act.put, List.setIfInBounds_toArray, List.set_cons_zero, List.set_cons_succ]
  refine wpAnyH_take (i := 22) (oi := { dst := some 58, op := Go.Op.move (Go.Operand.tmp 57), type := 4, pos := "law.go:164", after := #[{ on := 21, ground := Go.Ground.data }, { on := 19, ground := Go.Ground.chain }], guard := none }) (v := ?_) rfl (by kernel_rfl) (by kernel_rfl) (by kernel_rfl) (fun _ _ _ h => h) (Or.inl ⟨by kernel_rfl, ?_⟩) (by assumption) ?_
  rotate_left
  · intro w _
    first | (go_simp; done) | (go_simp; with_reducible rfl)
  try simp only [Act.put, List.setIfInBounds_toArray, List.set_cons_zero, List.set_cons_succ]
  refine wpAnyH_take (i := 23) (oi := { dst := some 59, op := Go.Op.move (Go.Operand.tmp 11), type := 9, pos := "law.go:164", after := #[{ on := 22, ground := Go.Ground.guard }], guard := some (22, true) }) (v := ?_) rfl (by kernel_rfl) (by kernel_rfl) (by kernel_rfl) (fun _ _ _ h => h) (Or.inl ⟨by kernel_rfl, ?_⟩) (by assumption) ?_
  rotate_left
  · intro w _
    first | (go_simp; done) | (go_simp; with_reducible rfl)
  try simp only [Act.put, List.setIfInBounds_toArray, List.set_cons_zero, List.set_cons_succ]
  refine wpAnyH_take (i := 24) (oi := { dst := some 60, op := Go.Op.move (Go.Operand.tmp 13), type := 9, pos := "law.go:164", after := #[{ on := 22, ground := Go.Ground.guard }], guard := some (22, true) }) (v := ?_) rfl (by kernel_rfl) (by kernel_rfl) (by kernel_rfl) (fun _ _ _ h => h) (Or.inl ⟨by kernel_rfl, ?_⟩) (by assumption) ?_
  rotate_left
  · intro w _
    first | (go_simp; done) | (go_simp; with_reducible rfl)
  try simp only [Act.put, List.setIfInBounds_toArray, List.set_cons_zero, List.set_cons_succ]
  refine wpAnyH_take (i := 25) (oi := { dst := some 61, op := Go.Op.binOp Go.BinOp.eql 9 (Go.Operand.tmp 59) (Go.Operand.tmp 60) 9, type := 4, pos := "law.go:164", after := #[{ on := 23, ground := Go.Ground.data }, { on := 24, ground := Go.Ground.data }, { on := 22, ground := Go.Ground.guard }], guard := some (22, true) }) (v := ?_) rfl (by kernel_rfl) (by kernel_rfl) (by kernel_rfl) (fun _ _ _ h => h) (Or.inl ⟨by kernel_rfl, ?_⟩) (by assumption) ?_
  rotate_left
  · intro w _
    first | (go_simp; done) | (go_simp; with_reducible rfl)
  try simp only [Act.put, List.setIfInBounds_toArray, List.set_cons_zero, List.set_cons_succ]
  refine wpAnyH_take (i := 26) (oi := { dst := some 62, op := Go.Op.pick (Go.Operand.tmp 58) (Go.Operand.tmp 61) (Go.Operand.const (Go.Value.bool false)), type := 4, pos := "law.go:164", after := #[{ on := 22, ground := Go.Ground.data }, { on := 25, ground := Go.Ground.data }], guard := none }) (v := ?_) rfl (by kernel_rfl) (by kernel_rfl) (by kernel_rfl) (fun _ _ _ h => h) (Or.inl ⟨by kernel_rfl, ?_⟩) (by assumption) ?_
  rotate_left
  · intro w _
    first | (go_simp; done) | (go_simp; with_reducible rfl)
  try simp only [Act.put, List.setIfInBounds_toArray, List.set_cons_zero, List.set_cons_succ]
  refine wpAnyH_take (i := 27) (oi := { dst := some 63, op := Go.Op.move (Go.Operand.tmp 62), type := 4, pos := "law.go:164", after := #[{ on := 26, ground := Go.Ground.data }, { on := 22, ground := Go.Ground.chain }], guard := none }) (v := ?_) rfl (by kernel_rfl) (by kernel_rfl) (by kernel_rfl) (fun _ _ _ h => h) (Or.inl ⟨by kernel_rfl, ?_⟩) (by assumption) ?_
  rotate_left
  · intro w _
    first | (go_simp; done) | (go_simp; with_reducible rfl)
  try simp only [Act.put, List.setIfInBounds_toArray, List.set_cons_zero, List.set_cons_succ]
  refine wpAnyH_take (i := 28) (oi := { dst := some 64, op := Go.Op.move (Go.Operand.tmp 12), type := 4, pos := "law.go:164", after := #[{ on := 27, ground := Go.Ground.guard }], guard := some (27, true) }) (v := ?_) rfl (by kernel_rfl) (by kernel_rfl) (by kernel_rfl) (fun _ _ _ h => h) (Or.inl ⟨by kernel_rfl, ?_⟩) (by assumption) ?_
  rotate_left
  · intro w _
    first | (go_simp; done) | (go_simp; with_reducible rfl)
  try simp only [Act.put, List.setIfInBounds_toArray, List.set_cons_zero, List.set_cons_succ]
  refine wpAnyH_take (i := 29) (oi := { dst := some 65, op := Go.Op.move (Go.Operand.tmp 14), type := 4, pos := "law.go:164", after := #[{ on := 27, ground := Go.Ground.guard }], guard := some (27, true) }) (v := ?_) rfl (by kernel_rfl) (by kernel_rfl) (by kernel_rfl) (fun _ _ _ h => h) (Or.inl ⟨by kernel_rfl, ?_⟩) (by assumption) ?_
  rotate_left
  · intro w _
    first | (go_simp; done) | (go_simp; with_reducible rfl)
  try simp only [Act.put, List.setIfInBounds_toArray, List.set_cons_zero, List.set_cons_succ]
  refine wpAnyH_take (i := 30) (oi := { dst := some 66, op := Go.Op.binOp Go.BinOp.eql 4 (Go.Operand.tmp 64) (Go.Operand.tmp 65) 4, type := 4, pos := "law.go:164", after := #[{ on := 28, ground := Go.Ground.data }, { on := 29, ground := Go.Ground.data }, { on := 27, ground := Go.Ground.guard }], guard := some (27, true) }) (v := ?_) rfl (by kernel_rfl) (by kernel_rfl) (by kernel_rfl) (fun _ _ _ h => h) (Or.inl ⟨by kernel_rfl, ?_⟩) (by assumption) ?_
  rotate_left
  · intro w _
    first | (go_simp; done) | (go_simp; with_reducible rfl)
  try simp only [Act.put, List.setIfInBounds_toArray, List.set_cons_zero, List.set_cons_succ]
  refine wpAnyH_take (i := 31) (oi := { dst := some 67, op := Go.Op.pick (Go.Operand.tmp 63) (Go.Operand.tmp 66) (Go.Operand.const (Go.Value.bool false)), type := 4, pos := "law.go:164", after := #[{ on := 27, ground := Go.Ground.data }, { on := 30, ground := Go.Ground.data }], guard := none }) (v := ?_) rfl (by kernel_rfl) (by kernel_rfl) (by kernel_rfl) (fun _ _ _ h => h) (Or.inl ⟨by kernel_rfl, ?_⟩) (by assumption) ?_
  rotate_left
  · intro w _
    first | (go_simp; done) | (go_simp; with_reducible rfl)
  try simp only [Act.put, List.setIfInBounds_toArray, List.set_cons_zero, List.set_cons_succ]
  refine wpAnyH_take (i := 32) (oi := { dst := some 68, op := Go.Op.move (Go.Operand.tmp 67), type := 4, pos := "law.go:164", after := #[{ on := 31, ground := Go.Ground.data }, { on := 27, ground := Go.Ground.chain }], guard := none }) (v := ?_) rfl (by kernel_rfl) (by kernel_rfl) (by kernel_rfl) (fun _ _ _ h => h) (Or.inl ⟨by kernel_rfl, ?_⟩) (by assumption) ?_
  rotate_left
  · intro w _
    first | (go_simp; done) | (go_simp; with_reducible rfl)
  try simp only [Act.put, List.setIfInBounds_toArray, List.set_cons_zero, List.set_cons_succ]
  refine wpAnyH_take (i := 33) (oi := { dst := some 69, op := Go.Op.load 29 (Go.Operand.tmp 10), type := 29, pos := "law.go:164", after := #[{ on := 32, ground := Go.Ground.guard }], guard := some (32, true) }) (v := ?_) rfl (by kernel_rfl) (by kernel_rfl) (by kernel_rfl) (fun _ _ _ h => h) (Or.inl ⟨by kernel_rfl, ?_⟩) (by assumption) ?_
  rotate_left
  · intro w hSw
    (try dsimp only at hSw)
    go_split_ands
    first | (go_simp; done) | (go_simp; with_reducible rfl)
  try simp only [Act.put, List.setIfInBounds_toArray, List.set_cons_zero, List.set_cons_succ]
  refine wpAnyH_take (i := 35) (oi := { dst := some 71, op := Go.Op.load 29 (Go.Operand.tmp 10), type := 29, pos := "law.go:164", after := #[{ on := 32, ground := Go.Ground.guard }], guard := some (32, true) }) (v := ?_) rfl (by kernel_rfl) (by kernel_rfl) (by kernel_rfl) (fun _ _ _ h => h) (Or.inl ⟨by kernel_rfl, ?_⟩) (by assumption) ?_
  rotate_left
  · intro w hSw
    (try dsimp only at hSw)
    go_split_ands
    first | (go_simp; done) | (go_simp; with_reducible rfl)
  try simp only [Act.put, List.setIfInBounds_toArray, List.set_cons_zero, List.set_cons_succ]
  refine wpAnyH_ready (rs := [34]) (by kernel_rfl) (by simp) ?_
  refine AllReadyH.cons (o := { dst := some 70, op := Go.Op.call { callee := Go.Callee.value (Go.Operand.func 17), args := #[Go.Operand.tmp 69], argTypes := #[29] }, type := 4, pos := "law.go:164", after := #[{ on := 33, ground := Go.Ground.data }, { on := 32, ground := Go.Ground.chain }, { on := 32, ground := Go.Ground.guard }], guard := some (32, true) }) rfl (fun K hK => ?_) AllReadyH.nil
  go_simp
  go_at_call 17
  refine (RT.out c _ _ HCB.out (GC.out _ (by go_split_ands; assumption))).mono ?_
  rintro e wc7 ⟨rfl, hb3⟩
  have Sc7 := HS.out _ _ (by assumption) hb3
  refine hK.out _ _ Sc7 (fun _ => ?_)
  clear hK K hb3
  try simp only [Act.put, List.setIfInBounds_toArray, List.set_cons_zero, List.set_cons_succ]
  refine wpAnyH_ready (rs := [36]) (by kernel_rfl) (by simp) ?_
  refine AllReadyH.cons (o := { dst := some 72, op := Go.Op.call { callee := Go.Callee.value (Go.Operand.func 10), args := #[Go.Operand.tmp 71], argTypes := #[29] }, type := 45, pos := "law.go:164", after := #[{ on := 35, ground := Go.Ground.data }, { on := 34, ground := Go.Ground.chain }, { on := 32, ground := Go.Ground.guard }], guard := some (32, true) }) rfl (fun K hK => ?_) AllReadyH.nil
  go_simp
  go_at_call 10
  refine (RC.out c _ _ HCB.out (GC.out _ (by go_split_ands; assumption))).mono ?_
  rintro e wc8 ⟨q2, rfl, hq2, hqn2, gq2, hb3⟩
  have Sc8 := HS.out _ _ (by assumption) hb3
  refine hK.out _ _ Sc8 (fun _ => ?_)
  clear hK K hb3
  try simp only [Act.put, List.setIfInBounds_toArray, List.set_cons_zero, List.set_cons_succ]
  refine wpAnyH_ready (rs := [37]) (by kernel_rfl) (by simp) ?_
  refine AllReadyH.cons (o := { dst := some 73, op := Go.Op.call { callee := Go.Callee.value (Go.Operand.func 18), args := #[Go.Operand.tmp 72], argTypes := #[45] }, type := 4, pos := "law.go:164", after := #[{ on := 36, ground := Go.Ground.data }, { on := 36, ground := Go.Ground.chain }, { on := 32, ground := Go.Ground.guard }], guard := some (32, true) }) rfl (fun K hK => ?_) AllReadyH.nil
  go_simp
  go_at_call 18
  refine (RQ.out c q2 _ HCB.out hq2 gq2 hqn2).mono ?_
  rintro e wc9 ⟨rfl, hb3⟩
  have Sc9 := HS.out _ _ (by assumption) hb3
  refine hK.out _ _ Sc9 (fun _ => ?_)
  clear hK K hb3
  try simp only [Act.put, List.setIfInBounds_toArray, List.set_cons_zero, List.set_cons_succ]
  refine wpAnyH_take (i := 38) (oi := { dst := some 74, op := Go.Op.binOp Go.BinOp.eql 4 (Go.Operand.tmp 70) (Go.Operand.tmp 73) 4, type := 4, pos := "law.go:164", after := #[{ on := 34, ground := Go.Ground.data }, { on := 37, ground := Go.Ground.data }, { on := 32, ground := Go.Ground.guard }], guard := some (32, true) }) (v := ?_) rfl (by kernel_rfl) (by kernel_rfl) (by kernel_rfl) (fun _ _ _ h => h) (Or.inl ⟨by kernel_rfl, ?_⟩) (by assumption) ?_
  rotate_left
  · intro w _
    first | (go_simp; done) | (go_simp; with_reducible rfl)
  try simp only [Act.put, List.setIfInBounds_toArray, List.set_cons_zero, List.set_cons_succ]
  refine wpAnyH_take (i := 39) (oi := { dst := some 75, op := Go.Op.pick (Go.Operand.tmp 68) (Go.Operand.tmp 74) (Go.Operand.const (Go.Value.bool false)), type := 4, pos := "law.go:164", after := #[{ on := 32, ground := Go.Ground.data }, { on := 38, ground := Go.Ground.data }], guard := none }) (v := ?_) rfl (by kernel_rfl) (by kernel_rfl) (by kernel_rfl) (fun _ _ _ h => h) (Or.inl ⟨by kernel_rfl, ?_⟩) (by assumption) ?_
  rotate_left
  · intro w _
    first | (go_simp; done) | (go_simp; with_reducible rfl)
  try simp only [Act.put, List.setIfInBounds_toArray, List.set_cons_zero, List.set_cons_succ]
  refine wpAnyH_take (i := 40) (oi := { dst := some 8, op := Go.Op.assign (Go.Operand.tmp 75), type := 4, pos := "law.go:164", after := #[{ on := 39, ground := Go.Ground.data }, { on := 37, ground := Go.Ground.chain }, { on := 0, ground := Go.Ground.phase }, { on := 1, ground := Go.Ground.phase }, { on := 2, ground := Go.Ground.phase }, { on := 3, ground := Go.Ground.phase }, { on := 4, ground := Go.Ground.phase }, { on := 5, ground := Go.Ground.phase }, { on := 6, ground := Go.Ground.phase }, { on := 7, ground := Go.Ground.phase }, { on := 8, ground := Go.Ground.phase }, { on := 9, ground := Go.Ground.phase }, { on := 10, ground := Go.Ground.phase }, { on := 11, ground := Go.Ground.phase }, { on := 12, ground := Go.Ground.phase }, { on := 13, ground := Go.Ground.phase }, { on := 14, ground := Go.Ground.phase }, { on := 15, ground := Go.Ground.phase }, { on := 16, ground := Go.Ground.phase }, { on := 17, ground := Go.Ground.phase }, { on := 18, ground := Go.Ground.phase }, { on := 19, ground := Go.Ground.phase }, { on := 20, ground := Go.Ground.phase }, { on := 21, ground := Go.Ground.phase }, { on := 22, ground := Go.Ground.phase }, { on := 23, ground := Go.Ground.phase }, { on := 24, ground := Go.Ground.phase }, { on := 25, ground := Go.Ground.phase }, { on := 26, ground := Go.Ground.phase }, { on := 27, ground := Go.Ground.phase }, { on := 28, ground := Go.Ground.phase }, { on := 29, ground := Go.Ground.phase }, { on := 30, ground := Go.Ground.phase }, { on := 31, ground := Go.Ground.phase }, { on := 32, ground := Go.Ground.phase }, { on := 33, ground := Go.Ground.phase }, { on := 34, ground := Go.Ground.phase }, { on := 35, ground := Go.Ground.phase }, { on := 36, ground := Go.Ground.phase }, { on := 37, ground := Go.Ground.phase }, { on := 38, ground := Go.Ground.phase }, { on := 39, ground := Go.Ground.phase }], guard := none }) (v := ?_) rfl (by kernel_rfl) (by kernel_rfl) (by kernel_rfl) (fun _ _ _ h => h) (Or.inl ⟨by kernel_rfl, ?_⟩) (by assumption) ?_
  rotate_left
  · intro w _
    first | (go_simp; done) | (go_simp; with_reducible rfl)
  try simp only [Act.put, List.setIfInBounds_toArray, List.set_cons_zero, List.set_cons_succ]
  refine wpAnyH_done (by kernel_rfl) ?_ _
  go_wp2
  go_ret
  exact ⟨by first | rfl | (simp; done), hop HB9.out h0 (by go_split_ands; assumption)⟩
end Go.Proofs.YtfamcebgcpaolaaGreatDoor
