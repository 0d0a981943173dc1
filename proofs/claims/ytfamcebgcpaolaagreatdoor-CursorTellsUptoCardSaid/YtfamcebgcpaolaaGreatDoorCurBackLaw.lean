/- Bytes that lie in a block, and the text that they are.
   The walk of the law CursorBack: each cursor that may be is got as it was put; with one byte another one, cut, or with something behind, it is none. -/
import Derived.Test.YtfamcebgcpaolaaGreatDoorScanQuo
import Derived.Test.YtfamcebgcpaolaaGreatDoorSpotOpen
import Derived.Test.YtfamcebgcpaolaaGreatDoorCurExam
import Derived.Lib.ConvBytes
import Derived.Laws.BitsAllLaws
namespace Go.Proofs.YtfamcebgcpaolaaGreatDoor
open Go.RowKit
set_option linter.unusedVariables false
set_option linter.unusedSimpArgs false

def BytesAt (w : World) (g : Nat) (l : List UInt8) : Prop := ∀ i, i < l.length → w.cell? ⟨g, i, none⟩ = some (.int .u8 ((l.getD i 0).toNat : Int))
theorem BytesAt.drewN {w : World} {g : Nat} {l : List UInt8} (h : BytesAt w g l) (q : Nat) : BytesAt (w.drewN q) g l := h
theorem BytesAt.below {w w' : World} {g : Nat} {l : List UInt8} (h : BytesAt w g l) (hb : Below w.heap.size w w') : BytesAt w' g l := fun i hi => (hb.cell (p := ⟨g, i, none⟩) (block_lt_of_cell (h i hi))).trans (h i hi)
theorem conv_at {w : World} {g : Nat} {l : List UInt8} (h : BytesAt w g l) (n cap : Nat) (hn : n = l.length) : (convert 63 9 (.slice (some ⟨g, 0, none⟩) n cap)).run Tryz.prog w = .ok (.string (tx l)) w := by
  subst hn
  have h2 := run_convert_bytes_arg (P := Tryz.prog) w 63 5 Tryz.underlying63 Tryz.underlying5 g 0 l.length cap (l.map fun b => (b.toNat : Int)) (by rw [List.length_map]) (fun i hi => by
    rw [Nat.zero_add, h i hi]
    simp [hi, List.getD_eq_getElem?_getD]) 9 Tryz.underlying9
  have e : strOfNums (l.map fun b => (b.toNat : Int)) = tx l := by
    apply ByteArray.ext
    apply Array.toList_inj.1
    rw [strOfNums_data, List.map_map, tx_list]
    conv => rhs; rw [← List.map_id l]
    apply List.map_congr_left
    intro x _
    simp
  rw [h2, e]
theorem conv_bytes (w : World) (s : ByteArray) : ∃ C w1, (convert 9 63 (.string s)).run Tryz.prog w = .ok (.slice (some ⟨w.heap.size, 0, none⟩) s.size C) w1 ∧ Below w.heap.size w w1 ∧ w.heap.size < w1.heap.size ∧ (∀ j, j < s.size → w1.frozen? ⟨w.heap.size, j, none⟩ = false) ∧ BytesAt w1 w.heap.size s.data.toList := by
  refine ⟨_, _, Lib.run_convert_string_bytes w 9 63 5 s Tryz.underlying9 Tryz.underlying63 Tryz.underlying5, ⟨rfl, rfl, rfl, ?_, fun k hk => Lib.bytesWorld_at_old w _ s k hk⟩, ?_, fun j hj => ?_, fun j hj => ?_⟩
  · rw [Lib.bytesWorld_size]; omega
  · rw [Lib.bytesWorld_size]; omega
  · have hz : s.size ≤ (Lib.bytesCells w 5 s).size := by simp [Lib.bytesCells]
    simp only [World.frozen?, Lib.bytesWorld_at_new]
    simp
    omega
  · exact Lib.bytesWorld_cell w _ s j (by rw [← size_toList]; exact hj)
theorem BytesAt.set_ {w : World} {g : Nat} {l : List UInt8} (h : BytesAt w g l) (k : Nat) (hk : k < l.length) (c : UInt8) : BytesAt (w.setCell ⟨g, k, none⟩ (.int .u8 (c.toNat : Int))) g (l.set k c) := by
  intro i hi
  rw [List.length_set] at hi
  by_cases e : k = i
  · subst e
    rw [List.getD_eq_getElem?_getD, List.getElem?_set_self hk, Option.getD_some]
    have := h k hk
    exact World.cell?_setCell_same _ _ _ this
  · rw [List.getD_eq_getElem?_getD, List.getElem?_set_ne e, ← List.getD_eq_getElem?_getD, ← h i hi]
    exact World.cell?_setCell_other _ _ _ _ (fun h => e (by injection h))
/-- one byte, by an exclusive-or -/
def bentL (l : List UInt8) (k : Nat) (b : UInt8) : List UInt8 := l.set k ((l.getD k 0) ^^^ b)
theorem xor8 (c b : UInt8) : bits .xor .u8 (c.toNat : Int) (b.toNat : Int) = ((c ^^^ b).toNat : Int) := by
  rw [u8_xor_nat _ _ c.toNat_lt b.toNat_lt, UInt8.toNat_xor]
theorem xor_self8 (c b : UInt8) : c ^^^ b = c ↔ b = 0 := by
  rw [← UInt8.toNat_inj, ← UInt8.toNat_inj, UInt8.toNat_xor]
  constructor
  · intro h
    have h2 := congrArg (c.toNat ^^^ ·) h
    simpa [← Nat.xor_assoc] using h2
  · intro h
    rw [h]
    simp
theorem parted_list (l : List UInt8) (k : Nat) (hk : k < l.length) (c : UInt8) : l = l.take k ++ l.getD k 0 :: l.drop (k + 1) ∧ l.set k c = l.take k ++ c :: l.drop (k + 1) := by
  have h1 : l.getD k 0 = l[k] := by rw [List.getD_eq_getElem?_getD, List.getElem?_eq_getElem hk]; rfl
  refine ⟨?_, ?_⟩
  · rw [h1, List.getElem_cons_drop, List.take_append_drop]
  · rw [List.set_eq_take_append_cons_drop, if_pos hk]
end Go.Proofs.YtfamcebgcpaolaaGreatDoor
namespace Go.Proofs.YtfamcebgcpaolaaGreatDoor
open Go.RowKit
set_option linter.unusedVariables false
set_option linter.unusedSimpArgs false

theorem GoodS.mono {B B' : Nat} {w : World} {x : SpotX} (h : GoodS B w x) (hB : B ≤ B') : GoodS B' w x := ⟨h.cur.mono hB, h.item.mono hB, h.dg, h.l0, h.l1, h.b0, h.b1⟩
theorem GoodS.own {B : Nat} {w : World} {x : SpotX} (h : GoodS B w x) : GoodS B w ⟨x.c, true, x.e⟩ := ⟨h.cur, h.item, h.dg, h.l0, h.l1, h.b0, h.b1⟩
/-- a cursor whose numbers may be, and whose entry can be put -/
structure PutC (c : CurB) : Prop where
  dg : c.dg < 18446744073709551616
  l0 : -9223372036854775808 ≤ c.ln
  l1 : c.ln ≤ 9223372036854775807
  b0 : -9223372036854775808 ≤ c.by_
  b1 : c.by_ ≤ 9223372036854775807
  e : PutE c.e
theorem spot_put {B : Nat} {w : World} {x : SpotX} (h : GoodS B w x) (hk : spotK x ≤ 1048576) : PutC (spotB x) := by
  have h1 := leftN_in x.c.ln 100 (by decide)
  have h2 := leftN_in x.c.by_ 1000 (by decide)
  have e := item_put h.item (by unfold spotK at hk; omega)
  have q0 := h.l0
  have q1 := h.l1
  have q2 := h.b0
  have q3 := h.b1
  unfold spotB
  cases x.own with
  | true => exact ⟨h.dg, by show _ ≤ leftN x.c.ln 100; omega, by show leftN x.c.ln 100 ≤ _; omega, by show _ ≤ leftN x.c.by_ 1000; omega, by show leftN x.c.by_ 1000 ≤ _; omega, e⟩
  | false => exact ⟨h.dg, q0, q1, q2, q3, e⟩
theorem put_cur (c : CurX) (w : World) {B1 : Nat} (ha : Good B1 w c.e) (hf : PutC c.b) (hl : LibIs w) :
    Calls Tryz.prog 8 #[.agg #[.int .u64 (c.dg : Int), .int .i64 c.ln, .int .i64 c.by_, .int .i64 c.e.ts, .slice c.e.A c.e.n c.e.c, .string c.e.ln]] w fun e w' => e = .returned (.tuple #[.string (if c.b.right = true then c.b.put else .empty), .bool c.b.right]) ∧ Below w.heap.size w w' :=
  curPut_any c.dg c.ln c.by_ c.e.ts c.e.A c.e.n c.e.c c.e.ls c.e.ln hf.dg hf.l0 hf.l1 hf.b0 hf.b1 (by have h1 : c.e.ls.length = c.e.n := ha.set.1.1; have h2 : c.e.ls.length ≤ 1048576 := hf.e.len; omega) hf.e.join hf.e.set hf.e.line hf.e.lo hf.e.hi hf.e.size w ha.set.1 hl
theorem right_cur (c : CurX) (w : World) {B1 : Nat} (ha : Good B1 w c.e) :
    Calls Tryz.prog 17 #[.agg #[.int .u64 (c.dg : Int), .int .i64 c.ln, .int .i64 c.by_, .int .i64 c.e.ts, .slice c.e.A c.e.n c.e.c, .string c.e.ln]] w fun e w' => e = .returned (.bool c.b.right) ∧ Below w.heap.size w w' :=
  curRight_any c.dg c.ln c.by_ c.e.ts c.e.A c.e.n c.e.c c.e.ls c.e.ln ha.len w ha.set.1
theorem put_size_le (c : CurB) (h : PutC c) : c.put.size ≤ 9000300 ∧ 1 ≤ c.put.size := by
  have h1 := h.e.size
  have h2 := itoaS_size c.ln h.l0 h.l1
  have h3 := itoaS_size c.by_ h.b0 h.b1
  have e1 : (Lib.itoa c.ln).length = (itoaS c.ln).size := by rw [← size_toList, itoaS_list]
  have e2 : (Lib.itoa c.by_).length = (itoaS c.by_).size := by rw [← size_toList, itoaS_list]
  have h4 : c.put.size = (bodyL c).length + 16 := by rw [← size_toList, put_list, List.length_append, hx_len]
  rw [h4]
  unfold bodyL
  simp only [List.length_append, List.length_cons, hx_len, List.length_nil, ← entT_size, e1, e2]
  omega
theorem put_ok (c : CurB) (h : PutC c) (hr : c.right = true) : OkC c := ⟨h.dg, h.l0, h.l1, h.b0, h.b1, (right_ent hr).2.2, h.e.lo, h.e.hi⟩
theorem get_bent (c : CurB) (h : OkC c) (hr : c.right = true) (k : Nat) (hk : k < c.put.size) (y : UInt8) : getE (tx (bentL c.put.data.toList k y)) = if y = 0 then 0 else 5 := by
  have hl : k < c.put.data.toList.length := by rw [size_toList]; exact hk
  obtain ⟨h1, h2⟩ := parted_list c.put.data.toList k hl ((c.put.data.toList.getD k 0) ^^^ y)
  by_cases hy : y = 0
  · rw [if_pos hy]
    have e : bentL c.put.data.toList k y = c.put.data.toList := by
      unfold bentL
      rw [h2, (xor_self8 _ _).2 hy, ← h1]
    rw [e, tx_back]
    unfold getE
    rw [(getC_iff _ _).2 ⟨h, hr, rfl⟩]
    rfl
  · rw [if_neg hy]
    unfold getE
    rw [getC_bent c _ _ _ _ (fun e => hy ((xor_self8 _ _).1 e.symm)) h1 (tx (bentL c.put.data.toList k y)) (by rw [tx_list]; unfold bentL; exact h2)]
    rfl

set_option maxRecDepth 100000 in
set_option maxHeartbeats 6400000 in
theorem cursorBack_walk {W : World} (x : SpotX) (at_ by_ : Int) (hx : GoodS W.heap.size W x) (ux : spotK x ≤ 1048576) (wat : (Lit.int .u16 at_).wf = true) (wby : (Lit.int .u8 by_).wf = true) (hl : LibIs W) :
    Calls Tryz.prog 5 #[x.val, .int .u16 at_, .int .u8 by_] W fun e w' => e = .returned (.bool true) ∧ Below W.heap.size W w' := by
  have h0 : W.heap.size ≤ W.heap.size := Nat.le_refl _
  obtain ⟨t0, t1⟩ := bdu16 wat
  obtain ⟨b0, b1⟩ := bdu8 wby
  obtain ⟨n, rfl⟩ : ∃ n : Nat, by_ = n := ⟨by_.toNat, by omega⟩
  have hn : n < 256 := by omega
  obtain ⟨y, hy⟩ : ∃ y : UInt8, y.toNat = n := ⟨UInt8.ofNat n, by simp; omega⟩
  subst hy
  have HX := Lib.hid (fun w h => curExamples_any w (hl.below h))
  have SP := Lib.hid (fun w h => spot_any ⟨x.c, true, x.e⟩ w h)
  have HGS := Lib.hid (fun w (h : Below W.heap.size W w) => (hx.own.below h).mono h.size)
  have PC := spot_put hx.own (show spotK ⟨x.c, true, x.e⟩ ≤ 1048576 from ux)
  obtain ⟨cb, hcb⟩ : ∃ c, spotB ⟨x.c, true, x.e⟩ = c := ⟨_, rfl⟩
  rw [hcb] at PC
  replace SP := SP.out
  simp only [hcb] at SP
  dsimp only [SpotX.val] at SP ⊢
  replace SP := Lib.hid SP
  obtain ⟨p1, p2⟩ := put_size_le cb PC
  have hok := fun h => put_ok cb PC h
  have RT := Lib.hid (fun (c : CurX) (w : World) (B1 : Nat) (h1 : c.b = cb) (h2 : Good B1 w c.e) => show Calls Tryz.prog 17 #[.agg #[.int .u64 (c.dg : Int), .int .i64 c.ln, .int .i64 c.by_, .int .i64 c.e.ts, .slice c.e.A c.e.n c.e.c, .string c.e.ln]] w fun e w' => e = .returned (.bool cb.right) ∧ Below w.heap.size w w' from by
    have h := right_cur c w h2
    rwa [h1] at h)
  have PT := Lib.hid (fun (c : CurX) (w : World) (B1 : Nat) (h1 : c.b = cb) (h2 : Good B1 w c.e) (h3 : LibIs w) => show Calls Tryz.prog 8 #[.agg #[.int .u64 (c.dg : Int), .int .i64 c.ln, .int .i64 c.by_, .int .i64 c.e.ts, .slice c.e.A c.e.n c.e.c, .string c.e.ln]] w fun e w' => e = .returned (.tuple #[.string (if cb.right = true then cb.put else .empty), .bool cb.right]) ∧ Below w.heap.size w w' from by
    have h := put_cur c w h2 (by rw [h1]; exact PC) h3
    rwa [h1] at h)
  have hget := fun (h : cb.right = true) => (getC_iff cb.put cb).2 ⟨hok h, h, rfl⟩
  have hk0 : 0 ≤ at_ % (cb.put.size : Int) := Int.emod_nonneg _ (by omega)
  have hk1 : at_ % (cb.put.size : Int) < (cb.put.size : Int) := Int.emod_lt_of_pos _ (by omega)
  obtain ⟨k, hk⟩ : ∃ k : Nat, at_ % (cb.put.size : Int) = k := ⟨(at_ % (cb.put.size : Int)).toNat, by omega⟩
  have hku : k < cb.put.size := by omega
  have hbent := fun (h : cb.right = true) => get_bent cb (hok h) h k hku y
  have hless := fun (h : cb.right = true) => getC_less cb k (hok h) hku
  have hmore := fun (h : cb.right = true) => getC_more cb (⟨#[48]⟩ : ByteArray) (hok h) (by decide)
  have hk2 : at_.tmod (cb.put.size : Int) = k := by rw [Int.tmod_eq_emod_of_nonneg t0]; exact hk
  have hwat : IntKind.i64.wrap at_ = at_ := by rw [IntKind.wrap_i64]; omega
  obtain ⟨R, hR⟩ : ∃ r, cb.right = r := ⟨_, rfl⟩
  obtain ⟨T, hT⟩ : ∃ t, cb.put = t := ⟨_, rfl⟩
  replace RT := RT.out
  replace PT := PT.out
  simp only [hR] at RT
  simp only [hR, hT] at PT
  simp only [hR, hT] at hget hbent hless hmore
  rw [hT] at p1 p2 hk2 hku
  replace RT := Lib.hid RT
  replace PT := Lib.hid PT
  have HL := Lib.hid hl
  clear hl wat wby hx ux hcb PC hok hk0 hk1 hk hn b0 b1 hR hT
  cases R with
  | false =>
    clear hget hbent hless hmore
    simp only [if_neg (show ¬ (false = true) by decide)] at PT
    go_enter Tryz.func5, Tryz.ntmps5
    go_wp2_with fail
    obtain ⟨g1, hg1⟩ : ∃ g, W.heap.size = g := ⟨_, rfl⟩
    obtain ⟨w0, hw0⟩ : ∃ w, W.alloc (.cells #[.int .u64 (x.c.dg : Int), .int .i64 x.c.ln, .int .i64 x.c.by_, .int .i64 x.c.e.ts, .slice x.c.e.A x.c.e.n x.c.e.c, .string x.c.e.ln, .bool x.own, .int .i64 x.e.e.ts, .slice x.e.e.A x.e.e.n x.e.e.c, .string x.e.e.ln, .bool x.e.own, .int .i8 x.e.t, .slice x.e.LA x.e.Ln x.e.Lc, .int .u8 (x.e.k : Int)] 35) = w := ⟨_, rfl⟩
    have B0 : Blk w0 g1 35 #[.int .u64 (x.c.dg : Int), .int .i64 x.c.ln, .int .i64 x.c.by_, .int .i64 x.c.e.ts, .slice x.c.e.A x.c.e.n x.c.e.c, .string x.c.e.ln, .bool x.own, .int .i64 x.e.e.ts, .slice x.e.e.A x.e.e.n x.e.e.c, .string x.e.e.ln, .bool x.e.own, .int .i8 x.e.t, .slice x.e.LA x.e.Ln x.e.Lc, .int .u8 (x.e.k : Int)] := by rw [← hw0, ← hg1]; exact Blk.new W _ _
    have hb0 : Below W.heap.size W w0 := by rw [← hw0]; exact (Below.refl _ _).alloc h0 _
    have hgW : W.heap.size ≤ g1 := by omega
    rw [hw0]
    rw [hg1]
    have HGW := Lib.hid hgW
    clear hw0 hg1 hgW
    refine (HX.out _ hb0).mono ?_
    rintro e w1 ⟨rfl, hx⟩
    have B1 := B0.below hx B0.lt
    have hb1 := hop hb0 h0 hx
    have fz := B1.frozen 6
    have o6 : w1.cell? ⟨g1, 6, none⟩ = some (.bool x.own) := (B1.cell 6).trans rfl
    have B2 := B1.set_ 6 (.bool true)
    simp only [List.setIfInBounds_toArray, List.set_cons_zero, List.set_cons_succ] at B2
    have hb2 := hb1.setCell (p := ⟨g1, 6, none⟩) HGW.out (.bool true)
    obtain ⟨w2, hw2⟩ : ∃ w, w1.setCell ⟨g1, 6, none⟩ (.bool true) = w := ⟨_, rfl⟩
    rw [hw2] at B2 hb2
    have p0 : w2.cell? ⟨g1, 0, none⟩ = some (.int .u64 (x.c.dg : Int)) := (B2.cell 0).trans rfl
    have p1 : w2.cell? ⟨g1, 1, none⟩ = some (.int .i64 x.c.ln) := (B2.cell 1).trans rfl
    have p2 : w2.cell? ⟨g1, 2, none⟩ = some (.int .i64 x.c.by_) := (B2.cell 2).trans rfl
    have p3 : w2.cell? ⟨g1, 3, none⟩ = some (.int .i64 x.c.e.ts) := (B2.cell 3).trans rfl
    have p4 : w2.cell? ⟨g1, 4, none⟩ = some (.slice x.c.e.A x.c.e.n x.c.e.c) := (B2.cell 4).trans rfl
    have p5 : w2.cell? ⟨g1, 5, none⟩ = some (.string x.c.e.ln) := (B2.cell 5).trans rfl
    have p6 : w2.cell? ⟨g1, 6, none⟩ = some (.bool true) := (B2.cell 6).trans rfl
    have p7 : w2.cell? ⟨g1, 7, none⟩ = some (.int .i64 x.e.e.ts) := (B2.cell 7).trans rfl
    have p8 : w2.cell? ⟨g1, 8, none⟩ = some (.slice x.e.e.A x.e.e.n x.e.e.c) := (B2.cell 8).trans rfl
    have p9 : w2.cell? ⟨g1, 9, none⟩ = some (.string x.e.e.ln) := (B2.cell 9).trans rfl
    have p10 : w2.cell? ⟨g1, 10, none⟩ = some (.bool x.e.own) := (B2.cell 10).trans rfl
    have p11 : w2.cell? ⟨g1, 11, none⟩ = some (.int .i8 x.e.t) := (B2.cell 11).trans rfl
    have p12 : w2.cell? ⟨g1, 12, none⟩ = some (.slice x.e.LA x.e.Ln x.e.Lc) := (B2.cell 12).trans rfl
    have p13 : w2.cell? ⟨g1, 13, none⟩ = some (.int .u8 (x.e.k : Int)) := (B2.cell 13).trans rfl
    have HGS2 := Lib.hid (HGS.out _ hb2)
    clear hx hb0 B0 hb1 B1 HX HGS B2
    go_wp2_with fail
    clear hw2 o6 fz p0 p1 p2 p3 p4 p5 p6 p7 p8 p9 p10 p11 p12 p13
    refine (SP.out _ HGS2.out).mono ?_
    rintro e w3 ⟨c, rfl, hcb, gc, hx⟩
    have hb3 := hop hb2 h0 hx
    dsimp only [CurX.val]
    obtain ⟨g2, hg2⟩ : ∃ g, w3.heap.size = g := ⟨_, rfl⟩
    obtain ⟨w4, hw4⟩ : ∃ w, w3.alloc (.cells #[.int .u64 (c.dg : Int), .int .i64 c.ln, .int .i64 c.by_, .int .i64 c.e.ts, .slice c.e.A c.e.n c.e.c, .string c.e.ln] 29) = w := ⟨_, rfl⟩
    have B4 : Blk w4 g2 29 #[.int .u64 (c.dg : Int), .int .i64 c.ln, .int .i64 c.by_, .int .i64 c.e.ts, .slice c.e.A c.e.n c.e.c, .string c.e.ln] := by rw [← hw4, ← hg2]; exact Blk.new _ _ _
    have hb4 : Below W.heap.size W w4 := by rw [← hw4]; exact hb3.alloc hb3.size _
    have gc4 : Good w2.heap.size w4 c.e := by rw [← hw4]; exact gc.below ((Below.refl _ _).alloc (Nat.le_refl _) _)
    have HCB := Lib.hid hcb
    have q0 : w4.cell? ⟨g2, 0, none⟩ = some (.int .u64 (c.dg : Int)) := (B4.cell 0).trans rfl
    have q1 : w4.cell? ⟨g2, 1, none⟩ = some (.int .i64 c.ln) := (B4.cell 1).trans rfl
    have q2 : w4.cell? ⟨g2, 2, none⟩ = some (.int .i64 c.by_) := (B4.cell 2).trans rfl
    have q3 : w4.cell? ⟨g2, 3, none⟩ = some (.int .i64 c.e.ts) := (B4.cell 3).trans rfl
    have q4 : w4.cell? ⟨g2, 4, none⟩ = some (.slice c.e.A c.e.n c.e.c) := (B4.cell 4).trans rfl
    have q5 : w4.cell? ⟨g2, 5, none⟩ = some (.string c.e.ln) := (B4.cell 5).trans rfl
    clear hx hb2 hb3 gc SP HGS2 hcb
    go_wp2_with fail
    clear hw4 hg2 q0 q1 q2 q3 q4 q5
    refine (PT.out c _ _ HCB.out gc4 (HL.out.below hb4)).mono ?_
    rintro e w5 ⟨rfl, hx⟩
    have B5 := B4.below hx B4.lt
    have gc5 := gc4.below hx
    have hb5 := hop hb4 h0 hx
    have q0 : w5.cell? ⟨g2, 0, none⟩ = some (.int .u64 (c.dg : Int)) := (B5.cell 0).trans rfl
    have q1 : w5.cell? ⟨g2, 1, none⟩ = some (.int .i64 c.ln) := (B5.cell 1).trans rfl
    have q2 : w5.cell? ⟨g2, 2, none⟩ = some (.int .i64 c.by_) := (B5.cell 2).trans rfl
    have q3 : w5.cell? ⟨g2, 3, none⟩ = some (.int .i64 c.e.ts) := (B5.cell 3).trans rfl
    have q4 : w5.cell? ⟨g2, 4, none⟩ = some (.slice c.e.A c.e.n c.e.c) := (B5.cell 4).trans rfl
    have q5 : w5.cell? ⟨g2, 5, none⟩ = some (.string c.e.ln) := (B5.cell 5).trans rfl
    clear hx hb4 gc4 B4
    go_wp2_with fail
    clear q0 q1 q2 q3 q4 q5
    refine (RT.out c _ _ HCB.out gc5).mono ?_
    rintro e w6 ⟨rfl, hx⟩
    have B6 := B5.below hx B5.lt
    have gc6 := gc5.below hx
    have hb6 := hop hb5 h0 hx
    clear hx hb5 gc5 B5
    have he : ByteArray.empty.toList = [] := by rw [Lib.toList_data]; rfl
    have he2 : ByteArray.empty.toList.isEmpty = true := by rw [he]; rfl
    go_wp2
    go_ret
    exact ⟨by first | rfl | (simp; done), hb6⟩
  | true =>
    simp only [if_true] at PT
    replace hget := hget rfl
    replace hbent := hbent rfl
    replace hless := hless rfl
    replace hmore := hmore rfl
    have one : (⟨#[48]⟩ : ByteArray).size = 1 := rfl
    have G1 := Lib.hid (fun (w : World) (h : LibIs w) => show Calls Tryz.prog 20 #[.string T] w fun e w' => ∃ d : CurX, e = .returned (.tuple #[.agg #[.int .u64 (d.dg : Int), .int .i64 d.ln, .int .i64 d.by_, .int .i64 d.e.ts, .slice d.e.A d.e.n d.e.c, .string d.e.ln], .int .i64 0]) ∧ d.b = cb ∧ Good 0 w' d.e ∧ Below w.heap.size w w' from (curGet_any T (by omega) w h).mono (by
      rintro e w' ⟨d, rfl, hd, gd, hb⟩
      rw [hget] at hd
      exact ⟨d, by unfold getE; rw [hget]; rfl, hd, gd, hb⟩))
    have hbz := (show (tx (bentL T.data.toList k y)).size = T.size from by rw [tx_size]; unfold bentL; rw [List.length_set, size_toList])
    obtain ⟨v, hv⟩ : ∃ v, tx (bentL T.data.toList k y) = v := ⟨_, rfl⟩
    rw [hv] at hbz hbent
    obtain ⟨z5, hz5⟩ : ∃ z, getE v = z := ⟨_, rfl⟩
    rw [hz5] at hbent
    have G2 := Lib.hid (fun (w : World) (h : LibIs w) => show Calls Tryz.prog 20 #[.string v] w fun e w' => ∃ d : CurX, e = .returned (.tuple #[.agg #[.int .u64 (d.dg : Int), .int .i64 d.ln, .int .i64 d.by_, .int .i64 d.e.ts, .slice d.e.A d.e.n d.e.c, .string d.e.ln], .int .i64 z5]) ∧ Below w.heap.size w w' from (curGet_any v (by omega) w h).mono (by
      rintro e w' ⟨d, rfl, hd, gd, hb⟩
      rw [hz5]
      exact ⟨d, rfl, hb⟩))
    have G3 := Lib.hid (fun (w : World) (h : LibIs w) => show Calls Tryz.prog 20 #[.string (T.extract 0 k)] w fun e w' => ∃ d : CurX, e = .returned (.tuple #[.agg #[.int .u64 (d.dg : Int), .int .i64 d.ln, .int .i64 d.by_, .int .i64 d.e.ts, .slice d.e.A d.e.n d.e.c, .string d.e.ln], .int .i64 5]) ∧ Below w.heap.size w w' from (curGet_any (T.extract 0 k) (by rw [ByteArray.size_extract]; omega) w h).mono (by
      rintro e w' ⟨d, rfl, hd, gd, hb⟩
      exact ⟨d, by unfold getE; rw [hless]; rfl, hb⟩))
    have G4 := Lib.hid (fun (w : World) (h : LibIs w) => show Calls Tryz.prog 20 #[.string (T ++ (⟨#[48]⟩ : ByteArray))] w fun e w' => ∃ d : CurX, e = .returned (.tuple #[.agg #[.int .u64 (d.dg : Int), .int .i64 d.ln, .int .i64 d.by_, .int .i64 d.e.ts, .slice d.e.A d.e.n d.e.c, .string d.e.ln], .int .i64 5]) ∧ Below w.heap.size w w' from (curGet_any (T ++ (⟨#[48]⟩ : ByteArray)) (by rw [ByteArray.size_append, one]; omega) w h).mono (by
      rintro e w' ⟨d, rfl, hd, gd, hb⟩
      exact ⟨d, by unfold getE; rw [hmore]; rfl, hb⟩))
    obtain ⟨z, hz⟩ : ∃ z, ((y.toNat : Int) == 0) = z := ⟨_, rfl⟩
    have hzy : (y.toNat == 0) = z := by rw [← hz, Bool.eq_iff_iff, beq_iff_eq, beq_iff_eq]; omega
    have hz2 : ((z5 : Int) == 5) = !z := by
      rw [hbent, ← hz]
      by_cases h : y = 0
      · rw [if_pos h, h]; rfl
      · rw [if_neg h]
        have h2 : ¬ (y.toNat : Int) = 0 := fun e => h (by rw [← UInt8.toNat_inj]; show y.toNat = 0; omega)
        have h3 : ((y.toNat : Int) == 0) = false := by rw [beq_eq_false_iff_ne]; exact h2
        rw [h3]; rfl
    have hz3 : ((y.toNat : Int) != 0) = !z := by rw [bne, hz]
    have hul : T.data.toList.length = T.size := size_toList T
    have hx8 := xor8 (T.data.toList.getD k 0) y
    have BSET := Lib.hid (fun (w : World) (g : Nat) (h : BytesAt w g T.data.toList) => show w.cell? ⟨g, k, none⟩ = some (.int .u8 ((T.data.toList.getD k 0).toNat : Int)) ∧ BytesAt (w.setCell ⟨g, k, none⟩ (.int .u8 (((T.data.toList.getD k 0) ^^^ y).toNat : Int))) g (bentL T.data.toList k y) from ⟨h k (by omega), h.set_ k (by omega) _⟩)
    have CB := Lib.hid (fun (w : World) => conv_bytes w T)
    have CC := Lib.hid (fun (w : World) (g C : Nat) (h : BytesAt w g (bentL T.data.toList k y)) => conv_at h T.size C (by unfold bentL; rw [List.length_set, hul]))
    obtain ⟨c8, hc8⟩ : ∃ c, T.data.toList.getD k 0 = c := ⟨_, rfl⟩
    rw [hc8] at hx8
    replace BSET := BSET.out
    rw [hc8] at BSET
    obtain ⟨d8, hd8⟩ : ∃ d, c8 ^^^ y = d := ⟨_, rfl⟩
    rw [hd8] at hx8 BSET
    replace BSET := Lib.hid BSET
    replace CC := CC.out
    simp only [hv] at CC
    replace CC := Lib.hid CC
    have hkI : (k : Int) < (T.size : Int) := by omega
    have hkI2 : (k : Int) ≤ (T.size : Int) := by omega
    have hwk : IntKind.i64.wrap (k : Int) = (k : Int) := by rw [IntKind.wrap_i64]; omega
    have husn : ((T.size : Int) == 0) = false := by rw [beq_eq_false_iff_ne]; omega
    have husn2 : ¬ (T.size : Int) = 0 := by omega
    have hcat1 : ¬ 9223372036854775807 < T.size + 1 := by omega
    have hcat2 : ¬ 9223372036854775807 < T.size + (⟨#[48]⟩ : ByteArray).size := by rw [one]; omega
    have f1 : T.toList.isEmpty = false := by
      rw [Lib.toList_data, List.isEmpty_eq_false_iff]
      intro h
      have : T.data.toList.length = 0 := by rw [h]; rfl
      omega
    have f2 : ¬ T.toList = [] := by
      intro h
      rw [h] at f1
      cases f1
    have SM := Lib.hid (fun (a b : EntX) (B1 B2 : Nat) (w : World) (h1 : a.b = cb.e) (h2 : b.b = cb.e) (ha : Good B1 w a) (hb : Good B2 w b) => show Calls Tryz.prog 23 #[.agg #[.int .i64 a.ts, .slice a.A a.n a.c, .string a.ln], .agg #[.int .i64 b.ts, .slice b.A b.n b.c, .string b.ln]] w fun e w' => e = .returned (.bool true) ∧ Below w.heap.size w w' from by
      have h := same_good a b w ha hb
      rwa [h1, h2, sameE_iff.2 rfl] at h)
    clear hbent hless hmore hget one hbz hv hz5 hul hc8 hd8
    have HZ := Lib.hid hz
    have HZY := Lib.hid hzy
    have HZ2 := Lib.hid hz2
    have HZ3 := Lib.hid hz3
    clear hz hzy hz2 hz3
    go_enter Tryz.func5, Tryz.ntmps5
    go_wp2_with fail
    obtain ⟨g1, hg1⟩ : ∃ g, W.heap.size = g := ⟨_, rfl⟩
    obtain ⟨w0, hw0⟩ : ∃ w, W.alloc (.cells #[.int .u64 (x.c.dg : Int), .int .i64 x.c.ln, .int .i64 x.c.by_, .int .i64 x.c.e.ts, .slice x.c.e.A x.c.e.n x.c.e.c, .string x.c.e.ln, .bool x.own, .int .i64 x.e.e.ts, .slice x.e.e.A x.e.e.n x.e.e.c, .string x.e.e.ln, .bool x.e.own, .int .i8 x.e.t, .slice x.e.LA x.e.Ln x.e.Lc, .int .u8 (x.e.k : Int)] 35) = w := ⟨_, rfl⟩
    have B0 : Blk w0 g1 35 #[.int .u64 (x.c.dg : Int), .int .i64 x.c.ln, .int .i64 x.c.by_, .int .i64 x.c.e.ts, .slice x.c.e.A x.c.e.n x.c.e.c, .string x.c.e.ln, .bool x.own, .int .i64 x.e.e.ts, .slice x.e.e.A x.e.e.n x.e.e.c, .string x.e.e.ln, .bool x.e.own, .int .i8 x.e.t, .slice x.e.LA x.e.Ln x.e.Lc, .int .u8 (x.e.k : Int)] := by rw [← hw0, ← hg1]; exact Blk.new W _ _
    have hb0 : Below W.heap.size W w0 := by rw [← hw0]; exact (Below.refl _ _).alloc h0 _
    have hgW : W.heap.size ≤ g1 := by omega
    rw [hw0]
    rw [hg1]
    have HGW := Lib.hid hgW
    clear hw0 hg1 hgW
    refine (HX.out _ hb0).mono ?_
    rintro e w1 ⟨rfl, hx⟩
    have B1 := B0.below hx B0.lt
    have hb1 := hop hb0 h0 hx
    have fz := B1.frozen 6
    have o6 : w1.cell? ⟨g1, 6, none⟩ = some (.bool x.own) := (B1.cell 6).trans rfl
    have B2 := B1.set_ 6 (.bool true)
    simp only [List.setIfInBounds_toArray, List.set_cons_zero, List.set_cons_succ] at B2
    have hb2 := hb1.setCell (p := ⟨g1, 6, none⟩) HGW.out (.bool true)
    obtain ⟨w2, hw2⟩ : ∃ w, w1.setCell ⟨g1, 6, none⟩ (.bool true) = w := ⟨_, rfl⟩
    rw [hw2] at B2 hb2
    have p0 : w2.cell? ⟨g1, 0, none⟩ = some (.int .u64 (x.c.dg : Int)) := (B2.cell 0).trans rfl
    have p1 : w2.cell? ⟨g1, 1, none⟩ = some (.int .i64 x.c.ln) := (B2.cell 1).trans rfl
    have p2 : w2.cell? ⟨g1, 2, none⟩ = some (.int .i64 x.c.by_) := (B2.cell 2).trans rfl
    have p3 : w2.cell? ⟨g1, 3, none⟩ = some (.int .i64 x.c.e.ts) := (B2.cell 3).trans rfl
    have p4 : w2.cell? ⟨g1, 4, none⟩ = some (.slice x.c.e.A x.c.e.n x.c.e.c) := (B2.cell 4).trans rfl
    have p5 : w2.cell? ⟨g1, 5, none⟩ = some (.string x.c.e.ln) := (B2.cell 5).trans rfl
    have p6 : w2.cell? ⟨g1, 6, none⟩ = some (.bool true) := (B2.cell 6).trans rfl
    have p7 : w2.cell? ⟨g1, 7, none⟩ = some (.int .i64 x.e.e.ts) := (B2.cell 7).trans rfl
    have p8 : w2.cell? ⟨g1, 8, none⟩ = some (.slice x.e.e.A x.e.e.n x.e.e.c) := (B2.cell 8).trans rfl
    have p9 : w2.cell? ⟨g1, 9, none⟩ = some (.string x.e.e.ln) := (B2.cell 9).trans rfl
    have p10 : w2.cell? ⟨g1, 10, none⟩ = some (.bool x.e.own) := (B2.cell 10).trans rfl
    have p11 : w2.cell? ⟨g1, 11, none⟩ = some (.int .i8 x.e.t) := (B2.cell 11).trans rfl
    have p12 : w2.cell? ⟨g1, 12, none⟩ = some (.slice x.e.LA x.e.Ln x.e.Lc) := (B2.cell 12).trans rfl
    have p13 : w2.cell? ⟨g1, 13, none⟩ = some (.int .u8 (x.e.k : Int)) := (B2.cell 13).trans rfl
    have HGS2 := Lib.hid (HGS.out _ hb2)
    clear hx hb0 B0 hb1 B1 HX HGS B2
    go_wp2_with fail
    clear hw2 o6 fz p0 p1 p2 p3 p4 p5 p6 p7 p8 p9 p10 p11 p12 p13
    refine (SP.out _ HGS2.out).mono ?_
    rintro e w3 ⟨c, rfl, hcb, gc, hx⟩
    have hb3 := hop hb2 h0 hx
    dsimp only [CurX.val]
    obtain ⟨g2, hg2⟩ : ∃ g, w3.heap.size = g := ⟨_, rfl⟩
    obtain ⟨w4, hw4⟩ : ∃ w, w3.alloc (.cells #[.int .u64 (c.dg : Int), .int .i64 c.ln, .int .i64 c.by_, .int .i64 c.e.ts, .slice c.e.A c.e.n c.e.c, .string c.e.ln] 29) = w := ⟨_, rfl⟩
    have B4 : Blk w4 g2 29 #[.int .u64 (c.dg : Int), .int .i64 c.ln, .int .i64 c.by_, .int .i64 c.e.ts, .slice c.e.A c.e.n c.e.c, .string c.e.ln] := by rw [← hw4, ← hg2]; exact Blk.new _ _ _
    have hb4 : Below W.heap.size W w4 := by rw [← hw4]; exact hb3.alloc hb3.size _
    have gc4 : Good w2.heap.size w4 c.e := by rw [← hw4]; exact gc.below ((Below.refl _ _).alloc (Nat.le_refl _) _)
    have HCB := Lib.hid hcb
    have q0 : w4.cell? ⟨g2, 0, none⟩ = some (.int .u64 (c.dg : Int)) := (B4.cell 0).trans rfl
    have q1 : w4.cell? ⟨g2, 1, none⟩ = some (.int .i64 c.ln) := (B4.cell 1).trans rfl
    have q2 : w4.cell? ⟨g2, 2, none⟩ = some (.int .i64 c.by_) := (B4.cell 2).trans rfl
    have q3 : w4.cell? ⟨g2, 3, none⟩ = some (.int .i64 c.e.ts) := (B4.cell 3).trans rfl
    have q4 : w4.cell? ⟨g2, 4, none⟩ = some (.slice c.e.A c.e.n c.e.c) := (B4.cell 4).trans rfl
    have q5 : w4.cell? ⟨g2, 5, none⟩ = some (.string c.e.ln) := (B4.cell 5).trans rfl
    clear hx hb2 hb3 gc SP HGS2 hcb
    go_wp2_with fail
    clear hw4 hg2 q0 q1 q2 q3 q4 q5
    refine (PT.out c _ _ HCB.out gc4 (HL.out.below hb4)).mono ?_
    rintro e w5 ⟨rfl, hx⟩
    have B5 := B4.below hx B4.lt
    have gc5 := gc4.below hx
    have hb5 := hop hb4 h0 hx
    have q0 : w5.cell? ⟨g2, 0, none⟩ = some (.int .u64 (c.dg : Int)) := (B5.cell 0).trans rfl
    have q1 : w5.cell? ⟨g2, 1, none⟩ = some (.int .i64 c.ln) := (B5.cell 1).trans rfl
    have q2 : w5.cell? ⟨g2, 2, none⟩ = some (.int .i64 c.by_) := (B5.cell 2).trans rfl
    have q3 : w5.cell? ⟨g2, 3, none⟩ = some (.int .i64 c.e.ts) := (B5.cell 3).trans rfl
    have q4 : w5.cell? ⟨g2, 4, none⟩ = some (.slice c.e.A c.e.n c.e.c) := (B5.cell 4).trans rfl
    have q5 : w5.cell? ⟨g2, 5, none⟩ = some (.string c.e.ln) := (B5.cell 5).trans rfl
    clear hx hb4 gc4 B4
    go_wp2_with fail
    clear q0 q1 q2 q3 q4 q5
    refine (RT.out c _ _ HCB.out gc5).mono ?_
    rintro e w6 ⟨rfl, hx⟩
    have B6 := B5.below hx B5.lt
    have gc6 := gc5.below hx
    have hb6 := hop hb5 h0 hx
    clear hx hb5 gc5 B5
    go_wp2_with fail
    refine (G1.out _ (HL.out.below hb6)).mono ?_
    rintro e w7 ⟨d, rfl, hdb, gd, hx⟩
    have B7 := B6.below hx B6.lt
    have gc7 := gc6.below hx
    have hb7 := hop hb6 h0 hx
    obtain ⟨g4, hg4⟩ : ∃ g, w7.heap.size = g := ⟨_, rfl⟩
    obtain ⟨w8, hw8⟩ : ∃ w, w7.alloc (.cells #[.int .u64 (d.dg : Int), .int .i64 d.ln, .int .i64 d.by_, .int .i64 d.e.ts, .slice d.e.A d.e.n d.e.c, .string d.e.ln] 29) = w := ⟨_, rfl⟩
    have D8 : Blk w8 g4 29 #[.int .u64 (d.dg : Int), .int .i64 d.ln, .int .i64 d.by_, .int .i64 d.e.ts, .slice d.e.A d.e.n d.e.c, .string d.e.ln] := by rw [← hw8, ← hg4]; exact Blk.new _ _ _
    have B8 : Blk w8 g2 29 #[.int .u64 (c.dg : Int), .int .i64 c.ln, .int .i64 c.by_, .int .i64 c.e.ts, .slice c.e.A c.e.n c.e.c, .string c.e.ln] := by rw [← hw8]; exact B7.alloc _
    have gd8 : Good 0 w8 d.e := by rw [← hw8]; exact gd.below ((Below.refl _ _).alloc (Nat.le_refl _) _)
    have gc8 : Good w2.heap.size w8 c.e := by rw [← hw8]; exact gc7.below ((Below.refl _ _).alloc (Nat.le_refl _) _)
    have hb8 : Below W.heap.size W w8 := by rw [← hw8]; exact hb7.alloc hb7.size _
    obtain ⟨C, w9, hcv, hbel, hlt, hfr, hby⟩ := CB.out w8
    obtain ⟨g5, hg5⟩ : ∃ g, w8.heap.size = g := ⟨_, rfl⟩
    have hx10 : Below w8.heap.size w8 (w9.setCell ⟨g5, k, none⟩ (.int .u8 (d8.toNat : Int))) := hbel.setCell (p := ⟨g5, k, none⟩) (by show w8.heap.size ≤ g5; omega) _
    have B10 := B8.below hx10 B8.lt
    have D10 := D8.below hx10 D8.lt
    have gc10 := gc8.below hx10
    have gd10 := gd8.below hx10
    have hb10 := hop hb8 h0 hx10
    rw [hg5] at hcv hfr hby
    obtain ⟨hcell, hset⟩ := BSET.out w9 _ hby
    have hfz := hfr k hku
    obtain ⟨w10, hw10⟩ : ∃ w, w9.setCell ⟨g5, k, none⟩ (.int .u8 (d8.toNat : Int)) = w := ⟨_, rfl⟩
    rw [hw10] at hset hb10 B10 D10 gc10 gd10
    have hcc := CC.out _ _ C hset
    have HB := Lib.hid hb10
    have HBC := Lib.hid B10
    have HDC := Lib.hid D10
    have HGC := Lib.hid gc10
    have HGD := Lib.hid gd10
    have HDB := Lib.hid hdb
    clear hdb
    clear hx B6 B7 gc6 gc7 hb6 hb7 gd D8 B8 gd8 gc8 hb8 hbel hfr hby hset hb10 B10 D10 gc10 gd10 hx10
    go_wp2_with fail
    clear hw8 hg4 hw10 hg5 hcv hcell hfz hcc
    refine (G2.out _ (HL.out.below HB.out)).mono ?_
    rintro e w11 ⟨d2, rfl, hx⟩
    obtain ⟨gN, hgN⟩ : ∃ g, w11.heap.size = g := ⟨_, rfl⟩
    obtain ⟨w12, hwN⟩ : ∃ w, w11.alloc (.cells #[.int .u64 (d2.dg : Int), .int .i64 d2.ln, .int .i64 d2.by_, .int .i64 d2.e.ts, .slice d2.e.A d2.e.n d2.e.c, .string d2.e.ln] 29) = w := ⟨_, rfl⟩
    have hx2 : Below w11.heap.size w11 w12 := by rw [← hwN]; exact (Below.refl _ _).alloc (Nat.le_refl _) _
    have hb := hop (hop HB.out h0 hx) h0 hx2
    have b1 := (HBC.out.below hx HBC.out.lt).below hx2 (HBC.out.below hx HBC.out.lt).lt
    have b2 := (HDC.out.below hx HDC.out.lt).below hx2 (HDC.out.below hx HDC.out.lt).lt
    have b3 := (HGC.out.below hx).below hx2
    have b4 := (HGD.out.below hx).below hx2
    clear HB HBC HDC HGC HGD hx hx2
    have HB := Lib.hid hb
    have HBC := Lib.hid b1
    have HDC := Lib.hid b2
    have HGC := Lib.hid b3
    have HGD := Lib.hid b4
    clear hb b1 b2 b3 b4
    go_wp2_with fail
    clear hwN hgN
    refine (G3.out _ (HL.out.below HB.out)).mono ?_
    rintro e w13 ⟨d3, rfl, hx⟩
    obtain ⟨gN, hgN⟩ : ∃ g, w13.heap.size = g := ⟨_, rfl⟩
    obtain ⟨w14, hwN⟩ : ∃ w, w13.alloc (.cells #[.int .u64 (d3.dg : Int), .int .i64 d3.ln, .int .i64 d3.by_, .int .i64 d3.e.ts, .slice d3.e.A d3.e.n d3.e.c, .string d3.e.ln] 29) = w := ⟨_, rfl⟩
    have hx2 : Below w13.heap.size w13 w14 := by rw [← hwN]; exact (Below.refl _ _).alloc (Nat.le_refl _) _
    have hb := hop (hop HB.out h0 hx) h0 hx2
    have b1 := (HBC.out.below hx HBC.out.lt).below hx2 (HBC.out.below hx HBC.out.lt).lt
    have b2 := (HDC.out.below hx HDC.out.lt).below hx2 (HDC.out.below hx HDC.out.lt).lt
    have b3 := (HGC.out.below hx).below hx2
    have b4 := (HGD.out.below hx).below hx2
    clear HB HBC HDC HGC HGD hx hx2
    have HB := Lib.hid hb
    have HBC := Lib.hid b1
    have HDC := Lib.hid b2
    have HGC := Lib.hid b3
    have HGD := Lib.hid b4
    clear hb b1 b2 b3 b4
    go_wp2_with fail
    clear hwN hgN
    refine (G4.out _ (HL.out.below HB.out)).mono ?_
    rintro e w15 ⟨d4, rfl, hx⟩
    obtain ⟨gN, hgN⟩ : ∃ g, w15.heap.size = g := ⟨_, rfl⟩
    obtain ⟨w16, hwN⟩ : ∃ w, w15.alloc (.cells #[.int .u64 (d4.dg : Int), .int .i64 d4.ln, .int .i64 d4.by_, .int .i64 d4.e.ts, .slice d4.e.A d4.e.n d4.e.c, .string d4.e.ln] 29) = w := ⟨_, rfl⟩
    have hx2 : Below w15.heap.size w15 w16 := by rw [← hwN]; exact (Below.refl _ _).alloc (Nat.le_refl _) _
    have hb := hop (hop HB.out h0 hx) h0 hx2
    have b1 := (HBC.out.below hx HBC.out.lt).below hx2 (HBC.out.below hx HBC.out.lt).lt
    have b2 := (HDC.out.below hx HDC.out.lt).below hx2 (HDC.out.below hx HDC.out.lt).lt
    have b3 := (HGC.out.below hx).below hx2
    have b4 := (HGD.out.below hx).below hx2
    clear HB HBC HDC HGC HGD hx hx2
    have HB := Lib.hid hb
    have HBC := Lib.hid b1
    have HDC := Lib.hid b2
    have HGC := Lib.hid b3
    have HGD := Lib.hid b4
    clear hb b1 b2 b3 b4
    have B := HBC.out
    have D := HDC.out
    have q0 : w16.cell? ⟨g2, 0, none⟩ = some (.int .u64 (c.dg : Int)) := (B.cell 0).trans rfl
    have q1 : w16.cell? ⟨g2, 1, none⟩ = some (.int .i64 c.ln) := (B.cell 1).trans rfl
    have q2 : w16.cell? ⟨g2, 2, none⟩ = some (.int .i64 c.by_) := (B.cell 2).trans rfl
    have q3 : w16.cell? ⟨g2, 3, none⟩ = some (.int .i64 c.e.ts) := (B.cell 3).trans rfl
    have q4 : w16.cell? ⟨g2, 4, none⟩ = some (.slice c.e.A c.e.n c.e.c) := (B.cell 4).trans rfl
    have q5 : w16.cell? ⟨g2, 5, none⟩ = some (.string c.e.ln) := (B.cell 5).trans rfl
    have r0 : w16.cell? ⟨g4, 0, none⟩ = some (.int .u64 (d.dg : Int)) := (D.cell 0).trans rfl
    have r1 : w16.cell? ⟨g4, 1, none⟩ = some (.int .i64 d.ln) := (D.cell 1).trans rfl
    have r2 : w16.cell? ⟨g4, 2, none⟩ = some (.int .i64 d.by_) := (D.cell 2).trans rfl
    have r3 : w16.cell? ⟨g4, 3, none⟩ = some (.int .i64 d.e.ts) := (D.cell 3).trans rfl
    have r4 : w16.cell? ⟨g4, 4, none⟩ = some (.slice d.e.A d.e.n d.e.c) := (D.cell 4).trans rfl
    have r5 : w16.cell? ⟨g4, 5, none⟩ = some (.string d.e.ln) := (D.cell 5).trans rfl
    obtain ⟨dg, ln, bn, ⟨ts, A, m, mc, ls, l1⟩⟩ := c
    obtain ⟨dg', ln', bn', ⟨ts', A', m', mc', ls', l1'⟩⟩ := d
    have hcb := HCB.out
    have hdb := HDB.out
    have SS := SM.out ⟨ts', A', m', mc', ls', l1'⟩ ⟨ts, A, m, mc, ls, l1⟩ _ _ w16 (congrArg CurB.e hdb) (congrArg CurB.e hcb) HGD.out HGC.out
    have e1 : dg' = dg := (congrArg CurB.dg hdb).trans (congrArg CurB.dg hcb).symm
    have e2 : ln' = ln := (congrArg CurB.ln hdb).trans (congrArg CurB.ln hcb).symm
    have e3 : bn' = bn := (congrArg CurB.by_ hdb).trans (congrArg CurB.by_ hcb).symm
    subst e1 e2 e3
    have SSH := Lib.hid SS
    dsimp only at q0 q1 q2 q3 q4 q5 r0 r1 r2 r3 r4 r5
    clear B D hcb hdb SS SM
    have z1 := HZ.out
    have z2 := HZY.out
    have z3 := HZ2.out
    have z4 := HZ3.out
    go_wp2_with fail
    clear hwN hgN
    refine SSH.out.mono ?_
    rintro e w17 ⟨rfl, hx⟩
    have hb17 := hop HB.out h0 hx
    clear hx
    go_wp2
    go_ret
    exact ⟨by first | rfl | (simp; done), hb17⟩
end Go.Proofs.YtfamcebgcpaolaaGreatDoor
