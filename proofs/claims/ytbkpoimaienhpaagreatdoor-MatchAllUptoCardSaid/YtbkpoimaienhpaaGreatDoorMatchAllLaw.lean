-- shaken
import Derived.Test.YtbkpoimaienhpaaGreatDoorMatchAbsentLaw
import Derived.Deep.AppendLies
namespace Go.Proofs.YtbkpoimaienhpaaGreatDoor
open Go.RowKit
set_option linter.unusedVariables false
set_option linter.unusedSimpArgs false
theorem infoMatM : (Tryz.prog.info? 30).map (fun i => (i.zero, i.size, i.bytes)) = some (some (.agg #[.string ⟨#[]⟩, .string ⟨#[]⟩, .string ⟨#[]⟩]), 3, 48) := by kernel_rfl
theorem matM_one (m : MatB) : ∀ u ∈ matV m, u.oneCell' = true := by
  intro u hu
  simp only [matV, List.mem_cons, List.not_mem_nil, or_false] at hu
  rcases hu with rfl | rfl | rfl <;> rfl
theorem matM_len (m : MatB) : (matV m).length = 3 := rfl
theorem rowM_one (l : List MatB) : ∀ u ∈ rowV matV l, u.oneCell' = true := by
  intro u hu
  obtain ⟨m, _, hm⟩ := List.mem_flatMap.1 hu
  exact matM_one m u hm
theorem tellM_app (ms ns : List MatB) (ps : List PairB) : tellM (ms ++ ns) ps = (tellM ms ps && tellM ns ps) := by unfold tellM; rw [List.all_append]
theorem tellM_rev (ms : List MatB) (ps : List PairB) : tellM ms.reverse ps = tellM ms ps := by unfold tellM; rw [List.all_reverse]
def ownM (hs : List HalfB) (j : Nat) : List MatB := (hs.take j).map fun x => halfF x.m true x.k
theorem ownM_len {hs : List HalfB} {j : Nat} (h : j ≤ hs.length) : (ownM hs j).length = j := by
  unfold ownM
  rw [List.length_map, List.length_take]
  omega
theorem ownM_next {hs : List HalfB} {j : Nat} {x : HalfB} (h : hs[j]? = some x) : ownM hs (j + 1) = ownM hs j ++ [halfF x.m true x.k] := by
  unfold ownM
  rw [List.take_add_one, h]
  simp
theorem ownM_right (hs : List HalfB) (j : Nat) : ∀ m ∈ ownM hs j, rightA m.nm m.op m.v = true := by
  intro m hm
  obtain ⟨x, _, rfl⟩ := List.mem_map.1 hm
  exact half_right x.m x.k
theorem run_append_rows {P : Program} (w : World) (t ty : TypeId) (base : Nat) (e : TypeId) (i : TypeInfo) (z : Value) (size bytes : Nat) (ht : P.underlying t = some (.slice e)) (hi : P.info? e = some i) (hz : i.zero = some z)
    (hsize : i.size = size) (hby : i.bytes = bytes) (hzs : z.cells.size = size) (hsz : 0 < size)
    (v : Value) (n : Nat) (xs : List Value) (hown : w.ownsRow base e size v n xs)
    (B : Nat) (A : Option Addr) (m c : Nat) (news : List Value) (hx : w.ownsRow B e size (.slice A m c) m news) (h1 : ∀ u ∈ news, u.oneCell' = true)
    (h63 : n + m ≤ maxLen) (hbytes : (n + m) * bytes ≤ 140737488355328) (hbase : base ≤ w.heap.size) :
    ∃ v' w', (Builtin.append_ #[t, t] ty #[v, .slice A m c]).run P w = .ok v' w' ∧ w'.ownsRow base e size v' (n + m) (xs ++ news) ∧ w.grownBy w' v.ownBlock ∧ (v'.ownBlock = v.ownBlock ∨ v'.ownBlock = some w.heap.size) := by
  rcases hx.2 with ⟨h0, h0'⟩ | ⟨g, cap, cur, hv, hbg, hg, hnc, hcm, hcs, htake⟩
  · injection h0 with e1 e2 e3
    subst e1 e2 e3
    have hn : news = [] := List.eq_nil_of_length_eq_zero (by simpa using hx.1)
    subst hn
    rw [Nat.add_zero, List.append_nil]
    refine ⟨v, w, ?_, hown, ⟨rfl, rfl, rfl, Nat.le_refl _, fun _ _ _ => rfl⟩, .inl rfl⟩
    rcases hown.2 with ⟨rfl, h0'⟩ | ⟨g, cap, cur, rfl, hbg, hg, hnc, hcm, hcs, htake⟩
    · simp [Builtin.append_, run_underlying ht, sizeOf, typeInfo, hi, Builtin.lenOf, Builtin.firstCells, loadCells, loadCellsFrom]
    · simp [Builtin.append_, run_underlying ht, sizeOf, typeInfo, hi, Builtin.lenOf, Builtin.firstCells, loadCells, loadCellsFrom, hnc, storeCells]
  · injection hv with e1 e2 e3
    subst e1 e3
    obtain ⟨v', w', hr, h2, h3, _, h5⟩ := run_append_own_at (P := P) w base t ty e i z size bytes ht hi hz hsize hby hzs hsz v n xs hown ⟨g, 0, none⟩ m c news hx.1 (hx.cells (g := g) rfl) h1 h63 hbytes hbase
    exact ⟨v', w', hr, h2, h3, h5⟩
theorem wpList_append_rows {P : Program} {w : World} {ops : Array Oper} {rest : List Oper} {o : Oper} {a : Act} {Q : Exit → Act → World → Prop} (hgd : o.guard = none) (s x : Operand) (t : TypeId)
    (ho : o.op = .call { callee := .builtin .append, args := #[s, x], argTypes := #[t, t] })
    (base : Nat) (e : TypeId) (i : TypeInfo) (z : Value) (size bytes : Nat) (ht : P.underlying t = some (.slice e)) (hi : P.info? e = some i) (hz : i.zero = some z)
    (hsize : i.size = size) (hby : i.bytes = bytes) (hzs : z.cells.size = size) (hsz : 0 < size)
    (v : Value) (n : Nat) (xs : List Value) (hs : a.eval s = v) (hown : w.ownsRow base e size v n xs)
    (B : Nat) (u : Value) (m : Nat) (news : List Value) (hx : a.eval x = u) (hu : w.ownsRow B e size u m news) (h1 : ∀ u ∈ news, u.oneCell' = true)
    (h63 : n + m ≤ maxLen) (hbytes : (n + m) * bytes ≤ 140737488355328) (hbase : base ≤ w.heap.size)
    (h : ∀ v' w', w'.ownsRow base e size v' (n + m) (xs ++ news) → w.grownBy w' v.ownBlock → (v'.ownBlock = v.ownBlock ∨ v'.ownBlock = some w.heap.size) → wpList P ops Q rest (a.put o.dst v') w') :
    wpList P ops Q (o :: rest) a w := by
  refine wpList_plain hgd fun K hK => ?_
  obtain ⟨A, c, rfl⟩ : ∃ A c, u = .slice A m c := by
    rcases hu.2 with ⟨rfl, h0⟩ | ⟨g, cap, cur, rfl, _⟩
    · exact ⟨none, 0, by rw [h0]⟩
    · exact ⟨_, _, rfl⟩
  obtain ⟨v', w', hr, h2, h3, h5⟩ := run_append_rows (P := P) w t o.type base e i z size bytes ht hi hz hsize hby hzs hsz v n xs hown B A m c news hu h1 h63 hbytes hbase
  unfold Oper.wp execOp
  simp only [ho, resolve, invoke, builtin, Sem.run_bind, Sem.run_pure, Result.andThen_ok, List.map_toArray, List.map_cons, List.map_nil, hs, hx, hr]
  exact hK _ _ (h v' w' h2 h3 h5)
theorem own_oneM (w : World) (nm op vl : ByteArray) (B : Nat) (hB : B ≤ w.heap.size) : OwnR matV 3 (w.alloc (.cells #[.string nm, .string op, .string vl] 30)) B 30 (.slice (some ⟨w.heap.size, 0, none⟩) 1 1) [⟨nm, op, vl⟩] :=
  ⟨rfl, .inr ⟨w.heap.size, 1, #[.string nm, .string op, .string vl], rfl, hB, Blk.new _ _ _, Nat.le_refl _, by decide, rfl, rfl⟩⟩
theorem OwnR.grew {α : Type} {V : α → List Value} {s : Nat} {w w' : World} {B ty : Nat} {v : Value} {l : List α} {r : Option Nat} (h : OwnR V s w B ty v l) (hg : w.grownBy w' r) (hr : ∀ b, v.ownBlock = some b → r ≠ some b) : OwnR V s w' B ty v l := by
  refine ⟨h.1, ?_⟩
  rcases h.2 with h0 | ⟨g, cap, cur, hv, hbg, hh, x⟩
  · exact .inl h0
  · exact .inr ⟨g, cap, cur, hv, hbg, (hg.block g (lt_of_block hh) (fun e => hr g (by rw [hv]; rfl) e.symm)).trans hh, x⟩
theorem OwnR.blt {α : Type} {V : α → List Value} {s : Nat} {w : World} {B ty : Nat} {v : Value} {l : List α} (h : OwnR V s w B ty v l) : ∀ g, v.ownBlock = some g → B ≤ g ∧ g < w.heap.size := fun g hg => ⟨(World.ownsRow.lt h g hg).1, (World.ownsRow.lt h g hg).2⟩
set_option maxRecDepth 100000 in
set_option maxHeartbeats 3200000 in
theorem matchAll_walk {W : World} (Al : Option Addr) (nl cl : Nat) (hs : List HalfB) (A : Option Addr) (len cap : Nat) (ts : List TagB) (hR : RowR HalfB.V 5 W Al nl hs ∧ ∀ x ∈ hs, HalfOk x) (hlc0 : nl ≤ cl) (hcm0 : cl ≤ maxLen) (wt : TagsP W A len ts) (hbk : bulkG ts ≤ 1048576) (hlc : len ≤ cap) (hcm : cap ≤ maxLen) (hmx : MaxAt W) (hl : LibIs W) :
    Calls Tryz.prog 4 #[.slice Al nl cl, .slice A len cap] W fun e w' => e = .returned (.bool true) ∧ Below W.heap.size W w' := by
  have HL := Lib.hid hl
  have HM := Lib.hid hmx
  have WT := Lib.hid wt
  have HR := Lib.hid hR.1
  have HK := Lib.hid hR.2
  have LH := Lib.hid hR.1.1
  unfold maxLen at hcm hcm0
  have hlen : len ≤ 9223372036854775807 := by omega
  have hnl : nl ≤ 9223372036854775807 := by omega
  have TA := Lib.hid (fun w (h : TagsP w A len ts) => tagsM_any A len cap 8 ts hlen (by decide) w h)
  have VL := Lib.hid (tags_vl ts 8 hbk)
  have PL := Lib.hid (tagsL_len ts 8)
  obtain ⟨ps, hps⟩ : ∃ ps, tagsL ts 8 = ps := ⟨_, rfl⟩
  rw [hps] at TA VL PL
  obtain ⟨i0, hi, hz0, hz1, hz2⟩ := info_parts infoMatM
  clear hl hmx wt hR hps hbk hlc hcm hlc0 hcm0
  go_enter Tryz.func4, Tryz.ntmps4
  go_wp2_with fail
  refine (examples11_any _ HL.out HM.out).mono ?_
  rintro e w1 ⟨rfl, hb⟩
  have HB := Lib.hid hb
  clear hb
  go_wp2_with fail
  refine (TA.out _ (WT.out.below HB.out)).mono ?_
  rintro e w2 ⟨v, rfl, hov, hb⟩
  replace HB := Lib.hid (hop HB.out (Nat.le_refl _) hb)
  clear hb
  obtain ⟨Bp, c, hve, _, _, hrow⟩ := OwnR.open pairM_len hov
  obtain ⟨m, hm⟩ : ∃ m, ps.length = m := ⟨_, rfl⟩
  rw [hm] at hve hrow
  subst hve
  have PR := Lib.hid (row_pairs hrow)
  have hm8 : m ≤ 8 := by rw [← hm]; exact PL.out
  clear hov hrow TA hm
  have OU0 := Lib.hid (OwnR.nil (V := matV) (s := 3) w2 w2.heap.size 30)
  have AP0 := Lib.hid (show ∀ g, (Value.slice none 0 0).ownBlock = some g → (Value.slice none 0 0).ownBlock ≠ some g from fun g hg => by cases hg)
  have TE0 := Lib.hid (show tellM (ownM hs 0) ps = true from rfl)
  have HB0 := Lib.hid (Below.refl w2.heap.size w2)
  go_wp2
  go_loopw [6, 7, 9, 10] (fun uv vv zv iv wr => ∃ (j : Nat) (z : Bool), j ≤ nl ∧ j ≤ 5 ∧ zv = .bool z ∧ iv = .int .i64 (j : Nat) ∧ Hid (OwnR matV 3 wr w2.heap.size 30 uv (ownM hs j)) ∧ Hid (OwnR matV 3 wr w2.heap.size 30 vv (ownM hs j).reverse) ∧ Hid (∀ g, uv.ownBlock = some g → vv.ownBlock ≠ some g) ∧ Hid (tellM (ownM hs j) ps = z) ∧ Hid (Below w2.heap.size w2 wr)) (fun _ _ _ iv _ => 5 - (intOf iv).toNat)
  case atStart => exact ⟨0, true, Nat.zero_le _, Nat.zero_le _, rfl, rfl, OU0, OU0, AP0, TE0, HB0⟩
  case round =>
    obtain ⟨j, z, hjn, hj5, rfl, rfl, OU, OV, AP, TE, HBr⟩ := hrel
    clear OU0 AP0 TE0 HB0
    by_cases hj : j < nl ∧ j < 5
    · obtain ⟨g1, g2⟩ := hj
      have jI : (j : Int) < (nl : Int) := by omega
      have j5 : (j : Int) < 5 := by omega
      obtain ⟨⟨⟨hn, ho, hv⟩, own, k⟩, hx⟩ : ∃ x, hs[j]? = some x := ⟨_, List.getElem?_eq_getElem (by rw [LH.out]; exact g1)⟩
      have hk : k < 256 := (HK.out _ (List.mem_of_getElem? hx)).k
      have NX := Lib.hid (ownM_next hx)
      obtain ⟨b1, o1, hA, hlt, hcc⟩ := (HR.out.below (hop HB.out (Nat.le_refl _) HBr.out)).2 (by omega)
      subst hA
      have r0_ : wr.cell? ⟨b1, o1 + j * 5, none⟩ = some (.string hn) := (hcc j 0 _ hx (by decide)).trans rfl
      have r1_ : wr.cell? ⟨b1, o1 + j * 5 + 1, none⟩ = some (.string ho) := (hcc j 1 _ hx (by decide)).trans rfl
      have r2_ : wr.cell? ⟨b1, o1 + j * 5 + 2, none⟩ = some (.string hv) := (hcc j 2 _ hx (by decide)).trans rfl
      have r3_ : wr.cell? ⟨b1, o1 + j * 5 + 3, none⟩ = some (.bool own) := (hcc j 3 _ hx (by decide)).trans rfl
      have r4_ : wr.cell? ⟨b1, o1 + j * 5 + 4, none⟩ = some (.int .u8 (k : Int)) := (hcc j 4 _ hx (by decide)).trans rfl
      have HA := Lib.hid (fun w => half_any ⟨hn, ho, hv⟩ true k hk w)
      have RA := Lib.hid (half_right ⟨hn, ho, hv⟩ k)
      replace NX : Hid (ownM hs (j + 1) = ownM hs j ++ [halfF ⟨hn, ho, hv⟩ true k]) := NX
      obtain ⟨⟨nm, op, vl⟩, hf⟩ : ∃ m, halfF ⟨hn, ho, hv⟩ true k = m := ⟨_, rfl⟩
      rw [hf] at HA RA NX
      replace RA : Hid (rightA nm op vl = true) := RA
      have OP := Lib.hid (fits_in (show fitsB textOps op vl = true by have h := RA.out; unfold rightA at h; rw [Bool.and_eq_true] at h; exact h.2)).1
      replace HA : Hid (∀ w, Calls Tryz.prog 14 #[.agg #[.string hn, .string ho, .string hv, .bool true, .int .u8 (k : Int)]] w fun r w' => r = .returned (.agg #[.string nm, .string op, .string vl]) ∧ Below w.heap.size w w') := HA
      have hl1 := Lib.hid (ownM_len (hs := hs) (j := j) (by rw [LH.out]; omega))
      obtain ⟨L1, hL1⟩ : ∃ L, ownM hs j = L := ⟨_, rfl⟩
      rw [hL1] at OU OV TE NX hl1
      clear hcc hx hf hk hL1
      have HBh := Lib.hid (HBr.out.alloc HBr.out.size (.cells #[.string hn, .string ho, .string hv, .bool true, .int .u8 (k : Int)] 44))
      have SZ := HBr.out.size
      have LU := Lib.hid (OwnR.blt OU.out)
      have LV := Lib.hid (OwnR.blt OV.out)
      have SW := Lib.hid (show wr.heap.size ≤ (wr.alloc (.cells #[.string hn, .string ho, .string hv, .bool true, .int .u8 (k : Int)] 44)).heap.size by simp)
      go_wp2_with fail
      refine (HA.out _).mono ?_
      rintro e w3 ⟨rfl, hb⟩
      have HB3 := Lib.hid (hop HBh.out (Nat.le_refl _) hb)
      replace OU := Lib.hid (OwnR.below (OwnR.alloc OU.out (.cells #[.string hn, .string ho, .string hv, .bool true, .int .u8 (k : Int)] 44)) hb)
      replace OV := Lib.hid (OwnR.below (OwnR.alloc OV.out (.cells #[.string hn, .string ho, .string hv, .bool true, .int .u8 (k : Int)] 44)) hb)
      have SG3 : wr.heap.size ≤ w3.heap.size := Nat.le_trans SW.out hb.size
      clear hb HA HBh HBr r0_ r1_ r2_ r3_ r4_ SW
      obtain ⟨g6, hg6⟩ : ∃ g, w3.heap.size = g := ⟨_, rfl⟩
      have SG := Lib.hid (show wr.heap.size ≤ g6 by rw [← hg6]; exact SG3)
      clear SG3
      have K6 := Lib.hid (show Blk (w3.alloc (.cells #[.string nm, .string op, .string vl] 30)) g6 30 #[.string nm, .string op, .string vl] by rw [← hg6]; exact Blk.new _ _ _)
      have HB4 := Lib.hid (HB3.out.alloc HB3.out.size (.cells #[.string nm, .string op, .string vl] 30))
      replace OU := Lib.hid (OwnR.alloc OU.out (.cells #[.string nm, .string op, .string vl] 30))
      replace OV := Lib.hid (OwnR.alloc OV.out (.cells #[.string nm, .string op, .string vl] 30))
      obtain ⟨w4, hw4⟩ : ∃ z, w3.alloc (.cells #[.string nm, .string op, .string vl] 30) = z := ⟨_, rfl⟩
      rw [hw4] at K6 HB4 OU OV
      have c0_ : w4.cell? ⟨g6, 0, none⟩ = some (.string nm) := (K6.out.cell 0).trans rfl
      have c1_ : w4.cell? ⟨g6, 1, none⟩ = some (.string op) := (K6.out.cell 1).trans rfl
      have c2_ : w4.cell? ⟨g6, 2, none⟩ = some (.string vl) := (K6.out.cell 2).trans rfl
      have hb := (Below.refl w4.heap.size w4).alloc (Nat.le_refl _) (.cells #[.string nm, .string op, .string vl] 30)
      replace K6 := Lib.hid (K6.out.below hb K6.out.lt)
      replace OU := Lib.hid (OwnR.below OU.out hb)
      replace OV := Lib.hid (OwnR.below OV.out hb)
      replace HB4 := Lib.hid (hop HB4.out (Nat.le_refl _) hb)
      clear hb
      go_wp2_with fail
      refine (every_any (some ⟨w4.heap.size, 0, none⟩) 1 1 [⟨nm, op, vl⟩] (by decide) _ (row_one w4 nm op vl) (fun m hm => by obtain rfl := List.mem_singleton.1 hm; exact RA.out) (HL.out.below (hop HB.out (Nat.le_refl _) HB4.out))).mono ?_
      rintro e w5 ⟨a1, v1, base1, bs1, rfl, hA1, _, hb⟩
      replace K6 := Lib.hid (K6.out.below hb K6.out.lt)
      replace OU := Lib.hid (OwnR.below OU.out hb)
      replace OV := Lib.hid (OwnR.below OV.out hb)
      have HB5 := Lib.hid (hop HB4.out (Nat.le_refl _) hb)
      have OA := Lib.hid hA1
      have PR5 := Lib.hid (PR.out.below HB5.out)
      have AT := Lib.hid (fun w (h : AllP w a1 v1 base1 bs1 [⟨nm, op, vl⟩]) (hp : Pairs w Bp m ps) => allTest_any a1 v1 base1 bs1 [⟨nm, op, vl⟩] Bp m c ps (by omega) (by show 1 ≤ 1000; decide) w h (fun q hq => by obtain rfl := List.mem_singleton.1 hq; exact OP.out) hp VL.out)
      obtain ⟨y, hy⟩ : ∃ y, tellM [⟨nm, op, vl⟩] ps = y := ⟨_, rfl⟩
      rw [hy] at AT
      have TE2 := Lib.hid (show tellM (ownM hs (j + 1)) ps = (z && y) by rw [NX.out, tellM_app, TE.out, hy])
      clear hb hA1 HB4 c0_ c1_ c2_ hw4 hg6 hy TE HB3
      have WAY : ∃ x, (z = true ∧ x = y) ∨ (z = false ∧ x = false) := by
        cases z
        · exact ⟨false, .inr ⟨rfl, rfl⟩⟩
        · exact ⟨y, .inl ⟨rfl, rfl⟩⟩
      obtain ⟨x, hzx⟩ := WAY
      replace TE2 := Lib.hid (show tellM (ownM hs (j + 1)) ps = x by
        rw [TE2.out]
        rcases hzx with ⟨rfl, rfl⟩ | ⟨rfl, rfl⟩
        · rfl
        · rfl)
      have FW : ∃ w6, Hid (Blk w6 g6 30 #[.string nm, .string op, .string vl]) ∧ Hid (OwnR matV 3 w6 w2.heap.size 30 u6 L1) ∧ Hid (OwnR matV 3 w6 w2.heap.size 30 u7 L1.reverse) ∧ Hid (Below w2.heap.size w2 w6) := ⟨w5, K6, OU, OV, HB5⟩
      rcases hzx with ⟨rfl, rfl⟩ | ⟨rfl, rfl⟩
      focus
        go_wp2_with fail
        refine (AT.out _ OA.out PR5.out).mono ?_
        rintro e w6 ⟨rfl, hb⟩
        replace K6 := Lib.hid (K6.out.below hb K6.out.lt)
        replace OU := Lib.hid (OwnR.below OU.out hb)
        replace OV := Lib.hid (OwnR.below OV.out hb)
        have HB6 := Lib.hid (hop HB5.out (Nat.le_refl _) hb)
        clear hb AT OA PR5 HB5 FW
        have c0_ : w6.cell? ⟨g6, 0, none⟩ = some (.string nm) := (K6.out.cell 0).trans rfl
        have c1_ : w6.cell? ⟨g6, 1, none⟩ = some (.string op) := (K6.out.cell 1).trans rfl
        have c2_ : w6.cell? ⟨g6, 2, none⟩ = some (.string vl) := (K6.out.cell 2).trans rfl
        have h5 : L1.length ≤ 5 := by have := hl1.out; omega
        go_wp2_with (at_builtin; refine wpList_append_lies _ rfl (.tmp 59) (.tmp 61) 40 rfl w2.heap.size 30 i0 (.agg #[.string ⟨#[]⟩, .string ⟨#[]⟩, .string ⟨#[]⟩]) 3 48 Tryz.underlying40 hi hz0 hz1 hz2 rfl (by decide) _ _ _ rfl (OwnR.alloc OU.out (.cells #[.string nm, .string op, .string vl] 30)) ⟨w6.heap.size, 0, none⟩ 1 1 (matV ⟨nm, op, vl⟩) rfl rfl (World.news_of_block (Blk.new _ _ _)) (matM_one _) (by decide) (by unfold maxLen; omega) (by omega) (by have := HB6.out.size; simp; omega) _ rfl ?_)
        intro g2 cap2 w7 hown' hgrow hg' hlt2
        have K7 := Lib.hid (show Blk w7 g6 30 #[.string nm, .string op, .string vl] from (hgrow.block g6 (by have := K6.out.lt; simp; omega) (fun e => by have h1 := (LU.out g6 e.symm).2; have h2 := SG.out; omega)).trans (K6.out.alloc _))
        have OU7 := Lib.hid (show OwnR matV 3 w7 w2.heap.size 30 (.slice (some ⟨g2, 0, none⟩) (j + 1) cap2) (ownM hs (j + 1)) from by
          rw [NX.out]
          refine OwnR.snoc ?_
          have h := hown'
          rw [hl1.out] at h ⊢
          exact h)
        have OV7 := Lib.hid (OwnR.grew (OwnR.alloc OV.out (.cells #[.string nm, .string op, .string vl] 30)) hgrow (fun b hb e => AP.out b e hb))
        have HB7 := Lib.hid ((HB6.out.alloc HB6.out.size (.cells #[.string nm, .string op, .string vl] 30)).grown hgrow (by have := HB6.out.size; simp; omega) (fun r hr => (LU.out r hr).1))
        have L7 := Lib.hid hlt2
        have l1j : L1.length = j := hl1.out
        have d0_ : w7.cell? ⟨g6, 0, none⟩ = some (.string nm) := (K7.out.cell 0).trans rfl
        have d1_ : w7.cell? ⟨g6, 1, none⟩ = some (.string op) := (K7.out.cell 1).trans rfl
        have d2_ : w7.cell? ⟨g6, 2, none⟩ = some (.string vl) := (K7.out.cell 2).trans rfl
        rw [l1j]
        clear hown' hgrow hg' hlt2 l1j c0_ c1_ c2_
        go_wp2_with (at_builtin; refine wpList_append_rows rfl (.tmp 64) (.tmp 65) 40 rfl w2.heap.size 30 i0 (.agg #[.string ⟨#[]⟩, .string ⟨#[]⟩, .string ⟨#[]⟩]) 3 48 Tryz.underlying40 hi hz0 hz1 hz2 rfl (by decide) _ _ _ rfl (own_oneM w7 nm op vl w2.heap.size HB7.out.size) w2.heap.size _ _ _ rfl (OwnR.alloc OV7.out (.cells #[.string nm, .string op, .string vl] 30)) (rowM_one _) (by unfold maxLen; simp; omega) (by simp; omega) (by have := HB7.out.size; simp; omega) ?_)
        intro v' w8 hown' hgrow hvb
        have OV8 := Lib.hid (show OwnR matV 3 w8 w2.heap.size 30 v' (ownM hs (j + 1)).reverse from by
          rw [NX.out, List.reverse_append]
          refine OwnR.snocs (l := [(⟨nm, op, vl⟩ : MatB)]) (m := L1.reverse) ?_
          rw [List.length_reverse]
          exact hown')
        have OU8 := Lib.hid (OwnR.grew (OwnR.alloc OU7.out (.cells #[.string nm, .string op, .string vl] 30)) hgrow (fun b hb e => by
          have h1 : g2 = b := Option.some.inj hb
          have h2 : w7.heap.size = b := Option.some.inj e
          have h3 := L7.out
          omega))
        have HB8 := Lib.hid ((HB7.out.alloc HB7.out.size (.cells #[.string nm, .string op, .string vl] 30)).grown hgrow (by have := HB7.out.size; simp; omega) (fun r hr => by have h2 : w7.heap.size = r := Option.some.inj hr; have := HB7.out.size; omega))
        have AP8 := Lib.hid (show ∀ g, (Value.slice (some ⟨g2, 0, none⟩) (j + 1) cap2).ownBlock = some g → v'.ownBlock ≠ some g from fun g hg e => by
          have h1 : g2 = g := Option.some.inj hg
          have h3 := L7.out
          rcases hvb with h | h
          · rw [h] at e
            have h2 : w7.heap.size = g := Option.some.inj e
            omega
          · rw [h] at e
            have h2 := Option.some.inj e
            (try simp at h2)
            omega)
        clear hown' hgrow hvb
        go_wp2
        go_round
        case rel => exact ⟨j + 1, _, by omega, by omega, rfl, by go_num, OU8, OV8, AP8, TE2, HB8⟩
        case measure => first | (simp [intOf]; done) | (simp [intOf]; omega)
      focus
        have HB6 := HB5
        clear HB5 AT OA PR5 FW
        have c0_ : w5.cell? ⟨g6, 0, none⟩ = some (.string nm) := (K6.out.cell 0).trans rfl
        have c1_ : w5.cell? ⟨g6, 1, none⟩ = some (.string op) := (K6.out.cell 1).trans rfl
        have c2_ : w5.cell? ⟨g6, 2, none⟩ = some (.string vl) := (K6.out.cell 2).trans rfl
        have h5 : L1.length ≤ 5 := by have := hl1.out; omega
        go_wp2_with (at_builtin; refine wpList_append_lies _ rfl (.tmp 59) (.tmp 61) 40 rfl w2.heap.size 30 i0 (.agg #[.string ⟨#[]⟩, .string ⟨#[]⟩, .string ⟨#[]⟩]) 3 48 Tryz.underlying40 hi hz0 hz1 hz2 rfl (by decide) _ _ _ rfl (OwnR.alloc OU.out (.cells #[.string nm, .string op, .string vl] 30)) ⟨w5.heap.size, 0, none⟩ 1 1 (matV ⟨nm, op, vl⟩) rfl rfl (World.news_of_block (Blk.new _ _ _)) (matM_one _) (by decide) (by unfold maxLen; omega) (by omega) (by have := HB6.out.size; simp; omega) _ rfl ?_)
        intro g2 cap2 w7 hown' hgrow hg' hlt2
        have K7 := Lib.hid (show Blk w7 g6 30 #[.string nm, .string op, .string vl] from (hgrow.block g6 (by have := K6.out.lt; simp; omega) (fun e => by have h1 := (LU.out g6 e.symm).2; have h2 := SG.out; omega)).trans (K6.out.alloc _))
        have OU7 := Lib.hid (show OwnR matV 3 w7 w2.heap.size 30 (.slice (some ⟨g2, 0, none⟩) (j + 1) cap2) (ownM hs (j + 1)) from by
          rw [NX.out]
          refine OwnR.snoc ?_
          have h := hown'
          rw [hl1.out] at h ⊢
          exact h)
        have OV7 := Lib.hid (OwnR.grew (OwnR.alloc OV.out (.cells #[.string nm, .string op, .string vl] 30)) hgrow (fun b hb e => AP.out b e hb))
        have HB7 := Lib.hid ((HB6.out.alloc HB6.out.size (.cells #[.string nm, .string op, .string vl] 30)).grown hgrow (by have := HB6.out.size; simp; omega) (fun r hr => (LU.out r hr).1))
        have L7 := Lib.hid hlt2
        have l1j : L1.length = j := hl1.out
        have d0_ : w7.cell? ⟨g6, 0, none⟩ = some (.string nm) := (K7.out.cell 0).trans rfl
        have d1_ : w7.cell? ⟨g6, 1, none⟩ = some (.string op) := (K7.out.cell 1).trans rfl
        have d2_ : w7.cell? ⟨g6, 2, none⟩ = some (.string vl) := (K7.out.cell 2).trans rfl
        rw [l1j]
        clear hown' hgrow hg' hlt2 l1j c0_ c1_ c2_
        go_wp2_with (at_builtin; refine wpList_append_rows rfl (.tmp 64) (.tmp 65) 40 rfl w2.heap.size 30 i0 (.agg #[.string ⟨#[]⟩, .string ⟨#[]⟩, .string ⟨#[]⟩]) 3 48 Tryz.underlying40 hi hz0 hz1 hz2 rfl (by decide) _ _ _ rfl (own_oneM w7 nm op vl w2.heap.size HB7.out.size) w2.heap.size _ _ _ rfl (OwnR.alloc OV7.out (.cells #[.string nm, .string op, .string vl] 30)) (rowM_one _) (by unfold maxLen; simp; omega) (by simp; omega) (by have := HB7.out.size; simp; omega) ?_)
        intro v' w8 hown' hgrow hvb
        have OV8 := Lib.hid (show OwnR matV 3 w8 w2.heap.size 30 v' (ownM hs (j + 1)).reverse from by
          rw [NX.out, List.reverse_append]
          refine OwnR.snocs (l := [(⟨nm, op, vl⟩ : MatB)]) (m := L1.reverse) ?_
          rw [List.length_reverse]
          exact hown')
        have OU8 := Lib.hid (OwnR.grew (OwnR.alloc OU7.out (.cells #[.string nm, .string op, .string vl] 30)) hgrow (fun b hb e => by
          have h1 : g2 = b := Option.some.inj hb
          have h2 : w7.heap.size = b := Option.some.inj e
          have h3 := L7.out
          omega))
        have HB8 := Lib.hid ((HB7.out.alloc HB7.out.size (.cells #[.string nm, .string op, .string vl] 30)).grown hgrow (by have := HB7.out.size; simp; omega) (fun r hr => by have h2 : w7.heap.size = r := Option.some.inj hr; have := HB7.out.size; omega))
        have AP8 := Lib.hid (show ∀ g, (Value.slice (some ⟨g2, 0, none⟩) (j + 1) cap2).ownBlock = some g → v'.ownBlock ≠ some g from fun g hg e => by
          have h1 : g2 = g := Option.some.inj hg
          have h3 := L7.out
          rcases hvb with h | h
          · rw [h] at e
            have h2 : w7.heap.size = g := Option.some.inj e
            omega
          · rw [h] at e
            have h2 := Option.some.inj e
            (try simp at h2)
            omega)
        clear hown' hgrow hvb
        go_wp2
        go_round
        case rel => exact ⟨j + 1, _, by omega, by omega, rfl, by go_num, OU8, OV8, AP8, TE2, HB8⟩
        case measure => first | (simp [intOf]; done) | (simp [intOf]; omega)
    · have hends : (¬ (j : Int) < (nl : Int)) ∨ ((j : Int) < (nl : Int) ∧ ¬ (j : Int) < 5) := by omega
      have hl1 := Lib.hid (ownM_len (hs := hs) (j := j) (by rw [LH.out]; omega))
      have RI := Lib.hid (ownM_right hs j)
      obtain ⟨L1, hL1⟩ : ∃ L, ownM hs j = L := ⟨_, rfl⟩
      rw [hL1] at OU OV TE hl1 RI
      have OPS := Lib.hid (show ∀ m ∈ L1, m.op ∈ textOps from fun m hm => (fits_in (show fitsB textOps m.op m.v by have h := RI.out m hm; unfold rightA at h; rw [Bool.and_eq_true] at h; exact h.2)).1)
      obtain ⟨A1, k1, hu, _, _, row1⟩ := OwnR.open matM_len OU.out
      obtain ⟨A2, k2, hv, _, _, row2⟩ := OwnR.open matM_len OV.out
      rw [hl1.out] at hu row1
      rw [List.length_reverse, hl1.out] at hv row2
      subst hu hv
      have ROW2 := Lib.hid row2
      have PRr := Lib.hid (PR.out.below HBr.out)
      have TEr := Lib.hid (show tellM L1.reverse ps = z by rw [tellM_rev]; exact TE.out)
      have EV1 := Lib.hid (every_any A1 j k1 L1 (by omega) wr row1 RI.out (HL.out.below (hop HB.out (Nat.le_refl _) HBr.out)))
      clear row1 row2 hL1 OU OV AP hj
      rcases hends with e1 | ⟨e1, e2⟩
      all_goals
        go_wp2_with fail
        refine EV1.out.mono ?_
        rintro e w3 ⟨a1, v1, base1, bs1, rfl, hA1, _, hb⟩
        have HB3 := Lib.hid (hop HBr.out (Nat.le_refl _) hb)
        have OA := Lib.hid hA1
        have EV2 := Lib.hid (every_any A2 j k2 L1.reverse (by omega) w3 (ROW2.out.below hb) (fun m hm => RI.out m (List.mem_reverse.1 hm)) (HL.out.below (hop HB.out (Nat.le_refl _) HB3.out)))
        replace PRr := Lib.hid (PRr.out.below hb)
        clear hb hA1 EV1 HBr
        go_wp2_with fail
        refine EV2.out.mono ?_
        rintro e w4 ⟨a2, v2, base2, bs2, rfl, hA2, _, hb⟩
        have HB4 := Lib.hid (hop HB3.out (Nat.le_refl _) hb)
        have OB := Lib.hid hA2
        replace OA := Lib.hid (OA.out.below hb)
        replace PRr := Lib.hid (PRr.out.below hb)
        have AT1 := Lib.hid (allTest_any a1 v1 base1 bs1 L1 Bp m c ps (by omega) (by rw [hl1.out]; omega) w4 OA.out OPS.out PRr.out VL.out)
        have AT2 := Lib.hid (fun w (h : AllP w a2 v2 base2 bs2 L1.reverse) (hp : Pairs w Bp m ps) => allTest_any a2 v2 base2 bs2 L1.reverse Bp m c ps (by omega) (by rw [List.length_reverse, hl1.out]; omega) w h (fun q hq => OPS.out q (List.mem_reverse.1 hq)) hp VL.out)
        rw [TE.out] at AT1
        rw [TEr.out] at AT2
        have zz : (z == z) = true := beq_self_eq_true z
        clear hb hA2 EV2 HB3 TE TEr
        go_wp2_with fail
        refine AT1.out.mono ?_
        rintro e w5 ⟨rfl, hb⟩
        have HB5 := Lib.hid (hop HB4.out (Nat.le_refl _) hb)
        replace OB := Lib.hid (OB.out.below hb)
        replace PRr := Lib.hid (PRr.out.below hb)
        clear hb AT1 HB4
        go_wp2_with fail
        refine (AT2.out _ OB.out PRr.out).mono ?_
        rintro e w6 ⟨rfl, hb⟩
        have HB6 := Lib.hid (hop HB.out (Nat.le_refl _) (hop HB5.out (Nat.le_refl _) hb))
        clear hb AT2 HB5
        go_wp2
        go_ret
        exact ⟨rfl, HB6.out⟩
end Go.Proofs.YtbkpoimaienhpaaGreatDoor
