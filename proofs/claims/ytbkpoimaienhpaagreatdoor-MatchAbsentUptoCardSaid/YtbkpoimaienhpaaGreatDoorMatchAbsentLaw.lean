-- shaken
import Derived.Test.YtbkpoimaienhpaaGreatDoorUpto
import Derived.Deep.Slices
import Derived.ChangeSame
import Derived.Deep.AppendLies
import Derived.Laws.OwnMore
import Derived.Test.YtbkpoimaienhpaaGreatDoorMatExam
import Derived.Test.YtbkpoimaienhpaaGreatDoorAstHalf
import Derived.Test.YtbkpoimaienhpaaGreatDoorHalfOpen
import Derived.Test.YtbkpoimaienhpaaGreatDoorMem
import Derived.Test.YtbkpoimaienhpaaGreatDoorLabMath
namespace Go.Proofs.YtbkpoimaienhpaaGreatDoor
open Go.RowKit Go.ChangeShapes Go.WideShapes Go.Deep
set_option linter.unusedVariables false
set_option linter.unusedSimpArgs false
theorem cells_tag : Tryz.prog.cellsOf 71 = 4 := by kernel_rfl
theorem cells_pair : Tryz.prog.cellsOf 53 = 2 := by kernel_rfl
theorem cells_string : Tryz.prog.cellsOf 9 = 1 := by kernel_rfl
theorem cells_bool : Tryz.prog.cellsOf 4 = 1 := by kernel_rfl
theorem cells_u8 : Tryz.prog.cellsOf 5 = 1 := by kernel_rfl
theorem two_of {α : Type} {l : List α} (h : l.length = 2) : ∃ a b, l = [a, b] := by
  match l, h with
  | [a, b], _ => exact ⟨a, b, rfl⟩
theorem three_of {α : Type} {l : List α} (h : l.length = 3) : ∃ a b c, l = [a, b, c] := by
  match l, h with
  | [a, b, c], _ => exact ⟨a, b, c, rfl⟩
theorem four_of {α : Type} {l : List α} (h : l.length = 4) : ∃ a b c d, l = [a, b, c, d] := by
  match l, h with
  | [a, b, c, d], _ => exact ⟨a, b, c, d, rfl⟩
section
variable {H : Type} {enc : TypeId × Value → H} {w : World} {base : Nat} {spare : Nat → Bool} {held : Bool}
end

end Go.Proofs.YtbkpoimaienhpaaGreatDoor
namespace Go.Proofs.YtbkpoimaienhpaaGreatDoor
open Go.RowKit Go.ChangeShapes Go.WideShapes Go.Deep
set_option linter.unusedVariables false
set_option linter.unusedSimpArgs false
def bulkG : List TagB → Nat
  | [] => 0
  | t :: ts => t.nm.size + t.vl.size + 6 + bulkG ts
section
variable {H : Type} {enc : TypeId × Value → H} {w : World} {base : Nat} {spare : Nat → Bool} {held : Bool}
theorem one_tag_bulk {n : Nat} {cs : List Value} {y : DataW H × List MemPlace} (h : DataW.trod enc Tryz.prog w base spare held n 71 cs = some y) : ∃ t : TagB, t.k < 256 ∧ cs = [.string t.nm, .string t.vl, .bool t.own, .int .u8 (t.k : Int)] ∧ Rows.uptoBulk y.1 = t.nm.size + t.vl.size + 6 := by
  obtain ⟨xs, m, _, hy, hl, hlen, hf⟩ := DataW.trod_struct Tryz.underlying71 h
  rw [cells_tag] at hl
  obtain ⟨c0, c1, c2, c3, rfl⟩ : ∃ a b c d, cs = [a, b, c, d] := four_of hl
  obtain ⟨y0, y1, y2, rfl⟩ : ∃ a b c, xs = [a, b, c] := three_of hlen
  have f0 : DataW.trod enc Tryz.prog w base spare held m 53 [c0, c1] = some y0 := by
    have h : DataW.trod enc Tryz.prog w base spare held m 53 (List.take (Tryz.prog.cellsOf 53) (List.drop 0 [c0, c1, c2, c3])) = some y0 := hf 0 _ rfl
    rw [cells_pair] at h
    exact h
  have f1 : DataW.trod enc Tryz.prog w base spare held m 4 [c2] = some y1 := by
    have h : DataW.trod enc Tryz.prog w base spare held m 4 (List.take (Tryz.prog.cellsOf 4) (List.drop 2 [c0, c1, c2, c3])) = some y1 := hf 1 _ rfl
    rw [cells_bool] at h
    exact h
  have f2 : DataW.trod enc Tryz.prog w base spare held m 5 [c3] = some y2 := by
    have h : DataW.trod enc Tryz.prog w base spare held m 5 (List.take (Tryz.prog.cellsOf 5) (List.drop 3 [c0, c1, c2, c3])) = some y2 := hf 2 _ rfl
    rw [cells_u8] at h
    exact h
  obtain ⟨ow, e1, d1⟩ := DataW.trod_bool Tryz.underlying4 f1
  obtain ⟨k, e2, d2, hk⟩ := DataW.trod_int Tryz.underlying5 f2
  obtain ⟨k0, k1⟩ := bdu8 hk
  obtain ⟨xs, m, _, d0, _, hlen, hf⟩ := DataW.trod_struct Tryz.underlying53 f0
  obtain ⟨y3, y4, rfl⟩ : ∃ a b, xs = [a, b] := two_of hlen
  have g0 : DataW.trod enc Tryz.prog w base spare held m 9 [c0] = some y3 := by
    have h : DataW.trod enc Tryz.prog w base spare held m 9 (List.take (Tryz.prog.cellsOf 9) (List.drop 0 [c0, c1])) = some y3 := hf 0 _ rfl
    rw [cells_string] at h
    exact h
  have g1 : DataW.trod enc Tryz.prog w base spare held m 9 [c1] = some y4 := by
    have h : DataW.trod enc Tryz.prog w base spare held m 9 (List.take (Tryz.prog.cellsOf 9) (List.drop 1 [c0, c1])) = some y4 := hf 1 _ rfl
    rw [cells_string] at h
    exact h
  obtain ⟨s0, e3, d3, _⟩ := DataW.trod_string Tryz.underlying9 g0
  obtain ⟨s1, e4, d4, _⟩ := DataW.trod_string Tryz.underlying9 g1
  injection e1 with e1
  injection e2 with e2
  injection e3 with e3
  injection e4 with e4
  subst e1 e2 e3 e4 d3 d4 d0 d1 d2 hy
  refine ⟨⟨s0, s1, ow, k.toNat⟩, by show k.toNat < 256; omega, ?_, ?_⟩
  · show _ = [Value.string s0, .string s1, .bool ow, .int .u8 (k.toNat : Int)]
    rw [show (k.toNat : Int) = k by omega]
  · simp only [List.map_cons, List.map_nil, Rows.uptoBulk, Rows.uptoBulkAll, size_toList]
    omega
theorem bulk_range (T : Nat → TagB) (D : Nat → DataW H) : ∀ (len : Nat), (∀ i, i < len → Rows.uptoBulk (D i) = (T i).nm.size + (T i).vl.size + 6) → ∀ o, (∀ i, i < len → o + i < len + o) → bulkG ((List.range len).map T) = Rows.uptoBulkAll ((List.range len).map D) := by
  have key : ∀ (l : List Nat), (∀ i ∈ l, Rows.uptoBulk (D i) = (T i).nm.size + (T i).vl.size + 6) → bulkG (l.map T) = Rows.uptoBulkAll (l.map D) := by
    intro l
    induction l with
    | nil => intro _; rfl
    | cons i l ih =>
      intro h
      rw [List.map_cons, List.map_cons, bulkG, Rows.uptoBulkAll, ih (fun j hj => h j (List.mem_cons_of_mem _ hj)), h i List.mem_cons_self]
  intro len h o _
  exact key _ fun i hi => h i (List.mem_range.1 hi)
theorem tags_open_bulk {fuel : Nat} {cs : List Value} {x : DataW H × List MemPlace} (h : DataW.trod enc Tryz.prog w base spare held fuel 39 cs = some x) (hb : Rows.uptoBulk x.1 ≤ 1048576) : ∃ A len cap ts, cs = [.slice A len cap] ∧ TagsP w A len ts ∧ bulkG ts ≤ 1048576 ∧ len ≤ cap ∧ cap ≤ maxLen := by
  rcases open_slice Tryz.underlying39 h with ⟨rfl, _⟩ | ⟨a, len, cap, m, n, D, Pl, rfl, _, hl, hm, hmm, hxx, hx⟩
  · exact ⟨none, 0, 0, [], rfl, tags_none w, Nat.zero_le _, Nat.le_refl _, Nat.zero_le _⟩
  · have hlm : len ≤ m := by rw [hmm]; split <;> omega
    obtain ⟨T, hT⟩ := choose_lt (α := TagB) (n := len) (p := fun i t => t.k < 256 ∧ w.cells? base (a.add (i * 4)) 4 = some [.string t.nm, .string t.vl, .bool t.own, .int .u8 (t.k : Int)] ∧ Rows.uptoBulk (D i) = t.nm.size + t.vl.size + 6) (fun i hi => by
      obtain ⟨cs', h1, h2⟩ := hx i (by omega)
      rw [cells_tag] at h1
      obtain ⟨t, hk, rfl, hq⟩ := one_tag_bulk h2
      exact ⟨t, hk, h1, hq⟩)
    have hbulk : bulkG ((List.range len).map T) ≤ 1048576 := by
      rw [bulk_range T D len (fun i hi => (hT i hi).2.2) 0 (fun i hi => by omega)]
      rw [hxx] at hb
      simp only [Rows.uptoBulk] at hb
      omega
    refine ⟨some a, len, cap, (List.range len).map T, rfl, ⟨by simp, ?_, ?_⟩, hbulk, hl, hm⟩
    · intro t ht
      obtain ⟨i, hi, rfl⟩ := List.mem_map.1 ht
      exact (hT i (List.mem_range.1 hi)).1
    · intro hn
      obtain ⟨b, off, spot⟩ := a
      have h0 := (World.cells?_some (hT 0 hn).2.1).2.2 0 (by omega)
      have h00 : w.cell? (((⟨b, off, spot⟩ : Addr).add (0 * 4)).add 0) = some (.string (T 0).nm) := h0
      have hspot : spot = none := by simpa [Addr.add] using World.cell?_spot h00
      subst hspot
      have hlt := block_lt_of_cell h00
      rw [ints_add, ints_add] at hlt
      refine ⟨b, off, rfl, hlt, fun j hj => ?_⟩
      have hc := (World.cells?_some (hT j hj).2.1).2.2
      have e : ((List.range len).map T).getD j default = T j := by
        rw [List.getD_eq_getElem?_getD, List.getElem?_map, List.getElem?_range hj]
        rfl
      rw [e]
      have c0 := hc 0 (by omega)
      have c1 := hc 1 (by omega)
      have c2 := hc 2 (by omega)
      have c3 := hc 3 (by omega)
      rw [ints_add, ints_add] at c0 c1 c2 c3
      exact ⟨c0, c1, c2, c3⟩
end

end Go.Proofs.YtbkpoimaienhpaaGreatDoor
namespace Go.Proofs.YtbkpoimaienhpaaGreatDoor
open Go.RowKit
set_option linter.unusedVariables false
set_option linter.unusedSimpArgs false
def pairM (p : PairB) : List Value := [.string p.1, .string p.2]
theorem pairM_len (p : PairB) : (pairM p).length = 2 := rfl
theorem pairM_one (p : PairB) : ∀ v ∈ pairM p, v.oneCell' = true := by
  intro v hv
  simp [pairM] at hv
  rcases hv with rfl | rfl <;> rfl
theorem infoPairM : (Tryz.prog.info? 53).map (fun i => (i.zero, i.size, i.bytes)) = some (some (.agg #[.string ⟨#[]⟩, .string ⟨#[]⟩]), 2, 32) := by kernel_rfl
theorem row_pairs {w : World} {A : Option Addr} {n : Nat} {ps : List PairB} (h : RowR pairM 2 w A n ps) : Pairs w A n ps := by
  refine ⟨h.1, fun hn => ?_⟩
  obtain ⟨b, off, e, hlt, hc⟩ := h.2 hn
  refine ⟨b, off, e, hlt, fun j hj => ?_⟩
  have hx : ps[j]? = some (ps.getD j pnil) := by
    rw [List.getD_eq_getElem?_getD, List.getElem?_eq_getElem (by rw [h.1]; exact hj)]
    rfl
  exact ⟨(hc j 0 _ hx (by decide)).trans rfl, (hc j 1 _ hx (by decide)).trans rfl⟩
set_option maxRecDepth 100000 in
set_option maxHeartbeats 1600000 in
theorem tagsM_any (A : Option Addr) (n c most : Nat) (ts : List TagB) (hn : n ≤ 9223372036854775807) (hm : most ≤ 1000000) (W : World) (h1 : TagsP W A n ts) :
    Calls Tryz.prog 13 #[.slice A n c, .int .i64 (most : Int)] W fun e w' => ∃ v, e = .returned v ∧ OwnR pairM 2 w' W.heap.size 53 v (tagsL ts most) ∧ Below W.heap.size W w' := by
  have h0 : W.heap.size ≤ W.heap.size := Nat.le_refl _
  obtain ⟨i0, hi, hz0, hz1, hz2⟩ := info_parts infoPairM
  have H1 := Lib.hid h1
  have LN := Lib.hid (tagsL_len ts)
  have NX := Lib.hid (tagsL_next ts)
  clear h1
  go_enter Tryz.func13, Tryz.ntmps13
  go_wp2
  go_loopw [5, 6] (fun sv iv wr => ∃ j : Nat, j ≤ n ∧ j ≤ most ∧ iv = .int .i64 j ∧ OwnR pairM 2 wr W.heap.size 53 sv (tagsL ts j) ∧ Below W.heap.size W wr) (fun _ iv _ => most - (intOf iv).toNat)
  case atStart => exact ⟨0, Nat.zero_le _, Nat.zero_le _, rfl, OwnR.nil _ _ _, Below.refl _ _⟩
  case round =>
    obtain ⟨j, hjn, hjm, rfl, hown, hb⟩ := hrel
    have hsz := hb.size
    by_cases hj : j < n ∧ j < most
    · obtain ⟨g1, g2⟩ := hj
      have h2 := H1.out.below hb
      obtain ⟨b1, o1, rfl, hlt1, hc1⟩ := h2.2.2 (by omega)
      obtain ⟨c1, c2, c3, c4⟩ := hc1 j g1
      have hjl : j < ts.length := by rw [h2.1]; exact g1
      have hks := NX.out j hjl
      have hkk := h2.2.1 (ts.getD j default) (by
        rw [List.getD_eq_getElem?_getD, List.getElem?_eq_getElem hjl]
        exact List.getElem_mem _)
      obtain ⟨t, ht⟩ : ∃ p, ts.getD j default = p := ⟨_, rfl⟩
      rw [ht] at c1 c2 c3 c4 hks hkk
      have TG := Lib.hid (fun w => tag_any t hkk w)
      have hjI : (j : Int) < (n : Int) := by omega
      have hjM : (j : Int) < (most : Int) := by omega
      obtain ⟨L, hL⟩ : ∃ L, tagsL ts j = L := ⟨_, rfl⟩
      have hLl := LN.out j
      rw [hL] at hown hks hLl
      obtain ⟨⟨p1, p2⟩, hp⟩ : ∃ p, tagP t = p := ⟨_, rfl⟩
      rw [hp] at hks
      have TG2 := TG.out
      simp only [hp] at TG2
      replace TG := Lib.hid TG2
      have HKS := Lib.hid hks
      obtain ⟨nm, vl, own, k⟩ := t
      dsimp only at c1 c2 c3 c4 TG2
      replace TG := Lib.hid TG2
      clear hks ht hL hc1 h2 hjl hkk hp TG2
      go_wp2_with fail
      refine (TG.out _).mono ?_
      rintro e w2 ⟨rfl, hx⟩
      have hb2 := hop hb h0 hx
      have ho2 := OwnR.below hown hx
      have hs2 := hb2.size
      clear hx c1 c2 c3 c4 hown hb
      go_wp2_with (at_builtin; refine wpList_append_own _ rfl (.tmp 18) (.tmp 24) 41 rfl W.heap.size 53 i0 (.agg #[.string ⟨#[]⟩, .string ⟨#[]⟩]) 2 32 Tryz.underlying41 hi hz0 hz1 hz2 rfl (by decide) _ _ _ rfl (OwnR.alloc ho2 _) ⟨w2.heap.size, 0, none⟩ 1 1 (pairM (p1, p2)) rfl rfl (World.news_of_block (Blk.new _ _ _)) (pairM_one _) (by unfold maxLen; omega) (by omega) (by simp; omega) ?_)
      intro v' w3 hown' hgrow _
      have hb3 := (hb2.alloc hs2 _).grown hgrow (by simp; omega) (fun r hr => (World.ownsRow.lt ho2 r hr).1)
      have hown3 := OwnR.snoc (a := (p1, p2)) hown'
      rw [← HKS.out] at hown3
      clear hown' hgrow
      go_wp2
      go_round
      case rel => exact ⟨j + 1, by omega, by omega, by go_num, hown3, hb3⟩
      case measure => simp [intOf]; omega
    · have hends : (¬ (j : Int) < (n : Int)) ∨ ((j : Int) < (n : Int) ∧ ¬ (j : Int) < (most : Int)) := by omega
      have hfin : tagsL ts most = tagsL ts j := by
        rcases (by omega : j = most ∨ j = n) with e | e
        · rw [e]
        · unfold tagsL
          rw [List.take_of_length_le (by rw [H1.out.1]; omega), List.take_of_length_le (by rw [H1.out.1]; omega)]
      have HF := Lib.hid hfin
      clear hfin hj
      rcases hends with e1 | ⟨e1, e2⟩
      all_goals
        go_wp2
        go_ret
        exact ⟨_, rfl, by rw [HF.out]; exact hown, hb⟩
theorem vals_ok : ∀ k, k < 8 → okB (vals8.getD k .empty) = true := by decide +kernel
theorem val_ok (k : Nat) : okB (valA k) = true := vals_ok (k % 8) (Nat.mod_lt _ (by decide))
theorem val_few (k : Nat) : (valA k).size ≤ 256 := by
  have h : ∀ k, k < 8 → (vals8.getD k .empty).size ≤ 256 := by decide
  exact h (k % 8) (Nat.mod_lt _ (by decide))
theorem fits_val {ops : List ByteArray} {op : ByteArray} (h : amongB op ops = true) (k : Nat) : fitsB ops op (valA k) = true := by
  unfold fitsB
  rw [h, val_ok, decide_eq_true (val_few k)]
  cases amongB op exprOps <;> rfl
theorem half_right (m : MatB) (k : Nat) : rightA (halfF m true k).nm (halfF m true k).op (halfF m true k).v = true := by
  have h1 : ∀ i, i < 3 → nameB (nms8.getD i .empty) = true := by decide +kernel
  have h2 : ∀ j, j < 4 → amongB (ops8.getD j .empty) textOps = true := by decide +kernel
  show rightA (nms8.getD (k % 3) .empty) (ops8.getD (k / 3 % 4) .empty) (valA (k / 12)) = true
  unfold rightA
  rw [h1 _ (Nat.mod_lt _ (by decide)), fits_val (h2 _ (Nat.mod_lt _ (by decide))) (k / 12)]
  rfl
theorem tags_vl : ∀ (ts : List TagB) (most : Nat), bulkG ts ≤ 1048576 → ∀ p ∈ tagsL ts most, p.2.size ≤ 4000000000000000000
  | [], most, _, p, hp => by unfold tagsL at hp; rw [List.take_nil] at hp; cases hp
  | t :: ts, 0, _, p, hp => by unfold tagsL at hp; rw [List.take_zero] at hp; cases hp
  | t :: ts, most + 1, h, p, hp => by
    unfold tagsL at hp
    rw [List.take_succ_cons, List.map_cons] at hp
    unfold bulkG at h
    rcases List.mem_cons.1 hp with rfl | hp
    · unfold tagP
      split
      · have hk : ∀ j, j < 8 → (tagVs.getD j .empty).size ≤ 10 := by decide
        exact Nat.le_trans (hk _ (Nat.mod_lt _ (by decide))) (by decide)
      · show t.vl.size ≤ _
        omega
    · exact tags_vl ts most (by omega) p hp
theorem getL_cons (p : PairB) (ps : List PairB) (nm : ByteArray) : getL (p :: ps) nm = if p.1 = nm then some p.2 else getL ps nm := by
  unfold getL findL
  by_cases h : p.1 = nm
  · rw [List.find?_cons_of_pos (by simpa using h), if_pos h]
    rfl
  · rw [List.find?_cons_of_neg (by simpa using h), if_neg h]
theorem tellM_one (nm op vl : ByteArray) (ps : List PairB) : tellM [⟨nm, op, vl⟩] ps = testM op vl ((getL ps nm).getD .empty) := by
  unfold tellM
  rw [List.all_cons, List.all_nil, Bool.and_true]
theorem row_one (w : World) (nm op vl : ByteArray) : RowR matV 3 (w.alloc (.cells #[.string nm, .string op, .string vl] 30)) (some ⟨w.heap.size, 0, none⟩) 1 [⟨nm, op, vl⟩] := by
  have K := Blk.new w 30 #[.string nm, .string op, .string vl]
  refine ⟨rfl, fun _ => ⟨w.heap.size, 0, rfl, K.lt, fun j i x hj hi => ?_⟩⟩
  have hj2 : j = 0 := by
    rcases Nat.eq_zero_or_pos j with h | h
    · exact h
    · rw [List.getElem?_eq_none (by simp; omega)] at hj; cases hj
  subst hj2
  obtain rfl := Option.some.inj hj
  rcases (by omega : i = 0 ∨ i = 1 ∨ i = 2) with rfl | rfl | rfl <;> exact (K.cell _).trans rfl
set_option maxRecDepth 100000 in
set_option maxHeartbeats 3200000 in
theorem matchAbsent_walk {W : World} (x : HalfB) (A : Option Addr) (len cap : Nat) (ts : List TagB) (hx : HalfOk x) (wt : TagsP W A len ts) (hbk : bulkG ts ≤ 1048576) (hlc : len ≤ cap) (hcm : cap ≤ maxLen) (hmx : MaxAt W) (hl : LibIs W) :
    Calls Tryz.prog 6 #[.agg x.V.toArray, .slice A len cap] W fun e w' => e = .returned (.bool true) ∧ Below W.heap.size W w' := by
  have HL := Lib.hid hl
  have HM := Lib.hid hmx
  have WT := Lib.hid wt
  unfold maxLen at hcm
  have hlen : len ≤ 9223372036854775807 := by omega
  obtain ⟨⟨hn, ho, hv⟩, own, k⟩ := x
  have hk : k < 256 := hx.k
  have HA := Lib.hid (fun w => half_any ⟨hn, ho, hv⟩ true k hk w)
  have RA := Lib.hid (half_right ⟨hn, ho, hv⟩ k)
  have TA := Lib.hid (fun w (h : TagsP w A len ts) => tagsM_any A len cap 8 ts hlen (by decide) w h)
  have VL := Lib.hid (tags_vl ts 8 hbk)
  have PL := Lib.hid (tagsL_len ts 8)
  obtain ⟨ps, hps⟩ : ∃ ps, tagsL ts 8 = ps := ⟨_, rfl⟩
  rw [hps] at TA VL PL
  obtain ⟨⟨nm, op, vl⟩, hf⟩ : ∃ m, halfF ⟨hn, ho, hv⟩ true k = m := ⟨_, rfl⟩
  rw [hf] at HA RA
  replace RA : Hid (rightA nm op vl = true) := RA
  have OP := Lib.hid (fits_in (show fitsB textOps op vl = true by have h := RA.out; unfold rightA at h; rw [Bool.and_eq_true] at h; exact h.2)).1
  replace HA : Hid (∀ w, Calls Tryz.prog 14 #[.agg #[.string hn, .string ho, .string hv, .bool true, .int .u8 (k : Int)]] w fun r w' => r = .returned (.agg #[.string nm, .string op, .string vl]) ∧ Below w.heap.size w w') := HA
  have HB := Lib.hid ((Below.refl W.heap.size W).alloc (Nat.le_refl _) (.cells #[.string hn, .string ho, .string hv, .bool own, .int .u8 (k : Int)] 44))
  have K0 := Lib.hid (Blk.new W 44 #[.string hn, .string ho, .string hv, .bool own, .int .u8 (k : Int)])
  show Calls Tryz.prog 6 #[.agg #[.string hn, .string ho, .string hv, .bool own, .int .u8 (k : Int)], .slice A len cap] W _
  clear hl hmx wt hx hps hf hbk
  go_enter Tryz.func6, Tryz.ntmps6
  go_wp2_with fail
  refine (examples11_any _ (HL.out.below HB.out) (HM.out.below HB.out)).mono ?_
  rintro e w1 ⟨rfl, hb⟩
  replace K0 := Lib.hid (K0.out.below hb K0.out.lt)
  replace HB := Lib.hid (hop HB.out (Nat.le_refl _) hb)
  clear hb
  have m_ := K0.out.cell 3
  have f_ := K0.out.frozen 3
  obtain ⟨w2, hw2⟩ : ∃ z, w1.setCell ⟨W.heap.size, 3, none⟩ (.bool true) = z := ⟨_, rfl⟩
  have K1 := Lib.hid (show Blk w2 W.heap.size 44 #[.string hn, .string ho, .string hv, .bool true, .int .u8 (k : Int)] by rw [← hw2]; exact K0.out.set_ 3 (.bool true))
  replace HB := Lib.hid (show Below W.heap.size W w2 by rw [← hw2]; exact HB.out.setCell (p := ⟨W.heap.size, 3, none⟩) (Nat.le_refl _) (.bool true))
  have c0_ : w2.cell? ⟨W.heap.size, 0, none⟩ = some (.string hn) := (K1.out.cell 0).trans rfl
  have c1_ : w2.cell? ⟨W.heap.size, 1, none⟩ = some (.string ho) := (K1.out.cell 1).trans rfl
  have c2_ : w2.cell? ⟨W.heap.size, 2, none⟩ = some (.string hv) := (K1.out.cell 2).trans rfl
  have c3_ : w2.cell? ⟨W.heap.size, 3, none⟩ = some (.bool true) := (K1.out.cell 3).trans rfl
  have c4_ : w2.cell? ⟨W.heap.size, 4, none⟩ = some (.int .u8 (k : Int)) := (K1.out.cell 4).trans rfl
  clear K0
  go_wp2_with fail
  refine (HA.out _).mono ?_
  rintro e w3 ⟨rfl, hb⟩
  replace HB := Lib.hid (hop HB.out (Nat.le_refl _) hb)
  clear hb
  clear hw2 m_ f_ c0_ c1_ c2_ c3_ c4_ K1
  have hs3 := HB.out.size
  obtain ⟨g6, hg6⟩ : ∃ g, w3.heap.size = g := ⟨_, rfl⟩
  obtain ⟨w4, hw4⟩ : ∃ z, w3.alloc (.cells #[.string nm, .string op, .string vl] 30) = z := ⟨_, rfl⟩
  have K6 := Lib.hid (show Blk w4 g6 30 #[.string nm, .string op, .string vl] by rw [← hw4, ← hg6]; exact Blk.new _ _ _)
  replace HB := Lib.hid (show Below W.heap.size W w4 by rw [← hw4]; exact HB.out.alloc hs3 (.cells #[.string nm, .string op, .string vl] 30))
  go_wp2_with fail
  refine (TA.out _ (WT.out.below HB.out)).mono ?_
  rintro e w5 ⟨v, rfl, hov, hb⟩
  clear hw4 hg6
  replace K6 := Lib.hid (K6.out.below hb K6.out.lt)
  replace HB := Lib.hid (hop HB.out (Nat.le_refl _) hb)
  clear hb
  obtain ⟨B, c, hve, _, _, hrow⟩ := OwnR.open pairM_len hov
  obtain ⟨m, hm⟩ : ∃ m, ps.length = m := ⟨_, rfl⟩
  rw [hm] at hve hrow
  subst hve
  have PR := Lib.hid (row_pairs hrow)
  have RW := Lib.hid hrow
  have hm8 : m ≤ 8 := by rw [← hm]; exact PL.out
  have LN := Lib.hid hm
  clear hov hrow TA HA hm
  have c0_ : w5.cell? ⟨g6, 0, none⟩ = some (.string nm) := (K6.out.cell 0).trans rfl
  have c1_ : w5.cell? ⟨g6, 1, none⟩ = some (.string op) := (K6.out.cell 1).trans rfl
  have c2_ : w5.cell? ⟨g6, 2, none⟩ = some (.string vl) := (K6.out.cell 2).trans rfl
  go_wp2_with fail
  refine (matOf_yes nm op vl RA.out _ (HL.out.below HB.out)).mono ?_
  rintro e w6 ⟨b1, rfl, h1, _, hb⟩
  clear c0_ c1_ c2_
  replace K6 := Lib.hid (K6.out.below hb K6.out.lt)
  replace PR := Lib.hid (PR.out.below hb)
  replace RW := Lib.hid (RW.out.below hb)
  replace HB := Lib.hid (hop HB.out (Nat.le_refl _) hb)
  clear hb
  have O1 := Lib.hid h1
  clear h1
  have c0_ : w6.cell? ⟨g6, 0, none⟩ = some (.string nm) := (K6.out.cell 0).trans rfl
  have c1_ : w6.cell? ⟨g6, 1, none⟩ = some (.string op) := (K6.out.cell 1).trans rfl
  have c2_ : w6.cell? ⟨g6, 2, none⟩ = some (.string vl) := (K6.out.cell 2).trans rfl
  have hb := (Below.refl w6.heap.size w6).alloc (Nat.le_refl _) (.cells #[.string nm, .string op, .string vl] 30)
  replace K6 := Lib.hid (K6.out.below hb K6.out.lt)
  replace PR := Lib.hid (PR.out.below hb)
  replace RW := Lib.hid (RW.out.below hb)
  replace O1 := Lib.hid (O1.out.below hb)
  replace HB := Lib.hid (hop HB.out (Nat.le_refl _) hb)
  clear hb
  go_wp2_with fail
  refine (every_any (some ⟨w6.heap.size, 0, none⟩) 1 1 [⟨nm, op, vl⟩] (by decide) _ (row_one w6 nm op vl) (fun m hm => by obtain rfl := List.mem_singleton.1 hm; exact RA.out) (HL.out.below HB.out)).mono ?_
  rintro e w7 ⟨a1, v1, base1, bs1, rfl, h1, _, hb⟩
  clear c0_ c1_ c2_
  replace K6 := Lib.hid (K6.out.below hb K6.out.lt)
  replace PR := Lib.hid (PR.out.below hb)
  replace RW := Lib.hid (RW.out.below hb)
  replace O1 := Lib.hid (O1.out.below hb)
  replace HB := Lib.hid (hop HB.out (Nat.le_refl _) hb)
  clear hb
  have OA := Lib.hid h1
  have BW := Lib.hid (Below.refl w7.heap.size w7)
  have E0 := Lib.hid (show (getL (ps.drop m) nm).getD .empty = ⟨#[]⟩ by rw [List.drop_of_length_le (by rw [LN.out]; exact Nat.le_refl _)]; rfl)
  have wm : IntKind.i64.wrap ((m : Int) - 1) = (m : Int) - 1 := by rw [IntKind.wrap_i64]; omega
  clear h1
  go_wp2
  go_loopw [12, 13] (fun vv iv wr => ∃ (j : Nat) (t : ByteArray), j ≤ m ∧ vv = .string t ∧ iv = .int .i64 ((j : Int) - 1) ∧ Hid ((getL (ps.drop j) nm).getD .empty = t) ∧ Hid (Below w7.heap.size w7 wr)) (fun _ iv _ => (intOf iv + 1).toNat)
  case atStart => exact ⟨m, _, Nat.le_refl _, rfl, by go_num, E0, BW⟩
  case round =>
    obtain ⟨j, t, hjm, rfl, rfl, HT, HBr⟩ := hrel
    have q2_ : wr.cell? ⟨g6, 0, none⟩ = some (.string nm) := ((K6.out.below HBr.out K6.out.lt).cell 0).trans rfl
    rcases j with _ | i
    · have e0 : (((0 : Nat) : Int) - 1) = -1 := rfl
      rw [e0]
      have hz : testM op vl t = tellM [⟨nm, op, vl⟩] ps := by rw [tellM_one, ← HT.out, List.drop_zero]
      have hy : testM op vl ⟨#[]⟩ = tellM [⟨nm, op, vl⟩] [] := by rw [tellM_one]; rfl
      have hts : t.size ≤ 4000000000000000000 := by
        rw [← HT.out, List.drop_zero]
        unfold getL findL
        cases e : ps.find? (fun p => decide (p.1 = nm)) with
        | none => show (ByteArray.empty).size ≤ _; decide
        | some p => exact VL.out p (List.mem_of_find?_eq_some e)
      have opt : ∀ q ∈ [(⟨nm, op, vl⟩ : MatB)], q.op ∈ textOps := fun q hq => by obtain rfl := List.mem_singleton.1 hq; exact OP.out
      have AT1 := Lib.hid (fun w (h : AllP w a1 v1 base1 bs1 [⟨nm, op, vl⟩]) (hp : Pairs w B m ps) => allTest_any a1 v1 base1 bs1 [⟨nm, op, vl⟩] B m c ps (by omega) (by show 1 ≤ 1000; decide) w h opt hp VL.out)
      have AT2 := Lib.hid (fun w (h : AllP w a1 v1 base1 bs1 [⟨nm, op, vl⟩]) => allTest_any a1 v1 base1 bs1 [⟨nm, op, vl⟩] none 0 0 [] (by decide) (by show 1 ≤ 1000; decide) w h opt (pairs_none w) (fun p hp => by cases hp))
      have TT1 := Lib.hid (fun w (h : OneP w b1 nm op vl) => oneTest_any nm op vl b1 t w h OP.out hts)
      have TT2 := Lib.hid (fun w (h : OneP w b1 nm op vl) => oneTest_any nm op vl b1 ⟨#[]⟩ w h OP.out (by decide))
      have NA := Lib.hid (fun w (h : OneP w b1 nm op vl) => (oneName_any nm op vl b1 w h).mono (fun e w' ⟨h1, h2⟩ => show e = Ending.returned (.string nm) ∧ Below w.heap.size w w' from ⟨h1, by subst h2; exact Below.refl _ _⟩))
      rw [hz] at TT1
      rw [hy] at TT2
      obtain ⟨z, hz2⟩ : ∃ z, tellM [⟨nm, op, vl⟩] ps = z := ⟨_, rfl⟩
      obtain ⟨y, hy2⟩ : ∃ y, tellM [⟨nm, op, vl⟩] [] = y := ⟨_, rfl⟩
      rw [hz2] at AT1 TT1
      rw [hy2] at AT2 TT2
      have zz : (z == z) = true := beq_self_eq_true z
      have yy : (y == y) = true := beq_self_eq_true y
      have nn : (nm.toList == nm.toList) = true := beq_self_eq_true _
      have O1 := O1.out.below HBr.out
      have OA := OA.out.below HBr.out
      have PR := PR.out.below HBr.out
      have HB0 : Below W.heap.size W wr := hop HB.out (Nat.le_refl _) HBr.out
      replace O1 : OneP wr.drew b1 nm op vl := O1.below (below_drewN (Below.refl _ _) 1)
      replace OA : AllP wr.drew a1 v1 base1 bs1 [⟨nm, op, vl⟩] := OA.below (below_drewN (Below.refl _ _) 1)
      replace PR : Pairs wr.drew B m ps := PR.below (below_drewN (Below.refl _ _) 1)
      replace HB0 : Below W.heap.size W wr.drew := below_drewN HB0 1
      clear hz hy hts opt hz2 hy2 HT e0
      go_wp2
      refine wp_region_held_drew (S := fun w' => w'.cell? ⟨g6, 0, none⟩ = some (.string nm) ∧ True) (by kernel_rfl) ⟨q2_, trivial⟩ (fun hS => ?_)
      obtain ⟨w0, hw0⟩ : ∃ z, wr.drew = z := ⟨_, rfl⟩
      rw [hw0] at hS HB0 O1 OA PR ⊢
      clear hw0
      refine tV 0 ?_; refine tV 1 ?_; refine tV 2 ?_; refine tV 3 ?_; refine tV 5 ?_; refine tV 6 ?_
      refine rdy [4] ?_
      refine rdC (fun K hK => ?_) AllReadyH.nil
      go_simp
      go_at_call 16
      refine ((AT1.out w0 OA PR)).mono ?_
      rintro _ f1 ⟨rfl, hb3⟩
      have hSn : (fun w' => w'.cell? ⟨g6, 0, none⟩ = some (.string nm) ∧ True) f1 := ⟨cell_keep hb3 hS.1, trivial⟩
      refine hK.out _ _ hSn (fun _ => ?_)
      clear hK K
      try simp only [Act.put, pz1, pz2, pz3]
      replace HB0 := hop HB0 (Nat.le_refl _) hb3
      replace O1 := O1.below hb3
      replace OA := OA.below hb3
      replace PR := PR.below hb3
      clear hS hb3
      have hS := hSn
      clear hSn
      refine rdy [7] ?_
      refine rdC (fun K hK => ?_) AllReadyH.nil
      go_simp
      go_at_call 11
      refine ((TT1.out f1 O1)).mono ?_
      rintro _ f2 ⟨rfl, hb3⟩
      have hSn : (fun w' => w'.cell? ⟨g6, 0, none⟩ = some (.string nm) ∧ True) f2 := ⟨cell_keep hb3 hS.1, trivial⟩
      refine hK.out _ _ hSn (fun _ => ?_)
      clear hK K
      try simp only [Act.put, pz1, pz2, pz3]
      replace HB0 := hop HB0 (Nat.le_refl _) hb3
      replace O1 := O1.below hb3
      replace OA := OA.below hb3
      replace PR := PR.below hb3
      clear hS hb3
      have hS := hSn
      clear hSn
      refine tV 8 ?_; refine tV 9 ?_; refine tV 10 ?_; refine tV 11 ?_; refine tV 13 ?_
      refine rdy [12] ?_
      refine rdC (fun K hK => ?_) AllReadyH.nil
      go_simp
      go_at_call 16
      refine ((AT2.out f2 OA)).mono ?_
      rintro _ f3 ⟨rfl, hb3⟩
      have hSn : (fun w' => w'.cell? ⟨g6, 0, none⟩ = some (.string nm) ∧ True) f3 := ⟨cell_keep hb3 hS.1, trivial⟩
      refine hK.out _ _ hSn (fun _ => ?_)
      clear hK K
      try simp only [Act.put, pz1, pz2, pz3]
      replace HB0 := hop HB0 (Nat.le_refl _) hb3
      replace O1 := O1.below hb3
      replace OA := OA.below hb3
      replace PR := PR.below hb3
      clear hS hb3
      have hS := hSn
      clear hSn
      refine rdy [14] ?_
      refine rdC (fun K hK => ?_) AllReadyH.nil
      go_simp
      go_at_call 11
      refine ((TT2.out f3 O1)).mono ?_
      rintro _ f4 ⟨rfl, hb3⟩
      have hSn : (fun w' => w'.cell? ⟨g6, 0, none⟩ = some (.string nm) ∧ True) f4 := ⟨cell_keep hb3 hS.1, trivial⟩
      refine hK.out _ _ hSn (fun _ => ?_)
      clear hK K
      try simp only [Act.put, pz1, pz2, pz3]
      replace HB0 := hop HB0 (Nat.le_refl _) hb3
      replace O1 := O1.below hb3
      replace OA := OA.below hb3
      replace PR := PR.below hb3
      clear hS hb3
      have hS := hSn
      clear hSn
      refine tV 15 ?_; refine tV 16 ?_; refine tV 17 ?_; refine tV 18 ?_; refine tV 20 ?_; refine tH 21 ?_
      refine rdy [19] ?_
      refine rdC (fun K hK => ?_) AllReadyH.nil
      go_simp
      go_at_call 17
      refine ((NA.out f4 O1)).mono ?_
      rintro _ f5 ⟨rfl, hb3⟩
      have hSn : (fun w' => w'.cell? ⟨g6, 0, none⟩ = some (.string nm) ∧ True) f5 := ⟨cell_keep hb3 hS.1, trivial⟩
      refine hK.out _ _ hSn (fun _ => ?_)
      clear hK K
      try simp only [Act.put, pz1, pz2, pz3]
      replace HB0 := hop HB0 (Nat.le_refl _) hb3
      replace O1 := O1.below hb3
      replace OA := OA.below hb3
      replace PR := PR.below hb3
      clear hS hb3
      have hS := hSn
      clear hSn
      refine tV 22 ?_; refine tV 23 ?_; refine tV 24 ?_
      refine wpAnyH_done (by kernel_rfl) ?_ _
      go_wp2
      go_ret
      exact ⟨rfl, HB0⟩
    · have e0 : ((((i + 1 : Nat)) : Int) - 1) = (i : Int) := by omega
      rw [e0]
      have hi : i < m := by omega
      have iI : (0 : Int) ≤ (i : Int) := by omega
      have iM : (i : Int) < (m : Int) := by omega
      have wi : IntKind.i64.wrap ((i : Int) - 1) = (i : Int) - 1 := by rw [IntKind.wrap_i64]; omega
      obtain ⟨⟨p1, p2⟩, hp⟩ : ∃ p, ps[i]? = some p := ⟨_, List.getElem?_eq_getElem (by rw [LN.out]; exact hi)⟩
      obtain ⟨b1, o1, hB, hlt, hcc⟩ := (RW.out.below HBr.out).2 (by omega)
      subst hB
      have q1_ : wr.cell? ⟨b1, o1 + i * 2, none⟩ = some (.string p1) := (hcc i 0 _ hp (by decide)).trans rfl
      have q3_ : wr.cell? ⟨b1, o1 + i * 2 + 1, none⟩ = some (.string p2) := (hcc i 1 _ hp (by decide)).trans rfl
      have hd : ps.drop i = (p1, p2) :: ps.drop (i + 1) := by
        rw [List.drop_eq_getElem_cons (by rw [LN.out]; exact hi)]
        congr 1
        exact Option.some.inj ((List.getElem?_eq_getElem (by rw [LN.out]; exact hi)).symm.trans hp)
      have HB2 := Lib.hid (show Below w7.heap.size w7 wr.drew from below_drewN HBr.out 1)
      clear hcc hp e0
      by_cases he : p1 = nm
      · have HT2 := Lib.hid (show (getL (ps.drop i) nm).getD .empty = p2 by rw [hd, getL_cons, if_pos he]; rfl)
        have g := text_same he
        clear he hd HT HBr
        go_wp2
        refine wp_region_held_drew (S := fun w' => w'.cell? ⟨b1, o1 + i * 2, none⟩ = some (.string p1) ∧ w'.cell? ⟨g6, 0, none⟩ = some (.string nm) ∧ w'.cell? ⟨b1, o1 + i * 2 + 1, none⟩ = some (.string p2) ∧ True) (by kernel_rfl) ⟨q1_, q2_, q3_, trivial⟩ (fun hS => ?_)
        obtain ⟨w0, hw0⟩ : ∃ z, wr.drew = z := ⟨_, rfl⟩
        rw [hw0] at hS HB2 ⊢
        clear hw0
        refine tV 0 ?_; refine tV 1 ?_; refine tV 2 ?_; refine tV 3 ?_; refine tH 4 ?_; refine tV 5 ?_; refine tH 6 ?_; refine tV 7 ?_
        refine wpAnyH_done (by kernel_rfl) ?_ _
        obtain ⟨q1_, q2_, q3_, _⟩ := hS
        go_wp2
        go_round
        case rel => exact ⟨i, _, by omega, rfl, by go_num, HT2, HB2⟩
        case measure => first | (simp [intOf]; done) | (simp [intOf]; omega)
      · have HT2 := Lib.hid (show (getL (ps.drop i) nm).getD .empty = t by rw [hd, getL_cons, if_neg he]; exact HT.out)
        have g := text_other he
        clear he hd HT HBr
        go_wp2
        refine wp_region_held_drew (S := fun w' => w'.cell? ⟨b1, o1 + i * 2, none⟩ = some (.string p1) ∧ w'.cell? ⟨g6, 0, none⟩ = some (.string nm) ∧ w'.cell? ⟨b1, o1 + i * 2 + 1, none⟩ = some (.string p2) ∧ True) (by kernel_rfl) ⟨q1_, q2_, q3_, trivial⟩ (fun hS => ?_)
        obtain ⟨w0, hw0⟩ : ∃ z, wr.drew = z := ⟨_, rfl⟩
        rw [hw0] at hS HB2 ⊢
        clear hw0
        refine tV 0 ?_; refine tV 1 ?_; refine tV 2 ?_; refine tV 3 ?_; refine tH 4 ?_; refine tV 5 ?_; refine tH 6 ?_; refine tV 7 ?_
        refine wpAnyH_done (by kernel_rfl) ?_ _
        obtain ⟨q1_, q2_, q3_, _⟩ := hS
        go_wp2
        go_round
        case rel => exact ⟨i, _, by omega, rfl, by go_num, HT2, HB2⟩
        case measure => first | (simp [intOf]; done) | (simp [intOf]; omega)
end Go.Proofs.YtbkpoimaienhpaaGreatDoor
