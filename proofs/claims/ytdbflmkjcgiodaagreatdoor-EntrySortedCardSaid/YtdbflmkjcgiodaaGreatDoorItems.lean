/- An entry by its parts, whichever; some of them. -/
import Derived.Test.YtdbflmkjcgiodaaGreatDoorItem2
namespace Go.Proofs.YtdbflmkjcgiodaaGreatDoor
open Go.RowKit
set_option linter.unusedVariables false
set_option linter.unusedSimpArgs false

theorem fewL_len (lt : List TagB) : (fewL lt).length ≤ 2 := by
  have h1 : (ofL (few2L lt)).length ≤ (few2L lt).length := by
    unfold ofL lastsL
    refine Nat.le_trans (keptTo_len _ _) ?_
    rw [sortL_length]
    exact List.length_filter_le _ _
  have h2 := tagsL_len (lt.map ownT) 2
  unfold fewL
  unfold few2L at h1 ⊢
  omega
theorem wrap_i8' (n : Int) : IntKind.i8.wrap n = (n + 128) % 256 - 128 := by
  simp [IntKind.wrap, IntKind.bits, IntKind.signed]
  split <;> omega
theorem item_any (B : Nat) (x : ItemX) (W : World) (h : GoodI B W x) :
    Calls Tryz.prog 10 #[x.val] W fun e w' => ∃ y : EntX, e = .returned y.val ∧ y.b = itemB x ∧ Good B w' y ∧ Below W.heap.size W w' := by
  obtain ⟨⟨ts, A, n, c, ls, ln⟩, own, t, LA, Ln, Lc, lt, k⟩ := x
  cases own with
  | false =>
    refine (item_as ts A n c ln t LA Ln Lc k W).mono ?_
    rintro e w' ⟨rfl, hb⟩
    exact ⟨⟨ts, A, n, c, ls, ln⟩, rfl, rfl, h.ent.below hb, hb⟩
  | true =>
    have h1 := h.lo
    have h2 := h.hi
    have h3 := h.line
    dsimp only at h1 h2 h3
    have hz : -11 ≤ t.tmod 12 ∧ t.tmod 12 ≤ 11 := by
      rcases Int.le_total 0 t with g | g
      · rw [Int.tmod_eq_emod_of_nonneg g]; omega
      · have e : t.tmod 12 = -((-t) % 12) := by
          rw [← Int.tmod_eq_emod_of_nonneg (by omega), Int.neg_tmod, Int.neg_neg]
        rw [e]; omega
    refine (item_own ts A n c ln t LA Ln Lc k (k % 8) lt _ W rfl (by rw [wrap_i8']; omega) (by rw [IntKind.wrap_i64]; omega) (by omega) (by rw [Int.tmod_eq_emod_of_nonneg (by omega)]; omega) h.tags h.len).mono ?_
    rintro e w' ⟨A', n', c', rfl, hn, hs, hb⟩
    have hl := fewL_len lt
    exact ⟨⟨t.tmod 12, A', n', c', fewL lt, lineTs.getD (k % 8) .empty⟩, rfl, rfl, ⟨hs B, by show n' ≤ _; omega, by show _ ≤ t.tmod 12; omega, by show t.tmod 12 ≤ _; omega⟩, hb⟩

def ItemX.V (x : ItemX) : List Value := [.int .i64 x.e.ts, .slice x.e.A x.e.n x.e.c, .string x.e.ln, .bool x.own, .int .i8 x.t, .slice x.LA x.Ln x.Lc, .int .u8 (x.k : Int)]
def inil : ItemX := ⟨xnil, false, 0, none, 0, 0, [], 0⟩
/-- a slice of entries by their parts that can be read -/
def ItemsP (B : Nat) (w : World) (A : Option Addr) (n : Nat) (l : List ItemX) : Prop := RowR ItemX.V 7 w A n l ∧ ∀ x ∈ l, GoodI B w x
theorem ItemsP.below {B : Nat} {w w' : World} {A : Option Addr} {n : Nat} {l : List ItemX} (h : ItemsP B w A n l) (hb : Below w.heap.size w w') : ItemsP B w' A n l := ⟨h.1.below hb, fun x hx => (h.2 x hx).below hb⟩
theorem ItemsP.mono {B B' : Nat} {w : World} {A : Option Addr} {n : Nat} {l : List ItemX} (h : ItemsP B w A n l) (hB : B ≤ B') : ItemsP B' w A n l := ⟨h.1, fun x hx => (h.2 x hx).mono hB⟩
theorem ItemsP.at_ {B : Nat} {w : World} {A : Option Addr} {n : Nat} {l : List ItemX} (h : ItemsP B w A n l) (hn : 0 < n) : ∃ b off, A = some ⟨b, off, none⟩ ∧ b < w.heap.size ∧ ∀ j, j < n →
    (w.cell? ⟨b, off + j * 7, none⟩ = some (.int .i64 (l.getD j inil).e.ts) ∧ w.cell? ⟨b, off + j * 7 + 1, none⟩ = some (.slice (l.getD j inil).e.A (l.getD j inil).e.n (l.getD j inil).e.c) ∧ w.cell? ⟨b, off + j * 7 + 2, none⟩ = some (.string (l.getD j inil).e.ln) ∧
     w.cell? ⟨b, off + j * 7 + 3, none⟩ = some (.bool (l.getD j inil).own) ∧ w.cell? ⟨b, off + j * 7 + 4, none⟩ = some (.int .i8 (l.getD j inil).t) ∧ w.cell? ⟨b, off + j * 7 + 5, none⟩ = some (.slice (l.getD j inil).LA (l.getD j inil).Ln (l.getD j inil).Lc) ∧ w.cell? ⟨b, off + j * 7 + 6, none⟩ = some (.int .u8 ((l.getD j inil).k : Int))) ∧ GoodI B w (l.getD j inil) := by
  obtain ⟨b, off, e, hlt, hc⟩ := h.1.2 hn
  refine ⟨b, off, e, hlt, fun j hj => ?_⟩
  have hg : l[j]? = some (l.getD j inil) := by
    have := h.1.1
    rw [List.getD_eq_getElem?_getD, List.getElem?_eq_getElem (by omega)]
    rfl
  exact ⟨⟨hc j 0 _ hg (by decide), hc j 1 _ hg (by decide), hc j 2 _ hg (by decide), hc j 3 _ hg (by decide), hc j 4 _ hg (by decide), hc j 5 _ hg (by decide), hc j 6 _ hg (by decide)⟩, h.2 _ (List.mem_of_getElem? hg)⟩
def itemsB (l : List ItemX) (most : Nat) : List EntB := (l.take most).map itemB
theorem itemsB_next (l : List ItemX) (j : Nat) (hj : j < l.length) : itemsB l (j + 1) = itemsB l j ++ [itemB (l.getD j inil)] := by
  unfold itemsB
  rw [List.take_succ_eq_append_getElem hj, List.map_append, List.getD_eq_getElem?_getD, List.getElem?_eq_getElem hj]
  rfl
theorem itemsB_len (l : List ItemX) (most : Nat) : (itemsB l most).length ≤ most := by
  unfold itemsB
  rw [List.length_map, List.length_take]
  omega
theorem infoEnt : (Tryz.prog.info? 25).map (fun i => (i.zero, i.size, i.bytes)) = some (some (.agg #[.int .i64 0, .slice none 0 0, .string ⟨#[]⟩]), 3, 48) := by kernel_rfl

set_option maxRecDepth 100000 in
set_option maxHeartbeats 1600000 in
theorem items_any (B : Nat) (A : Option Addr) (n c most : Nat) (l : List ItemX) (hn : n ≤ 9223372036854775807) (hm : most ≤ 1000000) (W : World) (hB : B ≤ W.heap.size) (h1 : ItemsP B W A n l) :
    Calls Tryz.prog 12 #[.slice A n c, .int .i64 (most : Int)] W fun e w' => ∃ v L, e = .returned v ∧ OwnE B w' W.heap.size v L ∧ L.map EntX.b = itemsB l most ∧ Below W.heap.size W w' := by
  have h0 : W.heap.size ≤ W.heap.size := Nat.le_refl _
  obtain ⟨i0, hi, hz0, hz1, hz2⟩ := info_parts infoEnt
  have H1 := Lib.hid h1
  have LN := Lib.hid (itemsB_len l)
  have NX := Lib.hid (itemsB_next l)
  clear h1
  go_enter Tryz.func12, Tryz.ntmps12
  go_wp2
  go_loopw [5, 6] (fun sv iv wr => ∃ (j : Nat) (L : List EntX), j ≤ n ∧ j ≤ most ∧ iv = .int .i64 j ∧ Hid (L.map EntX.b = itemsB l j) ∧ OwnE B wr W.heap.size sv L ∧ Below W.heap.size W wr) (fun _ iv _ => most - (intOf iv).toNat)
  case atStart => exact ⟨0, [], Nat.zero_le _, Nat.zero_le _, rfl, Lib.hid rfl, OwnE.nil _ _ _, Below.refl _ _⟩
  case round =>
    obtain ⟨j, L, hjn, hjm, rfl, HLB, hown, hb⟩ := hrel
    have hsz := hb.size
    by_cases hj : j < n ∧ j < most
    · obtain ⟨g1, g2⟩ := hj
      have h2 := H1.out.below hb
      obtain ⟨b1, o1, rfl, hlt1, hc1⟩ := h2.at_ (by omega)
      obtain ⟨⟨c1, c2, c3, c4, c5, c6, c7⟩, gI⟩ := hc1 j g1
      have hjl : j < l.length := by rw [h2.1.1]; exact g1
      have hks := NX.out j hjl
      have hLl : L.length ≤ most := by
        have h3 := congrArg List.length HLB.out
        rw [List.length_map] at h3
        have := LN.out j
        omega
      obtain ⟨x, hx⟩ : ∃ p, l.getD j inil = p := ⟨_, rfl⟩
      rw [hx] at c1 c2 c3 c4 c5 c6 c7 hks gI
      have IT := fun w (h : Below wr.heap.size wr w) => item_any B x w (gI.below h)
      obtain ⟨⟨ts, eA, en, ec, els, eln⟩, own, t, LA, Ln, Lc, lt, k⟩ := x
      dsimp only at c1 c2 c3 c4 c5 c6 c7
      dsimp only [ItemX.val] at IT
      have hjI : (j : Int) < (n : Int) := by omega
      have hjM : (j : Int) < (most : Int) := by omega
      obtain ⟨bx, hbx⟩ : ∃ b, itemB ⟨⟨ts, eA, en, ec, els, eln⟩, own, t, LA, Ln, Lc, lt, k⟩ = b := ⟨_, rfl⟩
      rw [hbx] at hks
      simp only [hbx] at IT
      replace IT := Lib.hid IT
      have HKS := Lib.hid hks
      have HOW := Lib.hid hown
      clear hks hx hc1 h2 hjl gI hbx hown
      go_wp2_with fail
      refine (IT.out _ (Below.refl _ _)).mono ?_
      rintro e w2 ⟨y, rfl, hy, gy, hx⟩
      have hb2 := hop hb h0 hx
      have ho2 := HOW.out.below hx
      have hs2 := hb2.size
      have HY := Lib.hid hy
      obtain ⟨yt, yA, yn, yc, yl, ys⟩ := y
      dsimp only [EntX.val]
      have HGY := Lib.hid gy
      have HO2 := Lib.hid ho2
      clear hx c1 c2 c3 c4 c5 c6 c7 hb gy hy ho2
      go_wp2_with (at_builtin; refine wpList_append_own _ rfl (.tmp 18) (.tmp 24) 37 rfl W.heap.size 25 i0 (.agg #[.int .i64 0, .slice none 0 0, .string ⟨#[]⟩]) 3 48 Tryz.underlying37 hi hz0 hz1 hz2 rfl (by decide) _ _ _ rfl (OwnR.alloc HO2.out.1 _) ⟨w2.heap.size, 0, none⟩ 1 1 (EntX.V ⟨yt, yA, yn, yc, yl, ys⟩) rfl rfl (new_cells_at _ _ _ _ (by simp)) (entV_one _) (by unfold maxLen; omega) (by omega) (by simp; omega) ?_)
      intro v' w3 hown' hgrow _
      have hb3 := (hb2.alloc hs2 _).grown hgrow (by simp; omega) (fun r hr => (World.ownsRow.lt HO2.out.1 r hr).1)
      have hown3 := OwnE.snoc (HO2.out.alloc _) (HGY.out.below ((Below.refl _ _).alloc (Nat.le_refl _) _)) (Nat.le_trans hB h0) hgrow hown'
      have hmap : (L ++ [(⟨yt, yA, yn, yc, yl, ys⟩ : EntX)]).map EntX.b = itemsB l (j + 1) := by
        rw [List.map_append, HLB.out, HKS.out, ← HY.out]
        rfl
      have HMAP := Lib.hid hmap
      have HO3 := Lib.hid hown3
      clear hown' hgrow hmap hown3
      go_wp2
      go_round
      case rel => exact ⟨j + 1, _, by omega, by omega, by go_num, HMAP, HO3.out, hb3⟩
      case measure => simp [intOf]; omega
    · have hends : (¬ (j : Int) < (n : Int)) ∨ ((j : Int) < (n : Int) ∧ ¬ (j : Int) < (most : Int)) := by omega
      have hfin : itemsB l most = itemsB l j := by
        rcases (by omega : j = most ∨ j = n) with e | e
        · rw [e]
        · unfold itemsB
          rw [List.take_of_length_le (by rw [H1.out.1.1]; omega), List.take_of_length_le (by rw [H1.out.1.1]; omega)]
      have HF := Lib.hid hfin
      have HOW := Lib.hid hown
      clear hfin hj hown
      rcases hends with e1 | ⟨e1, e2⟩
      all_goals
        go_wp2
        go_ret
        exact ⟨_, rfl, L, HOW.out, by rw [HF.out]; exact HLB.out, hb⟩
end Go.Proofs.YtdbflmkjcgiodaaGreatDoor
