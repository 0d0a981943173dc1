-- shaken
import Derived.Test.YtdaainifkldcpaaGreatDoorProg
import Derived.Test.YtdaainifkldcpaaGreatDoorLabOf
import Derived.Shelf.Spec.SlicesGrow
import Derived.Laws.AppendOwnNone
import Derived.Test.YtdaainifkldcpaaGreatDoorLabParse
import Derived.Test.YtdaainifkldcpaaGreatDoorLabText
import Derived.Test.YtdaainifkldcpaaGreatDoorBase
import Derived.Laws.OwnMore
import Derived.Test.YtdaainifkldcpaaGreatDoorEntRow
import Derived.Test.YtdaainifkldcpaaGreatDoorLabTag
import Derived.Deep.RegionHeld3
import Derived.Test.YtdaainifkldcpaaGreatDoorMem
namespace Go.Proofs
set_option linter.unusedVariables false
set_option linter.unusedSimpArgs false
open Go.Shelf
end Go.Proofs
namespace Go.Proofs.YtdaainifkldcpaaGreatDoor
open Go.RowKit Go.Sort
set_option linter.unusedVariables false
set_option linter.unusedSimpArgs false
theorem OwnP.more {w : World} {B : Nat} {v : Value} {l m : List PairB} {n : Nat} (hm : m.length = n) (h : w.ownsRow B 165 2 v (l.length + n) (pVs l ++ pVs m)) : OwnP w B v (l ++ m) := by
  unfold OwnP
  rw [List.length_append, pVs_app, hm]
  exact h
def Src (w : World) (A : Option Addr) (n c : Nat) (ps : List PairB) : Prop := ps.length = n ∧ ((A = none ∧ n = 0 ∧ c = 0) ∨ ∃ ad, A = some ad ∧ ∀ t u, (pVs ps)[t]? = some u → w.cell? (ad.add t) = some u)
theorem Pairs.src {w : World} {A : Option Addr} {n : Nat} (c : Nat) {ps : List PairB} (h : Pairs w A n ps) (hA : A = none → n = 0 ∧ c = 0) : Src w A n c ps := by
  refine ⟨h.1, ?_⟩
  cases A with
  | none => exact .inl ⟨rfl, hA rfl⟩
  | some ad =>
    refine .inr ⟨ad, rfl, fun t u hu => ?_⟩
    have ht : t < n * 2 := by
      rcases Nat.lt_or_ge t (n * 2) with h1 | h1
      · exact h1
      · rw [List.getElem?_eq_none (by rw [pVs_len, h.1]; exact h1)] at hu; cases hu
    obtain ⟨b, off, e, _, hc⟩ := h.2 (by omega)
    injection e with e
    subst e
    rw [pVs_at ps t (by rw [h.1]; exact ht)] at hu
    injection hu with hu
    obtain ⟨c0, c1⟩ := hc (t / 2) (by omega)
    rw [ints_add, ← hu]
    rcases (by omega : t % 2 = 0 ∨ t % 2 = 1) with h2 | h2
    · rw [h2, show off + t = off + t / 2 * 2 by omega]; exact c0
    · rw [h2, show off + t = off + t / 2 * 2 + 1 by omega]; exact c1

open Go.RowKit Go.Sort
def s2 : List PairB := [(⟨#[97]⟩, ⟨#[49]⟩), (⟨#[98]⟩, ⟨#[51]⟩)]
def ownT (t : TagB) : TagB := ⟨t.nm, t.vl, true, t.k⟩
def few2L (ts : List TagB) : List PairB := tagsL (ts.map ownT) 2
def fewL (ts : List TagB) : List PairB := ofL (few2L ts)
theorem few2_next (ts : List TagB) (j : Nat) (hj : j < ts.length) : tagsL (ts.map ownT) (j + 1) = tagsL (ts.map ownT) j ++ [tagP (ownT (ts.getD j default))] := by
  rw [tagsL_next _ j (by rw [List.length_map]; exact hj)]
  congr 2
  rw [List.getD_eq_getElem?_getD, List.getD_eq_getElem?_getD, List.getElem?_map, List.getElem?_eq_getElem hj]
  rfl
theorem SetAt.ofP {B B' : Nat} {w : World} {v : Value} {l : List PairB} (h : OwnP w B' v l) : ∃ A n c, v = .slice A n c ∧ n = l.length ∧ SetAt B w A n l := by
  obtain ⟨A, cap, rfl, _, hp⟩ := h.pairs
  refine ⟨A, _, cap, rfl, rfl, hp, fun h0 a ha => ?_⟩
  rcases h.2 with ⟨e, h1⟩ | ⟨g, cap2, cur, e, _, hh, _⟩
  · omega
  · injection e with e1 _ _
    rw [ha] at e1
    injection e1 with e1
    subst e1
    exact .inr ⟨cur, hh⟩
set_option maxRecDepth 100000 in
set_option maxHeartbeats 1600000 in
theorem few2_any (A : Option Addr) (n c : Nat) (ts : List TagB) (hn : n ≤ 9223372036854775807) (W : World) (h1 : TagsP W A n ts) :
    Calls Tryz.prog 57 #[.slice A n c] W fun e w' => ∃ v, e = .returned v ∧ OwnP w' W.heap.size v (fewL ts) ∧ Below W.heap.size W w' := by
  have h0 : W.heap.size ≤ W.heap.size := Nat.le_refl _
  obtain ⟨i0, hi, hz0, hz1, hz2⟩ := info_parts infoPair
  have H1 := Lib.hid h1
  have LN := Lib.hid (tagsL_len (ts.map ownT))
  have NX := Lib.hid (few2_next ts)
  have OF := Lib.hid (fun A k c w (hk : k ≤ 16777216) (h : Pairs w A k (few2L ts)) => of_labels A k c (few2L ts) hk (Nat.lt_of_le_of_lt (List.length_filter_le _ _) (by have := tagsL_len (ts.map ownT) 2; unfold few2L; omega)) w h)
  clear h1
  go_enter Tryz.func57, Tryz.ntmps57
  go_wp2
  go_loopw [3, 4] (fun sv iv wr => ∃ j : Nat, j ≤ n ∧ j ≤ 2 ∧ iv = .int .i64 j ∧ OwnP wr W.heap.size sv (tagsL (ts.map ownT) j) ∧ Below W.heap.size W wr) (fun _ iv _ => 2 - (intOf iv).toNat)
  case atStart => exact ⟨0, Nat.zero_le _, Nat.zero_le _, rfl, OwnP.nil _ _, Below.refl _ _⟩
  case round =>
    obtain ⟨j, hjn, hjm, rfl, hown, hb⟩ := hrel
    have hsz := hb.size
    by_cases hj : j < n ∧ j < 2
    · obtain ⟨g1, g2⟩ := hj
      have h2 := H1.out.below hb
      obtain ⟨b1, o1, rfl, hlt1, hc1⟩ := h2.2.2 (by omega)
      obtain ⟨c1, c2, c3, c4⟩ := hc1 j g1
      have hjl : j < ts.length := by rw [h2.1]; exact g1
      have hks := NX.out j hjl
      have hkk := h2.2.1 (ts.getD j default) (by
        rw [List.getD_eq_getElem?_getD, List.getElem?_eq_getElem hjl]
        exact List.getElem_mem _)
      obtain ⟨t, ht⟩ : ∃ p, ts.getD j default = p := ⟨_, rfl⟩
      rw [ht] at c1 c2 c3 c4 hks hkk
      have TG := fun w => tag_any (ownT t) (by exact hkk) w
      have hjI : (j : Int) < (n : Int) := by omega
      have hjM : (j : Int) < 2 := by omega
      obtain ⟨L, hL⟩ : ∃ L, tagsL (ts.map ownT) j = L := ⟨_, rfl⟩
      have hLl := LN.out j
      rw [hL] at hown hks hLl
      obtain ⟨⟨p1, p2⟩, hp⟩ : ∃ p, tagP (ownT t) = p := ⟨_, rfl⟩
      rw [hp] at hks
      simp only [hp] at TG
      have HKS := Lib.hid hks
      obtain ⟨nm, vl, own, k⟩ := t
      dsimp only at c1 c2 c3 c4
      replace TG : ∀ w, Calls Tryz.prog 88 #[.agg #[.string nm, .string vl, .bool true, .int .u8 (k : Int)]] w fun e w' => e = .returned (.agg #[.string p1, .string p2]) ∧ Below w.heap.size w w' := TG
      replace TG := Lib.hid TG
      clear hks ht hL hc1 h2 hjl hkk hp
      go_wp2_with fail
      have hb1 : Below W.heap.size W (wr.alloc (.cells #[.string nm, .string vl, .bool true, .int .u8 (k : Int)] 189)) := hb.alloc hsz _
      have ho1 := hown.alloc (.cells #[.string nm, .string vl, .bool true, .int .u8 (k : Int)] 189)
      refine (TG.out _).mono ?_
      rintro e w2 ⟨rfl, hx⟩
      have hb2 := hop hb1 h0 hx
      have ho2 := ho1.below hx
      have hs2 := hb2.size
      clear hx c1 c2 c3 c4 hown hb ho1 hb1
      go_wp2_with (at_builtin; refine wpList_append_own _ rfl (.tmp 21) (.tmp 24) 44 rfl W.heap.size 165 i0 (.agg #[.string ⟨#[]⟩, .string ⟨#[]⟩]) 2 32 Tryz.underlying44 hi hz0 hz1 hz2 rfl (by decide) _ _ _ rfl (ho2.alloc _) ⟨w2.heap.size, 0, none⟩ 1 1 (pairV (p1, p2)) rfl rfl (new_cells_at _ _ _ _ (by simp)) (pairV_one _) (by unfold maxLen; omega) (by omega) (by simp; omega) ?_)
      intro v' w3 hown' hgrow _
      have hb3 := (hb2.alloc hs2 _).grown hgrow (by simp; omega) (fun r hr => (World.ownsRow.lt ho2 r hr).1)
      have hown3 := OwnP.snoc (p := (p1, p2)) hown'
      rw [← HKS.out] at hown3
      clear hown' hgrow
      go_wp2
      go_round
      case rel => exact ⟨j + 1, by omega, by omega, by go_num, hown3, hb3⟩
      case measure => simp [intOf]; omega
    · have hends : (¬ (j : Int) < (n : Int)) ∨ ((j : Int) < (n : Int) ∧ ¬ (j : Int) < 2) := by omega
      have hfin : few2L ts = tagsL (ts.map ownT) j := by
        unfold few2L
        rcases (by omega : j = 2 ∨ j = n) with e | e
        · rw [e]
        · unfold tagsL
          have hl := H1.out.1
          rw [List.take_of_length_le (by rw [List.length_map]; omega), List.take_of_length_le (by rw [List.length_map]; omega)]
      rw [← hfin] at hown
      obtain ⟨A2, cap2, rfl, hcap2, hp2⟩ := hown.pairs
      have hl2 : (few2L ts).length ≤ 16777216 := by have := tagsL_len (ts.map ownT) 2; unfold few2L; omega
      have OF2 := Lib.hid (OF.out A2 _ cap2 wr hl2 hp2)
      clear hfin hj hown hp2 hl2 OF
      rcases hends with e1 | ⟨e1, e2⟩
      all_goals
        go_wp2_with fail
        refine OF2.out.mono ?_
        rintro e w5 ⟨v, rfl, ho5, hx⟩
        have hb5 := hop hb h0 hx
        have ho6 := ho5.mono hsz
        clear hx ho5
        go_wp2
        go_ret
        exact ⟨_, rfl, ho6, hb5⟩
section
variable {P : Program} {md : Region.Mode} {ops : Array Oper} {Q : Exit → Act → World → Prop} {S S2 : World → Prop}
theorem wpAnyH_mono (h : ∀ w, S2 w → S w) : ∀ (fuel : Nat) (listed : Array Bool) (a : Act) (w : World), wpAnyH P md ops Q S2 fuel listed a w → wpAnyH P md ops Q S fuel listed a w
  | 0, _, _, _, hw => hw
  | fuel + 1, _, _, _, hw => ⟨hw.1, fun i hi => wpOp_mono (fun a' w' h' => ⟨h _ h'.1, wpAnyH_mono h fuel _ a' w' h'.2⟩) (hw.2 i hi)⟩
end
structure ItemX where
  e : EntX
  own : Bool
  t : Int
  LA : Option Addr
  Ln : Nat
  Lc : Nat
  lt : List TagB
  k : Nat
def lineTs : List ByteArray := [⟨#[97]⟩, ⟨#[98]⟩, ⟨#[110, 61, 55]⟩, ⟨#[108, 118, 108, 61, 98, 32, 110, 61, 51]⟩, ⟨#[120, 49]⟩, ⟨#[]⟩, ⟨#[100, 117, 114, 61, 53, 109]⟩, ⟨#[101, 114, 114, 111, 114, 58, 32, 97]⟩]
def itemB (x : ItemX) : EntB := if x.own then ⟨x.t.tmod 12, fewL x.lt, lineTs.getD (x.k % 8) .empty⟩ else x.e.b
def ItemX.val (x : ItemX) : Value := .agg #[.int .i64 x.e.ts, .slice x.e.A x.e.n x.e.c, .string x.e.ln, .bool x.own, .int .i8 x.t, .slice x.LA x.Ln x.Lc, .int .u8 (x.k : Int)]
structure GoodI (B : Nat) (w : World) (x : ItemX) : Prop where
  ent : Good B w x.e
  tags : TagsP w x.LA x.Ln x.lt
  len : x.Ln ≤ 9223372036854775807
  lo : -128 ≤ x.t
  hi : x.t ≤ 127
  line : x.k < 256
theorem GoodI.below {B : Nat} {w w' : World} {x : ItemX} (h : GoodI B w x) (hb : Below w.heap.size w w') : GoodI B w' x := ⟨h.ent.below hb, h.tags.below hb, h.len, h.lo, h.hi, h.line⟩
theorem GoodI.mono {B B' : Nat} {w : World} {x : ItemX} (h : GoodI B w x) (hB : B ≤ B') : GoodI B' w x := ⟨h.ent.mono hB, h.tags, h.len, h.lo, h.hi, h.line⟩
theorem few2_some (A : Option Addr) (n c : Nat) (ts : List TagB) (hn : n ≤ 9223372036854775807) (W : World) (h1 : TagsP W A n ts) :
    Calls Tryz.prog 57 #[.slice A n c] W fun e w' => ∃ A' n' c', e = .returned (.slice A' n' c') ∧ n' = (fewL ts).length ∧ (∀ B, SetAt B w' A' n' (fewL ts)) ∧ Below W.heap.size W w' := by
  refine (few2_any A n c ts hn W h1).mono ?_
  rintro e w' ⟨v, rfl, ho, hb⟩
  obtain ⟨A', n', c', rfl, hn', hs⟩ := SetAt.ofP (B := 0) ho
  exact ⟨A', n', c', rfl, hn', fun B => hs.mono (Nat.zero_le _), hb⟩
set_option maxRecDepth 100000 in
set_option maxHeartbeats 800000 in
theorem item_as (ts : Int) (A : Option Addr) (n c : Nat) (ln : ByteArray) (t : Int) (LA : Option Addr) (Ln Lc k : Nat) (W : World) :
    Calls Tryz.prog 27 #[.agg #[.int .i64 ts, .slice A n c, .string ln, .bool false, .int .i8 t, .slice LA Ln Lc, .int .u8 (k : Int)]] W fun e w' => e = .returned (.agg #[.int .i64 ts, .slice A n c, .string ln]) ∧ Below W.heap.size W w' := by
  go_enter Tryz.func27, Tryz.ntmps27
  go_wp2
  refine bodyPost_ret (results_cell_row rfl _ _ (W.heap.size + 1) 47 #[.int .i64 ts, .slice A n c, .string ln] (0, 0) _ rfl (blk_next W _ _ _) Tryz.underlying47 rfl (by kernel_rfl)) rfl ?_
  exact ⟨rfl, ((Below.refl _ _).alloc (Nat.le_refl _) _).alloc (by simp) _⟩
set_option maxRecDepth 100000 in
set_option maxHeartbeats 1600000 in
theorem item_own (ts : Int) (A : Option Addr) (n c : Nat) (ln : ByteArray) (t : Int) (LA : Option Addr) (Ln Lc k i : Nat) (lt : List TagB) (z : Int) (W : World) (hz : t.tmod 12 = z) (hz1 : IntKind.i8.wrap z = z) (hz2 : IntKind.i64.wrap z = z)
    (hi : i < 8) (hk : (k : Int).tmod 8 = (i : Int)) (h1 : TagsP W LA Ln lt) (hn : Ln ≤ 9223372036854775807) :
    Calls Tryz.prog 27 #[.agg #[.int .i64 ts, .slice A n c, .string ln, .bool true, .int .i8 t, .slice LA Ln Lc, .int .u8 (k : Int)]] W fun e w' => ∃ A' n' c', e = .returned (.agg #[.int .i64 z, .slice A' n' c', .string (lineTs.getD i .empty)]) ∧ n' = (fewL lt).length ∧ (∀ B, SetAt B w' A' n' (fewL lt)) ∧ Below W.heap.size W w' := by
  have FW := Lib.hid (fun w h => few2_some LA Ln Lc lt hn w (h1.below h))
  have iI : (i : Int) < 8 := by omega
  have hwi : IntKind.u8.wrap (i : Int) = (i : Int) := by rw [IntKind.wrap_u8]; omega
  have HL0 : ∀ (w : World), (w.alloc (.cells #[.string ⟨#[97]⟩, .string ⟨#[98]⟩, .string ⟨#[110, 61, 55]⟩, .string ⟨#[108, 118, 108, 61, 98, 32, 110, 61, 51]⟩, .string ⟨#[120, 49]⟩, .string ⟨#[]⟩, .string ⟨#[100, 117, 114, 61, 53, 109]⟩, .string ⟨#[101, 114, 114, 111, 114, 58, 32, 97]⟩] 9)).cell? ⟨w.heap.size, i, none⟩ = some (.string (lineTs.getD i .empty)) := fun w => tlit w lineTs w.heap.size rfl i hi
  have HL1 : ∀ (w w3 : World), Below (w.alloc (.cells #[.string ⟨#[97]⟩, .string ⟨#[98]⟩, .string ⟨#[110, 61, 55]⟩, .string ⟨#[108, 118, 108, 61, 98, 32, 110, 61, 51]⟩, .string ⟨#[120, 49]⟩, .string ⟨#[]⟩, .string ⟨#[100, 117, 114, 61, 53, 109]⟩, .string ⟨#[101, 114, 114, 111, 114, 58, 32, 97]⟩] 9)).heap.size (w.alloc (.cells #[.string ⟨#[97]⟩, .string ⟨#[98]⟩, .string ⟨#[110, 61, 55]⟩, .string ⟨#[108, 118, 108, 61, 98, 32, 110, 61, 51]⟩, .string ⟨#[120, 49]⟩, .string ⟨#[]⟩, .string ⟨#[100, 117, 114, 61, 53, 109]⟩, .string ⟨#[101, 114, 114, 111, 114, 58, 32, 97]⟩] 9)) w3 → w3.cell? ⟨w.heap.size, i, none⟩ = some (.string (lineTs.getD i .empty)) := fun w w3 hb => (hb.cell (p := ⟨w.heap.size, i, none⟩) (by simp)).trans (HL0 w)
  have HL2 : ∀ (w w3 : World), Below (w.alloc (.cells #[.string ⟨#[97]⟩, .string ⟨#[98]⟩, .string ⟨#[110, 61, 55]⟩, .string ⟨#[108, 118, 108, 61, 98, 32, 110, 61, 51]⟩, .string ⟨#[120, 49]⟩, .string ⟨#[]⟩, .string ⟨#[100, 117, 114, 61, 53, 109]⟩, .string ⟨#[101, 114, 114, 111, 114, 58, 32, 97]⟩] 9)).drew.heap.size (w.alloc (.cells #[.string ⟨#[97]⟩, .string ⟨#[98]⟩, .string ⟨#[110, 61, 55]⟩, .string ⟨#[108, 118, 108, 61, 98, 32, 110, 61, 51]⟩, .string ⟨#[120, 49]⟩, .string ⟨#[]⟩, .string ⟨#[100, 117, 114, 61, 53, 109]⟩, .string ⟨#[101, 114, 114, 111, 114, 58, 32, 97]⟩] 9)).drew w3 → w3.cell? ⟨w.heap.size, i, none⟩ = some (.string (lineTs.getD i .empty)) := fun w w3 hb => HL1 w w3 ⟨hb.os, hb.tape, hb.output, hb.size, hb.block⟩
  obtain ⟨y, hy⟩ : ∃ y, lineTs.getD i .empty = y := ⟨_, rfl⟩
  simp only [hy] at HL0 HL1 HL2
  have HL := Lib.hid HL1
  have HLD := Lib.hid HL2
  clear HL1 HL2
  rw [hy]
  clear hy h1
  go_enter Tryz.func27, Tryz.ntmps27
  go_wp2
  obtain ⟨w1, hw1⟩ : ∃ w, (W.alloc (.cells #[.int .i64 ts, .slice A n c, .string ln, .bool true, .int .i8 t, .slice LA Ln Lc, .int .u8 (k : Int)] 53)).alloc (.cells #[.int .i64 0, .slice none 0 0, .string ⟨#[]⟩] 47) = w := ⟨_, rfl⟩
  have B1 : Blk w1 W.heap.size 53 #[.int .i64 ts, .slice A n c, .string ln, .bool true, .int .i8 t, .slice LA Ln Lc, .int .u8 (k : Int)] := by rw [← hw1]; exact (Blk.new W _ _).alloc _
  have B2 : Blk w1 (W.heap.size + 1) 47 #[.int .i64 0, .slice none 0 0, .string ⟨#[]⟩] := by rw [← hw1]; exact blk_next W _ _ _
  have hb1 : Below W.heap.size W w1 := by rw [← hw1]; exact ((Below.refl _ _).alloc (Nat.le_refl _) _).alloc (by simp) _
  rw [hw1]
  clear hw1
  have k4 : w1.cell? ⟨W.heap.size, 4, none⟩ = some (.int .i8 t) := (B1.cell 4).trans rfl
  have k5 : w1.cell? ⟨W.heap.size, 5, none⟩ = some (.slice LA Ln Lc) := (B1.cell 5).trans rfl
  have k6 : w1.cell? ⟨W.heap.size, 6, none⟩ = some (.int .u8 (k : Int)) := (B1.cell 6).trans rfl
  have lt1 := B1.lt
  have lt2 := B2.lt
  have HS := Lib.hid (fun (w w' : World) (hS : Below W.heap.size W w ∧ w.cell? ⟨W.heap.size, 4, none⟩ = some (.int .i8 t) ∧ w.cell? ⟨W.heap.size, 5, none⟩ = some (.slice LA Ln Lc) ∧ w.cell? ⟨W.heap.size, 6, none⟩ = some (.int .u8 (k : Int)) ∧ ∃ c0 c1 c2, Blk w (W.heap.size + 1) 47 #[c0, c1, c2]) (hx : Below w.heap.size w w') =>
    show Below W.heap.size W w' ∧ w'.cell? ⟨W.heap.size, 4, none⟩ = some (.int .i8 t) ∧ w'.cell? ⟨W.heap.size, 5, none⟩ = some (.slice LA Ln Lc) ∧ w'.cell? ⟨W.heap.size, 6, none⟩ = some (.int .u8 (k : Int)) ∧ ∃ c0 c1 c2, Blk w' (W.heap.size + 1) 47 #[c0, c1, c2] from by
      obtain ⟨hb, c1, c2, c3, v0, v1, v2, hB⟩ := hS
      have z1 := block_lt_of_cell c1
      exact ⟨hop hb (Nat.le_refl _) hx, (hx.cell (p := ⟨_, 4, none⟩) z1).trans c1, (hx.cell (p := ⟨_, 5, none⟩) z1).trans c2, (hx.cell (p := ⟨_, 6, none⟩) z1).trans c3, v0, v1, v2, hB.below hx hB.lt⟩)
  have HST := Lib.hid (fun (w : World) (u v x : Value) (hS : Below W.heap.size W w ∧ w.cell? ⟨W.heap.size, 4, none⟩ = some (.int .i8 t) ∧ w.cell? ⟨W.heap.size, 5, none⟩ = some (.slice LA Ln Lc) ∧ w.cell? ⟨W.heap.size, 6, none⟩ = some (.int .u8 (k : Int)) ∧ ∃ c0 c1 c2, Blk w (W.heap.size + 1) 47 #[c0, c1, c2]) =>
    show Below W.heap.size W (((w.setCell ⟨W.heap.size + 1, 0, none⟩ u).setCell ⟨W.heap.size + 1, 1, none⟩ v).setCell ⟨W.heap.size + 1, 2, none⟩ x) ∧ (((w.setCell ⟨W.heap.size + 1, 0, none⟩ u).setCell ⟨W.heap.size + 1, 1, none⟩ v).setCell ⟨W.heap.size + 1, 2, none⟩ x).cell? ⟨W.heap.size, 4, none⟩ = some (.int .i8 t) ∧ (((w.setCell ⟨W.heap.size + 1, 0, none⟩ u).setCell ⟨W.heap.size + 1, 1, none⟩ v).setCell ⟨W.heap.size + 1, 2, none⟩ x).cell? ⟨W.heap.size, 5, none⟩ = some (.slice LA Ln Lc) ∧ (((w.setCell ⟨W.heap.size + 1, 0, none⟩ u).setCell ⟨W.heap.size + 1, 1, none⟩ v).setCell ⟨W.heap.size + 1, 2, none⟩ x).cell? ⟨W.heap.size, 6, none⟩ = some (.int .u8 (k : Int)) ∧ ∃ c0 c1 c2, Blk (((w.setCell ⟨W.heap.size + 1, 0, none⟩ u).setCell ⟨W.heap.size + 1, 1, none⟩ v).setCell ⟨W.heap.size + 1, 2, none⟩ x) (W.heap.size + 1) 47 #[c0, c1, c2] from by
      obtain ⟨hb, c1, c2, c3, v0, v1, v2, hB⟩ := hS
      have far : ∀ (w : World) (i j : Nat) (u y : Value), w.cell? ⟨W.heap.size, i, none⟩ = some y → (w.setCell ⟨W.heap.size + 1, j, none⟩ u).cell? ⟨W.heap.size, i, none⟩ = some y := fun w i j u y h => by
        refine (World.cell?_of_block (Below.heap_setCell w ⟨W.heap.size + 1, j, none⟩ u W.heap.size ?_)).trans h
        simp
      refine ⟨((hb.setCell (by simp) _).setCell (by simp) _).setCell (by simp) _, far _ _ _ _ _ (far _ _ _ _ _ (far _ _ _ _ _ c1)), far _ _ _ _ _ (far _ _ _ _ _ (far _ _ _ _ _ c2)), far _ _ _ _ _ (far _ _ _ _ _ (far _ _ _ _ _ c3)), u, v, x, ((hB.set_ 0 u).set_ 1 v).set_ 2 x⟩)
  have HR := Lib.hid (fun (w3 : World) (c0 c1 c2 : Value) (B3 : Blk w3 (W.heap.size + 1) 47 #[c0, c1, c2]) => show w3.cell? ⟨W.heap.size + 1, 0, none⟩ = some c0 ∧ w3.cell? ⟨W.heap.size + 1, 1, none⟩ = some c1 ∧ w3.cell? ⟨W.heap.size + 1, 2, none⟩ = some c2 ∧ w3.frozen? ⟨W.heap.size + 1, 0, none⟩ = false ∧ w3.frozen? ⟨W.heap.size + 1, 1, none⟩ = false ∧ w3.frozen? ⟨W.heap.size + 1, 2, none⟩ = false ∧ ∀ o : Obj, (w3.alloc o).cell? ⟨W.heap.size + 1, 0, none⟩ = some c0 ∧ (w3.alloc o).cell? ⟨W.heap.size + 1, 1, none⟩ = some c1 ∧ (w3.alloc o).cell? ⟨W.heap.size + 1, 2, none⟩ = some c2 ∧ (w3.alloc o).frozen? ⟨W.heap.size + 1, 0, none⟩ = false ∧ (w3.alloc o).frozen? ⟨W.heap.size + 1, 1, none⟩ = false ∧ (w3.alloc o).frozen? ⟨W.heap.size + 1, 2, none⟩ = false from
    ⟨(B3.cell 0).trans rfl, (B3.cell 1).trans rfl, (B3.cell 2).trans rfl, B3.frozen 0, B3.frozen 1, B3.frozen 2, fun o => ⟨((B3.alloc o).cell 0).trans rfl, ((B3.alloc o).cell 1).trans rfl, ((B3.alloc o).cell 2).trans rfl, (B3.alloc o).frozen 0, (B3.alloc o).frozen 1, (B3.alloc o).frozen 2⟩⟩)
  have hS1 : Below W.heap.size W w1 ∧ w1.cell? ⟨W.heap.size, 4, none⟩ = some (.int .i8 t) ∧ w1.cell? ⟨W.heap.size, 5, none⟩ = some (.slice LA Ln Lc) ∧ w1.cell? ⟨W.heap.size, 6, none⟩ = some (.int .u8 (k : Int)) ∧ ∃ c0 c1 c2, Blk w1 (W.heap.size + 1) 47 #[c0, c1, c2] := ⟨hb1, k4, k5, k6, _, _, _, B2⟩
  have hS0 := HS.out w1 w1.drew hS1 ((Below.refl _ _).drew)
  clear B1 B2 lt1 lt2
  refine wp_region_held_drew (S := fun w' => Below W.heap.size W w' ∧ w'.cell? ⟨W.heap.size, 4, none⟩ = some (.int .i8 t) ∧ w'.cell? ⟨W.heap.size, 5, none⟩ = some (.slice LA Ln Lc) ∧ w'.cell? ⟨W.heap.size, 6, none⟩ = some (.int .u8 (k : Int)) ∧ ∃ c0 c1 c2, Blk w' (W.heap.size + 1) 47 #[c0, c1, c2]) (by kernel_rfl) hS0 (fun hHeld => ?_)
  refine wpAnyH_take (i := 0) (v := ?_) rfl (by kernel_rfl) (by kernel_rfl) (by kernel_rfl) (fun _ _ _ h => h) (Or.inl ⟨by rfl, ?_⟩) (by assumption) ?_
  rotate_left
  · intro w hSw
    (try dsimp only at hSw)
    go_split_ands
    first | (go_simp; done) | (go_simp; with_reducible rfl)
  try simp only [Act.put, List.setIfInBounds_toArray, List.set_cons_zero, List.set_cons_succ]
  refine wpAnyH_take (i := 1) (v := ?_) rfl (by kernel_rfl) (by kernel_rfl) (by kernel_rfl) (fun _ _ _ h => h) (Or.inl ⟨by rfl, ?_⟩) (by assumption) ?_
  rotate_left
  · intro w hSw
    (try dsimp only at hSw)
    go_split_ands
    first | (go_simp; done) | (go_simp; with_reducible rfl)
  try simp only [Act.put, List.setIfInBounds_toArray, List.set_cons_zero, List.set_cons_succ]
  refine wpAnyH_take (i := 2) (v := ?_) rfl (by kernel_rfl) (by kernel_rfl) (by kernel_rfl) (fun _ _ _ h => h) (Or.inl ⟨by rfl, ?_⟩) (by assumption) ?_
  rotate_left
  · intro w hSw
    (try dsimp only at hSw)
    go_split_ands
    first | (go_simp; done) | (go_simp; with_reducible rfl)
  try simp only [Act.put, List.setIfInBounds_toArray, List.set_cons_zero, List.set_cons_succ]
  refine wpAnyH_take (i := 3) (v := ?_) rfl (by kernel_rfl) (by kernel_rfl) (by kernel_rfl) (fun _ _ _ h => h) (Or.inl ⟨by rfl, ?_⟩) (by assumption) ?_
  rotate_left
  · intro w hSw
    (try dsimp only at hSw)
    go_split_ands
    first | (go_simp; done) | (go_simp; with_reducible rfl)
  try simp only [Act.put, List.setIfInBounds_toArray, List.set_cons_zero, List.set_cons_succ]
  refine wpAnyH_take (i := 4) (v := ?_) rfl (by kernel_rfl) (by kernel_rfl) (by kernel_rfl) (fun _ _ _ h => h) (Or.inl ⟨by rfl, ?_⟩) (by assumption) ?_
  rotate_left
  · intro w hSw
    (try dsimp only at hSw)
    go_split_ands
    first | (go_simp; done) | (go_simp; with_reducible rfl)
  try simp only [Act.put, List.setIfInBounds_toArray, List.set_cons_zero, List.set_cons_succ]
  refine wpAnyH_take (i := 5) (v := ?_) rfl (by kernel_rfl) (by kernel_rfl) (by kernel_rfl) (fun _ _ _ h => h) (Or.inl ⟨by rfl, ?_⟩) (by assumption) ?_
  rotate_left
  · intro w hSw
    (try dsimp only at hSw)
    go_split_ands
    first | (go_simp; done) | (go_simp; with_reducible rfl)
  try simp only [Act.put, List.setIfInBounds_toArray, List.set_cons_zero, List.set_cons_succ]
  refine wpAnyH_take (i := 8) (v := ?_) rfl (by kernel_rfl) (by kernel_rfl) (by kernel_rfl) (fun _ _ _ h => h) (Or.inl ⟨by rfl, ?_⟩) (by assumption) ?_
  rotate_left
  · intro w hSw
    (try dsimp only at hSw)
    go_split_ands
    first | (go_simp; done) | (go_simp; with_reducible rfl)
  try simp only [Act.put, List.setIfInBounds_toArray, List.set_cons_zero, List.set_cons_succ]
  refine wpAnyH_take (i := 9) (v := ?_) rfl (by kernel_rfl) (by kernel_rfl) (by kernel_rfl) (fun _ _ _ h => h) (Or.inl ⟨by rfl, ?_⟩) (by assumption) ?_
  rotate_left
  · intro w hSw
    (try dsimp only at hSw)
    go_split_ands
    first | (go_simp; done) | (go_simp; with_reducible rfl)
  try simp only [Act.put, List.setIfInBounds_toArray, List.set_cons_zero, List.set_cons_succ]
  refine wpAnyH_take (i := 10) (v := ?_) rfl (by kernel_rfl) (by kernel_rfl) (by kernel_rfl) (fun _ _ _ h => h) (Or.inl ⟨by rfl, ?_⟩) (by assumption) ?_
  rotate_left
  · intro w hSw
    (try dsimp only at hSw)
    go_split_ands
    first | (go_simp; done) | (go_simp; with_reducible rfl)
  try simp only [Act.put, List.setIfInBounds_toArray, List.set_cons_zero, List.set_cons_succ]
  refine wpAnyH_ready (rs := [6, 7]) (by kernel_rfl) (by simp) ?_
  refine AllReadyH.cons rfl (fun K hK => ?_) ?_
  · go_simp
    go_at_call 57
    refine (FW.out _ hS0.1).mono ?_
    rintro e w3 ⟨A', n', c', rfl, hn3, hs3, hb3⟩
    have HN3 := Lib.hid hn3
    clear hn3
    have S3 := HS.out _ _ hS0 hb3
    refine hK.out _ _ S3 (fun _ => ?_)
    clear hK K
    try simp only [Act.put, List.setIfInBounds_toArray, List.set_cons_zero, List.set_cons_succ]
    refine wpAnyH_ready (rs := [7]) (by kernel_rfl) (by simp) ?_
    refine AllReadyH.cons rfl (fun K hK => ?_) ?_
    · go_simp
      have S4 := HS.out _ _ S3 ((Below.refl w3.heap.size w3).alloc (Nat.le_refl _) (.cells #[.string ⟨#[97]⟩, .string ⟨#[98]⟩, .string ⟨#[110, 61, 55]⟩, .string ⟨#[108, 118, 108, 61, 98, 32, 110, 61, 51]⟩, .string ⟨#[120, 49]⟩, .string ⟨#[]⟩, .string ⟨#[100, 117, 114, 61, 53, 109]⟩, .string ⟨#[101, 114, 114, 111, 114, 58, 32, 97]⟩] 9))
      refine hK.out _ _ S4 (fun _ => ?_)
      clear hK K
      try simp only [Act.put, List.setIfInBounds_toArray, List.set_cons_zero, List.set_cons_succ]
      refine wpAnyH_mono (S2 := fun w' => (Below W.heap.size W w' ∧ w'.cell? ⟨W.heap.size, 4, none⟩ = some (.int .i8 t) ∧ w'.cell? ⟨W.heap.size, 5, none⟩ = some (.slice LA Ln Lc) ∧ w'.cell? ⟨W.heap.size, 6, none⟩ = some (.int .u8 (k : Int)) ∧ ∃ c0 c1 c2, Blk w' (W.heap.size + 1) 47 #[c0, c1, c2]) ∧ w'.cell? ⟨w3.heap.size, i, none⟩ = some (.string y)) (fun w h => h.1) _ _ _ _ ?_
      have S6 : (Below W.heap.size W (w3.alloc (.cells #[.string ⟨#[97]⟩, .string ⟨#[98]⟩, .string ⟨#[110, 61, 55]⟩, .string ⟨#[108, 118, 108, 61, 98, 32, 110, 61, 51]⟩, .string ⟨#[120, 49]⟩, .string ⟨#[]⟩, .string ⟨#[100, 117, 114, 61, 53, 109]⟩, .string ⟨#[101, 114, 114, 111, 114, 58, 32, 97]⟩] 9)) ∧ (w3.alloc (.cells #[.string ⟨#[97]⟩, .string ⟨#[98]⟩, .string ⟨#[110, 61, 55]⟩, .string ⟨#[108, 118, 108, 61, 98, 32, 110, 61, 51]⟩, .string ⟨#[120, 49]⟩, .string ⟨#[]⟩, .string ⟨#[100, 117, 114, 61, 53, 109]⟩, .string ⟨#[101, 114, 114, 111, 114, 58, 32, 97]⟩] 9)).cell? ⟨W.heap.size, 4, none⟩ = some (.int .i8 t) ∧ (w3.alloc (.cells #[.string ⟨#[97]⟩, .string ⟨#[98]⟩, .string ⟨#[110, 61, 55]⟩, .string ⟨#[108, 118, 108, 61, 98, 32, 110, 61, 51]⟩, .string ⟨#[120, 49]⟩, .string ⟨#[]⟩, .string ⟨#[100, 117, 114, 61, 53, 109]⟩, .string ⟨#[101, 114, 114, 111, 114, 58, 32, 97]⟩] 9)).cell? ⟨W.heap.size, 5, none⟩ = some (.slice LA Ln Lc) ∧ (w3.alloc (.cells #[.string ⟨#[97]⟩, .string ⟨#[98]⟩, .string ⟨#[110, 61, 55]⟩, .string ⟨#[108, 118, 108, 61, 98, 32, 110, 61, 51]⟩, .string ⟨#[120, 49]⟩, .string ⟨#[]⟩, .string ⟨#[100, 117, 114, 61, 53, 109]⟩, .string ⟨#[101, 114, 114, 111, 114, 58, 32, 97]⟩] 9)).cell? ⟨W.heap.size, 6, none⟩ = some (.int .u8 (k : Int)) ∧ ∃ c0 c1 c2, Blk (w3.alloc (.cells #[.string ⟨#[97]⟩, .string ⟨#[98]⟩, .string ⟨#[110, 61, 55]⟩, .string ⟨#[108, 118, 108, 61, 98, 32, 110, 61, 51]⟩, .string ⟨#[120, 49]⟩, .string ⟨#[]⟩, .string ⟨#[100, 117, 114, 61, 53, 109]⟩, .string ⟨#[101, 114, 114, 111, 114, 58, 32, 97]⟩] 9)) (W.heap.size + 1) 47 #[c0, c1, c2]) ∧ (w3.alloc (.cells #[.string ⟨#[97]⟩, .string ⟨#[98]⟩, .string ⟨#[110, 61, 55]⟩, .string ⟨#[108, 118, 108, 61, 98, 32, 110, 61, 51]⟩, .string ⟨#[120, 49]⟩, .string ⟨#[]⟩, .string ⟨#[100, 117, 114, 61, 53, 109]⟩, .string ⟨#[101, 114, 114, 111, 114, 58, 32, 97]⟩] 9)).cell? ⟨w3.heap.size, i, none⟩ = some (.string y) := ⟨S4, HL0 w3⟩
      refine wpAnyH_take (i := 11) (v := ?_) rfl (by kernel_rfl) (by kernel_rfl) (by kernel_rfl) (fun _ _ _ h => h) (Or.inl ⟨by rfl, ?_⟩) (by assumption) ?_
      rotate_left
      · intro w hSw
        (try dsimp only at hSw)
        go_split_ands
        first | (go_simp; done) | (go_simp; with_reducible rfl)
      try simp only [Act.put, List.setIfInBounds_toArray, List.set_cons_zero, List.set_cons_succ]
      refine wpAnyH_take (i := 12) (v := ?_) rfl (by kernel_rfl) (by kernel_rfl) (by kernel_rfl) (fun _ _ _ h => h) (Or.inl ⟨by rfl, ?_⟩) (by assumption) ?_
      rotate_left
      · intro w hSw
        (try dsimp only at hSw)
        go_split_ands
        first | (go_simp; done) | (go_simp; with_reducible rfl)
      try simp only [Act.put, List.setIfInBounds_toArray, List.set_cons_zero, List.set_cons_succ]
      refine wpAnyH_take (i := 13) (v := ?_) rfl (by kernel_rfl) (by kernel_rfl) (by kernel_rfl) (fun _ _ _ h => h) (Or.inl ⟨by rfl, ?_⟩) (by assumption) ?_
      rotate_left
      · intro w hSw
        (try dsimp only at hSw)
        go_split_ands
        first | (go_simp; done) | (go_simp; with_reducible rfl)
      try simp only [Act.put, List.setIfInBounds_toArray, List.set_cons_zero, List.set_cons_succ]
      obtain ⟨⟨sb, s4, s5, s6, c0, c1, c2, B3⟩, sl⟩ := S6
      obtain ⟨q0, q1, q2, f0, f1, f2, _⟩ := HR.out _ _ _ _ B3
      have B4 := ((B3.set_ 0 (.int .i64 z)).set_ 1 (.slice A' n' c')).set_ 2 (.string y)
      have hb4 : Below W.heap.size W _ := ((sb.setCell (p := ⟨W.heap.size + 1, 0, none⟩) (by simp) (.int .i64 z)).setCell (p := ⟨W.heap.size + 1, 1, none⟩) (by simp) (.slice A' n' c')).setCell (p := ⟨W.heap.size + 1, 2, none⟩) (by simp) (.string y)
      have hs4 : ∀ B, SetAt B (w3.alloc (.cells #[.string ⟨#[97]⟩, .string ⟨#[98]⟩, .string ⟨#[110, 61, 55]⟩, .string ⟨#[108, 118, 108, 61, 98, 32, 110, 61, 51]⟩, .string ⟨#[120, 49]⟩, .string ⟨#[]⟩, .string ⟨#[100, 117, 114, 61, 53, 109]⟩, .string ⟨#[101, 114, 114, 111, 114, 58, 32, 97]⟩] 9)) A' n' (fewL lt) := fun B => (hs3 B).below ((Below.refl w3.heap.size w3).alloc (Nat.le_refl _) _)
      have hs5 : ∀ B, SetAt B ((((w3.alloc (.cells #[.string ⟨#[97]⟩, .string ⟨#[98]⟩, .string ⟨#[110, 61, 55]⟩, .string ⟨#[108, 118, 108, 61, 98, 32, 110, 61, 51]⟩, .string ⟨#[120, 49]⟩, .string ⟨#[]⟩, .string ⟨#[100, 117, 114, 61, 53, 109]⟩, .string ⟨#[101, 114, 114, 111, 114, 58, 32, 97]⟩] 9)).setCell ⟨W.heap.size + 1, 0, none⟩ (.int .i64 z)).setCell ⟨W.heap.size + 1, 1, none⟩ (.slice A' n' c')).setCell ⟨W.heap.size + 1, 2, none⟩ (.string y)) A' n' (fewL lt) := fun B => by
        have gr : ∀ (w : World) (i : Nat) (u : Value), w.grownBy (w.setCell ⟨W.heap.size + 1, i, none⟩ u) (some (W.heap.size + 1)) := fun w i u => ⟨rfl, rfl, rfl, by simp, fun k hk hne => Below.heap_setCell w ⟨W.heap.size + 1, i, none⟩ u k (fun e => hne (by rw [e]))⟩
        have hB := B3
        refine ((((hs4 0).grown (gr _ 0 _) ?_).grown (gr _ 1 _) ?_).grown (gr _ 2 _) ?_).mono (Nat.zero_le _)
        · intro b hb; injection hb with hb; subst hb; exact ⟨Nat.zero_le _, _, _, ent_not_pair, B3⟩
        · intro b hb; injection hb with hb; subst hb; exact ⟨Nat.zero_le _, _, _, ent_not_pair, B3.set_ 0 _⟩
        · intro b hb; injection hb with hb; subst hb; exact ⟨Nat.zero_le _, _, _, ent_not_pair, (B3.set_ 0 _).set_ 1 _⟩
      have S7 := HST.out _ (.int .i64 z) (.slice A' n' c') (.string y) ⟨sb, s4, s5, s6, c0, c1, c2, B3⟩
      have far : ∀ (w : World) (i j : Nat) (u y : Value), w.cell? ⟨w3.heap.size, i, none⟩ = some y → (w.setCell ⟨W.heap.size + 1, j, none⟩ u).cell? ⟨w3.heap.size, i, none⟩ = some y := fun w i j u y h => by
        refine (World.cell?_of_block (Below.heap_setCell w ⟨W.heap.size + 1, j, none⟩ u (w3.heap.size) ?_)).trans h
        have hlt : W.heap.size + 1 < w3.heap.size := (by obtain ⟨_, _, _, _, _, _, _, B⟩ := S3; exact B.lt)
        show w3.heap.size ≠ W.heap.size + 1
        omega
      have HLS := Lib.hid (far _ _ 2 (.string y) _ (far _ _ 1 (.slice A' n' c') _ (far _ _ 0 (.int .i64 z) _ sl)))
      have HB4 := Lib.hid B4
      have Hb4 := Lib.hid hb4
      have HS5 := Lib.hid hs5
      clear B4 hb4 hs4 hs5 far sl
      refine wpAnyH_ready (rs := [14]) (by kernel_rfl) (by simp) ?_
      refine AllReadyH.cons rfl (fun K hK => ?_) ?_
      · go_simp
        refine hK.out _ _ ⟨S7, HLS.out⟩ (fun _ => ?_)
        clear hK K
        try simp only [Act.put, List.setIfInBounds_toArray, List.set_cons_zero, List.set_cons_succ]
        refine wpAnyH_done (by kernel_rfl) ?_ _
        go_wp2
        refine bodyPost_ret (results_cell_row rfl _ _ (W.heap.size + 1) 47 #[.int .i64 z, .slice A' n' c', .string y] (0, 0) _ rfl HB4.out Tryz.underlying47 rfl (by kernel_rfl)) rfl ?_
        exact ⟨A', n', c', rfl, HN3.out, HS5.out, Hb4.out⟩
      · exact AllReadyH.nil
    · exact AllReadyH.nil
  · refine AllReadyH.cons rfl (fun K hK => ?_) ?_
    · go_simp
      have S3 := HS.out _ _ hS1 (((Below.refl w1.heap.size w1).alloc (Nat.le_refl _) (.cells #[.string ⟨#[97]⟩, .string ⟨#[98]⟩, .string ⟨#[110, 61, 55]⟩, .string ⟨#[108, 118, 108, 61, 98, 32, 110, 61, 51]⟩, .string ⟨#[120, 49]⟩, .string ⟨#[]⟩, .string ⟨#[100, 117, 114, 61, 53, 109]⟩, .string ⟨#[101, 114, 114, 111, 114, 58, 32, 97]⟩] 9)).drew)
      refine hK.out _ _ S3 (fun _ => ?_)
      clear hK K
      try simp only [Act.put, List.setIfInBounds_toArray, List.set_cons_zero, List.set_cons_succ]
      refine wpAnyH_mono (S2 := fun w' => (Below W.heap.size W w' ∧ w'.cell? ⟨W.heap.size, 4, none⟩ = some (.int .i8 t) ∧ w'.cell? ⟨W.heap.size, 5, none⟩ = some (.slice LA Ln Lc) ∧ w'.cell? ⟨W.heap.size, 6, none⟩ = some (.int .u8 (k : Int)) ∧ ∃ c0 c1 c2, Blk w' (W.heap.size + 1) 47 #[c0, c1, c2]) ∧ w'.cell? ⟨w1.heap.size, i, none⟩ = some (.string y)) (fun w h => h.1) _ _ _ _ ?_
      have S6 : (Below W.heap.size W ((w1.alloc (.cells #[.string ⟨#[97]⟩, .string ⟨#[98]⟩, .string ⟨#[110, 61, 55]⟩, .string ⟨#[108, 118, 108, 61, 98, 32, 110, 61, 51]⟩, .string ⟨#[120, 49]⟩, .string ⟨#[]⟩, .string ⟨#[100, 117, 114, 61, 53, 109]⟩, .string ⟨#[101, 114, 114, 111, 114, 58, 32, 97]⟩] 9)).drew) ∧ ((w1.alloc (.cells #[.string ⟨#[97]⟩, .string ⟨#[98]⟩, .string ⟨#[110, 61, 55]⟩, .string ⟨#[108, 118, 108, 61, 98, 32, 110, 61, 51]⟩, .string ⟨#[120, 49]⟩, .string ⟨#[]⟩, .string ⟨#[100, 117, 114, 61, 53, 109]⟩, .string ⟨#[101, 114, 114, 111, 114, 58, 32, 97]⟩] 9)).drew).cell? ⟨W.heap.size, 4, none⟩ = some (.int .i8 t) ∧ ((w1.alloc (.cells #[.string ⟨#[97]⟩, .string ⟨#[98]⟩, .string ⟨#[110, 61, 55]⟩, .string ⟨#[108, 118, 108, 61, 98, 32, 110, 61, 51]⟩, .string ⟨#[120, 49]⟩, .string ⟨#[]⟩, .string ⟨#[100, 117, 114, 61, 53, 109]⟩, .string ⟨#[101, 114, 114, 111, 114, 58, 32, 97]⟩] 9)).drew).cell? ⟨W.heap.size, 5, none⟩ = some (.slice LA Ln Lc) ∧ ((w1.alloc (.cells #[.string ⟨#[97]⟩, .string ⟨#[98]⟩, .string ⟨#[110, 61, 55]⟩, .string ⟨#[108, 118, 108, 61, 98, 32, 110, 61, 51]⟩, .string ⟨#[120, 49]⟩, .string ⟨#[]⟩, .string ⟨#[100, 117, 114, 61, 53, 109]⟩, .string ⟨#[101, 114, 114, 111, 114, 58, 32, 97]⟩] 9)).drew).cell? ⟨W.heap.size, 6, none⟩ = some (.int .u8 (k : Int)) ∧ ∃ c0 c1 c2, Blk ((w1.alloc (.cells #[.string ⟨#[97]⟩, .string ⟨#[98]⟩, .string ⟨#[110, 61, 55]⟩, .string ⟨#[108, 118, 108, 61, 98, 32, 110, 61, 51]⟩, .string ⟨#[120, 49]⟩, .string ⟨#[]⟩, .string ⟨#[100, 117, 114, 61, 53, 109]⟩, .string ⟨#[101, 114, 114, 111, 114, 58, 32, 97]⟩] 9)).drew) (W.heap.size + 1) 47 #[c0, c1, c2]) ∧ ((w1.alloc (.cells #[.string ⟨#[97]⟩, .string ⟨#[98]⟩, .string ⟨#[110, 61, 55]⟩, .string ⟨#[108, 118, 108, 61, 98, 32, 110, 61, 51]⟩, .string ⟨#[120, 49]⟩, .string ⟨#[]⟩, .string ⟨#[100, 117, 114, 61, 53, 109]⟩, .string ⟨#[101, 114, 114, 111, 114, 58, 32, 97]⟩] 9)).drew).cell? ⟨w1.heap.size, i, none⟩ = some (.string y) := ⟨S3, HL0 w1⟩
      refine wpAnyH_take (i := 11) (v := ?_) rfl (by kernel_rfl) (by kernel_rfl) (by kernel_rfl) (fun _ _ _ h => h) (Or.inl ⟨by rfl, ?_⟩) (by assumption) ?_
      rotate_left
      · intro w hSw
        (try dsimp only at hSw)
        go_split_ands
        first | (go_simp; done) | (go_simp; with_reducible rfl)
      try simp only [Act.put, List.setIfInBounds_toArray, List.set_cons_zero, List.set_cons_succ]
      refine wpAnyH_take (i := 12) (v := ?_) rfl (by kernel_rfl) (by kernel_rfl) (by kernel_rfl) (fun _ _ _ h => h) (Or.inl ⟨by rfl, ?_⟩) (by assumption) ?_
      rotate_left
      · intro w hSw
        (try dsimp only at hSw)
        go_split_ands
        first | (go_simp; done) | (go_simp; with_reducible rfl)
      try simp only [Act.put, List.setIfInBounds_toArray, List.set_cons_zero, List.set_cons_succ]
      refine wpAnyH_ready (rs := [6]) (by kernel_rfl) (by simp) ?_
      refine AllReadyH.cons rfl (fun K hK => ?_) AllReadyH.nil
      go_simp
      go_at_call 57
      refine (FW.out _ S3.1).mono ?_
      rintro e w3 ⟨A', n', c', rfl, hn3, hs3, hb3⟩
      have HN3 := Lib.hid hn3
      clear hn3
      have S4 := HS.out _ _ S3 hb3
      have l4 := HLD.out _ _ hb3
      clear S6
      have S6 : (Below W.heap.size W w3 ∧ w3.cell? ⟨W.heap.size, 4, none⟩ = some (.int .i8 t) ∧ w3.cell? ⟨W.heap.size, 5, none⟩ = some (.slice LA Ln Lc) ∧ w3.cell? ⟨W.heap.size, 6, none⟩ = some (.int .u8 (k : Int)) ∧ ∃ c0 c1 c2, Blk w3 (W.heap.size + 1) 47 #[c0, c1, c2]) ∧ w3.cell? ⟨w1.heap.size, i, none⟩ = some (.string y) := ⟨S4, l4⟩
      refine hK.out _ _ S6 (fun _ => ?_)
      clear hK K
      try simp only [Act.put, List.setIfInBounds_toArray, List.set_cons_zero, List.set_cons_succ]
      refine wpAnyH_take (i := 13) (v := ?_) rfl (by kernel_rfl) (by kernel_rfl) (by kernel_rfl) (fun _ _ _ h => h) (Or.inl ⟨by rfl, ?_⟩) (by assumption) ?_
      rotate_left
      · intro w hSw
        (try dsimp only at hSw)
        go_split_ands
        first | (go_simp; done) | (go_simp; with_reducible rfl)
      try simp only [Act.put, List.setIfInBounds_toArray, List.set_cons_zero, List.set_cons_succ]
      obtain ⟨⟨sb, s4, s5, s6, c0, c1, c2, B3⟩, sl⟩ := S6
      obtain ⟨q0, q1, q2, f0, f1, f2, _⟩ := HR.out _ _ _ _ B3
      have B4 := ((B3.set_ 0 (.int .i64 z)).set_ 1 (.slice A' n' c')).set_ 2 (.string y)
      have hb4 : Below W.heap.size W _ := ((sb.setCell (p := ⟨W.heap.size + 1, 0, none⟩) (by simp) (.int .i64 z)).setCell (p := ⟨W.heap.size + 1, 1, none⟩) (by simp) (.slice A' n' c')).setCell (p := ⟨W.heap.size + 1, 2, none⟩) (by simp) (.string y)
      have hs4 : ∀ B, SetAt B w3 A' n' (fewL lt) := hs3
      have hs5 : ∀ B, SetAt B (((w3.setCell ⟨W.heap.size + 1, 0, none⟩ (.int .i64 z)).setCell ⟨W.heap.size + 1, 1, none⟩ (.slice A' n' c')).setCell ⟨W.heap.size + 1, 2, none⟩ (.string y)) A' n' (fewL lt) := fun B => by
        have gr : ∀ (w : World) (i : Nat) (u : Value), w.grownBy (w.setCell ⟨W.heap.size + 1, i, none⟩ u) (some (W.heap.size + 1)) := fun w i u => ⟨rfl, rfl, rfl, by simp, fun k hk hne => Below.heap_setCell w ⟨W.heap.size + 1, i, none⟩ u k (fun e => hne (by rw [e]))⟩
        have hB := B3
        refine ((((hs4 0).grown (gr _ 0 _) ?_).grown (gr _ 1 _) ?_).grown (gr _ 2 _) ?_).mono (Nat.zero_le _)
        · intro b hb; injection hb with hb; subst hb; exact ⟨Nat.zero_le _, _, _, ent_not_pair, B3⟩
        · intro b hb; injection hb with hb; subst hb; exact ⟨Nat.zero_le _, _, _, ent_not_pair, B3.set_ 0 _⟩
        · intro b hb; injection hb with hb; subst hb; exact ⟨Nat.zero_le _, _, _, ent_not_pair, (B3.set_ 0 _).set_ 1 _⟩
      have S7 := HST.out _ (.int .i64 z) (.slice A' n' c') (.string y) ⟨sb, s4, s5, s6, c0, c1, c2, B3⟩
      have far : ∀ (w : World) (i j : Nat) (u y : Value), w.cell? ⟨w1.heap.size, i, none⟩ = some y → (w.setCell ⟨W.heap.size + 1, j, none⟩ u).cell? ⟨w1.heap.size, i, none⟩ = some y := fun w i j u y h => by
        refine (World.cell?_of_block (Below.heap_setCell w ⟨W.heap.size + 1, j, none⟩ u (w1.heap.size) ?_)).trans h
        have hlt : W.heap.size + 1 < w1.heap.size := (by obtain ⟨_, _, _, _, _, _, _, B⟩ := hS1; exact B.lt)
        show w1.heap.size ≠ W.heap.size + 1
        omega
      have HLS := Lib.hid (far _ _ 2 (.string y) _ (far _ _ 1 (.slice A' n' c') _ (far _ _ 0 (.int .i64 z) _ sl)))
      have HB4 := Lib.hid B4
      have Hb4 := Lib.hid hb4
      have HS5 := Lib.hid hs5
      clear B4 hb4 hs4 hs5 far sl
      refine wpAnyH_ready (rs := [14]) (by kernel_rfl) (by simp) ?_
      refine AllReadyH.cons rfl (fun K hK => ?_) ?_
      · go_simp
        refine hK.out _ _ ⟨S7, HLS.out⟩ (fun _ => ?_)
        clear hK K
        try simp only [Act.put, List.setIfInBounds_toArray, List.set_cons_zero, List.set_cons_succ]
        refine wpAnyH_done (by kernel_rfl) ?_ _
        go_wp2
        refine bodyPost_ret (results_cell_row rfl _ _ (W.heap.size + 1) 47 #[.int .i64 z, .slice A' n' c', .string y] (0, 0) _ rfl HB4.out Tryz.underlying47 rfl (by kernel_rfl)) rfl ?_
        exact ⟨A', n', c', rfl, HN3.out, HS5.out, Hb4.out⟩
      · exact AllReadyH.nil
    · exact AllReadyH.nil

end Go.Proofs.YtdaainifkldcpaaGreatDoor
namespace Go.Proofs.YtdaainifkldcpaaGreatDoor
open Go.RowKit
set_option linter.unusedVariables false
set_option linter.unusedSimpArgs false
theorem fewL_len (lt : List TagB) : (fewL lt).length ≤ 2 := by
  have h1 : (ofL (few2L lt)).length ≤ (few2L lt).length := by
    unfold ofL lastsL
    refine Nat.le_trans (keptTo_len _ _) ?_
    rw [sortL_length]
    exact List.length_filter_le _ _
  have h2 := tagsL_len (lt.map ownT) 2
  unfold fewL
  unfold few2L at h1 ⊢
  omega
theorem wrap_i8' (n : Int) : IntKind.i8.wrap n = (n + 128) % 256 - 128 := by
  simp [IntKind.wrap, IntKind.bits, IntKind.signed]
  split <;> omega
theorem item_any (B : Nat) (x : ItemX) (W : World) (h : GoodI B W x) :
    Calls Tryz.prog 27 #[x.val] W fun e w' => ∃ y : EntX, e = .returned y.val ∧ y.b = itemB x ∧ Good B w' y ∧ Below W.heap.size W w' := by
  obtain ⟨⟨ts, A, n, c, ls, ln⟩, own, t, LA, Ln, Lc, lt, k⟩ := x
  cases own with
  | false =>
    refine (item_as ts A n c ln t LA Ln Lc k W).mono ?_
    rintro e w' ⟨rfl, hb⟩
    exact ⟨⟨ts, A, n, c, ls, ln⟩, rfl, rfl, h.ent.below hb, hb⟩
  | true =>
    have h1 := h.lo
    have h2 := h.hi
    have h3 := h.line
    dsimp only at h1 h2 h3
    have hz : -11 ≤ t.tmod 12 ∧ t.tmod 12 ≤ 11 := by
      rcases Int.le_total 0 t with g | g
      · rw [Int.tmod_eq_emod_of_nonneg g]; omega
      · have e : t.tmod 12 = -((-t) % 12) := by
          rw [← Int.tmod_eq_emod_of_nonneg (by omega), Int.neg_tmod, Int.neg_neg]
        rw [e]; omega
    refine (item_own ts A n c ln t LA Ln Lc k (k % 8) lt _ W rfl (by rw [wrap_i8']; omega) (by rw [IntKind.wrap_i64]; omega) (by omega) (by rw [Int.tmod_eq_emod_of_nonneg (by omega)]; omega) h.tags h.len).mono ?_
    rintro e w' ⟨A', n', c', rfl, hn, hs, hb⟩
    have hl := fewL_len lt
    exact ⟨⟨t.tmod 12, A', n', c', fewL lt, lineTs.getD (k % 8) .empty⟩, rfl, rfl, ⟨hs B, by show n' ≤ _; omega, by show _ ≤ t.tmod 12; omega, by show t.tmod 12 ≤ _; omega⟩, hb⟩
def ItemX.V (x : ItemX) : List Value := [.int .i64 x.e.ts, .slice x.e.A x.e.n x.e.c, .string x.e.ln, .bool x.own, .int .i8 x.t, .slice x.LA x.Ln x.Lc, .int .u8 (x.k : Int)]
def inil : ItemX := ⟨xnil, false, 0, none, 0, 0, [], 0⟩
def ItemsP (B : Nat) (w : World) (A : Option Addr) (n : Nat) (l : List ItemX) : Prop := RowR ItemX.V 7 w A n l ∧ ∀ x ∈ l, GoodI B w x
theorem ItemsP.below {B : Nat} {w w' : World} {A : Option Addr} {n : Nat} {l : List ItemX} (h : ItemsP B w A n l) (hb : Below w.heap.size w w') : ItemsP B w' A n l := ⟨h.1.below hb, fun x hx => (h.2 x hx).below hb⟩
theorem ItemsP.mono {B B' : Nat} {w : World} {A : Option Addr} {n : Nat} {l : List ItemX} (h : ItemsP B w A n l) (hB : B ≤ B') : ItemsP B' w A n l := ⟨h.1, fun x hx => (h.2 x hx).mono hB⟩
theorem ItemsP.at_ {B : Nat} {w : World} {A : Option Addr} {n : Nat} {l : List ItemX} (h : ItemsP B w A n l) (hn : 0 < n) : ∃ b off, A = some ⟨b, off, none⟩ ∧ b < w.heap.size ∧ ∀ j, j < n →
    (w.cell? ⟨b, off + j * 7, none⟩ = some (.int .i64 (l.getD j inil).e.ts) ∧ w.cell? ⟨b, off + j * 7 + 1, none⟩ = some (.slice (l.getD j inil).e.A (l.getD j inil).e.n (l.getD j inil).e.c) ∧ w.cell? ⟨b, off + j * 7 + 2, none⟩ = some (.string (l.getD j inil).e.ln) ∧
     w.cell? ⟨b, off + j * 7 + 3, none⟩ = some (.bool (l.getD j inil).own) ∧ w.cell? ⟨b, off + j * 7 + 4, none⟩ = some (.int .i8 (l.getD j inil).t) ∧ w.cell? ⟨b, off + j * 7 + 5, none⟩ = some (.slice (l.getD j inil).LA (l.getD j inil).Ln (l.getD j inil).Lc) ∧ w.cell? ⟨b, off + j * 7 + 6, none⟩ = some (.int .u8 ((l.getD j inil).k : Int))) ∧ GoodI B w (l.getD j inil) := by
  obtain ⟨b, off, e, hlt, hc⟩ := h.1.2 hn
  refine ⟨b, off, e, hlt, fun j hj => ?_⟩
  have hg : l[j]? = some (l.getD j inil) := by
    have := h.1.1
    rw [List.getD_eq_getElem?_getD, List.getElem?_eq_getElem (by omega)]
    rfl
  exact ⟨⟨hc j 0 _ hg (by decide), hc j 1 _ hg (by decide), hc j 2 _ hg (by decide), hc j 3 _ hg (by decide), hc j 4 _ hg (by decide), hc j 5 _ hg (by decide), hc j 6 _ hg (by decide)⟩, h.2 _ (List.mem_of_getElem? hg)⟩
def itemsB (l : List ItemX) (most : Nat) : List EntB := (l.take most).map itemB
theorem itemsB_next (l : List ItemX) (j : Nat) (hj : j < l.length) : itemsB l (j + 1) = itemsB l j ++ [itemB (l.getD j inil)] := by
  unfold itemsB
  rw [List.take_succ_eq_append_getElem hj, List.map_append, List.getD_eq_getElem?_getD, List.getElem?_eq_getElem hj]
  rfl
theorem itemsB_len (l : List ItemX) (most : Nat) : (itemsB l most).length ≤ most := by
  unfold itemsB
  rw [List.length_map, List.length_take]
  omega
theorem infoEnt : (Tryz.prog.info? 47).map (fun i => (i.zero, i.size, i.bytes)) = some (some (.agg #[.int .i64 0, .slice none 0 0, .string ⟨#[]⟩]), 3, 48) := by kernel_rfl
set_option maxRecDepth 100000 in
set_option maxHeartbeats 1600000 in
theorem items_any (B : Nat) (A : Option Addr) (n c most : Nat) (l : List ItemX) (hn : n ≤ 9223372036854775807) (hm : most ≤ 1000000) (W : World) (hB : B ≤ W.heap.size) (h1 : ItemsP B W A n l) :
    Calls Tryz.prog 28 #[.slice A n c, .int .i64 (most : Int)] W fun e w' => ∃ v L, e = .returned v ∧ OwnE B w' W.heap.size v L ∧ L.map EntX.b = itemsB l most ∧ Below W.heap.size W w' := by
  have h0 : W.heap.size ≤ W.heap.size := Nat.le_refl _
  obtain ⟨i0, hi, hz0, hz1, hz2⟩ := info_parts infoEnt
  have H1 := Lib.hid h1
  have LN := Lib.hid (itemsB_len l)
  have NX := Lib.hid (itemsB_next l)
  clear h1
  go_enter Tryz.func28, Tryz.ntmps28
  go_wp2
  go_loopw [5, 6] (fun sv iv wr => ∃ (j : Nat) (L : List EntX), j ≤ n ∧ j ≤ most ∧ iv = .int .i64 j ∧ Hid (L.map EntX.b = itemsB l j) ∧ OwnE B wr W.heap.size sv L ∧ Below W.heap.size W wr) (fun _ iv _ => most - (intOf iv).toNat)
  case atStart => exact ⟨0, [], Nat.zero_le _, Nat.zero_le _, rfl, Lib.hid rfl, OwnE.nil _ _ _, Below.refl _ _⟩
  case round =>
    obtain ⟨j, L, hjn, hjm, rfl, HLB, hown, hb⟩ := hrel
    have hsz := hb.size
    by_cases hj : j < n ∧ j < most
    · obtain ⟨g1, g2⟩ := hj
      have h2 := H1.out.below hb
      obtain ⟨b1, o1, rfl, hlt1, hc1⟩ := h2.at_ (by omega)
      obtain ⟨⟨c1, c2, c3, c4, c5, c6, c7⟩, gI⟩ := hc1 j g1
      have hjl : j < l.length := by rw [h2.1.1]; exact g1
      have hks := NX.out j hjl
      have hLl : L.length ≤ most := by
        have h3 := congrArg List.length HLB.out
        rw [List.length_map] at h3
        have := LN.out j
        omega
      obtain ⟨x, hx⟩ : ∃ p, l.getD j inil = p := ⟨_, rfl⟩
      rw [hx] at c1 c2 c3 c4 c5 c6 c7 hks gI
      have IT := fun w (h : Below wr.heap.size wr w) => item_any B x w (gI.below h)
      obtain ⟨⟨ts, eA, en, ec, els, eln⟩, own, t, LA, Ln, Lc, lt, k⟩ := x
      dsimp only at c1 c2 c3 c4 c5 c6 c7
      dsimp only [ItemX.val] at IT
      have hjI : (j : Int) < (n : Int) := by omega
      have hjM : (j : Int) < (most : Int) := by omega
      obtain ⟨bx, hbx⟩ : ∃ b, itemB ⟨⟨ts, eA, en, ec, els, eln⟩, own, t, LA, Ln, Lc, lt, k⟩ = b := ⟨_, rfl⟩
      rw [hbx] at hks
      simp only [hbx] at IT
      replace IT := Lib.hid IT
      have HKS := Lib.hid hks
      have HOW := Lib.hid hown
      clear hks hx hc1 h2 hjl gI hbx hown
      go_wp2_with fail
      refine (IT.out _ (Below.refl _ _)).mono ?_
      rintro e w2 ⟨y, rfl, hy, gy, hx⟩
      have hb2 := hop hb h0 hx
      have ho2 := HOW.out.below hx
      have hs2 := hb2.size
      have HY := Lib.hid hy
      obtain ⟨yt, yA, yn, yc, yl, ys⟩ := y
      dsimp only [EntX.val]
      have HGY := Lib.hid gy
      have HO2 := Lib.hid ho2
      clear hx c1 c2 c3 c4 c5 c6 c7 hb gy hy ho2
      go_wp2_with (at_builtin; refine wpList_append_own _ rfl (.tmp 18) (.tmp 24) 64 rfl W.heap.size 47 i0 (.agg #[.int .i64 0, .slice none 0 0, .string ⟨#[]⟩]) 3 48 Tryz.underlying64 hi hz0 hz1 hz2 rfl (by decide) _ _ _ rfl (OwnR.alloc HO2.out.1 _) ⟨w2.heap.size, 0, none⟩ 1 1 (EntX.V ⟨yt, yA, yn, yc, yl, ys⟩) rfl rfl (new_cells_at _ _ _ _ (by simp)) (entV_one _) (by unfold maxLen; omega) (by omega) (by simp; omega) ?_)
      intro v' w3 hown' hgrow _
      have hb3 := (hb2.alloc hs2 _).grown hgrow (by simp; omega) (fun r hr => (World.ownsRow.lt HO2.out.1 r hr).1)
      have hown3 := OwnE.snoc (HO2.out.alloc _) (HGY.out.below ((Below.refl _ _).alloc (Nat.le_refl _) _)) (Nat.le_trans hB h0) hgrow hown'
      have hmap : (L ++ [(⟨yt, yA, yn, yc, yl, ys⟩ : EntX)]).map EntX.b = itemsB l (j + 1) := by
        rw [List.map_append, HLB.out, HKS.out, ← HY.out]
        rfl
      have HMAP := Lib.hid hmap
      have HO3 := Lib.hid hown3
      clear hown' hgrow hmap hown3
      go_wp2
      go_round
      case rel => exact ⟨j + 1, _, by omega, by omega, by go_num, HMAP, HO3.out, hb3⟩
      case measure => simp [intOf]; omega
    · have hends : (¬ (j : Int) < (n : Int)) ∨ ((j : Int) < (n : Int) ∧ ¬ (j : Int) < (most : Int)) := by omega
      have hfin : itemsB l most = itemsB l j := by
        rcases (by omega : j = most ∨ j = n) with e | e
        · rw [e]
        · unfold itemsB
          rw [List.take_of_length_le (by rw [H1.out.1.1]; omega), List.take_of_length_le (by rw [H1.out.1.1]; omega)]
      have HF := Lib.hid hfin
      have HOW := Lib.hid hown
      clear hfin hj hown
      rcases hends with e1 | ⟨e1, e2⟩
      all_goals
        go_wp2
        go_ret
        exact ⟨_, rfl, L, HOW.out, by rw [HF.out]; exact HLB.out, hb⟩
end Go.Proofs.YtdaainifkldcpaaGreatDoor
