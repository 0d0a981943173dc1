-- shaken
import Derived.Test.YtdaainifkldcpaaGreatDoorFanNew
import Derived.Test.YtdaainifkldcpaaGreatDoorMem
namespace Go.Proofs.YtdaainifkldcpaaGreatDoor
open Go.RowKit
set_option linter.unusedVariables false
set_option linter.unusedSimpArgs false
theorem lsx_len (x : LsX) : x.V.length = 1 := rfl
theorem lsx_one (x : LsX) : ∀ u ∈ x.V, u.oneCell' = true := by
  intro u hu
  rw [List.mem_singleton.1 hu]
  rfl
theorem infoEl : (Tryz.prog.info? 64).map (fun i => (i.zero, i.size, i.bytes)) = some (some (.slice none 0 0), 1, 24) := by kernel_rfl
theorem infoEnF : (Tryz.prog.info? 47).map (fun i => (i.zero, i.size, i.bytes)) = some (some (.agg #[.int .i64 0, .slice none 0 0, .string ⟨#[]⟩]), 3, 48) := by kernel_rfl
theorem blk_ne {w : World} {b T T' : Nat} {cs cur : Array Value} (h : Blk w b T cs) (h2 : w.heap[b]? = some (.cells cur T' (0, 0))) (hT : T' ≠ T) : False := by
  unfold Blk at h
  rw [h] at h2
  injection h2 with h2
  injection h2 with _ h2 _
  exact hT h2.symm
theorem cells_ne {w : World} {b T T' : Nat} {cs cur : Array Value} (h : w.heap[b]? = some (.cells cs T (0, 0))) (h2 : w.heap[b]? = some (.cells cur T' (0, 0))) (hT : T' ≠ T) : False := blk_ne h h2 hT
theorem OwnE.grewT {w w' : World} {B : Nat} {v : Value} {l : List EntX} {r : Option Nat} (h : OwnE 0 w B v l) (hg : w.grownBy w' r) (hr : ∀ b, r = some b → v.ownBlock ≠ some b ∧ ∃ cur t, t ≠ 165 ∧ w.heap[b]? = some (.cells cur t (0, 0))) : OwnE 0 w' B v l :=
  ⟨OwnR.grew2 h.1 hg (fun b hb e => (hr b e).1 hb), fun x hx => (h.2 x hx).grown hg (fun b e => ⟨Nat.zero_le _, (hr b e).2⟩)⟩
def ownX (w : World) (G : Nat) (x : LsX) : Prop := OwnE 0 w G (.slice x.A x.n x.c) x.l
structure AskSt (G g7 : Nat) (w : World) (lv ev : Value) (ls : List LsX) (EE : List EntX) : Prop where
  told : Blk w g7 120 #[lv, .int .i64 ((totL ls : Nat) : Int), ev]
  lists : OwnR LsX.V 1 w G 64 lv ls
  ends : OwnE 0 w G ev EE
  each : ∀ x ∈ ls, ownX w G x
  apart : ∀ x ∈ ls, ∀ g, (Value.slice x.A x.n x.c).ownBlock = some g → ev.ownBlock ≠ some g
theorem AskSt.below {G g7 : Nat} {w w' : World} {lv ev : Value} {ls : List LsX} {EE : List EntX} (h : AskSt G g7 w lv ev ls EE) (hb : Below w.heap.size w w') : AskSt G g7 w' lv ev ls EE :=
  ⟨h.told.below hb h.told.lt, OwnR.below h.lists hb, h.ends.below hb, fun x hx => OwnE.below (h.each x hx) hb, h.apart⟩
theorem rep_not_list : 140 ≠ 64 := by decide
theorem rep_not_ans : 140 ≠ 120 := by decide
theorem AskSt.fg {G g7 b : Nat} {w w' : World} {lv ev : Value} {ls : List LsX} {EE : List EntX} {cur : Array Value} (h : AskSt G g7 w lv ev ls EE) (hf : Se.FG b w w') (hb : Blk w b 140 cur) : AskSt G g7 w' lv ev ls EE :=
  ⟨h.told.fg hf (blk_apart h.told hb rep_not_ans), OwnR.fgT h.lists hf hb rep_not_list, h.ends.fgT hf (Nat.zero_le _) hb rep_not_ent rep_not_pair, fun x hx => OwnE.fgT (h.each x hx) hf (Nat.zero_le _) hb rep_not_ent rep_not_pair, h.apart⟩
theorem AskSt.add {G g7 : Nat} {w w1 w2 : World} {lv lv2 ev : Value} {ls : List LsX} {EE : List EntX} (h : AskSt G g7 w lv ev ls EE) (x : LsX) (hx : ownX w G x) (hap : ∀ g, (Value.slice x.A x.n x.c).ownBlock = some g → ev.ownBlock ≠ some g)
    (hb : Below w.heap.size w w1) (hg : w1.grownBy w2 lv.ownBlock) (hown : w2.ownsRow G 64 1 lv2 (ls.length + 1) (rowV LsX.V ls ++ x.V)) :
    AskSt G g7 ((w2.setCell ⟨g7, 0, none⟩ lv2).setCell ⟨g7, 1, none⟩ (.int .i64 ((totL (ls ++ [x]) : Nat) : Int))) lv2 ev (ls ++ [x]) EE := by
  have h1 := h.below hb
  have hol := own_row_type h1.lists
  have far : ∀ (v : Value) (l : List EntX), OwnE 0 w1 G v l → ∀ b, lv.ownBlock = some b → v.ownBlock ≠ some b ∧ ∃ cur t, t ≠ 165 ∧ w1.heap[b]? = some (.cells cur t (0, 0)) := fun v l ho b e => by
    obtain ⟨_, cur, hc⟩ := hol b e
    refine ⟨fun e2 => ?_, cur, _, (by decide), hc⟩
    obtain ⟨_, cur2, hc2⟩ := own_row_type ho.1 b e2
    exact cells_ne hc hc2 (by decide)
  have t2 : Blk w2 g7 120 #[lv, .int .i64 ((totL ls : Nat) : Int), ev] := (hg.block g7 h1.told.lt (fun e => by
    obtain ⟨_, cur, hc⟩ := hol g7 e.symm
    exact blk_ne h1.told hc (by decide))).trans h1.told
  have e2 := h1.ends.grewT hg (far _ _ h1.ends)
  have k1 := t2.set_ 0 lv2
  have f1 : Se.FG g7 w2 ((w2.setCell ⟨g7, 0, none⟩ lv2).setCell ⟨g7, 1, none⟩ (.int .i64 ((totL (ls ++ [x]) : Nat) : Int))) := (Se.FG.set_ 0 _).trans (Se.FG.set_ 1 _)
  refine ⟨k1.set_ 1 _, OwnR.fgT (OwnR.snoc hown) f1 t2 (by decide), e2.fgT f1 (Nat.zero_le _) t2 (by decide) (by decide), fun y hy => ?_, fun y hy => ?_⟩
  · rcases List.mem_append.1 hy with hy | hy
    · exact ((h1.each y hy).grewT hg (far _ _ (h1.each y hy))).fgT f1 (Nat.zero_le _) t2 (by decide) (by decide)
    · rw [List.mem_singleton.1 hy]
      have hx1 := OwnE.below hx hb
      exact (hx1.grewT hg (far _ _ hx1)).fgT f1 (Nat.zero_le _) t2 (by decide) (by decide)
  · rcases List.mem_append.1 hy with hy | hy
    · exact h.apart y hy
    · rw [List.mem_singleton.1 hy]
      exact hap
theorem AskSt.fin {G g7 g2 : Nat} {w w1 w2 : World} {lv ev ev2 : Value} {ls : List LsX} {EE : List EntX} (h : AskSt G g7 w lv ev ls EE) (u : EntX) (hu : Good 0 w u)
    (hb : Below w.heap.size w w1) (hg : w1.grownBy w2 ev.ownBlock) (hown : w2.ownsRow G 47 3 ev2 (EE.length + 1) (rowV EntX.V EE ++ u.V)) (he2 : ev2.ownBlock = some g2) (hnew : ev.ownBlock = some g2 ∨ g2 = w1.heap.size) :
    AskSt G g7 (w2.setCell ⟨g7, 2, none⟩ ev2) lv ev2 ls (EE ++ [u]) := by
  have h1 := h.below hb
  have hol := own_row_type h1.ends.1
  have t2 : Blk w2 g7 120 #[lv, .int .i64 ((totL ls : Nat) : Int), ev] := (hg.block g7 h1.told.lt (fun e => by
    obtain ⟨_, cur, hc⟩ := hol g7 e.symm
    exact blk_ne h1.told hc (by decide))).trans h1.told
  have f1 : Se.FG g7 w2 (w2.setCell ⟨g7, 2, none⟩ ev2) := Se.FG.set_ 2 _
  have en := OwnE.snoc h1.ends (hu.below hb) (Nat.zero_le _) hg hown
  refine ⟨t2.set_ 2 _, OwnR.fgT (OwnR.grew2 h1.lists hg (fun b e1 e2 => ?_)) f1 t2 (by decide), en.fgT f1 (Nat.zero_le _) t2 (by decide) (by decide), fun y hy => ?_, fun y hy g hgy e => ?_⟩
  · obtain ⟨_, cur, hc⟩ := hol b e2
    obtain ⟨_, cur2, hc2⟩ := own_row_type h1.lists b e1
    exact cells_ne hc hc2 (by decide)
  · refine OwnE.fgT (OwnE.grewT (h1.each y hy) hg (fun b e => ?_)) f1 (Nat.zero_le _) t2 (by decide) (by decide)
    obtain ⟨_, cur, hc⟩ := hol b e
    exact ⟨fun e2 => h.apart y hy b e2 e, cur, _, ent_not_pair, hc⟩
  · rw [he2] at e
    injection e with e
    subst e
    rcases hnew with e3 | e3
    · exact h.apart y hy _ hgy e3
    · have h5 := (World.ownsRow.lt (h1.each y hy).1 _ hgy).2
      omega
theorem AskSt.grownX {G g7 : Nat} {w w2 : World} {lv ev : Value} {ls : List LsX} {EE : List EntX} (h : AskSt G g7 w lv ev ls EE) (hg : w.grownBy w2 ev.ownBlock) : ∀ x ∈ ls, ownX w2 G x := fun y hy => by
  refine OwnE.grewT (h.each y hy) hg (fun b e => ?_)
  obtain ⟨_, cur, hc⟩ := own_row_type h.ends.1 b e
  exact ⟨fun e2 => h.apart y hy b e2 e, cur, _, ent_not_pair, hc⟩
theorem AskSt.other {G g7 g T : Nat} {w w1 w2 : World} {lv ev : Value} {ls : List LsX} {EE : List EntX} {cs : Array Value} (h : AskSt G g7 w lv ev ls EE) (hk : Blk w g T cs) (hb : Below w.heap.size w w1) (hg : w1.grownBy w2 lv.ownBlock) (hT : 64 ≠ T) : Blk w2 g T cs :=
  (hg.block g (hk.below hb hk.lt).lt (fun e => by
    obtain ⟨_, cur, hc⟩ := own_row_type (h.below hb).lists g e.symm
    exact blk_ne (hk.below hb hk.lt) hc hT)).trans (hk.below hb hk.lt)
theorem AskSt.other2 {G g7 g T : Nat} {w w1 w2 : World} {lv ev : Value} {ls : List LsX} {EE : List EntX} {cs : Array Value} (h : AskSt G g7 w lv ev ls EE) (hk : Blk w g T cs) (hb : Below w.heap.size w w1) (hg : w1.grownBy w2 ev.ownBlock) (hT : 47 ≠ T) : Blk w2 g T cs :=
  (hg.block g (hk.below hb hk.lt).lt (fun e => by
    obtain ⟨_, cur, hc⟩ := own_row_type (h.below hb).ends.1 g e.symm
    exact blk_ne (hk.below hb hk.lt) hc hT)).trans (hk.below hb hk.lt)
structure OkX (B1 : Nat) (M : Value) (T : List PairB → Bool) (AO : World → Prop) (x : ReplX) : Prop where
  k : x.k ≤ 1000000
  s : x.S.length ≤ 100000
  l : x.L.length ≤ 1000
  right : ∀ y ∈ x.L, rightE y.b = true
  most : (replyOf x).most ≤ 9223372036854775807
  low : B1 ≤ x.b
  test : TestP x.b M T AO
theorem totL_app (ls : List LsX) (x : LsX) : totL (ls ++ [x]) = totL ls + x.n := by
  unfold totL
  rw [List.map_append, List.sum_append]
  simp
theorem tellX_len (T : List PairB → Bool) (a : AskB) (x : ReplX) : (tellX T a x).length ≤ x.L.length := by
  unfold tellX tellL metL
  refine Nat.le_trans (List.length_take_le' _ _) (Nat.le_trans (List.length_filter_le _ _) ?_)
  rw [dirL_len, List.length_map]
  exact Nat.le_refl _
def AskR (B B1 G f : Nat) (Bs : List Nat) (W : World) (Rs : List ReplX) (ord : List Nat) (rv ov : Value) (T : List PairB → Bool) (AO : World → Prop) (a : AskX) (e : Ending) (w' : World) : Prop :=
  ∃ lv ev ls EE, e = .returned (.agg #[lv, .int .i64 ((totL ls : Nat) : Int), ev]) ∧ OwnR LsX.V 1 w' G 64 lv ls ∧ (∀ x ∈ ls, ownX w' G x) ∧ OwnE 0 w' G ev EE ∧ ls.map (fun x => x.l.map EntX.b) = tellsX T a.b (orderX Rs ord) ∧ EE.map EntX.b = endsX T a.b (orderX Rs ord) ∧ totL ls ≤ 4000 ∧ ∃ u, GhostF B G Bs W u w' f (askedL Rs ord ord.length) ord rv ov AO B1 a.af
set_option maxRecDepth 100000 in
set_option maxHeartbeats 3200000 in
theorem fanAsk_any (B B1 f : Nat) (Bs : List Nat) (Rs : List ReplX) (ord : List Nat) (rv ov : Value) (ad : Addr) (T : List PairB → Bool) (AO : World → Prop) (a : AskX) (hn : Rs.length ≤ 4) (hord : OrdP Rs.length ord) (hok : ∀ x ∈ Rs, OkX B1 (.pointer (some ad)) T AO x) (hbs : ∀ x ∈ Rs, x.b ∈ Bs) (har : askR a.b = true) (hlm : a.lim ≤ 9223372036854775807) (W : World) (h : FanP B W f Rs ord rv ov) (hao : AO W) (ha : Good B1 W a.af) :
    Calls Tryz.prog 38 #[.pointer (some ⟨f, 0, none⟩), .agg a.V.toArray, .pointer (some ad)] W fun e w' => AskR B B1 W.heap.size f Bs W Rs ord rv ov T AO a e w' := by
  obtain ⟨lo, hi, asc, lim, has, ⟨ats, aA, an, ac, als, aln⟩⟩ := a
  obtain ⟨i0, hinf, hi0, hi1, hi2⟩ := info_parts infoEl
  obtain ⟨j0, hjnf, hj0, hj1, hj2⟩ := info_parts infoEnF
  dsimp only at hlm ha
  have hlim : 1 ≤ lim := by
    have h1 := har
    unfold askR at h1
    rw [Bool.and_eq_true, decide_eq_true_iff, decide_eq_true_iff] at h1
    exact h1.2
  obtain ⟨m, hm⟩ : ∃ m, ord.length = m := ⟨_, rfl⟩
  have hm4 : m ≤ 4 := by rw [← hm]; exact Nat.le_trans hord.len hn
  obtain ⟨OA, oc, hov, _, _, hprow⟩ := OwnR.open placeV_len h.plc
  rw [hm] at hov hprow
  subst hov
  obtain ⟨RA, rc, hrv⟩ := OwnR.shape h.row
  rw [List.length_map] at hrv
  obtain ⟨N, hN⟩ : ∃ N, Rs.length = N := ⟨_, rfl⟩
  rw [hN] at hrv hn
  subst hrv
  obtain ⟨G, hG⟩ : ∃ G, W.heap.size = G := ⟨_, rfl⟩
  have hfG : f < G := by rw [← hG]; exact h.blk.lt
  have HB1 : Below W.heap.size W (W.alloc (.cells #[.int .i64 lo, .int .i64 hi, .bool asc, .int .i64 lim, .bool has, .int .i64 ats, .slice aA an ac, .string aln] 49)) := (Below.refl _ _).alloc (Nat.le_refl _) _
  have K1 : Blk (W.alloc (.cells #[.int .i64 lo, .int .i64 hi, .bool asc, .int .i64 lim, .bool has, .int .i64 ats, .slice aA an ac, .string aln] 49)) G 49 #[.int .i64 lo, .int .i64 hi, .bool asc, .int .i64 lim, .bool has, .int .i64 ats, .slice aA an ac, .string aln] := by rw [← hG]; exact Blk.new _ _ _
  obtain ⟨w1, hw1⟩ : ∃ z, W.alloc (.cells #[.int .i64 lo, .int .i64 hi, .bool asc, .int .i64 lim, .bool has, .int .i64 ats, .slice aA an ac, .string aln] 49) = z := ⟨_, rfl⟩
  have z1 : w1.heap.size = G + 1 := by rw [← hw1, ← hG]; simp
  rw [hw1] at HB1 K1
  have HB2 : Below w1.heap.size w1 (w1.alloc (.cells #[.slice none 0 0, .int .i64 0, .slice none 0 0] 120)) := (Below.refl _ _).alloc (Nat.le_refl _) _
  have K2 : Blk (w1.alloc (.cells #[.slice none 0 0, .int .i64 0, .slice none 0 0] 120)) (G + 1) 120 #[.slice none 0 0, .int .i64 0, .slice none 0 0] := by rw [← z1]; exact Blk.new _ _ _
  obtain ⟨w2, hw2⟩ : ∃ z, w1.alloc (.cells #[.slice none 0 0, .int .i64 0, .slice none 0 0] 120) = z := ⟨_, rfl⟩
  have z2 : w2.heap.size = G + 2 := by rw [← hw2]; simp [z1]
  rw [hw2] at HB2 K2
  have HB3 : Below w2.heap.size w2 (w2.alloc (.cells #[.slice none 0 0, .int .i64 0, .slice none 0 0] 120)) := (Below.refl _ _).alloc (Nat.le_refl _) _
  have K3 : Blk (w2.alloc (.cells #[.slice none 0 0, .int .i64 0, .slice none 0 0] 120)) (G + 2) 120 #[.slice none 0 0, .int .i64 0, .slice none 0 0] := by rw [← z2]; exact Blk.new _ _ _
  obtain ⟨w3, hw3⟩ : ∃ z, w2.alloc (.cells #[.slice none 0 0, .int .i64 0, .slice none 0 0] 120) = z := ⟨_, rfl⟩
  rw [hw3] at HB3 K3
  have HBA := hop (hop HB1 (Nat.le_refl _) HB2) (Nat.le_refl _) HB3
  obtain ⟨g6, hg6⟩ : ∃ g, G + 1 = g := ⟨_, rfl⟩
  obtain ⟨g7, hg7⟩ : ∃ g, G + 2 = g := ⟨_, rfl⟩
  have KA := Lib.hid (show Blk w3 G 49 #[.int .i64 lo, .int .i64 hi, .bool asc, .int .i64 lim, .bool has, .int .i64 ats, .slice aA an ac, .string aln] from by exact (K1.below HB2 K1.lt).below HB3 (K1.below HB2 K1.lt).lt)
  have K6 := Lib.hid (show Blk w3 g6 120 #[.slice none 0 0, .int .i64 0, .slice none 0 0] from by rw [← hg6]; exact K2.below HB3 K2.lt)
  have ST := Lib.hid (show AskSt G g7 w3 (.slice none 0 0) (.slice none 0 0) [] [] from by
    rw [← hg7]
    exact ⟨K3, OwnR.nil _ _ _, OwnE.nil _ _ _, (fun x hx => by cases hx), (fun x hx => by cases hx)⟩)
  have GH := Lib.hid (show GhostF B G Bs W W w3 f (askedL Rs ord 0) ord (.slice RA N rc) (.slice OA m oc) AO B1 ⟨ats, aA, an, ac, als, aln⟩ from by
    have h1 := GhostF.start (B := B) Bs h hao ha
    rw [hG] at h1
    exact h1.more (by rw [hG] at HBA; exact HBA))
  have n67 : g6 ≠ g7 := by omega
  have nA7 : G ≠ g7 := by omega
  have G7 : G ≤ g7 := by omega
  have G6 : G ≤ g6 := by omega
  have fo_ : W.cell? ⟨f, 1, none⟩ = some (.slice OA m oc) := (h.blk.cell 1).trans rfl
  have fl_ : (((W.alloc (.cells #[.int .i64 lo, .int .i64 hi, .bool asc, .int .i64 lim, .bool has, .int .i64 ats, .slice aA an ac, .string aln] 49)).alloc (.cells #[.slice none 0 0, .int .i64 0, .slice none 0 0] 120)).alloc (.cells #[.slice none 0 0, .int .i64 0, .slice none 0 0] 120)).cell? ⟨f, 1, none⟩ = some (.slice OA m oc) := by
    rw [hw1, hw2, hw3]
    exact (((h.blk.below HBA h.blk.lt)).cell 1).trans rfl
  have HOK := Lib.hid hok
  have HBS := Lib.hid hbs
  have HORD := Lib.hid hord
  have LNR := Lib.hid hN
  have LNM := Lib.hid hm
  have HAR := Lib.hid har
  have SAL := Lib.hid hw1
  have SAL2 := Lib.hid hw2
  have SAL3 := Lib.hid hw3
  have HGG := Lib.hid hG
  have HZ1 := Lib.hid z1
  have HZ2 := Lib.hid z2
  have Hg6 := Lib.hid hg6
  have Hg7 := Lib.hid (show g6 + 1 = g7 by omega)
  clear h hao ha hok hbs hord har hprow HB1 HB2 HB3 HBA K1 K2 K3 hw1 hw2 hw3 hG hN hm z1 z2 hg6 hg7
  show Calls Tryz.prog 38 #[.pointer (some ⟨f, 0, none⟩), .agg #[.int .i64 lo, .int .i64 hi, .bool asc, .int .i64 lim, .bool has, .int .i64 ats, .slice aA an ac, .string aln], .pointer (some ad)] W _
  go_enter Tryz.func38, Tryz.ntmps38
  go_wp2
  go_loopw [18] (fun iv wr => ∃ (j : Nat) (u : World) (lv ev : Value) (ls : List LsX) (EE : List EntX), j ≤ m ∧ iv = .int .i64 (j : Nat) ∧ ls.length ≤ j ∧ EE.length ≤ j ∧ totL ls ≤ 1000 * j ∧ Hid (GhostF B G Bs W u wr f (askedL Rs ord j) ord (.slice RA N rc) (.slice OA m oc) AO B1 ⟨ats, aA, an, ac, als, aln⟩) ∧ Hid (AskSt G g7 wr lv ev ls EE) ∧ Hid (Blk wr G 49 #[.int .i64 lo, .int .i64 hi, .bool asc, .int .i64 lim, .bool has, .int .i64 ats, .slice aA an ac, .string aln]) ∧ Hid (Blk wr g6 120 #[.slice none 0 0, .int .i64 0, .slice none 0 0]) ∧ Hid (ls.map (fun x => x.l.map EntX.b) = tellsX T (AskX.b ⟨lo, hi, asc, lim, has, ⟨ats, aA, an, ac, als, aln⟩⟩) (orderX Rs (ord.take j))) ∧ Hid (EE.map EntX.b = endsX T (AskX.b ⟨lo, hi, asc, lim, has, ⟨ats, aA, an, ac, als, aln⟩⟩) (orderX Rs (ord.take j)))) (fun iv _ => m - (intOf iv).toNat)
  case atStart =>
    refine ⟨0, W, .slice none 0 0, .slice none 0 0, [], [], Nat.zero_le _, rfl, Nat.le_refl _, Nat.le_refl _, Nat.le_refl _, ?_, ?_, ?_, ?_, Lib.hid rfl, Lib.hid rfl⟩
    all_goals (try simp only [SAL.out, HGG.out, HZ1.out, HZ2.out, SAL2.out, SAL3.out, Hg6.out, Hg7.out]); assumption
  case round =>
    clear GH ST KA K6 fo_ fl_
    obtain ⟨j, u, lv, ev, ls, EE, hjm, rfl, hl1, hl2, hl3, GH, ST, KA, K6, EQ, EQE⟩ := hrel
    (try simp only [SAL.out, HGG.out, HZ1.out, HZ2.out, SAL2.out, SAL3.out, Hg6.out, Hg7.out])
    by_cases hj : j < m
    ·
      have jI : (j : Int) < (m : Int) := by omega
      obtain ⟨i, hi⟩ : ∃ i, ord[j]? = some i := ⟨_, List.getElem?_eq_getElem (by rw [LNM.out]; exact hj)⟩
      have hiN := HORD.out.low i (List.mem_of_getElem? hi)
      rw [LNR.out] at hiN
      obtain ⟨x, hx⟩ : ∃ x, Rs[i]? = some x := ⟨_, List.getElem?_eq_getElem (by rw [LNR.out]; exact hiN)⟩
      have hxj := asked_at HORD.out.once hi hx
      have OKX := Lib.hid (HOK.out x (List.mem_of_getElem? hx))
      have HJ := Lib.hid hi
      have HXR := Lib.hid hx
      have HXJ := Lib.hid hxj
      have NXO := Lib.hid (order_next hi hx)
      obtain ⟨pb, hOA, pl_⟩ := GH.out.plc hi
      subst hOA
      obtain ⟨rb, hRA, _⟩ := GH.out.ptr hxj
      subst hRA
      have iI : (i : Int) < (N : Int) := by omega
      clear hi hx hxj
      have SP := Lib.hid (show ∀ (Xs : List ReplX) (u w : World) (y : ReplX), GhostF B G Bs W u w f Xs ord (.slice (some ⟨rb, 0, none⟩) N rc) (.slice (some ⟨pb, 0, none⟩) m oc) AO B1 ⟨ats, aA, an, ac, als, aln⟩ → Blk w G 49 #[.int .i64 lo, .int .i64 hi, .bool asc, .int .i64 lim, .bool has, .int .i64 ats, .slice aA an ac, .string aln] → Xs[i]? = some y → y.b = x.b → (fun w' : World => w'.cell? ⟨f, 0, none⟩ = some (.slice (some ⟨rb, 0, none⟩) N rc) ∧ w'.cell? ⟨rb, i, none⟩ = some (.pointer (some ⟨x.b, 0, none⟩)) ∧ w'.cell? ⟨G, 0, none⟩ = some (.int .i64 lo) ∧ w'.cell? ⟨G, 1, none⟩ = some (.int .i64 hi) ∧ w'.cell? ⟨G, 2, none⟩ = some (.bool asc) ∧ w'.cell? ⟨G, 3, none⟩ = some (.int .i64 lim) ∧ w'.cell? ⟨G, 4, none⟩ = some (.bool has) ∧ w'.cell? ⟨G, 5, none⟩ = some (.int .i64 ats) ∧ w'.cell? ⟨G, 6, none⟩ = some (.slice aA an ac) ∧ w'.cell? ⟨G, 7, none⟩ = some (.string aln) ∧ True) w from fun Xs u w y hg ka hy hb => by
        obtain ⟨rb2, e, hc⟩ := hg.ptr hy
        injection e with e
        injection e with e _ _
        subst e
        rw [hb] at hc
        exact ⟨(hg.blk.cell 0).trans rfl, hc, (ka.cell 0).trans rfl, (ka.cell 1).trans rfl, (ka.cell 2).trans rfl, (ka.cell 3).trans rfl, (ka.cell 4).trans rfl, (ka.cell 5).trans rfl, (ka.cell 6).trans rfl, (ka.cell 7).trans rfl, trivial⟩)
      obtain ⟨wd, hwd⟩ : ∃ z, wr.drew = z := ⟨_, rfl⟩
      have hbd : Below wr.heap.size wr wd := by rw [← hwd]; exact (Below.refl _ _).drew
      replace GH := Lib.hid (GH.out.more2 hbd)
      replace ST := Lib.hid (ST.out.below hbd)
      replace KA := Lib.hid (KA.out.below hbd KA.out.lt)
      replace K6 := Lib.hid (K6.out.below hbd K6.out.lt)
      have SPd : (fun w' : World => w'.cell? ⟨f, 0, none⟩ = some (.slice (some ⟨rb, 0, none⟩) N rc) ∧ w'.cell? ⟨rb, i, none⟩ = some (.pointer (some ⟨x.b, 0, none⟩)) ∧ w'.cell? ⟨G, 0, none⟩ = some (.int .i64 lo) ∧ w'.cell? ⟨G, 1, none⟩ = some (.int .i64 hi) ∧ w'.cell? ⟨G, 2, none⟩ = some (.bool asc) ∧ w'.cell? ⟨G, 3, none⟩ = some (.int .i64 lim) ∧ w'.cell? ⟨G, 4, none⟩ = some (.bool has) ∧ w'.cell? ⟨G, 5, none⟩ = some (.int .i64 ats) ∧ w'.cell? ⟨G, 6, none⟩ = some (.slice aA an ac) ∧ w'.cell? ⟨G, 7, none⟩ = some (.string aln) ∧ True) wr.drew := by rw [hwd]; exact SP.out _ u wd x GH.out KA.out HXJ.out rfl
      have RPd := Lib.hid (GH.out.rep (List.mem_of_getElem? HXJ.out))
      have AOd := Lib.hid (OKX.out.test.below _ _ GH.out.ao GH.out.under)
      have AFd := Lib.hid (GH.out.aft.below GH.out.under)
      have hxN : (askedL Rs ord (j + 1))[i]? = some x.next := by
        rw [asked_next HJ.out, List.getElem?_modify, HXJ.out]
        simp
      have HXN := Lib.hid hxN
      clear hbd hxN
      rcases hup : upX x with _ | _
      · -- it fails
        have hfl : (replyAt x.S x.k).fail = true := by
          unfold upX replyOf at hup
          cases h : (replyAt x.S x.k).fail with
          | true => rfl
          | false => rw [h] at hup; cases hup
        have TD := Lib.hid (tells_down (T := T) (a := AskX.b ⟨lo, hi, asc, lim, has, ⟨ats, aA, an, ac, als, aln⟩⟩) (Xs := orderX Rs (ord.take j)) hup)
        clear hup
        have RG := Lib.hid (rangeDown_any B x.b x.S x.k x.L x.rv x.lv ad ⟨lo, hi, asc, lim, has, ⟨ats, aA, an, ac, als, aln⟩⟩ OKX.out.k OKX.out.s wd RPd.out HAR.out hfl)
        clear hfl
        go_wp2
        refine wp_region_held_drew (S := (fun w' : World => w'.cell? ⟨f, 0, none⟩ = some (.slice (some ⟨rb, 0, none⟩) N rc) ∧ w'.cell? ⟨rb, i, none⟩ = some (.pointer (some ⟨x.b, 0, none⟩)) ∧ w'.cell? ⟨G, 0, none⟩ = some (.int .i64 lo) ∧ w'.cell? ⟨G, 1, none⟩ = some (.int .i64 hi) ∧ w'.cell? ⟨G, 2, none⟩ = some (.bool asc) ∧ w'.cell? ⟨G, 3, none⟩ = some (.int .i64 lim) ∧ w'.cell? ⟨G, 4, none⟩ = some (.bool has) ∧ w'.cell? ⟨G, 5, none⟩ = some (.int .i64 ats) ∧ w'.cell? ⟨G, 6, none⟩ = some (.slice aA an ac) ∧ w'.cell? ⟨G, 7, none⟩ = some (.string aln) ∧ True)) (by kernel_rfl) SPd (fun hS => ?_)
        rw [hwd] at hS ⊢
        refine tV 0 ?_; refine tV 1 ?_; refine tV 2 ?_; refine tH 3 ?_; refine tV 4 ?_; refine tV 5 ?_; refine tH 6 ?_; refine tH 7 ?_; refine tV 8 ?_
        refine rdy [9] ?_
        refine rdC (fun K hK => ?_) AllReadyH.nil
        go_simp
        go_at_call 29
        refine RG.out.mono ?_
        rintro e w6 ⟨rfl, hr, hf⟩
        have hbx := RPd.out.blk
        have GH6 := Lib.hid (GH.out.step i x HXJ.out (HBS.out x (List.mem_of_getElem? HXR.out)) OKX.out.low (fun w w' cur => OKX.out.test.fg w w' cur) hf hr)
        rw [← asked_next HJ.out] at GH6
        have ST6 := Lib.hid (ST.out.fg hf hbx)
        have KA6 := Lib.hid (KA.out.fg hf (blk_apart KA.out hbx (by decide)))
        have K66 := Lib.hid (K6.out.fg hf (blk_apart K6.out hbx (by decide)))
        have hS6 : (fun w' : World => w'.cell? ⟨f, 0, none⟩ = some (.slice (some ⟨rb, 0, none⟩) N rc) ∧ w'.cell? ⟨rb, i, none⟩ = some (.pointer (some ⟨x.b, 0, none⟩)) ∧ w'.cell? ⟨G, 0, none⟩ = some (.int .i64 lo) ∧ w'.cell? ⟨G, 1, none⟩ = some (.int .i64 hi) ∧ w'.cell? ⟨G, 2, none⟩ = some (.bool asc) ∧ w'.cell? ⟨G, 3, none⟩ = some (.int .i64 lim) ∧ w'.cell? ⟨G, 4, none⟩ = some (.bool has) ∧ w'.cell? ⟨G, 5, none⟩ = some (.int .i64 ats) ∧ w'.cell? ⟨G, 6, none⟩ = some (.slice aA an ac) ∧ w'.cell? ⟨G, 7, none⟩ = some (.string aln) ∧ True) w6 := SP.out _ _ w6 x.next GH6.out KA6.out HXN.out rfl
        refine hK.out _ _ hS6 (fun _ => ?_)
        clear hK K hS hS6 SPd GH ST KA K6 RPd AOd AFd RG hr hf hbx
        try simp only [Act.put, pz1, pz2, pz3]
        refine tV 10 ?_; refine tV 11 ?_; refine tV 12 ?_; refine tV 13 ?_; refine tV 14 ?_; refine tV 15 ?_; refine tV 16 ?_
        refine wpAnyH_done (by kernel_rfl) ?_ _
        go_wp2
        go_round
        case rel => exact ⟨j + 1, _, lv, ev, ls, EE, by omega, by go_num, by omega, by omega, by omega, GH6, ST6, KA6, K66, Lib.hid (by rw [NXO.out, TD.out.1]; exact EQ.out), Lib.hid (by rw [NXO.out, TD.out.2]; exact EQE.out)⟩
        case measure => first | (simp [intOf]; done) | (simp [intOf]; omega)
      · -- it answers
        have hfl : (replyAt x.S x.k).fail = false := by
          unfold upX replyOf at hup
          cases h : (replyAt x.S x.k).fail with
          | false => rfl
          | true => rw [h] at hup; cases hup
        have HUP := Lib.hid hup
        have TU := Lib.hid (tells_up (T := T) (a := AskX.b ⟨lo, hi, asc, lim, has, ⟨ats, aA, an, ac, als, aln⟩⟩) (Xs := orderX Rs (ord.take j)) hup)
        clear hup
        obtain ⟨mo, hmo⟩ : ∃ z, moreX T (AskX.b ⟨lo, hi, asc, lim, has, ⟨ats, aA, an, ac, als, aln⟩⟩) x = z := ⟨_, rfl⟩
        have RG := Lib.hid (show Calls Tryz.prog 29 #[.pointer (some ⟨x.b, 0, none⟩), .agg #[.int .i64 lo, .int .i64 hi, .bool asc, .int .i64 lim, .bool has, .int .i64 ats, .slice aA an ac, .string aln], .pointer (some ad)] wd fun e w' => ∃ v Lt, e = .returned (.tuple #[v, .bool mo, .int .i64 0]) ∧ OwnE 0 w' wd.heap.size v Lt ∧ Lt.map EntX.b = tellX T (AskX.b ⟨lo, hi, asc, lim, has, ⟨ats, aA, an, ac, als, aln⟩⟩) x ∧ RepP B w' x.b x.S (x.k + 1) x.L x.rv x.lv ∧ Se.FG x.b wd w' from
          (range_any B B1 x.b x.S x.k x.L x.rv x.lv (.pointer (some ad)) T AO OKX.out.test ⟨lo, hi, asc, lim, has, ⟨ats, aA, an, ac, als, aln⟩⟩ OKX.out.k OKX.out.s OKX.out.l OKX.out.right wd RPd.out AOd.out AFd.out OKX.out.low HAR.out hlm OKX.out.most hfl).mono (by
            rintro e w' ⟨v, Lt, rfl, h1, h2, h3, h4⟩
            exact ⟨v, Lt, by rw [← hmo]; rfl, h1, h2, h3, h4⟩))
        have HMO := Lib.hid hmo
        have TL1 := tellX_len T (AskX.b ⟨lo, hi, asc, lim, has, ⟨ats, aA, an, ac, als, aln⟩⟩) x
        have hL1 := OKX.out.l
        clear hfl hmo
        go_wp2
        refine wp_region_held_drew (S := (fun w' : World => w'.cell? ⟨f, 0, none⟩ = some (.slice (some ⟨rb, 0, none⟩) N rc) ∧ w'.cell? ⟨rb, i, none⟩ = some (.pointer (some ⟨x.b, 0, none⟩)) ∧ w'.cell? ⟨G, 0, none⟩ = some (.int .i64 lo) ∧ w'.cell? ⟨G, 1, none⟩ = some (.int .i64 hi) ∧ w'.cell? ⟨G, 2, none⟩ = some (.bool asc) ∧ w'.cell? ⟨G, 3, none⟩ = some (.int .i64 lim) ∧ w'.cell? ⟨G, 4, none⟩ = some (.bool has) ∧ w'.cell? ⟨G, 5, none⟩ = some (.int .i64 ats) ∧ w'.cell? ⟨G, 6, none⟩ = some (.slice aA an ac) ∧ w'.cell? ⟨G, 7, none⟩ = some (.string aln) ∧ True)) (by kernel_rfl) SPd (fun hS => ?_)
        rw [hwd] at hS ⊢
        refine tV 0 ?_; refine tV 1 ?_; refine tV 2 ?_; refine tH 3 ?_; refine tV 4 ?_; refine tV 5 ?_; refine tH 6 ?_; refine tH 7 ?_; refine tV 8 ?_
        refine rdy [9] ?_
        refine rdC (fun K hK => ?_) AllReadyH.nil
        go_simp
        go_at_call 29
        refine RG.out.mono ?_
        rintro e w6 ⟨v, Lt, rfl, ho, hm, hr, hf⟩
        obtain ⟨vA, vc, hvs⟩ := OwnR.shape ho.1
        subst hvs
        have OW6 := Lib.hid (show ownX w6 G ⟨vA, Lt.length, vc, Lt⟩ from OwnE.mono ho (Nat.le_refl _) GH.out.big)
        have AP6 := Lib.hid (show ∀ g, (Value.slice vA Lt.length vc).ownBlock = some g → ev.ownBlock ≠ some g from fun g hg e => by
          have h1 := (World.ownsRow.lt ho.1 g hg).1
          have h2 := (World.ownsRow.lt ST.out.ends.1 g e).2
          omega)
        have HM6 := Lib.hid hm
        clear ho hm
        have hbx := RPd.out.blk
        have GH6 := Lib.hid (GH.out.step i x HXJ.out (HBS.out x (List.mem_of_getElem? HXR.out)) OKX.out.low (fun w w' cur => OKX.out.test.fg w w' cur) hf hr)
        rw [← asked_next HJ.out] at GH6
        have ST6 := Lib.hid (ST.out.fg hf hbx)
        have KA6 := Lib.hid (KA.out.fg hf (blk_apart KA.out hbx (by decide)))
        have K66 := Lib.hid (K6.out.fg hf (blk_apart K6.out hbx (by decide)))
        have hS6 : (fun w' : World => w'.cell? ⟨f, 0, none⟩ = some (.slice (some ⟨rb, 0, none⟩) N rc) ∧ w'.cell? ⟨rb, i, none⟩ = some (.pointer (some ⟨x.b, 0, none⟩)) ∧ w'.cell? ⟨G, 0, none⟩ = some (.int .i64 lo) ∧ w'.cell? ⟨G, 1, none⟩ = some (.int .i64 hi) ∧ w'.cell? ⟨G, 2, none⟩ = some (.bool asc) ∧ w'.cell? ⟨G, 3, none⟩ = some (.int .i64 lim) ∧ w'.cell? ⟨G, 4, none⟩ = some (.bool has) ∧ w'.cell? ⟨G, 5, none⟩ = some (.int .i64 ats) ∧ w'.cell? ⟨G, 6, none⟩ = some (.slice aA an ac) ∧ w'.cell? ⟨G, 7, none⟩ = some (.string aln) ∧ True) w6 := SP.out _ _ w6 x.next GH6.out KA6.out HXN.out rfl
        refine hK.out _ _ hS6 (fun _ => ?_)
        clear hK K hS hS6 SPd GH ST KA K6 RPd AOd AFd RG hr hf hbx
        try simp only [Act.put, pz1, pz2, pz3]
        refine tV 10 ?_; refine tV 11 ?_; refine tV 12 ?_; refine tV 13 ?_; refine tV 14 ?_; refine tV 15 ?_; refine tV 16 ?_
        refine wpAnyH_done (by kernel_rfl) ?_ _
        have hq : Lt.length ≤ 1000 := by
          have h1 := congrArg List.length HM6.out
          rw [List.length_map] at h1
          omega
        have w6G : G ≤ w6.heap.size := GH6.out.big
        obtain ⟨kk, hkk⟩ : ∃ k, ls.length = k := ⟨_, rfl⟩
        obtain ⟨tot, htot⟩ : ∃ t, totL ls = t := ⟨_, rfl⟩
        obtain ⟨q, hq2⟩ : ∃ q, Lt.length = q := ⟨_, rfl⟩
        have HKK := Lib.hid hkk
        have HTOT := Lib.hid htot
        have HQ := Lib.hid hq2
        rw [hkk] at hl1
        rw [htot] at hl3
        rw [hq2] at hq OW6 AP6 ⊢
        have LO := Lib.hid (show w6.ownsRow G 64 1 lv kk (rowV LsX.V ls) from by rw [← HKK.out]; exact ST6.out.lists)
        have l0_ : w6.cell? ⟨g7, 0, none⟩ = some lv := (ST6.out.told.cell 0).trans rfl
        have hwt : IntKind.i64.wrap ((tot : Int) + (q : Int)) = ((tot + q : Nat) : Int) := by rw [IntKind.wrap_i64]; omega
        obtain ⟨tt, htt⟩ : ∃ t, tot + q = t := ⟨_, rfl⟩
        rw [htt] at hwt
        have HTT := Lib.hid (show totL (ls ++ [⟨vA, q, vc, Lt⟩]) = tt from by rw [totL_app, HTOT.out]; exact htt)
        have htt1 : tt ≤ 1000 * (j + 1) := by omega
        have hbx6 : Below w6.heap.size w6 (w6.alloc (.cells #[.slice vA q vc] 64)) := (Below.refl _ _).alloc (Nat.le_refl _) _
        have HBX6 := Lib.hid hbx6
        clear hkk htot hq2 htt hbx6 TL1 hL1
        cases mo with
        | false =>
          have EN := Lib.hid (ends_no (T := T) (a := AskX.b ⟨lo, hi, asc, lim, has, ⟨ats, aA, an, ac, als, aln⟩⟩) (Xs := orderX Rs (ord.take j)) HUP.out HMO.out)
          clear HMO
          go_wp2_with (at_builtin; refine wpList_append_lies _ rfl (.tmp 39) (.tmp 41) 118 rfl G 64 i0 (.slice none 0 0) 1 24 Tryz.underlying118 hinf hi0 hi1 hi2 rfl (by decide) _ _ _ rfl (World.ownsRow.alloc LO.out (.cells #[.slice vA q vc] 64)) ⟨w6.heap.size, 0, none⟩ 1 1 (LsX.V ⟨vA, q, vc, Lt⟩) rfl rfl (World.news_of_block (Blk.new _ _ _)) (lsx_one _) (by decide) (by unfold maxLen; omega) (by omega) (by simp; omega) _ rfl ?_)
          intro g2 cap2 w8 hown hgrow hg' hlt2
          have ST9 := Lib.hid (ST6.out.add ⟨vA, q, vc, Lt⟩ OW6.out AP6.out HBX6.out hgrow (by rw [HKK.out]; exact hown))
          rw [HTT.out] at ST9
          have t8 : Blk w8 g7 120 #[lv, .int .i64 (tot : Int), ev] := by
            have h1 := ST6.out.other ST6.out.told HBX6.out hgrow (by decide)
            rwa [HTOT.out] at h1
          have f0_ := t8.frozen 0
          have f1_ := t8.frozen 1
          have c1_ : w8.cell? ⟨g7, 1, none⟩ = some (.int .i64 (tot : Int)) := (t8.cell 1).trans rfl
          have c0_ : w8.cell? ⟨g7, 0, none⟩ = some lv := (t8.cell 0).trans rfl
          have KA8 := ST6.out.other KA6.out HBX6.out hgrow (by decide)
          have K68 := ST6.out.other K66.out HBX6.out hgrow (by decide)
          obtain ⟨w9, hw9_⟩ : ∃ z, ((w8.setCell ⟨g7, 0, none⟩ (.slice (some ⟨g2, 0, none⟩) (kk + 1) cap2)).setCell ⟨g7, 1, none⟩ (.int .i64 (tt : Int))) = z := ⟨_, rfl⟩
          have f89 : Se.FG g7 w8 w9 := by rw [← hw9_]; exact (Se.FG.set_ 0 _).trans (Se.FG.set_ 1 _)
          have KA9 := Lib.hid (KA8.fg f89 nA7)
          have K69 := Lib.hid (K68.fg f89 n67)
          have hb69 : Below G w6 w9 := by
            have h1 : Below G w6 w8 := ((Below.refl G w6).trans (HBX6.out.mono w6G)).grown hgrow (by simp; omega) (fun r hr => (World.ownsRow.lt LO.out r hr).1)
            rw [← hw9_]
            exact (h1.setCell (p := ⟨g7, 0, none⟩) G7 _).setCell (p := ⟨g7, 1, none⟩) G7 _
          have GH9 := Lib.hid (GH6.out.more hb69)
          rw [hw9_] at ST9
          have HW9 := Lib.hid hw9_
          clear hown hgrow hg' hlt2 t8 KA8 K68 f89 hb69 hw9_ GH6 ST6 KA6 K66 LO OW6 AP6 HBX6 l0_ w6G
          go_wp2
          go_round
          case rel => (rw [HW9.out]; exact ⟨j + 1, _, _, ev, ls ++ [⟨vA, q, vc, Lt⟩], EE, by omega, by go_num, by rw [List.length_append, HKK.out, List.length_singleton]; omega, by omega, by rw [HTT.out]; exact htt1, GH9, ST9, KA9, K69, Lib.hid (by rw [NXO.out, TU.out, List.map_append, EQ.out, ← HM6.out]; rfl), Lib.hid (by rw [NXO.out, EN.out]; exact EQE.out)⟩)
          case measure => first | (simp [intOf]; done) | (simp [intOf]; omega)
        | true =>
          obtain ⟨P0, u0, hP0⟩ := more_some (T := T) (a := AskX.b ⟨lo, hi, asc, lim, has, ⟨ats, aA, an, ac, als, aln⟩⟩) (x := x) hlim HMO.out
          have EN := Lib.hid (ends_yes (T := T) (a := AskX.b ⟨lo, hi, asc, lim, has, ⟨ats, aA, an, ac, als, aln⟩⟩) (Xs := orderX Rs (ord.take j)) HUP.out HMO.out hP0)
          obtain ⟨P, y, hPy, hPm, hyb⟩ : ∃ (P : List EntX) (y : EntX), Lt = P ++ [y] ∧ P.map EntX.b = P0 ∧ y.b = u0 := by
            have h1 := HM6.out
            rw [hP0] at h1
            obtain ⟨P, ys, e1, e2, e3⟩ := List.map_eq_append_iff.1 h1
            cases ys with
            | nil => cases e3
            | cons y ys =>
              cases ys with
              | nil => exact ⟨P, y, e1, e2, by injection e3⟩
              | cons z zs => injection e3 with _ e3; cases e3
          have HYB := Lib.hid hyb
          obtain ⟨i9, hi9⟩ : ∃ k, P.length = k := ⟨_, rfl⟩
          have hqi : q = i9 + 1 := by rw [← HQ.out, hPy, List.length_append, hi9]; rfl
          have hyi : Lt[i9]? = some y := by rw [hPy, List.getElem?_append_right (by omega), hi9, Nat.sub_self]; rfl
          have HYI := Lib.hid hyi
          have hw9 : IntKind.i64.wrap ((q : Int) - 1) = (i9 : Int) := by rw [IntKind.wrap_i64]; omega
          have iq9 : (i9 : Int) < (q : Int) := by omega
          have HQI := Lib.hid hqi
          clear HMO hP0 hPy hPm hyb hi9 hqi hyi
          go_wp2_with (at_builtin; refine wpList_append_lies _ rfl (.tmp 39) (.tmp 41) 118 rfl G 64 i0 (.slice none 0 0) 1 24 Tryz.underlying118 hinf hi0 hi1 hi2 rfl (by decide) _ _ _ rfl (World.ownsRow.alloc LO.out (.cells #[.slice vA q vc] 64)) ⟨w6.heap.size, 0, none⟩ 1 1 (LsX.V ⟨vA, q, vc, Lt⟩) rfl rfl (World.news_of_block (Blk.new _ _ _)) (lsx_one _) (by decide) (by unfold maxLen; omega) (by omega) (by simp; omega) _ rfl ?_)
          intro g2 cap2 w8 hown hgrow hg' hlt2
          have ST9 := Lib.hid (ST6.out.add ⟨vA, q, vc, Lt⟩ OW6.out AP6.out HBX6.out hgrow (by rw [HKK.out]; exact hown))
          rw [HTT.out] at ST9
          have t8 : Blk w8 g7 120 #[lv, .int .i64 (tot : Int), ev] := by
            have h1 := ST6.out.other ST6.out.told HBX6.out hgrow (by decide)
            rwa [HTOT.out] at h1
          have f0_ := t8.frozen 0
          have f1_ := t8.frozen 1
          have c1_ : w8.cell? ⟨g7, 1, none⟩ = some (.int .i64 (tot : Int)) := (t8.cell 1).trans rfl
          have c0_ : w8.cell? ⟨g7, 0, none⟩ = some lv := (t8.cell 0).trans rfl
          have KA8 := ST6.out.other KA6.out HBX6.out hgrow (by decide)
          have K68 := ST6.out.other K66.out HBX6.out hgrow (by decide)
          obtain ⟨w9, hw9_⟩ : ∃ z, ((w8.setCell ⟨g7, 0, none⟩ (.slice (some ⟨g2, 0, none⟩) (kk + 1) cap2)).setCell ⟨g7, 1, none⟩ (.int .i64 (tt : Int))) = z := ⟨_, rfl⟩
          have f89 : Se.FG g7 w8 w9 := by rw [← hw9_]; exact (Se.FG.set_ 0 _).trans (Se.FG.set_ 1 _)
          have KA9 := Lib.hid (KA8.fg f89 nA7)
          have K69 := Lib.hid (K68.fg f89 n67)
          have hb69 : Below G w6 w9 := by
            have h1 : Below G w6 w8 := ((Below.refl G w6).trans (HBX6.out.mono w6G)).grown hgrow (by simp; omega) (fun r hr => (World.ownsRow.lt LO.out r hr).1)
            rw [← hw9_]
            exact (h1.setCell (p := ⟨g7, 0, none⟩) G7 _).setCell (p := ⟨g7, 1, none⟩) G7 _
          have GH9 := Lib.hid (GH6.out.more hb69)
          rw [hw9_] at ST9
          have HW9 := Lib.hid hw9_
          clear hown hgrow hg' hlt2 t8 KA8 K68 f89 hb69 hw9_ GH6 ST6 KA6 K66 LO OW6 AP6 HBX6 l0_ w6G
          go_wp2
          rw [HW9.out]
          clear HW9 c1_ c0_ f0_ f1_
          have XW := (ST9.out.each ⟨vA, q, vc, Lt⟩ (List.mem_append_right _ (List.mem_singleton.2 rfl)))
          have GY := Lib.hid (XW.2 y (List.mem_of_getElem? HYI.out))
          obtain ⟨vb, hvA⟩ : ∃ vb, vA = some ⟨vb, 0, none⟩ := by
            obtain ⟨g, cap, e, _⟩ := OwnR.at_ entV_len XW.1 (by have h1 := HQ.out; have h2 := HQI.out; dsimp only; omega)
            injection e with e _ _
            exact ⟨g, e⟩
          subst hvA
          clear XW
          have SP9 := Lib.hid (show ∀ w, ownX w G ⟨some ⟨vb, 0, none⟩, q, vc, Lt⟩ → (fun w' : World => w'.cell? ⟨vb, i9 * 3, none⟩ = some (.int .i64 y.ts) ∧ w'.cell? ⟨vb, i9 * 3 + 1, none⟩ = some (.slice y.A y.n y.c) ∧ w'.cell? ⟨vb, i9 * 3 + 2, none⟩ = some (.string y.ln) ∧ True) w from fun w h => by
            obtain ⟨g, cap, e, _, _, _, hc⟩ := OwnR.at_ entV_len h.1 (by have h1 := HQ.out; have h2 := HQI.out; dsimp only; omega)
            injection e with e _ _
            injection e with e
            injection e with e _ _
            subst e
            exact ⟨(hc i9 0 y HYI.out (by decide)).trans rfl, (hc i9 1 y HYI.out (by decide)).trans rfl, (hc i9 2 y HYI.out (by decide)).trans rfl, trivial⟩)
          obtain ⟨wd, hwd9⟩ : ∃ z, w9.drew = z := ⟨_, rfl⟩
          have hbd : Below w9.heap.size w9 wd := by rw [← hwd9]; exact (Below.refl _ _).drew
          replace GH9 := Lib.hid (GH9.out.more2 hbd)
          replace ST9 := Lib.hid (ST9.out.below hbd)
          replace KA9 := Lib.hid (KA9.out.below hbd KA9.out.lt)
          replace K69 := Lib.hid (K69.out.below hbd K69.out.lt)
          replace GY := Lib.hid (GY.out.below hbd)
          have S0 : (fun w' : World => w'.cell? ⟨vb, i9 * 3, none⟩ = some (.int .i64 y.ts) ∧ w'.cell? ⟨vb, i9 * 3 + 1, none⟩ = some (.slice y.A y.n y.c) ∧ w'.cell? ⟨vb, i9 * 3 + 2, none⟩ = some (.string y.ln) ∧ True) w9.drew := by rw [hwd9]; exact SP9.out _ (ST9.out.each _ (List.mem_append_right _ (List.mem_singleton.2 rfl)))
          clear hbd
          refine wp_region_held_drew (S := (fun w' : World => w'.cell? ⟨vb, i9 * 3, none⟩ = some (.int .i64 y.ts) ∧ w'.cell? ⟨vb, i9 * 3 + 1, none⟩ = some (.slice y.A y.n y.c) ∧ w'.cell? ⟨vb, i9 * 3 + 2, none⟩ = some (.string y.ln) ∧ True)) (by kernel_rfl) S0 (fun hS => ?_)
          rw [hwd9] at hS ⊢
          clear S0 hwd9
          refine tV 0 ?_; refine tV 2 ?_; refine tV 3 ?_; refine tV 4 ?_; refine tV 5 ?_; refine tV 6 ?_; refine tH 7 ?_
          refine rdy [1, 8] ?_
          refine rdC (fun K hK => ?_) ?_
          ·
            have e2_ : wd.cell? ⟨g7, 2, none⟩ = some ev := (ST9.out.told.cell 2).trans rfl
            go_simp
            clear e2_
            refine hK.out _ _ hS (fun _ => ?_)
            clear hK K
            try simp only [Act.put, pz1, pz2, pz3]
            refine rdy [8] ?_
            refine rdC (fun K hK => ?_) AllReadyH.nil
            go_simp
            have hb3 : Below wd.heap.size wd (wd.alloc (.cells #[.int .i64 y.ts, .slice y.A y.n y.c, .string y.ln] 47)) := (Below.refl _ _).alloc (Nat.le_refl _) _
            obtain ⟨gB, hgB⟩ : ∃ g, wd.heap.size = g := ⟨_, rfl⟩
            have HN : Blk (wd.alloc (.cells #[.int .i64 y.ts, .slice y.A y.n y.c, .string y.ln] 47)) gB 47 #[.int .i64 y.ts, .slice y.A y.n y.c, .string y.ln] := by rw [← hgB]; exact Blk.new _ _ _
            obtain ⟨wb, hwb⟩ : ∃ z, wd.alloc (.cells #[.int .i64 y.ts, .slice y.A y.n y.c, .string y.ln] 47) = z := ⟨_, rfl⟩
            rw [hwb] at hb3 HN
            rw [hwb, hgB]
            clear hwb hgB
            replace ST9 := Lib.hid (ST9.out.below hb3)
            replace KA9 := Lib.hid (KA9.out.below hb3 KA9.out.lt)
            replace K69 := Lib.hid (K69.out.below hb3 K69.out.lt)
            replace GH9 := Lib.hid (GH9.out.more2 hb3)
            replace GY := Lib.hid (GY.out.below hb3)
            clear hS hb3
            have hS : (fun w' : World => w'.cell? ⟨vb, i9 * 3, none⟩ = some (.int .i64 y.ts) ∧ w'.cell? ⟨vb, i9 * 3 + 1, none⟩ = some (.slice y.A y.n y.c) ∧ w'.cell? ⟨vb, i9 * 3 + 2, none⟩ = some (.string y.ln) ∧ True) wb := SP9.out wb (ST9.out.each _ (List.mem_append_right _ (List.mem_singleton.2 rfl)))
            refine hK.out _ _ hS (fun _ => ?_)
            clear hK K
            try simp only [Act.put, pz1, pz2, pz3]
            refine rdy [9] ?_
            refine rdC (fun K hK => ?_) AllReadyH.nil
            have s9 := GH9.out.big
            refine step_append_lies _ (by rfl) (.tmp 52) (.tmp 59) 64 (by rfl) G 47 j0 (.agg #[.int .i64 0, .slice none 0 0, .string ⟨#[]⟩]) 3 48 Tryz.underlying64 hjnf hj0 hj1 hj2 rfl (by decide) _ _ _ (by rfl) ST9.out.ends.1 ⟨_, 0, none⟩ 1 1 (EntX.V y) (by rfl) rfl (World.news_of_block HN) (entV_one y) (by decide) (by unfold maxLen; omega) (by omega) s9 _ rfl ?_
            intro g3 cap3 wf hown hgrow hg' hlt2
            have STf := Lib.hid (ST9.out.fin y GY.out (Below.refl _ _) hgrow hown rfl hg')
            have tf := ST9.out.other2 ST9.out.told (Below.refl _ _) hgrow (by decide)
            have f2_ := tf.frozen 2
            have c2f_ : wf.cell? ⟨g7, 2, none⟩ = some ev := (tf.cell 2).trans rfl
            have HKAf := Lib.hid ((ST9.out.other2 KA9.out (Below.refl _ _) hgrow (by decide)).fg (Se.FG.set_ (b := g7) 2 (.slice (some ⟨g3, 0, none⟩) (EE.length + 1) cap3)) nA7)
            have HK6f := Lib.hid ((ST9.out.other2 K69.out (Below.refl _ _) hgrow (by decide)).fg (Se.FG.set_ (b := g7) 2 (.slice (some ⟨g3, 0, none⟩) (EE.length + 1) cap3)) n67)
            have HGHf := Lib.hid (GH9.out.more ((((Below.refl G _).grown hgrow s9 (fun r hr => (World.ownsRow.lt ST9.out.ends.1 r hr).1))).setCell (p := ⟨g7, 2, none⟩) G7 (.slice (some ⟨g3, 0, none⟩) (EE.length + 1) cap3)))
            have hSf : (fun w' : World => w'.cell? ⟨vb, i9 * 3, none⟩ = some (.int .i64 y.ts) ∧ w'.cell? ⟨vb, i9 * 3 + 1, none⟩ = some (.slice y.A y.n y.c) ∧ w'.cell? ⟨vb, i9 * 3 + 2, none⟩ = some (.string y.ln) ∧ True) wf := SP9.out wf (ST9.out.grownX hgrow _ (List.mem_append_right _ (List.mem_singleton.2 rfl)))
            have hSg : (fun w' : World => w'.cell? ⟨vb, i9 * 3, none⟩ = some (.int .i64 y.ts) ∧ w'.cell? ⟨vb, i9 * 3 + 1, none⟩ = some (.slice y.A y.n y.c) ∧ w'.cell? ⟨vb, i9 * 3 + 2, none⟩ = some (.string y.ln) ∧ True) (wf.setCell ⟨g7, 2, none⟩ (.slice (some ⟨g3, 0, none⟩) (EE.length + 1) cap3)) := SP9.out _ (STf.out.each _ (List.mem_append_right _ (List.mem_singleton.2 rfl)))
            refine hK.out _ _ hSf (fun _ => ?_)
            clear hK K tf hown hgrow hg' hlt2 hS
            try simp only [Act.put, pz1, pz2, pz3]
            refine tV 10 ?_
            refine rdy [11] ?_
            refine rdC (fun K hK => ?_) AllReadyH.nil
            go_simp
            refine hK.out _ _ hSg (fun _ => ?_)
            clear hK K hSf hSg f2_ c2f_
            try simp only [Act.put, pz1, pz2, pz3]
            refine wpAnyH_done (by kernel_rfl) ?_ _
            go_wp2
            go_round
            case rel => exact ⟨j + 1, _, _, _, ls ++ [⟨some ⟨vb, 0, none⟩, q, vc, Lt⟩], EE ++ [y], by omega, by go_num, by rw [List.length_append, HKK.out, List.length_singleton]; omega, by rw [List.length_append, List.length_singleton]; omega, by rw [HTT.out]; exact htt1, HGHf, STf, HKAf, HK6f, Lib.hid (by rw [NXO.out, TU.out, List.map_append, EQ.out, ← HM6.out]; rfl), Lib.hid (by rw [NXO.out, EN.out, List.map_append, EQE.out, ← HYB.out]; rfl)⟩
            case measure => first | (simp [intOf]; done) | (simp [intOf]; omega)
          refine rdC (fun K hK => ?_) AllReadyH.nil
          ·
            go_simp
            have hb3 : Below wd.heap.size wd (wd.alloc (.cells #[.int .i64 y.ts, .slice y.A y.n y.c, .string y.ln] 47)) := (Below.refl _ _).alloc (Nat.le_refl _) _
            obtain ⟨gB, hgB⟩ : ∃ g, wd.heap.size = g := ⟨_, rfl⟩
            have HN : Blk (wd.alloc (.cells #[.int .i64 y.ts, .slice y.A y.n y.c, .string y.ln] 47)) gB 47 #[.int .i64 y.ts, .slice y.A y.n y.c, .string y.ln] := by rw [← hgB]; exact Blk.new _ _ _
            obtain ⟨wb, hwb⟩ : ∃ z, wd.alloc (.cells #[.int .i64 y.ts, .slice y.A y.n y.c, .string y.ln] 47) = z := ⟨_, rfl⟩
            rw [hwb] at hb3 HN
            rw [hwb, hgB]
            clear hwb hgB
            replace ST9 := Lib.hid (ST9.out.below hb3)
            replace KA9 := Lib.hid (KA9.out.below hb3 KA9.out.lt)
            replace K69 := Lib.hid (K69.out.below hb3 K69.out.lt)
            replace GH9 := Lib.hid (GH9.out.more2 hb3)
            replace GY := Lib.hid (GY.out.below hb3)
            clear hS hb3
            have hS : (fun w' : World => w'.cell? ⟨vb, i9 * 3, none⟩ = some (.int .i64 y.ts) ∧ w'.cell? ⟨vb, i9 * 3 + 1, none⟩ = some (.slice y.A y.n y.c) ∧ w'.cell? ⟨vb, i9 * 3 + 2, none⟩ = some (.string y.ln) ∧ True) wb := SP9.out wb (ST9.out.each _ (List.mem_append_right _ (List.mem_singleton.2 rfl)))
            refine hK.out _ _ hS (fun _ => ?_)
            clear hK K
            try simp only [Act.put, pz1, pz2, pz3]
            refine rdy [1] ?_
            refine rdC (fun K hK => ?_) AllReadyH.nil
            have e2_ : wb.cell? ⟨g7, 2, none⟩ = some ev := (ST9.out.told.cell 2).trans rfl
            go_simp
            clear e2_
            refine hK.out _ _ hS (fun _ => ?_)
            clear hK K
            try simp only [Act.put, pz1, pz2, pz3]
            refine rdy [9] ?_
            refine rdC (fun K hK => ?_) AllReadyH.nil
            have s9 := GH9.out.big
            refine step_append_lies _ (by rfl) (.tmp 52) (.tmp 59) 64 (by rfl) G 47 j0 (.agg #[.int .i64 0, .slice none 0 0, .string ⟨#[]⟩]) 3 48 Tryz.underlying64 hjnf hj0 hj1 hj2 rfl (by decide) _ _ _ (by rfl) ST9.out.ends.1 ⟨_, 0, none⟩ 1 1 (EntX.V y) (by rfl) rfl (World.news_of_block HN) (entV_one y) (by decide) (by unfold maxLen; omega) (by omega) s9 _ rfl ?_
            intro g3 cap3 wf hown hgrow hg' hlt2
            have STf := Lib.hid (ST9.out.fin y GY.out (Below.refl _ _) hgrow hown rfl hg')
            have tf := ST9.out.other2 ST9.out.told (Below.refl _ _) hgrow (by decide)
            have f2_ := tf.frozen 2
            have c2f_ : wf.cell? ⟨g7, 2, none⟩ = some ev := (tf.cell 2).trans rfl
            have HKAf := Lib.hid ((ST9.out.other2 KA9.out (Below.refl _ _) hgrow (by decide)).fg (Se.FG.set_ (b := g7) 2 (.slice (some ⟨g3, 0, none⟩) (EE.length + 1) cap3)) nA7)
            have HK6f := Lib.hid ((ST9.out.other2 K69.out (Below.refl _ _) hgrow (by decide)).fg (Se.FG.set_ (b := g7) 2 (.slice (some ⟨g3, 0, none⟩) (EE.length + 1) cap3)) n67)
            have HGHf := Lib.hid (GH9.out.more ((((Below.refl G _).grown hgrow s9 (fun r hr => (World.ownsRow.lt ST9.out.ends.1 r hr).1))).setCell (p := ⟨g7, 2, none⟩) G7 (.slice (some ⟨g3, 0, none⟩) (EE.length + 1) cap3)))
            have hSf : (fun w' : World => w'.cell? ⟨vb, i9 * 3, none⟩ = some (.int .i64 y.ts) ∧ w'.cell? ⟨vb, i9 * 3 + 1, none⟩ = some (.slice y.A y.n y.c) ∧ w'.cell? ⟨vb, i9 * 3 + 2, none⟩ = some (.string y.ln) ∧ True) wf := SP9.out wf (ST9.out.grownX hgrow _ (List.mem_append_right _ (List.mem_singleton.2 rfl)))
            have hSg : (fun w' : World => w'.cell? ⟨vb, i9 * 3, none⟩ = some (.int .i64 y.ts) ∧ w'.cell? ⟨vb, i9 * 3 + 1, none⟩ = some (.slice y.A y.n y.c) ∧ w'.cell? ⟨vb, i9 * 3 + 2, none⟩ = some (.string y.ln) ∧ True) (wf.setCell ⟨g7, 2, none⟩ (.slice (some ⟨g3, 0, none⟩) (EE.length + 1) cap3)) := SP9.out _ (STf.out.each _ (List.mem_append_right _ (List.mem_singleton.2 rfl)))
            refine hK.out _ _ hSf (fun _ => ?_)
            clear hK K tf hown hgrow hg' hlt2 hS
            try simp only [Act.put, pz1, pz2, pz3]
            refine tV 10 ?_
            refine rdy [11] ?_
            refine rdC (fun K hK => ?_) AllReadyH.nil
            go_simp
            refine hK.out _ _ hSg (fun _ => ?_)
            clear hK K hSf hSg f2_ c2f_
            try simp only [Act.put, pz1, pz2, pz3]
            refine wpAnyH_done (by kernel_rfl) ?_ _
            go_wp2
            go_round
            case rel => exact ⟨j + 1, _, _, _, ls ++ [⟨some ⟨vb, 0, none⟩, q, vc, Lt⟩], EE ++ [y], by omega, by go_num, by rw [List.length_append, HKK.out, List.length_singleton]; omega, by rw [List.length_append, List.length_singleton]; omega, by rw [HTT.out]; exact htt1, HGHf, STf, HKAf, HK6f, Lib.hid (by rw [NXO.out, TU.out, List.map_append, EQ.out, ← HM6.out]; rfl), Lib.hid (by rw [NXO.out, EN.out, List.map_append, EQE.out, ← HYB.out]; rfl)⟩
            case measure => first | (simp [intOf]; done) | (simp [intOf]; omega)
    ·
      have jI : ¬ (j : Int) < (m : Int) := by omega
      have jm : j = m := by omega
      subst jm
      obtain ⟨lA, lc, hlv⟩ := OwnR.shape ST.out.lists
      obtain ⟨eA, ec, hev⟩ := OwnR.shape ST.out.ends.1
      obtain ⟨ln_, hln⟩ : ∃ k, ls.length = k := ⟨_, rfl⟩
      obtain ⟨en_, hen⟩ : ∃ k, EE.length = k := ⟨_, rfl⟩
      rw [hln] at hlv hl1
      rw [hen] at hev hl2
      subst hlv hev
      clear hln hen
      have t7_ := ST.out.told
      have q0_ : wr.cell? ⟨g7, 0, none⟩ = some (.slice lA ln_ lc) := (t7_.cell 0).trans rfl
      have q1_ : wr.cell? ⟨g7, 1, none⟩ = some (.int .i64 ((totL ls : Nat) : Int)) := (t7_.cell 1).trans rfl
      have q2_ : wr.cell? ⟨g7, 2, none⟩ = some (.slice eA en_ ec) := (t7_.cell 2).trans rfl
      have e0_ := K6.out.frozen 0
      have e1_ := K6.out.frozen 1
      have e2_ := K6.out.frozen 2
      have k0_ : wr.cell? ⟨g6, 0, none⟩ = some (.slice none 0 0) := (K6.out.cell 0).trans rfl
      have k1_ : wr.cell? ⟨g6, 1, none⟩ = some (.int .i64 0) := (K6.out.cell 1).trans rfl
      have k2_ : wr.cell? ⟨g6, 2, none⟩ = some (.slice none 0 0) := (K6.out.cell 2).trans rfl
      obtain ⟨tot, htot⟩ : ∃ t, totL ls = t := ⟨_, rfl⟩
      have HTOT := Lib.hid htot
      rw [htot] at q1_ hl3
      clear htot t7_
      have K9 := Lib.hid (((K6.out.set_ 0 (.slice lA ln_ lc)).set_ 1 (.int .i64 (tot : Int))).set_ 2 (.slice eA en_ ec))
      have F9 := ((Se.FG.set_ (b := g6) (w := wr) 0 (.slice lA ln_ lc)).trans (Se.FG.set_ 1 (.int .i64 (tot : Int)))).trans (Se.FG.set_ 2 (.slice eA en_ ec))
      have GH9 := Lib.hid (GH.out.more ((((Below.refl G wr).setCell (p := ⟨g6, 0, none⟩) G6 (.slice lA ln_ lc)).setCell (p := ⟨g6, 1, none⟩) G6 (.int .i64 (tot : Int))).setCell (p := ⟨g6, 2, none⟩) G6 (.slice eA en_ ec)))
      have LO9 := Lib.hid (OwnR.fgT ST.out.lists F9 K6.out (by decide))
      have EO9 := Lib.hid (ST.out.ends.fgT F9 (Nat.zero_le _) K6.out (by decide) (by decide))
      have XO9 := Lib.hid (fun x (hx : x ∈ ls) => OwnE.fgT (ST.out.each x hx) F9 (Nat.zero_le _) K6.out (by decide) (by decide))
      have EQ9 := Lib.hid (show ls.map (fun x => x.l.map EntX.b) = tellsX T (AskX.b ⟨lo, hi, asc, lim, has, ⟨ats, aA, an, ac, als, aln⟩⟩) (orderX Rs ord) from by
        rw [EQ.out, ← LNM.out, List.take_length])
      have EE9 := Lib.hid (show EE.map EntX.b = endsX T (AskX.b ⟨lo, hi, asc, lim, has, ⟨ats, aA, an, ac, als, aln⟩⟩) (orderX Rs ord) from by
        rw [EQE.out, ← LNM.out, List.take_length])
      clear F9 GH ST EQ EQE
      go_wp2
      refine bodyPost_ret (results_cell_row rfl _ _ g6 120 #[.slice lA ln_ lc, .int .i64 (tot : Int), .slice eA en_ ec] (0, 0) _ rfl K9.out Tryz.underlying120 rfl (by kernel_rfl)) rfl ?_
      rw [HGG.out]
      exact ⟨_, _, ls, EE, by rw [HTOT.out], LO9.out, (fun x hx => XO9.out x hx), EO9.out, EQ9.out, EE9.out, by rw [HTOT.out]; omega, u, by rw [LNM.out]; exact GH9.out⟩
end Go.Proofs.YtdaainifkldcpaaGreatDoor
