-- shaken
import Derived.Test.YtdaainifkldcpaaGreatDoorFanAsk
namespace Go.Proofs.YtdaainifkldcpaaGreatDoor
open Go.RowKit
set_option linter.unusedVariables false
set_option linter.unusedSimpArgs false
theorem ends_none {T : List PairB → Bool} {a : AskB} {Xs : List ReplX} (h : tellsX T a Xs = []) : endsX T a Xs = [] := by
  unfold tellsX at h
  have h1 := List.map_eq_nil_iff.1 h
  unfold endsX
  rw [h1]
  rfl
theorem tellX_sort {T : List PairB → Bool} {a : AskB} {x : ReplX} (h : (x.L.map EntX.b).Pairwise leB) : (tellX T a x).Pairwise (leD a.asc) := by
  unfold tellX tellL metL
  exact ((dir_sorted a.asc h).filter _).sublist (List.take_sublist _ _)
theorem allB_flat (ls : List LsX) : allB ls = (ls.map fun x => x.l.map EntX.b).flatten := by
  unfold allB
  rw [List.flatMap_def]
theorem allB_len (ls : List LsX) (h : ∀ x ∈ ls, x.l.length = x.n) : (allB ls).length = totL ls := by
  unfold allB totL
  induction ls with
  | nil => rfl
  | cons x ls ih =>
    rw [List.flatMap_cons, List.length_append, List.length_map, h x List.mem_cons_self, List.map_cons, List.sum_cons, ih (fun y hy => h y (List.mem_cons_of_mem _ hy))]
theorem ownX_at {w : World} {G : Nat} {x : LsX} (h : ownX w G x) : Ents 0 w x.A x.n x.l ∧ x.n ≤ x.c ∧ x.c ≤ maxLen ∧ x.l.length = x.n := by
  obtain ⟨A, cap, e, _, _, he⟩ := OwnE.ents h
  injection e with e1 e2 e3
  subst e1 e3
  have h2 := OwnR.cap h.1
  rw [← e2] at he
  exact ⟨he, h2.1, h2.2, e2.symm⟩
theorem merge_tells {T : List PairB → Bool} {a : AskB} {Xs : List ReplX} {ls : List LsX} (he : ls.map (fun x => x.l.map EntX.b) = tellsX T a Xs) (hl : ∀ x ∈ ls, x.l.length = x.n) (hs : ∀ x ∈ Xs, (x.L.map EntX.b).Pairwise leB) : mergeB a.asc (totL ls : Int) ls = uniqB a.asc (tellsX T a Xs).flatten := by
  have h1 : sortedLs a.asc ls = true := by
    refine List.all_eq_true.2 (fun x hx => ?_)
    refine sorted_dir a.asc x.l ?_
    have h2 : x.l.map EntX.b ∈ tellsX T a Xs := by rw [← he]; exact List.mem_map.2 ⟨x, hx, rfl⟩
    obtain ⟨y, hy, e⟩ := List.mem_map.1 h2
    rw [← e]
    exact tellX_sort (hs y (List.mem_filter.1 hy).1)
  unfold mergeB
  rw [if_pos h1, ← he, ← allB_flat]
  refine List.take_of_length_le ?_
  have h3 := uniq_len a.asc (allB ls)
  rw [allB_len ls hl] at h3
  omega
theorem Blk.hopsT {T' : Nat} {Bs : List Nat} {w w' : World} {g T : Nat} {cs : Array Value} (h : Blk w g T cs) (hc : Hops T' Bs w w') (hT : T' ≠ T) : Blk w' g T cs :=
  hc.keep (P := fun x => Blk x g T cs) h (fun w1 w2 b cur hb hk hf hp => hp.fg hf (blk_apart hp hk hT)) (fun w1 w2 hb hp => hp.below hb hp.lt)
def FetchR (B f : Nat) (Bs : List Nat) (W : World) (Rs : List ReplX) (ord : List Nat) (rv ov : Value) (T : List PairB → Bool) (a : AskB) (e : Ending) (w' : World) : Prop :=
  ∃ v L, e = .returned (.tuple #[v, .bool (!(endsX T a (orderX Rs ord)).isEmpty), .int .i64 (if (tellsX T a (orderX Rs ord)).isEmpty = true then 7 else 0)]) ∧ OwnE 0 w' W.heap.size v L ∧ L.map EntX.b = fetchL a.asc (tellsX T a (orderX Rs ord)) (endsX T a (orderX Rs ord)) ∧ FanP B w' f (askedL Rs ord ord.length) ord rv ov ∧ Hops 140 Bs W w'
set_option maxRecDepth 100000 in
set_option maxHeartbeats 3200000 in
theorem fetch_any (B B1 f : Nat) (Bs : List Nat) (Rs : List ReplX) (ord : List Nat) (rv ov : Value) (ad : Addr) (T : List PairB → Bool) (AO : World → Prop) (a : AskX) (hn : Rs.length ≤ 4) (hord : OrdP Rs.length ord) (hok : ∀ x ∈ Rs, OkX B1 (.pointer (some ad)) T AO x) (hso : ∀ x ∈ Rs, (x.L.map EntX.b).Pairwise leB) (hbs : ∀ x ∈ Rs, x.b ∈ Bs) (hab : ∀ w w', AO w → Below w.heap.size w w' → AO w') (har : askR a.b = true) (hlm : a.lim ≤ 9223372036854775807) (W : World) (h : FanP B W f Rs ord rv ov) (hao : AO W) (ha : Good B1 W a.af) :
    Calls Tryz.prog 17 #[.pointer (some ⟨f, 0, none⟩), .agg a.V.toArray, .pointer (some ad)] W fun e w' => FetchR B f Bs W Rs ord rv ov T a.b e w' := by
  obtain ⟨lo, hi, asc, lim, has, ⟨ats, aA, an, ac, als, aln⟩⟩ := a
  dsimp only at hlm ha
  have HBA : Below W.heap.size W (W.alloc (.cells #[.int .i64 lo, .int .i64 hi, .bool asc, .int .i64 lim, .bool has, .int .i64 ats, .slice aA an ac, .string aln] 49)) := (Below.refl _ _).alloc (Nat.le_refl _) _
  have K1 : Blk (W.alloc (.cells #[.int .i64 lo, .int .i64 hi, .bool asc, .int .i64 lim, .bool has, .int .i64 ats, .slice aA an ac, .string aln] 49)) W.heap.size 49 #[.int .i64 lo, .int .i64 hi, .bool asc, .int .i64 lim, .bool has, .int .i64 ats, .slice aA an ac, .string aln] := Blk.new _ _ _
  obtain ⟨gA, hgA⟩ : ∃ g, W.heap.size = g := ⟨_, rfl⟩
  obtain ⟨w1, hw1⟩ : ∃ z, W.alloc (.cells #[.int .i64 lo, .int .i64 hi, .bool asc, .int .i64 lim, .bool has, .int .i64 ats, .slice aA an ac, .string aln] 49) = z := ⟨_, rfl⟩
  rw [hw1] at HBA K1
  rw [hgA] at K1
  have AR := Lib.hid (askRight_any ⟨lo, hi, asc, lim, has, ⟨ats, aA, an, ac, als, aln⟩⟩ w1)
  rw [har] at AR
  replace AR : Hid (Calls Tryz.prog 37 #[.agg #[.int .i64 lo, .int .i64 hi, .bool asc, .int .i64 lim, .bool has, .int .i64 ats, .slice aA an ac, .string aln]] w1 fun e w' => e = .returned (.bool true) ∧ Below w1.heap.size w1 w') := AR
  have FP := Lib.hid (h.below HBA)
  have AO1 := Lib.hid (hab _ _ hao HBA)
  have GA := Lib.hid (ha.below HBA)
  have KA := Lib.hid K1
  have HB := Lib.hid HBA
  have ASKC := Lib.hid (fun w (h : FanP B w f Rs ord rv ov) (hao : AO w) (ha : Good B1 w ⟨ats, aA, an, ac, als, aln⟩) => fanAsk_any B B1 f Bs Rs ord rv ov ad T AO ⟨lo, hi, asc, lim, has, ⟨ats, aA, an, ac, als, aln⟩⟩ hn hord hok hbs har hlm w h hao ha)
  have a2_ : w1.cell? ⟨gA, 2, none⟩ = some (.bool asc) := (K1.cell 2).trans rfl
  have HAB := Lib.hid hab
  have HK := Lib.hid hok
  have HSO := Lib.hid (show ∀ x ∈ orderX Rs ord, (x.L.map EntX.b).Pairwise leB from fun x hx => by
    obtain ⟨i, _, hi⟩ := List.mem_filterMap.1 hx
    exact hso x (List.mem_of_getElem? hi))
  have HW1 := Lib.hid hw1
  have HORD := Lib.hid hord
  have HGA := Lib.hid hgA
  have a0_ : w1.cell? ⟨gA, 0, none⟩ = some (.int .i64 lo) := (K1.cell 0).trans rfl
  have a1_ : w1.cell? ⟨gA, 1, none⟩ = some (.int .i64 hi) := (K1.cell 1).trans rfl
  have a3_ : w1.cell? ⟨gA, 3, none⟩ = some (.int .i64 lim) := (K1.cell 3).trans rfl
  have a4_ : w1.cell? ⟨gA, 4, none⟩ = some (.bool has) := (K1.cell 4).trans rfl
  have a5_ : w1.cell? ⟨gA, 5, none⟩ = some (.int .i64 ats) := (K1.cell 5).trans rfl
  have a6_ : w1.cell? ⟨gA, 6, none⟩ = some (.slice aA an ac) := (K1.cell 6).trans rfl
  have a7_ : w1.cell? ⟨gA, 7, none⟩ = some (.string aln) := (K1.cell 7).trans rfl
  clear h hao ha hok hso hbs hord har hab HBA K1 hw1 hgA
  show Calls Tryz.prog 17 #[.pointer (some ⟨f, 0, none⟩), .agg #[.int .i64 lo, .int .i64 hi, .bool asc, .int .i64 lim, .bool has, .int .i64 ats, .slice aA an ac, .string aln], .pointer (some ad)] W _
  go_enter Tryz.func17, Tryz.ntmps17
  go_wp2_with fail
  rw [HW1.out, HGA.out]
  refine AR.out.mono ?_
  rintro e w2 ⟨rfl, hb⟩
  replace FP := Lib.hid (FP.out.below hb)
  replace AO1 := Lib.hid (HAB.out _ _ AO1.out hb)
  replace GA := Lib.hid (GA.out.below hb)
  replace KA := Lib.hid (KA.out.below hb KA.out.lt)
  replace HB := Lib.hid (hop HB.out (Nat.le_refl _) hb)
  clear hb AR a0_ a1_ a2_ a3_ a4_ a5_ a6_ a7_ HW1
  have a0_ : w2.cell? ⟨gA, 0, none⟩ = some (.int .i64 lo) := (KA.out.cell 0).trans rfl
  have a1_ : w2.cell? ⟨gA, 1, none⟩ = some (.int .i64 hi) := (KA.out.cell 1).trans rfl
  have a2_ : w2.cell? ⟨gA, 2, none⟩ = some (.bool asc) := (KA.out.cell 2).trans rfl
  have a3_ : w2.cell? ⟨gA, 3, none⟩ = some (.int .i64 lim) := (KA.out.cell 3).trans rfl
  have a4_ : w2.cell? ⟨gA, 4, none⟩ = some (.bool has) := (KA.out.cell 4).trans rfl
  have a5_ : w2.cell? ⟨gA, 5, none⟩ = some (.int .i64 ats) := (KA.out.cell 5).trans rfl
  have a6_ : w2.cell? ⟨gA, 6, none⟩ = some (.slice aA an ac) := (KA.out.cell 6).trans rfl
  have a7_ : w2.cell? ⟨gA, 7, none⟩ = some (.string aln) := (KA.out.cell 7).trans rfl
  go_wp2_with fail
  refine (show Calls Tryz.prog 38 #[.pointer (some ⟨f, 0, none⟩), .agg #[.int .i64 lo, .int .i64 hi, .bool asc, .int .i64 lim, .bool has, .int .i64 ats, .slice aA an ac, .string aln], .pointer (some ad)] w2 _ from ASKC.out w2 FP.out AO1.out GA.out).mono ?_
  rintro e w3 ⟨lv, ev, ls, EE, rfl, hlo, hxo, heo, heq, hee, htot, u, hgh⟩
  have HHP := Lib.hid (((Hops.more (Hops.refl W) HB.out).trans hgh.hops).more hgh.under)
  have KA3 : Blk w3 gA 49 #[.int .i64 lo, .int .i64 hi, .bool asc, .int .i64 lim, .bool has, .int .i64 ats, .slice aA an ac, .string aln] := KA.out.hopsT (hgh.hops.more hgh.under) (by decide)
  have FP3 := Lib.hid (hgh.fan.below hgh.under)
  obtain ⟨lA, lc, hlv⟩ := OwnR.shape hlo
  obtain ⟨eA, ec, hev⟩ := OwnR.shape heo.1
  subst hlv hev
  have hWs : W.heap.size ≤ w2.heap.size := HB.out.size
  have hlen1 : ls.length = (tellsX T (AskX.b ⟨lo, hi, asc, lim, has, ⟨ats, aA, an, ac, als, aln⟩⟩) (orderX Rs ord)).length := by rw [← heq, List.length_map]
  have hlen2 : EE.length = (endsX T (AskX.b ⟨lo, hi, asc, lim, has, ⟨ats, aA, an, ac, als, aln⟩⟩) (orderX Rs ord)).length := by rw [← hee, List.length_map]
  have hls4 : ls.length ≤ 4 := by
    rw [hlen1]
    unfold tellsX orderX
    rw [List.length_map]
    refine Nat.le_trans (List.length_filter_le _ _) (Nat.le_trans (List.length_filterMap_le _ _) ?_)
    exact Nat.le_trans HORD.out.len hn
  obtain ⟨TL, hTL⟩ : ∃ t, tellsX T (AskX.b ⟨lo, hi, asc, lim, has, ⟨ats, aA, an, ac, als, aln⟩⟩) (orderX Rs ord) = t := ⟨_, rfl⟩
  obtain ⟨EN, hEN⟩ : ∃ t, endsX T (AskX.b ⟨lo, hi, asc, lim, has, ⟨ats, aA, an, ac, als, aln⟩⟩) (orderX Rs ord) = t := ⟨_, rfl⟩
  have MT := Lib.hid (merge_tells heq (fun x hx => (ownX_at (hxo x hx)).2.2.2) HSO.out)
  have LP := Lib.hid (show ListsP 0 w3 lA ls.length ls from by
    obtain ⟨A2, c2, e, _, _, hr⟩ := OwnR.open lsx_len hlo
    injection e with e1 _ _
    subst e1
    exact ⟨hr, fun x hx => ⟨(ownX_at (hxo x hx)).1, (ownX_at (hxo x hx)).2.1, (ownX_at (hxo x hx)).2.2.1⟩⟩)
  have EO := Lib.hid heo
  have EEQ := Lib.hid hee
  have KAX := Lib.hid KA3
  rw [hTL] at hlen1 MT
  rw [hEN] at hlen2 EEQ
  have HF4 := Lib.hid (show TL.flatten.length = totL ls from by
    rw [← hTL, ← heq, ← allB_flat]
    exact allB_len ls (fun x hx => (ownX_at (hxo x hx)).2.2.2))
  have HCAP := Lib.hid (OwnR.cap heo.1)
  have PST := Lib.hid (show ∀ v L w', OwnE 0 w' W.heap.size v L → L.map EntX.b = fetchL asc TL EN → FanP B w' f (askedL Rs ord ord.length) ord rv ov → Hops 140 Bs W w' → ∀ er : Int, er = (if TL.isEmpty = true then 7 else 0) → ∀ mo, mo = (!EN.isEmpty) → FetchR B f Bs W Rs ord rv ov T (AskX.b ⟨lo, hi, asc, lim, has, ⟨ats, aA, an, ac, als, aln⟩⟩) (.returned (.tuple #[v, .bool mo, .int .i64 er])) w' from fun v L w' h1 h2 h3 h4 er he mo hm => by
    subst he hm
    rw [← hTL, ← hEN] at h2 ⊢
    exact ⟨v, L, rfl, h1, h2, h3, h4⟩)
  have EN0 := Lib.hid (show TL = [] → EN = [] from fun e => by rw [← hEN]; exact ends_none (by rw [hTL]; exact e))
  clear hlo hxo heo heq hee hgh KA3 hTL hEN FP AO1 GA KA HB ASKC HK HSO a0_ a1_ a2_ a3_ a4_ a5_ a6_ a7_
  obtain ⟨n, hn1⟩ : ∃ k, ls.length = k := ⟨_, rfl⟩
  obtain ⟨tot, htt⟩ : ∃ k, totL ls = k := ⟨_, rfl⟩
  obtain ⟨en, hen⟩ : ∃ k, EE.length = k := ⟨_, rfl⟩
  rw [hn1] at hlen1 LP hls4
  rw [htt] at MT htot HF4
  have ALLC := Lib.hid (fun w (h : ListsP 0 w lA n ls) => all_any 0 asc (tot : Int) lA n lc ls (by rw [htt]; omega) w (Nat.zero_le _) h)
  rw [hn1, htt, hen]
  rw [hen] at hlen2 EO HCAP
  have HENL := Lib.hid hen
  have HL2 := Lib.hid hlen2
  clear hlen2
  clear hn1 htt hen
  have ga3 := KAX.out.lt
  have a2_ : w3.cell? ⟨gA, 2, none⟩ = some (.bool asc) := (KAX.out.cell 2).trans rfl
  rcases Nat.eq_zero_or_pos n with n0 | n0
  · -- none answers
    subst n0
    have hT0 : TL = [] := List.eq_nil_of_length_eq_zero hlen1.symm
    have hE0 := EN0.out hT0
    have FIN := Lib.hid (PST.out (.slice none 0 0) [] _ (OwnE.nil _ _ _) (by rw [hT0, hE0]; rfl) (FP3.out.below ((Below.refl _ _).alloc (Nat.le_refl _) (.cells #[.slice lA 0 lc, .int .i64 (tot : Int), .slice eA en ec] 120))) (HHP.out.more ((Below.refl _ _).alloc (Nat.le_refl _) _)) 7 (by rw [hT0]; rfl) false (by rw [hE0]; rfl))
    clear hT0 hE0 hlen1 PST EN0
    go_wp2
    go_ret3
    exact FIN.out
  · have nI : ¬ (n : Int) = 0 := by omega
    have nB : ((n : Int) == 0) = false := beq_eq_false_iff_ne.2 nI
    have HTE := Lib.hid (show TL.isEmpty = false from by
      cases hT : TL with
      | nil => rw [hT] at hlen1; simp at hlen1; omega
      | cons t ts => rfl)
    obtain ⟨g9, hg9⟩ : ∃ g, w3.heap.size = g := ⟨_, rfl⟩
    have hb4 : Below w3.heap.size w3 (w3.alloc (.cells #[.slice lA n lc, .int .i64 (tot : Int), .slice eA en ec] 120)) := (Below.refl _ _).alloc (Nat.le_refl _) _
    have K9 := Lib.hid (show Blk (w3.alloc (.cells #[.slice lA n lc, .int .i64 (tot : Int), .slice eA en ec] 120)) g9 120 #[.slice lA n lc, .int .i64 (tot : Int), .slice eA en ec] from by rw [← hg9]; exact Blk.new _ _ _)
    obtain ⟨w4, hw4⟩ : ∃ z, w3.alloc (.cells #[.slice lA n lc, .int .i64 (tot : Int), .slice eA en ec] 120) = z := ⟨_, rfl⟩
    rw [hw4] at hb4 K9
    replace LP := Lib.hid (LP.out.below hb4)
    replace EO := Lib.hid (EO.out.below hb4)
    replace KAX := Lib.hid (KAX.out.below hb4 KAX.out.lt)
    replace FP3 := Lib.hid (FP3.out.below hb4)
    replace HHP := Lib.hid (HHP.out.more hb4)
    have AL := Lib.hid (ALLC.out w4 LP.out)
    have hW4 := HHP.out.size
    have HW4 := Lib.hid hw4
    have HG9 := Lib.hid hg9
    clear hb4 hw4 hg9 ALLC LP hlen1
    go_wp2_with fail
    rw [HW4.out, HG9.out]
    refine AL.out.mono ?_
    rintro e w5 ⟨v, Tm, rfl, ho, hm, hb⟩
    have TM := Lib.hid (hm.trans MT.out)
    obtain ⟨vA, vc, hv⟩ := OwnR.shape ho.1
    subst hv
    have hq : Tm.length ≤ 4000 := by
      have h1 := congrArg List.length TM.out
      rw [List.length_map] at h1
      have h2 : Tm.length ≤ TL.flatten.length := Nat.le_trans (Nat.le_of_eq h1) (uniq_len _ _)
      rw [HF4.out] at h2
      omega
    obtain ⟨q, hq2⟩ : ∃ q, Tm.length = q := ⟨_, rfl⟩
    have HQ := Lib.hid hq2
    replace EO := Lib.hid (EO.out.below hb)
    replace KAX := Lib.hid (KAX.out.below hb KAX.out.lt)
    replace K9 := Lib.hid (K9.out.below hb K9.out.lt)
    replace FP3 := Lib.hid (FP3.out.below hb)
    replace HHP := Lib.hid (HHP.out.more hb)
    have TO := Lib.hid (OwnE.mono ho (Nat.le_refl _) hW4)
    rw [hq2] at hq TO ⊢
    have FI := Lib.hid (show Calls Tryz.prog 40 #[.bool asc, .slice eA en ec] w5 _ from first_any 0 asc eA en ec EE HCAP.out w5 (by
      obtain ⟨A2, c2, e, _, _, hr⟩ := EO.out.ents
      rw [HENL.out] at e hr
      injection e with e1 _ _
      subst e1
      exact hr))
    have a2_ : w5.cell? ⟨gA, 2, none⟩ = some (.bool asc) := (KAX.out.cell 2).trans rfl
    have k2_ : w5.cell? ⟨g9, 2, none⟩ = some (.slice eA en ec) := (K9.out.cell 2).trans rfl
    have lA5 := KAX.out.lt
    clear ho hm hb AL MT HW4 HG9 hq2 ga3
    go_wp2_with fail
    refine FI.out.mono ?_
    rintro e w6 ⟨rfl, hb⟩
    replace EO := Lib.hid (EO.out.below hb)
    replace KAX := Lib.hid (KAX.out.below hb KAX.out.lt)
    replace FP3 := Lib.hid (FP3.out.below hb)
    replace HHP := Lib.hid (HHP.out.more hb)
    replace TO := Lib.hid (TO.out.below hb)
    have GU := Lib.hid (firstE_good (B := 0) (w := w6) asc EO.out.2)
    have LB := Lib.hid (leastB_of asc EE)
    obtain ⟨⟨uts, uA, un, uc, uls, uln⟩, hu⟩ : ∃ u, firstE asc EE = u := ⟨_, rfl⟩
    rw [hu] at GU LB
    rw [hu]
    dsimp only [entArr]
    have a2_ : w6.cell? ⟨gA, 2, none⟩ = some (.bool asc) := (KAX.out.cell 2).trans rfl
    have lA6 := KAX.out.lt
    clear hb hu FI lA5
    have hb7 : Below w6.heap.size w6 (w6.alloc (.cells #[.int .i64 uts, .slice uA un uc, .string uln] 47)) := (Below.refl _ _).alloc (Nat.le_refl _) _
    obtain ⟨w7, hw7⟩ : ∃ z, w6.alloc (.cells #[.int .i64 uts, .slice uA un uc, .string uln] 47) = z := ⟨_, rfl⟩
    rw [hw7] at hb7
    have FP7 := Lib.hid (FP3.out.below hb7)
    have HHP7 := Lib.hid (HHP.out.more hb7)
    have TO7 := Lib.hid (TO.out.below hb7)
    have GU7 := Lib.hid (GU.out.below hb7)
    have HW7 := Lib.hid hw7
    clear hb7 hw7 FP3 HHP TO GU
    rcases Nat.eq_zero_or_pos en with n9 | n9
    · subst n9
      have hE0 : EN = [] := List.eq_nil_of_length_eq_zero HL2.out.symm
      have FIN := Lib.hid (PST.out (.slice vA q vc) Tm w7 TO7.out (by rw [hE0]; exact TM.out) FP7.out HHP7.out 0 (by rw [HTE.out]; rfl) false (by rw [hE0]; rfl))
      have d0 : decide (0 < 0) = false := rfl
      clear hE0 PST EN0
      go_wp2
      (try rw [HW7.out])
      go_ret3
      exact FIN.out
    · have d0 : decide (0 < en) = true := decide_eq_true n9
      have UP := Lib.hid (upto_any 0 asc ⟨uts, uA, un, uc, uls, uln⟩ vA q vc Tm (by omega) w7 (Nat.zero_le _) GU7.out (by
        obtain ⟨A2, c2, e, _, _, hr⟩ := TO7.out.ents
        rw [HQ.out] at e hr
        injection e with e1 _ _
        subst e1
        exact hr))
      have hEN : ∃ e0 es, EN = e0 :: es := by
        cases hE : EN with
        | nil => have hl2 := HL2.out; rw [hE] at hl2; simp at hl2; omega
        | cons e0 es => exact ⟨e0, es, rfl⟩
      have HEN := Lib.hid hEN
      have hW7 := HHP7.out.size
      clear hEN
      go_wp2_with fail
      rw [HW7.out]
      refine UP.out.mono ?_
      rintro e w8 ⟨v8, rfl, ho8, hb8⟩
      have FIN := Lib.hid (show FetchR B f Bs W Rs ord rv ov T (AskX.b ⟨lo, hi, asc, lim, has, ⟨ats, aA, an, ac, als, aln⟩⟩) (.returned (.tuple #[v8, .bool true, .int .i64 0])) w8 from by
        obtain ⟨e0, es, hE⟩ := HEN.out
        refine PST.out v8 _ w8 (OwnE.mono ho8 (Nat.le_refl _) hW7) ?_ (FP7.out.below hb8) (HHP7.out.more hb8) 0 (by rw [HTE.out]; rfl) true (by rw [hE]; rfl)
        rw [upto_map, TM.out, LB.out, EEQ.out, hE]
        rfl)
      clear ho8 hb8 UP HEN PST EN0
      go_wp2
      go_ret3
      exact FIN.out
end Go.Proofs.YtdaainifkldcpaaGreatDoor
