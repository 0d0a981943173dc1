-- shaken
import Derived.Test.YtdaainifkldcpaaGreatDoorFanAnsw
import Derived.Test.YtdaainifkldcpaaGreatDoorFanFetch
namespace Go.Proofs.YtdaainifkldcpaaGreatDoor
open Go.RowKit
set_option linter.unusedVariables false
set_option linter.unusedSimpArgs false
def rangeX (lo hi : Int) (asc : Bool) (x : ReplX) : List EntB := (dirL asc (x.L.map EntX.b)).filter (inT lo hi)
def takeX (lim : Int) (x : ReplX) : Nat := (mostOf lim (replyOf x)).toNat
def rmX (lo hi : Int) (asc : Bool) (lim : Int) (Rs : List ReplX) : List (List EntB × Nat) := Rs.map fun x => (rangeX lo hi asc x, takeX lim x)
theorem up_all {Rs : List ReplX} (h : ∀ x ∈ Rs, upX x = true) : Rs.filter upX = Rs := List.filter_eq_self.2 h
theorem met_x (lo hi : Int) (asc : Bool) (lim : Int) (has : Bool) (af : EntB) (x : ReplX) : metL (fun _ => true) ⟨lo, hi, asc, lim, has, af⟩ (x.L.map EntX.b) = (rangeX lo hi asc x).filter (qF asc has af) := met_q lo hi asc lim has af _
theorem tell_x (lo hi : Int) (asc : Bool) (lim : Int) (has : Bool) (af : EntB) (x : ReplX) : tellX (fun _ => true) ⟨lo, hi, asc, lim, has, af⟩ x = ((rangeX lo hi asc x).filter (qF asc has af)).take (takeX lim x) := by
  unfold tellX tellL
  rw [met_x]
  rfl
theorem more_x (lo hi : Int) (asc : Bool) (lim : Int) (has : Bool) (af : EntB) (x : ReplX) : moreX (fun _ => true) ⟨lo, hi, asc, lim, has, af⟩ x = decide (takeX lim x < ((rangeX lo hi asc x).filter (qF asc has af)).length) := by
  unfold moreX moreL
  rw [met_x]
  rfl
theorem last_x (lo hi : Int) (asc : Bool) (lim : Int) (has : Bool) (af : EntB) (x : ReplX) : lastX (fun _ => true) ⟨lo, hi, asc, lim, has, af⟩ x = endOf ((rangeX lo hi asc x).filter (qF asc has af)) (takeX lim x) := by
  unfold lastX endOf
  rw [more_x, tell_x]
  by_cases h : takeX lim x < ((rangeX lo hi asc x).filter (qF asc has af)).length
  · rw [decide_eq_true h, if_pos rfl, if_pos h]
  · rw [decide_eq_false h, if_neg (by decide), if_neg h]
theorem tellsX_M {lo hi : Int} {asc : Bool} {lim : Int} {has : Bool} {af : EntB} {Rs : List ReplX} (h : ∀ x ∈ Rs, upX x = true) : tellsX (fun _ => true) ⟨lo, hi, asc, lim, has, af⟩ Rs = tellsM (qF asc has af) (rmX lo hi asc lim Rs) := by
  unfold tellsX tellsM rmX
  rw [up_all h, List.map_map]
  refine List.map_congr_left (fun x _ => ?_)
  exact tell_x lo hi asc lim has af x
theorem endsX_M {lo hi : Int} {asc : Bool} {lim : Int} {has : Bool} {af : EntB} {Rs : List ReplX} (h : ∀ x ∈ Rs, upX x = true) : endsX (fun _ => true) ⟨lo, hi, asc, lim, has, af⟩ Rs = endsM (qF asc has af) (rmX lo hi asc lim Rs) := by
  unfold endsX endsM rmX
  rw [up_all h, List.filterMap_map]
  congr 1
  funext x
  exact last_x lo hi asc lim has af x
theorem more_ends {T : List PairB → Bool} {a : AskB} {Xs : List ReplX} (hl : 1 ≤ a.lim) : (!(endsX T a Xs).isEmpty) = Xs.any fun x => upX x && moreX T a x := by
  cases h : Xs.any fun x => upX x && moreX T a x with
  | true =>
    obtain ⟨x, hx, h1⟩ := List.any_eq_true.1 h
    rw [Bool.and_eq_true] at h1
    obtain ⟨p, u, hp⟩ := more_some hl h1.2
    have : u ∈ endsX T a Xs := List.mem_filterMap.2 ⟨x, List.mem_filter.2 ⟨hx, h1.1⟩, by unfold lastX; rw [h1.2, hp]; simp⟩
    cases he : endsX T a Xs with
    | nil => rw [he] at this; cases this
    | cons => rfl
  | false =>
    cases he : endsX T a Xs with
    | nil => rfl
    | cons u us =>
      have : u ∈ endsX T a Xs := by rw [he]; exact List.mem_cons_self
      obtain ⟨x, hx, h1⟩ := List.mem_filterMap.1 this
      obtain ⟨h2, h3⟩ := List.mem_filter.1 hx
      have h4 : moreX T a x = true := by
        unfold lastX at h1
        split at h1
        · assumption
        · cases h1
      have h5 : (Xs.any fun x => upX x && moreX T a x) = true := List.any_eq_true.2 ⟨x, h2, by rw [h3, h4]; rfl⟩
      rw [h] at h5
      cases h5
theorem more_M {lo hi : Int} {asc : Bool} {lim : Int} {has : Bool} {af : EntB} {Rs : List ReplX} (h : ∀ x ∈ Rs, upX x = true) : (Rs.any fun x => upX x && moreX (fun _ => true) ⟨lo, hi, asc, lim, has, af⟩ x) = moreM (qF asc has af) (rmX lo hi asc lim Rs) := by
  unfold moreM rmX
  rw [List.any_map]
  have h2 : ∀ Ys : List ReplX, (∀ x ∈ Ys, upX x = true) → (Ys.any fun x => upX x && moreX (fun _ => true) ⟨lo, hi, asc, lim, has, af⟩ x) = Ys.any ((fun r : List EntB × Nat => decide (r.2 < (r.1.filter (qF asc has af)).length)) ∘ fun x => (rangeX lo hi asc x, takeX lim x)) := by
    intro Ys
    induction Ys with
    | nil => intro _; rfl
    | cons y Ys ih =>
      intro hy
      rw [List.any_cons, List.any_cons, ih (fun x hx => hy x (List.mem_cons_of_mem _ hx)), hy y List.mem_cons_self, more_x]
      rfl
  exact h2 Rs h
def atK (j : Nat) (x : ReplX) : ReplX := ⟨x.b, x.S, j, x.L, x.rv, x.lv⟩
theorem atK_next (j : Nat) (Rs : List ReplX) : (Rs.map (atK j)).map ReplX.next = Rs.map (atK (j + 1)) := by
  rw [List.map_map]
  rfl
theorem range_fst (lo hi : Int) (asc : Bool) (lim : Int) (Rs : List ReplX) : (rmX lo hi asc lim Rs).map Prod.fst = Rs.map (rangeX lo hi asc) := by
  unfold rmX
  rw [List.map_map]
  rfl
theorem range_at (lo hi : Int) (asc : Bool) (j : Nat) (Rs : List ReplX) : (Rs.map (atK j)).map (rangeX lo hi asc) = Rs.map (rangeX lo hi asc) := by
  rw [List.map_map]
  rfl
theorem take_pos {lim : Int} (h : 1 ≤ lim) {lo hi : Int} {asc : Bool} {Rs : List ReplX} : ∀ r ∈ rmX lo hi asc lim Rs, 1 ≤ r.2 := by
  intro r hr
  obtain ⟨x, _, rfl⟩ := List.mem_map.1 hr
  have := mostOf_pos (r := replyOf x) h
  show 1 ≤ (mostOf lim (replyOf x)).toNat
  omega
theorem strict_len {asc : Bool} {told all : List EntB} (h : StrictB asc told) (hs : ∀ e ∈ told, e ∈ all) : told.length ≤ all.length := by
  have h1 : told = uniqB asc (all.filter fun e => told.any fun t => sameE e t) := by
    refine strict_same h (uniq_strict _ _) (fun e => ?_)
    rw [uniq_mem, List.mem_filter, List.any_eq_true]
    exact ⟨fun he => ⟨hs e he, e, he, sameE_iff.2 rfl⟩, fun ⟨_, t, ht, h2⟩ => by rw [sameE_iff.1 h2]; exact ht⟩
  rw [h1]
  exact Nat.le_trans (uniq_len _ _) (List.length_filter_le _ _)
theorem FanP.make {B f : Nat} {W w' : World} {Rs : List ReplX} {ord ord' : List Nat} {rv ov ov' : Value} (h : FanP B W f Rs ord rv ov) (hB : B ≤ W.heap.size) (hm : MakeO W.heap.size f W w' rv ov' ord') (ho : ∀ i ∈ ord', i < Rs.length) : FanP B w' f Rs ord' rv ov' := by
  refine ⟨hm.blk, OwnR.fgT h.row hm.fg h.blk (by decide), OwnR.mono hm.plc hB, ⟨fun x hx => ?_, h.reps.apart⟩, h.low, ho⟩
  refine (h.reps.all x hx).fg hm.fg h.blk (fun e => ?_) (by decide) (by decide) (by decide)
  have h2 := (h.reps.all x hx).blk
  rw [e] at h2
  have h3 := h.blk
  unfold Blk at h2 h3
  rw [h2] at h3
  injection h3 with h3
  injection h3 with _ h3 _
  exact absurd h3 (by decide)
theorem fanOrder_any (B f : Nat) (Rs : List ReplX) (ord : List Nat) (rv ov : Value) (A : Option Addr) (n c : Nat) (l : List Int) (hN : Rs.length ≤ 4) (hn : n ≤ 9223372036854775807) (hl : ∀ z ∈ l, Num64z z) (W : World) (hB : B ≤ W.heap.size) (h : FanP B W f Rs ord rv ov) (hr : RowR numV 1 W A n l) (hrf : ∀ b o, A = some ⟨b, o, none⟩ → b ≠ f) :
    Calls Tryz.prog 16 #[.pointer (some ⟨f, 0, none⟩), .slice A n c] W fun e w' => e = .returned (.tuple #[]) ∧ ∃ ov', FanP B w' f Rs (orderO Rs.length l) rv ov' ∧ Se.FG f W w' := by
  obtain ⟨RA, rc, hrv⟩ := OwnR.shape h.row
  rw [List.length_map] at hrv
  subst hrv
  refine (ordFan_any f Rs.length RA rc ov A n c l hN hn hl W h.blk hr hrf).mono ?_
  rintro e w' ⟨rfl, ov', hm⟩
  exact ⟨rfl, ov', h.make hB hm (order_all _ l).ok.low, hm.fg⟩
theorem fetch_lit (B B1 f : Nat) (Bs : List Nat) (Rs : List ReplX) (ord : List Nat) (rv ov : Value) (ad : Addr) (T : List PairB → Bool) (AO : World → Prop) (a : AskX) (hn : Rs.length ≤ 4) (hord : OrdP Rs.length ord) (hok : ∀ x ∈ Rs, OkX B1 (.pointer (some ad)) T AO x) (hso : ∀ x ∈ Rs, (x.L.map EntX.b).Pairwise leB) (hbs : ∀ x ∈ Rs, x.b ∈ Bs) (hab : ∀ w w', AO w → Below w.heap.size w w' → AO w') (har : askR a.b = true) (hlm : a.lim ≤ 9223372036854775807) (W : World) (h : FanP B W f Rs ord rv ov) (hao : AO W) (ha : Good B1 W a.af)
    (mo : Bool) (er : Int) (M : List EntB) (Rs' : List ReplX) (hmo : (!(endsX T a.b (orderX Rs ord)).isEmpty) = mo) (her : (if (tellsX T a.b (orderX Rs ord)).isEmpty = true then 7 else 0 : Int) = er) (hM : fetchL a.asc (tellsX T a.b (orderX Rs ord)) (endsX T a.b (orderX Rs ord)) = M) (hR : askedL Rs ord ord.length = Rs') :
    Calls Tryz.prog 17 #[.pointer (some ⟨f, 0, none⟩), .agg a.V.toArray, .pointer (some ad)] W fun e w' => ∃ v L, e = .returned (.tuple #[v, .bool mo, .int .i64 er]) ∧ OwnE 0 w' W.heap.size v L ∧ L.map EntX.b = M ∧ FanP B w' f Rs' ord rv ov ∧ Hops 140 Bs W w' := by
  subst hmo her hM hR
  exact fetch_any B B1 f Bs Rs ord rv ov ad T AO a hn hord hok hso hbs hab har hlm W h hao ha
def tells0 (T : List PairB → Bool) (a : AskB) (ys : List (RepB × List EntB)) : List (List EntB) := (ys.filter fun y => !y.1.fail).map fun y => tellL T a (mostOf a.lim y.1) y.2
def ends0 (T : List PairB → Bool) (a : AskB) (ys : List (RepB × List EntB)) : List EntB := (ys.filter fun y => !y.1.fail).filterMap fun y => if moreL T a (mostOf a.lim y.1) y.2 = true then (tellL T a (mostOf a.lim y.1) y.2).getLast? else none
def seenX (x : ReplX) : RepB × List EntB := (replyOf x, x.L.map EntX.b)
theorem tells_seen (T : List PairB → Bool) (a : AskB) (Xs : List ReplX) : tellsX T a Xs = tells0 T a (Xs.map seenX) := by
  unfold tellsX tells0
  rw [List.filter_map, List.map_map]
  rfl
theorem ends_seen (T : List PairB → Bool) (a : AskB) (Xs : List ReplX) : endsX T a Xs = ends0 T a (Xs.map seenX) := by
  unfold endsX ends0
  rw [List.filter_map, List.filterMap_map]
  rfl
set_option maxRecDepth 100000 in
set_option maxHeartbeats 800000 in
theorem fetchBad_any (a : AskX) (P M : Value) (W : World) (har : askR a.b = false) :
    Calls Tryz.prog 17 #[P, .agg a.V.toArray, M] W fun e w' => e = .returned (.tuple #[.slice none 0 0, .bool false, .int .i64 1]) ∧ Below W.heap.size W w' := by
  obtain ⟨lo, hi, asc, lim, has, ⟨ats, aA, an, ac, als, aln⟩⟩ := a
  have hbA : Below W.heap.size W (W.alloc (.cells #[.int .i64 lo, .int .i64 hi, .bool asc, .int .i64 lim, .bool has, .int .i64 ats, .slice aA an ac, .string aln] 49)) := (Below.refl _ _).alloc (Nat.le_refl _) _
  have KA := Blk.new W 49 #[.int .i64 lo, .int .i64 hi, .bool asc, .int .i64 lim, .bool has, .int .i64 ats, .slice aA an ac, .string aln]
  obtain ⟨g0, hg0⟩ : ∃ g, W.heap.size = g := ⟨_, rfl⟩
  obtain ⟨w1, hw1⟩ : ∃ z, W.alloc (.cells #[.int .i64 lo, .int .i64 hi, .bool asc, .int .i64 lim, .bool has, .int .i64 ats, .slice aA an ac, .string aln] 49) = z := ⟨_, rfl⟩
  rw [hw1] at hbA KA
  have AR := Lib.hid (askRight_any ⟨lo, hi, asc, lim, has, ⟨ats, aA, an, ac, als, aln⟩⟩ w1)
  rw [har] at AR
  have HB1 := Lib.hid hbA
  have HKA := Lib.hid (show Blk w1 g0 49 #[.int .i64 lo, .int .i64 hi, .bool asc, .int .i64 lim, .bool has, .int .i64 ats, .slice aA an ac, .string aln] by rw [← hg0]; exact KA)
  have SZ := Lib.hid hg0
  replace AR : Hid (Calls Tryz.prog 37 #[.agg #[.int .i64 lo, .int .i64 hi, .bool asc, .int .i64 lim, .bool has, .int .i64 ats, .slice aA an ac, .string aln]] w1 fun e w' => e = .returned (.bool false) ∧ Below w1.heap.size w1 w') := AR
  have a0_ : w1.cell? ⟨g0, 0, none⟩ = some (.int .i64 lo) := (HKA.out.cell 0).trans rfl
  have a1_ : w1.cell? ⟨g0, 1, none⟩ = some (.int .i64 hi) := (HKA.out.cell 1).trans rfl
  have a2_ : w1.cell? ⟨g0, 2, none⟩ = some (.bool asc) := (HKA.out.cell 2).trans rfl
  have a3_ : w1.cell? ⟨g0, 3, none⟩ = some (.int .i64 lim) := (HKA.out.cell 3).trans rfl
  have a4_ : w1.cell? ⟨g0, 4, none⟩ = some (.bool has) := (HKA.out.cell 4).trans rfl
  have a5_ : w1.cell? ⟨g0, 5, none⟩ = some (.int .i64 ats) := (HKA.out.cell 5).trans rfl
  have a6_ : w1.cell? ⟨g0, 6, none⟩ = some (.slice aA an ac) := (HKA.out.cell 6).trans rfl
  have a7_ : w1.cell? ⟨g0, 7, none⟩ = some (.string aln) := (HKA.out.cell 7).trans rfl
  clear KA hbA har
  show Calls Tryz.prog 17 #[P, .agg #[.int .i64 lo, .int .i64 hi, .bool asc, .int .i64 lim, .bool has, .int .i64 ats, .slice aA an ac, .string aln], M] W _
  go_enter Tryz.func17, Tryz.ntmps17
  go_wp2_with fail
  (try rw [hw1])
  (try rw [SZ.out])
  refine AR.out.mono ?_
  rintro e w2 ⟨rfl, hb⟩
  have HB2 := Lib.hid (hop HB1.out (by have := HB1.out.size; omega) hb)
  clear hb a0_ a1_ a2_ a3_ a4_ a5_ a6_ a7_ hw1 AR hg0
  go_wp2
  go_ret3
  exact ⟨rfl, HB2.out⟩
theorem fanNewNone_any (W : World) : Calls Tryz.prog 24 #[.slice none 0 0] W fun e w' => e = .returned (.tuple #[.pointer none, .int .i64 1]) ∧ W = w' := by
  go_enter Tryz.func24, Tryz.ntmps24
  go_wp2
  go_ret2
  exact ⟨rfl, rfl⟩
theorem fanNewNil_any (A : Option Addr) (n c : Nat) (l : List (Option Nat)) (h1 : 1 ≤ n) (h4 : n ≤ 4) (hl : l.any Option.isNone = true) (W : World) (h : RowR ptrO 1 W A n l) : Calls Tryz.prog 24 #[.slice A n c] W fun e w' => e = .returned (.tuple #[.pointer none, .int .i64 1]) ∧ W = w' := by
  have CP := Lib.hid (containsP_any A n c l (by omega) W h)
  rw [hl] at CP
  have n1 : ¬ (n : Int) < 1 := by omega
  have n4 : ¬ (n : Int) > 4 := by omega
  have n4b : ¬ (4 : Int) < (n : Int) := by omega
  clear h hl
  go_enter Tryz.func24, Tryz.ntmps24
  go_wp2_with fail
  refine CP.out.mono ?_
  rintro e w2 ⟨rfl, rfl⟩
  go_wp2
  go_ret2
  exact ⟨rfl, rfl⟩
theorem okX_new {B1 b : Nat} {M : Value} {T : List PairB → Bool} {AO : World → Prop} {S : List RepB} {k : Nat} {L : List EntX} {rv lv : Value} (es : List EntB) (hk : k ≤ 1000000) (hs : S.length ≤ 100000) (he : es.length ≤ 1000) (hm : (replyAt S k).most ≤ 9223372036854775807) (hp : (L.map EntX.b).Perm (newE es)) (hb : B1 ≤ b) (ht : TestP b M T AO) : OkX B1 M T AO ⟨b, S, k, L, rv, lv⟩ := by
  refine ⟨hk, hs, ?_, fun x hx => (List.mem_filter.1 (hp.mem_iff.1 (List.mem_map_of_mem hx))).2, hm, hb, ht⟩
  have h1 := hp.length_eq
  rw [List.length_map] at h1
  have h2 : (newE es).length ≤ es.length := List.length_filter_le _ _
  show L.length ≤ 1000
  omega
end Go.Proofs.YtdaainifkldcpaaGreatDoor
