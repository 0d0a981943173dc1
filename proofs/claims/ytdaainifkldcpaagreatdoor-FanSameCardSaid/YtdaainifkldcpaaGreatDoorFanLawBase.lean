-- shaken
import Derived.Test.YtdaainifkldcpaaGreatDoorFanExam
import Derived.Test.YtdaainifkldcpaaGreatDoorStoLaid
import Derived.Test.YtdaainifkldcpaaGreatDoorStoWholeMath
import Derived.Deep.DeepCutAuto
import Derived.Deep.CutBlock
import Derived.Outline
namespace Go.Proofs.YtdaainifkldcpaaGreatDoor
open Go.RowKit
set_option linter.unusedVariables false
set_option linter.unusedSimpArgs false
theorem sameG {B1 B2 : Nat} (x y : EntX) (w : World) (hx : Good B1 w x) (hy : Good B2 w y) : Calls Tryz.prog 26 #[.agg #[.int .i64 x.ts, .slice x.A x.n x.c, .string x.ln], .agg #[.int .i64 y.ts, .slice y.A y.n y.c, .string y.ln]] w fun e w' => e = .returned (.bool (sameE x.b y.b)) ∧ Below w.heap.size w w' :=
  entSame_any x.ts y.ts x.A y.A x.n y.n x.c y.c x.ls y.ls x.ln y.ln hx.len hy.len w hx.set.1 hy.set.1
theorem aheadG {B1 B2 : Nat} (x y : EntX) (asc : Bool) (w : World) (hx : Good B1 w x) (hy : Good B2 w y) : Calls Tryz.prog 25 #[.agg #[.int .i64 x.ts, .slice x.A x.n x.c, .string x.ln], .agg #[.int .i64 y.ts, .slice y.A y.n y.c, .string y.ln], .bool asc] w fun e w' => e = .returned (.bool (aheadB x.b y.b asc)) ∧ Below w.heap.size w w' :=
  entAhead_any x.ts y.ts x.A y.A x.n y.n x.c y.c x.ls y.ls x.ln y.ln asc hx.len hy.len w hx.set.1 hy.set.1
theorem entV_many (l : List EntX) : ∀ u ∈ rowV EntX.V l, u.oneCell' = true := by
  intro u hu
  obtain ⟨x, _, hx⟩ := List.mem_flatMap.1 hu
  exact entV_one x u hx
theorem ents_of {B B' : Nat} {w : World} {A : Option Addr} {n c : Nat} {l : List EntX} (h : OwnE B w B' (.slice A n c) l) : l.length = n ∧ Ents B w A n l ∧ n ≤ c := by
  obtain ⟨A2, c2, e, h1, _, h2⟩ := h.ents
  injection e with e1 e2 e3
  subst e1 e3
  rw [← e2] at h1 h2
  exact ⟨e2.symm, h2, h1⟩
structure AtE (B : Nat) (w : World) (g i : Nat) (x : EntX) : Prop where
  c0 : w.cell? ⟨g, i * 3, none⟩ = some (.int .i64 x.ts)
  c1 : w.cell? ⟨g, i * 3 + 1, none⟩ = some (.slice x.A x.n x.c)
  c2 : w.cell? ⟨g, i * 3 + 2, none⟩ = some (.string x.ln)
  good : Good B w x
theorem AtE.below {B : Nat} {w w' : World} {g i : Nat} {x : EntX} (h : AtE B w g i x) (hb : Below w.heap.size w w') : AtE B w' g i x := by
  have hg : g < w.heap.size := by
    rcases Nat.lt_or_ge g w.heap.size with h1 | h1
    · exact h1
    · have := h.c0
      unfold World.cell? at this
      rw [Array.getElem?_eq_none h1] at this
      simp at this
  exact ⟨(hb.cell (p := ⟨g, i * 3, none⟩) hg).trans h.c0, (hb.cell (p := ⟨g, i * 3 + 1, none⟩) hg).trans h.c1, (hb.cell (p := ⟨g, i * 3 + 2, none⟩) hg).trans h.c2, h.good.below hb⟩
theorem ownE_at {B B' : Nat} {w : World} {A : Option Addr} {n c : Nat} {l : List EntX} (h : OwnE B w B' (.slice A n c) l) {i : Nat} {x : EntX} (hx : l[i]? = some x) : ∃ g, A = some ⟨g, 0, none⟩ ∧ AtE B w g i x := by
  have hi := (List.getElem?_eq_some_iff.1 hx).1
  obtain ⟨g, cap, e, _, _, _, hc⟩ := OwnR.at_ entV_len h.1 (by omega)
  injection e with e1 _ _
  exact ⟨g, e1, (hc i 0 x hx (by decide)).trans rfl, (hc i 1 x hx (by decide)).trans rfl, (hc i 2 x hx (by decide)).trans rfl, h.2 x (List.mem_of_getElem? hx)⟩
def thereB (T : List EntX) (e : EntB) (k : Nat) : Bool := (T.take k).any fun y => sameE y.b e
theorem there_next (T : List EntX) (e : EntB) (k : Nat) (y : EntX) (h : T[k]? = some y) : thereB T e (k + 1) = (thereB T e k || sameE y.b e) := by
  unfold thereB
  rw [List.take_add_one, h, List.any_append]
  simp
theorem there_all (T : List EntX) (e : EntB) (k : Nat) (hk : T.length ≤ k) : thereB T e k = true ↔ e ∈ T.map EntX.b := by
  unfold thereB
  rw [List.take_of_length_le hk, List.any_eq_true, List.mem_map]
  constructor
  · rintro ⟨x, hx, hs⟩
    exact ⟨x, hx, sameE_iff.1 hs⟩
  · rintro ⟨x, hx, hs⟩
    exact ⟨x, hx, sameE_iff.2 hs⟩
theorem sorted_one {l m : List EntB} (h1 : l.Pairwise leB) (h2 : m.Pairwise leB) (hp : l.Perm m) : l = m := by
  refine List.Perm.eq_of_pairwise (le := leB) (fun a b _ _ hab hba => ?_) h1 h2 hp
  unfold leB at hab hba
  have h3 := entC_ord.anti a b
  exact entC_ord.zero a b (by omega)
structure EndsP (T : List PairB → Bool) (a : AskB) (P C D : List EntB) (m1 m2 : Bool) : Prop where
  mem : ∀ e, e ∈ C ++ D → (e ∈ P ↔ (m1 = true → ∀ u, C.getLast? = some u → aheadB u e a.asc = false) ∧ (m2 = true → ∀ u, D.getLast? = some u → aheadB u e a.asc = false))
  len : P.length ≤ C.length + D.length
  some1 : m1 = true → C ≠ []
  some2 : m2 = true → D ≠ []
theorem ends_two {T : List PairB → Bool} {a : AskB} {x y : ReplX} (hx : upX x = true) (hy : upX y = true) (hl : 1 ≤ a.lim) :
    EndsP T a (fetchL a.asc (tellsX T a [x, y]) (endsX T a [x, y])) (tellX T a x) (tellX T a y) (moreX T a x) (moreX T a y) ∧ (!(endsX T a [x, y]).isEmpty) = (moreX T a x || moreX T a y) := by
  have ht : tellsX T a [x, y] = [tellX T a x, tellX T a y] := by unfold tellsX; simp [List.filter_cons, hx, hy]
  have he : ∀ u, u ∈ endsX T a [x, y] ↔ lastX T a x = some u ∨ lastX T a y = some u := by
    intro u
    unfold endsX
    simp [List.filter_cons, hx, hy, List.mem_filterMap]
  refine ⟨⟨fun e hm => ?_, ?_, fun h => ?_, fun h => ?_⟩, ?_⟩
  · rw [(fetchL_ok a.asc (tellsX T a [x, y]) (endsX T a [x, y])).mem e, ht]
    constructor
    · rintro ⟨_, h2⟩
      refine ⟨fun hm u hu => h2 u ((he u).2 (.inl ?_)), fun hm u hu => h2 u ((he u).2 (.inr ?_))⟩
      · unfold lastX; rw [hm, if_pos rfl]; exact hu
      · unfold lastX; rw [hm, if_pos rfl]; exact hu
    · rintro ⟨h1, h2⟩
      refine ⟨?_, fun u hu => ?_⟩
      · rcases List.mem_append.1 hm with h | h
        · exact ⟨_, List.mem_cons_self, h⟩
        · exact ⟨_, List.mem_cons_of_mem _ List.mem_cons_self, h⟩
      · rcases (he u).1 hu with h | h
        · unfold lastX at h
          split at h
          · rename_i h3; exact h1 h3 u h
          · cases h
        · unfold lastX at h
          split at h
          · rename_i h3; exact h2 h3 u h
          · cases h
  · refine Nat.le_trans (fetchL_len _ _ _) ?_
    rw [ht]
    simp
  · obtain ⟨p, u, e⟩ := more_some hl h
    rw [e]
    simp
  · obtain ⟨p, u, e⟩ := more_some hl h
    rw [e]
    simp
  · rw [more_ends hl]
    simp [hx, hy]
def askD : AskB := ⟨-100, 100, true, 50, false, ⟨0, [], ⟨#[]⟩⟩⟩
theorem tell_down {x : ReplX} {all : List EntB} (hp : (x.L.map EntX.b).Perm all) (hin : ∀ e ∈ all, inT (-100) 100 e = true) (hl : all.length ≤ 50) (hm : mostOf 50 (replyOf x) = 50) : tellX (fun _ => true) askD x = x.L.map EntX.b ∧ moreX (fun _ => true) askD x = false := by
  have h1 : (x.L.map EntX.b).length ≤ (50 : Int).toNat := by rw [hp.length_eq]; exact hl
  have h2 := tell_all (T := fun _ => true) (a := askD) h1
  have h3 : metL (fun _ => true) askD (x.L.map EntX.b) = x.L.map EntX.b := by
    unfold askD
    rw [met_in]
    exact List.filter_eq_self.2 (fun e he => hin e (hp.mem_iff.1 he))
  have h4 : mostOf askD.lim (replyOf x) = 50 := hm
  unfold tellX moreX
  rw [h4, h2.1, h2.2, h3]
  exact ⟨rfl, rfl⟩
theorem down_fetch {Rs Xs : List ReplX} {all : List EntB} (hX : ∀ x, x ∈ Xs ↔ x ∈ Rs) (hp : ∀ x ∈ Rs, (x.L.map EntX.b).Perm all) (hin : ∀ e ∈ all, inT (-100) 100 e = true) (hl : all.length ≤ 50) (hm : ∀ x ∈ Rs, mostOf 50 (replyOf x) = 50) :
    endsX (fun _ => true) askD Xs = [] ∧ (tellsX (fun _ => true) askD Xs = [] ↔ ∀ x ∈ Rs, upX x = false) ∧
    (∀ e, e ∈ fetchL true (tellsX (fun _ => true) askD Xs) [] ↔ (∃ x ∈ Rs, upX x = true) ∧ e ∈ all) ∧ (fetchL true (tellsX (fun _ => true) askD Xs) []).length ≤ all.length := by
  have he : endsX (fun _ => true) askD Xs = [] := by
    cases h : endsX (fun _ => true) askD Xs with
    | nil => rfl
    | cons u us =>
      have hu : u ∈ endsX (fun _ => true) askD Xs := by rw [h]; exact List.mem_cons_self
      obtain ⟨x, hx, h1⟩ := List.mem_filterMap.1 hu
      have hx2 := (hX x).1 (List.mem_filter.1 hx).1
      unfold lastX at h1
      rw [(tell_down (hp x hx2) hin hl (hm x hx2)).2, if_neg (by decide)] at h1
      cases h1
  have hmem : ∀ e, e ∈ fetchL true (tellsX (fun _ => true) askD Xs) [] ↔ (∃ x ∈ Rs, upX x = true) ∧ e ∈ all := by
    intro e
    rw [(fetchL_ok true _ []).mem e]
    constructor
    · rintro ⟨⟨t, ht, h1⟩, _⟩
      obtain ⟨x, hx, rfl⟩ := List.mem_map.1 ht
      obtain ⟨hx1, hx2⟩ := List.mem_filter.1 hx
      have hx3 := (hX x).1 hx1
      rw [(tell_down (hp x hx3) hin hl (hm x hx3)).1] at h1
      exact ⟨⟨x, hx3, hx2⟩, (hp x hx3).mem_iff.1 h1⟩
    · rintro ⟨⟨x, hx, hu⟩, h1⟩
      refine ⟨⟨tellX (fun _ => true) askD x, List.mem_map_of_mem (List.mem_filter.2 ⟨(hX x).2 hx, hu⟩), ?_⟩, fun u hu => by cases hu⟩
      rw [(tell_down (hp x hx) hin hl (hm x hx)).1]
      exact (hp x hx).mem_iff.2 h1
  refine ⟨he, ⟨fun h x hx => ?_, fun h => ?_⟩, hmem, strict_len (fetchL_ok true _ []).strict (fun e h => ((hmem e).1 h).2)⟩
  · cases hu : upX x with
    | false => rfl
    | true =>
      have : tellX (fun _ => true) askD x ∈ tellsX (fun _ => true) askD Xs := List.mem_map_of_mem (List.mem_filter.2 ⟨(hX x).2 hx, hu⟩)
      rw [h] at this
      cases this
  · unfold tellsX
    rw [List.map_eq_nil_iff, List.filter_eq_nil_iff]
    intro x hx
    rw [h x ((hX x).1 hx)]
    decide
def okE (e : EntB) : Prop := rightE e = true ∧ inT (-100) 100 e = true
theorem own_okE {B : Nat} {w : World} {x : ItemX} (h : GoodI B w x) : okE (itemB (ownI x)) := by
  refine ⟨?_, ?_⟩
  · show (rightB (fewL x.lt) && decide ((lineTs.getD (x.k % 8) .empty).size ≤ 256)) = true
    rw [few_right, decide_eq_true (Nat.le_trans (line_size x.k) (by decide))]
    rfl
  · have h1 : -12 < x.t.tmod 12 ∧ x.t.tmod 12 < 12 := by
      rcases Int.le_total 0 x.t with g | g
      · rw [Int.tmod_eq_emod_of_nonneg g]; omega
      · have e : x.t.tmod 12 = -((-x.t) % 12) := by
          rw [← Int.tmod_eq_emod_of_nonneg (by omega), Int.neg_tmod, Int.neg_neg]
        rw [e]; omega
    show (decide (-100 ≤ x.t.tmod 12) && decide (x.t.tmod 12 < 100)) = true
    rw [decide_eq_true (by omega), decide_eq_true (by omega)]
    rfl
structure DownX (w0 : Nat) (all : List EntB) (x : ReplX) : Prop where
  k : x.k = 0
  s : x.S.length ≤ 1
  perm : (x.L.map EntX.b).Perm (newE all)
  sort : (x.L.map EntX.b).Pairwise leB
  low : w0 ≤ x.b
  most : mostOf 50 (replyOf x) = 50 ∧ (replyOf x).most = 0
def upN (Rs : List ReplX) : Nat := (Rs.filter upX).length
theorem sameE_comm (a b : EntB) : sameE a b = sameE b a := by
  rw [Bool.eq_iff_iff, sameE_iff, sameE_iff]
  exact eq_comm
theorem infoPtrD : (Tryz.prog.info? 86).map (fun i => (i.zero, i.size, i.bytes)) = some (some (.pointer none), 1, 8) := by kernel_rfl
theorem RepP.grewP {B : Nat} {w w' : World} {b : Nat} {S : List RepB} {k : Nat} {L : List EntX} {rv lv : Value} {r : Option Nat} (h : RepP B w b S k L rv lv) (hg : w.grownBy w' r) (hr : ∀ g, r = some g → ∃ cur, w.heap[g]? = some (.cells cur 86 (0, 0))) : RepP B w' b S k L rv lv := by
  refine ⟨(hg.block b h.blk.lt (fun e => ?_)).trans h.blk, OwnR.grew2 h.rep hg (fun g e1 e2 => ?_), h.ent.grewT hg (fun g e => ?_), h.low⟩
  · obtain ⟨cur, hc⟩ := hr b e.symm
    exact blk_ne h.blk hc (by decide)
  · obtain ⟨cur, hc⟩ := hr g e2
    obtain ⟨_, cur2, hc2⟩ := own_row_type h.rep g e1
    exact cells_ne hc hc2 (by decide)
  · obtain ⟨cur, hc⟩ := hr g e
    refine ⟨fun e1 => ?_, cur, _, (by decide), hc⟩
    obtain ⟨_, cur2, hc2⟩ := own_row_type h.ent.1 g e1
    exact cells_ne hc hc2 (by decide)
end Go.Proofs.YtdaainifkldcpaaGreatDoor
