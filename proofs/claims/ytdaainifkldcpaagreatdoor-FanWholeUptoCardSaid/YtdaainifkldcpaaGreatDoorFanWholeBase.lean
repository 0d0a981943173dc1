-- shaken
import Derived.Test.YtdaainifkldcpaaGreatDoorFanExam
import Derived.Test.YtdaainifkldcpaaGreatDoorStoLaid
import Derived.Test.YtdaainifkldcpaaGreatDoorItems
import Derived.Test.YtdaainifkldcpaaGreatDoorStoWholeMath
import Derived.Deep.DeepCutAuto
import Derived.Deep.CutBlock
import Derived.Outline
import Derived.Test.YtdaainifkldcpaaGreatDoorEntBackMath
import Derived.Test.YtdaainifkldcpaaGreatDoorStoRange
import Derived.Test.YtdaainifkldcpaaGreatDoorBackAny
import Derived.Test.YtdaainifkldcpaaGreatDoorStoNone
import Derived.Test.YtdaainifkldcpaaGreatDoorBase
import Derived.Test.YtdaainifkldcpaaGreatDoorEntRow
namespace Go.Proofs.YtdaainifkldcpaaGreatDoor
open Go.RowKit
set_option linter.unusedVariables false
set_option linter.unusedSimpArgs false
theorem sameG {B1 B2 : Nat} (x y : EntX) (w : World) (hx : Good B1 w x) (hy : Good B2 w y) : Calls Tryz.prog 26 #[.agg #[.int .i64 x.ts, .slice x.A x.n x.c, .string x.ln], .agg #[.int .i64 y.ts, .slice y.A y.n y.c, .string y.ln]] w fun e w' => e = .returned (.bool (sameE x.b y.b)) ∧ Below w.heap.size w w' :=
  entSame_any x.ts y.ts x.A y.A x.n y.n x.c y.c x.ls y.ls x.ln y.ln hx.len hy.len w hx.set.1 hy.set.1
theorem aheadG {B1 B2 : Nat} (x y : EntX) (asc : Bool) (w : World) (hx : Good B1 w x) (hy : Good B2 w y) : Calls Tryz.prog 25 #[.agg #[.int .i64 x.ts, .slice x.A x.n x.c, .string x.ln], .agg #[.int .i64 y.ts, .slice y.A y.n y.c, .string y.ln], .bool asc] w fun e w' => e = .returned (.bool (aheadB x.b y.b asc)) ∧ Below w.heap.size w w' :=
  entAhead_any x.ts y.ts x.A y.A x.n y.n x.c y.c x.ls y.ls x.ln y.ln asc hx.len hy.len w hx.set.1 hy.set.1
theorem entV_many (l : List EntX) : ∀ u ∈ rowV EntX.V l, u.oneCell' = true := by
  intro u hu
  obtain ⟨x, _, hx⟩ := List.mem_flatMap.1 hu
  exact entV_one x u hx
theorem ents_of {B B' : Nat} {w : World} {A : Option Addr} {n c : Nat} {l : List EntX} (h : OwnE B w B' (.slice A n c) l) : l.length = n ∧ Ents B w A n l ∧ n ≤ c := by
  obtain ⟨A2, c2, e, h1, _, h2⟩ := h.ents
  injection e with e1 e2 e3
  subst e1 e3
  rw [← e2] at h1 h2
  exact ⟨e2.symm, h2, h1⟩
structure AtE (B : Nat) (w : World) (g i : Nat) (x : EntX) : Prop where
  c0 : w.cell? ⟨g, i * 3, none⟩ = some (.int .i64 x.ts)
  c1 : w.cell? ⟨g, i * 3 + 1, none⟩ = some (.slice x.A x.n x.c)
  c2 : w.cell? ⟨g, i * 3 + 2, none⟩ = some (.string x.ln)
  good : Good B w x
theorem AtE.below {B : Nat} {w w' : World} {g i : Nat} {x : EntX} (h : AtE B w g i x) (hb : Below w.heap.size w w') : AtE B w' g i x := by
  have hg : g < w.heap.size := by
    rcases Nat.lt_or_ge g w.heap.size with h1 | h1
    · exact h1
    · have := h.c0
      unfold World.cell? at this
      rw [Array.getElem?_eq_none h1] at this
      simp at this
  exact ⟨(hb.cell (p := ⟨g, i * 3, none⟩) hg).trans h.c0, (hb.cell (p := ⟨g, i * 3 + 1, none⟩) hg).trans h.c1, (hb.cell (p := ⟨g, i * 3 + 2, none⟩) hg).trans h.c2, h.good.below hb⟩
theorem ownE_at {B B' : Nat} {w : World} {A : Option Addr} {n c : Nat} {l : List EntX} (h : OwnE B w B' (.slice A n c) l) {i : Nat} {x : EntX} (hx : l[i]? = some x) : ∃ g, A = some ⟨g, 0, none⟩ ∧ AtE B w g i x := by
  have hi := (List.getElem?_eq_some_iff.1 hx).1
  obtain ⟨g, cap, e, _, _, _, hc⟩ := OwnR.at_ entV_len h.1 (by omega)
  injection e with e1 _ _
  exact ⟨g, e1, (hc i 0 x hx (by decide)).trans rfl, (hc i 1 x hx (by decide)).trans rfl, (hc i 2 x hx (by decide)).trans rfl, h.2 x (List.mem_of_getElem? hx)⟩
def thereB (T : List EntX) (e : EntB) (k : Nat) : Bool := (T.take k).any fun y => sameE y.b e
theorem there_next (T : List EntX) (e : EntB) (k : Nat) (y : EntX) (h : T[k]? = some y) : thereB T e (k + 1) = (thereB T e k || sameE y.b e) := by
  unfold thereB
  rw [List.take_add_one, h, List.any_append]
  simp
theorem there_all (T : List EntX) (e : EntB) (k : Nat) (hk : T.length ≤ k) : thereB T e k = true ↔ e ∈ T.map EntX.b := by
  unfold thereB
  rw [List.take_of_length_le hk, List.any_eq_true, List.mem_map]
  constructor
  · rintro ⟨x, hx, hs⟩
    exact ⟨x, hx, sameE_iff.1 hs⟩
  · rintro ⟨x, hx, hs⟩
    exact ⟨x, hx, sameE_iff.2 hs⟩
def clearL (R : List RepB) (k : Nat) : List RepB := (R.take k).map (fun r => (⟨false, r.most⟩ : RepB)) ++ R.drop k
theorem clearL_len (R : List RepB) (k : Nat) (h : k ≤ R.length) : (clearL R k).length = R.length := by
  unfold clearL
  rw [List.length_append, List.length_map, List.length_take, List.length_drop]
  omega
theorem clearL_at (R : List RepB) (k : Nat) (r : RepB) (h : R[k]? = some r) : (clearL R k)[k]? = some r := by
  have hk : k < R.length := by
    rcases Nat.lt_or_ge k R.length with h1 | h1
    · exact h1
    · rw [List.getElem?_eq_none h1] at h; cases h
  unfold clearL
  rw [List.getElem?_append_right (by rw [List.length_map, List.length_take]; omega), List.length_map, List.length_take, List.getElem?_drop]
  rw [show min k R.length = k by omega, Nat.sub_self, Nat.add_zero]
  exact h
theorem clearL_next (R : List RepB) (k : Nat) (r : RepB) (h : R[k]? = some r) : (clearL R k).set k ⟨false, r.most⟩ = clearL R (k + 1) := by
  have hk : k < R.length := by
    rcases Nat.lt_or_ge k R.length with h1 | h1
    · exact h1
    · rw [List.getElem?_eq_none h1] at h; cases h
  unfold clearL
  have e1 : R.drop k = r :: R.drop (k + 1) := by
    rw [List.drop_eq_getElem_cons hk]
    congr 1
    exact Option.some.inj ((List.getElem?_eq_getElem hk).symm.trans h)
  rw [List.set_append_right _ _ (by rw [List.length_map, List.length_take]; omega), List.length_map, List.length_take, show min k R.length = k by omega, Nat.sub_self, e1, List.take_add_one, h, List.map_append, List.append_assoc]
  rfl
theorem clearL_all (R : List RepB) : clearL R R.length = R.map (fun r => (⟨false, r.most⟩ : RepB)) := by
  unfold clearL
  rw [List.take_length, List.drop_length, List.append_nil]
theorem clear_reply (R : List RepB) (k : Nat) (h : ∀ r ∈ R, r.most ≤ 9223372036854775807) : (replyAt (R.map (fun r => (⟨false, r.most⟩ : RepB))) k).fail = false ∧ (replyAt (R.map (fun r => (⟨false, r.most⟩ : RepB))) k).most ≤ 9223372036854775807 := by
  unfold replyAt
  rw [List.getD_eq_getElem?_getD, List.getElem?_map]
  rcases hr : R[k]? with _ | r
  · exact ⟨rfl, by show (0 : Int) ≤ _; decide⟩
  · exact ⟨rfl, h r (List.mem_of_getElem? hr)⟩
theorem own_right {B : Nat} {w : World} {x : ItemX} (h : GoodI B w x) : rightE (itemB (ownI x)) = true := by
  show (rightB (fewL x.lt) && decide ((lineTs.getD (x.k % 8) .empty).size ≤ 256)) = true
  rw [few_right, decide_eq_true (Nat.le_trans (line_size x.k) (by decide))]
  rfl
structure StepW (F : List EntB) (M : List EntB) (z hi : Int) (asc : Bool) (lim : Int) (has : Bool) (af : EntB) (told : List EntB) (k : Nat) (rem : List EntB) : Prop where
  whole : Whole F asc told rem
  met : rem = metL (fun _ => true) ⟨z, hi, asc, lim, has, af⟩ M
  num : k + rem.length ≤ 12
theorem StepW.next {F M told rem p : List EntB} {z hi lim : Int} {asc has : Bool} {af l : EntB} {k : Nat} (h : StepW F M z hi asc lim has af told k rem) (hF : F = (dirL asc M).filter (inT z hi)) (hFs : F.Pairwise (leD asc)) (m : Nat) (hp : rem.take m = p ++ [l]) : StepW F M z hi asc lim true l (told ++ (p ++ [l])) (k + 1) (F.filter fun e => aheadB l e asc) := by
  have e1 : rem = p ++ [l] ++ rem.drop m := by rw [← hp, List.take_append_drop]
  obtain ⟨h1, h2⟩ := h.whole.next e1 hFs
  exact ⟨h1, by rw [met_more, ← hF], by have := h.num; omega⟩
theorem sameE_comm (a b : EntB) : sameE a b = sameE b a := by
  rw [Bool.eq_iff_iff, sameE_iff, sameE_iff]
  exact eq_comm
theorem infoPtrD : (Tryz.prog.info? 86).map (fun i => (i.zero, i.size, i.bytes)) = some (some (.pointer none), 1, 8) := by kernel_rfl
theorem RepP.grewP {B : Nat} {w w' : World} {b : Nat} {S : List RepB} {k : Nat} {L : List EntX} {rv lv : Value} {r : Option Nat} (h : RepP B w b S k L rv lv) (hg : w.grownBy w' r) (hr : ∀ g, r = some g → ∃ cur, w.heap[g]? = some (.cells cur 86 (0, 0))) : RepP B w' b S k L rv lv := by
  refine ⟨(hg.block b h.blk.lt (fun e => ?_)).trans h.blk, OwnR.grew2 h.rep hg (fun g e1 e2 => ?_), h.ent.grewT hg (fun g e => ?_), h.low⟩
  · obtain ⟨cur, hc⟩ := hr b e.symm
    exact blk_ne h.blk hc (by decide)
  · obtain ⟨cur, hc⟩ := hr g e2
    obtain ⟨_, cur2, hc2⟩ := own_row_type h.rep g e1
    exact cells_ne hc hc2 (by decide)
  · obtain ⟨cur, hc⟩ := hr g e
    refine ⟨fun e1 => ?_, cur, _, (by decide), hc⟩
    obtain ⟨_, cur2, hc2⟩ := own_row_type h.ent.1 g e1
    exact cells_ne hc hc2 (by decide)

open Go.ChangeShapes Go.WideShapes
structure CallX where
  a : AskX
  own : Bool
  fr : Int
  lg : Int
  lm : Int
  e : ItemX
def CallX.V (c : CallX) : List Value := c.a.V ++ [.bool c.own, .int .i8 c.fr, .int .u8 c.lg, .int .u8 c.lm] ++ c.e.V
structure GoodAsk (B : Nat) (w : World) (a : AskX) : Prop where
  af : Good B w a.af
  lo : -9223372036854775808 ≤ a.lo ∧ a.lo ≤ 9223372036854775807
  hi : -9223372036854775808 ≤ a.hi ∧ a.hi ≤ 9223372036854775807
  lim : -9223372036854775808 ≤ a.lim ∧ a.lim ≤ 9223372036854775807
structure GoodC (B : Nat) (w : World) (c : CallX) : Prop where
  a : GoodAsk B w c.a
  fr : -128 ≤ c.fr ∧ c.fr ≤ 127
  lg : 0 ≤ c.lg ∧ c.lg ≤ 255
  lm : 0 ≤ c.lm ∧ c.lm ≤ 255
  e : GoodI B w c.e
theorem GoodC.below {B : Nat} {w w' : World} {c : CallX} (h : GoodC B w c) (hb : Below w.heap.size w w') : GoodC B w' c := ⟨⟨h.a.af.below hb, h.a.lo, h.a.hi, h.a.lim⟩, h.fr, h.lg, h.lm, h.e.below hb⟩
section
variable {H : Type} {enc : TypeId × Value → H} {w : World} {base : Nat} {spare : Nat → Bool} {held : Bool}
end

end Go.Proofs.YtdaainifkldcpaaGreatDoor
namespace Go.Proofs.YtdaainifkldcpaaGreatDoor
open Go.RowKit
set_option linter.unusedVariables false
set_option linter.unusedSimpArgs false
theorem FanP.fgO {B g T : Nat} {w w' : World} {f : Nat} {Rs : List ReplX} {ord : List Nat} {rv ov : Value} {cur : Array Value} (h : FanP B w f Rs ord rv ov) (hf : Se.FG g w w') (hb : Blk w g T cur)
    (h1 : T ≠ 115) (h2 : T ≠ 86) (h3 : T ≠ 3) (h4 : T ≠ 85) (h5 : T ≠ 47) (h6 : T ≠ 165) (h7 : T ≠ 140) : FanP B w' f Rs ord rv ov :=
  ⟨h.blk.fg hf (blk_apart h.blk hb h1), OwnR.fgT h.row hf hb h2, OwnR.fgT h.plc hf hb h3, ⟨fun x hx => RepP.fg (h.reps.all x hx) hf hb (blk_apart (h.reps.all x hx).blk hb h7) h4 h5 h6, h.reps.apart⟩, h.low, h.ordok⟩
theorem wpList_append_rowR {α : Type} {V : α → List Value} {P : Program} {w : World} {ops : Array Oper} {rest : List Oper} {o : Oper} {a : Act} {Q : Exit → Act → World → Prop} (hgd : o.guard = none) (s x : Operand) (t : TypeId)
    (ho : o.op = .call { callee := .builtin .append, args := #[s, x], argTypes := #[t, t] })
    (base : Nat) (e : TypeId) (i : TypeInfo) (z : Value) (size bytes : Nat) (ht : P.underlying t = some (.slice e)) (hi : P.info? e = some i) (hz : i.zero = some z)
    (hsize : i.size = size) (hby : i.bytes = bytes) (hzs : z.cells.size = size) (hsz : 0 < size) (hV : ∀ a, (V a).length = size)
    (A : Option Addr) (m c : Nat) (l : List α) (hs : a.eval s = .slice none 0 0) (hx : a.eval x = .slice A m c) (hr : RowR V size w A m l) (h1 : ∀ u ∈ rowV V l, u.oneCell' = true)
    (h63 : m ≤ maxLen) (hbytes : m * bytes ≤ 140737488355328) (hbase : base ≤ w.heap.size)
    (h : ∀ v' w', OwnR V size w' base e v' l → w.grownBy w' none → wpList P ops Q rest (a.put o.dst v') w') :
    wpList P ops Q (o :: rest) a w := by
  refine wpList_plain hgd fun K hK => ?_
  have key : ∃ v' w', (Builtin.append_ #[t, t] o.type #[.slice none 0 0, .slice A m c]).run P w = .ok v' w' ∧ w'.ownsRow base e size v' m (rowV V l) ∧ w.grownBy w' none := by
    cases A with
    | none =>
      have hm : m = 0 := by
        rcases Nat.eq_zero_or_pos m with e0 | e0
        · exact e0
        · obtain ⟨_, _, e1, _⟩ := hr.2 e0; cases e1
      subst hm
      have hl : l = [] := List.eq_nil_of_length_eq_zero hr.1
      subst hl
      refine ⟨.slice none 0 0, w, ?_, World.ownsRow_nil _ _ _ _, rfl, rfl, rfl, Nat.le_refl _, fun _ _ _ => rfl⟩
      simp [Builtin.append_, run_underlying ht, sizeOf, typeInfo, hi, Builtin.lenOf, Builtin.firstCells, loadCells, loadCellsFrom]
    | some ad =>
      obtain ⟨v', w', hr2, h2, h3, _, _⟩ := run_append_own_at (P := P) w base t o.type e i z size bytes ht hi hz hsize hby hzs hsz (.slice none 0 0) 0 [] (World.ownsRow_nil _ _ _ _) ad m c (rowV V l) (by rw [rowV_len hV, hr.1]) (RowR.src hV hsz hr) h1 (by omega) (by rw [Nat.zero_add]; exact hbytes) hbase
      rw [Nat.zero_add] at h2
      exact ⟨v', w', hr2, h2, h3⟩
  obtain ⟨v', w', hr2, h2, h3⟩ := key
  unfold Oper.wp execOp
  simp only [ho, resolve, invoke, builtin, Sem.run_bind, Sem.run_pure, Result.andThen_ok, List.map_toArray, List.map_cons, List.map_nil, hs, hx, hr2]
  exact hK _ _ (h v' w' (by unfold OwnR; rw [hr.1]; exact h2) h3)
theorem itemV_len (x : ItemX) : x.V.length = 7 := rfl
theorem itemV_many (l : List ItemX) : ∀ u ∈ rowV ItemX.V l, u.oneCell' = true := by
  intro u hu
  obtain ⟨x, _, hx⟩ := List.mem_flatMap.1 hu
  simp only [ItemX.V, List.mem_cons, List.not_mem_nil, or_false] at hx
  rcases hx with rfl | rfl | rfl | rfl | rfl | rfl | rfl <;> rfl
theorem infoItemW : (Tryz.prog.info? 53).map (fun i => (i.zero, i.size, i.bytes)) = some (some (.agg #[.int .i64 0, .slice none 0 0, .string ⟨#[]⟩, .bool false, .int .i8 0, .slice none 0 0, .int .u8 0]), 7, 88) := by kernel_rfl
def ownTo (l : List ItemX) (k : Nat) : List ItemX := (l.take k).map ownI ++ l.drop k
theorem ownTo_len (l : List ItemX) (k : Nat) : (ownTo l k).length = l.length := by
  unfold ownTo
  rw [List.length_append, List.length_map, List.length_take, List.length_drop]
  omega
theorem ownTo_at (l : List ItemX) (k : Nat) (r : ItemX) (h : l[k]? = some r) : (ownTo l k)[k]? = some r := by
  have hk := (List.getElem?_eq_some_iff.1 h).1
  unfold ownTo
  rw [List.getElem?_append_right (by rw [List.length_map, List.length_take]; omega), List.length_map, List.length_take, List.getElem?_drop]
  rw [show min k l.length = k by omega, Nat.sub_self, Nat.add_zero]
  exact h
theorem ownTo_next (l : List ItemX) (k : Nat) (r : ItemX) (h : l[k]? = some r) : (ownTo l k).set k (ownI r) = ownTo l (k + 1) := by
  have hk := (List.getElem?_eq_some_iff.1 h).1
  unfold ownTo
  have e1 : l.drop k = r :: l.drop (k + 1) := by
    rw [List.drop_eq_getElem_cons hk]
    congr 1
    exact Option.some.inj ((List.getElem?_eq_getElem hk).symm.trans h)
  rw [List.set_append_right _ _ (by rw [List.length_map, List.length_take]; omega), List.length_map, List.length_take, show min k l.length = k by omega, Nat.sub_self, e1, List.take_add_one, h, List.map_append, List.append_assoc]
  rfl
theorem ownTo_all (l : List ItemX) : ownTo l l.length = l.map ownI := by
  unfold ownTo
  rw [List.take_length, List.drop_length, List.append_nil]
structure WholeX (B : Nat) (x : ReplX) : Prop where
  k : x.k = 0
  up : ∀ j, (replyAt x.S j).fail = false ∧ (replyAt x.S j).most ≤ 9223372036854775807
  s : x.S.length ≤ 10
  l : x.L.length ≤ 8
  right : ∀ y ∈ x.L, rightE y.b = true
  sort : (x.L.map EntX.b).Pairwise leB
  low : B ≤ x.b
theorem orderX_range (Rs : List ReplX) : orderX Rs (List.range Rs.length) = Rs := by
  have h : ∀ j, j ≤ Rs.length → orderX Rs ((List.range Rs.length).take j) = Rs.take j := by
    intro j
    induction j with
    | zero => intro _; rfl
    | succ j ih =>
      intro hj
      obtain ⟨x, hx⟩ : ∃ x, Rs[j]? = some x := ⟨_, List.getElem?_eq_getElem (by omega)⟩
      rw [order_next (i := j) (x := x) (by rw [List.getElem?_range (by omega)]) hx, ih (by omega), List.take_add_one, hx]
      rfl
  have h1 := h Rs.length (Nat.le_refl _)
  rw [List.take_length, List.take_of_length_le (by rw [List.length_range]; exact Nat.le_refl _)] at h1
  exact h1
theorem RepP.grewE {B : Nat} {w w' : World} {b : Nat} {S : List RepB} {k : Nat} {L : List EntX} {rv lv : Value} {r : Option Nat} (h : RepP B w b S k L rv lv) (hg : w.grownBy w' r) (hr : ∀ g, r = some g → lv.ownBlock ≠ some g ∧ ∃ cur, w.heap[g]? = some (.cells cur 47 (0, 0))) : RepP B w' b S k L rv lv := by
  refine ⟨(hg.block b h.blk.lt (fun e => ?_)).trans h.blk, OwnR.grew2 h.rep hg (fun g e1 e2 => ?_), h.ent.grewT hg (fun g e => ?_), h.low⟩
  · obtain ⟨_, cur, hc⟩ := hr b e.symm
    exact blk_ne h.blk hc (by decide)
  · obtain ⟨_, cur, hc⟩ := hr g e2
    obtain ⟨_, cur2, hc2⟩ := own_row_type h.rep g e1
    exact cells_ne hc hc2 (by decide)
  · obtain ⟨h1, cur, hc⟩ := hr g e
    exact ⟨h1, cur, _, (by decide), hc⟩
theorem FanP.grewE {B : Nat} {w w' : World} {f : Nat} {Rs : List ReplX} {ord : List Nat} {rv ov : Value} {r : Option Nat} (h : FanP B w f Rs ord rv ov) (hg : w.grownBy w' r) (hr : ∀ g, r = some g → (∀ x ∈ Rs, x.lv.ownBlock ≠ some g) ∧ ∃ cur, w.heap[g]? = some (.cells cur 47 (0, 0))) : FanP B w' f Rs ord rv ov := by
  refine ⟨(hg.block f h.blk.lt (fun e => ?_)).trans h.blk, OwnR.grew2 h.row hg (fun g e1 e2 => ?_), OwnR.grew2 h.plc hg (fun g e1 e2 => ?_), ⟨fun x hx => RepP.grewE (h.reps.all x hx) hg (fun g e => ⟨(hr g e).1 x hx, (hr g e).2⟩), h.reps.apart⟩, h.low, h.ordok⟩
  · obtain ⟨_, cur, hc⟩ := hr f e.symm
    exact blk_ne h.blk hc (by decide)
  · obtain ⟨_, cur, hc⟩ := hr g e2
    obtain ⟨_, cur2, hc2⟩ := own_row_type h.row g e1
    exact cells_ne hc hc2 (by decide)
  · obtain ⟨_, cur, hc⟩ := hr g e2
    obtain ⟨_, cur2, hc2⟩ := own_row_type h.plc g e1
    exact cells_ne hc hc2 (by decide)
theorem whole_step {z hi : Int} {asc : Bool} {lim : Int} {Rs : List ReplX} {has : Bool} {af : EntB} {told : List EntB} {k B : Nat} (hst : StepF asc (Rs.map (rangeX z hi asc)) has af told k) (hw : ∀ x ∈ Rs, WholeX B x) (hl : 1 ≤ lim) (hne : Rs ≠ []) :
    (tellsX (fun _ => true) ⟨z, hi, asc, lim, has, af⟩ (Rs.map (atK k))).isEmpty = false ∧ ∃ P mm, fetchL asc (tellsX (fun _ => true) ⟨z, hi, asc, lim, has, af⟩ (Rs.map (atK k))) (endsX (fun _ => true) ⟨z, hi, asc, lim, has, af⟩ (Rs.map (atK k))) = P ∧ (!(endsX (fun _ => true) ⟨z, hi, asc, lim, has, af⟩ (Rs.map (atK k))).isEmpty) = mm ∧
    (mm = true → ∃ y l, P = y ++ [l] ∧ ∃ gk, EndF asc (Rs.map (rangeX z hi asc)) true true l (told ++ P) (k + 1) gk ∧ gk < leftN (Rs.map (rangeX z hi asc)) (qF asc has af) + 1) ∧
    (mm = false → ∀ has' af', EndF asc (Rs.map (rangeX z hi asc)) false has' af' (told ++ P) (k + 1) 0) := by
  have hup : ∀ x ∈ Rs.map (atK k), upX x = true := fun x hx => by
    obtain ⟨y, hy, rfl⟩ := List.mem_map.1 hx
    show (!(replyAt y.S k).fail) = true
    rw [((hw y hy).up k).1]
    rfl
  have hR : (rmX z hi asc lim (Rs.map (atK k))).map Prod.fst = Rs.map (rangeX z hi asc) := by rw [range_fst, range_at]
  have hsort : ∀ F ∈ Rs.map (rangeX z hi asc), SortB asc F := fun F hF => by
    obtain ⟨y, hy, rfl⟩ := List.mem_map.1 hF
    exact sortB_of ((dir_sorted asc (hw y hy).sort).filter _)
  obtain ⟨x0, hx0⟩ := List.exists_mem_of_ne_nil _ hne
  have hp := fetchL_ok asc (tellsX (fun _ => true) ⟨z, hi, asc, lim, has, af⟩ (Rs.map (atK k))) (endsX (fun _ => true) ⟨z, hi, asc, lim, has, af⟩ (Rs.map (atK k)))
  refine ⟨?_, _, _, rfl, rfl, fun hm => ?_, fun hm has' af' => ?_⟩
  · cases h : tellsX (fun _ => true) ⟨z, hi, asc, lim, has, af⟩ (Rs.map (atK k)) with
    | nil =>
      have : tellX (fun _ => true) ⟨z, hi, asc, lim, has, af⟩ (atK k x0) ∈ tellsX (fun _ => true) ⟨z, hi, asc, lim, has, af⟩ (Rs.map (atK k)) := List.mem_map_of_mem (List.mem_filter.2 ⟨List.mem_map_of_mem hx0, hup _ (List.mem_map_of_mem hx0)⟩)
      rw [h] at this
      cases this
    | cons => rfl
  · rw [more_ends (by exact hl), more_M hup] at hm
    rw [tellsX_M hup, endsX_M hup] at hp ⊢
    exact hst.next hR hp (take_pos hl) hsort hm
  · rw [more_ends (by exact hl), more_M hup] at hm
    rw [tellsX_M hup, endsX_M hup] at hp ⊢
    exact hst.last hR hp hm has' af'
theorem whole_end {z hi : Int} {asc : Bool} {Rs : List ReplX} {all told : List EntB} (hall : ∀ e, e ∈ all ↔ ∃ x ∈ Rs, e ∈ x.L.map EntX.b) (h : StrictB asc told ∧ ∀ e, e ∈ told ↔ ∃ F ∈ Rs.map (rangeX z hi asc), e ∈ F) : (∀ e, e ∈ told ↔ e ∈ all ∧ inT z hi e = true) ∧ told.length ≤ all.length := by
  have h1 : ∀ e, e ∈ told ↔ e ∈ all ∧ inT z hi e = true := fun e => by
    rw [h.2 e, hall]
    constructor
    · rintro ⟨F, hF, he⟩
      obtain ⟨x, hx, rfl⟩ := List.mem_map.1 hF
      obtain ⟨h2, h3⟩ := List.mem_filter.1 he
      exact ⟨⟨x, hx, dirL_mem.1 h2⟩, h3⟩
    · rintro ⟨⟨x, hx, h2⟩, h3⟩
      exact ⟨_, List.mem_map_of_mem hx, List.mem_filter.2 ⟨dirL_mem.2 h2, h3⟩⟩
  exact ⟨h1, strict_len h.1 (fun e he => ((h1 e).1 he).1)⟩
end Go.Proofs.YtdaainifkldcpaaGreatDoor
