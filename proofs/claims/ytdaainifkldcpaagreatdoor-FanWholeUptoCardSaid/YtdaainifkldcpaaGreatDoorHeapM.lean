-- shaken
import Derived.Test.YtdaainifkldcpaaGreatDoorEntRow
import Derived.Test.YtdaainifkldcpaaGreatDoorHeapMath
import Derived.Test.YtdaainifkldcpaaGreatDoorProg
import Derived.WalkKit
import Derived.Deep.RegionHeld3
import Derived.Defers
import Derived.Recover
import Derived.Laws.Pointers
import Derived.BigRegion
import Derived.Deep.RegionLaw
import Derived.Laws.OwnMore
import Derived.Deep.RegionHeld
import Derived.Deep.AppendLies
import Derived.Test.YtdaainifkldcpaaGreatDoorMem
namespace Go.Proofs.YtdaainifkldcpaaGreatDoor
set_option linter.unusedVariables false
set_option linter.unusedSimpArgs false
def itemsP {α : Type} (came : Nat) : List α → List (KeyP α)
  | [] => []
  | x :: l => ⟨x, came⟩ :: itemsP (came + 1) l
theorem itemsP_snoc {α : Type} (l : List α) (x : α) : ∀ c, itemsP c (l ++ [x]) = itemsP c l ++ [⟨x, c + l.length⟩] := by
  induction l with
  | nil => intro c; rfl
  | cons y l ih =>
    intro c
    simp only [List.cons_append, itemsP, ih, List.length_cons]
    rw [show c + 1 + l.length = c + (l.length + 1) by omega]
section
variable {α : Type} (K : α → Int)
def insP (x : KeyP α) : List (KeyP α) → List (KeyP α)
  | [] => [x]
  | y :: l => if ahdP K x y = true then x :: y :: l else y :: insP x l
def putP (came : Nat) : List α → List (KeyP α) → List (KeyP α)
  | [], M => M
  | x :: l, M => putP (came + 1) l (insP K ⟨x, came⟩ M)
def SortP (M : List (KeyP α)) : Prop := M.Pairwise fun x y => ahdP K x y = true
theorem ahd_trans {x y z : KeyP α} (h1 : ahdP K x y = true) (h2 : ahdP K y z = true) : ahdP K x z = true := by
  rw [ahd_iff] at *
  omega
theorem insP_perm (x : KeyP α) (M : List (KeyP α)) : (insP K x M).Perm (x :: M) := by
  induction M with
  | nil => exact List.Perm.refl _
  | cons y l ih =>
    unfold insP
    by_cases h : ahdP K x y = true
    · rw [if_pos h]
    · rw [if_neg h]
      exact (ih.cons y).trans (List.Perm.swap x y l)
theorem insP_sort (x : KeyP α) (M : List (KeyP α)) (hs : SortP K M) (ho : ∀ y ∈ M, y.at_ < x.at_) : SortP K (insP K x M) := by
  induction M with
  | nil => exact List.pairwise_singleton _ _
  | cons y l ih =>
    have hs' := List.pairwise_cons.1 hs
    unfold insP
    by_cases h : ahdP K x y = true
    · rw [if_pos h]
      refine List.pairwise_cons.2 ⟨fun z hz => ?_, hs⟩
      rcases List.mem_cons.1 hz with rfl | hz
      · exact h
      · exact ahd_trans K h (hs'.1 z hz)
    · rw [if_neg h]
      have hy : ahdP K y x = true := by
        have h1 : ahdP K x y = false := by simpa using h
        have h2 := ho y List.mem_cons_self
        rw [ahd_not] at h1
        rw [ahd_iff]
        omega
      refine List.pairwise_cons.2 ⟨fun z hz => ?_, ih hs'.2 (fun z hz => ho z (List.mem_cons_of_mem _ hz))⟩
      rcases List.mem_cons.1 ((insP_perm K x l).mem_iff.1 hz) with rfl | hz
      · exact hy
      · exact hs'.1 z hz
theorem putP_perm (l : List α) : ∀ (c : Nat) (M : List (KeyP α)), (putP K c l M).Perm (M ++ itemsP c l) := by
  induction l with
  | nil => intro c M; simp [putP, itemsP]
  | cons x l ih =>
    intro c M
    refine (ih (c + 1) _).trans ?_
    show (insP K ⟨x, c⟩ M ++ itemsP (c + 1) l).Perm (M ++ (⟨x, c⟩ :: itemsP (c + 1) l))
    refine ((insP_perm K ⟨x, c⟩ M).append_right _).trans ?_
    exact List.perm_middle.symm
theorem putP_sort (l : List α) : ∀ (c : Nat) (M : List (KeyP α)), SortP K M → (∀ y ∈ M, y.at_ < c) → SortP K (putP K c l M) := by
  induction l with
  | nil => intro c M h _; exact h
  | cons x l ih =>
    intro c M h ho
    refine ih (c + 1) _ (insP_sort K _ M h ho) (fun y hy => ?_)
    rcases List.mem_cons.1 ((insP_perm K _ M).mem_iff.1 hy) with rfl | hy
    · exact Nat.lt_succ_self _
    · exact Nat.lt_succ_of_lt (ho y hy)
variable [Inhabited α]
theorem sort_first {L M : List (KeyP α)} {m : KeyP α} (hh : IsHeapP K L) (hp : L.Perm (m :: M)) (hs : SortP K (m :: M)) : getP L 0 = m := by
  have h0 : 0 < L.length := by rw [hp.length_eq]; simp
  have hm : getP L 0 ∈ m :: M := hp.mem_iff.1 (by rw [getP_at h0]; exact List.getElem_mem _)
  rcases List.mem_cons.1 hm with h | h
  · exact h
  · have h1 := (List.pairwise_cons.1 hs).1 _ h
    have h2 := heap_min K hh m (hp.mem_iff.2 List.mem_cons_self)
    rw [h1] at h2
    cases h2
theorem sort_rest {L L' M : List (KeyP α)} {m : KeyP α} (hh : IsHeapP K L) (hp : L.Perm (m :: M)) (hs : SortP K (m :: M)) (h : (getP L 0 :: L').Perm L) : L'.Perm M := by
  have h1 := h.trans hp
  rw [sort_first K hh hp hs] at h1
  exact List.Perm.cons_inv h1
end

end Go.Proofs.YtdaainifkldcpaaGreatDoor
namespace Go.Proofs.YtdaainifkldcpaaGreatDoor
open Go.RowKit
set_option linter.unusedVariables false
set_option linter.unusedSimpArgs false
structure LsX where
  A : Option Addr
  n : Nat
  c : Nat
  l : List EntX
instance : Inhabited LsX := ⟨⟨none, 0, 0, []⟩⟩
structure MP where
  W0 : World
  B : Nat
  asc : Bool
  ac : Nat
  U : List EntB
  hc : W0.cell? ⟨ac, 0, none⟩ = some (.bool asc)
def headE (x : LsX) : EntB := (x.l.getD 0 xnil).b
def rankM (asc : Bool) (U : List EntB) (a : EntB) : Nat := (U.filter fun u => aheadB u a asc).length
def keyM (P : MP) (x : LsX) : Int := (rankM P.asc P.U (headE x) : Int)
structure GoodL (P : MP) (x : LsX) : Prop where
  ents : Ents P.B P.W0 x.A x.n x.l
  some : 0 < x.n
  few : x.n ≤ 9223372036854775807
  cap : x.n ≤ x.c ∧ x.c ≤ maxLen
  mem : ∀ e ∈ x.l, e.b ∈ P.U
theorem ahead_iff (asc : Bool) (a b : EntB) : aheadB a b asc = true ↔ (if asc then entC a b < 0 else entC b a < 0) := by
  have := entC_ord.anti a b
  cases asc
  · rw [show aheadB a b false = decide (0 < entC a b) from rfl, decide_eq_true_iff, if_neg (by decide)]
    omega
  · rw [show aheadB a b true = decide (entC a b < 0) from rfl, decide_eq_true_iff, if_pos rfl]
theorem ahead_irr (asc : Bool) (a : EntB) : aheadB a a asc = false := by
  have h := ahead_iff asc a a
  rw [entC_ord.refl] at h
  cases hz : aheadB a a asc
  · rfl
  · rw [hz] at h
    have := h.1 rfl
    cases asc <;> simp at this
theorem ahead_trans {asc : Bool} {a b c : EntB} (h1 : aheadB a b asc = true) (h2 : aheadB b c asc = true) : aheadB a c asc = true := by
  rw [ahead_iff] at *
  cases asc
  · simp only [Bool.false_eq_true, if_false] at *
    exact entC_ord.less h2 (by omega)
  · simp only [if_true] at *
    exact entC_ord.less h1 (by omega)
theorem ahead_total {asc : Bool} {a b : EntB} (h1 : aheadB a b asc = false) (h2 : aheadB b a asc = false) : a = b := by
  have k1 := ahead_iff asc a b
  have k2 := ahead_iff asc b a
  have := entC_ord.anti a b
  rw [h1] at k1
  rw [h2] at k2
  refine entC_zero.1 ?_
  cases asc
  · simp only [Bool.false_eq_true, if_false, false_iff] at k1 k2
    omega
  · simp only [Bool.false_eq_true, if_true, false_iff] at k1 k2
    omega
theorem ahead_anti {asc : Bool} {a b : EntB} (h1 : aheadB a b asc = true) : aheadB b a asc = false := by
  cases h : aheadB b a asc
  · rfl
  · have := ahead_trans h1 h
    rw [ahead_irr] at this
    cases this
theorem ahead_not {asc : Bool} {a b c : EntB} (h1 : aheadB a b asc = false) (h2 : aheadB b c asc = false) : aheadB a c asc = false := by
  cases h : aheadB a c asc
  · rfl
  · cases h3 : aheadB b a asc
    · have := ahead_total h1 h3
      rw [this] at h
      rw [h] at h2
      cases h2
    · have := ahead_trans h3 h
      rw [this] at h2
      cases h2
theorem filter_len_le {α : Type} (p q : α → Bool) (l : List α) (h : ∀ x ∈ l, p x = true → q x = true) : (l.filter p).length ≤ (l.filter q).length := by
  induction l with
  | nil => exact Nat.le_refl _
  | cons x l ih =>
    have h1 := ih (fun y hy => h y (List.mem_cons_of_mem _ hy))
    have h2 := h x List.mem_cons_self
    cases hp : p x <;> cases hq : q x
    · rw [List.filter_cons_of_neg (by simp [hp]), List.filter_cons_of_neg (by simp [hq])]; exact h1
    · rw [List.filter_cons_of_neg (by simp [hp]), List.filter_cons_of_pos hq, List.length_cons]; omega
    · rw [hq] at h2; exact absurd (h2 hp) (by decide)
    · rw [List.filter_cons_of_pos hp, List.filter_cons_of_pos hq, List.length_cons, List.length_cons]; omega
theorem filter_len_lt {α : Type} (p q : α → Bool) (l : List α) (h : ∀ x ∈ l, p x = true → q x = true) (y : α) (hy : y ∈ l) (hp : p y = false) (hq : q y = true) : (l.filter p).length < (l.filter q).length := by
  induction l with
  | nil => exact absurd hy List.not_mem_nil
  | cons x l ih =>
    have hl := fun z hz => h z (List.mem_cons_of_mem x hz)
    have h2 := h x List.mem_cons_self
    rcases List.mem_cons.1 hy with rfl | hy
    · rw [List.filter_cons_of_neg (by simp [hp]), List.filter_cons_of_pos hq, List.length_cons]
      have := filter_len_le p q l hl
      omega
    · have h1 := ih hl hy
      cases hp : p x <;> cases hq : q x
      · rw [List.filter_cons_of_neg (by simp [hp]), List.filter_cons_of_neg (by simp [hq])]; exact h1
      · rw [List.filter_cons_of_neg (by simp [hp]), List.filter_cons_of_pos hq, List.length_cons]; omega
      · rw [hq] at h2; exact absurd (h2 hp) (by decide)
      · rw [List.filter_cons_of_pos hp, List.filter_cons_of_pos hq, List.length_cons, List.length_cons]; omega
theorem rank_lt {asc : Bool} {U : List EntB} {a b : EntB} (ha : a ∈ U) : aheadB a b asc = decide (rankM asc U a < rankM asc U b) := by
  unfold rankM
  cases h : aheadB a b asc
  · symm
    rw [decide_eq_false_iff_not, Nat.not_lt]
    refine filter_len_le _ _ U (fun u _ hu => ?_)
    cases h2 : aheadB u a asc
    · rw [ahead_not h2 h] at hu
      cases hu
    · rfl
  · symm
    rw [decide_eq_true_iff]
    exact filter_len_lt _ _ U (fun u _ hu => ahead_trans hu h) a ha (ahead_irr asc a) h
theorem GoodL.head {P : MP} {x : LsX} (h : GoodL P x) : headE x ∈ P.U := by
  have hl := h.ents.1.1
  have h0 := h.some
  refine h.mem _ ?_
  rw [List.getD_eq_getElem?_getD, List.getElem?_eq_getElem (by omega)]
  exact List.getElem_mem _
theorem key_lt {P : MP} {x y : LsX} (h : GoodL P x) : aheadB (headE x) (headE y) P.asc = decide (keyM P x < keyM P y) := by
  rw [rank_lt h.head, decide_eq_decide]
  unfold keyM
  omega
variable {P : MP}
set_option maxRecDepth 100000 in
set_option maxHeartbeats 800000 in
theorem less_any (x y : LsX) (hx : GoodL P x) (hy : GoodL P y) (W : World) (hb : Below P.W0.heap.size P.W0 W) :
    Calls Tryz.prog 69 #[.slice x.A x.n x.c, .slice y.A y.n y.c, .pointer (some ⟨P.ac, 0, none⟩)] W fun e w' => e = .returned (.bool (decide (keyM P x < keyM P y))) ∧ Below W.heap.size W w' := by
  obtain ⟨T, hT⟩ : ∃ T, decide (keyM P x < keyM P y) = T := ⟨_, rfl⟩
  have hK := key_lt (P := P) (y := y) hx
  rw [hT] at hK ⊢
  have hca : W.cell? ⟨P.ac, 0, none⟩ = some (.bool P.asc) := (hb.cell (p := ⟨P.ac, 0, none⟩) (block_lt_of_cell P.hc)).trans P.hc
  obtain ⟨b1, o1, hA1, hlt1, hc1⟩ := (hx.ents.below hb).at_ hx.some
  obtain ⟨b2, o2, hA2, hlt2, hc2⟩ := (hy.ents.below hb).at_ hy.some
  obtain ⟨c1, c2, c3, g1⟩ := hc1 0 hx.some
  obtain ⟨d1, d2, d3, g2⟩ := hc2 0 hy.some
  have hxn := hx.some
  have hyn := hy.some
  have hxI : (0 : Int) < (x.n : Int) := by omega
  have hyI : (0 : Int) < (y.n : Int) := by omega
  obtain ⟨xA, xn, xc, xl⟩ := x
  obtain ⟨yA, yn, yc, yl⟩ := y
  dsimp only [headE] at *
  subst hA1
  subst hA2
  obtain ⟨u, hu⟩ : ∃ u, xl.getD 0 xnil = u := ⟨_, rfl⟩
  obtain ⟨v, hv⟩ : ∃ u, yl.getD 0 xnil = u := ⟨_, rfl⟩
  rw [hu] at c1 c2 c3 g1 hK
  rw [hv] at d1 d2 d3 g2 hK
  obtain ⟨xt, uA, un, uc, ul, us⟩ := u
  obtain ⟨yt, vA, vn, vc, vl, vs⟩ := v
  dsimp only [EntX.b] at c1 c2 c3 d1 d2 d3 hK
  rw [Nat.zero_mul, Nat.add_zero] at c1 c2 c3 d1 d2 d3
  obtain ⟨asc, hasc⟩ : ∃ z, P.asc = z := ⟨_, rfl⟩
  rw [hasc] at hca hK
  have AH := fun w h => entAhead_any xt yt uA vA un vn uc vc ul vl us vs asc g1.len g2.len w (g1.set.1.below h) (g2.set.1.below h)
  simp only [hK] at AH
  replace AH := Lib.hid AH
  obtain ⟨ac, hac⟩ : ∃ z, P.ac = z := ⟨_, rfl⟩
  rw [hac] at hca ⊢
  have hlca := block_lt_of_cell hca
  have hbb := Below.refl W.heap.size W
  have hh0 : W.heap.size ≤ W.heap.size := Nat.le_refl _
  clear hx hy hb hK hT hc1 hc2 g1 g2 hu hv hasc hac
  have S0 : Below W.heap.size W W.drew := (Below.refl _ _).drew
  go_enter Tryz.func69, Tryz.ntmps69
  go_wp2
  go_region_held3 (fun w' => Below W.heap.size W w' ∧ w'.cell? ⟨b1, o1, none⟩ = some (.int .i64 xt) ∧ w'.cell? ⟨b1, o1 + 1, none⟩ = some (.slice uA un uc) ∧ w'.cell? ⟨b1, o1 + 2, none⟩ = some (.string us) ∧ w'.cell? ⟨b2, o2, none⟩ = some (.int .i64 yt) ∧ w'.cell? ⟨b2, o2 + 1, none⟩ = some (.slice vA vn vc) ∧ w'.cell? ⟨b2, o2 + 2, none⟩ = some (.string vs) ∧ w'.cell? ⟨ac, 0, none⟩ = some (.bool asc))
    (first | assumption | exact ⟨by assumption, by assumption, by assumption, by assumption, by assumption, by assumption, by assumption, by assumption⟩ | exact ⟨by assumption, (hb3.cell (p := ⟨_, _, none⟩) hlt1).trans c1, (hb3.cell (p := ⟨_, _, none⟩) hlt1).trans c2, (hb3.cell (p := ⟨_, _, none⟩) hlt1).trans c3, (hb3.cell (p := ⟨_, _, none⟩) hlt2).trans d1, (hb3.cell (p := ⟨_, _, none⟩) hlt2).trans d2, (hb3.cell (p := ⟨_, _, none⟩) hlt2).trans d3, (hb3.cell (p := ⟨_, _, none⟩) hlca).trans hca⟩)
    (first | (go_at_call 25; refine (AH.out _ S0).mono ?_; rintro e w3 ⟨rfl, hb3⟩; replace hb3 : Below W.heap.size W w3 := ⟨hb3.os, hb3.tape, hb3.output, hb3.size, hb3.block⟩))
  all_goals
    go_wp2
    go_ret
    exact ⟨by first | rfl | (simp; done), by assumption⟩
theorem catch_idle (p : Addr) (w : World) :
    CallsD Tryz.prog 185 #[.pointer (some p)] .returning w fun e u' w' => e = .returned (.tuple #[]) ∧ u' = .returning ∧ w' = w := by
  refine callsD_of_wpS Tryz.func185 rfl fun c₀ cs hu => ?_
  apply wpS_seq
  apply wpS_region
  simp [wpOpsS, go_sem, recoverD, hu, Tryz.ntmps185, Exit.thenS]
  refine wpS_cond (t := false) (by simp [Act.eval, Array.replicate]) ?_
  simp only [Bool.false_eq_true, if_false]
  refine wpS_of_wp (wp_skip ?_)
  cases c₀
  simp_all [bodyPostS, results, Tryz.results185]
set_option maxRecDepth 100000 in
set_option maxHeartbeats 800000 in
theorem before_any (b : Nat) (x y : LsX) (hx : GoodL P x) (hy : GoodL P y) (w : World) (hf : w.cell? ⟨b, 2, none⟩ = some (.func (.func 69) #[] #[.pointer (some ⟨P.ac, 0, none⟩)])) (hbase : Below P.W0.heap.size P.W0 w) :
    Calls Tryz.prog 160 #[.pointer (some ⟨b, 0, none⟩), .slice x.A x.n x.c, .slice y.A y.n y.c] w fun e w' => e = .returned (.bool (decide (keyM P x < keyM P y))) ∧ Below w.heap.size w w' := by
  have hmf : ∀ (fn : Fn) (first cap : Array Value) (w : World), (Instr.makeFunc fn first cap).run Tryz.prog w = .ok (.func fn first cap) w := fun _ _ _ _ => rfl
  have hlt := block_lt_of_cell hf
  obtain ⟨g, hg⟩ : ∃ g, w.heap.size = g := ⟨_, rfl⟩
  obtain ⟨w1, hw1⟩ : ∃ z, w.alloc (.cells #[.bool false] 4) = z := ⟨_, rfl⟩
  have B1 : Blk w1 g 4 #[.bool false] := by rw [← hw1, ← hg]; exact Blk.new _ _ _
  have hb1 : Below w.heap.size w w1 := by rw [← hw1]; exact (Below.refl _ _).alloc (Nat.le_refl _) _
  have TN := Lib.hid (less_any x y hx hy w1 (hop hbase (Nat.le_refl _) hb1))
  obtain ⟨z, hz⟩ : ∃ z, decide (keyM P x < keyM P y) = z := ⟨_, rfl⟩
  replace TN := TN.out
  rw [hz] at TN ⊢
  replace TN := Lib.hid TN
  have f1 : w1.cell? ⟨b, 2, none⟩ = some (.func (.func 69) #[] #[.pointer (some ⟨P.ac, 0, none⟩)]) := (hb1.cell (p := ⟨b, 2, none⟩) hlt).trans hf
  have hgw : w.heap.size ≤ g := by omega
  have HG := Lib.hid hgw
  have HB1 := Lib.hid hb1
  have HBB := Lib.hid B1
  obtain ⟨ac, hac⟩ : ∃ z, P.ac = z := ⟨_, rfl⟩
  rw [hac] at f1 TN
  clear hz hf hlt hb1 B1 hgw hbase hx hy hac
  go_enter_defers Tryz.func160, Tryz.ntmps160
  go_wp2_with fail
  clear hg hw1
  refine (TN.out).mono ?_
  rintro e w2 ⟨rfl, hx⟩
  have B2 := HBB.out.below hx HBB.out.lt
  have k0 : w2.cell? ⟨g, 0, none⟩ = some (.bool false) := (B2.cell 0).trans rfl
  have z0 := B2.frozen 0
  have HB2 := Lib.hid (hop HB1.out (Nat.le_refl _) hx)
  clear f1 HB1 HBB hx B2
  go_wp2
  refine leaves_cons (f := 185) (args := #[.pointer (some ⟨g, 0, none⟩)]) (by simp) (by simp [go_sem]) ?_
  refine (catch_idle ⟨g, 0, none⟩ _).mono ?_
  rintro e u' w'' ⟨rfl, rfl, rfl⟩
  have h2 : (w2.setCell ⟨g, 0, none⟩ (.bool z)).cell? ⟨g, 0, none⟩ = some (.bool z) := World.cell?_setCell_same _ _ _ k0
  have HB3 := Lib.hid (HB2.out.setCell (p := ⟨g, 0, none⟩) HG.out (.bool z))
  clear k0 z0 HB2
  simp [Leaves, settle, results, Tryz.results160, go_sem, h2]
  exact HB3.out

end Go.Proofs.YtdaainifkldcpaaGreatDoor
namespace Go.Proofs.YtdaainifkldcpaaGreatDoor
open Go.RowKit
set_option linter.unusedVariables false
set_option linter.unusedSimpArgs false
variable {P : MP}
def itV (x : KeyP LsX) : List Value := [.slice x.it.A x.it.n x.it.c, .int .i64 (x.at_ : Int)]
theorem itV_len (x : KeyP LsX) : (itV x).length = 2 := rfl
theorem itV_one (x : KeyP LsX) : ∀ v ∈ itV x, v.oneCell' = true := by
  intro v hv
  simp only [itV, List.mem_cons, List.mem_nil_iff, or_false] at hv
  rcases hv with rfl | rfl <;> rfl
structure HeapSt (P : MP) (w : World) (b : Nat) (v : Value) (L : List (KeyP LsX)) (came : Nat) : Prop where
  blk : Blk w b 208 #[v, .int .i64 (came : Int), .func (.func 69) #[] #[.pointer (some ⟨P.ac, 0, none⟩)]]
  row : OwnR itV 2 w (b + 1) 245 v L
  good : ∀ x ∈ L, GoodL P x.it
  old : ∀ x ∈ L, x.at_ < came
  few : L.length ≤ came
  less : came ≤ 1000000
  base : Below P.W0.heap.size P.W0 w ∧ P.W0.heap.size ≤ b
theorem HeapSt.below {w w' : World} {b : Nat} {v : Value} {L : List (KeyP LsX)} {came : Nat} (h : HeapSt P w b v L came) (hb : Below w.heap.size w w') : HeapSt P w' b v L came :=
  ⟨h.blk.below hb h.blk.lt, OwnR.below h.row hb, h.good, h.old, h.few, h.less, hop h.base.1 (Nat.le_refl _) hb, h.base.2⟩
theorem own_open {w : World} {B : Nat} {v : Value} {L : List (KeyP LsX)} (h : OwnR itV 2 w B 245 v L) (hn : 0 < L.length) : ∃ g cap cur, v = .slice (some ⟨g, 0, none⟩) L.length cap ∧ B ≤ g ∧ Blk w g 245 cur ∧ L.length ≤ cap ∧ cap ≤ maxLen ∧ cur.size = cap * 2 ∧
    ∀ j, j < L.length → cur[j * 2]? = some (.slice (getP L j).it.A (getP L j).it.n (getP L j).it.c) ∧ cur[j * 2 + 1]? = some (.int .i64 ((getP L j).at_ : Int)) := by
  rcases h.2 with ⟨_, h0⟩ | ⟨g, cap, cur, rfl, hg, hh, hc, hm, hs, ht⟩
  · omega
  · refine ⟨g, cap, cur, rfl, hg, hh, hc, hm, hs, fun j hj => ?_⟩
    have key : ∀ i, i < 2 → cur[j * 2 + i]? = (itV (getP L j))[i]? := fun i hi => by
      have h1 := rowV_at itV_len L j i (getP L j) (getP_eq hj) hi
      rw [← ht, List.getElem?_take_of_lt (by omega)] at h1
      rw [← h1]
      simp
    exact ⟨(key 0 (by decide)).trans rfl, (key 1 (by decide)).trans rfl⟩
theorem own_shut {w : World} {B : Nat} {L : List (KeyP LsX)} {g cap : Nat} {cur : Array Value} (hg : B ≤ g) (hb : Blk w g 245 cur) (hc : L.length ≤ cap) (hm : cap ≤ maxLen) (hs : cur.size = cap * 2)
    (h : ∀ j, j < L.length → cur[j * 2]? = some (.slice (getP L j).it.A (getP L j).it.n (getP L j).it.c) ∧ cur[j * 2 + 1]? = some (.int .i64 ((getP L j).at_ : Int))) : OwnR itV 2 w B 245 (.slice (some ⟨g, 0, none⟩) L.length cap) L := by
  refine ⟨by rw [rowV_len itV_len], .inr ⟨g, cap, cur, rfl, hg, hb, hc, hm, hs, ?_⟩⟩
  apply List.ext_getElem?
  intro m
  by_cases hlt : m < L.length * 2
  · rw [List.getElem?_take_of_lt hlt]
    obtain ⟨j, i, hi, rfl⟩ : ∃ j i, i < 2 ∧ m = j * 2 + i := ⟨m / 2, m % 2, Nat.mod_lt _ (by decide), by omega⟩
    have hj : j < L.length := by omega
    rw [rowV_at itV_len L j i (getP L j) (getP_eq hj) hi]
    have h1 := h j hj
    rcases (by omega : i = 0 ∨ i = 1) with rfl | rfl
    · have := h1.1
      simpa [itV] using this
    · have := h1.2
      simpa [itV] using this
  · rw [List.getElem?_eq_none (by rw [List.length_take]; omega), List.getElem?_eq_none (by rw [rowV_len itV_len]; omega)]
structure HG (b : Nat) (w : World) (v : Value) (w' : World) (v' : Value) : Prop where
  os : w'.os = w.os
  tape : w'.tape = w.tape
  output : w'.output = w.output
  size : w.heap.size ≤ w'.heap.size
  block : ∀ k, k < w.heap.size → k ≠ b → some k ≠ v.ownBlock → w'.heap[k]? = w.heap[k]?
  own : ∀ k, v'.ownBlock = some k → v.ownBlock = some k ∨ w.heap.size ≤ k
theorem HG.refl (b : Nat) (w : World) (v : Value) : HG b w v w v := ⟨rfl, rfl, rfl, Nat.le_refl _, fun _ _ _ _ => rfl, fun k h => .inl h⟩
theorem HG.trans {b : Nat} {w1 w2 w3 : World} {v1 v2 v3 : Value} (h : HG b w1 v1 w2 v2) (k : HG b w2 v2 w3 v3) : HG b w1 v1 w3 v3 :=
  ⟨k.os.trans h.os, k.tape.trans h.tape, k.output.trans h.output, Nat.le_trans h.size k.size, fun i hi hb hv => by
    have h2 : some i ≠ v2.ownBlock := fun e => by
      rcases h.own i e.symm with h3 | h3
      · exact hv h3.symm
      · omega
    exact (k.block i (Nat.lt_of_lt_of_le hi h.size) hb h2).trans (h.block i hi hb hv), fun i hi => by
    rcases k.own i hi with h3 | h3
    · exact h.own i h3
    · exact .inr (Nat.le_trans h.size h3)⟩
theorem HG.of_below {b : Nat} {w w' : World} {v : Value} (h : Below w.heap.size w w') : HG b w v w' v := ⟨h.os, h.tape, h.output, h.size, fun k hk _ _ => h.block k hk, fun k h => .inl h⟩
theorem and_base {A B : Prop} (h : B → A) (b : B) : A ∧ B := ⟨h b, b⟩
theorem HeapSt.over {w w' : World} {b : Nat} {v v' : Value} {L : List (KeyP LsX)} {came : Nat} (h : HeapSt P w b v L came) (hg : HG b w v w' v') : Below P.W0.heap.size P.W0 w' ∧ P.W0.heap.size ≤ b := by
  have h1 := h.base.1.size
  have h2 := h.base.2
  refine ⟨⟨hg.os.trans h.base.1.os, hg.tape.trans h.base.1.tape, hg.output.trans h.base.1.output, Nat.le_trans h1 hg.size, fun k hk => ?_⟩, h2⟩
  exact (hg.block k (by omega) (by omega) (fun e => by have := (World.ownsRow.lt h.row k e.symm).1; omega)).trans (h.base.1.block k hk)
theorem set_at (cs : Array Value) (i m : Nat) (u : Value) (hi : i < cs.size) : (cs.setIfInBounds i u)[m]? = if m = i then some u else cs[m]? := by
  by_cases h : m = i
  · subst h
    rw [if_pos rfl, Array.getElem?_setIfInBounds_self_of_lt hi]
  · rw [if_neg h, Array.getElem?_setIfInBounds_ne (Ne.symm h)]
theorem set4_at (cs : Array Value) (a b c d m : Nat) (x y z u : Value) (ha : a < cs.size) (hb : b < cs.size) (hc : c < cs.size) (hd : d < cs.size) :
    ((((cs.setIfInBounds a x).setIfInBounds b y).setIfInBounds c z).setIfInBounds d u)[m]? = if m = d then some u else if m = c then some z else if m = b then some y else if m = a then some x else cs[m]? := by
  rw [set_at _ d m u (by simpa using hd), set_at _ c m z (by simpa using hc), set_at _ b m y (by simpa using hb), set_at _ a m x ha]
def swapW (w : World) (g i k : Nat) (xi xk : LsX) (pi pk : Int) : World := ((((w.setCell ⟨g, i * 2, none⟩ (.slice xk.A xk.n xk.c)).setCell ⟨g, i * 2 + 1, none⟩ (.int .i64 pk)).setCell ⟨g, k * 2, none⟩ (.slice xi.A xi.n xi.c)).setCell ⟨g, k * 2 + 1, none⟩ (.int .i64 pi)).drew
theorem swap_state {b g cap came i k : Nat} {L : List (KeyP LsX)} {cur : Array Value} {w : World} (h : HeapSt P w b (.slice (some ⟨g, 0, none⟩) L.length cap) L came) (hi : i < L.length) (hk : k < L.length) (hg : b + 1 ≤ g) (hB : Blk w g 245 cur) (hc : L.length ≤ cap) (hm : cap ≤ maxLen) (hs : cur.size = cap * 2)
    (hcl : ∀ j, j < L.length → cur[j * 2]? = some (.slice (getP L j).it.A (getP L j).it.n (getP L j).it.c) ∧ cur[j * 2 + 1]? = some (.int .i64 ((getP L j).at_ : Int))) :
    HeapSt P (swapW w g i k (getP L i).it (getP L k).it ((getP L i).at_ : Int) ((getP L k).at_ : Int)) b (.slice (some ⟨g, 0, none⟩) L.length cap) (swapP L i k) came ∧ HG b w (.slice (some ⟨g, 0, none⟩) L.length cap) (swapW w g i k (getP L i).it (getP L k).it ((getP L i).at_ : Int) ((getP L k).at_ : Int)) (.slice (some ⟨g, 0, none⟩) L.length cap) := by
  have hgb : b ≠ g := by omega
  have hlen := swapP_len L i k
  have hsz : ∀ m, m < L.length → m * 2 + 1 < cur.size := fun m hm => by omega
  have s1 := hsz i hi
  have s2 := hsz k hk
  refine and_base (fun hgg => ⟨?_, ?_, fun x hx => h.good x ((swapP_perm hi hk).mem_iff.1 hx), fun x hx => h.old x ((swapP_perm hi hk).mem_iff.1 hx), by rw [hlen]; exact h.few, h.less, h.over hgg⟩) ?_
  · exact ((((h.blk.far (p := ⟨g, i * 2, none⟩) hgb _).far (p := ⟨g, i * 2 + 1, none⟩) hgb _).far (p := ⟨g, k * 2, none⟩) hgb _).far (p := ⟨g, k * 2 + 1, none⟩) hgb _).drewN 1
  · have B5 := ((((hB.set_ (i * 2) (.slice (getP L k).it.A (getP L k).it.n (getP L k).it.c)).set_ (i * 2 + 1) (.int .i64 ((getP L k).at_ : Int))).set_ (k * 2) (.slice (getP L i).it.A (getP L i).it.n (getP L i).it.c)).set_ (k * 2 + 1) (.int .i64 ((getP L i).at_ : Int))).drewN 1
    have key := own_shut (L := swapP L i k) hg B5 (by rw [hlen]; exact hc) hm (by rw [Array.size_setIfInBounds, Array.size_setIfInBounds, Array.size_setIfInBounds, Array.size_setIfInBounds]; exact hs) (fun j hj => by
      rw [hlen] at hj
      obtain ⟨q1, q2⟩ := hcl j hj
      rw [getP_swap hi hk, set4_at _ _ _ _ _ _ _ _ _ _ (by omega) s1 (by omega) s2, set4_at _ _ _ _ _ _ _ _ _ _ (by omega) s1 (by omega) s2]
      by_cases hjk : j = k
      · subst hjk
        rw [if_pos rfl, if_neg (by omega), if_pos rfl, if_pos rfl]
        exact ⟨rfl, rfl⟩
      · rw [if_neg hjk, if_neg (show ¬ j * 2 = k * 2 + 1 by omega), if_neg (show ¬ j * 2 = k * 2 by omega), if_neg (show ¬ j * 2 = i * 2 + 1 by omega), if_neg (show ¬ j * 2 + 1 = k * 2 + 1 by omega), if_neg (show ¬ j * 2 + 1 = k * 2 by omega)]
        by_cases hji : j = i
        · subst hji
          rw [if_pos rfl, if_pos rfl, if_pos rfl]
          exact ⟨rfl, rfl⟩
        · rw [if_neg hji, if_neg (show ¬ j * 2 = i * 2 by omega), if_neg (show ¬ j * 2 + 1 = i * 2 + 1 by omega), if_neg (show ¬ j * 2 + 1 = i * 2 by omega)]
          exact ⟨q1, q2⟩)
    rw [hlen] at key
    exact key
  · refine ⟨rfl, rfl, rfl, by simp [swapW], fun m hm hmb hmv => ?_, fun m hm => .inl hm⟩
    have hmg : m ≠ g := fun e => hmv (by rw [e]; rfl)
    exact (Below.heap_setCell _ _ _ m hmg).trans ((Below.heap_setCell _ _ _ m hmg).trans ((Below.heap_setCell _ _ _ m hmg).trans (Below.heap_setCell _ _ _ m hmg)))

end Go.Proofs.YtdaainifkldcpaaGreatDoor
namespace Go.Proofs.YtdaainifkldcpaaGreatDoor
open Go.RowKit
set_option linter.unusedVariables false
set_option linter.unusedSimpArgs false
variable {P : MP}
theorem getP_mem {L : List (KeyP LsX)} {i : Nat} (h : i < L.length) : getP L i ∈ L := by rw [getP_at h]; exact List.getElem_mem h
theorem heap_slice {w : World} {b : Nat} {v : Value} {L : List (KeyP LsX)} {came : Nat} (h : HeapSt P w b v L came) : ∃ A cap, v = .slice A L.length cap ∧ w.cell? ⟨b, 0, none⟩ = some (.slice A L.length cap) := by
  obtain ⟨A, cap, rfl, _, _, _⟩ := OwnR.open itV_len h.row
  exact ⟨A, cap, rfl, (h.blk.cell 0).trans rfl⟩
theorem hpMany_any (b : Nat) (v : Value) (L : List (KeyP LsX)) (came : Nat) (w : World) (h : HeapSt P w b v L came) :
    Calls Tryz.prog 101 #[.pointer (some ⟨b, 0, none⟩)] w fun e w' => e = .returned (.int .i64 (L.length : Int)) ∧ w' = w := by
  obtain ⟨A, cap, rfl, c0⟩ := heap_slice h
  clear h
  go_enter Tryz.func101, Tryz.ntmps101
  go_wp2
  go_ret
  exact ⟨by first | rfl | (simp; done), by first | rfl | trivial⟩
def BlkW (w : World) (g : Nat) (t : TypeId) (cs : Array Value) : Prop := Blk w g t cs
theorem BlkW.below {w w' : World} {g : Nat} {t : TypeId} {cs : Array Value} (h : BlkW w g t cs) (hb : Below w.heap.size w w') : BlkW w' g t cs := Blk.below h hb (Blk.lt h)
set_option maxRecDepth 100000 in
set_option maxHeartbeats 1600000 in
theorem ahead_any (b : Nat) (v : Value) (L : List (KeyP LsX)) (came i k : Nat) (hi : i < L.length) (hk : k < L.length) (w : World) (h : HeapSt P w b v L came) :
    Calls Tryz.prog 135 #[.pointer (some ⟨b, 0, none⟩), .int .i64 (i : Int), .int .i64 (k : Int)] w fun e w' => e = .returned (.bool (ahdP (keyM P) (getP L i) (getP L k))) ∧ Below w.heap.size w w' := by
  have gi := h.good (getP L i) (getP_mem hi)
  have gk := h.good (getP L k) (getP_mem hk)
  have c2 : w.cell? ⟨b, 2, none⟩ = some (.func (.func 69) #[] #[.pointer (some ⟨P.ac, 0, none⟩)]) := (h.blk.cell 2).trans rfl
  have hT : ahdP (keyM P) (getP L i) (getP L k) = (decide ((keyM P) (getP L i).it < (keyM P) (getP L k).it) || (decide ((getP L i).at_ < (getP L k).at_) && !decide ((keyM P) (getP L k).it < (keyM P) (getP L i).it))) := rfl
  obtain ⟨TT, hTT⟩ : ∃ T, ahdP (keyM P) (getP L i) (getP L k) = T := ⟨_, rfl⟩
  rw [hTT] at hT ⊢
  obtain ⟨g, cap, cur, hv, hg, hB, hc, hm, hs, hcl⟩ := own_open h.row (by omega)
  subst hv
  have hfew := h.few
  have hless := h.less
  obtain ⟨i1, i2⟩ := hcl i hi
  obtain ⟨k1, k2⟩ := hcl k hk
  have ci1 : w.cell? ⟨g, i * 2, none⟩ = some (.slice (getP L i).it.A (getP L i).it.n (getP L i).it.c) := (hB.cell (i * 2)).trans i1
  have ci2 : w.cell? ⟨g, i * 2 + 1, none⟩ = some (.int .i64 ((getP L i).at_ : Int)) := (hB.cell (i * 2 + 1)).trans i2
  have ck1 : w.cell? ⟨g, k * 2, none⟩ = some (.slice (getP L k).it.A (getP L k).it.n (getP L k).it.c) := (hB.cell (k * 2)).trans k1
  have ck2 : w.cell? ⟨g, k * 2 + 1, none⟩ = some (.int .i64 ((getP L k).at_ : Int)) := (hB.cell (k * 2 + 1)).trans k2
  have c0 : w.cell? ⟨b, 0, none⟩ = some (.slice (some ⟨g, 0, none⟩) L.length cap) := (h.blk.cell 0).trans rfl
  have hiI : (i : Int) < (L.length : Int) := by omega
  have hkI : (k : Int) < (L.length : Int) := by omega
  obtain ⟨n, hn⟩ : ∃ n, L.length = n := ⟨_, rfl⟩
  rw [hn] at c0 hiI hkI
  obtain ⟨xi, hxi⟩ : ∃ x, (getP L i).it = x := ⟨_, rfl⟩
  obtain ⟨pi, hpi⟩ : ∃ x, (getP L i).at_ = x := ⟨_, rfl⟩
  obtain ⟨xk, hxk⟩ : ∃ x, (getP L k).it = x := ⟨_, rfl⟩
  obtain ⟨pk, hpk⟩ : ∃ x, (getP L k).at_ = x := ⟨_, rfl⟩
  rw [hxi] at ci1
  rw [hpi] at ci2
  rw [hxk] at ck1
  rw [hpk] at ck2
  have hni : n ≤ 1000000 := by omega
  rw [hxi] at gi
  rw [hxk] at gk
  rw [hxi, hxk, hpi, hpk] at hT
  have hbase := h.base.1
  have BF1 := fun w1 h1 (h2 : Below w.heap.size w w1) => before_any (P := P) b xi xk gi gk w1 h1 (hop hbase (Nat.le_refl _) h2)
  have BF2 := fun w1 h1 (h2 : Below w.heap.size w w1) => before_any (P := P) b xk xi gk gi w1 h1 (hop hbase (Nat.le_refl _) h2)
  obtain ⟨z1, hz1⟩ : ∃ z, decide ((keyM P) xi < (keyM P) xk) = z := ⟨_, rfl⟩
  obtain ⟨z2, hz2⟩ : ∃ z, decide (pi < pk) = z := ⟨_, rfl⟩
  obtain ⟨z3, hz3⟩ : ∃ z, decide ((keyM P) xk < (keyM P) xi) = z := ⟨_, rfl⟩
  simp only [hz1] at BF1
  simp only [hz3] at BF2
  rw [hz1, hz2, hz3] at hT
  have hz2' : decide ((pi : Int) < (pk : Int)) = z2 := by rw [← hz2, decide_eq_decide]; omega
  replace BF1 := Lib.hid BF1
  replace BF2 := Lib.hid BF2
  clear hbase
  have HT := Lib.hid hT
  have HZ2 := Lib.hid hz2
  have HZ2' := Lib.hid hz2'
  have hlb := block_lt_of_cell c0
  have hlg := block_lt_of_cell ci1
  have HS := Lib.hid (fun (w1 w' : World) (hS : Below w.heap.size w w1 ∧ w1.cell? ⟨b, 0, none⟩ = some (.slice (some ⟨g, 0, none⟩) n cap) ∧ w1.cell? ⟨b, 2, none⟩ = some (.func (.func 69) #[] #[.pointer (some ⟨P.ac, 0, none⟩)]) ∧ w1.cell? ⟨g, i * 2, none⟩ = some (.slice xi.A xi.n xi.c) ∧ w1.cell? ⟨g, i * 2 + 1, none⟩ = some (.int .i64 (pi : Int)) ∧ w1.cell? ⟨g, k * 2, none⟩ = some (.slice xk.A xk.n xk.c) ∧ w1.cell? ⟨g, k * 2 + 1, none⟩ = some (.int .i64 (pk : Int))) (hx : Below w1.heap.size w1 w') => show Below w.heap.size w w' ∧ w'.cell? ⟨b, 0, none⟩ = some (.slice (some ⟨g, 0, none⟩) n cap) ∧ w'.cell? ⟨b, 2, none⟩ = some (.func (.func 69) #[] #[.pointer (some ⟨P.ac, 0, none⟩)]) ∧ w'.cell? ⟨g, i * 2, none⟩ = some (.slice xi.A xi.n xi.c) ∧ w'.cell? ⟨g, i * 2 + 1, none⟩ = some (.int .i64 (pi : Int)) ∧ w'.cell? ⟨g, k * 2, none⟩ = some (.slice xk.A xk.n xk.c) ∧ w'.cell? ⟨g, k * 2 + 1, none⟩ = some (.int .i64 (pk : Int)) from by
    obtain ⟨hb, a0, a1, a2, a3, a4, a5⟩ := hS
    have z1 := block_lt_of_cell a0
    have z2 := block_lt_of_cell a2
    exact ⟨hop hb (Nat.le_refl _) hx, (hx.cell (p := ⟨_, 0, none⟩) z1).trans a0, (hx.cell (p := ⟨_, 2, none⟩) z1).trans a1, (hx.cell (p := ⟨_, i * 2, none⟩) z2).trans a2, (hx.cell (p := ⟨_, i * 2 + 1, none⟩) z2).trans a3, (hx.cell (p := ⟨_, k * 2, none⟩) z2).trans a4, (hx.cell (p := ⟨_, k * 2 + 1, none⟩) z2).trans a5⟩)
  have HST := Lib.hid (fun (w1 : World) (ga : Nat) (u x : Value) (hga : w.heap.size ≤ ga) (hS : Below w.heap.size w w1 ∧ w1.cell? ⟨b, 0, none⟩ = some (.slice (some ⟨g, 0, none⟩) n cap) ∧ w1.cell? ⟨b, 2, none⟩ = some (.func (.func 69) #[] #[.pointer (some ⟨P.ac, 0, none⟩)]) ∧ w1.cell? ⟨g, i * 2, none⟩ = some (.slice xi.A xi.n xi.c) ∧ w1.cell? ⟨g, i * 2 + 1, none⟩ = some (.int .i64 (pi : Int)) ∧ w1.cell? ⟨g, k * 2, none⟩ = some (.slice xk.A xk.n xk.c) ∧ w1.cell? ⟨g, k * 2 + 1, none⟩ = some (.int .i64 (pk : Int))) => show Below w.heap.size w ((w1.setCell ⟨ga, 0, none⟩ u).setCell ⟨ga, 1, none⟩ x) ∧ ((w1.setCell ⟨ga, 0, none⟩ u).setCell ⟨ga, 1, none⟩ x).cell? ⟨b, 0, none⟩ = some (.slice (some ⟨g, 0, none⟩) n cap) ∧ ((w1.setCell ⟨ga, 0, none⟩ u).setCell ⟨ga, 1, none⟩ x).cell? ⟨b, 2, none⟩ = some (.func (.func 69) #[] #[.pointer (some ⟨P.ac, 0, none⟩)]) ∧ ((w1.setCell ⟨ga, 0, none⟩ u).setCell ⟨ga, 1, none⟩ x).cell? ⟨g, i * 2, none⟩ = some (.slice xi.A xi.n xi.c) ∧ ((w1.setCell ⟨ga, 0, none⟩ u).setCell ⟨ga, 1, none⟩ x).cell? ⟨g, i * 2 + 1, none⟩ = some (.int .i64 (pi : Int)) ∧ ((w1.setCell ⟨ga, 0, none⟩ u).setCell ⟨ga, 1, none⟩ x).cell? ⟨g, k * 2, none⟩ = some (.slice xk.A xk.n xk.c) ∧ ((w1.setCell ⟨ga, 0, none⟩ u).setCell ⟨ga, 1, none⟩ x).cell? ⟨g, k * 2 + 1, none⟩ = some (.int .i64 (pk : Int)) from by
    obtain ⟨hb, a0, a1, a2, a3, a4, a5⟩ := hS
    have nb : b ≠ ga := by have : b < w.heap.size := hlb; omega
    have ng : g ≠ ga := by have : g < w.heap.size := hlg; omega
    have far : ∀ (m j : Nat) (y : Value), m ≠ ga → w1.cell? ⟨m, j, none⟩ = some y → ((w1.setCell ⟨ga, 0, none⟩ u).setCell ⟨ga, 1, none⟩ x).cell? ⟨m, j, none⟩ = some y := fun m j y hm hy =>
      ((World.cell?_of_block (Below.heap_setCell (w1.setCell ⟨ga, 0, none⟩ u) ⟨ga, 1, none⟩ x m hm)).trans (World.cell?_of_block (Below.heap_setCell w1 ⟨ga, 0, none⟩ u m hm))).trans hy
    exact ⟨(hb.setCell (p := ⟨ga, 0, none⟩) hga u).setCell (p := ⟨ga, 1, none⟩) hga x, far _ _ _ nb a0, far _ _ _ nb a1, far _ _ _ ng a2, far _ _ _ ng a3, far _ _ _ ng a4, far _ _ _ ng a5⟩)
  have S0 := HS.out w w.drew ⟨Below.refl _ _, c0, c2, ci1, ci2, ck1, ck2⟩ ((Below.refl _ _).drew)
  clear h hn hxi hpi hxk hpk hB hcl hs hm hc i1 i2 k1 k2 hfew hless hi hk gi gk hz1 hz2 hz2' hz3 hT hTT c0 c2 ci1 ci2 ck1 ck2 hg
  go_enter Tryz.func135, Tryz.ntmps135
  go_wp2
  refine wp_region_held_drew (S := fun w' => Below w.heap.size w w' ∧ w'.cell? ⟨b, 0, none⟩ = some (.slice (some ⟨g, 0, none⟩) n cap) ∧ w'.cell? ⟨b, 2, none⟩ = some (.func (.func 69) #[] #[.pointer (some ⟨P.ac, 0, none⟩)]) ∧ w'.cell? ⟨g, i * 2, none⟩ = some (.slice xi.A xi.n xi.c) ∧ w'.cell? ⟨g, i * 2 + 1, none⟩ = some (.int .i64 (pi : Int)) ∧ w'.cell? ⟨g, k * 2, none⟩ = some (.slice xk.A xk.n xk.c) ∧ w'.cell? ⟨g, k * 2 + 1, none⟩ = some (.int .i64 (pk : Int))) (by kernel_rfl) S0 (fun hHeld => ?_)
  obtain ⟨wd, hwd⟩ : ∃ z, w.drew = z := ⟨_, rfl⟩
  clear hHeld
  rw [hwd] at S0 ⊢
  clear hwd
  refine tV 0 ?_; refine tV 1 ?_; refine tV 2 ?_; refine tV 3 ?_; refine tH 4 ?_; refine tV 5 ?_; refine tV 6 ?_; refine tH 7 ?_; refine tV 8 ?_; refine tV 9 ?_
  refine tV 10 ?_; refine tV 11 ?_; refine tH 12 ?_; refine tV 13 ?_; refine tV 14 ?_; refine tH 15 ?_
  refine rdy [16, 17] ?_
  refine rdC (fun K hK => ?_) ?_
  ·
    go_simp
    obtain ⟨g16, hg16⟩ : ∃ z, wd.heap.size = z := ⟨_, rfl⟩
    obtain ⟨we, hwwe⟩ : ∃ z, wd.alloc (.cells #[.slice none 0 0, .int .i64 0] 245) = z := ⟨_, rfl⟩
    have hb3 : Below wd.heap.size wd we := by rw [← hwwe]; exact (Below.refl _ _).alloc (Nat.le_refl _) _
    have F16 : Blk we g16 245 #[.slice none 0 0, .int .i64 0] := by rw [← hwwe, ← hg16]; exact Blk.new _ _ _
    have N16 : w.heap.size ≤ g16 := by rw [← hg16]; exact (show Below w.heap.size w wd from by go_split_ands; assumption).size
    have Swe := HS.out _ _ (by assumption) hb3
    rw [hwwe, hg16]
    clear hwwe hg16 hb3
    refine hK.out _ _ Swe (fun _ => ?_)
    clear hK K
    try simp only [Act.put, List.setIfInBounds_toArray, List.set_cons_zero, List.set_cons_succ]
    refine rdy [17] ?_
    refine rdC (fun K hK => ?_) AllReadyH.nil
    go_simp
    obtain ⟨g17, hg17⟩ : ∃ z, we.heap.size = z := ⟨_, rfl⟩
    obtain ⟨wf, hwwf⟩ : ∃ z, we.alloc (.cells #[.slice none 0 0, .int .i64 0] 245) = z := ⟨_, rfl⟩
    have hb3 : Below we.heap.size we wf := by rw [← hwwf]; exact (Below.refl _ _).alloc (Nat.le_refl _) _
    have F17 : Blk wf g17 245 #[.slice none 0 0, .int .i64 0] := by rw [← hwwf, ← hg17]; exact Blk.new _ _ _
    have N17 : w.heap.size ≤ g17 := by rw [← hg17]; exact (show Below w.heap.size w we from by go_split_ands; assumption).size
    have NE : g16 ≠ g17 := by have := F16.lt; omega
    replace F16 := F16.below hb3 F16.lt
    have Swf := HS.out _ _ (by assumption) hb3
    rw [hwwf, hg17]
    clear hwwf hg17 hb3
    refine hK.out _ _ Swf (fun _ => ?_)
    clear hK K
    try simp only [Act.put, List.setIfInBounds_toArray, List.set_cons_zero, List.set_cons_succ]
    refine rdy [18] ?_
    refine rdC (fun K hK => ?_) AllReadyH.nil
    have q0 : wf.cell? ⟨g16, 0, none⟩ = some (.slice none 0 0) := (F16.cell 0).trans rfl
    have q1 : wf.cell? ⟨g16, 1, none⟩ = some (.int .i64 0) := (F16.cell 1).trans rfl
    have y0 := F16.frozen 0
    have y1 := F16.frozen 1
    go_simp
    have Swg := HST.out wf g16 (.slice xi.A xi.n xi.c) (.int .i64 (pi : Int)) N16 (by assumption)
    have G16 := (F16.set_ 0 (.slice xi.A xi.n xi.c)).set_ 1 (.int .i64 (pi : Int))
    simp only [List.setIfInBounds_toArray, List.set_cons_zero, List.set_cons_succ] at G16
    have O17 := (F17.far (p := ⟨g16, 0, none⟩) (Ne.symm NE) (.slice xi.A xi.n xi.c)).far (p := ⟨g16, 1, none⟩) (Ne.symm NE) (.int .i64 (pi : Int))
    clear q0 q1 y0 y1 F16 F17
    obtain ⟨wg, hwwg⟩ : ∃ z, ((wf.setCell ⟨g16, 0, none⟩ (.slice xi.A xi.n xi.c)).setCell ⟨g16, 1, none⟩ (.int .i64 (pi : Int))) = z := ⟨_, rfl⟩
    rw [hwwg] at Swg G16 O17
    rw [hwwg]
    clear hwwg
    have F17 := O17
    clear O17
    refine hK.out _ _ Swg (fun _ => ?_)
    clear hK K
    try simp only [Act.put, List.setIfInBounds_toArray, List.set_cons_zero, List.set_cons_succ]
    refine rdy [19] ?_
    refine rdC (fun K hK => ?_) AllReadyH.nil
    have q0 : wg.cell? ⟨g17, 0, none⟩ = some (.slice none 0 0) := (F17.cell 0).trans rfl
    have q1 : wg.cell? ⟨g17, 1, none⟩ = some (.int .i64 0) := (F17.cell 1).trans rfl
    have y0 := F17.frozen 0
    have y1 := F17.frozen 1
    go_simp
    have Swh := HST.out wg g17 (.slice xk.A xk.n xk.c) (.int .i64 (pk : Int)) N17 (by assumption)
    have G17 := (F17.set_ 0 (.slice xk.A xk.n xk.c)).set_ 1 (.int .i64 (pk : Int))
    simp only [List.setIfInBounds_toArray, List.set_cons_zero, List.set_cons_succ] at G17
    have O16 := (G16.far (p := ⟨g17, 0, none⟩) (NE) (.slice xk.A xk.n xk.c)).far (p := ⟨g17, 1, none⟩) (NE) (.int .i64 (pk : Int))
    clear q0 q1 y0 y1 F17 G16
    obtain ⟨wh, hwwh⟩ : ∃ z, ((wg.setCell ⟨g17, 0, none⟩ (.slice xk.A xk.n xk.c)).setCell ⟨g17, 1, none⟩ (.int .i64 (pk : Int))) = z := ⟨_, rfl⟩
    rw [hwwh] at Swh G17 O16
    rw [hwwh]
    clear hwwh
    have G16 := O16
    clear O16
    refine hK.out _ _ Swh (fun _ => ?_)
    clear hK K
    try simp only [Act.put, List.setIfInBounds_toArray, List.set_cons_zero, List.set_cons_succ]
    refine wpAnyH_done (by kernel_rfl) ?_ _
    obtain ⟨hbw, a0, a1, _, _, _, _⟩ := Swh
    have p0 : wh.cell? ⟨g16, 0, none⟩ = some (.slice xi.A xi.n xi.c) := (G16.cell 0).trans rfl
    have r0 : wh.cell? ⟨g17, 0, none⟩ = some (.slice xk.A xk.n xk.c) := (G17.cell 0).trans rfl
    have HA1 := Lib.hid a1
    clear a0 a1 S0 Swe Swf Swg
    go_wp2_with fail
    refine (BF1.out _ HA1.out hbw).mono ?_
    rintro e w2 ⟨rfl, hx⟩
    have p0 : w2.cell? ⟨g16, 0, none⟩ = some (.slice xi.A xi.n xi.c) := ((G16.below hx G16.lt).cell 0).trans rfl
    have r0 : w2.cell? ⟨g17, 0, none⟩ = some (.slice xk.A xk.n xk.c) := ((G17.below hx G17.lt).cell 0).trans rfl
    have p1 : w2.cell? ⟨g16, 1, none⟩ = some (.int .i64 (pi : Int)) := ((G16.below hx G16.lt).cell 1).trans rfl
    have r1 : w2.cell? ⟨g17, 1, none⟩ = some (.int .i64 (pk : Int)) := ((G17.below hx G17.lt).cell 1).trans rfl
    have a1 := Lib.hid ((hx.cell (p := ⟨b, 2, none⟩) (block_lt_of_cell HA1.out)).trans HA1.out)
    have HB2 := Lib.hid (hop hbw (Nat.le_refl _) hx)
    clear hx G16 G17 hbw HA1
    cases z1 with
    | true =>
      have E := Lib.hid (show true = TT from HT.out.symm)
      go_wp2
      go_ret
      exact ⟨by rw [← E.out]; first | rfl | (simp; done), HB2.out⟩
    | false =>
      cases z2 with
      | false =>
        have E := Lib.hid (show false = TT from HT.out.symm)
        have y2 := HZ2.out
        have y3 := HZ2'.out
        go_wp2
        go_ret
        exact ⟨by rw [← E.out]; first | rfl | (simp; done), HB2.out⟩
      | true =>
        have E := Lib.hid (show (!z3) = TT from HT.out.symm)
        have y4 : pi < pk := of_decide_eq_true HZ2.out
        have y5 : (pi : Int) < (pk : Int) := by omega
        go_wp2_with fail
        refine (BF2.out _ a1.out HB2.out).mono ?_
        rintro e w3 ⟨rfl, hx⟩
        have HB3 := Lib.hid (hop HB2.out (Nat.le_refl _) hx)
        clear hx
        go_wp2
        go_ret
        exact ⟨by rw [← E.out]; first | rfl | (simp; done), HB3.out⟩
  refine rdC (fun K hK => ?_) AllReadyH.nil
  ·
    go_simp
    obtain ⟨g17, hg17⟩ : ∃ z, wd.heap.size = z := ⟨_, rfl⟩
    obtain ⟨we, hwwe⟩ : ∃ z, wd.alloc (.cells #[.slice none 0 0, .int .i64 0] 245) = z := ⟨_, rfl⟩
    have hb3 : Below wd.heap.size wd we := by rw [← hwwe]; exact (Below.refl _ _).alloc (Nat.le_refl _) _
    have F17 : Blk we g17 245 #[.slice none 0 0, .int .i64 0] := by rw [← hwwe, ← hg17]; exact Blk.new _ _ _
    have N17 : w.heap.size ≤ g17 := by rw [← hg17]; exact (show Below w.heap.size w wd from by go_split_ands; assumption).size
    have Swe := HS.out _ _ (by assumption) hb3
    rw [hwwe, hg17]
    clear hwwe hg17 hb3
    refine hK.out _ _ Swe (fun _ => ?_)
    clear hK K
    try simp only [Act.put, List.setIfInBounds_toArray, List.set_cons_zero, List.set_cons_succ]
    refine rdy [16] ?_
    refine rdC (fun K hK => ?_) AllReadyH.nil
    go_simp
    obtain ⟨g16, hg16⟩ : ∃ z, we.heap.size = z := ⟨_, rfl⟩
    obtain ⟨wf, hwwf⟩ : ∃ z, we.alloc (.cells #[.slice none 0 0, .int .i64 0] 245) = z := ⟨_, rfl⟩
    have hb3 : Below we.heap.size we wf := by rw [← hwwf]; exact (Below.refl _ _).alloc (Nat.le_refl _) _
    have F16 : Blk wf g16 245 #[.slice none 0 0, .int .i64 0] := by rw [← hwwf, ← hg16]; exact Blk.new _ _ _
    have N16 : w.heap.size ≤ g16 := by rw [← hg16]; exact (show Below w.heap.size w we from by go_split_ands; assumption).size
    have NE : g17 ≠ g16 := by have := F17.lt; omega
    replace F17 := F17.below hb3 F17.lt
    have Swf := HS.out _ _ (by assumption) hb3
    rw [hwwf, hg16]
    clear hwwf hg16 hb3
    refine hK.out _ _ Swf (fun _ => ?_)
    clear hK K
    try simp only [Act.put, List.setIfInBounds_toArray, List.set_cons_zero, List.set_cons_succ]
    refine rdy [18] ?_
    refine rdC (fun K hK => ?_) AllReadyH.nil
    have q0 : wf.cell? ⟨g16, 0, none⟩ = some (.slice none 0 0) := (F16.cell 0).trans rfl
    have q1 : wf.cell? ⟨g16, 1, none⟩ = some (.int .i64 0) := (F16.cell 1).trans rfl
    have y0 := F16.frozen 0
    have y1 := F16.frozen 1
    go_simp
    have Swg := HST.out wf g16 (.slice xi.A xi.n xi.c) (.int .i64 (pi : Int)) N16 (by assumption)
    have G16 := (F16.set_ 0 (.slice xi.A xi.n xi.c)).set_ 1 (.int .i64 (pi : Int))
    simp only [List.setIfInBounds_toArray, List.set_cons_zero, List.set_cons_succ] at G16
    have O17 := (F17.far (p := ⟨g16, 0, none⟩) (NE) (.slice xi.A xi.n xi.c)).far (p := ⟨g16, 1, none⟩) (NE) (.int .i64 (pi : Int))
    clear q0 q1 y0 y1 F16 F17
    obtain ⟨wg, hwwg⟩ : ∃ z, ((wf.setCell ⟨g16, 0, none⟩ (.slice xi.A xi.n xi.c)).setCell ⟨g16, 1, none⟩ (.int .i64 (pi : Int))) = z := ⟨_, rfl⟩
    rw [hwwg] at Swg G16 O17
    rw [hwwg]
    clear hwwg
    have F17 := O17
    clear O17
    refine hK.out _ _ Swg (fun _ => ?_)
    clear hK K
    try simp only [Act.put, List.setIfInBounds_toArray, List.set_cons_zero, List.set_cons_succ]
    refine rdy [19] ?_
    refine rdC (fun K hK => ?_) AllReadyH.nil
    have q0 : wg.cell? ⟨g17, 0, none⟩ = some (.slice none 0 0) := (F17.cell 0).trans rfl
    have q1 : wg.cell? ⟨g17, 1, none⟩ = some (.int .i64 0) := (F17.cell 1).trans rfl
    have y0 := F17.frozen 0
    have y1 := F17.frozen 1
    go_simp
    have Swh := HST.out wg g17 (.slice xk.A xk.n xk.c) (.int .i64 (pk : Int)) N17 (by assumption)
    have G17 := (F17.set_ 0 (.slice xk.A xk.n xk.c)).set_ 1 (.int .i64 (pk : Int))
    simp only [List.setIfInBounds_toArray, List.set_cons_zero, List.set_cons_succ] at G17
    have O16 := (G16.far (p := ⟨g17, 0, none⟩) (Ne.symm NE) (.slice xk.A xk.n xk.c)).far (p := ⟨g17, 1, none⟩) (Ne.symm NE) (.int .i64 (pk : Int))
    clear q0 q1 y0 y1 F17 G16
    obtain ⟨wh, hwwh⟩ : ∃ z, ((wg.setCell ⟨g17, 0, none⟩ (.slice xk.A xk.n xk.c)).setCell ⟨g17, 1, none⟩ (.int .i64 (pk : Int))) = z := ⟨_, rfl⟩
    rw [hwwh] at Swh G17 O16
    rw [hwwh]
    clear hwwh
    have G16 := O16
    clear O16
    refine hK.out _ _ Swh (fun _ => ?_)
    clear hK K
    try simp only [Act.put, List.setIfInBounds_toArray, List.set_cons_zero, List.set_cons_succ]
    refine wpAnyH_done (by kernel_rfl) ?_ _
    obtain ⟨hbw, a0, a1, _, _, _, _⟩ := Swh
    have p0 : wh.cell? ⟨g16, 0, none⟩ = some (.slice xi.A xi.n xi.c) := (G16.cell 0).trans rfl
    have r0 : wh.cell? ⟨g17, 0, none⟩ = some (.slice xk.A xk.n xk.c) := (G17.cell 0).trans rfl
    have HA1 := Lib.hid a1
    clear a0 a1 S0 Swe Swf Swg
    go_wp2_with fail
    refine (BF1.out _ HA1.out hbw).mono ?_
    rintro e w2 ⟨rfl, hx⟩
    have p0 : w2.cell? ⟨g16, 0, none⟩ = some (.slice xi.A xi.n xi.c) := ((G16.below hx G16.lt).cell 0).trans rfl
    have r0 : w2.cell? ⟨g17, 0, none⟩ = some (.slice xk.A xk.n xk.c) := ((G17.below hx G17.lt).cell 0).trans rfl
    have p1 : w2.cell? ⟨g16, 1, none⟩ = some (.int .i64 (pi : Int)) := ((G16.below hx G16.lt).cell 1).trans rfl
    have r1 : w2.cell? ⟨g17, 1, none⟩ = some (.int .i64 (pk : Int)) := ((G17.below hx G17.lt).cell 1).trans rfl
    have a1 := Lib.hid ((hx.cell (p := ⟨b, 2, none⟩) (block_lt_of_cell HA1.out)).trans HA1.out)
    have HB2 := Lib.hid (hop hbw (Nat.le_refl _) hx)
    clear hx G16 G17 hbw HA1
    cases z1 with
    | true =>
      have E := Lib.hid (show true = TT from HT.out.symm)
      go_wp2
      go_ret
      exact ⟨by rw [← E.out]; first | rfl | (simp; done), HB2.out⟩
    | false =>
      cases z2 with
      | false =>
        have E := Lib.hid (show false = TT from HT.out.symm)
        have y2 := HZ2.out
        have y3 := HZ2'.out
        go_wp2
        go_ret
        exact ⟨by rw [← E.out]; first | rfl | (simp; done), HB2.out⟩
      | true =>
        have E := Lib.hid (show (!z3) = TT from HT.out.symm)
        have y4 : pi < pk := of_decide_eq_true HZ2.out
        have y5 : (pi : Int) < (pk : Int) := by omega
        go_wp2_with fail
        refine (BF2.out _ a1.out HB2.out).mono ?_
        rintro e w3 ⟨rfl, hx⟩
        have HB3 := Lib.hid (hop HB2.out (Nat.le_refl _) hx)
        clear hx
        go_wp2
        go_ret
        exact ⟨by rw [← E.out]; first | rfl | (simp; done), HB3.out⟩

end Go.Proofs.YtdaainifkldcpaaGreatDoor
namespace Go.Proofs.YtdaainifkldcpaaGreatDoor
open Go.RowKit
set_option linter.unusedVariables false
set_option linter.unusedSimpArgs false
variable {P : MP}
set_option maxRecDepth 100000 in
set_option maxHeartbeats 1600000 in
theorem swap_any (b : Nat) (v : Value) (L : List (KeyP LsX)) (came i k : Nat) (hi : i < L.length) (hk : k < L.length) (w : World) (h : HeapSt P w b v L came) :
    Calls Tryz.prog 100 #[.pointer (some ⟨b, 0, none⟩), .int .i64 (i : Int), .int .i64 (k : Int)] w fun e w' => e = .returned (.tuple #[]) ∧ HeapSt P w' b v (swapP L i k) came ∧ HG b w v w' v := by
  obtain ⟨g, cap, cur, hv, hg, hB, hc, hm, hs, hcl⟩ := own_open h.row (by omega)
  subst hv
  have hfew := h.few
  have hless := h.less
  obtain ⟨i1, i2⟩ := hcl i hi
  obtain ⟨k1, k2⟩ := hcl k hk
  have ci1 : w.cell? ⟨g, i * 2, none⟩ = some (.slice (getP L i).it.A (getP L i).it.n (getP L i).it.c) := (hB.cell (i * 2)).trans i1
  have ci2 : w.cell? ⟨g, i * 2 + 1, none⟩ = some (.int .i64 ((getP L i).at_ : Int)) := (hB.cell (i * 2 + 1)).trans i2
  have ck1 : w.cell? ⟨g, k * 2, none⟩ = some (.slice (getP L k).it.A (getP L k).it.n (getP L k).it.c) := (hB.cell (k * 2)).trans k1
  have ck2 : w.cell? ⟨g, k * 2 + 1, none⟩ = some (.int .i64 ((getP L k).at_ : Int)) := (hB.cell (k * 2 + 1)).trans k2
  have c0 : w.cell? ⟨b, 0, none⟩ = some (.slice (some ⟨g, 0, none⟩) L.length cap) := (h.blk.cell 0).trans rfl
  have hiI : (i : Int) < (L.length : Int) := by omega
  have hkI : (k : Int) < (L.length : Int) := by omega
  obtain ⟨n, hn⟩ : ∃ n, L.length = n := ⟨_, rfl⟩
  rw [hn] at c0 hiI hkI
  obtain ⟨xi, hxi⟩ : ∃ x, (getP L i).it = x := ⟨_, rfl⟩
  obtain ⟨pi, hpi⟩ : ∃ x, (getP L i).at_ = x := ⟨_, rfl⟩
  obtain ⟨xk, hxk⟩ : ∃ x, (getP L k).it = x := ⟨_, rfl⟩
  obtain ⟨pk, hpk⟩ : ∃ x, (getP L k).at_ = x := ⟨_, rfl⟩
  rw [hxi] at ci1
  rw [hpi] at ci2
  rw [hxk] at ck1
  rw [hpk] at ck2
  have hni : n ≤ 1000000 := by omega
  have hgb : b ≠ g := by omega
  have fi1 := hB.frozen (i * 2)
  have fi2 := hB.frozen (i * 2 + 1)
  have B2 := (hB.set_ (i * 2) (.slice xk.A xk.n xk.c)).set_ (i * 2 + 1) (.int .i64 (pk : Int))
  have B3 := B2.set_ (k * 2) (.slice xi.A xi.n xi.c)
  obtain ⟨y1, d1⟩ : ∃ y, ((w.setCell ⟨g, i * 2, none⟩ (.slice xk.A xk.n xk.c)).setCell ⟨g, i * 2 + 1, none⟩ (.int .i64 (pk : Int))).drew.cell? ⟨g, k * 2, none⟩ = some y :=
    ⟨_, ((B2.drewN 1).cell (k * 2)).trans (Array.getElem?_eq_getElem (by rw [Array.size_setIfInBounds, Array.size_setIfInBounds, hs]; omega))⟩
  have e1 : ((w.setCell ⟨g, i * 2, none⟩ (.slice xk.A xk.n xk.c)).setCell ⟨g, i * 2 + 1, none⟩ (.int .i64 (pk : Int))).drew.frozen? ⟨g, k * 2, none⟩ = false := (B2.drewN 1).frozen (k * 2)
  obtain ⟨y2, d2⟩ : ∃ y, (((w.setCell ⟨g, i * 2, none⟩ (.slice xk.A xk.n xk.c)).setCell ⟨g, i * 2 + 1, none⟩ (.int .i64 (pk : Int))).setCell ⟨g, k * 2, none⟩ (.slice xi.A xi.n xi.c)).drew.cell? ⟨g, k * 2 + 1, none⟩ = some y :=
    ⟨_, ((B3.drewN 1).cell (k * 2 + 1)).trans (Array.getElem?_eq_getElem (by rw [Array.size_setIfInBounds, Array.size_setIfInBounds, Array.size_setIfInBounds, hs]; omega))⟩
  have e2 : (((w.setCell ⟨g, i * 2, none⟩ (.slice xk.A xk.n xk.c)).setCell ⟨g, i * 2 + 1, none⟩ (.int .i64 (pk : Int))).setCell ⟨g, k * 2, none⟩ (.slice xi.A xi.n xi.c)).drew.frozen? ⟨g, k * 2 + 1, none⟩ = false := (B3.drewN 1).frozen (k * 2 + 1)
  have C2 := (h.blk.far (p := ⟨g, i * 2, none⟩) hgb (.slice xk.A xk.n xk.c)).far (p := ⟨g, i * 2 + 1, none⟩) hgb (.int .i64 (pk : Int))
  have C4 := (C2.far (p := ⟨g, k * 2, none⟩) hgb (.slice xi.A xi.n xi.c)).far (p := ⟨g, k * 2 + 1, none⟩) hgb (.int .i64 (pi : Int))
  have S0 : w.drew.cell? ⟨b, 0, none⟩ = some (.slice (some ⟨g, 0, none⟩) n cap) := c0
  have S2 : ((w.setCell ⟨g, i * 2, none⟩ (.slice xk.A xk.n xk.c)).setCell ⟨g, i * 2 + 1, none⟩ (.int .i64 (pk : Int))).drew.cell? ⟨b, 0, none⟩ = some (.slice (some ⟨g, 0, none⟩) n cap) := by rw [← hn]; exact ((C2.drewN 1).cell 0).trans rfl
  have S4 : ((((w.setCell ⟨g, i * 2, none⟩ (.slice xk.A xk.n xk.c)).setCell ⟨g, i * 2 + 1, none⟩ (.int .i64 (pk : Int))).setCell ⟨g, k * 2, none⟩ (.slice xi.A xi.n xi.c)).setCell ⟨g, k * 2 + 1, none⟩ (.int .i64 (pi : Int))).drew.cell? ⟨b, 0, none⟩ = some (.slice (some ⟨g, 0, none⟩) n cap) := by rw [← hn]; exact ((C4.drewN 1).cell 0).trans rfl
  have HF := Lib.hid (swap_state h hi hk hg hB hc hm hs hcl)
  rw [hn, hxi, hxk, hpi, hpk] at HF
  rw [hn]
  clear h hn hxi hpi hxk hpk hB hcl hs hm hc i1 i2 k1 k2 hfew hless hi hk B2 B3 C2 C4
  go_enter Tryz.func100, Tryz.ntmps100
  refine wp_region_held_drew (S := fun w' => w'.cell? ⟨b, 0, none⟩ = some (.slice (some ⟨g, 0, none⟩) n cap)) (by kernel_rfl) S0 (fun hHeld => ?_)
  refine tV 0 ?_; refine tV 1 ?_; refine tV 2 ?_; refine tH 3 ?_; refine tV 4 ?_; refine tV 5 ?_; refine tV 6 ?_; refine tV 7 ?_; refine tH 8 ?_; refine tV 9 ?_
  refine tV 10 ?_; refine tV 11 ?_; refine tV 12 ?_; refine tH 13 ?_; refine tV 14 ?_; refine tV 15 ?_; refine tV 17 ?_; refine tV 18 ?_; refine tV 19 ?_; refine tH 20 ?_
  refine tV 21 ?_; refine tV 22 ?_
  refine rdy [16, 23] ?_
  refine rdC (fun K hK => ?_) ?_
  ·
    go_simp
    refine hK.out _ _ S0 (fun _ => ?_)
    clear hK K
    try simp only [Act.put, List.setIfInBounds_toArray, List.set_cons_zero, List.set_cons_succ]
    refine rdy [23] ?_
    refine rdC (fun K hK => ?_) AllReadyH.nil
    go_simp
    refine hK.out _ _ S0 (fun _ => ?_)
    clear hK K
    try simp only [Act.put, List.setIfInBounds_toArray, List.set_cons_zero, List.set_cons_succ]
    refine tV 24 ?_
    refine rdy [25] ?_
    refine rdC (fun K hK => ?_) AllReadyH.nil
    go_simp
    refine hK.out _ _ S2 (fun _ => ?_)
    clear hK K
    try simp only [Act.put, List.setIfInBounds_toArray, List.set_cons_zero, List.set_cons_succ]
    refine tV 26 ?_
    refine rdy [27] ?_
    refine rdC (fun K hK => ?_) AllReadyH.nil
    go_simp
    refine hK.out _ _ S4 (fun _ => ?_)
    clear hK K
    try simp only [Act.put, List.setIfInBounds_toArray, List.set_cons_zero, List.set_cons_succ]
    refine wpAnyH_done (by kernel_rfl) ?_ _
    go_wp2
    refine bodyPost_end (results_none rfl _ _ _) rfl ?_
    exact ⟨rfl, HF.out⟩
  refine rdC (fun K hK => ?_) AllReadyH.nil
  ·
    go_simp
    refine hK.out _ _ S0 (fun _ => ?_)
    clear hK K
    try simp only [Act.put, List.setIfInBounds_toArray, List.set_cons_zero, List.set_cons_succ]
    refine rdy [16] ?_
    refine rdC (fun K hK => ?_) AllReadyH.nil
    go_simp
    refine hK.out _ _ S0 (fun _ => ?_)
    clear hK K
    try simp only [Act.put, List.setIfInBounds_toArray, List.set_cons_zero, List.set_cons_succ]
    refine tV 24 ?_
    refine rdy [25] ?_
    refine rdC (fun K hK => ?_) AllReadyH.nil
    go_simp
    refine hK.out _ _ S2 (fun _ => ?_)
    clear hK K
    try simp only [Act.put, List.setIfInBounds_toArray, List.set_cons_zero, List.set_cons_succ]
    refine tV 26 ?_
    refine rdy [27] ?_
    refine rdC (fun K hK => ?_) AllReadyH.nil
    go_simp
    refine hK.out _ _ S4 (fun _ => ?_)
    clear hK K
    try simp only [Act.put, List.setIfInBounds_toArray, List.set_cons_zero, List.set_cons_succ]
    refine wpAnyH_done (by kernel_rfl) ?_ _
    go_wp2
    refine bodyPost_end (results_none rfl _ _ _) rfl ?_
    exact ⟨rfl, HF.out⟩

end Go.Proofs.YtdaainifkldcpaaGreatDoor
namespace Go.Proofs.YtdaainifkldcpaaGreatDoor
open Go.RowKit
set_option linter.unusedVariables false
set_option linter.unusedSimpArgs false
variable {P : MP}
set_option maxRecDepth 100000 in
set_option maxHeartbeats 1600000 in
theorem peek_none (b : Nat) (v : Value) (came : Nat) (w : World) (h : HeapSt P w b v [] came) :
    Calls Tryz.prog 99 #[.pointer (some ⟨b, 0, none⟩)] w fun e w' => e = .returned (.tuple #[.slice none 0 0, .bool false]) ∧ w' = w := by
  go_enter Tryz.func99, Tryz.ntmps99
  go_wp2_with fail
  refine (hpMany_any b v [] came w h).mono ?_
  rintro e w4 ⟨rfl, rfl⟩
  go_wp2
  (try simp only [Exit.inBlock, Exit.then])
  refine bodyPost_ret (results_tmp2 rfl _ _ _) rfl ?_
  exact ⟨by first | rfl | (simp; done), by first | rfl | trivial⟩
set_option maxRecDepth 100000 in
set_option maxHeartbeats 1600000 in
theorem peek_any (b : Nat) (v : Value) (L : List (KeyP LsX)) (came : Nat) (hL : 0 < L.length) (w : World) (h : HeapSt P w b v L came) :
    Calls Tryz.prog 99 #[.pointer (some ⟨b, 0, none⟩)] w fun e w' => e = .returned (.tuple #[.slice (getP L 0).it.A (getP L 0).it.n (getP L 0).it.c, .bool true]) ∧ w' = w := by
  obtain ⟨g, cap, cur, hv, hg, hB, hc, hm, hs, hcl⟩ := own_open h.row hL
  subst hv
  have h2 := hcl 0 hL
  have c1 : w.cell? ⟨g, 0, none⟩ = some (.slice (getP L 0).it.A (getP L 0).it.n (getP L 0).it.c) := (hB.cell 0).trans (by simpa using h2.1)
  have c0 : w.cell? ⟨b, 0, none⟩ = some (.slice (some ⟨g, 0, none⟩) L.length cap) := (h.blk.cell 0).trans rfl
  have HH := Lib.hid h
  have q1 : ¬ (L.length : Int) = 0 := by omega
  have q2 : ¬ L.length = 0 := by omega
  have q3 : (0 : Int) < (L.length : Int) := by omega
  have hln : L ≠ [] := fun e => by rw [e] at hL; exact absurd hL (by simp)
  have HCL := Lib.hid hcl
  clear h hcl h2 hB
  go_enter Tryz.func99, Tryz.ntmps99
  go_wp2_with fail
  refine (hpMany_any b _ L came w HH.out).mono ?_
  rintro e w4 ⟨rfl, rfl⟩
  go_wp2
  (try simp only [Exit.inBlock, Exit.then])
  refine bodyPost_ret (results_tmp2 rfl _ _ _) rfl ?_
  exact ⟨by first | rfl | (simp; done), by first | rfl | trivial⟩

end Go.Proofs.YtdaainifkldcpaaGreatDoor
namespace Go.Proofs.YtdaainifkldcpaaGreatDoor
open Go.RowKit
set_option linter.unusedVariables false
set_option linter.unusedSimpArgs false
variable {P : MP}
def dropW (w : World) (b g m : Nat) (v : Value) : World := ((w.setCell ⟨g, m * 2, none⟩ (.slice none 0 0)).setCell ⟨g, m * 2 + 1, none⟩ (.int .i64 0)).setCell ⟨b, 0, none⟩ v
theorem drop_state {b g cap came m : Nat} {L : List (KeyP LsX)} {cur : Array Value} {w : World} (h : HeapSt P w b (.slice (some ⟨g, 0, none⟩) L.length cap) L came) (hm1 : m + 1 = L.length) (hg : b + 1 ≤ g) (hB : Blk w g 245 cur) (hc : L.length ≤ cap) (hm : cap ≤ maxLen) (hs : cur.size = cap * 2)
    (hcl : ∀ j, j < L.length → cur[j * 2]? = some (.slice (getP L j).it.A (getP L j).it.n (getP L j).it.c) ∧ cur[j * 2 + 1]? = some (.int .i64 ((getP L j).at_ : Int))) :
    HeapSt P (dropW w b g m (.slice (some ⟨g, 0, none⟩) m cap)) b (.slice (some ⟨g, 0, none⟩) m cap) (L.take m) came ∧ HG b w (.slice (some ⟨g, 0, none⟩) L.length cap) (dropW w b g m (.slice (some ⟨g, 0, none⟩) m cap)) (.slice (some ⟨g, 0, none⟩) m cap) := by
  have hgb : b ≠ g := by omega
  have hlen : (L.take m).length = m := by rw [List.length_take]; omega
  refine and_base (fun hgg => ⟨?_, ?_, fun x hx => h.good x (List.mem_of_mem_take hx), fun x hx => h.old x (List.mem_of_mem_take hx), by rw [hlen]; have := h.few; omega, h.less, h.over hgg⟩) ?_
  · have B3 := (((h.blk.far (p := ⟨g, m * 2, none⟩) hgb (.slice none 0 0)).far (p := ⟨g, m * 2 + 1, none⟩) hgb (.int .i64 0)).set_ 0 (.slice (some ⟨g, 0, none⟩) m cap))
    simpa [dropW] using B3
  · have B3 := ((hB.set_ (m * 2) (.slice none 0 0)).set_ (m * 2 + 1) (.int .i64 0)).far (p := ⟨b, 0, none⟩) (Ne.symm hgb) (.slice (some ⟨g, 0, none⟩) m cap)
    have key := own_shut (L := L.take m) hg B3 (by rw [hlen]; omega) hm (by rw [Array.size_setIfInBounds, Array.size_setIfInBounds]; exact hs) (fun j hj => by
      rw [hlen] at hj
      obtain ⟨q1, q2⟩ := hcl j (by omega)
      have sz : m * 2 + 1 < cur.size := by omega
      rw [getP_take hj, set_at _ _ _ _ (by rw [Array.size_setIfInBounds]; exact sz), set_at _ _ _ _ (by omega), set_at _ _ _ _ (by rw [Array.size_setIfInBounds]; exact sz), set_at _ _ _ _ (by omega), if_neg (by omega), if_neg (by omega), if_neg (by omega), if_neg (by omega)]
      exact ⟨q1, q2⟩)
    rw [hlen] at key
    exact key
  · refine ⟨rfl, rfl, rfl, by simp [dropW], fun k hk hkb hkv => ?_, fun k hk => .inl hk⟩
    have hkg : k ≠ g := fun e => hkv (by rw [e]; rfl)
    exact (Below.heap_setCell _ _ _ k hkb).trans ((Below.heap_setCell _ _ _ k hkg).trans (Below.heap_setCell _ _ _ k hkg))
set_option maxRecDepth 100000 in
set_option maxHeartbeats 1600000 in
theorem drop_any (b : Nat) (v : Value) (L : List (KeyP LsX)) (came : Nat) (hL : 0 < L.length) (w : World) (h : HeapSt P w b v L came) :
    Calls Tryz.prog 102 #[.pointer (some ⟨b, 0, none⟩)] w fun e w' => e = .returned (.tuple #[]) ∧ ∃ v', HeapSt P w' b v' (L.take (L.length - 1)) came ∧ HG b w v w' v' := by
  obtain ⟨g, cap, cur, hv, hg, hB, hc, hm, hs, hcl⟩ := own_open h.row hL
  subst hv
  have hfew := h.few
  have hless := h.less
  obtain ⟨m, hm1⟩ : ∃ m, m + 1 = L.length := ⟨L.length - 1, by omega⟩
  have HF := Lib.hid (drop_state h hm1 hg hB hc hm hs hcl)
  have c0 : w.cell? ⟨b, 0, none⟩ = some (.slice (some ⟨g, 0, none⟩) L.length cap) := (h.blk.cell 0).trans rfl
  have hgb : b ≠ g := by omega
  obtain ⟨i1, i2⟩ := hcl m (by omega)
  have ci1 : w.cell? ⟨g, m * 2, none⟩ = some (.slice (getP L m).it.A (getP L m).it.n (getP L m).it.c) := (hB.cell (m * 2)).trans i1
  have ci2 : w.cell? ⟨g, m * 2 + 1, none⟩ = some (.int .i64 ((getP L m).at_ : Int)) := (hB.cell (m * 2 + 1)).trans i2
  have fi1 := hB.frozen (m * 2)
  have fi2 := hB.frozen (m * 2 + 1)
  have f0 := h.blk.frozen 0
  have hmI : (L.length : Int) - 1 = (m : Int) := by omega
  have hmn : L.length - 1 = m := by omega
  rw [hmn]
  obtain ⟨n, hn⟩ : ∃ n, L.length = n := ⟨_, rfl⟩
  rw [hn] at c0 hmI HF hc hm1 hL
  rw [hn]
  have hn1 : n ≤ 1000000 := by omega
  have hmn' : (m : Int) < (n : Int) := by omega
  clear h hB hs hcl hn hfew hless i1 i2 hmn
  go_enter Tryz.func102, Tryz.ntmps102
  go_wp2
  refine bodyPost_end (results_none rfl _ _ _) rfl ?_
  exact ⟨rfl, _, HF.out⟩

end Go.Proofs.YtdaainifkldcpaaGreatDoor
namespace Go.Proofs.YtdaainifkldcpaaGreatDoor
open Go.RowKit
set_option linter.unusedVariables false
set_option linter.unusedSimpArgs false
variable {P : MP}
structure FirstP (P : MP) (M : List (KeyP LsX)) (i k f : Nat) : Prop where
  lt : f < M.length
  was : f = i ∨ (parN f = i ∧ 0 < f ∧ ahdP (keyM P) (getP M f) (getP M i) = true)
  all : ∀ j, 0 < j → j < M.length → parN j = i → j < k → ahdP (keyM P) (getP M j) (getP M f) = false
theorem FirstP.start {M : List (KeyP LsX)} {i : Nat} (h : i < M.length) : FirstP P M i (2 * i + 1) i := ⟨h, .inl rfl, fun j h0 hj hp hk => by unfold parN at hp; omega⟩
theorem FirstP.stay {M : List (KeyP LsX)} {i k f : Nat} (h : FirstP P M i k f) (ha : ahdP (keyM P) (getP M k) (getP M f) = false) : FirstP P M i (k + 1) f := ⟨h.lt, h.was, fun j h0 hj hp hk => by
  by_cases e : j = k
  · rw [e]; exact ha
  · exact h.all j h0 hj hp (by omega)⟩
theorem FirstP.step {M : List (KeyP LsX)} {i k f : Nat} (h : FirstP P M i k f) (hk : k < M.length) (h1 : 2 * i + 1 ≤ k) (h2 : k ≤ 2 * i + 2) (ha : ahdP (keyM P) (getP M k) (getP M f) = true) : FirstP P M i (k + 1) k := by
  refine ⟨hk, .inr ⟨by unfold parN; omega, by omega, ?_⟩, fun j h0 hj hp hjk => ?_⟩
  · rcases h.was with e | ⟨_, _, e⟩
    · rw [e] at ha; exact ha
    · rw [ahd_iff] at ha e ⊢; omega
  · by_cases e : j = k
    · rw [e, ahd_not]; omega
    · have a1 := h.all j h0 hj hp (by omega)
      rw [ahd_iff] at ha
      rw [ahd_not] at a1 ⊢
      omega
theorem FirstP.whole {M : List (KeyP LsX)} {i k f : Nat} (h : FirstP P M i k f) (hk : k = 2 * i + 3 ∨ M.length ≤ k) : ∀ j, 0 < j → j < M.length → parN j = i → ahdP (keyM P) (getP M j) (getP M f) = false := fun j h0 hj hp => h.all j h0 hj hp (by unfold parN at hp; omega)
set_option maxRecDepth 100000 in
set_option maxHeartbeats 1600000 in
theorem sink_any (b : Nat) (v : Value) (L : List (KeyP LsX)) (came i : Nat) (hu : DownP (keyM P) L i) (hi : i < L.length) (w : World) (h : HeapSt P w b v L came) :
    Calls Tryz.prog 103 #[.pointer (some ⟨b, 0, none⟩), .int .i64 (i : Int)] w fun e w' => e = .returned (.tuple #[]) ∧ ∃ L', L'.Perm L ∧ IsHeapP (keyM P) L' ∧ HeapSt P w' b v L' came ∧ HG b w v w' v := by
  have hfew := h.few
  have hless := h.less
  have H0 := Lib.hid h
  have HU0 := Lib.hid hu
  clear h hu
  go_enter Tryz.func103, Tryz.ntmps103
  go_wp2
  go_loopw [1] (fun iv wr => ∃ (j : Nat) (M : List (KeyP LsX)), iv = .int .i64 (j : Int) ∧ j < M.length ∧ M.length = L.length ∧ Hid (M.Perm L) ∧ Hid (DownP (keyM P) M j) ∧ Hid (HeapSt P wr b v M came) ∧ Hid (HG b w v wr v)) (fun iv _ => (intOf (.int .i64 (L.length : Int))).toNat - (intOf iv).toNat)
  case atStart => exact ⟨i, L, rfl, hi, rfl, Lib.hid (List.Perm.refl _), HU0, H0, Lib.hid (HG.refl _ _ _)⟩
  case round =>
    obtain ⟨j, M, rfl, hjM, hML, HP, HU, HS, HGG⟩ := hrel
    obtain ⟨v0, hv0⟩ : ∃ v, v = wr := ⟨_, rfl⟩
    subst hv0
    have hMc := HS.out.few
    go_wp2
    go_loopw [4, 5] (fun fv kv w3 => ∃ (k f : Nat), fv = .int .i64 (f : Int) ∧ kv = .int .i64 (k : Int) ∧ 2 * j + 1 ≤ k ∧ k ≤ 2 * j + 3 ∧ f < M.length ∧ Hid (FirstP P M j k f) ∧ Below v0.heap.size v0 w3) (fun _ kv _ => (intOf (.int .i64 (2 * (j : Int) + 3))).toNat - (intOf kv).toNat)
    case atStart => exact ⟨2 * j + 1, j, rfl, by first | rfl | go_num, Nat.le_refl _, by omega, hjM, Lib.hid (FirstP.start hjM), Below.refl _ _⟩
    case round =>
      obtain ⟨k, f, rfl, rfl, hk1, hk2, hfM, HF, hb3⟩ := hrel
      have HS3 := Lib.hid (HS.out.below hb3)
      by_cases hgo : k ≤ 2 * j + 2 ∧ k < M.length
      · obtain ⟨g1, g2⟩ := hgo
        have q1 : (k : Int) ≤ 2 * (j : Int) + 2 := by omega
        have q2 : (k : Int) < (M.length : Int) := by omega
        go_wp2_with fail
        refine (hpMany_any b v M came wr HS3.out).mono ?_
        rintro e w4 ⟨rfl, rfl⟩
        go_wp2_with fail
        refine (ahead_any b v M came k f g2 hfM _ HS3.out).mono ?_
        rintro e w5 ⟨rfl, hx⟩
        have HB5 := Lib.hid (hop hb3 (Nat.le_refl _) hx)
        clear hx hb3 HS3
        rcases hA : ahdP (keyM P) (getP M k) (getP M f) with _ | _
        · have HF2 := Lib.hid (HF.out.stay hA)
          clear hA HF
          go_wp2
          go_round
          case rel => exact ⟨k + 1, f, rfl, by first | rfl | go_num, by omega, by omega, hfM, HF2, HB5.out⟩
          case measure => simp [intOf]; omega
        · have HF2 := Lib.hid (HF.out.step g2 hk1 g1 hA)
          clear hA HF
          go_wp2
          go_round
          case rel => exact ⟨k + 1, k, rfl, by first | rfl | go_num, by omega, by omega, g2, HF2, HB5.out⟩
          case measure => simp [intOf]; omega
      · have HW := Lib.hid (HF.out.whole (by omega))
        have HWas := Lib.hid HF.out.was
        by_cases g1 : k ≤ 2 * j + 2
        · have g2 : ¬ k < M.length := fun g2 => hgo ⟨g1, g2⟩
          have q1 : (k : Int) ≤ 2 * (j : Int) + 2 := by omega
          have q2 : ¬ (k : Int) < (M.length : Int) := by omega
          have q3 : decide (k < M.length) = false := decide_eq_false g2
          clear hgo HF
          go_wp2_with fail
          refine (hpMany_any b v M came wr HS3.out).mono ?_
          rintro e w4 ⟨rfl, rfl⟩
          rcases HWas.out with he | ⟨hpf, h0f, haf⟩
          · obtain rfl := he
            have HE := Lib.hid (down_end (keyM P) HU.out HW.out)
            clear HW HWas HU
            go_wp2
            refine bodyPost_ret (results_none rfl _ _ _) rfl ?_
            exact ⟨rfl, M, HP.out, HE.out, HS3.out, HGG.out.trans (HG.of_below hb3)⟩
          · have hjf : j < f := by unfold parN at hpf; omega
            have qn : ¬ (f : Int) = (j : Int) := by omega
            have qm : ¬ f = j := by omega
            have HU2 := Lib.hid (down_step (keyM P) HU.out h0f hfM hpf haf HW.out)
            have HP2 := Lib.hid ((swapP_perm hjM hfM).trans HP.out)
            have hlen2 := swapP_len M j f
            clear HW HWas HU hpf h0f haf HP
            go_wp2_with fail
            refine (swap_any b v M came j f hjM hfM _ HS3.out).mono ?_
            rintro e w6 ⟨rfl, hs6, hg6⟩
            have HS6 := Lib.hid hs6
            have HG6 := Lib.hid ((HGG.out.trans (HG.of_below hb3)).trans hg6)
            clear hs6 hg6 HS3 hb3 HGG HS
            go_wp2
            go_round
            case rel => exact ⟨f, swapP M j f, rfl, by omega, by omega, HP2, HU2, HS6, HG6⟩
            case measure => simp [intOf]; omega
        · have q1 : ¬ (k : Int) ≤ 2 * (j : Int) + 2 := by omega
          clear hgo HF
          rcases HWas.out with he | ⟨hpf, h0f, haf⟩
          · obtain rfl := he
            have HE := Lib.hid (down_end (keyM P) HU.out HW.out)
            clear HW HWas HU
            go_wp2
            refine bodyPost_ret (results_none rfl _ _ _) rfl ?_
            exact ⟨rfl, M, HP.out, HE.out, HS3.out, HGG.out.trans (HG.of_below hb3)⟩
          · have hjf : j < f := by unfold parN at hpf; omega
            have qn : ¬ (f : Int) = (j : Int) := by omega
            have qm : ¬ f = j := by omega
            have HU2 := Lib.hid (down_step (keyM P) HU.out h0f hfM hpf haf HW.out)
            have HP2 := Lib.hid ((swapP_perm hjM hfM).trans HP.out)
            have hlen2 := swapP_len M j f
            clear HW HWas HU hpf h0f haf HP
            go_wp2_with fail
            refine (swap_any b v M came j f hjM hfM _ HS3.out).mono ?_
            rintro e w6 ⟨rfl, hs6, hg6⟩
            have HS6 := Lib.hid hs6
            have HG6 := Lib.hid ((HGG.out.trans (HG.of_below hb3)).trans hg6)
            clear hs6 hg6 HS3 hb3 HGG HS
            go_wp2
            go_round
            case rel => exact ⟨f, swapP M j f, rfl, by omega, by omega, HP2, HU2, HS6, HG6⟩
            case measure => simp [intOf]; omega

end Go.Proofs.YtdaainifkldcpaaGreatDoor
namespace Go.Proofs.YtdaainifkldcpaaGreatDoor
open Go.RowKit
set_option linter.unusedVariables false
set_option linter.unusedSimpArgs false
variable {P : MP}
theorem par_num {j : Nat} (h : 0 < j) : ((j : Int) - 1).tdiv 2 = (parN j : Int) := by
  unfold parN
  obtain ⟨k, rfl⟩ : ∃ k, j = k + 1 := ⟨j - 1, by omega⟩
  rw [show ((k + 1 : Nat) : Int) - 1 = (k : Int) by omega, Int.tdiv_eq_ediv_of_nonneg (by omega)]
  omega
set_option maxRecDepth 100000 in
set_option maxHeartbeats 1600000 in
theorem rise_any (b : Nat) (v : Value) (L : List (KeyP LsX)) (came i : Nat) (hu : UpH (keyM P) L i) (w : World) (h : HeapSt P w b v L came) :
    Calls Tryz.prog 133 #[.pointer (some ⟨b, 0, none⟩), .int .i64 (i : Int)] w fun e w' => e = .returned (.tuple #[]) ∧ ∃ L', L'.Perm L ∧ IsHeapP (keyM P) L' ∧ HeapSt P w' b v L' came ∧ HG b w v w' v := by
  have hfew := h.few
  have hless := h.less
  have H0 := Lib.hid h
  have HU0 := Lib.hid hu
  clear h hu
  go_enter Tryz.func133, Tryz.ntmps133
  go_wp2
  go_loopw [1] (fun iv wr => ∃ (j : Nat) (M : List (KeyP LsX)), iv = .int .i64 (j : Int) ∧ Hid (M.Perm L) ∧ Hid (UpH (keyM P) M j) ∧ Hid (HeapSt P wr b v M came) ∧ Hid (HG b w v wr v)) (fun iv _ => (intOf iv).toNat)
  case atStart => exact ⟨i, L, rfl, Lib.hid (List.Perm.refl _), HU0, H0, Lib.hid (HG.refl _ _ _)⟩
  case round =>
    obtain ⟨j, M, rfl, HP, HU, HS, HGG⟩ := hrel
    have hj : j < came := Nat.lt_of_lt_of_le HU.out.lt HS.out.few
    rcases Nat.eq_zero_or_pos j with hj0 | hj0
    · have q1 : decide (0 < j) = false := decide_eq_false (by omega)
      have q3 : ¬ (0 : Int) < (j : Int) := by omega
      have HE := Lib.hid (up_end (keyM P) HU.out (.inl hj0))
      clear hj0
      go_wp2
      refine bodyPost_end (results_none rfl _ _ _) rfl ?_
      exact ⟨rfl, M, HP.out, HE.out, HS.out, HGG.out⟩
    · have q2 := par_num hj0
      have hpj : parN j < j := by unfold parN; omega
      obtain ⟨p, hp⟩ : ∃ p, parN j = p := ⟨_, rfl⟩
      rw [hp] at q2 hpj
      have HPJ := Lib.hid hp
      have HJ0 := Lib.hid hj0
      have q3 : (0 : Int) < (j : Int) := by omega
      clear hp hj0
      have hM : j < M.length := HU.out.lt
      have hpM : p < M.length := by omega
      go_wp2_with fail
      refine (ahead_any b v M came j p hM hpM wr HS.out).mono ?_
      rintro e w2 ⟨rfl, hx⟩
      have HS2 := Lib.hid (HS.out.below hx)
      have HG2 := Lib.hid (HGG.out.trans (HG.of_below hx))
      clear hx HS HGG
      rcases hA : ahdP (keyM P) (getP M j) (getP M p) with _ | _
      · have HE := Lib.hid (up_end (keyM P) HU.out (.inr (by rw [HPJ.out]; exact hA)))
        clear hA
        go_wp2
        refine bodyPost_end (results_none rfl _ _ _) rfl ?_
        exact ⟨rfl, M, HP.out, HE.out, HS2.out, HG2.out⟩
      · have HU2 := Lib.hid (up_step (keyM P) HU.out HJ0.out (by rw [HPJ.out]; exact hA))
        clear hA
        go_wp2_with fail
        refine (swap_any b v M came j p hM hpM w2 HS2.out).mono ?_
        rintro e w3 ⟨rfl, hs3, hg3⟩
        have HS3 := Lib.hid hs3
        have HG3 := Lib.hid (HG2.out.trans hg3)
        have hu2 := HU2.out
        rw [HPJ.out] at hu2
        have HU3 := Lib.hid hu2
        have HP3 := Lib.hid ((swapP_perm hM hpM).trans HP.out)
        clear hs3 hg3 hu2 HS2 HG2 HU HU2 HP
        go_wp2
        go_round
        case rel => exact ⟨p, swapP M j p, by first | rfl | go_num, HP3, HU3, HS3, HG3⟩
        case measure => simp [intOf]; omega

end Go.Proofs.YtdaainifkldcpaaGreatDoor
namespace Go.Proofs.YtdaainifkldcpaaGreatDoor
open Go.RowKit
set_option linter.unusedVariables false
set_option linter.unusedSimpArgs false
variable {P : MP}
theorem infoItemI : (Tryz.prog.info? 245).map (fun i => (i.zero, i.size, i.bytes)) = some (some (.agg #[.slice none 0 0, .int .i64 0]), 2, 32) := by kernel_rfl
def addW (w : World) (b : Nat) (v : Value) (came : Nat) : World := (w.setCell ⟨b, 0, none⟩ v).setCell ⟨b, 1, none⟩ (.int .i64 ((came : Int) + 1))
theorem own_no {w : World} {b : Nat} {v : Value} {L : List (KeyP LsX)} {came : Nat} (h : HeapSt P w b v L came) : some b ≠ v.ownBlock := fun e => by
  have := (World.ownsRow.lt h.row b e.symm).1
  omega
theorem add_blk {b came : Nat} {L : List (KeyP LsX)} {v : Value} {w1 w2 : World} (h : HeapSt P w1 b v L came) (hgrow : w1.grownBy w2 v.ownBlock) : Blk w2 b 208 #[v, .int .i64 (came : Int), .func (.func 69) #[] #[.pointer (some ⟨P.ac, 0, none⟩)]] :=
  (hgrow.block b h.blk.lt (own_no h)).trans h.blk
theorem add_over {b came : Nat} {L : List (KeyP LsX)} {v nv : Value} {w w1 w2 : World} (h : HeapSt P w1 b v L came) (hb : Below w.heap.size w w1) (hW : P.W0.heap.size ≤ w.heap.size) (hg : HG b w v w2 nv) : Below P.W0.heap.size P.W0 w2 ∧ P.W0.heap.size ≤ b := by
  have h2 := h.base.2
  refine ⟨⟨hg.os.trans (hb.os.symm.trans h.base.1.os), hg.tape.trans (hb.tape.symm.trans h.base.1.tape), hg.output.trans (hb.output.symm.trans h.base.1.output), Nat.le_trans hW hg.size, fun k hk => ?_⟩, h2⟩
  exact (hg.block k (by omega) (by omega) (fun e => by have := (World.ownsRow.lt h.row k e.symm).1; omega)).trans ((hb.block k (by omega)).symm.trans (h.base.1.block k hk))
theorem add_state {b came g : Nat} {L : List (KeyP LsX)} {v nv : Value} {x : LsX} {w w1 w2 : World} (h : HeapSt P w1 b v L came) (hb : Below w.heap.size w w1) (hW : P.W0.heap.size ≤ w.heap.size) (hgx : GoodL P x) (hc : came < 1000000)
    (hrow : OwnR itV 2 w2 (b + 1) 245 nv (L ++ [⟨x, came⟩])) (hgrow : w1.grownBy w2 v.ownBlock) (hno : nv.ownBlock = some g) (hg : v.ownBlock = some g ∨ g = w1.heap.size) :
    HeapSt P (addW w2 b nv came) b nv (L ++ [⟨x, came⟩]) (came + 1) ∧ HG b w v (addW w2 b nv came) nv := by
  have B2 := add_blk h hgrow
  have hlen : (L ++ [(⟨x, came⟩ : KeyP LsX)]).length = L.length + 1 := by simp
  refine and_base (fun hgq => ⟨?_, ?_, fun y hy => ?_, fun y hy => ?_, by rw [hlen]; have := h.few; omega, by omega, add_over h hb hW hgq⟩) ?_
  · have B3 := (B2.set_ 0 nv).set_ 1 (.int .i64 ((came : Int) + 1))
    simpa [addW] using B3
  · obtain ⟨g2, cap, cur, hv, hg2, hB, hcp, hm, hs, hcl⟩ := own_open hrow (by rw [hlen]; omega)
    subst hv
    have hgb : g2 ≠ b := by omega
    exact own_shut hg2 ((hB.far (p := ⟨b, 0, none⟩) hgb _).far (p := ⟨b, 1, none⟩) hgb _) hcp hm hs hcl
  · rcases List.mem_append.1 hy with hy | hy
    · exact h.good y hy
    · rw [List.mem_singleton.1 hy]
      exact hgx
  · rcases List.mem_append.1 hy with hy | hy
    · have := h.old y hy
      omega
    · rw [List.mem_singleton.1 hy]
      exact Nat.lt_succ_self _
  · refine ⟨hgrow.os.trans hb.os, hgrow.tape.trans hb.tape, hgrow.output.trans hb.output, ?_, fun k hk hkb hkv => ?_, fun k hk => ?_⟩
    · have h1 := hb.size
      have h2 := hgrow.size
      simp [addW]
      omega
    · have h1 := hb.size
      exact (Below.heap_setCell _ _ _ k hkb).trans ((Below.heap_setCell _ _ _ k hkb).trans ((hgrow.block k (by omega) hkv).trans (hb.block k hk)))
    · have h1 := hb.size
      rw [hno] at hk
      injection hk with hk
      subst hk
      rcases hg with hg | hg
      · exact .inl hg
      · exact .inr (by omega)
def BelowD (w w' : World) : Prop := Below w.heap.size w w'
theorem BelowD.start (w : World) : BelowD w w.drew := below_drewN (Below.refl _ _) 1
theorem BelowD.below {w w1 w2 : World} (h : BelowD w w1) (k : Below w1.heap.size w1 w2) : BelowD w w2 := hop h (Nat.le_refl _) k
set_option maxRecDepth 100000 in
set_option maxHeartbeats 1600000 in
theorem hadd_any (b : Nat) (v : Value) (L : List (KeyP LsX)) (came : Nat) (x : LsX) (hgx : GoodL P x) (hcm : came < 1000000) (w : World) (h : HeapSt P w b v L came) :
    Calls Tryz.prog 134 #[.pointer (some ⟨b, 0, none⟩), .slice x.A x.n x.c] w fun e w' => e = .returned (.int .i64 (L.length : Int)) ∧ ∃ v', HeapSt P w' b v' (L ++ [⟨x, came⟩]) (came + 1) ∧ HG b w v w' v' := by
  obtain ⟨i0, hi, hz0, hz1, hz2⟩ := info_parts infoItemI
  have hW0 := h.base.1.size
  have hfew := h.few
  have HB0 : BelowD w w.drew := BelowD.start w
  have hst : HeapSt P w.drew b v L came := h.below (below_drewN (Below.refl _ _) 1)
  clear h
  have S0 : True := trivial
  have HS := Lib.hid (fun (w1 w2 : World) (_ : True) (_ : Below w1.heap.size w1 w2) => trivial)
  go_enter Tryz.func134, Tryz.ntmps134
  go_wp2
  refine wp_region_held_drew (S := fun w' => True) (by kernel_rfl) S0 (fun hHeld => ?_)
  obtain ⟨w0, hw0⟩ : ∃ z, w.drew = z := ⟨_, rfl⟩
  rw [hw0] at hst HB0 ⊢
  clear hw0
  refine tV 0 ?_; refine tV 1 ?_; refine tV 2 ?_; refine tV 3 ?_; refine tV 5 ?_; refine tV 6 ?_; refine tV 7 ?_; refine tV 8 ?_
  refine rdy [4, 9] ?_
  refine rdC (fun K hK => ?_) ?_
  ·
    have c0 : w0.cell? ⟨b, 0, none⟩ = some (v) := (hst.blk.cell 0).trans rfl
    go_simp
    clear c0
    refine hK.out _ _ S0 (fun _ => ?_)
    clear hK K
    try simp only [Act.put, List.setIfInBounds_toArray, List.set_cons_zero, List.set_cons_succ]
    refine rdy [9] ?_
    refine rdC (fun K hK => ?_) AllReadyH.nil
    have c0 : w0.cell? ⟨b, 1, none⟩ = some (.int .i64 (came : Int)) := (hst.blk.cell 1).trans rfl
    go_simp
    clear c0
    refine hK.out _ _ S0 (fun _ => ?_)
    clear hK K
    try simp only [Act.put, List.setIfInBounds_toArray, List.set_cons_zero, List.set_cons_succ]
    refine tV 10 ?_
    refine rdy [11] ?_
    refine rdC (fun K hK => ?_) AllReadyH.nil
    go_simp
    have hb3 : Below w0.heap.size w0 (w0.alloc (.cells #[.slice x.A x.n x.c, .int .i64 (came : Int)] 245)) := (Below.refl _ _).alloc (Nat.le_refl _) _
    obtain ⟨g11, hg11⟩ : ∃ g, w0.heap.size = g := ⟨_, rfl⟩
    have HN : BlkW (w0.alloc (.cells #[.slice x.A x.n x.c, .int .i64 (came : Int)] 245)) g11 245 #[.slice x.A x.n x.c, .int .i64 (came : Int)] := by rw [← hg11]; exact Blk.new _ _ _
    obtain ⟨wc3, hwwc3⟩ : ∃ z, w0.alloc (.cells #[.slice x.A x.n x.c, .int .i64 (came : Int)] 245) = z := ⟨_, rfl⟩
    have Hb3 := Lib.hid hb3
    have HHN := Lib.hid HN
    clear hb3 HN
    rw [hwwc3] at Hb3 HHN
    rw [hwwc3, hg11]
    have hb3 := Hb3.out
    have HN := HHN.out
    clear hwwc3 Hb3 HHN hg11
    replace hst := hst.below hb3
    replace HB0 := HB0.below hb3
    have Sc3 := HS.out _ _ (by assumption) hb3
    refine hK.out _ _ Sc3 (fun _ => ?_)
    clear hK K hb3
    try simp only [Act.put, List.setIfInBounds_toArray, List.set_cons_zero, List.set_cons_succ]
    refine rdy [12] ?_
    refine rdC (fun K hK => ?_) AllReadyH.nil
    refine step_append_lies _ (by rfl) (.tmp 9) (.tmp 16) 204 (by rfl) (b + 1) 245 i0 (.agg #[.slice none 0 0, .int .i64 0]) 2 32 Tryz.underlying204 hi hz0 hz1 hz2 rfl (by decide) _ _ _ (by rfl) hst.row ⟨_, 0, none⟩ 1 1 (itV ⟨x, came⟩) (by rfl) rfl (World.news_of_block HN) (itV_one _) (by omega) (by unfold maxLen; omega) (by omega) (by have := hst.blk.lt; omega) _ rfl ?_
    intro g cap w2 hown' hgrow hg' hlt2
    have BB := add_blk hst hgrow
    have HAS := Lib.hid (add_state (w := w) hst HB0 hW0 hgx hcm (OwnR.snoc (a := (⟨x, came⟩ : KeyP LsX)) hown') hgrow rfl hg')
    refine hK.out _ _ S0 (fun _ => ?_)
    clear hK K
    try simp only [Act.put, List.setIfInBounds_toArray, List.set_cons_zero, List.set_cons_succ]
    refine tV 13 ?_; refine tV 14 ?_
    refine rdy [15] ?_
    refine rdC (fun K hK => ?_) AllReadyH.nil
    have c0 := BB.cell 0
    have f0 := BB.frozen 0
    go_simp
    refine hK.out _ _ S0 (fun _ => ?_)
    clear hK K
    try simp only [Act.put, List.setIfInBounds_toArray, List.set_cons_zero, List.set_cons_succ]
    refine wpAnyH_done (by kernel_rfl) ?_ _
    have d0 := BB.cell 0
    have d1 := BB.cell 1
    have e1 := BB.frozen 1
    go_wp2
    go_ret
    exact ⟨by first | rfl | go_num, _, HAS.out⟩
  refine rdC (fun K hK => ?_) AllReadyH.nil
  ·
    have c0 : w0.cell? ⟨b, 1, none⟩ = some (.int .i64 (came : Int)) := (hst.blk.cell 1).trans rfl
    go_simp
    clear c0
    refine hK.out _ _ S0 (fun _ => ?_)
    clear hK K
    try simp only [Act.put, List.setIfInBounds_toArray, List.set_cons_zero, List.set_cons_succ]
    refine tV 10 ?_
    refine rdy [4, 11] ?_
    refine rdC (fun K hK => ?_) ?_
    ·
      have c0 : w0.cell? ⟨b, 0, none⟩ = some (v) := (hst.blk.cell 0).trans rfl
      go_simp
      clear c0
      refine hK.out _ _ S0 (fun _ => ?_)
      clear hK K
      try simp only [Act.put, List.setIfInBounds_toArray, List.set_cons_zero, List.set_cons_succ]
      refine rdy [11] ?_
      refine rdC (fun K hK => ?_) AllReadyH.nil
      go_simp
      have hb3 : Below w0.heap.size w0 (w0.alloc (.cells #[.slice x.A x.n x.c, .int .i64 (came : Int)] 245)) := (Below.refl _ _).alloc (Nat.le_refl _) _
      obtain ⟨g11, hg11⟩ : ∃ g, w0.heap.size = g := ⟨_, rfl⟩
      have HN : BlkW (w0.alloc (.cells #[.slice x.A x.n x.c, .int .i64 (came : Int)] 245)) g11 245 #[.slice x.A x.n x.c, .int .i64 (came : Int)] := by rw [← hg11]; exact Blk.new _ _ _
      obtain ⟨wc8, hwwc8⟩ : ∃ z, w0.alloc (.cells #[.slice x.A x.n x.c, .int .i64 (came : Int)] 245) = z := ⟨_, rfl⟩
      have Hb3 := Lib.hid hb3
      have HHN := Lib.hid HN
      clear hb3 HN
      rw [hwwc8] at Hb3 HHN
      rw [hwwc8, hg11]
      have hb3 := Hb3.out
      have HN := HHN.out
      clear hwwc8 Hb3 HHN hg11
      replace hst := hst.below hb3
      replace HB0 := HB0.below hb3
      have Sc8 := HS.out _ _ (by assumption) hb3
      refine hK.out _ _ Sc8 (fun _ => ?_)
      clear hK K hb3
      try simp only [Act.put, List.setIfInBounds_toArray, List.set_cons_zero, List.set_cons_succ]
      refine rdy [12] ?_
      refine rdC (fun K hK => ?_) AllReadyH.nil
      refine step_append_lies _ (by rfl) (.tmp 9) (.tmp 16) 204 (by rfl) (b + 1) 245 i0 (.agg #[.slice none 0 0, .int .i64 0]) 2 32 Tryz.underlying204 hi hz0 hz1 hz2 rfl (by decide) _ _ _ (by rfl) hst.row ⟨_, 0, none⟩ 1 1 (itV ⟨x, came⟩) (by rfl) rfl (World.news_of_block HN) (itV_one _) (by omega) (by unfold maxLen; omega) (by omega) (by have := hst.blk.lt; omega) _ rfl ?_
      intro g cap w2 hown' hgrow hg' hlt2
      have BB := add_blk hst hgrow
      have HAS := Lib.hid (add_state (w := w) hst HB0 hW0 hgx hcm (OwnR.snoc (a := (⟨x, came⟩ : KeyP LsX)) hown') hgrow rfl hg')
      refine hK.out _ _ S0 (fun _ => ?_)
      clear hK K
      try simp only [Act.put, List.setIfInBounds_toArray, List.set_cons_zero, List.set_cons_succ]
      refine tV 13 ?_; refine tV 14 ?_
      refine rdy [15] ?_
      refine rdC (fun K hK => ?_) AllReadyH.nil
      have c0 := BB.cell 0
      have f0 := BB.frozen 0
      go_simp
      refine hK.out _ _ S0 (fun _ => ?_)
      clear hK K
      try simp only [Act.put, List.setIfInBounds_toArray, List.set_cons_zero, List.set_cons_succ]
      refine wpAnyH_done (by kernel_rfl) ?_ _
      have d0 := BB.cell 0
      have d1 := BB.cell 1
      have e1 := BB.frozen 1
      go_wp2
      go_ret
      exact ⟨by first | rfl | go_num, _, HAS.out⟩
    refine rdC (fun K hK => ?_) AllReadyH.nil
    ·
      go_simp
      have hb3 : Below w0.heap.size w0 (w0.alloc (.cells #[.slice x.A x.n x.c, .int .i64 (came : Int)] 245)) := (Below.refl _ _).alloc (Nat.le_refl _) _
      obtain ⟨g11, hg11⟩ : ∃ g, w0.heap.size = g := ⟨_, rfl⟩
      have HN : BlkW (w0.alloc (.cells #[.slice x.A x.n x.c, .int .i64 (came : Int)] 245)) g11 245 #[.slice x.A x.n x.c, .int .i64 (came : Int)] := by rw [← hg11]; exact Blk.new _ _ _
      obtain ⟨wc11, hwwc11⟩ : ∃ z, w0.alloc (.cells #[.slice x.A x.n x.c, .int .i64 (came : Int)] 245) = z := ⟨_, rfl⟩
      have Hb3 := Lib.hid hb3
      have HHN := Lib.hid HN
      clear hb3 HN
      rw [hwwc11] at Hb3 HHN
      rw [hwwc11, hg11]
      have hb3 := Hb3.out
      have HN := HHN.out
      clear hwwc11 Hb3 HHN hg11
      replace hst := hst.below hb3
      replace HB0 := HB0.below hb3
      have Sc11 := HS.out _ _ (by assumption) hb3
      refine hK.out _ _ Sc11 (fun _ => ?_)
      clear hK K hb3
      try simp only [Act.put, List.setIfInBounds_toArray, List.set_cons_zero, List.set_cons_succ]
      refine rdy [4] ?_
      refine rdC (fun K hK => ?_) AllReadyH.nil
      have c0 : wc11.cell? ⟨b, 0, none⟩ = some (v) := (hst.blk.cell 0).trans rfl
      go_simp
      clear c0
      refine hK.out _ _ S0 (fun _ => ?_)
      clear hK K
      try simp only [Act.put, List.setIfInBounds_toArray, List.set_cons_zero, List.set_cons_succ]
      refine rdy [12] ?_
      refine rdC (fun K hK => ?_) AllReadyH.nil
      refine step_append_lies _ (by rfl) (.tmp 9) (.tmp 16) 204 (by rfl) (b + 1) 245 i0 (.agg #[.slice none 0 0, .int .i64 0]) 2 32 Tryz.underlying204 hi hz0 hz1 hz2 rfl (by decide) _ _ _ (by rfl) hst.row ⟨_, 0, none⟩ 1 1 (itV ⟨x, came⟩) (by rfl) rfl (World.news_of_block HN) (itV_one _) (by omega) (by unfold maxLen; omega) (by omega) (by have := hst.blk.lt; omega) _ rfl ?_
      intro g cap w2 hown' hgrow hg' hlt2
      have BB := add_blk hst hgrow
      have HAS := Lib.hid (add_state (w := w) hst HB0 hW0 hgx hcm (OwnR.snoc (a := (⟨x, came⟩ : KeyP LsX)) hown') hgrow rfl hg')
      refine hK.out _ _ S0 (fun _ => ?_)
      clear hK K
      try simp only [Act.put, List.setIfInBounds_toArray, List.set_cons_zero, List.set_cons_succ]
      refine tV 13 ?_; refine tV 14 ?_
      refine rdy [15] ?_
      refine rdC (fun K hK => ?_) AllReadyH.nil
      have c0 := BB.cell 0
      have f0 := BB.frozen 0
      go_simp
      refine hK.out _ _ S0 (fun _ => ?_)
      clear hK K
      try simp only [Act.put, List.setIfInBounds_toArray, List.set_cons_zero, List.set_cons_succ]
      refine wpAnyH_done (by kernel_rfl) ?_ _
      have d0 := BB.cell 0
      have d1 := BB.cell 1
      have e1 := BB.frozen 1
      go_wp2
      go_ret
      exact ⟨by first | rfl | go_num, _, HAS.out⟩

end Go.Proofs.YtdaainifkldcpaaGreatDoor
namespace Go.Proofs.YtdaainifkldcpaaGreatDoor
open Go.RowKit
set_option linter.unusedVariables false
set_option linter.unusedSimpArgs false
variable {P : MP}
structure IntsA (P : MP) (b : Nat) (v : Value) (w : World) (A : Option Addr) (xs : List LsX) : Prop where
  good : ∀ x ∈ xs, GoodL P x
  at_ : 0 < xs.length → ∃ g o, A = some ⟨g, o, none⟩ ∧ g < w.heap.size ∧ g ≠ b ∧ some g ≠ v.ownBlock ∧ ∀ j, j < xs.length → w.cell? ⟨g, o + j, none⟩ = some (.slice (xs.getD j default).A (xs.getD j default).n (xs.getD j default).c)
theorem IntsA.kept {b : Nat} {v v' : Value} {w w' : World} {A : Option Addr} {xs : List LsX} (h : IntsA P b v w A xs) (hg : HG b w v w' v') : IntsA P b v' w' A xs := by
  refine ⟨h.good, fun h0 => ?_⟩
  obtain ⟨g, o, rfl, h1, h2, h3, h4⟩ := h.at_ h0
  have h5 := hg.size
  refine ⟨g, o, rfl, by omega, h2, fun e => ?_, fun j hj => ?_⟩
  · rcases hg.own g e.symm with k | k
    · exact h3 k.symm
    · omega
  · exact (World.cell?_of_block (hg.block g h1 h2 h3)).trans (h4 j hj)
set_option maxRecDepth 100000 in
set_option maxHeartbeats 1600000 in
theorem push_any (b : Nat) (v : Value) (L : List (KeyP LsX)) (came : Nat) (A : Option Addr) (n c : Nat) (xs : List LsX) (hn : xs.length = n) (hcm : came + n ≤ 1000000) (w : World) (h : HeapSt P w b v L came) (hh : IsHeapP (keyM P) L) (hx : IntsA P b v w A xs) :
    Calls Tryz.prog 98 #[.pointer (some ⟨b, 0, none⟩), .slice A n c] w fun e w' => e = .returned (.tuple #[]) ∧ ∃ v' L', HeapSt P w' b v' L' (came + n) ∧ L'.Perm (L ++ itemsP came xs) ∧ IsHeapP (keyM P) L' ∧ HG b w v w' v' := by
  have H0 := Lib.hid h
  have HH0 := Lib.hid hh
  have HX := Lib.hid hx
  have HN := Lib.hid hn
  clear h hh hx hn
  go_enter Tryz.func98, Tryz.ntmps98
  go_wp2
  go_loopw [8] (fun iv wr => ∃ (j : Nat) (v1 : Value) (L1 : List (KeyP LsX)), j ≤ n ∧ iv = .int .i64 (j : Int) ∧ Hid (HeapSt P wr b v1 L1 (came + j)) ∧ Hid (L1.Perm (L ++ itemsP came (xs.take j))) ∧ Hid (IsHeapP (keyM P) L1) ∧ Hid (HG b w v wr v1)) (fun iv _ => n - (intOf iv).toNat)
  case atStart => exact ⟨0, v, L, Nat.zero_le _, rfl, H0, Lib.hid (by simp [itemsP]), HH0, Lib.hid (HG.refl _ _ _)⟩
  case round =>
    obtain ⟨j, v1, L1, hjn, rfl, HS, HP, HH, HGG⟩ := hrel
    by_cases hj : j < n
    · have hjI : (j : Int) < (n : Int) := by omega
      have hx1 := HX.out.kept HGG.out
      obtain ⟨g, o, hA, hlt, _, _, hc⟩ := hx1.at_ (by rw [HN.out]; omega)
      have hcj := hc j (by rw [HN.out]; exact hj)
      have hgx := hx1.good (xs.getD j default) (by rw [List.getD_eq_getElem?_getD, List.getElem?_eq_getElem (by rw [HN.out]; exact hj)]; exact List.getElem_mem _)
      have hsn : xs.take (j + 1) = xs.take j ++ [xs.getD j default] := by
        have := HN.out
        rw [List.take_succ_eq_append_getElem (by omega), List.getD_eq_getElem?_getD, List.getElem?_eq_getElem (by omega)]
        rfl
      have hlj : (xs.take j).length = j := by rw [List.length_take, HN.out]; omega
      obtain ⟨x, hx⟩ : ∃ x, xs.getD j default = x := ⟨_, rfl⟩
      rw [hx] at hcj hgx hsn
      have HI := Lib.hid (show L ++ itemsP came (xs.take (j + 1)) = (L ++ itemsP came (xs.take j)) ++ [⟨x, came + j⟩] by
        rw [hsn, itemsP_snoc, hlj, List.append_assoc])
      subst hA
      clear hx1 hc hx hsn hlj
      go_wp2_with fail
      refine (hadd_any b v1 L1 (came + j) x hgx (by omega) _ HS.out).mono ?_
      rintro e w2 ⟨rfl, v2, hs2, hg2⟩
      have HS2 := Lib.hid hs2
      have HG2 := Lib.hid (HGG.out.trans hg2)
      have HU2 := Lib.hid (up_new (keyM P) HH.out (⟨x, came + j⟩ : KeyP LsX))
      have hl1 := HS.out.few
      clear hs2 hg2 HS HGG HH
      go_wp2_with fail
      refine (rise_any b v2 (L1 ++ [⟨x, came + j⟩]) (came + j + 1) L1.length HU2.out w2 HS2.out).mono ?_
      rintro e w3 ⟨rfl, L3, hp3, hh3, hs3, hg3⟩
      have HP3 := Lib.hid (show L3.Perm (L ++ itemsP came (xs.take (j + 1))) by
        rw [HI.out]
        exact hp3.trans (HP.out.append_right _))
      have HH3 := Lib.hid hh3
      have HS3 := Lib.hid hs3
      have HG3 := Lib.hid (HG2.out.trans hg3)
      clear hp3 hh3 hs3 hg3 HS2 HG2 HU2 HI HP
      go_wp2
      go_round
      case rel => exact ⟨j + 1, v2, L3, by omega, by first | rfl | go_num, HS3, HP3, HH3, HG3⟩
      case measure => simp [intOf]; omega
    · obtain rfl : j = n := by omega
      have E : xs.take j = xs := List.take_of_length_le (by rw [HN.out]; exact Nat.le_refl _)
      rw [E] at HP
      clear E
      go_wp2
      refine bodyPost_end (results_none rfl _ _ _) rfl ?_
      exact ⟨rfl, v1, L1, HS.out, HP.out, HH.out, HGG.out⟩

end Go.Proofs.YtdaainifkldcpaaGreatDoor
namespace Go.Proofs.YtdaainifkldcpaaGreatDoor
open Go.RowKit
set_option linter.unusedVariables false
set_option linter.unusedSimpArgs false
variable {P : MP}
set_option maxRecDepth 100000 in
set_option maxHeartbeats 1600000 in
theorem sink_none (b : Nat) (v : Value) (came : Nat) (w : World) (h : HeapSt P w b v [] came) :
    Calls Tryz.prog 103 #[.pointer (some ⟨b, 0, none⟩), .int .i64 0] w fun e w' => e = .returned (.tuple #[]) ∧ HeapSt P w' b v [] came ∧ HG b w v w' v := by
  have H0 := Lib.hid h
  clear h
  go_enter Tryz.func103, Tryz.ntmps103
  go_wp2
  go_loopw [1] (fun iv wr => iv = .int .i64 0 ∧ Hid (HeapSt P wr b v [] came) ∧ Hid (HG b w v wr v)) (fun _ _ => 0)
  case atStart => exact ⟨rfl, H0, Lib.hid (HG.refl _ _ _)⟩
  case round =>
    obtain ⟨rfl, HS, HGG⟩ := hrel
    obtain ⟨v0, hv0⟩ : ∃ v, v = wr := ⟨_, rfl⟩
    subst hv0
    go_wp2
    go_loopw [4, 5] (fun fv kv w3 => fv = .int .i64 0 ∧ kv = .int .i64 1 ∧ Below v0.heap.size v0 w3) (fun _ _ _ => 0)
    case atStart => exact ⟨rfl, rfl, Below.refl _ _⟩
    case round =>
      obtain ⟨rfl, rfl, hb3⟩ := hrel
      have HS3 := Lib.hid (HS.out.below hb3)
      go_wp2_with fail
      refine (hpMany_any b v [] came wr HS3.out).mono ?_
      rintro e w4 ⟨rfl, rfl⟩
      go_wp2
      refine bodyPost_ret (results_none rfl _ _ _) rfl ?_
      exact ⟨rfl, HS3.out, HGG.out.trans (HG.of_below hb3)⟩
set_option maxRecDepth 100000 in
set_option maxHeartbeats 1600000 in
theorem pop_none (b : Nat) (v : Value) (came : Nat) (w : World) (h : HeapSt P w b v [] came) :
    Calls Tryz.prog 71 #[.pointer (some ⟨b, 0, none⟩)] w fun e w' => e = .returned (.tuple #[.slice none 0 0, .bool false]) ∧ w' = w := by
  go_enter Tryz.func71, Tryz.ntmps71
  go_wp2_with fail
  refine (peek_none b v came w h).mono ?_
  rintro e w4 ⟨rfl, rfl⟩
  go_wp2
  (try simp only [Exit.inBlock, Exit.then])
  refine bodyPost_ret (results_tmp2 rfl _ _ _) rfl ?_
  exact ⟨by first | rfl | (simp; done), by first | rfl | trivial⟩
set_option maxRecDepth 100000 in
set_option maxHeartbeats 1600000 in
theorem pop_any (b : Nat) (v : Value) (L : List (KeyP LsX)) (came : Nat) (hL : 0 < L.length) (w : World) (h : HeapSt P w b v L came) (hh : IsHeapP (keyM P) L) :
    Calls Tryz.prog 71 #[.pointer (some ⟨b, 0, none⟩)] w fun e w' => e = .returned (.tuple #[.slice (getP L 0).it.A (getP L 0).it.n (getP L 0).it.c, .bool true]) ∧ ∃ v' L', HeapSt P w' b v' L' came ∧ (getP L 0 :: L').Perm L ∧ IsHeapP (keyM P) L' ∧ HG b w v w' v' := by
  have hfew := h.few
  have hless := h.less
  obtain ⟨m, hm⟩ : ∃ m, m + 1 = L.length := ⟨L.length - 1, by omega⟩
  have hmn : L.length - 1 = m := by omega
  have hmI : (L.length : Int) - 1 = (m : Int) := by omega
  have HD := Lib.hid (down_pop (keyM P) hh hL)
  have HPP := Lib.hid (pop_perm hL)
  rw [hmn] at HD HPP
  have hml : m < L.length := by omega
  have hls := swapP_len L 0 m
  have htl : ((swapP L 0 m).take m).length = m := by rw [List.length_take, hls]; omega
  have H0 := Lib.hid h
  have S0 : True := trivial
  have hml6 : m ≤ 1000000 := by omega
  have hmw : IntKind.i64.wrap (m : Int) = (m : Int) := by rw [IntKind.wrap_i64]; omega
  have SW := fun w h => swap_any (P := P) b v L came 0 m hL hml w h
  obtain ⟨M, hM⟩ : ∃ M, swapP L 0 m = M := ⟨_, rfl⟩
  simp only [hM, show ((0 : Nat) : Int) = 0 from rfl] at SW
  rw [hM] at HD HPP hls htl
  obtain ⟨M2, hM2⟩ : ∃ M2, M.take m = M2 := ⟨_, rfl⟩
  rw [hM2] at HD HPP htl
  have DR := fun w h => drop_any (P := P) b v M came (by omega) w h
  simp only [hls, show L.length - 1 = m by omega, hM2] at DR
  have HSW := Lib.hid SW
  have HDR := Lib.hid DR
  have HTL := Lib.hid htl
  have PK := fun w h => peek_any (P := P) b v L came hL w h
  obtain ⟨x0, hx0⟩ : ∃ x, (getP L 0).it = x := ⟨_, rfl⟩
  simp only [hx0] at PK
  rw [hx0]
  clear hx0
  clear h hh hmn SW DR hM hM2 hls htl
  go_enter Tryz.func71, Tryz.ntmps71
  go_wp2_with fail
  refine (PK w H0.out).mono ?_
  clear PK
  rintro e w1 ⟨rfl, rfl⟩
  go_wp2_with fail
  refine wp_region_held_drew (S := fun w' => True) (by kernel_rfl) S0 (fun hHeld => ?_)
  have HM : Hid (HeapSt P w1.drew b v L came) := Lib.hid (H0.out.below (below_drewN (Below.refl _ _) 1))
  have HGM : Hid (HG b w1 v w1.drew v) := Lib.hid (HG.of_below (below_drewN (Below.refl _ _) 1))
  refine tV 0 ?_; refine tV 1 ?_; refine tV 2 ?_; refine tV 3 ?_; refine tV 4 ?_; refine tV 5 ?_
  refine rdy [6] ?_
  refine rdC (fun K hK => ?_) AllReadyH.nil
  go_simp
  go_at_call 101
  refine (hpMany_any b v L came _ HM.out).mono ?_
  rintro e wm ⟨rfl, rfl⟩
  refine hK.out _ _ S0 (fun _ => ?_)
  clear hK K
  try simp only [Act.put, List.setIfInBounds_toArray, List.set_cons_zero, List.set_cons_succ]
  refine tV 7 ?_
  refine rdy [8] ?_
  refine rdC (fun K hK => ?_) AllReadyH.nil
  go_simp
  go_at_call 100
  (try simp only [hmI, hmw])
  refine (HSW.out _ HM.out).mono ?_
  rintro e ws ⟨rfl, hss, hgs⟩
  have HS3 := Lib.hid hss
  have HG3 := Lib.hid (HGM.out.trans hgs)
  clear hss hgs
  refine hK.out _ _ S0 (fun _ => ?_)
  clear hK K
  try simp only [Act.put, List.setIfInBounds_toArray, List.set_cons_zero, List.set_cons_succ]
  refine wpAnyH_done (by kernel_rfl) ?_ _
  go_wp2_with fail
  refine (HDR.out _ HS3.out).mono ?_
  rintro e w5 ⟨rfl, v5, hs5, hg5⟩
  have HS5 := Lib.hid hs5
  have HG5 := Lib.hid (HG3.out.trans hg5)
  clear hs5 hg5 HS3 HG3
  rcases Nat.eq_zero_or_pos m with hm0 | hm0
  · have hnil : M2 = [] := List.eq_nil_of_length_eq_zero (by rw [HTL.out]; exact hm0)
    subst hnil
    go_wp2_with fail
    refine (sink_none b v5 came _ HS5.out).mono ?_
    rintro e w6 ⟨rfl, hs6, hg6⟩
    have HS6 := Lib.hid hs6
    have HG6 := Lib.hid (HG5.out.trans hg6)
    clear hs6 hg6
    go_wp2
    (try simp only [Exit.inBlock, Exit.then])
    refine bodyPost_ret (results_tmp2 rfl _ _ _) rfl ?_
    exact ⟨by first | rfl | (simp; done), v5, [], HS6.out, HPP.out, fun j _ hj => absurd hj (Nat.not_lt_zero _), HG6.out⟩
  · have SK := fun w h => sink_any (P := P) b v5 M2 came 0 HD.out (by rw [HTL.out]; exact hm0) w h
    simp only [show ((0 : Nat) : Int) = 0 from rfl] at SK
    replace SK := Lib.hid SK
    go_wp2_with fail
    refine (SK.out _ HS5.out).mono ?_
    rintro e w6 ⟨rfl, L6, hp6, hh6, hs6, hg6⟩
    have HS6 := Lib.hid hs6
    have HP6 := Lib.hid ((hp6.cons (getP L 0)).trans HPP.out)
    have HH6 := Lib.hid hh6
    have HG6 := Lib.hid (HG5.out.trans hg6)
    clear hs6 hp6 hh6 hg6
    go_wp2
    (try simp only [Exit.inBlock, Exit.then])
    refine bodyPost_ret (results_tmp2 rfl _ _ _) rfl ?_
    exact ⟨by first | rfl | (simp; done), v5, L6, HS6.out, HP6.out, HH6.out, HG6.out⟩

end Go.Proofs.YtdaainifkldcpaaGreatDoor
namespace Go.Proofs.YtdaainifkldcpaaGreatDoor
open Go.RowKit
set_option linter.unusedVariables false
set_option linter.unusedSimpArgs false
variable {P : MP}
theorem IntsA.new {b : Nat} {w w' : World} {A : Option Addr} {xs : List LsX} (h : IntsA P b (.slice none 0 0) w A xs) (hb : Below w.heap.size w w') : IntsA P b (.slice none 0 0) w' A xs := by
  refine ⟨h.good, fun h0 => ?_⟩
  obtain ⟨g, o, rfl, h1, h2, h3, h4⟩ := h.at_ h0
  have h5 := hb.size
  exact ⟨g, o, rfl, by omega, h2, h3, fun j hj => (hb.cell (p := ⟨g, o + j, none⟩) h1).trans (h4 j hj)⟩
theorem heap_new (w : World) (hb0 : Below P.W0.heap.size P.W0 w) : HeapSt P (w.alloc (.cells #[.slice none 0 0, .int .i64 0, .func (.func 69) #[] #[.pointer (some ⟨P.ac, 0, none⟩)]] 208)) w.heap.size (.slice none 0 0) [] 0 :=
  ⟨Blk.new _ _ _, OwnR.nil _ _ _, fun x hx => absurd hx List.not_mem_nil, fun x hx => absurd hx List.not_mem_nil, Nat.le_refl _, by omega, hb0.alloc hb0.size _, hb0.size⟩
theorem new_below {w w2 : World} {o : Obj} {v2 : Value} (h : HG w.heap.size (w.alloc o) (.slice none 0 0) w2 v2) : Below w.heap.size w w2 := by
  have h1 := (Below.refl w.heap.size w).alloc (Nat.le_refl _) o
  have h2 := h1.size
  refine ⟨h.os.trans h1.os, h.tape.trans h1.tape, h.output.trans h1.output, Nat.le_trans h2 h.size, fun k hk => ?_⟩
  exact (h.block k (Nat.lt_of_lt_of_le hk h2) (by omega) (by simp [Value.ownBlock])).trans (h1.block k hk)
set_option maxRecDepth 100000 in
set_option maxHeartbeats 1600000 in
theorem hpNew_any (A : Option Addr) (n c : Nat) (xs : List LsX) (hn : xs.length = n) (hn6 : n ≤ 1000000) (w : World) (hb0 : Below P.W0.heap.size P.W0 w) (hx : IntsA P w.heap.size (.slice none 0 0) w A xs) :
    Calls Tryz.prog 68 #[.func (.func 69) #[] #[.pointer (some ⟨P.ac, 0, none⟩)], .slice A n c] w fun e w' => ∃ v' L', e = .returned (.pointer (some ⟨w.heap.size, 0, none⟩)) ∧ HeapSt P w' w.heap.size v' L' n ∧ L'.Perm (itemsP 0 xs) ∧ IsHeapP (keyM P) L' ∧ Below w.heap.size w w' := by
  have HX := Lib.hid hx
  clear hx
  go_enter Tryz.func68, Tryz.ntmps68
  go_wp2_with fail
  refine (push_any w.heap.size (.slice none 0 0) [] 0 A n c xs hn (by omega) _ (heap_new w hb0) (fun j _ hj => absurd hj (Nat.not_lt_zero _)) (IntsA.new HX.out ((Below.refl _ _).alloc (Nat.le_refl _) _))).mono ?_
  rintro e w2 ⟨rfl, v2, L2, hs2, hp2, hh2, hg2⟩
  rw [Nat.zero_add] at hs2
  rw [List.nil_append] at hp2
  have HR := Lib.hid (And.intro hs2 (And.intro hp2 (And.intro hh2 (new_below hg2))))
  clear hs2 hp2 hh2 hg2
  go_wp2
  go_ret
  exact ⟨v2, L2, by first | rfl | (simp; done), HR.out⟩

end Go.Proofs.YtdaainifkldcpaaGreatDoor
namespace Go.Proofs.YtdaainifkldcpaaGreatDoor
open Go.RowKit
set_option linter.unusedVariables false
set_option linter.unusedSimpArgs false
variable {P : MP}
def HeapO (P : MP) (w : World) (b : Nat) (v : Value) (M : List (KeyP LsX)) (came : Nat) : Prop := ∃ L, HeapSt P w b v L came ∧ IsHeapP (keyM P) L ∧ L.Perm M ∧ SortP (keyM P) M
theorem HeapO.old {w : World} {b : Nat} {v : Value} {M : List (KeyP LsX)} {came : Nat} (h : HeapO P w b v M came) : ∀ y ∈ M, y.at_ < came := by
  obtain ⟨L, h1, h2, h3, h4⟩ := h
  exact fun y hy => h1.old y (h3.mem_iff.2 hy)
theorem HeapO.good {w : World} {b : Nat} {v : Value} {M : List (KeyP LsX)} {came : Nat} (h : HeapO P w b v M came) : ∀ y ∈ M, GoodL P y.it := by
  obtain ⟨L, h1, h2, h3, h4⟩ := h
  exact fun y hy => h1.good y (h3.mem_iff.2 hy)
theorem HeapO.few {w : World} {b : Nat} {v : Value} {M : List (KeyP LsX)} {came : Nat} (h : HeapO P w b v M came) : M.length ≤ came ∧ came ≤ 1000000 := by
  obtain ⟨L, h1, h2, h3, h4⟩ := h
  rw [← h3.length_eq]
  exact ⟨h1.few, h1.less⟩
theorem HeapO.sort {w : World} {b : Nat} {v : Value} {M : List (KeyP LsX)} {came : Nat} (h : HeapO P w b v M came) : SortP (keyM P) M := by
  obtain ⟨L, h1, h2, h3, h4⟩ := h
  exact h4
theorem HeapO.lt {w : World} {b : Nat} {v : Value} {M : List (KeyP LsX)} {came : Nat} (h : HeapO P w b v M came) : b < w.heap.size := by
  obtain ⟨L, h1, h2, h3, h4⟩ := h
  exact h1.blk.lt
theorem HeapO.own {w : World} {b : Nat} {v : Value} {M : List (KeyP LsX)} {came : Nat} (h : HeapO P w b v M came) : ∀ k, v.ownBlock = some k → b < k ∧ k < w.heap.size := by
  obtain ⟨L, h1, h2, h3, h4⟩ := h
  intro k hk
  have := World.ownsRow.lt h1.row k hk
  omega
theorem HeapO.below {w w' : World} {b : Nat} {v : Value} {M : List (KeyP LsX)} {came : Nat} (h : HeapO P w b v M came) (hb : Below w.heap.size w w') : HeapO P w' b v M came := by
  obtain ⟨L, h1, h2, h3, h4⟩ := h
  exact ⟨L, h1.below hb, h2, h3, h4⟩
theorem newO_any (A : Option Addr) (n c : Nat) (xs : List LsX) (hn : xs.length = n) (hn6 : n ≤ 1000000) (w : World) (hb0 : Below P.W0.heap.size P.W0 w) (hx : IntsA P w.heap.size (.slice none 0 0) w A xs) :
    Calls Tryz.prog 68 #[.func (.func 69) #[] #[.pointer (some ⟨P.ac, 0, none⟩)], .slice A n c] w fun e w' => e = .returned (.pointer (some ⟨w.heap.size, 0, none⟩)) ∧ Below w.heap.size w w' ∧ ∃ v', HeapO P w' w.heap.size v' (putP (keyM P) 0 xs []) n := by
  refine (hpNew_any A n c xs hn hn6 w hb0 hx).mono ?_
  rintro e w' ⟨v', L', he, hs, hp, hh, hb⟩
  exact ⟨he, hb, v', L', hs, hh, hp.trans (putP_perm (keyM P) xs 0 []).symm, putP_sort (keyM P) xs 0 [] List.Pairwise.nil (fun y hy => absurd hy List.not_mem_nil)⟩
theorem pushO_any (b : Nat) (v : Value) (M : List (KeyP LsX)) (came : Nat) (A : Option Addr) (n c : Nat) (xs : List LsX) (hn : xs.length = n) (hcm : came + n ≤ 1000000) (w : World) (h : HeapO P w b v M came) (hx : IntsA P b v w A xs) :
    Calls Tryz.prog 98 #[.pointer (some ⟨b, 0, none⟩), .slice A n c] w fun e w' => e = .returned (.tuple #[]) ∧ ∃ v', HeapO P w' b v' (putP (keyM P) came xs M) (came + n) ∧ HG b w v w' v' := by
  have ho := h.old
  obtain ⟨L, h1, h2, h3, h4⟩ := h
  refine (push_any b v L came A n c xs hn hcm w h1 h2 hx).mono ?_
  rintro e w' ⟨he, v', L', hs, hp, hh, hg⟩
  exact ⟨he, v', ⟨L', hs, hh, hp.trans ((h3.append_right _).trans (putP_perm (keyM P) xs came M).symm), putP_sort (keyM P) xs came M h4 ho⟩, hg⟩
theorem popO_none (b : Nat) (v : Value) (came : Nat) (w : World) (h : HeapO P w b v [] came) :
    Calls Tryz.prog 71 #[.pointer (some ⟨b, 0, none⟩)] w fun e w' => e = .returned (.tuple #[.slice none 0 0, .bool false]) ∧ w' = w := by
  obtain ⟨L, h1, h2, h3, h4⟩ := h
  obtain rfl : L = [] := List.perm_nil.1 h3
  exact pop_none b v came w h1
theorem popO_any (b : Nat) (v : Value) (m : KeyP LsX) (M : List (KeyP LsX)) (came : Nat) (w : World) (h : HeapO P w b v (m :: M) came) :
    Calls Tryz.prog 71 #[.pointer (some ⟨b, 0, none⟩)] w fun e w' => e = .returned (.tuple #[.slice m.it.A m.it.n m.it.c, .bool true]) ∧ ∃ v', HeapO P w' b v' M came ∧ HG b w v w' v' := by
  obtain ⟨L, h1, h2, h3, h4⟩ := h
  have h0 : 0 < L.length := by rw [h3.length_eq]; simp
  refine (pop_any b v L came h0 w h1 h2).mono ?_
  rintro e w' ⟨he, v', L', hs, hp, hh, hg⟩
  have hr := sort_rest (keyM P) h2 h3 h4 hp
  rw [sort_first (keyM P) h2 h3 h4] at he
  exact ⟨he, v', ⟨L', hs, hh, hr, (List.pairwise_cons.1 h4).2⟩, hg⟩
theorem HeapO.over {w w' W : World} {b B : Nat} {v v' : Value} {M : List (KeyP LsX)} {came : Nat} (h : HeapO P w b v M came) (hB : B ≤ b) (hb : Below B W w) (hg : HG b w v w' v') : Below B W w' := by
  have h1 := hb.size
  have h2 := h.lt
  refine ⟨hg.os.trans hb.os, hg.tape.trans hb.tape, hg.output.trans hb.output, Nat.le_trans h1 hg.size, fun k hk => ?_⟩
  exact (hg.block k (by omega) (by omega) (fun e => by have := (h.own k e.symm).1; omega)).trans (hb.block k hk)
def ApartV (v lv : Value) : Prop := ∀ k, v.ownBlock = some k → lv.ownBlock ≠ some k
theorem HG.grown {b B : Nat} {w w1 w2 : World} {v v1 : Value} {row : Option Nat} (h : HG b w v w1 v1) (g : w1.grownBy w2 row) (hrow : ∀ k, row = some k → w.heap.size ≤ k) : HG b w v w2 v1 :=
  ⟨g.os.trans h.os, g.tape.trans h.tape, g.output.trans h.output, Nat.le_trans h.size g.size, fun k hk hkb hkv => by
    have h1 := h.size
    exact (g.block k (by omega) (fun e => by have := hrow k e.symm; omega)).trans (h.block k hk hkb hkv), h.own⟩
theorem HG.alloc {b : Nat} {w w1 : World} {v v1 : Value} (h : HG b w v w1 v1) (o : Obj) : HG b w v (w1.alloc o) v1 := h.trans (HG.of_below ((Below.refl _ _).alloc (Nat.le_refl _) o))
end Go.Proofs.YtdaainifkldcpaaGreatDoor
