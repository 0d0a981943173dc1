-- shaken
import Derived.Test.YtepokdmkdnlbfaaGreatDoorAstPartN
import Derived.Test.YtepokdmkdnlbfaaGreatDoorAstRight
import Derived.Deep.AppendLies
import Derived.Test.YtepokdmkdnlbfaaGreatDoorMem
namespace Go.Proofs.YtepokdmkdnlbfaaGreatDoor
open Go.RowKit
set_option linter.unusedVariables false
set_option linter.unusedSimpArgs false
structure HalfB where
  m : MatB
  own : Bool
  k : Nat
instance : Inhabited HalfB := ⟨⟨⟨.empty, .empty, .empty⟩, false, 0⟩⟩
def HalfB.f (x : HalfB) : MatB := halfF x.m x.own x.k
def HalfB.V (x : HalfB) : List Value := [.string x.m.nm, .string x.m.op, .string x.m.v, .bool x.own, .int .u8 (x.k : Int)]
structure PartB where
  s : StgB
  own : Bool
  k : Nat
  n : Int
instance : Inhabited PartB := ⟨⟨⟨0, .empty, .empty, .empty, 0, 0⟩, false, 0, 0⟩⟩
def PartB.V (x : PartB) : List Value := [.int .i64 x.s.kind, .string x.s.nm, .string x.s.op, .string x.s.v, .int .i64 x.s.num, .int .i64 x.s.unit, .bool x.own, .int .u8 (x.k : Int), .int .i64 x.n]
structure HalfOk (x : HalfB) : Prop where
  k : x.k < 256
structure PartOk (x : PartB) : Prop where
  k : x.k < 256
  num : Num64 x.s.num
  n : Num64 x.n
def partF (s : StgB) (own : Bool) (K : Nat) (N : Int) : StgB :=
  if own then
    if K % 4 = 0 then ⟨1, ⟨#[]⟩, lops8.getD (K / 4 % 4) .empty, valA (K / 4 / 4), 0, 0⟩
    else if K % 4 = 1 then ⟨2, ⟨#[]⟩, ⟨#[]⟩, ⟨#[]⟩, 0, 0⟩
    else if K % 4 = 2 then ⟨3, nms3.getD (K / 4 % 3) .empty, ops8.getD (K / 4 / 3 % 4) .empty, valA (K / 4 / 12), 0, 0⟩
    else ⟨4, nms4.getD (K / 4 % 2) .empty, nops8.getD (K / 4 / 2 % 6) .empty, ⟨#[]⟩, numF (K / 4 % 4) N, ((K / 4 / 12 % 3 : Nat) : Int)⟩
  else s
def PartB.f (x : PartB) : StgB := partF x.s x.own x.k x.n
theorem tmod_nat (a b : Nat) : (a : Int).tmod (b : Int) = ((a % b : Nat) : Int) := by rw [Int.tmod_eq_emod_of_nonneg (by omega)]; simp
theorem wrap_u8n {a : Nat} (h : a < 256) : IntKind.u8.wrap (a : Int) = (a : Int) := by rw [IntKind.wrap_u8]; omega
theorem partOf_any (s : StgB) (own : Bool) (K : Nat) (N : Int) (hK : K < 256) (hN : Num64 N) (W : World) :
    Calls Tryz.prog 9 #[.agg #[.int .i64 s.kind, .string s.nm, .string s.op, .string s.v, .int .i64 s.num, .int .i64 s.unit, .bool own, .int .u8 (K : Int), .int .i64 N]] W fun r_ w' => r_ = .returned (.agg #[.int .i64 (partF s own K N).kind, .string (partF s own K N).nm, .string (partF s own K N).op, .string (partF s own K N).v, .int .i64 (partF s own K N).num, .int .i64 (partF s own K N).unit]) ∧ Below W.heap.size W w' := by
  cases own with
  | false => exact part_as s.kind s.nm s.op s.v s.num s.unit K N W
  | true =>
    have e : partF s true K N = if K % 4 = 0 then ⟨1, ⟨#[]⟩, lops8.getD (K / 4 % 4) .empty, valA (K / 4 / 4), 0, 0⟩ else if K % 4 = 1 then ⟨2, ⟨#[]⟩, ⟨#[]⟩, ⟨#[]⟩, 0, 0⟩ else if K % 4 = 2 then ⟨3, nms3.getD (K / 4 % 3) .empty, ops8.getD (K / 4 / 3 % 4) .empty, valA (K / 4 / 12), 0, 0⟩ else ⟨4, nms4.getD (K / 4 % 2) .empty, nops8.getD (K / 4 / 2 % 6) .empty, ⟨#[]⟩, numF (K / 4 % 4) N, ((K / 4 / 12 % 3 : Nat) : Int)⟩ := rfl
    rw [e]
    have w1 := wrap_u8n (a := K / 4) (by omega)
    by_cases h0 : K % 4 = 0
    · rw [if_pos h0]
      exact part0_own s.kind s.nm s.op s.v s.num s.unit K (K / 4) (K / 4 / 4) (K / 4 % 4) N (by omega) ((tmod_nat K 4).trans (by rw [h0]; rfl)) rfl w1 (tmod_nat _ 4) rfl (wrap_u8n (by omega)) (by omega) W
    rw [if_neg h0]
    by_cases h1 : K % 4 = 1
    · rw [if_pos h1]
      exact part1_own s.kind s.nm s.op s.v s.num s.unit K (K / 4) N ((tmod_nat K 4).trans (by rw [h1]; rfl)) rfl w1 W
    rw [if_neg h1]
    by_cases h2 : K % 4 = 2
    · rw [if_pos h2]
      exact part2_own s.kind s.nm s.op s.v s.num s.unit K (K / 4) (K / 4 / 3) (K / 4 / 12) (K / 4 % 3) (K / 4 / 3 % 4) N (by omega) (by omega) ((tmod_nat K 4).trans (by rw [h2]; rfl)) rfl w1 (tmod_nat _ 3) rfl (wrap_u8n (by omega)) (tmod_nat _ 4) rfl (wrap_u8n (by omega)) (by omega) W
    rw [if_neg h2]
    have h3 : K % 4 = 3 := by omega
    exact part3_own s.kind s.nm s.op s.v s.num s.unit K (K / 4) (K / 4 / 2) (K / 4 / 12) (K / 4 % 2) (K / 4 / 2 % 6) (K / 4 % 4) (K / 4 / 12 % 3) N hN (by omega) (by omega) (by omega) (by omega) ((tmod_nat K 4).trans (by rw [h3]; rfl)) rfl w1 (tmod_nat _ 2) rfl (wrap_u8n (by omega)) (tmod_nat _ 6) rfl (wrap_u8n (by omega)) (tmod_nat _ 3) (tmod_nat _ 4) W
theorem few_getD {L : List ByteArray} (h : ∀ x ∈ L, x.size ≤ 10) (i : Nat) : Few (L.getD i .empty) := by
  unfold Few
  rw [List.getD_eq_getElem?_getD]
  cases hi : L[i]? with
  | none => decide
  | some x => exact Nat.le_trans (h x (List.mem_of_getElem? hi)) (by decide)
theorem numF_64 {r : Nat} {N : Int} (h : Num64 N) : Num64 (numF r N) := by
  have hb : 0 ≤ (if N < 0 then -(N + 1) else N) ∧ (if N < 0 then -(N + 1) else N) ≤ 9223372036854775807 := by unfold Num64 at h; split <;> omega
  unfold numF
  generalize (if N < 0 then -(N + 1) else N) = b at hb ⊢
  have hd : 0 ≤ b.tmod 10 ∧ b.tmod 10 ≤ 9 := by rw [Int.tmod_eq_emod_of_nonneg hb.1]; omega
  unfold Num64
  split
  · omega
  · split <;> omega
theorem few_own (s : StgB) (K : Nat) {N : Int} (hN : Num64 N) : FewG (partF s true K N) := by
  have e0 : Few ⟨#[]⟩ := by unfold Few; decide
  have z0 : Num64 0 := by unfold Num64; omega
  unfold partF
  rw [if_pos rfl]
  split
  · exact ⟨e0, few_getD (by decide) _, few_getD (by decide) _, z0⟩
  · split
    · exact ⟨e0, e0, e0, z0⟩
    · split
      · exact ⟨few_getD (by decide) _, few_getD (by decide) _, few_getD (by decide) _, z0⟩
      · exact ⟨few_getD (by decide) _, few_getD (by decide) _, e0, numF_64 hN⟩
theorem partF_64 {s : StgB} {own : Bool} {K : Nat} {N : Int} (hs : Num64 s.num) (hN : Num64 N) : Num64 (partF s own K N).num := by
  cases own with
  | false => exact hs
  | true => exact (few_own s K hN).2.2.2
def noneM : MatB := ⟨⟨#[97, 112, 112]⟩, ⟨#[33, 61]⟩, ⟨#[110, 111, 110, 101]⟩⟩
def matsF (HS : List HalfB) (mm : Nat) : List MatB := if (HS.take mm).map HalfB.f = [] then [noneM] else (HS.take mm).map HalfB.f
def stgsF (PS : List PartB) (ss : Nat) : List StgB := (PS.take ss).map PartB.f
theorem infoMatK : (Tryz.prog.info? 43).map (fun i => (i.zero, i.size, i.bytes)) = some (some (.agg #[.string ⟨#[]⟩, .string ⟨#[]⟩, .string ⟨#[]⟩]), 3, 48) := by kernel_rfl
theorem infoStgK : (Tryz.prog.info? 27).map (fun i => (i.zero, i.size, i.bytes)) = some (some (.agg #[.int .i64 0, .string ⟨#[]⟩, .string ⟨#[]⟩, .string ⟨#[]⟩, .int .i64 0, .int .i64 0]), 6, 72) := by kernel_rfl
theorem matK_one (m : MatB) : ∀ u ∈ matV m, u.oneCell' = true := by
  intro u hu
  simp only [matV, List.mem_cons, List.not_mem_nil, or_false] at hu
  rcases hu with rfl | rfl | rfl <;> rfl
theorem stgK_one (x : StgB) : ∀ u ∈ stgV x, u.oneCell' = true := by
  intro u hu
  simp only [stgV, List.mem_cons, List.not_mem_nil, or_false] at hu
  rcases hu with rfl | rfl | rfl | rfl | rfl | rfl <;> rfl
theorem own_heapK {α : Type} {V : α → List Value} {s : Nat} {w w' : World} {B ty : Nat} {v : Value} {l : List α} (h : OwnR V s w B ty v l) (hk : ∀ g, v.ownBlock = some g → w'.heap[g]? = w.heap[g]?) : OwnR V s w' B ty v l := by
  refine ⟨h.1, ?_⟩
  rcases h.2 with h0 | ⟨g, cap, cur, hv, hg, hh, hx⟩
  · exact .inl h0
  · refine .inr ⟨g, cap, cur, hv, hg, ?_, hx⟩
    subst hv
    rw [← hh]
    exact hk g rfl
theorem own_storeK {α : Type} {V : α → List Value} {s : Nat} {w : World} {B ty : Nat} {v : Value} {l : List α} (h : OwnR V s w B ty v l) (p : Addr) (u : Value) (hp : p.block < B) : OwnR V s (w.setCell p u) B ty v l := by
  refine own_heapK h (fun g hg => ?_)
  have hl := (World.ownsRow.lt h g hg).1
  exact Below.heap_setCell w p u g (by omega)
theorem own_rowK {α : Type} {V : α → List Value} {s : Nat} (hV : ∀ a, (V a).length = s) {w : World} {B ty : Nat} {A : Option Addr} {n c : Nat} {l : List α} (h : OwnR V s w B ty (.slice A n c) l) : RowR V s w A n l := by
  obtain ⟨A2, c2, e, _, _, hr⟩ := OwnR.open hV h
  injection e with e1 e2 e3
  subst e1 e2
  exact hr
theorem take_mapK {α β : Type} (f : α → β) {l : List α} {j : Nat} {x : α} (h : l[j]? = some x) : (l.take (j + 1)).map f = (l.take j).map f ++ [f x] := by
  rw [List.take_add_one, h]
  simp
theorem len_takeK {α β : Type} (f : α → β) {l : List α} {j : Nat} (h : j ≤ l.length) : ((l.take j).map f).length = j := by
  rw [List.length_map, List.length_take]; omega
theorem take_endK {α : Type} {l : List α} {j n mm : Nat} (hl : l.length = n) (hj : j ≤ n) (h : ¬ (j < n ∧ j < mm)) (hm : j ≤ mm) : l.take j = l.take mm := by
  rcases (by omega : j = mm ∨ j = n) with e | e
  · rw [e]
  · rw [List.take_of_length_le (by omega), List.take_of_length_le (by omega)]
def AskR (B : Nat) (W : World) (M : List MatB) (S : List StgB) (e : Ending) (w' : World) : Prop :=
  ∃ A n c A' n' c', e = .returned (.agg #[.slice A n c, .slice A' n' c']) ∧ OwnR matV 3 w' B 43 (.slice A n c) M ∧ OwnR stgV 6 w' B 27 (.slice A' n' c') S ∧ Below B W w'
set_option maxRecDepth 100000 in
set_option maxHeartbeats 3200000 in
theorem ask_any (A : Option Addr) (n c : Nat) (hs : List HalfB) (B : Option Addr) (m d : Nat) (ps : List PartB) (mm ss : Nat) (hmm : mm ≤ 100) (hss : ss ≤ 100) (hn : n ≤ maxLen) (hm : m ≤ maxLen) (W : World) (r0 : RowR HalfB.V 5 W A n hs) (r1 : RowR PartB.V 9 W B m ps) (gh : ∀ h ∈ hs, HalfOk h) (gp : ∀ p ∈ ps, PartOk p) :
    Calls Tryz.prog 7 #[.agg #[.slice A n c, .slice B m d], .int .i64 (mm : Int), .int .i64 (ss : Int)] W fun e w' => AskR W.heap.size W (matsF hs mm) (stgsF ps ss) e w' := by
  have R0 := Lib.hid r0
  have R1 := Lib.hid r1
  have GH := Lib.hid gh
  have GP := Lib.hid gp
  clear r0 r1 gh gp
  unfold maxLen at hn hm
  obtain ⟨i0, hi0_, hz00, hz01, hz02⟩ := info_parts infoMatK
  obtain ⟨i1, hi1_, hz10, hz11, hz12⟩ := info_parts infoStgK
  have S3 := Lib.hid (show Blk (((W.alloc (.cells #[.slice A n c, .slice B m d] 25)).alloc (.cells #[.slice none 0 0, .slice none 0 0] 34)).alloc (.cells #[.slice none 0 0, .slice none 0 0] 34)) (W.heap.size + 1 + 1) 34 #[.slice none 0 0, .slice none 0 0] from by have h := blk_next (W.alloc (.cells #[.slice A n c, .slice B m d] 25)) (.cells #[.slice none 0 0, .slice none 0 0] 34) 34 #[.slice none 0 0, .slice none 0 0]; rwa [show (W.alloc (.cells #[.slice A n c, .slice B m d] 25)).heap.size = W.heap.size + 1 by simp] at h)
  have S1 := Lib.hid (show Blk (((W.alloc (.cells #[.slice A n c, .slice B m d] 25)).alloc (.cells #[.slice none 0 0, .slice none 0 0] 34)).alloc (.cells #[.slice none 0 0, .slice none 0 0] 34)) (W.heap.size + 1) 34 #[.slice none 0 0, .slice none 0 0] from (blk_next W _ _ _).alloc _)
  have S0 := Lib.hid (show Blk (((W.alloc (.cells #[.slice A n c, .slice B m d] 25)).alloc (.cells #[.slice none 0 0, .slice none 0 0] 34)).alloc (.cells #[.slice none 0 0, .slice none 0 0] 34)) (W.heap.size) 25 #[.slice A n c, .slice B m d] from ((Blk.new W 25 #[.slice A n c, .slice B m d]).alloc (.cells #[.slice none 0 0, .slice none 0 0] 34)).alloc (.cells #[.slice none 0 0, .slice none 0 0] 34))
  have SB := Lib.hid (show Below W.heap.size W (((W.alloc (.cells #[.slice A n c, .slice B m d] 25)).alloc (.cells #[.slice none 0 0, .slice none 0 0] 34)).alloc (.cells #[.slice none 0 0, .slice none 0 0] 34)) from (((Below.refl W.heap.size W).alloc (Nat.le_refl _) (.cells #[.slice A n c, .slice B m d] 25)).alloc (by simp) (.cells #[.slice none 0 0, .slice none 0 0] 34)).alloc (by simp; omega) (.cells #[.slice none 0 0, .slice none 0 0] 34))
  have SO := Lib.hid (show OwnR matV 3 (((W.alloc (.cells #[.slice A n c, .slice B m d] 25)).alloc (.cells #[.slice none 0 0, .slice none 0 0] 34)).alloc (.cells #[.slice none 0 0, .slice none 0 0] 34)) (W.heap.size + 1 + 1 + 1) 43 (.slice none 0 0) ((hs.take 0).map HalfB.f) from OwnR.nil _ _ _)
  go_enter Tryz.func7, Tryz.ntmps7
  go_wp2
  go_loopw [8] (fun iv wr => ∃ (j : Nat) (v : Value), j ≤ n ∧ j ≤ mm ∧ iv = .int .i64 (j : Nat) ∧ Hid (OwnR matV 3 wr (W.heap.size + 1 + 1 + 1) 43 v ((hs.take j).map HalfB.f)) ∧ Hid (Blk wr (W.heap.size + 1 + 1) 34 #[v, .slice none 0 0]) ∧ Hid (Blk wr (W.heap.size) 25 #[.slice A n c, .slice B m d]) ∧ Hid (Blk wr (W.heap.size + 1) 34 #[.slice none 0 0, .slice none 0 0]) ∧ Hid (Below W.heap.size W wr)) (fun iv _ => mm - (intOf iv).toNat)
  case atStart => exact ⟨0, _, Nat.zero_le _, Nat.zero_le _, rfl, SO, S3, S0, S1, SB⟩
  case round =>
    obtain ⟨j, v, hjn, hjm, rfl, HOx, H3x, H0x, H1x, HBx⟩ := hrel
    skip
    have c0_ : wr.cell? ⟨W.heap.size, 0, none⟩ = some (.slice A n c) := (H0x.out.cell 0).trans rfl
    by_cases h : j < n ∧ j < mm
    · obtain ⟨h1_, h2_⟩ := h
      have jI : (j : Int) < (n : Int) := by omega
      have jM : (j : Int) < (mm : Int) := by omega
      obtain ⟨x, hx⟩ : ∃ x, hs[j]? = some x := ⟨_, List.getElem?_eq_getElem (by rw [R0.out.1]; exact h1_)⟩
      have LJ := Lib.hid (len_takeK HalfB.f (l := hs) (j := j) (by rw [R0.out.1]; omega))
      have LS := Lib.hid (take_mapK HalfB.f hx)
      obtain ⟨b1, o1, hA, hlt, hcc⟩ := R0.out.2 (by omega)
      subst hA
      obtain ⟨⟨nm, op, vl⟩, own, k⟩ := x
      have hk : k < 256 := (GH.out _ (List.mem_of_getElem? hx)).k
      have SP := Lib.hid (fun w' (h0 : Blk w' (W.heap.size) 25 #[.slice (some ⟨b1, o1, none⟩) n c, .slice B m d]) (hb : Below W.heap.size W w') => (show w'.cell? ⟨W.heap.size, 0, none⟩ = some (.slice (some ⟨b1, o1, none⟩) n c) ∧ w'.cell? ⟨b1, o1 + j * 5, none⟩ = some (.string nm) ∧ w'.cell? ⟨b1, o1 + j * 5 + 1, none⟩ = some (.string op) ∧ w'.cell? ⟨b1, o1 + j * 5 + 2, none⟩ = some (.string vl) ∧ w'.cell? ⟨b1, o1 + j * 5 + 3, none⟩ = some (.bool own) ∧ w'.cell? ⟨b1, o1 + j * 5 + 4, none⟩ = some (.int .u8 (k : Int)) ∧ True from ⟨(h0.cell 0).trans rfl, (hb.cell hlt).trans (hcc j 0 _ hx (by decide)), (hb.cell hlt).trans (hcc j 1 _ hx (by decide)), (hb.cell hlt).trans (hcc j 2 _ hx (by decide)), (hb.cell hlt).trans (hcc j 3 _ hx (by decide)), (hb.cell hlt).trans (hcc j 4 _ hx (by decide)), trivial⟩))
      have SP0 := SP.out wr H0x.out HBx.out
      have CA := Lib.hid (fun w => half_any ⟨nm, op, vl⟩ own k hk w)
      obtain ⟨y, hy⟩ : ∃ y, halfF ⟨nm, op, vl⟩ own k = y := ⟨_, rfl⟩
      rw [hy] at CA
      replace LS := Lib.hid (LS.out.trans (congrArg (fun z => ((hs.take j).map HalfB.f) ++ [z]) (show HalfB.f ⟨⟨nm, op, vl⟩, own, k⟩ = y from hy)))
      obtain ⟨y1, y2, y3⟩ := y
      replace CA : Hid (∀ w, Calls Tryz.prog 17 #[.agg #[.string nm, .string op, .string vl, .bool own, .int .u8 (k : Int)]] w fun r_ w' => r_ = .returned (.agg #[.string y1, .string y2, .string y3]) ∧ Below w.heap.size w w') := CA
      clear hcc hy hx
      have HB0 : Below W.heap.size W wr.drew := below_drewN HBx.out 1
      have HO : OwnR matV 3 wr.drew (W.heap.size + 1 + 1 + 1) 43 v ((hs.take j).map HalfB.f) := HOx.out
      have H3 : BlkH W.heap.size wr.drew (W.heap.size + 1 + 1) 34 #[v, .slice none 0 0] := ⟨H3x.out, by omega⟩
      have H0 : BlkH W.heap.size wr.drew (W.heap.size) 25 #[.slice (some ⟨b1, o1, none⟩) n c, .slice B m d] := ⟨H0x.out, by omega⟩
      have H1 : BlkH W.heap.size wr.drew (W.heap.size + 1) 34 #[.slice none 0 0, .slice none 0 0] := ⟨H1x.out, by omega⟩
      have G2B : W.heap.size + 1 + 1 < (W.heap.size + 1 + 1 + 1) := by omega
      go_wp2
      refine wp_region_held_drew (S := fun w' => w'.cell? ⟨W.heap.size, 0, none⟩ = some (.slice (some ⟨b1, o1, none⟩) n c) ∧ w'.cell? ⟨b1, o1 + j * 5, none⟩ = some (.string nm) ∧ w'.cell? ⟨b1, o1 + j * 5 + 1, none⟩ = some (.string op) ∧ w'.cell? ⟨b1, o1 + j * 5 + 2, none⟩ = some (.string vl) ∧ w'.cell? ⟨b1, o1 + j * 5 + 3, none⟩ = some (.bool own) ∧ w'.cell? ⟨b1, o1 + j * 5 + 4, none⟩ = some (.int .u8 (k : Int)) ∧ True) (by kernel_rfl) ⟨SP0.1, SP0.2.1, SP0.2.2.1, SP0.2.2.2.1, SP0.2.2.2.2.1, SP0.2.2.2.2.2.1, trivial⟩ (fun hS => ?_)
      obtain ⟨w0, hw0⟩ : ∃ z, wr.drew = z := ⟨_, rfl⟩
      rw [hw0] at hS HB0 HO H3 H0 H1 ⊢
      clear hw0
      refine tV 0 ?_; refine tV 2 ?_; refine tH 3 ?_; refine tV 4 ?_; refine tV 5 ?_; refine tH 6 ?_
      refine rdy [1, 7] ?_
      refine rdC (fun K hK => ?_) ?_
      focus
        have c_ : w0.cell? ⟨W.heap.size + 1 + 1, 0, none⟩ = some v := (H3.blk.cell 0).trans rfl
        go_simp
        clear c_
        refine hK.out _ _ hS (fun _ => ?_)
        clear hK K
        try simp only [Act.put, pz1, pz2, pz3]
        refine rdy [7] ?_
        refine rdC (fun K hK => ?_) AllReadyH.nil
        go_simp
        go_at_call 17
        refine (CA.out w0).mono ?_
        rintro _ e2 ⟨rfl, hb3⟩
        replace HO := OwnR.below HO hb3
        replace H3 := H3.below_ hb3
        replace H0 := H0.below_ hb3
        replace H1 := H1.below_ hb3
        replace HB0 := hop HB0 (Nat.le_refl _) hb3
        clear hb3 hS
        have hS := SP.out e2 H0.blk HB0
        refine hK.out _ _ hS (fun _ => ?_)
        clear hK K
        try simp only [Act.put, pz1, pz2, pz3]
        refine rdy [8] ?_
        refine rdC (fun K hK => ?_) AllReadyH.nil
        go_simp
        have hb3 : Below e2.heap.size e2 (e2.alloc (.cells #[.string y1, .string y2, .string y3] 43)) := (Below.refl _ _).alloc (Nat.le_refl _) _
        obtain ⟨g6, hg6⟩ : ∃ g, e2.heap.size = g := ⟨_, rfl⟩
        have HN : Blk (e2.alloc (.cells #[.string y1, .string y2, .string y3] 43)) g6 43 #[.string y1, .string y2, .string y3] := by rw [← hg6]; exact Blk.new _ _ _
        obtain ⟨wT, hwc⟩ : ∃ z, e2.alloc (.cells #[.string y1, .string y2, .string y3] 43) = z := ⟨_, rfl⟩
        rw [hwc] at hb3 HN
        rw [hwc, hg6]
        clear hwc hg6
        replace HO := OwnR.below HO hb3
        replace H3 := H3.below_ hb3
        replace H0 := H0.below_ hb3
        replace H1 := H1.below_ hb3
        replace HB0 := hop HB0 (Nat.le_refl _) hb3
        clear hb3 hS
        have hS := SP.out wT H0.blk HB0
        refine hK.out _ _ hS (fun _ => ?_)
        clear hK K
        try simp only [Act.put, pz1, pz2, pz3]
      rotate_left 1
      refine rdC (fun K hK => ?_) AllReadyH.nil
      focus
        go_simp
        go_at_call 17
        refine (CA.out w0).mono ?_
        rintro _ e4 ⟨rfl, hb3⟩
        replace HO := OwnR.below HO hb3
        replace H3 := H3.below_ hb3
        replace H0 := H0.below_ hb3
        replace H1 := H1.below_ hb3
        replace HB0 := hop HB0 (Nat.le_refl _) hb3
        clear hb3 hS
        have hS := SP.out e4 H0.blk HB0
        refine hK.out _ _ hS (fun _ => ?_)
        clear hK K
        try simp only [Act.put, pz1, pz2, pz3]
        refine rdy [1, 8] ?_
        refine rdC (fun K hK => ?_) ?_
        focus
          have c_ : e4.cell? ⟨W.heap.size + 1 + 1, 0, none⟩ = some v := (H3.blk.cell 0).trans rfl
          go_simp
          clear c_
          refine hK.out _ _ hS (fun _ => ?_)
          clear hK K
          try simp only [Act.put, pz1, pz2, pz3]
          refine rdy [8] ?_
          refine rdC (fun K hK => ?_) AllReadyH.nil
          go_simp
          have hb3 : Below e4.heap.size e4 (e4.alloc (.cells #[.string y1, .string y2, .string y3] 43)) := (Below.refl _ _).alloc (Nat.le_refl _) _
          obtain ⟨g6, hg6⟩ : ∃ g, e4.heap.size = g := ⟨_, rfl⟩
          have HN : Blk (e4.alloc (.cells #[.string y1, .string y2, .string y3] 43)) g6 43 #[.string y1, .string y2, .string y3] := by rw [← hg6]; exact Blk.new _ _ _
          obtain ⟨wT, hwc⟩ : ∃ z, e4.alloc (.cells #[.string y1, .string y2, .string y3] 43) = z := ⟨_, rfl⟩
          rw [hwc] at hb3 HN
          rw [hwc, hg6]
          clear hwc hg6
          replace HO := OwnR.below HO hb3
          replace H3 := H3.below_ hb3
          replace H0 := H0.below_ hb3
          replace H1 := H1.below_ hb3
          replace HB0 := hop HB0 (Nat.le_refl _) hb3
          clear hb3 hS
          have hS := SP.out wT H0.blk HB0
          refine hK.out _ _ hS (fun _ => ?_)
          clear hK K
          try simp only [Act.put, pz1, pz2, pz3]
        rotate_left 1
        refine rdC (fun K hK => ?_) AllReadyH.nil
        focus
          go_simp
          have hb3 : Below e4.heap.size e4 (e4.alloc (.cells #[.string y1, .string y2, .string y3] 43)) := (Below.refl _ _).alloc (Nat.le_refl _) _
          obtain ⟨g6, hg6⟩ : ∃ g, e4.heap.size = g := ⟨_, rfl⟩
          have HN : Blk (e4.alloc (.cells #[.string y1, .string y2, .string y3] 43)) g6 43 #[.string y1, .string y2, .string y3] := by rw [← hg6]; exact Blk.new _ _ _
          obtain ⟨wT, hwc⟩ : ∃ z, e4.alloc (.cells #[.string y1, .string y2, .string y3] 43) = z := ⟨_, rfl⟩
          rw [hwc] at hb3 HN
          rw [hwc, hg6]
          clear hwc hg6
          replace HO := OwnR.below HO hb3
          replace H3 := H3.below_ hb3
          replace H0 := H0.below_ hb3
          replace H1 := H1.below_ hb3
          replace HB0 := hop HB0 (Nat.le_refl _) hb3
          clear hb3 hS
          have hS := SP.out wT H0.blk HB0
          refine hK.out _ _ hS (fun _ => ?_)
          clear hK K
          try simp only [Act.put, pz1, pz2, pz3]
          refine rdy [1] ?_
          refine rdC (fun K hK => ?_) AllReadyH.nil
          have c_ : wT.cell? ⟨W.heap.size + 1 + 1, 0, none⟩ = some v := (H3.blk.cell 0).trans rfl
          go_simp
          clear c_
          refine hK.out _ _ hS (fun _ => ?_)
          clear hK K
          try simp only [Act.put, pz1, pz2, pz3]
      all_goals
        refine rdy [9] ?_
        refine rdC (fun K hK => ?_) AllReadyH.nil
        have HOl : wT.ownsRow (W.heap.size + 1 + 1 + 1) 43 3 v j (rowV matV ((hs.take j).map HalfB.f)) := by
          have h := HO
          unfold OwnR at h
          rwa [LJ.out] at h
        refine step_append_lies _ (by rfl) (.tmp 24) (.tmp 31) 31 (by rfl) (W.heap.size + 1 + 1 + 1) 43 i0 (.agg #[.string ⟨#[]⟩, .string ⟨#[]⟩, .string ⟨#[]⟩]) 3 48 Tryz.underlying31 hi0_ hz00 hz01 hz02 rfl (by decide) _ _ _ (by rfl) HOl ⟨_, 0, none⟩ 1 1 (matV ⟨y1, y2, y3⟩) (by rfl) rfl (World.news_of_block HN) (matK_one ⟨y1, y2, y3⟩) (by decide) (by unfold maxLen; omega) (by omega) (by have := HB0.size; have := H3.lt; omega) _ rfl ?_
        intro g2 cap2 e9 hown' hgrow hg' hlt2
        have HOn : OwnR matV 3 e9 (W.heap.size + 1 + 1 + 1) 43 (.slice (some ⟨g2, 0, none⟩) (j + 1) cap2) ((hs.take (j + 1)).map HalfB.f) := by
          rw [LS.out]
          refine OwnR.snoc ?_
          rw [LJ.out]
          exact hown'
        have hol := fun b hb => (World.ownsRow.lt HOl b hb).1
        have H3n : BlkH W.heap.size e9 (W.heap.size + 1 + 1) 34 #[v, .slice none 0 0] := ⟨(hgrow.block _ H3.lt (fun e => by have := hol _ e.symm; omega)).trans H3.blk, H3.le⟩
        have H1n : BlkH W.heap.size e9 (W.heap.size + 1) 34 #[.slice none 0 0, .slice none 0 0] := ⟨(hgrow.block _ H1.lt (fun e => by have := hol _ e.symm; omega)).trans H1.blk, H1.le⟩
        have H0n : BlkH W.heap.size e9 (W.heap.size) 25 #[.slice (some ⟨b1, o1, none⟩) n c, .slice B m d] := ⟨(hgrow.block _ H0.lt (fun e => by have := hol _ e.symm; omega)).trans H0.blk, H0.le⟩
        have HBn := HB0.grown hgrow HB0.size (fun b hb => by have := hol b hb; have := G2B; omega)
        have hSn := SP.out e9 H0n.blk HBn
        refine hK.out _ _ hSn (fun _ => ?_)
        clear hown' hgrow hg' hlt2 HOl hol hS
        have hS := hSn
        clear hSn
        clear hK K
        try simp only [Act.put, pz1, pz2, pz3]
        refine tV 10 ?_
        refine rdy [11] ?_
        refine rdC (fun K hK => ?_) AllReadyH.nil
        have c_ := H3n.blk.cell 0
        have f_ := H3n.blk.frozen 0
        go_simp
        have H0s := H0n.blk.far (p := ⟨W.heap.size + 1 + 1, 0, none⟩) (by show W.heap.size ≠ W.heap.size + 1 + 1; omega) (.slice (some ⟨g2, 0, none⟩) (j + 1) cap2)
        have HBs := HBn.setCell (p := ⟨W.heap.size + 1 + 1, 0, none⟩) (by show W.heap.size ≤ W.heap.size + 1 + 1; omega) (.slice (some ⟨g2, 0, none⟩) (j + 1) cap2)
        have hSn := SP.out _ H0s HBs
        refine hK.out _ _ hSn (fun _ => ?_)
        clear c_ f_ hSn hS
        clear hK K
        try simp only [Act.put, pz1, pz2, pz3]
        refine wpAnyH_done (by kernel_rfl) ?_ _
        have HOs := Lib.hid (own_storeK HOn ⟨W.heap.size + 1 + 1, 0, none⟩ (.slice (some ⟨g2, 0, none⟩) (j + 1) cap2) (by show W.heap.size + 1 + 1 < (W.heap.size + 1 + 1 + 1); omega))
        have H3s := Lib.hid (H3n.blk.set_ 0 (.slice (some ⟨g2, 0, none⟩) (j + 1) cap2))
        have H1s := Lib.hid (H1n.blk.far (p := ⟨W.heap.size + 1 + 1, 0, none⟩) (by show W.heap.size + 1 ≠ W.heap.size + 1 + 1; omega) (.slice (some ⟨g2, 0, none⟩) (j + 1) cap2))
        have HAs := Lib.hid H0s
        have HCs := Lib.hid HBs
        clear HO H3 H0 H1 HB0 H3n H1n H0n HBn HOn H0s HBs HN
        go_wp2
        go_round
        case rel => exact ⟨j + 1, _, by omega, by omega, by go_num, HOs, H3s, HAs, H1s, HCs⟩
        case measure => first | (simp [intOf]; done) | (simp [intOf]; omega)
    · have HE := take_endK (l := hs) R0.out.1 hjn h hjm
      have LJ := len_takeK HalfB.f (l := hs) (j := j) (by rw [R0.out.1]; omega)
      have hgt : W.heap.size + 1 + 1 < wr.heap.size := H3x.out.lt
      obtain ⟨A', cap, hv, hcap, hnil, hrow⟩ := OwnR.open matV_len HOx.out
      rw [LJ] at hv hcap
      subst hv
      have hends : (¬ (j : Int) < (n : Int)) ∨ ((j : Int) < (n : Int) ∧ ¬ (j : Int) < (mm : Int)) := by omega
      have c1_ : wr.cell? ⟨W.heap.size + 1 + 1, 0, none⟩ = some (.slice A' j cap) := (H3x.out.cell 0).trans rfl
      have WAY : (0 < j ∧ Hid (OwnR matV 3 wr (W.heap.size + 1 + 1 + 1) 43 (.slice A' j cap) (matsF hs mm))) ∨ (j = 0 ∧ matsF hs mm = [noneM]) := by
        unfold matsF
        rcases Nat.eq_zero_or_pos j with z | z
        · right
          refine ⟨z, ?_⟩
          rw [← HE, z]
          rfl
        · left
          refine ⟨z, ?_⟩
          rw [← HE, if_neg (fun e => by rw [e] at LJ; exact absurd LJ (by simp; omega))]
          exact HOx
      clear HE LJ hnil hrow h
      rcases WAY with ⟨z, HM⟩ | ⟨z, HM⟩
      focus
        have zI : ((j : Int) == 0) = false := beq_eq_false_iff_ne.2 (by omega)
        have z2 : ¬ j = 0 := by omega
        have FW : ∃ w2 mv, Hid (wr = w2) ∧ Hid (Value.slice A' j cap = mv) ∧ Hid (OwnR matV 3 w2 (W.heap.size + 1 + 1 + 1) 43 mv (matsF hs mm)) ∧ Hid (∀ g, mv.ownBlock = some g → g < w2.heap.size) ∧ Hid (Blk w2 (W.heap.size + 1 + 1) 34 #[mv, .slice none 0 0]) ∧ Hid (Blk w2 (W.heap.size) 25 #[.slice A n c, .slice B m d]) ∧ Hid (Blk w2 (W.heap.size + 1) 34 #[.slice none 0 0, .slice none 0 0]) ∧ Hid (Below W.heap.size W w2) := ⟨wr, _, Lib.hid rfl, Lib.hid rfl, HM, Lib.hid (fun g hg => (World.ownsRow.lt HM.out g hg).2), H3x, H0x, H1x, HBx⟩
        clear HM HOx H3x H0x H1x HBx
        rcases hends with e1 | ⟨e1, e2⟩
        all_goals
          go_wp2
          obtain ⟨w2, mv, hw2, hmv, JM, JL, J3, J0, J1, JB⟩ := FW
          rw [hw2.out]
          clear hw2 hmv
      rotate_left 2
      focus
        subst z
        have hs1 : (#[.string ⟨#[97, 112, 112]⟩, .string ⟨#[33, 61]⟩, .string ⟨#[110, 111, 110, 101]⟩] : Array Value).size = 1 * 3 := rfl
        have b3 := H3x.out.alloc (.cells #[.string ⟨#[97, 112, 112]⟩, .string ⟨#[33, 61]⟩, .string ⟨#[110, 111, 110, 101]⟩] 43)
        have c2_ : (wr.alloc (.cells #[.string ⟨#[97, 112, 112]⟩, .string ⟨#[33, 61]⟩, .string ⟨#[110, 111, 110, 101]⟩] 43)).cell? ⟨W.heap.size + 1 + 1, 0, none⟩ = some (.slice A' 0 cap) := (b3.cell 0).trans rfl
        have f2_ := b3.frozen 0
        have FW : ∃ w2 mv, Hid (((wr.setCell ⟨W.heap.size + 1 + 1, 0, none⟩ (.slice (some ⟨wr.heap.size, 0, none⟩) 1 1)).alloc (.cells #[.string ⟨#[97, 112, 112]⟩, .string ⟨#[33, 61]⟩, .string ⟨#[110, 111, 110, 101]⟩] 43)) = w2) ∧ Hid (Value.slice (some ⟨wr.heap.size, 0, none⟩) 1 1 = mv) ∧ Hid (OwnR matV 3 w2 (W.heap.size + 1 + 1 + 1) 43 mv (matsF hs mm)) ∧ Hid (∀ g, mv.ownBlock = some g → g < w2.heap.size) ∧ Hid (Blk w2 (W.heap.size + 1 + 1) 34 #[mv, .slice none 0 0]) ∧ Hid (Blk w2 (W.heap.size) 25 #[.slice A n c, .slice B m d]) ∧ Hid (Blk w2 (W.heap.size + 1) 34 #[.slice none 0 0, .slice none 0 0]) ∧ Hid (Below W.heap.size W w2) := ⟨_, _, Lib.hid rfl, Lib.hid rfl,
          Lib.hid (by
            rw [HM]
            have h0 := World.ownsRow_lit (base := (W.heap.size + 1 + 1 + 1)) (e := 43) (size := 3) (wr.setCell ⟨W.heap.size + 1 + 1, 0, none⟩ (.slice (some ⟨wr.heap.size, 0, none⟩) 1 1)) #[.string ⟨#[97, 112, 112]⟩, .string ⟨#[33, 61]⟩, .string ⟨#[110, 111, 110, 101]⟩] 1 (by simp; omega) (by unfold maxLen; omega) hs1
            rwa [show (wr.setCell ⟨W.heap.size + 1 + 1, 0, none⟩ (.slice (some ⟨wr.heap.size, 0, none⟩) 1 1)).heap.size = wr.heap.size by simp] at h0),
          Lib.hid (fun g hg => by have h2 : wr.heap.size = g := Option.some.inj hg; subst h2; simp),
          Lib.hid ((H3x.out.set_ 0 (.slice (some ⟨wr.heap.size, 0, none⟩) 1 1)).alloc (.cells #[.string ⟨#[97, 112, 112]⟩, .string ⟨#[33, 61]⟩, .string ⟨#[110, 111, 110, 101]⟩] 43)), Lib.hid ((H0x.out.far (p := ⟨W.heap.size + 1 + 1, 0, none⟩) (by show W.heap.size ≠ W.heap.size + 1 + 1; omega) (.slice (some ⟨wr.heap.size, 0, none⟩) 1 1)).alloc (.cells #[.string ⟨#[97, 112, 112]⟩, .string ⟨#[33, 61]⟩, .string ⟨#[110, 111, 110, 101]⟩] 43)), Lib.hid ((H1x.out.far (p := ⟨W.heap.size + 1 + 1, 0, none⟩) (by show W.heap.size + 1 ≠ W.heap.size + 1 + 1; omega) (.slice (some ⟨wr.heap.size, 0, none⟩) 1 1)).alloc (.cells #[.string ⟨#[97, 112, 112]⟩, .string ⟨#[33, 61]⟩, .string ⟨#[110, 111, 110, 101]⟩] 43)), Lib.hid ((HBx.out.setCell (p := ⟨W.heap.size + 1 + 1, 0, none⟩) (by show W.heap.size ≤ W.heap.size + 1 + 1; omega) (.slice (some ⟨wr.heap.size, 0, none⟩) 1 1)).alloc (by simp; exact HBx.out.size) (.cells #[.string ⟨#[97, 112, 112]⟩, .string ⟨#[33, 61]⟩, .string ⟨#[110, 111, 110, 101]⟩] 43))⟩
        clear HM HOx H3x H0x H1x HBx b3 hs1
        rcases hends with e1 | ⟨e1, e2⟩
        all_goals
          go_wp2
          obtain ⟨w2, mv, hw2, hmv, JM, JL, J3, J0, J1, JB⟩ := FW
          rw [hw2.out]
          clear hw2 hmv c2_ f2_
      all_goals
        obtain ⟨b2, hb2⟩ : ∃ b, w2.heap.size = b := ⟨_, rfl⟩
        have BL : b2 ≤ w2.heap.size := Nat.le_of_eq hb2.symm
        have G2B : W.heap.size + 1 + 1 < b2 := by rw [← hb2]; exact J3.out.lt
        have ML : Hid (∀ g, mv.ownBlock = some g → g < b2) := Lib.hid (fun g hg => by rw [← hb2]; exact JL.out g hg)
        have SO2 := Lib.hid (OwnR.nil (V := stgV) (s := 6) w2 b2 27)
        clear hb2 JL
        obtain ⟨M, hM⟩ : ∃ M, matsF hs mm = M := ⟨_, rfl⟩
        rw [hM] at JM
        have HMH := Lib.hid hM
        clear hM
        go_loopw [9] (fun iv wr => ∃ (j : Nat) (v : Value), j ≤ m ∧ j ≤ ss ∧ iv = .int .i64 (j : Nat) ∧ Hid (OwnR stgV 6 wr b2 27 v ((ps.take j).map PartB.f)) ∧ Hid (Blk wr (W.heap.size + 1 + 1) 34 #[mv, v]) ∧ Hid (Blk wr (W.heap.size) 25 #[.slice A n c, .slice B m d]) ∧ Hid (Blk wr (W.heap.size + 1) 34 #[.slice none 0 0, .slice none 0 0]) ∧ Hid (OwnR matV 3 wr (W.heap.size + 1 + 1 + 1) 43 mv M) ∧ b2 ≤ wr.heap.size ∧ Hid (Below W.heap.size W wr)) (fun iv _ => ss - (intOf iv).toNat)
        case atStart => exact ⟨0, _, Nat.zero_le _, Nat.zero_le _, rfl, SO2, J3, J0, J1, JM, BL, JB⟩
        case round =>
          obtain ⟨j, v, hjn, hjm, rfl, HOx, H3x, H0x, H1x, HMx, BS0, HBx⟩ := hrel
          have BS : b2 ≤ wr.drew.heap.size := BS0
          have c0_ : wr.cell? ⟨W.heap.size, 1, none⟩ = some (.slice B m d) := (H0x.out.cell 1).trans rfl
          by_cases h : j < m ∧ j < ss
          · obtain ⟨h1_, h2_⟩ := h
            have jI : (j : Int) < (m : Int) := by omega
            have jM : (j : Int) < (ss : Int) := by omega
            obtain ⟨x, hx⟩ : ∃ x, ps[j]? = some x := ⟨_, List.getElem?_eq_getElem (by rw [R1.out.1]; exact h1_)⟩
            have LJ := Lib.hid (len_takeK PartB.f (l := ps) (j := j) (by rw [R1.out.1]; omega))
            have LS := Lib.hid (take_mapK PartB.f hx)
            obtain ⟨b1, o1, hA, hlt, hcc⟩ := R1.out.2 (by omega)
            subst hA
            obtain ⟨⟨kd, nm, op, vl, nu, un⟩, own, k, nn⟩ := x
            have hk : k < 256 := (GP.out _ (List.mem_of_getElem? hx)).k
            have hnn : Num64 nn := (GP.out _ (List.mem_of_getElem? hx)).n
            have SP := Lib.hid (fun w' (h0 : Blk w' (W.heap.size) 25 #[.slice A n c, .slice (some ⟨b1, o1, none⟩) m d]) (hb : Below W.heap.size W w') => (show w'.cell? ⟨W.heap.size, 1, none⟩ = some (.slice (some ⟨b1, o1, none⟩) m d) ∧ w'.cell? ⟨b1, o1 + j * 9, none⟩ = some (.int .i64 kd) ∧ w'.cell? ⟨b1, o1 + j * 9 + 1, none⟩ = some (.string nm) ∧ w'.cell? ⟨b1, o1 + j * 9 + 2, none⟩ = some (.string op) ∧ w'.cell? ⟨b1, o1 + j * 9 + 3, none⟩ = some (.string vl) ∧ w'.cell? ⟨b1, o1 + j * 9 + 4, none⟩ = some (.int .i64 nu) ∧ w'.cell? ⟨b1, o1 + j * 9 + 5, none⟩ = some (.int .i64 un) ∧ w'.cell? ⟨b1, o1 + j * 9 + 6, none⟩ = some (.bool own) ∧ w'.cell? ⟨b1, o1 + j * 9 + 7, none⟩ = some (.int .u8 (k : Int)) ∧ w'.cell? ⟨b1, o1 + j * 9 + 8, none⟩ = some (.int .i64 nn) ∧ True from ⟨(h0.cell 1).trans rfl, (hb.cell hlt).trans (hcc j 0 _ hx (by decide)), (hb.cell hlt).trans (hcc j 1 _ hx (by decide)), (hb.cell hlt).trans (hcc j 2 _ hx (by decide)), (hb.cell hlt).trans (hcc j 3 _ hx (by decide)), (hb.cell hlt).trans (hcc j 4 _ hx (by decide)), (hb.cell hlt).trans (hcc j 5 _ hx (by decide)), (hb.cell hlt).trans (hcc j 6 _ hx (by decide)), (hb.cell hlt).trans (hcc j 7 _ hx (by decide)), (hb.cell hlt).trans (hcc j 8 _ hx (by decide)), trivial⟩))
            have SP0 := SP.out wr H0x.out HBx.out
            have CA := Lib.hid (fun w => partOf_any ⟨kd, nm, op, vl, nu, un⟩ own k nn hk hnn w)
            obtain ⟨y, hy⟩ : ∃ y, partF ⟨kd, nm, op, vl, nu, un⟩ own k nn = y := ⟨_, rfl⟩
            rw [hy] at CA
            replace LS := Lib.hid (LS.out.trans (congrArg (fun z => ((ps.take j).map PartB.f) ++ [z]) (show PartB.f ⟨⟨kd, nm, op, vl, nu, un⟩, own, k, nn⟩ = y from hy)))
            obtain ⟨y0, y1, y2, y3, y4, y5⟩ := y
            replace CA : Hid (∀ w, Calls Tryz.prog 9 #[.agg #[.int .i64 kd, .string nm, .string op, .string vl, .int .i64 nu, .int .i64 un, .bool own, .int .u8 (k : Int), .int .i64 nn]] w fun r_ w' => r_ = .returned (.agg #[.int .i64 y0, .string y1, .string y2, .string y3, .int .i64 y4, .int .i64 y5]) ∧ Below w.heap.size w w') := CA
            clear hcc hy hx
            have HB0 : Below W.heap.size W wr.drew := below_drewN HBx.out 1
            have HO : OwnR stgV 6 wr.drew b2 27 v ((ps.take j).map PartB.f) := HOx.out
            have H3 : BlkH W.heap.size wr.drew (W.heap.size + 1 + 1) 34 #[mv, v] := ⟨H3x.out, by omega⟩
            have H0 : BlkH W.heap.size wr.drew (W.heap.size) 25 #[.slice A n c, .slice (some ⟨b1, o1, none⟩) m d] := ⟨H0x.out, by omega⟩
            have H1 : BlkH W.heap.size wr.drew (W.heap.size + 1) 34 #[.slice none 0 0, .slice none 0 0] := ⟨H1x.out, by omega⟩
            have HM : OwnR matV 3 wr.drew (W.heap.size + 1 + 1 + 1) 43 mv M := HMx.out
            go_wp2
            refine wp_region_held_drew (S := fun w' => w'.cell? ⟨W.heap.size, 1, none⟩ = some (.slice (some ⟨b1, o1, none⟩) m d) ∧ w'.cell? ⟨b1, o1 + j * 9, none⟩ = some (.int .i64 kd) ∧ w'.cell? ⟨b1, o1 + j * 9 + 1, none⟩ = some (.string nm) ∧ w'.cell? ⟨b1, o1 + j * 9 + 2, none⟩ = some (.string op) ∧ w'.cell? ⟨b1, o1 + j * 9 + 3, none⟩ = some (.string vl) ∧ w'.cell? ⟨b1, o1 + j * 9 + 4, none⟩ = some (.int .i64 nu) ∧ w'.cell? ⟨b1, o1 + j * 9 + 5, none⟩ = some (.int .i64 un) ∧ w'.cell? ⟨b1, o1 + j * 9 + 6, none⟩ = some (.bool own) ∧ w'.cell? ⟨b1, o1 + j * 9 + 7, none⟩ = some (.int .u8 (k : Int)) ∧ w'.cell? ⟨b1, o1 + j * 9 + 8, none⟩ = some (.int .i64 nn) ∧ True) (by kernel_rfl) ⟨SP0.1, SP0.2.1, SP0.2.2.1, SP0.2.2.2.1, SP0.2.2.2.2.1, SP0.2.2.2.2.2.1, SP0.2.2.2.2.2.2.1, SP0.2.2.2.2.2.2.2.1, SP0.2.2.2.2.2.2.2.2.1, SP0.2.2.2.2.2.2.2.2.2.1, trivial⟩ (fun hS => ?_)
            obtain ⟨w0, hw0⟩ : ∃ z, wr.drew = z := ⟨_, rfl⟩
            rw [hw0] at hS HB0 HO H3 H0 H1 HM BS ⊢
            clear hw0
            refine tV 0 ?_; refine tV 2 ?_; refine tH 3 ?_; refine tV 4 ?_; refine tV 5 ?_; refine tH 6 ?_
            refine rdy [1, 7] ?_
            refine rdC (fun K hK => ?_) ?_
            focus
              have c_ : w0.cell? ⟨W.heap.size + 1 + 1, 1, none⟩ = some v := (H3.blk.cell 1).trans rfl
              go_simp
              clear c_
              refine hK.out _ _ hS (fun _ => ?_)
              clear hK K
              try simp only [Act.put, pz1, pz2, pz3]
              refine rdy [7] ?_
              refine rdC (fun K hK => ?_) AllReadyH.nil
              go_simp
              go_at_call 9
              refine (CA.out w0).mono ?_
              rintro _ e2 ⟨rfl, hb3⟩
              replace HO := OwnR.below HO hb3
              replace H3 := H3.below_ hb3
              replace H0 := H0.below_ hb3
              replace H1 := H1.below_ hb3
              replace HM := OwnR.below HM hb3
              replace BS := Nat.le_trans BS hb3.size
              replace HB0 := hop HB0 (Nat.le_refl _) hb3
              clear hb3 hS
              have hS := SP.out e2 H0.blk HB0
              refine hK.out _ _ hS (fun _ => ?_)
              clear hK K
              try simp only [Act.put, pz1, pz2, pz3]
              refine rdy [8] ?_
              refine rdC (fun K hK => ?_) AllReadyH.nil
              go_simp
              have hb3 : Below e2.heap.size e2 (e2.alloc (.cells #[.int .i64 y0, .string y1, .string y2, .string y3, .int .i64 y4, .int .i64 y5] 27)) := (Below.refl _ _).alloc (Nat.le_refl _) _
              obtain ⟨g6, hg6⟩ : ∃ g, e2.heap.size = g := ⟨_, rfl⟩
              have HN : Blk (e2.alloc (.cells #[.int .i64 y0, .string y1, .string y2, .string y3, .int .i64 y4, .int .i64 y5] 27)) g6 27 #[.int .i64 y0, .string y1, .string y2, .string y3, .int .i64 y4, .int .i64 y5] := by rw [← hg6]; exact Blk.new _ _ _
              obtain ⟨wT, hwc⟩ : ∃ z, e2.alloc (.cells #[.int .i64 y0, .string y1, .string y2, .string y3, .int .i64 y4, .int .i64 y5] 27) = z := ⟨_, rfl⟩
              rw [hwc] at hb3 HN
              rw [hwc, hg6]
              clear hwc hg6
              replace HO := OwnR.below HO hb3
              replace H3 := H3.below_ hb3
              replace H0 := H0.below_ hb3
              replace H1 := H1.below_ hb3
              replace HM := OwnR.below HM hb3
              replace BS := Nat.le_trans BS hb3.size
              replace HB0 := hop HB0 (Nat.le_refl _) hb3
              clear hb3 hS
              have hS := SP.out wT H0.blk HB0
              refine hK.out _ _ hS (fun _ => ?_)
              clear hK K
              try simp only [Act.put, pz1, pz2, pz3]
            rotate_left 1
            refine rdC (fun K hK => ?_) AllReadyH.nil
            focus
              go_simp
              go_at_call 9
              refine (CA.out w0).mono ?_
              rintro _ e4 ⟨rfl, hb3⟩
              replace HO := OwnR.below HO hb3
              replace H3 := H3.below_ hb3
              replace H0 := H0.below_ hb3
              replace H1 := H1.below_ hb3
              replace HM := OwnR.below HM hb3
              replace BS := Nat.le_trans BS hb3.size
              replace HB0 := hop HB0 (Nat.le_refl _) hb3
              clear hb3 hS
              have hS := SP.out e4 H0.blk HB0
              refine hK.out _ _ hS (fun _ => ?_)
              clear hK K
              try simp only [Act.put, pz1, pz2, pz3]
              refine rdy [1, 8] ?_
              refine rdC (fun K hK => ?_) ?_
              focus
                have c_ : e4.cell? ⟨W.heap.size + 1 + 1, 1, none⟩ = some v := (H3.blk.cell 1).trans rfl
                go_simp
                clear c_
                refine hK.out _ _ hS (fun _ => ?_)
                clear hK K
                try simp only [Act.put, pz1, pz2, pz3]
                refine rdy [8] ?_
                refine rdC (fun K hK => ?_) AllReadyH.nil
                go_simp
                have hb3 : Below e4.heap.size e4 (e4.alloc (.cells #[.int .i64 y0, .string y1, .string y2, .string y3, .int .i64 y4, .int .i64 y5] 27)) := (Below.refl _ _).alloc (Nat.le_refl _) _
                obtain ⟨g6, hg6⟩ : ∃ g, e4.heap.size = g := ⟨_, rfl⟩
                have HN : Blk (e4.alloc (.cells #[.int .i64 y0, .string y1, .string y2, .string y3, .int .i64 y4, .int .i64 y5] 27)) g6 27 #[.int .i64 y0, .string y1, .string y2, .string y3, .int .i64 y4, .int .i64 y5] := by rw [← hg6]; exact Blk.new _ _ _
                obtain ⟨wT, hwc⟩ : ∃ z, e4.alloc (.cells #[.int .i64 y0, .string y1, .string y2, .string y3, .int .i64 y4, .int .i64 y5] 27) = z := ⟨_, rfl⟩
                rw [hwc] at hb3 HN
                rw [hwc, hg6]
                clear hwc hg6
                replace HO := OwnR.below HO hb3
                replace H3 := H3.below_ hb3
                replace H0 := H0.below_ hb3
                replace H1 := H1.below_ hb3
                replace HM := OwnR.below HM hb3
                replace BS := Nat.le_trans BS hb3.size
                replace HB0 := hop HB0 (Nat.le_refl _) hb3
                clear hb3 hS
                have hS := SP.out wT H0.blk HB0
                refine hK.out _ _ hS (fun _ => ?_)
                clear hK K
                try simp only [Act.put, pz1, pz2, pz3]
              rotate_left 1
              refine rdC (fun K hK => ?_) AllReadyH.nil
              focus
                go_simp
                have hb3 : Below e4.heap.size e4 (e4.alloc (.cells #[.int .i64 y0, .string y1, .string y2, .string y3, .int .i64 y4, .int .i64 y5] 27)) := (Below.refl _ _).alloc (Nat.le_refl _) _
                obtain ⟨g6, hg6⟩ : ∃ g, e4.heap.size = g := ⟨_, rfl⟩
                have HN : Blk (e4.alloc (.cells #[.int .i64 y0, .string y1, .string y2, .string y3, .int .i64 y4, .int .i64 y5] 27)) g6 27 #[.int .i64 y0, .string y1, .string y2, .string y3, .int .i64 y4, .int .i64 y5] := by rw [← hg6]; exact Blk.new _ _ _
                obtain ⟨wT, hwc⟩ : ∃ z, e4.alloc (.cells #[.int .i64 y0, .string y1, .string y2, .string y3, .int .i64 y4, .int .i64 y5] 27) = z := ⟨_, rfl⟩
                rw [hwc] at hb3 HN
                rw [hwc, hg6]
                clear hwc hg6
                replace HO := OwnR.below HO hb3
                replace H3 := H3.below_ hb3
                replace H0 := H0.below_ hb3
                replace H1 := H1.below_ hb3
                replace HM := OwnR.below HM hb3
                replace BS := Nat.le_trans BS hb3.size
                replace HB0 := hop HB0 (Nat.le_refl _) hb3
                clear hb3 hS
                have hS := SP.out wT H0.blk HB0
                refine hK.out _ _ hS (fun _ => ?_)
                clear hK K
                try simp only [Act.put, pz1, pz2, pz3]
                refine rdy [1] ?_
                refine rdC (fun K hK => ?_) AllReadyH.nil
                have c_ : wT.cell? ⟨W.heap.size + 1 + 1, 1, none⟩ = some v := (H3.blk.cell 1).trans rfl
                go_simp
                clear c_
                refine hK.out _ _ hS (fun _ => ?_)
                clear hK K
                try simp only [Act.put, pz1, pz2, pz3]
            all_goals
              refine rdy [9] ?_
              refine rdC (fun K hK => ?_) AllReadyH.nil
              have HOl : wT.ownsRow b2 27 6 v j (rowV stgV ((ps.take j).map PartB.f)) := by
                have h := HO
                unfold OwnR at h
                rwa [LJ.out] at h
              refine step_append_lies _ (by rfl) (.tmp 54) (.tmp 61) 32 (by rfl) b2 27 i1 (.agg #[.int .i64 0, .string ⟨#[]⟩, .string ⟨#[]⟩, .string ⟨#[]⟩, .int .i64 0, .int .i64 0]) 6 72 Tryz.underlying32 hi1_ hz10 hz11 hz12 rfl (by decide) _ _ _ (by rfl) HOl ⟨_, 0, none⟩ 1 1 (stgV ⟨y0, y1, y2, y3, y4, y5⟩) (by rfl) rfl (World.news_of_block HN) (stgK_one ⟨y0, y1, y2, y3, y4, y5⟩) (by decide) (by unfold maxLen; omega) (by omega) (by exact BS) _ rfl ?_
              intro g2 cap2 e9 hown' hgrow hg' hlt2
              have HOn : OwnR stgV 6 e9 b2 27 (.slice (some ⟨g2, 0, none⟩) (j + 1) cap2) ((ps.take (j + 1)).map PartB.f) := by
                rw [LS.out]
                refine OwnR.snoc ?_
                rw [LJ.out]
                exact hown'
              have hol := fun b hb => (World.ownsRow.lt HOl b hb).1
              have H3n : BlkH W.heap.size e9 (W.heap.size + 1 + 1) 34 #[mv, v] := ⟨(hgrow.block _ H3.lt (fun e => by have := hol _ e.symm; omega)).trans H3.blk, H3.le⟩
              have H1n : BlkH W.heap.size e9 (W.heap.size + 1) 34 #[.slice none 0 0, .slice none 0 0] := ⟨(hgrow.block _ H1.lt (fun e => by have := hol _ e.symm; omega)).trans H1.blk, H1.le⟩
              have H0n : BlkH W.heap.size e9 (W.heap.size) 25 #[.slice A n c, .slice (some ⟨b1, o1, none⟩) m d] := ⟨(hgrow.block _ H0.lt (fun e => by have := hol _ e.symm; omega)).trans H0.blk, H0.le⟩
              have HMn : OwnR matV 3 e9 (W.heap.size + 1 + 1 + 1) 43 mv M := own_heapK HM (fun g hg => hgrow.block _ (World.ownsRow.lt HM g hg).2 (fun e => by have h1 := hol _ e.symm; have h2 := ML.out g hg; omega))
              have HBn := HB0.grown hgrow HB0.size (fun b hb => by have := hol b hb; have := G2B; omega)
              have BSn := Nat.le_trans BS hgrow.size
              have hSn := SP.out e9 H0n.blk HBn
              refine hK.out _ _ hSn (fun _ => ?_)
              clear hown' hgrow hg' hlt2 HOl hol hS
              have hS := hSn
              clear hSn
              clear hK K
              try simp only [Act.put, pz1, pz2, pz3]
              refine tV 10 ?_
              refine rdy [11] ?_
              refine rdC (fun K hK => ?_) AllReadyH.nil
              have c_ := H3n.blk.cell 1
              have f_ := H3n.blk.frozen 1
              go_simp
              have H0s := H0n.blk.far (p := ⟨W.heap.size + 1 + 1, 1, none⟩) (by show W.heap.size ≠ W.heap.size + 1 + 1; omega) (.slice (some ⟨g2, 0, none⟩) (j + 1) cap2)
              have HBs := HBn.setCell (p := ⟨W.heap.size + 1 + 1, 1, none⟩) (by show W.heap.size ≤ W.heap.size + 1 + 1; omega) (.slice (some ⟨g2, 0, none⟩) (j + 1) cap2)
              have hSn := SP.out _ H0s HBs
              refine hK.out _ _ hSn (fun _ => ?_)
              clear c_ f_ hSn hS
              clear hK K
              try simp only [Act.put, pz1, pz2, pz3]
              refine wpAnyH_done (by kernel_rfl) ?_ _
              have HOs := Lib.hid (own_storeK HOn ⟨W.heap.size + 1 + 1, 1, none⟩ (.slice (some ⟨g2, 0, none⟩) (j + 1) cap2) (by show W.heap.size + 1 + 1 < b2; omega))
              have H3s := Lib.hid (H3n.blk.set_ 1 (.slice (some ⟨g2, 0, none⟩) (j + 1) cap2))
              have H1s := Lib.hid (H1n.blk.far (p := ⟨W.heap.size + 1 + 1, 1, none⟩) (by show W.heap.size + 1 ≠ W.heap.size + 1 + 1; omega) (.slice (some ⟨g2, 0, none⟩) (j + 1) cap2))
              have HAs := Lib.hid H0s
              have HCs := Lib.hid HBs
              have HMs := Lib.hid (own_storeK HMn ⟨W.heap.size + 1 + 1, 1, none⟩ (.slice (some ⟨g2, 0, none⟩) (j + 1) cap2) (by show W.heap.size + 1 + 1 < (W.heap.size + 1 + 1 + 1); omega))
              have BSs : b2 ≤ (e9.setCell ⟨W.heap.size + 1 + 1, 1, none⟩ (.slice (some ⟨g2, 0, none⟩) (j + 1) cap2)).heap.size := by simpa using BSn
              clear HO H3 H0 H1 HB0 H3n H1n H0n HBn HOn H0s HBs HN HM HMn BS BSn
              go_wp2
              go_round
              case rel => exact ⟨j + 1, _, by omega, by omega, by go_num, HOs, H3s, HAs, H1s, HMs, BSs, HCs⟩
              case measure => first | (simp [intOf]; done) | (simp [intOf]; omega)
          · have HE := take_endK (l := ps) R1.out.1 hjn h hjm
            have hends : (¬ (j : Int) < (m : Int)) ∨ ((j : Int) < (m : Int) ∧ ¬ (j : Int) < (ss : Int)) := by omega
            obtain ⟨A', n', c', hv, JR⟩ : ∃ A' n' c', v = .slice A' n' c' ∧ Hid (OwnR stgV 6 wr b2 27 (.slice A' n' c') (stgsF ps ss)) := by
              obtain ⟨A', cap, hv, _, _, _⟩ := OwnR.open stgV_len HOx.out
              refine ⟨A', _, cap, hv, ?_⟩
              rw [← hv]
              unfold stgsF
              rw [← HE]
              exact HOx
            obtain ⟨A3, n3, c3, hmv, MR⟩ : ∃ A3 n3 c3, mv = .slice A3 n3 c3 ∧ Hid (OwnR matV 3 wr (W.heap.size + 1 + 1 + 1) 43 (.slice A3 n3 c3) M) := by
              obtain ⟨A3, cap, hv, _, _, _⟩ := OwnR.open matV_len HMx.out
              exact ⟨A3, _, cap, hv, by rw [← hv]; exact HMx⟩
            subst hv hmv
            have c1_ : wr.cell? ⟨W.heap.size + 1 + 1, 0, none⟩ = some (.slice A3 n3 c3) := (H3x.out.cell 0).trans rfl
            have c2_ : wr.cell? ⟨W.heap.size + 1 + 1, 1, none⟩ = some (.slice A' n' c') := (H3x.out.cell 1).trans rfl
            have d1_ := H1x.out.cell 0
            have d2_ := H1x.out.cell 1
            have f1_ := H1x.out.frozen 0
            have f2_ := H1x.out.frozen 1
            have LST := Lib.hid ((H1x.out.set_ 0 (.slice A3 n3 c3)).set_ 1 (.slice A' n' c'))
            have LM := Lib.hid (OwnR.mono (own_storeK (own_storeK MR.out ⟨W.heap.size + 1, 0, none⟩ (.slice A3 n3 c3) (by show W.heap.size + 1 < (W.heap.size + 1 + 1 + 1); omega)) ⟨W.heap.size + 1, 1, none⟩ (.slice A' n' c') (by show W.heap.size + 1 < (W.heap.size + 1 + 1 + 1); omega)) (show W.heap.size ≤ (W.heap.size + 1 + 1 + 1) by omega))
            have LS := Lib.hid (OwnR.mono (own_storeK (own_storeK JR.out ⟨W.heap.size + 1, 0, none⟩ (.slice A3 n3 c3) (by show W.heap.size + 1 < b2; omega)) ⟨W.heap.size + 1, 1, none⟩ (.slice A' n' c') (by show W.heap.size + 1 < b2; omega)) (show W.heap.size ≤ b2 by omega))
            have LB := Lib.hid ((HBx.out.setCell (p := ⟨W.heap.size + 1, 0, none⟩) (by show W.heap.size ≤ W.heap.size + 1; omega) (.slice A3 n3 c3)).setCell (p := ⟨W.heap.size + 1, 1, none⟩) (by show W.heap.size ≤ W.heap.size + 1; omega) (.slice A' n' c'))
            clear HE h HOx H3x H0x H1x HMx HBx JR MR
            rcases hends with e1 | ⟨e1, e2⟩
            all_goals
              go_wp2
              refine bodyPost_ret (results_cell_row rfl _ _ (W.heap.size + 1) 34 #[.slice A3 n3 c3, .slice A' n' c'] (0, 0) _ rfl LST.out Tryz.underlying34 rfl (by kernel_rfl)) rfl ?_
              exact ⟨_, _, _, _, _, _, rfl, by rw [HMH.out]; exact LM.out, LS.out, LB.out⟩
end Go.Proofs.YtepokdmkdnlbfaaGreatDoor
