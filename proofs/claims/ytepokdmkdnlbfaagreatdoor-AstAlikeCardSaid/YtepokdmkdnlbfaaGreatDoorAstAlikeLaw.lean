-- shaken
import Derived.Test.YtepokdmkdnlbfaaGreatDoorAstInj
import Derived.Test.YtepokdmkdnlbfaaGreatDoorAstSame
import Derived.Test.YtepokdmkdnlbfaaGreatDoorAstExam
import Derived.Test.YtepokdmkdnlbfaaGreatDoorAskOpen
import Derived.Test.YtepokdmkdnlbfaaGreatDoorMem
namespace Go.Proofs.YtepokdmkdnlbfaaGreatDoor
open Go.RowKit
set_option linter.unusedVariables false
set_option linter.unusedSimpArgs false
theorem putQ_size {M : List MatB} {S : List StgB} (hn : M.length ≤ 100) (hm : S.length ≤ 100) (hM : ∀ x ∈ M, FewM x) (hS : ∀ s ∈ S, FewG s) : (putQ M S).size ≤ 400000000000 := by
  have hJ1 : (joinB ⟨#[44]⟩ (M.map putM)).length ≤ 3000000000 := by
    have h := join_le (M.map putM) ⟨#[44]⟩ 24000002 (fun z hz => by
      obtain ⟨x, hx, rfl⟩ := List.mem_map.1 hz
      obtain ⟨a, b, c⟩ := hM x hx
      exact putA_size a b c)
    rw [List.length_map] at h
    refine Nat.le_trans h (Nat.le_trans (Nat.mul_le_mul_right _ hn) (by decide))
  have h := join_le (headT M :: S.map putG) ⟨#[32]⟩ 3000000003 (fun z hz => by
    rcases List.mem_cons.1 hz with rfl | hz
    · unfold headT
      simp only [ByteArray.size_append]
      show 1 + (joinB ⟨#[44]⟩ (M.map putM)).toArray.size + 1 ≤ _
      rw [List.size_toArray]
      omega
    · obtain ⟨x, hx, rfl⟩ := List.mem_map.1 hz
      exact Nat.le_trans (putG_size x (hS x hx)) (by decide))
  rw [List.length_cons, List.length_map] at h
  unfold putQ
  show (joinB ⟨#[32]⟩ (headT M :: S.map putG)).toArray.size ≤ _
  rw [List.size_toArray]
  exact Nat.le_trans h (Nat.le_trans (Nat.mul_le_mul_right _ (show S.length + 1 ≤ 101 by omega)) (by decide))
theorem few_mats {M : List MatB} {S : List StgB} (h : rightQ M S = true) : ∀ x ∈ M, FewM x := fun x hx => few_right ((rightQ_ok h).2.2.2.1 x hx)
theorem few_stgs {M : List MatB} {S : List StgB} (h : rightQ M S = true) (hS : ∀ s ∈ S, Num64 s.num) : ∀ s ∈ S, FewG s := fun s hs => few_stage ((rightQ_ok h).2.2.2.2 s hs) (hS s hs)
theorem stgs_64 {ps : List PartB} (h : ∀ p ∈ ps, PartOk p) (ss : Nat) : ∀ s ∈ stgsF ps ss, Num64 s.num := by
  intro s hs
  obtain ⟨p, hp, rfl⟩ := List.mem_map.1 hs
  have := h p (List.mem_of_mem_take hp)
  exact partF_64 this.num this.n
theorem same_eq (x y : ByteArray) (P : Prop) (b : Bool) (h : b = true ↔ P) (e : x = y ↔ P) : (x.toList == y.toList) = b := by
  rw [Bool.eq_iff_iff, h, ← e, beq_iff_eq]
  constructor
  · intro h2
    exact text_ext1 (by rw [← Lib.toList_data, ← Lib.toList_data, h2])
  · rintro rfl
    rfl
theorem step_append_none {P : Program} {ops : Array Oper} {o : Oper} {a : Act} {w : World} {K : Act → World → Prop} {Q : Exit → Act → World → Prop} {E : Prop} (hgd : o.guard = none) (s x : Operand) (t : TypeId)
    (ho : o.op = .call { callee := .builtin .append, args := #[s, x], argTypes := #[t, t] })
    (e : TypeId) (i : TypeInfo) (z : Value) (size bytes : Nat) (ht : P.underlying t = some (.slice e)) (hi : P.info? e = some i) (hz : i.zero = some z)
    (hsize : i.size = size) (hby : i.bytes = bytes) (hzs : z.cells.size = size) (hsz : 0 < size)
    (hs : a.eval s = .slice none 0 0) (B : Nat) (A : Option Addr) (n c : Nat) (news : List Value) (hx : a.eval x = .slice A n c) (hown : w.ownsRow B e size (.slice A n c) n news)
    (h1 : ∀ u ∈ news, u.oneCell' = true) (h63 : n ≤ maxLen) (hbytes : n * bytes ≤ 140737488355328) (base : Nat) (hbase : base ≤ w.heap.size)
    (h : ∀ v' w', w'.ownsRow base e size v' n news → w.grownBy w' none → (∀ g, v'.ownBlock = some g → g = w.heap.size) → K (a.put o.dst v') w') :
    if Region.wanted o (yielded ops a.tmps) = true then Oper.wp P o a w K Q else E := by
  have hw : Region.wanted o (yielded ops a.tmps) = true := by simp [Region.wanted, hgd]
  rw [if_pos hw]
  have key : ∃ v' w', (Builtin.append_ #[t, t] o.type #[.slice none 0 0, .slice A n c]).run P w = .ok v' w' ∧ w'.ownsRow base e size v' n news ∧ w.grownBy w' none ∧ (∀ g, v'.ownBlock = some g → g = w.heap.size) := by
    rcases hown.2 with ⟨h0, h0'⟩ | ⟨g, cap, cur, hv, hbg, hg, hnc, hcm, hcs, htake⟩
    · injection h0 with e1 e2 e3
      subst e1 e2 e3
      have hn : news = [] := List.eq_nil_of_length_eq_zero (by simpa using hown.1)
      subst hn
      refine ⟨.slice none 0 0, w, ?_, World.ownsRow_nil w base e size, ⟨rfl, rfl, rfl, Nat.le_refl _, fun _ _ _ => rfl⟩, fun g hg => by cases hg⟩
      simp [Builtin.append_, run_underlying ht, sizeOf, typeInfo, hi, Builtin.lenOf, Builtin.firstCells, loadCells, loadCellsFrom]
    · injection hv with e1 e2 e3
      subst e1 e3
      obtain ⟨v', w', hr, h2, h3, _, h5⟩ := run_append_own_at (P := P) w base t o.type e i z size bytes ht hi hz hsize hby hzs hsz (.slice none 0 0) 0 [] (World.ownsRow_nil w base e size) ⟨g, 0, none⟩ n c news hown.1 (hown.cells (g := g) rfl) h1 (by omega) (by rw [Nat.zero_add]; exact hbytes) hbase
      rw [Nat.zero_add, List.nil_append] at h2
      refine ⟨v', w', hr, h2, h3, fun g hg => ?_⟩
      rcases h5 with h5 | h5
      · rw [h5] at hg; cases hg
      · rw [h5] at hg; exact (Option.some.inj hg).symm
  obtain ⟨v', w', hr, h2, h3, h4⟩ := key
  unfold Oper.wp execOp
  simp only [ho, resolve, invoke, builtin, Sem.run_bind, Sem.run_pure, Result.andThen_ok, List.map_toArray, List.map_cons, List.map_nil, hs, hx, hr]
  exact h v' w' h2 h3 h4
theorem own_storeK2 {α : Type} {V : α → List Value} {s : Nat} {w : World} {B ty : Nat} {v : Value} {l : List α} {gc : Nat} (h : OwnR V s w B ty v l) (hn : ∀ g, v.ownBlock = some g → g ≠ gc) (x y : Value) : OwnR V s ((w.setCell ⟨gc, 0, none⟩ x).setCell ⟨gc, 1, none⟩ y) B ty v l := by
  refine own_heapK h (fun g hg => ?_)
  have h1 := hn g hg
  rw [Below.heap_setCell _ _ _ _ (show g ≠ gc from h1), Below.heap_setCell _ _ _ _ (show g ≠ gc from h1)]
set_option maxRecDepth 100000 in
set_option maxHeartbeats 6400000 in
theorem astAlike_core (A : Option Addr) (n c : Nat) (hs : List HalfB) (B : Option Addr) (m d : Nat) (ps : List PartB) (A' : Option Addr) (n' c' : Nat) (hs' : List HalfB) (B' : Option Addr) (m' d' : Nat) (ps' : List PartB) (kd : Int) (nm op vl : ByteArray) (nu un : Int) (own : Bool) (k : Nat) (nn : Int) (W : World) (rh : RowR HalfB.V 5 W A n hs) (gh : ∀ h ∈ hs, HalfOk h) (hn : n ≤ maxLen) (rp : RowR PartB.V 9 W B m ps) (gp : ∀ p ∈ ps, PartOk p) (hm : m ≤ maxLen) (rh' : RowR HalfB.V 5 W A' n' hs') (gh' : ∀ h ∈ hs', HalfOk h) (hn' : n' ≤ maxLen) (rp' : RowR PartB.V 9 W B' m' ps') (gp' : ∀ p ∈ ps', PartOk p) (hm' : m' ≤ maxLen) (hk : k < 256) (hnn : Num64 nn) (hl : LibIs W) :
    Calls Tryz.prog 3 #[.agg #[.slice A n c, .slice B m d], .agg #[.slice A' n' c', .slice B' m' d'], .agg #[.int .i64 kd, .string nm, .string op, .string vl, .int .i64 nu, .int .i64 un, .bool own, .int .u8 (k : Int), .int .i64 nn]] W fun e w' => e = .returned (.bool true) ∧ Below W.heap.size W w' := by
  have HL := Lib.hid hl
  have ASK1 := Lib.hid (fun w (hb : Below W.heap.size W w) => ask_any A n c hs B m d ps 3 3 (by decide) (by decide) hn hm w (rh.below hb) (rp.below hb) gh gp)
  have ASK2 := Lib.hid (fun w (hb : Below W.heap.size W w) => ask_any A' n' c' hs' B' m' d' ps' 3 3 (by decide) (by decide) hn' hm' w (rh'.below hb) (rp'.below hb) gh' gp')
  have N1 := Lib.hid (stgs_64 gp 3)
  have N2 := Lib.hid (stgs_64 gp' 3)
  obtain ⟨M1, hM1⟩ : ∃ M, matsF hs 3 = M := ⟨_, rfl⟩
  obtain ⟨S1, hS1⟩ : ∃ S, stgsF ps 3 = S := ⟨_, rfl⟩
  obtain ⟨M2, hM2⟩ : ∃ M, matsF hs' 3 = M := ⟨_, rfl⟩
  obtain ⟨S2, hS2⟩ : ∃ S, stgsF ps' 3 = S := ⟨_, rfl⟩
  rw [hM1, hS1] at ASK1
  rw [hM2, hS2] at ASK2
  rw [hS1] at N1
  rw [hS2] at N2
  have PA := Lib.hid (fun w => partOf_any ⟨kd, nm, op, vl, nu, un⟩ true k nn hk hnn w)
  have FY := Lib.hid (few_own ⟨kd, nm, op, vl, nu, un⟩ k hnn)
  obtain ⟨y, hy⟩ : ∃ y, partF ⟨kd, nm, op, vl, nu, un⟩ true k nn = y := ⟨_, rfl⟩
  rw [hy] at PA FY
  obtain ⟨y0, y1, y2, y3, y4, y5⟩ := y
  replace PA : Hid (∀ w, Calls Tryz.prog 9 #[.agg #[.int .i64 kd, .string nm, .string op, .string vl, .int .i64 nu, .int .i64 un, .bool true, .int .u8 (k : Int), .int .i64 nn]] w fun r_ w' => r_ = .returned (.agg #[.int .i64 y0, .string y1, .string y2, .string y3, .int .i64 y4, .int .i64 y5]) ∧ Below w.heap.size w w') := PA
  clear hy hM1 hS1 hM2 hS2 hl rh rp rh' rp' gh gp gh' gp' hn hm hn' hm' hk hnn
  have HB := Lib.hid (show Below W.heap.size W (((W.alloc (.cells #[.slice A n c, .slice B m d] 25)).alloc (.cells #[.slice A' n' c', .slice B' m' d'] 25)).alloc (.cells #[.int .i64 kd, .string nm, .string op, .string vl, .int .i64 nu, .int .i64 un, .bool own, .int .u8 (k : Int), .int .i64 nn] 29)) from (((Below.refl W.heap.size W).alloc (Nat.le_refl _) (.cells #[.slice A n c, .slice B m d] 25)).alloc (by simp) (.cells #[.slice A' n' c', .slice B' m' d'] 25)).alloc (by simp; omega) (.cells #[.int .i64 kd, .string nm, .string op, .string vl, .int .i64 nu, .int .i64 un, .bool own, .int .u8 (k : Int), .int .i64 nn] 29))
  have K3 := Lib.hid (show Blk (((W.alloc (.cells #[.slice A n c, .slice B m d] 25)).alloc (.cells #[.slice A' n' c', .slice B' m' d'] 25)).alloc (.cells #[.int .i64 kd, .string nm, .string op, .string vl, .int .i64 nu, .int .i64 un, .bool own, .int .u8 (k : Int), .int .i64 nn] 29)) (W.heap.size) 25 #[.slice A n c, .slice B m d] from ((Blk.new W 25 #[.slice A n c, .slice B m d]).alloc (.cells #[.slice A' n' c', .slice B' m' d'] 25)).alloc (.cells #[.int .i64 kd, .string nm, .string op, .string vl, .int .i64 nu, .int .i64 un, .bool own, .int .u8 (k : Int), .int .i64 nn] 29))
  have K4 := Lib.hid (show Blk (((W.alloc (.cells #[.slice A n c, .slice B m d] 25)).alloc (.cells #[.slice A' n' c', .slice B' m' d'] 25)).alloc (.cells #[.int .i64 kd, .string nm, .string op, .string vl, .int .i64 nu, .int .i64 un, .bool own, .int .u8 (k : Int), .int .i64 nn] 29)) (W.heap.size + 1) 25 #[.slice A' n' c', .slice B' m' d'] from (blk_next W _ _ _).alloc _)
  have K5 := Lib.hid (show Blk (((W.alloc (.cells #[.slice A n c, .slice B m d] 25)).alloc (.cells #[.slice A' n' c', .slice B' m' d'] 25)).alloc (.cells #[.int .i64 kd, .string nm, .string op, .string vl, .int .i64 nu, .int .i64 un, .bool own, .int .u8 (k : Int), .int .i64 nn] 29)) (W.heap.size + 1 + 1) 29 #[.int .i64 kd, .string nm, .string op, .string vl, .int .i64 nu, .int .i64 un, .bool own, .int .u8 (k : Int), .int .i64 nn] from by have h := blk_next (W.alloc (.cells #[.slice A n c, .slice B m d] 25)) (.cells #[.slice A' n' c', .slice B' m' d'] 25) 29 #[.int .i64 kd, .string nm, .string op, .string vl, .int .i64 nu, .int .i64 un, .bool own, .int .u8 (k : Int), .int .i64 nn]; rwa [show (W.alloc (.cells #[.slice A n c, .slice B m d] 25)).heap.size = W.heap.size + 1 by simp] at h)
  go_enter Tryz.func3, Tryz.ntmps3
  go_wp2_with fail
  refine (examples8_any _ (HL.out.below HB.out)).mono ?_
  rintro e w1 ⟨rfl, hb_⟩
  have k_ := K3.out.below hb_ K3.out.lt
  clear K3
  have K3 := Lib.hid k_
  clear k_
  have k_ := K4.out.below hb_ K4.out.lt
  clear K4
  have K4 := Lib.hid k_
  clear k_
  have k_ := K5.out.below hb_ K5.out.lt
  clear K5
  have K5 := Lib.hid k_
  clear k_
  have hbb_ := hop HB.out (Nat.le_refl _) hb_
  clear HB
  have HB := Lib.hid hbb_
  clear hbb_ hb_
  have hlt5 : W.heap.size + 1 + 1 < w1.heap.size := K5.out.lt
  obtain ⟨b1, hb1⟩ : ∃ b, w1.heap.size = b := ⟨_, rfl⟩
  rw [hb1] at hlt5
  have HB1 := Lib.hid (show b1 ≤ w1.heap.size by omega)
  clear hb1
  have c0_ : w1.cell? ⟨W.heap.size, 0, none⟩ = some (.slice A n c) := (K3.out.cell 0).trans rfl
  have c1_ : w1.cell? ⟨W.heap.size, 1, none⟩ = some (.slice B m d) := (K3.out.cell 1).trans rfl
  have AK := ASK1.out w1 HB.out
  go_wp2_with fail
  refine AK.mono ?_
  rintro e w2 ⟨p1, n1, c1, p2, n2, c2, rfl, o1_, o2_, hb_⟩
  have OA1 := Lib.hid (OwnR.mono o1_ HB1.out)
  have OA2 := Lib.hid (OwnR.mono o2_ HB1.out)
  have HB1_ := Nat.le_trans HB1.out hb_.size
  clear AK o1_ o2_ HB1 c0_ c1_
  have HB1 := Lib.hid HB1_
  clear HB1_
  have k_ := K3.out.below hb_ K3.out.lt
  clear K3
  have K3 := Lib.hid k_
  clear k_
  have k_ := K4.out.below hb_ K4.out.lt
  clear K4
  have K4 := Lib.hid k_
  clear k_
  have k_ := K5.out.below hb_ K5.out.lt
  clear K5
  have K5 := Lib.hid k_
  clear k_
  have hbb_ := hop HB.out (Nat.le_refl _) hb_
  clear HB
  have HB := Lib.hid hbb_
  clear hbb_ hb_
  obtain ⟨ga, hga⟩ : ∃ g, w2.heap.size = g := ⟨_, rfl⟩
  obtain ⟨w3, hw_⟩ : ∃ z, w2.alloc (.cells #[.slice p1 n1 c1, .slice p2 n2 c2] 34) = z := ⟨_, rfl⟩
  have Kga := Lib.hid (show Blk w3 ga 34 #[.slice p1 n1 c1, .slice p2 n2 c2] by rw [← hw_, ← hga]; exact Blk.new _ _ _)
  have Lga : b1 ≤ ga := by rw [← hga]; exact HB1.out
  have k_ := K3.out.alloc (.cells #[.slice p1 n1 c1, .slice p2 n2 c2] 34)
  clear K3
  have K3 := Lib.hid k_
  clear k_
  have k_ := K4.out.alloc (.cells #[.slice p1 n1 c1, .slice p2 n2 c2] 34)
  clear K4
  have K4 := Lib.hid k_
  clear k_
  have k_ := K5.out.alloc (.cells #[.slice p1 n1 c1, .slice p2 n2 c2] 34)
  clear K5
  have K5 := Lib.hid k_
  clear k_
  have k_ := OwnR.alloc OA1.out (.cells #[.slice p1 n1 c1, .slice p2 n2 c2] 34)
  clear OA1
  have OA1 := Lib.hid k_
  clear k_
  have k_ := OwnR.alloc OA2.out (.cells #[.slice p1 n1 c1, .slice p2 n2 c2] 34)
  clear OA2
  have OA2 := Lib.hid k_
  clear k_
  have k_ := HB.out.alloc HB.out.size (.cells #[.slice p1 n1 c1, .slice p2 n2 c2] 34)
  clear HB
  have HB := Lib.hid k_
  clear k_
  have HB1_ : b1 ≤ (w2.alloc (.cells #[.slice p1 n1 c1, .slice p2 n2 c2] 34)).heap.size := by have := HB1.out; simp; omega
  rw [hw_] at HB1_ HB K3 K4 K5 OA1 OA2
  clear HB1
  have HB1 := Lib.hid HB1_
  clear HB1_
  have HW_ := Lib.hid hw_
  have HG_ := Lib.hid hga
  clear hw_ hga
  have c0_ : (w2.alloc (.cells #[.slice p1 n1 c1, .slice p2 n2 c2] 34)).cell? ⟨W.heap.size + 1, 0, none⟩ = some (.slice A' n' c') := by rw [HW_.out]; exact (K4.out.cell 0).trans rfl
  have c1_ : (w2.alloc (.cells #[.slice p1 n1 c1, .slice p2 n2 c2] 34)).cell? ⟨W.heap.size + 1, 1, none⟩ = some (.slice B' m' d') := by rw [HW_.out]; exact (K4.out.cell 1).trans rfl
  have AK := ASK2.out w3 HB.out
  go_wp2_with fail
  rw [HW_.out, HG_.out]
  clear HW_ HG_
  refine AK.mono ?_
  rintro e w4 ⟨q1, m1, d1, q2, m2, d2, rfl, o1_, o2_, hb_⟩
  have OB1 := Lib.hid (OwnR.mono o1_ HB1.out)
  have OB2 := Lib.hid (OwnR.mono o2_ HB1.out)
  have HB1_ := Nat.le_trans HB1.out hb_.size
  clear AK o1_ o2_ HB1 c0_ c1_
  have HB1 := Lib.hid HB1_
  clear HB1_
  have k_ := K3.out.below hb_ K3.out.lt
  clear K3
  have K3 := Lib.hid k_
  clear k_
  have k_ := K4.out.below hb_ K4.out.lt
  clear K4
  have K4 := Lib.hid k_
  clear k_
  have k_ := K5.out.below hb_ K5.out.lt
  clear K5
  have K5 := Lib.hid k_
  clear k_
  have k_ := Kga.out.below hb_ Kga.out.lt
  clear Kga
  have Kga := Lib.hid k_
  clear k_
  have k_ := OwnR.below OA1.out hb_
  clear OA1
  have OA1 := Lib.hid k_
  clear k_
  have k_ := OwnR.below OA2.out hb_
  clear OA2
  have OA2 := Lib.hid k_
  clear k_
  have hbb_ := hop HB.out (Nat.le_refl _) hb_
  clear HB
  have HB := Lib.hid hbb_
  clear hbb_ hb_
  obtain ⟨gb, hgb⟩ : ∃ g, w4.heap.size = g := ⟨_, rfl⟩
  obtain ⟨w5, hw_⟩ : ∃ z, w4.alloc (.cells #[.slice q1 m1 d1, .slice q2 m2 d2] 34) = z := ⟨_, rfl⟩
  have Kgb := Lib.hid (show Blk w5 gb 34 #[.slice q1 m1 d1, .slice q2 m2 d2] by rw [← hw_, ← hgb]; exact Blk.new _ _ _)
  have Lgb : b1 ≤ gb := by rw [← hgb]; exact HB1.out
  have k_ := K3.out.alloc (.cells #[.slice q1 m1 d1, .slice q2 m2 d2] 34)
  clear K3
  have K3 := Lib.hid k_
  clear k_
  have k_ := K4.out.alloc (.cells #[.slice q1 m1 d1, .slice q2 m2 d2] 34)
  clear K4
  have K4 := Lib.hid k_
  clear k_
  have k_ := K5.out.alloc (.cells #[.slice q1 m1 d1, .slice q2 m2 d2] 34)
  clear K5
  have K5 := Lib.hid k_
  clear k_
  have k_ := Kga.out.alloc (.cells #[.slice q1 m1 d1, .slice q2 m2 d2] 34)
  clear Kga
  have Kga := Lib.hid k_
  clear k_
  have k_ := OwnR.alloc OA1.out (.cells #[.slice q1 m1 d1, .slice q2 m2 d2] 34)
  clear OA1
  have OA1 := Lib.hid k_
  clear k_
  have k_ := OwnR.alloc OA2.out (.cells #[.slice q1 m1 d1, .slice q2 m2 d2] 34)
  clear OA2
  have OA2 := Lib.hid k_
  clear k_
  have k_ := OwnR.alloc OB1.out (.cells #[.slice q1 m1 d1, .slice q2 m2 d2] 34)
  clear OB1
  have OB1 := Lib.hid k_
  clear k_
  have k_ := OwnR.alloc OB2.out (.cells #[.slice q1 m1 d1, .slice q2 m2 d2] 34)
  clear OB2
  have OB2 := Lib.hid k_
  clear k_
  have k_ := HB.out.alloc HB.out.size (.cells #[.slice q1 m1 d1, .slice q2 m2 d2] 34)
  clear HB
  have HB := Lib.hid k_
  clear k_
  have HB1_ : b1 ≤ (w4.alloc (.cells #[.slice q1 m1 d1, .slice q2 m2 d2] 34)).heap.size := by have := HB1.out; simp; omega
  rw [hw_] at HB1_ HB K3 K4 K5 Kga OA1 OA2 OB1 OB2
  clear HB1
  have HB1 := Lib.hid HB1_
  clear HB1_
  have HW_ := Lib.hid hw_
  have HG_ := Lib.hid hgb
  clear hw_ hgb
  have a0_ : (w4.alloc (.cells #[.slice q1 m1 d1, .slice q2 m2 d2] 34)).cell? ⟨ga, 0, none⟩ = some (.slice p1 n1 c1) := by rw [HW_.out]; exact (Kga.out.cell 0).trans rfl
  have a1_ : (w4.alloc (.cells #[.slice q1 m1 d1, .slice q2 m2 d2] 34)).cell? ⟨ga, 1, none⟩ = some (.slice p2 n2 c2) := by rw [HW_.out]; exact (Kga.out.cell 1).trans rfl
  have RA := astRight_any p1 n1 c1 p2 n2 c2 M1 S1 w5 (own_rowK matV_len OA1.out) (own_rowK stgV_len OA2.out) N1.out (HL.out.below HB.out)
  go_wp2_with fail
  rw [HW_.out, HG_.out]
  clear HW_ HG_
  by_cases hr1 : rightQ M1 S1 = true
  rotate_left
  · rw [Bool.not_eq_true] at hr1
    rw [hr1] at RA
    refine RA.mono ?_
    rintro e w6 ⟨rfl, hb_⟩
    have HF := Lib.hid (hop HB.out (Nat.le_refl _) hb_)
    clear hb_ RA a0_ a1_ hr1
    go_wp2
    go_ret
    exact ⟨rfl, HF.out⟩
  rw [hr1] at RA
  refine RA.mono ?_
  rintro e w6 ⟨rfl, hb_⟩
  clear RA a0_ a1_
  have HR1 := Lib.hid hr1
  clear hr1
  have k_ := K3.out.below hb_ K3.out.lt
  clear K3
  have K3 := Lib.hid k_
  clear k_
  have k_ := K4.out.below hb_ K4.out.lt
  clear K4
  have K4 := Lib.hid k_
  clear k_
  have k_ := K5.out.below hb_ K5.out.lt
  clear K5
  have K5 := Lib.hid k_
  clear k_
  have k_ := Kga.out.below hb_ Kga.out.lt
  clear Kga
  have Kga := Lib.hid k_
  clear k_
  have k_ := Kgb.out.below hb_ Kgb.out.lt
  clear Kgb
  have Kgb := Lib.hid k_
  clear k_
  have k_ := OwnR.below OA1.out hb_
  clear OA1
  have OA1 := Lib.hid k_
  clear k_
  have k_ := OwnR.below OA2.out hb_
  clear OA2
  have OA2 := Lib.hid k_
  clear k_
  have k_ := OwnR.below OB1.out hb_
  clear OB1
  have OB1 := Lib.hid k_
  clear k_
  have k_ := OwnR.below OB2.out hb_
  clear OB2
  have OB2 := Lib.hid k_
  clear k_
  have hbb_ := hop HB.out (Nat.le_refl _) hb_
  clear HB
  have HB := Lib.hid hbb_
  clear hbb_ hb_
  have a0_ : w6.cell? ⟨gb, 0, none⟩ = some (.slice q1 m1 d1) := (Kgb.out.cell 0).trans rfl
  have a1_ : w6.cell? ⟨gb, 1, none⟩ = some (.slice q2 m2 d2) := (Kgb.out.cell 1).trans rfl
  have RA := astRight_any q1 m1 d1 q2 m2 d2 M2 S2 w6 (own_rowK matV_len OB1.out) (own_rowK stgV_len OB2.out) N2.out (HL.out.below HB.out)
  go_wp2_with fail
  by_cases hr1 : rightQ M2 S2 = true
  rotate_left
  · rw [Bool.not_eq_true] at hr1
    rw [hr1] at RA
    refine RA.mono ?_
    rintro e w7 ⟨rfl, hb_⟩
    have HF := Lib.hid (hop HB.out (Nat.le_refl _) hb_)
    clear hb_ RA a0_ a1_ hr1
    go_wp2
    go_ret
    exact ⟨rfl, HF.out⟩
  rw [hr1] at RA
  refine RA.mono ?_
  rintro e w7 ⟨rfl, hb_⟩
  clear RA a0_ a1_
  have HR2 := Lib.hid hr1
  clear hr1
  have k_ := K3.out.below hb_ K3.out.lt
  clear K3
  have K3 := Lib.hid k_
  clear k_
  have k_ := K4.out.below hb_ K4.out.lt
  clear K4
  have K4 := Lib.hid k_
  clear k_
  have k_ := K5.out.below hb_ K5.out.lt
  clear K5
  have K5 := Lib.hid k_
  clear k_
  have k_ := Kga.out.below hb_ Kga.out.lt
  clear Kga
  have Kga := Lib.hid k_
  clear k_
  have k_ := Kgb.out.below hb_ Kgb.out.lt
  clear Kgb
  have Kgb := Lib.hid k_
  clear k_
  have k_ := OwnR.below OA1.out hb_
  clear OA1
  have OA1 := Lib.hid k_
  clear k_
  have k_ := OwnR.below OA2.out hb_
  clear OA2
  have OA2 := Lib.hid k_
  clear k_
  have k_ := OwnR.below OB1.out hb_
  clear OB1
  have OB1 := Lib.hid k_
  clear k_
  have k_ := OwnR.below OB2.out hb_
  clear OB2
  have OB2 := Lib.hid k_
  clear k_
  have hbb_ := hop HB.out (Nat.le_refl _) hb_
  clear HB
  have HB := Lib.hid hbb_
  clear hbb_ hb_
  have m5_ := K5.out.cell 6
  have f5_ := K5.out.frozen 6
  obtain ⟨w8, hw8⟩ : ∃ z, (w7.setCell ⟨W.heap.size + 1 + 1, 6, none⟩ (.bool true)) = z := ⟨_, rfl⟩
  have hga : b1 ≤ ga := Lga
  have hgb : b1 ≤ gb := Lgb
  have J5 := Lib.hid (show Blk w8 (W.heap.size + 1 + 1) 29 #[.int .i64 kd, .string nm, .string op, .string vl, .int .i64 nu, .int .i64 un, .bool true, .int .u8 (k : Int), .int .i64 nn] by rw [← hw8]; exact K5.out.set_ 6 (.bool true))
  have Ja := Lib.hid (show Blk w8 ga 34 #[.slice p1 n1 c1, .slice p2 n2 c2] by rw [← hw8]; exact Kga.out.far (p := ⟨W.heap.size + 1 + 1, 6, none⟩) (by show ga ≠ W.heap.size + 1 + 1; omega) (.bool true))
  have Jb := Lib.hid (show Blk w8 gb 34 #[.slice q1 m1 d1, .slice q2 m2 d2] by rw [← hw8]; exact Kgb.out.far (p := ⟨W.heap.size + 1 + 1, 6, none⟩) (by show gb ≠ W.heap.size + 1 + 1; omega) (.bool true))
  have H8 := Lib.hid (show Below W.heap.size W w8 by rw [← hw8]; exact HB.out.setCell (p := ⟨W.heap.size + 1 + 1, 6, none⟩) (by show W.heap.size ≤ W.heap.size + 1 + 1; omega) (.bool true))
  have OA18 := Lib.hid (show OwnR matV 3 w8 b1 43 (.slice p1 n1 c1) M1 by rw [← hw8]; exact own_storeK OA1.out ⟨W.heap.size + 1 + 1, 6, none⟩ (.bool true) (by show W.heap.size + 1 + 1 < b1; omega))
  have OA28 := Lib.hid (show OwnR stgV 6 w8 b1 27 (.slice p2 n2 c2) S1 by rw [← hw8]; exact own_storeK OA2.out ⟨W.heap.size + 1 + 1, 6, none⟩ (.bool true) (by show W.heap.size + 1 + 1 < b1; omega))
  have OB18 := Lib.hid (show OwnR matV 3 w8 b1 43 (.slice q1 m1 d1) M2 by rw [← hw8]; exact own_storeK OB1.out ⟨W.heap.size + 1 + 1, 6, none⟩ (.bool true) (by show W.heap.size + 1 + 1 < b1; omega))
  have OB28 := Lib.hid (show OwnR stgV 6 w8 b1 27 (.slice q2 m2 d2) S2 by rw [← hw8]; exact own_storeK OB2.out ⟨W.heap.size + 1 + 1, 6, none⟩ (.bool true) (by show W.heap.size + 1 + 1 < b1; omega))
  have HW8 := Lib.hid hw8
  clear hw8 K3 K4 K5 Kga Kgb HB OA1 OA2 OB1 OB2
  obtain ⟨i1, hi1_, hz10, hz11, hz12⟩ := info_parts infoStgK
  obtain ⟨b9, hb9⟩ : ∃ b, w8.heap.size = b := ⟨_, rfl⟩
  have hga9 : ga < b9 := by rw [← hb9]; exact Ja.out.lt
  have hgb9 : gb < b9 := by rw [← hb9]; exact Jb.out.lt
  have h59 : W.heap.size + 1 + 1 < b9 := by rw [← hb9]; exact J5.out.lt
  have hb89 := Nat.le_of_eq hb9.symm
  have hbe := Nat.le_of_eq hb9
  have OV0 := Lib.hid (OwnR.nil (V := stgV) (s := 6) w8.drew b9 27)
  have hlen1 := (rightQ_ok HR1.out).2.2.1
  have hS1l : S1.length = n2 := (own_rowK stgV_len OA28.out).1
  have hb18 : b1 ≤ b9 := by omega
  clear hb9
  go_wp2_with fail
  rw [HW8.out]
  clear HW8 m5_ f5_
  have SP := Lib.hid (fun w' (ja : Blk w' ga 34 #[.slice p1 n1 c1, .slice p2 n2 c2]) (j5 : Blk w' (W.heap.size + 1 + 1) 29 #[.int .i64 kd, .string nm, .string op, .string vl, .int .i64 nu, .int .i64 un, .bool true, .int .u8 (k : Int), .int .i64 nn]) => (show w'.cell? ⟨ga, 0, none⟩ = some (.slice p1 n1 c1) ∧ w'.cell? ⟨ga, 1, none⟩ = some (.slice p2 n2 c2) ∧ w'.cell? ⟨W.heap.size + 1 + 1, 0, none⟩ = some (.int .i64 kd) ∧ w'.cell? ⟨W.heap.size + 1 + 1, 1, none⟩ = some (.string nm) ∧ w'.cell? ⟨W.heap.size + 1 + 1, 2, none⟩ = some (.string op) ∧ w'.cell? ⟨W.heap.size + 1 + 1, 3, none⟩ = some (.string vl) ∧ w'.cell? ⟨W.heap.size + 1 + 1, 4, none⟩ = some (.int .i64 nu) ∧ w'.cell? ⟨W.heap.size + 1 + 1, 5, none⟩ = some (.int .i64 un) ∧ w'.cell? ⟨W.heap.size + 1 + 1, 6, none⟩ = some (.bool true) ∧ w'.cell? ⟨W.heap.size + 1 + 1, 7, none⟩ = some (.int .u8 (k : Int)) ∧ w'.cell? ⟨W.heap.size + 1 + 1, 8, none⟩ = some (.int .i64 nn) ∧ True from ⟨(ja.cell 0).trans rfl, (ja.cell 1).trans rfl, (j5.cell 0).trans rfl, (j5.cell 1).trans rfl, (j5.cell 2).trans rfl, (j5.cell 3).trans rfl, (j5.cell 4).trans rfl, (j5.cell 5).trans rfl, (j5.cell 6).trans rfl, (j5.cell 7).trans rfl, (j5.cell 8).trans rfl, trivial⟩))
  have SP0 := SP.out w8 Ja.out J5.out
  have KA : BlkH 0 w8.drew ga 34 #[.slice p1 n1 c1, .slice p2 n2 c2] := ⟨Ja.out, Nat.zero_le _⟩
  have KB : BlkH 0 w8.drew gb 34 #[.slice q1 m1 d1, .slice q2 m2 d2] := ⟨Jb.out, Nat.zero_le _⟩
  have K5 : BlkH 0 w8.drew (W.heap.size + 1 + 1) 29 #[.int .i64 kd, .string nm, .string op, .string vl, .int .i64 nu, .int .i64 un, .bool true, .int .u8 (k : Int), .int .i64 nn] := ⟨J5.out, Nat.zero_le _⟩
  have OA1 : OwnR matV 3 w8.drew b1 43 (.slice p1 n1 c1) M1 := OA18.out
  have OA2 : OwnR stgV 6 w8.drew b1 27 (.slice p2 n2 c2) S1 := OA28.out
  have OB1 : OwnR matV 3 w8.drew b1 43 (.slice q1 m1 d1) M2 := OB18.out
  have OB2 : OwnR stgV 6 w8.drew b1 27 (.slice q2 m2 d2) S2 := OB28.out
  have OV := OV0.out
  have HB0 : Below W.heap.size W w8.drew := below_drewN H8.out 1
  have BS : b9 ≤ w8.drew.heap.size := hb89
  have BSE : w8.drew.heap.size ≤ b9 := hbe
  clear Ja Jb J5 OA18 OA28 OB18 OB28 H8 OV0 hb89 hbe
  have HW9 : W.heap.size ≤ b9 := by omega
  have L9OA1 : Hid (∀ g, (.slice p1 n1 c1 : Value).ownBlock = some g → g < b9) := Lib.hid (fun g hg => Nat.lt_of_lt_of_le (World.ownsRow.lt OA1 g hg).2 BSE)
  have L9OA2 : Hid (∀ g, (.slice p2 n2 c2 : Value).ownBlock = some g → g < b9) := Lib.hid (fun g hg => Nat.lt_of_lt_of_le (World.ownsRow.lt OA2 g hg).2 BSE)
  have L9OB1 : Hid (∀ g, (.slice q1 m1 d1 : Value).ownBlock = some g → g < b9) := Lib.hid (fun g hg => Nat.lt_of_lt_of_le (World.ownsRow.lt OB1 g hg).2 BSE)
  have L9OB2 : Hid (∀ g, (.slice q2 m2 d2 : Value).ownBlock = some g → g < b9) := Lib.hid (fun g hg => Nat.lt_of_lt_of_le (World.ownsRow.lt OB2 g hg).2 BSE)
  refine wp_region_held_drew (S := fun w' => w'.cell? ⟨ga, 0, none⟩ = some (.slice p1 n1 c1) ∧ w'.cell? ⟨ga, 1, none⟩ = some (.slice p2 n2 c2) ∧ w'.cell? ⟨W.heap.size + 1 + 1, 0, none⟩ = some (.int .i64 kd) ∧ w'.cell? ⟨W.heap.size + 1 + 1, 1, none⟩ = some (.string nm) ∧ w'.cell? ⟨W.heap.size + 1 + 1, 2, none⟩ = some (.string op) ∧ w'.cell? ⟨W.heap.size + 1 + 1, 3, none⟩ = some (.string vl) ∧ w'.cell? ⟨W.heap.size + 1 + 1, 4, none⟩ = some (.int .i64 nu) ∧ w'.cell? ⟨W.heap.size + 1 + 1, 5, none⟩ = some (.int .i64 un) ∧ w'.cell? ⟨W.heap.size + 1 + 1, 6, none⟩ = some (.bool true) ∧ w'.cell? ⟨W.heap.size + 1 + 1, 7, none⟩ = some (.int .u8 (k : Int)) ∧ w'.cell? ⟨W.heap.size + 1 + 1, 8, none⟩ = some (.int .i64 nn) ∧ True) (by kernel_rfl) ⟨SP0.1, SP0.2.1, SP0.2.2.1, SP0.2.2.2.1, SP0.2.2.2.2.1, SP0.2.2.2.2.2.1, SP0.2.2.2.2.2.2.1, SP0.2.2.2.2.2.2.2.1, SP0.2.2.2.2.2.2.2.2.1, SP0.2.2.2.2.2.2.2.2.2.1, SP0.2.2.2.2.2.2.2.2.2.2.1, trivial⟩ (fun hS => ?_)
  obtain ⟨w0, hw0⟩ : ∃ z, w8.drew = z := ⟨_, rfl⟩
  rw [hw0] at hS KA KB K5 OA1 OA2 OB1 OB2 OV HB0 BS ⊢
  clear hw0
  refine tV 0 ?_; refine tH 1 ?_; refine tV 2 ?_; refine tH 3 ?_; refine tH 5 ?_
  refine rdy [4, 10] ?_
  refine rdC (fun K hK => ?_) ?_
  focus
    refine step_append_none (by rfl) (.const (.slice none 0 0)) (.tmp 31) 32 (by rfl) 27 i1 (.agg #[.int .i64 0, .string ⟨#[]⟩, .string ⟨#[]⟩, .string ⟨#[]⟩, .int .i64 0, .int .i64 0]) 6 72 Tryz.underlying32 hi1_ hz10 hz11 hz12 rfl (by decide) (by rfl) b1 _ n2 _ (rowV stgV S1) (by rfl) (by have h := OA2; unfold OwnR at h; rwa [hS1l] at h) (rowV_one stgK_one S1) (by unfold maxLen; omega) (by omega) b9 BS ?_
    intro v4 wT hown' hgrow hg'
    have hb3 := (Below.refl _ _).grown hgrow (Nat.le_refl _) (fun b hb => by cases hb)
    (try (have NV_ : (∀ g, v4.ownBlock = some g → g ≠ gc) := (fun g hg => by have h1 := hg' g hg; have h2 := KC.lt; omega); clear NV; have NV := NV_))
    clear OV
    have OV : OwnR stgV 6 wT b9 27 v4 S1 := by unfold OwnR; rw [hS1l]; exact hown'
    replace KA := KA.below_ hb3
    replace KB := KB.below_ hb3
    replace K5 := K5.below_ hb3
    (try replace KC := KC.below_ hb3)
    (try replace HN := HN.below hb3 HN.lt)
    replace OA1 := OwnR.below OA1 hb3
    replace OA2 := OwnR.below OA2 hb3
    replace OB1 := OwnR.below OB1 hb3
    replace OB2 := OwnR.below OB2 hb3
    replace BS := Nat.le_trans BS hb3.size
    replace HB0 := hop HB0 (Nat.le_refl _) hb3
    clear hb3 hown' hgrow hg'
    clear hS
    have hS := SP.out wT KA.blk K5.blk
    refine hK.out _ _ hS (fun _ => ?_)
    clear hK K
    try simp only [Act.put, pz1, pz2, pz3]
    refine rdy [6, 10] ?_
    refine rdC (fun K hK => ?_) ?_
    focus
      go_simp
      go_at_call 9
      refine (PA.out wT).mono ?_
      rintro _ wT ⟨rfl, hb3⟩
      replace KA := KA.below_ hb3
      replace KB := KB.below_ hb3
      replace K5 := K5.below_ hb3
      (try replace KC := KC.below_ hb3)
      (try replace HN := HN.below hb3 HN.lt)
      replace OA1 := OwnR.below OA1 hb3
      replace OA2 := OwnR.below OA2 hb3
      replace OB1 := OwnR.below OB1 hb3
      replace OB2 := OwnR.below OB2 hb3
      replace OV := OwnR.below OV hb3
      replace BS := Nat.le_trans BS hb3.size
      replace HB0 := hop HB0 (Nat.le_refl _) hb3
      clear hb3
      clear hS
      have hS := SP.out wT KA.blk K5.blk
      refine hK.out _ _ hS (fun _ => ?_)
      clear hK K
      try simp only [Act.put, pz1, pz2, pz3]
      refine rdy [7, 10] ?_
      refine rdC (fun K hK => ?_) ?_
      focus
        go_simp
        have hb3 : Below wT.heap.size wT (wT.alloc (.cells #[.int .i64 y0, .string y1, .string y2, .string y3, .int .i64 y4, .int .i64 y5] 27)) := (Below.refl _ _).alloc (Nat.le_refl _) _
        obtain ⟨g6, hg6⟩ : ∃ g, wT.heap.size = g := ⟨_, rfl⟩
        have HN_ : Blk (wT.alloc (.cells #[.int .i64 y0, .string y1, .string y2, .string y3, .int .i64 y4, .int .i64 y5] 27)) g6 27 #[.int .i64 y0, .string y1, .string y2, .string y3, .int .i64 y4, .int .i64 y5] := by rw [← hg6]; exact Blk.new _ _ _
        obtain ⟨wT, hwc⟩ : ∃ z, wT.alloc (.cells #[.int .i64 y0, .string y1, .string y2, .string y3, .int .i64 y4, .int .i64 y5] 27) = z := ⟨_, rfl⟩
        rw [hwc] at hb3 HN_
        rw [hwc, hg6]
        clear hwc hg6
        replace KA := KA.below_ hb3
        replace KB := KB.below_ hb3
        replace K5 := K5.below_ hb3
        (try replace KC := KC.below_ hb3)
        (try replace HN := HN.below hb3 HN.lt)
        replace OA1 := OwnR.below OA1 hb3
        replace OA2 := OwnR.below OA2 hb3
        replace OB1 := OwnR.below OB1 hb3
        replace OB2 := OwnR.below OB2 hb3
        replace OV := OwnR.below OV hb3
        replace BS := Nat.le_trans BS hb3.size
        replace HB0 := hop HB0 (Nat.le_refl _) hb3
        have HN := HN_
        clear hb3 HN_
        clear hS
        have hS := SP.out wT KA.blk K5.blk
        refine hK.out _ _ hS (fun _ => ?_)
        clear hK K
        try simp only [Act.put, pz1, pz2, pz3]
        refine rdy [8, 10] ?_
        refine rdC (fun K hK => ?_) ?_
        focus
          have HOl : wT.ownsRow b9 27 6 v4 n2 (rowV stgV S1) := by
            have h := OV
            unfold OwnR at h
            rwa [hS1l] at h
          refine step_append_lies _ (by rfl) (.tmp 32) (.tmp 35) 32 (by rfl) b9 27 i1 (.agg #[.int .i64 0, .string ⟨#[]⟩, .string ⟨#[]⟩, .string ⟨#[]⟩, .int .i64 0, .int .i64 0]) 6 72 Tryz.underlying32 hi1_ hz10 hz11 hz12 rfl (by decide) _ _ _ (by rfl) HOl ⟨_, 0, none⟩ 1 1 (stgV ⟨y0, y1, y2, y3, y4, y5⟩) (by rfl) rfl (World.news_of_block HN) (stgK_one ⟨y0, y1, y2, y3, y4, y5⟩) (by decide) (by unfold maxLen; omega) (by omega) BS _ rfl ?_
          intro g2 cap2 wT hown' hgrow hg' hlt2
          have hol := fun b hb => (World.ownsRow.lt HOl b hb).1
          (try have kl_ := KC.lt)
          (try replace KC : BlkH b9 wT gc 34 #[.slice none 0 0, .slice none 0 0] := ⟨(hgrow.block _ KC.lt (fun e => NV _ e.symm rfl)).trans KC.blk, KC.le⟩)
          (try (have NV_ : (∀ g, (Value.slice (some ⟨g2, 0, none⟩) (n2 + 1) cap2).ownBlock = some g → g ≠ gc) := (fun g hg => by
                  have h1 : g2 = g := Option.some.inj hg
                  subst h1
                  rcases hg' with h | h
                  · exact NV _ h
                  · have h2 := kl_
                    omega); clear NV; have NV := NV_))
          replace KA : BlkH 0 wT ga 34 #[.slice p1 n1 c1, .slice p2 n2 c2] := ⟨(hgrow.block _ KA.lt (fun e => by have := hol _ e.symm; omega)).trans KA.blk, KA.le⟩
          replace KB : BlkH 0 wT gb 34 #[.slice q1 m1 d1, .slice q2 m2 d2] := ⟨(hgrow.block _ KB.lt (fun e => by have := hol _ e.symm; omega)).trans KB.blk, KB.le⟩
          replace K5 : BlkH 0 wT (W.heap.size + 1 + 1) 29 #[.int .i64 kd, .string nm, .string op, .string vl, .int .i64 nu, .int .i64 un, .bool true, .int .u8 (k : Int), .int .i64 nn] := ⟨(hgrow.block _ K5.lt (fun e => by have := hol _ e.symm; omega)).trans K5.blk, K5.le⟩
          replace OA1 := own_heapK (w' := wT) OA1 (fun g hg => hgrow.block _ (World.ownsRow.lt OA1 g hg).2 (fun e => by have h1 := hol _ e.symm; have h2 := L9OA1.out g hg; omega))
          replace OA2 := own_heapK (w' := wT) OA2 (fun g hg => hgrow.block _ (World.ownsRow.lt OA2 g hg).2 (fun e => by have h1 := hol _ e.symm; have h2 := L9OA2.out g hg; omega))
          replace OB1 := own_heapK (w' := wT) OB1 (fun g hg => hgrow.block _ (World.ownsRow.lt OB1 g hg).2 (fun e => by have h1 := hol _ e.symm; have h2 := L9OB1.out g hg; omega))
          replace OB2 := own_heapK (w' := wT) OB2 (fun g hg => hgrow.block _ (World.ownsRow.lt OB2 g hg).2 (fun e => by have h1 := hol _ e.symm; have h2 := L9OB2.out g hg; omega))
          have HBn := HB0.grown hgrow HB0.size (fun b hb => by have := hol b hb; have := HW9; omega)
          replace BS := Nat.le_trans BS hgrow.size
          clear OV HB0
          have HB0 := HBn
          have OV : OwnR stgV 6 wT b9 27 (.slice (some ⟨g2, 0, none⟩) (n2 + 1) cap2) (S1 ++ [⟨y0, y1, y2, y3, y4, y5⟩]) := by
            refine OwnR.snoc ?_
            rw [hS1l]
            exact hown'
          clear hown' hgrow hg' hlt2 HOl hol HBn HN
          clear hS
          have hS := SP.out wT KA.blk K5.blk
          refine hK.out _ _ hS (fun _ => ?_)
          clear hK K
          try simp only [Act.put, pz1, pz2, pz3]
          refine tV 9 ?_
          refine rdy [10] ?_
          refine rdC (fun K hK => ?_) AllReadyH.nil
          go_simp
          have hb3 : Below wT.heap.size wT (wT.alloc (.cells #[.slice none 0 0, .slice none 0 0] 34)) := (Below.refl _ _).alloc (Nat.le_refl _) _
          obtain ⟨gc, hgc⟩ : ∃ g, wT.heap.size = g := ⟨_, rfl⟩
          have KC_ : BlkH b9 (wT.alloc (.cells #[.slice none 0 0, .slice none 0 0] 34)) gc 34 #[.slice none 0 0, .slice none 0 0] := ⟨by rw [← hgc]; exact Blk.new _ _ _, by rw [← hgc]; exact BS⟩
          have NV := fun g (hg : _ = some g) => (show g ≠ gc by have h := (World.ownsRow.lt OV g hg).2; omega)
          obtain ⟨wT, hwc⟩ : ∃ z, wT.alloc (.cells #[.slice none 0 0, .slice none 0 0] 34) = z := ⟨_, rfl⟩
          rw [hwc] at hb3 KC_
          rw [hwc, hgc]
          clear hwc hgc
          replace KA := KA.below_ hb3
          replace KB := KB.below_ hb3
          replace K5 := K5.below_ hb3
          (try replace KC := KC.below_ hb3)
          (try replace HN := HN.below hb3 HN.lt)
          replace OA1 := OwnR.below OA1 hb3
          replace OA2 := OwnR.below OA2 hb3
          replace OB1 := OwnR.below OB1 hb3
          replace OB2 := OwnR.below OB2 hb3
          replace OV := OwnR.below OV hb3
          replace BS := Nat.le_trans BS hb3.size
          replace HB0 := hop HB0 (Nat.le_refl _) hb3
          have KC := KC_
          clear hb3 KC_
          clear hS
          have hS := SP.out wT KA.blk K5.blk
          refine hK.out _ _ hS (fun _ => ?_)
          clear hK K
          try simp only [Act.put, pz1, pz2, pz3]
        rotate_left 1
        refine rdC (fun K hK => ?_) AllReadyH.nil
        focus
          go_simp
          have hb3 : Below wT.heap.size wT (wT.alloc (.cells #[.slice none 0 0, .slice none 0 0] 34)) := (Below.refl _ _).alloc (Nat.le_refl _) _
          obtain ⟨gc, hgc⟩ : ∃ g, wT.heap.size = g := ⟨_, rfl⟩
          have KC_ : BlkH b9 (wT.alloc (.cells #[.slice none 0 0, .slice none 0 0] 34)) gc 34 #[.slice none 0 0, .slice none 0 0] := ⟨by rw [← hgc]; exact Blk.new _ _ _, by rw [← hgc]; exact BS⟩
          have NV := fun g (hg : _ = some g) => (show g ≠ gc by have h := (World.ownsRow.lt OV g hg).2; omega)
          obtain ⟨wT, hwc⟩ : ∃ z, wT.alloc (.cells #[.slice none 0 0, .slice none 0 0] 34) = z := ⟨_, rfl⟩
          rw [hwc] at hb3 KC_
          rw [hwc, hgc]
          clear hwc hgc
          replace KA := KA.below_ hb3
          replace KB := KB.below_ hb3
          replace K5 := K5.below_ hb3
          (try replace KC := KC.below_ hb3)
          (try replace HN := HN.below hb3 HN.lt)
          replace OA1 := OwnR.below OA1 hb3
          replace OA2 := OwnR.below OA2 hb3
          replace OB1 := OwnR.below OB1 hb3
          replace OB2 := OwnR.below OB2 hb3
          replace OV := OwnR.below OV hb3
          replace BS := Nat.le_trans BS hb3.size
          replace HB0 := hop HB0 (Nat.le_refl _) hb3
          have KC := KC_
          clear hb3 KC_
          clear hS
          have hS := SP.out wT KA.blk K5.blk
          refine hK.out _ _ hS (fun _ => ?_)
          clear hK K
          try simp only [Act.put, pz1, pz2, pz3]
          refine rdy [8] ?_
          refine rdC (fun K hK => ?_) AllReadyH.nil
          have HOl : wT.ownsRow b9 27 6 v4 n2 (rowV stgV S1) := by
            have h := OV
            unfold OwnR at h
            rwa [hS1l] at h
          refine step_append_lies _ (by rfl) (.tmp 32) (.tmp 35) 32 (by rfl) b9 27 i1 (.agg #[.int .i64 0, .string ⟨#[]⟩, .string ⟨#[]⟩, .string ⟨#[]⟩, .int .i64 0, .int .i64 0]) 6 72 Tryz.underlying32 hi1_ hz10 hz11 hz12 rfl (by decide) _ _ _ (by rfl) HOl ⟨_, 0, none⟩ 1 1 (stgV ⟨y0, y1, y2, y3, y4, y5⟩) (by rfl) rfl (World.news_of_block HN) (stgK_one ⟨y0, y1, y2, y3, y4, y5⟩) (by decide) (by unfold maxLen; omega) (by omega) BS _ rfl ?_
          intro g2 cap2 wT hown' hgrow hg' hlt2
          have hol := fun b hb => (World.ownsRow.lt HOl b hb).1
          (try have kl_ := KC.lt)
          (try replace KC : BlkH b9 wT gc 34 #[.slice none 0 0, .slice none 0 0] := ⟨(hgrow.block _ KC.lt (fun e => NV _ e.symm rfl)).trans KC.blk, KC.le⟩)
          (try (have NV_ : (∀ g, (Value.slice (some ⟨g2, 0, none⟩) (n2 + 1) cap2).ownBlock = some g → g ≠ gc) := (fun g hg => by
                  have h1 : g2 = g := Option.some.inj hg
                  subst h1
                  rcases hg' with h | h
                  · exact NV _ h
                  · have h2 := kl_
                    omega); clear NV; have NV := NV_))
          replace KA : BlkH 0 wT ga 34 #[.slice p1 n1 c1, .slice p2 n2 c2] := ⟨(hgrow.block _ KA.lt (fun e => by have := hol _ e.symm; omega)).trans KA.blk, KA.le⟩
          replace KB : BlkH 0 wT gb 34 #[.slice q1 m1 d1, .slice q2 m2 d2] := ⟨(hgrow.block _ KB.lt (fun e => by have := hol _ e.symm; omega)).trans KB.blk, KB.le⟩
          replace K5 : BlkH 0 wT (W.heap.size + 1 + 1) 29 #[.int .i64 kd, .string nm, .string op, .string vl, .int .i64 nu, .int .i64 un, .bool true, .int .u8 (k : Int), .int .i64 nn] := ⟨(hgrow.block _ K5.lt (fun e => by have := hol _ e.symm; omega)).trans K5.blk, K5.le⟩
          replace OA1 := own_heapK (w' := wT) OA1 (fun g hg => hgrow.block _ (World.ownsRow.lt OA1 g hg).2 (fun e => by have h1 := hol _ e.symm; have h2 := L9OA1.out g hg; omega))
          replace OA2 := own_heapK (w' := wT) OA2 (fun g hg => hgrow.block _ (World.ownsRow.lt OA2 g hg).2 (fun e => by have h1 := hol _ e.symm; have h2 := L9OA2.out g hg; omega))
          replace OB1 := own_heapK (w' := wT) OB1 (fun g hg => hgrow.block _ (World.ownsRow.lt OB1 g hg).2 (fun e => by have h1 := hol _ e.symm; have h2 := L9OB1.out g hg; omega))
          replace OB2 := own_heapK (w' := wT) OB2 (fun g hg => hgrow.block _ (World.ownsRow.lt OB2 g hg).2 (fun e => by have h1 := hol _ e.symm; have h2 := L9OB2.out g hg; omega))
          have HBn := HB0.grown hgrow HB0.size (fun b hb => by have := hol b hb; have := HW9; omega)
          replace BS := Nat.le_trans BS hgrow.size
          clear OV HB0
          have HB0 := HBn
          have OV : OwnR stgV 6 wT b9 27 (.slice (some ⟨g2, 0, none⟩) (n2 + 1) cap2) (S1 ++ [⟨y0, y1, y2, y3, y4, y5⟩]) := by
            refine OwnR.snoc ?_
            rw [hS1l]
            exact hown'
          clear hown' hgrow hg' hlt2 HOl hol HBn HN
          clear hS
          have hS := SP.out wT KA.blk K5.blk
          refine hK.out _ _ hS (fun _ => ?_)
          clear hK K
          try simp only [Act.put, pz1, pz2, pz3]
          refine tV 9 ?_
      rotate_left 2
      refine rdC (fun K hK => ?_) AllReadyH.nil
      focus
        go_simp
        have hb3 : Below wT.heap.size wT (wT.alloc (.cells #[.slice none 0 0, .slice none 0 0] 34)) := (Below.refl _ _).alloc (Nat.le_refl _) _
        obtain ⟨gc, hgc⟩ : ∃ g, wT.heap.size = g := ⟨_, rfl⟩
        have KC_ : BlkH b9 (wT.alloc (.cells #[.slice none 0 0, .slice none 0 0] 34)) gc 34 #[.slice none 0 0, .slice none 0 0] := ⟨by rw [← hgc]; exact Blk.new _ _ _, by rw [← hgc]; exact BS⟩
        have NV := fun g (hg : _ = some g) => (show g ≠ gc by have h := (World.ownsRow.lt OV g hg).2; omega)
        obtain ⟨wT, hwc⟩ : ∃ z, wT.alloc (.cells #[.slice none 0 0, .slice none 0 0] 34) = z := ⟨_, rfl⟩
        rw [hwc] at hb3 KC_
        rw [hwc, hgc]
        clear hwc hgc
        replace KA := KA.below_ hb3
        replace KB := KB.below_ hb3
        replace K5 := K5.below_ hb3
        (try replace KC := KC.below_ hb3)
        (try replace HN := HN.below hb3 HN.lt)
        replace OA1 := OwnR.below OA1 hb3
        replace OA2 := OwnR.below OA2 hb3
        replace OB1 := OwnR.below OB1 hb3
        replace OB2 := OwnR.below OB2 hb3
        replace OV := OwnR.below OV hb3
        replace BS := Nat.le_trans BS hb3.size
        replace HB0 := hop HB0 (Nat.le_refl _) hb3
        have KC := KC_
        clear hb3 KC_
        clear hS
        have hS := SP.out wT KA.blk K5.blk
        refine hK.out _ _ hS (fun _ => ?_)
        clear hK K
        try simp only [Act.put, pz1, pz2, pz3]
        refine rdy [7] ?_
        refine rdC (fun K hK => ?_) AllReadyH.nil
        go_simp
        have hb3 : Below wT.heap.size wT (wT.alloc (.cells #[.int .i64 y0, .string y1, .string y2, .string y3, .int .i64 y4, .int .i64 y5] 27)) := (Below.refl _ _).alloc (Nat.le_refl _) _
        obtain ⟨g6, hg6⟩ : ∃ g, wT.heap.size = g := ⟨_, rfl⟩
        have HN_ : Blk (wT.alloc (.cells #[.int .i64 y0, .string y1, .string y2, .string y3, .int .i64 y4, .int .i64 y5] 27)) g6 27 #[.int .i64 y0, .string y1, .string y2, .string y3, .int .i64 y4, .int .i64 y5] := by rw [← hg6]; exact Blk.new _ _ _
        obtain ⟨wT, hwc⟩ : ∃ z, wT.alloc (.cells #[.int .i64 y0, .string y1, .string y2, .string y3, .int .i64 y4, .int .i64 y5] 27) = z := ⟨_, rfl⟩
        rw [hwc] at hb3 HN_
        rw [hwc, hg6]
        clear hwc hg6
        replace KA := KA.below_ hb3
        replace KB := KB.below_ hb3
        replace K5 := K5.below_ hb3
        (try replace KC := KC.below_ hb3)
        (try replace HN := HN.below hb3 HN.lt)
        replace OA1 := OwnR.below OA1 hb3
        replace OA2 := OwnR.below OA2 hb3
        replace OB1 := OwnR.below OB1 hb3
        replace OB2 := OwnR.below OB2 hb3
        replace OV := OwnR.below OV hb3
        replace BS := Nat.le_trans BS hb3.size
        replace HB0 := hop HB0 (Nat.le_refl _) hb3
        have HN := HN_
        clear hb3 HN_
        clear hS
        have hS := SP.out wT KA.blk K5.blk
        refine hK.out _ _ hS (fun _ => ?_)
        clear hK K
        try simp only [Act.put, pz1, pz2, pz3]
        refine rdy [8] ?_
        refine rdC (fun K hK => ?_) AllReadyH.nil
        have HOl : wT.ownsRow b9 27 6 v4 n2 (rowV stgV S1) := by
          have h := OV
          unfold OwnR at h
          rwa [hS1l] at h
        refine step_append_lies _ (by rfl) (.tmp 32) (.tmp 35) 32 (by rfl) b9 27 i1 (.agg #[.int .i64 0, .string ⟨#[]⟩, .string ⟨#[]⟩, .string ⟨#[]⟩, .int .i64 0, .int .i64 0]) 6 72 Tryz.underlying32 hi1_ hz10 hz11 hz12 rfl (by decide) _ _ _ (by rfl) HOl ⟨_, 0, none⟩ 1 1 (stgV ⟨y0, y1, y2, y3, y4, y5⟩) (by rfl) rfl (World.news_of_block HN) (stgK_one ⟨y0, y1, y2, y3, y4, y5⟩) (by decide) (by unfold maxLen; omega) (by omega) BS _ rfl ?_
        intro g2 cap2 wT hown' hgrow hg' hlt2
        have hol := fun b hb => (World.ownsRow.lt HOl b hb).1
        (try have kl_ := KC.lt)
        (try replace KC : BlkH b9 wT gc 34 #[.slice none 0 0, .slice none 0 0] := ⟨(hgrow.block _ KC.lt (fun e => NV _ e.symm rfl)).trans KC.blk, KC.le⟩)
        (try (have NV_ : (∀ g, (Value.slice (some ⟨g2, 0, none⟩) (n2 + 1) cap2).ownBlock = some g → g ≠ gc) := (fun g hg => by
                have h1 : g2 = g := Option.some.inj hg
                subst h1
                rcases hg' with h | h
                · exact NV _ h
                · have h2 := kl_
                  omega); clear NV; have NV := NV_))
        replace KA : BlkH 0 wT ga 34 #[.slice p1 n1 c1, .slice p2 n2 c2] := ⟨(hgrow.block _ KA.lt (fun e => by have := hol _ e.symm; omega)).trans KA.blk, KA.le⟩
        replace KB : BlkH 0 wT gb 34 #[.slice q1 m1 d1, .slice q2 m2 d2] := ⟨(hgrow.block _ KB.lt (fun e => by have := hol _ e.symm; omega)).trans KB.blk, KB.le⟩
        replace K5 : BlkH 0 wT (W.heap.size + 1 + 1) 29 #[.int .i64 kd, .string nm, .string op, .string vl, .int .i64 nu, .int .i64 un, .bool true, .int .u8 (k : Int), .int .i64 nn] := ⟨(hgrow.block _ K5.lt (fun e => by have := hol _ e.symm; omega)).trans K5.blk, K5.le⟩
        replace OA1 := own_heapK (w' := wT) OA1 (fun g hg => hgrow.block _ (World.ownsRow.lt OA1 g hg).2 (fun e => by have h1 := hol _ e.symm; have h2 := L9OA1.out g hg; omega))
        replace OA2 := own_heapK (w' := wT) OA2 (fun g hg => hgrow.block _ (World.ownsRow.lt OA2 g hg).2 (fun e => by have h1 := hol _ e.symm; have h2 := L9OA2.out g hg; omega))
        replace OB1 := own_heapK (w' := wT) OB1 (fun g hg => hgrow.block _ (World.ownsRow.lt OB1 g hg).2 (fun e => by have h1 := hol _ e.symm; have h2 := L9OB1.out g hg; omega))
        replace OB2 := own_heapK (w' := wT) OB2 (fun g hg => hgrow.block _ (World.ownsRow.lt OB2 g hg).2 (fun e => by have h1 := hol _ e.symm; have h2 := L9OB2.out g hg; omega))
        have HBn := HB0.grown hgrow HB0.size (fun b hb => by have := hol b hb; have := HW9; omega)
        replace BS := Nat.le_trans BS hgrow.size
        clear OV HB0
        have HB0 := HBn
        have OV : OwnR stgV 6 wT b9 27 (.slice (some ⟨g2, 0, none⟩) (n2 + 1) cap2) (S1 ++ [⟨y0, y1, y2, y3, y4, y5⟩]) := by
          refine OwnR.snoc ?_
          rw [hS1l]
          exact hown'
        clear hown' hgrow hg' hlt2 HOl hol HBn HN
        clear hS
        have hS := SP.out wT KA.blk K5.blk
        refine hK.out _ _ hS (fun _ => ?_)
        clear hK K
        try simp only [Act.put, pz1, pz2, pz3]
        refine tV 9 ?_
    rotate_left 3
    refine rdC (fun K hK => ?_) AllReadyH.nil
    focus
      go_simp
      have hb3 : Below wT.heap.size wT (wT.alloc (.cells #[.slice none 0 0, .slice none 0 0] 34)) := (Below.refl _ _).alloc (Nat.le_refl _) _
      obtain ⟨gc, hgc⟩ : ∃ g, wT.heap.size = g := ⟨_, rfl⟩
      have KC_ : BlkH b9 (wT.alloc (.cells #[.slice none 0 0, .slice none 0 0] 34)) gc 34 #[.slice none 0 0, .slice none 0 0] := ⟨by rw [← hgc]; exact Blk.new _ _ _, by rw [← hgc]; exact BS⟩
      have NV := fun g (hg : _ = some g) => (show g ≠ gc by have h := (World.ownsRow.lt OV g hg).2; omega)
      obtain ⟨wT, hwc⟩ : ∃ z, wT.alloc (.cells #[.slice none 0 0, .slice none 0 0] 34) = z := ⟨_, rfl⟩
      rw [hwc] at hb3 KC_
      rw [hwc, hgc]
      clear hwc hgc
      replace KA := KA.below_ hb3
      replace KB := KB.below_ hb3
      replace K5 := K5.below_ hb3
      (try replace KC := KC.below_ hb3)
      (try replace HN := HN.below hb3 HN.lt)
      replace OA1 := OwnR.below OA1 hb3
      replace OA2 := OwnR.below OA2 hb3
      replace OB1 := OwnR.below OB1 hb3
      replace OB2 := OwnR.below OB2 hb3
      replace OV := OwnR.below OV hb3
      replace BS := Nat.le_trans BS hb3.size
      replace HB0 := hop HB0 (Nat.le_refl _) hb3
      have KC := KC_
      clear hb3 KC_
      clear hS
      have hS := SP.out wT KA.blk K5.blk
      refine hK.out _ _ hS (fun _ => ?_)
      clear hK K
      try simp only [Act.put, pz1, pz2, pz3]
      refine rdy [6] ?_
      refine rdC (fun K hK => ?_) AllReadyH.nil
      go_simp
      go_at_call 9
      refine (PA.out wT).mono ?_
      rintro _ wT ⟨rfl, hb3⟩
      replace KA := KA.below_ hb3
      replace KB := KB.below_ hb3
      replace K5 := K5.below_ hb3
      (try replace KC := KC.below_ hb3)
      (try replace HN := HN.below hb3 HN.lt)
      replace OA1 := OwnR.below OA1 hb3
      replace OA2 := OwnR.below OA2 hb3
      replace OB1 := OwnR.below OB1 hb3
      replace OB2 := OwnR.below OB2 hb3
      replace OV := OwnR.below OV hb3
      replace BS := Nat.le_trans BS hb3.size
      replace HB0 := hop HB0 (Nat.le_refl _) hb3
      clear hb3
      clear hS
      have hS := SP.out wT KA.blk K5.blk
      refine hK.out _ _ hS (fun _ => ?_)
      clear hK K
      try simp only [Act.put, pz1, pz2, pz3]
      refine rdy [7] ?_
      refine rdC (fun K hK => ?_) AllReadyH.nil
      go_simp
      have hb3 : Below wT.heap.size wT (wT.alloc (.cells #[.int .i64 y0, .string y1, .string y2, .string y3, .int .i64 y4, .int .i64 y5] 27)) := (Below.refl _ _).alloc (Nat.le_refl _) _
      obtain ⟨g6, hg6⟩ : ∃ g, wT.heap.size = g := ⟨_, rfl⟩
      have HN_ : Blk (wT.alloc (.cells #[.int .i64 y0, .string y1, .string y2, .string y3, .int .i64 y4, .int .i64 y5] 27)) g6 27 #[.int .i64 y0, .string y1, .string y2, .string y3, .int .i64 y4, .int .i64 y5] := by rw [← hg6]; exact Blk.new _ _ _
      obtain ⟨wT, hwc⟩ : ∃ z, wT.alloc (.cells #[.int .i64 y0, .string y1, .string y2, .string y3, .int .i64 y4, .int .i64 y5] 27) = z := ⟨_, rfl⟩
      rw [hwc] at hb3 HN_
      rw [hwc, hg6]
      clear hwc hg6
      replace KA := KA.below_ hb3
      replace KB := KB.below_ hb3
      replace K5 := K5.below_ hb3
      (try replace KC := KC.below_ hb3)
      (try replace HN := HN.below hb3 HN.lt)
      replace OA1 := OwnR.below OA1 hb3
      replace OA2 := OwnR.below OA2 hb3
      replace OB1 := OwnR.below OB1 hb3
      replace OB2 := OwnR.below OB2 hb3
      replace OV := OwnR.below OV hb3
      replace BS := Nat.le_trans BS hb3.size
      replace HB0 := hop HB0 (Nat.le_refl _) hb3
      have HN := HN_
      clear hb3 HN_
      clear hS
      have hS := SP.out wT KA.blk K5.blk
      refine hK.out _ _ hS (fun _ => ?_)
      clear hK K
      try simp only [Act.put, pz1, pz2, pz3]
      refine rdy [8] ?_
      refine rdC (fun K hK => ?_) AllReadyH.nil
      have HOl : wT.ownsRow b9 27 6 v4 n2 (rowV stgV S1) := by
        have h := OV
        unfold OwnR at h
        rwa [hS1l] at h
      refine step_append_lies _ (by rfl) (.tmp 32) (.tmp 35) 32 (by rfl) b9 27 i1 (.agg #[.int .i64 0, .string ⟨#[]⟩, .string ⟨#[]⟩, .string ⟨#[]⟩, .int .i64 0, .int .i64 0]) 6 72 Tryz.underlying32 hi1_ hz10 hz11 hz12 rfl (by decide) _ _ _ (by rfl) HOl ⟨_, 0, none⟩ 1 1 (stgV ⟨y0, y1, y2, y3, y4, y5⟩) (by rfl) rfl (World.news_of_block HN) (stgK_one ⟨y0, y1, y2, y3, y4, y5⟩) (by decide) (by unfold maxLen; omega) (by omega) BS _ rfl ?_
      intro g2 cap2 wT hown' hgrow hg' hlt2
      have hol := fun b hb => (World.ownsRow.lt HOl b hb).1
      (try have kl_ := KC.lt)
      (try replace KC : BlkH b9 wT gc 34 #[.slice none 0 0, .slice none 0 0] := ⟨(hgrow.block _ KC.lt (fun e => NV _ e.symm rfl)).trans KC.blk, KC.le⟩)
      (try (have NV_ : (∀ g, (Value.slice (some ⟨g2, 0, none⟩) (n2 + 1) cap2).ownBlock = some g → g ≠ gc) := (fun g hg => by
              have h1 : g2 = g := Option.some.inj hg
              subst h1
              rcases hg' with h | h
              · exact NV _ h
              · have h2 := kl_
                omega); clear NV; have NV := NV_))
      replace KA : BlkH 0 wT ga 34 #[.slice p1 n1 c1, .slice p2 n2 c2] := ⟨(hgrow.block _ KA.lt (fun e => by have := hol _ e.symm; omega)).trans KA.blk, KA.le⟩
      replace KB : BlkH 0 wT gb 34 #[.slice q1 m1 d1, .slice q2 m2 d2] := ⟨(hgrow.block _ KB.lt (fun e => by have := hol _ e.symm; omega)).trans KB.blk, KB.le⟩
      replace K5 : BlkH 0 wT (W.heap.size + 1 + 1) 29 #[.int .i64 kd, .string nm, .string op, .string vl, .int .i64 nu, .int .i64 un, .bool true, .int .u8 (k : Int), .int .i64 nn] := ⟨(hgrow.block _ K5.lt (fun e => by have := hol _ e.symm; omega)).trans K5.blk, K5.le⟩
      replace OA1 := own_heapK (w' := wT) OA1 (fun g hg => hgrow.block _ (World.ownsRow.lt OA1 g hg).2 (fun e => by have h1 := hol _ e.symm; have h2 := L9OA1.out g hg; omega))
      replace OA2 := own_heapK (w' := wT) OA2 (fun g hg => hgrow.block _ (World.ownsRow.lt OA2 g hg).2 (fun e => by have h1 := hol _ e.symm; have h2 := L9OA2.out g hg; omega))
      replace OB1 := own_heapK (w' := wT) OB1 (fun g hg => hgrow.block _ (World.ownsRow.lt OB1 g hg).2 (fun e => by have h1 := hol _ e.symm; have h2 := L9OB1.out g hg; omega))
      replace OB2 := own_heapK (w' := wT) OB2 (fun g hg => hgrow.block _ (World.ownsRow.lt OB2 g hg).2 (fun e => by have h1 := hol _ e.symm; have h2 := L9OB2.out g hg; omega))
      have HBn := HB0.grown hgrow HB0.size (fun b hb => by have := hol b hb; have := HW9; omega)
      replace BS := Nat.le_trans BS hgrow.size
      clear OV HB0
      have HB0 := HBn
      have OV : OwnR stgV 6 wT b9 27 (.slice (some ⟨g2, 0, none⟩) (n2 + 1) cap2) (S1 ++ [⟨y0, y1, y2, y3, y4, y5⟩]) := by
        refine OwnR.snoc ?_
        rw [hS1l]
        exact hown'
      clear hown' hgrow hg' hlt2 HOl hol HBn HN
      clear hS
      have hS := SP.out wT KA.blk K5.blk
      refine hK.out _ _ hS (fun _ => ?_)
      clear hK K
      try simp only [Act.put, pz1, pz2, pz3]
      refine tV 9 ?_
  rotate_left 4
  refine rdC (fun K hK => ?_) AllReadyH.nil
  focus
    go_simp
    have hb3 : Below w0.heap.size w0 (w0.alloc (.cells #[.slice none 0 0, .slice none 0 0] 34)) := (Below.refl _ _).alloc (Nat.le_refl _) _
    obtain ⟨gc, hgc⟩ : ∃ g, w0.heap.size = g := ⟨_, rfl⟩
    have KC_ : BlkH b9 (w0.alloc (.cells #[.slice none 0 0, .slice none 0 0] 34)) gc 34 #[.slice none 0 0, .slice none 0 0] := ⟨by rw [← hgc]; exact Blk.new _ _ _, by rw [← hgc]; exact BS⟩
    have NV := fun g (hg : _ = some g) => (show g ≠ gc by have h := (World.ownsRow.lt OV g hg).2; omega)
    obtain ⟨wT, hwc⟩ : ∃ z, w0.alloc (.cells #[.slice none 0 0, .slice none 0 0] 34) = z := ⟨_, rfl⟩
    rw [hwc] at hb3 KC_
    rw [hwc, hgc]
    clear hwc hgc
    replace KA := KA.below_ hb3
    replace KB := KB.below_ hb3
    replace K5 := K5.below_ hb3
    (try replace KC := KC.below_ hb3)
    (try replace HN := HN.below hb3 HN.lt)
    replace OA1 := OwnR.below OA1 hb3
    replace OA2 := OwnR.below OA2 hb3
    replace OB1 := OwnR.below OB1 hb3
    replace OB2 := OwnR.below OB2 hb3
    replace OV := OwnR.below OV hb3
    replace BS := Nat.le_trans BS hb3.size
    replace HB0 := hop HB0 (Nat.le_refl _) hb3
    have KC := KC_
    clear hb3 KC_
    clear hS
    have hS := SP.out wT KA.blk K5.blk
    refine hK.out _ _ hS (fun _ => ?_)
    clear hK K
    try simp only [Act.put, pz1, pz2, pz3]
    refine rdy [4] ?_
    refine rdC (fun K hK => ?_) AllReadyH.nil
    refine step_append_none (by rfl) (.const (.slice none 0 0)) (.tmp 31) 32 (by rfl) 27 i1 (.agg #[.int .i64 0, .string ⟨#[]⟩, .string ⟨#[]⟩, .string ⟨#[]⟩, .int .i64 0, .int .i64 0]) 6 72 Tryz.underlying32 hi1_ hz10 hz11 hz12 rfl (by decide) (by rfl) b1 _ n2 _ (rowV stgV S1) (by rfl) (by have h := OA2; unfold OwnR at h; rwa [hS1l] at h) (rowV_one stgK_one S1) (by unfold maxLen; omega) (by omega) b9 BS ?_
    intro v4 wT hown' hgrow hg'
    have hb3 := (Below.refl _ _).grown hgrow (Nat.le_refl _) (fun b hb => by cases hb)
    (try (have NV_ : (∀ g, v4.ownBlock = some g → g ≠ gc) := (fun g hg => by have h1 := hg' g hg; have h2 := KC.lt; omega); clear NV; have NV := NV_))
    clear OV
    have OV : OwnR stgV 6 wT b9 27 v4 S1 := by unfold OwnR; rw [hS1l]; exact hown'
    replace KA := KA.below_ hb3
    replace KB := KB.below_ hb3
    replace K5 := K5.below_ hb3
    (try replace KC := KC.below_ hb3)
    (try replace HN := HN.below hb3 HN.lt)
    replace OA1 := OwnR.below OA1 hb3
    replace OA2 := OwnR.below OA2 hb3
    replace OB1 := OwnR.below OB1 hb3
    replace OB2 := OwnR.below OB2 hb3
    replace BS := Nat.le_trans BS hb3.size
    replace HB0 := hop HB0 (Nat.le_refl _) hb3
    clear hb3 hown' hgrow hg'
    clear hS
    have hS := SP.out wT KA.blk K5.blk
    refine hK.out _ _ hS (fun _ => ?_)
    clear hK K
    try simp only [Act.put, pz1, pz2, pz3]
    refine rdy [6] ?_
    refine rdC (fun K hK => ?_) AllReadyH.nil
    go_simp
    go_at_call 9
    refine (PA.out wT).mono ?_
    rintro _ wT ⟨rfl, hb3⟩
    replace KA := KA.below_ hb3
    replace KB := KB.below_ hb3
    replace K5 := K5.below_ hb3
    (try replace KC := KC.below_ hb3)
    (try replace HN := HN.below hb3 HN.lt)
    replace OA1 := OwnR.below OA1 hb3
    replace OA2 := OwnR.below OA2 hb3
    replace OB1 := OwnR.below OB1 hb3
    replace OB2 := OwnR.below OB2 hb3
    replace OV := OwnR.below OV hb3
    replace BS := Nat.le_trans BS hb3.size
    replace HB0 := hop HB0 (Nat.le_refl _) hb3
    clear hb3
    clear hS
    have hS := SP.out wT KA.blk K5.blk
    refine hK.out _ _ hS (fun _ => ?_)
    clear hK K
    try simp only [Act.put, pz1, pz2, pz3]
    refine rdy [7] ?_
    refine rdC (fun K hK => ?_) AllReadyH.nil
    go_simp
    have hb3 : Below wT.heap.size wT (wT.alloc (.cells #[.int .i64 y0, .string y1, .string y2, .string y3, .int .i64 y4, .int .i64 y5] 27)) := (Below.refl _ _).alloc (Nat.le_refl _) _
    obtain ⟨g6, hg6⟩ : ∃ g, wT.heap.size = g := ⟨_, rfl⟩
    have HN_ : Blk (wT.alloc (.cells #[.int .i64 y0, .string y1, .string y2, .string y3, .int .i64 y4, .int .i64 y5] 27)) g6 27 #[.int .i64 y0, .string y1, .string y2, .string y3, .int .i64 y4, .int .i64 y5] := by rw [← hg6]; exact Blk.new _ _ _
    obtain ⟨wT, hwc⟩ : ∃ z, wT.alloc (.cells #[.int .i64 y0, .string y1, .string y2, .string y3, .int .i64 y4, .int .i64 y5] 27) = z := ⟨_, rfl⟩
    rw [hwc] at hb3 HN_
    rw [hwc, hg6]
    clear hwc hg6
    replace KA := KA.below_ hb3
    replace KB := KB.below_ hb3
    replace K5 := K5.below_ hb3
    (try replace KC := KC.below_ hb3)
    (try replace HN := HN.below hb3 HN.lt)
    replace OA1 := OwnR.below OA1 hb3
    replace OA2 := OwnR.below OA2 hb3
    replace OB1 := OwnR.below OB1 hb3
    replace OB2 := OwnR.below OB2 hb3
    replace OV := OwnR.below OV hb3
    replace BS := Nat.le_trans BS hb3.size
    replace HB0 := hop HB0 (Nat.le_refl _) hb3
    have HN := HN_
    clear hb3 HN_
    clear hS
    have hS := SP.out wT KA.blk K5.blk
    refine hK.out _ _ hS (fun _ => ?_)
    clear hK K
    try simp only [Act.put, pz1, pz2, pz3]
    refine rdy [8] ?_
    refine rdC (fun K hK => ?_) AllReadyH.nil
    have HOl : wT.ownsRow b9 27 6 v4 n2 (rowV stgV S1) := by
      have h := OV
      unfold OwnR at h
      rwa [hS1l] at h
    refine step_append_lies _ (by rfl) (.tmp 32) (.tmp 35) 32 (by rfl) b9 27 i1 (.agg #[.int .i64 0, .string ⟨#[]⟩, .string ⟨#[]⟩, .string ⟨#[]⟩, .int .i64 0, .int .i64 0]) 6 72 Tryz.underlying32 hi1_ hz10 hz11 hz12 rfl (by decide) _ _ _ (by rfl) HOl ⟨_, 0, none⟩ 1 1 (stgV ⟨y0, y1, y2, y3, y4, y5⟩) (by rfl) rfl (World.news_of_block HN) (stgK_one ⟨y0, y1, y2, y3, y4, y5⟩) (by decide) (by unfold maxLen; omega) (by omega) BS _ rfl ?_
    intro g2 cap2 wT hown' hgrow hg' hlt2
    have hol := fun b hb => (World.ownsRow.lt HOl b hb).1
    (try have kl_ := KC.lt)
    (try replace KC : BlkH b9 wT gc 34 #[.slice none 0 0, .slice none 0 0] := ⟨(hgrow.block _ KC.lt (fun e => NV _ e.symm rfl)).trans KC.blk, KC.le⟩)
    (try (have NV_ : (∀ g, (Value.slice (some ⟨g2, 0, none⟩) (n2 + 1) cap2).ownBlock = some g → g ≠ gc) := (fun g hg => by
            have h1 : g2 = g := Option.some.inj hg
            subst h1
            rcases hg' with h | h
            · exact NV _ h
            · have h2 := kl_
              omega); clear NV; have NV := NV_))
    replace KA : BlkH 0 wT ga 34 #[.slice p1 n1 c1, .slice p2 n2 c2] := ⟨(hgrow.block _ KA.lt (fun e => by have := hol _ e.symm; omega)).trans KA.blk, KA.le⟩
    replace KB : BlkH 0 wT gb 34 #[.slice q1 m1 d1, .slice q2 m2 d2] := ⟨(hgrow.block _ KB.lt (fun e => by have := hol _ e.symm; omega)).trans KB.blk, KB.le⟩
    replace K5 : BlkH 0 wT (W.heap.size + 1 + 1) 29 #[.int .i64 kd, .string nm, .string op, .string vl, .int .i64 nu, .int .i64 un, .bool true, .int .u8 (k : Int), .int .i64 nn] := ⟨(hgrow.block _ K5.lt (fun e => by have := hol _ e.symm; omega)).trans K5.blk, K5.le⟩
    replace OA1 := own_heapK (w' := wT) OA1 (fun g hg => hgrow.block _ (World.ownsRow.lt OA1 g hg).2 (fun e => by have h1 := hol _ e.symm; have h2 := L9OA1.out g hg; omega))
    replace OA2 := own_heapK (w' := wT) OA2 (fun g hg => hgrow.block _ (World.ownsRow.lt OA2 g hg).2 (fun e => by have h1 := hol _ e.symm; have h2 := L9OA2.out g hg; omega))
    replace OB1 := own_heapK (w' := wT) OB1 (fun g hg => hgrow.block _ (World.ownsRow.lt OB1 g hg).2 (fun e => by have h1 := hol _ e.symm; have h2 := L9OB1.out g hg; omega))
    replace OB2 := own_heapK (w' := wT) OB2 (fun g hg => hgrow.block _ (World.ownsRow.lt OB2 g hg).2 (fun e => by have h1 := hol _ e.symm; have h2 := L9OB2.out g hg; omega))
    have HBn := HB0.grown hgrow HB0.size (fun b hb => by have := hol b hb; have := HW9; omega)
    replace BS := Nat.le_trans BS hgrow.size
    clear OV HB0
    have HB0 := HBn
    have OV : OwnR stgV 6 wT b9 27 (.slice (some ⟨g2, 0, none⟩) (n2 + 1) cap2) (S1 ++ [⟨y0, y1, y2, y3, y4, y5⟩]) := by
      refine OwnR.snoc ?_
      rw [hS1l]
      exact hown'
    clear hown' hgrow hg' hlt2 HOl hol HBn HN
    clear hS
    have hS := SP.out wT KA.blk K5.blk
    refine hK.out _ _ hS (fun _ => ?_)
    clear hK K
    try simp only [Act.put, pz1, pz2, pz3]
    refine tV 9 ?_
  all_goals
    refine rdy [11] ?_
    refine rdC (fun K hK => ?_) AllReadyH.nil
    have m0_ := KC.blk.cell 0
    have m1_ := KC.blk.cell 1
    have f0_ := KC.blk.frozen 0
    have f1_ := KC.blk.frozen 1
    go_simp
    have hgc9 := KC.le
    have JA : Blk ((wT.setCell ⟨gc, 0, none⟩ (.slice p1 n1 c1)).setCell ⟨gc, 1, none⟩ (.slice (some ⟨g2, 0, none⟩) (n2 + 1) cap2)) ga 34 #[.slice p1 n1 c1, .slice p2 n2 c2] := ((KA.blk.far (p := ⟨gc, 0, none⟩) (by show ga ≠ gc; omega) (.slice p1 n1 c1)).far (p := ⟨gc, 1, none⟩) (by show ga ≠ gc; omega) (.slice (some ⟨g2, 0, none⟩) (n2 + 1) cap2))
    have JB : Blk ((wT.setCell ⟨gc, 0, none⟩ (.slice p1 n1 c1)).setCell ⟨gc, 1, none⟩ (.slice (some ⟨g2, 0, none⟩) (n2 + 1) cap2)) gb 34 #[.slice q1 m1 d1, .slice q2 m2 d2] := ((KB.blk.far (p := ⟨gc, 0, none⟩) (by show gb ≠ gc; omega) (.slice p1 n1 c1)).far (p := ⟨gc, 1, none⟩) (by show gb ≠ gc; omega) (.slice (some ⟨g2, 0, none⟩) (n2 + 1) cap2))
    have J5 : Blk ((wT.setCell ⟨gc, 0, none⟩ (.slice p1 n1 c1)).setCell ⟨gc, 1, none⟩ (.slice (some ⟨g2, 0, none⟩) (n2 + 1) cap2)) (W.heap.size + 1 + 1) 29 #[.int .i64 kd, .string nm, .string op, .string vl, .int .i64 nu, .int .i64 un, .bool true, .int .u8 (k : Int), .int .i64 nn] := ((K5.blk.far (p := ⟨gc, 0, none⟩) (by show W.heap.size + 1 + 1 ≠ gc; omega) (.slice p1 n1 c1)).far (p := ⟨gc, 1, none⟩) (by show W.heap.size + 1 + 1 ≠ gc; omega) (.slice (some ⟨g2, 0, none⟩) (n2 + 1) cap2))
    have hSn := SP.out _ JA J5
    refine hK.out _ _ hSn (fun _ => ?_)
    clear hSn hS m0_ m1_ f0_ f1_
    clear hK K
    try simp only [Act.put, pz1, pz2, pz3]
    refine wpAnyH_done (by kernel_rfl) ?_ _
    have OVs := OV
    have PV := own_storeK2 (gc := gc) OV NV (.slice p1 n1 c1) (.slice (some ⟨g2, 0, none⟩) (n2 + 1) cap2)
    have QA1 := own_storeK2 (gc := gc) OA1 (fun g hg => by have := L9OA1.out g hg; omega) (.slice p1 n1 c1) (.slice (some ⟨g2, 0, none⟩) (n2 + 1) cap2)
    have QA2 := own_storeK2 (gc := gc) OA2 (fun g hg => by have := L9OA2.out g hg; omega) (.slice p1 n1 c1) (.slice (some ⟨g2, 0, none⟩) (n2 + 1) cap2)
    have QB1 := own_storeK2 (gc := gc) OB1 (fun g hg => by have := L9OB1.out g hg; omega) (.slice p1 n1 c1) (.slice (some ⟨g2, 0, none⟩) (n2 + 1) cap2)
    have QB2 := own_storeK2 (gc := gc) OB2 (fun g hg => by have := L9OB2.out g hg; omega) (.slice p1 n1 c1) (.slice (some ⟨g2, 0, none⟩) (n2 + 1) cap2)
    have JC := (KC.blk.set_ 0 (.slice p1 n1 c1)).set_ 1 (.slice (some ⟨g2, 0, none⟩) (n2 + 1) cap2)
    have HZ := (HB0.setCell (p := ⟨gc, 0, none⟩) (by show W.heap.size ≤ gc; omega) (.slice p1 n1 c1)).setCell (p := ⟨gc, 1, none⟩) (by show W.heap.size ≤ gc; omega) (.slice (some ⟨g2, 0, none⟩) (n2 + 1) cap2)
    obtain ⟨wZ, hwZ⟩ : ∃ z, ((wT.setCell ⟨gc, 0, none⟩ (.slice p1 n1 c1)).setCell ⟨gc, 1, none⟩ (.slice (some ⟨g2, 0, none⟩) (n2 + 1) cap2)) = z := ⟨_, rfl⟩
    rw [hwZ] at JA JB J5 JC PV QA1 QA2 QB1 QB2 HZ ⊢
    clear hwZ OVs OV OA1 OA2 OB1 OB2 KA KB K5 KC HB0 BS SP SP0 BSE NV L9OA1 L9OA2 L9OB1 L9OB2
    have hx1 := few_mats HR1.out
    have hx2 := few_stgs HR1.out N1.out
    have hx3 := few_mats HR2.out
    have hx4 := few_stgs HR2.out N2.out
    have hx5 : ∀ s ∈ S1 ++ [(⟨y0, y1, y2, y3, y4, y5⟩ : StgB)], FewG s := fun s hs => by
      rcases List.mem_append.1 hs with h | h
      · exact hx2 s h
      · rw [List.mem_singleton] at h
        subst h
        exact FY.out
    obtain ⟨_, z1, z2, _, _⟩ := rightQ_ok HR1.out
    obtain ⟨_, z3, z4, _, _⟩ := rightQ_ok HR2.out
    have u1 : M1.length = n1 := (own_rowK matV_len QA1).1
    have u2 : S1.length = n2 := hS1l
    have u3 : M2.length = m1 := (own_rowK matV_len QB1).1
    have u4 : S2.length = m2 := (own_rowK stgV_len QB2).1
    have s1 := putQ_size (Nat.le_trans z1 (by decide)) (Nat.le_trans z2 (by decide)) hx1 hx2
    have s2 := putG_size ⟨y0, y1, y2, y3, y4, y5⟩ FY.out
    have inj := putQ_inj HR1.out HR2.out N1.out N2.out
    have more := putQ_more M1 S1 ⟨y0, y1, y2, y3, y4, y5⟩
    have PU1 := Lib.hid (fun w (h1 : OwnR matV 3 w b1 43 (.slice p1 n1 c1) M1) (h2 : OwnR stgV 6 w b1 27 (.slice p2 n2 c2) S1) (hl : LibIs w) => astPut_any p1 n1 c1 p2 n2 c2 M1 S1 (by omega) (by omega) w (own_rowK matV_len h1) (own_rowK stgV_len h2) hx1 hx2 hl)
    have PU2 := Lib.hid (fun w (h1 : OwnR matV 3 w b1 43 (.slice q1 m1 d1) M2) (h2 : OwnR stgV 6 w b1 27 (.slice q2 m2 d2) S2) (hl : LibIs w) => astPut_any q1 m1 d1 q2 m2 d2 M2 S2 (by omega) (by omega) w (own_rowK matV_len h1) (own_rowK stgV_len h2) hx3 hx4 hl)
    have PU3 := Lib.hid (fun w (h1 : OwnR matV 3 w b1 43 (.slice p1 n1 c1) M1) (h2 : OwnR stgV 6 w b9 27 (.slice (some ⟨g2, 0, none⟩) (n2 + 1) cap2) (S1 ++ [⟨y0, y1, y2, y3, y4, y5⟩])) (hl : LibIs w) => astPut_any p1 n1 c1 (some ⟨g2, 0, none⟩) (n2 + 1) cap2 M1 (S1 ++ [⟨y0, y1, y2, y3, y4, y5⟩]) (by omega) (by omega) w (own_rowK matV_len h1) (own_rowK stgV_len h2) hx1 hx5 hl)
    have PS := Lib.hid (fun w (hl : LibIs w) => putStage_any y0 y1 y2 y3 y4 y5 FY.out w hl)
    have SB : ∀ (P : Prop) [Decidable P] {e : Ending} {w w' : World}, SameAs P w.heap.size w e w' → e = .returned (.bool (decide P)) ∧ Below w.heap.size w w' := fun P _ e w w' h => by
      obtain ⟨b, h1, h2, h3⟩ := h
      refine ⟨?_, h3⟩
      rw [h1, show b = decide P by rw [Bool.eq_iff_iff, h2, decide_eq_true_eq]]
    classical
    obtain ⟨z, hz⟩ : ∃ z, decide (M1 = M2 ∧ S1 = S2) = z := ⟨_, rfl⟩
    have SA1 := Lib.hid (fun w (h1 : OwnR matV 3 w b1 43 (.slice p1 n1 c1) M1) (h2 : OwnR stgV 6 w b1 27 (.slice p2 n2 c2) S1) (h3 : OwnR matV 3 w b1 43 (.slice q1 m1 d1) M2) (h4 : OwnR stgV 6 w b1 27 (.slice q2 m2 d2) S2) => (astSame_any p1 n1 c1 p2 n2 c2 q1 m1 d1 q2 m2 d2 M1 M2 S1 S2 w (by omega) (by omega) (own_rowK matV_len h1) (own_rowK stgV_len h2) (own_rowK matV_len h3) (own_rowK stgV_len h4)).mono (fun e w' h => show e = .returned (.bool z) ∧ Below w.heap.size w w' by rw [← hz]; exact SB _ h))
    have SA2 := Lib.hid (fun w (h1 : OwnR matV 3 w b1 43 (.slice p1 n1 c1) M1) (h2 : OwnR stgV 6 w b1 27 (.slice p2 n2 c2) S1) => (astSame_any p1 n1 c1 p2 n2 c2 p1 n1 c1 p2 n2 c2 M1 M1 S1 S1 w (by omega) (by omega) (own_rowK matV_len h1) (own_rowK stgV_len h2) (own_rowK matV_len h1) (own_rowK stgV_len h2)).mono (fun e w' h => show e = .returned (.bool true) ∧ Below w.heap.size w w' by
      have h0 := SB _ h
      rwa [decide_eq_true (show M1 = M1 ∧ S1 = S1 from ⟨rfl, rfl⟩)] at h0))
    have SA3 := Lib.hid (fun w (h1 : OwnR matV 3 w b1 43 (.slice p1 n1 c1) M1) (h2 : OwnR stgV 6 w b1 27 (.slice p2 n2 c2) S1) (h4 : OwnR stgV 6 w b9 27 (.slice (some ⟨g2, 0, none⟩) (n2 + 1) cap2) (S1 ++ [⟨y0, y1, y2, y3, y4, y5⟩])) => (astSame_any p1 n1 c1 p2 n2 c2 p1 n1 c1 (some ⟨g2, 0, none⟩) (n2 + 1) cap2 M1 M1 S1 (S1 ++ [⟨y0, y1, y2, y3, y4, y5⟩]) w (by omega) (by omega) (own_rowK matV_len h1) (own_rowK stgV_len h2) (own_rowK matV_len h1) (own_rowK stgV_len h4)).mono (fun e w' h => show e = .returned (.bool false) ∧ Below w.heap.size w w' by
      have h0 := SB _ h
      rwa [decide_eq_false (show ¬ (M1 = M1 ∧ S1 = S1 ++ [⟨y0, y1, y2, y3, y4, y5⟩]) from fun h => by have := congrArg List.length h.2; simp at this)] at h0))
    have hpe := same_eq (putQ M1 S1) (putQ M2 S2) (M1 = M2 ∧ S1 = S2) z (by rw [← hz, decide_eq_true_eq]) inj
    obtain ⟨pa, hpa⟩ : ∃ p, putQ M1 S1 = p := ⟨_, rfl⟩
    obtain ⟨pb, hpb⟩ : ∃ p, putQ M2 S2 = p := ⟨_, rfl⟩
    obtain ⟨pd, hpd⟩ : ∃ p, putQ M1 (S1 ++ [⟨y0, y1, y2, y3, y4, y5⟩]) = p := ⟨_, rfl⟩
    obtain ⟨py, hpy⟩ : ∃ p, putG ⟨y0, y1, y2, y3, y4, y5⟩ = p := ⟨_, rfl⟩
    rw [hpa] at PU1 hpe more s1
    rw [hpb] at PU2 hpe
    rw [hpd] at PU3 more
    rw [hpy] at PS more s2
    have hpc : (pd.toList == (pa ++ ⟨#[32]⟩ ++ py).toList) = true := by rw [more]; exact beq_self_eq_true _
    have hzz : (z == z) = true := by cases z <;> rfl
    have v1 : ¬ 9223372036854775807 < pa.size + 1 := by omega
    have v2 : ¬ 9223372036854775807 < pa.size + 1 + py.size := by omega
    have v3 : (⟨#[32]⟩ : ByteArray).size = 1 := rfl
    clear hpa hpb hpd hpy hz inj more hx1 hx2 hx3 hx4 hx5 z1 z2 z3 z4 u1 u2 u3 u4 SB hS1l hlen1
    have S0 : wZ.cell? ⟨ga, 0, none⟩ = some (.slice p1 n1 c1) ∧ wZ.cell? ⟨ga, 1, none⟩ = some (.slice p2 n2 c2) ∧ wZ.cell? ⟨gb, 0, none⟩ = some (.slice q1 m1 d1) ∧ wZ.cell? ⟨gb, 1, none⟩ = some (.slice q2 m2 d2) ∧ wZ.cell? ⟨gc, 0, none⟩ = some (.slice p1 n1 c1) ∧ wZ.cell? ⟨gc, 1, none⟩ = some (.slice (some ⟨g2, 0, none⟩) (n2 + 1) cap2) ∧ wZ.cell? ⟨W.heap.size + 1 + 1, 0, none⟩ = some (.int .i64 kd) ∧ wZ.cell? ⟨W.heap.size + 1 + 1, 1, none⟩ = some (.string nm) ∧ wZ.cell? ⟨W.heap.size + 1 + 1, 2, none⟩ = some (.string op) ∧ wZ.cell? ⟨W.heap.size + 1 + 1, 3, none⟩ = some (.string vl) ∧ wZ.cell? ⟨W.heap.size + 1 + 1, 4, none⟩ = some (.int .i64 nu) ∧ wZ.cell? ⟨W.heap.size + 1 + 1, 5, none⟩ = some (.int .i64 un) ∧ wZ.cell? ⟨W.heap.size + 1 + 1, 6, none⟩ = some (.bool true) ∧ wZ.cell? ⟨W.heap.size + 1 + 1, 7, none⟩ = some (.int .u8 (k : Int)) ∧ wZ.cell? ⟨W.heap.size + 1 + 1, 8, none⟩ = some (.int .i64 nn) ∧ True := ⟨(JA.cell 0).trans rfl, (JA.cell 1).trans rfl, (JB.cell 0).trans rfl, (JB.cell 1).trans rfl, (JC.cell 0).trans rfl, (JC.cell 1).trans rfl, (J5.cell 0).trans rfl, (J5.cell 1).trans rfl, (J5.cell 2).trans rfl, (J5.cell 3).trans rfl, (J5.cell 4).trans rfl, (J5.cell 5).trans rfl, (J5.cell 6).trans rfl, (J5.cell 7).trans rfl, (J5.cell 8).trans rfl, trivial⟩
    clear JA JB JC J5
    have QA1 : OwnR matV 3 wZ.drew b1 43 (.slice p1 n1 c1) M1 := QA1
    have QA2 : OwnR stgV 6 wZ.drew b1 27 (.slice p2 n2 c2) S1 := QA2
    have QB1 : OwnR matV 3 wZ.drew b1 43 (.slice q1 m1 d1) M2 := QB1
    have QB2 : OwnR stgV 6 wZ.drew b1 27 (.slice q2 m2 d2) S2 := QB2
    have PV : OwnR stgV 6 wZ.drew b9 27 (.slice (some ⟨g2, 0, none⟩) (n2 + 1) cap2) (S1 ++ [⟨y0, y1, y2, y3, y4, y5⟩]) := PV
    have HZ : Below W.heap.size W wZ.drew := below_drewN HZ 1
    go_wp2
    refine wp_region_held_drew (S := fun w' => w'.cell? ⟨ga, 0, none⟩ = some (.slice p1 n1 c1) ∧ w'.cell? ⟨ga, 1, none⟩ = some (.slice p2 n2 c2) ∧ w'.cell? ⟨gb, 0, none⟩ = some (.slice q1 m1 d1) ∧ w'.cell? ⟨gb, 1, none⟩ = some (.slice q2 m2 d2) ∧ w'.cell? ⟨gc, 0, none⟩ = some (.slice p1 n1 c1) ∧ w'.cell? ⟨gc, 1, none⟩ = some (.slice (some ⟨g2, 0, none⟩) (n2 + 1) cap2) ∧ w'.cell? ⟨W.heap.size + 1 + 1, 0, none⟩ = some (.int .i64 kd) ∧ w'.cell? ⟨W.heap.size + 1 + 1, 1, none⟩ = some (.string nm) ∧ w'.cell? ⟨W.heap.size + 1 + 1, 2, none⟩ = some (.string op) ∧ w'.cell? ⟨W.heap.size + 1 + 1, 3, none⟩ = some (.string vl) ∧ w'.cell? ⟨W.heap.size + 1 + 1, 4, none⟩ = some (.int .i64 nu) ∧ w'.cell? ⟨W.heap.size + 1 + 1, 5, none⟩ = some (.int .i64 un) ∧ w'.cell? ⟨W.heap.size + 1 + 1, 6, none⟩ = some (.bool true) ∧ w'.cell? ⟨W.heap.size + 1 + 1, 7, none⟩ = some (.int .u8 (k : Int)) ∧ w'.cell? ⟨W.heap.size + 1 + 1, 8, none⟩ = some (.int .i64 nn) ∧ True) (by kernel_rfl) ⟨S0.1, S0.2.1, S0.2.2.1, S0.2.2.2.1, S0.2.2.2.2.1, S0.2.2.2.2.2.1, S0.2.2.2.2.2.2.1, S0.2.2.2.2.2.2.2.1, S0.2.2.2.2.2.2.2.2.1, S0.2.2.2.2.2.2.2.2.2.1, S0.2.2.2.2.2.2.2.2.2.2.1, S0.2.2.2.2.2.2.2.2.2.2.2.1, S0.2.2.2.2.2.2.2.2.2.2.2.2.1, S0.2.2.2.2.2.2.2.2.2.2.2.2.2.1, S0.2.2.2.2.2.2.2.2.2.2.2.2.2.2.1, trivial⟩ (fun hS => ?_)
    obtain ⟨w0, hw0⟩ : ∃ z, wZ.drew = z := ⟨_, rfl⟩
    rw [hw0] at hS HZ QA1 QA2 QB1 QB2 PV ⊢
    clear hw0
    refine tV 0 ?_; refine tV 1 ?_; refine tH 2 ?_; refine tH 4 ?_; refine tH 7 ?_; refine tH 8 ?_
    refine rdy [3] ?_
    refine rdC (fun K hK => ?_) AllReadyH.nil
    go_simp
    go_at_call 10
    refine ((PU1.out w0 QA1 QA2 (HL.out.below HZ))).mono ?_
    rintro _ f1 ⟨rfl, hb3⟩
    have hSn : (fun w' => w'.cell? ⟨ga, 0, none⟩ = some (.slice p1 n1 c1) ∧ w'.cell? ⟨ga, 1, none⟩ = some (.slice p2 n2 c2) ∧ w'.cell? ⟨gb, 0, none⟩ = some (.slice q1 m1 d1) ∧ w'.cell? ⟨gb, 1, none⟩ = some (.slice q2 m2 d2) ∧ w'.cell? ⟨gc, 0, none⟩ = some (.slice p1 n1 c1) ∧ w'.cell? ⟨gc, 1, none⟩ = some (.slice (some ⟨g2, 0, none⟩) (n2 + 1) cap2) ∧ w'.cell? ⟨W.heap.size + 1 + 1, 0, none⟩ = some (.int .i64 kd) ∧ w'.cell? ⟨W.heap.size + 1 + 1, 1, none⟩ = some (.string nm) ∧ w'.cell? ⟨W.heap.size + 1 + 1, 2, none⟩ = some (.string op) ∧ w'.cell? ⟨W.heap.size + 1 + 1, 3, none⟩ = some (.string vl) ∧ w'.cell? ⟨W.heap.size + 1 + 1, 4, none⟩ = some (.int .i64 nu) ∧ w'.cell? ⟨W.heap.size + 1 + 1, 5, none⟩ = some (.int .i64 un) ∧ w'.cell? ⟨W.heap.size + 1 + 1, 6, none⟩ = some (.bool true) ∧ w'.cell? ⟨W.heap.size + 1 + 1, 7, none⟩ = some (.int .u8 (k : Int)) ∧ w'.cell? ⟨W.heap.size + 1 + 1, 8, none⟩ = some (.int .i64 nn) ∧ True) f1 := ⟨cell_keep hb3 hS.1, cell_keep hb3 hS.2.1, cell_keep hb3 hS.2.2.1, cell_keep hb3 hS.2.2.2.1, cell_keep hb3 hS.2.2.2.2.1, cell_keep hb3 hS.2.2.2.2.2.1, cell_keep hb3 hS.2.2.2.2.2.2.1, cell_keep hb3 hS.2.2.2.2.2.2.2.1, cell_keep hb3 hS.2.2.2.2.2.2.2.2.1, cell_keep hb3 hS.2.2.2.2.2.2.2.2.2.1, cell_keep hb3 hS.2.2.2.2.2.2.2.2.2.2.1, cell_keep hb3 hS.2.2.2.2.2.2.2.2.2.2.2.1, cell_keep hb3 hS.2.2.2.2.2.2.2.2.2.2.2.2.1, cell_keep hb3 hS.2.2.2.2.2.2.2.2.2.2.2.2.2.1, cell_keep hb3 hS.2.2.2.2.2.2.2.2.2.2.2.2.2.2.1, trivial⟩
    refine hK.out _ _ hSn (fun _ => ?_)
    clear hK K
    try simp only [Act.put, pz1, pz2, pz3]
    have HZ_ := hop HZ (Nat.le_refl _) hb3
    clear HZ
    have HZ := HZ_
    clear HZ_
    have QA1_ := OwnR.below QA1 hb3
    clear QA1
    have QA1 := QA1_
    clear QA1_
    have QA2_ := OwnR.below QA2 hb3
    clear QA2
    have QA2 := QA2_
    clear QA2_
    have QB1_ := OwnR.below QB1 hb3
    clear QB1
    have QB1 := QB1_
    clear QB1_
    have QB2_ := OwnR.below QB2 hb3
    clear QB2
    have QB2 := QB2_
    clear QB2_
    have PV_ := OwnR.below PV hb3
    clear PV
    have PV := PV_
    clear PV_
    clear hS hb3
    have hS := hSn
    clear hSn
    refine rdy [5] ?_
    refine rdC (fun K hK => ?_) AllReadyH.nil
    go_simp
    go_at_call 10
    refine ((PU2.out f1 QB1 QB2 (HL.out.below HZ))).mono ?_
    rintro _ f2 ⟨rfl, hb3⟩
    have hSn : (fun w' => w'.cell? ⟨ga, 0, none⟩ = some (.slice p1 n1 c1) ∧ w'.cell? ⟨ga, 1, none⟩ = some (.slice p2 n2 c2) ∧ w'.cell? ⟨gb, 0, none⟩ = some (.slice q1 m1 d1) ∧ w'.cell? ⟨gb, 1, none⟩ = some (.slice q2 m2 d2) ∧ w'.cell? ⟨gc, 0, none⟩ = some (.slice p1 n1 c1) ∧ w'.cell? ⟨gc, 1, none⟩ = some (.slice (some ⟨g2, 0, none⟩) (n2 + 1) cap2) ∧ w'.cell? ⟨W.heap.size + 1 + 1, 0, none⟩ = some (.int .i64 kd) ∧ w'.cell? ⟨W.heap.size + 1 + 1, 1, none⟩ = some (.string nm) ∧ w'.cell? ⟨W.heap.size + 1 + 1, 2, none⟩ = some (.string op) ∧ w'.cell? ⟨W.heap.size + 1 + 1, 3, none⟩ = some (.string vl) ∧ w'.cell? ⟨W.heap.size + 1 + 1, 4, none⟩ = some (.int .i64 nu) ∧ w'.cell? ⟨W.heap.size + 1 + 1, 5, none⟩ = some (.int .i64 un) ∧ w'.cell? ⟨W.heap.size + 1 + 1, 6, none⟩ = some (.bool true) ∧ w'.cell? ⟨W.heap.size + 1 + 1, 7, none⟩ = some (.int .u8 (k : Int)) ∧ w'.cell? ⟨W.heap.size + 1 + 1, 8, none⟩ = some (.int .i64 nn) ∧ True) f2 := ⟨cell_keep hb3 hS.1, cell_keep hb3 hS.2.1, cell_keep hb3 hS.2.2.1, cell_keep hb3 hS.2.2.2.1, cell_keep hb3 hS.2.2.2.2.1, cell_keep hb3 hS.2.2.2.2.2.1, cell_keep hb3 hS.2.2.2.2.2.2.1, cell_keep hb3 hS.2.2.2.2.2.2.2.1, cell_keep hb3 hS.2.2.2.2.2.2.2.2.1, cell_keep hb3 hS.2.2.2.2.2.2.2.2.2.1, cell_keep hb3 hS.2.2.2.2.2.2.2.2.2.2.1, cell_keep hb3 hS.2.2.2.2.2.2.2.2.2.2.2.1, cell_keep hb3 hS.2.2.2.2.2.2.2.2.2.2.2.2.1, cell_keep hb3 hS.2.2.2.2.2.2.2.2.2.2.2.2.2.1, cell_keep hb3 hS.2.2.2.2.2.2.2.2.2.2.2.2.2.2.1, trivial⟩
    refine hK.out _ _ hSn (fun _ => ?_)
    clear hK K
    try simp only [Act.put, pz1, pz2, pz3]
    have HZ_ := hop HZ (Nat.le_refl _) hb3
    clear HZ
    have HZ := HZ_
    clear HZ_
    have QA1_ := OwnR.below QA1 hb3
    clear QA1
    have QA1 := QA1_
    clear QA1_
    have QA2_ := OwnR.below QA2 hb3
    clear QA2
    have QA2 := QA2_
    clear QA2_
    have QB1_ := OwnR.below QB1 hb3
    clear QB1
    have QB1 := QB1_
    clear QB1_
    have QB2_ := OwnR.below QB2 hb3
    clear QB2
    have QB2 := QB2_
    clear QB2_
    have PV_ := OwnR.below PV hb3
    clear PV
    have PV := PV_
    clear PV_
    clear hS hb3
    have hS := hSn
    clear hSn
    refine tV 6 ?_
    refine rdy [9] ?_
    refine rdC (fun K hK => ?_) AllReadyH.nil
    go_simp
    go_at_call 11
    refine ((SA1.out f2 QA1 QA2 QB1 QB2)).mono ?_
    rintro _ f3 ⟨rfl, hb3⟩
    have hSn : (fun w' => w'.cell? ⟨ga, 0, none⟩ = some (.slice p1 n1 c1) ∧ w'.cell? ⟨ga, 1, none⟩ = some (.slice p2 n2 c2) ∧ w'.cell? ⟨gb, 0, none⟩ = some (.slice q1 m1 d1) ∧ w'.cell? ⟨gb, 1, none⟩ = some (.slice q2 m2 d2) ∧ w'.cell? ⟨gc, 0, none⟩ = some (.slice p1 n1 c1) ∧ w'.cell? ⟨gc, 1, none⟩ = some (.slice (some ⟨g2, 0, none⟩) (n2 + 1) cap2) ∧ w'.cell? ⟨W.heap.size + 1 + 1, 0, none⟩ = some (.int .i64 kd) ∧ w'.cell? ⟨W.heap.size + 1 + 1, 1, none⟩ = some (.string nm) ∧ w'.cell? ⟨W.heap.size + 1 + 1, 2, none⟩ = some (.string op) ∧ w'.cell? ⟨W.heap.size + 1 + 1, 3, none⟩ = some (.string vl) ∧ w'.cell? ⟨W.heap.size + 1 + 1, 4, none⟩ = some (.int .i64 nu) ∧ w'.cell? ⟨W.heap.size + 1 + 1, 5, none⟩ = some (.int .i64 un) ∧ w'.cell? ⟨W.heap.size + 1 + 1, 6, none⟩ = some (.bool true) ∧ w'.cell? ⟨W.heap.size + 1 + 1, 7, none⟩ = some (.int .u8 (k : Int)) ∧ w'.cell? ⟨W.heap.size + 1 + 1, 8, none⟩ = some (.int .i64 nn) ∧ True) f3 := ⟨cell_keep hb3 hS.1, cell_keep hb3 hS.2.1, cell_keep hb3 hS.2.2.1, cell_keep hb3 hS.2.2.2.1, cell_keep hb3 hS.2.2.2.2.1, cell_keep hb3 hS.2.2.2.2.2.1, cell_keep hb3 hS.2.2.2.2.2.2.1, cell_keep hb3 hS.2.2.2.2.2.2.2.1, cell_keep hb3 hS.2.2.2.2.2.2.2.2.1, cell_keep hb3 hS.2.2.2.2.2.2.2.2.2.1, cell_keep hb3 hS.2.2.2.2.2.2.2.2.2.2.1, cell_keep hb3 hS.2.2.2.2.2.2.2.2.2.2.2.1, cell_keep hb3 hS.2.2.2.2.2.2.2.2.2.2.2.2.1, cell_keep hb3 hS.2.2.2.2.2.2.2.2.2.2.2.2.2.1, cell_keep hb3 hS.2.2.2.2.2.2.2.2.2.2.2.2.2.2.1, trivial⟩
    refine hK.out _ _ hSn (fun _ => ?_)
    clear hK K
    try simp only [Act.put, pz1, pz2, pz3]
    have HZ_ := hop HZ (Nat.le_refl _) hb3
    clear HZ
    have HZ := HZ_
    clear HZ_
    have QA1_ := OwnR.below QA1 hb3
    clear QA1
    have QA1 := QA1_
    clear QA1_
    have QA2_ := OwnR.below QA2 hb3
    clear QA2
    have QA2 := QA2_
    clear QA2_
    have QB1_ := OwnR.below QB1 hb3
    clear QB1
    have QB1 := QB1_
    clear QB1_
    have QB2_ := OwnR.below QB2 hb3
    clear QB2
    have QB2 := QB2_
    clear QB2_
    have PV_ := OwnR.below PV hb3
    clear PV
    have PV := PV_
    clear PV_
    clear hS hb3
    have hS := hSn
    clear hSn
    refine tV 10 ?_; refine tV 11 ?_; refine tV 12 ?_; refine tH 13 ?_; refine tH 14 ?_
    refine rdy [15] ?_
    refine rdC (fun K hK => ?_) AllReadyH.nil
    go_simp
    go_at_call 11
    refine ((SA2.out f3 QA1 QA2)).mono ?_
    rintro _ f4 ⟨rfl, hb3⟩
    have hSn : (fun w' => w'.cell? ⟨ga, 0, none⟩ = some (.slice p1 n1 c1) ∧ w'.cell? ⟨ga, 1, none⟩ = some (.slice p2 n2 c2) ∧ w'.cell? ⟨gb, 0, none⟩ = some (.slice q1 m1 d1) ∧ w'.cell? ⟨gb, 1, none⟩ = some (.slice q2 m2 d2) ∧ w'.cell? ⟨gc, 0, none⟩ = some (.slice p1 n1 c1) ∧ w'.cell? ⟨gc, 1, none⟩ = some (.slice (some ⟨g2, 0, none⟩) (n2 + 1) cap2) ∧ w'.cell? ⟨W.heap.size + 1 + 1, 0, none⟩ = some (.int .i64 kd) ∧ w'.cell? ⟨W.heap.size + 1 + 1, 1, none⟩ = some (.string nm) ∧ w'.cell? ⟨W.heap.size + 1 + 1, 2, none⟩ = some (.string op) ∧ w'.cell? ⟨W.heap.size + 1 + 1, 3, none⟩ = some (.string vl) ∧ w'.cell? ⟨W.heap.size + 1 + 1, 4, none⟩ = some (.int .i64 nu) ∧ w'.cell? ⟨W.heap.size + 1 + 1, 5, none⟩ = some (.int .i64 un) ∧ w'.cell? ⟨W.heap.size + 1 + 1, 6, none⟩ = some (.bool true) ∧ w'.cell? ⟨W.heap.size + 1 + 1, 7, none⟩ = some (.int .u8 (k : Int)) ∧ w'.cell? ⟨W.heap.size + 1 + 1, 8, none⟩ = some (.int .i64 nn) ∧ True) f4 := ⟨cell_keep hb3 hS.1, cell_keep hb3 hS.2.1, cell_keep hb3 hS.2.2.1, cell_keep hb3 hS.2.2.2.1, cell_keep hb3 hS.2.2.2.2.1, cell_keep hb3 hS.2.2.2.2.2.1, cell_keep hb3 hS.2.2.2.2.2.2.1, cell_keep hb3 hS.2.2.2.2.2.2.2.1, cell_keep hb3 hS.2.2.2.2.2.2.2.2.1, cell_keep hb3 hS.2.2.2.2.2.2.2.2.2.1, cell_keep hb3 hS.2.2.2.2.2.2.2.2.2.2.1, cell_keep hb3 hS.2.2.2.2.2.2.2.2.2.2.2.1, cell_keep hb3 hS.2.2.2.2.2.2.2.2.2.2.2.2.1, cell_keep hb3 hS.2.2.2.2.2.2.2.2.2.2.2.2.2.1, cell_keep hb3 hS.2.2.2.2.2.2.2.2.2.2.2.2.2.2.1, trivial⟩
    refine hK.out _ _ hSn (fun _ => ?_)
    clear hK K
    try simp only [Act.put, pz1, pz2, pz3]
    have HZ_ := hop HZ (Nat.le_refl _) hb3
    clear HZ
    have HZ := HZ_
    clear HZ_
    have QA1_ := OwnR.below QA1 hb3
    clear QA1
    have QA1 := QA1_
    clear QA1_
    have QA2_ := OwnR.below QA2 hb3
    clear QA2
    have QA2 := QA2_
    clear QA2_
    have QB1_ := OwnR.below QB1 hb3
    clear QB1
    have QB1 := QB1_
    clear QB1_
    have QB2_ := OwnR.below QB2 hb3
    clear QB2
    have QB2 := QB2_
    clear QB2_
    have PV_ := OwnR.below PV hb3
    clear PV
    have PV := PV_
    clear PV_
    clear hS hb3
    have hS := hSn
    clear hSn
    refine tV 16 ?_; refine tV 17 ?_; refine tH 18 ?_; refine tH 19 ?_
    refine rdy [20] ?_
    refine rdC (fun K hK => ?_) AllReadyH.nil
    go_simp
    go_at_call 11
    refine ((SA3.out f4 QA1 QA2 PV)).mono ?_
    rintro _ f5 ⟨rfl, hb3⟩
    have hSn : (fun w' => w'.cell? ⟨ga, 0, none⟩ = some (.slice p1 n1 c1) ∧ w'.cell? ⟨ga, 1, none⟩ = some (.slice p2 n2 c2) ∧ w'.cell? ⟨gb, 0, none⟩ = some (.slice q1 m1 d1) ∧ w'.cell? ⟨gb, 1, none⟩ = some (.slice q2 m2 d2) ∧ w'.cell? ⟨gc, 0, none⟩ = some (.slice p1 n1 c1) ∧ w'.cell? ⟨gc, 1, none⟩ = some (.slice (some ⟨g2, 0, none⟩) (n2 + 1) cap2) ∧ w'.cell? ⟨W.heap.size + 1 + 1, 0, none⟩ = some (.int .i64 kd) ∧ w'.cell? ⟨W.heap.size + 1 + 1, 1, none⟩ = some (.string nm) ∧ w'.cell? ⟨W.heap.size + 1 + 1, 2, none⟩ = some (.string op) ∧ w'.cell? ⟨W.heap.size + 1 + 1, 3, none⟩ = some (.string vl) ∧ w'.cell? ⟨W.heap.size + 1 + 1, 4, none⟩ = some (.int .i64 nu) ∧ w'.cell? ⟨W.heap.size + 1 + 1, 5, none⟩ = some (.int .i64 un) ∧ w'.cell? ⟨W.heap.size + 1 + 1, 6, none⟩ = some (.bool true) ∧ w'.cell? ⟨W.heap.size + 1 + 1, 7, none⟩ = some (.int .u8 (k : Int)) ∧ w'.cell? ⟨W.heap.size + 1 + 1, 8, none⟩ = some (.int .i64 nn) ∧ True) f5 := ⟨cell_keep hb3 hS.1, cell_keep hb3 hS.2.1, cell_keep hb3 hS.2.2.1, cell_keep hb3 hS.2.2.2.1, cell_keep hb3 hS.2.2.2.2.1, cell_keep hb3 hS.2.2.2.2.2.1, cell_keep hb3 hS.2.2.2.2.2.2.1, cell_keep hb3 hS.2.2.2.2.2.2.2.1, cell_keep hb3 hS.2.2.2.2.2.2.2.2.1, cell_keep hb3 hS.2.2.2.2.2.2.2.2.2.1, cell_keep hb3 hS.2.2.2.2.2.2.2.2.2.2.1, cell_keep hb3 hS.2.2.2.2.2.2.2.2.2.2.2.1, cell_keep hb3 hS.2.2.2.2.2.2.2.2.2.2.2.2.1, cell_keep hb3 hS.2.2.2.2.2.2.2.2.2.2.2.2.2.1, cell_keep hb3 hS.2.2.2.2.2.2.2.2.2.2.2.2.2.2.1, trivial⟩
    refine hK.out _ _ hSn (fun _ => ?_)
    clear hK K
    try simp only [Act.put, pz1, pz2, pz3]
    have HZ_ := hop HZ (Nat.le_refl _) hb3
    clear HZ
    have HZ := HZ_
    clear HZ_
    have QA1_ := OwnR.below QA1 hb3
    clear QA1
    have QA1 := QA1_
    clear QA1_
    have QA2_ := OwnR.below QA2 hb3
    clear QA2
    have QA2 := QA2_
    clear QA2_
    have QB1_ := OwnR.below QB1 hb3
    clear QB1
    have QB1 := QB1_
    clear QB1_
    have QB2_ := OwnR.below QB2 hb3
    clear QB2
    have QB2 := QB2_
    clear QB2_
    have PV_ := OwnR.below PV hb3
    clear PV
    have PV := PV_
    clear PV_
    clear hS hb3
    have hS := hSn
    clear hSn
    refine tV 21 ?_; refine tV 22 ?_; refine tV 23 ?_; refine tH 24 ?_; refine tH 26 ?_; refine tH 29 ?_
    refine rdy [25] ?_
    refine rdC (fun K hK => ?_) AllReadyH.nil
    go_simp
    go_at_call 10
    refine ((PU3.out f5 QA1 PV (HL.out.below HZ))).mono ?_
    rintro _ f6 ⟨rfl, hb3⟩
    have hSn : (fun w' => w'.cell? ⟨ga, 0, none⟩ = some (.slice p1 n1 c1) ∧ w'.cell? ⟨ga, 1, none⟩ = some (.slice p2 n2 c2) ∧ w'.cell? ⟨gb, 0, none⟩ = some (.slice q1 m1 d1) ∧ w'.cell? ⟨gb, 1, none⟩ = some (.slice q2 m2 d2) ∧ w'.cell? ⟨gc, 0, none⟩ = some (.slice p1 n1 c1) ∧ w'.cell? ⟨gc, 1, none⟩ = some (.slice (some ⟨g2, 0, none⟩) (n2 + 1) cap2) ∧ w'.cell? ⟨W.heap.size + 1 + 1, 0, none⟩ = some (.int .i64 kd) ∧ w'.cell? ⟨W.heap.size + 1 + 1, 1, none⟩ = some (.string nm) ∧ w'.cell? ⟨W.heap.size + 1 + 1, 2, none⟩ = some (.string op) ∧ w'.cell? ⟨W.heap.size + 1 + 1, 3, none⟩ = some (.string vl) ∧ w'.cell? ⟨W.heap.size + 1 + 1, 4, none⟩ = some (.int .i64 nu) ∧ w'.cell? ⟨W.heap.size + 1 + 1, 5, none⟩ = some (.int .i64 un) ∧ w'.cell? ⟨W.heap.size + 1 + 1, 6, none⟩ = some (.bool true) ∧ w'.cell? ⟨W.heap.size + 1 + 1, 7, none⟩ = some (.int .u8 (k : Int)) ∧ w'.cell? ⟨W.heap.size + 1 + 1, 8, none⟩ = some (.int .i64 nn) ∧ True) f6 := ⟨cell_keep hb3 hS.1, cell_keep hb3 hS.2.1, cell_keep hb3 hS.2.2.1, cell_keep hb3 hS.2.2.2.1, cell_keep hb3 hS.2.2.2.2.1, cell_keep hb3 hS.2.2.2.2.2.1, cell_keep hb3 hS.2.2.2.2.2.2.1, cell_keep hb3 hS.2.2.2.2.2.2.2.1, cell_keep hb3 hS.2.2.2.2.2.2.2.2.1, cell_keep hb3 hS.2.2.2.2.2.2.2.2.2.1, cell_keep hb3 hS.2.2.2.2.2.2.2.2.2.2.1, cell_keep hb3 hS.2.2.2.2.2.2.2.2.2.2.2.1, cell_keep hb3 hS.2.2.2.2.2.2.2.2.2.2.2.2.1, cell_keep hb3 hS.2.2.2.2.2.2.2.2.2.2.2.2.2.1, cell_keep hb3 hS.2.2.2.2.2.2.2.2.2.2.2.2.2.2.1, trivial⟩
    refine hK.out _ _ hSn (fun _ => ?_)
    clear hK K
    try simp only [Act.put, pz1, pz2, pz3]
    have HZ_ := hop HZ (Nat.le_refl _) hb3
    clear HZ
    have HZ := HZ_
    clear HZ_
    have QA1_ := OwnR.below QA1 hb3
    clear QA1
    have QA1 := QA1_
    clear QA1_
    have QA2_ := OwnR.below QA2 hb3
    clear QA2
    have QA2 := QA2_
    clear QA2_
    have QB1_ := OwnR.below QB1 hb3
    clear QB1
    have QB1 := QB1_
    clear QB1_
    have QB2_ := OwnR.below QB2 hb3
    clear QB2
    have QB2 := QB2_
    clear QB2_
    have PV_ := OwnR.below PV hb3
    clear PV
    have PV := PV_
    clear PV_
    clear hS hb3
    have hS := hSn
    clear hSn
    refine rdy [27] ?_
    refine rdC (fun K hK => ?_) AllReadyH.nil
    go_simp
    go_at_call 10
    refine ((PU1.out f6 QA1 QA2 (HL.out.below HZ))).mono ?_
    rintro _ f7 ⟨rfl, hb3⟩
    have hSn : (fun w' => w'.cell? ⟨ga, 0, none⟩ = some (.slice p1 n1 c1) ∧ w'.cell? ⟨ga, 1, none⟩ = some (.slice p2 n2 c2) ∧ w'.cell? ⟨gb, 0, none⟩ = some (.slice q1 m1 d1) ∧ w'.cell? ⟨gb, 1, none⟩ = some (.slice q2 m2 d2) ∧ w'.cell? ⟨gc, 0, none⟩ = some (.slice p1 n1 c1) ∧ w'.cell? ⟨gc, 1, none⟩ = some (.slice (some ⟨g2, 0, none⟩) (n2 + 1) cap2) ∧ w'.cell? ⟨W.heap.size + 1 + 1, 0, none⟩ = some (.int .i64 kd) ∧ w'.cell? ⟨W.heap.size + 1 + 1, 1, none⟩ = some (.string nm) ∧ w'.cell? ⟨W.heap.size + 1 + 1, 2, none⟩ = some (.string op) ∧ w'.cell? ⟨W.heap.size + 1 + 1, 3, none⟩ = some (.string vl) ∧ w'.cell? ⟨W.heap.size + 1 + 1, 4, none⟩ = some (.int .i64 nu) ∧ w'.cell? ⟨W.heap.size + 1 + 1, 5, none⟩ = some (.int .i64 un) ∧ w'.cell? ⟨W.heap.size + 1 + 1, 6, none⟩ = some (.bool true) ∧ w'.cell? ⟨W.heap.size + 1 + 1, 7, none⟩ = some (.int .u8 (k : Int)) ∧ w'.cell? ⟨W.heap.size + 1 + 1, 8, none⟩ = some (.int .i64 nn) ∧ True) f7 := ⟨cell_keep hb3 hS.1, cell_keep hb3 hS.2.1, cell_keep hb3 hS.2.2.1, cell_keep hb3 hS.2.2.2.1, cell_keep hb3 hS.2.2.2.2.1, cell_keep hb3 hS.2.2.2.2.2.1, cell_keep hb3 hS.2.2.2.2.2.2.1, cell_keep hb3 hS.2.2.2.2.2.2.2.1, cell_keep hb3 hS.2.2.2.2.2.2.2.2.1, cell_keep hb3 hS.2.2.2.2.2.2.2.2.2.1, cell_keep hb3 hS.2.2.2.2.2.2.2.2.2.2.1, cell_keep hb3 hS.2.2.2.2.2.2.2.2.2.2.2.1, cell_keep hb3 hS.2.2.2.2.2.2.2.2.2.2.2.2.1, cell_keep hb3 hS.2.2.2.2.2.2.2.2.2.2.2.2.2.1, cell_keep hb3 hS.2.2.2.2.2.2.2.2.2.2.2.2.2.2.1, trivial⟩
    refine hK.out _ _ hSn (fun _ => ?_)
    clear hK K
    try simp only [Act.put, pz1, pz2, pz3]
    have HZ_ := hop HZ (Nat.le_refl _) hb3
    clear HZ
    have HZ := HZ_
    clear HZ_
    have QA1_ := OwnR.below QA1 hb3
    clear QA1
    have QA1 := QA1_
    clear QA1_
    have QA2_ := OwnR.below QA2 hb3
    clear QA2
    have QA2 := QA2_
    clear QA2_
    have QB1_ := OwnR.below QB1 hb3
    clear QB1
    have QB1 := QB1_
    clear QB1_
    have QB2_ := OwnR.below QB2 hb3
    clear QB2
    have QB2 := QB2_
    clear QB2_
    have PV_ := OwnR.below PV hb3
    clear PV
    have PV := PV_
    clear PV_
    clear hS hb3
    have hS := hSn
    clear hSn
    refine tV 28 ?_
    refine rdy [30] ?_
    refine rdC (fun K hK => ?_) AllReadyH.nil
    go_simp
    go_at_call 9
    refine ((PA.out f7)).mono ?_
    rintro _ f8 ⟨rfl, hb3⟩
    have hSn : (fun w' => w'.cell? ⟨ga, 0, none⟩ = some (.slice p1 n1 c1) ∧ w'.cell? ⟨ga, 1, none⟩ = some (.slice p2 n2 c2) ∧ w'.cell? ⟨gb, 0, none⟩ = some (.slice q1 m1 d1) ∧ w'.cell? ⟨gb, 1, none⟩ = some (.slice q2 m2 d2) ∧ w'.cell? ⟨gc, 0, none⟩ = some (.slice p1 n1 c1) ∧ w'.cell? ⟨gc, 1, none⟩ = some (.slice (some ⟨g2, 0, none⟩) (n2 + 1) cap2) ∧ w'.cell? ⟨W.heap.size + 1 + 1, 0, none⟩ = some (.int .i64 kd) ∧ w'.cell? ⟨W.heap.size + 1 + 1, 1, none⟩ = some (.string nm) ∧ w'.cell? ⟨W.heap.size + 1 + 1, 2, none⟩ = some (.string op) ∧ w'.cell? ⟨W.heap.size + 1 + 1, 3, none⟩ = some (.string vl) ∧ w'.cell? ⟨W.heap.size + 1 + 1, 4, none⟩ = some (.int .i64 nu) ∧ w'.cell? ⟨W.heap.size + 1 + 1, 5, none⟩ = some (.int .i64 un) ∧ w'.cell? ⟨W.heap.size + 1 + 1, 6, none⟩ = some (.bool true) ∧ w'.cell? ⟨W.heap.size + 1 + 1, 7, none⟩ = some (.int .u8 (k : Int)) ∧ w'.cell? ⟨W.heap.size + 1 + 1, 8, none⟩ = some (.int .i64 nn) ∧ True) f8 := ⟨cell_keep hb3 hS.1, cell_keep hb3 hS.2.1, cell_keep hb3 hS.2.2.1, cell_keep hb3 hS.2.2.2.1, cell_keep hb3 hS.2.2.2.2.1, cell_keep hb3 hS.2.2.2.2.2.1, cell_keep hb3 hS.2.2.2.2.2.2.1, cell_keep hb3 hS.2.2.2.2.2.2.2.1, cell_keep hb3 hS.2.2.2.2.2.2.2.2.1, cell_keep hb3 hS.2.2.2.2.2.2.2.2.2.1, cell_keep hb3 hS.2.2.2.2.2.2.2.2.2.2.1, cell_keep hb3 hS.2.2.2.2.2.2.2.2.2.2.2.1, cell_keep hb3 hS.2.2.2.2.2.2.2.2.2.2.2.2.1, cell_keep hb3 hS.2.2.2.2.2.2.2.2.2.2.2.2.2.1, cell_keep hb3 hS.2.2.2.2.2.2.2.2.2.2.2.2.2.2.1, trivial⟩
    refine hK.out _ _ hSn (fun _ => ?_)
    clear hK K
    try simp only [Act.put, pz1, pz2, pz3]
    have HZ_ := hop HZ (Nat.le_refl _) hb3
    clear HZ
    have HZ := HZ_
    clear HZ_
    have QA1_ := OwnR.below QA1 hb3
    clear QA1
    have QA1 := QA1_
    clear QA1_
    have QA2_ := OwnR.below QA2 hb3
    clear QA2
    have QA2 := QA2_
    clear QA2_
    have QB1_ := OwnR.below QB1 hb3
    clear QB1
    have QB1 := QB1_
    clear QB1_
    have QB2_ := OwnR.below QB2 hb3
    clear QB2
    have QB2 := QB2_
    clear QB2_
    have PV_ := OwnR.below PV hb3
    clear PV
    have PV := PV_
    clear PV_
    clear hS hb3
    have hS := hSn
    clear hSn
    refine rdy [31] ?_
    refine rdC (fun K hK => ?_) AllReadyH.nil
    go_simp
    go_at_call 12
    refine ((PS.out f8 (HL.out.below HZ))).mono ?_
    rintro _ f9 ⟨rfl, hb3⟩
    have hSn : (fun w' => w'.cell? ⟨ga, 0, none⟩ = some (.slice p1 n1 c1) ∧ w'.cell? ⟨ga, 1, none⟩ = some (.slice p2 n2 c2) ∧ w'.cell? ⟨gb, 0, none⟩ = some (.slice q1 m1 d1) ∧ w'.cell? ⟨gb, 1, none⟩ = some (.slice q2 m2 d2) ∧ w'.cell? ⟨gc, 0, none⟩ = some (.slice p1 n1 c1) ∧ w'.cell? ⟨gc, 1, none⟩ = some (.slice (some ⟨g2, 0, none⟩) (n2 + 1) cap2) ∧ w'.cell? ⟨W.heap.size + 1 + 1, 0, none⟩ = some (.int .i64 kd) ∧ w'.cell? ⟨W.heap.size + 1 + 1, 1, none⟩ = some (.string nm) ∧ w'.cell? ⟨W.heap.size + 1 + 1, 2, none⟩ = some (.string op) ∧ w'.cell? ⟨W.heap.size + 1 + 1, 3, none⟩ = some (.string vl) ∧ w'.cell? ⟨W.heap.size + 1 + 1, 4, none⟩ = some (.int .i64 nu) ∧ w'.cell? ⟨W.heap.size + 1 + 1, 5, none⟩ = some (.int .i64 un) ∧ w'.cell? ⟨W.heap.size + 1 + 1, 6, none⟩ = some (.bool true) ∧ w'.cell? ⟨W.heap.size + 1 + 1, 7, none⟩ = some (.int .u8 (k : Int)) ∧ w'.cell? ⟨W.heap.size + 1 + 1, 8, none⟩ = some (.int .i64 nn) ∧ True) f9 := ⟨cell_keep hb3 hS.1, cell_keep hb3 hS.2.1, cell_keep hb3 hS.2.2.1, cell_keep hb3 hS.2.2.2.1, cell_keep hb3 hS.2.2.2.2.1, cell_keep hb3 hS.2.2.2.2.2.1, cell_keep hb3 hS.2.2.2.2.2.2.1, cell_keep hb3 hS.2.2.2.2.2.2.2.1, cell_keep hb3 hS.2.2.2.2.2.2.2.2.1, cell_keep hb3 hS.2.2.2.2.2.2.2.2.2.1, cell_keep hb3 hS.2.2.2.2.2.2.2.2.2.2.1, cell_keep hb3 hS.2.2.2.2.2.2.2.2.2.2.2.1, cell_keep hb3 hS.2.2.2.2.2.2.2.2.2.2.2.2.1, cell_keep hb3 hS.2.2.2.2.2.2.2.2.2.2.2.2.2.1, cell_keep hb3 hS.2.2.2.2.2.2.2.2.2.2.2.2.2.2.1, trivial⟩
    refine hK.out _ _ hSn (fun _ => ?_)
    clear hK K
    try simp only [Act.put, pz1, pz2, pz3]
    have HZ_ := hop HZ (Nat.le_refl _) hb3
    clear HZ
    have HZ := HZ_
    clear HZ_
    have QA1_ := OwnR.below QA1 hb3
    clear QA1
    have QA1 := QA1_
    clear QA1_
    have QA2_ := OwnR.below QA2 hb3
    clear QA2
    have QA2 := QA2_
    clear QA2_
    have QB1_ := OwnR.below QB1 hb3
    clear QB1
    have QB1 := QB1_
    clear QB1_
    have QB2_ := OwnR.below QB2 hb3
    clear QB2
    have QB2 := QB2_
    clear QB2_
    have PV_ := OwnR.below PV hb3
    clear PV
    have PV := PV_
    clear PV_
    clear hS hb3
    have hS := hSn
    clear hSn
    refine tV 32 ?_; refine tV 33 ?_; refine tV 34 ?_; refine tV 35 ?_
    refine wpAnyH_done (by kernel_rfl) ?_ _
    go_wp2
    go_ret
    exact ⟨rfl, HZ⟩
theorem astAlike_walk {W : World} (x y : AskX) (s : PartB) (hx : GoodA W x) (hy : GoodA W y) (hs : PartOk s) (hl : LibIs W) :
    Calls Tryz.prog 3 #[.agg x.V.toArray, .agg y.V.toArray, .agg s.V.toArray] W fun e w' => e = .returned (.bool true) ∧ Below W.heap.size W w' := by
  obtain ⟨⟨kd, nm, op, vl, nu, un⟩, own, k, nn⟩ := s
  exact astAlike_core x.A x.n x.c x.hs x.B x.m x.d x.ps y.A y.n y.c y.hs y.B y.m y.d y.ps kd nm op vl nu un own k nn W hx.rh hx.gh hx.hn hx.rp hx.gp hx.hm hy.rh hy.gh hy.hn hy.rp hy.gp hy.hm hs.k hs.n hl
end Go.Proofs.YtepokdmkdnlbfaaGreatDoor
