-- shaken
import Derived.Test.YtdaainifkldcpaaGreatDoorSymMath
import Derived.Deep.RegionHeld
import Derived.Test.YtdaainifkldcpaaGreatDoorEntRow
import Derived.Test.YtdaainifkldcpaaGreatDoorMem
namespace Go.Proofs.YtdaainifkldcpaaGreatDoor.Se
open Go.RowKit Go.Sort Go.Proofs.YtdaainifkldcpaaGreatDoor.Sy
set_option linter.unusedVariables false
set_option linter.unusedSimpArgs false
instance : Inhabited EntX := ⟨xnil⟩
def entO (x y : EntX) : Int := entC x.b y.b
theorem entO_pre : Pre3 entO := ⟨fun a b => entC_ord.anti a.b b.b, fun a b c => entC_ord.trans a.b b.b c.b⟩
theorem set_at (cs : Array Value) (i m : Nat) (x : Value) (h : i < cs.size) : (cs.setIfInBounds i x)[m]? = if m = i then some x else cs[m]? := by
  by_cases e : m = i
  · subst e
    rw [if_pos rfl, Array.getElem?_setIfInBounds_self_of_lt h]
  · rw [if_neg e, Array.getElem?_setIfInBounds_ne (Ne.symm e)]
def put3 (cs : Array Value) (i : Nat) (x : EntX) : Array Value := ((cs.setIfInBounds (i * 3) (.int .i64 x.ts)).setIfInBounds (i * 3 + 1) (.slice x.A x.n x.c)).setIfInBounds (i * 3 + 2) (.string x.ln)
theorem put3_size (cs : Array Value) (i : Nat) (x : EntX) : (put3 cs i x).size = cs.size := by unfold put3; simp
theorem put3_at (cs : Array Value) (i : Nat) (x : EntX) (h : i * 3 + 2 < cs.size) (j r : Nat) (hr : r < 3) : (put3 cs i x)[j * 3 + r]? = if j = i then x.V[r]? else cs[j * 3 + r]? := by
  unfold put3
  rw [set_at _ _ _ _ (by simp; omega), set_at _ _ _ _ (by simp; omega), set_at _ _ _ _ (by omega)]
  by_cases e : j = i
  · subst e
    rw [if_pos rfl]
    rcases (by omega : r = 0 ∨ r = 1 ∨ r = 2) with rfl | rfl | rfl
    · rw [if_neg (by omega), if_neg (by omega), if_pos (by omega)]; rfl
    · rw [if_neg (by omega), if_pos (by omega)]; rfl
    · rw [if_pos (by omega)]; rfl
  · rw [if_neg e, if_neg (by omega), if_neg (by omega), if_neg (by omega)]
def SortE (sz : Nat) (w : World) (g : Nat) (L : List (KeyP EntX)) : Prop := ∃ cur, Blk w g 47 cur ∧ (cur.size = sz ∧ L.length * 3 ≤ sz) ∧ ∀ j r, j < L.length → r < 3 → cur[j * 3 + r]? = (getP L j).it.V[r]?
theorem SortE.lt {sz : Nat} {w : World} {g : Nat} {L : List (KeyP EntX)} (h : SortE sz w g L) : g < w.heap.size := by
  obtain ⟨cur, hB, _⟩ := h
  exact hB.lt
theorem SortE.below {sz : Nat} {w w' : World} {g : Nat} {L : List (KeyP EntX)} (h : SortE sz w g L) (hb : Below w.heap.size w w') : SortE sz w' g L := by
  obtain ⟨cur, hB, h2⟩ := h
  exact ⟨cur, hB.below hb hB.lt, h2⟩
structure FG (g : Nat) (w w' : World) : Prop where
  os : w'.os = w.os
  tape : w'.tape = w.tape
  output : w'.output = w.output
  size : w.heap.size ≤ w'.heap.size
  block : ∀ k, k < w.heap.size → k ≠ g → w'.heap[k]? = w.heap[k]?
theorem FG.refl (g : Nat) (w : World) : FG g w w := ⟨rfl, rfl, rfl, Nat.le_refl _, fun _ _ _ => rfl⟩
theorem FG.trans {g : Nat} {w1 w2 w3 : World} (h : FG g w1 w2) (k : FG g w2 w3) : FG g w1 w3 :=
  ⟨k.os.trans h.os, k.tape.trans h.tape, k.output.trans h.output, Nat.le_trans h.size k.size, fun i hi hg => (k.block i (Nat.lt_of_lt_of_le hi h.size) hg).trans (h.block i hi hg)⟩
theorem FG.of_below {g : Nat} {w w' : World} (h : Below w.heap.size w w') : FG g w w' := ⟨h.os, h.tape, h.output, h.size, fun k hk _ => h.block k hk⟩
theorem FG.grown {g : Nat} {w w' : World} (h : FG g w w') : w.grownBy w' (some g) := ⟨h.os, h.tape, h.output, h.size, fun k hk hg => h.block k hk (fun e => hg (by rw [e]))⟩
def set3 (w : World) (g i : Nat) (x : EntX) : World := ((w.setCell ⟨g, i * 3, none⟩ (.int .i64 x.ts)).setCell ⟨g, i * 3 + 1, none⟩ (.slice x.A x.n x.c)).setCell ⟨g, i * 3 + 2, none⟩ (.string x.ln)
theorem Blk.set3 {w : World} {g i : Nat} {cs : Array Value} (h : Blk w g 47 cs) (x : EntX) : Blk (set3 w g i x) g 47 (put3 cs i x) := ((h.set_ (i * 3) _).set_ (i * 3 + 1) _).set_ (i * 3 + 2) _
theorem FG.set3 (w : World) (g i : Nat) (x : EntX) : FG g w (set3 w g i x) := ⟨rfl, rfl, rfl, by simp [Se.set3], fun k hk hg => (Below.heap_setCell _ _ _ k hg).trans ((Below.heap_setCell _ _ _ k hg).trans (Below.heap_setCell _ _ _ k hg))⟩
theorem FG.drew (w : World) (g : Nat) : FG g w w.drew := ⟨rfl, rfl, rfl, Nat.le_refl _, fun _ _ _ => rfl⟩
theorem swap_state {sz : Nat} {w : World} {g i k : Nat} {L : List (KeyP EntX)} (h : SortE sz w g L) (hi : i < L.length) (hk : k < L.length) : SortE sz (set3 (set3 w g i (getP L k).it) g k (getP L i).it).drew g (swapP L i k) ∧ FG g w (set3 (set3 w g i (getP L k).it) g k (getP L i).it).drew := by
  obtain ⟨cur, hB, ⟨hs, hsl⟩, hc⟩ := h
  have hB2 := Blk.set3 (i := k) (Blk.set3 (i := i) hB (getP L k).it) (getP L i).it
  refine ⟨⟨_, hB2.drewN 1, ?_, fun j r hj hr => ?_⟩, ((FG.set3 _ _ _ _).trans (FG.set3 _ _ _ _)).trans (FG.drew _ _)⟩
  · rw [swapP_len, put3_size, put3_size]
    exact ⟨hs, hsl⟩
  · rw [swapP_len] at hj
    rw [getP_swap hi hk, put3_at _ _ _ (by rw [put3_size]; omega) _ _ hr, put3_at _ _ _ (by omega) _ _ hr, hc j r hj hr]
    by_cases hjk : j = k
    · rw [if_pos hjk, if_pos hjk]
    · rw [if_neg hjk, if_neg hjk]
      by_cases hji : j = i
      · rw [if_pos hji, if_pos hji]
      · rw [if_neg hji, if_neg hji]
theorem Good.fg {B g : Nat} {w w' : World} {x : EntX} {cur : Array Value} (h : Good B w x) (hf : FG g w w') (hB : B ≤ g) (hb : Blk w g 47 cur) : Good B w' x :=
  h.grown hf.grown fun b e => by
    obtain rfl := Option.some.inj e
    exact ⟨hB, _, _, ent_not_pair, hb⟩
set_option maxRecDepth 100000 in
set_option maxHeartbeats 1600000 in
theorem insertion_any (B g cap : Nat) (L : List (KeyP EntX)) (a b n : Nat) (hn : L.length = n) (hN : n ≤ 1000000) (hab : a ≤ b) (hb : b ≤ n) (hBg : B ≤ g) (ht : ∀ i j, a ≤ i → i < j → j < b → (getP L i).at_ < (getP L j).at_) (sz : Nat) (w : World) (h : SortE sz w g L) (hgd : ∀ i, i < n → Good B w (getP L i).it) :
    Calls Tryz.prog 107 #[.slice (some ⟨g, 0, none⟩) n cap, .int .i64 (a : Int), .int .i64 (b : Int), .func (.func 53) #[] #[]] w fun e w' => e = .returned (.tuple #[]) ∧ ∃ L', SortE sz w' g L' ∧ Mid L L' a b ∧ Up entO L' a b ∧ FG g w w' := by
  have HS0 := Lib.hid h
  have HN := Lib.hid hn
  have HT := Lib.hid ht
  have GD := Lib.hid (show ∀ L2 : List (KeyP EntX), Mid L L2 a b → ∀ w2, FG g w w2 → ∀ i, i < n → Good B w2 (getP L2 i).it from fun L2 hm w2 hf i hi => by
    obtain ⟨cur, hB, _⟩ := h
    rcases (by omega : (a ≤ i ∧ i < b) ∨ ¬ (a ≤ i ∧ i < b)) with h1 | h1
    · obtain ⟨p, p1, p2, e⟩ := hm.in_ i h1.1 h1.2
      rw [e]
      exact Good.fg (hgd p (by omega)) hf hBg hB
    · rw [hm.out i (by omega)]
      exact Good.fg (hgd i hi) hf hBg hB)
  have hwa : IntKind.i64.wrap ((a : Int) + 1) = (a : Int) + 1 := by rw [IntKind.wrap_i64]; omega
  clear h hn ht hgd
  go_enter Tryz.func107, Tryz.ntmps107
  go_wp2
  clear hwa
  go_loopw [8] (fun iv wr => ∃ (i : Nat) (L1 : List (KeyP EntX)), iv = .int .i64 (i : Int) ∧ i ≤ n + 1 ∧ Hid ((i = a + 1 ∧ L1 = L) ∨ (a + 1 ≤ i ∧ i ≤ b ∧ Mid L L1 a i ∧ Up entO L1 a i)) ∧ Hid (SortE sz wr g L1) ∧ Hid (FG g w wr)) (fun iv _ => b - (intOf iv).toNat)
  case atStart => exact ⟨a + 1, L, by first | rfl | go_num, by omega, Lib.hid (.inl ⟨rfl, rfl⟩), HS0, Lib.hid (FG.refl _ _)⟩
  case round =>
    obtain ⟨i, L1, rfl, hin, HM, HS, HG⟩ := hrel
    by_cases hi : i < b
    · have hiI : (i : Int) < (b : Int) := by omega
      have hai : a + 1 ≤ i := by rcases HM.out with h | h <;> omega
      have HMU := Lib.hid (show Mid L L1 a i ∧ Up entO L1 a i from by
        rcases HM.out with ⟨rfl, rfl⟩ | ⟨_, _, h1, h2⟩
        · exact ⟨Mid.refl _ _ _, Up.one _ (Nat.le_refl _)⟩
        · exact ⟨h1, h2⟩)
      have HI0 := Lib.hid (Ins.start HMU.out.2 (fun p hp hpi => by
        obtain ⟨q, q1, q2, e⟩ := HMU.out.1.in_ p hp hpi
        rw [e, HMU.out.1.out i (.inr (Nat.le_refl _))]
        exact HT.out q i q1 q2 hi))
      have hl1 : L1.length = n := by rw [HMU.out.1.len]; exact HN.out
      have HL1 := Lib.hid hl1
      clear HM hl1
      obtain ⟨v0, hv0⟩ : ∃ v, v = wr := ⟨_, rfl⟩
      subst hv0
      go_wp2
      go_loopw [9] (fun jv w2 => ∃ (j : Nat) (L2 : List (KeyP EntX)), a ≤ j ∧ j ≤ i ∧ jv = .int .i64 (j : Int) ∧ Hid (SortE sz w2 g L2) ∧ Hid (Mid L1 L2 a (i + 1)) ∧ Hid (Ins entO L1 L2 a i j) ∧ Hid (FG g w w2)) (fun jv _ => (intOf jv).toNat)
      case atStart => exact ⟨i, L1, by omega, Nat.le_refl _, rfl, HS, Lib.hid (Mid.refl _ _ _), HI0, HG⟩
      case round =>
        clear HS HG HI0
        obtain ⟨j, L2, haj, hji, rfl, HS, HM2, HI, HG⟩ := hrel
        have hl2 : L2.length = n := by rw [HM2.out.len]; exact HL1.out
        rcases Nat.eq_or_lt_of_le haj with hja | hja
        · have hjI : ¬ (a : Int) < (j : Int) := by omega
          have hjN : ¬ a < j := by omega
          have HM3 := Lib.hid (show Mid L L2 a (i + 1) from (HMU.out.1.wide (Nat.le_refl _) (Nat.le_succ _)).trans HM2.out)
          have HU3 := Lib.hid (HI.out.stop entO_pre hji (.inl hja.symm))
          have HS5 := Lib.hid (HS.out.below (below_drewN (Below.refl _ _) 1))
          have HG5 := Lib.hid (HG.out.trans (FG.of_below (below_drewN (Below.refl _ _) 1)))
          clear hja
          go_wp2_with fail
          refine wp_region_held_drew (S := fun w' => True) (by kernel_rfl) trivial (fun hS => ?_)
          refine tV 0 ?_; refine tV 1 ?_; refine tV 2 ?_; refine tV 3 ?_; refine tN 4 ?_; refine tN 5 ?_; refine tN 6 ?_; refine tN 7 ?_; refine tN 8 ?_; refine tN 9 ?_; refine tN 10 ?_; refine tN 11 ?_; refine tN 12 ?_; refine tN 13 ?_; refine tN 14 ?_; refine tN 15 ?_; refine tV 16 ?_
          refine wpAnyH_done (by kernel_rfl) ?_ _
          go_wp2
          go_round
          case rel => exact ⟨i + 1, L2, by first | rfl | go_num, by omega, Lib.hid (.inr ⟨by omega, by omega, HM3.out, HU3.out⟩), HS5, HG5⟩
          case measure => simp [intOf]; omega
        · have hjI : (a : Int) < (j : Int) := by omega
          obtain ⟨q, hq⟩ : ∃ q, q + 1 = j := ⟨j - 1, by omega⟩
          have hqI : (j : Int) - 1 = (q : Int) := by omega
          have hwq : IntKind.i64.wrap (q : Int) = (q : Int) := by rw [IntKind.wrap_i64]; omega
          have hx : j < L2.length := by omega
          have hy : q < L2.length := by omega
          have hjn : (j : Int) < (n : Int) := by omega
          have hqn : (q : Int) < (n : Int) := by omega
          obtain ⟨cur, hB, hs, hcl⟩ := HS.out
          have hgx := GD.out L2 ((HMU.out.1.wide (Nat.le_refl _) (by omega : i ≤ b)).trans (HM2.out.wide (Nat.le_refl _) (by omega : i + 1 ≤ b))) wr HG.out j (by omega)
          have hgy := GD.out L2 ((HMU.out.1.wide (Nat.le_refl _) (by omega : i ≤ b)).trans (HM2.out.wide (Nat.le_refl _) (by omega : i + 1 ≤ b))) wr HG.out q (by omega)
          obtain ⟨x, hpj⟩ : ∃ p, (getP L2 j).it = p := ⟨_, rfl⟩
          obtain ⟨y, hpq⟩ : ∃ p, (getP L2 q).it = p := ⟨_, rfl⟩
          have hjL := hx
          have hqL := hy
          have dj0_ : wr.cell? ⟨g, j * 3, none⟩ = some (.int .i64 x.ts) := (hB.cell (j * 3)).trans ((hcl j 0 hjL (by decide)).trans (by rw [hpj]; rfl))
          have dj1_ : wr.cell? ⟨g, j * 3 + 1, none⟩ = some (.slice x.A x.n x.c) := (hB.cell (j * 3 + 1)).trans ((hcl j 1 hjL (by decide)).trans (by rw [hpj]; rfl))
          have dj2_ : wr.cell? ⟨g, j * 3 + 2, none⟩ = some (.string x.ln) := (hB.cell (j * 3 + 2)).trans ((hcl j 2 hjL (by decide)).trans (by rw [hpj]; rfl))
          have dq0_ : wr.cell? ⟨g, q * 3, none⟩ = some (.int .i64 y.ts) := (hB.cell (q * 3)).trans ((hcl q 0 hqL (by decide)).trans (by rw [hpq]; rfl))
          have dq1_ : wr.cell? ⟨g, q * 3 + 1, none⟩ = some (.slice y.A y.n y.c) := (hB.cell (q * 3 + 1)).trans ((hcl q 1 hqL (by decide)).trans (by rw [hpq]; rfl))
          have dq2_ : wr.cell? ⟨g, q * 3 + 2, none⟩ = some (.string y.ln) := (hB.cell (q * 3 + 2)).trans ((hcl q 2 hqL (by decide)).trans (by rw [hpq]; rfl))
          rw [hpj] at hgx
          rw [hpq] at hgy
          obtain ⟨z, hz⟩ : ∃ z, entC x.b y.b = z := ⟨_, rfl⟩
          have OR := Lib.hid (fun w2 (hw : Below wr.heap.size wr w2) => show Calls Tryz.prog 53 #[.agg #[.int .i64 x.ts, .slice x.A x.n x.c, .string x.ln], .agg #[.int .i64 y.ts, .slice y.A y.n y.c, .string y.ln]] w2 fun e w' => e = .returned (.int .i64 z) ∧ Below w2.heap.size w2 w' from by
            rw [← hz]
            exact entOrder_any x.ts y.ts x.A y.A x.n y.n x.c y.c x.ls y.ls x.ln y.ln hgx.len hgy.len w2 (hgx.set.1.below hw) (hgy.set.1.below hw))
          have HZ := Lib.hid (show entO (getP L2 j).it (getP L2 q).it = z by unfold entO; rw [hpj, hpq]; exact hz)
          have HPX := Lib.hid hpj
          have HPY := Lib.hid hpq
          have HSC := Lib.hid (fun (wb : World) (hwb : Below wr.heap.size wr wb) => show wb.cell? ⟨g, j * 3, none⟩ = some (.int .i64 x.ts) ∧ wb.cell? ⟨g, j * 3 + 1, none⟩ = some (.slice x.A x.n x.c) ∧ wb.cell? ⟨g, j * 3 + 2, none⟩ = some (.string x.ln) ∧ wb.cell? ⟨g, q * 3, none⟩ = some (.int .i64 y.ts) ∧ wb.cell? ⟨g, q * 3 + 1, none⟩ = some (.slice y.A y.n y.c) ∧ wb.cell? ⟨g, q * 3 + 2, none⟩ = some (.string y.ln) from ⟨(hwb.cell (p := ⟨g, j * 3, none⟩) hB.lt).trans dj0_, (hwb.cell (p := ⟨g, j * 3 + 1, none⟩) hB.lt).trans dj1_, (hwb.cell (p := ⟨g, j * 3 + 2, none⟩) hB.lt).trans dj2_, (hwb.cell (p := ⟨g, q * 3, none⟩) hB.lt).trans dq0_, (hwb.cell (p := ⟨g, q * 3 + 1, none⟩) hB.lt).trans dq1_, (hwb.cell (p := ⟨g, q * 3 + 2, none⟩) hB.lt).trans dq2_⟩)
          clear hB hs hcl hpj hpq hz hgx hgy hjL hqL
          have HQ := Lib.hid hq
          have HXY := Lib.hid (And.intro hx hy)
          by_cases hz0 : z < 0
          · have HI3 := Lib.hid (show Ins entO L1 (swapP L2 j q) a i q from by
              have h1 := HI.out
              have h2 := HZ.out
              rw [← HQ.out] at h1 h2 ⊢
              exact h1.step entO_pre (by omega) (by omega) (by omega) (by rw [h2]; exact hz0))
            have HM3 := Lib.hid (HM2.out.trans (Mid.swap (L := L2) (a := a) (b := i + 1) (i := j) (k := q) (by omega) (by omega) (by omega) (by omega) (by omega)))
            clear hq hx hy hl2
            go_wp2_with fail
            refine wp_region_held_drew (S := fun w' => w'.cell? ⟨g, j * 3, none⟩ = some (.int .i64 x.ts) ∧ w'.cell? ⟨g, j * 3 + 1, none⟩ = some (.slice x.A x.n x.c) ∧ w'.cell? ⟨g, j * 3 + 2, none⟩ = some (.string x.ln) ∧ w'.cell? ⟨g, q * 3, none⟩ = some (.int .i64 y.ts) ∧ w'.cell? ⟨g, q * 3 + 1, none⟩ = some (.slice y.A y.n y.c) ∧ w'.cell? ⟨g, q * 3 + 2, none⟩ = some (.string y.ln)) (by kernel_rfl) ⟨dj0_, dj1_, dj2_, dq0_, dq1_, dq2_⟩ (fun hS => ?_)
            refine tV 0 ?_; refine tV 1 ?_; refine tV 2 ?_; refine tV 3 ?_; refine tV 4 ?_; refine tV 5 ?_; refine tV 6 ?_; refine tV 7 ?_; refine tH 8 ?_; refine tV 9 ?_; refine tV 10 ?_; refine tV 11 ?_; refine tV 12 ?_; refine tH 13 ?_
            refine rdy [14] ?_
            refine rdC (fun K hK => ?_) AllReadyH.nil
            go_simp
            go_at_call 53
            refine (OR.out _ (below_drewN (Below.refl _ _) 1)).mono ?_
            rintro e w5 ⟨rfl, hb5⟩
            have HB5 := Lib.hid (hop (below_drewN (Below.refl wr.heap.size wr) 1) (Nat.le_refl _) hb5)
            clear hb5
            have hS5 : w5.cell? ⟨g, j * 3, none⟩ = some (.int .i64 x.ts) ∧ w5.cell? ⟨g, j * 3 + 1, none⟩ = some (.slice x.A x.n x.c) ∧ w5.cell? ⟨g, j * 3 + 2, none⟩ = some (.string x.ln) ∧ w5.cell? ⟨g, q * 3, none⟩ = some (.int .i64 y.ts) ∧ w5.cell? ⟨g, q * 3 + 1, none⟩ = some (.slice y.A y.n y.c) ∧ w5.cell? ⟨g, q * 3 + 2, none⟩ = some (.string y.ln) := HSC.out w5 HB5.out
            refine hK.out _ _ hS5 (fun _ => ?_)
            clear hK K hS5
            try simp only [Act.put, pz1, pz2, pz3]
            refine tV 15 ?_; refine tV 16 ?_
            refine wpAnyH_done (by kernel_rfl) ?_ _
            have HS5 := Lib.hid (HS.out.below HB5.out)
            have HG5 := Lib.hid (HG.out.trans (FG.of_below HB5.out))
            clear hS OR HSC HB5 HZ
            have hx := HXY.out.1
            have hy := HXY.out.2
            have HF := Lib.hid (swap_state HS5.out hx hy)
            obtain ⟨cur, hB, hs, hcl⟩ := HS5.out
            have hjL := hx
            have hqL := hy
            have hpj := HPX.out
            have hpq := HPY.out
            rw [hpj, hpq] at HF
            clear dj0_ dj1_ dj2_ dq0_ dq1_ dq2_
            have dj0_ : w5.cell? ⟨g, j * 3, none⟩ = some (.int .i64 x.ts) := (hB.cell (j * 3)).trans ((hcl j 0 hjL (by decide)).trans (by rw [hpj]; rfl))
            have dj1_ : w5.cell? ⟨g, j * 3 + 1, none⟩ = some (.slice x.A x.n x.c) := (hB.cell (j * 3 + 1)).trans ((hcl j 1 hjL (by decide)).trans (by rw [hpj]; rfl))
            have dj2_ : w5.cell? ⟨g, j * 3 + 2, none⟩ = some (.string x.ln) := (hB.cell (j * 3 + 2)).trans ((hcl j 2 hjL (by decide)).trans (by rw [hpj]; rfl))
            have dq0_ : w5.cell? ⟨g, q * 3, none⟩ = some (.int .i64 y.ts) := (hB.cell (q * 3)).trans ((hcl q 0 hqL (by decide)).trans (by rw [hpq]; rfl))
            have dq1_ : w5.cell? ⟨g, q * 3 + 1, none⟩ = some (.slice y.A y.n y.c) := (hB.cell (q * 3 + 1)).trans ((hcl q 1 hqL (by decide)).trans (by rw [hpq]; rfl))
            have dq2_ : w5.cell? ⟨g, q * 3 + 2, none⟩ = some (.string y.ln) := (hB.cell (q * 3 + 2)).trans ((hcl q 2 hqL (by decide)).trans (by rw [hpq]; rfl))
            have fj0_ := hB.frozen (j * 3)
            have fj1_ := hB.frozen (j * 3 + 1)
            have fj2_ := hB.frozen (j * 3 + 2)
            have B2 := Blk.set3 hB y (i := j)
            have fq0_ : (set3 w5 g j y).drew.frozen? ⟨g, q * 3, none⟩ = false := (B2.drewN 1).frozen (q * 3)
            have B3 := B2.set_ (q * 3) (.int .i64 x.ts)
            have B4 := B3.set_ (q * 3 + 1) (.slice x.A x.n x.c)
            have fq1_ : ((set3 w5 g j y).setCell ⟨g, q * 3, none⟩ (.int .i64 x.ts)).drew.frozen? ⟨g, q * 3 + 1, none⟩ = false := (B3.drewN 1).frozen (q * 3 + 1)
            have fq2_ : (((set3 w5 g j y).setCell ⟨g, q * 3, none⟩ (.int .i64 x.ts)).setCell ⟨g, q * 3 + 1, none⟩ (.slice x.A x.n x.c)).drew.frozen? ⟨g, q * 3 + 2, none⟩ = false := (B4.drewN 1).frozen (q * 3 + 2)
            obtain ⟨u0, dq0_2⟩ : ∃ u, (set3 w5 g j y).drew.cell? ⟨g, q * 3, none⟩ = some u := ⟨_, ((B2.drewN 1).cell (q * 3)).trans (Array.getElem?_eq_getElem (by rw [put3_size]; omega))⟩
            obtain ⟨u1, dq1_2⟩ : ∃ u, ((set3 w5 g j y).setCell ⟨g, q * 3, none⟩ (.int .i64 x.ts)).drew.cell? ⟨g, q * 3 + 1, none⟩ = some u := ⟨_, ((B3.drewN 1).cell (q * 3 + 1)).trans (Array.getElem?_eq_getElem (by rw [Array.size_setIfInBounds, put3_size]; omega))⟩
            obtain ⟨u2, dq2_2⟩ : ∃ u, (((set3 w5 g j y).setCell ⟨g, q * 3, none⟩ (.int .i64 x.ts)).setCell ⟨g, q * 3 + 1, none⟩ (.slice x.A x.n x.c)).drew.cell? ⟨g, q * 3 + 2, none⟩ = some u := ⟨_, ((B4.drewN 1).cell (q * 3 + 2)).trans (Array.getElem?_eq_getElem (by rw [Array.size_setIfInBounds, Array.size_setIfInBounds, put3_size]; omega))⟩
            unfold set3 at HF fq0_ fq1_ fq2_ dq0_2 dq1_2 dq2_2
            clear hB hs hcl hpj hpq B2 B3 B4 hx hy hjL hqL
            go_wp2_with fail
            refine wp_region_held_drew (S := fun w' => True) (by kernel_rfl) trivial (fun hS => ?_)
            refine tV 0 ?_; refine tV 1 ?_; refine tV 2 ?_; refine tV 3 ?_; refine tV 4 ?_; refine tV 5 ?_; refine tV 6 ?_; refine tV 7 ?_; refine tV 8 ?_; refine tV 10 ?_; refine tV 11 ?_; refine tV 12 ?_
            refine rdy [9, 13] ?_
            refine rdC (fun K hK => ?_) ?_
            focus
              go_simp
              refine hK.out _ _ trivial (fun _ => ?_)
              clear hK K
              try simp only [Act.put, pz1, pz2, pz3]
              refine rdy [13] ?_
              refine rdC (fun K hK => ?_) AllReadyH.nil
              go_simp
              refine hK.out _ _ trivial (fun _ => ?_)
              clear hK K
              try simp only [Act.put, pz1, pz2, pz3]
            rotate_left 1
            refine rdC (fun K hK => ?_) AllReadyH.nil
            focus
              go_simp
              refine hK.out _ _ trivial (fun _ => ?_)
              clear hK K
              try simp only [Act.put, pz1, pz2, pz3]
              refine rdy [9] ?_
              refine rdC (fun K hK => ?_) AllReadyH.nil
              go_simp
              refine hK.out _ _ trivial (fun _ => ?_)
              clear hK K
              try simp only [Act.put, pz1, pz2, pz3]
            all_goals
              refine tV 14 ?_
              refine rdy [15] ?_
              refine rdC (fun K hK => ?_) AllReadyH.nil
              go_simp
              refine hK.out _ _ trivial (fun _ => ?_)
              clear hK K
              try simp only [Act.put, pz1, pz2, pz3]
              refine tV 16 ?_
              refine rdy [17] ?_
              refine rdC (fun K hK => ?_) AllReadyH.nil
              go_simp
              refine hK.out _ _ trivial (fun _ => ?_)
              clear hK K
              try simp only [Act.put, pz1, pz2, pz3]
              refine wpAnyH_done (by kernel_rfl) ?_ _
              go_wp2
              go_round
              case rel => exact ⟨q, swapP L2 j q, by omega, by omega, by first | rfl | go_num, Lib.hid HF.out.1, HM3, HI3, Lib.hid (HG5.out.trans HF.out.2)⟩
              case measure => simp [intOf]; omega
          · have HM3 := Lib.hid (show Mid L L2 a (i + 1) from (HMU.out.1.wide (Nat.le_refl _) (Nat.le_succ _)).trans HM2.out)
            have HU3 := Lib.hid (HI.out.stop entO_pre hji (.inr ⟨q, hq, by omega, by rw [HZ.out]; exact hz0⟩))
            clear hq hx hy hl2
            go_wp2_with fail
            refine wp_region_held_drew (S := fun w' => w'.cell? ⟨g, j * 3, none⟩ = some (.int .i64 x.ts) ∧ w'.cell? ⟨g, j * 3 + 1, none⟩ = some (.slice x.A x.n x.c) ∧ w'.cell? ⟨g, j * 3 + 2, none⟩ = some (.string x.ln) ∧ w'.cell? ⟨g, q * 3, none⟩ = some (.int .i64 y.ts) ∧ w'.cell? ⟨g, q * 3 + 1, none⟩ = some (.slice y.A y.n y.c) ∧ w'.cell? ⟨g, q * 3 + 2, none⟩ = some (.string y.ln)) (by kernel_rfl) ⟨dj0_, dj1_, dj2_, dq0_, dq1_, dq2_⟩ (fun hS => ?_)
            refine tV 0 ?_; refine tV 1 ?_; refine tV 2 ?_; refine tV 3 ?_; refine tV 4 ?_; refine tV 5 ?_; refine tV 6 ?_; refine tV 7 ?_; refine tH 8 ?_; refine tV 9 ?_; refine tV 10 ?_; refine tV 11 ?_; refine tV 12 ?_; refine tH 13 ?_
            refine rdy [14] ?_
            refine rdC (fun K hK => ?_) AllReadyH.nil
            go_simp
            go_at_call 53
            refine (OR.out _ (below_drewN (Below.refl _ _) 1)).mono ?_
            rintro e w5 ⟨rfl, hb5⟩
            have HB5 := Lib.hid (hop (below_drewN (Below.refl wr.heap.size wr) 1) (Nat.le_refl _) hb5)
            clear hb5
            have hS5 : w5.cell? ⟨g, j * 3, none⟩ = some (.int .i64 x.ts) ∧ w5.cell? ⟨g, j * 3 + 1, none⟩ = some (.slice x.A x.n x.c) ∧ w5.cell? ⟨g, j * 3 + 2, none⟩ = some (.string x.ln) ∧ w5.cell? ⟨g, q * 3, none⟩ = some (.int .i64 y.ts) ∧ w5.cell? ⟨g, q * 3 + 1, none⟩ = some (.slice y.A y.n y.c) ∧ w5.cell? ⟨g, q * 3 + 2, none⟩ = some (.string y.ln) := HSC.out w5 HB5.out
            refine hK.out _ _ hS5 (fun _ => ?_)
            clear hK K hS5
            try simp only [Act.put, pz1, pz2, pz3]
            refine tV 15 ?_; refine tV 16 ?_
            refine wpAnyH_done (by kernel_rfl) ?_ _
            have HS5 := Lib.hid (HS.out.below HB5.out)
            have HG5 := Lib.hid (HG.out.trans (FG.of_below HB5.out))
            clear hS OR HSC HB5 HZ dj0_ dj1_ dj2_ dq0_ dq1_ dq2_
            go_wp2
            go_round
            case rel => exact ⟨i + 1, L2, by first | rfl | go_num, by omega, Lib.hid (.inr ⟨by omega, by omega, HM3.out, HU3.out⟩), HS5, HG5⟩
            case measure => simp [intOf]; omega
    · have HR := Lib.hid (show Mid L L1 a b ∧ Up entO L1 a b from by
        rcases HM.out with ⟨rfl, rfl⟩ | ⟨_, h0, h1, h2⟩
        · exact ⟨Mid.refl _ _ _, Up.one _ (by omega)⟩
        · obtain rfl : i = b := by omega
          exact ⟨h1, h2⟩)
      go_wp2
      refine bodyPost_end (results_none rfl _ _ _) rfl ?_
      exact ⟨rfl, L1, HS.out, HR.out.1, HR.out.2, HG.out⟩
end Go.Proofs.YtdaainifkldcpaaGreatDoor.Se
