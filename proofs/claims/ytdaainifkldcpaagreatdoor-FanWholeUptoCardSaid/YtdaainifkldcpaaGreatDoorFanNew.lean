-- shaken
import Derived.Test.YtdaainifkldcpaaGreatDoorFanPut
namespace Go.Proofs.YtdaainifkldcpaaGreatDoor
open Go.RowKit
set_option linter.unusedVariables false
set_option linter.unusedSimpArgs false
def numV (z : Int) : List Value := [.int .i64 z]
def Num64z (z : Int) : Prop := -9223372036854775808 ≤ z ∧ z ≤ 9223372036854775807
theorem nodup_len : ∀ (n : Nat) (ord : List Nat), ord.Nodup → (∀ i ∈ ord, i < n) → ord.length ≤ n
  | 0, ord, _, h => by
    cases ord with
    | nil => exact Nat.le_refl _
    | cons x l => exact absurd (h x List.mem_cons_self) (by omega)
  | n + 1, ord, hn, h => by
    have h1 := nodup_len n (ord.erase n) (hn.erase n) (fun i hi => by
      have h2 := hn.mem_erase_iff.1 hi
      have := h i h2.2
      have := h2.1
      omega)
    by_cases hm : n ∈ ord
    · rw [List.length_erase_of_mem hm] at h1
      omega
    · rw [List.erase_of_not_mem hm] at h1
      omega
theorem OrdP.len {n : Nat} {ord : List Nat} (h : OrdP n ord) : ord.length ≤ n := nodup_len n ord h.once h.low
set_option maxHeartbeats 1600000 in
theorem ordFan_any (f N : Nat) (RA : Option Addr) (rc : Nat) (ov : Value) (A : Option Addr) (n c : Nat) (l : List Int) (hN : N ≤ 4) (hn : n ≤ 9223372036854775807) (hl : ∀ z ∈ l, Num64z z) (W : World) (h : Blk W f 115 #[.slice RA N rc, ov]) (hr : RowR numV 1 W A n l) (hrf : ∀ b o, A = some ⟨b, o, none⟩ → b ≠ f) :
    Calls Tryz.prog 16 #[.pointer (some ⟨f, 0, none⟩), .slice A n c] W fun e w' => e = .returned (.tuple #[]) ∧ ∃ ov', MakeO W.heap.size f W w' (.slice RA N rc) ov' (orderO N l) := by
  have hfl := h.lt
  have f1_ := h.frozen 1
  have o1_ : W.cell? ⟨f, 1, none⟩ = some ov := (h.cell 1).trans rfl
  obtain ⟨G, hG⟩ : ∃ G, W.heap.size = G := ⟨_, rfl⟩
  have HM0 := Lib.hid (show MakeO G f W (W.setCell ⟨f, 1, none⟩ (.slice none 0 0)) (.slice RA N rc) (.slice none 0 0) (firstO N (l.take 0)) from
    ⟨h.set_ 1 _, OwnR.nil _ _ _, Se.FG.set_ 1 _⟩)
  have HR := Lib.hid hr
  have HL := Lib.hid hl
  have LN := Lib.hid hr.1
  have HG := Lib.hid hG
  have HRF := Lib.hid hrf
  rw [hG] at hfl
  have MA := Lib.hid (fun w ov' (hb : Blk w f 115 #[.slice RA N rc, ov']) => manyFan_any f (.slice RA N rc) ov' RA N rc rfl w hb)
  have PU := Lib.hid (fun w ov' ord (p : Nat) (hp : p ≤ 1000) (hl : ord.length ≤ 1000) (hm : MakeO G f W w (.slice RA N rc) ov' ord) => put_ord G f (.slice RA N rc) ov' ord p hp hl W w hG.symm hfl hm)
  rw [hG]
  clear h hr hl hrf hG
  go_enter Tryz.func16, Tryz.ntmps16
  go_wp2
  go_loopw [12] (fun iv wr => ∃ (j : Nat) (ov' : Value), j ≤ n ∧ iv = .int .i64 (j : Nat) ∧ Hid (MakeO G f W wr (.slice RA N rc) ov' (firstO N (l.take j)))) (fun iv _ => n - (intOf iv).toNat)
  case atStart => exact ⟨0, _, Nat.zero_le _, rfl, HM0⟩
  case round =>
    clear HM0 f1_ o1_
    obtain ⟨j, ov', hjn, rfl, HM⟩ := hrel
    have OK := first_ok N (l.take j)
    have hlen : (firstO N (l.take j)).length ≤ 1000 := by have := OK.len; omega
    by_cases hj : j < n
    · have jI : (j : Int) < (n : Int) := by omega
      obtain ⟨z, hz⟩ : ∃ z, l[j]? = some z := ⟨_, List.getElem?_eq_getElem (by rw [LN.out]; exact hj)⟩
      have NX := Lib.hid (first_next N l j z hz)
      have hz64 := HL.out z (List.mem_of_getElem? hz)
      unfold Num64z at hz64
      obtain ⟨b, o, hA, hlt, hcc⟩ := HR.out.2 (by omega)
      subst hA
      have hbf := HRF.out b o rfl
      have c0_ : wr.cell? ⟨b, o + j, none⟩ = some (.int .i64 z) := by
        have := hcc j 0 z hz (by decide)
        rw [Nat.mul_one, Nat.add_zero] at this
        exact (World.cell?_of_block (a := ⟨b, o + j, none⟩) (HM.out.fg.block b hlt hbf)).trans this
      obtain ⟨ord, hord⟩ : ∃ q, firstO N (l.take j) = q := ⟨_, rfl⟩
      rw [hord] at NX HM hlen
      clear hcc hz OK hord hlt
      by_cases hz1 : 1 ≤ z
      · have g1 : z ≥ 1 := hz1
        have g2 : decide (z ≥ 1) = true := decide_eq_true hz1
        have MA1 := Lib.hid (MA.out wr ov' HM.out.blk)
        by_cases hz2 : z ≤ (N : Int)
        · have g3 : decide (z ≤ (N : Int)) = true := decide_eq_true hz2
          obtain ⟨p, hp⟩ : ∃ p : Nat, z - 1 = (p : Int) := ⟨(z - 1).toNat, by omega⟩
          have hw1 : IntKind.i64.wrap (z - 1) = (p : Int) := by rw [IntKind.wrap_i64]; omega
          have NX2 := Lib.hid (show firstO N (l.take (j + 1)) = putO ord p from by
            rw [NX.out, if_pos ⟨hz1, hz2⟩, hp]
            rfl)
          have PU1 := Lib.hid (PU.out wr ov' ord p (by omega) hlen HM.out)
          clear NX hp
          go_wp2_with fail
          refine MA1.out.mono ?_
          rintro e w2 ⟨rfl, rfl⟩
          go_wp2_with fail
          refine PU1.out.mono ?_
          rintro e w3 ⟨rfl, ov2, hm⟩
          have HM3 := Lib.hid (show MakeO G f W w3 (.slice RA N rc) ov2 (firstO N (l.take (j + 1))) from by rw [NX2.out]; exact hm)
          clear hm PU1 MA1 HM
          go_wp2
          go_round
          case rel => exact ⟨j + 1, _, by omega, by go_num, HM3⟩
          case measure => first | (simp [intOf]; done) | (simp [intOf]; omega)
        · have g3 : decide (z ≤ (N : Int)) = false := decide_eq_false hz2
          have HM3 := Lib.hid (show MakeO G f W wr (.slice RA N rc) ov' (firstO N (l.take (j + 1))) from by
            rw [NX.out, if_neg (fun h => hz2 h.2)]
            exact HM.out)
          clear NX
          go_wp2_with fail
          refine MA1.out.mono ?_
          rintro e w2 ⟨rfl, rfl⟩
          go_wp2
          go_round
          case rel => exact ⟨j + 1, _, by omega, by go_num, HM3⟩
          case measure => first | (simp [intOf]; done) | (simp [intOf]; omega)
      · have g1 : ¬ z ≥ 1 := hz1
        have g2 : decide (z ≥ 1) = false := decide_eq_false hz1
        have HM3 := Lib.hid (show MakeO G f W wr (.slice RA N rc) ov' (firstO N (l.take (j + 1))) from by
          rw [NX.out, if_neg (fun h => hz1 h.1)]
          exact HM.out)
        clear NX
        go_wp2
        go_round
        case rel => exact ⟨j + 1, _, by omega, by go_num, HM3⟩
        case measure => first | (simp [intOf]; done) | (simp [intOf]; omega)
    · have jI : ¬ (j : Int) < (n : Int) := by omega
      have HMR := Lib.hid (show MakeO G f W wr (.slice RA N rc) ov' (restO (firstO N l) 0) from by
        have h1 : firstO N (l.take j) = firstO N l := by rw [List.take_of_length_le (by rw [LN.out]; omega)]
        rw [← h1]
        exact HM.out)
      have c0_ : wr.cell? ⟨f, 0, none⟩ = some (.slice RA N rc) := (HM.out.blk.cell 0).trans rfl
      obtain ⟨ord0, hord⟩ : ∃ q, firstO N l = q := ⟨_, rfl⟩
      have OK0 := Lib.hid (show OrdP N ord0 from by rw [← hord]; exact first_ok N l)
      have FIN := Lib.hid (show orderO N l = restO ord0 N from by rw [← hord]; rfl)
      rw [hord] at HMR
      clear OK hlen hord HM
      obtain ⟨v0, hv0⟩ : ∃ v, v = wr := ⟨_, rfl⟩
      subst hv0
      go_wp2
      go_loopw [34] (fun iv wr => ∃ (j : Nat) (ov' : Value), j ≤ N ∧ iv = .int .i64 (j : Nat) ∧ Hid (MakeO G f W wr (.slice RA N rc) ov' (restO ord0 j))) (fun iv _ => N - (intOf iv).toNat)
      case atStart => exact ⟨0, _, Nat.zero_le _, rfl, HMR⟩
      case round =>
        clear HMR c0_
        obtain ⟨i, ov2, hiN, rfl, HM⟩ := hrel
        have hlen : (restO ord0 i).length ≤ 1000 := by have := (rest_ok OK0.out i hiN).1.len; omega
        by_cases hi : i < N
        · have iI : (i : Int) < (N : Int) := by omega
          have PU1 := Lib.hid (PU.out wr ov2 (restO ord0 i) i (by omega) hlen HM.out)
          have NX := Lib.hid (rest_next ord0 i)
          clear hlen
          go_wp2_with fail
          refine PU1.out.mono ?_
          rintro e w3 ⟨rfl, ov3, hm⟩
          have HM3 := Lib.hid (show MakeO G f W w3 (.slice RA N rc) ov3 (restO ord0 (i + 1)) from by rw [NX.out]; exact hm)
          clear hm PU1 HM
          go_wp2
          go_round
          case rel => exact ⟨i + 1, _, by omega, by go_num, HM3⟩
          case measure => first | (simp [intOf]; done) | (simp [intOf]; omega)
        · have iI : ¬ (i : Int) < (N : Int) := by omega
          have iN : i = N := by omega
          subst iN
          clear hlen
          go_wp2
          refine bodyPost_end (results_none rfl _ _ _) rfl ?_
          exact ⟨rfl, _, by rw [FIN.out]; exact HM.out⟩
theorem any_some (l : List Nat) : (l.map some).any Option.isNone = false := by
  induction l with
  | nil => rfl
  | cons x l ih => rw [List.map_cons, List.any_cons, ih]; rfl
set_option maxHeartbeats 1600000 in
theorem fanNew_any (B : Nat) (A : Option Addr) (n c : Nat) (Rs : List ReplX) (h1 : 1 ≤ n) (h4 : n ≤ 4) (W : World) (hB : B ≤ W.heap.size) (hr : RowR ptrV 1 W A n (Rs.map ReplX.b)) (hp : RepsP B W Rs) :
    Calls Tryz.prog 24 #[.slice A n c] W fun e w' => ∃ f rv ov, e = .returned (.tuple #[.pointer (some ⟨f, 0, none⟩), .int .i64 0]) ∧ FanP B w' f Rs (List.range n) rv ov ∧ W.heap.size ≤ f ∧ Below W.heap.size W w' := by
  have CP := Lib.hid (containsP_any A n c ((Rs.map ReplX.b).map some) (by omega) W (row_some hr))
  rw [any_some] at CP
  have CL := Lib.hid (cloneP_any A n c (Rs.map ReplX.b) (by omega) W hr)
  have HP := Lib.hid hp
  have hlen : Rs.length = n := by have := hr.1; rwa [List.length_map] at this
  have HLN := Lib.hid hlen
  have n1 : ¬ (n : Int) < 1 := by omega
  have n4 : ¬ (n : Int) > 4 := by omega
  have n4b : ¬ (4 : Int) < (n : Int) := by omega
  clear hr hp hlen
  go_enter Tryz.func24, Tryz.ntmps24
  go_wp2_with fail
  refine CP.out.mono ?_
  rintro e w2 ⟨rfl, rfl⟩
  go_wp2_with fail
  refine CL.out.mono ?_
  rintro e w2 ⟨rv, rfl, ho, hb⟩
  obtain ⟨RA, rc, hrv⟩ := OwnR.shape ho
  rw [List.length_map, HLN.out] at hrv
  subst hrv
  obtain ⟨f, hf⟩ : ∃ g, w2.heap.size = g := ⟨_, rfl⟩
  have K := Lib.hid (show Blk (w2.alloc (.cells #[.slice RA n rc, .slice none 0 0] 115)) f 115 #[.slice RA n rc, .slice none 0 0] from by rw [← hf]; exact Blk.new _ _ _)
  have hb3 : Below w2.heap.size w2 (w2.alloc (.cells #[.slice RA n rc, .slice none 0 0] 115)) := (Below.refl _ _).alloc (Nat.le_refl _) _
  obtain ⟨w3, hw3⟩ : ∃ z, w2.alloc (.cells #[.slice RA n rc, .slice none 0 0] 115) = z := ⟨_, rfl⟩
  rw [hw3] at K hb3
  have hsz := hb.size
  have HO := Lib.hid (OwnR.below ho hb3)
  have HB3 := Lib.hid (hop hb (Nat.le_refl _) hb3)
  have HP3 := Lib.hid (HP.out.below HB3.out)
  have OR := Lib.hid (ordFan_any f n RA rc (.slice none 0 0) none 0 0 [] h4 (by omega) (fun z hz => by cases hz) w3 K.out (RowR.none _) (fun b o e => by cases e))
  have hWf : W.heap.size ≤ f := by omega
  have HW3 := Lib.hid hw3
  have HF := Lib.hid hf
  clear ho hb hb3 hw3 hf CP CL HP
  go_wp2_with fail
  (try rw [HW3.out, HF.out])
  refine OR.out.mono ?_
  rintro e w4 ⟨rfl, ov, hm⟩
  have FIN := Lib.hid (show FanP B w4 f Rs (List.range n) (.slice RA n rc) ov ∧ Below W.heap.size W w4 from by
    have hf3 := K.out.lt
    refine ⟨⟨hm.blk, OwnR.mono (OwnR.fgT HO.out hm.fg K.out (by decide)) hB, ?_, ⟨fun x hx => ?_, HP3.out.apart⟩, Nat.le_trans hB hWf, fun i hi => by rw [HLN.out]; exact List.mem_range.1 hi⟩, ?_⟩
    · have h2 := OwnR.mono hm.plc (Nat.le_trans hB HB3.out.size)
      rwa [show orderO n [] = List.range n from range_rest n] at h2
    · refine (HP3.out.all x hx).fg hm.fg K.out (fun e => ?_) (by decide) (by decide) (by decide)
      have h2 := (HP3.out.all x hx).blk
      have h3 := K.out
      rw [e] at h2
      unfold Blk at h2 h3
      rw [h2] at h3
      injection h3 with h3
      injection h3 with _ h3 _
      exact absurd h3 (by decide)
    · exact hm.fg.below HB3.out hWf HB3.out.size)
  clear hm K HO HB3 HP3 OR HW3 HF
  go_wp2
  go_ret2
  exact ⟨f, _, _, rfl, FIN.out.1, hWf, FIN.out.2⟩
theorem sum_le (l : List Nat) (m : Nat) (h : ∀ k ∈ l, k ≤ m) : l.sum ≤ m * l.length := by
  induction l with
  | nil => exact Nat.le_refl _
  | cons x l ih =>
    have h1 := h x List.mem_cons_self
    have h2 := ih (fun k hk => h k (List.mem_cons_of_mem _ hk))
    rw [List.sum_cons, List.length_cons, Nat.mul_succ]
    omega
def callsX (Rs : List ReplX) : Nat := (Rs.map ReplX.k).sum
set_option maxHeartbeats 1600000 in
theorem fanCalls_any (B f : Nat) (Rs : List ReplX) (ord : List Nat) (rv ov : Value) (hn : Rs.length ≤ 4) (hk : ∀ x ∈ Rs, x.k ≤ 1000000) (W : World) (h : FanP B W f Rs ord rv ov) :
    Calls Tryz.prog 20 #[.pointer (some ⟨f, 0, none⟩)] W fun e w' => W = w' ∧ e = .returned (.int .i64 (callsX Rs : Int)) := by
  obtain ⟨A, c, hv, _, _, hrow⟩ := OwnR.open ptrV_len h.row
  rw [List.length_map] at hv hrow
  subst hv
  obtain ⟨n, hn2⟩ : ∃ n, Rs.length = n := ⟨_, rfl⟩
  rw [hn2] at hrow hn h
  have c0_ : W.cell? ⟨f, 0, none⟩ = some (.slice A n c) := (h.blk.cell 0).trans rfl
  have HR := Lib.hid hrow
  have HF := Lib.hid h
  have LN := Lib.hid hn2
  have HK := Lib.hid hk
  clear h hrow hk hn2
  go_enter Tryz.func20, Tryz.ntmps20
  go_wp2
  go_loopw [3, 11] (fun sv iv wr => ∃ j : Nat, j ≤ n ∧ iv = .int .i64 (j : Nat) ∧ sv = .int .i64 ((callsX (Rs.take j) : Nat) : Int) ∧ W = wr) (fun _ iv _ => n - (intOf iv).toNat)
  case atStart => exact ⟨0, Nat.zero_le _, rfl, rfl, rfl⟩
  case round =>
    obtain ⟨j, hjn, rfl, rfl, rfl⟩ := hrel
    by_cases hj : j < n
    · have jI : (j : Int) < (n : Int) := by omega
      obtain ⟨x, hx⟩ : ∃ x, Rs[j]? = some x := ⟨_, List.getElem?_eq_getElem (by rw [LN.out]; exact hj)⟩
      have hsum : callsX (Rs.take (j + 1)) = callsX (Rs.take j) + x.k := by
        unfold callsX
        rw [List.take_add_one, hx, List.map_append, List.sum_append]
        simp
      have hle : callsX (Rs.take (j + 1)) ≤ 1000000 * (Rs.take (j + 1)).length := by
        unfold callsX
        refine Nat.le_trans (sum_le _ 1000000 (fun k hk => ?_)) (by rw [List.length_map]; exact Nat.le_refl _)
        obtain ⟨y, hy, rfl⟩ := List.mem_map.1 hk
        exact HK.out y (List.mem_of_mem_take hy)
      rw [List.length_take] at hle
      obtain ⟨s, hs⟩ : ∃ s, callsX (Rs.take j) = s := ⟨_, rfl⟩
      have HS2 := Lib.hid hsum
      rw [hs] at hsum HS2 ⊢
      have hw : IntKind.i64.wrap ((s : Int) + (x.k : Int)) = (s : Int) + (x.k : Int) := by rw [IntKind.wrap_i64]; omega
      obtain ⟨b, o, hA, hlt, hcc⟩ := HR.out.2 (by omega)
      subst hA
      have p0_ : W.cell? ⟨b, o + j, none⟩ = some (.pointer (some ⟨x.b, 0, none⟩)) := by
        have := hcc j 0 x.b (by rw [List.getElem?_map, hx]; rfl) (by decide)
        rw [Nat.mul_one, Nat.add_zero] at this
        exact this
      have CA := Lib.hid (calls_any B x.b x.S x.k x.L x.rv x.lv W (HF.out.reps.all x (List.mem_of_getElem? hx)))
      have SEQ := Lib.hid (show ((s : Int) + (x.k : Int)) = ((callsX (Rs.take (j + 1)) : Nat) : Int) from by rw [HS2.out]; omega)
      clear hcc hx hsum hle hs hlt
      go_wp2_with fail
      refine CA.out.mono ?_
      rintro e w2 ⟨rfl, rfl⟩
      go_wp2
      go_round
      case rel => exact ⟨j + 1, by omega, by go_num, by rw [SEQ.out], by first | rfl | trivial⟩
      case measure => first | (simp [intOf]; done) | (simp [intOf]; omega)
    · have jI : ¬ (j : Int) < (n : Int) := by omega
      have FIN : Rs.take j = Rs := List.take_of_length_le (by rw [LN.out]; omega)
      rw [FIN]
      clear FIN
      go_wp2
      go_ret
      exact ⟨rfl, rfl⟩
end Go.Proofs.YtdaainifkldcpaaGreatDoor
