/- The walk of the law LogfmtBack: what is put of pairs that may be is told, all of it, in order; of one name the first is in the set. -/
import Derived.Test.YtimmfmgnjpcdoaaLogExam
import Derived.Test.YtimmfmgnjpcdoaaLogBackOf
import Derived.Test.YtimmfmgnjpcdoaaLabTags
namespace Go.Proofs.Ytimmfmgnjpcdoaa
open Go.RowKit
set_option linter.unusedVariables false
set_option linter.unusedSimpArgs false

def keptX (ts : List TagB) (j : Nat) : List PairB := (tagsL ts j).filter okF
theorem keptX_len (ts : List TagB) (j : Nat) : (keptX ts j).length ≤ j := Nat.le_trans (List.length_filter_le _ _) (tagsL_len ts j)
theorem keptX_next (ts : List TagB) (j : Nat) (hj : j < ts.length) : keptX ts (j + 1) = keptX ts j ++ if okF (tagP (ts.getD j default)) then [tagP (ts.getD j default)] else [] := by
  unfold keptX
  rw [tagsL_next ts j hj, List.filter_append, List.filter_cons, List.filter_nil]
theorem keptX_ok (ts : List TagB) (j : Nat) : ∀ p ∈ keptX ts j, nameB p.1 = true ∧ p.1.size ≤ 32 ∧ p.2.size ≤ 256 := by
  intro p hp
  have h := (List.mem_filter.1 hp).2
  unfold okF at h
  rw [Bool.and_eq_true] at h
  refine ⟨h.1, ?_, of_decide_eq_true h.2⟩
  have h2 := h.1
  unfold nameB at h2
  simp only [Bool.and_eq_true, decide_eq_true_iff] at h2
  exact h2.2.1
theorem join_mostB (k : Nat) : ∀ (ps : List PairB), (∀ p ∈ ps, (partL p).length ≤ k) → (Lib.join (ps.map partL) [32]).length ≤ ps.length * (k + 1)
  | [], _ => Nat.zero_le _
  | [p], h => by
    have := h p List.mem_cons_self
    rw [List.map_cons, List.map_nil, Lib.join_one]
    simp only [List.length_cons, List.length_nil]
    omega
  | p :: q :: r, h => by
    have h1 := h p List.mem_cons_self
    have h2 := join_mostB k (q :: r) (fun z hz => h z (List.mem_cons_of_mem _ hz))
    rw [List.map_cons, List.map_cons, join_more, List.length_append, List.length_append]
    rw [List.map_cons] at h2
    simp only [List.length_cons, List.length_nil, Nat.add_mul] at h2 ⊢
    omega
theorem kept_text (ts : List TagB) (j : Nat) (hj : j ≤ 40) : (lineT (keptX ts j)).size ≤ 100000 ∧ (joinB ⟨#[32]⟩ ((keptX ts j).map partT)).length ≤ 700000000 := by
  have hs := keptX_ok ts j
  have hl := keptX_len ts j
  have h1 := join_mostB 1100 (keptX ts j) (fun p hp => by
    have h2 := hs p hp
    have h3 := putS_size p.2
    have h4 : (putS p.2).size = (putB p.2.data.toList).length := by unfold putS; rfl
    have h5 : p.1.data.toList.length = p.1.size := rfl
    rw [partL_len, h5]
    omega)
  have h2 : (keptX ts j).length * (1100 + 1) ≤ 40 * 1101 := Nat.mul_le_mul_right _ (by omega)
  have h3 : (lineT (keptX ts j)).size = (joinB ⟨#[32]⟩ ((keptX ts j).map partT)).length := by unfold lineT; rfl
  have h4 : (lineT (keptX ts j)).size = (Lib.join ((keptX ts j).map partL) [32]).length := congrArg List.length (lineT_list _)
  omega
/-- is the name at i at none of the first k? -/
def firstQ (P : List PairB) (i k : Nat) : Bool := (List.range k).all (fun j => decide ((P.getD j pnil).1 ≠ (P.getD i pnil).1))
theorem firstQ_next (P : List PairB) (i k : Nat) : firstQ P i (k + 1) = (firstQ P i k && decide ((P.getD k pnil).1 ≠ (P.getD i pnil).1)) := by
  unfold firstQ
  rw [List.range_succ, List.all_append]
  simp
theorem firstQ_head (P : List PairB) (i : Nat) (hi : i < P.length) (h : firstQ P i i = true) : (P.filter (ofName (P.getD i pnil).1)).head? = some (P.getD i pnil) := by
  have e : P = P.take i ++ (P.getD i pnil) :: P.drop (i + 1) := by
    conv => lhs; rw [← List.take_append_drop i P]
    rw [List.drop_eq_getElem_cons hi, List.getD_eq_getElem?_getD, List.getElem?_eq_getElem hi]
    rfl
  have hn : (P.take i).filter (ofName (P.getD i pnil).1) = [] := by
    rw [List.filter_eq_nil_iff]
    intro p hp hc
    obtain ⟨j, hj, rfl⟩ := List.mem_iff_getElem.1 hp
    rw [List.length_take] at hj
    unfold firstQ at h
    rw [List.all_eq_true] at h
    have h2 := of_decide_eq_true (h j (List.mem_range.2 (by omega)))
    apply h2
    have h3 := of_decide_eq_true hc
    rw [List.getElem_take] at h3
    rw [List.getD_eq_getElem?_getD, List.getElem?_eq_getElem (by omega)]
    exact h3
  obtain ⟨q, hq⟩ : ∃ q, P.getD i pnil = q := ⟨_, rfl⟩
  rw [hq] at e hn ⊢
  rw [e, List.filter_append, hn, List.nil_append, List.filter_cons, if_pos (show ofName q.1 q = true from decide_eq_true rfl)]
  rfl
theorem getL_of {B : List PairB} (hR : B.Pairwise RiseP) {p : PairB} (h3 : p ∈ B) : getL B p.1 = some p.2 := by
  have hf : B.filter (ofName p.1) = [p] := by
    have hm : p ∈ B.filter (ofName p.1) := List.mem_filter.2 ⟨h3, decide_eq_true rfl⟩
    rcases one_of hR p.1 with e | ⟨q, hq2, e⟩
    · rw [e] at hm; cases hm
    · rw [e, List.mem_singleton] at hm
      rw [e, hm]
  unfold getL findL
  rw [← List.head?_filter]
  have e : B.filter (fun q => decide (q.1 = p.1)) = [p] := hf
  rw [e]
  rfl
theorem back_get {s : ByteArray} {P : List PairB} (hP : allF s = P) (h : (ofF s).length < 16) {i : Nat} (hi : i < P.length) : ∃ v, getL (ofF s) (P.getD i pnil).1 = some v ∧ (firstQ P i i = true → v = (P.getD i pnil).2) := by
  have hm : P.getD i pnil ∈ P := by
    rw [List.getD_eq_getElem?_getD, List.getElem?_eq_getElem hi]
    exact List.getElem_mem _
  obtain ⟨q, hq, hn, hh⟩ := ofF_name hP h hm
  have hR : (ofF s).Pairwise RiseP := by
    unfold ofF
    exact (ofL_rise _).sublist (List.take_sublist _ _)
  have hg := getL_of hR hq
  rw [hn] at hg
  refine ⟨_, hg, fun hf => ?_⟩
  rw [firstQ_head P i hi hf] at hh
  injection hh with hh
  rw [hh]
theorem back_all (ts : List TagB) (j : Nat) (hj : j ≤ 40) : allF (lineT (keptX ts j)) = keptX ts j := by
  have hl := keptX_len ts j
  exact all_line _ (fun p hp => by
    have := keptX_ok ts j p hp
    exact ⟨this.1, this.2.2⟩) (by omega)
set_option maxRecDepth 100000 in
set_option maxHeartbeats 3200000 in
theorem logfmtBack_walk {W : World} (A : Option Addr) (n c : Nat) (x : List TagB)
    (hx : TagsP W A n x) (hnc : n ≤ c) (hcm : c ≤ maxLen) :
    Calls Try.prog 4 #[.slice A n c] W fun e w' => e = .returned (.bool true) ∧ Below W.heap.size W w' := by
  have h0 : W.heap.size ≤ W.heap.size := Nat.le_refl _
  unfold maxLen at hcm
  obtain ⟨i0, hi, hz0, hz1, hz2⟩ := info_parts infoPair
  have HX := Lib.hid (logExamples_any W)
  have LN := Lib.hid (keptX_len x)
  have NX := Lib.hid (keptX_next x)
  have H1 := Lib.hid hx
  clear hx
  go_enter Try.func4, Try.ntmps4
  go_wp2_with fail
  refine HX.out.mono ?_
  rintro e w ⟨rfl, hb0⟩
  have HB0 := Lib.hid hb0
  have HX1 := Lib.hid (H1.out.below hb0)
  clear hb0 HX H1
  have hw0 : w.heap.size ≤ w.heap.size := Nat.le_refl _
  go_wp2
  go_loopw [4, 5] (fun sv iv wr => ∃ j : Nat, j ≤ n ∧ j ≤ 40 ∧ iv = .int .i64 j ∧ OwnP wr w.heap.size sv (keptX x j) ∧ Below w.heap.size w wr) (fun _ iv _ => 40 - (intOf iv).toNat)
  case atStart => exact ⟨0, Nat.zero_le _, Nat.zero_le _, rfl, OwnP.nil _ _, Below.refl _ _⟩
  case round =>
    obtain ⟨j, hjn, hjm, rfl, hown, hb⟩ := hrel
    have hsz := hb.size
    by_cases hj : j < n ∧ j < 40
    · obtain ⟨g1, g2⟩ := hj
      have h2 := HX1.out.below hb
      obtain ⟨b1, o1, rfl, hlt1, hc1⟩ := h2.2.2 (by omega)
      obtain ⟨c1, c2, c3, c4⟩ := hc1 j g1
      have hjl : j < x.length := by rw [h2.1]; exact g1
      have hks := NX.out j hjl
      have hkk := h2.2.1 (x.getD j default) (by
        rw [List.getD_eq_getElem?_getD, List.getElem?_eq_getElem hjl]
        exact List.getElem_mem _)
      obtain ⟨t, ht⟩ : ∃ p, x.getD j default = p := ⟨_, rfl⟩
      rw [ht] at c1 c2 c3 c4 hks hkk
      have TG := fun w => tag_any t hkk w
      have hjI : (j : Int) < (n : Int) := by omega
      have hjM : (j : Int) < 40 := by omega
      obtain ⟨L, hL⟩ : ∃ L, keptX x j = L := ⟨_, rfl⟩
      have hLl := LN.out j
      rw [hL] at hown hks hLl
      obtain ⟨⟨p1, p2⟩, hp⟩ : ∃ p, tagP t = p := ⟨_, rfl⟩
      rw [hp] at hks
      simp only [hp] at TG
      have NM := fun w => name_any p1 w
      have hok : okF (p1, p2) = (nameB p1 && decide (p2.size ≤ 256)) := rfl
      obtain ⟨nb, hnb⟩ : ∃ b, nameB p1 = b := ⟨_, rfl⟩
      simp only [hnb] at NM hok
      rw [hok] at hks
      have HKS := Lib.hid hks
      replace NM := Lib.hid NM
      obtain ⟨nm, vl, own, k⟩ := t
      dsimp only at c1 c2 c3 c4 TG
      replace TG := Lib.hid TG
      clear hks ht hL hc1 h2 hjl hkk hp hok hnb
      go_wp2_with fail
      refine (TG.out _).mono ?_
      rintro e w2 ⟨rfl, hx⟩
      have hb2 := hop hb hw0 hx
      have ho2 := hown.below hx
      have hs2 := hb2.size
      clear hx c1 c2 c3 c4 hown hb
      go_wp2_with fail
      refine (NM.out _).mono ?_
      rintro e w3 ⟨rfl, hx⟩
      have BB := (Blk.new w2 39 #[.string p1, .string p2]).below hx (Blk.new w2 39 #[.string p1, .string p2]).lt
      have f1 : w3.cell? ⟨w2.heap.size, 0, none⟩ = some (.string p1) := BB.cell 0
      have f2 : w3.cell? ⟨w2.heap.size, 1, none⟩ = some (.string p2) := BB.cell 1
      have hb3 := hop (hb2.alloc hs2 _) hw0 hx
      have ho3 := (ho2.alloc _).below hx
      have hs3 := hb3.size
      obtain ⟨g, hg⟩ : ∃ g, w2.heap.size = g := ⟨_, rfl⟩
      rw [hg] at f1 f2
      simp only [hg]
      clear hx BB ho2 hb2 hg hs2
      cases nb with
      | false =>
        have hE : keptX x (j + 1) = L := by rw [HKS.out]; simp
        have HE := Lib.hid hE
        clear hE
        go_wp2
        go_round
        case rel => exact ⟨j + 1, by omega, by omega, by go_num, by rw [HE.out]; exact ho3, hb3⟩
        case measure => simp [intOf]; omega
      | true =>
        by_cases hv : p2.size ≤ 256
        · have hvI : (p2.size : Int) ≤ 256 := by omega
          have HE := Lib.hid (show keptX x (j + 1) = L ++ [(p1, p2)] by rw [HKS.out, decide_eq_true hv]; simp)
          go_wp2_with (at_builtin; refine wpList_append_own _ rfl (.tmp 42) (.tmp 44) 26 rfl w.heap.size 39 i0 (.agg #[.string ⟨#[]⟩, .string ⟨#[]⟩]) 2 32 Try.underlying26 hi hz0 hz1 hz2 rfl (by decide) _ _ _ rfl (ho3.alloc _) ⟨w3.heap.size, 0, none⟩ 1 1 (pairV (p1, p2)) rfl rfl (new_cells_at _ _ _ _ (by simp)) (pairV_one _) (by unfold maxLen; omega) (by omega) (by simp; omega) ?_)
          intro v' w4 hown' hgrow _
          have hb4 := (hb3.alloc hs3 _).grown hgrow (by simp; omega) (fun r hr => (World.ownsRow.lt ho3 r hr).1)
          have hown3 := OwnP.snoc (p := (p1, p2)) hown'
          rw [← HE.out] at hown3
          clear hown' hgrow
          go_wp2
          go_round
          case rel => exact ⟨j + 1, by omega, by omega, by go_num, hown3, hb4⟩
          case measure => simp [intOf]; omega
        · have hvI : ¬ (p2.size : Int) ≤ 256 := by omega
          have HE := Lib.hid (show keptX x (j + 1) = L by rw [HKS.out, decide_eq_false hv]; simp)
          go_wp2
          go_round
          case rel => exact ⟨j + 1, by omega, by omega, by go_num, by rw [HE.out]; exact ho3, hb3⟩
          case measure => simp [intOf]; omega
    · have hends : (¬ (j : Int) < (n : Int)) ∨ ((j : Int) < (n : Int) ∧ ¬ (j : Int) < 40) := by omega
      have hHB := Lib.hid (hop HB0.out (Nat.le_refl _) hb)
      obtain ⟨A1, m, k1, rfl, hm, hq0, hp1⟩ := OwnP.capL hown
      have hFT := kept_text x j hjm
      have hSM := keptX_ok x j
      have hLl := LN.out j
      have hall := back_all x j hjm
      obtain ⟨P, hP⟩ : ∃ l, keptX x j = l := ⟨_, rfl⟩
      rw [hP] at hp1 hm hFT hSM hLl hall
      have hm40 : m ≤ 40 := by omega
      have PU := fun w h => logPut_any A1 m k1 P (by omega) hFT.2 (fun p hp => by have := hSM p hp; omega) w h
      have hs1 := hFT.1
      obtain ⟨s, hs⟩ : ∃ t, lineT P = t := ⟨_, rfl⟩
      simp only [hs] at PU hs1 hall
      have AL := fun w => all_any s (by omega) w
      have OA := fun w => logOf_any s (by omega) w
      have BG := fun (h : (ofF s).length < 16) i (hi : i < P.length) => back_get hall h hi
      have hR := ofF_right s
      simp only [hall] at AL
      obtain ⟨la, hla⟩ : ∃ l, ofF s = l := ⟨_, rfl⟩
      simp only [hla] at OA BG hR
      replace PU := Lib.hid (PU _ hp1)
      have HP1 := Lib.hid hp1
      replace OA := Lib.hid OA
      replace AL := Lib.hid AL
      replace BG := Lib.hid BG
      have HM := Lib.hid hm
      clear hs hla hP hFT hSM hm hLl hown hp1 hj LN NX HB0 HX1 hb hsz hq0 hall hs1
      rcases hends with e1 | ⟨e1, e2⟩
      all_goals
        go_wp2_with fail
        refine PU.out.mono ?_
        rintro e w3 ⟨rfl, hx⟩
        have HB3 := Lib.hid (hop hHB.out (Nat.le_refl _) hx)
        have HP3 := Lib.hid (HP1.out.below hx)
        clear hx PU hHB HP1
        go_wp2_with fail
        refine (AL.out _).mono ?_
        rintro e w4 ⟨v, rfl, hown, hx⟩
        obtain ⟨A4, n4, k4, rfl, hn4, hq0, hp4⟩ := OwnP.capL hown
        rw [← HM.out] at hn4
        subst hn4
        have HB4 := Lib.hid (hop HB3.out (Nat.le_refl _) hx)
        have HP4 := Lib.hid (HP3.out.below hx)
        have HQ4 := Lib.hid hp4
        clear hx HB3 HP3 AL hown hq0 hp4
        go_wp2_with fail
        refine (OA.out _).mono ?_
        rintro e w5 ⟨Ab, nb, cb, rfl, hnb, hpb, _, hx⟩
        have HB5 := Lib.hid (hop HB4.out (Nat.le_refl _) hx)
        have HP5 := Lib.hid (HP4.out.below hx)
        have HQ5 := Lib.hid (HQ4.out.below hx)
        clear hx HB4 HP4 HQ4 OA
        have hla := hpb.out.1
        go_wp2
        go_loopw [10] (fun iv wq => ∃ i : Nat, i ≤ n4 ∧ iv = .int .i64 i ∧ Hid (Below w5.heap.size w5 wq)) (fun iv _ => n4 - (intOf iv).toNat)
        case atStart => exact ⟨0, Nat.zero_le _, rfl, Lib.hid (Below.refl _ _)⟩
        case round =>
          obtain ⟨i, hin, rfl, HB⟩ := hrel
          by_cases hi : i < n4
          · have hiI : (i : Int) < (n4 : Int) := by omega
            have hpw := HP5.out.below HB.out
            obtain ⟨b1, o1, rfl, hlt1, hc1⟩ := hpw.2 (by omega)
            have hqw := HQ5.out.below HB.out
            obtain ⟨b2, o2, rfl, hlt2, hc2⟩ := hqw.2 (by omega)
            obtain ⟨e1, e2⟩ := hc1 i hi
            obtain ⟨d1, d2⟩ := hc2 i hi
            have HC1 := Lib.hid hc1
            obtain ⟨⟨p1, p2⟩, hp⟩ : ∃ p, P.getD i pnil = p := ⟨_, rfl⟩
            rw [hp] at e1 e2 d1 d2
            have HPI := Lib.hid hp
            dsimp only at e1 e2 d1 d2
            clear hpw hqw hc1 hc2 hp
            go_wp2
            go_quiet (fail)
            go_wp2
            obtain ⟨v0, hv0⟩ : ∃ v, v = wr := ⟨_, rfl⟩
            subst hv0
            go_loopw [11, 12] (fun fv kv wq => ∃ k : Nat, k ≤ i ∧ kv = .int .i64 k ∧ fv = .bool (firstQ P i k) ∧ Below v0.heap.size v0 wq) (fun _ kv _ => i - (intOf kv).toNat)
            case atStart => exact ⟨0, Nat.zero_le _, rfl, rfl, by first | exact Below.refl _ _ | exact below_drewN (Below.refl _ _) _⟩
            case round =>
              obtain ⟨k, hki, rfl, HLV, hbr⟩ := hrel
              by_cases hk : k < i
              · have hkI : (k : Int) < (i : Int) := by omega
                have hkN : (k : Int) < (n4 : Int) := by omega
                have ck := (hbr.cell (p := ⟨b1, o1 + k * 2, none⟩) hlt1).trans (HC1.out k (by omega)).1
                have ci := (hbr.cell (p := ⟨b1, o1 + i * 2, none⟩) hlt1).trans e1
                have hnx := firstQ_next P i k
                obtain ⟨pk, hpk⟩ : ∃ p, (P.getD k pnil).1 = p := ⟨_, rfl⟩
                rw [hpk] at ck hnx
                rw [HPI.out] at hnx
                dsimp only at hnx
                obtain ⟨lb, hlb⟩ : ∃ b, firstQ P i k = b := ⟨_, rfl⟩
                rw [hlb] at HLV hnx
                subst HLV
                replace hnx := Lib.hid hnx
                clear hpk hlb
                cases lb with
                | false =>
                  have HE := Lib.hid (show firstQ P i (k + 1) = false from hnx.out)
                  clear hnx
                  go_wp2
                  try go_quiet (fail)
                  try go_wp2
                  go_round
                  case rel => exact ⟨k + 1, by omega, by go_num, by rw [HE.out], by first | exact hbr | exact below_drewN hbr _⟩
                  case measure => simp [intOf]; omega
                | true =>
                  by_cases hq : pk = p1
                  · subst hq
                    have HE := Lib.hid (show firstQ P i (k + 1) = false by rw [hnx.out]; simp)
                    clear hnx
                    go_wp2
                    try go_quiet (fail)
                    try go_wp2
                    go_round
                    case rel => exact ⟨k + 1, by omega, by go_num, by rw [HE.out], by first | exact hbr | exact below_drewN hbr _⟩
                    case measure => simp [intOf]; omega
                  · have HE := Lib.hid (show firstQ P i (k + 1) = true by rw [hnx.out, decide_eq_true hq]; rfl)
                    have hql : ¬ pk.toList = p1.toList := fun h => hq (text_ext1 (by rw [Lib.toList_data, Lib.toList_data] at h; exact h))
                    have hqB : (pk.toList == p1.toList) = false := by rw [beq_eq_false_iff_ne]; exact hql
                    clear hnx hq
                    go_wp2
                    try go_quiet (fail)
                    try go_wp2
                    go_round
                    case rel => exact ⟨k + 1, by omega, by go_num, by rw [HE.out], by first | exact hbr | exact below_drewN hbr _⟩
                    case measure => simp [intOf]; omega
              · obtain rfl : i = k := by omega
                have hki2 : ¬ (i : Int) < (i : Int) := by omega
                have ci := (hbr.cell (p := ⟨b1, o1 + i * 2, none⟩) hlt1).trans e1
                have cv := (hbr.cell (p := ⟨b1, o1 + i * 2 + 1, none⟩) hlt1).trans e2
                have hlt3 : b1 < wr.heap.size := Nat.lt_of_lt_of_le hlt1 hbr.size
                have HBR := Lib.hid (hop HB.out (Nat.le_refl _) hbr)
                have G := labGet_any Ab nb cb la p1 (by omega) wr (hpb.out.below HBR.out)
                have hB := fun (h : la.length < 16) => BG.out h i (by have := HP5.out.1; omega)
                rw [HPI.out] at hB
                dsimp only at hB
                obtain ⟨fb, hfb⟩ : ∃ b, firstQ P i i = b := ⟨_, rfl⟩
                rw [hfb] at HLV hB
                subst HLV
                clear hfb hbr e1 e2 d1 d2 hk
                by_cases h16 : nb < 16
                · have h16I : (nb : Int) < 16 := by omega
                  obtain ⟨v, hg, hf⟩ := hB (by omega)
                  rw [hg] at G
                  replace G := Lib.hid G
                  clear hg hB
                  go_wp2_with fail
                  refine G.out.mono ?_
                  rintro e w7 ⟨rfl, hx⟩
                  have g2 : w7.cell? ⟨b1, o1 + i * 2 + 1, none⟩ = some (.string p2) := (hx.cell (p := ⟨b1, o1 + i * 2 + 1, none⟩) hlt3).trans cv
                  have HB7 := Lib.hid (hop HBR.out (Nat.le_refl _) hx)
                  clear hx ci cv G
                  cases fb with
                  | false =>
                    clear hf
                    go_wp2
                    try go_quiet (fail)
                    try go_wp2
                    go_round
                    case rel => exact ⟨i + 1, by omega, by go_num, Lib.hid (by first | exact HB7.out | exact below_drewN HB7.out _)⟩
                    case measure => simp [intOf]; omega
                  | true =>
                    obtain rfl : v = p2 := hf rfl
                    clear hf
                    go_wp2
                    try go_quiet (fail)
                    try go_wp2
                    go_round
                    case rel => exact ⟨i + 1, by omega, by go_num, Lib.hid (by first | exact HB7.out | exact below_drewN HB7.out _)⟩
                    case measure => simp [intOf]; omega
                · have h16I : ¬ (nb : Int) < 16 := by omega
                  obtain ⟨T, hT⟩ : ∃ T, getL la p1 = T := ⟨_, rfl⟩
                  rw [hT] at G
                  replace G := Lib.hid G
                  clear hT hB
                  go_wp2_with fail
                  refine G.out.mono ?_
                  rintro e w7 ⟨rfl, hx⟩
                  have HB7 := Lib.hid (hop HBR.out (Nat.le_refl _) hx)
                  clear hx ci cv G
                  go_wp2
                  try go_quiet (fail)
                  try go_wp2
                  go_round
                  case rel => exact ⟨i + 1, by omega, by go_num, Lib.hid (by first | exact HB7.out | exact below_drewN HB7.out _)⟩
                  case measure => simp [intOf]; omega
          · obtain rfl : n4 = i := by omega
            have HB7 := Lib.hid (hop HB5.out (Nat.le_refl _) HB.out)
            have hnl : ¬ (n4 : Int) < (n4 : Int) := by omega
            have RT := right_any Ab nb cb la (by omega) _ (hpb.out.below HB.out)
            rw [hR] at RT
            replace RT := Lib.hid RT
            clear hi HB
            go_wp2_with fail
            refine RT.out.mono ?_
            rintro e w8 ⟨rfl, hx⟩
            have hb8 := hop HB7.out (Nat.le_refl _) hx
            clear hx
            go_wp2
            go_ret
            exact ⟨by first | rfl | simp, hb8⟩
end Go.Proofs.Ytimmfmgnjpcdoaa
