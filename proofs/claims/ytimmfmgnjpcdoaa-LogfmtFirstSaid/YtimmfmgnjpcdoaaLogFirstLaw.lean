/- The walk of the law LogfmtFirst: of one name the first field is in the set, whatever stands behind. -/
import Derived.Test.YtimmfmgnjpcdoaaLogExam
import Derived.Test.YtimmfmgnjpcdoaaLogLine
import Derived.Test.YtimmfmgnjpcdoaaLogBackOf
import Derived.Test.YtimmfmgnjpcdoaaLabTags
namespace Go.Proofs.Ytimmfmgnjpcdoaa
open Go.RowKit
set_option linter.unusedVariables false
set_option linter.unusedSimpArgs false

def ownT (t : TagB) : TagB := { t with own := true }
def ownL (ts : List TagB) (j : Nat) : List PairB := (ts.take j).map (fun t => tagP (ownT t))
theorem ownL_len (ts : List TagB) (j : Nat) : (ownL ts j).length ≤ j := by
  unfold ownL
  rw [List.length_map, List.length_take]
  omega
theorem ownL_next (ts : List TagB) (j : Nat) (hj : j < ts.length) : ownL ts (j + 1) = ownL ts j ++ [tagP (ownT (ts.getD j default))] := by
  unfold ownL
  rw [List.take_succ_eq_append_getElem hj, List.map_append, List.getD_eq_getElem?_getD, List.getElem?_eq_getElem hj]
  rfl
theorem own_small (t : TagB) : nameB (tagP (ownT t)).1 = true ∧ (tagP (ownT t)).1.size ≤ 3 ∧ (tagP (ownT t)).2.size ≤ 3 := by
  have h1 : ∀ i : Fin 5, nameB (tagNs.getD i.val .empty) = true ∧ (tagNs.getD i.val .empty).size ≤ 3 := by decide +kernel
  have h2 : ∀ i : Fin 8, (tagVs.getD i.val .empty).size ≤ 3 := by decide +kernel
  have a := h1 ⟨t.k % 5, by omega⟩
  have b := h2 ⟨t.k / 5 % 8, by omega⟩
  exact ⟨a.1, a.2, b⟩
theorem ownL_small (ts : List TagB) (j : Nat) : ∀ p ∈ ownL ts j, nameB p.1 = true ∧ p.1.size ≤ 3 ∧ p.2.size ≤ 3 := by
  intro p hp
  unfold ownL at hp
  obtain ⟨t, _, rfl⟩ := List.mem_map.1 hp
  exact own_small t
/-- what the two sets are to each other -/
theorem first_both (ts : List TagB) (j : Nat) (hj : j ≤ 10) (ln : ByteArray) (h : (ofF (lineT (ownL ts j) ++ (⟨#[32]⟩ : ByteArray) ++ ln)).length < 16) :
    (∀ p ∈ ofF (lineT (ownL ts j)), getL (ofF (lineT (ownL ts j) ++ (⟨#[32]⟩ : ByteArray) ++ ln)) p.1 = some p.2) ∧ (ofF (lineT (ownL ts j))).length ≤ (ofF (lineT (ownL ts j) ++ (⟨#[32]⟩ : ByteArray) ++ ln)).length := by
  have hp : ∀ p ∈ ownL ts j, nameB p.1 = true ∧ p.2.size ≤ 256 := fun p h1 => by
    have := ownL_small ts j p h1
    exact ⟨this.1, by omega⟩
  have hl := ownL_len ts j
  have ha := all_line (ownL ts j) hp (by omega)
  obtain ⟨r, hr⟩ := all_more (ownL ts j) (lineT (ownL ts j) ++ (⟨#[32]⟩ : ByteArray) ++ ln) ([32] ++ ln.data.toList) hp (by omega) (by
    rw [text_joined, text_joined, lineT_list, List.append_assoc])
  obtain ⟨h1, h2⟩ := ofF_grows ha hr h
  refine ⟨fun p hq => ?_, h2⟩
  have h3 := h1 p hq
  have hR : (ofF (lineT (ownL ts j) ++ (⟨#[32]⟩ : ByteArray) ++ ln)).Pairwise RiseP := by
    unfold ofF
    exact (ofL_rise _).sublist (List.take_sublist _ _)
  obtain ⟨B, hB⟩ : ∃ B, ofF (lineT (ownL ts j) ++ (⟨#[32]⟩ : ByteArray) ++ ln) = B := ⟨_, rfl⟩
  rw [hB] at h3 hR ⊢
  have hf : B.filter (ofName p.1) = [p] := by
    have hm : p ∈ B.filter (ofName p.1) := List.mem_filter.2 ⟨h3, decide_eq_true rfl⟩
    rcases one_of hR p.1 with e | ⟨q, hq2, e⟩
    · rw [e] at hm; cases hm
    · rw [e, List.mem_singleton] at hm
      rw [e, hm]
  unfold getL findL
  rw [← List.head?_filter]
  have e : B.filter (fun q => decide (q.1 = p.1)) = [p] := hf
  rw [e]
  rfl
theorem join_most (k : Nat) : ∀ (ps : List PairB), (∀ p ∈ ps, (partL p).length ≤ k) → (Lib.join (ps.map partL) [32]).length ≤ ps.length * (k + 1)
  | [], _ => Nat.zero_le _
  | [p], h => by
    have := h p List.mem_cons_self
    rw [List.map_cons, List.map_nil, Lib.join_one]
    simp only [List.length_cons, List.length_nil]
    omega
  | p :: q :: r, h => by
    have h1 := h p List.mem_cons_self
    have h2 := join_most k (q :: r) (fun z hz => h z (List.mem_cons_of_mem _ hz))
    rw [List.map_cons, List.map_cons, join_more, List.length_append, List.length_append]
    rw [List.map_cons] at h2
    simp only [List.length_cons, List.length_nil, Nat.add_mul] at h2 ⊢
    omega
theorem first_text (ts : List TagB) (j : Nat) (hj : j ≤ 10) : (lineT (ownL ts j)).size ≤ 1000 ∧ (joinB ⟨#[32]⟩ ((ownL ts j).map partT)).length ≤ 700000000 := by
  have hs := ownL_small ts j
  have hl := ownL_len ts j
  have h1 := join_most 20 (ownL ts j) (fun p hp => by
    have h2 := hs p hp
    have h3 := putS_size p.2
    have h4 : (putS p.2).size = (putB p.2.data.toList).length := by unfold putS; rfl
    have h5 : p.1.data.toList.length = p.1.size := rfl
    rw [partL_len, h5]
    omega)
  have h2 : (ownL ts j).length * (20 + 1) ≤ 10 * 21 := Nat.mul_le_mul_right _ (by omega)
  have h3 : (lineT (ownL ts j)).size = (joinB ⟨#[32]⟩ ((ownL ts j).map partT)).length := by unfold lineT; rfl
  have h4 : (lineT (ownL ts j)).size = (Lib.join ((ownL ts j).map partL) [32]).length := congrArg List.length (lineT_list _)
  omega
set_option maxRecDepth 100000 in
set_option maxHeartbeats 3200000 in
theorem logfmtFirst_walk {W : World} (A : Option Addr) (n c : Nat) (x : List TagB) (C : Option Addr) (len cc : Nat) (zs : List Int)
    (hx : TagsP W A n x) (hnc : n ≤ c) (hcm : c ≤ maxLen) (hz : Ints .u8 W C len zs) (hlc : len ≤ cc) (hccm : cc ≤ maxLen) :
    Calls Try.prog 7 #[.slice A n c, .slice C len cc] W fun e w' => e = .returned (.bool true) ∧ Below W.heap.size W w' := by
  have h0 : W.heap.size ≤ W.heap.size := Nat.le_refl _
  unfold maxLen at hcm hccm
  obtain ⟨i0, hi, hz0, hz1, hz2⟩ := info_parts infoPair
  have HX := Lib.hid (logExamples_any W)
  have LNX := Lib.hid (fun w (h : Hid (Ints .u8 w C len zs)) => line_any C len cc zs (by omega) w h.out)
  have LN := Lib.hid (ownL_len x)
  have NX := Lib.hid (ownL_next x)
  have H1 := Lib.hid hx
  have HZ := Lib.hid hz
  clear hx hz
  go_enter Try.func7, Try.ntmps7
  go_wp2_with fail
  refine HX.out.mono ?_
  rintro e w ⟨rfl, hb0⟩
  have HB0 := Lib.hid hb0
  have HZ1 := Lib.hid (HZ.out.below hb0)
  have HX1 := Lib.hid (H1.out.below hb0)
  clear hb0 HZ HX H1
  have hw0 : w.heap.size ≤ w.heap.size := Nat.le_refl _
  go_wp2
  go_loopw [6, 7] (fun sv iv wr => ∃ j : Nat, j ≤ n ∧ j ≤ 10 ∧ iv = .int .i64 j ∧ OwnP wr w.heap.size sv (ownL x j) ∧ Below w.heap.size w wr) (fun _ iv _ => 10 - (intOf iv).toNat)
  case atStart => exact ⟨0, Nat.zero_le _, Nat.zero_le _, rfl, OwnP.nil _ _, Below.refl _ _⟩
  case round =>
    obtain ⟨j, hjn, hjm, rfl, hown, hb⟩ := hrel
    have hsz := hb.size
    by_cases hj : j < n ∧ j < 10
    · obtain ⟨g1, g2⟩ := hj
      have h2 := HX1.out.below hb
      obtain ⟨b1, o1, rfl, hlt1, hc1⟩ := h2.2.2 (by omega)
      obtain ⟨c1, c2, c3, c4⟩ := hc1 j g1
      have hjl : j < x.length := by rw [h2.1]; exact g1
      have hks := NX.out j hjl
      have hkk := h2.2.1 (x.getD j default) (by
        rw [List.getD_eq_getElem?_getD, List.getElem?_eq_getElem hjl]
        exact List.getElem_mem _)
      obtain ⟨t, ht⟩ : ∃ p, x.getD j default = p := ⟨_, rfl⟩
      rw [ht] at c1 c2 c3 c4 hks hkk
      have TG := fun w => tag_any (ownT t) hkk w
      have hjI : (j : Int) < (n : Int) := by omega
      have hjM : (j : Int) < 10 := by omega
      obtain ⟨L, hL⟩ : ∃ L, ownL x j = L := ⟨_, rfl⟩
      have hLl := LN.out j
      rw [hL] at hown hks hLl
      obtain ⟨⟨p1, p2⟩, hp⟩ : ∃ p, tagP (ownT t) = p := ⟨_, rfl⟩
      rw [hp] at hks
      simp only [hp] at TG
      have HKS := Lib.hid hks
      obtain ⟨nm, vl, own, k⟩ := t
      dsimp only [ownT] at c1 c2 c3 c4 TG
      replace TG := Lib.hid TG
      clear hks ht hL hc1 h2 hjl hkk hp
      go_wp2_with fail
      refine (TG.out _).mono ?_
      rintro e w2 ⟨rfl, hx⟩
      have hb2 := hop (hb.alloc hsz _) hw0 hx
      have ho2 := (hown.alloc _).below hx
      have hs2 := hb2.size
      clear hx c1 c2 c3 c4 hown hb
      go_wp2_with (at_builtin; refine wpList_append_own _ rfl (.tmp 33) (.tmp 36) 26 rfl w.heap.size 39 i0 (.agg #[.string ⟨#[]⟩, .string ⟨#[]⟩]) 2 32 Try.underlying26 hi hz0 hz1 hz2 rfl (by decide) _ _ _ rfl (ho2.alloc _) ⟨w2.heap.size, 0, none⟩ 1 1 (pairV (p1, p2)) rfl rfl (new_cells_at _ _ _ _ (by simp)) (pairV_one _) (by unfold maxLen; omega) (by omega) (by simp; omega) ?_)
      intro v' w3 hown' hgrow _
      have hb3 := (hb2.alloc hs2 _).grown hgrow (by simp; omega) (fun r hr => (World.ownsRow.lt ho2 r hr).1)
      have hown3 := OwnP.snoc (p := (p1, p2)) hown'
      rw [← HKS.out] at hown3
      clear hown' hgrow
      go_wp2
      go_round
      case rel => exact ⟨j + 1, by omega, by omega, by go_num, hown3, hb3⟩
      case measure => simp [intOf]; omega
    · have hends : (¬ (j : Int) < (n : Int)) ∨ ((j : Int) < (n : Int) ∧ ¬ (j : Int) < 10) := by omega
      have hls : (lineS zs (min len 40)).size ≤ 360 := by have := lineS_size zs (min len 40); omega
      have hHB := Lib.hid (hop HB0.out (Nat.le_refl _) hb)
      have HZ2 := Lib.hid (HZ1.out.below hb)
      obtain ⟨A1, m, k1, rfl, hm, hq0, hp1⟩ := OwnP.capL hown
      have hFT := first_text x j hjm
      have hSM := ownL_small x j
      have hLl := LN.out j
      have FB := first_both x j hjm
      obtain ⟨ln, hln⟩ : ∃ s, lineS zs (min len 40) = s := ⟨_, rfl⟩
      replace LNX := LNX.out
      simp only [hln] at LNX
      rw [hln] at hls
      replace FB := FB ln
      obtain ⟨P, hP⟩ : ∃ l, ownL x j = l := ⟨_, rfl⟩
      rw [hP] at hp1 hm hFT hSM FB hLl
      have hm10 : m ≤ 10 := by omega
      have PU := fun w h => logPut_any A1 m k1 P (by omega) hFT.2 (fun p hp => by have := hSM p hp; omega) w h
      have hs1 := hFT.1
      obtain ⟨s, hs⟩ : ∃ t, lineT P = t := ⟨_, rfl⟩
      simp only [hs] at PU FB hs1
      have q1 : (⟨#[32]⟩ : ByteArray).size = 1 := rfl
      have hT : (s ++ (⟨#[32]⟩ : ByteArray) ++ ln).size ≤ 16000000 := by rw [ByteArray.size_append, ByteArray.size_append, q1]; omega
      have OA := fun w => logOf_any s (by omega) w
      have OB := fun w => logOf_any (s ++ (⟨#[32]⟩ : ByteArray) ++ ln) hT w
      obtain ⟨la, hla⟩ : ∃ l, ofF s = l := ⟨_, rfl⟩
      obtain ⟨lb, hlb⟩ : ∃ l, ofF (s ++ (⟨#[32]⟩ : ByteArray) ++ ln) = l := ⟨_, rfl⟩
      simp only [hla] at OA FB
      simp only [hlb] at OB FB
      have s1 : ¬ 9223372036854775807 < s.size + 1 := by omega
      have s2 : ¬ 9223372036854775807 < s.size + 1 + ln.size := by omega
      have s2' : ¬ 9223372036854775807 < (s ++ (⟨#[32]⟩ : ByteArray)).size + ln.size := by rw [ByteArray.size_append, q1]; omega
      have s1' : ¬ 9223372036854775807 < s.size + (⟨#[32]⟩ : ByteArray).size := by rw [q1]; omega
      replace PU := Lib.hid (PU _ hp1)
      replace OA := Lib.hid OA
      replace OB := Lib.hid OB
      replace FB := Lib.hid FB
      replace LNX := Lib.hid LNX
      have OE := Lib.hid (fun w => logOf_any ⟨#[]⟩ (by decide) w)
      have HE := Lib.hid (show ofF ⟨#[]⟩ = [] by
        unfold ofF
        rw [show allF ⟨#[]⟩ = [] from allR_done (⟨#[]⟩ : ByteArray) _ _, show ofL ([] : List PairB).reverse = [] from List.eq_nil_iff_forall_not_mem.2 (fun p hp => by
          rw [ofL_mem] at hp
          cases hp), List.take_nil])
      clear hs hla hlb hP hln hT hFT hSM hm hLl hown hp1 hj q1 LN NX HB0 HZ1 HX1 hb hsz hq0
      rcases hends with e1 | ⟨e1, e2⟩
      all_goals
        go_wp2_with fail
        refine PU.out.mono ?_
        rintro e w3 ⟨rfl, hx⟩
        have HB3 := Lib.hid (hop hHB.out (Nat.le_refl _) hx)
        have HZ3 := Lib.hid (HZ2.out.below hx)
        clear hx PU hHB HZ2
        go_wp2_with fail
        refine (OA.out _).mono ?_
        rintro e w4 ⟨Aa, na, ca, rfl, hna, hpa, _, hx⟩
        have HB4 := Lib.hid (hop HB3.out (Nat.le_refl _) hx)
        have HZ4 := Lib.hid (HZ3.out.below hx)
        clear hx HB3 HZ3 OA
        go_wp2_with fail
        refine (LNX.out _ (Lib.hid HZ4.out)).mono ?_
        rintro e w5 ⟨rfl, hx⟩
        have HB5 := Lib.hid (hop HB4.out (Nat.le_refl _) hx)
        have hpa5 := Lib.hid (hpa.out.below hx)
        clear hx HB4 HZ4 LNX hpa
        go_wp2_with fail
        refine (OB.out _).mono ?_
        rintro e w6 ⟨Ab, nb, cb, rfl, hnb, hpb, _, hx⟩
        have HB6 := Lib.hid (hop HB5.out (Nat.le_refl _) hx)
        have HPA := Lib.hid (hpa5.out.below hx)
        clear hx HB5 hpa5 OB
        have hlb := hpb.out.1
        have hla := HPA.out.1
        by_cases h16 : 16 ≤ nb
        · have h16I : (nb : Int) ≥ 16 := by omega
          have h16J : (16 : Int) ≤ (nb : Int) := by omega
          go_wp2
          go_ret
          exact ⟨by first | rfl | simp, HB6.out⟩
        · have h16J : ¬ (16 : Int) ≤ (nb : Int) := by omega
          obtain ⟨f1, f2⟩ := FB.out (by omega)
          have hab : (na : Int) ≤ (nb : Int) := by omega
          have F1 := Lib.hid f1
          clear f1 f2 FB
          go_wp2
          go_loopw [12] (fun iv wq => ∃ i : Nat, i ≤ na ∧ iv = .int .i64 i ∧ Hid (Below w6.heap.size w6 wq)) (fun iv _ => na - (intOf iv).toNat)
          case atStart => exact ⟨0, Nat.zero_le _, rfl, Lib.hid (Below.refl _ _)⟩
          case round =>
            obtain ⟨i, hin, rfl, HB⟩ := hrel
            by_cases hi : i < na
            · have hiI : (i : Int) < (na : Int) := by omega
              have hpw := HPA.out.below HB.out
              obtain ⟨b1, o1, rfl, hlt1, hc1⟩ := hpw.2 (by omega)
              obtain ⟨e1, e2⟩ := hc1 i hi
              have hok := F1.out (la.getD i pnil) (by
                rw [List.getD_eq_getElem?_getD, List.getElem?_eq_getElem (by omega)]
                exact List.getElem_mem _)
              obtain ⟨⟨p1, p2⟩, hp⟩ : ∃ p, la.getD i pnil = p := ⟨_, rfl⟩
              rw [hp] at e1 e2 hok
              dsimp only at e1 e2 hok
              have G := labGet_any Ab nb cb lb p1 (by omega) _ (hpb.out.below HB.out)
              rw [hok] at G
              replace G := Lib.hid G
              clear hpw hc1 hp hok
              go_wp2_with fail
              refine G.out.mono ?_
              rintro e w7 ⟨rfl, hx⟩
              have g2 : w7.cell? ⟨b1, o1 + i * 2 + 1, none⟩ = some (.string p2) := (hx.cell (p := ⟨b1, o1 + i * 2 + 1, none⟩) hlt1).trans e2
              have HB7 := Lib.hid (hop HB.out (Nat.le_refl _) hx)
              clear hx e1 e2 G
              go_wp2
              go_round
              case rel => exact ⟨i + 1, by omega, by go_num, HB7⟩
              case measure => simp [intOf]; omega
            · obtain rfl : na = i := by omega
              have HB7 := Lib.hid (hop HB6.out (Nat.le_refl _) HB.out)
              have hnl : ¬ (na : Int) < (na : Int) := by omega
              clear hi HB HB6 HPA
              go_wp2_with fail
              refine (OE.out _).mono ?_
              rintro e w8 ⟨Ae, ne, ce, rfl, hne, hpe, _, hx⟩
              have hb8 := hop HB7.out (Nat.le_refl _) hx
              have hl0 := hpe.out.1
              rw [HE.out] at hl0
              obtain rfl : 0 = ne := hl0
              clear hx hpe
              go_wp2
              go_ret
              exact ⟨by first | rfl | simp, hb8⟩
end Go.Proofs.Ytimmfmgnjpcdoaa
