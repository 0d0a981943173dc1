/- The walk of the law LabelBack: what is put of a set is parsed, whatever stands behind it; cut anywhere it is none; two sets are put alike just if they are the same. -/
import Derived.Test.YtimfabnjopkhdaaLabBackMath
import Derived.Test.YtimfabnjopkhdaaLabNames
import Derived.Test.YtimfabnjopkhdaaLabOrderLaw
import Derived.Test.YtimfabnjopkhdaaTagsOpen
namespace Go.Proofs.Ytimfabnjopkhdaa
open Go.RowKit
set_option linter.unusedVariables false
set_option linter.unusedSimpArgs false

theorem tagP_size (t : TagB) : (tagP t).1.size ≤ t.nm.size + 3 ∧ (tagP t).2.size ≤ t.vl.size + 3 := by
  have hn : ∀ i : Nat, (tagNs.getD (i % 5) .empty).size ≤ 3 := fun i => by
    have h : ∀ j : Fin 5, (tagNs.getD j.1 .empty).size ≤ 3 := by decide
    exact h ⟨i % 5, by omega⟩
  have hv : ∀ i : Nat, (tagVs.getD (i % 8) .empty).size ≤ 3 := fun i => by
    have h : ∀ j : Fin 8, (tagVs.getD j.1 .empty).size ≤ 3 := by decide
    exact h ⟨i % 8, by omega⟩
  unfold tagP
  split
  · have := hn t.k
    have := hv (t.k / 5)
    dsimp only
    omega
  · dsimp only
    omega
theorem tagsL_bulk (ts : List TagB) (most : Nat) : bulkP (tagsL ts most) ≤ 2 * bulkG ts := by
  unfold tagsL
  induction ts generalizing most with
  | nil => rw [List.take_nil]; exact Nat.zero_le _
  | cons t ts ih =>
    cases most with
    | zero => rw [List.take_zero]; exact Nat.zero_le _
    | succ m =>
      have := ih m
      have := tagP_size t
      rw [List.take_succ_cons, List.map_cons, bulkP, bulkG]
      omega
theorem tagsL_small (ts : List TagB) (most : Nat) (h : bulkG ts ≤ 1048576) : ∀ p ∈ tagsL ts most, p.1.size ≤ 1048576 ∧ p.2.size ≤ 1048576 := by
  intro p hp
  unfold tagsL at hp
  obtain ⟨t, ht, rfl⟩ := List.mem_map.1 hp
  have := bulkG_mem (List.mem_of_mem_take ht)
  have := tagP_size t
  omega
theorem ofL_in {l : List PairB} {p : PairB} (h : p ∈ ofL l) : p ∈ l := by
  unfold ofL at h
  have h2 := (lastsL_sublist _).subset h
  exact (List.mem_filter.1 ((sortL_perm _).mem_iff.1 h2)).1

/-- what a set's text is, and how great -/
structure SetT (a : List PairB) (T : ByteArray) (n : Nat) : Prop where
  set : SetL a
  small : ∀ p ∈ a, p.1.size ≤ 1048576 ∧ p.2.size ≤ 1048576
  text : textT a = T
  most : T.size ≤ 9000000
  least : 2 ≤ T.size
theorem setT_of (ts : List TagB) (most : Nat) (hm : most ≤ 100) (h : bulkG ts ≤ 1048576) : SetT (ofL (tagsL ts most)) (textT (ofL (tagsL ts most))) most := by
  have h1 := tagsL_bulk ts most
  have h2 := ofL_bulk (tagsL ts most)
  have h3 := ofL_len (tagsL ts most)
  have h4 := tagsL_len ts most
  have h5 := text_size (ofL (tagsL ts most))
  exact ⟨ofL_set _, fun p hp => tagsL_small ts most h p (ofL_in hp), rfl, by omega, h5.2⟩
theorem text_some (A : Option Addr) (n c : Nat) (a : List PairB) (T : ByteArray) (m : Nat) (hn : n ≤ 100) (ha : SetT a T m) (W : World) (h : Hid (Pairs W A n a)) :
    Calls Try.prog 24 #[.slice A n c] W fun e w' => e = .returned (.string T) ∧ Below W.heap.size W w' := by
  rw [← ha.text]
  exact text_labels A n c a hn ha.small W h.out
theorem parse_whole (a : List PairB) (T x : ByteArray) (m : Nat) (ha : SetT a T m) (hx : x.size ≤ 1048576) (hr : rightB a = true) (W : World) :
    Calls Try.prog 30 #[.string (T ++ x)] W fun e w' => ∃ A n c, e = .returned (.tuple #[.slice A n c, .int .i64 (T.size : Int), .bool true]) ∧ Hid (Pairs w' A n a) ∧ Below W.heap.size W w' := by
  have h := parse_labels (T ++ x) (by rw [ByteArray.size_append]; have := ha.most; omega) W
  have hp : parseL (T ++ x) = some (a, T.size) := by
    rw [parse_text (T ++ x) x.data.toList a (set_good ha.set) (by rw [text_joined, ← ha.text, text_list]), if_pos hr, ← text_list, size_toList, ha.text]
  rw [hp] at h
  refine h.mono ?_
  rintro e w' ⟨v, rfl, hown, hb⟩
  obtain ⟨A, cap, rfl, _, hp⟩ := hown.pairs
  exact ⟨A, _, cap, rfl, Lib.hid hp, hb⟩
theorem parse_not (t : ByteArray) (ht : t.size ≤ 16000000) (hp : parseL t = none) (W : World) :
    Calls Try.prog 30 #[.string t] W fun e w' => ∃ A n c, e = .returned (.tuple #[.slice A n c, .int .i64 0, .bool false]) ∧ Below W.heap.size W w' := by
  have h := parse_labels t ht W
  rw [hp] at h
  refine h.mono ?_
  rintro e w' ⟨v, rfl, hown, hb⟩
  obtain ⟨A, cap, rfl, _, hp⟩ := hown.pairs
  exact ⟨A, _, cap, rfl, hb⟩
theorem parse_wrong (a : List PairB) (T x : ByteArray) (m : Nat) (ha : SetT a T m) (hx : x.size ≤ 1048576) (hr : rightB a = false) (W : World) :
    Calls Try.prog 30 #[.string (T ++ x)] W fun e w' => ∃ A n c, e = .returned (.tuple #[.slice A n c, .int .i64 0, .bool false]) ∧ Below W.heap.size W w' :=
  parse_not _ (by rw [ByteArray.size_append]; have := ha.most; omega) (by
    rw [parse_text (T ++ x) x.data.toList a (set_good ha.set) (by rw [text_joined, ← ha.text, text_list]), hr]
    rfl) W
theorem parse_less (a : List PairB) (T : ByteArray) (m k : Nat) (ha : SetT a T m) (hk : k < T.size) (W : World) :
    Calls Try.prog 30 #[.string (T.extract 0 k)] W fun e w' => ∃ A n c, e = .returned (.tuple #[.slice A n c, .int .i64 0, .bool false]) ∧ Below W.heap.size W w' :=
  parse_not _ (by rw [ByteArray.size_extract]; have := ha.most; omega) (parse_short _ a k (set_good ha.set) (by rw [← text_list, size_toList, ha.text]; exact hk) (by
    rw [mid_list, List.drop_zero, ← ha.text, text_list])) W
theorem text_alike {a b : List PairB} {T U : ByteArray} {m n : Nat} (ha : SetT a T m) (hb : SetT b U n) : (T.toList == U.toList) = decide (a = b) := by
  rw [text_eq, decide_eq_decide]
  constructor
  · intro h
    refine text_inj a b (set_good ha.set) (set_good hb.set) ?_
    rw [← text_list, ← text_list, ha.text, hb.text, h]
  · intro h
    rw [← ha.text, ← hb.text, h]

set_option maxRecDepth 100000 in
set_option maxHeartbeats 1600000 in
theorem labelBack_walk {W : World} (A : Option Addr) (n c : Nat) (x : List TagB) (B : Option Addr) (m d : Nat) (y : List TagB) (be : ByteArray) (cut : Int)
    (hx : TagsP W A n x) (ux : bulkG x ≤ 1048576) (hnc : n ≤ c) (hcm : c ≤ maxLen) (hy : TagsP W B m y) (uy : bulkG y ≤ 1048576) (hmd : m ≤ d) (hdm : d ≤ maxLen) (ube : be.size ≤ 1048576) (hcut : (Lit.int .u16 cut).wf = true) :
    Calls Try.prog 5 #[.slice A n c, .slice B m d, .string be, .int .u16 cut] W fun e w' => e = .returned (.bool true) ∧ Below W.heap.size W w' := by
  have h0 : W.heap.size ≤ W.heap.size := Nat.le_refl _
  unfold maxLen at hcm hdm
  obtain ⟨hc0, hc1⟩ := bdu16 hcut
  have HX := Lib.hid (labExamples_any W)
  have TX := Lib.hid (fun w h => tags_some A n c 12 12 rfl x (by omega) (by omega) w h)
  have TY := Lib.hid (fun w h => tags_some B m d 12 12 rfl y (by omega) (by omega) w h)
  have lx := tagsL_len x 12
  have ly := tagsL_len y 12
  have OX := Lib.hid (fun B q k w h => of_some (tagsL x 12) (by omega) B q k w h)
  have OY := Lib.hid (fun B q k w h => of_some (tagsL y 12) (by omega) B q k w h)
  have SX := setT_of x 12 (by omega) ux
  have SY := setT_of y 12 (by omega) uy
  obtain ⟨a, ha⟩ : ∃ a, ofL (tagsL x 12) = a := ⟨_, rfl⟩
  obtain ⟨b, hb⟩ : ∃ a, ofL (tagsL y 12) = a := ⟨_, rfl⟩
  simp only [ha] at OX
  simp only [hb] at OY
  rw [ha] at SX
  rw [hb] at SY
  obtain ⟨T, hT⟩ : ∃ T, textT a = T := ⟨_, rfl⟩
  obtain ⟨U, hU⟩ : ∃ T, textT b = T := ⟨_, rfl⟩
  rw [hT] at SX
  rw [hU] at SY
  have e1 := text_alike SX SY
  obtain ⟨z, hz⟩ : ∃ z, decide (a = b) = z := ⟨_, rfl⟩
  rw [hz] at e1
  have hp2 := SX.most
  have hp3 : (2 : Int) ≤ (T.size : Int) := by have := SX.least; omega
  have hp4 : ((T.size : Int) == 0) = false := by rw [beq_eq_false_iff_ne]; omega
  have hp5 : ¬ (T.size : Int) < 2 := by omega
  have hp6 : ¬ T.size < 2 := by omega
  have hj0 : 0 ≤ cut % (T.size : Int) := Int.emod_nonneg _ (by omega)
  have hj1 : cut % (T.size : Int) < T.size := Int.emod_lt_of_pos _ (by omega)
  obtain ⟨k, hk⟩ : ∃ k : Nat, cut % (T.size : Int) = k := ⟨(cut % (T.size : Int)).toNat, by omega⟩
  have hkp : k < T.size := by omega
  have PL := Lib.hid (fun w => parse_less a T 12 k SX hkp w)
  have HSX := Lib.hid SX
  have HSY := Lib.hid SY
  have HX1 := Lib.hid hx
  have HY1 := Lib.hid hy
  have HZ := Lib.hid hz
  have HE1 := Lib.hid e1
  clear hx hy hnc hcm hmd hdm ha hb hT hU SX SY e1 hz hj0 hj1 ux uy hcut
  go_enter Try.func5, Try.ntmps5
  go_wp2_with fail
  refine HX.out.mono ?_
  rintro e w ⟨rfl, hb⟩
  go_wp2_with fail
  refine (TX.out _ (HX1.out.below hb)).mono ?_
  rintro e w1 ⟨B1, q1, k1, rfl, hp, hx⟩
  replace hb := hop hb h0 hx
  clear hx
  go_wp2_with fail
  refine (OX.out _ _ _ _ hp).mono ?_
  rintro e w2 ⟨A1, m1, c1, rfl, hm1, hpa, hx⟩
  replace hb := hop hb h0 hx
  clear hx hp
  go_wp2_with fail
  refine (TY.out _ (HY1.out.below hb)).mono ?_
  rintro e w3 ⟨B2, q2, k2, rfl, hp, hx⟩
  replace hb := hop hb h0 hx
  replace hpa := Lib.hid (hpa.out.below hx)
  clear hx
  go_wp2_with fail
  refine (OY.out _ _ _ _ hp).mono ?_
  rintro e w4 ⟨A2, m2, c2, rfl, hm2, hpb, hx⟩
  replace hb := hop hb h0 hx
  replace hpa := Lib.hid (hpa.out.below hx)
  clear hx hp
  have hm1' : m1 ≤ 12 := Nat.le_trans hm1 lx
  have hm2' : m2 ≤ 12 := Nat.le_trans hm2 ly
  clear hm1 hm2 lx ly TX TY OX OY HX1 HY1 HX
  go_wp2_with fail
  refine (text_some A1 m1 c1 a T 12 (by omega) HSX.out _ hpa).mono ?_
  rintro e w5 ⟨rfl, hx⟩
  replace hb := hop hb h0 hx
  replace hpa := Lib.hid (hpa.out.below hx)
  replace hpb := Lib.hid (hpb.out.below hx)
  clear hx
  by_cases hr : rightB a = true
  · have PW := Lib.hid (fun w => parse_whole a T be 12 HSX.out ube hr w)
    have RT := fun w h => right_any A1 m1 c1 a (by omega) w h
    simp only [hr] at RT
    replace RT := Lib.hid RT
    clear hr
    go_wp2_with fail
    refine (PW.out _).mono ?_
    rintro e w6 ⟨A3, m3, c3, rfl, hpc, hx⟩
    replace hb := hop hb h0 hx
    replace hpa := Lib.hid (hpa.out.below hx)
    replace hpb := Lib.hid (hpb.out.below hx)
    clear hx
    go_wp2_with fail
    refine (PL.out _).mono ?_
    rintro e w7 ⟨A4, m4, c4, rfl, hx⟩
    replace hb := hop hb h0 hx
    replace hpa := Lib.hid (hpa.out.below hx)
    replace hpb := Lib.hid (hpb.out.below hx)
    replace hpc := Lib.hid (hpc.out.below hx)
    clear hx
    go_wp2_with fail
    refine (RT.out _ hpa.out).mono ?_
    rintro e w8 ⟨rfl, hx⟩
    replace hb := hop hb h0 hx
    replace hpa := Lib.hid (hpa.out.below hx)
    replace hpb := Lib.hid (hpb.out.below hx)
    replace hpc := Lib.hid (hpc.out.below hx)
    clear hx
    have hm3 : m3 ≤ 12 := by have h1 := hpc.out.1; have h2 := hpa.out.1; omega
    have SA := same_any A1 A3 m1 m3 c1 c3 a a (by omega) (by omega) w8 hpa.out hpc.out
    rw [decide_eq_true (rfl : a = a)] at SA
    replace SA := Lib.hid SA
    go_wp2_with fail
    refine SA.out.mono ?_
    rintro e w9 ⟨rfl, hx⟩
    replace hb := hop hb h0 hx
    replace hpa := Lib.hid (hpa.out.below hx)
    replace hpb := Lib.hid (hpb.out.below hx)
    clear hx SA hpc
    go_wp2_with fail
    refine (text_some A2 m2 c2 b U 12 (by omega) HSY.out _ hpb).mono ?_
    rintro e w10 ⟨rfl, hx⟩
    replace hb := hop hb h0 hx
    replace hpa := Lib.hid (hpa.out.below hx)
    replace hpb := Lib.hid (hpb.out.below hx)
    clear hx
    have SA := same_any A1 A2 m1 m2 c1 c2 a b (by omega) (by omega) w10 hpa.out hpb.out
    rw [HZ.out] at SA
    replace SA := Lib.hid SA
    have e1 := HE1.out
    go_wp2_with fail
    refine SA.out.mono ?_
    rintro e w11 ⟨rfl, hx⟩
    replace hb := hop hb h0 hx
    clear hx SA hpa hpb
    go_wp2
    go_ret
    exact ⟨by first | rfl | (simp; done) | (simp [e1]; done), hb⟩
  · have hr : rightB a = false := by simpa using hr
    have PW := Lib.hid (fun w => parse_wrong a T be 12 HSX.out ube hr w)
    have RT := fun w h => right_any A1 m1 c1 a (by omega) w h
    simp only [hr] at RT
    replace RT := Lib.hid RT
    clear hr
    go_wp2_with fail
    refine (PW.out _).mono ?_
    rintro e w6 ⟨A3, m3, c3, rfl, hx⟩
    replace hb := hop hb h0 hx
    replace hpa := Lib.hid (hpa.out.below hx)
    replace hpb := Lib.hid (hpb.out.below hx)
    clear hx
    go_wp2_with fail
    refine (PL.out _).mono ?_
    rintro e w7 ⟨A4, m4, c4, rfl, hx⟩
    replace hb := hop hb h0 hx
    replace hpa := Lib.hid (hpa.out.below hx)
    replace hpb := Lib.hid (hpb.out.below hx)
    clear hx
    go_wp2_with fail
    refine (RT.out _ hpa.out).mono ?_
    rintro e w8 ⟨rfl, hx⟩
    replace hb := hop hb h0 hx
    replace hpa := Lib.hid (hpa.out.below hx)
    replace hpb := Lib.hid (hpb.out.below hx)
    clear hx
    go_wp2_with fail
    refine (text_some A2 m2 c2 b U 12 (by omega) HSY.out _ hpb).mono ?_
    rintro e w10 ⟨rfl, hx⟩
    replace hb := hop hb h0 hx
    replace hpa := Lib.hid (hpa.out.below hx)
    replace hpb := Lib.hid (hpb.out.below hx)
    clear hx
    have SA := same_any A1 A2 m1 m2 c1 c2 a b (by omega) (by omega) w10 hpa.out hpb.out
    rw [HZ.out] at SA
    replace SA := Lib.hid SA
    have e1 := HE1.out
    go_wp2_with fail
    refine SA.out.mono ?_
    rintro e w11 ⟨rfl, hx⟩
    replace hb := hop hb h0 hx
    clear hx SA hpa hpb
    go_wp2
    go_ret
    exact ⟨by first | rfl | (simp; done) | (simp [e1]; done), hb⟩
end Go.Proofs.Ytimfabnjopkhdaa
