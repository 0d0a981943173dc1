/- RexPlain: the walk of the law. -/
import Derived.Test.YtojjeignijpiaaaGreatDoorRexPlain1Law
namespace Go.Proofs.YtojjeignijpiaaaGreatDoor
open Go.RowKit
set_option linter.unusedVariables false
set_option linter.unusedSimpArgs false

set_option maxRecDepth 100000 in
set_option maxHeartbeats 12800000 in
theorem rexPlain_way2 {W : World} (A : Option Addr) (len c : Nat) (zs : List Int) (how : Int) (hlw : 2 ≤ len ∧ len ≤ 60) (h1 : Ints .u8 W A len zs) (hnc : len ≤ c) (hcm : c ≤ maxLen) (wh : (Lit.int .u8 how).wf = true) (hl : LibIs W) :
    Calls Tryz.prog 5 #[.slice A len c, .int .u8 how] W fun e w' => e = .returned (.bool true) ∧ Below W.heap.size W w' := by
  unfold maxLen at hcm
  obtain ⟨b0, b1⟩ := bdu8 wh
  obtain ⟨k, hk, hk14⟩ : ∃ k : Nat, how % 14 = (k : Int) ∧ k < 14 := ⟨(how % 14).toNat, by omega, by omega⟩
  have k2 : how.tmod 14 = (k : Int) := by rw [Int.tmod_eq_emod_of_nonneg b0]; exact hk
  have hwk : IntKind.u8.wrap (k : Int) = (k : Int) := by rw [IntKind.wrap_u8]; omega
  have kI : (k : Int) < 14 := by omega
  have PR := Lib.hid (fun t w h => parse_rex t w h)
  have HEX := Lib.hid (fun w h => rexExamples_any w h)
  have HI := Lib.hid h1
  have HLW := Lib.hid hlw
  clear hlw
  have HL := Lib.hid hl
  clear h1 hl wh
  go_enter Tryz.func5, Tryz.ntmps5
  go_wp2_with fail
  refine (HEX.out W HL.out).mono ?_
  rintro _ w1 ⟨rfl, hb⟩
  have HB1 := Lib.hid hb
  clear hb HEX
  go_wp2
  go_loopw [6, 7] (fun sv iv wr => ∃ (n : Nat) (s : ByteArray), n ≤ len ∧ n ≤ 60 ∧ iv = .int .i64 n ∧ sv = .string s ∧ Hid (PlainS s n) ∧ Below W.heap.size W wr) (fun _ iv _ => len - (intOf iv).toNat)
  case atStart => exact ⟨0, ⟨#[]⟩, Nat.zero_le _, Nat.zero_le _, rfl, rfl, Lib.hid PlainS.zero, HB1.out⟩
  case round =>
    obtain ⟨n, s, hnl, hn60, rfl, rfl, HS, hb⟩ := hrel
    have hsz := hb.size
    have z1 := HS.out.size
    have HB3 := Lib.hid hb
    by_cases hgo : n < len ∧ n < 60
    · obtain ⟨g1, g2⟩ := hgo
      have hzz := HI.out.below HB3.out
      obtain ⟨bb, off, rfl, hlt, hc⟩ := hzz.2.2 (by omega)
      have c0 := hc n g1
      have hwf := hzz.2.1 (zs.getD n 0) (by
        rw [List.getD_eq_getElem?_getD, List.getElem?_eq_getElem (by rw [hzz.1]; exact g1)]
        exact List.getElem_mem _)
      obtain ⟨x0, x1⟩ := bdu8 hwf
      obtain ⟨q, hq⟩ : ∃ x : Nat, zs.getD n 0 = (x : Int) := ⟨(zs.getD n 0).toNat, by omega⟩
      rw [hq] at c0 x1
      have nI : (n : Int) < (len : Int) := by omega
      have n60 : (n : Int) < 60 := by omega
      obtain ⟨r, hr⟩ : ∃ r, q % 20 = r := ⟨_, rfl⟩
      have hr20 : r < 20 := by omega
      have i1 : (q : Int) % 20 = (r : Int) := by omega
      have i2 : (q : Int).tmod 20 = (r : Int) := by rw [Int.tmod_eq_emod_of_nonneg (by omega)]; exact i1
      have hw1 : IntKind.u8.wrap (r : Int) = (r : Int) := by rw [IntKind.wrap_u8]; omega
      have hrI : (r : Int) < 20 := by omega
      have hd := lettP_at r hr20
      have hg := lettP_good r hr20
      obtain ⟨u, hu⟩ : ∃ n, (lettP r).toNat = n := ⟨_, rfl⟩
      have hu256 : u < 256 := by rw [← hu]; exact (lettP r).toNat_lt
      have hcv := conv_oneN wr u hu256
      have hub : UInt8.ofNat u = lettP r := by rw [← hu]; simp
      rw [hub] at hcv
      have HS2 := Lib.hid (HS.out.more hg)
      have hys : (⟨#[lettP r]⟩ : ByteArray).size = 1 := rfl
      obtain ⟨p, hp⟩ : ∃ y, (⟨#[lettP r]⟩ : ByteArray) = y := ⟨_, rfl⟩
      rw [hp] at hcv hys HS2
      have s1 : ¬ 9223372036854775807 < s.size + p.size := by omega
      have HBB := Lib.hid hb
      clear hc hzz hwf hq hr hg hub hp hys
      go_wp2_with fail
      go_round
      case rel => exact ⟨n + 1, _, by omega, by omega, by go_num, rfl, HS2, HBB.out.alloc hsz _⟩
      case measure => simp [intOf]; omega
    · have hends : (¬ (n : Int) < (len : Int)) ∨ ((n : Int) < (len : Int) ∧ ¬ (n : Int) < 60) := by omega
      have hln : s.data.toList.length = n := by rw [size_toList, z1]
      obtain ⟨P1, P2, P3⟩ := plain_parse (l := s.data.toList) HS.out.lets (by omega)
      obtain ⟨R1, R2, R3⟩ := plain_parse2 (l := s.data.toList) HS.out.lets (by omega) (specN_in k hk14)
      have hkids := plainT_kids (l := s.data.toList)
      have hd := specN_at k hk14
      obtain ⟨v, hv⟩ : ∃ n, (specN k).toNat = n := ⟨_, rfl⟩
      have hv256 : v < 256 := by rw [← hv]; exact (specN k).toNat_lt
      have hvb : UInt8.ofNat v = specN k := by rw [← hv]; simp
      have hcv := fun (w : World) => conv_oneN w v hv256
      have hcu := fun (w : World) g (h : OneU w g v) => h.conv hv256
      rw [hvb] at hcv hcu
      have hys : (⟨#[specN k]⟩ : ByteArray).size = 1 := rfl
      have hyl : (⟨#[specN k]⟩ : ByteArray).data.toList = [specN k] := rfl
      obtain ⟨p, hp⟩ : ∃ y, (⟨#[specN k]⟩ : ByteArray) = y := ⟨_, rfl⟩
      rw [hp] at hcv hcu hys hyl
      have htx : (s ++ (⟨#[92]⟩ : ByteArray) ++ p).data.toList = s.data.toList ++ [92, specN k] := by rw [text_joined, text_joined, hyl, List.append_assoc]; rfl
      rw [← htx] at R1 R2
      rw [hln] at P1 P3 R1 R3 hkids
      have s1 : ¬ 9223372036854775807 < s.size + 1 := by omega
      have s2 : ¬ 9223372036854775807 < s.size + 1 + p.size := by omega
      have HP1 := Lib.hid P1
      have HP2 := Lib.hid P2
      have HP3 := Lib.hid P3
      have HR1 := Lib.hid R1
      have HR2 := Lib.hid R2
      have HR3 := Lib.hid R3
      have HKD := Lib.hid hkids
      have HCV := Lib.hid hcv
      have CV := Lib.hid (fun (w : World) g (h : OneU w g v) => hcu w g h)
      have HN1 := Lib.hid (plainT_nf s.data.toList)
      have HN2 := Lib.hid (plainT_nf (s.data.toList ++ [specN k]))
      have HTX := Lib.hid htx
      obtain ⟨n1, hn1⟩ : ∃ x, plainT s.data.toList = x := ⟨_, rfl⟩
      obtain ⟨n2, hn2⟩ : ∃ x, plainT (s.data.toList ++ [specN k]) = x := ⟨_, rfl⟩
      rw [hn1] at HP1 HP2 HP3 HN1 HKD
      rw [hn2] at HR1 HR2 HR3 HN2
      clear hgo P1 P2 P3 R1 R2 R3 hkids hvb hcv hcu hyl hp htx hn1 hn2 hln
      have hlw := HLW.out
      obtain ⟨e1, h2⟩ : ¬ (n : Int) < (len : Int) ∧ ¬ n < 2 := by omega
      clear hlw
      have t1 : ¬ 9223372036854775807 < n + 1 := by omega
      have t2 : ¬ 9223372036854775807 < n + 1 + p.size := by omega
      have t3 : ¬ 9223372036854775807 < n + 1 + 1 := by omega
      have hwn : IntKind.i64.wrap ((n : Int) + 1) = (n : Int) + 1 := by rw [IntKind.wrap_i64]; omega
      clear hends
      go_wp2_with fail
      refine (PR.out s wr (HL.out.below HB3.out)).mono ?_
      rintro _ w4 ⟨x4, y4, r4, rfl, hp4, hg4, hb4⟩
      have hE := HP1.out.symm.trans hp4
      obtain ⟨hx4, hA⟩ := Prod.mk.inj hE
      obtain ⟨hA, hR⟩ := Prod.mk.inj hA
      subst hA hR
      have HX4 := Lib.hid hx4.symm
      have hB4 := (hop HB3.out (Nat.le_refl _) hb4)
      have HB4 := Lib.hid (hB4.alloc hB4.size (.cells (nodeC x4) 36))
      have hw3 := hb.size
      have hrow := hg4.row
      have HRW := Lib.hid (show x4.n = n1.kids.length by rw [hx4, NodeX.t_kids, List.length_map]; exact hrow.1.symm)
      have hg := (hg4.alloc (.cells (nodeC x4) 36)).weaken (Q := fun g => W.heap.size ≤ g) (fun g hg _ => by omega)
      have hk := Blk.new w4 36 (nodeC x4)
      obtain ⟨g4, hgz⟩ : ∃ g, w4.heap.size = g := ⟨_, rfl⟩
      obtain ⟨v4, hv4⟩ : ∃ v, w4.alloc (.cells (nodeC x4) 36) = v := ⟨_, rfl⟩
      rw [hgz] at hk
      rw [hv4] at hg HB4 hk
      have HG4 := Lib.hid hg
      have HK4 := Lib.hid hk
      have HV4 := Lib.hid hv4
      have HGZ4 := Lib.hid hgz
      have hcw : ∀ u : World, u = v4 → (convert 32 9 (.slice (some ⟨u.heap.size, 0, none⟩) 1 1)).run Tryz.prog (u.alloc (.cells #[.int .u8 (v : Int)] 5)) = .ok (.string p) (u.alloc (.cells #[.int .u8 (v : Int)] 5)) := fun u _ => HCV.out u
      have hcz := hcw _ hv4
      simp only [World.size_alloc] at hcz
      clear hp4 hg4 hb4 hB4 hg hk hrow hv4 hgz hE hx4 hcw hb
      unfold nodeC nodeV at HV4 hcz
      unfold nodeC nodeV
      go_wp2_with fail
      rw [HV4.out, HGZ4.out]
      clear hcz
      have hb5 := (Below.refl v4.heap.size v4).alloc (Nat.le_refl _) (.cells #[.int .u8 (v : Int)] 5)
      have HB5 := Lib.hid (hop HB4.out (Nat.le_refl _) hb5)
      have HG5 := Lib.hid (HG4.out.later hb5)
      have HK5 := Lib.hid (HK4.out.below hb5 HK4.out.lt)
      obtain ⟨v5, hv5⟩ : ∃ z, v4.alloc (.cells #[.int .u8 (v : Int)] 5) = z := ⟨_, rfl⟩
      rw [hv5] at HB5 HG5 HK5
      rw [hv5]
      clear hb5 hv5 HB4 HG4 HK4
      refine (PR.out (s ++ (⟨#[92]⟩ : ByteArray) ++ p) v5 (HL.out.below HB5.out)).mono ?_
      rintro _ w6 ⟨x6, y6, r6, rfl, hp6, hg6, hb6⟩
      have hE := HR1.out.symm.trans hp6
      obtain ⟨hx6, hA⟩ := Prod.mk.inj hE
      obtain ⟨hA, hR⟩ := Prod.mk.inj hA
      subst hA hR
      have HX6 := Lib.hid hx6.symm
      have hB6 := (hop HB5.out (Nat.le_refl _) hb6)
      have HB6 := (hB6.alloc hB6.size (.cells (nodeC x6) 36))
      have hbz := (hb6.alloc hb6.size (.cells (nodeC x6) 36))
      have hw5 := HB5.out.size
      have hg := (hg6.alloc (.cells (nodeC x6) 36)).weaken (Q := fun g => W.heap.size ≤ g) (fun g hg _ => by omega)
      have hk := Blk.new w6 36 (nodeC x6)
      have hg4 := HG5.out.later hbz
      have hk4 := HK5.out.below hbz HK5.out.lt
      obtain ⟨g6, hgz⟩ : ∃ g, w6.heap.size = g := ⟨_, rfl⟩
      obtain ⟨v6, hv6⟩ : ∃ v, w6.alloc (.cells (nodeC x6) 36) = v := ⟨_, rfl⟩
      rw [hgz] at hk
      rw [hv6] at hg HB6 hk hg4 hk4
      have HV6 := Lib.hid hv6
      have HGZ6 := Lib.hid hgz
      have S0 : (Blk v6.drew g4 36 (nodeC x4) ∧ Blk v6.drew g6 36 (nodeC x6) ∧ (v6.drew.cell? ⟨g4, 0, none⟩ = some (.int .i64 x4.kind) ∧ v6.drew.cell? ⟨g4, 1, none⟩ = some (.int .u64 (word x4.set 0 : Nat)) ∧ v6.drew.cell? ⟨g4, 2, none⟩ = some (.int .u64 (word x4.set 1 : Nat)) ∧ v6.drew.cell? ⟨g4, 3, none⟩ = some (.int .u64 (word x4.set 2 : Nat)) ∧ v6.drew.cell? ⟨g4, 4, none⟩ = some (.int .u64 (word x4.set 3 : Nat)) ∧ v6.drew.cell? ⟨g4, 5, none⟩ = some (.int .i64 x4.mn) ∧ v6.drew.cell? ⟨g4, 6, none⟩ = some (.int .i64 x4.mx) ∧ v6.drew.cell? ⟨g4, 7, none⟩ = some (.slice x4.A x4.n x4.c)) ∧ (v6.drew.cell? ⟨g6, 0, none⟩ = some (.int .i64 x6.kind) ∧ v6.drew.cell? ⟨g6, 1, none⟩ = some (.int .u64 (word x6.set 0 : Nat)) ∧ v6.drew.cell? ⟨g6, 2, none⟩ = some (.int .u64 (word x6.set 1 : Nat)) ∧ v6.drew.cell? ⟨g6, 3, none⟩ = some (.int .u64 (word x6.set 2 : Nat)) ∧ v6.drew.cell? ⟨g6, 4, none⟩ = some (.int .u64 (word x6.set 3 : Nat)) ∧ v6.drew.cell? ⟨g6, 5, none⟩ = some (.int .i64 x6.mn) ∧ v6.drew.cell? ⟨g6, 6, none⟩ = some (.int .i64 x6.mx) ∧ v6.drew.cell? ⟨g6, 7, none⟩ = some (.slice x6.A x6.n x6.c)) ∧ GoodN v6.drew (fun g => W.heap.size ≤ g) x4 ∧ GoodN v6.drew (fun g => W.heap.size ≤ g) x6 ∧ Below W.heap.size W v6.drew) := ⟨hk4, hk, (node_cells hk4).1, (node_cells hk).1, hg4.later (below_drewN (Below.refl _ _) 1), hg.later (below_drewN (Below.refl _ _) 1), below_drewN HB6 1⟩
      have HS := Lib.hid (show ∀ w w', (Blk w g4 36 (nodeC x4) ∧ Blk w g6 36 (nodeC x6) ∧ (w.cell? ⟨g4, 0, none⟩ = some (.int .i64 x4.kind) ∧ w.cell? ⟨g4, 1, none⟩ = some (.int .u64 (word x4.set 0 : Nat)) ∧ w.cell? ⟨g4, 2, none⟩ = some (.int .u64 (word x4.set 1 : Nat)) ∧ w.cell? ⟨g4, 3, none⟩ = some (.int .u64 (word x4.set 2 : Nat)) ∧ w.cell? ⟨g4, 4, none⟩ = some (.int .u64 (word x4.set 3 : Nat)) ∧ w.cell? ⟨g4, 5, none⟩ = some (.int .i64 x4.mn) ∧ w.cell? ⟨g4, 6, none⟩ = some (.int .i64 x4.mx) ∧ w.cell? ⟨g4, 7, none⟩ = some (.slice x4.A x4.n x4.c)) ∧ (w.cell? ⟨g6, 0, none⟩ = some (.int .i64 x6.kind) ∧ w.cell? ⟨g6, 1, none⟩ = some (.int .u64 (word x6.set 0 : Nat)) ∧ w.cell? ⟨g6, 2, none⟩ = some (.int .u64 (word x6.set 1 : Nat)) ∧ w.cell? ⟨g6, 3, none⟩ = some (.int .u64 (word x6.set 2 : Nat)) ∧ w.cell? ⟨g6, 4, none⟩ = some (.int .u64 (word x6.set 3 : Nat)) ∧ w.cell? ⟨g6, 5, none⟩ = some (.int .i64 x6.mn) ∧ w.cell? ⟨g6, 6, none⟩ = some (.int .i64 x6.mx) ∧ w.cell? ⟨g6, 7, none⟩ = some (.slice x6.A x6.n x6.c)) ∧ GoodN w (fun g => W.heap.size ≤ g) x4 ∧ GoodN w (fun g => W.heap.size ≤ g) x6 ∧ Below W.heap.size W w) → Below w.heap.size w w' → (Blk w' g4 36 (nodeC x4) ∧ Blk w' g6 36 (nodeC x6) ∧ (w'.cell? ⟨g4, 0, none⟩ = some (.int .i64 x4.kind) ∧ w'.cell? ⟨g4, 1, none⟩ = some (.int .u64 (word x4.set 0 : Nat)) ∧ w'.cell? ⟨g4, 2, none⟩ = some (.int .u64 (word x4.set 1 : Nat)) ∧ w'.cell? ⟨g4, 3, none⟩ = some (.int .u64 (word x4.set 2 : Nat)) ∧ w'.cell? ⟨g4, 4, none⟩ = some (.int .u64 (word x4.set 3 : Nat)) ∧ w'.cell? ⟨g4, 5, none⟩ = some (.int .i64 x4.mn) ∧ w'.cell? ⟨g4, 6, none⟩ = some (.int .i64 x4.mx) ∧ w'.cell? ⟨g4, 7, none⟩ = some (.slice x4.A x4.n x4.c)) ∧ (w'.cell? ⟨g6, 0, none⟩ = some (.int .i64 x6.kind) ∧ w'.cell? ⟨g6, 1, none⟩ = some (.int .u64 (word x6.set 0 : Nat)) ∧ w'.cell? ⟨g6, 2, none⟩ = some (.int .u64 (word x6.set 1 : Nat)) ∧ w'.cell? ⟨g6, 3, none⟩ = some (.int .u64 (word x6.set 2 : Nat)) ∧ w'.cell? ⟨g6, 4, none⟩ = some (.int .u64 (word x6.set 3 : Nat)) ∧ w'.cell? ⟨g6, 5, none⟩ = some (.int .i64 x6.mn) ∧ w'.cell? ⟨g6, 6, none⟩ = some (.int .i64 x6.mx) ∧ w'.cell? ⟨g6, 7, none⟩ = some (.slice x6.A x6.n x6.c)) ∧ GoodN w' (fun g => W.heap.size ≤ g) x4 ∧ GoodN w' (fun g => W.heap.size ≤ g) x6 ∧ Below W.heap.size W w') from fun w w' h hb => ⟨h.1.below hb h.1.lt, h.2.1.below hb h.2.1.lt, (node_cells (h.1.below hb h.1.lt)).1, (node_cells (h.2.1.below hb h.2.1.lt)).1, h.2.2.2.2.1.later hb, h.2.2.2.2.2.1.later hb, hop h.2.2.2.2.2.2 (Nat.le_refl _) hb⟩)
      have P4 := Lib.hid (fun (w : World) (g2 : GoodN w (fun g => W.heap.size ≤ g) x4) (hb : Below W.heap.size W w) => show Calls Tryz.prog 19 #[.agg (nodeC x4)] w fun e w' => e = .returned (.string s) ∧ Below w.heap.size w w' from by
        refine (put_rex x4 _ w g2 (by rw [HX4.out]; exact HN1.out) (HL.out.below hb) (by rw [HX4.out, HP2.out, size_toList]; omega)).mono ?_
        rintro e w' ⟨⟨s9, rfl, hs⟩, hb⟩
        have e1 : s9 = s := text_ext1 (by rw [hs, HX4.out, HP2.out])
        rw [e1]
        exact ⟨rfl, hb⟩)
      have P6 := Lib.hid (fun (w : World) (g2 : GoodN w (fun g => W.heap.size ≤ g) x6) (hb : Below W.heap.size W w) => show Calls Tryz.prog 19 #[.agg (nodeC x6)] w fun e w' => e = .returned (.string (s ++ (⟨#[92]⟩ : ByteArray) ++ p)) ∧ Below w.heap.size w w' from by
        refine (put_rex x6 _ w g2 (by rw [HX6.out]; exact HN2.out) (HL.out.below hb) (by rw [HX6.out, HR2.out, size_toList, ByteArray.size_append, ByteArray.size_append, show (⟨#[92]⟩ : ByteArray).size = 1 from rfl]; omega)).mono ?_
        rintro e w' ⟨⟨s9, rfl, hs⟩, hb⟩
        have e1 : s9 = s ++ (⟨#[92]⟩ : ByteArray) ++ p := text_ext1 (by rw [hs, HX6.out, HR2.out])
        rw [e1]
        exact ⟨rfl, hb⟩)
      have Z4 := Lib.hid (fun (w : World) (g1 : GoodN w (fun g => W.heap.size ≤ g) x4) => show Calls Tryz.prog 22 #[.agg (nodeC x4)] w fun e w' => e = .returned (.int .i64 (n : Nat)) ∧ Below w.heap.size w w' from by
        have h := size_any x4 _ w g1
        rw [HX4.out, HP3.out] at h
        exact h)
      have Z6 := Lib.hid (fun (w : World) (g1 : GoodN w (fun g => W.heap.size ≤ g) x6) => show Calls Tryz.prog 22 #[.agg (nodeC x6)] w fun e w' => e = .returned (.int .i64 ((n : Int) + 1)) ∧ Below w.heap.size w w' from by
        have h := size_any x6 _ w g1
        rw [HX6.out, HR3.out] at h
        exact h)
      clear hp6 hg6 hb6 hE hx6 hB6 HB6 hbz hg hk hg4 hk4 hgz hv6 HK5 HG5 HB5 hw5 hw3
      unfold nodeC nodeV at HV6 P4 P6 Z4 Z6
      have h2I : ¬ (n : Int) < 2 := by omega
      have h2b : decide ((n : Int) < 2) = false := decide_eq_false h2I
      have h2c : decide (n < 2) = false := decide_eq_false h2
      have hkd := HKD.out (by omega)
      have q1 : x4.kind = 4 := by rw [← NodeX.t_kind, HX4.out]; exact hkd.1
      have q2 : x4.n = n := by rw [HRW.out]; exact hkd.2
      have q3 : (x4.kind == 4) = true := by rw [q1]; rfl
      have q4 : ((x4.n : Int) == (n : Int)) = true := by rw [q2]; simp
      clear hkd q1 q2
      unfold nodeC nodeV
      go_wp2_with fail
      rw [HV6.out, HGZ6.out]
      refine wp_region_held_drew (S := fun w' => (Blk w' g4 36 (nodeC x4) ∧ Blk w' g6 36 (nodeC x6) ∧ (w'.cell? ⟨g4, 0, none⟩ = some (.int .i64 x4.kind) ∧ w'.cell? ⟨g4, 1, none⟩ = some (.int .u64 (word x4.set 0 : Nat)) ∧ w'.cell? ⟨g4, 2, none⟩ = some (.int .u64 (word x4.set 1 : Nat)) ∧ w'.cell? ⟨g4, 3, none⟩ = some (.int .u64 (word x4.set 2 : Nat)) ∧ w'.cell? ⟨g4, 4, none⟩ = some (.int .u64 (word x4.set 3 : Nat)) ∧ w'.cell? ⟨g4, 5, none⟩ = some (.int .i64 x4.mn) ∧ w'.cell? ⟨g4, 6, none⟩ = some (.int .i64 x4.mx) ∧ w'.cell? ⟨g4, 7, none⟩ = some (.slice x4.A x4.n x4.c)) ∧ (w'.cell? ⟨g6, 0, none⟩ = some (.int .i64 x6.kind) ∧ w'.cell? ⟨g6, 1, none⟩ = some (.int .u64 (word x6.set 0 : Nat)) ∧ w'.cell? ⟨g6, 2, none⟩ = some (.int .u64 (word x6.set 1 : Nat)) ∧ w'.cell? ⟨g6, 3, none⟩ = some (.int .u64 (word x6.set 2 : Nat)) ∧ w'.cell? ⟨g6, 4, none⟩ = some (.int .u64 (word x6.set 3 : Nat)) ∧ w'.cell? ⟨g6, 5, none⟩ = some (.int .i64 x6.mn) ∧ w'.cell? ⟨g6, 6, none⟩ = some (.int .i64 x6.mx) ∧ w'.cell? ⟨g6, 7, none⟩ = some (.slice x6.A x6.n x6.c)) ∧ GoodN w' (fun g => W.heap.size ≤ g) x4 ∧ GoodN w' (fun g => W.heap.size ≤ g) x6 ∧ Below W.heap.size W w')) (by kernel_rfl) S0 (fun hHeld => ?_)
      refine wpAnyH_take (i := 0) (oi := { dst := some 58, op := Go.Op.move (Go.Operand.tmp 5), type := 4, pos := "keeps.go:42", after := #[], guard := none }) (v := ?_) rfl (by kernel_rfl) (by kernel_rfl) (by kernel_rfl) (fun _ _ _ h => h) (Or.inl ⟨by kernel_rfl, ?_⟩) (by assumption) ?_
      rotate_left
      · intro w _
        first | (go_simp; done) | (go_simp; with_reducible rfl)
      try simp only [Act.put, List.setIfInBounds_toArray, List.set_cons_zero, List.set_cons_succ]
      refine wpAnyH_take (i := 1) (oi := { dst := some 59, op := Go.Op.move (Go.Operand.tmp 58), type := 4, pos := "keeps.go:42", after := #[{ on := 0, ground := Go.Ground.data }], guard := none }) (v := ?_) rfl (by kernel_rfl) (by kernel_rfl) (by kernel_rfl) (fun _ _ _ h => h) (Or.inl ⟨by kernel_rfl, ?_⟩) (by assumption) ?_
      rotate_left
      · intro w _
        first | (go_simp; done) | (go_simp; with_reducible rfl)
      try simp only [Act.put, List.setIfInBounds_toArray, List.set_cons_zero, List.set_cons_succ]
      refine wpAnyH_take (i := 2) (oi := { dst := some 60, op := Go.Op.move (Go.Operand.tmp 11), type := 37, pos := "keeps.go:42", after := #[{ on := 1, ground := Go.Ground.guard }], guard := some (1, true) }) (v := ?_) rfl (by kernel_rfl) (by kernel_rfl) (by kernel_rfl) (fun _ _ _ h => h) (Or.inl ⟨by kernel_rfl, ?_⟩) (by assumption) ?_
      rotate_left
      · intro w _
        first | (go_simp; done) | (go_simp; with_reducible rfl)
      try simp only [Act.put, List.setIfInBounds_toArray, List.set_cons_zero, List.set_cons_succ]
      refine wpAnyH_take (i := 3) (oi := { dst := some 61, op := Go.Op.binOp Go.BinOp.eql 37 (Go.Operand.tmp 60) (Go.Operand.const (Go.Value.int Go.IntKind.i64 0)) 37, type := 4, pos := "keeps.go:42", after := #[{ on := 2, ground := Go.Ground.data }, { on := 1, ground := Go.Ground.guard }], guard := some (1, true) }) (v := ?_) rfl (by kernel_rfl) (by kernel_rfl) (by kernel_rfl) (fun _ _ _ h => h) (Or.inl ⟨by kernel_rfl, ?_⟩) (by assumption) ?_
      rotate_left
      · intro w _
        first | (go_simp; done) | (go_simp; with_reducible rfl)
      try simp only [Act.put, List.setIfInBounds_toArray, List.set_cons_zero, List.set_cons_succ]
      refine wpAnyH_take (i := 4) (oi := { dst := some 62, op := Go.Op.pick (Go.Operand.tmp 59) (Go.Operand.tmp 61) (Go.Operand.const (Go.Value.bool false)), type := 4, pos := "keeps.go:42", after := #[{ on := 1, ground := Go.Ground.data }, { on := 3, ground := Go.Ground.data }], guard := none }) (v := ?_) rfl (by kernel_rfl) (by kernel_rfl) (by kernel_rfl) (fun _ _ _ h => h) (Or.inl ⟨by kernel_rfl, ?_⟩) (by assumption) ?_
      rotate_left
      · intro w _
        first | (go_simp; done) | (go_simp; with_reducible rfl)
      try simp only [Act.put, List.setIfInBounds_toArray, List.set_cons_zero, List.set_cons_succ]
      refine wpAnyH_take (i := 5) (oi := { dst := some 63, op := Go.Op.move (Go.Operand.tmp 62), type := 4, pos := "keeps.go:42", after := #[{ on := 4, ground := Go.Ground.data }, { on := 1, ground := Go.Ground.chain }], guard := none }) (v := ?_) rfl (by kernel_rfl) (by kernel_rfl) (by kernel_rfl) (fun _ _ _ h => h) (Or.inl ⟨by kernel_rfl, ?_⟩) (by assumption) ?_
      rotate_left
      · intro w _
        first | (go_simp; done) | (go_simp; with_reducible rfl)
      try simp only [Act.put, List.setIfInBounds_toArray, List.set_cons_zero, List.set_cons_succ]
      refine wpAnyH_take (i := 6) (oi := { dst := some 64, op := Go.Op.move (Go.Operand.tmp 14), type := 37, pos := "keeps.go:42", after := #[{ on := 5, ground := Go.Ground.guard }], guard := some (5, true) }) (v := ?_) rfl (by kernel_rfl) (by kernel_rfl) (by kernel_rfl) (fun _ _ _ h => h) (Or.inl ⟨by kernel_rfl, ?_⟩) (by assumption) ?_
      rotate_left
      · intro w _
        first | (go_simp; done) | (go_simp; with_reducible rfl)
      try simp only [Act.put, List.setIfInBounds_toArray, List.set_cons_zero, List.set_cons_succ]
      refine wpAnyH_take (i := 7) (oi := { dst := some 65, op := Go.Op.binOp Go.BinOp.eql 37 (Go.Operand.tmp 64) (Go.Operand.const (Go.Value.int Go.IntKind.i64 0)) 37, type := 4, pos := "keeps.go:42", after := #[{ on := 6, ground := Go.Ground.data }, { on := 5, ground := Go.Ground.guard }], guard := some (5, true) }) (v := ?_) rfl (by kernel_rfl) (by kernel_rfl) (by kernel_rfl) (fun _ _ _ h => h) (Or.inl ⟨by kernel_rfl, ?_⟩) (by assumption) ?_
      rotate_left
      · intro w _
        first | (go_simp; done) | (go_simp; with_reducible rfl)
      try simp only [Act.put, List.setIfInBounds_toArray, List.set_cons_zero, List.set_cons_succ]
      refine wpAnyH_take (i := 8) (oi := { dst := some 66, op := Go.Op.pick (Go.Operand.tmp 63) (Go.Operand.tmp 65) (Go.Operand.const (Go.Value.bool false)), type := 4, pos := "keeps.go:42", after := #[{ on := 5, ground := Go.Ground.data }, { on := 7, ground := Go.Ground.data }], guard := none }) (v := ?_) rfl (by kernel_rfl) (by kernel_rfl) (by kernel_rfl) (fun _ _ _ h => h) (Or.inl ⟨by kernel_rfl, ?_⟩) (by assumption) ?_
      rotate_left
      · intro w _
        first | (go_simp; done) | (go_simp; with_reducible rfl)
      try simp only [Act.put, List.setIfInBounds_toArray, List.set_cons_zero, List.set_cons_succ]
      refine wpAnyH_take (i := 9) (oi := { dst := some 67, op := Go.Op.move (Go.Operand.tmp 66), type := 4, pos := "keeps.go:42", after := #[{ on := 8, ground := Go.Ground.data }, { on := 5, ground := Go.Ground.chain }], guard := none }) (v := ?_) rfl (by kernel_rfl) (by kernel_rfl) (by kernel_rfl) (fun _ _ _ h => h) (Or.inl ⟨by kernel_rfl, ?_⟩) (by assumption) ?_
      rotate_left
      · intro w _
        first | (go_simp; done) | (go_simp; with_reducible rfl)
      try simp only [Act.put, List.setIfInBounds_toArray, List.set_cons_zero, List.set_cons_succ]
      refine wpAnyH_take (i := 10) (oi := { dst := some 68, op := Go.Op.load 36 (Go.Operand.tmp 9), type := 36, pos := "keeps.go:42", after := #[{ on := 9, ground := Go.Ground.guard }], guard := some (9, true) }) (v := ?_) rfl (by kernel_rfl) (by kernel_rfl) (by kernel_rfl) (fun _ _ _ h => h) (Or.inl ⟨by kernel_rfl, ?_⟩) (by assumption) ?_
      rotate_left
      · intro w hSw
        (try dsimp only at hSw)
        go_split_ands
        first | (go_simp; done) | (go_simp; with_reducible rfl)
      try simp only [Act.put, List.setIfInBounds_toArray, List.set_cons_zero, List.set_cons_succ]
      refine wpAnyH_take (i := 12) (oi := { dst := some 70, op := Go.Op.move (Go.Operand.tmp 6), type := 9, pos := "keeps.go:42", after := #[{ on := 9, ground := Go.Ground.guard }], guard := some (9, true) }) (v := ?_) rfl (by kernel_rfl) (by kernel_rfl) (by kernel_rfl) (fun _ _ _ h => h) (Or.inl ⟨by kernel_rfl, ?_⟩) (by assumption) ?_
      rotate_left
      · intro w _
        first | (go_simp; done) | (go_simp; with_reducible rfl)
      try simp only [Act.put, List.setIfInBounds_toArray, List.set_cons_zero, List.set_cons_succ]
      refine wpAnyH_ready (rs := [11]) (by kernel_rfl) (by simp) ?_
      refine AllReadyH.cons (o := { dst := some 69, op := Go.Op.call { callee := Go.Callee.value (Go.Operand.func 19), args := #[Go.Operand.tmp 68], argTypes := #[36] }, type := 9, pos := "keeps.go:42", after := #[{ on := 10, ground := Go.Ground.data }, { on := 9, ground := Go.Ground.chain }, { on := 9, ground := Go.Ground.guard }], guard := some (9, true) }) rfl (fun K hK => ?_) AllReadyH.nil
      go_simp
      go_at_call 19
      refine (P4.out _ (by first | exact S0.2.2.2.2.1 | exact Sc1.2.2.2.2.1 | exact Sc2.2.2.2.2.1 | exact Sc3.2.2.2.2.1 | exact Sc4.2.2.2.2.1 | exact Sc5.2.2.2.2.1 | exact Sc6.2.2.2.2.1 | exact Sc7.2.2.2.2.1 | exact Sc8.2.2.2.2.1 | exact Sc9.2.2.2.2.1 | exact Sc10.2.2.2.2.1 | exact Sc11.2.2.2.2.1 | exact Sc12.2.2.2.2.1 | exact Sc13.2.2.2.2.1 | exact Sc14.2.2.2.2.1 | exact Sc15.2.2.2.2.1 | exact Sc16.2.2.2.2.1 | exact Sc17.2.2.2.2.1 | exact Sc18.2.2.2.2.1 | exact Sc19.2.2.2.2.1 | exact Sc20.2.2.2.2.1 | exact Sc21.2.2.2.2.1 | exact Sc22.2.2.2.2.1 | exact Sc23.2.2.2.2.1 | exact Sc24.2.2.2.2.1 | exact Sc25.2.2.2.2.1 | exact Sc26.2.2.2.2.1 | exact Sc27.2.2.2.2.1 | exact Sc28.2.2.2.2.1 | exact Sc29.2.2.2.2.1 | exact Sc30.2.2.2.2.1) (by first | exact S0.2.2.2.2.2.2 | exact Sc1.2.2.2.2.2.2 | exact Sc2.2.2.2.2.2.2 | exact Sc3.2.2.2.2.2.2 | exact Sc4.2.2.2.2.2.2 | exact Sc5.2.2.2.2.2.2 | exact Sc6.2.2.2.2.2.2 | exact Sc7.2.2.2.2.2.2 | exact Sc8.2.2.2.2.2.2 | exact Sc9.2.2.2.2.2.2 | exact Sc10.2.2.2.2.2.2 | exact Sc11.2.2.2.2.2.2 | exact Sc12.2.2.2.2.2.2 | exact Sc13.2.2.2.2.2.2 | exact Sc14.2.2.2.2.2.2 | exact Sc15.2.2.2.2.2.2 | exact Sc16.2.2.2.2.2.2 | exact Sc17.2.2.2.2.2.2 | exact Sc18.2.2.2.2.2.2 | exact Sc19.2.2.2.2.2.2 | exact Sc20.2.2.2.2.2.2 | exact Sc21.2.2.2.2.2.2 | exact Sc22.2.2.2.2.2.2 | exact Sc23.2.2.2.2.2.2 | exact Sc24.2.2.2.2.2.2 | exact Sc25.2.2.2.2.2.2 | exact Sc26.2.2.2.2.2.2 | exact Sc27.2.2.2.2.2.2 | exact Sc28.2.2.2.2.2.2 | exact Sc29.2.2.2.2.2.2 | exact Sc30.2.2.2.2.2.2)).mono ?_
      rintro _ wc1 ⟨rfl, hb3⟩
      have Sc1 := HS.out _ _ (by assumption) hb3
      refine hK.out _ _ Sc1 (fun _ => ?_)
      clear hK K hb3
      try simp only [Act.put, List.setIfInBounds_toArray, List.set_cons_zero, List.set_cons_succ]
      refine wpAnyH_take (i := 13) (oi := { dst := some 71, op := Go.Op.binOp Go.BinOp.eql 9 (Go.Operand.tmp 69) (Go.Operand.tmp 70) 9, type := 4, pos := "keeps.go:42", after := #[{ on := 11, ground := Go.Ground.data }, { on := 12, ground := Go.Ground.data }, { on := 9, ground := Go.Ground.guard }], guard := some (9, true) }) (v := ?_) rfl (by kernel_rfl) (by kernel_rfl) (by kernel_rfl) (fun _ _ _ h => h) (Or.inl ⟨by kernel_rfl, ?_⟩) (by assumption) ?_
      rotate_left
      · intro w _
        first | (go_simp; done) | (go_simp; with_reducible rfl)
      try simp only [Act.put, List.setIfInBounds_toArray, List.set_cons_zero, List.set_cons_succ]
      refine wpAnyH_take (i := 14) (oi := { dst := some 72, op := Go.Op.pick (Go.Operand.tmp 67) (Go.Operand.tmp 71) (Go.Operand.const (Go.Value.bool false)), type := 4, pos := "keeps.go:42", after := #[{ on := 9, ground := Go.Ground.data }, { on := 13, ground := Go.Ground.data }], guard := none }) (v := ?_) rfl (by kernel_rfl) (by kernel_rfl) (by kernel_rfl) (fun _ _ _ h => h) (Or.inl ⟨by kernel_rfl, ?_⟩) (by assumption) ?_
      rotate_left
      · intro w _
        first | (go_simp; done) | (go_simp; with_reducible rfl)
      try simp only [Act.put, List.setIfInBounds_toArray, List.set_cons_zero, List.set_cons_succ]
      refine wpAnyH_take (i := 15) (oi := { dst := some 73, op := Go.Op.move (Go.Operand.tmp 72), type := 4, pos := "keeps.go:42", after := #[{ on := 14, ground := Go.Ground.data }, { on := 11, ground := Go.Ground.chain }], guard := none }) (v := ?_) rfl (by kernel_rfl) (by kernel_rfl) (by kernel_rfl) (fun _ _ _ h => h) (Or.inl ⟨by kernel_rfl, ?_⟩) (by assumption) ?_
      rotate_left
      · intro w _
        first | (go_simp; done) | (go_simp; with_reducible rfl)
      try simp only [Act.put, List.setIfInBounds_toArray, List.set_cons_zero, List.set_cons_succ]
      refine wpAnyH_take (i := 16) (oi := { dst := some 74, op := Go.Op.load 36 (Go.Operand.tmp 12), type := 36, pos := "keeps.go:42", after := #[{ on := 15, ground := Go.Ground.guard }], guard := some (15, true) }) (v := ?_) rfl (by kernel_rfl) (by kernel_rfl) (by kernel_rfl) (fun _ _ _ h => h) (Or.inl ⟨by kernel_rfl, ?_⟩) (by assumption) ?_
      rotate_left
      · intro w hSw
        (try dsimp only at hSw)
        go_split_ands
        first | (go_simp; done) | (go_simp; with_reducible rfl)
      try simp only [Act.put, List.setIfInBounds_toArray, List.set_cons_zero, List.set_cons_succ]
      refine wpAnyH_take (i := 18) (oi := { dst := some 76, op := Go.Op.move (Go.Operand.tmp 6), type := 9, pos := "keeps.go:42", after := #[{ on := 15, ground := Go.Ground.guard }], guard := some (15, true) }) (v := ?_) rfl (by kernel_rfl) (by kernel_rfl) (by kernel_rfl) (fun _ _ _ h => h) (Or.inl ⟨by kernel_rfl, ?_⟩) (by assumption) ?_
      rotate_left
      · intro w _
        first | (go_simp; done) | (go_simp; with_reducible rfl)
      try simp only [Act.put, List.setIfInBounds_toArray, List.set_cons_zero, List.set_cons_succ]
      refine wpAnyH_take (i := 19) (oi := { dst := some 77, op := Go.Op.binOp Go.BinOp.add 9 (Go.Operand.tmp 76) (Go.Operand.const (Go.Value.string { data := #[92] })) 9, type := 9, pos := "keeps.go:42", after := #[{ on := 18, ground := Go.Ground.data }, { on := 15, ground := Go.Ground.guard }], guard := some (15, true) }) (v := ?_) rfl (by kernel_rfl) (by kernel_rfl) (by kernel_rfl) (fun _ _ _ h => h) (Or.inl ⟨by kernel_rfl, ?_⟩) (by assumption) ?_
      rotate_left
      · intro w _
        first | (go_simp; done) | (go_simp; with_reducible rfl)
      try simp only [Act.put, List.setIfInBounds_toArray, List.set_cons_zero, List.set_cons_succ]
      refine wpAnyH_take (i := 20) (oi := { dst := some 78, op := Go.Op.move (Go.Operand.tmp 8), type := 5, pos := "keeps.go:42", after := #[{ on := 15, ground := Go.Ground.guard }], guard := some (15, true) }) (v := ?_) rfl (by kernel_rfl) (by kernel_rfl) (by kernel_rfl) (fun _ _ _ h => h) (Or.inl ⟨by kernel_rfl, ?_⟩) (by assumption) ?_
      rotate_left
      · intro w _
        first | (go_simp; done) | (go_simp; with_reducible rfl)
      try simp only [Act.put, List.setIfInBounds_toArray, List.set_cons_zero, List.set_cons_succ]
      refine wpAnyH_ready (rs := [17, 21]) (by kernel_rfl) (by simp) ?_
      refine AllReadyH.cons (o := { dst := some 75, op := Go.Op.call { callee := Go.Callee.value (Go.Operand.func 19), args := #[Go.Operand.tmp 74], argTypes := #[36] }, type := 9, pos := "keeps.go:42", after := #[{ on := 16, ground := Go.Ground.data }, { on := 15, ground := Go.Ground.chain }, { on := 15, ground := Go.Ground.guard }], guard := some (15, true) }) rfl (fun K hK => ?_) ?_
      ·
        go_simp
        go_at_call 19
        refine (P6.out _ (by first | exact S0.2.2.2.2.2.1 | exact Sc1.2.2.2.2.2.1 | exact Sc2.2.2.2.2.2.1 | exact Sc3.2.2.2.2.2.1 | exact Sc4.2.2.2.2.2.1 | exact Sc5.2.2.2.2.2.1 | exact Sc6.2.2.2.2.2.1 | exact Sc7.2.2.2.2.2.1 | exact Sc8.2.2.2.2.2.1 | exact Sc9.2.2.2.2.2.1 | exact Sc10.2.2.2.2.2.1 | exact Sc11.2.2.2.2.2.1 | exact Sc12.2.2.2.2.2.1 | exact Sc13.2.2.2.2.2.1 | exact Sc14.2.2.2.2.2.1 | exact Sc15.2.2.2.2.2.1 | exact Sc16.2.2.2.2.2.1 | exact Sc17.2.2.2.2.2.1 | exact Sc18.2.2.2.2.2.1 | exact Sc19.2.2.2.2.2.1 | exact Sc20.2.2.2.2.2.1 | exact Sc21.2.2.2.2.2.1 | exact Sc22.2.2.2.2.2.1 | exact Sc23.2.2.2.2.2.1 | exact Sc24.2.2.2.2.2.1 | exact Sc25.2.2.2.2.2.1 | exact Sc26.2.2.2.2.2.1 | exact Sc27.2.2.2.2.2.1 | exact Sc28.2.2.2.2.2.1 | exact Sc29.2.2.2.2.2.1 | exact Sc30.2.2.2.2.2.1) (by first | exact S0.2.2.2.2.2.2 | exact Sc1.2.2.2.2.2.2 | exact Sc2.2.2.2.2.2.2 | exact Sc3.2.2.2.2.2.2 | exact Sc4.2.2.2.2.2.2 | exact Sc5.2.2.2.2.2.2 | exact Sc6.2.2.2.2.2.2 | exact Sc7.2.2.2.2.2.2 | exact Sc8.2.2.2.2.2.2 | exact Sc9.2.2.2.2.2.2 | exact Sc10.2.2.2.2.2.2 | exact Sc11.2.2.2.2.2.2 | exact Sc12.2.2.2.2.2.2 | exact Sc13.2.2.2.2.2.2 | exact Sc14.2.2.2.2.2.2 | exact Sc15.2.2.2.2.2.2 | exact Sc16.2.2.2.2.2.2 | exact Sc17.2.2.2.2.2.2 | exact Sc18.2.2.2.2.2.2 | exact Sc19.2.2.2.2.2.2 | exact Sc20.2.2.2.2.2.2 | exact Sc21.2.2.2.2.2.2 | exact Sc22.2.2.2.2.2.2 | exact Sc23.2.2.2.2.2.2 | exact Sc24.2.2.2.2.2.2 | exact Sc25.2.2.2.2.2.2 | exact Sc26.2.2.2.2.2.2 | exact Sc27.2.2.2.2.2.2 | exact Sc28.2.2.2.2.2.2 | exact Sc29.2.2.2.2.2.2 | exact Sc30.2.2.2.2.2.2)).mono ?_
        rintro _ wc2 ⟨rfl, hb3⟩
        have Sc2 := HS.out _ _ (by assumption) hb3
        refine hK.out _ _ Sc2 (fun _ => ?_)
        clear hK K hb3
        try simp only [Act.put, List.setIfInBounds_toArray, List.set_cons_zero, List.set_cons_succ]
        refine wpAnyH_ready (rs := [21]) (by kernel_rfl) (by simp) ?_
        refine AllReadyH.cons (o := { dst := some 79, op := Go.Op.buildSlice 32 1 #[(0, Go.Operand.tmp 78)], type := 32, pos := "keeps.go:42", after := #[{ on := 20, ground := Go.Ground.data }, { on := 15, ground := Go.Ground.guard }], guard := some (15, true) }) rfl (fun K hK => ?_) AllReadyH.nil
        go_simp
        have hb3 : Below wc2.heap.size wc2 (wc2.alloc (.cells #[.int .u8 (v : Int)] 5)) := (Below.refl _ _).alloc (Nat.le_refl _) _
        obtain ⟨g21, hg21⟩ : ∃ g, wc2.heap.size = g := ⟨_, rfl⟩
        have HO8 : OneU (wc2.alloc (.cells #[.int .u8 (v : Int)] 5)) g21 v := ⟨by rw [← hg21]; exact Blk.new _ _ _⟩
        obtain ⟨wc3, hwwc3⟩ : ∃ z, (wc2.alloc (.cells #[.int .u8 (v : Int)] 5)) = z := ⟨_, rfl⟩
        have Hb3 := Lib.hid hb3
        have HHO8 := Lib.hid HO8
        clear hb3 HO8
        rw [hwwc3] at Hb3 HHO8
        rw [hwwc3, hg21]
        have hb3 := Hb3.out
        have HO8 := HHO8.out
        clear hwwc3 Hb3 HHO8 hg21
        have Sc3 := HS.out _ _ (by assumption) hb3
        refine hK.out _ _ Sc3 (fun _ => ?_)
        clear hK K hb3
        try simp only [Act.put, List.setIfInBounds_toArray, List.set_cons_zero, List.set_cons_succ]
        refine wpAnyH_ready (rs := [22]) (by kernel_rfl) (by simp) ?_
        refine AllReadyH.cons (o := { dst := some 80, op := Go.Op.convert 32 9 (Go.Operand.tmp 79), type := 9, pos := "keeps.go:42", after := #[{ on := 21, ground := Go.Ground.data }, { on := 15, ground := Go.Ground.guard }], guard := some (15, true) }) rfl (fun K hK => ?_) AllReadyH.nil
        have cvv := CV.out _ _ HO8
        go_simp
        refine hK.out _ _ (by assumption) (fun _ => ?_)
        clear cvv
        clear hK K
        try simp only [Act.put, List.setIfInBounds_toArray, List.set_cons_zero, List.set_cons_succ]
        refine wpAnyH_take (i := 23) (oi := { dst := some 81, op := Go.Op.binOp Go.BinOp.add 9 (Go.Operand.tmp 77) (Go.Operand.tmp 80) 9, type := 9, pos := "keeps.go:42", after := #[{ on := 19, ground := Go.Ground.data }, { on := 22, ground := Go.Ground.data }, { on := 15, ground := Go.Ground.guard }], guard := some (15, true) }) (v := ?_) rfl (by kernel_rfl) (by kernel_rfl) (by kernel_rfl) (fun _ _ _ h => h) (Or.inl ⟨by kernel_rfl, ?_⟩) (by assumption) ?_
        rotate_left
        · intro w _
          first | (go_simp; done) | (go_simp; with_reducible rfl)
        try simp only [Act.put, List.setIfInBounds_toArray, List.set_cons_zero, List.set_cons_succ]
        refine wpAnyH_take (i := 24) (oi := { dst := some 82, op := Go.Op.binOp Go.BinOp.eql 9 (Go.Operand.tmp 75) (Go.Operand.tmp 81) 9, type := 4, pos := "keeps.go:42", after := #[{ on := 17, ground := Go.Ground.data }, { on := 23, ground := Go.Ground.data }, { on := 15, ground := Go.Ground.guard }], guard := some (15, true) }) (v := ?_) rfl (by kernel_rfl) (by kernel_rfl) (by kernel_rfl) (fun _ _ _ h => h) (Or.inl ⟨by kernel_rfl, ?_⟩) (by assumption) ?_
        rotate_left
        · intro w _
          first | (go_simp; done) | (go_simp; with_reducible rfl)
        try simp only [Act.put, List.setIfInBounds_toArray, List.set_cons_zero, List.set_cons_succ]
        refine wpAnyH_take (i := 25) (oi := { dst := some 83, op := Go.Op.pick (Go.Operand.tmp 73) (Go.Operand.tmp 82) (Go.Operand.const (Go.Value.bool false)), type := 4, pos := "keeps.go:42", after := #[{ on := 15, ground := Go.Ground.data }, { on := 24, ground := Go.Ground.data }], guard := none }) (v := ?_) rfl (by kernel_rfl) (by kernel_rfl) (by kernel_rfl) (fun _ _ _ h => h) (Or.inl ⟨by kernel_rfl, ?_⟩) (by assumption) ?_
        rotate_left
        · intro w _
          first | (go_simp; done) | (go_simp; with_reducible rfl)
        try simp only [Act.put, List.setIfInBounds_toArray, List.set_cons_zero, List.set_cons_succ]
        refine wpAnyH_take (i := 26) (oi := { dst := some 84, op := Go.Op.move (Go.Operand.tmp 83), type := 4, pos := "keeps.go:42", after := #[{ on := 25, ground := Go.Ground.data }, { on := 17, ground := Go.Ground.chain }], guard := none }) (v := ?_) rfl (by kernel_rfl) (by kernel_rfl) (by kernel_rfl) (fun _ _ _ h => h) (Or.inl ⟨by kernel_rfl, ?_⟩) (by assumption) ?_
        rotate_left
        · intro w _
          first | (go_simp; done) | (go_simp; with_reducible rfl)
        try simp only [Act.put, List.setIfInBounds_toArray, List.set_cons_zero, List.set_cons_succ]
        refine wpAnyH_take (i := 27) (oi := { dst := some 85, op := Go.Op.load 36 (Go.Operand.tmp 9), type := 36, pos := "keeps.go:42", after := #[{ on := 26, ground := Go.Ground.guard }], guard := some (26, true) }) (v := ?_) rfl (by kernel_rfl) (by kernel_rfl) (by kernel_rfl) (fun _ _ _ h => h) (Or.inl ⟨by kernel_rfl, ?_⟩) (by assumption) ?_
        rotate_left
        · intro w hSw
          (try dsimp only at hSw)
          go_split_ands
          first | (go_simp; done) | (go_simp; with_reducible rfl)
        try simp only [Act.put, List.setIfInBounds_toArray, List.set_cons_zero, List.set_cons_succ]
        refine wpAnyH_take (i := 29) (oi := { dst := some 87, op := Go.Op.move (Go.Operand.tmp 6), type := 9, pos := "keeps.go:42", after := #[{ on := 26, ground := Go.Ground.guard }], guard := some (26, true) }) (v := ?_) rfl (by kernel_rfl) (by kernel_rfl) (by kernel_rfl) (fun _ _ _ h => h) (Or.inl ⟨by kernel_rfl, ?_⟩) (by assumption) ?_
        rotate_left
        · intro w _
          first | (go_simp; done) | (go_simp; with_reducible rfl)
        try simp only [Act.put, List.setIfInBounds_toArray, List.set_cons_zero, List.set_cons_succ]
        refine wpAnyH_take (i := 30) (oi := { dst := some 88, op := Go.Op.call { callee := Go.Callee.builtin Go.Builtin.len, args := #[Go.Operand.tmp 87], argTypes := #[9] }, type := 3, pos := "keeps.go:42", after := #[{ on := 29, ground := Go.Ground.data }, { on := 26, ground := Go.Ground.guard }], guard := some (26, true) }) (v := ?_) rfl (by kernel_rfl) (by kernel_rfl) (by kernel_rfl) (fun _ _ _ h => h) (Or.inl ⟨by kernel_rfl, ?_⟩) (by assumption) ?_
        rotate_left
        · intro w _
          first | (go_simp; done) | (go_simp; with_reducible rfl)
        try simp only [Act.put, List.setIfInBounds_toArray, List.set_cons_zero, List.set_cons_succ]
        refine wpAnyH_ready (rs := [28]) (by kernel_rfl) (by simp) ?_
        refine AllReadyH.cons (o := { dst := some 86, op := Go.Op.call { callee := Go.Callee.value (Go.Operand.func 22), args := #[Go.Operand.tmp 85], argTypes := #[36] }, type := 3, pos := "keeps.go:42", after := #[{ on := 27, ground := Go.Ground.data }, { on := 26, ground := Go.Ground.chain }, { on := 26, ground := Go.Ground.guard }], guard := some (26, true) }) rfl (fun K hK => ?_) AllReadyH.nil
        go_simp
        go_at_call 22
        refine (Z4.out _ (by first | exact S0.2.2.2.2.1 | exact Sc1.2.2.2.2.1 | exact Sc2.2.2.2.2.1 | exact Sc3.2.2.2.2.1 | exact Sc4.2.2.2.2.1 | exact Sc5.2.2.2.2.1 | exact Sc6.2.2.2.2.1 | exact Sc7.2.2.2.2.1 | exact Sc8.2.2.2.2.1 | exact Sc9.2.2.2.2.1 | exact Sc10.2.2.2.2.1 | exact Sc11.2.2.2.2.1 | exact Sc12.2.2.2.2.1 | exact Sc13.2.2.2.2.1 | exact Sc14.2.2.2.2.1 | exact Sc15.2.2.2.2.1 | exact Sc16.2.2.2.2.1 | exact Sc17.2.2.2.2.1 | exact Sc18.2.2.2.2.1 | exact Sc19.2.2.2.2.1 | exact Sc20.2.2.2.2.1 | exact Sc21.2.2.2.2.1 | exact Sc22.2.2.2.2.1 | exact Sc23.2.2.2.2.1 | exact Sc24.2.2.2.2.1 | exact Sc25.2.2.2.2.1 | exact Sc26.2.2.2.2.1 | exact Sc27.2.2.2.2.1 | exact Sc28.2.2.2.2.1 | exact Sc29.2.2.2.2.1 | exact Sc30.2.2.2.2.1)).mono ?_
        rintro _ wc5 ⟨rfl, hb3⟩
        have HO8_ := HO8.below hb3
        clear HO8
        have HO8 := HO8_
        clear HO8_
        have Sc5 := HS.out _ _ (by assumption) hb3
        refine hK.out _ _ Sc5 (fun _ => ?_)
        clear hK K hb3
        try simp only [Act.put, List.setIfInBounds_toArray, List.set_cons_zero, List.set_cons_succ]
        refine wpAnyH_take (i := 31) (oi := { dst := some 89, op := Go.Op.binOp Go.BinOp.eql 3 (Go.Operand.tmp 86) (Go.Operand.tmp 88) 3, type := 4, pos := "keeps.go:42", after := #[{ on := 28, ground := Go.Ground.data }, { on := 30, ground := Go.Ground.data }, { on := 26, ground := Go.Ground.guard }], guard := some (26, true) }) (v := ?_) rfl (by kernel_rfl) (by kernel_rfl) (by kernel_rfl) (fun _ _ _ h => h) (Or.inl ⟨by kernel_rfl, ?_⟩) (by assumption) ?_
        rotate_left
        · intro w _
          first | (go_simp; done) | (go_simp; with_reducible rfl)
        try simp only [Act.put, List.setIfInBounds_toArray, List.set_cons_zero, List.set_cons_succ]
        refine wpAnyH_take (i := 32) (oi := { dst := some 90, op := Go.Op.pick (Go.Operand.tmp 84) (Go.Operand.tmp 89) (Go.Operand.const (Go.Value.bool false)), type := 4, pos := "keeps.go:42", after := #[{ on := 26, ground := Go.Ground.data }, { on := 31, ground := Go.Ground.data }], guard := none }) (v := ?_) rfl (by kernel_rfl) (by kernel_rfl) (by kernel_rfl) (fun _ _ _ h => h) (Or.inl ⟨by kernel_rfl, ?_⟩) (by assumption) ?_
        rotate_left
        · intro w _
          first | (go_simp; done) | (go_simp; with_reducible rfl)
        try simp only [Act.put, List.setIfInBounds_toArray, List.set_cons_zero, List.set_cons_succ]
        refine wpAnyH_take (i := 33) (oi := { dst := some 91, op := Go.Op.move (Go.Operand.tmp 90), type := 4, pos := "keeps.go:42", after := #[{ on := 32, ground := Go.Ground.data }, { on := 28, ground := Go.Ground.chain }], guard := none }) (v := ?_) rfl (by kernel_rfl) (by kernel_rfl) (by kernel_rfl) (fun _ _ _ h => h) (Or.inl ⟨by kernel_rfl, ?_⟩) (by assumption) ?_
        rotate_left
        · intro w _
          first | (go_simp; done) | (go_simp; with_reducible rfl)
        try simp only [Act.put, List.setIfInBounds_toArray, List.set_cons_zero, List.set_cons_succ]
        refine wpAnyH_take (i := 34) (oi := { dst := some 92, op := Go.Op.load 36 (Go.Operand.tmp 12), type := 36, pos := "keeps.go:42", after := #[{ on := 33, ground := Go.Ground.guard }], guard := some (33, true) }) (v := ?_) rfl (by kernel_rfl) (by kernel_rfl) (by kernel_rfl) (fun _ _ _ h => h) (Or.inl ⟨by kernel_rfl, ?_⟩) (by assumption) ?_
        rotate_left
        · intro w hSw
          (try dsimp only at hSw)
          go_split_ands
          first | (go_simp; done) | (go_simp; with_reducible rfl)
        try simp only [Act.put, List.setIfInBounds_toArray, List.set_cons_zero, List.set_cons_succ]
        refine wpAnyH_take (i := 36) (oi := { dst := some 94, op := Go.Op.move (Go.Operand.tmp 6), type := 9, pos := "keeps.go:42", after := #[{ on := 33, ground := Go.Ground.guard }], guard := some (33, true) }) (v := ?_) rfl (by kernel_rfl) (by kernel_rfl) (by kernel_rfl) (fun _ _ _ h => h) (Or.inl ⟨by kernel_rfl, ?_⟩) (by assumption) ?_
        rotate_left
        · intro w _
          first | (go_simp; done) | (go_simp; with_reducible rfl)
        try simp only [Act.put, List.setIfInBounds_toArray, List.set_cons_zero, List.set_cons_succ]
        refine wpAnyH_take (i := 37) (oi := { dst := some 95, op := Go.Op.call { callee := Go.Callee.builtin Go.Builtin.len, args := #[Go.Operand.tmp 94], argTypes := #[9] }, type := 3, pos := "keeps.go:42", after := #[{ on := 36, ground := Go.Ground.data }, { on := 33, ground := Go.Ground.guard }], guard := some (33, true) }) (v := ?_) rfl (by kernel_rfl) (by kernel_rfl) (by kernel_rfl) (fun _ _ _ h => h) (Or.inl ⟨by kernel_rfl, ?_⟩) (by assumption) ?_
        rotate_left
        · intro w _
          first | (go_simp; done) | (go_simp; with_reducible rfl)
        try simp only [Act.put, List.setIfInBounds_toArray, List.set_cons_zero, List.set_cons_succ]
        refine wpAnyH_take (i := 38) (oi := { dst := some 96, op := Go.Op.binOp Go.BinOp.add 3 (Go.Operand.tmp 95) (Go.Operand.const (Go.Value.int Go.IntKind.i64 1)) 3, type := 3, pos := "keeps.go:42", after := #[{ on := 37, ground := Go.Ground.data }, { on := 33, ground := Go.Ground.guard }], guard := some (33, true) }) (v := ?_) rfl (by kernel_rfl) (by kernel_rfl) (by kernel_rfl) (fun _ _ _ h => h) (Or.inl ⟨by kernel_rfl, ?_⟩) (by assumption) ?_
        rotate_left
        · intro w _
          first | (go_simp; done) | (go_simp; with_reducible rfl)
        try simp only [Act.put, List.setIfInBounds_toArray, List.set_cons_zero, List.set_cons_succ]
        refine wpAnyH_ready (rs := [35]) (by kernel_rfl) (by simp) ?_
        refine AllReadyH.cons (o := { dst := some 93, op := Go.Op.call { callee := Go.Callee.value (Go.Operand.func 22), args := #[Go.Operand.tmp 92], argTypes := #[36] }, type := 3, pos := "keeps.go:42", after := #[{ on := 34, ground := Go.Ground.data }, { on := 33, ground := Go.Ground.chain }, { on := 33, ground := Go.Ground.guard }], guard := some (33, true) }) rfl (fun K hK => ?_) AllReadyH.nil
        go_simp
        go_at_call 22
        refine (Z6.out _ (by first | exact S0.2.2.2.2.2.1 | exact Sc1.2.2.2.2.2.1 | exact Sc2.2.2.2.2.2.1 | exact Sc3.2.2.2.2.2.1 | exact Sc4.2.2.2.2.2.1 | exact Sc5.2.2.2.2.2.1 | exact Sc6.2.2.2.2.2.1 | exact Sc7.2.2.2.2.2.1 | exact Sc8.2.2.2.2.2.1 | exact Sc9.2.2.2.2.2.1 | exact Sc10.2.2.2.2.2.1 | exact Sc11.2.2.2.2.2.1 | exact Sc12.2.2.2.2.2.1 | exact Sc13.2.2.2.2.2.1 | exact Sc14.2.2.2.2.2.1 | exact Sc15.2.2.2.2.2.1 | exact Sc16.2.2.2.2.2.1 | exact Sc17.2.2.2.2.2.1 | exact Sc18.2.2.2.2.2.1 | exact Sc19.2.2.2.2.2.1 | exact Sc20.2.2.2.2.2.1 | exact Sc21.2.2.2.2.2.1 | exact Sc22.2.2.2.2.2.1 | exact Sc23.2.2.2.2.2.1 | exact Sc24.2.2.2.2.2.1 | exact Sc25.2.2.2.2.2.1 | exact Sc26.2.2.2.2.2.1 | exact Sc27.2.2.2.2.2.1 | exact Sc28.2.2.2.2.2.1 | exact Sc29.2.2.2.2.2.1 | exact Sc30.2.2.2.2.2.1)).mono ?_
        rintro _ wc6 ⟨rfl, hb3⟩
        have HO8_ := HO8.below hb3
        clear HO8
        have HO8 := HO8_
        clear HO8_
        have Sc6 := HS.out _ _ (by assumption) hb3
        refine hK.out _ _ Sc6 (fun _ => ?_)
        clear hK K hb3
        try simp only [Act.put, List.setIfInBounds_toArray, List.set_cons_zero, List.set_cons_succ]
        refine wpAnyH_take (i := 39) (oi := { dst := some 97, op := Go.Op.binOp Go.BinOp.eql 3 (Go.Operand.tmp 93) (Go.Operand.tmp 96) 3, type := 4, pos := "keeps.go:42", after := #[{ on := 35, ground := Go.Ground.data }, { on := 38, ground := Go.Ground.data }, { on := 33, ground := Go.Ground.guard }], guard := some (33, true) }) (v := ?_) rfl (by kernel_rfl) (by kernel_rfl) (by kernel_rfl) (fun _ _ _ h => h) (Or.inl ⟨by kernel_rfl, ?_⟩) (by assumption) ?_
        rotate_left
        · intro w _
          first | (go_simp; done) | (go_simp; with_reducible rfl)
        try simp only [Act.put, List.setIfInBounds_toArray, List.set_cons_zero, List.set_cons_succ]
        refine wpAnyH_take (i := 40) (oi := { dst := some 98, op := Go.Op.pick (Go.Operand.tmp 91) (Go.Operand.tmp 97) (Go.Operand.const (Go.Value.bool false)), type := 4, pos := "keeps.go:42", after := #[{ on := 33, ground := Go.Ground.data }, { on := 39, ground := Go.Ground.data }], guard := none }) (v := ?_) rfl (by kernel_rfl) (by kernel_rfl) (by kernel_rfl) (fun _ _ _ h => h) (Or.inl ⟨by kernel_rfl, ?_⟩) (by assumption) ?_
        rotate_left
        · intro w _
          first | (go_simp; done) | (go_simp; with_reducible rfl)
        try simp only [Act.put, List.setIfInBounds_toArray, List.set_cons_zero, List.set_cons_succ]
        refine wpAnyH_take (i := 41) (oi := { dst := some 99, op := Go.Op.move (Go.Operand.tmp 98), type := 4, pos := "keeps.go:42", after := #[{ on := 40, ground := Go.Ground.data }, { on := 35, ground := Go.Ground.chain }], guard := none }) (v := ?_) rfl (by kernel_rfl) (by kernel_rfl) (by kernel_rfl) (fun _ _ _ h => h) (Or.inl ⟨by kernel_rfl, ?_⟩) (by assumption) ?_
        rotate_left
        · intro w _
          first | (go_simp; done) | (go_simp; with_reducible rfl)
        try simp only [Act.put, List.setIfInBounds_toArray, List.set_cons_zero, List.set_cons_succ]
        refine wpAnyH_take (i := 42) (oi := { dst := some 100, op := Go.Op.move (Go.Operand.tmp 6), type := 9, pos := "keeps.go:42", after := #[{ on := 41, ground := Go.Ground.guard }], guard := some (41, true) }) (v := ?_) rfl (by kernel_rfl) (by kernel_rfl) (by kernel_rfl) (fun _ _ _ h => h) (Or.inl ⟨by kernel_rfl, ?_⟩) (by assumption) ?_
        rotate_left
        · intro w _
          first | (go_simp; done) | (go_simp; with_reducible rfl)
        try simp only [Act.put, List.setIfInBounds_toArray, List.set_cons_zero, List.set_cons_succ]
        refine wpAnyH_take (i := 43) (oi := { dst := some 101, op := Go.Op.call { callee := Go.Callee.builtin Go.Builtin.len, args := #[Go.Operand.tmp 100], argTypes := #[9] }, type := 3, pos := "keeps.go:42", after := #[{ on := 42, ground := Go.Ground.data }, { on := 41, ground := Go.Ground.guard }], guard := some (41, true) }) (v := ?_) rfl (by kernel_rfl) (by kernel_rfl) (by kernel_rfl) (fun _ _ _ h => h) (Or.inl ⟨by kernel_rfl, ?_⟩) (by assumption) ?_
        rotate_left
        · intro w _
          first | (go_simp; done) | (go_simp; with_reducible rfl)
        try simp only [Act.put, List.setIfInBounds_toArray, List.set_cons_zero, List.set_cons_succ]
        refine wpAnyH_take (i := 44) (oi := { dst := some 102, op := Go.Op.binOp Go.BinOp.lss 3 (Go.Operand.tmp 101) (Go.Operand.const (Go.Value.int Go.IntKind.i64 2)) 3, type := 4, pos := "keeps.go:42", after := #[{ on := 43, ground := Go.Ground.data }, { on := 41, ground := Go.Ground.guard }], guard := some (41, true) }) (v := ?_) rfl (by kernel_rfl) (by kernel_rfl) (by kernel_rfl) (fun _ _ _ h => h) (Or.inl ⟨by kernel_rfl, ?_⟩) (by assumption) ?_
        rotate_left
        · intro w _
          first | (go_simp; done) | (go_simp; with_reducible rfl)
        try simp only [Act.put, List.setIfInBounds_toArray, List.set_cons_zero, List.set_cons_succ]
        refine wpAnyH_take (i := 45) (oi := { dst := some 103, op := Go.Op.move (Go.Operand.tmp 102), type := 4, pos := "keeps.go:42", after := #[{ on := 44, ground := Go.Ground.data }, { on := 41, ground := Go.Ground.chain }, { on := 41, ground := Go.Ground.guard }], guard := some (41, true) }) (v := ?_) rfl (by kernel_rfl) (by kernel_rfl) (by kernel_rfl) (fun _ _ _ h => h) (Or.inl ⟨by kernel_rfl, ?_⟩) (by assumption) ?_
        rotate_left
        · intro w _
          first | (go_simp; done) | (go_simp; with_reducible rfl)
        try simp only [Act.put, List.setIfInBounds_toArray, List.set_cons_zero, List.set_cons_succ]
        refine wpAnyH_take (i := 46) (oi := { dst := some 104, op := Go.Op.fieldAddr 36 (Go.Operand.tmp 9) 0, type := 0, pos := "keeps.go:42", after := #[{ on := 45, ground := Go.Ground.guard }], guard := some (45, false) }) (v := ?_) rfl (by kernel_rfl) (by kernel_rfl) (by kernel_rfl) (fun _ _ _ h => h) (Or.inl ⟨by kernel_rfl, ?_⟩) (by assumption) ?_
        rotate_left
        · intro w _
          first | (go_simp; done) | (go_simp; with_reducible rfl)
        try simp only [Act.put, List.setIfInBounds_toArray, List.set_cons_zero, List.set_cons_succ]
        refine wpAnyH_take (i := 47) (oi := { dst := some 105, op := Go.Op.load 3 (Go.Operand.tmp 104), type := 3, pos := "keeps.go:42", after := #[{ on := 46, ground := Go.Ground.data }, { on := 45, ground := Go.Ground.guard }], guard := some (45, false) }) (v := ?_) rfl (by kernel_rfl) (by kernel_rfl) (by kernel_rfl) (fun _ _ _ h => h) (Or.inl ⟨by kernel_rfl, ?_⟩) (by assumption) ?_
        rotate_left
        · intro w hSw
          (try dsimp only at hSw)
          go_split_ands
          first | (go_simp; done) | (go_simp; with_reducible rfl)
        try simp only [Act.put, List.setIfInBounds_toArray, List.set_cons_zero, List.set_cons_succ]
        refine wpAnyH_take (i := 48) (oi := { dst := some 106, op := Go.Op.binOp Go.BinOp.eql 3 (Go.Operand.tmp 105) (Go.Operand.const (Go.Value.int Go.IntKind.i64 4)) 3, type := 4, pos := "keeps.go:42", after := #[{ on := 47, ground := Go.Ground.data }, { on := 45, ground := Go.Ground.guard }], guard := some (45, false) }) (v := ?_) rfl (by kernel_rfl) (by kernel_rfl) (by kernel_rfl) (fun _ _ _ h => h) (Or.inl ⟨by kernel_rfl, ?_⟩) (by assumption) ?_
        rotate_left
        · intro w _
          first | (go_simp; done) | (go_simp; with_reducible rfl)
        try simp only [Act.put, List.setIfInBounds_toArray, List.set_cons_zero, List.set_cons_succ]
        refine wpAnyH_take (i := 49) (oi := { dst := some 107, op := Go.Op.move (Go.Operand.tmp 106), type := 4, pos := "keeps.go:42", after := #[{ on := 48, ground := Go.Ground.data }, { on := 45, ground := Go.Ground.chain }, { on := 45, ground := Go.Ground.guard }], guard := some (45, false) }) (v := ?_) rfl (by kernel_rfl) (by kernel_rfl) (by kernel_rfl) (fun _ _ _ h => h) (Or.inl ⟨by kernel_rfl, ?_⟩) (by assumption) ?_
        rotate_left
        · intro w _
          first | (go_simp; done) | (go_simp; with_reducible rfl)
        try simp only [Act.put, List.setIfInBounds_toArray, List.set_cons_zero, List.set_cons_succ]
        refine wpAnyH_take (i := 50) (oi := { dst := some 108, op := Go.Op.fieldAddr 36 (Go.Operand.tmp 9) 4, type := 0, pos := "keeps.go:42", after := #[{ on := 49, ground := Go.Ground.guard }], guard := some (49, true) }) (v := ?_) rfl (by kernel_rfl) (by kernel_rfl) (by kernel_rfl) (fun _ _ _ h => h) (Or.inl ⟨by kernel_rfl, ?_⟩) (by assumption) ?_
        rotate_left
        · intro w _
          first | (go_simp; done) | (go_simp; with_reducible rfl)
        try simp only [Act.put, List.setIfInBounds_toArray, List.set_cons_zero, List.set_cons_succ]
        refine wpAnyH_take (i := 51) (oi := { dst := some 109, op := Go.Op.load 34 (Go.Operand.tmp 108), type := 34, pos := "keeps.go:42", after := #[{ on := 50, ground := Go.Ground.data }, { on := 49, ground := Go.Ground.guard }], guard := some (49, true) }) (v := ?_) rfl (by kernel_rfl) (by kernel_rfl) (by kernel_rfl) (fun _ _ _ h => h) (Or.inl ⟨by kernel_rfl, ?_⟩) (by assumption) ?_
        rotate_left
        · intro w hSw
          (try dsimp only at hSw)
          go_split_ands
          first | (go_simp; done) | (go_simp; with_reducible rfl)
        try simp only [Act.put, List.setIfInBounds_toArray, List.set_cons_zero, List.set_cons_succ]
        refine wpAnyH_take (i := 52) (oi := { dst := some 110, op := Go.Op.call { callee := Go.Callee.builtin Go.Builtin.len, args := #[Go.Operand.tmp 109], argTypes := #[34] }, type := 3, pos := "keeps.go:42", after := #[{ on := 51, ground := Go.Ground.data }, { on := 49, ground := Go.Ground.guard }], guard := some (49, true) }) (v := ?_) rfl (by kernel_rfl) (by kernel_rfl) (by kernel_rfl) (fun _ _ _ h => h) (Or.inl ⟨by kernel_rfl, ?_⟩) (by assumption) ?_
        rotate_left
        · intro w _
          first | (go_simp; done) | (go_simp; with_reducible rfl)
        try simp only [Act.put, List.setIfInBounds_toArray, List.set_cons_zero, List.set_cons_succ]
        refine wpAnyH_take (i := 53) (oi := { dst := some 111, op := Go.Op.move (Go.Operand.tmp 6), type := 9, pos := "keeps.go:42", after := #[{ on := 49, ground := Go.Ground.guard }], guard := some (49, true) }) (v := ?_) rfl (by kernel_rfl) (by kernel_rfl) (by kernel_rfl) (fun _ _ _ h => h) (Or.inl ⟨by kernel_rfl, ?_⟩) (by assumption) ?_
        rotate_left
        · intro w _
          first | (go_simp; done) | (go_simp; with_reducible rfl)
        try simp only [Act.put, List.setIfInBounds_toArray, List.set_cons_zero, List.set_cons_succ]
        refine wpAnyH_take (i := 54) (oi := { dst := some 112, op := Go.Op.call { callee := Go.Callee.builtin Go.Builtin.len, args := #[Go.Operand.tmp 111], argTypes := #[9] }, type := 3, pos := "keeps.go:42", after := #[{ on := 53, ground := Go.Ground.data }, { on := 49, ground := Go.Ground.guard }], guard := some (49, true) }) (v := ?_) rfl (by kernel_rfl) (by kernel_rfl) (by kernel_rfl) (fun _ _ _ h => h) (Or.inl ⟨by kernel_rfl, ?_⟩) (by assumption) ?_
        rotate_left
        · intro w _
          first | (go_simp; done) | (go_simp; with_reducible rfl)
        try simp only [Act.put, List.setIfInBounds_toArray, List.set_cons_zero, List.set_cons_succ]
        refine wpAnyH_take (i := 55) (oi := { dst := some 113, op := Go.Op.binOp Go.BinOp.eql 3 (Go.Operand.tmp 110) (Go.Operand.tmp 112) 3, type := 4, pos := "keeps.go:42", after := #[{ on := 52, ground := Go.Ground.data }, { on := 54, ground := Go.Ground.data }, { on := 49, ground := Go.Ground.guard }], guard := some (49, true) }) (v := ?_) rfl (by kernel_rfl) (by kernel_rfl) (by kernel_rfl) (fun _ _ _ h => h) (Or.inl ⟨by kernel_rfl, ?_⟩) (by assumption) ?_
        rotate_left
        · intro w _
          first | (go_simp; done) | (go_simp; with_reducible rfl)
        try simp only [Act.put, List.setIfInBounds_toArray, List.set_cons_zero, List.set_cons_succ]
        refine wpAnyH_take (i := 56) (oi := { dst := some 114, op := Go.Op.pick (Go.Operand.tmp 107) (Go.Operand.tmp 113) (Go.Operand.const (Go.Value.bool false)), type := 4, pos := "keeps.go:42", after := #[{ on := 49, ground := Go.Ground.data }, { on := 55, ground := Go.Ground.data }, { on := 45, ground := Go.Ground.guard }], guard := some (45, false) }) (v := ?_) rfl (by kernel_rfl) (by kernel_rfl) (by kernel_rfl) (fun _ _ _ h => h) (Or.inl ⟨by kernel_rfl, ?_⟩) (by assumption) ?_
        rotate_left
        · intro w _
          first | (go_simp; done) | (go_simp; with_reducible rfl)
        try simp only [Act.put, List.setIfInBounds_toArray, List.set_cons_zero, List.set_cons_succ]
        refine wpAnyH_take (i := 57) (oi := { dst := some 115, op := Go.Op.pick (Go.Operand.tmp 103) (Go.Operand.const (Go.Value.bool true)) (Go.Operand.tmp 114), type := 4, pos := "keeps.go:42", after := #[{ on := 45, ground := Go.Ground.data }, { on := 56, ground := Go.Ground.data }, { on := 41, ground := Go.Ground.guard }], guard := some (41, true) }) (v := ?_) rfl (by kernel_rfl) (by kernel_rfl) (by kernel_rfl) (fun _ _ _ h => h) (Or.inl ⟨by kernel_rfl, ?_⟩) (by assumption) ?_
        rotate_left
        · intro w _
          first | (go_simp; done) | (go_simp; with_reducible rfl)
        try simp only [Act.put, List.setIfInBounds_toArray, List.set_cons_zero, List.set_cons_succ]
        refine wpAnyH_take (i := 58) (oi := { dst := some 116, op := Go.Op.pick (Go.Operand.tmp 99) (Go.Operand.tmp 115) (Go.Operand.const (Go.Value.bool false)), type := 4, pos := "keeps.go:42", after := #[{ on := 41, ground := Go.Ground.data }, { on := 57, ground := Go.Ground.data }], guard := none }) (v := ?_) rfl (by kernel_rfl) (by kernel_rfl) (by kernel_rfl) (fun _ _ _ h => h) (Or.inl ⟨by kernel_rfl, ?_⟩) (by assumption) ?_
        rotate_left
        · intro w _
          first | (go_simp; done) | (go_simp; with_reducible rfl)
        try simp only [Act.put, List.setIfInBounds_toArray, List.set_cons_zero, List.set_cons_succ]
        refine wpAnyH_take (i := 59) (oi := { dst := some 4, op := Go.Op.assign (Go.Operand.tmp 116), type := 4, pos := "keeps.go:42", after := #[{ on := 58, ground := Go.Ground.data }, { on := 49, ground := Go.Ground.chain }, { on := 0, ground := Go.Ground.phase }, { on := 1, ground := Go.Ground.phase }, { on := 2, ground := Go.Ground.phase }, { on := 3, ground := Go.Ground.phase }, { on := 4, ground := Go.Ground.phase }, { on := 5, ground := Go.Ground.phase }, { on := 6, ground := Go.Ground.phase }, { on := 7, ground := Go.Ground.phase }, { on := 8, ground := Go.Ground.phase }, { on := 9, ground := Go.Ground.phase }, { on := 10, ground := Go.Ground.phase }, { on := 11, ground := Go.Ground.phase }, { on := 12, ground := Go.Ground.phase }, { on := 13, ground := Go.Ground.phase }, { on := 14, ground := Go.Ground.phase }, { on := 15, ground := Go.Ground.phase }, { on := 16, ground := Go.Ground.phase }, { on := 17, ground := Go.Ground.phase }, { on := 18, ground := Go.Ground.phase }, { on := 19, ground := Go.Ground.phase }, { on := 20, ground := Go.Ground.phase }, { on := 21, ground := Go.Ground.phase }, { on := 22, ground := Go.Ground.phase }, { on := 23, ground := Go.Ground.phase }, { on := 24, ground := Go.Ground.phase }, { on := 25, ground := Go.Ground.phase }, { on := 26, ground := Go.Ground.phase }, { on := 27, ground := Go.Ground.phase }, { on := 28, ground := Go.Ground.phase }, { on := 29, ground := Go.Ground.phase }, { on := 30, ground := Go.Ground.phase }, { on := 31, ground := Go.Ground.phase }, { on := 32, ground := Go.Ground.phase }, { on := 33, ground := Go.Ground.phase }, { on := 34, ground := Go.Ground.phase }, { on := 35, ground := Go.Ground.phase }, { on := 36, ground := Go.Ground.phase }, { on := 37, ground := Go.Ground.phase }, { on := 38, ground := Go.Ground.phase }, { on := 39, ground := Go.Ground.phase }, { on := 40, ground := Go.Ground.phase }, { on := 41, ground := Go.Ground.phase }, { on := 42, ground := Go.Ground.phase }, { on := 43, ground := Go.Ground.phase }, { on := 44, ground := Go.Ground.phase }, { on := 45, ground := Go.Ground.phase }, { on := 46, ground := Go.Ground.phase }, { on := 47, ground := Go.Ground.phase }, { on := 48, ground := Go.Ground.phase }, { on := 49, ground := Go.Ground.phase }, { on := 50, ground := Go.Ground.phase }, { on := 51, ground := Go.Ground.phase }, { on := 52, ground := Go.Ground.phase }, { on := 53, ground := Go.Ground.phase }, { on := 54, ground := Go.Ground.phase }, { on := 55, ground := Go.Ground.phase }, { on := 56, ground := Go.Ground.phase }, { on := 57, ground := Go.Ground.phase }, { on := 58, ground := Go.Ground.phase }], guard := none }) (v := ?_) rfl (by kernel_rfl) (by kernel_rfl) (by kernel_rfl) (fun _ _ _ h => h) (Or.inl ⟨by kernel_rfl, ?_⟩) (by assumption) ?_
        rotate_left
        · intro w _
          first | (go_simp; done) | (go_simp; with_reducible rfl)
        try simp only [Act.put, List.setIfInBounds_toArray, List.set_cons_zero, List.set_cons_succ]
        refine wpAnyH_done (by kernel_rfl) ?_ _
        clear HS hHeld
        go_wp2
        go_ret
        exact ⟨by first | rfl | decide | (simp; done) | (simp; omega), (by first | exact S0.2.2.2.2.2.2 | exact Sc1.2.2.2.2.2.2 | exact Sc2.2.2.2.2.2.2 | exact Sc3.2.2.2.2.2.2 | exact Sc4.2.2.2.2.2.2 | exact Sc5.2.2.2.2.2.2 | exact Sc6.2.2.2.2.2.2 | exact Sc7.2.2.2.2.2.2 | exact Sc8.2.2.2.2.2.2 | exact Sc9.2.2.2.2.2.2 | exact Sc10.2.2.2.2.2.2 | exact Sc11.2.2.2.2.2.2 | exact Sc12.2.2.2.2.2.2 | exact Sc13.2.2.2.2.2.2 | exact Sc14.2.2.2.2.2.2 | exact Sc15.2.2.2.2.2.2 | exact Sc16.2.2.2.2.2.2 | exact Sc17.2.2.2.2.2.2 | exact Sc18.2.2.2.2.2.2 | exact Sc19.2.2.2.2.2.2 | exact Sc20.2.2.2.2.2.2 | exact Sc21.2.2.2.2.2.2 | exact Sc22.2.2.2.2.2.2 | exact Sc23.2.2.2.2.2.2 | exact Sc24.2.2.2.2.2.2 | exact Sc25.2.2.2.2.2.2 | exact Sc26.2.2.2.2.2.2 | exact Sc27.2.2.2.2.2.2 | exact Sc28.2.2.2.2.2.2 | exact Sc29.2.2.2.2.2.2 | exact Sc30.2.2.2.2.2.2)⟩
      refine AllReadyH.cons (o := { dst := some 79, op := Go.Op.buildSlice 32 1 #[(0, Go.Operand.tmp 78)], type := 32, pos := "keeps.go:42", after := #[{ on := 20, ground := Go.Ground.data }, { on := 15, ground := Go.Ground.guard }], guard := some (15, true) }) rfl (fun K hK => ?_) AllReadyH.nil
      ·
        go_simp
        have hb3 : Below wc1.heap.size wc1 (wc1.alloc (.cells #[.int .u8 (v : Int)] 5)) := (Below.refl _ _).alloc (Nat.le_refl _) _
        obtain ⟨g21, hg21⟩ : ∃ g, wc1.heap.size = g := ⟨_, rfl⟩
        have HO8 : OneU (wc1.alloc (.cells #[.int .u8 (v : Int)] 5)) g21 v := ⟨by rw [← hg21]; exact Blk.new _ _ _⟩
        obtain ⟨wc7, hwwc7⟩ : ∃ z, (wc1.alloc (.cells #[.int .u8 (v : Int)] 5)) = z := ⟨_, rfl⟩
        have Hb3 := Lib.hid hb3
        have HHO8 := Lib.hid HO8
        clear hb3 HO8
        rw [hwwc7] at Hb3 HHO8
        rw [hwwc7, hg21]
        have hb3 := Hb3.out
        have HO8 := HHO8.out
        clear hwwc7 Hb3 HHO8 hg21
        have Sc7 := HS.out _ _ (by assumption) hb3
        refine hK.out _ _ Sc7 (fun _ => ?_)
        clear hK K hb3
        try simp only [Act.put, List.setIfInBounds_toArray, List.set_cons_zero, List.set_cons_succ]
        refine wpAnyH_ready (rs := [17, 22]) (by kernel_rfl) (by simp) ?_
        refine AllReadyH.cons (o := { dst := some 75, op := Go.Op.call { callee := Go.Callee.value (Go.Operand.func 19), args := #[Go.Operand.tmp 74], argTypes := #[36] }, type := 9, pos := "keeps.go:42", after := #[{ on := 16, ground := Go.Ground.data }, { on := 15, ground := Go.Ground.chain }, { on := 15, ground := Go.Ground.guard }], guard := some (15, true) }) rfl (fun K hK => ?_) ?_
        ·
          go_simp
          go_at_call 19
          refine (P6.out _ (by first | exact S0.2.2.2.2.2.1 | exact Sc1.2.2.2.2.2.1 | exact Sc2.2.2.2.2.2.1 | exact Sc3.2.2.2.2.2.1 | exact Sc4.2.2.2.2.2.1 | exact Sc5.2.2.2.2.2.1 | exact Sc6.2.2.2.2.2.1 | exact Sc7.2.2.2.2.2.1 | exact Sc8.2.2.2.2.2.1 | exact Sc9.2.2.2.2.2.1 | exact Sc10.2.2.2.2.2.1 | exact Sc11.2.2.2.2.2.1 | exact Sc12.2.2.2.2.2.1 | exact Sc13.2.2.2.2.2.1 | exact Sc14.2.2.2.2.2.1 | exact Sc15.2.2.2.2.2.1 | exact Sc16.2.2.2.2.2.1 | exact Sc17.2.2.2.2.2.1 | exact Sc18.2.2.2.2.2.1 | exact Sc19.2.2.2.2.2.1 | exact Sc20.2.2.2.2.2.1 | exact Sc21.2.2.2.2.2.1 | exact Sc22.2.2.2.2.2.1 | exact Sc23.2.2.2.2.2.1 | exact Sc24.2.2.2.2.2.1 | exact Sc25.2.2.2.2.2.1 | exact Sc26.2.2.2.2.2.1 | exact Sc27.2.2.2.2.2.1 | exact Sc28.2.2.2.2.2.1 | exact Sc29.2.2.2.2.2.1 | exact Sc30.2.2.2.2.2.1) (by first | exact S0.2.2.2.2.2.2 | exact Sc1.2.2.2.2.2.2 | exact Sc2.2.2.2.2.2.2 | exact Sc3.2.2.2.2.2.2 | exact Sc4.2.2.2.2.2.2 | exact Sc5.2.2.2.2.2.2 | exact Sc6.2.2.2.2.2.2 | exact Sc7.2.2.2.2.2.2 | exact Sc8.2.2.2.2.2.2 | exact Sc9.2.2.2.2.2.2 | exact Sc10.2.2.2.2.2.2 | exact Sc11.2.2.2.2.2.2 | exact Sc12.2.2.2.2.2.2 | exact Sc13.2.2.2.2.2.2 | exact Sc14.2.2.2.2.2.2 | exact Sc15.2.2.2.2.2.2 | exact Sc16.2.2.2.2.2.2 | exact Sc17.2.2.2.2.2.2 | exact Sc18.2.2.2.2.2.2 | exact Sc19.2.2.2.2.2.2 | exact Sc20.2.2.2.2.2.2 | exact Sc21.2.2.2.2.2.2 | exact Sc22.2.2.2.2.2.2 | exact Sc23.2.2.2.2.2.2 | exact Sc24.2.2.2.2.2.2 | exact Sc25.2.2.2.2.2.2 | exact Sc26.2.2.2.2.2.2 | exact Sc27.2.2.2.2.2.2 | exact Sc28.2.2.2.2.2.2 | exact Sc29.2.2.2.2.2.2 | exact Sc30.2.2.2.2.2.2)).mono ?_
          rintro _ wc8 ⟨rfl, hb3⟩
          have HO8_ := HO8.below hb3
          clear HO8
          have HO8 := HO8_
          clear HO8_
          have Sc8 := HS.out _ _ (by assumption) hb3
          refine hK.out _ _ Sc8 (fun _ => ?_)
          clear hK K hb3
          try simp only [Act.put, List.setIfInBounds_toArray, List.set_cons_zero, List.set_cons_succ]
          refine wpAnyH_ready (rs := [22]) (by kernel_rfl) (by simp) ?_
          refine AllReadyH.cons (o := { dst := some 80, op := Go.Op.convert 32 9 (Go.Operand.tmp 79), type := 9, pos := "keeps.go:42", after := #[{ on := 21, ground := Go.Ground.data }, { on := 15, ground := Go.Ground.guard }], guard := some (15, true) }) rfl (fun K hK => ?_) AllReadyH.nil
          have cvv := CV.out _ _ HO8
          go_simp
          refine hK.out _ _ (by assumption) (fun _ => ?_)
          clear cvv
          clear hK K
          try simp only [Act.put, List.setIfInBounds_toArray, List.set_cons_zero, List.set_cons_succ]
          refine wpAnyH_take (i := 23) (oi := { dst := some 81, op := Go.Op.binOp Go.BinOp.add 9 (Go.Operand.tmp 77) (Go.Operand.tmp 80) 9, type := 9, pos := "keeps.go:42", after := #[{ on := 19, ground := Go.Ground.data }, { on := 22, ground := Go.Ground.data }, { on := 15, ground := Go.Ground.guard }], guard := some (15, true) }) (v := ?_) rfl (by kernel_rfl) (by kernel_rfl) (by kernel_rfl) (fun _ _ _ h => h) (Or.inl ⟨by kernel_rfl, ?_⟩) (by assumption) ?_
          rotate_left
          · intro w _
            first | (go_simp; done) | (go_simp; with_reducible rfl)
          try simp only [Act.put, List.setIfInBounds_toArray, List.set_cons_zero, List.set_cons_succ]
          refine wpAnyH_take (i := 24) (oi := { dst := some 82, op := Go.Op.binOp Go.BinOp.eql 9 (Go.Operand.tmp 75) (Go.Operand.tmp 81) 9, type := 4, pos := "keeps.go:42", after := #[{ on := 17, ground := Go.Ground.data }, { on := 23, ground := Go.Ground.data }, { on := 15, ground := Go.Ground.guard }], guard := some (15, true) }) (v := ?_) rfl (by kernel_rfl) (by kernel_rfl) (by kernel_rfl) (fun _ _ _ h => h) (Or.inl ⟨by kernel_rfl, ?_⟩) (by assumption) ?_
          rotate_left
          · intro w _
            first | (go_simp; done) | (go_simp; with_reducible rfl)
          try simp only [Act.put, List.setIfInBounds_toArray, List.set_cons_zero, List.set_cons_succ]
          refine wpAnyH_take (i := 25) (oi := { dst := some 83, op := Go.Op.pick (Go.Operand.tmp 73) (Go.Operand.tmp 82) (Go.Operand.const (Go.Value.bool false)), type := 4, pos := "keeps.go:42", after := #[{ on := 15, ground := Go.Ground.data }, { on := 24, ground := Go.Ground.data }], guard := none }) (v := ?_) rfl (by kernel_rfl) (by kernel_rfl) (by kernel_rfl) (fun _ _ _ h => h) (Or.inl ⟨by kernel_rfl, ?_⟩) (by assumption) ?_
          rotate_left
          · intro w _
            first | (go_simp; done) | (go_simp; with_reducible rfl)
          try simp only [Act.put, List.setIfInBounds_toArray, List.set_cons_zero, List.set_cons_succ]
          refine wpAnyH_take (i := 26) (oi := { dst := some 84, op := Go.Op.move (Go.Operand.tmp 83), type := 4, pos := "keeps.go:42", after := #[{ on := 25, ground := Go.Ground.data }, { on := 17, ground := Go.Ground.chain }], guard := none }) (v := ?_) rfl (by kernel_rfl) (by kernel_rfl) (by kernel_rfl) (fun _ _ _ h => h) (Or.inl ⟨by kernel_rfl, ?_⟩) (by assumption) ?_
          rotate_left
          · intro w _
            first | (go_simp; done) | (go_simp; with_reducible rfl)
          try simp only [Act.put, List.setIfInBounds_toArray, List.set_cons_zero, List.set_cons_succ]
          refine wpAnyH_take (i := 27) (oi := { dst := some 85, op := Go.Op.load 36 (Go.Operand.tmp 9), type := 36, pos := "keeps.go:42", after := #[{ on := 26, ground := Go.Ground.guard }], guard := some (26, true) }) (v := ?_) rfl (by kernel_rfl) (by kernel_rfl) (by kernel_rfl) (fun _ _ _ h => h) (Or.inl ⟨by kernel_rfl, ?_⟩) (by assumption) ?_
          rotate_left
          · intro w hSw
            (try dsimp only at hSw)
            go_split_ands
            first | (go_simp; done) | (go_simp; with_reducible rfl)
          try simp only [Act.put, List.setIfInBounds_toArray, List.set_cons_zero, List.set_cons_succ]
          refine wpAnyH_take (i := 29) (oi := { dst := some 87, op := Go.Op.move (Go.Operand.tmp 6), type := 9, pos := "keeps.go:42", after := #[{ on := 26, ground := Go.Ground.guard }], guard := some (26, true) }) (v := ?_) rfl (by kernel_rfl) (by kernel_rfl) (by kernel_rfl) (fun _ _ _ h => h) (Or.inl ⟨by kernel_rfl, ?_⟩) (by assumption) ?_
          rotate_left
          · intro w _
            first | (go_simp; done) | (go_simp; with_reducible rfl)
          try simp only [Act.put, List.setIfInBounds_toArray, List.set_cons_zero, List.set_cons_succ]
          refine wpAnyH_take (i := 30) (oi := { dst := some 88, op := Go.Op.call { callee := Go.Callee.builtin Go.Builtin.len, args := #[Go.Operand.tmp 87], argTypes := #[9] }, type := 3, pos := "keeps.go:42", after := #[{ on := 29, ground := Go.Ground.data }, { on := 26, ground := Go.Ground.guard }], guard := some (26, true) }) (v := ?_) rfl (by kernel_rfl) (by kernel_rfl) (by kernel_rfl) (fun _ _ _ h => h) (Or.inl ⟨by kernel_rfl, ?_⟩) (by assumption) ?_
          rotate_left
          · intro w _
            first | (go_simp; done) | (go_simp; with_reducible rfl)
          try simp only [Act.put, List.setIfInBounds_toArray, List.set_cons_zero, List.set_cons_succ]
          refine wpAnyH_ready (rs := [28]) (by kernel_rfl) (by simp) ?_
          refine AllReadyH.cons (o := { dst := some 86, op := Go.Op.call { callee := Go.Callee.value (Go.Operand.func 22), args := #[Go.Operand.tmp 85], argTypes := #[36] }, type := 3, pos := "keeps.go:42", after := #[{ on := 27, ground := Go.Ground.data }, { on := 26, ground := Go.Ground.chain }, { on := 26, ground := Go.Ground.guard }], guard := some (26, true) }) rfl (fun K hK => ?_) AllReadyH.nil
          go_simp
          go_at_call 22
          refine (Z4.out _ (by first | exact S0.2.2.2.2.1 | exact Sc1.2.2.2.2.1 | exact Sc2.2.2.2.2.1 | exact Sc3.2.2.2.2.1 | exact Sc4.2.2.2.2.1 | exact Sc5.2.2.2.2.1 | exact Sc6.2.2.2.2.1 | exact Sc7.2.2.2.2.1 | exact Sc8.2.2.2.2.1 | exact Sc9.2.2.2.2.1 | exact Sc10.2.2.2.2.1 | exact Sc11.2.2.2.2.1 | exact Sc12.2.2.2.2.1 | exact Sc13.2.2.2.2.1 | exact Sc14.2.2.2.2.1 | exact Sc15.2.2.2.2.1 | exact Sc16.2.2.2.2.1 | exact Sc17.2.2.2.2.1 | exact Sc18.2.2.2.2.1 | exact Sc19.2.2.2.2.1 | exact Sc20.2.2.2.2.1 | exact Sc21.2.2.2.2.1 | exact Sc22.2.2.2.2.1 | exact Sc23.2.2.2.2.1 | exact Sc24.2.2.2.2.1 | exact Sc25.2.2.2.2.1 | exact Sc26.2.2.2.2.1 | exact Sc27.2.2.2.2.1 | exact Sc28.2.2.2.2.1 | exact Sc29.2.2.2.2.1 | exact Sc30.2.2.2.2.1)).mono ?_
          rintro _ wc10 ⟨rfl, hb3⟩
          have HO8_ := HO8.below hb3
          clear HO8
          have HO8 := HO8_
          clear HO8_
          have Sc10 := HS.out _ _ (by assumption) hb3
          refine hK.out _ _ Sc10 (fun _ => ?_)
          clear hK K hb3
          try simp only [Act.put, List.setIfInBounds_toArray, List.set_cons_zero, List.set_cons_succ]
          refine wpAnyH_take (i := 31) (oi := { dst := some 89, op := Go.Op.binOp Go.BinOp.eql 3 (Go.Operand.tmp 86) (Go.Operand.tmp 88) 3, type := 4, pos := "keeps.go:42", after := #[{ on := 28, ground := Go.Ground.data }, { on := 30, ground := Go.Ground.data }, { on := 26, ground := Go.Ground.guard }], guard := some (26, true) }) (v := ?_) rfl (by kernel_rfl) (by kernel_rfl) (by kernel_rfl) (fun _ _ _ h => h) (Or.inl ⟨by kernel_rfl, ?_⟩) (by assumption) ?_
          rotate_left
          · intro w _
            first | (go_simp; done) | (go_simp; with_reducible rfl)
          try simp only [Act.put, List.setIfInBounds_toArray, List.set_cons_zero, List.set_cons_succ]
          refine wpAnyH_take (i := 32) (oi := { dst := some 90, op := Go.Op.pick (Go.Operand.tmp 84) (Go.Operand.tmp 89) (Go.Operand.const (Go.Value.bool false)), type := 4, pos := "keeps.go:42", after := #[{ on := 26, ground := Go.Ground.data }, { on := 31, ground := Go.Ground.data }], guard := none }) (v := ?_) rfl (by kernel_rfl) (by kernel_rfl) (by kernel_rfl) (fun _ _ _ h => h) (Or.inl ⟨by kernel_rfl, ?_⟩) (by assumption) ?_
          rotate_left
          · intro w _
            first | (go_simp; done) | (go_simp; with_reducible rfl)
          try simp only [Act.put, List.setIfInBounds_toArray, List.set_cons_zero, List.set_cons_succ]
          refine wpAnyH_take (i := 33) (oi := { dst := some 91, op := Go.Op.move (Go.Operand.tmp 90), type := 4, pos := "keeps.go:42", after := #[{ on := 32, ground := Go.Ground.data }, { on := 28, ground := Go.Ground.chain }], guard := none }) (v := ?_) rfl (by kernel_rfl) (by kernel_rfl) (by kernel_rfl) (fun _ _ _ h => h) (Or.inl ⟨by kernel_rfl, ?_⟩) (by assumption) ?_
          rotate_left
          · intro w _
            first | (go_simp; done) | (go_simp; with_reducible rfl)
          try simp only [Act.put, List.setIfInBounds_toArray, List.set_cons_zero, List.set_cons_succ]
          refine wpAnyH_take (i := 34) (oi := { dst := some 92, op := Go.Op.load 36 (Go.Operand.tmp 12), type := 36, pos := "keeps.go:42", after := #[{ on := 33, ground := Go.Ground.guard }], guard := some (33, true) }) (v := ?_) rfl (by kernel_rfl) (by kernel_rfl) (by kernel_rfl) (fun _ _ _ h => h) (Or.inl ⟨by kernel_rfl, ?_⟩) (by assumption) ?_
          rotate_left
          · intro w hSw
            (try dsimp only at hSw)
            go_split_ands
            first | (go_simp; done) | (go_simp; with_reducible rfl)
          try simp only [Act.put, List.setIfInBounds_toArray, List.set_cons_zero, List.set_cons_succ]
          refine wpAnyH_take (i := 36) (oi := { dst := some 94, op := Go.Op.move (Go.Operand.tmp 6), type := 9, pos := "keeps.go:42", after := #[{ on := 33, ground := Go.Ground.guard }], guard := some (33, true) }) (v := ?_) rfl (by kernel_rfl) (by kernel_rfl) (by kernel_rfl) (fun _ _ _ h => h) (Or.inl ⟨by kernel_rfl, ?_⟩) (by assumption) ?_
          rotate_left
          · intro w _
            first | (go_simp; done) | (go_simp; with_reducible rfl)
          try simp only [Act.put, List.setIfInBounds_toArray, List.set_cons_zero, List.set_cons_succ]
          refine wpAnyH_take (i := 37) (oi := { dst := some 95, op := Go.Op.call { callee := Go.Callee.builtin Go.Builtin.len, args := #[Go.Operand.tmp 94], argTypes := #[9] }, type := 3, pos := "keeps.go:42", after := #[{ on := 36, ground := Go.Ground.data }, { on := 33, ground := Go.Ground.guard }], guard := some (33, true) }) (v := ?_) rfl (by kernel_rfl) (by kernel_rfl) (by kernel_rfl) (fun _ _ _ h => h) (Or.inl ⟨by kernel_rfl, ?_⟩) (by assumption) ?_
          rotate_left
          · intro w _
            first | (go_simp; done) | (go_simp; with_reducible rfl)
          try simp only [Act.put, List.setIfInBounds_toArray, List.set_cons_zero, List.set_cons_succ]
          refine wpAnyH_take (i := 38) (oi := { dst := some 96, op := Go.Op.binOp Go.BinOp.add 3 (Go.Operand.tmp 95) (Go.Operand.const (Go.Value.int Go.IntKind.i64 1)) 3, type := 3, pos := "keeps.go:42", after := #[{ on := 37, ground := Go.Ground.data }, { on := 33, ground := Go.Ground.guard }], guard := some (33, true) }) (v := ?_) rfl (by kernel_rfl) (by kernel_rfl) (by kernel_rfl) (fun _ _ _ h => h) (Or.inl ⟨by kernel_rfl, ?_⟩) (by assumption) ?_
          rotate_left
          · intro w _
            first | (go_simp; done) | (go_simp; with_reducible rfl)
          try simp only [Act.put, List.setIfInBounds_toArray, List.set_cons_zero, List.set_cons_succ]
          refine wpAnyH_ready (rs := [35]) (by kernel_rfl) (by simp) ?_
          refine AllReadyH.cons (o := { dst := some 93, op := Go.Op.call { callee := Go.Callee.value (Go.Operand.func 22), args := #[Go.Operand.tmp 92], argTypes := #[36] }, type := 3, pos := "keeps.go:42", after := #[{ on := 34, ground := Go.Ground.data }, { on := 33, ground := Go.Ground.chain }, { on := 33, ground := Go.Ground.guard }], guard := some (33, true) }) rfl (fun K hK => ?_) AllReadyH.nil
          go_simp
          go_at_call 22
          refine (Z6.out _ (by first | exact S0.2.2.2.2.2.1 | exact Sc1.2.2.2.2.2.1 | exact Sc2.2.2.2.2.2.1 | exact Sc3.2.2.2.2.2.1 | exact Sc4.2.2.2.2.2.1 | exact Sc5.2.2.2.2.2.1 | exact Sc6.2.2.2.2.2.1 | exact Sc7.2.2.2.2.2.1 | exact Sc8.2.2.2.2.2.1 | exact Sc9.2.2.2.2.2.1 | exact Sc10.2.2.2.2.2.1 | exact Sc11.2.2.2.2.2.1 | exact Sc12.2.2.2.2.2.1 | exact Sc13.2.2.2.2.2.1 | exact Sc14.2.2.2.2.2.1 | exact Sc15.2.2.2.2.2.1 | exact Sc16.2.2.2.2.2.1 | exact Sc17.2.2.2.2.2.1 | exact Sc18.2.2.2.2.2.1 | exact Sc19.2.2.2.2.2.1 | exact Sc20.2.2.2.2.2.1 | exact Sc21.2.2.2.2.2.1 | exact Sc22.2.2.2.2.2.1 | exact Sc23.2.2.2.2.2.1 | exact Sc24.2.2.2.2.2.1 | exact Sc25.2.2.2.2.2.1 | exact Sc26.2.2.2.2.2.1 | exact Sc27.2.2.2.2.2.1 | exact Sc28.2.2.2.2.2.1 | exact Sc29.2.2.2.2.2.1 | exact Sc30.2.2.2.2.2.1)).mono ?_
          rintro _ wc11 ⟨rfl, hb3⟩
          have HO8_ := HO8.below hb3
          clear HO8
          have HO8 := HO8_
          clear HO8_
          have Sc11 := HS.out _ _ (by assumption) hb3
          refine hK.out _ _ Sc11 (fun _ => ?_)
          clear hK K hb3
          try simp only [Act.put, List.setIfInBounds_toArray, List.set_cons_zero, List.set_cons_succ]
          refine wpAnyH_take (i := 39) (oi := { dst := some 97, op := Go.Op.binOp Go.BinOp.eql 3 (Go.Operand.tmp 93) (Go.Operand.tmp 96) 3, type := 4, pos := "keeps.go:42", after := #[{ on := 35, ground := Go.Ground.data }, { on := 38, ground := Go.Ground.data }, { on := 33, ground := Go.Ground.guard }], guard := some (33, true) }) (v := ?_) rfl (by kernel_rfl) (by kernel_rfl) (by kernel_rfl) (fun _ _ _ h => h) (Or.inl ⟨by kernel_rfl, ?_⟩) (by assumption) ?_
          rotate_left
          · intro w _
            first | (go_simp; done) | (go_simp; with_reducible rfl)
          try simp only [Act.put, List.setIfInBounds_toArray, List.set_cons_zero, List.set_cons_succ]
          refine wpAnyH_take (i := 40) (oi := { dst := some 98, op := Go.Op.pick (Go.Operand.tmp 91) (Go.Operand.tmp 97) (Go.Operand.const (Go.Value.bool false)), type := 4, pos := "keeps.go:42", after := #[{ on := 33, ground := Go.Ground.data }, { on := 39, ground := Go.Ground.data }], guard := none }) (v := ?_) rfl (by kernel_rfl) (by kernel_rfl) (by kernel_rfl) (fun _ _ _ h => h) (Or.inl ⟨by kernel_rfl, ?_⟩) (by assumption) ?_
          rotate_left
          · intro w _
            first | (go_simp; done) | (go_simp; with_reducible rfl)
          try simp only [Act.put, List.setIfInBounds_toArray, List.set_cons_zero, List.set_cons_succ]
          refine wpAnyH_take (i := 41) (oi := { dst := some 99, op := Go.Op.move (Go.Operand.tmp 98), type := 4, pos := "keeps.go:42", after := #[{ on := 40, ground := Go.Ground.data }, { on := 35, ground := Go.Ground.chain }], guard := none }) (v := ?_) rfl (by kernel_rfl) (by kernel_rfl) (by kernel_rfl) (fun _ _ _ h => h) (Or.inl ⟨by kernel_rfl, ?_⟩) (by assumption) ?_
          rotate_left
          · intro w _
            first | (go_simp; done) | (go_simp; with_reducible rfl)
          try simp only [Act.put, List.setIfInBounds_toArray, List.set_cons_zero, List.set_cons_succ]
          refine wpAnyH_take (i := 42) (oi := { dst := some 100, op := Go.Op.move (Go.Operand.tmp 6), type := 9, pos := "keeps.go:42", after := #[{ on := 41, ground := Go.Ground.guard }], guard := some (41, true) }) (v := ?_) rfl (by kernel_rfl) (by kernel_rfl) (by kernel_rfl) (fun _ _ _ h => h) (Or.inl ⟨by kernel_rfl, ?_⟩) (by assumption) ?_
          rotate_left
          · intro w _
            first | (go_simp; done) | (go_simp; with_reducible rfl)
          try simp only [Act.put, List.setIfInBounds_toArray, List.set_cons_zero, List.set_cons_succ]
          refine wpAnyH_take (i := 43) (oi := { dst := some 101, op := Go.Op.call { callee := Go.Callee.builtin Go.Builtin.len, args := #[Go.Operand.tmp 100], argTypes := #[9] }, type := 3, pos := "keeps.go:42", after := #[{ on := 42, ground := Go.Ground.data }, { on := 41, ground := Go.Ground.guard }], guard := some (41, true) }) (v := ?_) rfl (by kernel_rfl) (by kernel_rfl) (by kernel_rfl) (fun _ _ _ h => h) (Or.inl ⟨by kernel_rfl, ?_⟩) (by assumption) ?_
          rotate_left
          · intro w _
            first | (go_simp; done) | (go_simp; with_reducible rfl)
          try simp only [Act.put, List.setIfInBounds_toArray, List.set_cons_zero, List.set_cons_succ]
          refine wpAnyH_take (i := 44) (oi := { dst := some 102, op := Go.Op.binOp Go.BinOp.lss 3 (Go.Operand.tmp 101) (Go.Operand.const (Go.Value.int Go.IntKind.i64 2)) 3, type := 4, pos := "keeps.go:42", after := #[{ on := 43, ground := Go.Ground.data }, { on := 41, ground := Go.Ground.guard }], guard := some (41, true) }) (v := ?_) rfl (by kernel_rfl) (by kernel_rfl) (by kernel_rfl) (fun _ _ _ h => h) (Or.inl ⟨by kernel_rfl, ?_⟩) (by assumption) ?_
          rotate_left
          · intro w _
            first | (go_simp; done) | (go_simp; with_reducible rfl)
          try simp only [Act.put, List.setIfInBounds_toArray, List.set_cons_zero, List.set_cons_succ]
          refine wpAnyH_take (i := 45) (oi := { dst := some 103, op := Go.Op.move (Go.Operand.tmp 102), type := 4, pos := "keeps.go:42", after := #[{ on := 44, ground := Go.Ground.data }, { on := 41, ground := Go.Ground.chain }, { on := 41, ground := Go.Ground.guard }], guard := some (41, true) }) (v := ?_) rfl (by kernel_rfl) (by kernel_rfl) (by kernel_rfl) (fun _ _ _ h => h) (Or.inl ⟨by kernel_rfl, ?_⟩) (by assumption) ?_
          rotate_left
          · intro w _
            first | (go_simp; done) | (go_simp; with_reducible rfl)
          try simp only [Act.put, List.setIfInBounds_toArray, List.set_cons_zero, List.set_cons_succ]
          refine wpAnyH_take (i := 46) (oi := { dst := some 104, op := Go.Op.fieldAddr 36 (Go.Operand.tmp 9) 0, type := 0, pos := "keeps.go:42", after := #[{ on := 45, ground := Go.Ground.guard }], guard := some (45, false) }) (v := ?_) rfl (by kernel_rfl) (by kernel_rfl) (by kernel_rfl) (fun _ _ _ h => h) (Or.inl ⟨by kernel_rfl, ?_⟩) (by assumption) ?_
          rotate_left
          · intro w _
            first | (go_simp; done) | (go_simp; with_reducible rfl)
          try simp only [Act.put, List.setIfInBounds_toArray, List.set_cons_zero, List.set_cons_succ]
          refine wpAnyH_take (i := 47) (oi := { dst := some 105, op := Go.Op.load 3 (Go.Operand.tmp 104), type := 3, pos := "keeps.go:42", after := #[{ on := 46, ground := Go.Ground.data }, { on := 45, ground := Go.Ground.guard }], guard := some (45, false) }) (v := ?_) rfl (by kernel_rfl) (by kernel_rfl) (by kernel_rfl) (fun _ _ _ h => h) (Or.inl ⟨by kernel_rfl, ?_⟩) (by assumption) ?_
          rotate_left
          · intro w hSw
            (try dsimp only at hSw)
            go_split_ands
            first | (go_simp; done) | (go_simp; with_reducible rfl)
          try simp only [Act.put, List.setIfInBounds_toArray, List.set_cons_zero, List.set_cons_succ]
          refine wpAnyH_take (i := 48) (oi := { dst := some 106, op := Go.Op.binOp Go.BinOp.eql 3 (Go.Operand.tmp 105) (Go.Operand.const (Go.Value.int Go.IntKind.i64 4)) 3, type := 4, pos := "keeps.go:42", after := #[{ on := 47, ground := Go.Ground.data }, { on := 45, ground := Go.Ground.guard }], guard := some (45, false) }) (v := ?_) rfl (by kernel_rfl) (by kernel_rfl) (by kernel_rfl) (fun _ _ _ h => h) (Or.inl ⟨by kernel_rfl, ?_⟩) (by assumption) ?_
          rotate_left
          · intro w _
            first | (go_simp; done) | (go_simp; with_reducible rfl)
          try simp only [Act.put, List.setIfInBounds_toArray, List.set_cons_zero, List.set_cons_succ]
          refine wpAnyH_take (i := 49) (oi := { dst := some 107, op := Go.Op.move (Go.Operand.tmp 106), type := 4, pos := "keeps.go:42", after := #[{ on := 48, ground := Go.Ground.data }, { on := 45, ground := Go.Ground.chain }, { on := 45, ground := Go.Ground.guard }], guard := some (45, false) }) (v := ?_) rfl (by kernel_rfl) (by kernel_rfl) (by kernel_rfl) (fun _ _ _ h => h) (Or.inl ⟨by kernel_rfl, ?_⟩) (by assumption) ?_
          rotate_left
          · intro w _
            first | (go_simp; done) | (go_simp; with_reducible rfl)
          try simp only [Act.put, List.setIfInBounds_toArray, List.set_cons_zero, List.set_cons_succ]
          refine wpAnyH_take (i := 50) (oi := { dst := some 108, op := Go.Op.fieldAddr 36 (Go.Operand.tmp 9) 4, type := 0, pos := "keeps.go:42", after := #[{ on := 49, ground := Go.Ground.guard }], guard := some (49, true) }) (v := ?_) rfl (by kernel_rfl) (by kernel_rfl) (by kernel_rfl) (fun _ _ _ h => h) (Or.inl ⟨by kernel_rfl, ?_⟩) (by assumption) ?_
          rotate_left
          · intro w _
            first | (go_simp; done) | (go_simp; with_reducible rfl)
          try simp only [Act.put, List.setIfInBounds_toArray, List.set_cons_zero, List.set_cons_succ]
          refine wpAnyH_take (i := 51) (oi := { dst := some 109, op := Go.Op.load 34 (Go.Operand.tmp 108), type := 34, pos := "keeps.go:42", after := #[{ on := 50, ground := Go.Ground.data }, { on := 49, ground := Go.Ground.guard }], guard := some (49, true) }) (v := ?_) rfl (by kernel_rfl) (by kernel_rfl) (by kernel_rfl) (fun _ _ _ h => h) (Or.inl ⟨by kernel_rfl, ?_⟩) (by assumption) ?_
          rotate_left
          · intro w hSw
            (try dsimp only at hSw)
            go_split_ands
            first | (go_simp; done) | (go_simp; with_reducible rfl)
          try simp only [Act.put, List.setIfInBounds_toArray, List.set_cons_zero, List.set_cons_succ]
          refine wpAnyH_take (i := 52) (oi := { dst := some 110, op := Go.Op.call { callee := Go.Callee.builtin Go.Builtin.len, args := #[Go.Operand.tmp 109], argTypes := #[34] }, type := 3, pos := "keeps.go:42", after := #[{ on := 51, ground := Go.Ground.data }, { on := 49, ground := Go.Ground.guard }], guard := some (49, true) }) (v := ?_) rfl (by kernel_rfl) (by kernel_rfl) (by kernel_rfl) (fun _ _ _ h => h) (Or.inl ⟨by kernel_rfl, ?_⟩) (by assumption) ?_
          rotate_left
          · intro w _
            first | (go_simp; done) | (go_simp; with_reducible rfl)
          try simp only [Act.put, List.setIfInBounds_toArray, List.set_cons_zero, List.set_cons_succ]
          refine wpAnyH_take (i := 53) (oi := { dst := some 111, op := Go.Op.move (Go.Operand.tmp 6), type := 9, pos := "keeps.go:42", after := #[{ on := 49, ground := Go.Ground.guard }], guard := some (49, true) }) (v := ?_) rfl (by kernel_rfl) (by kernel_rfl) (by kernel_rfl) (fun _ _ _ h => h) (Or.inl ⟨by kernel_rfl, ?_⟩) (by assumption) ?_
          rotate_left
          · intro w _
            first | (go_simp; done) | (go_simp; with_reducible rfl)
          try simp only [Act.put, List.setIfInBounds_toArray, List.set_cons_zero, List.set_cons_succ]
          refine wpAnyH_take (i := 54) (oi := { dst := some 112, op := Go.Op.call { callee := Go.Callee.builtin Go.Builtin.len, args := #[Go.Operand.tmp 111], argTypes := #[9] }, type := 3, pos := "keeps.go:42", after := #[{ on := 53, ground := Go.Ground.data }, { on := 49, ground := Go.Ground.guard }], guard := some (49, true) }) (v := ?_) rfl (by kernel_rfl) (by kernel_rfl) (by kernel_rfl) (fun _ _ _ h => h) (Or.inl ⟨by kernel_rfl, ?_⟩) (by assumption) ?_
          rotate_left
          · intro w _
            first | (go_simp; done) | (go_simp; with_reducible rfl)
          try simp only [Act.put, List.setIfInBounds_toArray, List.set_cons_zero, List.set_cons_succ]
          refine wpAnyH_take (i := 55) (oi := { dst := some 113, op := Go.Op.binOp Go.BinOp.eql 3 (Go.Operand.tmp 110) (Go.Operand.tmp 112) 3, type := 4, pos := "keeps.go:42", after := #[{ on := 52, ground := Go.Ground.data }, { on := 54, ground := Go.Ground.data }, { on := 49, ground := Go.Ground.guard }], guard := some (49, true) }) (v := ?_) rfl (by kernel_rfl) (by kernel_rfl) (by kernel_rfl) (fun _ _ _ h => h) (Or.inl ⟨by kernel_rfl, ?_⟩) (by assumption) ?_
          rotate_left
          · intro w _
            first | (go_simp; done) | (go_simp; with_reducible rfl)
          try simp only [Act.put, List.setIfInBounds_toArray, List.set_cons_zero, List.set_cons_succ]
          refine wpAnyH_take (i := 56) (oi := { dst := some 114, op := Go.Op.pick (Go.Operand.tmp 107) (Go.Operand.tmp 113) (Go.Operand.const (Go.Value.bool false)), type := 4, pos := "keeps.go:42", after := #[{ on := 49, ground := Go.Ground.data }, { on := 55, ground := Go.Ground.data }, { on := 45, ground := Go.Ground.guard }], guard := some (45, false) }) (v := ?_) rfl (by kernel_rfl) (by kernel_rfl) (by kernel_rfl) (fun _ _ _ h => h) (Or.inl ⟨by kernel_rfl, ?_⟩) (by assumption) ?_
          rotate_left
          · intro w _
            first | (go_simp; done) | (go_simp; with_reducible rfl)
          try simp only [Act.put, List.setIfInBounds_toArray, List.set_cons_zero, List.set_cons_succ]
          refine wpAnyH_take (i := 57) (oi := { dst := some 115, op := Go.Op.pick (Go.Operand.tmp 103) (Go.Operand.const (Go.Value.bool true)) (Go.Operand.tmp 114), type := 4, pos := "keeps.go:42", after := #[{ on := 45, ground := Go.Ground.data }, { on := 56, ground := Go.Ground.data }, { on := 41, ground := Go.Ground.guard }], guard := some (41, true) }) (v := ?_) rfl (by kernel_rfl) (by kernel_rfl) (by kernel_rfl) (fun _ _ _ h => h) (Or.inl ⟨by kernel_rfl, ?_⟩) (by assumption) ?_
          rotate_left
          · intro w _
            first | (go_simp; done) | (go_simp; with_reducible rfl)
          try simp only [Act.put, List.setIfInBounds_toArray, List.set_cons_zero, List.set_cons_succ]
          refine wpAnyH_take (i := 58) (oi := { dst := some 116, op := Go.Op.pick (Go.Operand.tmp 99) (Go.Operand.tmp 115) (Go.Operand.const (Go.Value.bool false)), type := 4, pos := "keeps.go:42", after := #[{ on := 41, ground := Go.Ground.data }, { on := 57, ground := Go.Ground.data }], guard := none }) (v := ?_) rfl (by kernel_rfl) (by kernel_rfl) (by kernel_rfl) (fun _ _ _ h => h) (Or.inl ⟨by kernel_rfl, ?_⟩) (by assumption) ?_
          rotate_left
          · intro w _
            first | (go_simp; done) | (go_simp; with_reducible rfl)
          try simp only [Act.put, List.setIfInBounds_toArray, List.set_cons_zero, List.set_cons_succ]
          refine wpAnyH_take (i := 59) (oi := { dst := some 4, op := Go.Op.assign (Go.Operand.tmp 116), type := 4, pos := "keeps.go:42", after := #[{ on := 58, ground := Go.Ground.data }, { on := 49, ground := Go.Ground.chain }, { on := 0, ground := Go.Ground.phase }, { on := 1, ground := Go.Ground.phase }, { on := 2, ground := Go.Ground.phase }, { on := 3, ground := Go.Ground.phase }, { on := 4, ground := Go.Ground.phase }, { on := 5, ground := Go.Ground.phase }, { on := 6, ground := Go.Ground.phase }, { on := 7, ground := Go.Ground.phase }, { on := 8, ground := Go.Ground.phase }, { on := 9, ground := Go.Ground.phase }, { on := 10, ground := Go.Ground.phase }, { on := 11, ground := Go.Ground.phase }, { on := 12, ground := Go.Ground.phase }, { on := 13, ground := Go.Ground.phase }, { on := 14, ground := Go.Ground.phase }, { on := 15, ground := Go.Ground.phase }, { on := 16, ground := Go.Ground.phase }, { on := 17, ground := Go.Ground.phase }, { on := 18, ground := Go.Ground.phase }, { on := 19, ground := Go.Ground.phase }, { on := 20, ground := Go.Ground.phase }, { on := 21, ground := Go.Ground.phase }, { on := 22, ground := Go.Ground.phase }, { on := 23, ground := Go.Ground.phase }, { on := 24, ground := Go.Ground.phase }, { on := 25, ground := Go.Ground.phase }, { on := 26, ground := Go.Ground.phase }, { on := 27, ground := Go.Ground.phase }, { on := 28, ground := Go.Ground.phase }, { on := 29, ground := Go.Ground.phase }, { on := 30, ground := Go.Ground.phase }, { on := 31, ground := Go.Ground.phase }, { on := 32, ground := Go.Ground.phase }, { on := 33, ground := Go.Ground.phase }, { on := 34, ground := Go.Ground.phase }, { on := 35, ground := Go.Ground.phase }, { on := 36, ground := Go.Ground.phase }, { on := 37, ground := Go.Ground.phase }, { on := 38, ground := Go.Ground.phase }, { on := 39, ground := Go.Ground.phase }, { on := 40, ground := Go.Ground.phase }, { on := 41, ground := Go.Ground.phase }, { on := 42, ground := Go.Ground.phase }, { on := 43, ground := Go.Ground.phase }, { on := 44, ground := Go.Ground.phase }, { on := 45, ground := Go.Ground.phase }, { on := 46, ground := Go.Ground.phase }, { on := 47, ground := Go.Ground.phase }, { on := 48, ground := Go.Ground.phase }, { on := 49, ground := Go.Ground.phase }, { on := 50, ground := Go.Ground.phase }, { on := 51, ground := Go.Ground.phase }, { on := 52, ground := Go.Ground.phase }, { on := 53, ground := Go.Ground.phase }, { on := 54, ground := Go.Ground.phase }, { on := 55, ground := Go.Ground.phase }, { on := 56, ground := Go.Ground.phase }, { on := 57, ground := Go.Ground.phase }, { on := 58, ground := Go.Ground.phase }], guard := none }) (v := ?_) rfl (by kernel_rfl) (by kernel_rfl) (by kernel_rfl) (fun _ _ _ h => h) (Or.inl ⟨by kernel_rfl, ?_⟩) (by assumption) ?_
          rotate_left
          · intro w _
            first | (go_simp; done) | (go_simp; with_reducible rfl)
          try simp only [Act.put, List.setIfInBounds_toArray, List.set_cons_zero, List.set_cons_succ]
          refine wpAnyH_done (by kernel_rfl) ?_ _
          clear HS hHeld
          go_wp2
          go_ret
          exact ⟨by first | rfl | decide | (simp; done) | (simp; omega), (by first | exact S0.2.2.2.2.2.2 | exact Sc1.2.2.2.2.2.2 | exact Sc2.2.2.2.2.2.2 | exact Sc3.2.2.2.2.2.2 | exact Sc4.2.2.2.2.2.2 | exact Sc5.2.2.2.2.2.2 | exact Sc6.2.2.2.2.2.2 | exact Sc7.2.2.2.2.2.2 | exact Sc8.2.2.2.2.2.2 | exact Sc9.2.2.2.2.2.2 | exact Sc10.2.2.2.2.2.2 | exact Sc11.2.2.2.2.2.2 | exact Sc12.2.2.2.2.2.2 | exact Sc13.2.2.2.2.2.2 | exact Sc14.2.2.2.2.2.2 | exact Sc15.2.2.2.2.2.2 | exact Sc16.2.2.2.2.2.2 | exact Sc17.2.2.2.2.2.2 | exact Sc18.2.2.2.2.2.2 | exact Sc19.2.2.2.2.2.2 | exact Sc20.2.2.2.2.2.2 | exact Sc21.2.2.2.2.2.2 | exact Sc22.2.2.2.2.2.2 | exact Sc23.2.2.2.2.2.2 | exact Sc24.2.2.2.2.2.2 | exact Sc25.2.2.2.2.2.2 | exact Sc26.2.2.2.2.2.2 | exact Sc27.2.2.2.2.2.2 | exact Sc28.2.2.2.2.2.2 | exact Sc29.2.2.2.2.2.2 | exact Sc30.2.2.2.2.2.2)⟩
        refine AllReadyH.cons (o := { dst := some 80, op := Go.Op.convert 32 9 (Go.Operand.tmp 79), type := 9, pos := "keeps.go:42", after := #[{ on := 21, ground := Go.Ground.data }, { on := 15, ground := Go.Ground.guard }], guard := some (15, true) }) rfl (fun K hK => ?_) AllReadyH.nil
        ·
          have cvv := CV.out _ _ HO8
          go_simp
          refine hK.out _ _ (by assumption) (fun _ => ?_)
          clear cvv
          clear hK K
          try simp only [Act.put, List.setIfInBounds_toArray, List.set_cons_zero, List.set_cons_succ]
          refine wpAnyH_take (i := 23) (oi := { dst := some 81, op := Go.Op.binOp Go.BinOp.add 9 (Go.Operand.tmp 77) (Go.Operand.tmp 80) 9, type := 9, pos := "keeps.go:42", after := #[{ on := 19, ground := Go.Ground.data }, { on := 22, ground := Go.Ground.data }, { on := 15, ground := Go.Ground.guard }], guard := some (15, true) }) (v := ?_) rfl (by kernel_rfl) (by kernel_rfl) (by kernel_rfl) (fun _ _ _ h => h) (Or.inl ⟨by kernel_rfl, ?_⟩) (by assumption) ?_
          rotate_left
          · intro w _
            first | (go_simp; done) | (go_simp; with_reducible rfl)
          try simp only [Act.put, List.setIfInBounds_toArray, List.set_cons_zero, List.set_cons_succ]
          refine wpAnyH_ready (rs := [17]) (by kernel_rfl) (by simp) ?_
          refine AllReadyH.cons (o := { dst := some 75, op := Go.Op.call { callee := Go.Callee.value (Go.Operand.func 19), args := #[Go.Operand.tmp 74], argTypes := #[36] }, type := 9, pos := "keeps.go:42", after := #[{ on := 16, ground := Go.Ground.data }, { on := 15, ground := Go.Ground.chain }, { on := 15, ground := Go.Ground.guard }], guard := some (15, true) }) rfl (fun K hK => ?_) AllReadyH.nil
          go_simp
          go_at_call 19
          refine (P6.out _ (by first | exact S0.2.2.2.2.2.1 | exact Sc1.2.2.2.2.2.1 | exact Sc2.2.2.2.2.2.1 | exact Sc3.2.2.2.2.2.1 | exact Sc4.2.2.2.2.2.1 | exact Sc5.2.2.2.2.2.1 | exact Sc6.2.2.2.2.2.1 | exact Sc7.2.2.2.2.2.1 | exact Sc8.2.2.2.2.2.1 | exact Sc9.2.2.2.2.2.1 | exact Sc10.2.2.2.2.2.1 | exact Sc11.2.2.2.2.2.1 | exact Sc12.2.2.2.2.2.1 | exact Sc13.2.2.2.2.2.1 | exact Sc14.2.2.2.2.2.1 | exact Sc15.2.2.2.2.2.1 | exact Sc16.2.2.2.2.2.1 | exact Sc17.2.2.2.2.2.1 | exact Sc18.2.2.2.2.2.1 | exact Sc19.2.2.2.2.2.1 | exact Sc20.2.2.2.2.2.1 | exact Sc21.2.2.2.2.2.1 | exact Sc22.2.2.2.2.2.1 | exact Sc23.2.2.2.2.2.1 | exact Sc24.2.2.2.2.2.1 | exact Sc25.2.2.2.2.2.1 | exact Sc26.2.2.2.2.2.1 | exact Sc27.2.2.2.2.2.1 | exact Sc28.2.2.2.2.2.1 | exact Sc29.2.2.2.2.2.1 | exact Sc30.2.2.2.2.2.1) (by first | exact S0.2.2.2.2.2.2 | exact Sc1.2.2.2.2.2.2 | exact Sc2.2.2.2.2.2.2 | exact Sc3.2.2.2.2.2.2 | exact Sc4.2.2.2.2.2.2 | exact Sc5.2.2.2.2.2.2 | exact Sc6.2.2.2.2.2.2 | exact Sc7.2.2.2.2.2.2 | exact Sc8.2.2.2.2.2.2 | exact Sc9.2.2.2.2.2.2 | exact Sc10.2.2.2.2.2.2 | exact Sc11.2.2.2.2.2.2 | exact Sc12.2.2.2.2.2.2 | exact Sc13.2.2.2.2.2.2 | exact Sc14.2.2.2.2.2.2 | exact Sc15.2.2.2.2.2.2 | exact Sc16.2.2.2.2.2.2 | exact Sc17.2.2.2.2.2.2 | exact Sc18.2.2.2.2.2.2 | exact Sc19.2.2.2.2.2.2 | exact Sc20.2.2.2.2.2.2 | exact Sc21.2.2.2.2.2.2 | exact Sc22.2.2.2.2.2.2 | exact Sc23.2.2.2.2.2.2 | exact Sc24.2.2.2.2.2.2 | exact Sc25.2.2.2.2.2.2 | exact Sc26.2.2.2.2.2.2 | exact Sc27.2.2.2.2.2.2 | exact Sc28.2.2.2.2.2.2 | exact Sc29.2.2.2.2.2.2 | exact Sc30.2.2.2.2.2.2)).mono ?_
          rintro _ wc13 ⟨rfl, hb3⟩
          have HO8_ := HO8.below hb3
          clear HO8
          have HO8 := HO8_
          clear HO8_
          have Sc13 := HS.out _ _ (by assumption) hb3
          refine hK.out _ _ Sc13 (fun _ => ?_)
          clear hK K hb3
          try simp only [Act.put, List.setIfInBounds_toArray, List.set_cons_zero, List.set_cons_succ]
          refine wpAnyH_take (i := 24) (oi := { dst := some 82, op := Go.Op.binOp Go.BinOp.eql 9 (Go.Operand.tmp 75) (Go.Operand.tmp 81) 9, type := 4, pos := "keeps.go:42", after := #[{ on := 17, ground := Go.Ground.data }, { on := 23, ground := Go.Ground.data }, { on := 15, ground := Go.Ground.guard }], guard := some (15, true) }) (v := ?_) rfl (by kernel_rfl) (by kernel_rfl) (by kernel_rfl) (fun _ _ _ h => h) (Or.inl ⟨by kernel_rfl, ?_⟩) (by assumption) ?_
          rotate_left
          · intro w _
            first | (go_simp; done) | (go_simp; with_reducible rfl)
          try simp only [Act.put, List.setIfInBounds_toArray, List.set_cons_zero, List.set_cons_succ]
          refine wpAnyH_take (i := 25) (oi := { dst := some 83, op := Go.Op.pick (Go.Operand.tmp 73) (Go.Operand.tmp 82) (Go.Operand.const (Go.Value.bool false)), type := 4, pos := "keeps.go:42", after := #[{ on := 15, ground := Go.Ground.data }, { on := 24, ground := Go.Ground.data }], guard := none }) (v := ?_) rfl (by kernel_rfl) (by kernel_rfl) (by kernel_rfl) (fun _ _ _ h => h) (Or.inl ⟨by kernel_rfl, ?_⟩) (by assumption) ?_
          rotate_left
          · intro w _
            first | (go_simp; done) | (go_simp; with_reducible rfl)
          try simp only [Act.put, List.setIfInBounds_toArray, List.set_cons_zero, List.set_cons_succ]
          refine wpAnyH_take (i := 26) (oi := { dst := some 84, op := Go.Op.move (Go.Operand.tmp 83), type := 4, pos := "keeps.go:42", after := #[{ on := 25, ground := Go.Ground.data }, { on := 17, ground := Go.Ground.chain }], guard := none }) (v := ?_) rfl (by kernel_rfl) (by kernel_rfl) (by kernel_rfl) (fun _ _ _ h => h) (Or.inl ⟨by kernel_rfl, ?_⟩) (by assumption) ?_
          rotate_left
          · intro w _
            first | (go_simp; done) | (go_simp; with_reducible rfl)
          try simp only [Act.put, List.setIfInBounds_toArray, List.set_cons_zero, List.set_cons_succ]
          refine wpAnyH_take (i := 27) (oi := { dst := some 85, op := Go.Op.load 36 (Go.Operand.tmp 9), type := 36, pos := "keeps.go:42", after := #[{ on := 26, ground := Go.Ground.guard }], guard := some (26, true) }) (v := ?_) rfl (by kernel_rfl) (by kernel_rfl) (by kernel_rfl) (fun _ _ _ h => h) (Or.inl ⟨by kernel_rfl, ?_⟩) (by assumption) ?_
          rotate_left
          · intro w hSw
            (try dsimp only at hSw)
            go_split_ands
            first | (go_simp; done) | (go_simp; with_reducible rfl)
          try simp only [Act.put, List.setIfInBounds_toArray, List.set_cons_zero, List.set_cons_succ]
          refine wpAnyH_take (i := 29) (oi := { dst := some 87, op := Go.Op.move (Go.Operand.tmp 6), type := 9, pos := "keeps.go:42", after := #[{ on := 26, ground := Go.Ground.guard }], guard := some (26, true) }) (v := ?_) rfl (by kernel_rfl) (by kernel_rfl) (by kernel_rfl) (fun _ _ _ h => h) (Or.inl ⟨by kernel_rfl, ?_⟩) (by assumption) ?_
          rotate_left
          · intro w _
            first | (go_simp; done) | (go_simp; with_reducible rfl)
          try simp only [Act.put, List.setIfInBounds_toArray, List.set_cons_zero, List.set_cons_succ]
          refine wpAnyH_take (i := 30) (oi := { dst := some 88, op := Go.Op.call { callee := Go.Callee.builtin Go.Builtin.len, args := #[Go.Operand.tmp 87], argTypes := #[9] }, type := 3, pos := "keeps.go:42", after := #[{ on := 29, ground := Go.Ground.data }, { on := 26, ground := Go.Ground.guard }], guard := some (26, true) }) (v := ?_) rfl (by kernel_rfl) (by kernel_rfl) (by kernel_rfl) (fun _ _ _ h => h) (Or.inl ⟨by kernel_rfl, ?_⟩) (by assumption) ?_
          rotate_left
          · intro w _
            first | (go_simp; done) | (go_simp; with_reducible rfl)
          try simp only [Act.put, List.setIfInBounds_toArray, List.set_cons_zero, List.set_cons_succ]
          refine wpAnyH_ready (rs := [28]) (by kernel_rfl) (by simp) ?_
          refine AllReadyH.cons (o := { dst := some 86, op := Go.Op.call { callee := Go.Callee.value (Go.Operand.func 22), args := #[Go.Operand.tmp 85], argTypes := #[36] }, type := 3, pos := "keeps.go:42", after := #[{ on := 27, ground := Go.Ground.data }, { on := 26, ground := Go.Ground.chain }, { on := 26, ground := Go.Ground.guard }], guard := some (26, true) }) rfl (fun K hK => ?_) AllReadyH.nil
          go_simp
          go_at_call 22
          refine (Z4.out _ (by first | exact S0.2.2.2.2.1 | exact Sc1.2.2.2.2.1 | exact Sc2.2.2.2.2.1 | exact Sc3.2.2.2.2.1 | exact Sc4.2.2.2.2.1 | exact Sc5.2.2.2.2.1 | exact Sc6.2.2.2.2.1 | exact Sc7.2.2.2.2.1 | exact Sc8.2.2.2.2.1 | exact Sc9.2.2.2.2.1 | exact Sc10.2.2.2.2.1 | exact Sc11.2.2.2.2.1 | exact Sc12.2.2.2.2.1 | exact Sc13.2.2.2.2.1 | exact Sc14.2.2.2.2.1 | exact Sc15.2.2.2.2.1 | exact Sc16.2.2.2.2.1 | exact Sc17.2.2.2.2.1 | exact Sc18.2.2.2.2.1 | exact Sc19.2.2.2.2.1 | exact Sc20.2.2.2.2.1 | exact Sc21.2.2.2.2.1 | exact Sc22.2.2.2.2.1 | exact Sc23.2.2.2.2.1 | exact Sc24.2.2.2.2.1 | exact Sc25.2.2.2.2.1 | exact Sc26.2.2.2.2.1 | exact Sc27.2.2.2.2.1 | exact Sc28.2.2.2.2.1 | exact Sc29.2.2.2.2.1 | exact Sc30.2.2.2.2.1)).mono ?_
          rintro _ wc14 ⟨rfl, hb3⟩
          have HO8_ := HO8.below hb3
          clear HO8
          have HO8 := HO8_
          clear HO8_
          have Sc14 := HS.out _ _ (by assumption) hb3
          refine hK.out _ _ Sc14 (fun _ => ?_)
          clear hK K hb3
          try simp only [Act.put, List.setIfInBounds_toArray, List.set_cons_zero, List.set_cons_succ]
          refine wpAnyH_take (i := 31) (oi := { dst := some 89, op := Go.Op.binOp Go.BinOp.eql 3 (Go.Operand.tmp 86) (Go.Operand.tmp 88) 3, type := 4, pos := "keeps.go:42", after := #[{ on := 28, ground := Go.Ground.data }, { on := 30, ground := Go.Ground.data }, { on := 26, ground := Go.Ground.guard }], guard := some (26, true) }) (v := ?_) rfl (by kernel_rfl) (by kernel_rfl) (by kernel_rfl) (fun _ _ _ h => h) (Or.inl ⟨by kernel_rfl, ?_⟩) (by assumption) ?_
          rotate_left
          · intro w _
            first | (go_simp; done) | (go_simp; with_reducible rfl)
          try simp only [Act.put, List.setIfInBounds_toArray, List.set_cons_zero, List.set_cons_succ]
          refine wpAnyH_take (i := 32) (oi := { dst := some 90, op := Go.Op.pick (Go.Operand.tmp 84) (Go.Operand.tmp 89) (Go.Operand.const (Go.Value.bool false)), type := 4, pos := "keeps.go:42", after := #[{ on := 26, ground := Go.Ground.data }, { on := 31, ground := Go.Ground.data }], guard := none }) (v := ?_) rfl (by kernel_rfl) (by kernel_rfl) (by kernel_rfl) (fun _ _ _ h => h) (Or.inl ⟨by kernel_rfl, ?_⟩) (by assumption) ?_
          rotate_left
          · intro w _
            first | (go_simp; done) | (go_simp; with_reducible rfl)
          try simp only [Act.put, List.setIfInBounds_toArray, List.set_cons_zero, List.set_cons_succ]
          refine wpAnyH_take (i := 33) (oi := { dst := some 91, op := Go.Op.move (Go.Operand.tmp 90), type := 4, pos := "keeps.go:42", after := #[{ on := 32, ground := Go.Ground.data }, { on := 28, ground := Go.Ground.chain }], guard := none }) (v := ?_) rfl (by kernel_rfl) (by kernel_rfl) (by kernel_rfl) (fun _ _ _ h => h) (Or.inl ⟨by kernel_rfl, ?_⟩) (by assumption) ?_
          rotate_left
          · intro w _
            first | (go_simp; done) | (go_simp; with_reducible rfl)
          try simp only [Act.put, List.setIfInBounds_toArray, List.set_cons_zero, List.set_cons_succ]
          refine wpAnyH_take (i := 34) (oi := { dst := some 92, op := Go.Op.load 36 (Go.Operand.tmp 12), type := 36, pos := "keeps.go:42", after := #[{ on := 33, ground := Go.Ground.guard }], guard := some (33, true) }) (v := ?_) rfl (by kernel_rfl) (by kernel_rfl) (by kernel_rfl) (fun _ _ _ h => h) (Or.inl ⟨by kernel_rfl, ?_⟩) (by assumption) ?_
          rotate_left
          · intro w hSw
            (try dsimp only at hSw)
            go_split_ands
            first | (go_simp; done) | (go_simp; with_reducible rfl)
          try simp only [Act.put, List.setIfInBounds_toArray, List.set_cons_zero, List.set_cons_succ]
          refine wpAnyH_take (i := 36) (oi := { dst := some 94, op := Go.Op.move (Go.Operand.tmp 6), type := 9, pos := "keeps.go:42", after := #[{ on := 33, ground := Go.Ground.guard }], guard := some (33, true) }) (v := ?_) rfl (by kernel_rfl) (by kernel_rfl) (by kernel_rfl) (fun _ _ _ h => h) (Or.inl ⟨by kernel_rfl, ?_⟩) (by assumption) ?_
          rotate_left
          · intro w _
            first | (go_simp; done) | (go_simp; with_reducible rfl)
          try simp only [Act.put, List.setIfInBounds_toArray, List.set_cons_zero, List.set_cons_succ]
          refine wpAnyH_take (i := 37) (oi := { dst := some 95, op := Go.Op.call { callee := Go.Callee.builtin Go.Builtin.len, args := #[Go.Operand.tmp 94], argTypes := #[9] }, type := 3, pos := "keeps.go:42", after := #[{ on := 36, ground := Go.Ground.data }, { on := 33, ground := Go.Ground.guard }], guard := some (33, true) }) (v := ?_) rfl (by kernel_rfl) (by kernel_rfl) (by kernel_rfl) (fun _ _ _ h => h) (Or.inl ⟨by kernel_rfl, ?_⟩) (by assumption) ?_
          rotate_left
          · intro w _
            first | (go_simp; done) | (go_simp; with_reducible rfl)
          try simp only [Act.put, List.setIfInBounds_toArray, List.set_cons_zero, List.set_cons_succ]
          refine wpAnyH_take (i := 38) (oi := { dst := some 96, op := Go.Op.binOp Go.BinOp.add 3 (Go.Operand.tmp 95) (Go.Operand.const (Go.Value.int Go.IntKind.i64 1)) 3, type := 3, pos := "keeps.go:42", after := #[{ on := 37, ground := Go.Ground.data }, { on := 33, ground := Go.Ground.guard }], guard := some (33, true) }) (v := ?_) rfl (by kernel_rfl) (by kernel_rfl) (by kernel_rfl) (fun _ _ _ h => h) (Or.inl ⟨by kernel_rfl, ?_⟩) (by assumption) ?_
          rotate_left
          · intro w _
            first | (go_simp; done) | (go_simp; with_reducible rfl)
          try simp only [Act.put, List.setIfInBounds_toArray, List.set_cons_zero, List.set_cons_succ]
          refine wpAnyH_ready (rs := [35]) (by kernel_rfl) (by simp) ?_
          refine AllReadyH.cons (o := { dst := some 93, op := Go.Op.call { callee := Go.Callee.value (Go.Operand.func 22), args := #[Go.Operand.tmp 92], argTypes := #[36] }, type := 3, pos := "keeps.go:42", after := #[{ on := 34, ground := Go.Ground.data }, { on := 33, ground := Go.Ground.chain }, { on := 33, ground := Go.Ground.guard }], guard := some (33, true) }) rfl (fun K hK => ?_) AllReadyH.nil
          go_simp
          go_at_call 22
          refine (Z6.out _ (by first | exact S0.2.2.2.2.2.1 | exact Sc1.2.2.2.2.2.1 | exact Sc2.2.2.2.2.2.1 | exact Sc3.2.2.2.2.2.1 | exact Sc4.2.2.2.2.2.1 | exact Sc5.2.2.2.2.2.1 | exact Sc6.2.2.2.2.2.1 | exact Sc7.2.2.2.2.2.1 | exact Sc8.2.2.2.2.2.1 | exact Sc9.2.2.2.2.2.1 | exact Sc10.2.2.2.2.2.1 | exact Sc11.2.2.2.2.2.1 | exact Sc12.2.2.2.2.2.1 | exact Sc13.2.2.2.2.2.1 | exact Sc14.2.2.2.2.2.1 | exact Sc15.2.2.2.2.2.1 | exact Sc16.2.2.2.2.2.1 | exact Sc17.2.2.2.2.2.1 | exact Sc18.2.2.2.2.2.1 | exact Sc19.2.2.2.2.2.1 | exact Sc20.2.2.2.2.2.1 | exact Sc21.2.2.2.2.2.1 | exact Sc22.2.2.2.2.2.1 | exact Sc23.2.2.2.2.2.1 | exact Sc24.2.2.2.2.2.1 | exact Sc25.2.2.2.2.2.1 | exact Sc26.2.2.2.2.2.1 | exact Sc27.2.2.2.2.2.1 | exact Sc28.2.2.2.2.2.1 | exact Sc29.2.2.2.2.2.1 | exact Sc30.2.2.2.2.2.1)).mono ?_
          rintro _ wc15 ⟨rfl, hb3⟩
          have HO8_ := HO8.below hb3
          clear HO8
          have HO8 := HO8_
          clear HO8_
          have Sc15 := HS.out _ _ (by assumption) hb3
          refine hK.out _ _ Sc15 (fun _ => ?_)
          clear hK K hb3
          try simp only [Act.put, List.setIfInBounds_toArray, List.set_cons_zero, List.set_cons_succ]
          refine wpAnyH_take (i := 39) (oi := { dst := some 97, op := Go.Op.binOp Go.BinOp.eql 3 (Go.Operand.tmp 93) (Go.Operand.tmp 96) 3, type := 4, pos := "keeps.go:42", after := #[{ on := 35, ground := Go.Ground.data }, { on := 38, ground := Go.Ground.data }, { on := 33, ground := Go.Ground.guard }], guard := some (33, true) }) (v := ?_) rfl (by kernel_rfl) (by kernel_rfl) (by kernel_rfl) (fun _ _ _ h => h) (Or.inl ⟨by kernel_rfl, ?_⟩) (by assumption) ?_
          rotate_left
          · intro w _
            first | (go_simp; done) | (go_simp; with_reducible rfl)
          try simp only [Act.put, List.setIfInBounds_toArray, List.set_cons_zero, List.set_cons_succ]
          refine wpAnyH_take (i := 40) (oi := { dst := some 98, op := Go.Op.pick (Go.Operand.tmp 91) (Go.Operand.tmp 97) (Go.Operand.const (Go.Value.bool false)), type := 4, pos := "keeps.go:42", after := #[{ on := 33, ground := Go.Ground.data }, { on := 39, ground := Go.Ground.data }], guard := none }) (v := ?_) rfl (by kernel_rfl) (by kernel_rfl) (by kernel_rfl) (fun _ _ _ h => h) (Or.inl ⟨by kernel_rfl, ?_⟩) (by assumption) ?_
          rotate_left
          · intro w _
            first | (go_simp; done) | (go_simp; with_reducible rfl)
          try simp only [Act.put, List.setIfInBounds_toArray, List.set_cons_zero, List.set_cons_succ]
          refine wpAnyH_take (i := 41) (oi := { dst := some 99, op := Go.Op.move (Go.Operand.tmp 98), type := 4, pos := "keeps.go:42", after := #[{ on := 40, ground := Go.Ground.data }, { on := 35, ground := Go.Ground.chain }], guard := none }) (v := ?_) rfl (by kernel_rfl) (by kernel_rfl) (by kernel_rfl) (fun _ _ _ h => h) (Or.inl ⟨by kernel_rfl, ?_⟩) (by assumption) ?_
          rotate_left
          · intro w _
            first | (go_simp; done) | (go_simp; with_reducible rfl)
          try simp only [Act.put, List.setIfInBounds_toArray, List.set_cons_zero, List.set_cons_succ]
          refine wpAnyH_take (i := 42) (oi := { dst := some 100, op := Go.Op.move (Go.Operand.tmp 6), type := 9, pos := "keeps.go:42", after := #[{ on := 41, ground := Go.Ground.guard }], guard := some (41, true) }) (v := ?_) rfl (by kernel_rfl) (by kernel_rfl) (by kernel_rfl) (fun _ _ _ h => h) (Or.inl ⟨by kernel_rfl, ?_⟩) (by assumption) ?_
          rotate_left
          · intro w _
            first | (go_simp; done) | (go_simp; with_reducible rfl)
          try simp only [Act.put, List.setIfInBounds_toArray, List.set_cons_zero, List.set_cons_succ]
          refine wpAnyH_take (i := 43) (oi := { dst := some 101, op := Go.Op.call { callee := Go.Callee.builtin Go.Builtin.len, args := #[Go.Operand.tmp 100], argTypes := #[9] }, type := 3, pos := "keeps.go:42", after := #[{ on := 42, ground := Go.Ground.data }, { on := 41, ground := Go.Ground.guard }], guard := some (41, true) }) (v := ?_) rfl (by kernel_rfl) (by kernel_rfl) (by kernel_rfl) (fun _ _ _ h => h) (Or.inl ⟨by kernel_rfl, ?_⟩) (by assumption) ?_
          rotate_left
          · intro w _
            first | (go_simp; done) | (go_simp; with_reducible rfl)
          try simp only [Act.put, List.setIfInBounds_toArray, List.set_cons_zero, List.set_cons_succ]
          refine wpAnyH_take (i := 44) (oi := { dst := some 102, op := Go.Op.binOp Go.BinOp.lss 3 (Go.Operand.tmp 101) (Go.Operand.const (Go.Value.int Go.IntKind.i64 2)) 3, type := 4, pos := "keeps.go:42", after := #[{ on := 43, ground := Go.Ground.data }, { on := 41, ground := Go.Ground.guard }], guard := some (41, true) }) (v := ?_) rfl (by kernel_rfl) (by kernel_rfl) (by kernel_rfl) (fun _ _ _ h => h) (Or.inl ⟨by kernel_rfl, ?_⟩) (by assumption) ?_
          rotate_left
          · intro w _
            first | (go_simp; done) | (go_simp; with_reducible rfl)
          try simp only [Act.put, List.setIfInBounds_toArray, List.set_cons_zero, List.set_cons_succ]
          refine wpAnyH_take (i := 45) (oi := { dst := some 103, op := Go.Op.move (Go.Operand.tmp 102), type := 4, pos := "keeps.go:42", after := #[{ on := 44, ground := Go.Ground.data }, { on := 41, ground := Go.Ground.chain }, { on := 41, ground := Go.Ground.guard }], guard := some (41, true) }) (v := ?_) rfl (by kernel_rfl) (by kernel_rfl) (by kernel_rfl) (fun _ _ _ h => h) (Or.inl ⟨by kernel_rfl, ?_⟩) (by assumption) ?_
          rotate_left
          · intro w _
            first | (go_simp; done) | (go_simp; with_reducible rfl)
          try simp only [Act.put, List.setIfInBounds_toArray, List.set_cons_zero, List.set_cons_succ]
          refine wpAnyH_take (i := 46) (oi := { dst := some 104, op := Go.Op.fieldAddr 36 (Go.Operand.tmp 9) 0, type := 0, pos := "keeps.go:42", after := #[{ on := 45, ground := Go.Ground.guard }], guard := some (45, false) }) (v := ?_) rfl (by kernel_rfl) (by kernel_rfl) (by kernel_rfl) (fun _ _ _ h => h) (Or.inl ⟨by kernel_rfl, ?_⟩) (by assumption) ?_
          rotate_left
          · intro w _
            first | (go_simp; done) | (go_simp; with_reducible rfl)
          try simp only [Act.put, List.setIfInBounds_toArray, List.set_cons_zero, List.set_cons_succ]
          refine wpAnyH_take (i := 47) (oi := { dst := some 105, op := Go.Op.load 3 (Go.Operand.tmp 104), type := 3, pos := "keeps.go:42", after := #[{ on := 46, ground := Go.Ground.data }, { on := 45, ground := Go.Ground.guard }], guard := some (45, false) }) (v := ?_) rfl (by kernel_rfl) (by kernel_rfl) (by kernel_rfl) (fun _ _ _ h => h) (Or.inl ⟨by kernel_rfl, ?_⟩) (by assumption) ?_
          rotate_left
          · intro w hSw
            (try dsimp only at hSw)
            go_split_ands
            first | (go_simp; done) | (go_simp; with_reducible rfl)
          try simp only [Act.put, List.setIfInBounds_toArray, List.set_cons_zero, List.set_cons_succ]
          refine wpAnyH_take (i := 48) (oi := { dst := some 106, op := Go.Op.binOp Go.BinOp.eql 3 (Go.Operand.tmp 105) (Go.Operand.const (Go.Value.int Go.IntKind.i64 4)) 3, type := 4, pos := "keeps.go:42", after := #[{ on := 47, ground := Go.Ground.data }, { on := 45, ground := Go.Ground.guard }], guard := some (45, false) }) (v := ?_) rfl (by kernel_rfl) (by kernel_rfl) (by kernel_rfl) (fun _ _ _ h => h) (Or.inl ⟨by kernel_rfl, ?_⟩) (by assumption) ?_
          rotate_left
          · intro w _
            first | (go_simp; done) | (go_simp; with_reducible rfl)
          try simp only [Act.put, List.setIfInBounds_toArray, List.set_cons_zero, List.set_cons_succ]
          refine wpAnyH_take (i := 49) (oi := { dst := some 107, op := Go.Op.move (Go.Operand.tmp 106), type := 4, pos := "keeps.go:42", after := #[{ on := 48, ground := Go.Ground.data }, { on := 45, ground := Go.Ground.chain }, { on := 45, ground := Go.Ground.guard }], guard := some (45, false) }) (v := ?_) rfl (by kernel_rfl) (by kernel_rfl) (by kernel_rfl) (fun _ _ _ h => h) (Or.inl ⟨by kernel_rfl, ?_⟩) (by assumption) ?_
          rotate_left
          · intro w _
            first | (go_simp; done) | (go_simp; with_reducible rfl)
          try simp only [Act.put, List.setIfInBounds_toArray, List.set_cons_zero, List.set_cons_succ]
          refine wpAnyH_take (i := 50) (oi := { dst := some 108, op := Go.Op.fieldAddr 36 (Go.Operand.tmp 9) 4, type := 0, pos := "keeps.go:42", after := #[{ on := 49, ground := Go.Ground.guard }], guard := some (49, true) }) (v := ?_) rfl (by kernel_rfl) (by kernel_rfl) (by kernel_rfl) (fun _ _ _ h => h) (Or.inl ⟨by kernel_rfl, ?_⟩) (by assumption) ?_
          rotate_left
          · intro w _
            first | (go_simp; done) | (go_simp; with_reducible rfl)
          try simp only [Act.put, List.setIfInBounds_toArray, List.set_cons_zero, List.set_cons_succ]
          refine wpAnyH_take (i := 51) (oi := { dst := some 109, op := Go.Op.load 34 (Go.Operand.tmp 108), type := 34, pos := "keeps.go:42", after := #[{ on := 50, ground := Go.Ground.data }, { on := 49, ground := Go.Ground.guard }], guard := some (49, true) }) (v := ?_) rfl (by kernel_rfl) (by kernel_rfl) (by kernel_rfl) (fun _ _ _ h => h) (Or.inl ⟨by kernel_rfl, ?_⟩) (by assumption) ?_
          rotate_left
          · intro w hSw
            (try dsimp only at hSw)
            go_split_ands
            first | (go_simp; done) | (go_simp; with_reducible rfl)
          try simp only [Act.put, List.setIfInBounds_toArray, List.set_cons_zero, List.set_cons_succ]
          refine wpAnyH_take (i := 52) (oi := { dst := some 110, op := Go.Op.call { callee := Go.Callee.builtin Go.Builtin.len, args := #[Go.Operand.tmp 109], argTypes := #[34] }, type := 3, pos := "keeps.go:42", after := #[{ on := 51, ground := Go.Ground.data }, { on := 49, ground := Go.Ground.guard }], guard := some (49, true) }) (v := ?_) rfl (by kernel_rfl) (by kernel_rfl) (by kernel_rfl) (fun _ _ _ h => h) (Or.inl ⟨by kernel_rfl, ?_⟩) (by assumption) ?_
          rotate_left
          · intro w _
            first | (go_simp; done) | (go_simp; with_reducible rfl)
          try simp only [Act.put, List.setIfInBounds_toArray, List.set_cons_zero, List.set_cons_succ]
          refine wpAnyH_take (i := 53) (oi := { dst := some 111, op := Go.Op.move (Go.Operand.tmp 6), type := 9, pos := "keeps.go:42", after := #[{ on := 49, ground := Go.Ground.guard }], guard := some (49, true) }) (v := ?_) rfl (by kernel_rfl) (by kernel_rfl) (by kernel_rfl) (fun _ _ _ h => h) (Or.inl ⟨by kernel_rfl, ?_⟩) (by assumption) ?_
          rotate_left
          · intro w _
            first | (go_simp; done) | (go_simp; with_reducible rfl)
          try simp only [Act.put, List.setIfInBounds_toArray, List.set_cons_zero, List.set_cons_succ]
          refine wpAnyH_take (i := 54) (oi := { dst := some 112, op := Go.Op.call { callee := Go.Callee.builtin Go.Builtin.len, args := #[Go.Operand.tmp 111], argTypes := #[9] }, type := 3, pos := "keeps.go:42", after := #[{ on := 53, ground := Go.Ground.data }, { on := 49, ground := Go.Ground.guard }], guard := some (49, true) }) (v := ?_) rfl (by kernel_rfl) (by kernel_rfl) (by kernel_rfl) (fun _ _ _ h => h) (Or.inl ⟨by kernel_rfl, ?_⟩) (by assumption) ?_
          rotate_left
          · intro w _
            first | (go_simp; done) | (go_simp; with_reducible rfl)
          try simp only [Act.put, List.setIfInBounds_toArray, List.set_cons_zero, List.set_cons_succ]
          refine wpAnyH_take (i := 55) (oi := { dst := some 113, op := Go.Op.binOp Go.BinOp.eql 3 (Go.Operand.tmp 110) (Go.Operand.tmp 112) 3, type := 4, pos := "keeps.go:42", after := #[{ on := 52, ground := Go.Ground.data }, { on := 54, ground := Go.Ground.data }, { on := 49, ground := Go.Ground.guard }], guard := some (49, true) }) (v := ?_) rfl (by kernel_rfl) (by kernel_rfl) (by kernel_rfl) (fun _ _ _ h => h) (Or.inl ⟨by kernel_rfl, ?_⟩) (by assumption) ?_
          rotate_left
          · intro w _
            first | (go_simp; done) | (go_simp; with_reducible rfl)
          try simp only [Act.put, List.setIfInBounds_toArray, List.set_cons_zero, List.set_cons_succ]
          refine wpAnyH_take (i := 56) (oi := { dst := some 114, op := Go.Op.pick (Go.Operand.tmp 107) (Go.Operand.tmp 113) (Go.Operand.const (Go.Value.bool false)), type := 4, pos := "keeps.go:42", after := #[{ on := 49, ground := Go.Ground.data }, { on := 55, ground := Go.Ground.data }, { on := 45, ground := Go.Ground.guard }], guard := some (45, false) }) (v := ?_) rfl (by kernel_rfl) (by kernel_rfl) (by kernel_rfl) (fun _ _ _ h => h) (Or.inl ⟨by kernel_rfl, ?_⟩) (by assumption) ?_
          rotate_left
          · intro w _
            first | (go_simp; done) | (go_simp; with_reducible rfl)
          try simp only [Act.put, List.setIfInBounds_toArray, List.set_cons_zero, List.set_cons_succ]
          refine wpAnyH_take (i := 57) (oi := { dst := some 115, op := Go.Op.pick (Go.Operand.tmp 103) (Go.Operand.const (Go.Value.bool true)) (Go.Operand.tmp 114), type := 4, pos := "keeps.go:42", after := #[{ on := 45, ground := Go.Ground.data }, { on := 56, ground := Go.Ground.data }, { on := 41, ground := Go.Ground.guard }], guard := some (41, true) }) (v := ?_) rfl (by kernel_rfl) (by kernel_rfl) (by kernel_rfl) (fun _ _ _ h => h) (Or.inl ⟨by kernel_rfl, ?_⟩) (by assumption) ?_
          rotate_left
          · intro w _
            first | (go_simp; done) | (go_simp; with_reducible rfl)
          try simp only [Act.put, List.setIfInBounds_toArray, List.set_cons_zero, List.set_cons_succ]
          refine wpAnyH_take (i := 58) (oi := { dst := some 116, op := Go.Op.pick (Go.Operand.tmp 99) (Go.Operand.tmp 115) (Go.Operand.const (Go.Value.bool false)), type := 4, pos := "keeps.go:42", after := #[{ on := 41, ground := Go.Ground.data }, { on := 57, ground := Go.Ground.data }], guard := none }) (v := ?_) rfl (by kernel_rfl) (by kernel_rfl) (by kernel_rfl) (fun _ _ _ h => h) (Or.inl ⟨by kernel_rfl, ?_⟩) (by assumption) ?_
          rotate_left
          · intro w _
            first | (go_simp; done) | (go_simp; with_reducible rfl)
          try simp only [Act.put, List.setIfInBounds_toArray, List.set_cons_zero, List.set_cons_succ]
          refine wpAnyH_take (i := 59) (oi := { dst := some 4, op := Go.Op.assign (Go.Operand.tmp 116), type := 4, pos := "keeps.go:42", after := #[{ on := 58, ground := Go.Ground.data }, { on := 49, ground := Go.Ground.chain }, { on := 0, ground := Go.Ground.phase }, { on := 1, ground := Go.Ground.phase }, { on := 2, ground := Go.Ground.phase }, { on := 3, ground := Go.Ground.phase }, { on := 4, ground := Go.Ground.phase }, { on := 5, ground := Go.Ground.phase }, { on := 6, ground := Go.Ground.phase }, { on := 7, ground := Go.Ground.phase }, { on := 8, ground := Go.Ground.phase }, { on := 9, ground := Go.Ground.phase }, { on := 10, ground := Go.Ground.phase }, { on := 11, ground := Go.Ground.phase }, { on := 12, ground := Go.Ground.phase }, { on := 13, ground := Go.Ground.phase }, { on := 14, ground := Go.Ground.phase }, { on := 15, ground := Go.Ground.phase }, { on := 16, ground := Go.Ground.phase }, { on := 17, ground := Go.Ground.phase }, { on := 18, ground := Go.Ground.phase }, { on := 19, ground := Go.Ground.phase }, { on := 20, ground := Go.Ground.phase }, { on := 21, ground := Go.Ground.phase }, { on := 22, ground := Go.Ground.phase }, { on := 23, ground := Go.Ground.phase }, { on := 24, ground := Go.Ground.phase }, { on := 25, ground := Go.Ground.phase }, { on := 26, ground := Go.Ground.phase }, { on := 27, ground := Go.Ground.phase }, { on := 28, ground := Go.Ground.phase }, { on := 29, ground := Go.Ground.phase }, { on := 30, ground := Go.Ground.phase }, { on := 31, ground := Go.Ground.phase }, { on := 32, ground := Go.Ground.phase }, { on := 33, ground := Go.Ground.phase }, { on := 34, ground := Go.Ground.phase }, { on := 35, ground := Go.Ground.phase }, { on := 36, ground := Go.Ground.phase }, { on := 37, ground := Go.Ground.phase }, { on := 38, ground := Go.Ground.phase }, { on := 39, ground := Go.Ground.phase }, { on := 40, ground := Go.Ground.phase }, { on := 41, ground := Go.Ground.phase }, { on := 42, ground := Go.Ground.phase }, { on := 43, ground := Go.Ground.phase }, { on := 44, ground := Go.Ground.phase }, { on := 45, ground := Go.Ground.phase }, { on := 46, ground := Go.Ground.phase }, { on := 47, ground := Go.Ground.phase }, { on := 48, ground := Go.Ground.phase }, { on := 49, ground := Go.Ground.phase }, { on := 50, ground := Go.Ground.phase }, { on := 51, ground := Go.Ground.phase }, { on := 52, ground := Go.Ground.phase }, { on := 53, ground := Go.Ground.phase }, { on := 54, ground := Go.Ground.phase }, { on := 55, ground := Go.Ground.phase }, { on := 56, ground := Go.Ground.phase }, { on := 57, ground := Go.Ground.phase }, { on := 58, ground := Go.Ground.phase }], guard := none }) (v := ?_) rfl (by kernel_rfl) (by kernel_rfl) (by kernel_rfl) (fun _ _ _ h => h) (Or.inl ⟨by kernel_rfl, ?_⟩) (by assumption) ?_
          rotate_left
          · intro w _
            first | (go_simp; done) | (go_simp; with_reducible rfl)
          try simp only [Act.put, List.setIfInBounds_toArray, List.set_cons_zero, List.set_cons_succ]
          refine wpAnyH_done (by kernel_rfl) ?_ _
          clear HS hHeld
          go_wp2
          go_ret
          exact ⟨by first | rfl | decide | (simp; done) | (simp; omega), (by first | exact S0.2.2.2.2.2.2 | exact Sc1.2.2.2.2.2.2 | exact Sc2.2.2.2.2.2.2 | exact Sc3.2.2.2.2.2.2 | exact Sc4.2.2.2.2.2.2 | exact Sc5.2.2.2.2.2.2 | exact Sc6.2.2.2.2.2.2 | exact Sc7.2.2.2.2.2.2 | exact Sc8.2.2.2.2.2.2 | exact Sc9.2.2.2.2.2.2 | exact Sc10.2.2.2.2.2.2 | exact Sc11.2.2.2.2.2.2 | exact Sc12.2.2.2.2.2.2 | exact Sc13.2.2.2.2.2.2 | exact Sc14.2.2.2.2.2.2 | exact Sc15.2.2.2.2.2.2 | exact Sc16.2.2.2.2.2.2 | exact Sc17.2.2.2.2.2.2 | exact Sc18.2.2.2.2.2.2 | exact Sc19.2.2.2.2.2.2 | exact Sc20.2.2.2.2.2.2 | exact Sc21.2.2.2.2.2.2 | exact Sc22.2.2.2.2.2.2 | exact Sc23.2.2.2.2.2.2 | exact Sc24.2.2.2.2.2.2 | exact Sc25.2.2.2.2.2.2 | exact Sc26.2.2.2.2.2.2 | exact Sc27.2.2.2.2.2.2 | exact Sc28.2.2.2.2.2.2 | exact Sc29.2.2.2.2.2.2 | exact Sc30.2.2.2.2.2.2)⟩
end Go.Proofs.YtojjeignijpiaaaGreatDoor
