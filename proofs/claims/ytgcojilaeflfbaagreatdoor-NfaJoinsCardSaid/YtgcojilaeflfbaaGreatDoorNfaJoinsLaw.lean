-- shaken
import Derived.Test.YtgcojilaeflfbaaGreatDoorNfaExam
namespace Go.Proofs.YtgcojilaeflfbaaGreatDoor
open Go.RowKit
set_option linter.unusedVariables false
set_option linter.unusedSimpArgs false
theorem or_text (a b : ByteArray) : ((⟨#[40]⟩ : ByteArray) ++ a ++ (⟨#[41, 124, 40]⟩ : ByteArray) ++ b ++ (⟨#[41]⟩ : ByteArray)).data.toList = inB true a.data.toList ++ 124 :: inB true b.data.toList := by
  simp only [text_joined, inB_true]
  simp
theorem both_text (a b : ByteArray) : ((⟨#[40]⟩ : ByteArray) ++ a ++ (⟨#[41, 40]⟩ : ByteArray) ++ b ++ (⟨#[41]⟩ : ByteArray)).data.toList = inB true a.data.toList ++ inB true b.data.toList := by
  simp only [text_joined, inB_true]
  simp
theorem RD.res3 {l : List UInt8} {x : NodeT} (h : RD l x) : (∃ a, parseB l = (x, a, 0)) ∨ (∃ n a, parseB l = (n, a, 4)) := by
  rcases h.res with ⟨a, h1, _⟩ | h1
  · exact .inl ⟨a, h1⟩
  · exact .inr ⟨(parseB l).1, (parseB l).2.1, by rw [← h1]⟩
theorem of_some (t : ByteArray) (W : World) (hl : LibIs W) :
    Calls Tryz.prog 12 #[.string t] W fun e w' => (∃ (v : Value) (a er : Int), e = .returned (.tuple #[v, .int .i64 a, .int .i64 er])) ∧ Below W.heap.size W w' := by
  obtain ⟨x, a, er, hp⟩ : ∃ x a er, parseB t.data.toList = (x, a, er) := ⟨_, _, _, rfl⟩
  by_cases h : er = 0
  · subst h
    refine (of_ok t x a W hl hp).mono ?_
    rintro e w ⟨b, h1, _, _, h2⟩
    exact ⟨⟨_, _, _, h1⟩, h2⟩
  · refine (of_no t x a er W hl hp h).mono ?_
    rintro e w ⟨h1, h2⟩
    exact ⟨⟨_, _, _, h1⟩, h2⟩
set_option maxRecDepth 100000 in
set_option maxHeartbeats 3200000 in
theorem nfaJoins_walk {W : World} (A : Option Addr) (len c : Nat) (zs : List Int) (A2 : Option Addr) (len2 c2 : Nat) (zs2 : List Int) (A3 : Option Addr) (len3 c3 : Nat) (zs3 : List Int) (h1 : Ints .u8 W A len zs) (hnc : len ≤ c) (hcm : c ≤ maxLen) (h2 : Ints .u8 W A2 len2 zs2) (hnc2 : len2 ≤ c2) (hcm2 : c2 ≤ maxLen) (h3 : Ints .u8 W A3 len3 zs3) (hnc3 : len3 ≤ c3) (hcm3 : c3 ≤ maxLen) (hl : LibIs W) :
    Calls Tryz.prog 4 #[.slice A len c, .slice A2 len2 c2, .slice A3 len3 c3] W fun e w' => e = .returned (.bool true) ∧ Below W.heap.size W w' := by
  have HEX := Lib.hid (fun w h => examples5_any w h)
  have HL := Lib.hid hl
  clear hl
  have R1 := Lib.hid (fun w (hb : Below W.heap.size W w) => rexes_any A len c zs (h1.below hb) hnc hcm)
  have R2 := Lib.hid (fun w (hb : Below W.heap.size W w) => rexes_any A2 len2 c2 zs2 (h2.below hb) hnc2 hcm2)
  have R3 := Lib.hid (fun w (hb : Below W.heap.size W w) => few5_any A3 len3 c3 zs3 (h3.below hb) hnc3 hcm3)
  clear h1 h2 h3 hnc hcm hnc2 hcm2 hnc3 hcm3
  go_enter Tryz.func4, Tryz.ntmps4
  go_wp2_with fail
  refine (HEX.out W HL.out).mono ?_
  rintro e w1 ⟨rfl, hb_⟩
  have HB_ := Lib.hid hb_
  clear hb_
  go_wp2_with fail
  refine (R1.out w1 HB_.out).mono ?_
  rintro e w2 ⟨⟨a, rfl, hza⟩, hb_⟩
  have hbb_ := hop HB_.out (Nat.le_refl _) hb_
  clear HB_
  have HB_ := Lib.hid hbb_
  clear hbb_ hb_
  go_wp2_with fail
  refine (R2.out w2 HB_.out).mono ?_
  rintro e w3 ⟨⟨b, rfl, hzb⟩, hb_⟩
  have hbb_ := hop HB_.out (Nat.le_refl _) hb_
  clear HB_
  have HB_ := Lib.hid hbb_
  clear hbb_ hb_
  go_wp2_with fail
  refine (R3.out w3 HB_.out).mono ?_
  rintro e w4 ⟨⟨t, rfl, hzt, _⟩, hb_⟩
  have hbb_ := hop HB_.out (Nat.le_refl _) hb_
  clear HB_
  have HB_ := Lib.hid hbb_
  clear hbb_ hb_
  have s1 : ¬ 9223372036854775807 < 1 + a.size := by omega
  have s2 : ¬ 9223372036854775807 < 1 + a.size + 3 := by omega
  have s3 : ¬ 9223372036854775807 < 1 + a.size + 3 + b.size := by omega
  have s4 : ¬ 9223372036854775807 < 1 + a.size + 3 + b.size + 1 := by omega
  have s5 : ¬ 9223372036854775807 < 1 + a.size + 2 := by omega
  have s6 : ¬ 9223372036854775807 < 1 + a.size + 2 + b.size := by omega
  have s7 : ¬ 9223372036854775807 < 1 + a.size + 2 + b.size + 1 := by omega
  obtain ⟨x, aa, er, hpb⟩ : ∃ x aa er, parseB a.data.toList = (x, aa, er) := ⟨_, _, _, rfl⟩
  have HPA := Lib.hid hpb
  clear hpb
  obtain ⟨y, ab, fr, hpb⟩ : ∃ x aa er, parseB b.data.toList = (x, aa, er) := ⟨_, _, _, rfl⟩
  have HPB := Lib.hid hpb
  clear hpb R1 R2 R3 HEX
  by_cases her : er = 0
  · subst her
    go_wp2_with fail
    refine (of_ok a x aa w4 (HL.out.below HB_.out) HPA.out).mono ?_
    rintro e w5 ⟨bp, rfl, hpn_, _, hb_⟩
    have hbb_ := hop HB_.out (Nat.le_refl _) hb_
    clear HB_
    have HB_ := Lib.hid hbb_
    clear hbb_ hb_
    have Hp := Lib.hid hpn_
    clear hpn_
    by_cases hfr : fr = 0
    · subst hfr
      go_wp2_with fail
      refine (of_ok b y ab w5 (HL.out.below HB_.out) HPB.out).mono ?_
      rintro e w6 ⟨bq, rfl, hpn_, _, hb_⟩
      have hp_ := Hp.out.below hb_
      clear Hp
      have Hp := Lib.hid hp_
      clear hp_
      have hbb_ := hop HB_.out (Nat.le_refl _) hb_
      clear HB_
      have HB_ := Lib.hid hbb_
      clear hbb_ hb_
      have Hq := Lib.hid hpn_
      clear hpn_
      obtain ⟨hrd, _, _, _⟩ := RD.of HPA.out
      obtain ⟨hrd2, _, _, _⟩ := RD.of HPB.out
      have hwf := hrd.nf.canB
      have hwf2 := hrd2.nf.canB
      have HLAW := Lib.hid (fun (wx wy fx fy ow of bf : Bool) h1 h2 h3 h4 h5 h6 h7 => law_joins (s := t.data.toList) hwf hwf2 (wx := wx) (wy := wy) (fx := fx) (fy := fy) (ow := ow) (of := of) (bf := bf) h1 h2 h3 h4 h5 h6 h7)
      have HO := Lib.hid (rd_or hrd hrd2).res3
      have HBO := Lib.hid (rd_cat2 hrd hrd2).res3
      clear hrd hrd2 hwf hwf2
      rcases HO.out with ⟨aq, hq⟩ | ⟨nq, aq, hq⟩
      ·
        have HQ_ok := Lib.hid hq
        clear hq
        go_wp2_with fail
        refine (of_ok _ (altT [x, y]) aq w6 (HL.out.below HB_.out) (by rw [or_text]; exact HQ_ok.out)).mono ?_
        rintro e w7 ⟨bo, rfl, hpn_, _, hb_⟩
        have hp_ := Hp.out.below hb_
        clear Hp
        have Hp := Lib.hid hp_
        clear hp_
        have hp_ := Hq.out.below hb_
        clear Hq
        have Hq := Lib.hid hp_
        clear hp_
        have hbb_ := hop HB_.out (Nat.le_refl _) hb_
        clear HB_
        have HB_ := Lib.hid hbb_
        clear hbb_ hb_
        have Ho := Lib.hid hpn_
        clear hpn_
        rcases HBO.out with ⟨ar, hr⟩ | ⟨nr, ar, hr⟩
        ·
          have HR_ := Lib.hid hr
          clear hr
          go_wp2_with fail
          refine (of_ok _ (catT [x, y]) ar w7 (HL.out.below HB_.out) (by rw [both_text]; exact HR_.out)).mono ?_
          rintro e w8 ⟨br, rfl, hpn_, _, hb_⟩
          have hp_ := Hp.out.below hb_
          clear Hp
          have Hp := Lib.hid hp_
          clear hp_
          have hp_ := Hq.out.below hb_
          clear Hq
          have Hq := Lib.hid hp_
          clear hp_
          have hp_ := Ho.out.below hb_
          clear Ho
          have Ho := Lib.hid hp_
          clear hp_
          have hbb_ := hop HB_.out (Nat.le_refl _) hb_
          clear HB_
          have HB_ := Lib.hid hbb_
          clear hbb_ hb_
          have Hr := Lib.hid hpn_
          clear hpn_
          obtain ⟨wx, hwx⟩ : ∃ b, wholeB t.data.toList x = b := ⟨_, rfl⟩
          obtain ⟨wy, hwy⟩ : ∃ b, wholeB t.data.toList y = b := ⟨_, rfl⟩
          obtain ⟨fx, hfx⟩ : ∃ b, foundB t.data.toList x = b := ⟨_, rfl⟩
          obtain ⟨fy, hfy⟩ : ∃ b, foundB t.data.toList y = b := ⟨_, rfl⟩
          obtain ⟨ow, how⟩ : ∃ b, wholeB t.data.toList (altT [x, y]) = b := ⟨_, rfl⟩
          obtain ⟨of, hof⟩ : ∃ b, foundB t.data.toList (altT [x, y]) = b := ⟨_, rfl⟩
          obtain ⟨bf, hbf⟩ : ∃ b, foundB t.data.toList (catT [x, y]) = b := ⟨_, rfl⟩
          obtain ⟨l1, l2, l3⟩ := HLAW.out wx wy fx fy ow of bf (by rw [← hwx]; exact wholeB_iff _ _) (by rw [← hwy]; exact wholeB_iff _ _) (by rw [← hfx]; exact foundB_iff _ _) (by rw [← hfy]; exact foundB_iff _ _) (by rw [← how]; exact wholeB_iff _ _) (by rw [← hof]; exact foundB_iff _ _) (by rw [← hbf]; exact foundB_iff _ _)
          rw [beq_iff_eq] at l1 l2
          rw [l1] at how
          rw [l2] at hof
          have L3 := Lib.hid l3
          have HWX := Lib.hid hwx
          have HWY := Lib.hid hwy
          have HFX := Lib.hid hfx
          have HFY := Lib.hid hfy
          have HOW := Lib.hid how
          have HOF := Lib.hid hof
          have HBF := Lib.hid hbf
          clear hwx hwy hfx hfy how hof hbf HLAW HO HBO HPA HPB l1 l2 l3 ow of
          cases wx with
          | true =>
            have hq_ := nfaWhole_any (altT [x, y]) bo t w8 Ho.out (by omega)
            rw [(show wholeB t.data.toList (altT [x, y]) = true from HOW.out)] at hq_
            have HQ_ := Lib.hid hq_
            clear hq_
            go_wp2_with fail
            refine (HQ_.out).mono ?_
            rintro e w9 ⟨rfl, hb_⟩
            have hp_ := Hp.out.below hb_
            clear Hp
            have Hp := Lib.hid hp_
            clear hp_
            have hp_ := Hq.out.below hb_
            clear Hq
            have Hq := Lib.hid hp_
            clear hp_
            have hp_ := Ho.out.below hb_
            clear Ho
            have Ho := Lib.hid hp_
            clear hp_
            have hp_ := Hr.out.below hb_
            clear Hr
            have Hr := Lib.hid hp_
            clear hp_
            have hbb_ := hop HB_.out (Nat.le_refl _) hb_
            clear HB_
            have HB_ := Lib.hid hbb_
            clear hbb_ hb_
            clear HQ_
            have hq_ := nfaWhole_any x bp t w9 Hp.out (by omega)
            rw [HWX.out] at hq_
            have HQ_ := Lib.hid hq_
            clear hq_
            go_wp2_with fail
            refine (HQ_.out).mono ?_
            rintro e w10 ⟨rfl, hb_⟩
            have hp_ := Hp.out.below hb_
            clear Hp
            have Hp := Lib.hid hp_
            clear hp_
            have hp_ := Hq.out.below hb_
            clear Hq
            have Hq := Lib.hid hp_
            clear hp_
            have hp_ := Ho.out.below hb_
            clear Ho
            have Ho := Lib.hid hp_
            clear hp_
            have hp_ := Hr.out.below hb_
            clear Hr
            have Hr := Lib.hid hp_
            clear hp_
            have hbb_ := hop HB_.out (Nat.le_refl _) hb_
            clear HB_
            have HB_ := Lib.hid hbb_
            clear hbb_ hb_
            clear HQ_
            cases fx with
            | true =>
              have hq_ := nfaFind_any (altT [x, y]) bo t w10 Ho.out (by omega)
              rw [(show foundB t.data.toList (altT [x, y]) = true from HOF.out)] at hq_
              have HQ_ := Lib.hid hq_
              clear hq_
              go_wp2_with fail
              refine (HQ_.out).mono ?_
              rintro e w11 ⟨rfl, hb_⟩
              have hp_ := Hp.out.below hb_
              clear Hp
              have Hp := Lib.hid hp_
              clear hp_
              have hp_ := Hq.out.below hb_
              clear Hq
              have Hq := Lib.hid hp_
              clear hp_
              have hp_ := Ho.out.below hb_
              clear Ho
              have Ho := Lib.hid hp_
              clear hp_
              have hp_ := Hr.out.below hb_
              clear Hr
              have Hr := Lib.hid hp_
              clear hp_
              have hbb_ := hop HB_.out (Nat.le_refl _) hb_
              clear HB_
              have HB_ := Lib.hid hbb_
              clear hbb_ hb_
              clear HQ_
              have hq_ := nfaFind_any x bp t w11 Hp.out (by omega)
              rw [HFX.out] at hq_
              have HQ_ := Lib.hid hq_
              clear hq_
              go_wp2_with fail
              refine (HQ_.out).mono ?_
              rintro e w12 ⟨rfl, hb_⟩
              have hp_ := Hp.out.below hb_
              clear Hp
              have Hp := Lib.hid hp_
              clear hp_
              have hp_ := Hq.out.below hb_
              clear Hq
              have Hq := Lib.hid hp_
              clear hp_
              have hp_ := Ho.out.below hb_
              clear Ho
              have Ho := Lib.hid hp_
              clear hp_
              have hp_ := Hr.out.below hb_
              clear Hr
              have Hr := Lib.hid hp_
              clear hp_
              have hbb_ := hop HB_.out (Nat.le_refl _) hb_
              clear HB_
              have HB_ := Lib.hid hbb_
              clear hbb_ hb_
              clear HQ_
              cases bf with
              | true =>
                have hq_ := nfaFind_any (catT [x, y]) br t w12 Hr.out (by omega)
                rw [HBF.out] at hq_
                have HQ_ := Lib.hid hq_
                clear hq_
                go_wp2_with fail
                refine (HQ_.out).mono ?_
                rintro e w13 ⟨rfl, hb_⟩
                have hp_ := Hp.out.below hb_
                clear Hp
                have Hp := Lib.hid hp_
                clear hp_
                have hp_ := Hq.out.below hb_
                clear Hq
                have Hq := Lib.hid hp_
                clear hp_
                have hp_ := Ho.out.below hb_
                clear Ho
                have Ho := Lib.hid hp_
                clear hp_
                have hp_ := Hr.out.below hb_
                clear Hr
                have Hr := Lib.hid hp_
                clear hp_
                have hbb_ := hop HB_.out (Nat.le_refl _) hb_
                clear HB_
                have HB_ := Lib.hid hbb_
                clear hbb_ hb_
                clear HQ_
                have hq_ := nfaFind_any x bp t w13 Hp.out (by omega)
                rw [HFX.out] at hq_
                have HQ_ := Lib.hid hq_
                clear hq_
                go_wp2_with fail
                refine (HQ_.out).mono ?_
                rintro e w14 ⟨rfl, hb_⟩
                have hp_ := Hp.out.below hb_
                clear Hp
                have Hp := Lib.hid hp_
                clear hp_
                have hp_ := Hq.out.below hb_
                clear Hq
                have Hq := Lib.hid hp_
                clear hp_
                have hp_ := Ho.out.below hb_
                clear Ho
                have Ho := Lib.hid hp_
                clear hp_
                have hp_ := Hr.out.below hb_
                clear Hr
                have Hr := Lib.hid hp_
                clear hp_
                have hbb_ := hop HB_.out (Nat.le_refl _) hb_
                clear HB_
                have HB_ := Lib.hid hbb_
                clear hbb_ hb_
                clear HQ_
                go_wp2
                go_ret
                exact ⟨by first | rfl | (simp; done) | decide, HB_.out⟩
              | false =>
                have hq_ := nfaFind_any (catT [x, y]) br t w12 Hr.out (by omega)
                rw [HBF.out] at hq_
                have HQ_ := Lib.hid hq_
                clear hq_
                go_wp2_with fail
                refine (HQ_.out).mono ?_
                rintro e w15 ⟨rfl, hb_⟩
                have hp_ := Hp.out.below hb_
                clear Hp
                have Hp := Lib.hid hp_
                clear hp_
                have hp_ := Hq.out.below hb_
                clear Hq
                have Hq := Lib.hid hp_
                clear hp_
                have hp_ := Ho.out.below hb_
                clear Ho
                have Ho := Lib.hid hp_
                clear hp_
                have hp_ := Hr.out.below hb_
                clear Hr
                have Hr := Lib.hid hp_
                clear hp_
                have hbb_ := hop HB_.out (Nat.le_refl _) hb_
                clear HB_
                have HB_ := Lib.hid hbb_
                clear hbb_ hb_
                clear HQ_
                go_wp2
                go_ret
                exact ⟨by first | rfl | (simp; done) | decide, HB_.out⟩
            | false =>
              cases fy with
              | true =>
                have hq_ := nfaFind_any (altT [x, y]) bo t w10 Ho.out (by omega)
                rw [(show foundB t.data.toList (altT [x, y]) = true from HOF.out)] at hq_
                have HQ_ := Lib.hid hq_
                clear hq_
                go_wp2_with fail
                refine (HQ_.out).mono ?_
                rintro e w16 ⟨rfl, hb_⟩
                have hp_ := Hp.out.below hb_
                clear Hp
                have Hp := Lib.hid hp_
                clear hp_
                have hp_ := Hq.out.below hb_
                clear Hq
                have Hq := Lib.hid hp_
                clear hp_
                have hp_ := Ho.out.below hb_
                clear Ho
                have Ho := Lib.hid hp_
                clear hp_
                have hp_ := Hr.out.below hb_
                clear Hr
                have Hr := Lib.hid hp_
                clear hp_
                have hbb_ := hop HB_.out (Nat.le_refl _) hb_
                clear HB_
                have HB_ := Lib.hid hbb_
                clear hbb_ hb_
                clear HQ_
                have hq_ := nfaFind_any x bp t w16 Hp.out (by omega)
                rw [HFX.out] at hq_
                have HQ_ := Lib.hid hq_
                clear hq_
                go_wp2_with fail
                refine (HQ_.out).mono ?_
                rintro e w17 ⟨rfl, hb_⟩
                have hp_ := Hp.out.below hb_
                clear Hp
                have Hp := Lib.hid hp_
                clear hp_
                have hp_ := Hq.out.below hb_
                clear Hq
                have Hq := Lib.hid hp_
                clear hp_
                have hp_ := Ho.out.below hb_
                clear Ho
                have Ho := Lib.hid hp_
                clear hp_
                have hp_ := Hr.out.below hb_
                clear Hr
                have Hr := Lib.hid hp_
                clear hp_
                have hbb_ := hop HB_.out (Nat.le_refl _) hb_
                clear HB_
                have HB_ := Lib.hid hbb_
                clear hbb_ hb_
                clear HQ_
                have hq_ := nfaFind_any y bq t w17 Hq.out (by omega)
                rw [HFY.out] at hq_
                have HQ_ := Lib.hid hq_
                clear hq_
                go_wp2_with fail
                refine (HQ_.out).mono ?_
                rintro e w18 ⟨rfl, hb_⟩
                have hp_ := Hp.out.below hb_
                clear Hp
                have Hp := Lib.hid hp_
                clear hp_
                have hp_ := Hq.out.below hb_
                clear Hq
                have Hq := Lib.hid hp_
                clear hp_
                have hp_ := Ho.out.below hb_
                clear Ho
                have Ho := Lib.hid hp_
                clear hp_
                have hp_ := Hr.out.below hb_
                clear Hr
                have Hr := Lib.hid hp_
                clear hp_
                have hbb_ := hop HB_.out (Nat.le_refl _) hb_
                clear HB_
                have HB_ := Lib.hid hbb_
                clear hbb_ hb_
                clear HQ_
                cases bf with
                | true => exact absurd (L3.out (by first | rfl | trivial)) (by simp)
                | false =>
                  have hq_ := nfaFind_any (catT [x, y]) br t w18 Hr.out (by omega)
                  rw [HBF.out] at hq_
                  have HQ_ := Lib.hid hq_
                  clear hq_
                  go_wp2_with fail
                  refine (HQ_.out).mono ?_
                  rintro e w19 ⟨rfl, hb_⟩
                  have hp_ := Hp.out.below hb_
                  clear Hp
                  have Hp := Lib.hid hp_
                  clear hp_
                  have hp_ := Hq.out.below hb_
                  clear Hq
                  have Hq := Lib.hid hp_
                  clear hp_
                  have hp_ := Ho.out.below hb_
                  clear Ho
                  have Ho := Lib.hid hp_
                  clear hp_
                  have hp_ := Hr.out.below hb_
                  clear Hr
                  have Hr := Lib.hid hp_
                  clear hp_
                  have hbb_ := hop HB_.out (Nat.le_refl _) hb_
                  clear HB_
                  have HB_ := Lib.hid hbb_
                  clear hbb_ hb_
                  clear HQ_
                  go_wp2
                  go_ret
                  exact ⟨by first | rfl | (simp; done) | decide, HB_.out⟩
              | false =>
                have hq_ := nfaFind_any (altT [x, y]) bo t w10 Ho.out (by omega)
                rw [(show foundB t.data.toList (altT [x, y]) = false from HOF.out)] at hq_
                have HQ_ := Lib.hid hq_
                clear hq_
                go_wp2_with fail
                refine (HQ_.out).mono ?_
                rintro e w20 ⟨rfl, hb_⟩
                have hp_ := Hp.out.below hb_
                clear Hp
                have Hp := Lib.hid hp_
                clear hp_
                have hp_ := Hq.out.below hb_
                clear Hq
                have Hq := Lib.hid hp_
                clear hp_
                have hp_ := Ho.out.below hb_
                clear Ho
                have Ho := Lib.hid hp_
                clear hp_
                have hp_ := Hr.out.below hb_
                clear Hr
                have Hr := Lib.hid hp_
                clear hp_
                have hbb_ := hop HB_.out (Nat.le_refl _) hb_
                clear HB_
                have HB_ := Lib.hid hbb_
                clear hbb_ hb_
                clear HQ_
                have hq_ := nfaFind_any x bp t w20 Hp.out (by omega)
                rw [HFX.out] at hq_
                have HQ_ := Lib.hid hq_
                clear hq_
                go_wp2_with fail
                refine (HQ_.out).mono ?_
                rintro e w21 ⟨rfl, hb_⟩
                have hp_ := Hp.out.below hb_
                clear Hp
                have Hp := Lib.hid hp_
                clear hp_
                have hp_ := Hq.out.below hb_
                clear Hq
                have Hq := Lib.hid hp_
                clear hp_
                have hp_ := Ho.out.below hb_
                clear Ho
                have Ho := Lib.hid hp_
                clear hp_
                have hp_ := Hr.out.below hb_
                clear Hr
                have Hr := Lib.hid hp_
                clear hp_
                have hbb_ := hop HB_.out (Nat.le_refl _) hb_
                clear HB_
                have HB_ := Lib.hid hbb_
                clear hbb_ hb_
                clear HQ_
                have hq_ := nfaFind_any y bq t w21 Hq.out (by omega)
                rw [HFY.out] at hq_
                have HQ_ := Lib.hid hq_
                clear hq_
                go_wp2_with fail
                refine (HQ_.out).mono ?_
                rintro e w22 ⟨rfl, hb_⟩
                have hp_ := Hp.out.below hb_
                clear Hp
                have Hp := Lib.hid hp_
                clear hp_
                have hp_ := Hq.out.below hb_
                clear Hq
                have Hq := Lib.hid hp_
                clear hp_
                have hp_ := Ho.out.below hb_
                clear Ho
                have Ho := Lib.hid hp_
                clear hp_
                have hp_ := Hr.out.below hb_
                clear Hr
                have Hr := Lib.hid hp_
                clear hp_
                have hbb_ := hop HB_.out (Nat.le_refl _) hb_
                clear HB_
                have HB_ := Lib.hid hbb_
                clear hbb_ hb_
                clear HQ_
                cases bf with
                | true => exact absurd (L3.out (by first | rfl | trivial)) (by simp)
                | false =>
                  have hq_ := nfaFind_any (catT [x, y]) br t w22 Hr.out (by omega)
                  rw [HBF.out] at hq_
                  have HQ_ := Lib.hid hq_
                  clear hq_
                  go_wp2_with fail
                  refine (HQ_.out).mono ?_
                  rintro e w23 ⟨rfl, hb_⟩
                  have hp_ := Hp.out.below hb_
                  clear Hp
                  have Hp := Lib.hid hp_
                  clear hp_
                  have hp_ := Hq.out.below hb_
                  clear Hq
                  have Hq := Lib.hid hp_
                  clear hp_
                  have hp_ := Ho.out.below hb_
                  clear Ho
                  have Ho := Lib.hid hp_
                  clear hp_
                  have hp_ := Hr.out.below hb_
                  clear Hr
                  have Hr := Lib.hid hp_
                  clear hp_
                  have hbb_ := hop HB_.out (Nat.le_refl _) hb_
                  clear HB_
                  have HB_ := Lib.hid hbb_
                  clear hbb_ hb_
                  clear HQ_
                  go_wp2
                  go_ret
                  exact ⟨by first | rfl | (simp; done) | decide, HB_.out⟩
          | false =>
            cases wy with
            | true =>
              have hq_ := nfaWhole_any (altT [x, y]) bo t w8 Ho.out (by omega)
              rw [(show wholeB t.data.toList (altT [x, y]) = true from HOW.out)] at hq_
              have HQ_ := Lib.hid hq_
              clear hq_
              go_wp2_with fail
              refine (HQ_.out).mono ?_
              rintro e w24 ⟨rfl, hb_⟩
              have hp_ := Hp.out.below hb_
              clear Hp
              have Hp := Lib.hid hp_
              clear hp_
              have hp_ := Hq.out.below hb_
              clear Hq
              have Hq := Lib.hid hp_
              clear hp_
              have hp_ := Ho.out.below hb_
              clear Ho
              have Ho := Lib.hid hp_
              clear hp_
              have hp_ := Hr.out.below hb_
              clear Hr
              have Hr := Lib.hid hp_
              clear hp_
              have hbb_ := hop HB_.out (Nat.le_refl _) hb_
              clear HB_
              have HB_ := Lib.hid hbb_
              clear hbb_ hb_
              clear HQ_
              have hq_ := nfaWhole_any x bp t w24 Hp.out (by omega)
              rw [HWX.out] at hq_
              have HQ_ := Lib.hid hq_
              clear hq_
              go_wp2_with fail
              refine (HQ_.out).mono ?_
              rintro e w25 ⟨rfl, hb_⟩
              have hp_ := Hp.out.below hb_
              clear Hp
              have Hp := Lib.hid hp_
              clear hp_
              have hp_ := Hq.out.below hb_
              clear Hq
              have Hq := Lib.hid hp_
              clear hp_
              have hp_ := Ho.out.below hb_
              clear Ho
              have Ho := Lib.hid hp_
              clear hp_
              have hp_ := Hr.out.below hb_
              clear Hr
              have Hr := Lib.hid hp_
              clear hp_
              have hbb_ := hop HB_.out (Nat.le_refl _) hb_
              clear HB_
              have HB_ := Lib.hid hbb_
              clear hbb_ hb_
              clear HQ_
              have hq_ := nfaWhole_any y bq t w25 Hq.out (by omega)
              rw [HWY.out] at hq_
              have HQ_ := Lib.hid hq_
              clear hq_
              go_wp2_with fail
              refine (HQ_.out).mono ?_
              rintro e w26 ⟨rfl, hb_⟩
              have hp_ := Hp.out.below hb_
              clear Hp
              have Hp := Lib.hid hp_
              clear hp_
              have hp_ := Hq.out.below hb_
              clear Hq
              have Hq := Lib.hid hp_
              clear hp_
              have hp_ := Ho.out.below hb_
              clear Ho
              have Ho := Lib.hid hp_
              clear hp_
              have hp_ := Hr.out.below hb_
              clear Hr
              have Hr := Lib.hid hp_
              clear hp_
              have hbb_ := hop HB_.out (Nat.le_refl _) hb_
              clear HB_
              have HB_ := Lib.hid hbb_
              clear hbb_ hb_
              clear HQ_
              cases fx with
              | true =>
                have hq_ := nfaFind_any (altT [x, y]) bo t w26 Ho.out (by omega)
                rw [(show foundB t.data.toList (altT [x, y]) = true from HOF.out)] at hq_
                have HQ_ := Lib.hid hq_
                clear hq_
                go_wp2_with fail
                refine (HQ_.out).mono ?_
                rintro e w27 ⟨rfl, hb_⟩
                have hp_ := Hp.out.below hb_
                clear Hp
                have Hp := Lib.hid hp_
                clear hp_
                have hp_ := Hq.out.below hb_
                clear Hq
                have Hq := Lib.hid hp_
                clear hp_
                have hp_ := Ho.out.below hb_
                clear Ho
                have Ho := Lib.hid hp_
                clear hp_
                have hp_ := Hr.out.below hb_
                clear Hr
                have Hr := Lib.hid hp_
                clear hp_
                have hbb_ := hop HB_.out (Nat.le_refl _) hb_
                clear HB_
                have HB_ := Lib.hid hbb_
                clear hbb_ hb_
                clear HQ_
                have hq_ := nfaFind_any x bp t w27 Hp.out (by omega)
                rw [HFX.out] at hq_
                have HQ_ := Lib.hid hq_
                clear hq_
                go_wp2_with fail
                refine (HQ_.out).mono ?_
                rintro e w28 ⟨rfl, hb_⟩
                have hp_ := Hp.out.below hb_
                clear Hp
                have Hp := Lib.hid hp_
                clear hp_
                have hp_ := Hq.out.below hb_
                clear Hq
                have Hq := Lib.hid hp_
                clear hp_
                have hp_ := Ho.out.below hb_
                clear Ho
                have Ho := Lib.hid hp_
                clear hp_
                have hp_ := Hr.out.below hb_
                clear Hr
                have Hr := Lib.hid hp_
                clear hp_
                have hbb_ := hop HB_.out (Nat.le_refl _) hb_
                clear HB_
                have HB_ := Lib.hid hbb_
                clear hbb_ hb_
                clear HQ_
                cases bf with
                | true =>
                  have hq_ := nfaFind_any (catT [x, y]) br t w28 Hr.out (by omega)
                  rw [HBF.out] at hq_
                  have HQ_ := Lib.hid hq_
                  clear hq_
                  go_wp2_with fail
                  refine (HQ_.out).mono ?_
                  rintro e w29 ⟨rfl, hb_⟩
                  have hp_ := Hp.out.below hb_
                  clear Hp
                  have Hp := Lib.hid hp_
                  clear hp_
                  have hp_ := Hq.out.below hb_
                  clear Hq
                  have Hq := Lib.hid hp_
                  clear hp_
                  have hp_ := Ho.out.below hb_
                  clear Ho
                  have Ho := Lib.hid hp_
                  clear hp_
                  have hp_ := Hr.out.below hb_
                  clear Hr
                  have Hr := Lib.hid hp_
                  clear hp_
                  have hbb_ := hop HB_.out (Nat.le_refl _) hb_
                  clear HB_
                  have HB_ := Lib.hid hbb_
                  clear hbb_ hb_
                  clear HQ_
                  have hq_ := nfaFind_any x bp t w29 Hp.out (by omega)
                  rw [HFX.out] at hq_
                  have HQ_ := Lib.hid hq_
                  clear hq_
                  go_wp2_with fail
                  refine (HQ_.out).mono ?_
                  rintro e w30 ⟨rfl, hb_⟩
                  have hp_ := Hp.out.below hb_
                  clear Hp
                  have Hp := Lib.hid hp_
                  clear hp_
                  have hp_ := Hq.out.below hb_
                  clear Hq
                  have Hq := Lib.hid hp_
                  clear hp_
                  have hp_ := Ho.out.below hb_
                  clear Ho
                  have Ho := Lib.hid hp_
                  clear hp_
                  have hp_ := Hr.out.below hb_
                  clear Hr
                  have Hr := Lib.hid hp_
                  clear hp_
                  have hbb_ := hop HB_.out (Nat.le_refl _) hb_
                  clear HB_
                  have HB_ := Lib.hid hbb_
                  clear hbb_ hb_
                  clear HQ_
                  go_wp2
                  go_ret
                  exact ⟨by first | rfl | (simp; done) | decide, HB_.out⟩
                | false =>
                  have hq_ := nfaFind_any (catT [x, y]) br t w28 Hr.out (by omega)
                  rw [HBF.out] at hq_
                  have HQ_ := Lib.hid hq_
                  clear hq_
                  go_wp2_with fail
                  refine (HQ_.out).mono ?_
                  rintro e w31 ⟨rfl, hb_⟩
                  have hp_ := Hp.out.below hb_
                  clear Hp
                  have Hp := Lib.hid hp_
                  clear hp_
                  have hp_ := Hq.out.below hb_
                  clear Hq
                  have Hq := Lib.hid hp_
                  clear hp_
                  have hp_ := Ho.out.below hb_
                  clear Ho
                  have Ho := Lib.hid hp_
                  clear hp_
                  have hp_ := Hr.out.below hb_
                  clear Hr
                  have Hr := Lib.hid hp_
                  clear hp_
                  have hbb_ := hop HB_.out (Nat.le_refl _) hb_
                  clear HB_
                  have HB_ := Lib.hid hbb_
                  clear hbb_ hb_
                  clear HQ_
                  go_wp2
                  go_ret
                  exact ⟨by first | rfl | (simp; done) | decide, HB_.out⟩
              | false =>
                cases fy with
                | true =>
                  have hq_ := nfaFind_any (altT [x, y]) bo t w26 Ho.out (by omega)
                  rw [(show foundB t.data.toList (altT [x, y]) = true from HOF.out)] at hq_
                  have HQ_ := Lib.hid hq_
                  clear hq_
                  go_wp2_with fail
                  refine (HQ_.out).mono ?_
                  rintro e w32 ⟨rfl, hb_⟩
                  have hp_ := Hp.out.below hb_
                  clear Hp
                  have Hp := Lib.hid hp_
                  clear hp_
                  have hp_ := Hq.out.below hb_
                  clear Hq
                  have Hq := Lib.hid hp_
                  clear hp_
                  have hp_ := Ho.out.below hb_
                  clear Ho
                  have Ho := Lib.hid hp_
                  clear hp_
                  have hp_ := Hr.out.below hb_
                  clear Hr
                  have Hr := Lib.hid hp_
                  clear hp_
                  have hbb_ := hop HB_.out (Nat.le_refl _) hb_
                  clear HB_
                  have HB_ := Lib.hid hbb_
                  clear hbb_ hb_
                  clear HQ_
                  have hq_ := nfaFind_any x bp t w32 Hp.out (by omega)
                  rw [HFX.out] at hq_
                  have HQ_ := Lib.hid hq_
                  clear hq_
                  go_wp2_with fail
                  refine (HQ_.out).mono ?_
                  rintro e w33 ⟨rfl, hb_⟩
                  have hp_ := Hp.out.below hb_
                  clear Hp
                  have Hp := Lib.hid hp_
                  clear hp_
                  have hp_ := Hq.out.below hb_
                  clear Hq
                  have Hq := Lib.hid hp_
                  clear hp_
                  have hp_ := Ho.out.below hb_
                  clear Ho
                  have Ho := Lib.hid hp_
                  clear hp_
                  have hp_ := Hr.out.below hb_
                  clear Hr
                  have Hr := Lib.hid hp_
                  clear hp_
                  have hbb_ := hop HB_.out (Nat.le_refl _) hb_
                  clear HB_
                  have HB_ := Lib.hid hbb_
                  clear hbb_ hb_
                  clear HQ_
                  have hq_ := nfaFind_any y bq t w33 Hq.out (by omega)
                  rw [HFY.out] at hq_
                  have HQ_ := Lib.hid hq_
                  clear hq_
                  go_wp2_with fail
                  refine (HQ_.out).mono ?_
                  rintro e w34 ⟨rfl, hb_⟩
                  have hp_ := Hp.out.below hb_
                  clear Hp
                  have Hp := Lib.hid hp_
                  clear hp_
                  have hp_ := Hq.out.below hb_
                  clear Hq
                  have Hq := Lib.hid hp_
                  clear hp_
                  have hp_ := Ho.out.below hb_
                  clear Ho
                  have Ho := Lib.hid hp_
                  clear hp_
                  have hp_ := Hr.out.below hb_
                  clear Hr
                  have Hr := Lib.hid hp_
                  clear hp_
                  have hbb_ := hop HB_.out (Nat.le_refl _) hb_
                  clear HB_
                  have HB_ := Lib.hid hbb_
                  clear hbb_ hb_
                  clear HQ_
                  cases bf with
                  | true => exact absurd (L3.out (by first | rfl | trivial)) (by simp)
                  | false =>
                    have hq_ := nfaFind_any (catT [x, y]) br t w34 Hr.out (by omega)
                    rw [HBF.out] at hq_
                    have HQ_ := Lib.hid hq_
                    clear hq_
                    go_wp2_with fail
                    refine (HQ_.out).mono ?_
                    rintro e w35 ⟨rfl, hb_⟩
                    have hp_ := Hp.out.below hb_
                    clear Hp
                    have Hp := Lib.hid hp_
                    clear hp_
                    have hp_ := Hq.out.below hb_
                    clear Hq
                    have Hq := Lib.hid hp_
                    clear hp_
                    have hp_ := Ho.out.below hb_
                    clear Ho
                    have Ho := Lib.hid hp_
                    clear hp_
                    have hp_ := Hr.out.below hb_
                    clear Hr
                    have Hr := Lib.hid hp_
                    clear hp_
                    have hbb_ := hop HB_.out (Nat.le_refl _) hb_
                    clear HB_
                    have HB_ := Lib.hid hbb_
                    clear hbb_ hb_
                    clear HQ_
                    go_wp2
                    go_ret
                    exact ⟨by first | rfl | (simp; done) | decide, HB_.out⟩
                | false =>
                  have hq_ := nfaFind_any (altT [x, y]) bo t w26 Ho.out (by omega)
                  rw [(show foundB t.data.toList (altT [x, y]) = false from HOF.out)] at hq_
                  have HQ_ := Lib.hid hq_
                  clear hq_
                  go_wp2_with fail
                  refine (HQ_.out).mono ?_
                  rintro e w36 ⟨rfl, hb_⟩
                  have hp_ := Hp.out.below hb_
                  clear Hp
                  have Hp := Lib.hid hp_
                  clear hp_
                  have hp_ := Hq.out.below hb_
                  clear Hq
                  have Hq := Lib.hid hp_
                  clear hp_
                  have hp_ := Ho.out.below hb_
                  clear Ho
                  have Ho := Lib.hid hp_
                  clear hp_
                  have hp_ := Hr.out.below hb_
                  clear Hr
                  have Hr := Lib.hid hp_
                  clear hp_
                  have hbb_ := hop HB_.out (Nat.le_refl _) hb_
                  clear HB_
                  have HB_ := Lib.hid hbb_
                  clear hbb_ hb_
                  clear HQ_
                  have hq_ := nfaFind_any x bp t w36 Hp.out (by omega)
                  rw [HFX.out] at hq_
                  have HQ_ := Lib.hid hq_
                  clear hq_
                  go_wp2_with fail
                  refine (HQ_.out).mono ?_
                  rintro e w37 ⟨rfl, hb_⟩
                  have hp_ := Hp.out.below hb_
                  clear Hp
                  have Hp := Lib.hid hp_
                  clear hp_
                  have hp_ := Hq.out.below hb_
                  clear Hq
                  have Hq := Lib.hid hp_
                  clear hp_
                  have hp_ := Ho.out.below hb_
                  clear Ho
                  have Ho := Lib.hid hp_
                  clear hp_
                  have hp_ := Hr.out.below hb_
                  clear Hr
                  have Hr := Lib.hid hp_
                  clear hp_
                  have hbb_ := hop HB_.out (Nat.le_refl _) hb_
                  clear HB_
                  have HB_ := Lib.hid hbb_
                  clear hbb_ hb_
                  clear HQ_
                  have hq_ := nfaFind_any y bq t w37 Hq.out (by omega)
                  rw [HFY.out] at hq_
                  have HQ_ := Lib.hid hq_
                  clear hq_
                  go_wp2_with fail
                  refine (HQ_.out).mono ?_
                  rintro e w38 ⟨rfl, hb_⟩
                  have hp_ := Hp.out.below hb_
                  clear Hp
                  have Hp := Lib.hid hp_
                  clear hp_
                  have hp_ := Hq.out.below hb_
                  clear Hq
                  have Hq := Lib.hid hp_
                  clear hp_
                  have hp_ := Ho.out.below hb_
                  clear Ho
                  have Ho := Lib.hid hp_
                  clear hp_
                  have hp_ := Hr.out.below hb_
                  clear Hr
                  have Hr := Lib.hid hp_
                  clear hp_
                  have hbb_ := hop HB_.out (Nat.le_refl _) hb_
                  clear HB_
                  have HB_ := Lib.hid hbb_
                  clear hbb_ hb_
                  clear HQ_
                  cases bf with
                  | true => exact absurd (L3.out (by first | rfl | trivial)) (by simp)
                  | false =>
                    have hq_ := nfaFind_any (catT [x, y]) br t w38 Hr.out (by omega)
                    rw [HBF.out] at hq_
                    have HQ_ := Lib.hid hq_
                    clear hq_
                    go_wp2_with fail
                    refine (HQ_.out).mono ?_
                    rintro e w39 ⟨rfl, hb_⟩
                    have hp_ := Hp.out.below hb_
                    clear Hp
                    have Hp := Lib.hid hp_
                    clear hp_
                    have hp_ := Hq.out.below hb_
                    clear Hq
                    have Hq := Lib.hid hp_
                    clear hp_
                    have hp_ := Ho.out.below hb_
                    clear Ho
                    have Ho := Lib.hid hp_
                    clear hp_
                    have hp_ := Hr.out.below hb_
                    clear Hr
                    have Hr := Lib.hid hp_
                    clear hp_
                    have hbb_ := hop HB_.out (Nat.le_refl _) hb_
                    clear HB_
                    have HB_ := Lib.hid hbb_
                    clear hbb_ hb_
                    clear HQ_
                    go_wp2
                    go_ret
                    exact ⟨by first | rfl | (simp; done) | decide, HB_.out⟩
            | false =>
              have hq_ := nfaWhole_any (altT [x, y]) bo t w8 Ho.out (by omega)
              rw [(show wholeB t.data.toList (altT [x, y]) = false from HOW.out)] at hq_
              have HQ_ := Lib.hid hq_
              clear hq_
              go_wp2_with fail
              refine (HQ_.out).mono ?_
              rintro e w40 ⟨rfl, hb_⟩
              have hp_ := Hp.out.below hb_
              clear Hp
              have Hp := Lib.hid hp_
              clear hp_
              have hp_ := Hq.out.below hb_
              clear Hq
              have Hq := Lib.hid hp_
              clear hp_
              have hp_ := Ho.out.below hb_
              clear Ho
              have Ho := Lib.hid hp_
              clear hp_
              have hp_ := Hr.out.below hb_
              clear Hr
              have Hr := Lib.hid hp_
              clear hp_
              have hbb_ := hop HB_.out (Nat.le_refl _) hb_
              clear HB_
              have HB_ := Lib.hid hbb_
              clear hbb_ hb_
              clear HQ_
              have hq_ := nfaWhole_any x bp t w40 Hp.out (by omega)
              rw [HWX.out] at hq_
              have HQ_ := Lib.hid hq_
              clear hq_
              go_wp2_with fail
              refine (HQ_.out).mono ?_
              rintro e w41 ⟨rfl, hb_⟩
              have hp_ := Hp.out.below hb_
              clear Hp
              have Hp := Lib.hid hp_
              clear hp_
              have hp_ := Hq.out.below hb_
              clear Hq
              have Hq := Lib.hid hp_
              clear hp_
              have hp_ := Ho.out.below hb_
              clear Ho
              have Ho := Lib.hid hp_
              clear hp_
              have hp_ := Hr.out.below hb_
              clear Hr
              have Hr := Lib.hid hp_
              clear hp_
              have hbb_ := hop HB_.out (Nat.le_refl _) hb_
              clear HB_
              have HB_ := Lib.hid hbb_
              clear hbb_ hb_
              clear HQ_
              have hq_ := nfaWhole_any y bq t w41 Hq.out (by omega)
              rw [HWY.out] at hq_
              have HQ_ := Lib.hid hq_
              clear hq_
              go_wp2_with fail
              refine (HQ_.out).mono ?_
              rintro e w42 ⟨rfl, hb_⟩
              have hp_ := Hp.out.below hb_
              clear Hp
              have Hp := Lib.hid hp_
              clear hp_
              have hp_ := Hq.out.below hb_
              clear Hq
              have Hq := Lib.hid hp_
              clear hp_
              have hp_ := Ho.out.below hb_
              clear Ho
              have Ho := Lib.hid hp_
              clear hp_
              have hp_ := Hr.out.below hb_
              clear Hr
              have Hr := Lib.hid hp_
              clear hp_
              have hbb_ := hop HB_.out (Nat.le_refl _) hb_
              clear HB_
              have HB_ := Lib.hid hbb_
              clear hbb_ hb_
              clear HQ_
              cases fx with
              | true =>
                have hq_ := nfaFind_any (altT [x, y]) bo t w42 Ho.out (by omega)
                rw [(show foundB t.data.toList (altT [x, y]) = true from HOF.out)] at hq_
                have HQ_ := Lib.hid hq_
                clear hq_
                go_wp2_with fail
                refine (HQ_.out).mono ?_
                rintro e w43 ⟨rfl, hb_⟩
                have hp_ := Hp.out.below hb_
                clear Hp
                have Hp := Lib.hid hp_
                clear hp_
                have hp_ := Hq.out.below hb_
                clear Hq
                have Hq := Lib.hid hp_
                clear hp_
                have hp_ := Ho.out.below hb_
                clear Ho
                have Ho := Lib.hid hp_
                clear hp_
                have hp_ := Hr.out.below hb_
                clear Hr
                have Hr := Lib.hid hp_
                clear hp_
                have hbb_ := hop HB_.out (Nat.le_refl _) hb_
                clear HB_
                have HB_ := Lib.hid hbb_
                clear hbb_ hb_
                clear HQ_
                have hq_ := nfaFind_any x bp t w43 Hp.out (by omega)
                rw [HFX.out] at hq_
                have HQ_ := Lib.hid hq_
                clear hq_
                go_wp2_with fail
                refine (HQ_.out).mono ?_
                rintro e w44 ⟨rfl, hb_⟩
                have hp_ := Hp.out.below hb_
                clear Hp
                have Hp := Lib.hid hp_
                clear hp_
                have hp_ := Hq.out.below hb_
                clear Hq
                have Hq := Lib.hid hp_
                clear hp_
                have hp_ := Ho.out.below hb_
                clear Ho
                have Ho := Lib.hid hp_
                clear hp_
                have hp_ := Hr.out.below hb_
                clear Hr
                have Hr := Lib.hid hp_
                clear hp_
                have hbb_ := hop HB_.out (Nat.le_refl _) hb_
                clear HB_
                have HB_ := Lib.hid hbb_
                clear hbb_ hb_
                clear HQ_
                cases bf with
                | true =>
                  have hq_ := nfaFind_any (catT [x, y]) br t w44 Hr.out (by omega)
                  rw [HBF.out] at hq_
                  have HQ_ := Lib.hid hq_
                  clear hq_
                  go_wp2_with fail
                  refine (HQ_.out).mono ?_
                  rintro e w45 ⟨rfl, hb_⟩
                  have hp_ := Hp.out.below hb_
                  clear Hp
                  have Hp := Lib.hid hp_
                  clear hp_
                  have hp_ := Hq.out.below hb_
                  clear Hq
                  have Hq := Lib.hid hp_
                  clear hp_
                  have hp_ := Ho.out.below hb_
                  clear Ho
                  have Ho := Lib.hid hp_
                  clear hp_
                  have hp_ := Hr.out.below hb_
                  clear Hr
                  have Hr := Lib.hid hp_
                  clear hp_
                  have hbb_ := hop HB_.out (Nat.le_refl _) hb_
                  clear HB_
                  have HB_ := Lib.hid hbb_
                  clear hbb_ hb_
                  clear HQ_
                  have hq_ := nfaFind_any x bp t w45 Hp.out (by omega)
                  rw [HFX.out] at hq_
                  have HQ_ := Lib.hid hq_
                  clear hq_
                  go_wp2_with fail
                  refine (HQ_.out).mono ?_
                  rintro e w46 ⟨rfl, hb_⟩
                  have hp_ := Hp.out.below hb_
                  clear Hp
                  have Hp := Lib.hid hp_
                  clear hp_
                  have hp_ := Hq.out.below hb_
                  clear Hq
                  have Hq := Lib.hid hp_
                  clear hp_
                  have hp_ := Ho.out.below hb_
                  clear Ho
                  have Ho := Lib.hid hp_
                  clear hp_
                  have hp_ := Hr.out.below hb_
                  clear Hr
                  have Hr := Lib.hid hp_
                  clear hp_
                  have hbb_ := hop HB_.out (Nat.le_refl _) hb_
                  clear HB_
                  have HB_ := Lib.hid hbb_
                  clear hbb_ hb_
                  clear HQ_
                  go_wp2
                  go_ret
                  exact ⟨by first | rfl | (simp; done) | decide, HB_.out⟩
                | false =>
                  have hq_ := nfaFind_any (catT [x, y]) br t w44 Hr.out (by omega)
                  rw [HBF.out] at hq_
                  have HQ_ := Lib.hid hq_
                  clear hq_
                  go_wp2_with fail
                  refine (HQ_.out).mono ?_
                  rintro e w47 ⟨rfl, hb_⟩
                  have hp_ := Hp.out.below hb_
                  clear Hp
                  have Hp := Lib.hid hp_
                  clear hp_
                  have hp_ := Hq.out.below hb_
                  clear Hq
                  have Hq := Lib.hid hp_
                  clear hp_
                  have hp_ := Ho.out.below hb_
                  clear Ho
                  have Ho := Lib.hid hp_
                  clear hp_
                  have hp_ := Hr.out.below hb_
                  clear Hr
                  have Hr := Lib.hid hp_
                  clear hp_
                  have hbb_ := hop HB_.out (Nat.le_refl _) hb_
                  clear HB_
                  have HB_ := Lib.hid hbb_
                  clear hbb_ hb_
                  clear HQ_
                  go_wp2
                  go_ret
                  exact ⟨by first | rfl | (simp; done) | decide, HB_.out⟩
              | false =>
                cases fy with
                | true =>
                  have hq_ := nfaFind_any (altT [x, y]) bo t w42 Ho.out (by omega)
                  rw [(show foundB t.data.toList (altT [x, y]) = true from HOF.out)] at hq_
                  have HQ_ := Lib.hid hq_
                  clear hq_
                  go_wp2_with fail
                  refine (HQ_.out).mono ?_
                  rintro e w48 ⟨rfl, hb_⟩
                  have hp_ := Hp.out.below hb_
                  clear Hp
                  have Hp := Lib.hid hp_
                  clear hp_
                  have hp_ := Hq.out.below hb_
                  clear Hq
                  have Hq := Lib.hid hp_
                  clear hp_
                  have hp_ := Ho.out.below hb_
                  clear Ho
                  have Ho := Lib.hid hp_
                  clear hp_
                  have hp_ := Hr.out.below hb_
                  clear Hr
                  have Hr := Lib.hid hp_
                  clear hp_
                  have hbb_ := hop HB_.out (Nat.le_refl _) hb_
                  clear HB_
                  have HB_ := Lib.hid hbb_
                  clear hbb_ hb_
                  clear HQ_
                  have hq_ := nfaFind_any x bp t w48 Hp.out (by omega)
                  rw [HFX.out] at hq_
                  have HQ_ := Lib.hid hq_
                  clear hq_
                  go_wp2_with fail
                  refine (HQ_.out).mono ?_
                  rintro e w49 ⟨rfl, hb_⟩
                  have hp_ := Hp.out.below hb_
                  clear Hp
                  have Hp := Lib.hid hp_
                  clear hp_
                  have hp_ := Hq.out.below hb_
                  clear Hq
                  have Hq := Lib.hid hp_
                  clear hp_
                  have hp_ := Ho.out.below hb_
                  clear Ho
                  have Ho := Lib.hid hp_
                  clear hp_
                  have hp_ := Hr.out.below hb_
                  clear Hr
                  have Hr := Lib.hid hp_
                  clear hp_
                  have hbb_ := hop HB_.out (Nat.le_refl _) hb_
                  clear HB_
                  have HB_ := Lib.hid hbb_
                  clear hbb_ hb_
                  clear HQ_
                  have hq_ := nfaFind_any y bq t w49 Hq.out (by omega)
                  rw [HFY.out] at hq_
                  have HQ_ := Lib.hid hq_
                  clear hq_
                  go_wp2_with fail
                  refine (HQ_.out).mono ?_
                  rintro e w50 ⟨rfl, hb_⟩
                  have hp_ := Hp.out.below hb_
                  clear Hp
                  have Hp := Lib.hid hp_
                  clear hp_
                  have hp_ := Hq.out.below hb_
                  clear Hq
                  have Hq := Lib.hid hp_
                  clear hp_
                  have hp_ := Ho.out.below hb_
                  clear Ho
                  have Ho := Lib.hid hp_
                  clear hp_
                  have hp_ := Hr.out.below hb_
                  clear Hr
                  have Hr := Lib.hid hp_
                  clear hp_
                  have hbb_ := hop HB_.out (Nat.le_refl _) hb_
                  clear HB_
                  have HB_ := Lib.hid hbb_
                  clear hbb_ hb_
                  clear HQ_
                  cases bf with
                  | true => exact absurd (L3.out (by first | rfl | trivial)) (by simp)
                  | false =>
                    have hq_ := nfaFind_any (catT [x, y]) br t w50 Hr.out (by omega)
                    rw [HBF.out] at hq_
                    have HQ_ := Lib.hid hq_
                    clear hq_
                    go_wp2_with fail
                    refine (HQ_.out).mono ?_
                    rintro e w51 ⟨rfl, hb_⟩
                    have hp_ := Hp.out.below hb_
                    clear Hp
                    have Hp := Lib.hid hp_
                    clear hp_
                    have hp_ := Hq.out.below hb_
                    clear Hq
                    have Hq := Lib.hid hp_
                    clear hp_
                    have hp_ := Ho.out.below hb_
                    clear Ho
                    have Ho := Lib.hid hp_
                    clear hp_
                    have hp_ := Hr.out.below hb_
                    clear Hr
                    have Hr := Lib.hid hp_
                    clear hp_
                    have hbb_ := hop HB_.out (Nat.le_refl _) hb_
                    clear HB_
                    have HB_ := Lib.hid hbb_
                    clear hbb_ hb_
                    clear HQ_
                    go_wp2
                    go_ret
                    exact ⟨by first | rfl | (simp; done) | decide, HB_.out⟩
                | false =>
                  have hq_ := nfaFind_any (altT [x, y]) bo t w42 Ho.out (by omega)
                  rw [(show foundB t.data.toList (altT [x, y]) = false from HOF.out)] at hq_
                  have HQ_ := Lib.hid hq_
                  clear hq_
                  go_wp2_with fail
                  refine (HQ_.out).mono ?_
                  rintro e w52 ⟨rfl, hb_⟩
                  have hp_ := Hp.out.below hb_
                  clear Hp
                  have Hp := Lib.hid hp_
                  clear hp_
                  have hp_ := Hq.out.below hb_
                  clear Hq
                  have Hq := Lib.hid hp_
                  clear hp_
                  have hp_ := Ho.out.below hb_
                  clear Ho
                  have Ho := Lib.hid hp_
                  clear hp_
                  have hp_ := Hr.out.below hb_
                  clear Hr
                  have Hr := Lib.hid hp_
                  clear hp_
                  have hbb_ := hop HB_.out (Nat.le_refl _) hb_
                  clear HB_
                  have HB_ := Lib.hid hbb_
                  clear hbb_ hb_
                  clear HQ_
                  have hq_ := nfaFind_any x bp t w52 Hp.out (by omega)
                  rw [HFX.out] at hq_
                  have HQ_ := Lib.hid hq_
                  clear hq_
                  go_wp2_with fail
                  refine (HQ_.out).mono ?_
                  rintro e w53 ⟨rfl, hb_⟩
                  have hp_ := Hp.out.below hb_
                  clear Hp
                  have Hp := Lib.hid hp_
                  clear hp_
                  have hp_ := Hq.out.below hb_
                  clear Hq
                  have Hq := Lib.hid hp_
                  clear hp_
                  have hp_ := Ho.out.below hb_
                  clear Ho
                  have Ho := Lib.hid hp_
                  clear hp_
                  have hp_ := Hr.out.below hb_
                  clear Hr
                  have Hr := Lib.hid hp_
                  clear hp_
                  have hbb_ := hop HB_.out (Nat.le_refl _) hb_
                  clear HB_
                  have HB_ := Lib.hid hbb_
                  clear hbb_ hb_
                  clear HQ_
                  have hq_ := nfaFind_any y bq t w53 Hq.out (by omega)
                  rw [HFY.out] at hq_
                  have HQ_ := Lib.hid hq_
                  clear hq_
                  go_wp2_with fail
                  refine (HQ_.out).mono ?_
                  rintro e w54 ⟨rfl, hb_⟩
                  have hp_ := Hp.out.below hb_
                  clear Hp
                  have Hp := Lib.hid hp_
                  clear hp_
                  have hp_ := Hq.out.below hb_
                  clear Hq
                  have Hq := Lib.hid hp_
                  clear hp_
                  have hp_ := Ho.out.below hb_
                  clear Ho
                  have Ho := Lib.hid hp_
                  clear hp_
                  have hp_ := Hr.out.below hb_
                  clear Hr
                  have Hr := Lib.hid hp_
                  clear hp_
                  have hbb_ := hop HB_.out (Nat.le_refl _) hb_
                  clear HB_
                  have HB_ := Lib.hid hbb_
                  clear hbb_ hb_
                  clear HQ_
                  cases bf with
                  | true => exact absurd (L3.out (by first | rfl | trivial)) (by simp)
                  | false =>
                    have hq_ := nfaFind_any (catT [x, y]) br t w54 Hr.out (by omega)
                    rw [HBF.out] at hq_
                    have HQ_ := Lib.hid hq_
                    clear hq_
                    go_wp2_with fail
                    refine (HQ_.out).mono ?_
                    rintro e w55 ⟨rfl, hb_⟩
                    have hp_ := Hp.out.below hb_
                    clear Hp
                    have Hp := Lib.hid hp_
                    clear hp_
                    have hp_ := Hq.out.below hb_
                    clear Hq
                    have Hq := Lib.hid hp_
                    clear hp_
                    have hp_ := Ho.out.below hb_
                    clear Ho
                    have Ho := Lib.hid hp_
                    clear hp_
                    have hp_ := Hr.out.below hb_
                    clear Hr
                    have Hr := Lib.hid hp_
                    clear hp_
                    have hbb_ := hop HB_.out (Nat.le_refl _) hb_
                    clear HB_
                    have HB_ := Lib.hid hbb_
                    clear hbb_ hb_
                    clear HQ_
                    go_wp2
                    go_ret
                    exact ⟨by first | rfl | (simp; done) | decide, HB_.out⟩
        ·
          have HR_ := Lib.hid hr
          clear hr
          go_wp2_with fail
          refine (of_no _ _ ar 4 w7 (HL.out.below HB_.out) (by rw [both_text]; exact HR_.out) (by decide)).mono ?_
          rintro e w56 ⟨rfl, hb_⟩
          have hp_ := Hp.out.below hb_
          clear Hp
          have Hp := Lib.hid hp_
          clear hp_
          have hp_ := Hq.out.below hb_
          clear Hq
          have Hq := Lib.hid hp_
          clear hp_
          have hp_ := Ho.out.below hb_
          clear Ho
          have Ho := Lib.hid hp_
          clear hp_
          have hbb_ := hop HB_.out (Nat.le_refl _) hb_
          clear HB_
          have HB_ := Lib.hid hbb_
          clear hbb_ hb_
          go_wp2
          go_ret
          exact ⟨by first | rfl | (simp; done) | decide, HB_.out⟩
      ·
        have HQ_no := Lib.hid hq
        clear hq
        go_wp2_with fail
        refine (of_no _ _ aq 4 w6 (HL.out.below HB_.out) (by rw [or_text]; exact HQ_no.out) (by decide)).mono ?_
        rintro e w57 ⟨rfl, hb_⟩
        have hp_ := Hp.out.below hb_
        clear Hp
        have Hp := Lib.hid hp_
        clear hp_
        have hp_ := Hq.out.below hb_
        clear Hq
        have Hq := Lib.hid hp_
        clear hp_
        have hbb_ := hop HB_.out (Nat.le_refl _) hb_
        clear HB_
        have HB_ := Lib.hid hbb_
        clear hbb_ hb_
        rcases HBO.out with ⟨ar, hr⟩ | ⟨nr, ar, hr⟩
        ·
          have HR_ := Lib.hid hr
          clear hr
          go_wp2_with fail
          refine (of_ok _ (catT [x, y]) ar w57 (HL.out.below HB_.out) (by rw [both_text]; exact HR_.out)).mono ?_
          rintro e w58 ⟨br, rfl, hpn_, _, hb_⟩
          have hp_ := Hp.out.below hb_
          clear Hp
          have Hp := Lib.hid hp_
          clear hp_
          have hp_ := Hq.out.below hb_
          clear Hq
          have Hq := Lib.hid hp_
          clear hp_
          have hbb_ := hop HB_.out (Nat.le_refl _) hb_
          clear HB_
          have HB_ := Lib.hid hbb_
          clear hbb_ hb_
          have Hr := Lib.hid hpn_
          clear hpn_
          go_wp2
          go_ret
          exact ⟨by first | rfl | (simp; done) | decide, HB_.out⟩
        ·
          have HR_ := Lib.hid hr
          clear hr
          go_wp2_with fail
          refine (of_no _ _ ar 4 w57 (HL.out.below HB_.out) (by rw [both_text]; exact HR_.out) (by decide)).mono ?_
          rintro e w59 ⟨rfl, hb_⟩
          have hp_ := Hp.out.below hb_
          clear Hp
          have Hp := Lib.hid hp_
          clear hp_
          have hp_ := Hq.out.below hb_
          clear Hq
          have Hq := Lib.hid hp_
          clear hp_
          have hbb_ := hop HB_.out (Nat.le_refl _) hb_
          clear HB_
          have HB_ := Lib.hid hbb_
          clear hbb_ hb_
          go_wp2
          go_ret
          exact ⟨by first | rfl | (simp; done) | decide, HB_.out⟩
    ·
      have g1 : (fr == 0) = false := beq_eq_false_iff_ne.2 hfr
      have g2 : (fr != 0) = true := by rw [bne, g1]; rfl
      go_wp2_with fail
      refine (of_no b _ ab fr w5 (HL.out.below HB_.out) HPB.out hfr).mono ?_
      rintro e w60 ⟨rfl, hb_⟩
      have hp_ := Hp.out.below hb_
      clear Hp
      have Hp := Lib.hid hp_
      clear hp_
      have hbb_ := hop HB_.out (Nat.le_refl _) hb_
      clear HB_
      have HB_ := Lib.hid hbb_
      clear hbb_ hb_
      go_wp2_with fail
      refine (of_some _ w60 (HL.out.below HB_.out)).mono ?_
      rintro e w61 ⟨⟨v1, a1, e1, rfl⟩, hb_⟩
      have hp_ := Hp.out.below hb_
      clear Hp
      have Hp := Lib.hid hp_
      clear hp_
      have hbb_ := hop HB_.out (Nat.le_refl _) hb_
      clear HB_
      have HB_ := Lib.hid hbb_
      clear hbb_ hb_
      go_wp2_with fail
      refine (of_some _ w61 (HL.out.below HB_.out)).mono ?_
      rintro e w62 ⟨⟨v2, a2, e2, rfl⟩, hb_⟩
      have hp_ := Hp.out.below hb_
      clear Hp
      have Hp := Lib.hid hp_
      clear hp_
      have hbb_ := hop HB_.out (Nat.le_refl _) hb_
      clear HB_
      have HB_ := Lib.hid hbb_
      clear hbb_ hb_
      go_wp2
      go_ret
      exact ⟨by first | rfl | (simp; done) | decide, HB_.out⟩
  ·
    have g1 : (er == 0) = false := beq_eq_false_iff_ne.2 her
    have g2 : (er != 0) = true := by rw [bne, g1]; rfl
    go_wp2_with fail
    refine (of_no a _ aa er w4 (HL.out.below HB_.out) HPA.out her).mono ?_
    rintro e w63 ⟨rfl, hb_⟩
    have hbb_ := hop HB_.out (Nat.le_refl _) hb_
    clear HB_
    have HB_ := Lib.hid hbb_
    clear hbb_ hb_
    go_wp2_with fail
    refine (of_some b w63 (HL.out.below HB_.out)).mono ?_
    rintro e w64 ⟨⟨v0, a0, e0, rfl⟩, hb_⟩
    have hbb_ := hop HB_.out (Nat.le_refl _) hb_
    clear HB_
    have HB_ := Lib.hid hbb_
    clear hbb_ hb_
    go_wp2_with fail
    refine (of_some _ w64 (HL.out.below HB_.out)).mono ?_
    rintro e w65 ⟨⟨v1, a1, e1, rfl⟩, hb_⟩
    have hbb_ := hop HB_.out (Nat.le_refl _) hb_
    clear HB_
    have HB_ := Lib.hid hbb_
    clear hbb_ hb_
    go_wp2_with fail
    refine (of_some _ w65 (HL.out.below HB_.out)).mono ?_
    rintro e w66 ⟨⟨v2, a2, e2, rfl⟩, hb_⟩
    have hbb_ := hop HB_.out (Nat.le_refl _) hb_
    clear HB_
    have HB_ := Lib.hid hbb_
    clear hbb_ hb_
    go_wp2
    go_ret
    exact ⟨by first | rfl | (simp; done) | decide, HB_.out⟩
end Go.Proofs.YtgcojilaeflfbaaGreatDoor
