/- Labels put in order by name, those alike as they stood: any number of them. -/
import Derived.Test.YtimmfmgnjpcdoaaSymIns
import Derived.Test.YtimmfmgnjpcdoaaSymLeft
import Derived.Test.YtimmfmgnjpcdoaaSymRight
import Derived.Test.YtimmfmgnjpcdoaaSymMid
import Derived.Test.YtimmfmgnjpcdoaaSymBlk
namespace Go.Proofs.Ytimmfmgnjpcdoaa.Sy
open Go.RowKit Go.Sort
set_option linter.unusedVariables false
set_option linter.unusedSimpArgs false

theorem symMerge_any (g cap n : Nat) (hN : n ≤ 1000000) : ∀ (N : Nat) (L : List (KeyP PairB)) (a m b : Nat) (w : World), L.length = n → a < m → m < b → b ≤ n → b - a ≤ N → Up nameC L a m → Up nameC L m b → Cross L a m b → SortW w g L →
    Calls Try.prog 64 #[.slice (some ⟨g, 0, none⟩) n cap, .int .i64 (a : Int), .int .i64 (m : Int), .int .i64 (b : Int), .func (.func 38) #[] #[]] w fun e w' => e = .returned (.tuple #[]) ∧ ∃ L', SortW w' g L' ∧ Mid L L' a b ∧ Up nameC L' a b ∧ FG g w w'
  | 0, L, a, m, b, w, hn, ham, hmb, hb, hab, u1, u2, cr, h => absurd hab (by omega)
  | N + 1, L, a, m, b, w, hn, ham, hmb, hb, hab, u1, u2, cr, h => by
    by_cases h1 : m = a + 1
    · exact mergeLeft_any g cap L a m b n hn hN h1 hmb hb u2 cr w h
    · by_cases h2 : b = m + 1
      · exact mergeRight_any g cap L a m b n hn hN (by omega) h2 hb u1 cr w h
      · exact mergeMid_any g cap L a m b n hn hN (by omega) (by omega) hb u1 u2 cr (fun D p q r w' h3 h4 h5 h6 h7 h8 h9 h10 h11 => symMerge_any g cap n hN N D p q r w' h3 h4 h5 h6 (by omega) h8 h9 h10 h11) w h
set_option maxRecDepth 100000 in
set_option maxHeartbeats 1600000 in
theorem stableBig_any (g cap n : Nat) (L0 : List (KeyP PairB)) (hn : L0.length = n) (hN : n ≤ 1000000) (ht : ∀ i, i < n → (getP L0 i).at_ = i) (w : World) (h : SortW w g L0) :
    Calls Try.prog 52 #[.slice (some ⟨g, 0, none⟩) n cap, .int .i64 (n : Int), .func (.func 38) #[] #[]] w fun e w' => e = .returned (.tuple #[]) ∧ ∃ L', SortW w' g L' ∧ L'.Perm L0 ∧ Up nameC L' 0 n ∧ FG g w w' := by
  have HS0 := Lib.hid h
  have HN := Lib.hid hn
  have HT := Lib.hid ht
  clear h hn ht
  go_enter Try.func52, Try.ntmps52
  go_wp2
  go_loopw [7, 8] (fun av bv wr => ∃ (a b : Nat) (L1 : List (KeyP PairB)), av = .int .i64 (a : Int) ∧ bv = .int .i64 (b : Int) ∧ Hid (b = a + 20 ∧ 20 ∣ a ∧ a ≤ n) ∧ Hid (SortW wr g L1) ∧ Hid (L1.Perm L0) ∧ Hid (Bl nameC L1 20 0 a n) ∧ Hid (∀ i, a ≤ i → i < n → (getP L1 i).at_ = i) ∧ Hid (FG g w wr)) (fun av _ _ => n - (intOf av).toNat)
  case atStart => exact ⟨0, 20, L0, rfl, rfl, Lib.hid ⟨rfl, ⟨0, rfl⟩, Nat.zero_le _⟩, HS0, Lib.hid (List.Perm.refl _), Lib.hid (fun x _ _ h => by omega), Lib.hid (fun i _ hi => HT.out i hi), Lib.hid (FG.refl _ _)⟩
  case round =>
    obtain ⟨a, b, L1, rfl, rfl, HA, HS, HP, HB, HO, HG⟩ := hrel
    have hab := HA.out.1
    have han := HA.out.2.2
    by_cases hb : b ≤ n
    · have hbI : (b : Int) ≤ (n : Int) := by omega
      have hl1 : L1.length = n := by rw [HP.out.length_eq]; exact HN.out
      have SR := Lib.hid (insertion_any g cap L1 a b n hl1 hN (by omega) hb (fun i j h1 h2 h3 => by rw [HO.out i h1 (by omega), HO.out j (by omega) (by omega)]; exact h2) wr HS.out)
      obtain ⟨b2, hb2⟩ : ∃ b2, b2 = b + 20 := ⟨_, rfl⟩
      have hb2I : (b : Int) + 20 = (b2 : Int) := by omega
      have hb2W : IntKind.i64.wrap (b2 : Int) = (b2 : Int) := by rw [IntKind.wrap_i64]; omega
      have HB2 := Lib.hid (show b2 = b + 20 ∧ 20 ∣ b ∧ b ≤ n ∧ a < b from ⟨hb2, by rw [hab]; exact Nat.dvd_add HA.out.2.1 ⟨1, rfl⟩, hb, by omega⟩)
      clear hab hb2 hl1
      go_wp2_with fail
      refine SR.out.mono ?_
      rintro e w2 ⟨rfl, L2, hs2, hm2, hu2, hg2⟩
      have HS2 := Lib.hid hs2
      have HP2 := Lib.hid (hm2.perm.trans HP.out)
      have HBL := Lib.hid (show Bl nameC L2 20 0 b n from by
        have h1 := HA.out
        have h2 := HB2.out
        have h3 := Bl.first (b := b) (by decide) h1.2.1 (by omega) (by omega) HB.out (tags_own HO.out hb) hm2 hu2
        rwa [← h1.1] at h3)
      have HO2 := Lib.hid (show ∀ i, b ≤ i → i < n → (getP L2 i).at_ = i from fun i h1 h2 => by
        rw [hm2.out i (.inr h1)]
        exact HO.out i (by have := HB2.out; omega) h2)
      have HG2 := Lib.hid (HG.out.trans hg2)
      clear hs2 hm2 hu2 hg2 SR
      go_wp2
      go_round
      case rel => exact ⟨b, b2, L2, by first | rfl | go_num, by first | rfl | go_num, Lib.hid ⟨HB2.out.1, HB2.out.2.1, HB2.out.2.2.1⟩, HS2, HP2, HBL, HO2, HG2⟩
      case measure => simp [intOf]; have := HB2.out; omega
    · have hbI : ¬ (b : Int) ≤ (n : Int) := by omega
      have hl1 : L1.length = n := by rw [HP.out.length_eq]; exact HN.out
      have SR := Lib.hid (insertion_any g cap L1 a n n hl1 hN han (Nat.le_refl _) (fun i j h1 h2 h3 => by rw [HO.out i h1 (by omega), HO.out j (by omega) (by omega)]; exact h2) wr HS.out)
      have HFN := Lib.hid (show ∀ L2, Mid L1 L2 a n → Up nameC L2 a n → Bl nameC L2 20 0 n n from fun L2 hm2 hu2 => (Bl.first (b := n) (by decide) HA.out.2.1 (by omega) han HB.out (tags_own HO.out (Nat.le_refl _)) hm2 hu2).less (by omega))
      clear hab hl1
      go_wp2_with fail
      refine SR.out.mono ?_
      rintro e w2 ⟨rfl, L2, hs2, hm2, hu2, hg2⟩
      have HS2 := Lib.hid hs2
      have HP2 := Lib.hid (hm2.perm.trans HP.out)
      have HBL := Lib.hid (HFN.out L2 hm2 hu2)
      have HG2 := Lib.hid (HG.out.trans hg2)
      clear hs2 hm2 hu2 hg2 SR HS HP HB HO HG HA han hb hbI HFN
      go_wp2
      go_loopw [6] (fun kv wr => ∃ (k : Nat) (L1 : List (KeyP PairB)), kv = .int .i64 (k : Int) ∧ 0 < k ∧ k ≤ 2 * n + 20 ∧ Hid (SortW wr g L1) ∧ Hid (L1.Perm L0) ∧ Hid (Bl nameC L1 k 0 n n) ∧ Hid (FG g w wr)) (fun kv _ => n - (intOf kv).toNat)
      case atStart => exact ⟨20, L2, rfl, by omega, by omega, HS2, HP2, HBL, HG2⟩
      case round =>
        clear HS2 HP2 HBL HG2
        obtain ⟨k, L1, rfl, hk0, hkn, HS, HP, HB, HG⟩ := hrel
        by_cases hk : k < n
        · have hkI : (k : Int) < (n : Int) := by omega
          obtain ⟨k2, hk2⟩ : ∃ k2, k2 = 2 * k := ⟨_, rfl⟩
          have hk2I : 2 * (k : Int) = (k2 : Int) := by omega
          have hk2J : (k : Int) * 2 = (k2 : Int) := by omega
          have hk2W : IntKind.i64.wrap (k2 : Int) = (k2 : Int) := by rw [IntKind.wrap_i64]; omega
          have HK2 := Lib.hid hk2
          have hk2n : k2 ≤ 2 * n := by omega
          have hk2p : k < k2 := by omega
          clear hk2
          obtain ⟨v0, hv0⟩ : ∃ v, v = wr := ⟨_, rfl⟩
          subst hv0
          go_wp2
          go_loopw [7, 8] (fun av bv wr => ∃ (a b : Nat) (L1 : List (KeyP PairB)), av = .int .i64 (a : Int) ∧ bv = .int .i64 (b : Int) ∧ Hid (b = a + k2 ∧ k2 ∣ a ∧ a ≤ n) ∧ Hid (SortW wr g L1) ∧ Hid (L1.Perm L0) ∧ Hid (Bl nameC L1 k2 0 a n ∧ Bl nameC L1 k a n n) ∧ Hid (FG g w wr)) (fun av _ _ => n - (intOf av).toNat)
          case atStart => exact ⟨0, k2, L1, rfl, rfl, Lib.hid ⟨by omega, ⟨0, rfl⟩, Nat.zero_le _⟩, HS, HP, Lib.hid ⟨fun x _ _ h => by omega, HB.out⟩, HG⟩
          case round =>
            clear HS HP HB HG
            obtain ⟨a, b, L2, rfl, rfl, HA, HS, HP, HB, HG⟩ := hrel
            have hab := HA.out.1
            have han := HA.out.2.2
            obtain ⟨mm, hmm⟩ : ∃ mm, mm = a + k := ⟨_, rfl⟩
            have hmmI : (a : Int) + (k : Int) = (mm : Int) := by omega
            have hmmW : IntKind.i64.wrap (mm : Int) = (mm : Int) := by rw [IntKind.wrap_i64]; omega
            have hl1 : L2.length = n := by rw [HP.out.length_eq]; exact HN.out
            by_cases hb : b ≤ n
            · have hbI : (b : Int) ≤ (n : Int) := by omega
              have hpre := Bl.pre (L := L2) (C := nameC) (k := k) (a := a) (b := b) (n := n) hk0 (by rw [← HK2.out]; exact HA.out.2.1) (by have := HK2.out; omega) (by omega) HB.out.2
              rw [← hmm] at hpre
              have SR := Lib.hid (symMerge_any g cap n hN n L2 a mm b wr hl1 (by omega) (by omega) hb (by omega) hpre.1 hpre.2.1 hpre.2.2.1 HS.out)
              have HFN := Lib.hid (show ∀ L3, Mid L2 L3 a b → Up nameC L3 a b → Bl nameC L3 k2 0 b n ∧ Bl nameC L3 k b n n from fun L3 hm2 hu2 => by
                have h1 := Bl.merged (b := b) hk0 (by rw [← HK2.out]; exact HA.out.2.1) (by have := HK2.out; omega) (by omega) (by rw [← HK2.out]; exact HB.out.1) HB.out.2 hm2 hu2
                rw [← HK2.out, ← hab] at h1
                exact h1)
              obtain ⟨b2, hb2⟩ : ∃ b2, b2 = b + k2 := ⟨_, rfl⟩
              have hb2I : (b : Int) + (k2 : Int) = (b2 : Int) := by omega
              have hb2W : IntKind.i64.wrap (b2 : Int) = (b2 : Int) := by rw [IntKind.wrap_i64]; omega
              have HB2 := Lib.hid (show b2 = b + k2 ∧ k2 ∣ b ∧ b ≤ n ∧ a < b from ⟨hb2, by rw [hab]; exact Nat.dvd_add HA.out.2.1 (Nat.dvd_refl _), hb, by omega⟩)
              clear hab hb2 hl1 hmm hpre
              go_wp2_with fail
              refine SR.out.mono ?_
              rintro e w2 ⟨rfl, L3, hs2, hm2, hu2, hg2⟩
              have HS2 := Lib.hid hs2
              have HP2 := Lib.hid (hm2.perm.trans HP.out)
              have HBL := Lib.hid (HFN.out L3 hm2 hu2)
              have HG2 := Lib.hid (HG.out.trans hg2)
              clear hs2 hm2 hu2 hg2 SR
              go_wp2
              go_round
              case rel => exact ⟨b, b2, L3, by first | rfl | go_num, by first | rfl | go_num, Lib.hid ⟨HB2.out.1, HB2.out.2.1, HB2.out.2.2.1⟩, HS2, HP2, HBL, HG2⟩
              case measure => simp [intOf]; have := HB2.out; omega
            · have hbI : ¬ (b : Int) ≤ (n : Int) := by omega
              have hk2a : 2 * k ∣ a := by rw [← HK2.out]; exact HA.out.2.1
              have HKN := Lib.hid (show 0 < k2 ∧ k2 ≤ 2 * n + 20 ∧ k < k2 by omega)
              by_cases hm : mm < n
              · have hmI : (mm : Int) < (n : Int) := by omega
                have hpre := Bl.pre (L := L2) (C := nameC) (k := k) (a := a) (b := n) (n := n) hk0 hk2a (by have := HK2.out; omega) (by omega) HB.out.2
                rw [← hmm] at hpre
                have SR := Lib.hid (symMerge_any g cap n hN n L2 a mm n wr hl1 (by omega) hm (Nat.le_refl _) (by omega) hpre.1 hpre.2.1 hpre.2.2.1 HS.out)
                have HFN := Lib.hid (show ∀ L3, Mid L2 L3 a n → Up nameC L3 a n → Bl nameC L3 k2 0 n n from fun L3 hm2 hu2 => by
                  have h1 := (Bl.merged (b := n) hk0 hk2a (by have := HK2.out; omega) (by omega) (by rw [← HK2.out]; exact HB.out.1) HB.out.2 hm2 hu2).1
                  rw [← HK2.out] at h1
                  exact h1.less (by omega))
                clear hab hl1 hmm hpre hk2a
                go_wp2_with fail
                refine SR.out.mono ?_
                rintro e w2 ⟨rfl, L3, hs2, hm2, hu2, hg2⟩
                have HS2 := Lib.hid hs2
                have HP2 := Lib.hid (hm2.perm.trans HP.out)
                have HBL := Lib.hid (HFN.out L3 hm2 hu2)
                have HG2 := Lib.hid (HG.out.trans hg2)
                clear hs2 hm2 hu2 hg2 SR
                go_wp2
                go_round
                case rel => exact ⟨k2, L3, by first | rfl | go_num, HKN.out.1, HKN.out.2.1, HS2, HP2, HBL, HG2⟩
                case measure => simp [intOf]; have := HKN.out; omega
              · have hmI : ¬ (mm : Int) < (n : Int) := by omega
                have HBL := Lib.hid (show Bl nameC L2 k2 0 n n from by
                  have h1 := Bl.rest hk0 hk2a (by omega) (by rw [← HK2.out]; exact HB.out.1) HB.out.2
                  rw [← HK2.out] at h1
                  exact h1)
                clear hab hl1 hmm hk2a
                go_wp2
                go_round
                case rel => exact ⟨k2, L2, by first | rfl | go_num, HKN.out.1, HKN.out.2.1, HS, HP, HBL, HG⟩
                case measure => simp [intOf]; have := HKN.out; omega
        · have hkI : ¬ (k : Int) < (n : Int) := by omega
          have HU := Lib.hid (HB.out.whole (by omega))
          go_wp2
          refine bodyPost_end (results_none rfl _ _ _) rfl ?_
          exact ⟨rfl, L1, HS.out, HP.out, HU.out, HG.out⟩
end Go.Proofs.Ytimmfmgnjpcdoaa.Sy
