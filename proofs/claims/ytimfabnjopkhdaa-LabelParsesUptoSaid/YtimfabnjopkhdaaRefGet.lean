/- The document's own Get: it answers as the program's does. -/
import Derived.Test.YtimfabnjopkhdaaRefPut
namespace Go.Proofs.Ytimfabnjopkhdaa
open Go.RowKit
set_option linter.unusedVariables false
set_option linter.unusedSimpArgs false

theorem one_nat (b : Nat) (h : b < 256) (W : World) : Calls Try.prog 58 #[.int .u8 (b : Int)] W fun e w' => e = .returned (.string (formT (UInt8.ofNat b))) ∧ Below W.heap.size W w' := by
  have := refOne_any (UInt8.ofNat b) W
  rw [show ((UInt8.ofNat b).toNat : Int) = (b : Int) from by rw [UInt8.toNat_ofNat']; omega] at this
  exact this
theorem nat_byte (b : Nat) (h : b < 256) : bV [UInt8.ofNat b] = [.int .u8 (b : Int)] := by
  have : ((UInt8.ofNat b).toNat : Int) = (b : Int) := by rw [UInt8.toNat_ofNat']; omega
  simp only [bV, List.map_cons, List.map_nil, this]

set_option maxRecDepth 100000 in
set_option maxHeartbeats 2000000 in
theorem refGet_any (s : ByteArray) (hs : s.size ≤ 16000000) (W : World) :
    Calls Try.prog 52 #[.string s] W fun e w' => e = .returned (.tuple #[.string ⟨(getR s.data.toList).1.toArray⟩, .int .i64 ((getR s.data.toList).2.1 : Int), .bool (getR s.data.toList).2.2]) ∧ Below W.heap.size W w' := by
  obtain ⟨i0, hi, hz0, hz1, hz2⟩ := info_parts infoU8
  by_cases h0 : s.size = 0
  · have e : getR s.data.toList = ([], 0, false) := by
      have : s.data.toList = [] := List.eq_nil_of_length_eq_zero (by simpa using h0)
      rw [this]; rfl
    rw [e]
    have hem : s.toList = [] := by rw [Lib.toList_data]; exact List.eq_nil_of_length_eq_zero (by simpa using h0)
    have hem2 : s.toList.isEmpty = true := by rw [hem]; rfl
    have hH := Lib.hid h0
    clear h0
    go_enter Try.func52, Try.ntmps52
    go_wp2
    go_ret3
    exact ⟨rfl, Below.refl _ _⟩
  · obtain ⟨r, hr, hrl⟩ := bytes_cons s (by omega)
    obtain ⟨c0, hc0⟩ : ∃ c, s[0] = c := ⟨_, rfl⟩
    rw [hc0] at hr
    have hp : 0 < s.size := by omega
    have hp' : (0 : Int) < (s.size : Int) := by omega
    have hne : s.toList.isEmpty = false := by rw [Lib.toList_data, hr]; rfl
    have hne2 : ¬ s.toList = [] := by rw [Lib.toList_data, hr]; simp
    by_cases h1 : c0 = 34
    · obtain ⟨g1, g2⟩ := byte_eq c0 34 h1
      replace g1 : ((c0.toNat : Int) == 34) = true := g1
      replace g2 : ((c0.toNat : Int) != 34) = false := g2
      have hB : getB s.data.toList = getGo s.size (s.data.toList.drop 1) [] 1 := by rw [hr, h1]; simp [getB, hrl]
      have HB := Lib.hid hB
      clear hB hr h1 h0
      go_enter Try.func52, Try.ntmps52
      go_wp2
      go_loopw [5, 6] (fun v i wr => ∃ (k f : Nat) (out : List UInt8), 1 ≤ k ∧ k ≤ s.size ∧ i = .int .i64 k ∧ OwnB wr W.heap.size 5 v out ∧ out.length ≤ k ∧ s.size < f + k ∧ getB s.data.toList = getGo f (s.data.toList.drop k) out k ∧ Below W.heap.size W wr) (fun _ i _ => s.size - (intOf i).toNat)
      case atStart => exact ⟨1, s.size, [], Nat.le_refl _, hp, rfl, OwnB.nil _ _ _, by simp, by omega, HB.out, Below.refl _ _⟩
      case round =>
        obtain ⟨k, f, out, hk1, hk, rfl, hown, hol, hf, hg, hbel⟩ := hrel
        have HG := Lib.hid hg
        clear hg
        have hsz := hbel.size
        by_cases hkn : k < s.size
        · have hdc := drop_cons s k hkn
          have hkn' : (k : Int) < (s.size : Int) := by omega
          obtain ⟨f, rfl⟩ : ∃ f', f = f' + 1 := ⟨f - 1, by omega⟩
          by_cases hc : s[k] = 34
          · have e : getR s.data.toList = (out, k + 1, true) := by
              have : getB s.data.toList = some (out, k + 1) := by rw [HG.out, hdc, hc]; simp [getGo]
              rw [getR, this]
            obtain ⟨c, hcc⟩ : ∃ c, s[k] = c := ⟨_, rfl⟩
            rw [hcc] at hc
            obtain ⟨k1, k2⟩ := byte_eq c 34 hc
            replace k1 : ((c.toNat : Int) == 34) = true := k1
            replace k2 : ((c.toNat : Int) != 34) = false := k2
            have hconv := conv_own hown
            have E := Lib.hid e
            clear e hc hdc
            go_wp2
            go_ret3
            exact ⟨by rw [E.out]; rfl, hbel⟩
          · obtain ⟨c, hcc⟩ : ∃ c, s[k] = c := ⟨_, rfl⟩
            rw [hcc] at hc hdc
            obtain ⟨k1, k2⟩ := byte_ne c 34 hc
            replace k1 : ((c.toNat : Int) == 34) = false := k1
            replace k2 : ((c.toNat : Int) != 34) = true := k2
            have hstep : (firstB (s.data.toList.drop k)).2.2 = true → getB s.data.toList = getGo f (s.data.toList.drop (k + (firstB (s.data.toList.drop k)).2.1)) (out ++ [(firstB (s.data.toList.drop k)).1]) (k + (firstB (s.data.toList.drop k)).2.1) := fun hok => by
              rw [HG.out]
              conv => lhs; rw [hdc]
              rw [hdc] at hok
              rw [getGo, if_neg hc, if_pos hok, ← hdc, List.drop_drop]
            have hstop : (firstB (s.data.toList.drop k)).2.2 = false → getR s.data.toList = ([], 0, false) := fun hok => by
              have : getB s.data.toList = none := by
                rw [HG.out]
                conv => lhs; rw [hdc]
                rw [hdc] at hok
                rw [getGo, if_neg hc, if_neg (by rw [hok]; decide)]
              rw [getR, this]
            have hfo := form_occ s c k hkn hcc hc
            obtain ⟨⟨fb, fn, fk⟩, hfb⟩ : ∃ x, firstB (s.data.toList.drop k) = x := ⟨_, rfl⟩
            have hof := fun b h => (occ_form s b k h).symm.trans hfb
            rw [hfb] at hstep hstop hfo
            dsimp only at hstep hstop hfo
            have HST := Lib.hid hstep
            have HSP := Lib.hid hstop
            have HFO := Lib.hid hfo
            have HOF := Lib.hid hof
            clear hstep hstop hfo hof hfb hc hdc
            go_wp2
            go_loopw [5, 6, 7, 8] (fun v i fd j wz => ∃ (b : Nat) (d : Bool) (n : Nat) (o : List UInt8), b ≤ 256 ∧ j = .int .i64 b ∧ fd = .bool d ∧ i = .int .i64 n ∧ OwnB wz W.heap.size 5 v o ∧ Below W.heap.size W wz ∧ Hid (d = false → n = k ∧ o = out ∧ ∀ b', b' < b → occ s (formT (UInt8.ofNat b')) k = false) ∧ Hid (d = true → fk = true ∧ n = k + fn ∧ o = out ++ [fb] ∧ 1 ≤ fn ∧ k + fn ≤ s.size)) (fun _ _ _ j _ => 256 - (intOf j).toNat)
            case atStart => exact ⟨0, false, k, out, by omega, rfl, rfl, rfl, hown, hbel, Lib.hid fun _ => ⟨rfl, rfl, fun b' h => absurd h (by omega)⟩, Lib.hid fun h => Bool.noConfusion h⟩
            case round =>
              obtain ⟨b, d, n, o, hb, rfl, rfl, rfl, hoz, hbz, hdf, hdt⟩ := hrel
              have hszz := hbz.size
              rcases d with _ | _
              · obtain ⟨rfl, rfl, hno⟩ := hdf.out rfl
                have HN := Lib.hid hno
                clear hdf hdt hno
                by_cases hb6 : b < 256
                · have hb6' : (b : Int) < 256 := by omega
                  have hone := fun w => one_nat b hb6 w
                  have hpc := occ_piece s (formT (UInt8.ofNat b)) n
                  have hroom := occ_room s (formT (UInt8.ofNat b)) n
                  have hfz := formT_size (UInt8.ofNat b)
                  have hof := HOF.out (UInt8.ofNat b)
                  have hfl : (formT (UInt8.ofNat b)).size = (formB (UInt8.ofNat b)).length := put_size _
                  have hby := nat_byte b hb6
                  obtain ⟨t, ht⟩ : ∃ t, formT (UInt8.ofNat b) = t := ⟨_, rfl⟩
                  have HT := Lib.hid ht
                  simp only [ht] at hone
                  rw [ht] at hpc hroom hfz hof hfl
                  obtain ⟨f1, f2⟩ := hfz
                  have HO := Lib.hid hone
                  have HOC := Lib.hid hof
                  have HFL := Lib.hid hfl
                  have HBY := Lib.hid hby
                  clear hone hof hfl ht hby
                  by_cases hrm : n + t.size ≤ s.size
                  · have hrm' : (n : Int) + (t.size : Int) ≤ (s.size : Int) := by omega
                    replace hpc := hpc hrm
                    by_cases ho : occ s t n = true
                    · have hfin := HOC.out ho
                      rw [ho] at hpc
                      injection hfin with e1 e2
                      injection e2 with e2 e3
                      rw [← HFL.out] at e2
                      subst e1 e2 e3
                      clear ho hroom
                      go_wp2_with fail
                      refine (HO.out _).mono ?_
                      rintro e w2 ⟨rfl, hb2⟩
                      have hown2 := hoz.below hb2
                      have hbel2 := hbz.trans (hb2.mono hszz)
                      have hsz2 := hbel2.size
                      clear hoz hbz hb2
                      go_wp2_with (at_builtin; refine wpList_append_own _ rfl (.tmp 56) (.tmp 59) 58 rfl W.heap.size 5 i0 (.int .u8 0) 1 1 Try.underlying58 hi hz0 hz1 hz2 rfl (by decide) _ _ _ rfl (hown2.alloc _) ⟨w2.heap.size, 0, none⟩ 1 1 [.int .u8 (b : Int)] rfl rfl (new_cells_at _ _ _ _ (by simp)) (fun u hu => by rw [List.mem_singleton.1 hu]; rfl) (by unfold maxLen; omega) (by omega) (by simp; omega) ?_)
                      intro v' w3 hoz' hgrow _
                      have hbz' := (hbel2.alloc hsz2 _).grown hgrow (by simp; omega) (fun r hr => (World.ownsRow.lt hown2 r hr).1)
                      have hown3 : OwnB w3 W.heap.size 5 v' (o ++ [UInt8.ofNat b]) := OwnB.snoc (m := [UInt8.ofNat b]) (by rw [HBY.out]; exact hoz')
                      clear hoz' hgrow hown2 hbel2
                      go_wp2
                      go_round
                      case rel => exact ⟨b + 1, true, n + t.size, o ++ [UInt8.ofNat b], by omega, by go_num, rfl, by go_num, hown3, hbz', Lib.hid fun h => Bool.noConfusion h, Lib.hid fun _ => ⟨by trivial, rfl, rfl, f1, hrm⟩⟩
                      case measure => simp [intOf]; omega
                    · have ho' : occ s t n = false := by simpa using ho
                      rw [ho'] at hpc
                      have hnext : ∀ b', b' < b + 1 → occ s (formT (UInt8.ofNat b')) n = false := fun b' hb' => by
                        rcases Nat.lt_succ_iff_lt_or_eq.1 hb' with h | rfl
                        · exact HN.out b' h
                        · rw [HT.out]; exact ho'
                      have HNX := Lib.hid hnext
                      clear ho ho' hroom hnext
                      go_wp2_with fail
                      refine (HO.out _).mono ?_
                      rintro e w2 ⟨rfl, hb2⟩
                      have hown2 := hoz.below hb2
                      have hbel2 := hbz.trans (hb2.mono hszz)
                      clear hoz hbz hb2
                      go_wp2
                      go_round
                      case rel => exact ⟨b + 1, false, n, o, by omega, by go_num, rfl, rfl, hown2, hbel2, Lib.hid fun _ => ⟨rfl, rfl, HNX.out⟩, Lib.hid fun h => Bool.noConfusion h⟩
                      case measure => simp [intOf]; omega
                  · have hr' : (s.size : Int) < (n : Int) + (t.size : Int) := by omega
                    have hup : (n : Int) + (t.size : Int) ≤ 33554432 := by omega
                    have ho' := hroom (by omega) (by omega)
                    have hnext : ∀ b', b' < b + 1 → occ s (formT (UInt8.ofNat b')) n = false := fun b' hb' => by
                      rcases Nat.lt_succ_iff_lt_or_eq.1 hb' with h | rfl
                      · exact HN.out b' h
                      · rw [HT.out]; exact ho'
                    have HNX := Lib.hid hnext
                    clear ho' hroom hnext hpc hrm
                    go_wp2_with fail
                    refine (HO.out _).mono ?_
                    rintro e w2 ⟨rfl, hb2⟩
                    have hown2 := hoz.below hb2
                    have hbel2 := hbz.trans (hb2.mono hszz)
                    clear hoz hbz hb2
                    go_wp2
                    go_round
                    case rel => exact ⟨b + 1, false, n, o, by omega, by go_num, rfl, rfl, hown2, hbel2, Lib.hid fun _ => ⟨rfl, rfl, HNX.out⟩, Lib.hid fun h => Bool.noConfusion h⟩
                    case measure => simp [intOf]; omega
                · obtain rfl : b = 256 := by omega
                  have hfk : fk = false := by
                    cases hh : fk with
                    | false => rfl
                    | true =>
                      have h1 := HFO.out hh
                      have h2 := HN.out fb.toNat fb.toNat_lt
                      rw [UInt8.ofNat_toNat, h1] at h2
                      exact Bool.noConfusion h2
                  have e := HSP.out hfk
                  have E := Lib.hid e
                  clear hfk e
                  go_wp2
                  go_ret3
                  exact ⟨by rw [E.out]; rfl, hbz⟩
              · obtain ⟨e1, rfl, rfl, f1, f2⟩ := hdt.out rfl
                have hst := HST.out e1
                have HST' := Lib.hid hst
                have hlen : (out ++ [fb]).length ≤ k + fn := by simp; omega
                have HLEN := Lib.hid hlen
                clear hdf hdt hst e1 hlen
                rcases (by omega : (b : Int) < 256 ∨ b = 256) with g | rfl
                all_goals
                  go_wp2
                  go_round
                  case rel => exact ⟨k + fn, f, out ++ [fb], by omega, by omega, rfl, hoz, HLEN.out, by omega, HST'.out, hbz⟩
                  case measure => simp [intOf]; omega
        · obtain rfl : k = s.size := by omega
          have e : getR s.data.toList = ([], 0, false) := by
            have : getB s.data.toList = none := by
              rw [HG.out, List.drop_of_length_le (by simp)]
              cases f <;> rfl
            rw [getR, this]
          have E := Lib.hid e
          clear e
          go_wp2
          go_ret3
          exact ⟨by rw [E.out]; rfl, hbel⟩
    · have e : getR s.data.toList = ([], 0, false) := by rw [hr]; simp [getR, getB, h1]
      rw [e]
      obtain ⟨g1, g2⟩ := byte_ne c0 34 h1
      replace g1 : ((c0.toNat : Int) == 34) = false := g1
      replace g2 : ((c0.toNat : Int) != 34) = true := g2
      clear h1 hr h0
      go_enter Try.func52, Try.ntmps52
      go_wp2
      go_ret3
      exact ⟨rfl, Below.refl _ _⟩
end Go.Proofs.Ytimfabnjopkhdaa
