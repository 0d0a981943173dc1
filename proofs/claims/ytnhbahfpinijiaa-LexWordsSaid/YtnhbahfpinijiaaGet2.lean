/- The text whose Put a text begins with. -/
import Derived.Test.YtnhbahfpinijiaaFirst
namespace Go.Proofs.Ytnhbahfpinijiaa
open Go.RowKit
set_option linter.unusedVariables false

def getGo : Nat → List UInt8 → List UInt8 → Nat → Option (List UInt8 × Nat)
  | 0, _, _, _ => none
  | _ + 1, [], _, _ => none
  | f + 1, c :: r, out, at_ =>
    if c = 34 then some (out, at_ + 1)
    else if (firstB (c :: r)).2.2 = true then getGo f ((c :: r).drop (firstB (c :: r)).2.1) (out ++ [(firstB (c :: r)).1]) (at_ + (firstB (c :: r)).2.1)
    else none
def getB (l : List UInt8) : Option (List UInt8 × Nat) :=
  match l with
  | c :: r => if c = 34 then getGo l.length r [] 1 else none
  | [] => none
def getR (l : List UInt8) : List UInt8 × Nat × Bool :=
  match getB l with
  | some (t, n) => (t, n, true)
  | none => ([], 0, false)
theorem firstB_ok (c : UInt8) (r : List UInt8) (h : (firstB (c :: r)).2.2 = true) : 1 ≤ (firstB (c :: r)).2.1 ∧ (firstB (c :: r)).2.1 ≤ (c :: r).length := by
  unfold firstB at h ⊢
  by_cases h1 : c ≠ 92
  · simp [h1]
  · simp only [h1, if_false] at h ⊢
    match r with
    | [] => simp at h
    | d :: r' =>
      simp only at h ⊢
      split at h
      · next hh => simp [hh]
      · next hh =>
        simp only [hh, if_false]
        split at h
        · next h3 => simp [h3]
        · next h3 =>
          simp only [h3, if_false]
          split at h
          · next h4 => simp [h4]
          · next h4 =>
            simp only [h4, if_false]
            split at h
            · next h5 =>
              simp only [h5, if_true]
              match r', h with
              | [], h => simp [hexB] at h
              | [_], h => simp [hexB] at h
              | _ :: _ :: r'', _ => simp
            · simp at h
theorem OwnB.drewN {w : World} {B e : Nat} {v : Value} {l : List UInt8} (h : OwnB w B e v l) (q : Nat) : OwnB (w.drewN q) B e v l := h
theorem drop_cons (s : ByteArray) (k : Nat) (h : k < s.size) : s.data.toList.drop k = s[k] :: s.data.toList.drop (k + 1) := by
  rw [List.drop_eq_getElem_cons (by simpa using h)]
  rfl
theorem ret3_eq {a a' : List UInt8} {b b' : Int} {c c' : Bool} (h : a = a') (h2 : b = b') (h3 : c = c') : Ending.returned (.tuple #[.string ⟨a.toArray⟩, .int .i64 b, .bool c]) = .returned (.tuple #[.string ⟨a'.toArray⟩, .int .i64 b', .bool c']) := by rw [h, h2, h3]

set_option maxHeartbeats 1000000 in
theorem get_any (s : ByteArray) (hs : s.size ≤ 16000000) (W : World) :
    Calls Try.prog 37 #[.string s] W fun e w' => e = .returned (.tuple #[.string ⟨(getR s.data.toList).1.toArray⟩, .int .i64 ((getR s.data.toList).2.1 : Int), .bool (getR s.data.toList).2.2]) ∧ Below W.heap.size W w' := by
  obtain ⟨i0, hi, hz0, hz1, hz2⟩ := info_parts infoU8
  by_cases h0 : s.size = 0
  · have e : getR s.data.toList = ([], 0, false) := by
      have : s.data.toList = [] := List.eq_nil_of_length_eq_zero (by simpa using h0)
      rw [this]; rfl
    rw [e]
    have hem : s.toList = [] := by rw [Lib.toList_data]; exact List.eq_nil_of_length_eq_zero (by simpa using h0)
    have hem2 : s.toList.isEmpty = true := by rw [hem]; rfl
    have hH := Lib.hid h0
    clear h0
    go_enter Try.func37, Try.ntmps37
    go_wp2
    go_ret3
    exact ⟨rfl, Below.refl _ _⟩
  · obtain ⟨r, hr, hrl⟩ := bytes_cons s (by omega)
    obtain ⟨c0, hc0⟩ : ∃ c, s[0] = c := ⟨_, rfl⟩
    rw [hc0] at hr
    have hp : 0 < s.size := by omega
    have hp' : (0 : Int) < (s.size : Int) := by omega
    have hne : s.toList.isEmpty = false := by rw [Lib.toList_data, hr]; rfl
    have hne2 : ¬ s.toList = [] := by rw [Lib.toList_data, hr]; simp
    by_cases h1 : c0 = 34
    · obtain ⟨g1, g2⟩ := byte_eq c0 34 h1
      replace g1 : ((c0.toNat : Int) == 34) = true := g1
      replace g2 : ((c0.toNat : Int) != 34) = false := g2
      have hB : getB s.data.toList = getGo s.size (s.data.toList.drop 1) [] 1 := by rw [hr, h1]; simp [getB, hrl]
      have HB := Lib.hid hB
      clear hB hr h1 h0
      go_enter Try.func37, Try.ntmps37
      go_wp2
      go_loopw [5, 6] (fun v i wr => ∃ (k f : Nat) (out : List UInt8), 1 ≤ k ∧ k ≤ s.size ∧ i = .int .i64 k ∧ OwnB wr W.heap.size 5 v out ∧ out.length ≤ k ∧ s.size < f + k ∧ getB s.data.toList = getGo f (s.data.toList.drop k) out k ∧ Below W.heap.size W wr) (fun _ i _ => s.size - (intOf i).toNat)
      case atStart => exact ⟨1, s.size, [], Nat.le_refl _, hp, rfl, OwnB.nil _ _ _, by simp, by omega, HB.out, Below.refl _ _⟩
      case round =>
        obtain ⟨k, f, out, hk1, hk, rfl, hown, hol, hf, hg, hbel⟩ := hrel
        have HG := Lib.hid hg
        clear hg
        have hsz := hbel.size
        by_cases hkn : k < s.size
        · have hdc := drop_cons s k hkn
          have hkn' : (k : Int) < (s.size : Int) := by omega
          obtain ⟨f, rfl⟩ : ∃ f', f = f' + 1 := ⟨f - 1, by omega⟩
          by_cases hc : s[k] = 34
          · have e : getR s.data.toList = (out, k + 1, true) := by
              have : getB s.data.toList = some (out, k + 1) := by rw [HG.out, hdc, hc]; simp [getGo]
              rw [getR, this]
            obtain ⟨c, hcc⟩ : ∃ c, s[k] = c := ⟨_, rfl⟩
            rw [hcc] at hc
            obtain ⟨k1, k2⟩ := byte_eq c 34 hc
            replace k1 : ((c.toNat : Int) == 34) = true := k1
            replace k2 : ((c.toNat : Int) != 34) = false := k2
            have hne3 : ((k : Int) == (s.size : Int)) = false := by rw [beq_eq_false_iff_ne]; omega
            have hconv := own_text (P := Try.prog) (src := 22) (dst := 9) hown Try.underlying22 Try.underlying5 Try.underlying9
            have E := Lib.hid e
            clear e hc hdc
            go_wp2
            go_ret3
            exact ⟨by rw [E.out]; rfl, hbel⟩
          · obtain ⟨c, hcc⟩ : ∃ c, s[k] = c := ⟨_, rfl⟩
            rw [hcc] at hc hdc
            obtain ⟨k1, k2⟩ := byte_ne c 34 hc
            replace k1 : ((c.toNat : Int) == 34) = false := k1
            replace k2 : ((c.toNat : Int) != 34) = true := k2
            have hx : (s.extract k s.size).data.toList = c :: s.data.toList.drop (k + 1) := by rw [Lib.extract_to_end]; exact hdc
            have hx0 : 0 < (s.extract k s.size).size := by
              have h := size_toList (s.extract k s.size)
              rw [hx, List.length_cons] at h
              omega
            have hcall := fun w => firstByte_any (s.extract k s.size) hx0 w
            rw [hx] at hcall
            have hlen : (c :: s.data.toList.drop (k + 1)).length = s.size - k := by simp; omega
            by_cases hok : (firstB (c :: s.data.toList.drop (k + 1))).2.2 = true
            · obtain ⟨n1, n2⟩ := firstB_ok _ _ hok
              rw [hlen] at n2
              have hstep : getB s.data.toList = getGo f (s.data.toList.drop (k + (firstB (c :: s.data.toList.drop (k + 1))).2.1)) (out ++ [(firstB (c :: s.data.toList.drop (k + 1))).1]) (k + (firstB (c :: s.data.toList.drop (k + 1))).2.1) := by
                rw [HG.out, hdc, getGo, if_neg hc, if_pos hok, ← hdc, List.drop_drop]
              rw [hok] at hcall
              obtain ⟨b, hb⟩ : ∃ b, (firstB (c :: s.data.toList.drop (k + 1))).1 = b := ⟨_, rfl⟩
              obtain ⟨n, hn⟩ : ∃ n, (firstB (c :: s.data.toList.drop (k + 1))).2.1 = n := ⟨_, rfl⟩
              rw [hn] at n1 n2
              rw [hb, hn] at hcall hstep
              have HC := Lib.hid hcall
              have HS := Lib.hid hstep
              clear hcall hstep hdc hx hlen hok hb hn hc
              go_wp2_with (first | (go_at_call 43; refine (HC.out _).mono ?_; rintro e w' ⟨rfl, q, rfl⟩) | (at_builtin; refine wpList_append_own _ rfl (.tmp 37) (.tmp 39) 22 rfl W.heap.size 5 i0 (.int .u8 0) 1 1 Try.underlying22 hi hz0 hz1 hz2 rfl (by decide) _ _ _ rfl ((OwnB.drewN hown q).alloc _) ⟨wr.heap.size, 0, none⟩ 1 1 (bV [b]) rfl rfl (new_cells_at _ _ _ _ (by simp)) (bV_one _) (by unfold maxLen; omega) (by omega) (by simp; omega) ?_))
              intro v' w1 hown' hgrow _
              have hbel' := ((below_drewN hbel q).alloc (by simp; omega) _).grown hgrow (by simp; omega) (fun r hr => (World.ownsRow.lt hown r hr).1)
              have hown2 : OwnB w1 W.heap.size 5 v' (out ++ [b]) := OwnB.snoc (m := [b]) hown'
              clear hown' hgrow hown hbel
              go_wp2
              go_roundw
              case rel => exact ⟨k + n, f, out ++ [b], by omega, by omega, by go_num, hown2, by simp; omega, by omega, HS.out, hbel'⟩
              case measure => simp [intOf]; omega
            · have hok' : (firstB (c :: s.data.toList.drop (k + 1))).2.2 = false := by simpa using hok
              have e : getR s.data.toList = ([], 0, false) := by
                have : getB s.data.toList = none := by rw [HG.out, hdc, getGo, if_neg hc, if_neg hok]
                rw [getR, this]
              rw [hok'] at hcall
              have HC := Lib.hid hcall
              have E := Lib.hid e
              clear hcall hdc hx hlen hok hok' e hc
              go_wp2_with (go_at_call 43; refine (HC.out _).mono ?_; rintro e w' ⟨rfl, q, rfl⟩)
              go_ret3
              exact ⟨by rw [E.out]; rfl, below_drewN hbel q⟩
        · obtain rfl : k = s.size := by omega
          have e : getR s.data.toList = ([], 0, false) := by
            have : getB s.data.toList = none := by
              rw [HG.out, List.drop_of_length_le (by simp)]
              cases f <;> rfl
            rw [getR, this]
          have E := Lib.hid e
          clear e
          go_wp2
          go_ret3
          exact ⟨by rw [E.out]; rfl, hbel⟩
    · have e : getR s.data.toList = ([], 0, false) := by rw [hr]; simp [getR, getB, h1]
      rw [e]
      obtain ⟨g1, g2⟩ := byte_ne c0 34 h1
      replace g1 : ((c0.toNat : Int) == 34) = false := g1
      replace g2 : ((c0.toNat : Int) != 34) = true := g2
      clear h1 hr h0
      go_enter Try.func37, Try.ntmps37
      go_wp2
      go_ret3
      exact ⟨rfl, Below.refl _ _⟩
end Go.Proofs.Ytnhbahfpinijiaa
