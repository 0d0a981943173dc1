/- The byte whose form a text, which is not nothing, begins with. -/
import Derived.Test.YtnhbahfpinijiaaGet
namespace Go.Proofs.Ytnhbahfpinijiaa
open Go.RowKit
set_option linter.unusedVariables false

/-- the byte, how many bytes its form has, and whether there is one -/
def firstB (l : List UInt8) : UInt8 × Nat × Bool :=
  match l with
  | [] => (0, 0, false)
  | c :: r =>
    if c ≠ 92 then (c, 1, !rareB c && (c != 10 && c != 9))
    else match r with
      | [] => (0, 0, false)
      | d :: r' =>
        if d = 34 ∨ d = 92 then (d, 2, true) else if d = 110 then (10, 2, true) else if d = 116 then (9, 2, true)
        else if d = 120 then ((hexB r').1, 4, (hexB r').2) else (0, 0, false)
theorem byte_eq (c : UInt8) (k : UInt8) (h : c = k) : (((c.toNat : Int)) == (k.toNat : Int)) = true ∧ (((c.toNat : Int)) != (k.toNat : Int)) = false := by subst h; simp
theorem byte_ne (c : UInt8) (k : UInt8) (h : c ≠ k) : (((c.toNat : Int)) == (k.toNat : Int)) = false ∧ (((c.toNat : Int)) != (k.toNat : Int)) = true := by
  have : (c.toNat : Int) ≠ (k.toNat : Int) := fun e => h (UInt8.toNat_inj.1 (by omega))
  exact ⟨by rw [beq_eq_false_iff_ne]; exact this, by rw [bne_iff_ne]; exact this⟩
theorem drew_le (w : World) (n m : Nat) : ∃ q, (w.drewN n).drewN m = w.drewN q := ⟨n + m, World.drewN_drewN _ _ _⟩

set_option maxHeartbeats 1000000 in
theorem firstByte_any (t : ByteArray) (h0 : 0 < t.size) (W : World) :
    Calls Try.prog 43 #[.string t] W fun e w' => e = .returned (.tuple #[.int .u8 ((firstB t.data.toList).1.toNat : Int), .int .i64 ((firstB t.data.toList).2.1 : Int), .bool (firstB t.data.toList).2.2]) ∧ ∃ q, w' = W.drewN q := by
  obtain ⟨r, hr, hrl⟩ := bytes_cons t h0
  obtain ⟨c, hc⟩ : ∃ c, t[0] = c := ⟨_, rfl⟩
  rw [hc] at hr
  have h0' : (0 : Int) < (t.size : Int) := by omega
  by_cases h1 : c = 92
  · obtain ⟨g1, g2⟩ := byte_eq c 92 h1
    replace g1 : ((c.toNat : Int) == 92) = true := g1
    replace g2 : ((c.toNat : Int) != 92) = false := g2
    by_cases h2 : t.size < 2
    · have e : firstB t.data.toList = (0, 0, false) := by
        have : r = [] := List.eq_nil_of_length_eq_zero (by omega)
        rw [hr, this, h1]; rfl
      rw [e]
      have h2' : (t.size : Int) < 2 := by omega
      clear h1 hr hrl
      go_enter Try.func43, Try.ntmps43
      go_wp2
      go_ret3
      exact ⟨rfl, 0, rfl⟩
    · obtain ⟨r', hr', hrl'⟩ := bytes_cons2 t (by omega)
      have h2' : ¬ (t.size : Int) < 2 := by omega
      have h21 : 1 < t.size := by omega
      have h22 : (1 : Int) < (t.size : Int) := by omega
      obtain ⟨d, hd⟩ : ∃ d, t[1] = d := ⟨_, rfl⟩
      rw [hc, hd] at hr'
      by_cases k1 : d = 34 ∨ d = 92
      · have e : firstB t.data.toList = (d, 2, true) := by rw [hr', h1]; simp [firstB, k1]
        rw [e]
        have hx : ((d.toNat : Int) == 34) = true ∨ ((d.toNat : Int) == 34) = false ∧ ((d.toNat : Int) == 92) = true := by
          rcases k1 with rfl | rfl
          · left; rfl
          · right; exact ⟨rfl, rfl⟩
        clear h1 hr hrl k1 hr' hrl'
        rcases hx with k1 | ⟨k1, k2⟩
        all_goals
          go_enter Try.func43, Try.ntmps43
          go_wp2
          go_ret3
          exact ⟨rfl, 0, rfl⟩
      · have hx1 : ((d.toNat : Int) == 34) = false := (byte_ne d 34 (fun h => k1 (.inl h))).1
        have hx2 : ((d.toNat : Int) == 92) = false := (byte_ne d 92 (fun h => k1 (.inr h))).1
        by_cases k2 : d = 110
        · have e : firstB t.data.toList = (10, 2, true) := by rw [hr', h1]; simp [firstB, k2]
          rw [e]
          have hx3 : ((d.toNat : Int) == 110) = true := (byte_eq d 110 k2).1
          clear h1 hr hrl k1 hr' hrl' k2
          go_enter Try.func43, Try.ntmps43
          go_wp2
          go_ret3
          exact ⟨rfl, 0, rfl⟩
        · have hx3 : ((d.toNat : Int) == 110) = false := (byte_ne d 110 k2).1
          by_cases k3 : d = 116
          · have e : firstB t.data.toList = (9, 2, true) := by rw [hr', h1]; simp [firstB, k3]
            rw [e]
            have hx4 : ((d.toNat : Int) == 116) = true := (byte_eq d 116 k3).1
            clear h1 hr hrl k1 hr' hrl' k2 k3
            go_enter Try.func43, Try.ntmps43
            go_wp2
            go_ret3
            exact ⟨rfl, 0, rfl⟩
          · have hx4 : ((d.toNat : Int) == 116) = false := (byte_ne d 116 k3).1
            by_cases k4 : d = 120
            · have e : firstB t.data.toList = ((hexB r').1, 4, (hexB r').2) := by rw [hr', h1]; simp [firstB, k4]
              rw [e]
              have hx5 : ((d.toNat : Int) == 120) = true := (byte_eq d 120 k4).1
              have er : (t.extract 2 t.size).data.toList = r' := by rw [Lib.extract_to_end, hr']; rfl
              have hcall := fun w => hexByte_any (t.extract 2 t.size) w
              rw [er] at hcall
              have HC := Lib.hid hcall
              clear h1 hr hrl k1 hr' hrl' k2 k3 k4 er hcall
              go_enter Try.func43, Try.ntmps43
              go_wp2_with (go_at_call 44; refine (HC.out _).mono ?_; rintro e w' ⟨rfl, q, rfl⟩)
              go_ret3
              exact ⟨rfl, q, rfl⟩
            · have e : firstB t.data.toList = (0, 0, false) := by rw [hr', h1]; simp [firstB, k1, k2, k3, k4]
              rw [e]
              have hx5 : ((d.toNat : Int) == 120) = false := (byte_ne d 120 k4).1
              clear h1 hr hrl k1 hr' hrl' k2 k3 k4
              go_enter Try.func43, Try.ntmps43
              go_wp2
              go_ret3
              exact ⟨rfl, 0, rfl⟩
  · obtain ⟨g1, g2⟩ := byte_ne c 92 h1
    replace g1 : ((c.toNat : Int) == 92) = false := g1
    replace g2 : ((c.toNat : Int) != 92) = true := g2
    have e : firstB t.data.toList = (c, 1, !rareB c && (c != 10 && c != 9)) := by rw [hr]; simp [firstB, h1]
    rw [e]
    clear h1 hr hrl e
    by_cases k1 : rareB c = true
    · go_enter Try.func43, Try.ntmps43
      go_wp2
      go_quiet (first | (go_at_call 31; exact Calls.quiet_of_same (same_sym (rare_any c _))))
      go_wp2
      go_ret3
      exact ⟨by simp [k1], _, rfl⟩
    · have k1' : rareB c = false := by simpa using k1
      clear k1
      by_cases k2 : c = 10
      · obtain ⟨k3, k4⟩ := byte_eq c 10 k2
        replace k3 : ((c.toNat : Int) == 10) = true := k3
        replace k4 : ((c.toNat : Int) != 10) = false := k4
        have K2 := Lib.hid k2
        clear k2
        go_enter Try.func43, Try.ntmps43
        go_wp2
        go_quiet (first | (go_at_call 31; exact Calls.quiet_of_same (same_sym (rare_any c _))))
        go_wp2
        go_ret3
        exact ⟨by simp [K2.out], _, rfl⟩
      · obtain ⟨k3, k4⟩ := byte_ne c 10 k2
        replace k3 : ((c.toNat : Int) == 10) = false := k3
        replace k4 : ((c.toNat : Int) != 10) = true := k4
        by_cases k5 : c = 9
        · obtain ⟨k6, k7⟩ := byte_eq c 9 k5
          replace k6 : ((c.toNat : Int) == 9) = true := k6
          replace k7 : ((c.toNat : Int) != 9) = false := k7
          have K2 := Lib.hid k5
          clear k2 k5
          go_enter Try.func43, Try.ntmps43
          go_wp2
          go_quiet (first | (go_at_call 31; exact Calls.quiet_of_same (same_sym (rare_any c _))))
          go_wp2
          go_ret3
          exact ⟨by simp [K2.out], _, rfl⟩
        · obtain ⟨k6, k7⟩ := byte_ne c 9 k5
          replace k6 : ((c.toNat : Int) == 9) = false := k6
          replace k7 : ((c.toNat : Int) != 9) = true := k7
          have K2 := Lib.hid k2
          have K5 := Lib.hid k5
          clear k2 k5
          go_enter Try.func43, Try.ntmps43
          go_wp2
          go_quiet (first | (go_at_call 31; exact Calls.quiet_of_same (same_sym (rare_any c _))))
          go_wp2
          go_ret3
          exact ⟨by simp [k1', K2.out, K5.out], _, rfl⟩
end Go.Proofs.Ytnhbahfpinijiaa
