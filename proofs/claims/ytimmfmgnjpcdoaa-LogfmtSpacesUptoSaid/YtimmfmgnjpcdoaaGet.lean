/- The byte whose form a text begins with.
   The byte whose form a text, which is not nothing, begins with.
   The text whose Put a text begins with. -/
import Derived.Test.YtimmfmgnjpcdoaaPut
import Derived.Test.YtimmfmgnjpcdoaaShelf
import Derived.Lib.IndexBytes
import Derived.WalkLawsBesides
namespace Go.Proofs.Ytimmfmgnjpcdoaa
open Go.RowKit
set_option linter.unusedVariables false
set_option linter.unusedSimpArgs false

def digitsL : List UInt8 := [48, 49, 50, 51, 52, 53, 54, 55, 56, 57, 97, 98, 99, 100, 101, 102]
def hexI (c : UInt8) : Int := Lib.indexByte digitsL c
/-- the byte whose two digits stand there, and whether digits are its only form -/
def hexB (l : List UInt8) : UInt8 × Bool :=
  match l with
  | a :: b :: _ => if hexI a < 0 ∨ hexI b < 0 then (0, false) else (UInt8.ofNat (hexI a * 16 + hexI b).toNat, rareB (UInt8.ofNat (hexI a * 16 + hexI b).toNat))
  | _ => (0, false)
theorem hexI_range : ∀ c : UInt8, -1 ≤ hexI c ∧ hexI c < 16 := by
  have h : ∀ c : Fin 256, -1 ≤ hexI (UInt8.ofNat c.1) ∧ hexI (UInt8.ofNat c.1) < 16 := by decide +kernel
  intro c
  have := h ⟨c.toNat, c.toNat_lt⟩
  simpa using this
theorem bytes_cons (t : ByteArray) (h : 0 < t.size) : ∃ r, t.data.toList = t[0] :: r ∧ r.length + 1 = t.size := by
  obtain ⟨⟨l⟩⟩ := t
  match l, h with
  | a :: r, _ => exact ⟨r, rfl, by simp [ByteArray.size]⟩
theorem bytes_cons2 (t : ByteArray) (h : 1 < t.size) : ∃ r, t.data.toList = t[0] :: t[1] :: r ∧ r.length + 2 = t.size := by
  obtain ⟨⟨l⟩⟩ := t
  match l, h with
  | a :: b :: r, _ => exact ⟨r, rfl, by simp [ByteArray.size]⟩
theorem ret2_eq {a a' : Int} {b b' : Bool} (h : a = a') (h2 : b = b') : Ending.returned (.tuple #[.int .u8 a, .bool b]) = .returned (.tuple #[.int .u8 a', .bool b']) := by rw [h, h2]

set_option maxHeartbeats 800000 in
theorem hexByte_any (t : ByteArray) (W : World) :
    Calls Try.prog 78 #[.string t] W fun e w' => e = .returned (.tuple #[.int .u8 ((hexB t.data.toList).1.toNat : Int), .bool (hexB t.data.toList).2]) ∧ ∃ q, w' = W.drewN q := by
  by_cases h2 : t.size < 2
  · have e : hexB t.data.toList = (0, false) := by
      have hl : t.data.toList.length < 2 := by simpa using h2
      match h : t.data.toList, hl with
      | [], _ => rfl
      | [a], _ => rfl
    rw [e]
    have hi : (t.size : Int) < 2 := by omega
    go_enter Try.func78, Try.ntmps78
    go_wp2
    go_ret2
    exact ⟨rfl, 0, rfl⟩
  · obtain ⟨r, hr, _⟩ := bytes_cons2 t (by omega)
    have hi : ¬ (t.size : Int) < 2 := by omega
    have h0 : 0 < t.size := by omega
    have h1 : 1 < t.size := by omega
    obtain ⟨a, ha⟩ : ∃ a, t[0] = a := ⟨_, rfl⟩
    obtain ⟨b, hb⟩ : ∃ b, t[1] = b := ⟨_, rfl⟩
    rw [ha, hb] at hr
    rw [hr]
    have hra := hexI_range a
    have hrb := hexI_range b
    have ca : ∀ w : World, Calls Try.prog 79 #[.string ⟨#[48, 49, 50, 51, 52, 53, 54, 55, 56, 57, 97, 98, 99, 100, 101, 102]⟩, .int .u8 (a.toNat : Int)] w fun e w' => e = .returned (.int .i64 (hexI a)) ∧ w' = w := fun w => by
      simpa [hexI, digitsL] using Try.strings_IndexByte ⟨#[48, 49, 50, 51, 52, 53, 54, 55, 56, 57, 97, 98, 99, 100, 101, 102]⟩ (a.toNat : Int) w
    have cb : ∀ w : World, Calls Try.prog 79 #[.string ⟨#[48, 49, 50, 51, 52, 53, 54, 55, 56, 57, 97, 98, 99, 100, 101, 102]⟩, .int .u8 (b.toNat : Int)] w fun e w' => e = .returned (.int .i64 (hexI b)) ∧ w' = w := fun w => by
      simpa [hexI, digitsL] using Try.strings_IndexByte ⟨#[48, 49, 50, 51, 52, 53, 54, 55, 56, 57, 97, 98, 99, 100, 101, 102]⟩ (b.toNat : Int) w
    have CA := Lib.hid ca
    have CB := Lib.hid cb
    clear ca cb hr
    obtain ⟨x, hx⟩ : ∃ x, hexI a = x := ⟨_, rfl⟩
    obtain ⟨y, hy⟩ : ∃ y, hexI b = y := ⟨_, rfl⟩
    rw [hx] at hra
    rw [hy] at hrb
    obtain ⟨hra1, hra2⟩ := hra
    obtain ⟨hrb1, hrb2⟩ := hrb
    have CA' : Hid (∀ w : World, Calls Try.prog 79 #[.string ⟨#[48, 49, 50, 51, 52, 53, 54, 55, 56, 57, 97, 98, 99, 100, 101, 102]⟩, .int .u8 (a.toNat : Int)] w fun e w' => e = .returned (.int .i64 x) ∧ w' = w) := by rw [← hx]; exact CA
    have CB' : Hid (∀ w : World, Calls Try.prog 79 #[.string ⟨#[48, 49, 50, 51, 52, 53, 54, 55, 56, 57, 97, 98, 99, 100, 101, 102]⟩, .int .u8 (b.toNat : Int)] w fun e w' => e = .returned (.int .i64 y) ∧ w' = w) := by rw [← hy]; exact CB
    have HX := Lib.hid hx
    have HY := Lib.hid hy
    clear CA CB hx hy
    by_cases hbad : x < 0 ∨ y < 0
    · have e : hexB (a :: b :: r) = (0, false) := by simp only [hexB]; rw [if_pos (by rw [HX.out, HY.out]; exact hbad)]
      rw [e]
      rcases (by omega : x < 0 ∨ (0 ≤ x ∧ y < 0)) with g | ⟨g, g2⟩
      all_goals
        clear hbad
        go_enter Try.func78, Try.ntmps78
        go_wp2
        go_quiet (first | (go_at_call_of 79 (Value.int .u8 (a.toNat : Int)); exact Calls.quiet_of_same (CA'.out _)) | (go_at_call_of 79 (Value.int .u8 (b.toNat : Int)); exact Calls.quiet_of_same (CB'.out _)))
        go_wp2
        go_ret2
        exact ⟨rfl, _, rfl⟩
    · obtain ⟨B, hB0⟩ : ∃ B, B = UInt8.ofNat (x * 16 + y).toNat := ⟨_, rfl⟩
      have hB : x * 16 + y = (B.toNat : Int) := by
        have : (x * 16 + y).toNat < 256 := by omega
        rw [hB0]
        simp [UInt8.toNat_ofNat', Nat.mod_eq_of_lt this]
        omega
      have e : hexB (a :: b :: r) = (B, rareB B) := by simp only [hexB]; rw [if_neg (by rw [HX.out, HY.out]; exact hbad), HX.out, HY.out, hB0]
      rw [e]
      have g1 : 0 ≤ x := by omega
      have g2 : 0 ≤ y := by omega
      have hBl := B.toNat_lt
      have hB2 : IntKind.u8.wrap (x * 16 + y) = (B.toNat : Int) := by rw [IntKind.wrap_u8]; omega
      clear hbad hB0 e
      go_enter Try.func78, Try.ntmps78
      go_wp2
      go_quiet (first | (go_at_call_of 79 (Value.int .u8 (a.toNat : Int)); exact Calls.quiet_of_same (CA'.out _)) | (go_at_call_of 79 (Value.int .u8 (b.toNat : Int)); exact Calls.quiet_of_same (CB'.out _)))
      go_wp2_with (go_at_call 59; refine (rare_any B _).mono ?_; rintro e w' ⟨rfl, rfl⟩)
      go_ret2
      exact ⟨rfl, _, rfl⟩
end Go.Proofs.Ytimmfmgnjpcdoaa
namespace Go.Proofs.Ytimmfmgnjpcdoaa
open Go.RowKit
set_option linter.unusedVariables false
set_option linter.unusedSimpArgs false

/-- the byte, how many bytes its form has, and whether there is one -/
def firstB (l : List UInt8) : UInt8 × Nat × Bool :=
  match l with
  | [] => (0, 0, false)
  | c :: r =>
    if c ≠ 92 then (c, 1, !rareB c && (c != 10 && c != 9))
    else match r with
      | [] => (0, 0, false)
      | d :: r' =>
        if d = 34 ∨ d = 92 then (d, 2, true) else if d = 110 then (10, 2, true) else if d = 116 then (9, 2, true)
        else if d = 120 then ((hexB r').1, 4, (hexB r').2) else (0, 0, false)
theorem byte_eq (c : UInt8) (k : UInt8) (h : c = k) : (((c.toNat : Int)) == (k.toNat : Int)) = true ∧ (((c.toNat : Int)) != (k.toNat : Int)) = false := by subst h; simp
theorem byte_ne (c : UInt8) (k : UInt8) (h : c ≠ k) : (((c.toNat : Int)) == (k.toNat : Int)) = false ∧ (((c.toNat : Int)) != (k.toNat : Int)) = true := by
  have : (c.toNat : Int) ≠ (k.toNat : Int) := fun e => h (UInt8.toNat_inj.1 (by omega))
  exact ⟨by rw [beq_eq_false_iff_ne]; exact this, by rw [bne_iff_ne]; exact this⟩
theorem drew_le (w : World) (n m : Nat) : ∃ q, (w.drewN n).drewN m = w.drewN q := ⟨n + m, World.drewN_drewN _ _ _⟩

set_option maxHeartbeats 1000000 in
theorem firstByte_any (t : ByteArray) (h0 : 0 < t.size) (W : World) :
    Calls Try.prog 74 #[.string t] W fun e w' => e = .returned (.tuple #[.int .u8 ((firstB t.data.toList).1.toNat : Int), .int .i64 ((firstB t.data.toList).2.1 : Int), .bool (firstB t.data.toList).2.2]) ∧ ∃ q, w' = W.drewN q := by
  obtain ⟨r, hr, hrl⟩ := bytes_cons t h0
  obtain ⟨c, hc⟩ : ∃ c, t[0] = c := ⟨_, rfl⟩
  rw [hc] at hr
  have h0' : (0 : Int) < (t.size : Int) := by omega
  by_cases h1 : c = 92
  · obtain ⟨g1, g2⟩ := byte_eq c 92 h1
    replace g1 : ((c.toNat : Int) == 92) = true := g1
    replace g2 : ((c.toNat : Int) != 92) = false := g2
    by_cases h2 : t.size < 2
    · have e : firstB t.data.toList = (0, 0, false) := by
        have : r = [] := List.eq_nil_of_length_eq_zero (by omega)
        rw [hr, this, h1]; rfl
      rw [e]
      have h2' : (t.size : Int) < 2 := by omega
      clear h1 hr hrl
      go_enter Try.func74, Try.ntmps74
      go_wp2
      go_ret3
      exact ⟨rfl, 0, rfl⟩
    · obtain ⟨r', hr', hrl'⟩ := bytes_cons2 t (by omega)
      have h2' : ¬ (t.size : Int) < 2 := by omega
      have h21 : 1 < t.size := by omega
      have h22 : (1 : Int) < (t.size : Int) := by omega
      obtain ⟨d, hd⟩ : ∃ d, t[1] = d := ⟨_, rfl⟩
      rw [hc, hd] at hr'
      by_cases k1 : d = 34 ∨ d = 92
      · have e : firstB t.data.toList = (d, 2, true) := by rw [hr', h1]; simp [firstB, k1]
        rw [e]
        have hx : ((d.toNat : Int) == 34) = true ∨ ((d.toNat : Int) == 34) = false ∧ ((d.toNat : Int) == 92) = true := by
          rcases k1 with rfl | rfl
          · left; rfl
          · right; exact ⟨rfl, rfl⟩
        clear h1 hr hrl k1 hr' hrl'
        rcases hx with k1 | ⟨k1, k2⟩
        all_goals
          go_enter Try.func74, Try.ntmps74
          go_wp2
          go_ret3
          exact ⟨rfl, 0, rfl⟩
      · have hx1 : ((d.toNat : Int) == 34) = false := (byte_ne d 34 (fun h => k1 (.inl h))).1
        have hx2 : ((d.toNat : Int) == 92) = false := (byte_ne d 92 (fun h => k1 (.inr h))).1
        by_cases k2 : d = 110
        · have e : firstB t.data.toList = (10, 2, true) := by rw [hr', h1]; simp [firstB, k2]
          rw [e]
          have hx3 : ((d.toNat : Int) == 110) = true := (byte_eq d 110 k2).1
          clear h1 hr hrl k1 hr' hrl' k2
          go_enter Try.func74, Try.ntmps74
          go_wp2
          go_ret3
          exact ⟨rfl, 0, rfl⟩
        · have hx3 : ((d.toNat : Int) == 110) = false := (byte_ne d 110 k2).1
          by_cases k3 : d = 116
          · have e : firstB t.data.toList = (9, 2, true) := by rw [hr', h1]; simp [firstB, k3]
            rw [e]
            have hx4 : ((d.toNat : Int) == 116) = true := (byte_eq d 116 k3).1
            clear h1 hr hrl k1 hr' hrl' k2 k3
            go_enter Try.func74, Try.ntmps74
            go_wp2
            go_ret3
            exact ⟨rfl, 0, rfl⟩
          · have hx4 : ((d.toNat : Int) == 116) = false := (byte_ne d 116 k3).1
            by_cases k4 : d = 120
            · have e : firstB t.data.toList = ((hexB r').1, 4, (hexB r').2) := by rw [hr', h1]; simp [firstB, k4]
              rw [e]
              have hx5 : ((d.toNat : Int) == 120) = true := (byte_eq d 120 k4).1
              have er : (t.extract 2 t.size).data.toList = r' := by rw [Lib.extract_to_end, hr']; rfl
              have hcall := fun w => hexByte_any (t.extract 2 t.size) w
              rw [er] at hcall
              have HC := Lib.hid hcall
              clear h1 hr hrl k1 hr' hrl' k2 k3 k4 er hcall
              go_enter Try.func74, Try.ntmps74
              go_wp2_with (go_at_call 78; refine (HC.out _).mono ?_; rintro e w' ⟨rfl, q, rfl⟩)
              go_ret3
              exact ⟨rfl, q, rfl⟩
            · have e : firstB t.data.toList = (0, 0, false) := by rw [hr', h1]; simp [firstB, k1, k2, k3, k4]
              rw [e]
              have hx5 : ((d.toNat : Int) == 120) = false := (byte_ne d 120 k4).1
              clear h1 hr hrl k1 hr' hrl' k2 k3 k4
              go_enter Try.func74, Try.ntmps74
              go_wp2
              go_ret3
              exact ⟨rfl, 0, rfl⟩
  · obtain ⟨g1, g2⟩ := byte_ne c 92 h1
    replace g1 : ((c.toNat : Int) == 92) = false := g1
    replace g2 : ((c.toNat : Int) != 92) = true := g2
    have e : firstB t.data.toList = (c, 1, !rareB c && (c != 10 && c != 9)) := by rw [hr]; simp [firstB, h1]
    rw [e]
    clear h1 hr hrl e
    by_cases k1 : rareB c = true
    · go_enter Try.func74, Try.ntmps74
      go_wp2
      go_quiet (first | (go_at_call 59; exact Calls.quiet_of_same (same_sym (rare_any c _))))
      go_wp2
      go_ret3
      exact ⟨by simp [k1], _, rfl⟩
    · have k1' : rareB c = false := by simpa using k1
      clear k1
      by_cases k2 : c = 10
      · obtain ⟨k3, k4⟩ := byte_eq c 10 k2
        replace k3 : ((c.toNat : Int) == 10) = true := k3
        replace k4 : ((c.toNat : Int) != 10) = false := k4
        have K2 := Lib.hid k2
        clear k2
        go_enter Try.func74, Try.ntmps74
        go_wp2
        go_quiet (first | (go_at_call 59; exact Calls.quiet_of_same (same_sym (rare_any c _))))
        go_wp2
        go_ret3
        exact ⟨by simp [K2.out], _, rfl⟩
      · obtain ⟨k3, k4⟩ := byte_ne c 10 k2
        replace k3 : ((c.toNat : Int) == 10) = false := k3
        replace k4 : ((c.toNat : Int) != 10) = true := k4
        by_cases k5 : c = 9
        · obtain ⟨k6, k7⟩ := byte_eq c 9 k5
          replace k6 : ((c.toNat : Int) == 9) = true := k6
          replace k7 : ((c.toNat : Int) != 9) = false := k7
          have K2 := Lib.hid k5
          clear k2 k5
          go_enter Try.func74, Try.ntmps74
          go_wp2
          go_quiet (first | (go_at_call 59; exact Calls.quiet_of_same (same_sym (rare_any c _))))
          go_wp2
          go_ret3
          exact ⟨by simp [K2.out], _, rfl⟩
        · obtain ⟨k6, k7⟩ := byte_ne c 9 k5
          replace k6 : ((c.toNat : Int) == 9) = false := k6
          replace k7 : ((c.toNat : Int) != 9) = true := k7
          have K2 := Lib.hid k2
          have K5 := Lib.hid k5
          clear k2 k5
          go_enter Try.func74, Try.ntmps74
          go_wp2
          go_quiet (first | (go_at_call 59; exact Calls.quiet_of_same (same_sym (rare_any c _))))
          go_wp2
          go_ret3
          exact ⟨by simp [k1', K2.out, K5.out], _, rfl⟩
end Go.Proofs.Ytimmfmgnjpcdoaa
namespace Go.Proofs.Ytimmfmgnjpcdoaa
open Go.RowKit
set_option linter.unusedVariables false
set_option linter.unusedSimpArgs false

def getGo : Nat → List UInt8 → List UInt8 → Nat → Option (List UInt8 × Nat)
  | 0, _, _, _ => none
  | _ + 1, [], _, _ => none
  | f + 1, c :: r, out, at_ =>
    if c = 34 then some (out, at_ + 1)
    else if (firstB (c :: r)).2.2 = true then getGo f ((c :: r).drop (firstB (c :: r)).2.1) (out ++ [(firstB (c :: r)).1]) (at_ + (firstB (c :: r)).2.1)
    else none
def getB (l : List UInt8) : Option (List UInt8 × Nat) :=
  match l with
  | c :: r => if c = 34 then getGo l.length r [] 1 else none
  | [] => none
def getR (l : List UInt8) : List UInt8 × Nat × Bool :=
  match getB l with
  | some (t, n) => (t, n, true)
  | none => ([], 0, false)
theorem firstB_ok (c : UInt8) (r : List UInt8) (h : (firstB (c :: r)).2.2 = true) : 1 ≤ (firstB (c :: r)).2.1 ∧ (firstB (c :: r)).2.1 ≤ (c :: r).length := by
  unfold firstB at h ⊢
  by_cases h1 : c ≠ 92
  · simp [h1]
  · simp only [h1, if_false] at h ⊢
    match r with
    | [] => simp at h
    | d :: r' =>
      simp only at h ⊢
      split at h
      · next hh => simp [hh]
      · next hh =>
        simp only [hh, if_false]
        split at h
        · next h3 => simp [h3]
        · next h3 =>
          simp only [h3, if_false]
          split at h
          · next h4 => simp [h4]
          · next h4 =>
            simp only [h4, if_false]
            split at h
            · next h5 =>
              simp only [h5, if_true]
              match r', h with
              | [], h => simp [hexB] at h
              | [_], h => simp [hexB] at h
              | _ :: _ :: r'', _ => simp
            · simp at h
theorem OwnB.drewN {w : World} {B e : Nat} {v : Value} {l : List UInt8} (h : OwnB w B e v l) (q : Nat) : OwnB (w.drewN q) B e v l := h
theorem drop_cons (s : ByteArray) (k : Nat) (h : k < s.size) : s.data.toList.drop k = s[k] :: s.data.toList.drop (k + 1) := by
  rw [List.drop_eq_getElem_cons (by simpa using h)]
  rfl
theorem ret3_eq {a a' : List UInt8} {b b' : Int} {c c' : Bool} (h : a = a') (h2 : b = b') (h3 : c = c') : Ending.returned (.tuple #[.string ⟨a.toArray⟩, .int .i64 b, .bool c]) = .returned (.tuple #[.string ⟨a'.toArray⟩, .int .i64 b', .bool c']) := by rw [h, h2, h3]

set_option maxHeartbeats 1000000 in
theorem get_any (s : ByteArray) (hs : s.size ≤ 16000000) (W : World) :
    Calls Try.prog 68 #[.string s] W fun e w' => e = .returned (.tuple #[.string ⟨(getR s.data.toList).1.toArray⟩, .int .i64 ((getR s.data.toList).2.1 : Int), .bool (getR s.data.toList).2.2]) ∧ Below W.heap.size W w' := by
  obtain ⟨i0, hi, hz0, hz1, hz2⟩ := info_parts infoU8
  by_cases h0 : s.size = 0
  · have e : getR s.data.toList = ([], 0, false) := by
      have : s.data.toList = [] := List.eq_nil_of_length_eq_zero (by simpa using h0)
      rw [this]; rfl
    rw [e]
    have hem : s.toList = [] := by rw [Lib.toList_data]; exact List.eq_nil_of_length_eq_zero (by simpa using h0)
    have hem2 : s.toList.isEmpty = true := by rw [hem]; rfl
    have hH := Lib.hid h0
    clear h0
    go_enter Try.func68, Try.ntmps68
    go_wp2
    go_ret3
    exact ⟨rfl, Below.refl _ _⟩
  · obtain ⟨r, hr, hrl⟩ := bytes_cons s (by omega)
    obtain ⟨c0, hc0⟩ : ∃ c, s[0] = c := ⟨_, rfl⟩
    rw [hc0] at hr
    have hp : 0 < s.size := by omega
    have hp' : (0 : Int) < (s.size : Int) := by omega
    have hne : s.toList.isEmpty = false := by rw [Lib.toList_data, hr]; rfl
    have hne2 : ¬ s.toList = [] := by rw [Lib.toList_data, hr]; simp
    by_cases h1 : c0 = 34
    · obtain ⟨g1, g2⟩ := byte_eq c0 34 h1
      replace g1 : ((c0.toNat : Int) == 34) = true := g1
      replace g2 : ((c0.toNat : Int) != 34) = false := g2
      have hB : getB s.data.toList = getGo s.size (s.data.toList.drop 1) [] 1 := by rw [hr, h1]; simp [getB, hrl]
      have HB := Lib.hid hB
      clear hB hr h1 h0
      go_enter Try.func68, Try.ntmps68
      go_wp2
      go_loopw [5, 6] (fun v i wr => ∃ (k f : Nat) (out : List UInt8), 1 ≤ k ∧ k ≤ s.size ∧ i = .int .i64 k ∧ OwnB wr W.heap.size 5 v out ∧ out.length ≤ k ∧ s.size < f + k ∧ getB s.data.toList = getGo f (s.data.toList.drop k) out k ∧ Below W.heap.size W wr) (fun _ i _ => s.size - (intOf i).toNat)
      case atStart => exact ⟨1, s.size, [], Nat.le_refl _, hp, rfl, OwnB.nil _ _ _, by simp, by omega, HB.out, Below.refl _ _⟩
      case round =>
        obtain ⟨k, f, out, hk1, hk, rfl, hown, hol, hf, hg, hbel⟩ := hrel
        have HG := Lib.hid hg
        clear hg
        have hsz := hbel.size
        by_cases hkn : k < s.size
        · have hdc := drop_cons s k hkn
          have hkn' : (k : Int) < (s.size : Int) := by omega
          obtain ⟨f, rfl⟩ : ∃ f', f = f' + 1 := ⟨f - 1, by omega⟩
          by_cases hc : s[k] = 34
          · have e : getR s.data.toList = (out, k + 1, true) := by
              have : getB s.data.toList = some (out, k + 1) := by rw [HG.out, hdc, hc]; simp [getGo]
              rw [getR, this]
            obtain ⟨c, hcc⟩ : ∃ c, s[k] = c := ⟨_, rfl⟩
            rw [hcc] at hc
            obtain ⟨k1, k2⟩ := byte_eq c 34 hc
            replace k1 : ((c.toNat : Int) == 34) = true := k1
            replace k2 : ((c.toNat : Int) != 34) = false := k2
            have hne3 : ((k : Int) == (s.size : Int)) = false := by rw [beq_eq_false_iff_ne]; omega
            have hconv := own_text (P := Try.prog) (src := 22) (dst := 9) hown Try.underlying22 Try.underlying5 Try.underlying9
            have E := Lib.hid e
            clear e hc hdc
            go_wp2
            go_ret3
            exact ⟨by rw [E.out]; rfl, hbel⟩
          · obtain ⟨c, hcc⟩ : ∃ c, s[k] = c := ⟨_, rfl⟩
            rw [hcc] at hc hdc
            obtain ⟨k1, k2⟩ := byte_ne c 34 hc
            replace k1 : ((c.toNat : Int) == 34) = false := k1
            replace k2 : ((c.toNat : Int) != 34) = true := k2
            have hx : (s.extract k s.size).data.toList = c :: s.data.toList.drop (k + 1) := by rw [Lib.extract_to_end]; exact hdc
            have hx0 : 0 < (s.extract k s.size).size := by
              have h := size_toList (s.extract k s.size)
              rw [hx, List.length_cons] at h
              omega
            have hcall := fun w => firstByte_any (s.extract k s.size) hx0 w
            rw [hx] at hcall
            have hlen : (c :: s.data.toList.drop (k + 1)).length = s.size - k := by simp; omega
            by_cases hok : (firstB (c :: s.data.toList.drop (k + 1))).2.2 = true
            · obtain ⟨n1, n2⟩ := firstB_ok _ _ hok
              rw [hlen] at n2
              have hstep : getB s.data.toList = getGo f (s.data.toList.drop (k + (firstB (c :: s.data.toList.drop (k + 1))).2.1)) (out ++ [(firstB (c :: s.data.toList.drop (k + 1))).1]) (k + (firstB (c :: s.data.toList.drop (k + 1))).2.1) := by
                rw [HG.out, hdc, getGo, if_neg hc, if_pos hok, ← hdc, List.drop_drop]
              rw [hok] at hcall
              obtain ⟨b, hb⟩ : ∃ b, (firstB (c :: s.data.toList.drop (k + 1))).1 = b := ⟨_, rfl⟩
              obtain ⟨n, hn⟩ : ∃ n, (firstB (c :: s.data.toList.drop (k + 1))).2.1 = n := ⟨_, rfl⟩
              rw [hn] at n1 n2
              rw [hb, hn] at hcall hstep
              have HC := Lib.hid hcall
              have HS := Lib.hid hstep
              clear hcall hstep hdc hx hlen hok hb hn hc
              go_wp2_with (first | (go_at_call 74; refine (HC.out _).mono ?_; rintro e w' ⟨rfl, q, rfl⟩) | (at_builtin; refine wpList_append_own _ rfl (.tmp 37) (.tmp 39) 22 rfl W.heap.size 5 i0 (.int .u8 0) 1 1 Try.underlying22 hi hz0 hz1 hz2 rfl (by decide) _ _ _ rfl ((OwnB.drewN hown q).alloc _) ⟨wr.heap.size, 0, none⟩ 1 1 (bV [b]) rfl rfl (new_cells_at _ _ _ _ (by simp)) (bV_one _) (by unfold maxLen; omega) (by omega) (by simp; omega) ?_))
              intro v' w1 hown' hgrow _
              have hbel' := ((below_drewN hbel q).alloc (by simp; omega) _).grown hgrow (by simp; omega) (fun r hr => (World.ownsRow.lt hown r hr).1)
              have hown2 : OwnB w1 W.heap.size 5 v' (out ++ [b]) := OwnB.snoc (m := [b]) hown'
              clear hown' hgrow hown hbel
              go_wp2
              go_roundw
              case rel => exact ⟨k + n, f, out ++ [b], by omega, by omega, by go_num, hown2, by simp; omega, by omega, HS.out, hbel'⟩
              case measure => simp [intOf]; omega
            · have hok' : (firstB (c :: s.data.toList.drop (k + 1))).2.2 = false := by simpa using hok
              have e : getR s.data.toList = ([], 0, false) := by
                have : getB s.data.toList = none := by rw [HG.out, hdc, getGo, if_neg hc, if_neg hok]
                rw [getR, this]
              rw [hok'] at hcall
              have HC := Lib.hid hcall
              have E := Lib.hid e
              clear hcall hdc hx hlen hok hok' e hc
              go_wp2_with (go_at_call 74; refine (HC.out _).mono ?_; rintro e w' ⟨rfl, q, rfl⟩)
              go_ret3
              exact ⟨by rw [E.out]; rfl, below_drewN hbel q⟩
        · obtain rfl : k = s.size := by omega
          have e : getR s.data.toList = ([], 0, false) := by
            have : getB s.data.toList = none := by
              rw [HG.out, List.drop_of_length_le (by simp)]
              cases f <;> rfl
            rw [getR, this]
          have E := Lib.hid e
          clear e
          go_wp2
          go_ret3
          exact ⟨by rw [E.out]; rfl, hbel⟩
    · have e : getR s.data.toList = ([], 0, false) := by rw [hr]; simp [getR, getB, h1]
      rw [e]
      obtain ⟨g1, g2⟩ := byte_ne c0 34 h1
      replace g1 : ((c0.toNat : Int) == 34) = false := g1
      replace g2 : ((c0.toNat : Int) != 34) = true := g2
      clear h1 hr h0
      go_enter Try.func68, Try.ntmps68
      go_wp2
      go_ret3
      exact ⟨rfl, Below.refl _ _⟩
end Go.Proofs.Ytimmfmgnjpcdoaa
