/- The document's own Join, Among and Cut: they answer as the program's do. -/
import Derived.Test.YthmbgnjbmkmajaaAmongLaw
import Derived.Test.YthmbgnjbmkmajaaCutMath
import Derived.Test.YthmbgnjbmkmajaaUpto
import Derived.Lib.Join
import Derived.Lib.Index
namespace Go.Proofs.Ythmbgnjbmkmajaa
open Go.RowKit
set_option linter.unusedVariables false

/-- the bytes of the first k joined -/
def joinT (sep : ByteArray) (ss : List ByteArray) : ByteArray := ⟨(joinB sep ss).toArray⟩
theorem joinT_data (sep : ByteArray) (ss : List ByteArray) : (joinT sep ss).data.toList = joinB sep ss := rfl
theorem joinT_first (sep : ByteArray) (ss : List ByteArray) (h : 0 < ss.length) : joinT sep (ss.take 1) = ss.getD 0 .empty := by
  match ss, h with
  | x :: r, _ => exact text_ext (by rw [joinT_data]; simp [joinB, Lib.join_one])
theorem joinT_snoc (sep : ByteArray) (ss : List ByteArray) (k : Nat) (h0 : 0 < k) (h : k < ss.length) : joinT sep (ss.take (k + 1)) = joinT sep (ss.take k) ++ sep ++ ss.getD k .empty := by
  match ss, k, h0, h with
  | x :: r, k + 1, _, h =>
    have h' : k < r.length := by simpa using h
    apply text_ext
    rw [text_app, text_app, joinT_data, joinT_data]
    simp only [joinB, List.take_succ_cons, List.map_cons, Lib.join_cons, List.map_take]
    rw [Lib.joinTail_take_succ sep.data.toList (r.map (·.data.toList)) k ((r.getD k .empty).data.toList) (by rw [List.getElem?_map, List.getD_eq_getElem?_getD, List.getElem?_eq_getElem h']; rfl)]
    simp
theorem joinT_size (sep : ByteArray) (ss : List ByteArray) : (joinT sep ss).size ≤ ss.length * sep.size + bulkT ss := by
  have e : (joinT sep ss).size = (joinB sep ss).length := put_size _
  rw [e, joinB]
  match ss with
  | [] => simp [Lib.join_nil]
  | x :: r =>
    rw [List.map_cons, Lib.join_cons, List.length_append, Lib.joinTail_length]
    have h : ∀ r : List ByteArray, Lib.lens (r.map (·.data.toList)) ≤ bulkT r := by
      intro r
      induction r with
      | nil => simp [Lib.lens, bulkT]
      | cons y r ih =>
        rw [bulkT_cons]
        simp only [Lib.lens, List.map_cons, List.sum_cons] at ih ⊢
        rw [size_toList]
        omega
    have hr := h r
    rw [bulkT_cons, size_toList, size_toList, List.length_map, List.length_cons, Nat.add_mul, Nat.mul_comm sep.size]
    omega
theorem bulkT_take (ss : List ByteArray) (k : Nat) : bulkT (ss.take k) ≤ bulkT ss := by
  induction ss generalizing k with
  | nil => simp
  | cons y r ih =>
    cases k with
    | zero => simp [bulkT]
    | succ k => rw [List.take_succ_cons, bulkT_cons, bulkT_cons]; have := ih k; omega
theorem joinT_take (sep : ByteArray) (ss : List ByteArray) (k : Nat) (hn : ss.length ≤ 1048576) (hs : sep.size ≤ 1048576) (hb : bulkT ss ≤ 1048576) : (joinT sep (ss.take k)).size ≤ 2199023255552 := by
  have h := joinT_size sep (ss.take k)
  have h2 := bulkT_take ss k
  have h3 : (ss.take k).length ≤ 1048576 := by rw [List.length_take]; omega
  have h4 : (ss.take k).length * sep.size ≤ 1048576 * 1048576 := Nat.mul_le_mul h3 hs
  omega

set_option maxHeartbeats 400000 in
theorem refJoin_any (sep : ByteArray) (A : Option Addr) (n c : Nat) (ss : List ByteArray) (hn : n ≤ 1048576) (hs : sep.size ≤ 1048576) (hb : bulkT ss ≤ 1048576) (W : World) (h : Texts W A n ss) :
    Calls Try.prog 19 #[.string sep, .slice A n c] W fun e w' => e = .returned (.string (joinT sep ss)) ∧ W = w' := by
  obtain ⟨hl, hA⟩ := h
  have HL := Lib.hid hl
  have HA := Lib.hid hA
  have HB := Lib.hid hb
  clear hl hA hb
  go_enter Try.func19, Try.ntmps19
  go_wp2
  go_loop [5, 6] (fun t i => ∃ k : Nat, k ≤ n ∧ i = .int .i64 k ∧ t = .string (joinT sep (ss.take k))) (fun _ i => n - (intOf i).toNat)
  case atStart => exact ⟨0, Nat.zero_le _, rfl, by rw [List.take_zero]; rfl⟩
  case round =>
    obtain ⟨k, hk, rfl, rfl⟩ := hrel
    by_cases hkn : k < n
    · obtain ⟨b, off, rfl, hlt, hc⟩ := HA.out (by omega)
      have c0 := hc k hkn
      have hz := joinT_take sep ss k (by rw [HL.out]; exact hn) hs HB.out
      have hmem : (ss.getD k .empty).size ≤ 1048576 := by
        have : ss.getD k .empty ∈ ss := by rw [List.getD_eq_getElem?_getD, List.getElem?_eq_getElem (by rw [HL.out]; exact hkn)]; exact List.getElem_mem _
        have := bulkT_mem this
        have := HB.out
        omega
      have h1 := fun h => joinT_snoc sep ss k h (by rw [HL.out]; exact hkn)
      have h0 := fun h => joinT_first sep ss (by rw [HL.out]; exact h)
      obtain ⟨x, hx⟩ : ∃ x, ss.getD k .empty = x := ⟨_, rfl⟩
      have H0 := Lib.hid h0
      have HX := Lib.hid hx
      rw [hx] at c0 h1 hmem
      obtain ⟨t, ht⟩ : ∃ t, joinT sep (ss.take k) = t := ⟨_, rfl⟩
      have H1 := Lib.hid h1
      have HT := Lib.hid ht
      rw [ht] at hz ⊢
      have g1 : t.size + sep.size ≤ 2199024304128 := by omega
      have g2 : t.size + sep.size + x.size ≤ 2199025352704 := by omega
      have g3 : t.size + x.size ≤ 2199025352704 := by omega
      clear hc h1 h0 hx ht
      by_cases hk0 : k = 0
      · subst hk0
        rw [Nat.add_zero] at c0
        go_wp2
        go_round
        case rel =>
          refine ⟨1, by omega, by go_num, ?_⟩
          have e : t = .empty := by rw [← HT.out, List.take_zero]; rfl
          rw [H0.out (by omega), HX.out, e]
          exact congrArg Value.string (text_ext (by rw [text_app]; simp))
        case measure => simp [intOf]; omega
      · have hk0' : (0 : Int) < (k : Int) := by omega
        go_wp2
        go_round
        case rel => exact ⟨k + 1, by omega, by go_num, by rw [H1.out (by omega), HT.out]⟩
        case measure => simp [intOf]; omega
    · obtain rfl : k = n := by omega
      rw [List.take_of_length_le (by rw [HL.out]; exact Nat.le_refl _)]
      go_wp2
      go_ret
      exact ⟨rfl, rfl⟩

set_option maxHeartbeats 400000 in
theorem refAmong_any (s : ByteArray) (A : Option Addr) (n c : Nat) (ss : List ByteArray) (hn : n ≤ 16777216) (W : World) (h : Texts W A n ss) :
    Calls Try.prog 21 #[.string s, .slice A n c] W fun e w' => e = .returned (.int .i64 (amongI s ss)) ∧ W = w' := by
  obtain ⟨hl, hA⟩ := h
  have HL := Lib.hid hl
  have HA := Lib.hid hA
  clear hl hA
  go_enter Try.func21, Try.ntmps21
  go_wp2
  go_loop [5] (fun i => ∃ k : Nat, k ≤ n ∧ i = .int .i64 k ∧ ∀ j, j < k → eqB (ss.getD j .empty) s = false) (fun i => n - (intOf i).toNat)
  case atStart => exact ⟨0, Nat.zero_le _, rfl, fun j hj => absurd hj (by omega)⟩
  case round =>
    obtain ⟨k, hk, rfl, hno⟩ := hrel
    have HN := Lib.hid hno
    clear hno
    by_cases hkn : k < n
    · obtain ⟨b, off, rfl, hlt, hc⟩ := HA.out (by omega)
      have c0 := hc k hkn
      obtain ⟨x, hx⟩ : ∃ x, ss.getD k .empty = x := ⟨_, rfl⟩
      have HX := Lib.hid hx
      rw [hx] at c0
      clear hc hx
      by_cases he : eqB x s = true
      · have e := among_at s ss k (by rw [HL.out]; exact hkn) (by rw [HX.out]; exact he) HN.out
        have E := Lib.hid e
        have he' : (x.toList == s.toList) = true := he
        clear he e
        go_wp2
        go_ret
        exact ⟨by rw [E.out]; rfl, rfl⟩
      · have hef : eqB x s = false := by simpa using he
        have HE := Lib.hid hef
        have he' : (x.toList == s.toList) = false := hef
        clear he hef
        go_wp2
        go_round
        case rel =>
          refine ⟨k + 1, by omega, by go_num, fun j hj => ?_⟩
          rcases Nat.lt_succ_iff_lt_or_eq.1 hj with h | rfl
          · exact HN.out j h
          · rw [HX.out]; exact HE.out
        case measure => simp [intOf]; omega
    · obtain rfl : k = n := by omega
      have e := among_no s ss (fun j hj => HN.out j (by rw [← HL.out]; exact hj))
      have E := Lib.hid e
      clear e
      go_wp2
      go_ret
      exact ⟨by rw [E.out]; rfl, rfl⟩
end Go.Proofs.Ythmbgnjbmkmajaa
