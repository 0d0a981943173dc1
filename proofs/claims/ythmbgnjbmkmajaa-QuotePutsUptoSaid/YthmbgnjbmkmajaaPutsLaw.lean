/- The walk of the law QuotePuts: any text is put in quotes, and any text begins with the text, or none, that the document says. -/
import Derived.Test.YthmbgnjbmkmajaaBend
namespace Go.Proofs.Ythmbgnjbmkmajaa
open Go.RowKit
set_option linter.unusedVariables false

set_option maxRecDepth 100000 in
set_option maxHeartbeats 1000000 in
theorem puts_some (s t : ByteArray) (own at_ by_ : Int) (hs : s.size ≤ 1048576) (ht : t.size ≤ 1048576) (ho0 : 0 ≤ own) (ho1 : own ≤ 255) (h1 : -9223372036854775808 ≤ at_) (h2 : at_ ≤ 9223372036854775807) (h3 : 0 ≤ by_) (h4 : by_ ≤ 255) (W : World) (hm : MaxIs W) :
    Calls Try.prog 3 #[.string s, .string t, .int .u8 own, .int .i64 at_, .int .u8 by_] W fun e w' => e = .returned (.bool true) ∧ Below W.heap.size W w' := by
  have hput := fun w => put_any s (by omega) w
  have hput2 := fun w => refPut_any s (by omega) w
  have hps : (⟨(putB s.data.toList).toArray⟩ : ByteArray).size ≤ 4194306 := by
    have := (put_len s.data.toList).2
    rw [size_toList] at this
    rw [put_size]
    omega
  obtain ⟨p, hp⟩ : ∃ p : ByteArray, p = ⟨(putB s.data.toList).toArray⟩ := ⟨_, rfl⟩
  simp only [← hp] at hput hput2
  rw [← hp] at hps
  have hget := fun (x : ByteArray) (hx : x.size ≤ 16000000) w => get_any x hx w
  have hget2 := fun (x : ByteArray) (hx : x.size ≤ 16000000) w => refGet_any x hx w
  have hbend := fun (x : ByteArray) (hx : x.size ≤ 16000000) w => bend_any x hx at_ by_ h1 h2 h3 h4 w
  have P1 := Lib.hid hput
  have P2 := Lib.hid hput2
  have G := Lib.hid hget
  have G2 := Lib.hid hget2
  have B := Lib.hid hbend
  have g1 : p.size + t.size ≤ 16000000 := by omega
  have hcase : own % 4 = 0 ∨ own % 4 = 1 ∨ own % 4 = 2 ∨ own % 4 = 3 := by omega
  clear hput hput2 hget hget2 hbend hp
  go_enter Try.func3, Try.ntmps3
  go_wp2_with fail
  refine (examples_any _ hm).mono ?_
  rintro e w1 ⟨rfl, hb1⟩
  go_wp2_with fail
  refine (P2.out _).mono ?_
  rintro e w2 ⟨rfl, hb2⟩
  have hb := hb1.trans (hb2.mono hb1.size)
  clear hb1 hb2
  have tail : ∀ (w : World), Below W.heap.size W w → ∀ w', Below w.heap.size w w' → Below W.heap.size W w' := fun w h w' h' => h.trans (h'.mono h.size)
  have T := Lib.hid tail
  clear tail
  have hx0 : t.size ≤ 16000000 := by omega
  have hx1 : (p ++ t).size ≤ 16000000 := by rw [ByteArray.size_append]; exact g1
  have hx2 : p.size ≤ 16000000 := by omega
  have X1 := Lib.hid hx1
  clear hx1
  rcases hcase with c | c | c | c
  · go_wp2_with fail
    refine (G.out _ (by first | assumption | exact X1.out) _).mono ?_
    rintro e w3 ⟨rfl, hb3⟩
    have hb4 := T.out _ hb _ hb3
    clear hb hb3
    go_wp2_with fail
    refine (G2.out _ (by first | assumption | exact X1.out) _).mono ?_
    rintro e w5 ⟨rfl, hb5⟩
    have hb6 := T.out _ hb4 _ hb5
    clear hb4 hb5
    go_wp2_with fail
    refine (P1.out _).mono ?_
    rintro e w7 ⟨rfl, hb7⟩
    have hb8 := T.out _ hb6 _ hb7
    clear hb6 hb7
    go_wp2
    go_ret
    exact ⟨rfl, hb8⟩
  · go_wp2_with fail
    refine (G.out _ (by first | assumption | exact X1.out) _).mono ?_
    rintro e w3 ⟨rfl, hb3⟩
    have hb4 := T.out _ hb _ hb3
    clear hb hb3
    go_wp2_with fail
    refine (G2.out _ (by first | assumption | exact X1.out) _).mono ?_
    rintro e w5 ⟨rfl, hb5⟩
    have hb6 := T.out _ hb4 _ hb5
    clear hb4 hb5
    go_wp2_with fail
    refine (P1.out _).mono ?_
    rintro e w7 ⟨rfl, hb7⟩
    have hb8 := T.out _ hb6 _ hb7
    clear hb6 hb7
    go_wp2
    go_ret
    exact ⟨rfl, hb8⟩
  · go_wp2_with fail
    refine (B.out _ (by first | assumption | exact X1.out) _).mono ?_
    rintro e w3 ⟨x, hx, rfl, hb3⟩
    replace hb := T.out _ hb _ hb3
    have hx5 : x.size ≤ 16000000 := by rw [hx]; first | assumption | exact X1.out
    clear hb3 hx
    go_wp2_with fail
    refine (G.out _ (by first | assumption | exact X1.out) _).mono ?_
    rintro e w3 ⟨rfl, hb3⟩
    have hb4 := T.out _ hb _ hb3
    clear hb hb3
    go_wp2_with fail
    refine (G2.out _ (by first | assumption | exact X1.out) _).mono ?_
    rintro e w5 ⟨rfl, hb5⟩
    have hb6 := T.out _ hb4 _ hb5
    clear hb4 hb5
    go_wp2_with fail
    refine (P1.out _).mono ?_
    rintro e w7 ⟨rfl, hb7⟩
    have hb8 := T.out _ hb6 _ hb7
    clear hb6 hb7
    go_wp2
    go_ret
    exact ⟨rfl, hb8⟩
  · go_wp2_with fail
    refine (B.out _ (by first | assumption | exact X1.out) _).mono ?_
    rintro e w3 ⟨x, hx, rfl, hb3⟩
    replace hb := T.out _ hb _ hb3
    have hx5 : x.size ≤ 16000000 := by rw [hx]; first | assumption | exact X1.out
    clear hb3 hx
    go_wp2_with fail
    refine (G.out _ (by first | assumption | exact X1.out) _).mono ?_
    rintro e w3 ⟨rfl, hb3⟩
    have hb4 := T.out _ hb _ hb3
    clear hb hb3
    go_wp2_with fail
    refine (G2.out _ (by first | assumption | exact X1.out) _).mono ?_
    rintro e w5 ⟨rfl, hb5⟩
    have hb6 := T.out _ hb4 _ hb5
    clear hb4 hb5
    go_wp2_with fail
    refine (P1.out _).mono ?_
    rintro e w7 ⟨rfl, hb7⟩
    have hb8 := T.out _ hb6 _ hb7
    clear hb6 hb7
    go_wp2
    go_ret
    exact ⟨rfl, hb8⟩

theorem puts_walk (W : World) (s t : ByteArray) (own at_ by_ : Int) (hs : s.size ≤ 1048576) (ht : t.size ≤ 1048576) (ho : (Lit.int .u8 own).wf = true) (ha : (Lit.int .i64 at_).wf = true) (hb : (Lit.int .u8 by_).wf = true) (hm : MaxIs W) :
    Calls Try.prog 3 #[.string s, .string t, .int .u8 own, .int .i64 at_, .int .u8 by_] W fun e w' => e = .returned (.bool true) ∧ Below W.heap.size W w' :=
  puts_some s t own at_ by_ hs ht (bdu8 ho).1 (bdu8 ho).2 (bdi64 ha).1 (bdi64 ha).2 (bdu8 hb).1 (bdu8 hb).2 W hm
end Go.Proofs.Ythmbgnjbmkmajaa
