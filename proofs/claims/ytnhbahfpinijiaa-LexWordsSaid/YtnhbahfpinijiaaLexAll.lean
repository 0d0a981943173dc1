/- All words of a query. -/
import Derived.Test.YtnhbahfpinijiaaLexWord
namespace Go.Proofs.Ytnhbahfpinijiaa
open Go.RowKit
set_option linter.unusedVariables false

def tokV (p : TokB) : List Value := [.int .i64 p.kind, .string p.text, .int .i64 (p.at_ : Int)]
theorem tokV_len (p : TokB) : (tokV p).length = 3 := rfl
theorem tokV_one (p : TokB) : ∀ v ∈ tokV p, v.oneCell' = true := by
  intro v hv
  simp only [tokV, List.mem_cons, List.not_mem_nil, or_false] at hv
  rcases hv with rfl | rfl | rfl <;> rfl
theorem infoTok : (Try.prog.info? 33).map (fun i => (i.zero, i.size, i.bytes)) = some (some (.agg #[.int .i64 0, .string ⟨#[]⟩, .int .i64 0]), 3, 32) := by kernel_rfl
/-- the words, where no space stands next -/
def lexAt (f : Nat) (l : List UInt8) (k : Nat) (acc : List TokB) : List TokB × Nat × Int :=
  if l = [] then (acc, k, 0) else if (wordL l).1 = 0 then ([], k, 2)
  else lexGo f (l.drop (wordL l).2.2) (k + (wordL l).2.2) (acc ++ [⟨(wordL l).1, (wordL l).2.1, k⟩])
theorem lexGo_at (f : Nat) (l : List UInt8) (k : Nat) (acc : List TokB) : lexGo (f + 1) l k acc = lexAt f (l.drop (spaces l)) (k + spaces l) acc := by
  rw [lexGo_succ]
  rfl
def lexV (v : Value) (z : List TokB × Nat × Int) : Value := .tuple #[v, .int .i64 (z.2.1 : Int), .int .i64 z.2.2]

set_option maxRecDepth 100000 in
set_option maxHeartbeats 800000 in
theorem all_any (t : ByteArray) (W : World) :
    Calls Try.prog 10 #[.string t] W fun e w' => ∃ v, e = .returned (lexV v (lexL t.data.toList)) ∧ OwnR tokV 3 w' W.heap.size 33 v (lexL t.data.toList).1 ∧ Below W.heap.size W w' := by
  have h0 : W.heap.size ≤ W.heap.size := Nat.le_refl _
  obtain ⟨i0, hi, hz0, hz1, hz2⟩ := info_parts infoTok
  by_cases hbig : 1024 < t.size
  · have E : lexL t.data.toList = ([], 1024, 4) := by unfold lexL; rw [if_pos (by rw [size_toList]; exact hbig)]
    rw [E]
    have hI : (1024 : Int) < (t.size : Int) := by omega
    clear E
    go_enter Try.func10, Try.ntmps10
    go_wp2
    go_ret3
    exact ⟨_, rfl, OwnR.nil _ _ _, Below.refl _ _⟩
  · have hs : t.size ≤ 16000000 := by omega
    have E : lexL t.data.toList = lexGo (t.size + 1) (atL t 0) 0 [] := by
      unfold lexL
      rw [if_neg (by rw [size_toList]; exact hbig), size_toList, show atL t 0 = t.data.toList from List.drop_zero]
    have hI : ¬ (1024 : Int) < (t.size : Int) := by omega
    rw [lexGo_at] at E
    obtain ⟨Z, hZ⟩ : ∃ Z, lexL t.data.toList = Z := ⟨_, rfl⟩
    rw [hZ] at E ⊢
    rw [← at_drop_add, Nat.zero_add] at E
    have HE := Lib.hid E.symm
    have HOF := Lib.hid (fun w => of_any t w)
    clear E hZ
    go_enter Try.func10, Try.ntmps10
    go_wp2_with fail
    refine (HOF.out _).mono ?_
    rintro e w1 ⟨rfl, hb1⟩
    go_wp2_with fail
    have hsz1 := hb1.size
    obtain ⟨b, hb⟩ : ∃ b, w1.heap.size = b := ⟨_, rfl⟩
    obtain ⟨w2, hw2⟩ : ∃ w, w1.alloc (.cells #[.string t, .int .i64 0] 46) = w := ⟨_, rfl⟩
    have hR : RdX w2 b 46 t 0 := by
      rw [← hw2, ← hb]
      exact ⟨_, Blk.new w1 _ _, rfl, rfl, Nat.zero_le _, by omega⟩
    have hb2 : Below W.heap.size W w2 := by rw [← hw2]; exact hb1.alloc hsz1 _
    have hbW : W.heap.size ≤ b := by omega
    have GB : ∀ (w w' : World), Below W.heap.size W w → w.grownBy w' (some b) → Below W.heap.size W w' := fun w w' h hg => h.grown hg h.size (fun r hr => by cases hr; exact hbW)
    have SP := Lib.hid (spaces_any b 46 t 0 w2 hR)
    rw [hw2, hb]
    clear hw2 hb hR hb1
    refine SP.out.mono ?_
    rintro e w3 ⟨rfl, hR3, hg3⟩
    rw [Nat.zero_add] at hR3
    have hb3 := GB _ _ hb2 hg3
    have HR3 := Lib.hid hR3
    have HGB := Lib.hid GB
    have HB3 := Lib.hid hb3
    clear hR3 hg3 SP hb2 GB hb3
    go_wp2
    go_loopw [2] (fun lv wr => ∃ (acc : List TokB) (k f : Nat), Hid (lexAt f (atL t k) k acc = Z) ∧ t.size < f + k + 1 ∧ acc.length ≤ k ∧ OwnR tokV 3 wr (b + 1) 33 lv acc ∧ RdX wr b 46 t k ∧ Below W.heap.size W wr) (fun _ wr => t.size + 1 - (intOf ((wr.cell? ⟨b, 1, none⟩).getD undef)).toNat)
    case atStart => exact ⟨[], _, t.size, HE, by omega, Nat.zero_le _, OwnR.nil _ _ _, HR3.out, HB3.out⟩
    case round =>
      obtain ⟨acc, k, f, HZ, hf, hak, hown, hR, hb⟩ := hrel
      have hkt := hR.le
      have hsz := hb.size
      have HDN : ∀ z, ((k : Int) == (t.size : Int)) = z → Calls Try.prog 17 #[.pointer (some ⟨b, 0, none⟩)] wr fun e w' => e = .returned (.bool z) ∧ ∃ q, w' = wr.drewN q := fun z hz => by
        obtain ⟨cs, hR⟩ := hR
        rw [← hz]
        exact done_any b _ cs t k wr hR
      by_cases hk : k < t.size
      · have DN := HDN false (by rw [beq_eq_false_iff_ne]; omega)
        have hne : atL t k ≠ [] := by rw [at_cons t k hk]; simp
        have hT := HZ.out
        unfold lexAt at hT
        rw [if_neg hne] at hT
        have hws := word_some (atL t k)
        rw [at_len] at hws
        have WD := fun w h => word_any b 46 t k hs w h
        obtain ⟨⟨kd, tx0, n⟩, hx⟩ : ∃ x, wordL (atL t k) = x := ⟨_, rfl⟩
        simp only [hx] at hT hws WD
        obtain ⟨w1, w2', w3', w4⟩ := hws
        have HC : Hid (wr.cell? ⟨b, 1, none⟩ = some (.int .i64 (k : Int))) := Lib.hid (by obtain ⟨cs, hR⟩ := hR; exact hR.pos)
        have DNH := Lib.hid DN
        have WDH := Lib.hid WD
        have HOW := Lib.hid hown
        have HR := Lib.hid hR
        have HB := Lib.hid hb
        have HT := Lib.hid hT
        have AT := Lib.hid (fun w (h : RdX w b 46 t k) => show Calls Try.prog 18 #[.pointer (some ⟨b, 0, none⟩)] w fun e w' => e = .returned (.int .i64 (k : Int)) ∧ w' = w by obtain ⟨cs, h⟩ := h; exact at_any b _ cs t k w h)
        clear HDN DN hne hT WD hx hown hR hb HZ
        by_cases h0k : kd = 0
        · have hq : (kd == 0) = true := by simpa using h0k
          have E := Lib.hid (show ([], k, 2) = Z from by have := HT.out; rwa [if_pos h0k] at this)
          clear h0k HT w2'
          go_wp2_with fail
          refine DNH.out.mono ?_
          rintro e w4 ⟨rfl, q, rfl⟩
          go_wp2_with fail
          refine (AT.out _ (HR.out.drewN q)).mono ?_
          rintro e w5 ⟨rfl, rfl⟩
          go_wp2_with fail
          refine (WDH.out _ (HR.out.drewN q)).mono ?_
          rintro e w6 ⟨rfl, hR6, hg6⟩
          have hb6 := HGB.out _ _ (below_drewN HB.out q) hg6
          clear hR6 hg6
          go_wp2
          go_ret3
          exact ⟨_, by rw [← E.out]; rfl, by rw [← E.out]; exact OwnR.nil _ _ _, hb6⟩
        · have hq : (kd == 0) = false := by simpa using h0k
          have E := Lib.hid (show lexGo f ((atL t k).drop n) (k + n) (acc ++ [⟨kd, tx0, k⟩]) = Z from by have := HT.out; rwa [if_neg h0k] at this)
          have hn1 := w2' h0k
          obtain ⟨f, rfl⟩ : ∃ g, f = g + 1 := ⟨f - 1, by omega⟩
          have E2 := Lib.hid (show lexAt f (atL t (k + n + spaces (atL t (k + n)))) (k + n + spaces (atL t (k + n))) (acc ++ [⟨kd, tx0, k⟩]) = Z from by
            have := E.out
            rw [← at_drop_add, lexGo_at, ← at_drop_add] at this
            exact this)
          have SP := Lib.hid (fun w h => spaces_any b 46 t (k + n) w h)
          have HS : Hid (spaces (atL t (k + n)) ≤ t.size) := Lib.hid (by
            have h1 : spaces (atL t (k + n)) ≤ _ := takeWhile_le (goodK [3]) (atL t (k + n))
            rw [at_len] at h1
            omega)
          clear h0k HT E w2'
          go_wp2_with fail
          refine DNH.out.mono ?_
          rintro e w4 ⟨rfl, q, rfl⟩
          go_wp2_with fail
          refine (AT.out _ (HR.out.drewN q)).mono ?_
          rintro e w5 ⟨rfl, rfl⟩
          go_wp2_with fail
          refine (WDH.out _ (HR.out.drewN q)).mono ?_
          rintro e w6 ⟨rfl, hR6, hg6⟩
          have hb6 := HGB.out _ _ (below_drewN HB.out q) hg6
          have ho6 := OwnR.kept (HOW.out.drewN q) hg6 (fun r hr => by injection hr with hr; omega)
          have HR6 := Lib.hid hR6
          have hs6 := hb6.size
          have hbs : b + 1 ≤ w6.heap.size := by have := hR6.lt; omega
          have hnb : w6.heap.size ≠ b := by have := hR6.lt; omega
          clear hR6 hg6
          go_wp2_with (at_builtin; refine wpList_append_own _ rfl (.tmp 29) (.tmp 34) 25 rfl (b + 1) 33 i0 (.agg #[.int .i64 0, .string ⟨#[]⟩, .int .i64 0]) 3 32 Try.underlying25 hi hz0 hz1 hz2 rfl (by decide) _ _ _ rfl (ho6.alloc _) ⟨w6.heap.size, 0, none⟩ 1 1 (tokV ⟨kd, tx0, k⟩) rfl rfl (new_cells_at _ _ _ _ (by simp)) (tokV_one _) (by unfold maxLen; omega) (by omega) (by simp; omega) ?_)
          intro v' w7 hown' hgrow _
          have hb7 := (hb6.alloc hs6 _).grown hgrow (by simp; omega) (fun r hr => Nat.le_trans (by omega) (World.ownsRow.lt ho6 r hr).1)
          have hown7 := OwnR.snoc (a := (⟨kd, tx0, k⟩ : TokB)) hown'
          have hrow : ∀ r, Value.ownBlock _ = some r → b + 1 ≤ r := fun r hr => (World.ownsRow.lt ho6 r hr).1
          have hR7 : RdX w7 b 46 t (k + n) := by
            obtain ⟨cs, h⟩ := HR6.out
            exact ⟨cs, ⟨Blk.stays (h.alloc _).blk hgrow (fun e => by have := hrow b e; omega), h.c0, h.c1, h.le, h.sz⟩⟩
          have HR7 := Lib.hid hR7
          have HO7 := Lib.hid hown7
          have HB7 := Lib.hid hb7
          clear hown' hgrow hR7 hown7 hb7 hb6 ho6 hrow
          go_wp2_with fail
          refine (SP.out _ HR7.out).mono ?_
          rintro e w8 ⟨rfl, hR8, hg8⟩
          have HB8 := Lib.hid (HGB.out _ _ HB7.out hg8)
          have HO8 := Lib.hid (OwnR.kept HO7.out hg8 (fun r hr => by injection hr with hr; omega))
          have HR8 := Lib.hid hR8
          clear hR8 hg8 HR7 HO7 HB7
          go_wp2
          go_round
          case rel => exact ⟨_, _, f, E2, by omega, by rw [List.length_append, List.length_singleton]; omega, HO8.out, HR8.out, HB8.out⟩
          case measure =>
            obtain ⟨cs8, h8⟩ := HR8.out
            have := HS.out
            rw [h8.pos, HC.out]
            simp [intOf]
            omega
      · obtain rfl : k = t.size := by omega
        have DN := Lib.hid (HDN true (by simp))
        have E := Lib.hid (show (acc, t.size, (0 : Int)) = Z from by have := HZ.out; unfold lexAt at this; rw [if_pos (at_end t t.size (Nat.le_refl _))] at this; exact this)
        have HOW := Lib.hid (hown.mono (show W.heap.size ≤ b + 1 by omega))
        have HB := Lib.hid hb
        clear HDN hown hR hb HZ
        go_wp2_with fail
        refine DN.out.mono ?_
        rintro e w4 ⟨rfl, q, rfl⟩
        go_wp2
        go_ret3
        exact ⟨_, by rw [← E.out]; rfl, by rw [← E.out]; exact HOW.out.drewN q, below_drewN HB.out q⟩
end Go.Proofs.Ytnhbahfpinijiaa
