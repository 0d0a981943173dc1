/- What an entry is read as: the walk of Parse. -/
import Derived.Test.YtfamcebgcpaolaaGreatDoorEntRow
import Derived.Test.YtfamcebgcpaolaaGreatDoorEntPut
import Derived.Test.YtfamcebgcpaolaaGreatDoorSkip
import Derived.Test.YtfamcebgcpaolaaGreatDoorItems
namespace Go.Proofs.YtfamcebgcpaolaaGreatDoor
open Go.RowKit
set_option linter.unusedVariables false
set_option linter.unusedSimpArgs false

theorem results_row_tmp2 {P : Program} {fn : Func} {p u v : Tmp} {ty : TypeId} (h : fn.results = #[.cell p ty, .tmp u, .tmp v]) (tmps : Array Value) (w : World) (g : Nat) (t : TypeId) (cs : Array Value) (fr : Nat × Nat) (d : TypeDesc)
    (hp : tmps.getD p undef = .pointer (some ⟨g, 0, none⟩)) (hg : w.heap[g]? = some (.cells cs t fr))
    (hu : P.underlying ty = some d) (hd : (match d with | .struct _ | .array _ _ => true | _ => false) = true) (hi : (P.info? ty).map (·.size) = some cs.size) :
    (results fn tmps).run P w = .ok (.tuple #[.agg cs, tmps.getD u undef, tmps.getD v undef]) w := by
  have hp' : tmps[p]?.getD undef = .pointer (some ⟨g, 0, none⟩) := by simpa using hp
  simp only [results, h]
  simp [Sem.run_bind, hp', asAddr, run_loadVar_row w g t ty cs fr d hg hu hd hi, Result.andThen]

/-- what the call answers -/
def entV (x : EntX) (o : Option (EntB × Nat)) : Value := .tuple #[x.val, .int .i64 (((o.map (·.2)).getD 0 : Nat) : Int), .bool o.isSome]
def entOf (o : Option (EntB × Nat)) : EntB := (o.map (·.1)).getD xnil.b
theorem reader_not_pair : 79 ≠ 116 := by decide
theorem good_nil (B : Nat) (w : World) : Good B w xnil := ⟨⟨pairs_none w, fun h => absurd h (by decide)⟩, by decide, by decide, by decide⟩
theorem set_by {B : Nat} {w : World} {A : Option Addr} {n g i : Nat} {ls : List PairB} {t : TypeId} {cs : Array Value} (h : SetAt B w A n ls) (hb : Blk w g t cs) (ht : t ≠ 116) (hB : B ≤ g) (u : Value) : SetAt B (w.setCell ⟨g, i, none⟩ u) A n ls :=
  h.grown (r := some g) ⟨rfl, rfl, rfl, by simp, fun k hk hne => Below.heap_setCell w ⟨g, i, none⟩ u k (fun e => hne (by rw [e]))⟩ (fun b hb' => by injection hb' with hb'; subst hb'; exact ⟨hB, _, _, ht, hb⟩)
theorem set_kept {B : Nat} {w w' : World} {A : Option Addr} {n g : Nat} {ls : List PairB} {t : TypeId} {cs : Array Value} (h : SetAt B w A n ls) (hb : Blk w g t cs) (ht : t ≠ 116) (hB : B ≤ g) (hg : w.grownBy w' (some g)) : SetAt B w' A n ls :=
  h.grown hg (fun b hb' => by injection hb' with hb'; subst hb'; exact ⟨hB, _, _, ht, hb⟩)

set_option maxRecDepth 100000 in
set_option maxHeartbeats 1600000 in
theorem entParse_any (t : ByteArray) (hs : t.size ≤ 16000000) (W : World) (hl : LibIs W) :
    Calls Tryz.prog 58 #[.string t] W fun e w' => ∃ x : EntX, e = .returned (entV x (entP t)) ∧ x.b = entOf (entP t) ∧ Good 0 w' x ∧ Below W.heap.size W w' := by
  have h0 : W.heap.size ≤ W.heap.size := Nat.le_refl _
  have HOF := Lib.hid (fun w => of_any t w)
  obtain ⟨Z, hZ⟩ : ∃ Z, entP t = Z := ⟨_, rfl⟩
  rw [hZ]
  have HZ := Lib.hid hZ
  have HL := Lib.hid hl
  have hu := Tryz.underlying27
  have HU := Lib.hid hu
  clear hZ hl hu
  go_enter Tryz.func58, Tryz.ntmps58
  go_wp2_with fail
  obtain ⟨w0, hw0⟩ : ∃ w, W.alloc (.cells #[.int .i64 0, .slice none 0 0, .string ⟨#[]⟩] 27) = w := ⟨_, rfl⟩
  have B0 : Blk w0 W.heap.size 27 #[.int .i64 0, .slice none 0 0, .string ⟨#[]⟩] := by rw [← hw0]; exact Blk.new W _ _
  have hb0 : Below W.heap.size W w0 := by rw [← hw0]; exact (Below.refl _ _).alloc h0 _
  rw [hw0]
  clear hw0
  refine (HOF.out _).mono ?_
  rintro e w1 ⟨rfl, hx⟩
  have hb1 := hop hb0 h0 hx
  have B1 := B0.below hx B0.lt
  have hsz1 := hb1.size
  have hlt1 := B1.lt
  clear hx hb0 B0
  go_wp2_with fail
  obtain ⟨b, hb⟩ : ∃ b, w1.heap.size = b := ⟨_, rfl⟩
  obtain ⟨w2, hw2⟩ : ∃ w, w1.alloc (.cells #[.string t, .int .i64 0] 79) = w := ⟨_, rfl⟩
  have hR : Rd w2 b 79 #[.string t, .int .i64 0] t 0 := by
    rw [← hw2, ← hb]
    exact ⟨Blk.new w1 _ _, rfl, rfl, Nat.zero_le _, by omega⟩
  have hb2 : Below W.heap.size W w2 := by rw [← hw2]; exact hb1.alloc hsz1 _
  have B2 : Blk w2 W.heap.size 27 #[.int .i64 0, .slice none 0 0, .string ⟨#[]⟩] := by rw [← hw2]; exact B1.alloc _
  have hbW : W.heap.size ≤ b := by omega
  have hne : W.heap.size ≠ b := by omega
  have GB : ∀ (w w' : World), Below W.heap.size W w → w.grownBy w' (some b) → Below W.heap.size W w' := fun w w' h hg => h.grown hg h.size (fun r hr => by cases hr; exact hbW)
  have NB := number_any b _ _ t 0 w2 hR (HL.out.below hb2) (fun w hg => HL.out.below (GB _ _ hb2 hg)) (by omega)
  rw [hw2, hb]
  have HN := Lib.hid (show ∀ v, numR t 0 = some v → -9223372036854775808 ≤ v ∧ v ≤ 9223372036854775807 from fun v hv => ((parseZ_iff _ _).1 hv).1)
  have HE : entP t = entFrom t (numTo t 0) (numR t 0) := rfl
  rw [HZ.out] at HE
  have HLA := Lib.hid (fun n => show lineAt t n = numTo t 0 + min n (t.size - numTo t 0) from rfl)
  obtain ⟨k1, hk1⟩ : ∃ k, numTo t 0 = k := ⟨_, rfl⟩
  obtain ⟨o, ho⟩ : ∃ o, numR t 0 = o := ⟨_, rfl⟩
  rw [hk1, ho] at NB
  rw [hk1, ho] at HE
  replace HN := HN.out
  rw [ho] at HN
  replace HN := Lib.hid HN
  replace HLA := HLA.out
  simp only [hk1] at HLA
  replace HLA := Lib.hid HLA
  replace NB := Lib.hid NB
  have HEE := Lib.hid HE
  have HB2 := Lib.hid B2
  have HGB := Lib.hid GB
  have Hb2 := Lib.hid hb2
  clear hw2 hb hR hb1 B1 hk1 ho HE B2 GB hb2 HZ hlt1 hsz1
  refine NB.out.mono ?_
  rintro e w3 ⟨rfl, hR3, hg3⟩
  have hb3 := HGB.out _ _ Hb2.out hg3
  have B3 := HB2.out.kept hg3 hne
  obtain ⟨cs3, hcs3⟩ : ∃ c, (#[Value.string t, .int .i64 0].setIfInBounds 1 (.int .i64 (k1 : Nat))) = c := ⟨_, rfl⟩
  rw [hcs3] at hR3
  have q0 : w3.cell? ⟨W.heap.size, 0, none⟩ = some (.int .i64 0) := (B3.cell 0).trans rfl
  have q1 : w3.cell? ⟨W.heap.size, 1, none⟩ = some (.slice none 0 0) := (B3.cell 1).trans rfl
  have q2 : w3.cell? ⟨W.heap.size, 2, none⟩ = some (.string ⟨#[]⟩) := (B3.cell 2).trans rfl
  have f0 := B3.frozen 0
  have f1 := B3.frozen 1
  have f2 := B3.frozen 2
  have HB3 := Lib.hid B3
  have HR3 := Lib.hid hR3
  have Hb3 := Lib.hid hb3
  clear hcs3 hg3 B3 hR3 hb3 NB HB2 Hb2 HOF
  cases o with
  | none =>
    have E := Lib.hid (show Z = none from HEE.out)
    simp only [Option.getD_none, Option.isSome_none]
    go_wp2
    refine bodyPost_ret (results_row_tmp2 rfl _ _ W.heap.size 27 _ (0, 0) _ rfl ((((HB3.out.set_ 0 (.int .i64 0)).set_ 0 (.int .i64 0)).set_ 1 (.slice none 0 0)).set_ 2 (.string ⟨#[]⟩)) HU.out rfl (by kernel_rfl)) rfl ?_
    rw [E.out]
    exact ⟨xnil, rfl, rfl, good_nil _ _, (((Hb3.out.setCell (p := ⟨W.heap.size, 0, none⟩) (by simp) _).setCell (p := ⟨W.heap.size, 0, none⟩) (by simp) _).setCell (p := ⟨W.heap.size, 1, none⟩) (by simp) _).setCell (p := ⟨W.heap.size, 2, none⟩) (by simp) _⟩
  | some v =>
    obtain ⟨v0, v1⟩ := HN.out v rfl
    have HE2 := Lib.hid (show Z = entRest t v (parseL (t.extract k1 t.size)) from HEE.out)
    have hkt := HR3.out.le
    have HRS := Lib.hid (fun w h => rest_any b 79 cs3 t k1 w h)
    have HP := Lib.hid (fun w => parse_labels (t.extract k1 t.size) (by rw [ByteArray.size_extract]; omega) w)
    simp only [Option.getD_some, Option.isSome_some]
    clear HEE HN
    go_wp2_with fail
    have hR4 := HR3.out.far (p := ⟨W.heap.size, 0, none⟩) (fun h => hne h.symm) (.int .i64 v)
    have B4 := HB3.out.set_ 0 (.int .i64 v)
    have hb4 : Below W.heap.size W (w3.setCell ⟨W.heap.size, 0, none⟩ (.int .i64 v)) := Hb3.out.setCell (p := ⟨W.heap.size, 0, none⟩) (by simp) _
    obtain ⟨w4, hw4⟩ : ∃ w, w3.setCell ⟨W.heap.size, 0, none⟩ (.int .i64 v) = w := ⟨_, rfl⟩
    rw [hw4] at hR4 B4 hb4 ⊢
    clear hw4 q0 q1 q2 f0 f1 f2 HB3 HR3 Hb3
    refine (HRS.out _ hR4).mono ?_
    rintro e w5 ⟨rfl, q, rfl⟩
    have hR5 := hR4.drewN q
    have B5 := B4.drewN q
    have hb5 := below_drewN hb4 q
    obtain ⟨w5, hw5⟩ : ∃ w, w4.drewN q = w := ⟨_, rfl⟩
    rw [hw5] at hR5 B5 hb5 ⊢
    have hlt5 := hR5.lt
    clear hw5 hR4 B4 hb4
    have HRI := Lib.hid (fun x (h : parseL (t.extract k1 t.size) = some x) => parseL_right h)
    obtain ⟨s, hs⟩ : ∃ s, parseL (t.extract k1 t.size) = s := ⟨_, rfl⟩
    replace HRI := HRI.out
    simp only [hs] at HRI
    replace HRI := Lib.hid HRI
    replace HP := HP.out
    simp only [hs] at HP
    replace HP := Lib.hid HP
    replace HE2 := HE2.out
    rw [hs] at HE2
    replace HE2 := Lib.hid HE2
    clear hs
    go_wp2_with fail
    refine (HP.out _).mono ?_
    rintro e w6 ⟨vv, rfl, hown, hx⟩
    have hR6 := hR5.below hx hlt5
    have B6 := B5.below hx B5.lt
    have hb6 := hop hb5 h0 hx
    have hlt6 := hR6.lt
    obtain ⟨A, n, c, rfl, hn, hset⟩ := SetAt.ofP (B := 0) hown
    have q0 : w6.cell? ⟨W.heap.size, 0, none⟩ = some (.int .i64 v) := (B6.cell 0).trans rfl
    have q1 : w6.cell? ⟨W.heap.size, 1, none⟩ = some (.slice none 0 0) := (B6.cell 1).trans rfl
    have q2 : w6.cell? ⟨W.heap.size, 2, none⟩ = some (.string ⟨#[]⟩) := (B6.cell 2).trans rfl
    have f0 := B6.frozen 0
    have f1 := B6.frozen 1
    have f2 := B6.frozen 2
    have HB6 := Lib.hid B6
    have HR6 := Lib.hid hR6
    have Hb6 := Lib.hid hb6
    have HSET := Lib.hid hset
    have HNN := Lib.hid hn
    clear hx hR5 B5 hb5 hown B6 hR6 hb6 hset hn HP
    cases s with
    | none =>
      have E := Lib.hid (show Z = none from HE2.out)
      simp only [parseV, Option.map_none, Option.getD_none, Option.isSome_none]
      go_wp2
      refine bodyPost_ret (results_row_tmp2 rfl _ _ W.heap.size 27 _ (0, 0) _ rfl ((((HB6.out.set_ 1 (.slice A n c)).set_ 0 (.int .i64 0)).set_ 1 (.slice none 0 0)).set_ 2 (.string ⟨#[]⟩)) HU.out rfl (by kernel_rfl)) rfl ?_
      rw [E.out]
      exact ⟨xnil, rfl, rfl, good_nil _ _, (((Hb6.out.setCell (p := ⟨W.heap.size, 1, none⟩) (by simp) _).setCell (p := ⟨W.heap.size, 0, none⟩) (by simp) _).setCell (p := ⟨W.heap.size, 1, none⟩) (by simp) _).setCell (p := ⟨W.heap.size, 2, none⟩) (by simp) _⟩
    | some x =>
      obtain ⟨ps, m⟩ := x
      have HSET2 := Lib.hid (show SetAt 0 w6 A n ps from HSET.out)
      have HE3 := Lib.hid (show Z = lineP t v ps (lineAt t m) from HE2.out)
      have HNP := Lib.hid (show n = ps.length from HNN.out)
      simp only [parseV, Option.map_some, Option.getD_some, Option.isSome_some]
      have SK := Lib.hid (fun w h => skip_any b 79 cs3 t k1 m w h)
      clear HSET HE2 HNN
      go_wp2_with fail
      have hR7 := HR6.out.far (p := ⟨W.heap.size, 1, none⟩) (fun h => hne h.symm) (.slice A n c)
      have B7 := HB6.out.set_ 1 (.slice A n c)
      have hs7 := set_by (i := 1) HSET2.out HB6.out ent_not_pair (Nat.zero_le _) (.slice A n c)
      have hb7 : Below W.heap.size W (w6.setCell ⟨W.heap.size, 1, none⟩ (.slice A n c)) := Hb6.out.setCell (p := ⟨W.heap.size, 1, none⟩) (by simp) _
      obtain ⟨w7, hw7⟩ : ∃ w, w6.setCell ⟨W.heap.size, 1, none⟩ (.slice A n c) = w := ⟨_, rfl⟩
      rw [hw7] at hR7 B7 hb7 hs7 ⊢
      clear hw7 q0 q1 q2 f0 f1 f2 HB6 HR6 Hb6 HSET2
      refine (SK.out _ hR7).mono ?_
      rintro e w8 ⟨rfl, hR8, hg8⟩
      rw [← HLA.out] at hR8
      have B8 := B7.kept hg8 hne
      have hb8 := HGB.out _ _ hb7 hg8
      have hs8 := set_kept hs7 hR7.blk reader_not_pair (Nat.zero_le _) hg8
      obtain ⟨k2, hk2⟩ : ∃ k, lineAt t m = k := ⟨_, rfl⟩
      obtain ⟨cs8, hcs8⟩ : ∃ c, cs3.setIfInBounds 1 (.int .i64 (lineAt t m : Nat)) = c := ⟨_, rfl⟩
      rw [hcs8] at hR8
      rw [hk2] at hR8
      have HE4 := HE3.out
      rw [hk2] at HE4
      replace HE4 := Lib.hid HE4
      have QT := Lib.hid (quoted_any b 79 cs8 t k2 hs w8 hR8)
      clear hR7 B7 hs7 hb7 hg8 hk2 hcs8 HE3 SK
      go_wp2_with fail
      refine QT.out.mono ?_
      rintro e w9 ⟨rfl, hR9, hg9⟩
      have B9 := B8.kept hg9 hne
      have hb9 := HGB.out _ _ hb8 hg9
      have hs9 := set_kept hs8 hR8.blk reader_not_pair (Nat.zero_le _) hg9
      have HE5 := HE4.out
      unfold lineP at HE5
      obtain ⟨⟨l, j, ok⟩, hq⟩ : ∃ z, quoR t k2 = z := ⟨_, rfl⟩
      rw [hq] at hR9 HE5 ⊢
      dsimp only at hR9 HE5 ⊢
      have etx : (⟨l.toArray⟩ : ByteArray) = tx l := rfl
      rw [etx]
      obtain ⟨ln, hln⟩ : ∃ x, tx l = x := ⟨_, rfl⟩
      rw [hln] at HE5 ⊢
      obtain ⟨k3, hk3⟩ : ∃ k, k2 + j = k := ⟨_, rfl⟩
      rw [hk3] at hR9 HE5
      have q0 : w9.cell? ⟨W.heap.size, 0, none⟩ = some (.int .i64 v) := (B9.cell 0).trans rfl
      have q1 : w9.cell? ⟨W.heap.size, 1, none⟩ = some (.slice A n c) := (B9.cell 1).trans rfl
      have q2 : w9.cell? ⟨W.heap.size, 2, none⟩ = some (.string ⟨#[]⟩) := (B9.cell 2).trans rfl
      have f0 := B9.frozen 0
      have f1 := B9.frozen 1
      have f2 := B9.frozen 2
      have HB9 := Lib.hid B9
      have HR9 := Lib.hid hR9
      have Hb9 := Lib.hid hb9
      have HS9 := Lib.hid hs9
      have HE6 := Lib.hid HE5
      clear hR8 B8 hs8 hb8 hg9 hq etx hln hk3 HE4 HE5 QT B9 hR9 hb9 hs9
      cases ok with
      | false =>
        have E := Lib.hid (show Z = none from by have := HE6.out; rw [if_neg (by decide)] at this; exact this)
        go_wp2
        refine bodyPost_ret (results_row_tmp2 rfl _ _ W.heap.size 27 _ (0, 0) _ rfl ((((HB9.out.set_ 2 (.string ln)).set_ 0 (.int .i64 0)).set_ 1 (.slice none 0 0)).set_ 2 (.string ⟨#[]⟩)) HU.out rfl (by kernel_rfl)) rfl ?_
        rw [E.out]
        exact ⟨xnil, rfl, rfl, good_nil _ _, (((Hb9.out.setCell (p := ⟨W.heap.size, 2, none⟩) (by simp) _).setCell (p := ⟨W.heap.size, 0, none⟩) (by simp) _).setCell (p := ⟨W.heap.size, 1, none⟩) (by simp) _).setCell (p := ⟨W.heap.size, 2, none⟩) (by simp) _⟩
      | true =>
        have HE7 := Lib.hid (show Z = if rightE ⟨v, ps, ln⟩ = true then some (⟨v, ps, ln⟩, k3) else none from by have := HE6.out; rw [if_pos rfl] at this; exact this)
        have hlen : ps.length ≤ 9223372036854775807 := by
          have h1 := right_len (HRI.out _ rfl)
          dsimp only at h1
          omega
        have RT := Lib.hid (fun w (h : Pairs w A n ps) => entRight_any v A n c ps ln (by rw [HNP.out]; exact hlen) w h)
        clear HE6
        go_wp2_with fail
        have hR10 := HR9.out.far (p := ⟨W.heap.size, 2, none⟩) (fun h => hne h.symm) (.string ln)
        have B10 := HB9.out.set_ 2 (.string ln)
        have hs10 := set_by (i := 2) HS9.out HB9.out ent_not_pair (Nat.zero_le _) (.string ln)
        have hb10 : Below W.heap.size W (w9.setCell ⟨W.heap.size, 2, none⟩ (.string ln)) := Hb9.out.setCell (p := ⟨W.heap.size, 2, none⟩) (by simp) _
        obtain ⟨w10, hw10⟩ : ∃ w, w9.setCell ⟨W.heap.size, 2, none⟩ (.string ln) = w := ⟨_, rfl⟩
        rw [hw10] at hR10 B10 hb10 hs10 ⊢
        clear hw10 q0 q1 q2 f0 f1 f2 HB9 HR9 Hb9 HS9
        refine (RT.out _ hs10.1).mono ?_
        rintro e w11 ⟨rfl, hx⟩
        have hR11 := hR10.below hx hR10.lt
        have B11 := B10.below hx B10.lt
        have hb11 := hop hb10 h0 hx
        have hs11 := hs10.below hx
        have q0 : w11.cell? ⟨W.heap.size, 0, none⟩ = some (.int .i64 v) := (B11.cell 0).trans rfl
        have q1 : w11.cell? ⟨W.heap.size, 1, none⟩ = some (.slice A n c) := (B11.cell 1).trans rfl
        have q2 : w11.cell? ⟨W.heap.size, 2, none⟩ = some (.string ln) := (B11.cell 2).trans rfl
        have f0 := B11.frozen 0
        have f1 := B11.frozen 1
        have f2 := B11.frozen 2
        have HB11 := Lib.hid B11
        have HR11 := Lib.hid hR11
        have Hb11 := Lib.hid hb11
        have HS11 := Lib.hid hs11
        obtain ⟨rr, hrr⟩ : ∃ x, rightE ⟨v, ps, ln⟩ = x := ⟨_, rfl⟩
        replace HE7 := HE7.out
        rw [hrr] at HE7
        rw [hrr]
        replace HE7 := Lib.hid HE7
        clear hx hR10 B10 hb10 hs10 hrr hR11 B11 hb11 hs11 RT
        cases rr with
        | false =>
          have E := Lib.hid (show Z = none from by have := HE7.out; rw [if_neg (by decide)] at this; exact this)
          go_wp2
          refine bodyPost_ret (results_row_tmp2 rfl _ _ W.heap.size 27 _ (0, 0) _ rfl (((HB11.out.set_ 0 (.int .i64 0)).set_ 1 (.slice none 0 0)).set_ 2 (.string ⟨#[]⟩)) HU.out rfl (by kernel_rfl)) rfl ?_
          rw [E.out]
          exact ⟨xnil, rfl, rfl, good_nil _ _, ((Hb11.out.setCell (p := ⟨W.heap.size, 0, none⟩) (by simp) _).setCell (p := ⟨W.heap.size, 1, none⟩) (by simp) _).setCell (p := ⟨W.heap.size, 2, none⟩) (by simp) _⟩
        | true =>
          have E := Lib.hid (show Z = some (⟨v, ps, ln⟩, k3) from by have := HE7.out; rw [if_pos rfl] at this; exact this)
          have hv0 := Lib.hid v0
          have hv1 := Lib.hid v1
          have AT := Lib.hid (fun (w : World) (cs : Array Value) (h : Rd w b 79 cs t k3) => at_any b 79 cs t k3 w h)
          clear HE7 v0 v1
          have hR12 : Rd w11.drew b 79 _ t k3 := HR11.out.drewN 1
          have AT2 := Lib.hid (AT.out _ _ hR12)
          clear hR12 AT
          go_wp2
          go_region_with (go_at_call 79; refine AT2.out.mono ?_; rintro e w12 ⟨rfl, rfl⟩)
          all_goals
            go_wp2
            refine bodyPost_ret (results_row_tmp2 rfl _ _ W.heap.size 27 _ (0, 0) _ rfl ((((HB11.out.drewN 1).set_ 0 (.int .i64 v)).set_ 1 (.slice A n c)).set_ 2 (.string ln)) HU.out rfl (by kernel_rfl)) rfl ?_
            rw [E.out]
            refine ⟨⟨v, A, n, c, ps, ln⟩, rfl, rfl, ⟨?_, ?_, hv0.out, hv1.out⟩, ?_⟩
            · exact set_by (i := 2) (set_by (i := 1) (set_by (i := 0) (HS11.out.below (below_drewN (Below.refl _ _) 1)) (HB11.out.drewN 1) ent_not_pair (Nat.zero_le _) _) ((HB11.out.drewN 1).set_ 0 _) ent_not_pair (Nat.zero_le _) _) (((HB11.out.drewN 1).set_ 0 _).set_ 1 _) ent_not_pair (Nat.zero_le _) _
            · show n ≤ 9223372036854775807
              rw [HNP.out]; exact hlen
            · exact (((below_drewN Hb11.out 1).setCell (p := ⟨W.heap.size, 0, none⟩) (by simp) _).setCell (p := ⟨W.heap.size, 1, none⟩) (by simp) _).setCell (p := ⟨W.heap.size, 2, none⟩) (by simp) _
end Go.Proofs.YtfamcebgcpaolaaGreatDoor
