-- shaken
import Derived.Test.YtbkpoimaienhpaaGreatDoorRexCat
namespace Go.Proofs.YtbkpoimaienhpaaGreatDoor
open Go.RowKit
set_option linter.unusedVariables false
set_option linter.unusedSimpArgs false
theorem dec_one : ∀ n, n < 256 → isDig (UInt8.ofNat n) = true → (itoaS ((n - 48 : Nat) : Int)).data.toList = [UInt8.ofNat n] ∧ n - 48 ≤ 20 := by decide +kernel
theorem dec_ten : ∀ n, n < 256 → isDig (UInt8.ofNat n) = true → (itoaS ((10 + (n - 48) : Nat) : Int)).data.toList = [49, UInt8.ofNat n] ∧ 10 + (n - 48) ≤ 20 := by decide +kernel
theorem dec_twenty : (itoaS ((20 : Nat) : Int)).data.toList = [50, 48] := by decide +kernel
theorem dec_all : ∀ m : Nat, m < 21 → decP (itoaS (m : Int)).data.toList = some m := by decide +kernel
theorem decP_one (a : UInt8) : decP [a] = if isDig a then some (a.toNat - 48) else none := rfl
theorem decP_two (a b : UInt8) : decP [a, b] = if a = 49 ∧ isDig b then some (10 + (b.toNat - 48)) else if a = 50 ∧ b = 48 then some 20 else none := rfl
theorem decP_to {d : List UInt8} {m : Nat} (h : decP d = some m) : m ≤ 20 ∧ (itoaS (m : Int)).data.toList = d := by
  match d with
  | [] => cases h
  | [a] =>
    rw [decP_one] at h
    by_cases ha : isDig a = true
    · rw [if_pos ha] at h
      cases h
      have := dec_one a.toNat a.toNat_lt (by rw [UInt8.ofNat_toNat]; exact ha)
      rw [UInt8.ofNat_toNat] at this
      exact ⟨this.2, this.1⟩
    · rw [if_neg ha] at h
      cases h
  | [a, b] =>
    rw [decP_two] at h
    by_cases ha : a = 49 ∧ isDig b = true
    · rw [if_pos ha] at h
      obtain ⟨rfl, hb⟩ := ha
      cases h
      have := dec_ten b.toNat b.toNat_lt (by rw [UInt8.ofNat_toNat]; exact hb)
      rw [UInt8.ofNat_toNat] at this
      exact ⟨this.2, this.1⟩
    · rw [if_neg ha] at h
      by_cases hb : a = 50 ∧ b = 48
      · rw [if_pos hb] at h
        obtain ⟨rfl, rfl⟩ := hb
        cases h
        exact ⟨by decide, dec_twenty⟩
      · rw [if_neg hb] at h
        cases h
  | a :: b :: c :: q => cases h
theorem decP_of {d : List UInt8} {m : Nat} (hm : m ≤ 20) (h : (itoaS (m : Int)).data.toList = d) : decP d = some m := by
  rw [← h]
  exact dec_all m (by omega)
theorem goodK_dig (c : UInt8) : goodK [0] c = isDig c := by
  unfold goodK isDig
  simp [kindB]
def CountPost (x : Option (Nat × List UInt8)) (t : ByteArray) (n : Int) (ok : Bool) (k : Nat) : Prop :=
  match x with
  | none => ok = false
  | some (m, r) => ok = true ∧ n = (m : Int) ∧ atL t k = r ∧ m ≤ 20
theorem goodK_fun : goodK [0] = isDig := funext goodK_dig
theorem numR_plain (t : ByteArray) (k : Nat) (h : ∀ q, atL t k ≠ 45 :: q) : numR t k = parseZ (tx ((atL t k).takeWhile isDig)) ∧ numEnd t k = k + ((atL t k).takeWhile isDig).length := by
  have hT : takeTo t k [minus] = k := by
    refine takeTo_none ?_
    rw [takeR_at, List.find?_cons, List.find?_nil, show minus.data.toList = [45] from rfl, head_no 45 _ h]
  have e : numEnd t k = runTo isDig t k := by
    unfold numEnd
    rw [hT, goodK_fun]
  unfold numR
  rw [e, run_tx, run_at]
  exact ⟨rfl, rfl⟩
theorem itoa_minus : ∀ m : Nat, m < 21 → (itoaS (m : Int)).data.toList.head? ≠ some 45 := by decide +kernel
theorem numR_minus (t : ByteArray) (k : Nat) (q : List UInt8) (h : atL t k = 45 :: q) (v : Int) (hv : numR t k = some v) : ¬ (0 ≤ v ∧ v ≤ 20) := by
  rintro ⟨h0, h20⟩
  obtain ⟨m, rfl⟩ : ∃ m : Nat, v = (m : Int) := ⟨v.toNat, by omega⟩
  unfold numR at hv
  have h2 := ((parseZ_iff _ _).1 hv).2
  have hT : takeTo t k [minus] = k + 1 := by
    have : takeR t k [minus] = some minus := by
      rw [takeR_at, List.find?_cons, h]
      rfl
    rw [takeTo_some this]
    rfl
  have hge : k + 1 ≤ numEnd t k := by
    unfold numEnd
    rw [hT, run_at]
    omega
  have hl : (t.extract k (numEnd t k)).data.toList.head? = some 45 := by
    rw [mid_list]
    have h3 : (t.data.toList.take (numEnd t k)).drop k = ((t.data.toList.drop k).take (numEnd t k - k)) := by rw [List.drop_take]
    rw [h3, show t.data.toList.drop k = 45 :: q from h]
    obtain ⟨p, hp⟩ : ∃ p, numEnd t k - k = p + 1 := ⟨numEnd t k - k - 1, by omega⟩
    rw [hp]
    rfl
  rw [h2] at hl
  exact itoa_minus m (by omega) hl
theorem countP_is (t : ByteArray) (k : Nat) : (∃ m : Nat, m ≤ 20 ∧ numR t k = some (m : Int) ∧ countP (atL t k) = some (m, atL t (numTo t k))) ∨ (countP (atL t k) = none ∧ ∀ v, numR t k = some v → ¬ (0 ≤ v ∧ v ≤ 20)) := by
  by_cases hm : ∃ q, atL t k = 45 :: q
  · right
    obtain ⟨q, hq⟩ := hm
    refine ⟨?_, numR_minus t k q hq⟩
    rw [hq]
    rfl
  · have hn : ∀ q, atL t k ≠ 45 :: q := fun q e => hm ⟨q, e⟩
    obtain ⟨h1, h2⟩ := numR_plain t k hn
    cases hd : decP ((atL t k).takeWhile isDig) with
    | none =>
      right
      refine ⟨by unfold countP; rw [hd], fun v hv hh => ?_⟩
      obtain ⟨m, rfl⟩ : ∃ m : Nat, v = (m : Int) := ⟨v.toNat, by omega⟩
      rw [h1] at hv
      have h3 := ((parseZ_iff _ _).1 hv).2
      have h4 := decP_of (d := (atL t k).takeWhile isDig) (m := m) (by omega) (by rw [← h3, tx_list])
      rw [hd] at h4
      cases h4
    | some m =>
      left
      obtain ⟨hm20, hdd⟩ := decP_to hd
      have h3 : numR t k = some (m : Int) := by
        rw [h1, parseZ_iff]
        refine ⟨⟨by omega, by omega⟩, ?_⟩
        rw [← hdd]
        rfl
      refine ⟨m, hm20, h3, ?_⟩
      have h4 : numTo t k = numEnd t k := by
        unfold numTo
        have : parseZ (t.extract k (numEnd t k)) = some (m : Int) := h3
        rw [this]
        rfl
      unfold countP
      rw [hd, h4, h2, at_drop_add]
      have h5 : (atL t k).dropWhile isDig = (atL t k).drop ((atL t k).takeWhile isDig).length := by
        have := List.takeWhile_append_dropWhile (p := isDig) (l := atL t k)
        have h6 := congrArg (List.drop ((atL t k).takeWhile isDig).length) this
        rw [List.drop_left] at h6
        exact h6
      rw [h5]
set_option maxHeartbeats 1600000 in
theorem count_any (b : Nat) (t : ByteArray) (k o : Nat) (f : Bool) (e0 : Int) (W : World) (h : Ps W b t k o f e0) (hl : LibF W b) :
    Calls Tryz.prog 146 #[.pointer (some ⟨b, 0, none⟩)] W fun e w' => ∃ n ok j, e = .returned (.tuple #[.int .i64 n, .bool ok]) ∧ Ps w' b t j o f e0 ∧ W.grownBy w' (some b) ∧ CountPost (countP (atL t k)) t n ok j := by
  have NU := Lib.hid (number_any b 145 _ t k W h.rd (hl W (grown_self W _)) hl (Nat.le_trans h.sz (by decide)))
  have HP := Lib.hid (fun w (h2 : Rd w b 145 ((psC t k o f e0).setIfInBounds 1 (.int .i64 (numTo t k : Nat))) t (numTo t k)) => h.of h2)
  clear h hl
  rcases countP_is t k with ⟨m, hm, h1, h2⟩ | ⟨h2, h3⟩
  · rw [h1] at NU
    rw [h2]
    have q1 : ¬ (m : Int) < 0 := by omega
    have q2 : ¬ (m : Int) > 20 := by omega
    have q3 : ¬ (20 : Int) < (m : Int) := by omega
    have HM := Lib.hid hm
    clear h1 h2 hm
    simp only [Option.getD_some, Option.isSome_some] at NU
    go_enter Tryz.func146, Tryz.ntmps146
    go_wp2_with fail
    refine NU.out.mono ?_
    rintro e w1 ⟨rfl, hr, hg⟩
    have hp := HP.out w1 hr
    clear hr
    go_wp2
    go_ret2
    exact ⟨(m : Int), true, numTo t k, rfl, hp, hg, rfl, rfl, rfl, HM.out⟩
  · rw [h2]
    clear h2
    cases hv : numR t k with
    | none =>
      rw [hv] at NU
      simp only [Option.getD_none, Option.isSome_none] at NU
      clear hv h3
      go_enter Tryz.func146, Tryz.ntmps146
      go_wp2_with fail
      refine NU.out.mono ?_
      rintro e w1 ⟨rfl, hr, hg⟩
      have hp := HP.out w1 hr
      clear hr
      go_wp2
      go_ret2
      exact ⟨0, false, numTo t k, rfl, hp, hg, rfl⟩
    | some v =>
      rw [hv] at NU
      have hq := h3 v hv
      simp only [Option.getD_some, Option.isSome_some] at NU
      clear hv h3
      by_cases hv0 : v < 0
      · clear hq
        go_enter Tryz.func146, Tryz.ntmps146
        go_wp2_with fail
        refine NU.out.mono ?_
        rintro e w1 ⟨rfl, hr, hg⟩
        have hp := HP.out w1 hr
        clear hr
        go_wp2
        go_ret2
        exact ⟨0, false, numTo t k, rfl, hp, hg, rfl⟩
      · have hv20 : v > 20 := by omega
        have hv21 : (20 : Int) < v := by omega
        clear hq
        go_enter Tryz.func146, Tryz.ntmps146
        go_wp2_with fail
        refine NU.out.mono ?_
        rintro e w1 ⟨rfl, hr, hg⟩
        have hp := HP.out w1 hr
        clear hr
        go_wp2
        go_ret2
        exact ⟨0, false, numTo t k, rfl, hp, hg, rfl⟩
def BoundPost (x : Option (Int × Int × List UInt8)) (t : ByteArray) (lo hi : Int) (ok : Bool) (k : Nat) : Prop :=
  match x with
  | none => ok = false
  | some (a, b, r) => ok = true ∧ lo = a ∧ hi = b ∧ atL t k = r
theorem bP_none {l : List UInt8} (h : countP l = none) : boundsP l = none := by unfold boundsP; rw [h]
theorem bP_one {l r : List UInt8} {m : Nat} (h : countP l = some (m, 125 :: r)) : boundsP l = some ((m : Int), (m : Int), r) := by unfold boundsP; rw [h]; rfl
theorem bP_from {l r : List UInt8} {m : Nat} (h : countP l = some (m, 44 :: 125 :: r)) : boundsP l = some ((m : Int), -1, r) := by unfold boundsP; rw [h]; rfl
theorem bP_two {l r : List UInt8} {m : Nat} (h : countP l = some (m, 44 :: r)) (hr : ∀ q, r ≠ 125 :: q) : boundsP l = (match countP r with
    | some (k, 125 :: r2) => if m ≤ k then some ((m : Int), (k : Int), r2) else none
    | _ => none) := by
  unfold boundsP
  rw [h]
  cases r with
  | nil => rfl
  | cons c q =>
    by_cases hc : c = 125
    · exact absurd (by rw [hc]) (hr q)
    · simp [hc]
      rfl
theorem bP_other {l r : List UInt8} {m : Nat} (h : countP l = some (m, r)) (h1 : ∀ q, r ≠ 125 :: q) (h2 : ∀ q, r ≠ 44 :: q) : boundsP l = none := by
  unfold boundsP
  rw [h]
  cases r with
  | nil => rfl
  | cons c q =>
    have hc : c ≠ 125 := fun e => h1 q (by rw [e])
    have hd : c ≠ 44 := fun e => h2 q (by rw [e])
    simp [hc, hd]
theorem two_no (c d : UInt8) (l : List UInt8) (h : ∀ q, l ≠ c :: d :: q) : [c, d].isPrefixOf l = false := by
  match l with
  | [] => rfl
  | [x] => simp [List.isPrefixOf]
  | x :: y :: q =>
    by_cases hx : c = x
    · by_cases hy : d = y
      · exact absurd (by rw [hx, hy]) (h q)
      · simp [List.isPrefixOf, hx, hy]
    · simp [List.isPrefixOf, hx]
set_option maxRecDepth 100000 in
set_option maxHeartbeats 3200000 in
theorem bounds_any (b : Nat) (t : ByteArray) (k o : Nat) (f : Bool) (e0 : Int) (W : World) (h : Ps W b t k o f e0) (hl : LibF W b) :
    Calls Tryz.prog 127 #[.pointer (some ⟨b, 0, none⟩)] W fun e w' => ∃ lo hi ok j, e = .returned (.tuple #[.int .i64 lo, .int .i64 hi, .bool ok]) ∧ Ps w' b t j o f e0 ∧ W.grownBy w' (some b) ∧ BoundPost (boundsP (atL t k)) t lo hi ok j := by
  have CT := Lib.hid (count_any b t k o f e0 W h hl)
  have HL := Lib.hid hl
  obtain ⟨I, hI⟩ : ∃ I, boundsP (atL t k) = I := ⟨_, rfl⟩
  rw [hI]
  have HI := Lib.hid hI
  clear h hl hI
  go_enter Tryz.func127, Tryz.ntmps127
  go_wp2_with fail
  refine CT.out.mono ?_
  rintro e w1 ⟨n, ok, j, rfl, hp, hg, hpost⟩
  have HP1 := Lib.hid hp
  have HG1 := Lib.hid hg
  have HL1 := Lib.hid (HL.out.next hg)
  have HPO := Lib.hid hpost
  clear hp hg hpost CT HL
  cases hc : countP (atL t k) with
  | none =>
    have hpost := HPO.out
    rw [hc] at hpost
    obtain rfl : ok = false := hpost
    have HI2 := Lib.hid (HI.out.symm.trans (bP_none hc))
    clear hc HPO HI
    go_wp2
    go_ret3
    refine ⟨0, 0, false, j, rfl, HP1.out, HG1.out, ?_⟩
    rw [HI2.out]
    rfl
  | some x =>
    obtain ⟨m, r⟩ := x
    have hpost := HPO.out
    rw [hc] at hpost
    obtain ⟨rfl, rfl, hr, hm⟩ := hpost
    have HR1 := Lib.hid hr
    have HC := Lib.hid hc
    clear hc HPO hr
    by_cases h1 : ∃ q, r = 125 :: q
    · obtain ⟨q, rfl⟩ := h1
      have HI2 := Lib.hid (HI.out.symm.trans (bP_one HC.out))
      have TY := Lib.hid (take_yes2 b ⟨#[125]⟩ (by decide) q t j o f e0 HR1.out _ HP1.out w1.heap.size rfl)
      clear HC HI
      go_wp2_with fail
      refine TY.out.mono ?_
      rintro e w2 ⟨⟨x, rfl⟩, ⟨hp, hr⟩, hg⟩
      have HG2 := Lib.hid (World.grownBy.trans HG1.out hg)
      go_wp2
      go_ret3
      refine ⟨(m : Int), (m : Int), true, _, rfl, hp, HG2.out, ?_⟩
      rw [HI2.out]
      exact ⟨rfl, rfl, rfl, hr⟩
    · have h1' : ∀ q, r ≠ 125 :: q := fun q e => h1 ⟨q, e⟩
      have TN := Lib.hid (take_no2 b ⟨#[125]⟩ (by decide) t j o f e0 (by rw [HR1.out]; exact head_no 125 _ h1') _ HP1.out w1.heap.size rfl)
      have HH1 := Lib.hid h1'
      clear h1 h1'
      go_wp2_with fail
      refine TN.out.mono ?_
      rintro e w2 ⟨⟨x, rfl⟩, hp, hg⟩
      have HP2 := Lib.hid hp
      have HG2 := Lib.hid (World.grownBy.trans HG1.out hg)
      have HL2 := Lib.hid (HL1.out.next hg)
      clear hp hg TN HP1 HG1 HL1
      by_cases h2 : ∃ q, r = 44 :: 125 :: q
      · obtain ⟨q, rfl⟩ := h2
        have HI2 := Lib.hid (HI.out.symm.trans (bP_from HC.out))
        have TY := Lib.hid (take_yes2 b ⟨#[44, 125]⟩ (by decide) q t j o f e0 HR1.out _ HP2.out w2.heap.size rfl)
        clear HC HI
        go_wp2_with fail
        refine TY.out.mono ?_
        rintro e w3 ⟨⟨x3, rfl⟩, ⟨hp, hr⟩, hg⟩
        have HG3 := Lib.hid (World.grownBy.trans HG2.out hg)
        go_wp2
        go_ret3
        refine ⟨(m : Int), -1, true, _, rfl, hp, HG3.out, ?_⟩
        rw [HI2.out]
        exact ⟨rfl, rfl, rfl, hr⟩
      · have h2' : ∀ q, r ≠ 44 :: 125 :: q := fun q e => h2 ⟨q, e⟩
        have TN := Lib.hid (take_no2 b ⟨#[44, 125]⟩ (by decide) t j o f e0 (by rw [HR1.out]; exact two_no 44 125 _ h2') _ HP2.out w2.heap.size rfl)
        have HH2 := Lib.hid h2'
        clear h2 h2'
        go_wp2_with fail
        refine TN.out.mono ?_
        rintro e w3 ⟨⟨x3, rfl⟩, hp, hg⟩
        have HP3 := Lib.hid hp
        have HG3 := Lib.hid (World.grownBy.trans HG2.out hg)
        have HL3 := Lib.hid (HL2.out.next hg)
        clear hp hg TN HP2 HG2 HL2
        by_cases h3 : ∃ q, r = 44 :: q
        · obtain ⟨q, rfl⟩ := h3
          have hq' : ∀ p, q ≠ 125 :: p := fun p e => HH2.out p (by rw [e])
          have HI2 := Lib.hid (HI.out.symm.trans (bP_two HC.out hq'))
          have TY := Lib.hid (take_yes2 b ⟨#[44]⟩ (by decide) q t j o f e0 HR1.out _ HP3.out w3.heap.size rfl)
          clear HC HI hq'
          go_wp2_with fail
          refine TY.out.mono ?_
          rintro e w4 ⟨⟨x4, rfl⟩, ⟨hp, hr⟩, hg⟩
          have HP4 := Lib.hid (show Ps w4 b t (j + 1) o f e0 from hp)
          have HR4 := Lib.hid (show atL t (j + 1) = q from hr)
          have HG4 := Lib.hid (World.grownBy.trans HG3.out hg)
          have CT := Lib.hid (count_any b t (j + 1) o f e0 w4 HP4.out (HL3.out.next hg))
          clear hp hr hg TY HP3 HG3 HL3
          go_wp2_with fail
          refine CT.out.mono ?_
          rintro e w5 ⟨n5, ok5, j5, rfl, hp, hg, hpost⟩
          rw [HR4.out] at hpost
          have HP5 := Lib.hid hp
          have HG5 := Lib.hid (World.grownBy.trans HG4.out hg)
          have HPO := Lib.hid hpost
          clear hp hg hpost CT HP4 HG4
          by_cases h5 : ∃ p, atL t j5 = 125 :: p
          · obtain ⟨p5, hp5⟩ := h5
            have TY5 := Lib.hid (take_yes2 b ⟨#[125]⟩ (by decide) p5 t j5 o f e0 hp5 _ HP5.out w5.heap.size rfl)
            have HA5 := Lib.hid hp5
            clear hp5
            go_wp2_with fail
            refine TY5.out.mono ?_
            rintro e w6 ⟨⟨x6, rfl⟩, ⟨hp, hr⟩, hg⟩
            have HP6 := Lib.hid hp
            have HR6 := Lib.hid hr
            have HG6 := Lib.hid (World.grownBy.trans HG5.out hg)
            clear hp hr hg TY5 HP5 HG5
            cases hc5 : countP q with
            | none =>
              have hpost := HPO.out
              rw [hc5] at hpost
              obtain rfl : ok5 = false := hpost
              have hi := HI2.out
              rw [hc5] at hi
              have HI3 := Lib.hid hi
              clear hi hc5 HPO
              go_wp2
              go_ret3
              refine ⟨0, 0, false, _, rfl, HP6.out, HG6.out, ?_⟩
              rw [HI3.out]
              rfl
            | some x =>
              obtain ⟨m5, r5⟩ := x
              have hpost := HPO.out
              rw [hc5] at hpost
              obtain ⟨rfl, rfl, hr, hm5⟩ := hpost
              obtain rfl : r5 = 125 :: p5 := hr.symm.trans HA5.out
              have hi := HI2.out
              rw [hc5] at hi
              try dsimp only at hi
              have HI3 := Lib.hid hi
              clear hi hc5 HPO hr
              by_cases hle : m ≤ m5
              · have hleI : ¬ (m5 : Int) < (m : Int) := by omega
                go_wp2
                go_ret3
                refine ⟨(m : Int), (m5 : Int), true, _, rfl, HP6.out, HG6.out, ?_⟩
                rw [HI3.out, if_pos hle]
                exact ⟨rfl, rfl, rfl, HR6.out⟩
              · have hleI : (m5 : Int) < (m : Int) := by omega
                go_wp2
                go_ret3
                refine ⟨0, 0, false, _, rfl, HP6.out, HG6.out, ?_⟩
                rw [HI3.out, if_neg hle]
                rfl
          · have h5' : ∀ p, atL t j5 ≠ 125 :: p := fun p e => h5 ⟨p, e⟩
            have TN5 := Lib.hid (take_no2 b ⟨#[125]⟩ (by decide) t j5 o f e0 (head_no 125 _ h5') _ HP5.out w5.heap.size rfl)
            have HA5 := Lib.hid h5'
            clear h5 h5'
            go_wp2_with fail
            refine TN5.out.mono ?_
            rintro e w6 ⟨⟨x6, rfl⟩, hp, hg⟩
            have HP6 := Lib.hid hp
            have HG6 := Lib.hid (World.grownBy.trans HG5.out hg)
            clear hp hg TN5 HP5 HG5
            have HI3 := Lib.hid (show I = none by
              rw [HI2.out]
              cases hc5 : countP q with
              | none => rfl
              | some x =>
                obtain ⟨m5, r5⟩ := x
                have hpost := HPO.out
                rw [hc5] at hpost
                obtain ⟨_, _, hr, _⟩ := hpost
                have hr5 : ∀ p, r5 ≠ 125 :: p := fun p e => HA5.out p (hr.trans e)
                cases r5 with
                | nil => rfl
                | cons c p5 =>
                  have hc : c ≠ 125 := fun e => hr5 p5 (by rw [e])
                  simp [hc])
            clear HI2 HPO
            cases ok5
            all_goals
              go_wp2
              go_ret3
              refine ⟨0, 0, false, _, rfl, HP6.out, HG6.out, ?_⟩
              rw [HI3.out]
              rfl
        · have h3' : ∀ q, r ≠ 44 :: q := fun q e => h3 ⟨q, e⟩
          have HI2 := Lib.hid (HI.out.symm.trans (bP_other HC.out HH1.out h3'))
          have TN := Lib.hid (take_no2 b ⟨#[44]⟩ (by decide) t j o f e0 (by rw [HR1.out]; exact head_no 44 _ h3') _ HP3.out w3.heap.size rfl)
          clear h3 h3' HC HI
          go_wp2_with fail
          refine TN.out.mono ?_
          rintro e w4 ⟨⟨x4, rfl⟩, hp, hg⟩
          have HG4 := Lib.hid (World.grownBy.trans HG3.out hg)
          go_wp2
          go_ret3
          refine ⟨0, 0, false, _, rfl, hp, HG4.out, ?_⟩
          rw [HI2.out]
          rfl
def WfT (n : NodeT) : Prop := n.kind = 4 ∨ n.kind = 5 → 2 ≤ n.kids.length
theorem wf_nil : WfT .nil := by rintro (h | h) <;> cases h
theorem wf_one (S : Nat) : WfT (.one S) := by rintro (h | h) <;> cases h
theorem wf_rep (n : NodeT) (a b : Int) : WfT (n.rep a b) := by rintro (h | h) <;> cases h
structure KInv (K : List NodeT → List NodeT) (acc : List NodeT) (C D : Nat) : Prop where
  len : (K acc).length ≤ D
  all : ∀ x, x ∈ acc → x.kids.length ≤ C ∧ WfT x
theorem catK_app (l m : List NodeT) : catK (l ++ m) = catK l ++ catK m := by
  induction l with
  | nil => rfl
  | cons x l ih =>
    rw [List.cons_append, catK, catK]
    split
    · exact ih
    · split
      · rw [ih, List.append_assoc]
      · rw [ih, List.cons_append]
theorem altK_app (l m : List NodeT) : altK (l ++ m) = altK l ++ altK m := by
  induction l with
  | nil => rfl
  | cons x l ih =>
    rw [List.cons_append, altK, altK]
    split
    · rw [ih, List.append_assoc]
    · rw [ih, List.cons_append]
theorem catK_one (x : NodeT) : (catK [x]).length ≤ max 1 x.kids.length := by
  rw [catK]
  split
  · simp [catK]
  · split
    · simp [catK]; omega
    · simp [catK]; omega
theorem altK_one (x : NodeT) : (altK [x]).length ≤ max 1 x.kids.length := by
  rw [altK]
  split
  · simp [altK]; omega
  · simp [altK]; omega
theorem kinv_cat {acc : List NodeT} {C c : Nat} {x : NodeT} (h : KInv catK acc C C) (hx : x.kids.length ≤ c) (hc : 1 ≤ c) (hw : WfT x) : KInv catK (acc ++ [x]) (C + c) (C + c) := by
  refine ⟨?_, fun y hy => ?_⟩
  · rw [catK_app, List.length_append]
    have := catK_one x
    have := h.len
    omega
  · rcases List.mem_append.1 hy with h1 | h1
    · exact ⟨by have := (h.all y h1).1; omega, (h.all y h1).2⟩
    · rw [List.mem_singleton] at h1
      subst h1
      exact ⟨by omega, hw⟩
theorem kinv_alt {acc : List NodeT} {C c : Nat} {x : NodeT} (h : KInv altK acc C (C + 1)) (hx : x.kids.length ≤ c) (hw : WfT x) : KInv altK (acc ++ [x]) (C + (c + 1)) (C + (c + 1) + 1) := by
  refine ⟨?_, fun y hy => ?_⟩
  · rw [altK_app, List.length_append]
    have := altK_one x
    have := h.len
    omega
  · rcases List.mem_append.1 hy with h1 | h1
    · exact ⟨by have := (h.all y h1).1; omega, (h.all y h1).2⟩
    · rw [List.mem_singleton] at h1
      subst h1
      exact ⟨by omega, hw⟩
theorem catK_single : ∀ {l : List NodeT} {x : NodeT}, (∀ n, n ∈ l → WfT n) → catK l = [x] → x ∈ l
  | [], x, _, h => by cases h
  | n :: l, x, hw, h => by
    have hw2 := fun m hm => hw m (List.mem_cons_of_mem n hm)
    rw [catK] at h
    split at h
    · exact List.mem_cons_of_mem _ (catK_single hw2 h)
    · split at h
      · rename_i h4
        have h2 := hw n List.mem_cons_self (.inl h4)
        have h3 := congrArg List.length h
        rw [List.length_append] at h3
        simp at h3
        omega
      · injection h with h1 h2
        rw [h1]
        exact List.mem_cons_self
theorem catT_inv {l : List NodeT} {C : Nat} (h : KInv catK l C C) : (catT l).kids.length ≤ C ∧ WfT (catT l) := by
  rcases (show (catK l).length = 0 ∨ (catK l).length = 1 ∨ 2 ≤ (catK l).length by omega) with h0 | h0 | h0
  · rw [catT_zero h0]
    exact ⟨Nat.zero_le _, wf_nil⟩
  · obtain ⟨x, hx⟩ : ∃ x, catK l = [x] := by
      match hk : catK l, h0 with
      | [x], _ => exact ⟨x, rfl⟩
    rw [catT_one hx]
    exact h.all x (catK_single (fun n hn => (h.all n hn).2) hx)
  · rw [catT_more h0]
    exact ⟨h.len, fun _ => h0⟩
theorem altK_ge : ∀ {l : List NodeT}, (∀ n, n ∈ l → WfT n) → l.length ≤ (altK l).length
  | [], _ => Nat.le_refl _
  | n :: l, hw => by
    have ih := altK_ge (fun m hm => hw m (List.mem_cons_of_mem n hm))
    rw [altK]
    split
    · rename_i h5
      have h2 := hw n List.mem_cons_self (.inr h5)
      rw [List.length_append, List.length_cons]
      omega
    · rw [List.length_cons, List.length_cons]
      omega
theorem choice_one (x : NodeT) : choiceT [x] = x := rfl
theorem choice_more {l : List NodeT} (h : l.length ≠ 1) : choiceT l = altT l := by
  match l, h with
  | [], _ => rfl
  | a :: b :: m, _ => rfl
theorem choice_inv {l : List NodeT} {C : Nat} (h : KInv altK l C (C + 1)) (hl : 1 ≤ l.length) : (choiceT l).kids.length ≤ C + 1 ∧ WfT (choiceT l) := by
  by_cases h1 : l.length = 1
  · obtain ⟨x, rfl⟩ : ∃ x, l = [x] := by
      match l, h1 with
      | [x], _ => exact ⟨x, rfl⟩
    have := h.all x (by simp)
    rw [choice_one]
    exact ⟨by omega, this.2⟩
  · rw [choice_more h1]
    have h2 := altK_ge (fun n hn => (h.all n hn).2)
    exact ⟨h.len, fun _ => by show 2 ≤ (altK l).length; omega⟩
def EOk (E : List UInt8 → Res NodeT) : Prop := ∀ l n r, E l = .ok n r → r.length ≤ l.length ∧ n.kids.length + r.length ≤ l.length + 1 ∧ WfT n
def POk (l : List UInt8) (n : NodeT) (r : List UInt8) : Prop := r.length < l.length ∧ n.kids.length + r.length ≤ l.length ∧ WfT n
theorem boundsP_len {l r : List UInt8} {a b : Int} (h : boundsP l = some (a, b, r)) : r.length ≤ l.length := by
  have hd : (l.dropWhile isDig).length ≤ l.length := (List.dropWhile_sublist _).length_le
  cases hc : countP l with
  | none => rw [bP_none hc] at h; cases h
  | some x =>
    obtain ⟨m, q⟩ := x
    have hq : q = l.dropWhile isDig := by
      unfold countP at hc
      split at hc
      · cases hc
      · injection hc with hc
        injection hc with _ hc
        exact hc.symm
    have hql : q.length ≤ l.length := by rw [hq]; exact hd
    by_cases h1 : ∃ p, q = 125 :: p
    · obtain ⟨p, hp⟩ := h1
      rw [hp] at hc hql
      rw [bP_one hc] at h
      cases h
      rw [List.length_cons] at hql
      omega
    · by_cases h2 : ∃ p, q = 44 :: 125 :: p
      · obtain ⟨p, hp⟩ := h2
        rw [hp] at hc hql
        rw [bP_from hc] at h
        cases h
        rw [List.length_cons, List.length_cons] at hql
        omega
      · by_cases h3 : ∃ p, q = 44 :: p
        · obtain ⟨p, hp⟩ := h3
          rw [hp] at hc hql
          rw [bP_two hc (fun z e => h2 ⟨z, by rw [hp, e]⟩)] at h
          have hd2 : (p.dropWhile isDig).length ≤ p.length := (List.dropWhile_sublist _).length_le
          rw [List.length_cons] at hql
          cases hc2 : countP p with
          | none => rw [hc2] at h; cases h
          | some y =>
            obtain ⟨m2, q2⟩ := y
            have hq2 : q2 = p.dropWhile isDig := by
              unfold countP at hc2
              split at hc2
              · cases hc2
              · injection hc2 with hc2
                injection hc2 with _ hc2
                exact hc2.symm
            have hql2 : q2.length ≤ p.length := by rw [hq2]; exact hd2
            rw [hc2] at h
            match q2, h, hql2 with
            | 125 :: r2, h, hql2 =>
              simp only at h
              split at h
              · cases h
                rw [List.length_cons] at hql2
                omega
              · cases h
            | [], h, _ => cases h
            | c :: r2, h, hql2 =>
              by_cases hc3 : c = 125
              · subst hc3
                simp only at h
                split at h
                · cases h
                  rw [List.length_cons] at hql2
                  omega
                · cases h
              · simp [hc3] at h
        · rw [bP_other hc (fun z e => h1 ⟨z, e⟩) (fun z e => h3 ⟨z, e⟩)] at h
          cases h
theorem itemsP_len : ∀ (n all : Nat) (l r : List UInt8) (S : Nat), itemsP n all l = some (S, r) → r.length ≤ l.length
  | 0, _, _, _, _, h => by cases h
  | n + 1, all, l, r, S, h => by
    by_cases h93 : ∃ q, l = 93 :: q
    · obtain ⟨q, rfl⟩ := h93
      rw [itemsP_end] at h
      cases h
      simp
    · rw [itemsP_next (fun q e => h93 ⟨q, e⟩)] at h
      cases hm : itemP l with
      | none => rw [hm] at h; cases h
      | some x =>
        obtain ⟨s, q⟩ := x
        rw [hm] at h
        have h1 := (itemP_some hm).2
        have h2 := itemsP_len n _ _ _ _ h
        omega
theorem classB_len {neg : Bool} {l r : List UInt8} {S : Nat} (h : classB neg l = some (S, r)) : r.length ≤ l.length := by
  rw [classB_is] at h
  unfold itemsX at h
  cases hm : itemP l with
  | none => rw [hm] at h; cases h
  | some x =>
    obtain ⟨s, q⟩ := x
    rw [hm] at h
    have h1 := (itemP_some hm).2
    simp only at h
    cases hi : itemsP (q.length + 1) s q with
    | none => rw [hi] at h; cases h
    | some y =>
      obtain ⟨all, r2⟩ := y
      have h2 := itemsP_len _ _ _ _ _ hi
      rw [hi] at h
      have h' : (if (if neg then notB all else all) = 0 then none else some (if neg then notB all else all, r2)) = some (S, r) := h
      obtain ⟨T, hT⟩ : ∃ T, (if neg then notB all else all) = T := ⟨_, rfl⟩
      rw [hT] at h'
      by_cases hz : T = 0
      · rw [if_pos hz] at h'
        cases h'
      · rw [if_neg hz] at h'
        cases h'
        omega
theorem classP_len {l r : List UInt8} {S : Nat} (h : classP l = some (S, r)) : r.length ≤ l.length := by
  by_cases h94 : ∃ q, l = 94 :: q
  · obtain ⟨q, rfl⟩ := h94
    rw [classP_hat] at h
    have := classB_len h
    rw [List.length_cons]
    omega
  · rw [classP_not (fun q e => h94 ⟨q, e⟩)] at h
    exact classB_len h
theorem foundP_ok {k : Nat} {x : Option (Nat × List UInt8)} {n : NodeT} {r : List UInt8} (h : foundP k x = .ok n r) : ∃ S, x = some (S, r) ∧ n = .one S := by
  cases x with
  | none => cases h
  | some y =>
    obtain ⟨S, q⟩ := y
    cases h
    exact ⟨S, rfl, rfl⟩
theorem atomP_cons (E : List UInt8 → Res NodeT) (b : UInt8) (r : List UInt8) : atomP E (b :: r) =
    if b = 40 then (match E r with
      | .bad k => .bad k
      | .ok n (41 :: r2) => .ok n r2
      | .ok _ r2 => .bad r2.length)
    else if b = 46 then .ok (.one anyB) r
    else if b = 94 then .ok (.mk 2 0 0 0 []) r
    else if b = 36 then .ok (.mk 3 0 0 0 []) r
    else if b = 92 then foundP (r.length + 1) (escP r)
    else if b = 91 then foundP (r.length + 1) (classP r)
    else if b ∈ spec then .bad (r.length + 1)
    else .ok (.one (oneB b.toNat)) r := rfl
theorem atomP_ok {E : List UInt8 → Res NodeT} (hE : EOk E) {l : List UInt8} {n : NodeT} {r : List UInt8} (h : atomP E l = .ok n r) : POk l n r := by
  cases l with
  | nil => cases h
  | cons b q =>
    rw [atomP_cons] at h
    have hone : ∀ S, (NodeT.one S).kids.length = 0 := fun _ => rfl
    split at h
    · cases he : E q with
      | bad k => rw [he] at h; cases h
      | ok m q2 =>
        have h1 := hE q m q2 he
        rw [he] at h
        match q2, h, h1 with
        | [], h, _ => cases h
        | c :: r2, h, h1 =>
          by_cases hc : c = 41
          · subst hc
            simp only at h
            cases h
            rw [List.length_cons] at h1
            exact ⟨by rw [List.length_cons]; omega, by rw [List.length_cons]; omega, h1.2.2⟩
          · simp [hc] at h
    · split at h
      · cases h; exact ⟨by simp, by rw [hone]; simp, wf_one _⟩
      · split at h
        · cases h; exact ⟨by simp, by show 0 + _ ≤ _; simp, by rintro (h | h) <;> cases h⟩
        · split at h
          · cases h; exact ⟨by simp, by show 0 + _ ≤ _; simp, by rintro (h | h) <;> cases h⟩
          · split at h
            · obtain ⟨S, hs, rfl⟩ := foundP_ok h
              have := (escP_some hs).2
              exact ⟨by rw [List.length_cons]; omega, by rw [hone, List.length_cons]; omega, wf_one _⟩
            · split at h
              · obtain ⟨S, hs, rfl⟩ := foundP_ok h
                have := classP_len hs
                exact ⟨by rw [List.length_cons]; omega, by rw [hone, List.length_cons]; omega, wf_one _⟩
              · split at h
                · cases h
                · cases h; exact ⟨by simp, by rw [hone]; simp, wf_one _⟩
theorem timesP_cons (n : NodeT) (b : UInt8) (r : List UInt8) : timesP n (b :: r) =
    if b = 42 then .ok (n.rep 0 (-1)) r
    else if b = 43 then .ok (n.rep 1 (-1)) r
    else if b = 63 then .ok (n.rep 0 1) r
    else if b = 123 then (match boundsP r with
      | none => .bad (b :: r).length
      | some (lo, hi, r2) => .ok (n.rep lo hi) r2)
    else .ok n (b :: r) := rfl
theorem timesP_ok {l l0 : List UInt8} {n m : NodeT} {r : List UInt8} (h0 : POk l0 n l) (h : timesP n l = .ok m r) : POk l0 m r := by
  obtain ⟨h1, h2, h3⟩ := h0
  cases l with
  | nil =>
    cases h
    exact ⟨h1, h2, h3⟩
  | cons b q =>
    rw [timesP_cons] at h
    rw [List.length_cons] at h1 h2
    have hrep : ∀ a c, (n.rep a c).kids.length = 1 := fun _ _ => rfl
    split at h
    · cases h; exact ⟨by omega, by rw [hrep]; omega, wf_rep _ _ _⟩
    · split at h
      · cases h; exact ⟨by omega, by rw [hrep]; omega, wf_rep _ _ _⟩
      · split at h
        · cases h; exact ⟨by omega, by rw [hrep]; omega, wf_rep _ _ _⟩
        · split at h
          · cases hb : boundsP q with
            | none => rw [hb] at h; cases h
            | some x =>
              obtain ⟨a, c, q2⟩ := x
              have := boundsP_len hb
              rw [hb] at h
              cases h
              exact ⟨by omega, by rw [hrep]; omega, wf_rep _ _ _⟩
          · cases h
            exact ⟨by rw [List.length_cons]; omega, by rw [List.length_cons]; omega, h3⟩
theorem pieceP_ok {E : List UInt8 → Res NodeT} (hE : EOk E) {l : List UInt8} {n : NodeT} {r : List UInt8} (h : pieceP E l = .ok n r) : POk l n r := by
  unfold pieceP at h
  cases ha : atomP E l with
  | bad k => rw [ha] at h; cases h
  | ok m q =>
    rw [ha] at h
    exact timesP_ok (atomP_ok hE ha) h
theorem seqP_next {E : List UInt8 → Res NodeT} {g : Bool} {n : Nat} {acc : List NodeT} {l : List UInt8} : seqP E g (n + 1) acc l = if stopP g l then .ok (catT acc) l else (match pieceP E l with
    | .bad k => .bad k
    | .ok x r => seqP E g n (acc ++ [x]) r) := rfl
theorem seqP_ok {E : List UInt8 → Res NodeT} (hE : EOk E) {g : Bool} : ∀ (n : Nat) (acc : List NodeT) (l : List UInt8) (C : Nat) (m : NodeT) (r : List UInt8), KInv catK acc C C → seqP E g n acc l = .ok m r → r.length ≤ l.length ∧ m.kids.length + r.length ≤ l.length + C ∧ WfT m
  | 0, _, _, _, _, _, _, h => by cases h
  | n + 1, acc, l, C, m, r, hK, h => by
    rw [seqP_next] at h
    split at h
    · cases h
      have := catT_inv hK
      exact ⟨Nat.le_refl _, by omega, this.2⟩
    · cases hp : pieceP E l with
      | bad k => rw [hp] at h; cases h
      | ok x q =>
        rw [hp] at h
        obtain ⟨p1, p2, p3⟩ := pieceP_ok hE hp
        have := seqP_ok hE n (acc ++ [x]) q (C + (l.length - q.length)) m r (kinv_cat hK (by omega) (by omega) p3) h
        exact ⟨by omega, by omega, this.2.2⟩
theorem altsP_bar {E : List UInt8 → Res NodeT} {g : Bool} {n : Nat} {acc : List NodeT} {r : List UInt8} : altsP E g (n + 1) acc (124 :: r) = (match seqP E g (r.length + 1) [] r with
      | .bad k => .bad k
      | .ok x r2 => altsP E g n (acc ++ [x]) r2) := rfl
theorem altsP_end {E : List UInt8 → Res NodeT} {g : Bool} {n : Nat} {acc : List NodeT} {l : List UInt8} (h : ∀ q, l ≠ 124 :: q) : altsP E g (n + 1) acc l = .ok (choiceT acc) l := by
  rw [altsP]
  exact fun q e => h q e
theorem kinv_nil (K : List NodeT → List NodeT) (hK : K [] = []) : KInv K [] 0 0 := ⟨by rw [hK]; exact Nat.le_refl _, fun _ h => by cases h⟩
theorem altsP_ok {E : List UInt8 → Res NodeT} (hE : EOk E) {g : Bool} : ∀ (n : Nat) (acc : List NodeT) (l : List UInt8) (C : Nat) (m : NodeT) (r : List UInt8), KInv altK acc C (C + 1) → 1 ≤ acc.length → altsP E g n acc l = .ok m r → r.length ≤ l.length ∧ m.kids.length + r.length ≤ l.length + C + 1 ∧ WfT m
  | 0, _, _, _, _, _, _, _, h => by cases h
  | n + 1, acc, l, C, m, r, hK, hl, h => by
    by_cases hb : ∃ q, l = 124 :: q
    · obtain ⟨q, rfl⟩ := hb
      rw [altsP_bar] at h
      cases hs : seqP E g (q.length + 1) [] q with
      | bad k => rw [hs] at h; cases h
      | ok x r2 =>
        rw [hs] at h
        obtain ⟨p1, p2, p3⟩ := seqP_ok hE _ _ _ 0 _ _ (kinv_nil catK rfl) hs
        have := altsP_ok hE n (acc ++ [x]) r2 (C + ((q.length - r2.length) + 1)) m r (kinv_alt hK (by omega) p3) (by rw [List.length_append]; simp) h
        rw [List.length_cons]
        exact ⟨by omega, by omega, this.2.2⟩
    · rw [altsP_end (fun q e => hb ⟨q, e⟩)] at h
      cases h
      have := choice_inv hK hl
      exact ⟨Nat.le_refl _, by omega, this.2⟩
theorem kinv_first {x : NodeT} {C : Nat} (h : x.kids.length ≤ C) (hw : WfT x) : KInv altK [x] C (C + 1) := by
  refine ⟨?_, fun y hy => ?_⟩
  · have := altK_one x
    omega
  · rw [List.mem_singleton] at hy
    subst hy
    exact ⟨h, hw⟩
theorem exprP_ok : ∀ (f : Nat) (g : Bool), EOk (exprP f g)
  | 0, _ => fun _ _ _ h => by cases h
  | f + 1, g => fun l n r h => by
    have hE := exprP_ok f true
    rw [exprP] at h
    cases hs : seqP (exprP f true) g (l.length + 1) [] l with
    | bad k => rw [hs] at h; cases h
    | ok x q =>
      rw [hs] at h
      obtain ⟨p1, p2, p3⟩ := seqP_ok hE _ _ _ 0 _ _ (kinv_nil catK rfl) hs
      have := altsP_ok hE _ [x] q (l.length - q.length) n r (kinv_first (by omega) p3) (Nat.le_refl _) h
      exact ⟨by omega, by omega, this.2.2⟩
end Go.Proofs.YtbkpoimaienhpaaGreatDoor
