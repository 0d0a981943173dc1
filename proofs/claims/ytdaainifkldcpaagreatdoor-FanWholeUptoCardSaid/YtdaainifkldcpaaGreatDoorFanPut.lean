-- shaken
import Derived.Test.YtdaainifkldcpaaGreatDoorFanGhost
import Derived.Test.YtdaainifkldcpaaGreatDoorBase
namespace Go.Proofs.YtdaainifkldcpaaGreatDoor
open Go.RowKit
set_option linter.unusedVariables false
set_option linter.unusedSimpArgs false
def putO (ord : List Nat) (p : Nat) : List Nat := if ord.contains p = true then ord else ord ++ [p]
def firstO (n : Nat) (l : List Int) : List Nat := l.foldl (fun ord z => if 1 ≤ z ∧ z ≤ (n : Int) then putO ord (z - 1).toNat else ord) []
def restO (ord : List Nat) (n : Nat) : List Nat := (List.range n).foldl putO ord
def orderO (n : Nat) (l : List Int) : List Nat := restO (firstO n l) n
structure OrdP (n : Nat) (ord : List Nat) : Prop where
  once : ord.Nodup
  low : ∀ i ∈ ord, i < n
theorem OrdP.nil (n : Nat) : OrdP n [] := ⟨List.nodup_nil, fun i hi => by cases hi⟩
theorem OrdP.put {n : Nat} {ord : List Nat} (h : OrdP n ord) {p : Nat} (hp : p < n) : OrdP n (putO ord p) := by
  unfold putO
  split
  · exact h
  · rename_i hc
    have hm : p ∉ ord := fun hm => hc (List.contains_iff_mem.2 hm)
    refine ⟨List.nodup_append.2 ⟨h.once, by simp, fun a ha b hb => ?_⟩, fun i hi => ?_⟩
    · rw [List.mem_singleton.1 hb]
      exact fun e => hm (e ▸ ha)
    · rcases List.mem_append.1 hi with hi | hi
      · exact h.low i hi
      · rw [List.mem_singleton.1 hi]; exact hp
theorem put_mem (ord : List Nat) (p i : Nat) : i ∈ putO ord p ↔ i ∈ ord ∨ i = p := by
  unfold putO
  split
  · rename_i hc
    have := List.contains_iff_mem.1 hc
    exact ⟨Or.inl, fun h => by rcases h with h | h; exact h; rw [h]; exact this⟩
  · rw [List.mem_append, List.mem_singleton]
theorem first_next (n : Nat) (l : List Int) (j : Nat) (z : Int) (h : l[j]? = some z) : firstO n (l.take (j + 1)) = if 1 ≤ z ∧ z ≤ (n : Int) then putO (firstO n (l.take j)) (z - 1).toNat else firstO n (l.take j) := by
  unfold firstO
  rw [List.take_add_one, h, List.foldl_append]
  rfl
theorem rest_next (ord : List Nat) (j : Nat) : restO ord (j + 1) = putO (restO ord j) j := by
  unfold restO
  rw [List.range_succ, List.foldl_append]
  rfl
theorem first_ok (n : Nat) (l : List Int) : OrdP n (firstO n l) := by
  have h : ∀ (l : List Int) (o : List Nat), OrdP n o → OrdP n (l.foldl (fun ord z => if 1 ≤ z ∧ z ≤ (n : Int) then putO ord (z - 1).toNat else ord) o) := by
    intro l
    induction l with
    | nil => intro o ho; exact ho
    | cons z l ih =>
      intro o ho
      rw [List.foldl_cons]
      apply ih
      split
      · exact ho.put (by omega)
      · exact ho
  exact h l [] (OrdP.nil n)
theorem rest_ok {n : Nat} {ord : List Nat} (h : OrdP n ord) : ∀ j, j ≤ n → OrdP n (restO ord j) ∧ (∀ i, i < j → i ∈ restO ord j)
  | 0, _ => ⟨h, fun i hi => by omega⟩
  | j + 1, hj => by
    obtain ⟨h1, h2⟩ := rest_ok h j (by omega)
    rw [rest_next]
    refine ⟨h1.put (by omega), fun i hi => (put_mem _ _ _).2 ?_⟩
    rcases Nat.lt_or_ge i j with h3 | h3
    · exact .inl (h2 i h3)
    · exact .inr (by omega)
structure OrdAll (n : Nat) (ord : List Nat) : Prop where
  ok : OrdP n ord
  all : ∀ i, i < n → i ∈ ord
theorem order_all (n : Nat) (l : List Int) : OrdAll n (orderO n l) := by
  obtain ⟨h1, h2⟩ := rest_ok (first_ok n l) n (Nat.le_refl _)
  exact ⟨h1, h2⟩
theorem range_rest : ∀ n, restO [] n = List.range n
  | 0 => rfl
  | n + 1 => by
    rw [rest_next, range_rest n, List.range_succ]
    unfold putO
    rw [if_neg]
    rw [List.contains_iff_mem]
    simp
theorem placeV_len (i : Nat) : (placeV i).length = 1 := rfl
theorem ptrV_len (i : Nat) : (ptrV i).length = 1 := rfl
theorem ptrV_one (l : List Nat) : ∀ u ∈ rowV ptrV l, u.oneCell' = true := by
  intro u hu
  obtain ⟨p, _, hp⟩ := List.mem_flatMap.1 hu
  rw [List.mem_singleton.1 hp]
  rfl
theorem infoInt : (Tryz.prog.info? 3).map (fun i => (i.zero, i.size, i.bytes)) = some (some (.int .i64 0), 1, 8) := by kernel_rfl
theorem infoPtr : (Tryz.prog.info? 86).map (fun i => (i.zero, i.size, i.bytes)) = some (some (.pointer none), 1, 8) := by kernel_rfl
def FoundI (z : Int) (c : Bool) : Prop := decide (0 ≤ z) = c
set_option maxRecDepth 100000 in
set_option maxHeartbeats 800000 in
theorem indexI_any (A : Option Addr) (n c : Nat) (l : List Nat) (p : Nat) (ct : Bool) (hct : l.contains p = ct) (hn : n ≤ 1000000) (W : World) (h : RowR placeV 1 W A n l) :
    Calls Tryz.prog 97 #[.slice A n c, .int .i64 (p : Int)] W fun e w' => W = w' ∧ ∃ z : Int, e = .returned (.int .i64 z) ∧ FoundI z ct := by
  have H1 := Lib.hid h
  have LN := Lib.hid h.1
  have NM := Lib.hid (show p ∉ l.take 0 from by simp)
  have HCT := Lib.hid hct
  clear h hct
  go_enter Tryz.func97, Tryz.ntmps97
  go_wp2
  go_loopw [8] (fun iv wr => ∃ j : Nat, j ≤ n ∧ iv = .int .i64 (j : Nat) ∧ Hid (p ∉ l.take j) ∧ W = wr) (fun iv _ => n - (intOf iv).toNat)
  case atStart => exact ⟨0, Nat.zero_le _, rfl, NM, rfl⟩
  case round =>
    clear NM
    obtain ⟨j, hjn, rfl, NM, rfl⟩ := hrel
    by_cases hj : j < n
    · have jI : (j : Int) < (n : Int) := by omega
      obtain ⟨x, hx⟩ : ∃ x, l[j]? = some x := ⟨_, List.getElem?_eq_getElem (by rw [LN.out]; exact hj)⟩
      obtain ⟨b, o, hA, hlt, hcc⟩ := H1.out.2 (by omega)
      subst hA
      have c0_ : W.cell? ⟨b, o + j, none⟩ = some (.int .i64 (x : Int)) := by
        have := hcc j 0 x hx (by decide)
        rw [Nat.mul_one, Nat.add_zero] at this
        exact this
      have HX := Lib.hid hx
      clear hcc hx
      by_cases hpx : p = x
      · subst hpx
        have eqp : ((p : Int) == (p : Int)) = true := beq_self_eq_true _
        have FIN := Lib.hid (show FoundI (j : Int) ct from by
          unfold FoundI
          rw [← HCT.out, decide_eq_true (by omega : (0 : Int) ≤ (j : Int)), eq_comm, List.contains_iff_mem]
          exact List.mem_of_getElem? HX.out)
        go_wp2
        go_ret
        exact ⟨rfl, _, rfl, FIN.out⟩
      · have eqp : ((p : Int) == (x : Int)) = false := beq_eq_false_iff_ne.2 (fun e => hpx (by omega))
        have eqp2 : ¬ (p : Int) = (x : Int) := fun e => hpx (by omega)
        have NM2 := Lib.hid (show p ∉ l.take (j + 1) from by
          rw [List.take_add_one, HX.out, List.mem_append]
          rintro (h1 | h1)
          · exact NM.out h1
          · simp at h1
            exact hpx h1)
        go_wp2
        go_round
        case rel => exact ⟨j + 1, by omega, by go_num, NM2, by first | rfl | trivial⟩
        case measure => first | (simp [intOf]; done) | (simp [intOf]; omega)
    · have jI : ¬ (j : Int) < (n : Int) := by omega
      have FIN := Lib.hid (show FoundI (-1 : Int) ct from by
        unfold FoundI
        rw [← HCT.out]
        have hjl : j = n := by omega
        have h1 : p ∉ l := by
          have h2 := NM.out
          rwa [List.take_of_length_le (by rw [LN.out]; omega)] at h2
        rw [eq_comm, decide_eq_false (by decide)]
        exact Bool.eq_false_iff.2 (fun hc => h1 (List.contains_iff_mem.1 hc)))
      go_wp2
      go_ret
      exact ⟨rfl, _, rfl, FIN.out⟩
theorem containsI_any (A : Option Addr) (n c : Nat) (l : List Nat) (p : Nat) (hn : n ≤ 1000000) (W : World) (h : RowR placeV 1 W A n l) :
    Calls Tryz.prog 66 #[.slice A n c, .int .i64 (p : Int)] W fun e w' => W = w' ∧ e = .returned (.bool (l.contains p)) := by
  obtain ⟨ct, hct⟩ : ∃ z, l.contains p = z := ⟨_, rfl⟩
  have IX := Lib.hid (indexI_any A n c l p ct hct hn W h)
  rw [hct]
  clear h hct
  go_enter Tryz.func66, Tryz.ntmps66
  go_wp2_with fail
  refine IX.out.mono ?_
  rintro e w2 ⟨rfl, z, rfl, hz⟩
  unfold FoundI at hz
  subst hz
  clear IX
  go_wp2
  go_ret
  exact ⟨rfl, rfl⟩
def ptrO (o : Option Nat) : List Value := [.pointer (o.map fun b => ⟨b, 0, none⟩)]
theorem row_some {w : World} {A : Option Addr} {n : Nat} {l : List Nat} (h : RowR ptrV 1 w A n l) : RowR ptrO 1 w A n (l.map some) := by
  refine ⟨by rw [List.length_map]; exact h.1, fun hn => ?_⟩
  obtain ⟨b, o, e, hlt, hc⟩ := h.2 hn
  refine ⟨b, o, e, hlt, fun j i a ha hi => ?_⟩
  rw [List.getElem?_map] at ha
  obtain ⟨x, hx, rfl⟩ := Option.map_eq_some_iff.1 ha
  exact hc j i x hx hi
set_option maxRecDepth 100000 in
set_option maxHeartbeats 800000 in
theorem indexP_any (A : Option Addr) (n c : Nat) (l : List (Option Nat)) (ct : Bool) (hct : l.any Option.isNone = ct) (hn : n ≤ 1000000) (W : World) (h : RowR ptrO 1 W A n l) :
    Calls Tryz.prog 86 #[.slice A n c, .pointer none] W fun e w' => W = w' ∧ ∃ z : Int, e = .returned (.int .i64 z) ∧ FoundI z ct := by
  have H1 := Lib.hid h
  have LN := Lib.hid h.1
  have NM := Lib.hid (show (l.take 0).any Option.isNone = false from by simp)
  have HCT := Lib.hid hct
  clear h hct
  go_enter Tryz.func86, Tryz.ntmps86
  go_wp2
  go_loopw [8] (fun iv wr => ∃ j : Nat, j ≤ n ∧ iv = .int .i64 (j : Nat) ∧ Hid ((l.take j).any Option.isNone = false) ∧ W = wr) (fun iv _ => n - (intOf iv).toNat)
  case atStart => exact ⟨0, Nat.zero_le _, rfl, NM, rfl⟩
  case round =>
    clear NM
    obtain ⟨j, hjn, rfl, NM, rfl⟩ := hrel
    by_cases hj : j < n
    · have jI : (j : Int) < (n : Int) := by omega
      obtain ⟨x, hx⟩ : ∃ x, l[j]? = some x := ⟨_, List.getElem?_eq_getElem (by rw [LN.out]; exact hj)⟩
      obtain ⟨b, o, hA, hlt, hcc⟩ := H1.out.2 (by omega)
      subst hA
      have c0_ : W.cell? ⟨b, o + j, none⟩ = some (.pointer (x.map fun b => ⟨b, 0, none⟩)) := by
        have := hcc j 0 x hx (by decide)
        rw [Nat.mul_one, Nat.add_zero] at this
        exact this
      have HX := Lib.hid hx
      clear hcc hx
      rcases x with _ | x
      · have c1_ : W.cell? ⟨b, o + j, none⟩ = some (.pointer none) := c0_
        have FIN := Lib.hid (show FoundI (j : Int) ct from by
          unfold FoundI
          rw [← HCT.out, decide_eq_true (by omega : (0 : Int) ≤ (j : Int)), eq_comm]
          exact List.any_eq_true.2 ⟨_, List.mem_of_getElem? HX.out, rfl⟩)
        clear c0_
        go_wp2
        go_ret
        exact ⟨rfl, _, rfl, FIN.out⟩
      · have c1_ : W.cell? ⟨b, o + j, none⟩ = some (.pointer (some ⟨x, 0, none⟩)) := c0_
        have NM2 := Lib.hid (show (l.take (j + 1)).any Option.isNone = false from by
          rw [List.take_add_one, HX.out, List.any_append, NM.out]
          rfl)
        have hne : ∀ w, (binOp .eql 86 (.pointer none) (.pointer (some ⟨x, 0, none⟩))).run Tryz.prog w = .ok (.bool false) w := fun w => by first | rfl | (go_simp; done) | (go_simp; rfl)
        clear c0_
        go_wp2
        go_round
        case rel => exact ⟨j + 1, by omega, by go_num, NM2, by first | rfl | trivial⟩
        case measure => first | (simp [intOf]; done) | (simp [intOf]; omega)
    · have jI : ¬ (j : Int) < (n : Int) := by omega
      have FIN := Lib.hid (show FoundI (-1 : Int) ct from by
        unfold FoundI
        rw [← HCT.out]
        have h2 := NM.out
        rw [List.take_of_length_le (by rw [LN.out]; omega)] at h2
        rw [h2]
        rfl)
      go_wp2
      go_ret
      exact ⟨rfl, _, rfl, FIN.out⟩
theorem containsP_any (A : Option Addr) (n c : Nat) (l : List (Option Nat)) (hn : n ≤ 1000000) (W : World) (h : RowR ptrO 1 W A n l) :
    Calls Tryz.prog 54 #[.slice A n c, .pointer none] W fun e w' => W = w' ∧ e = .returned (.bool (l.any Option.isNone)) := by
  obtain ⟨ct, hct⟩ : ∃ z, l.any Option.isNone = z := ⟨_, rfl⟩
  have IX := Lib.hid (indexP_any A n c l ct hct hn W h)
  rw [hct]
  clear h hct
  go_enter Tryz.func54, Tryz.ntmps54
  go_wp2_with fail
  refine IX.out.mono ?_
  rintro e w2 ⟨rfl, z, rfl, hz⟩
  unfold FoundI at hz
  subst hz
  clear IX
  go_wp2
  go_ret
  exact ⟨rfl, rfl⟩
set_option maxHeartbeats 1600000 in
theorem cloneP_any (A : Option Addr) (n c : Nat) (l : List Nat) (hn : n ≤ 100000) (W : World) (h : RowR ptrV 1 W A n l) :
    Calls Tryz.prog 55 #[.slice A n c] W fun e w' => ∃ v, e = .returned v ∧ OwnR ptrV 1 w' W.heap.size 86 v l ∧ Below W.heap.size W w' := by
  obtain ⟨i0, hinf, hz0, hz1, hz2⟩ := info_parts infoPtr
  have hl := h.1
  cases A with
  | none =>
    have hn0 : n = 0 := by
      rcases Nat.eq_zero_or_pos n with e | e
      · exact e
      · obtain ⟨b, off, e, _⟩ := h.2 e
        cases e
    subst hn0
    have hl0 : l = [] := List.eq_nil_of_length_eq_zero hl
    subst hl0
    have hnil : ∀ w, (binOp .eql 77 (.slice none 0 c) (.slice none 0 0)).run Tryz.prog w = .ok (.bool true) w := fun w => Lib.run_eql_slice_nil w _ _ none 0 c 0 0 Tryz.underlying77
    clear h hl
    go_enter Tryz.func55, Tryz.ntmps55
    go_wp2
    go_ret
    exact ⟨_, rfl, OwnR.nil _ _ _, Below.refl _ _⟩
  | some ad =>
    have HLN := Lib.hid (show (rowV ptrV l).length = n * 1 by rw [rowV_len ptrV_len, hl])
    have HL := Lib.hid hl
    have HB := Lib.hid (own_zero (W.alloc (.cells #[] 86)) W.heap.size W.heap.size 1 86 (Blk.new W _ #[]) (Nat.le_refl _))
    have HA2 := Lib.hid ((h.below ((Below.refl _ _).alloc (Nat.le_refl _) (.cells #[] 86))).src ptrV_len (by decide))
    have hnil : ∀ w, (binOp .eql 77 (.slice (some ad) n c) (.slice none 0 0)).run Tryz.prog w = .ok (.bool false) w := fun w => Lib.run_eql_slice_nil w _ _ (some ad) n c 0 0 Tryz.underlying77
    clear h hl
    go_enter Tryz.func55, Tryz.ntmps55
    go_wp2_with (at_builtin; refine wpList_append_own _ rfl (.tmp 5) (.tmp 6) 77 rfl W.heap.size 86 i0 (.pointer none) 1 8 Tryz.underlying77 hinf hz0 hz1 hz2 rfl (by decide) _ _ _ rfl HB.out ad n c (rowV ptrV l) rfl HLN.out HA2.out (ptrV_one l) (by unfold maxLen; omega) (by omega) (by simp) ?_)
    intro v' w4 hown' hgrow _
    have ho : OwnR ptrV 1 w4 W.heap.size 86 v' l := by
      unfold OwnR
      rw [HL.out]
      simpa using hown'
    have hb := ((Below.refl W.heap.size W).alloc (Nat.le_refl _) (.cells #[] 86)).grown hgrow (by simp) (fun r hr => (World.ownsRow.lt HB.out r hr).1)
    have HO := Lib.hid ho
    have HB2 := Lib.hid hb
    clear hown' hgrow ho hb
    go_wp2
    go_ret
    exact ⟨_, rfl, HO.out, HB2.out⟩
theorem manyFan_any (f : Nat) (rv ov : Value) (A : Option Addr) (n c : Nat) (hv : rv = .slice A n c) (W : World) (h : Blk W f 115 #[rv, ov]) :
    Calls Tryz.prog 21 #[.pointer (some ⟨f, 0, none⟩)] W fun e w' => W = w' ∧ e = .returned (.int .i64 (n : Int)) := by
  subst hv
  have c0_ : W.cell? ⟨f, 0, none⟩ = some (.slice A n c) := (h.cell 0).trans rfl
  clear h
  go_enter Tryz.func21, Tryz.ntmps21
  go_wp2
  go_ret
  exact ⟨rfl, rfl⟩
structure MakeO (G f : Nat) (W w : World) (rv ov : Value) (ord : List Nat) : Prop where
  blk : Blk w f 115 #[rv, ov]
  plc : OwnR placeV 1 w G 3 ov ord
  fg : Se.FG f W w
theorem MakeO.size {G f : Nat} {W w : World} {rv ov : Value} {ord : List Nat} (h : MakeO G f W w rv ov ord) (hG : G = W.heap.size) : G ≤ w.heap.size := by rw [hG]; exact h.fg.size
set_option maxRecDepth 100000 in
set_option maxHeartbeats 800000 in
theorem put_ord (G f : Nat) (rv ov : Value) (ord : List Nat) (p : Nat) (hp : p ≤ 1000) (hl : ord.length ≤ 1000) (W w : World) (hG : G = W.heap.size) (hf : f < G) (h : MakeO G f W w rv ov ord) :
    Calls Tryz.prog 36 #[.pointer (some ⟨f, 0, none⟩), .int .i64 (p : Int)] w fun e w' => e = .returned (.tuple #[]) ∧ ∃ ov', MakeO G f W w' rv ov' (putO ord p) := by
  obtain ⟨i0, hinf, hi0, hi1, hi2⟩ := info_parts infoInt
  obtain ⟨A, c, hv, hcap, hnone, hrow⟩ := OwnR.open placeV_len h.plc
  subst hv
  have c1_ : w.cell? ⟨f, 1, none⟩ = some (.slice A ord.length c) := (h.blk.cell 1).trans rfl
  have CT := Lib.hid (containsI_any A ord.length c ord p (by omega) w hrow)
  have hwG := h.size hG
  have HM := Lib.hid h
  have HGW := Lib.hid hG
  clear h hrow hnone hcap hG
  obtain ⟨n, hn⟩ : ∃ n, ord.length = n := ⟨_, rfl⟩
  have HN := Lib.hid hn
  rw [hn] at c1_ CT hl HM
  clear hn
  cases hc : ord.contains p with
  | true =>
    rw [hc] at CT
    have hput : putO ord p = ord := by unfold putO; rw [if_pos hc]
    have HE := Lib.hid hput
    clear hc hput
    go_enter Tryz.func36, Tryz.ntmps36
    go_wp2_with fail
    refine CT.out.mono ?_
    rintro e w2 ⟨rfl, rfl⟩
    go_wp2
    refine bodyPost_end (results_none rfl _ _ _) rfl ?_
    exact ⟨rfl, _, by rw [HE.out]; exact HM.out⟩
  | false =>
    rw [hc] at CT
    have hput : putO ord p = ord ++ [p] := by unfold putO; rw [if_neg (by rw [hc]; decide)]
    have HE := Lib.hid hput
    have f1_ := HM.out.blk.frozen 1
    have OA := Lib.hid (OwnR.alloc HM.out.plc (.cells #[.int .i64 (p : Int)] 3))
    clear hc hput
    go_enter Tryz.func36, Tryz.ntmps36
    go_wp2_with fail
    refine CT.out.mono ?_
    rintro e w2 ⟨rfl, rfl⟩
    go_wp2_with (at_builtin; refine wpList_append_lies _ rfl (.tmp 15) (.tmp 17) 25 rfl G 3 i0 (.int .i64 0) 1 8 Tryz.underlying25 hinf hi0 hi1 hi2 rfl (by decide) _ _ _ rfl (by have h := OA.out; unfold OwnR at h; rw [HN.out] at h; exact h) ⟨w.heap.size, 0, none⟩ 1 1 (placeV p) rfl rfl (World.news_of_block (Blk.new _ _ _)) (fun u hu => by rw [List.mem_singleton.1 hu]; rfl) (by decide) (by unfold maxLen; omega) (by omega) (by simp; omega) _ rfl ?_)
    intro g2 cap2 w3 hown hgrow hg' hlt2
    have hol := own_row_type HM.out.plc
    have hfl := HM.out.blk.lt
    have hA1 : Se.FG f w (w.alloc (.cells #[.int .i64 (p : Int)] 3)) := Se.FG.of_below ((Below.refl _ _).alloc (Nat.le_refl _) _)
    have hA2 : Se.FG f W w3 := by
      refine ⟨hgrow.os.trans (hA1.os.trans HM.out.fg.os), hgrow.tape.trans (hA1.tape.trans HM.out.fg.tape), hgrow.output.trans (hA1.output.trans HM.out.fg.output), Nat.le_trans HM.out.fg.size (Nat.le_trans hA1.size hgrow.size), fun k hk hkf => ?_⟩
      have hk2 : k < w.heap.size := Nat.lt_of_lt_of_le hk HM.out.fg.size
      refine (hgrow.block k (Nat.lt_of_lt_of_le hk2 hA1.size) (fun e => ?_)).trans ((hA1.block k hk2 hkf).trans (HM.out.fg.block k hk hkf))
      have := (hol k e.symm).1
      have := HGW.out
      omega
    have hK3 : Blk w3 f 115 #[rv, .slice A n c] := (hgrow.block f (Nat.lt_of_lt_of_le hfl hA1.size) (fun e => by have := (hol f e.symm).1; omega)).trans (HM.out.blk.below ((Below.refl _ _).alloc (Nat.le_refl _) _) hfl)
    have g1_ := hK3.frozen 1
    have d1_ : w3.cell? ⟨f, 1, none⟩ = some (.slice A n c) := (hK3.cell 1).trans rfl
    have HF := Lib.hid (show MakeO G f W (w3.setCell ⟨f, 1, none⟩ (.slice (some ⟨g2, 0, none⟩) (n + 1) cap2)) rv (.slice (some ⟨g2, 0, none⟩) (n + 1) cap2) (putO ord p) from by
      rw [HE.out]
      refine ⟨hK3.set_ 1 _, ?_, hA2.trans (Se.FG.set_ 1 _)⟩
      refine OwnR.fgT (OwnR.snoc ?_) (Se.FG.set_ (b := f) 1 _) hK3 (by decide)
      rw [HN.out]
      exact hown)
    clear hown hgrow hg' hlt2 hol hA1 hA2 hK3 OA HM CT c1_ f1_
    go_wp2
    refine bodyPost_end (results_none rfl _ _ _) rfl ?_
    exact ⟨rfl, _, HF.out⟩
end Go.Proofs.YtdaainifkldcpaaGreatDoor
