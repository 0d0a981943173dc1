-- shaken
import Derived.Test.YtbkpoimaienhpaaGreatDoorRexPure2
import Derived.Lib.ItoaNum
namespace Go.Proofs.YtbkpoimaienhpaaGreatDoor
open Go.RowKit
set_option linter.unusedVariables false
set_option linter.unusedSimpArgs false
def byteP (b : Nat) (among : List UInt8) : List UInt8 := if UInt8.ofNat b ∈ among then [92, UInt8.ofNat b] else [UInt8.ofNat b]
def spanT (p : Nat × Nat) : List UInt8 := byteP p.1 cspec ++ (if p.1 < p.2 then 45 :: byteP p.2 cspec else [])
def spansT : List (Nat × Nat) → List UInt8
  | [] => []
  | p :: l => spanT p ++ spansT l
def setT (S : Nat) : List UInt8 := if S = anyB then [46] else if manyB S = 1 then byteP (leastB S) spec else 91 :: (spansT (spansL S) ++ [93])
def timesT (mn mx : Int) : List UInt8 :=
  if mn = 0 ∧ mx = -1 then [42] else if mn = 1 ∧ mx = -1 then [43] else if mn = 0 ∧ mx = 1 then [63]
  else if mn = mx then 123 :: (Lib.itoa mn ++ [125]) else if mx = -1 then 123 :: (Lib.itoa mn ++ [44, 125]) else 123 :: (Lib.itoa mn ++ 44 :: (Lib.itoa mx ++ [125]))
def inB (b : Bool) (l : List UInt8) : List UInt8 := if b then 40 :: (l ++ [41]) else l
mutual
def putT : NodeT → List UInt8
  | .mk k s mn mx kids => if k = 1 then setT s else if k = 2 then [94] else if k = 3 then [36] else if k = 4 then catsT kids else if k = 5 then altsT kids else if k = 6 then firstP kids ++ timesT mn mx else []
def catsT : List NodeT → List UInt8
  | [] => []
  | n :: l => inB (decide (n.kind = 5)) (putT n) ++ catsT l
def altsT : List NodeT → List UInt8
  | [] => []
  | n :: l => putT n ++ barsT l
def barsT : List NodeT → List UInt8
  | [] => []
  | n :: l => 124 :: (putT n ++ barsT l)
def firstP : List NodeT → List UInt8
  | [] => [40, 41]
  | n :: _ => inB (decide (n.kind = 0) || decide (4 ≤ n.kind)) (putT n)
end
theorem catsT_nil : catsT [] = [] := by rw [catsT]
theorem catsT_cons (n : NodeT) (l : List NodeT) : catsT (n :: l) = inB (decide (n.kind = 5)) (putT n) ++ catsT l := by rw [catsT]
theorem barsT_nil : barsT [] = [] := by rw [barsT]
theorem barsT_cons (n : NodeT) (l : List NodeT) : barsT (n :: l) = 124 :: (putT n ++ barsT l) := by rw [barsT]
theorem altsT_nil : altsT [] = [] := by rw [altsT]
theorem altsT_cons (n : NodeT) (l : List NodeT) : altsT (n :: l) = putT n ++ barsT l := by rw [altsT]
theorem firstP_cons (n : NodeT) (l : List NodeT) : firstP (n :: l) = inB (decide (n.kind = 0) || decide (4 ≤ n.kind)) (putT n) := by rw [firstP]
theorem putT_mk (k : Int) (s : Nat) (mn mx : Int) (kids : List NodeT) : putT (.mk k s mn mx kids) = if k = 1 then setT s else if k = 2 then [94] else if k = 3 then [36] else if k = 4 then catsT kids else if k = 5 then altsT kids else if k = 6 then firstP kids ++ timesT mn mx else [] := by rw [putT]
theorem spansT_app (l m : List (Nat × Nat)) : spansT (l ++ m) = spansT l ++ spansT m := by
  induction l with
  | nil => rfl
  | cons p l ih => rw [List.cons_append, spansT, spansT, ih, List.append_assoc]
theorem byteP_len (b : Nat) (l : List UInt8) : (byteP b l).length ≤ 2 := by
  unfold byteP
  split <;> simp
theorem spanT_len (p : Nat × Nat) : (spanT p).length ≤ 5 := by
  unfold spanT
  have h1 := byteP_len p.1 cspec
  have h2 := byteP_len p.2 cspec
  rw [List.length_append]
  split
  · rw [List.length_cons]; omega
  · simp; omega
theorem spansT_len (l : List (Nat × Nat)) : (spansT l).length ≤ 5 * l.length := by
  induction l with
  | nil => simp [spansT]
  | cons p l ih =>
    rw [spansT, List.length_append, List.length_cons]
    have := spanT_len p
    omega
theorem spansL_len (S : Nat) : (spansL S).length ≤ 256 := spansF_len S 256 0
theorem setT_len (S : Nat) : (setT S).length ≤ 1282 := by
  unfold setT
  split
  · simp
  · split
    · have := byteP_len (leastB S) spec; omega
    · have h1 := spansT_len (spansL S)
      have h2 := spansL_len S
      rw [List.length_cons, List.length_append]
      simp
      omega
theorem inB_len (b : Bool) (l : List UInt8) : (inB b l).length ≤ l.length + 2 := by
  unfold inB
  split <;> simp
theorem oneB_bit (b j : Nat) : (oneB b).testBit j = decide (j = b) := by
  unfold oneB
  rw [withB_bit, Nat.zero_testBit, Bool.false_or, Bool.eq_iff_iff]
  simp
  omega
theorem u8_nat {b : Nat} (h : b < 256) : (UInt8.ofNat b).toNat = b := UInt8.toNat_ofNat_of_lt' h
theorem spansF_ok (S : Nat) : ∀ n b, ∀ p ∈ spansF S n b, p.1 ≤ p.2 ∧ p.2 < 256
  | 0, b, p, h => by cases h
  | n + 1, b, p, h => by
    rw [spansF] at h
    split at h
    · cases h
    · split at h
      · rcases List.mem_cons.1 h with rfl | h
        · exact ⟨runE_ge S 256 b, by have := runE_le S 256 b (by omega); show runE S 256 b < 256; omega⟩
        · exact spansF_ok S n _ p h
      · exact spansF_ok S n _ p h
inductive NF : NodeT → Prop where
  | nil : NF .nil
  | one {S : Nat} (h : S < 2 ^ 256) (h0 : S ≠ 0) : NF (.one S)
  | beg : NF (.mk 2 0 0 0 [])
  | fin : NF (.mk 3 0 0 0 [])
  | cat {l : List NodeT} (h : 2 ≤ l.length) (hk : ∀ x, x ∈ l → x.kind ≠ 0 ∧ x.kind ≠ 4) (hl : ∀ x, x ∈ l → NF x) : NF (.mk 4 0 0 0 l)
  | alt {l : List NodeT} (h : 2 ≤ l.length) (hk : ∀ x, x ∈ l → x.kind ≠ 5) (hl : ∀ x, x ∈ l → NF x) : NF (.mk 5 0 0 0 l)
  | rep {x : NodeT} {m n : Int} (hx : NF x) (h0 : 0 ≤ m) (h20 : m ≤ 20) (hn : n = -1 ∨ m ≤ n ∧ n ≤ 20) : NF (.rep x m n)
def noTimes (r : List UInt8) : Prop := ∀ c q, r = c :: q → c ≠ 42 ∧ c ≠ 43 ∧ c ≠ 63 ∧ c ≠ 123
def StopE (g : Bool) (r : List UInt8) : Prop := r = [] ∨ ∃ q, r = 41 :: q ∧ g = true
def goodHead (l : List UInt8) : Prop := ∃ c q, l = c :: q ∧ c ≠ 124 ∧ c ≠ 41 ∧ c ≠ 42 ∧ c ≠ 43 ∧ c ≠ 63 ∧ c ≠ 123
theorem goodHead.no {l : List UInt8} (h : goodHead l) : noTimes l := by
  obtain ⟨c, q, rfl, h1, h2, h3, h4, h5, h6⟩ := h
  intro a b e
  injection e with e _
  subst e
  exact ⟨h3, h4, h5, h6⟩
theorem goodHead.go {l : List UInt8} (h : goodHead l) (g : Bool) : stopP g l = false := by
  obtain ⟨c, q, rfl, h1, h2, h3, h4, h5, h6⟩ := h
  show (c == 124 || (c == 41 && g)) = false
  rw [beq_eq_false_iff_ne.2 h1, beq_eq_false_iff_ne.2 h2]
  rfl
theorem inB_true (l : List UInt8) : inB true l = 40 :: (l ++ [41]) := rfl
theorem inB_false (l : List UInt8) : inB false l = l := rfl
theorem putT_one (S : Nat) : putT (.one S) = setT S := by rw [NodeT.one, putT_mk, if_pos rfl]
theorem putT_cat (l : List NodeT) : putT (.mk 4 0 0 0 l) = catsT l := by rw [putT_mk]; rfl
theorem putT_alt (l : List NodeT) : putT (.mk 5 0 0 0 l) = altsT l := by rw [putT_mk]; rfl
theorem putT_rep (x : NodeT) (m n : Int) : putT (.rep x m n) = inB (decide (x.kind = 0) || decide (4 ≤ x.kind)) (putT x) ++ timesT m n := by rw [NodeT.rep, putT_mk, ← firstP_cons x []]; rfl
theorem putT_nil : putT .nil = [] := by rw [NodeT.nil, putT_mk]; rfl
theorem StopE.stop {g : Bool} {r : List UInt8} (h : StopE g r) : stopP g r = true := by
  rcases h with rfl | ⟨q, rfl, rfl⟩ <;> rfl
theorem StopE.no {g : Bool} {r : List UInt8} (h : StopE g r) : noTimes r := by
  rcases h with rfl | ⟨q, rfl, rfl⟩
  · intro c q e; cases e
  · intro c p e; injection e with e _; subst e; decide
theorem exprP_succ (f : Nat) (g : Bool) (l : List UInt8) : exprP (f + 1) g l = (match seqP (exprP f true) g (l.length + 1) [] l with
    | .bad k => .bad k
    | .ok n r => altsP (exprP f true) g (r.length + 1) [n] r) := by rw [exprP]; rfl
theorem bit_ne {S j : Nat} (h : S.testBit j = true) : S ≠ 0 := fun e => by rw [e, Nat.zero_testBit] at h; cases h
theorem oneB_ne (b : Nat) : oneB b ≠ 0 := bit_ne (j := b) (by rw [oneB_bit]; exact decide_eq_true rfl)
theorem escP_ne {l r : List UInt8} {S : Nat} (h : escP l = some (S, r)) : S ≠ 0 := by
  cases l with
  | nil => cases h
  | cons b q =>
    rw [escP_cons] at h
    split at h
    · cases h; exact oneB_ne _
    · split at h
      · cases h; exact oneB_ne _
      · split at h
        · cases h; decide +kernel
        · split at h
          · cases h; decide +kernel
          · split at h
            · cases h; decide +kernel
            · split at h
              · cases h; exact oneB_ne _
              · cases h
theorem itemsP_lt2 : ∀ (n all : Nat) (l r : List UInt8) (S : Nat), all < 2 ^ 256 → itemsP n all l = some (S, r) → S < 2 ^ 256
  | 0, _, _, _, _, _, h => by cases h
  | n + 1, all, l, r, S, ha, h => by
    by_cases h93 : ∃ q, l = 93 :: q
    · obtain ⟨q, rfl⟩ := h93
      rw [itemsP_end] at h
      cases h
      exact ha
    · rw [itemsP_next (fun q e => h93 ⟨q, e⟩)] at h
      cases hm : itemP l with
      | none => rw [hm] at h; cases h
      | some x =>
        obtain ⟨s, q⟩ := x
        rw [hm] at h
        exact itemsP_lt2 n _ _ _ _ (Nat.or_lt_two_pow ha (itemP_some hm).1) h
theorem classB_ok {neg : Bool} {l r : List UInt8} {S : Nat} (h : classB neg l = some (S, r)) : S < 2 ^ 256 ∧ S ≠ 0 := by
  unfold classB at h
  cases hm : itemP l with
  | none => rw [hm] at h; cases h
  | some x =>
    obtain ⟨s, q⟩ := x
    rw [hm] at h
    replace h : (match itemsP (q.length + 1) s q with
      | none => none
      | some (all, r2) => if (if neg then notB all else all) = 0 then none else some (if neg then notB all else all, r2)) = some (S, r) := h
    cases hi : itemsP (q.length + 1) s q with
    | none => rw [hi] at h; cases h
    | some y =>
      obtain ⟨all, r2⟩ := y
      rw [hi] at h
      replace h : (if (if neg then notB all else all) = 0 then none else some (if neg then notB all else all, r2)) = some (S, r) := h
      have hall := itemsP_lt2 _ _ _ _ _ (itemP_some hm).1 hi
      have hT : (if neg then notB all else all) < 2 ^ 256 := by
        cases neg
        · exact hall
        · exact notB_lt hall
      obtain ⟨T, e⟩ : ∃ T, (if neg then notB all else all) = T := ⟨_, rfl⟩
      rw [e] at h hT
      by_cases hz : T = 0
      · rw [if_pos hz] at h; cases h
      · rw [if_neg hz] at h; cases h; exact ⟨hT, hz⟩
theorem classP_ok {l r : List UInt8} {S : Nat} (h : classP l = some (S, r)) : S < 2 ^ 256 ∧ S ≠ 0 := by
  by_cases h94 : ∃ q, l = 94 :: q
  · obtain ⟨q, rfl⟩ := h94
    rw [classP_hat] at h
    exact classB_ok h
  · rw [classP_not (fun q e => h94 ⟨q, e⟩)] at h
    exact classB_ok h
def ENF (E : List UInt8 → Res NodeT) : Prop := ∀ l n r, E l = .ok n r → NF n
theorem atomP_nf {E : List UInt8 → Res NodeT} (hE : ENF E) {l : List UInt8} {n : NodeT} {r : List UInt8} (h : atomP E l = .ok n r) : NF n := by
  cases l with
  | nil => cases h
  | cons b q =>
    rw [atomP_cons] at h
    split at h
    · cases he : E q with
      | bad k => rw [he] at h; cases h
      | ok m q2 =>
        have h1 := hE q m q2 he
        rw [he] at h
        match q2, h with
        | [], h => cases h
        | c :: r2, h =>
          by_cases hc : c = 41
          · subst hc
            simp only at h
            cases h
            exact h1
          · simp [hc] at h
    · split at h
      · cases h; exact .one (by decide +kernel) (by decide +kernel)
      · split at h
        · cases h; exact .beg
        · split at h
          · cases h; exact .fin
          · split at h
            · obtain ⟨S, hs, rfl⟩ := foundP_ok h
              exact .one (escP_some hs).1 (escP_ne hs)
            · split at h
              · obtain ⟨S, hs, rfl⟩ := foundP_ok h
                exact .one (classP_ok hs).1 (classP_ok hs).2
              · split at h
                · cases h
                · cases h; exact .one (oneB_lt _ (UInt8.toNat_lt b)) (oneB_ne _)
theorem decP_le {d : List UInt8} {m : Nat} (h : decP d = some m) : m ≤ 20 := by
  match d, h with
  | [a], h =>
    have h' : (if isDig a then some (a.toNat - 48) else none) = some m := h
    split at h'
    · rename_i ha
      injection h' with h'
      unfold isDig at ha
      simp at ha
      omega
    · cases h'
  | [a, b], h =>
    have h' : (if a = 49 ∧ isDig b then some (10 + (b.toNat - 48)) else if a = 50 ∧ b = 48 then some 20 else none) = some m := h
    split at h'
    · rename_i ha
      injection h' with h'
      have ha := ha.2
      unfold isDig at ha
      simp at ha
      omega
    · split at h'
      · injection h' with h'
        omega
      · cases h'
theorem countP_le {l r : List UInt8} {m : Nat} (h : countP l = some (m, r)) : m ≤ 20 := by
  unfold countP at h
  cases hd : decP (l.takeWhile isDig) with
  | none => rw [hd] at h; cases h
  | some k => rw [hd] at h; cases h; exact decP_le hd
theorem boundsP_ok {l r : List UInt8} {a b : Int} (h : boundsP l = some (a, b, r)) : 0 ≤ a ∧ a ≤ 20 ∧ (b = -1 ∨ a ≤ b ∧ b ≤ 20) := by
  cases hc : countP l with
  | none => rw [bP_none hc] at h; cases h
  | some x =>
    obtain ⟨m, q⟩ := x
    have hm := countP_le hc
    by_cases h1 : ∃ p, q = 125 :: p
    · obtain ⟨p, hp⟩ := h1
      rw [hp] at hc
      rw [bP_one hc] at h
      cases h
      exact ⟨by omega, by omega, .inr ⟨Int.le_refl _, by omega⟩⟩
    · by_cases h2 : ∃ p, q = 44 :: 125 :: p
      · obtain ⟨p, hp⟩ := h2
        rw [hp] at hc
        rw [bP_from hc] at h
        cases h
        exact ⟨by omega, by omega, .inl rfl⟩
      · by_cases h3 : ∃ p, q = 44 :: p
        · obtain ⟨p, hp⟩ := h3
          rw [hp] at hc
          rw [bP_two hc (fun z e => h2 ⟨z, by rw [hp, e]⟩)] at h
          cases hc2 : countP p with
          | none => rw [hc2] at h; cases h
          | some y =>
            obtain ⟨m2, q2⟩ := y
            have hm2 := countP_le hc2
            rw [hc2] at h
            match q2, h with
            | 125 :: r2, h =>
              simp only at h
              split at h
              · cases h
                exact ⟨by omega, by omega, .inr ⟨by omega, by omega⟩⟩
              · cases h
            | [], h => cases h
            | c :: r2, h =>
              by_cases hc3 : c = 125
              · subst hc3
                simp only at h
                split at h
                · cases h
                  exact ⟨by omega, by omega, .inr ⟨by omega, by omega⟩⟩
                · cases h
              · simp [hc3] at h
        · rw [bP_other hc (fun z e => h1 ⟨z, e⟩) (fun z e => h3 ⟨z, e⟩)] at h
          cases h
theorem timesP_nf {l : List UInt8} {n m : NodeT} {r : List UInt8} (h0 : NF n) (h : timesP n l = .ok m r) : NF m := by
  cases l with
  | nil => cases h; exact h0
  | cons b q =>
    rw [timesP_cons] at h
    split at h
    · cases h; exact .rep h0 (by decide) (by decide) (.inl rfl)
    · split at h
      · cases h; exact .rep h0 (by decide) (by decide) (.inl rfl)
      · split at h
        · cases h; exact .rep h0 (by decide) (by decide) (.inr (by decide))
        · split at h
          · cases hb : boundsP q with
            | none => rw [hb] at h; cases h
            | some x =>
              obtain ⟨a, c, q2⟩ := x
              obtain ⟨b1, b2, b3⟩ := boundsP_ok hb
              rw [hb] at h
              cases h
              exact .rep h0 b1 b2 b3
          · cases h; exact h0
theorem pieceP_nf {E : List UInt8 → Res NodeT} (hE : ENF E) {l : List UInt8} {n : NodeT} {r : List UInt8} (h : pieceP E l = .ok n r) : NF n := by
  unfold pieceP at h
  cases ha : atomP E l with
  | bad k => rw [ha] at h; cases h
  | ok m q =>
    rw [ha] at h
    exact timesP_nf (atomP_nf hE ha) h
theorem catK_nf : ∀ (l : List NodeT), (∀ x, x ∈ l → NF x) → ∀ y, y ∈ catK l → NF y ∧ y.kind ≠ 0 ∧ y.kind ≠ 4
  | [], _, y, hy => by cases hy
  | x :: l, h, y, hy => by
    have ih := catK_nf l (fun z hz => h z (List.mem_cons_of_mem x hz))
    rw [catK] at hy
    split at hy
    · exact ih y hy
    · rename_i h0
      split at hy
      · rename_i h4
        rcases List.mem_append.1 hy with hy | hy
        · have hx := h x List.mem_cons_self
          cases hx with
          | cat a b c => exact ⟨c y hy, b y hy⟩
          | nil => cases hy
          | one => cases hy
          | beg => cases hy
          | fin => cases hy
          | alt => cases h4
          | rep => cases h4
        · exact ih y hy
      · rename_i h4
        rcases List.mem_cons.1 hy with rfl | hy
        · exact ⟨h y List.mem_cons_self, h0, h4⟩
        · exact ih y hy
theorem altK_nf : ∀ (l : List NodeT), (∀ x, x ∈ l → NF x) → ∀ y, y ∈ altK l → NF y ∧ y.kind ≠ 5
  | [], _, y, hy => by cases hy
  | x :: l, h, y, hy => by
    have ih := altK_nf l (fun z hz => h z (List.mem_cons_of_mem x hz))
    rw [altK] at hy
    split at hy
    · rename_i h5
      rcases List.mem_append.1 hy with hy | hy
      · have hx := h x List.mem_cons_self
        cases hx with
        | alt a b c => exact ⟨c y hy, b y hy⟩
        | nil => cases hy
        | one => cases hy
        | beg => cases hy
        | fin => cases hy
        | cat => cases h5
        | rep => cases h5
      · exact ih y hy
    · rename_i h5
      rcases List.mem_cons.1 hy with rfl | hy
      · exact ⟨h y List.mem_cons_self, h5⟩
      · exact ih y hy
theorem NF.wf {x : NodeT} (h : NF x) : WfT x := by
  cases h with
  | nil => exact wf_nil
  | one => exact wf_one _
  | beg => rintro (h | h) <;> cases h
  | fin => rintro (h | h) <;> cases h
  | cat h _ _ => exact fun _ => h
  | alt h _ _ => exact fun _ => h
  | rep => exact wf_rep _ _ _
theorem catT_nf {l : List NodeT} (h : ∀ x, x ∈ l → NF x) : NF (catT l) := by
  have hk := catK_nf l h
  rcases (show (catK l).length = 0 ∨ (catK l).length = 1 ∨ 2 ≤ (catK l).length by omega) with h0 | h0 | h0
  · rw [catT_zero h0]; exact .nil
  · obtain ⟨x, hx⟩ : ∃ x, catK l = [x] := by
      match hk : catK l, h0 with
      | [x], _ => exact ⟨x, rfl⟩
    rw [catT_one hx]
    exact (hk x (by rw [hx]; exact List.mem_singleton.2 rfl)).1
  · rw [catT_more h0]
    exact .cat h0 (fun x hx => (hk x hx).2) (fun x hx => (hk x hx).1)
theorem choice_nf {l : List NodeT} (h : ∀ x, x ∈ l → NF x) (h1 : 1 ≤ l.length) : NF (choiceT l) := by
  by_cases h2 : l.length = 1
  · match l, h2 with
    | [x], _ => exact h x List.mem_cons_self
  · rw [choice_more h2]
    have hk := altK_nf l h
    exact .alt (by have := altK_ge (fun n hn => (h n hn).wf); omega) (fun x hx => (hk x hx).2) (fun x hx => (hk x hx).1)
theorem mem_snoc {l : List NodeT} {x : NodeT} (h : ∀ y, y ∈ l → NF y) (hx : NF x) : ∀ y, y ∈ l ++ [x] → NF y := fun y hy => by
  rcases List.mem_append.1 hy with hy | hy
  · exact h y hy
  · rw [List.mem_singleton] at hy; rw [hy]; exact hx
theorem seqP_nf {E : List UInt8 → Res NodeT} (hE : ENF E) {g : Bool} : ∀ (n : Nat) (acc : List NodeT) (l : List UInt8) (m : NodeT) (r : List UInt8), (∀ x, x ∈ acc → NF x) → seqP E g n acc l = .ok m r → NF m
  | 0, _, _, _, _, _, h => by cases h
  | n + 1, acc, l, m, r, ha, h => by
    rw [seqP_next] at h
    split at h
    · cases h; exact catT_nf ha
    · cases hp : pieceP E l with
      | bad k => rw [hp] at h; cases h
      | ok x q =>
        rw [hp] at h
        exact seqP_nf hE n _ q m r (mem_snoc ha (pieceP_nf hE hp)) h
theorem altsP_nf {E : List UInt8 → Res NodeT} (hE : ENF E) {g : Bool} : ∀ (n : Nat) (acc : List NodeT) (l : List UInt8) (m : NodeT) (r : List UInt8), (∀ x, x ∈ acc → NF x) → 1 ≤ acc.length → altsP E g n acc l = .ok m r → NF m
  | 0, _, _, _, _, _, _, h => by cases h
  | n + 1, acc, l, m, r, ha, h1, h => by
    by_cases hb : ∃ q, l = 124 :: q
    · obtain ⟨q, rfl⟩ := hb
      rw [altsP_bar] at h
      cases hs : seqP E g (q.length + 1) [] q with
      | bad k => rw [hs] at h; cases h
      | ok x r2 =>
        rw [hs] at h
        exact altsP_nf hE n _ r2 m r (mem_snoc ha (seqP_nf hE _ _ _ _ _ (fun _ h => by cases h) hs)) (by rw [List.length_append]; omega) h
    · rw [altsP_end (fun q e => hb ⟨q, e⟩)] at h
      cases h
      exact choice_nf ha h1
theorem exprP_nf : ∀ (f : Nat) (g : Bool), ENF (exprP f g)
  | 0, _ => fun _ _ _ h => by cases h
  | f + 1, g => fun l n r h => by
    have hE := exprP_nf f true
    rw [exprP_succ] at h
    cases hs : seqP (exprP f true) g (l.length + 1) [] l with
    | bad k => rw [hs] at h; cases h
    | ok x q =>
      rw [hs] at h
      exact altsP_nf hE _ [x] q n r (fun y hy => by rw [List.mem_singleton] at hy; rw [hy]; exact seqP_nf hE _ _ _ _ _ (fun _ h => by cases h) hs) (Nat.le_refl _) h
theorem seqP_end {E : List UInt8 → Res NodeT} {g : Bool} : ∀ (n : Nat) (acc : List NodeT) (l : List UInt8) (m : NodeT) (r : List UInt8), seqP E g n acc l = .ok m r → stopP g r = true
  | 0, _, _, _, _, h => by cases h
  | n + 1, acc, l, m, r, h => by
    rw [seqP_next] at h
    split at h
    · rename_i hs; cases h; exact hs
    · cases hp : pieceP E l with
      | bad k => rw [hp] at h; cases h
      | ok x q => rw [hp] at h; exact seqP_end n _ q m r h
theorem stop_end {g : Bool} {r : List UInt8} (h : stopP g r = true) (hb : ∀ q, r ≠ 124 :: q) : StopE g r := by
  cases r with
  | nil => exact .inl rfl
  | cons c q =>
    have h' : (c == 124 || (c == 41 && g)) = true := h
    have hc : c ≠ 124 := fun e => hb q (by rw [e])
    rw [beq_eq_false_iff_ne.2 hc, Bool.false_or, Bool.and_eq_true] at h'
    exact .inr ⟨q, by rw [eq_of_beq h'.1], h'.2⟩
theorem altsP_stop {E : List UInt8 → Res NodeT} {g : Bool} : ∀ (n : Nat) (acc : List NodeT) (l : List UInt8) (m : NodeT) (r : List UInt8), stopP g l = true → altsP E g n acc l = .ok m r → StopE g r
  | 0, _, _, _, _, _, h => by cases h
  | n + 1, acc, l, m, r, hs, h => by
    by_cases hb : ∃ q, l = 124 :: q
    · obtain ⟨q, rfl⟩ := hb
      rw [altsP_bar] at h
      cases hs2 : seqP E g (q.length + 1) [] q with
      | bad k => rw [hs2] at h; cases h
      | ok x r2 =>
        rw [hs2] at h
        exact altsP_stop n _ r2 m r (seqP_end _ _ _ _ _ hs2) h
    · rw [altsP_end (fun q e => hb ⟨q, e⟩)] at h
      cases h
      exact stop_end hs (fun q e => hb ⟨q, e⟩)
theorem exprP_stop {f : Nat} {g : Bool} {l : List UInt8} {n : NodeT} {r : List UInt8} (h : exprP f g l = .ok n r) : StopE g r := by
  cases f with
  | zero => cases h
  | succ f =>
    rw [exprP_succ] at h
    cases hs : seqP (exprP f true) g (l.length + 1) [] l with
    | bad k => rw [hs] at h; cases h
    | ok x q =>
      rw [hs] at h
      exact altsP_stop _ _ _ _ _ (seqP_end _ _ _ _ _ hs) h
def GX (g g' : Bool) (e : List UInt8) : Prop := (e = [] ∧ g' = g) ∨ ((∃ q, e = 41 :: q) ∧ g' = true)
theorem GX.head {g g' : Bool} {e : List UInt8} (h : GX g g' e) {c : UInt8} (hc : c ≠ 41) : ∀ q, e ≠ c :: q := by
  rcases h with ⟨rfl, _⟩ | ⟨⟨p, rfl⟩, _⟩
  · intro q h; cases h
  · intro q h; injection h with h _; exact hc h.symm
theorem GX.no {g g' : Bool} {e : List UInt8} (h : GX g g' e) : noTimes e := fun c q he => ⟨fun hc => h.head (c := 42) (by decide) q (by rw [he, hc]), fun hc => h.head (c := 43) (by decide) q (by rw [he, hc]), fun hc => h.head (c := 63) (by decide) q (by rw [he, hc]), fun hc => h.head (c := 123) (by decide) q (by rw [he, hc])⟩
theorem GX.all {g g' : Bool} {e : List UInt8} (h : GX g g' e) : GX true true e := by
  rcases h with ⟨rfl, _⟩ | ⟨h, _⟩
  · exact .inl ⟨rfl, rfl⟩
  · exact .inr ⟨h, rfl⟩
end Go.Proofs.YtbkpoimaienhpaaGreatDoor
