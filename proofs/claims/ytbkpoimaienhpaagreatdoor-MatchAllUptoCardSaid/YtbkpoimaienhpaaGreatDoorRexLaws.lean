-- shaken
import Derived.Test.YtbkpoimaienhpaaGreatDoorRexNF
import Derived.Test.YtbkpoimaienhpaaGreatDoorRexRight
namespace Go.Proofs.YtbkpoimaienhpaaGreatDoor
open Go.RowKit
set_option linter.unusedVariables false
set_option linter.unusedSimpArgs false
theorem catsT_app2 (l m : List NodeT) : catsT (l ++ m) = catsT l ++ catsT m := by
  induction l with
  | nil => rw [catsT_nil]; rfl
  | cons x l ih => rw [List.cons_append, catsT_cons, catsT_cons, ih, List.append_assoc]
theorem itoa_len : ∀ m : Nat, m < 21 → (Lib.itoa (m : Int)).length ≤ 2 := by decide +kernel
theorem timesT_len {m n : Nat} (hm : m ≤ 20) (hn : n ≤ 20) : (timesT m n).length ≤ 7 := by
  have h1 := itoa_len m (by omega)
  have h2 := itoa_len n (by omega)
  unfold timesT
  split
  · simp
  · split
    · simp
    · split
      · simp
      · split
        · simp; omega
        · split <;> simp <;> omega
def RD (l : List UInt8) (x : NodeT) : Prop := exprP (l.length + 1) false l = .ok x []
theorem RD.nf {l : List UInt8} {x : NodeT} (h : RD l x) : NF x := exprP_nf _ _ _ _ _ h
theorem RD.parse {l : List UInt8} {x : NodeT} (h : RD l x) (hl : l.length ≤ 256) : parseB l = if 200 < sizeT x then (.nil, (l.length : Int), 4) else (x, (l.length : Int), 0) := by
  unfold parseB
  rw [if_neg (by omega), show exprP (l.length + 1) false l = .ok x [] from h]
  show (if 200 < sizeT x then (NodeT.nil, (l.length : Int) - (([] : List UInt8).length : Int), (4 : Int)) else (x, (l.length : Int) - (([] : List UInt8).length : Int), 0)) = _
  simp
theorem RD.of {l : List UInt8} {x : NodeT} {a : Int} (h : parseB l = (x, a, 0)) : RD l x ∧ sizeT x ≤ 200 ∧ l.length ≤ 256 ∧ a = l.length := by
  unfold parseB at h
  split at h
  · injection h with _ h; injection h with _ h; cases h
  · rename_i hl
    cases hx : exprP (l.length + 1) false l with
    | bad k => rw [hx] at h; injection h with _ h; injection h with _ h; cases h
    | ok m r =>
      rw [hx] at h
      replace h : (if 200 < sizeT m then (NodeT.nil, (l.length : Int) - (r.length : Int), (4 : Int)) else (m, (l.length : Int) - (r.length : Int), 0)) = (x, a, 0) := h
      have hr : r = [] := by
        rcases exprP_stop hx with h1 | ⟨q, _, h1⟩
        · exact h1
        · cases h1
      subst hr
      split at h
      · injection h with _ h; injection h with _ h; cases h
      · injection h with h1 h2
        injection h2 with h2 _
        subst h1
        exact ⟨hx, by omega, by omega, by rw [← h2]; simp⟩
theorem rightsT_all : ∀ (l : List NodeT), (∀ x, x ∈ l → rightT x = true) → rightsT l = true
  | [], _ => rightsT_nil
  | x :: l, h => by rw [rightsT_cons, h x List.mem_cons_self, rightsT_all l (fun y hy => h y (List.mem_cons_of_mem x hy))]; rfl
theorem right_nf {x : NodeT} (h : NF x) : rightT x = true := by
  induction h with
  | nil => rw [NodeT.nil, rightT, rightsT_nil]; rfl
  | one h h0 => rw [NodeT.one, rightT, rightsT_nil, decide_eq_false h0]; rfl
  | beg => rw [rightT, rightsT_nil]; rfl
  | fin => rw [rightT, rightsT_nil]; rfl
  | cat h hk hl ih =>
    rw [rightT, rightsT_all _ ih]
    unfold kidsR
    rw [if_neg (by decide), if_pos (by decide), decide_eq_true h]
    rfl
  | alt h hk hl ih =>
    rw [rightT, rightsT_all _ ih]
    unfold kidsR
    rw [if_neg (by decide), if_pos (by decide), decide_eq_true h]
    rfl
  | rep hx h0 h20 hn ih =>
    rw [NodeT.rep, rightT, rightsT_cons, ih, rightsT_nil]
    unfold kidsR boundsR
    rw [if_neg (by decide), if_neg (by omega)]
    rcases hn with rfl | ⟨h1, h2⟩
    · rfl
    · rw [decide_eq_true h1, decide_eq_true h2]
      simp
def sumP (c : Nat) : List NodeT → Nat
  | [] => 0
  | x :: l => (putT x).length + c + sumP c l
theorem sumP_app (c : Nat) (l m : List NodeT) : sumP c (l ++ m) = sumP c l + sumP c m := by
  induction l with
  | nil => simp [sumP]
  | cons x l ih => rw [List.cons_append, sumP, sumP, ih]; omega
theorem catK_len : ∀ (L : List NodeT), (∀ x, x ∈ L → NF x) → (catsT (catK L)).length ≤ sumP 2 L
  | [], _ => by rw [catK, catsT_nil]; exact Nat.zero_le _
  | x :: L, h => by
    have ih := catK_len L (fun y hy => h y (List.mem_cons_of_mem x hy))
    have hx := h x List.mem_cons_self
    rw [catK, sumP]
    split
    · omega
    · split
      · rename_i h4
        rw [catsT_app2, List.length_append]
        have : catsT x.kids = putT x := by
          cases hx with
          | nil => cases h4
          | one => cases h4
          | beg => cases h4
          | fin => cases h4
          | alt => cases h4
          | rep => cases h4
          | cat => rw [putT_cat]; rfl
        rw [this]
        omega
      · rw [catsT_cons, List.length_append]
        have := inB_len (decide (x.kind = 5)) (putT x)
        omega
theorem inB_ge (b : Bool) (l : List UInt8) : l.length ≤ (inB b l).length := by
  cases b
  · exact Nat.le_refl _
  · rw [inB_true]; simp; omega
theorem catT_len {L : List NodeT} (h : ∀ x, x ∈ L → NF x) : (putT (catT L)).length ≤ sumP 2 L := by
  have h1 := catK_len L h
  rcases (show (catK L).length = 0 ∨ (catK L).length = 1 ∨ 2 ≤ (catK L).length by omega) with h0 | h0 | h0
  · rw [catT_zero h0, putT_nil]; exact Nat.zero_le _
  · obtain ⟨x, hx⟩ : ∃ x, catK L = [x] := by
      match hk : catK L, h0 with
      | [x], _ => exact ⟨x, rfl⟩
    rw [catT_one hx]
    rw [hx, catsT_cons, catsT_nil, List.append_nil] at h1
    have := inB_ge (decide (x.kind = 5)) (putT x)
    omega
  · rw [catT_more h0, putT_cat]
    exact h1
theorem barsT_app2 (l m : List NodeT) : barsT (l ++ m) = barsT l ++ barsT m := by
  induction l with
  | nil => rw [barsT_nil]; rfl
  | cons x l ih => rw [List.cons_append, barsT_cons, barsT_cons, ih, List.cons_append, List.append_assoc]
theorem altK_len : ∀ (L : List NodeT), (∀ x, x ∈ L → NF x) → (barsT (altK L)).length ≤ sumP 1 L
  | [], _ => by rw [altK, barsT_nil]; exact Nat.zero_le _
  | x :: L, h => by
    have ih := altK_len L (fun y hy => h y (List.mem_cons_of_mem x hy))
    have hx := h x List.mem_cons_self
    rw [altK, sumP]
    split
    · rename_i h5
      rw [barsT_app2, List.length_append]
      have : (barsT x.kids).length ≤ (putT x).length + 1 := by
        cases hx with
        | nil => cases h5
        | one => cases h5
        | beg => cases h5
        | fin => cases h5
        | cat => cases h5
        | rep => cases h5
        | alt h2 _ _ =>
          rename_i L2 h3 h4
          rw [putT_alt]
          show (barsT L2).length ≤ _
          cases L2 with
          | nil => simp at h2
          | cons y l => rw [barsT_cons, altsT_cons, List.length_cons]; omega
      omega
    · rw [barsT_cons, List.length_cons, List.length_append]
      omega
theorem altT_len {L : List NodeT} (h : ∀ x, x ∈ L → NF x) : (putT (altT L)).length ≤ sumP 1 L := by
  have h1 := altK_len L h
  unfold altT
  rw [putT_alt]
  cases hk : altK L with
  | nil => rw [altsT_nil]; exact Nat.zero_le _
  | cons y l =>
    rw [hk, barsT_cons, List.length_cons] at h1
    rw [altsT_cons]
    omega
theorem choice_len {L : List NodeT} (h : ∀ x, x ∈ L → NF x) : (putT (choiceT L)).length ≤ sumP 1 L := by
  by_cases h1 : L.length = 1
  · match L, h1 with
    | [x], _ => rw [choice_one, sumP]; omega
  · rw [choice_more h1]
    exact altT_len h
def EPl (E : List UInt8 → Res NodeT) : Prop := ∀ l n r, E l = .ok n r → (putT n).length + 1300 * r.length ≤ 1300 * l.length + 1
theorem timesT_len2 {m n : Int} (h0 : 0 ≤ m) (h20 : m ≤ 20) (hn : n = -1 ∨ m ≤ n ∧ n ≤ 20) : (timesT m n).length ≤ 7 := by
  obtain ⟨k, rfl⟩ : ∃ k : Nat, m = k := ⟨m.toNat, by omega⟩
  rcases hn with rfl | ⟨h1, h2⟩
  · have h3 := itoa_len k (by omega)
    unfold timesT
    split
    · simp
    · split
      · simp
      · split
        · simp
        · split
          · simp; omega
          · split <;> simp <;> omega
  · obtain ⟨j, rfl⟩ : ∃ j : Nat, n = j := ⟨n.toNat, by omega⟩
    exact timesT_len (by omega) (by omega)
theorem atomP_pl {E : List UInt8 → Res NodeT} (hE : EPl E) {l : List UInt8} {n : NodeT} {r : List UInt8} (h : atomP E l = .ok n r) : (putT n).length + 2 + 1300 * r.length ≤ 1300 * l.length := by
  have hone : ∀ S, (putT (.one S)).length ≤ 1282 := fun S => by rw [putT_one]; exact setT_len S
  cases l with
  | nil => cases h
  | cons b q =>
    rw [atomP_cons] at h
    rw [List.length_cons]
    split at h
    · cases he : E q with
      | bad k => rw [he] at h; cases h
      | ok m q2 =>
        have h1 := hE q m q2 he
        rw [he] at h
        match q2, h, h1 with
        | [], h, _ => cases h
        | c :: r2, h, h1 =>
          by_cases hc : c = 41
          · subst hc
            simp only at h
            cases h
            rw [List.length_cons] at h1
            omega
          · simp [hc] at h
    · split at h
      · cases h; have := hone anyB; omega
      · split at h
        · cases h; rw [putT_mk]; show 1 + 2 + _ ≤ _; omega
        · split at h
          · cases h; rw [putT_mk]; show 1 + 2 + _ ≤ _; omega
          · split at h
            · obtain ⟨S, hs, rfl⟩ := foundP_ok h
              have := (escP_some hs).2
              have := hone S
              omega
            · split at h
              · obtain ⟨S, hs, rfl⟩ := foundP_ok h
                have := classP_len hs
                have := hone S
                omega
              · split at h
                · cases h
                · cases h; have := hone (oneB b.toNat); omega
theorem pieceP_pl {E : List UInt8 → Res NodeT} (hE : EPl E) {l : List UInt8} {n : NodeT} {r : List UInt8} (h : pieceP E l = .ok n r) : (putT n).length + 2 + 1300 * r.length ≤ 1300 * l.length := by
  unfold pieceP at h
  cases ha : atomP E l with
  | bad k => rw [ha] at h; cases h
  | ok m q =>
    rw [ha] at h
    have h0 := atomP_pl hE ha
    have hrep : ∀ a c : Int, 0 ≤ a → a ≤ 20 → (c = -1 ∨ a ≤ c ∧ c ≤ 20) → (putT (m.rep a c)).length ≤ (putT m).length + 9 := fun a c h1 h2 h3 => by
      rw [putT_rep, List.length_append]
      have := inB_len (decide (m.kind = 0) || decide (4 ≤ m.kind)) (putT m)
      have := timesT_len2 h1 h2 h3
      omega
    replace h : timesP m q = .ok n r := h
    cases q with
    | nil => cases h; exact h0
    | cons b q =>
      rw [timesP_cons] at h
      rw [List.length_cons] at h0
      split at h
      · cases h; have := hrep 0 (-1) (by decide) (by decide) (.inl rfl); omega
      · split at h
        · cases h; have := hrep 1 (-1) (by decide) (by decide) (.inl rfl); omega
        · split at h
          · cases h; have := hrep 0 1 (by decide) (by decide) (.inr (by decide)); omega
          · split at h
            · cases hb : boundsP q with
              | none => rw [hb] at h; cases h
              | some x =>
                obtain ⟨a, c, q2⟩ := x
                have h1 := boundsP_len hb
                obtain ⟨b1, b2, b3⟩ := boundsP_ok hb
                rw [hb] at h
                cases h
                have := hrep a c b1 b2 b3
                omega
            · cases h
              rw [List.length_cons]
              omega
theorem seqP_pl {E : List UInt8 → Res NodeT} (hN : ENF E) (hE : EPl E) {g : Bool} : ∀ (n : Nat) (acc : List NodeT) (l : List UInt8) (m : NodeT) (r : List UInt8), (∀ x, x ∈ acc → NF x) → seqP E g n acc l = .ok m r → (putT m).length + 1300 * r.length ≤ 1300 * l.length + sumP 2 acc
  | 0, _, _, _, _, _, h => by cases h
  | n + 1, acc, l, m, r, ha, h => by
    rw [seqP_next] at h
    split at h
    · cases h; have := catT_len ha; omega
    · cases hp : pieceP E l with
      | bad k => rw [hp] at h; cases h
      | ok x q =>
        rw [hp] at h
        have h1 := pieceP_pl hE hp
        have h2 := seqP_pl hN hE n (acc ++ [x]) q m r (mem_snoc ha (pieceP_nf hN hp)) h
        rw [sumP_app, sumP, sumP] at h2
        omega
theorem altsP_pl {E : List UInt8 → Res NodeT} (hN : ENF E) (hE : EPl E) {g : Bool} : ∀ (n : Nat) (acc : List NodeT) (l : List UInt8) (m : NodeT) (r : List UInt8), (∀ x, x ∈ acc → NF x) → altsP E g n acc l = .ok m r → (putT m).length + 1300 * r.length ≤ 1300 * l.length + sumP 1 acc
  | 0, _, _, _, _, _, h => by cases h
  | n + 1, acc, l, m, r, ha, h => by
    by_cases hb : ∃ q, l = 124 :: q
    · obtain ⟨q, rfl⟩ := hb
      rw [altsP_bar] at h
      cases hs : seqP E g (q.length + 1) [] q with
      | bad k => rw [hs] at h; cases h
      | ok x r2 =>
        rw [hs] at h
        have h1 := seqP_pl hN hE _ _ _ _ _ (fun _ h => by cases h) hs
        have h2 := altsP_pl hN hE n (acc ++ [x]) r2 m r (mem_snoc ha (seqP_nf hN _ _ _ _ _ (fun _ h => by cases h) hs)) h
        rw [sumP_app, sumP, sumP] at h2
        rw [sumP] at h1
        rw [List.length_cons]
        omega
    · rw [altsP_end (fun q e => hb ⟨q, e⟩)] at h
      cases h
      have := choice_len ha
      omega
theorem exprP_pl : ∀ (f : Nat) (g : Bool), EPl (exprP f g)
  | 0, _ => fun _ _ _ h => by cases h
  | f + 1, g => fun l n r h => by
    have hN := exprP_nf f true
    have hE := exprP_pl f true
    rw [exprP_succ] at h
    cases hs : seqP (exprP f true) g (l.length + 1) [] l with
    | bad k => rw [hs] at h; cases h
    | ok x q =>
      rw [hs] at h
      have h1 := seqP_pl hN hE _ _ _ _ _ (fun _ h => by cases h) hs
      have hx := seqP_nf hN _ _ _ _ _ (fun _ h => by cases h) hs
      have h2 := altsP_pl hN hE _ [x] q n r (fun y hy => by rw [List.mem_singleton.1 hy]; exact hx) h
      rw [sumP, sumP] at h2
      rw [sumP] at h1
      omega
theorem parse_putlen {l : List UInt8} {x : NodeT} {a e : Int} (h : parseB l = (x, a, e)) : (putT x).length ≤ 332801 := by
  unfold parseB at h
  split at h
  · injection h with h _; rw [← h, putT_nil]; exact Nat.zero_le _
  · rename_i hl
    cases hx : exprP (l.length + 1) false l with
    | bad k => rw [hx] at h; injection h with h _; rw [← h, putT_nil]; exact Nat.zero_le _
    | ok m r =>
      rw [hx] at h
      have h1 := exprP_pl _ _ _ _ _ hx
      replace h : (if 200 < sizeT m then (NodeT.nil, (l.length : Int) - (r.length : Int), (4 : Int)) else (m, (l.length : Int) - (r.length : Int), 0)) = (x, a, e) := h
      split at h
      · injection h with h _; rw [← h, putT_nil]; exact Nat.zero_le _
      · injection h with h _; rw [← h]; omega
end Go.Proofs.YtbkpoimaienhpaaGreatDoor
