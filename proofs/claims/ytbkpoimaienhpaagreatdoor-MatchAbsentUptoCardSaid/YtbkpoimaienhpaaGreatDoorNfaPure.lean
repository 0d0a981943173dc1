-- shaken
import Derived.Test.YtbkpoimaienhpaaGreatDoorRexNF
import Derived.Test.YtbkpoimaienhpaaGreatDoorRexLaws
namespace Go.Proofs.YtbkpoimaienhpaaGreatDoor
set_option linter.unusedVariables false
set_option linter.unusedSimpArgs false
inductive Iter (R : Nat → Nat → Prop) : Nat → Nat → Nat → Prop where
  | zero (i : Nat) : Iter R 0 i i
  | succ {n i j k : Nat} (h : R i j) (t : Iter R n j k) : Iter R (n + 1) i k
def RepM (R : Nat → Nat → Prop) (mn mx : Int) (i j : Nat) : Prop := ∃ n : Nat, mn ≤ n ∧ (mx < 0 ∨ (n : Int) ≤ mx) ∧ Iter R n i j
mutual
def MT (s : List UInt8) : NodeT → Nat → Nat → Prop
  | .mk k S mn mx kids => fun i j =>
    if k = 1 then (∃ b : UInt8, s[i]? = some b ∧ S.testBit b.toNat = true) ∧ j = i + 1
    else if k = 2 then i = 0 ∧ j = i
    else if k = 3 then i = s.length ∧ j = i
    else if k = 4 then MCat s kids i j
    else if k = 5 then MAlt s kids i j
    else if k = 6 then RepM (MFirst s kids) mn mx i j
    else j = i
def MCat (s : List UInt8) : List NodeT → Nat → Nat → Prop
  | [] => fun i j => j = i
  | n :: l => fun i j => ∃ m, MT s n i m ∧ MCat s l m j
def MAlt (s : List UInt8) : List NodeT → Nat → Nat → Prop
  | [] => fun _ _ => False
  | n :: l => fun i j => MT s n i j ∨ MAlt s l i j
def MFirst (s : List UInt8) : List NodeT → Nat → Nat → Prop
  | [] => fun i j => j = i
  | n :: _ => fun i j => MT s n i j
end
section
variable (s : List UInt8)
theorem MCat_nil (i j : Nat) : MCat s [] i j ↔ j = i := by rw [MCat]
theorem MCat_cons (n : NodeT) (l : List NodeT) (i j : Nat) : MCat s (n :: l) i j ↔ ∃ m, MT s n i m ∧ MCat s l m j := by rw [MCat]
theorem MAlt_nil (i j : Nat) : MAlt s [] i j ↔ False := by rw [MAlt]
theorem MAlt_cons (n : NodeT) (l : List NodeT) (i j : Nat) : MAlt s (n :: l) i j ↔ MT s n i j ∨ MAlt s l i j := by rw [MAlt]
theorem MAlt_mem (l : List NodeT) (i j : Nat) : MAlt s l i j ↔ ∃ n, n ∈ l ∧ MT s n i j := by
  induction l with
  | nil => rw [MAlt_nil]; simp
  | cons a l ih => rw [MAlt_cons, ih]; simp
theorem MT_nil (i j : Nat) : MT s .nil i j ↔ j = i := by rw [NodeT.nil, MT]; simp
theorem MT_one (S i j : Nat) : MT s (.one S) i j ↔ (∃ b : UInt8, s[i]? = some b ∧ S.testBit b.toNat = true) ∧ j = i + 1 := by rw [NodeT.one, MT]; simp
theorem MT_beg (i j : Nat) : MT s (.mk 2 0 0 0 []) i j ↔ i = 0 ∧ j = i := by rw [MT]; simp
theorem MT_fin (i j : Nat) : MT s (.mk 3 0 0 0 []) i j ↔ i = s.length ∧ j = i := by rw [MT]; simp
theorem MT_cat (l : List NodeT) (i j : Nat) : MT s (.mk 4 0 0 0 l) i j ↔ MCat s l i j := by rw [MT]; simp
theorem MT_alt (l : List NodeT) (i j : Nat) : MT s (.mk 5 0 0 0 l) i j ↔ MAlt s l i j := by rw [MT]; simp
theorem MT_rep (x : NodeT) (mn mx : Int) (i j : Nat) : MT s (.rep x mn mx) i j ↔ RepM (MT s x) mn mx i j := by
  rw [NodeT.rep, MT]; simp [MFirst]
end
theorem Iter.mono {R T : Nat → Nat → Prop} (h : ∀ i j, R i j → T i j) {n i j : Nat} (t : Iter R n i j) : Iter T n i j := by
  induction t with
  | zero i => exact .zero i
  | succ h1 _ ih => exact .succ (h _ _ h1) ih
theorem RepM.congr {R T : Nat → Nat → Prop} (h : ∀ i j, R i j ↔ T i j) (mn mx : Int) (i j : Nat) : RepM R mn mx i j ↔ RepM T mn mx i j :=
  ⟨fun ⟨n, a, b, c⟩ => ⟨n, a, b, c.mono fun i j => (h i j).1⟩, fun ⟨n, a, b, c⟩ => ⟨n, a, b, c.mono fun i j => (h i j).2⟩⟩
theorem Iter.stay {R : Nat → Nat → Prop} (h : ∀ i j, R i j → j = i) {n i j : Nat} (t : Iter R n i j) : j = i := by
  induction t with
  | zero i => rfl
  | succ h1 _ ih => rw [ih, h _ _ h1]
theorem Iter.still {R : Nat → Nat → Prop} {i : Nat} (h : R i i) (n : Nat) : Iter R n i i := by
  induction n with
  | zero => exact .zero i
  | succ n ih => exact .succ h ih
inductive WF : NodeT → Prop where
  | nil : WF .nil
  | one (S : Nat) : WF (.one S)
  | beg : WF (.mk 2 0 0 0 [])
  | fin : WF (.mk 3 0 0 0 [])
  | cat {l : List NodeT} (hl : ∀ x, x ∈ l → WF x) : WF (.mk 4 0 0 0 l)
  | alt {l : List NodeT} (h : l ≠ []) (hl : ∀ x, x ∈ l → WF x) : WF (.mk 5 0 0 0 l)
  | rep {x : NodeT} {m n : Int} (hx : WF x) (h0 : 0 ≤ m) (hn : n = -1 ∨ m ≤ n) : WF (.rep x m n)
theorem NF.canB {x : NodeT} (h : NF x) : WF x := by
  induction h with
  | nil => exact .nil
  | one _ _ => exact .one _
  | beg => exact .beg
  | fin => exact .fin
  | cat _ _ _ ih => exact .cat ih
  | alt h _ _ ih => exact .alt (fun e => by rw [e] at h; simp at h) ih
  | rep _ h0 _ hn ih => exact .rep ih h0 (hn.imp id And.left)
def nilK (x : NodeT) : Bool := x.kind == 0
def catS (l : List NodeT) : NodeT :=
  match l.filter (fun x => !nilK x) with
  | [] => .nil
  | [x] => x
  | ks => .mk 4 0 0 0 ks
def altS (l : List NodeT) : NodeT := if l.all nilK then .nil else .mk 5 0 0 0 l
def repSl (x : NodeT) (mn mx : Int) : NodeT := if mx = 0 then .nil else if nilK x = true ∨ mn = 1 ∧ mx = 1 then x else .rep x mn mx
mutual
def slimT : NodeT → NodeT
  | .mk k S mn mx kids => if k = 4 then catS (slimsT kids) else if k = 5 then altS (slimsT kids) else if k = 6 then repSl ((slimsT kids).headD .nil) mn mx else .mk k S mn mx kids
def slimsT : List NodeT → List NodeT
  | [] => []
  | n :: l => slimT n :: slimsT l
end
theorem slimsT_map (l : List NodeT) : slimsT l = l.map slimT := by
  induction l with
  | nil => rw [slimsT]; rfl
  | cons a l ih => rw [slimsT, ih]; rfl
theorem WF.nilK {x : NodeT} (h : WF x) (hk : nilK x = true) : x = .nil := by
  cases h with
  | nil => rfl
  | one S => exact absurd (show ((1 : Int) == 0) = true from hk) (by decide)
  | beg => exact absurd hk (by decide)
  | fin => exact absurd hk (by decide)
  | cat hl => exact absurd (show ((4 : Int) == 0) = true from hk) (by decide)
  | alt h hl => exact absurd (show ((5 : Int) == 0) = true from hk) (by decide)
  | rep hx h0 hn => exact absurd (show ((6 : Int) == 0) = true from hk) (by decide)
theorem MCat_filter (s : List UInt8) : ∀ (l : List NodeT), (∀ x, x ∈ l → WF x) → ∀ i j, MCat s (l.filter (fun x => !nilK x)) i j ↔ MCat s l i j
  | [], _, i, j => Iff.rfl
  | x :: l, h, i, j => by
    have ih := MCat_filter s l (fun y hy => h y (List.mem_cons_of_mem _ hy))
    cases hx : nilK x with
    | true =>
      rw [List.filter_cons_of_neg (by simp [hx]), ih, MCat_cons, (h x List.mem_cons_self).nilK hx]
      exact ⟨fun hm => ⟨i, (MT_nil s i i).2 rfl, hm⟩, fun ⟨m, a, b⟩ => by rw [MT_nil] at a; subst a; exact b⟩
    | false =>
      rw [List.filter_cons_of_pos (by simp [hx]), MCat_cons, MCat_cons]
      exact ⟨fun ⟨m, a, b⟩ => ⟨m, a, (ih m j).1 b⟩, fun ⟨m, a, b⟩ => ⟨m, a, (ih m j).2 b⟩⟩
theorem catS_wf {l : List NodeT} (h : ∀ x, x ∈ l → WF x) : WF (catS l) := by
  have hf : ∀ x, x ∈ l.filter (fun x => !Go.Proofs.YtbkpoimaienhpaaGreatDoor.nilK x) → WF x := fun x hx => h x (List.mem_filter.1 hx).1
  unfold catS
  generalize l.filter (fun x => !Go.Proofs.YtbkpoimaienhpaaGreatDoor.nilK x) = ks at hf
  match ks, hf with
  | [], _ => exact .nil
  | [x], hf => exact hf x List.mem_cons_self
  | x :: y :: r, hf => exact .cat hf
theorem catS_match (s : List UInt8) {l : List NodeT} (h : ∀ x, x ∈ l → WF x) (i j : Nat) : MT s (catS l) i j ↔ MCat s l i j := by
  rw [← MCat_filter s l h i j]
  unfold catS
  generalize l.filter (fun x => !Go.Proofs.YtbkpoimaienhpaaGreatDoor.nilK x) = ks
  match ks with
  | [] => rw [MCat_nil]; exact MT_nil s i j
  | [x] => rw [MCat_cons]; exact ⟨fun a => ⟨j, a, (MCat_nil s j j).2 rfl⟩, fun ⟨m, a, b⟩ => by rw [MCat_nil] at b; subst b; exact a⟩
  | x :: y :: r => exact MT_cat s _ i j
theorem altS_wf {l : List NodeT} (h : ∀ x, x ∈ l → WF x) (h0 : l ≠ []) : WF (altS l) := by
  unfold altS
  split
  · exact .nil
  · exact .alt h0 h
theorem altS_match (s : List UInt8) {l : List NodeT} (h : ∀ x, x ∈ l → WF x) (h0 : l ≠ []) (i j : Nat) : MT s (altS l) i j ↔ MAlt s l i j := by
  unfold altS
  split
  · rename_i ha
    rw [List.all_eq_true] at ha
    rw [MT_nil, MAlt_mem]
    constructor
    · intro e
      obtain ⟨x, hx⟩ := List.exists_mem_of_ne_nil l h0
      exact ⟨x, hx, by rw [(h x hx).nilK (ha x hx)]; exact (MT_nil s i j).2 e⟩
    · rintro ⟨x, hx, hm⟩
      rw [(h x hx).nilK (ha x hx)] at hm
      exact (MT_nil s i j).1 hm
  · exact MT_alt s l i j
theorem repSl_wf {x : NodeT} (h : WF x) {m n : Int} (h0 : 0 ≤ m) (hn : n = -1 ∨ m ≤ n) : WF (repSl x m n) := by
  unfold repSl
  split
  · exact .nil
  · split
    · exact h
    · exact .rep h h0 hn
theorem repSl_match (s : List UInt8) {x : NodeT} (h : WF x) {m n : Int} (h0 : 0 ≤ m) (hn : n = -1 ∨ m ≤ n) (i j : Nat) : MT s (repSl x m n) i j ↔ RepM (MT s x) m n i j := by
  unfold repSl
  split
  · rename_i hz
    rw [MT_nil]
    constructor
    · intro e
      subst e
      exact ⟨0, by omega, .inr (by omega), .zero _⟩
    · rintro ⟨k, a, b, c⟩
      obtain rfl : k = 0 := by omega
      cases c; rfl
  · rename_i hz
    split
    · rename_i hc
      rcases hc with hc | ⟨h1, h2⟩
      · rw [h.nilK hc, MT_nil]
        constructor
        · intro e
          subst e
          exact ⟨m.toNat, by omega, by omega, Iter.still ((MT_nil s j j).2 rfl) _⟩
        · rintro ⟨k, a, b, c⟩
          exact c.stay fun i j => (MT_nil s i j).1
      · subst h1 h2
        constructor
        · intro e
          exact ⟨1, by omega, .inr (by omega), .succ e (.zero _)⟩
        · rintro ⟨k, a, b, c⟩
          obtain rfl : k = 1 := by omega
          cases c with
          | succ u v => cases v; exact u
    · exact MT_rep s x m n i j
theorem slimT_spec (s : List UInt8) {x : NodeT} (h : WF x) : WF (slimT x) ∧ ∀ i j, MT s (slimT x) i j ↔ MT s x i j := by
  induction h with
  | nil => rw [NodeT.nil, slimT]; exact ⟨.nil, fun i j => Iff.rfl⟩
  | one S => rw [NodeT.one, slimT]; exact ⟨.one S, fun i j => Iff.rfl⟩
  | beg => rw [slimT]; exact ⟨.beg, fun i j => Iff.rfl⟩
  | fin => rw [slimT]; exact ⟨.fin, fun i j => Iff.rfl⟩
  | @cat l hl ih =>
    rw [slimT, if_pos rfl, slimsT_map]
    have hw : ∀ x, x ∈ l.map slimT → WF x := by
      intro x hx
      obtain ⟨y, hy, rfl⟩ := List.mem_map.1 hx
      exact (ih y hy).1
    refine ⟨catS_wf hw, fun i j => ?_⟩
    rw [catS_match s hw, MT_cat]
    clear hw hl
    induction l generalizing i with
    | nil => exact Iff.rfl
    | cons a l ih2 =>
      rw [List.map_cons, MCat_cons, MCat_cons]
      have ha := (ih a List.mem_cons_self).2
      have hr := ih2 (fun y hy => ih y (List.mem_cons_of_mem _ hy))
      exact ⟨fun ⟨m, p, q⟩ => ⟨m, (ha i m).1 p, (hr m).1 q⟩, fun ⟨m, p, q⟩ => ⟨m, (ha i m).2 p, (hr m).2 q⟩⟩
  | @alt l h hl ih =>
    rw [slimT, if_neg (by decide), if_pos rfl, slimsT_map]
    have hw : ∀ x, x ∈ l.map slimT → WF x := by
      intro x hx
      obtain ⟨y, hy, rfl⟩ := List.mem_map.1 hx
      exact (ih y hy).1
    have h0 : l.map slimT ≠ [] := by simpa using h
    refine ⟨altS_wf hw h0, fun i j => ?_⟩
    rw [altS_match s hw h0, MT_alt, MAlt_mem, MAlt_mem]
    constructor
    · rintro ⟨x, hx, hm⟩
      obtain ⟨y, hy, rfl⟩ := List.mem_map.1 hx
      exact ⟨y, hy, ((ih y hy).2 i j).1 hm⟩
    · rintro ⟨y, hy, hm⟩
      exact ⟨slimT y, List.mem_map.2 ⟨y, hy, rfl⟩, ((ih y hy).2 i j).2 hm⟩
  | @rep x m n hx h0 hn ih =>
    rw [NodeT.rep, slimT, if_neg (by decide), if_neg (by decide), if_pos rfl, slimsT_map]
    refine ⟨repSl_wf ih.1 h0 hn, fun i j => ?_⟩
    show MT s (repSl (slimT x) m n) i j ↔ MT s (.rep x m n) i j
    rw [repSl_match s ih.1 h0 hn, MT_rep]
    exact RepM.congr ih.2 m n i j

end Go.Proofs.YtbkpoimaienhpaaGreatDoor
namespace Go.Proofs.YtbkpoimaienhpaaGreatDoor
set_option linter.unusedVariables false
set_option linter.unusedSimpArgs false
structure St where
  kind : Nat
  set : Nat
  next : Nat
  other : Nat
def doneS : St := ⟨0, 0, 0, 0⟩
def takeS (S n : Nat) : St := ⟨1, S, n, 0⟩
def forkS (n o : Nat) : St := ⟨2, 0, n, o⟩
def begS (n : Nat) : St := ⟨3, 0, n, 0⟩
def endS (n : Nat) : St := ⟨4, 0, n, 0⟩
inductive Run (T : List St) (s : List UInt8) : Nat → Nat → Nat → Nat → Prop where
  | done {q i : Nat} {x : St} (h : T[q]? = some x) (hk : x.kind = 0) : Run T s 0 q i i
  | take {q i k e : Nat} {x : St} {b : UInt8} (h : T[q]? = some x) (hk : x.kind = 1) (hb : s[i]? = some b) (hs : x.set.testBit b.toNat = true) (r : Run T s k x.next (i + 1) e) : Run T s (k + 1) q i e
  | left {q i k e : Nat} {x : St} (h : T[q]? = some x) (hk : x.kind = 2) (r : Run T s k x.next i e) : Run T s (k + 1) q i e
  | right {q i k e : Nat} {x : St} (h : T[q]? = some x) (hk : x.kind = 2) (r : Run T s k x.other i e) : Run T s (k + 1) q i e
  | beg {q i k e : Nat} {x : St} (h : T[q]? = some x) (hk : x.kind = 3) (hi : i = 0) (r : Run T s k x.next i e) : Run T s (k + 1) q i e
  | fin {q i k e : Nat} {x : St} (h : T[q]? = some x) (hk : x.kind = 4) (hi : i = s.length) (r : Run T s k x.next i e) : Run T s (k + 1) q i e
section
variable {T : List St} {s : List UInt8} {k q i e : Nat}
theorem Run.of_take {S n : Nat} (h : T[q]? = some (takeS S n)) (r : Run T s k q i e) : ∃ k', k' < k ∧ (∃ b, s[i]? = some b ∧ S.testBit b.toNat = true) ∧ Run T s k' n (i + 1) e := by
  cases r with
  | done h2 hk => rw [h] at h2; cases h2; exact absurd hk (by decide : ¬ (1 : Nat) = 0)
  | take h2 hk hb hs r => rw [h] at h2; cases h2; exact ⟨_, Nat.lt_succ_self _, ⟨_, hb, hs⟩, r⟩
  | left h2 hk r => rw [h] at h2; cases h2; exact absurd hk (by decide : ¬ (1 : Nat) = 2)
  | right h2 hk r => rw [h] at h2; cases h2; exact absurd hk (by decide : ¬ (1 : Nat) = 2)
  | beg h2 hk hi r => rw [h] at h2; cases h2; exact absurd hk (by decide : ¬ (1 : Nat) = 3)
  | fin h2 hk hi r => rw [h] at h2; cases h2; exact absurd hk (by decide : ¬ (1 : Nat) = 4)
theorem Run.of_fork {n o : Nat} (h : T[q]? = some (forkS n o)) (r : Run T s k q i e) : ∃ k', k' < k ∧ (Run T s k' n i e ∨ Run T s k' o i e) := by
  cases r with
  | done h2 hk => rw [h] at h2; cases h2; exact absurd hk (by decide : ¬ (2 : Nat) = 0)
  | take h2 hk hb hs r => rw [h] at h2; cases h2; exact absurd hk (by decide : ¬ (2 : Nat) = 1)
  | left h2 hk r => rw [h] at h2; cases h2; exact ⟨_, Nat.lt_succ_self _, .inl r⟩
  | right h2 hk r => rw [h] at h2; cases h2; exact ⟨_, Nat.lt_succ_self _, .inr r⟩
  | beg h2 hk hi r => rw [h] at h2; cases h2; exact absurd hk (by decide : ¬ (2 : Nat) = 3)
  | fin h2 hk hi r => rw [h] at h2; cases h2; exact absurd hk (by decide : ¬ (2 : Nat) = 4)
theorem Run.of_beg {n : Nat} (h : T[q]? = some (begS n)) (r : Run T s k q i e) : ∃ k', k' < k ∧ i = 0 ∧ Run T s k' n i e := by
  cases r with
  | done h2 hk => rw [h] at h2; cases h2; exact absurd hk (by decide : ¬ (3 : Nat) = 0)
  | take h2 hk hb hs r => rw [h] at h2; cases h2; exact absurd hk (by decide : ¬ (3 : Nat) = 1)
  | left h2 hk r => rw [h] at h2; cases h2; exact absurd hk (by decide : ¬ (3 : Nat) = 2)
  | right h2 hk r => rw [h] at h2; cases h2; exact absurd hk (by decide : ¬ (3 : Nat) = 2)
  | beg h2 hk hi r => rw [h] at h2; cases h2; exact ⟨_, Nat.lt_succ_self _, hi, r⟩
  | fin h2 hk hi r => rw [h] at h2; cases h2; exact absurd hk (by decide : ¬ (3 : Nat) = 4)
theorem Run.of_fin {n : Nat} (h : T[q]? = some (endS n)) (r : Run T s k q i e) : ∃ k', k' < k ∧ i = s.length ∧ Run T s k' n i e := by
  cases r with
  | done h2 hk => rw [h] at h2; cases h2; exact absurd hk (by decide : ¬ (4 : Nat) = 0)
  | take h2 hk hb hs r => rw [h] at h2; cases h2; exact absurd hk (by decide : ¬ (4 : Nat) = 1)
  | left h2 hk r => rw [h] at h2; cases h2; exact absurd hk (by decide : ¬ (4 : Nat) = 2)
  | right h2 hk r => rw [h] at h2; cases h2; exact absurd hk (by decide : ¬ (4 : Nat) = 2)
  | beg h2 hk hi r => rw [h] at h2; cases h2; exact absurd hk (by decide : ¬ (4 : Nat) = 3)
  | fin h2 hk hi r => rw [h] at h2; cases h2; exact ⟨_, Nat.lt_succ_self _, hi, r⟩
theorem Run.of_done (h : T[q]? = some doneS) (r : Run T s k q i e) : e = i := by
  cases r with
  | done h2 hk => rfl
  | take h2 hk hb hs r => rw [h] at h2; cases h2; exact absurd hk (by decide : ¬ (0 : Nat) = 1)
  | left h2 hk r => rw [h] at h2; cases h2; exact absurd hk (by decide : ¬ (0 : Nat) = 2)
  | right h2 hk r => rw [h] at h2; cases h2; exact absurd hk (by decide : ¬ (0 : Nat) = 2)
  | beg h2 hk hi r => rw [h] at h2; cases h2; exact absurd hk (by decide : ¬ (0 : Nat) = 3)
  | fin h2 hk hi r => rw [h] at h2; cases h2; exact absurd hk (by decide : ¬ (0 : Nat) = 4)
end
abbrev Bld := List St → Nat → List St × Nat
def altB (a b : Bld) : Bld := fun Q next => let r := b Q next; let u := a r.1 next; (u.1 ++ [forkS u.2 r.2], u.1.length)
def seqB (a b : Bld) : Bld := fun Q next => let r := b Q next; a r.1 r.2
def noB : Bld := fun Q next => (Q, next)
def forksB (b : Bld) : Nat → Bld
  | 0 => noB
  | n + 1 => altB (seqB b (forksB b n)) noB
def mustB (b : Bld) : Nat → Bld
  | 0 => noB
  | n + 1 => seqB b (mustB b n)
def loopB (b : Bld) : Bld := fun Q next => let u := b (Q ++ [forkS 0 next]) Q.length; (u.1.set Q.length (forkS u.2 next), u.2)
def repB2 (b : Bld) (mn mx : Int) : Bld := fun Q next =>
  if mx < 0 then
    let u := loopB b Q next
    if 0 < mn then mustB b (mn - 1).toNat u.1 u.2 else mustB b mn.toNat u.1 Q.length
  else let u := forksB b (mx - mn).toNat Q next; mustB b mn.toNat u.1 u.2
mutual
def bldT : NodeT → Bld
  | .mk k S mn mx kids => fun Q next =>
    if k = 1 then (Q ++ [takeS S next], Q.length)
    else if k = 2 then (Q ++ [begS next], Q.length)
    else if k = 3 then (Q ++ [endS next], Q.length)
    else if k = 4 then bldC kids Q next
    else if k = 5 then bldA kids Q next
    else if k = 6 then repB2 (bldF kids) mn mx Q next
    else (Q, next)
def bldC : List NodeT → Bld
  | [] => fun Q next => (Q, next)
  | n :: l => fun Q next => let r := bldC l Q next; bldT n r.1 r.2
def bldA : List NodeT → Bld
  | [] => fun Q next => (Q, next)
  | n :: l => fun Q next => if l.isEmpty then bldT n Q next else
      let r := bldA l Q next; let u := bldT n r.1 next; (u.1 ++ [forkS u.2 r.2], u.1.length)
def bldF : List NodeT → Bld
  | [] => fun Q next => (Q, next)
  | n :: _ => fun Q next => bldT n Q next
end
structure Frag (b : Bld) (R : List UInt8 → Nat → Nat → Prop) (Q : List St) (next : Nat) : Prop where
  len : Q.length ≤ (b Q next).1.length
  pre : ∀ p, p < Q.length → (b Q next).1[p]? = Q[p]?
  start : (b Q next).2 = next ∨ (b Q next).2 < (b Q next).1.length
  inn : ∀ x, x ∈ (b Q next).1 → x ∈ Q ∨ (x.next < max (b Q next).1.length (next + 1) ∧ x.other < max (b Q next).1.length (next + 1))
  sound : ∀ (s : List UInt8) (T : List St), (∀ p, Q.length ≤ p → p < (b Q next).1.length → T[p]? = (b Q next).1[p]?) → ∀ k i e, Run T s k (b Q next).2 i e → ∃ j k', k' ≤ k ∧ R s i j ∧ Run T s k' next j e
  full : ∀ (s : List UInt8) (T : List St), (∀ p, Q.length ≤ p → p < (b Q next).1.length → T[p]? = (b Q next).1[p]?) → ∀ k i j e, R s i j → Run T s k next j e → ∃ k', Run T s k' (b Q next).2 i e
def Frags (b : Bld) (R : List UInt8 → Nat → Nat → Prop) : Prop := ∀ Q next, Frag b R Q next
theorem frag_none : Frags noB (fun _ i j => j = i) := fun Q next =>
  { len := Nat.le_refl _, pre := fun _ _ => rfl, start := .inl rfl, inn := fun x h => .inl h
    sound := fun s T _ k i e r => ⟨i, k, Nat.le_refl _, rfl, r⟩
    full := fun s T _ k i j e h r => ⟨k, by subst h; exact r⟩ }
theorem last_of (Q : List St) (x : St) : (Q ++ [x])[Q.length]? = some x := by simp
theorem pre_of (Q : List St) (x : St) (p : Nat) (h : p < Q.length) : (Q ++ [x])[p]? = Q[p]? := List.getElem?_append_left h
theorem frag_one {st : Nat → St} {R : List UInt8 → Nat → Nat → Prop} (hn : ∀ n, (st n).next = n ∧ (st n).other = 0)
    (h1 : ∀ (T : List St) s k q i e n, T[q]? = some (st n) → Run T s k q i e → ∃ j k', k' ≤ k ∧ R s i j ∧ Run T s k' n j e)
    (h2 : ∀ (T : List St) s k q i j e n, T[q]? = some (st n) → R s i j → Run T s k n j e → ∃ k', Run T s k' q i e) :
    Frags (fun Q next => (Q ++ [st next], Q.length)) R := fun Q next =>
  { len := by simp, pre := pre_of Q _, start := .inr (by simp)
    inn := fun x h => by
      rcases List.mem_append.1 h with h | h
      · exact .inl h
      · obtain rfl := List.mem_singleton.1 h
        rw [(hn next).1, (hn next).2]
        exact .inr ⟨by simp only [List.length_append, List.length_singleton]; omega, by simp only [List.length_append, List.length_singleton]; omega⟩
    sound := fun s T hT k i e r => h1 T s k _ i e next ((hT Q.length (Nat.le_refl _) (by simp)).trans (last_of Q _)) r
    full := fun s T hT k i j e h r => h2 T s k _ i j e next ((hT Q.length (Nat.le_refl _) (by simp)).trans (last_of Q _)) h r }
theorem frag_seq {a b : Bld} {R S : List UInt8 → Nat → Nat → Prop} (ha : Frags a R) (hb : Frags b S) :
    Frags (seqB a b) (fun s i j => ∃ m, R s i m ∧ S s m j) := fun Q next => by
  have B := hb Q next
  have A := ha (b Q next).1 (b Q next).2
  unfold seqB
  refine { len := Nat.le_trans B.len A.len, pre := fun p hp => (A.pre p (Nat.lt_of_lt_of_le hp B.len)).trans (B.pre p hp), start := ?_, inn := ?_, sound := ?_, full := ?_ }
  · have l := A.len
    rcases A.start with h | h
    · rcases B.start with h2 | h2
      · exact .inl (h.trans h2)
      · exact .inr (by show (a _ _).2 < _; rw [h]; exact Nat.lt_of_lt_of_le h2 l)
    · exact .inr h
  · intro x hx
    have l := A.len
    rcases A.inn x hx with h | ⟨h, h2⟩
    · rcases B.inn x h with h | ⟨h, h2⟩
      · exact .inl h
      · exact .inr ⟨by show _ < max (a _ _).1.length _; omega, by show _ < max (a _ _).1.length _; omega⟩
    · rcases B.start with h3 | h3
      · rw [h3] at h h2 l
        exact .inr ⟨by show _ < max (a _ _).1.length _; rw [h3]; omega, by show _ < max (a _ _).1.length _; rw [h3]; omega⟩
      · exact .inr ⟨by show _ < max (a _ _).1.length _; omega, by show _ < max (a _ _).1.length _; omega⟩
  · intro s T hT k i e r
    obtain ⟨j, k1, l1, h1, r1⟩ := A.sound s T (fun p h h' => hT p (Nat.le_trans B.len h) h') k i e r
    obtain ⟨m, k2, l2, h2, r2⟩ := B.sound s T (fun p h h' => (hT p h (Nat.lt_of_lt_of_le h' A.len)).trans (A.pre p h')) k1 j e r1
    exact ⟨m, k2, Nat.le_trans l2 l1, ⟨j, h1, h2⟩, r2⟩
  · intro s T hT k i j e ⟨m, h1, h2⟩ r
    obtain ⟨k2, r2⟩ := B.full s T (fun p h h' => (hT p h (Nat.lt_of_lt_of_le h' A.len)).trans (A.pre p h')) k m j e h2 r
    exact A.full s T (fun p h h' => hT p (Nat.le_trans B.len h) h') k2 i m e h1 r2
theorem Frags.congr {b : Bld} {R S : List UInt8 → Nat → Nat → Prop} (h : Frags b R) (e : ∀ s i j, R s i j ↔ S s i j) : Frags b S := fun Q next =>
  have B := h Q next
  { len := B.len, pre := B.pre, start := B.start, inn := B.inn
    sound := fun s T hT k i e' r => let ⟨j, k', a, c, d⟩ := B.sound s T hT k i e' r; ⟨j, k', a, (e s i j).1 c, d⟩
    full := fun s T hT k i j e' c r => B.full s T hT k i j e' ((e s i j).2 c) r }
theorem frag_alt {a b : Bld} {R S : List UInt8 → Nat → Nat → Prop} (ha : Frags a R) (hb : Frags b S) :
    Frags (altB a b) (fun s i j => R s i j ∨ S s i j) := fun Q next => by
  have B := hb Q next
  have A := ha (b Q next).1 next
  have l1 := A.len
  have l2 := B.len
  unfold altB
  have hl : ((a (b Q next).1 next).1 ++ [forkS (a (b Q next).1 next).2 (b Q next).2]).length = (a (b Q next).1 next).1.length + 1 := by simp
  refine { len := ?_, pre := ?_, start := ?_, inn := ?_, sound := ?_, full := ?_ }
  · show Q.length ≤ List.length (_ ++ _); omega
  · intro p hp
    show (_ ++ _)[p]? = _
    rw [pre_of _ _ p (by omega), A.pre p (by omega), B.pre p hp]
  · right; show (a (b Q next).1 next).1.length < List.length (_ ++ _); omega
  · intro x hx
    show x ∈ Q ∨ (x.next < max (List.length (_ ++ _)) _ ∧ x.other < max (List.length (_ ++ _)) _)
    rw [hl]
    rcases List.mem_append.1 hx with hx | hx
    · rcases A.inn x hx with h | ⟨h, h2⟩
      · rcases B.inn x h with h | ⟨h, h2⟩
        · exact .inl h
        · exact .inr ⟨by omega, by omega⟩
      · exact .inr ⟨by omega, by omega⟩
    · obtain rfl := List.mem_singleton.1 hx
      right
      show (a (b Q next).1 next).2 < _ ∧ (b Q next).2 < _
      have h1 := A.start
      have h2 := B.start
      omega
  · intro s T hT k i e r
    have hT' : ∀ p, Q.length ≤ p → p < (a (b Q next).1 next).1.length + 1 → T[p]? = ((a (b Q next).1 next).1 ++ [forkS (a (b Q next).1 next).2 (b Q next).2])[p]? := fun p h h' => hT p h (by show p < List.length (_ ++ _); omega)
    obtain ⟨k1, hk, r1⟩ := Run.of_fork ((hT' _ (by omega) (by omega)).trans (last_of _ _)) r
    rcases r1 with r1 | r1
    · obtain ⟨j, k2, l, h, r2⟩ := A.sound s T (fun p h h' => (hT' p (by omega) (by omega)).trans (pre_of _ _ p h')) k1 i e r1
      exact ⟨j, k2, by omega, .inl h, r2⟩
    · obtain ⟨j, k2, l, h, r2⟩ := B.sound s T (fun p h h' => ((hT' p (by omega) (by omega)).trans (pre_of _ _ p (by omega))).trans (A.pre p h')) k1 i e r1
      exact ⟨j, k2, by omega, .inr h, r2⟩
  · intro s T hT k i j e hm r
    have hT' : ∀ p, Q.length ≤ p → p < (a (b Q next).1 next).1.length + 1 → T[p]? = ((a (b Q next).1 next).1 ++ [forkS (a (b Q next).1 next).2 (b Q next).2])[p]? := fun p h h' => hT p h (by show p < List.length (_ ++ _); omega)
    have hf := (hT' _ (by omega) (by omega)).trans (last_of _ _)
    rcases hm with hm | hm
    · obtain ⟨k2, r2⟩ := A.full s T (fun p h h' => (hT' p (by omega) (by omega)).trans (pre_of _ _ p h')) k i j e hm r
      exact ⟨_, .left hf rfl r2⟩
    · obtain ⟨k2, r2⟩ := B.full s T (fun p h h' => ((hT' p (by omega) (by omega)).trans (pre_of _ _ p (by omega))).trans (A.pre p h')) k i j e hm r
      exact ⟨_, .right hf rfl r2⟩
theorem frag_must {b : Bld} {R : List UInt8 → Nat → Nat → Prop} (h : Frags b R) : ∀ n, Frags (mustB b n) (fun s i j => Iter (R s) n i j)
  | 0 => Frags.congr frag_none fun s i j => ⟨fun e => by subst e; exact .zero _, fun e => by cases e; rfl⟩
  | n + 1 => Frags.congr (frag_seq h (frag_must h n)) fun s i j => ⟨fun ⟨m, p, q⟩ => .succ p q, fun t => by cases t with | succ p q => exact ⟨_, p, q⟩⟩
theorem frag_forks {b : Bld} {R : List UInt8 → Nat → Nat → Prop} (h : Frags b R) : ∀ n, Frags (forksB b n) (fun s i j => ∃ k, k ≤ n ∧ Iter (R s) k i j)
  | 0 => Frags.congr frag_none fun s i j => ⟨fun e => by subst e; exact ⟨0, Nat.le_refl _, .zero _⟩, fun ⟨k, hk, e⟩ => by obtain rfl : k = 0 := by omega
                                                                                                                          cases e; rfl⟩
  | n + 1 => Frags.congr (frag_alt (frag_seq h (frag_forks h n)) frag_none) fun s i j => by
    constructor
    · rintro (⟨m, p, k, hk, q⟩ | e)
      · exact ⟨k + 1, by omega, .succ p q⟩
      · subst e; exact ⟨0, by omega, .zero _⟩
    · rintro ⟨k, hk, t⟩
      cases t with
      | zero => exact .inr rfl
      | @succ n2 _ m _ p q => exact .inl ⟨m, p, n2, by omega, q⟩
theorem Iter.trans {R : Nat → Nat → Prop} {n m i j k : Nat} (t : Iter R n i j) (u : Iter R m j k) : Iter R (n + m) i k := by
  induction t with
  | zero i => rw [Nat.zero_add]; exact u
  | succ h _ ih => rw [Nat.add_right_comm]; exact .succ h (ih u)
theorem Iter.split {R : Nat → Nat → Prop} : ∀ {n m i k : Nat}, Iter R (n + m) i k → ∃ j, Iter R n i j ∧ Iter R m j k
  | 0, m, i, k, t => ⟨i, .zero i, by rwa [Nat.zero_add] at t⟩
  | n + 1, m, i, k, t => by
    rw [Nat.add_right_comm] at t
    cases t with
    | succ h t =>
      obtain ⟨j, a, b⟩ := Iter.split t
      exact ⟨j, .succ h a, b⟩
theorem frag_loop {b : Bld} {R : List UInt8 → Nat → Nat → Prop} (h : Frags b R) : Frags (loopB b) (fun s i j => ∃ n, 1 ≤ n ∧ Iter (R s) n i j) ∧ Frags (fun Q next => ((loopB b Q next).1, Q.length)) (fun s i j => ∃ n, Iter (R s) n i j) := by
  have K : ∀ Q next, Q.length + 1 ≤ (b (Q ++ [forkS 0 next]) Q.length).1.length ∧ (loopB b Q next).1.length = (b (Q ++ [forkS 0 next]) Q.length).1.length := fun Q next => by
    have A := (h (Q ++ [forkS 0 next]) Q.length).len
    rw [List.length_append, List.length_singleton] at A
    exact ⟨A, by unfold loopB; simp⟩
  have hp : ∀ Q next p, p < Q.length → (loopB b Q next).1[p]? = Q[p]? := fun Q next p hp => by
    unfold loopB
    show (List.set _ _ _)[p]? = _
    rw [List.getElem?_set_ne (by omega), (h (Q ++ [forkS 0 next]) Q.length).pre p (by simp; omega), pre_of Q _ p hp]
  have ht : ∀ Q next, (b (Q ++ [forkS 0 next]) Q.length).2 < (loopB b Q next).1.length := fun Q next => by
    have := K Q next
    rcases (h (Q ++ [forkS 0 next]) Q.length).start with e | e <;> omega
  have hi : ∀ Q next x, x ∈ (loopB b Q next).1 → x ∈ Q ∨ (x.next < max (loopB b Q next).1.length (next + 1) ∧ x.other < max (loopB b Q next).1.length (next + 1)) := fun Q next x hx => by
    have k := K Q next
    have t := ht Q next
    have hx' : x ∈ (b (Q ++ [forkS 0 next]) Q.length).1.set Q.length (forkS (b (Q ++ [forkS 0 next]) Q.length).2 next) := hx
    rcases List.mem_or_eq_of_mem_set hx' with e | e
    · rcases (h (Q ++ [forkS 0 next]) Q.length).inn x e with e | ⟨e, e2⟩
      · rcases List.mem_append.1 e with e | e
        · exact .inl e
        · obtain rfl := List.mem_singleton.1 e
          right
          show 0 < _ ∧ next < _
          omega
      · right; omega
    · subst e
      right
      show (b (Q ++ [forkS 0 next]) Q.length).2 < _ ∧ next < _
      omega
  have hloop : ∀ Q next (T : List St), (∀ p, Q.length ≤ p → p < (loopB b Q next).1.length → T[p]? = (loopB b Q next).1[p]?) → T[Q.length]? = some (forkS (b (Q ++ [forkS 0 next]) Q.length).2 next) ∧
      ∀ p, (Q ++ [forkS 0 next]).length ≤ p → p < (b (Q ++ [forkS 0 next]) Q.length).1.length → T[p]? = (b (Q ++ [forkS 0 next]) Q.length).1[p]? := fun Q next T hT => by
    have k := K Q next
    constructor
    · rw [hT _ (Nat.le_refl _) (by omega)]
      unfold loopB
      show (List.set _ _ _)[_]? = _
      rw [List.getElem?_set_self (by omega)]
    · intro p h1 h2
      rw [List.length_append, List.length_singleton] at h1
      rw [hT p (by omega) (by omega)]
      unfold loopB
      show (List.set _ _ _)[_]? = _
      rw [List.getElem?_set_ne (by omega)]
  have sloop : ∀ Q next (s : List UInt8) (T : List St), (∀ p, Q.length ≤ p → p < (loopB b Q next).1.length → T[p]? = (loopB b Q next).1[p]?) → ∀ k i e, Run T s k Q.length i e → ∃ j k', k' ≤ k ∧ (∃ n, Iter (R s) n i j) ∧ Run T s k' next j e := fun Q next s T hT k => by
    obtain ⟨t1, t2⟩ := hloop Q next T hT
    induction k using Nat.strongRecOn with
    | _ k ih =>
      intro i e r
      obtain ⟨k1, hk, r1 | r1⟩ := Run.of_fork t1 r
      · obtain ⟨j, k2, l, hR, r2⟩ := (h (Q ++ [forkS 0 next]) Q.length).sound s T t2 k1 i e r1
        obtain ⟨j2, k3, l3, ⟨n, hn⟩, r3⟩ := ih k2 (by omega) j e r2
        exact ⟨j2, k3, by omega, ⟨n + 1, .succ hR hn⟩, r3⟩
      · exact ⟨i, k1, by omega, ⟨0, .zero _⟩, r1⟩
  have floop : ∀ Q next (s : List UInt8) (T : List St), (∀ p, Q.length ≤ p → p < (loopB b Q next).1.length → T[p]? = (loopB b Q next).1[p]?) → ∀ n k i j e, Iter (R s) n i j → Run T s k next j e → ∃ k', Run T s k' Q.length i e := fun Q next s T hT n k i j e t r => by
    obtain ⟨t1, t2⟩ := hloop Q next T hT
    induction t with
    | zero i => exact ⟨_, .right t1 rfl r⟩
    | succ p t ih =>
      obtain ⟨k2, r2⟩ := ih r
      obtain ⟨k3, r3⟩ := (h (Q ++ [forkS 0 next]) Q.length).full s T t2 k2 _ _ e p r2
      exact ⟨_, .left t1 rfl r3⟩
  constructor
  · intro Q next
    have k := K Q next
    refine { len := by omega, pre := hp Q next, start := .inr (ht Q next), inn := hi Q next, sound := ?_, full := ?_ }
    · intro s T hT k i e r
      obtain ⟨t1, t2⟩ := hloop Q next T hT
      obtain ⟨j, k2, l, hR, r2⟩ := (h (Q ++ [forkS 0 next]) Q.length).sound s T t2 k i e r
      obtain ⟨j2, k3, l3, ⟨n, hn⟩, r3⟩ := sloop Q next s T hT k2 j e r2
      exact ⟨j2, k3, by omega, ⟨n + 1, by omega, .succ hR hn⟩, r3⟩
    · intro s T hT k i j e ⟨n, hn, t⟩ r
      obtain ⟨t1, t2⟩ := hloop Q next T hT
      cases t with
      | zero => omega
      | succ p t =>
        obtain ⟨k2, r2⟩ := floop Q next s T hT _ k _ j e t r
        exact (h (Q ++ [forkS 0 next]) Q.length).full s T t2 k2 _ _ e p r2
  · intro Q next
    have k := K Q next
    exact { len := by show _ ≤ (loopB b Q next).1.length; omega, pre := hp Q next, start := .inr (by show Q.length < (loopB b Q next).1.length; omega), inn := hi Q next
            sound := fun s T hT k i e r => sloop Q next s T hT k i e r
            full := fun s T hT k i j e ⟨n, t⟩ r => floop Q next s T hT n k i j e t r }
theorem frag_rep {b : Bld} {R : List UInt8 → Nat → Nat → Prop} (h : Frags b R) {mn mx : Int} (h0 : 0 ≤ mn) (hn : mx = -1 ∨ mn ≤ mx) : Frags (repB2 b mn mx) (fun s i j => RepM (R s) mn mx i j) := by
  by_cases hx : mx < 0
  · by_cases hm : 0 < mn
    · have e : repB2 b mn mx = seqB (mustB b (mn - 1).toNat) (loopB b) := by
        funext Q next
        unfold repB2 seqB
        rw [if_pos hx]
        show (if 0 < mn then _ else _) = _
        rw [if_pos hm]
      rw [e]
      refine Frags.congr (frag_seq (frag_must h _) (frag_loop h).1) fun s i j => ⟨?_, ?_⟩
      · rintro ⟨m, p, n, h1, q⟩
        exact ⟨_, by omega, .inl hx, p.trans q⟩
      · rintro ⟨n, h1, _, t⟩
        obtain ⟨n2, hn2⟩ : ∃ n2, n = (mn - 1).toNat + n2 := ⟨n - (mn - 1).toNat, by omega⟩
        rw [hn2] at t
        obtain ⟨m, p, q⟩ := t.split
        exact ⟨m, p, n2, by omega, q⟩
    · have e : repB2 b mn mx = seqB (mustB b mn.toNat) (fun Q next => ((loopB b Q next).1, Q.length)) := by
        funext Q next
        unfold repB2 seqB
        rw [if_pos hx]
        show (if 0 < mn then _ else _) = _
        rw [if_neg hm]
      rw [e]
      refine Frags.congr (frag_seq (frag_must h _) (frag_loop h).2) fun s i j => ⟨?_, ?_⟩
      · rintro ⟨m, p, n, q⟩
        exact ⟨_, by omega, .inl hx, p.trans q⟩
      · rintro ⟨n, h1, _, t⟩
        refine ⟨i, ?_, n, t⟩
        rw [show mn.toNat = 0 by omega]
        exact .zero _
  · have e : repB2 b mn mx = seqB (mustB b mn.toNat) (forksB b (mx - mn).toNat) := by
      funext Q next
      unfold repB2 seqB
      rw [if_neg hx]
    rw [e]
    refine Frags.congr (frag_seq (frag_must h _) (frag_forks h _)) fun s i j => ⟨?_, ?_⟩
    · rintro ⟨m, p, n, h1, q⟩
      exact ⟨_, by omega, .inr (by omega), p.trans q⟩
    · rintro ⟨n, h1, h2, t⟩
      obtain ⟨n2, hn2⟩ : ∃ n2, n = mn.toNat + n2 := ⟨n - mn.toNat, by omega⟩
      rw [hn2] at t
      obtain ⟨m, p, q⟩ := t.split
      exact ⟨m, p, n2, by omega, q⟩
theorem bldT_frag {x : NodeT} (h : WF x) : Frags (bldT x) (fun s i j => MT s x i j) := by
  induction h with
  | nil =>
    rw [show bldT .nil = noB from by rw [NodeT.nil, bldT]; rfl]
    exact Frags.congr frag_none fun s i j => (MT_nil s i j).symm
  | one S =>
    rw [show bldT (.one S) = (fun Q next => (Q ++ [takeS S next], Q.length)) from by rw [NodeT.one, bldT]; rfl]
    refine Frags.congr (R := fun s i j => (∃ b : UInt8, s[i]? = some b ∧ S.testBit b.toNat = true) ∧ j = i + 1) (frag_one (fun n => ⟨rfl, rfl⟩) ?_ ?_) fun s i j => (MT_one s S i j).symm
    · intro T s k q i e n hT r
      obtain ⟨k', hk, hb, r'⟩ := r.of_take hT
      exact ⟨_, k', by omega, ⟨hb, rfl⟩, r'⟩
    · rintro T s k q i j e n hT ⟨⟨b, hb, hs⟩, rfl⟩ r
      exact ⟨_, .take hT rfl hb hs r⟩
  | beg =>
    rw [show bldT (.mk 2 0 0 0 []) = (fun Q next => (Q ++ [begS next], Q.length)) from by rw [bldT]; rfl]
    refine Frags.congr (R := fun s i j => i = 0 ∧ j = i) (frag_one (fun n => ⟨rfl, rfl⟩) ?_ ?_) fun s i j => (MT_beg s i j).symm
    · intro T s k q i e n hT r
      obtain ⟨k', hk, hb, r'⟩ := r.of_beg hT
      exact ⟨_, k', by omega, ⟨hb, rfl⟩, r'⟩
    · rintro T s k q i j e n hT ⟨hb, rfl⟩ r
      exact ⟨_, .beg hT rfl hb r⟩
  | fin =>
    rw [show bldT (.mk 3 0 0 0 []) = (fun Q next => (Q ++ [endS next], Q.length)) from by rw [bldT]; rfl]
    refine Frags.congr (R := fun s i j => i = s.length ∧ j = i) (frag_one (fun n => ⟨rfl, rfl⟩) ?_ ?_) fun s i j => (MT_fin s i j).symm
    · intro T s k q i e n hT r
      obtain ⟨k', hk, hb, r'⟩ := r.of_fin hT
      exact ⟨_, k', by omega, ⟨hb, rfl⟩, r'⟩
    · rintro T s k q i j e n hT ⟨hb, rfl⟩ r
      exact ⟨_, .fin hT rfl hb r⟩
  | @cat l hl ih =>
    rw [show bldT (.mk 4 0 0 0 l) = bldC l from by rw [bldT]; rfl]
    refine Frags.congr (R := fun s i j => MCat s l i j) ?_ fun s i j => (MT_cat s l i j).symm
    clear hl
    induction l with
    | nil =>
      rw [show bldC [] = noB from by rw [bldC]; rfl]
      exact Frags.congr frag_none fun s i j => (MCat_nil s i j).symm
    | cons a l ih2 =>
      rw [show bldC (a :: l) = seqB (bldT a) (bldC l) from by rw [bldC]; rfl]
      exact Frags.congr (frag_seq (ih a List.mem_cons_self) (ih2 fun y hy => ih y (List.mem_cons_of_mem _ hy))) fun s i j => (MCat_cons s a l i j).symm
  | @alt l h0 hl ih =>
    rw [show bldT (.mk 5 0 0 0 l) = bldA l from by rw [bldT]; rfl]
    refine Frags.congr (R := fun s i j => MAlt s l i j) ?_ fun s i j => (MT_alt s l i j).symm
    clear hl
    induction l with
    | nil => exact absurd rfl h0
    | cons a l ih2 =>
      cases l with
      | nil =>
        rw [show bldA [a] = bldT a from by rw [bldA]; rfl]
        exact Frags.congr (ih a List.mem_cons_self) fun s i j => by rw [MAlt_cons, MAlt_nil, or_false]
      | cons b r =>
        rw [show bldA (a :: b :: r) = altB (bldT a) (bldA (b :: r)) from by rw [bldA]; rfl]
        exact Frags.congr (frag_alt (ih a List.mem_cons_self) (ih2 (by simp) fun y hy => ih y (List.mem_cons_of_mem _ hy))) fun s i j => (MAlt_cons s a (b :: r) i j).symm
  | @rep x m n hx h0 hn ih =>
    rw [show bldT (.rep x m n) = repB2 (bldT x) m n from by rw [NodeT.rep, bldT]; rfl]
    exact Frags.congr (frag_rep ih h0 hn) fun s i j => (MT_rep s x m n i j).symm

end Go.Proofs.YtbkpoimaienhpaaGreatDoor
namespace Go.Proofs.YtbkpoimaienhpaaGreatDoor
set_option linter.unusedVariables false
set_option linter.unusedSimpArgs false
def Eps (T : List St) (i n q p : Nat) : Prop := ∃ x, T[q]? = some x ∧ ((x.kind = 2 ∧ (p = x.next ∨ p = x.other)) ∨ (x.kind = 3 ∧ i = 0 ∧ p = x.next) ∨ (x.kind = 4 ∧ i = n ∧ p = x.next))
inductive EpsR (T : List St) (i n : Nat) : Nat → Nat → Prop where
  | refl (q : Nat) : EpsR T i n q q
  | head {q r p : Nat} (h : Eps T i n q r) (t : EpsR T i n r p) : EpsR T i n q p
theorem EpsR.tail {T : List St} {i n q r p : Nat} (t : EpsR T i n q r) (h : Eps T i n r p) : EpsR T i n q p := by
  induction t with
  | refl q => exact .head h (.refl _)
  | head h1 _ ih => exact .head h1 (ih h)
structure Fr where
  places : List Nat
  seen : List Bool
  matched : Bool
def Fr.has (f : Fr) (p : Nat) : Prop := f.seen[p]? = some true
def Fr.left (f : Fr) : Nat := f.seen.count false
def newF (n : Nat) : Fr := ⟨[], List.replicate n false, false⟩
def Fr.mark (f : Fr) (q : Nat) : Fr := { f with seen := f.seen.set q true }
def Fr.put (f : Fr) (q : Nat) : Fr := { f with places := f.places ++ [q] }
def Fr.done (f : Fr) : Fr := { f with matched := true }
def kindAt (T : List St) (q k : Nat) : Prop := ∃ x, T[q]? = some x ∧ x.kind = k
structure Ent (T : List St) (i n : Nat) (R : Nat → Prop) (f g : Fr) : Prop where
  len : g.seen.length = f.seen.length
  mono : ∀ p, f.has p → g.has p
  root : ∀ r, R r → g.has r
  new : ∀ p, g.has p → ¬ f.has p → (∃ r, R r ∧ EpsR T i n r p) ∧ ∀ u, Eps T i n p u → g.has u
  places : ∀ p, p ∈ g.places ↔ p ∈ f.places ∨ (g.has p ∧ ¬ f.has p ∧ kindAt T p 1)
  matched : g.matched = true ↔ f.matched = true ∨ ∃ p, g.has p ∧ ¬ f.has p ∧ kindAt T p 0
  room : g.places.length + g.left ≤ f.places.length + f.left
  left : g.left ≤ f.left
section
variable {T : List St} {i n : Nat}
theorem Ent.none (f : Fr) : Ent T i n (fun _ => False) f f :=
  { len := rfl, mono := fun _ h => h, root := fun _ h => h.elim, new := fun p h h' => absurd h h'
    places := fun p => ⟨.inl, fun h => h.elim id fun h => absurd h.1 h.2.1⟩
    matched := ⟨.inl, fun h => h.elim id fun ⟨p, h⟩ => absurd h.1 h.2.1⟩, room := Nat.le_refl _, left := Nat.le_refl _ }
theorem Ent.seen {f : Fr} {q : Nat} (h : f.has q) : Ent T i n (fun p => p = q) f f :=
  { Ent.none (T := T) (i := i) (n := n) f with root := fun r e => by rw [e]; exact h, new := fun p h h' => absurd h h' }
theorem Ent.congr {R S : Nat → Prop} {f g : Fr} (h : Ent T i n R f g) (e : ∀ p, R p ↔ S p) : Ent T i n S f g :=
  { len := h.len, mono := h.mono, root := fun r hr => h.root r ((e r).2 hr), places := h.places, matched := h.matched, room := h.room, left := h.left
    new := fun p a b => ⟨let ⟨r, hr, t⟩ := (h.new p a b).1; ⟨r, (e r).1 hr, t⟩, (h.new p a b).2⟩ }
theorem Ent.comp {R S : Nat → Prop} {f g k : Fr} (h : Ent T i n R f g) (h' : Ent T i n S g k) : Ent T i n (fun p => R p ∨ S p) f k := by
  refine { len := h'.len.trans h.len, mono := fun p a => h'.mono p (h.mono p a), root := ?_, new := ?_, places := ?_, matched := ?_, room := Nat.le_trans h'.room h.room, left := Nat.le_trans h'.left h.left }
  · rintro r (a | a)
    · exact h'.mono r (h.root r a)
    · exact h'.root r a
  · intro p a b
    by_cases c : g.has p
    · obtain ⟨⟨r, hr, t⟩, u⟩ := h.new p c b
      exact ⟨⟨r, .inl hr, t⟩, fun v hv => h'.mono v (u v hv)⟩
    · obtain ⟨⟨r, hr, t⟩, u⟩ := h'.new p a c
      exact ⟨⟨r, .inr hr, t⟩, u⟩
  · intro p
    rw [h'.places, h.places]
    constructor
    · rintro ((a | ⟨a, b, c⟩) | ⟨a, b, c⟩)
      · exact .inl a
      · exact .inr ⟨h'.mono p a, b, c⟩
      · exact .inr ⟨a, fun d => b (h.mono p d), c⟩
    · rintro (a | ⟨a, b, c⟩)
      · exact .inl (.inl a)
      · by_cases d : g.has p
        · exact .inl (.inr ⟨d, b, c⟩)
        · exact .inr ⟨a, d, c⟩
  · rw [h'.matched, h.matched]
    constructor
    · rintro ((a | ⟨p, a, b, c⟩) | ⟨p, a, b, c⟩)
      · exact .inl a
      · exact .inr ⟨p, h'.mono p a, b, c⟩
      · exact .inr ⟨p, a, fun d => b (h.mono p d), c⟩
    · rintro (a | ⟨p, a, b, c⟩)
      · exact .inl (.inl a)
      · by_cases d : g.has p
        · exact .inl (.inr ⟨p, d, b, c⟩)
        · exact .inr ⟨p, a, d, c⟩
theorem mark_has {f : Fr} {q : Nat} (hq : q < f.seen.length) (p : Nat) : (f.mark q).has p ↔ f.has p ∨ p = q := by
  show (f.seen.set q true)[p]? = some true ↔ _
  rw [List.getElem?_set]
  by_cases h : q = p
  · subst h; rw [if_pos rfl, if_pos hq]; simp
  · rw [if_neg h]
    exact ⟨.inl, fun a => a.elim id fun e => absurd e.symm h⟩
theorem count_set {l : List Bool} {q : Nat} (h : l[q]? = some false) : (l.set q true).count false + 1 = l.count false := by
  induction l generalizing q with
  | nil => simp at h
  | cons a l ih =>
    cases q with
    | zero =>
      have : a = false := by simpa using h
      subst this
      simp
    | succ q =>
      have := ih (q := q) (by simpa using h)
      rw [List.set_cons_succ, List.count_cons, List.count_cons]
      omega
theorem mark_left {f : Fr} {q : Nat} (hq : q < f.seen.length) (h : ¬ f.has q) : (f.mark q).left + 1 = f.left := count_set (by
  have e : f.seen[q]? = some f.seen[q] := List.getElem?_eq_getElem hq
  unfold Fr.has at h
  rw [e] at h ⊢
  cases hb : f.seen[q] with
  | true => rw [hb] at h; exact absurd rfl h
  | false => rfl)
theorem Ent.node {f g0 g : Fr} {q : Nat} {S : Nat → Prop} (hq : q < f.seen.length) (h : ¬ f.has q) (h0 : g0.seen = (f.mark q).seen) (hS : ∀ p, S p ↔ Eps T i n q p) (e : Ent T i n S g0 g)
    (hp : g0.places = f.places ∧ ¬ kindAt T q 1 ∨ g0.places = f.places ++ [q] ∧ kindAt T q 1) (hm : g0.matched = f.matched ∧ ¬ kindAt T q 0 ∨ g0.matched = true ∧ kindAt T q 0) : Ent T i n (fun p => p = q) f g := by
  have H : ∀ p, g0.has p ↔ f.has p ∨ p = q := fun p => by unfold Fr.has; rw [h0]; exact mark_has hq p
  have gq : g.has q := e.mono q ((H q).2 (.inr rfl))
  have L := mark_left hq h
  have L0 : g0.left + 1 = f.left := by unfold Fr.left at L ⊢; rw [h0]; exact L
  refine { len := by rw [e.len, h0]; exact List.length_set, mono := fun p a => e.mono p ((H p).2 (.inl a)), root := fun r hr => by rw [hr]; exact gq, new := ?_, places := ?_, matched := ?_, room := ?_, left := by have := e.left; omega }
  · intro p a b
    by_cases c : p = q
    · subst c
      exact ⟨⟨p, rfl, .refl p⟩, fun u hu => e.root u ((hS u).2 hu)⟩
    · obtain ⟨⟨r, hr, t⟩, u⟩ := e.new p a (fun d => ((H p).1 d).elim b c)
      exact ⟨⟨q, rfl, .head ((hS r).1 hr) t⟩, u⟩
  · intro p
    rw [e.places]
    constructor
    · rintro (a | ⟨a, b, c⟩)
      · rcases hp with ⟨h1, h2⟩ | ⟨h1, h2⟩
        · rw [h1] at a; exact .inl a
        · rw [h1] at a
          rcases List.mem_append.1 a with a | a
          · exact .inl a
          · obtain rfl := List.mem_singleton.1 a
            exact .inr ⟨gq, h, h2⟩
      · exact .inr ⟨a, fun d => b ((H p).2 (.inl d)), c⟩
    · rintro (a | ⟨a, b, c⟩)
      · rcases hp with ⟨h1, h2⟩ | ⟨h1, h2⟩
        · rw [h1]; exact .inl a
        · rw [h1]; exact .inl (List.mem_append_left _ a)
      · by_cases d : p = q
        · subst d
          rcases hp with ⟨h1, h2⟩ | ⟨h1, h2⟩
          · exact absurd c h2
          · rw [h1]; exact .inl (by simp)
        · exact .inr ⟨a, fun k => ((H p).1 k).elim b d, c⟩
  · rw [e.matched]
    constructor
    · rintro (a | ⟨p, a, b, c⟩)
      · rcases hm with ⟨h1, h2⟩ | ⟨h1, h2⟩
        · rw [h1] at a; exact .inl a
        · exact .inr ⟨q, gq, h, h2⟩
      · exact .inr ⟨p, a, fun d => b ((H p).2 (.inl d)), c⟩
    · rintro (a | ⟨p, a, b, c⟩)
      · rcases hm with ⟨h1, h2⟩ | ⟨h1, h2⟩
        · rw [h1]; exact .inl a
        · exact .inl h1
      · by_cases d : p = q
        · subst d
          rcases hm with ⟨h1, h2⟩ | ⟨h1, h2⟩
          · exact absurd c h2
          · exact .inl h1
        · exact .inr ⟨p, a, fun k => ((H p).1 k).elim b d, c⟩
  · have := e.room
    rcases hp with ⟨h1, h2⟩ | ⟨h1, h2⟩
    · rw [h1] at this; omega
    · rw [h1, List.length_append, List.length_singleton] at this; omega
theorem not_kind {q k k' : Nat} {x : St} (h : T[q]? = some x) (hk : x.kind = k) (hne : k ≠ k') : ¬ kindAt T q k' := by
  rintro ⟨y, hy, e⟩
  rw [h] at hy; cases hy
  exact hne (hk.symm.trans e)
theorem is_kind {q k : Nat} {x : St} (h : T[q]? = some x) (hk : x.kind = k) : kindAt T q k := ⟨x, h, hk⟩
section
variable {f g : Fr} {q : Nat} {x : St} (hq : q < f.seen.length) (h : ¬ f.has q) (hx : T[q]? = some x)
include hq h hx
theorem ent_done (hk : x.kind = 0) : Ent T i n (fun p => p = q) f (f.mark q).done :=
  Ent.node (g0 := (f.mark q).done) (S := fun _ => False) hq h rfl (fun p => ⟨False.elim, by rintro ⟨y, hy, (⟨a, _⟩ | ⟨a, _⟩ | ⟨a, _⟩)⟩ <;> (rw [hx] at hy; cases hy; omega)⟩) (Ent.none (f.mark q).done) (.inl ⟨rfl, not_kind hx hk (by decide)⟩) (.inr ⟨rfl, is_kind hx hk⟩)
theorem ent_take (hk : x.kind = 1) : Ent T i n (fun p => p = q) f ((f.mark q).put q) :=
  Ent.node (g0 := (f.mark q).put q) (S := fun _ => False) hq h rfl (fun p => ⟨False.elim, by rintro ⟨y, hy, (⟨a, _⟩ | ⟨a, _⟩ | ⟨a, _⟩)⟩ <;> (rw [hx] at hy; cases hy; omega)⟩) (Ent.none ((f.mark q).put q)) (.inr ⟨rfl, is_kind hx hk⟩) (.inl ⟨rfl, not_kind hx hk (by decide)⟩)
theorem ent_fork (hk : x.kind = 2) {k : Fr} (a : Ent T i n (fun p => p = x.next) (f.mark q) k) (b : Ent T i n (fun p => p = x.other) k g) : Ent T i n (fun p => p = q) f g :=
  Ent.node hq h rfl (fun p => ⟨fun e => ⟨x, hx, .inl ⟨hk, e⟩⟩, by
    rintro ⟨y, hy, (⟨a, e⟩ | ⟨a, _⟩ | ⟨a, _⟩)⟩
    · rw [hx] at hy; cases hy; exact e
    · rw [hx] at hy; cases hy; omega
    · rw [hx] at hy; cases hy; omega⟩) (a.comp b) (.inl ⟨rfl, not_kind hx hk (by decide)⟩) (.inl ⟨rfl, not_kind hx hk (by decide)⟩)
theorem ent_beg (hk : x.kind = 3) (hi : i = 0) (a : Ent T i n (fun p => p = x.next) (f.mark q) g) : Ent T i n (fun p => p = q) f g :=
  Ent.node hq h rfl (fun p => ⟨fun e => ⟨x, hx, .inr (.inl ⟨hk, hi, e⟩)⟩, by
    rintro ⟨y, hy, (⟨a, _⟩ | ⟨a, _, e⟩ | ⟨a, _⟩)⟩
    · rw [hx] at hy; cases hy; omega
    · rw [hx] at hy; cases hy; exact e
    · rw [hx] at hy; cases hy; omega⟩) a (.inl ⟨rfl, not_kind hx hk (by decide)⟩) (.inl ⟨rfl, not_kind hx hk (by decide)⟩)
theorem ent_fin (hk : x.kind = 4) (hi : i = n) (a : Ent T i n (fun p => p = x.next) (f.mark q) g) : Ent T i n (fun p => p = q) f g :=
  Ent.node hq h rfl (fun p => ⟨fun e => ⟨x, hx, .inr (.inr ⟨hk, hi, e⟩)⟩, by
    rintro ⟨y, hy, (⟨a, _⟩ | ⟨a, _⟩ | ⟨a, _, e⟩)⟩
    · rw [hx] at hy; cases hy; omega
    · rw [hx] at hy; cases hy; omega
    · rw [hx] at hy; cases hy; exact e⟩) a (.inl ⟨rfl, not_kind hx hk (by decide)⟩) (.inl ⟨rfl, not_kind hx hk (by decide)⟩)
theorem ent_stop (hk : x.kind = 3 ∧ i ≠ 0 ∨ x.kind = 4 ∧ i ≠ n ∨ 5 ≤ x.kind) : Ent T i n (fun p => p = q) f (f.mark q) :=
  Ent.node (S := fun _ => False) hq h rfl (fun p => ⟨False.elim, by rintro ⟨y, hy, (⟨a, _⟩ | ⟨a, b, _⟩ | ⟨a, b, _⟩)⟩ <;> (rw [hx] at hy; cases hy; omega)⟩) (Ent.none (f.mark q))
    (.inl ⟨rfl, fun ⟨y, hy, e⟩ => by rw [hx] at hy; cases hy; omega⟩) (.inl ⟨rfl, fun ⟨y, hy, e⟩ => by rw [hx] at hy; cases hy; omega⟩)
end
end
theorem newF_has (m p : Nat) : ¬ (newF m).has p := by
  show ¬ (List.replicate m false)[p]? = some true
  rw [List.getElem?_replicate]
  split <;> simp
inductive Fw (T : List St) (s : List UInt8) (st : Nat) (B : Nat → Prop) : Nat → Nat → Prop where
  | start {i : Nat} (hi : i ≤ s.length) (h : B i) : Fw T s st B i st
  | eps {i q p : Nat} (r : Fw T s st B i q) (h : Eps T i s.length q p) : Fw T s st B i p
  | take {i q : Nat} {x : St} {b : UInt8} (r : Fw T s st B i q) (h : T[q]? = some x) (hk : x.kind = 1) (hb : s[i]? = some b) (hs : x.set.testBit b.toNat = true) : Fw T s st B (i + 1) x.next
theorem Fw.le {T : List St} {s : List UInt8} {st : Nat} {B : Nat → Prop} {i q : Nat} (h : Fw T s st B i q) : i ≤ s.length := by
  induction h with
  | start hi _ => exact hi
  | eps _ _ ih => exact ih
  | take _ _ _ hb _ _ => exact (List.getElem?_eq_some_iff.1 hb).1
theorem Fw.run {T : List St} {s : List UInt8} {st : Nat} {B : Nat → Prop} {i q : Nat} (h : Fw T s st B i q) : ∀ k e, Run T s k q i e → ∃ j k', j ≤ s.length ∧ B j ∧ Run T s k' st j e := by
  induction h with
  | start hi hB => exact fun k e r => ⟨_, k, hi, hB, r⟩
  | eps _ h ih =>
    intro k e r
    obtain ⟨x, hx, (⟨a, b | b⟩ | ⟨a, b, c⟩ | ⟨a, b, c⟩)⟩ := h
    · subst b; exact ih _ e (.left hx a r)
    · subst b; exact ih _ e (.right hx a r)
    · subst c; exact ih _ e (.beg hx a b r)
    · subst c; exact ih _ e (.fin hx a b r)
  | take _ h hk hb hs ih => exact fun k e r => ih _ e (.take h hk hb hs r)
theorem Run.fw {T : List St} {s : List UInt8} {st : Nat} {B : Nat → Prop} {k q i e : Nat} (r : Run T s k q i e) (h : Fw T s st B i q) : ∃ p, Fw T s st B e p ∧ kindAt T p 0 := by
  induction r with
  | done hx hk => exact ⟨_, h, _, hx, hk⟩
  | take hx hk hb hs _ ih => exact ih (.take h hx hk hb hs)
  | left hx hk _ ih => exact ih (.eps h ⟨_, hx, .inl ⟨hk, .inl rfl⟩⟩)
  | right hx hk _ ih => exact ih (.eps h ⟨_, hx, .inl ⟨hk, .inr rfl⟩⟩)
  | beg hx hk hi _ ih => exact ih (.eps h ⟨_, hx, .inr (.inl ⟨hk, hi, rfl⟩)⟩)
  | fin hx hk hi _ ih => exact ih (.eps h ⟨_, hx, .inr (.inr ⟨hk, hi, rfl⟩)⟩)
structure FrAt (T : List St) (s : List UInt8) (st : Nat) (B : Nat → Prop) (i : Nat) (f : Fr) : Prop where
  places : ∀ p, p ∈ f.places ↔ Fw T s st B i p ∧ kindAt T p 1
  matched : f.matched = true ↔ ∃ p, Fw T s st B i p ∧ kindAt T p 0
theorem FrAt.of {T : List St} {s : List UInt8} {st : Nat} {B : Nat → Prop} {i m : Nat} {R : Nat → Prop} {f : Fr} (h : Ent T i s.length R (newF m) f) (h1 : ∀ r, R r → Fw T s st B i r)
    (h2 : ∀ p, Fw T s st B i p → R p ∨ ∃ q, Fw T s st B i q ∧ Eps T i s.length q p) (h3 : ∀ p, Fw T s st B i p → f.has p) : FrAt T s st B i f := by
  have H : ∀ p, f.has p ↔ Fw T s st B i p := fun p => ⟨fun a => by
    obtain ⟨r, hr, t⟩ := (h.new p a (newF_has m p)).1
    have hw := h1 r hr
    clear hr a
    induction t with
    | refl q => exact hw
    | head e _ ih => exact ih (Fw.eps hw e), h3 p⟩
  constructor
  · intro p
    rw [h.places]
    constructor
    · rintro (a | ⟨a, _, c⟩)
      · exact absurd a (by simp [newF])
      · exact ⟨(H p).1 a, c⟩
    · exact fun ⟨a, c⟩ => .inr ⟨(H p).2 a, newF_has m p, c⟩
  · rw [h.matched]
    constructor
    · rintro (a | ⟨p, a, _, c⟩)
      · exact absurd a (by simp [newF])
      · exact ⟨p, (H p).1 a, c⟩
    · exact fun ⟨p, a, c⟩ => .inr ⟨p, (H p).2 a, newF_has m p, c⟩
theorem FrAt.first {T : List St} {s : List UInt8} {st : Nat} {B : Nat → Prop} {m : Nat} {f : Fr} (hB : B 0) (h : Ent T 0 s.length (fun p => p = st) (newF m) f) : FrAt T s st B 0 f := by
  have h3 : ∀ i p, Fw T s st B i p → i = 0 → f.has p := fun i p t => by
    induction t with
    | start hi hb => exact fun _ => h.root _ rfl
    | eps r e ih => exact fun h0 => (h.new _ (ih h0) (newF_has m _)).2 _ (by rw [h0] at e; exact e)
    | take => exact fun h0 => absurd h0 (by omega)
  refine FrAt.of h (fun r e => by rw [e]; exact .start (Nat.zero_le _) hB) ?_ fun p t => h3 0 p t rfl
  intro p t
  generalize h0 : 0 = i at t
  cases t with
  | start => exact .inl rfl
  | eps r e => exact .inr ⟨_, r, e⟩
  | take => omega
theorem FrAt.step {T : List St} {s : List UInt8} {st : Nat} {B : Nat → Prop} {i m : Nat} {f g : Fr} {b : UInt8} {R : Nat → Prop} (h : FrAt T s st B i f) (hb : s[i]? = some b)
    (hR : ∀ p, R p ↔ (∃ q x, q ∈ f.places ∧ T[q]? = some x ∧ x.set.testBit b.toNat = true ∧ p = x.next) ∨ (p = st ∧ B (i + 1))) (hg : Ent T (i + 1) s.length R (newF m) g) : FrAt T s st B (i + 1) g := by
  have hi : i + 1 ≤ s.length := (List.getElem?_eq_some_iff.1 hb).1
  have hroot : ∀ {q : Nat} {x : St}, Fw T s st B i q → T[q]? = some x → x.kind = 1 → x.set.testBit b.toNat = true → R x.next := fun a hx hk hs => (hR _).2 (.inl ⟨_, _, (h.places _).2 ⟨a, _, hx, hk⟩, hx, hs, rfl⟩)
  have h3 : ∀ j p, Fw T s st B j p → j = i + 1 → g.has p := fun j p t => by
    induction t with
    | start hi hb => exact fun e => hg.root _ ((hR _).2 (.inr ⟨rfl, by rw [← e]; exact hb⟩))
    | eps r e ih => exact fun h0 => (hg.new _ (ih h0) (newF_has m _)).2 _ (by rw [h0] at e; exact e)
    | take r hx hk hb2 hs _ =>
      intro h0
      obtain rfl := Nat.succ.inj h0
      rw [hb] at hb2
      cases hb2
      exact hg.root _ (hroot r hx hk hs)
  refine FrAt.of hg ?_ ?_ fun p t => h3 _ p t rfl
  · intro r hr
    rcases (hR r).1 hr with ⟨q, x, hq, hx, hs, rfl⟩ | ⟨rfl, hB⟩
    · obtain ⟨a, y, hy, hk⟩ := (h.places q).1 hq
      rw [hx] at hy; cases hy
      exact .take a hx hk hb hs
    · exact .start hi hB
  · intro p t
    generalize h0 : i + 1 = j at t
    cases t with
    | start _ hb => exact .inl ((hR _).2 (.inr ⟨rfl, by rw [h0]; exact hb⟩))
    | eps r e => exact .inr ⟨_, r, e⟩
    | take r hx hk hb2 hs =>
      obtain rfl := Nat.succ.inj h0
      rw [hb] at hb2
      cases hb2
      exact .inl (hroot r hx hk hs)
def progT (x : NodeT) : List St × Nat := bldT (slimT x) [doneS] 0
theorem prog_run (s : List UInt8) {x : NodeT} (h : WF x) (i e : Nat) : (∃ k, Run (progT x).1 s k (progT x).2 i e) ↔ MT s x i e := by
  obtain ⟨hw, hm⟩ := slimT_spec s h
  have F := bldT_frag hw [doneS] 0
  have hd : (progT x).1[0]? = some doneS := F.pre 0 (by simp)
  rw [← hm]
  constructor
  · rintro ⟨k, r⟩
    obtain ⟨j, k', _, a, r'⟩ := F.sound s (progT x).1 (fun _ _ _ => rfl) k i e r
    obtain rfl := r'.of_done hd
    exact a
  · intro a
    exact F.full s (progT x).1 (fun _ _ _ => rfl) 0 i e e a (.done hd rfl)
theorem prog_start {x : NodeT} (h : WF x) : (progT x).2 < (progT x).1.length := by
  have F := bldT_frag (slimT_spec [] h).1 [doneS] 0
  have l := F.len
  rcases F.start with e | e
  · unfold progT; rw [e]; exact l
  · exact e
theorem prog_inn {x : NodeT} (h : WF x) {y : St} (hy : y ∈ (progT x).1) : y.next < (progT x).1.length ∧ y.other < (progT x).1.length := by
  have F := bldT_frag (slimT_spec [] h).1 [doneS] 0
  have l : 1 ≤ (progT x).1.length := F.len
  rcases F.inn y hy with e | ⟨a, b⟩
  · obtain rfl := List.mem_singleton.1 e
    exact ⟨l, l⟩
  · have e : max (bldT (slimT x) [doneS] 0).1.length (0 + 1) = (progT x).1.length := by unfold progT at l ⊢; omega
    rw [e] at a b
    exact ⟨a, b⟩
def Whole (s : List UInt8) (x : NodeT) : Prop := MT s x 0 s.length
def FoundN (s : List UInt8) (x : NodeT) : Prop := ∃ i e, i ≤ s.length ∧ MT s x i e
theorem matched_at {s : List UInt8} {x : NodeT} (h : WF x) {B : Nat → Prop} {i : Nat} {f : Fr} (hf : FrAt (progT x).1 s (progT x).2 B i f) : f.matched = true ↔ ∃ j, j ≤ s.length ∧ B j ∧ MT s x j i := by
  rw [hf.matched]
  constructor
  · rintro ⟨p, a, y, hy, hk⟩
    obtain ⟨j, k, hj, hB, r⟩ := a.run 0 i (.done hy hk)
    exact ⟨j, hj, hB, (prog_run s h j i).1 ⟨k, r⟩⟩
  · rintro ⟨j, hj, hB, m⟩
    obtain ⟨k, r⟩ := (prog_run s h j i).2 m
    exact r.fw (.start hj hB)
theorem whole_at {s : List UInt8} {x : NodeT} (h : WF x) {f : Fr} (hf : FrAt (progT x).1 s (progT x).2 (fun j => j = 0) s.length f) : f.matched = true ↔ Whole s x := by
  rw [matched_at h hf]
  exact ⟨fun ⟨j, _, e, m⟩ => by subst e; exact m, fun m => ⟨0, Nat.zero_le _, rfl, m⟩⟩
theorem whole_none {s : List UInt8} {x : NodeT} (h : WF x) {i : Nat} {f : Fr} (hi : i < s.length) (hf : FrAt (progT x).1 s (progT x).2 (fun j => j = 0) i f) (hp : f.places = []) : ¬ Whole s x := by
  intro m
  obtain ⟨k, r⟩ := (prog_run s h 0 s.length).2 m
  obtain ⟨p, a, _⟩ := r.fw (.start (B := fun j => j = 0) (Nat.zero_le _) rfl)
  have H : ∀ j p, Fw (progT x).1 s (progT x).2 (fun j => j = 0) j p → j ≤ i := fun j p t => by
    induction t with
    | start hi hb => omega
    | eps _ _ ih => exact ih
    | @take j q y b r hx hk hb hs ih =>
      by_cases e : j = i
      · subst e
        have := (hf.places _).2 ⟨r, _, hx, hk⟩
        rw [hp] at this
        cases this
      · omega
  have := H _ p a
  omega
theorem found_at {s : List UInt8} {x : NodeT} (h : WF x) {i : Nat} {f : Fr} (hf : FrAt (progT x).1 s (progT x).2 (fun _ => True) i f) (hm : f.matched = true) : FoundN s x := by
  obtain ⟨j, hj, _, m⟩ := (matched_at h hf).1 hm
  exact ⟨j, i, hj, m⟩
theorem MT_le {s : List UInt8} {x : NodeT} (h : WF x) {i e : Nat} (hi : i ≤ s.length) (m : MT s x i e) : e ≤ s.length := by
  obtain ⟨k, r⟩ := (prog_run s h i e).2 m
  obtain ⟨p, a, _⟩ := r.fw (.start (B := fun _ => True) hi trivial)
  exact a.le

end Go.Proofs.YtbkpoimaienhpaaGreatDoor
namespace Go.Proofs.YtbkpoimaienhpaaGreatDoor
set_option linter.unusedVariables false
set_option linter.unusedSimpArgs false
mutual
def cntT : NodeT → Nat
  | .mk k S mn mx kids => if k = 1 ∨ k = 2 ∨ k = 3 then 1 else if k = 4 then cntsT kids else if k = 5 then cntsT kids + (kids.length - 1)
      else if k = 6 then (if mx < 0 then cntF kids * max mn.toNat 1 + 1 else cntF kids * mx.toNat + (mx - mn).toNat) else 0
def cntsT : List NodeT → Nat
  | [] => 0
  | n :: l => cntT n + cntsT l
def cntF : List NodeT → Nat
  | [] => 0
  | n :: _ => cntT n
end
theorem cntsT_nil : cntsT [] = 0 := by rw [cntsT]
theorem cntsT_cons (n : NodeT) (l : List NodeT) : cntsT (n :: l) = cntT n + cntsT l := by rw [cntsT]
theorem cnt_nil : cntT .nil = 0 := by rw [NodeT.nil, cntT]; rfl
theorem cnt_one (S : Nat) : cntT (.one S) = 1 := by rw [NodeT.one, cntT]; rfl
theorem cnt_beg : cntT (.mk 2 0 0 0 []) = 1 := by rw [cntT]; rfl
theorem cnt_fin : cntT (.mk 3 0 0 0 []) = 1 := by rw [cntT]; rfl
theorem cnt_cat (l : List NodeT) : cntT (.mk 4 0 0 0 l) = cntsT l := by rw [cntT]; rfl
theorem cnt_alt (l : List NodeT) : cntT (.mk 5 0 0 0 l) = cntsT l + (l.length - 1) := by rw [cntT]; rfl
theorem cnt_rep (x : NodeT) (m n : Int) : cntT (.rep x m n) = if n < 0 then cntT x * max m.toNat 1 + 1 else cntT x * n.toNat + (n - m).toNat := by
  rw [NodeT.rep, cntT, cntF]; rfl
def CntB (b : Bld) (c : Nat) : Prop := ∀ Q next, (b Q next).1.length = Q.length + c
theorem cb_no : CntB noB 0 := fun _ _ => rfl
theorem cb_seq {a b : Bld} {c d : Nat} (ha : CntB a c) (hb : CntB b d) : CntB (seqB a b) (c + d) := fun Q next => by
  unfold seqB
  show (a _ _).1.length = _
  rw [ha, hb]; omega
theorem cb_alt {a b : Bld} {c d : Nat} (ha : CntB a c) (hb : CntB b d) : CntB (altB a b) (c + d + 1) := fun Q next => by
  unfold altB
  show List.length (_ ++ _) = _
  rw [List.length_append, ha, hb, List.length_singleton]; omega
theorem cb_must {b : Bld} {c : Nat} (h : CntB b c) : ∀ n, CntB (mustB b n) (c * n)
  | 0 => cb_no
  | n + 1 => by
    have := cb_seq h (cb_must h n)
    rw [show c * (n + 1) = c + c * n by rw [Nat.mul_succ]; omega]
    exact this
theorem cb_forks {b : Bld} {c : Nat} (h : CntB b c) : ∀ n, CntB (forksB b n) (c * n + n)
  | 0 => cb_no
  | n + 1 => by
    have := cb_alt (cb_seq h (cb_forks h n)) cb_no
    rw [show c * (n + 1) + (n + 1) = c + (c * n + n) + 0 + 1 by rw [Nat.mul_succ]; omega]
    exact this
theorem cb_loop {b : Bld} {c : Nat} (h : CntB b c) : CntB (loopB b) (c + 1) := fun Q next => by
  unfold loopB
  show (List.set _ _ _).length = _
  rw [List.length_set, h, List.length_append, List.length_singleton]; omega
theorem cb_rep {b : Bld} {c : Nat} (h : CntB b c) {m n : Int} (h0 : 0 ≤ m) (hn : n = -1 ∨ m ≤ n) : CntB (repB2 b m n) (if n < 0 then c * max m.toNat 1 + 1 else c * n.toNat + (n - m).toNat) := fun Q next => by
  unfold repB2
  by_cases hx : n < 0
  · rw [if_pos hx, if_pos hx]
    show ((if 0 < m then _ else _) : List St × Nat).1.length = _
    by_cases hm : 0 < m
    · rw [if_pos hm, cb_must h, cb_loop h]
      obtain ⟨k, hk⟩ : ∃ k, m.toNat = k + 1 := ⟨m.toNat - 1, by omega⟩
      rw [show (m - 1).toNat = k by omega, hk, show max (k + 1) 1 = k + 1 by omega, Nat.mul_succ]; omega
    · rw [if_neg hm, cb_must h, cb_loop h, show m.toNat = 0 by omega, show max 0 1 = 1 by omega]; omega
  · rw [if_neg hx, if_neg hx]
    show (mustB b m.toNat _ _).1.length = _
    rw [cb_must h, cb_forks h]
    obtain ⟨k, hk⟩ : ∃ k, n.toNat = m.toNat + k := ⟨n.toNat - m.toNat, by omega⟩
    rw [show (n - m).toNat = k by omega, hk, Nat.mul_add]; omega
theorem cb_node {x : NodeT} (h : WF x) : CntB (bldT x) (cntT x) := by
  induction h with
  | nil => rw [cnt_nil, show bldT .nil = noB from by rw [NodeT.nil, bldT]; rfl]; exact cb_no
  | one S => rw [cnt_one, show bldT (.one S) = (fun Q next => (Q ++ [takeS S next], Q.length)) from by rw [NodeT.one, bldT]; rfl]; intro Q next; simp
  | beg => rw [cnt_beg, show bldT (.mk 2 0 0 0 []) = (fun Q next => (Q ++ [begS next], Q.length)) from by rw [bldT]; rfl]; intro Q next; simp
  | fin => rw [cnt_fin, show bldT (.mk 3 0 0 0 []) = (fun Q next => (Q ++ [endS next], Q.length)) from by rw [bldT]; rfl]; intro Q next; simp
  | @cat l hl ih =>
    rw [cnt_cat, show bldT (.mk 4 0 0 0 l) = bldC l from by rw [bldT]; rfl]
    clear hl
    induction l with
    | nil => rw [cntsT_nil, show bldC [] = noB from by rw [bldC]; rfl]; exact cb_no
    | cons a l ih2 =>
      rw [cntsT_cons, show bldC (a :: l) = seqB (bldT a) (bldC l) from by rw [bldC]; rfl]
      exact cb_seq (ih a List.mem_cons_self) (ih2 fun y hy => ih y (List.mem_cons_of_mem _ hy))
  | @alt l h0 hl ih =>
    rw [cnt_alt, show bldT (.mk 5 0 0 0 l) = bldA l from by rw [bldT]; rfl]
    clear hl
    induction l with
    | nil => exact absurd rfl h0
    | cons a l ih2 =>
      cases l with
      | nil =>
        rw [cntsT_cons, cntsT_nil, show bldA [a] = bldT a from by rw [bldA]; rfl]
        exact ih a List.mem_cons_self
      | cons b r =>
        rw [cntsT_cons, show bldA (a :: b :: r) = altB (bldT a) (bldA (b :: r)) from by rw [bldA]; rfl]
        have := cb_alt (ih a List.mem_cons_self) (ih2 (by simp) fun y hy => ih y (List.mem_cons_of_mem _ hy))
        rw [show cntT a + cntsT (b :: r) + ((a :: b :: r).length - 1) = cntT a + (cntsT (b :: r) + ((b :: r).length - 1)) + 1 by simp only [List.length_cons]; omega]
        exact this
  | @rep x m n hx h0 hn ih =>
    rw [cnt_rep, show bldT (.rep x m n) = repB2 (bldT x) m n from by rw [NodeT.rep, bldT]; rfl]
    exact cb_rep ih h0 hn
theorem cnts_filter : ∀ (l : List NodeT), (∀ x, x ∈ l → WF x) → cntsT (l.filter (fun x => !nilK x)) = cntsT l
  | [], _ => rfl
  | x :: l, h => by
    have ih := cnts_filter l (fun y hy => h y (List.mem_cons_of_mem _ hy))
    cases hx : nilK x with
    | true => rw [List.filter_cons_of_neg (by simp [hx]), ih, cntsT_cons, (h x List.mem_cons_self).nilK hx, cnt_nil, Nat.zero_add]
    | false => rw [List.filter_cons_of_pos (by simp [hx]), cntsT_cons, cntsT_cons, ih]
theorem cnt_catS {l : List NodeT} (h : ∀ x, x ∈ l → WF x) : cntT (catS l) = cntsT l := by
  rw [← cnts_filter l h]
  unfold catS
  generalize l.filter (fun x => !nilK x) = ks
  match ks with
  | [] => rw [cntsT_nil]; exact cnt_nil
  | [x] => rw [cntsT_cons, cntsT_nil]; rfl
  | x :: y :: r => exact cnt_cat _
theorem cnts_le {l : List NodeT} (h : ∀ x, x ∈ l → cntT (slimT x) ≤ cntT x) : cntsT (l.map slimT) ≤ cntsT l := by
  induction l with
  | nil => exact Nat.le_refl _
  | cons a l ih =>
    rw [List.map_cons, cntsT_cons, cntsT_cons]
    have := h a List.mem_cons_self
    have := ih fun y hy => h y (List.mem_cons_of_mem _ hy)
    omega
theorem slim_cnt {x : NodeT} (h : WF x) : cntT (slimT x) ≤ cntT x := by
  induction h with
  | nil => rw [NodeT.nil, slimT]; exact Nat.le_refl _
  | one S => rw [NodeT.one, slimT]; exact Nat.le_refl _
  | beg => rw [slimT]; exact Nat.le_refl _
  | fin => rw [slimT]; exact Nat.le_refl _
  | @cat l hl ih =>
    rw [slimT, if_pos rfl, slimsT_map, cnt_cat, cnt_catS (by
      intro x hx
      obtain ⟨y, hy, rfl⟩ := List.mem_map.1 hx
      exact (slimT_spec [] (hl y hy)).1)]
    exact cnts_le ih
  | @alt l h0 hl ih =>
    rw [slimT, if_neg (by decide), if_pos rfl, slimsT_map, cnt_alt]
    unfold altS
    split
    · rw [cnt_nil]; exact Nat.zero_le _
    · rw [cnt_alt, List.length_map]
      have := cnts_le ih
      omega
  | @rep x m n hx h0 hn ih =>
    rw [NodeT.rep, slimT, if_neg (by decide), if_neg (by decide), if_pos rfl, slimsT_map]
    show cntT (repSl (slimT x) m n) ≤ cntT (.rep x m n)
    rw [cnt_rep]
    unfold repSl
    split
    · rw [cnt_nil]; exact Nat.zero_le _
    · rename_i hz
      have hb : 1 ≤ max m.toNat 1 := by omega
      split
      · by_cases hx : n < 0
        · rw [if_pos hx]
          have := Nat.mul_le_mul ih hb
          omega
        · rw [if_neg hx]
          have := Nat.mul_le_mul ih (show 1 ≤ n.toNat by omega)
          omega
      · rw [cnt_rep]
        by_cases hx : n < 0
        · rw [if_pos hx, if_pos hx]
          have := Nat.mul_le_mul ih (Nat.le_refl (max m.toNat 1))
          omega
        · rw [if_neg hx, if_neg hx]
          have := Nat.mul_le_mul ih (Nat.le_refl n.toNat)
          omega
theorem prog_len {x : NodeT} (h : WF x) : (progT x).1.length ≤ 1 + cntT x := by
  have := cb_node (slimT_spec [] h).1 [doneS] 0
  have := slim_cnt h
  unfold progT
  simp only [List.length_singleton] at *
  omega
theorem sizes_cnt : ∀ (l : List NodeT), (∀ x, x ∈ l → sizeT x = min (cntT x : Int) 1000000) → ∀ s : Int, 0 ≤ s → min (sizesT s l) 1000000 = min (s + cntsT l) 1000000 ∧ 0 ≤ sizesT s l
  | [], _, s, hs => by rw [sizesT, cntsT_nil]; exact ⟨by omega, hs⟩
  | x :: l, h, s, hs => by
    rw [sizesT, cntsT_cons]
    by_cases hm : 1000000 ≤ s
    · rw [if_pos hm]; omega
    · rw [if_neg hm]
      have hx := h x List.mem_cons_self
      have := sizes_cnt l (fun y hy => h y (List.mem_cons_of_mem _ hy)) (s + sizeT x) (by omega)
      omega
theorem bound_mul (c k d : Nat) (h : 1 ≤ k ∨ k = 0 ∧ d = 0) : boundS (min (c : Int) 1000000 * k + d) = min ((c * k + d : Nat) : Int) 1000000 := by
  rcases h with h | ⟨rfl, rfl⟩
  · by_cases hc : c ≤ 1000000
    · rw [show min (c : Int) 1000000 = c by omega, show (c : Int) * k + d = ((c * k + d : Nat) : Int) by simp]
      generalize c * k + d = p
      unfold boundS
      omega
    · rw [show min (c : Int) 1000000 = 1000000 by omega]
      have a : c * 1 ≤ c * k := Nat.mul_le_mul_left _ h
      rw [show (1000000 : Int) * k + d = ((1000000 * k + d : Nat) : Int) by simp]
      have b : 1000000 ≤ 1000000 * k + d := by omega
      have e : 1000000 ≤ c * k + d := by omega
      generalize c * k + d = p at e
      generalize 1000000 * k + d = q at b
      clear a hc
      unfold boundS
      omega
  · simp [boundS]
theorem size_cnt {x : NodeT} (h : NF x) : sizeT x = min (cntT x : Int) 1000000 := by
  induction h with
  | nil => rw [cnt_nil]; rw [NodeT.nil, sizeT]; rfl
  | one _ _ => rw [cnt_one]; rw [NodeT.one, sizeT]; rfl
  | beg => rw [cnt_beg]; rw [sizeT]; rfl
  | fin => rw [cnt_fin]; rw [sizeT]; rfl
  | @cat l _ _ _ ih =>
    rw [cnt_cat, sizeT]
    have := sizes_cnt l ih 0 (by omega)
    show boundS (sizesT 0 l) = _
    unfold boundS
    omega
  | @alt l hl _ _ ih =>
    rw [cnt_alt, sizeT]
    have := sizes_cnt l ih 0 (by omega)
    show boundS (sizesT 0 l + l.length - 1) = _
    unfold boundS
    omega
  | @rep x m n hx h0 h20 hn ih =>
    rw [cnt_rep, NodeT.rep, sizeT]
    show boundS (if n < 0 then firstT [x] * max (boundS m) 1 + 1 else firstT [x] * boundS n + boundS n - boundS m) = _
    have hm : boundS m = m := by unfold boundS; omega
    rw [hm, show firstT [x] = sizeT x by rw [firstT], ih]
    by_cases hx : n < 0
    · rw [if_pos hx, if_pos hx]
      obtain ⟨k, hk, hk1⟩ : ∃ k : Nat, max m 1 = (k : Int) ∧ max m.toNat 1 = k := ⟨max m.toNat 1, by omega, rfl⟩
      have hk2 : 1 ≤ k := by omega
      rw [hk, hk1]
      exact bound_mul (cntT x) k 1 (.inl hk2)
    · rw [if_neg hx, if_neg hx]
      have hbn : boundS n = n := by unfold boundS; omega
      rw [hbn]
      obtain ⟨k, hk, hk1⟩ : ∃ k : Nat, n = (k : Int) ∧ n.toNat = k := ⟨n.toNat, by omega, rfl⟩
      obtain ⟨d, hd, hd1⟩ : ∃ d : Nat, n - m = (d : Int) ∧ (n - m).toNat = d := ⟨(n - m).toNat, by omega, rfl⟩
      rw [Int.add_sub_assoc, hd1, hd, hk1, hk]
      exact bound_mul (cntT x) k d (by omega)
theorem prog_many {x : NodeT} (h : NF x) (hs : sizeT x ≤ 200) : (progT x).1.length ≤ 201 := by
  have := prog_len h.canB
  have := size_cnt h
  omega
section
variable (s : List UInt8)
theorem MCat_app (l m : List NodeT) (i j : Nat) : MCat s (l ++ m) i j ↔ ∃ k, MCat s l i k ∧ MCat s m k j := by
  induction l generalizing i with
  | nil =>
    rw [List.nil_append]
    exact ⟨fun h => ⟨i, (MCat_nil s i i).2 rfl, h⟩, fun ⟨k, a, b⟩ => by rw [MCat_nil] at a; subst a; exact b⟩
  | cons a l ih =>
    rw [List.cons_append, MCat_cons]
    constructor
    · rintro ⟨k, p, q⟩
      obtain ⟨k2, p2, q2⟩ := (ih k).1 q
      exact ⟨k2, (MCat_cons s a l i k2).2 ⟨k, p, p2⟩, q2⟩
    · rintro ⟨k2, p, q⟩
      obtain ⟨k, p1, p2⟩ := (MCat_cons s a l i k2).1 p
      exact ⟨k, p1, (ih k).2 ⟨k2, p2, q⟩⟩
theorem MAlt_app (l m : List NodeT) (i j : Nat) : MAlt s (l ++ m) i j ↔ MAlt s l i j ∨ MAlt s m i j := by
  rw [MAlt_mem, MAlt_mem, MAlt_mem]
  constructor
  · rintro ⟨x, hx, h⟩
    exact (List.mem_append.1 hx).imp (fun a => ⟨x, a, h⟩) (fun a => ⟨x, a, h⟩)
  · rintro (⟨x, hx, h⟩ | ⟨x, hx, h⟩)
    · exact ⟨x, List.mem_append_left _ hx, h⟩
    · exact ⟨x, List.mem_append_right _ hx, h⟩
theorem WF.kind4 {x : NodeT} (h : WF x) (hk : x.kind = 4) : x = .mk 4 0 0 0 x.kids := by
  cases h with
  | nil => exact absurd (show (0 : Int) = 4 from hk) (by decide)
  | one S => exact absurd (show (1 : Int) = 4 from hk) (by decide)
  | beg => exact absurd (show (2 : Int) = 4 from hk) (by decide)
  | fin => exact absurd (show (3 : Int) = 4 from hk) (by decide)
  | cat hl => rfl
  | alt h hl => exact absurd (show (5 : Int) = 4 from hk) (by decide)
  | rep hx h0 hn => exact absurd (show (6 : Int) = 4 from hk) (by decide)
theorem WF.kind5 {x : NodeT} (h : WF x) (hk : x.kind = 5) : x = .mk 5 0 0 0 x.kids := by
  cases h with
  | nil => exact absurd (show (0 : Int) = 5 from hk) (by decide)
  | one S => exact absurd (show (1 : Int) = 5 from hk) (by decide)
  | beg => exact absurd (show (2 : Int) = 5 from hk) (by decide)
  | fin => exact absurd (show (3 : Int) = 5 from hk) (by decide)
  | cat hl => exact absurd (show (4 : Int) = 5 from hk) (by decide)
  | alt h hl => rfl
  | rep hx h0 hn => exact absurd (show (6 : Int) = 5 from hk) (by decide)
theorem MCat_catK : ∀ (l : List NodeT), (∀ x, x ∈ l → WF x) → ∀ i j, MCat s (catK l) i j ↔ MCat s l i j
  | [], _, i, j => Iff.rfl
  | x :: l, h, i, j => by
    have ih := MCat_catK l (fun y hy => h y (List.mem_cons_of_mem _ hy))
    have hx := h x List.mem_cons_self
    rw [catK]
    by_cases h0 : x.kind = 0
    · rw [if_pos h0, ih, MCat_cons, hx.nilK (by unfold nilK; rw [h0]; rfl)]
      exact ⟨fun hm => ⟨i, (MT_nil s i i).2 rfl, hm⟩, fun ⟨m, a, b⟩ => by rw [MT_nil] at a; subst a; exact b⟩
    · rw [if_neg h0]
      by_cases h4 : x.kind = 4
      · rw [if_pos h4, MCat_app, MCat_cons]
        have e := hx.kind4 h4
        have H : ∀ k, MT s x i k ↔ MCat s x.kids i k := fun k => by
          have := MT_cat s x.kids i k
          rw [← e] at this
          exact this
        exact ⟨fun ⟨k, a, b⟩ => ⟨k, (H k).2 a, (ih k j).1 b⟩, fun ⟨k, a, b⟩ => ⟨k, (H k).1 a, (ih k j).2 b⟩⟩
      · rw [if_neg h4, MCat_cons, MCat_cons]
        exact ⟨fun ⟨k, a, b⟩ => ⟨k, a, (ih k j).1 b⟩, fun ⟨k, a, b⟩ => ⟨k, a, (ih k j).2 b⟩⟩
theorem MT_catT {l : List NodeT} (h : ∀ x, x ∈ l → WF x) (i j : Nat) : MT s (catT l) i j ↔ MCat s l i j := by
  rw [← MCat_catK s l h i j]
  unfold catT
  generalize catK l = ks
  match ks with
  | [] => rw [MCat_nil]; exact MT_nil s i j
  | [x] => rw [MCat_cons]; exact ⟨fun a => ⟨j, a, (MCat_nil s j j).2 rfl⟩, fun ⟨m, a, b⟩ => by rw [MCat_nil] at b; subst b; exact a⟩
  | x :: y :: r => exact MT_cat s _ i j
theorem MAlt_altK : ∀ (l : List NodeT), (∀ x, x ∈ l → WF x) → ∀ i j, MAlt s (altK l) i j ↔ MAlt s l i j
  | [], _, i, j => Iff.rfl
  | x :: l, h, i, j => by
    have ih := MAlt_altK l (fun y hy => h y (List.mem_cons_of_mem _ hy)) i j
    have hx := h x List.mem_cons_self
    rw [altK]
    by_cases h5 : x.kind = 5
    · rw [if_pos h5, MAlt_app, MAlt_cons, ih]
      have e := hx.kind5 h5
      have := MT_alt s x.kids i j
      rw [← e] at this
      rw [this]
    · rw [if_neg h5, MAlt_cons, MAlt_cons, ih]
theorem MT_altT {l : List NodeT} (h : ∀ x, x ∈ l → WF x) (i j : Nat) : MT s (altT l) i j ↔ MAlt s l i j := by
  rw [← MAlt_altK s l h i j]
  exact MT_alt s _ i j
def finT : NodeT := .mk 3 0 0 0 []
theorem two_wf {x y : NodeT} (h : WF x) (k : WF y) : ∀ z, z ∈ [x, y] → WF z := by
  intro z hz
  rcases List.mem_cons.1 hz with rfl | hz
  · exact h
  · obtain rfl := List.mem_singleton.1 hz
    exact k
theorem or_match {x y : NodeT} (h : WF x) (k : WF y) (i e : Nat) : MT s (altT [x, y]) i e ↔ MT s x i e ∨ MT s y i e := by
  rw [MT_altT s (two_wf h k), MAlt_cons, MAlt_cons, MAlt_nil, or_false]
theorem or_whole {x y : NodeT} (h : WF x) (k : WF y) : Whole s (altT [x, y]) ↔ Whole s x ∨ Whole s y := or_match s h k _ _
theorem oneU_bit (b c : UInt8) : (oneB b.toNat).testBit c.toNat = true ↔ c = b := by
  have : ((0 : Nat) ||| 1 <<< b.toNat).testBit c.toNat = decide (c.toNat = b.toNat) := by rw [Nat.zero_or, bit_one]
  have e : oneB b.toNat = 0 ||| 1 <<< b.toNat := by
    unfold oneB withB
    rw [show b.toNat + 1 - b.toNat = 1 by omega]
    rfl
  rw [e, this, decide_eq_true_iff]
  exact ⟨fun h => UInt8.toNat_inj.1 h, fun h => by rw [h]⟩
def ones (l : List UInt8) : List NodeT := l.map fun c => .one (oneB c.toNat)
theorem ones_wf (l : List UInt8) : ∀ x, x ∈ ones l → WF x := by
  intro x hx
  obtain ⟨c, _, rfl⟩ := List.mem_map.1 hx
  exact .one _
theorem ones_match : ∀ (l : List UInt8) (i j : Nat), MCat s (ones l) i j ↔ l <+: s.drop i ∧ j = i + l.length
  | [], i, j => by rw [show ones [] = [] from rfl, MCat_nil]; simp
  | c :: l, i, j => by
    rw [show ones (c :: l) = .one (oneB c.toNat) :: ones l from rfl, MCat_cons]
    constructor
    · rintro ⟨k, a, b⟩
      obtain ⟨⟨d, hd, hs⟩, rfl⟩ := (MT_one s _ _ _).1 a
      obtain rfl := (oneU_bit c d).1 hs
      obtain ⟨p, e⟩ := (ones_match l _ _).1 b
      obtain ⟨hl, hg⟩ := List.getElem?_eq_some_iff.1 hd
      rw [List.drop_eq_getElem_cons hl, hg, List.cons_prefix_cons]
      exact ⟨⟨rfl, p⟩, by rw [e, List.length_cons]; omega⟩
    · rintro ⟨p, e⟩
      have hl : i < s.length := by
        have := p.length_le
        rw [List.length_cons, List.length_drop] at this
        omega
      rw [List.drop_eq_getElem_cons hl, List.cons_prefix_cons] at p
      exact ⟨i + 1, (MT_one s _ _ _).2 ⟨⟨c, by rw [List.getElem?_eq_getElem hl, p.1], (oneU_bit c c).2 rfl⟩, rfl⟩, (ones_match l _ _).2 ⟨p.2, by rw [e, List.length_cons]; omega⟩⟩
theorem plain_match (l : List UInt8) (i j : Nat) : MT s (catT (ones l)) i j ↔ l <+: s.drop i ∧ j = i + l.length := by
  rw [MT_catT s (ones_wf l), ones_match]
theorem plain_whole (l : List UInt8) : Whole s (catT (ones l)) ↔ s = l := by
  unfold Whole
  rw [plain_match, List.drop_zero]
  constructor
  · rintro ⟨⟨r, h⟩, e⟩
    have := congrArg List.length h
    rw [List.length_append] at this
    have hr : r = [] := List.eq_nil_of_length_eq_zero (by omega)
    rw [hr, List.append_nil] at h
    exact h.symm
  · intro h
    subst h
    exact ⟨List.prefix_refl _, by omega⟩
end

end Go.Proofs.YtbkpoimaienhpaaGreatDoor
namespace Go.Proofs.YtbkpoimaienhpaaGreatDoor
set_option linter.unusedVariables false
set_option linter.unusedSimpArgs false
def Only (s : List UInt8) (c : UInt8) (i j : Nat) : Prop := i ≤ j ∧ ∀ p, i ≤ p → p < j → s[p]? = some c
section
variable (s : List UInt8) (c : UInt8)
theorem Only.none (i : Nat) : Only s c i i := ⟨Nat.le_refl _, fun p h k => by omega⟩
theorem Only.trans {i j k : Nat} (h : Only s c i j) (g : Only s c j k) : Only s c i k :=
  ⟨Nat.le_trans h.1 g.1, fun p a b => if e : p < j then h.2 p a e else g.2 p (by omega) b⟩
theorem one_only (i j : Nat) : MT s (.one (oneB c.toNat)) i j ↔ Only s c i j ∧ j = i + 1 := by
  rw [MT_one]
  constructor
  · rintro ⟨⟨b, hb, hs⟩, e⟩
    obtain rfl := (oneU_bit c b).1 hs
    exact ⟨⟨by omega, fun p h k => by rw [show p = i by omega]; exact hb⟩, e⟩
  · rintro ⟨⟨_, h⟩, e⟩
    exact ⟨⟨c, h i (Nat.le_refl _) (by omega), (oneU_bit c c).2 rfl⟩, e⟩
theorem iter_only : ∀ (n i j : Nat), Iter (MT s (.one (oneB c.toNat))) n i j ↔ Only s c i j ∧ j = i + n
  | 0, i, j => ⟨fun t => by cases t; exact ⟨Only.none s c i, rfl⟩, fun ⟨_, e⟩ => by subst e; exact .zero _⟩
  | n + 1, i, j => by
    constructor
    · intro t
      cases t with
      | succ h t =>
        obtain ⟨a, e⟩ := (one_only s c _ _).1 h
        obtain ⟨b, e2⟩ := (iter_only n _ _).1 t
        exact ⟨a.trans s c b, by omega⟩
    · rintro ⟨⟨h, a⟩, e⟩
      exact .succ ((one_only s c i (i + 1)).2 ⟨⟨by omega, fun p h1 h2 => a p h1 (by omega)⟩, rfl⟩) ((iter_only n (i + 1) j).2 ⟨⟨by omega, fun p h1 h2 => a p (by omega) h2⟩, by omega⟩)
theorem times_match (m n : Int) (i j : Nat) : MT s (.rep (.one (oneB c.toNat)) m n) i j ↔ Only s c i j ∧ m ≤ ((j - i : Nat) : Int) ∧ (n < 0 ∨ ((j - i : Nat) : Int) ≤ n) := by
  rw [MT_rep]
  constructor
  · rintro ⟨k, a, b, t⟩
    obtain ⟨o, e⟩ := (iter_only s c k i j).1 t
    rw [show j - i = k by omega]
    exact ⟨o, a, b⟩
  · rintro ⟨o, a, b⟩
    exact ⟨j - i, a, b, (iter_only s c _ i j).2 ⟨o, by have := o.1; omega⟩⟩
end
theorem only_all (k : Nat) (c : UInt8) (i j : Nat) (hi : i ≤ j) (hj : j ≤ k) : Only (List.replicate k c) c i j :=
  ⟨hi, fun p _ h => by rw [List.getElem?_replicate, if_pos (by omega)]⟩
theorem times_whole (k : Nat) (c : UInt8) (m n : Int) : Whole (List.replicate k c) (.rep (.one (oneB c.toNat)) m n) ↔ m ≤ (k : Int) ∧ (n < 0 ∨ (k : Int) ≤ n) := by
  unfold Whole
  rw [times_match, List.length_replicate, Nat.sub_zero]
  exact ⟨fun h => h.2, fun h => ⟨only_all k c 0 k (Nat.zero_le _) (Nat.le_refl _), h⟩⟩
section
variable (s : List UInt8)
theorem lend_match (l : List UInt8) (i j : Nat) : MT s (catT (ones l ++ [finT])) i j ↔ j = s.length ∧ j = i + l.length ∧ l <+: s.drop i := by
  have hw : ∀ x, x ∈ ones l ++ [finT] → WF x := fun x hx => (List.mem_append.1 hx).elim (ones_wf l x) (fun e => by rw [List.mem_singleton.1 e]; exact .fin)
  rw [MT_catT s hw, MCat_app]
  constructor
  · rintro ⟨k, a, b⟩
    obtain ⟨p, e⟩ := (ones_match s l _ _).1 a
    obtain ⟨m, c, d⟩ := (MCat_cons s _ _ _ _).1 b
    obtain ⟨h1, h2⟩ := (MT_fin s _ _).1 c
    have h3 := (MCat_nil s _ _).1 d
    exact ⟨by omega, by omega, p⟩
  · rintro ⟨h1, h2, p⟩
    exact ⟨j, (ones_match s l _ _).2 ⟨p, h2⟩, (MCat_cons s _ _ _ _).2 ⟨j, (MT_fin s _ _).2 ⟨h1, rfl⟩, (MCat_nil s _ _).2 rfl⟩⟩
theorem lend_found (l : List UInt8) : FoundN s (catT (ones l ++ [finT])) ↔ l.length ≤ s.length ∧ s.drop (s.length - l.length) = l := by
  unfold FoundN
  constructor
  · rintro ⟨i, e, _, m⟩
    obtain ⟨h1, h2, p⟩ := (lend_match s l i e).1 m
    refine ⟨by omega, ?_⟩
    rw [show s.length - l.length = i by omega]
    exact (List.IsPrefix.eq_of_length p (by rw [List.length_drop]; omega)).symm
  · rintro ⟨h, e⟩
    exact ⟨s.length - l.length, s.length, by omega, (lend_match s l _ _).2 ⟨rfl, by omega, by rw [e]; exact List.prefix_refl _⟩⟩
end

end Go.Proofs.YtbkpoimaienhpaaGreatDoor
namespace Go.Proofs.YtbkpoimaienhpaaGreatDoor
set_option linter.unusedVariables false
set_option linter.unusedSimpArgs false
def Roots (T : List St) (ps : List Nat) (b : UInt8) (k p : Nat) : Prop := ∃ q x, q ∈ ps.take k ∧ T[q]? = some x ∧ x.set.testBit b.toNat = true ∧ p = x.next
theorem roots_zero (T : List St) (ps : List Nat) (b : UInt8) (p : Nat) : Roots T ps b 0 p ↔ False := ⟨fun ⟨q, x, h, _⟩ => by simp at h, False.elim⟩
theorem roots_succ {T : List St} {ps : List Nat} {b : UInt8} {k q : Nat} {x : St} (hq : ps[k]? = some q) (hx : T[q]? = some x) (p : Nat) :
    Roots T ps b (k + 1) p ↔ Roots T ps b k p ∨ (x.set.testBit b.toNat = true ∧ p = x.next) := by
  unfold Roots
  rw [List.take_add_one, hq]
  constructor
  · rintro ⟨r, y, hr, hy, hs, e⟩
    rcases List.mem_append.1 hr with hr | hr
    · exact .inl ⟨r, y, hr, hy, hs, e⟩
    · obtain rfl := by simpa using hr
      rw [hx] at hy; cases hy
      exact .inr ⟨hs, e⟩
  · rintro (⟨r, y, hr, hy, hs, e⟩ | ⟨hs, e⟩)
    · exact ⟨r, y, List.mem_append_left _ hr, hy, hs, e⟩
    · exact ⟨q, x, List.mem_append_right _ (by simp), hx, hs, e⟩
theorem roots_no {T : List St} {ps : List Nat} {b : UInt8} {k q : Nat} {x : St} (hq : ps[k]? = some q) (hx : T[q]? = some x) (h : x.set.testBit b.toNat = false) (p : Nat) : Roots T ps b k p ↔ Roots T ps b (k + 1) p := by
  rw [roots_succ hq hx, h]; simp
theorem roots_all {T : List St} {ps : List Nat} {b : UInt8} {k : Nat} (hk : ps.length ≤ k) (p : Nat) : Roots T ps b k p ↔ ∃ q x, q ∈ ps ∧ T[q]? = some x ∧ x.set.testBit b.toNat = true ∧ p = x.next := by
  unfold Roots; rw [List.take_of_length_le hk]
theorem FrAt.whole {T : List St} {s : List UInt8} {st i m k : Nat} {f g : Fr} {b : UInt8} (h : FrAt T s st (fun j => j = 0) i f) (hb : s[i]? = some b) (hk : f.places.length ≤ k) (hg : Ent T (i + 1) s.length (Roots T f.places b k) (newF m) g) :
    FrAt T s st (fun j => j = 0) (i + 1) g := h.step hb (fun p => by rw [roots_all hk]; simp) hg
theorem FrAt.find {T : List St} {s : List UInt8} {st i m k : Nat} {f g0 g : Fr} {b : UInt8} (h : FrAt T s st (fun _ => True) i f) (hb : s[i]? = some b) (hk : f.places.length ≤ k) (h0 : Ent T (i + 1) s.length (Roots T f.places b k) (newF m) g0)
    (hg : Ent T (i + 1) s.length (fun p => p = st) g0 g) : FrAt T s st (fun _ => True) (i + 1) g :=
  h.step (R := fun p => Roots T f.places b k p ∨ p = st) hb (fun p => by rw [roots_all hk]; simp) (h0.comp hg)
def FoundBy (s : List UInt8) (x : NodeT) (a : Nat) : Prop := ∃ i e, i ≤ s.length ∧ e < a ∧ MT s x i e
theorem foundBy_zero (s : List UInt8) (x : NodeT) : ¬ FoundBy s x 0 := fun ⟨i, e, _, h, _⟩ => by omega
theorem foundBy_succ {s : List UInt8} {x : NodeT} (h : WF x) {i : Nat} {f : Fr} (hf : FrAt (progT x).1 s (progT x).2 (fun _ => True) i f) : FoundBy s x (i + 1) ↔ FoundBy s x i ∨ f.matched = true := by
  rw [matched_at h hf]
  constructor
  · rintro ⟨j, e, hj, he, m⟩
    by_cases c : e = i
    · subst c; exact .inr ⟨j, hj, trivial, m⟩
    · exact .inl ⟨j, e, hj, by omega, m⟩
  · rintro (⟨j, e, hj, he, m⟩ | ⟨j, hj, _, m⟩)
    · exact ⟨j, e, hj, by omega, m⟩
    · exact ⟨j, i, hj, by omega, m⟩
theorem foundBy_all {s : List UInt8} {x : NodeT} (h : WF x) : FoundBy s x (s.length + 1) ↔ FoundN s x :=
  ⟨fun ⟨i, e, hi, _, m⟩ => ⟨i, e, hi, m⟩, fun ⟨i, e, hi, m⟩ => ⟨i, e, hi, by have := MT_le h hi m; omega, m⟩⟩
theorem found_last {s : List UInt8} {x : NodeT} (h : WF x) {f : Fr} (hn : ¬ FoundBy s x s.length) (hf : FrAt (progT x).1 s (progT x).2 (fun _ => True) s.length f) : f.matched = true ↔ FoundN s x := by
  rw [← foundBy_all h, foundBy_succ h hf]
  exact ⟨.inr, fun a => a.elim (fun b => absurd b hn) id⟩
theorem bldC_drop {l : List NodeT} {i : Nat} (h : i < l.length) (Q : List St) (next : Nat) : bldC (l.drop i) Q next = bldT l[i] (bldC (l.drop (i + 1)) Q next).1 (bldC (l.drop (i + 1)) Q next).2 := by
  rw [List.drop_eq_getElem_cons h, bldC]
theorem bldC_end (l : List NodeT) (Q : List St) (next : Nat) : bldC (l.drop l.length) Q next = (Q, next) := by
  rw [List.drop_length, bldC]
theorem bldA_last {l : List NodeT} (h : l.length - 1 < l.length) (Q : List St) (next : Nat) : bldA (l.drop (l.length - 1)) Q next = bldT l[l.length - 1] Q next := by
  have e : l.drop (l.length - 1 + 1) = [] := List.drop_eq_nil_of_le (by omega)
  rw [List.drop_eq_getElem_cons h, bldA, e]; rfl
theorem bldA_drop {l : List NodeT} {i : Nat} (h : i + 1 < l.length) (Q : List St) (next : Nat) : bldA (l.drop i) Q next =
    ((bldT (l[i]'(by omega)) (bldA (l.drop (i + 1)) Q next).1 next).1 ++ [forkS (bldT (l[i]'(by omega)) (bldA (l.drop (i + 1)) Q next).1 next).2 (bldA (l.drop (i + 1)) Q next).2], (bldT (l[i]'(by omega)) (bldA (l.drop (i + 1)) Q next).1 next).1.length) := by
  have e : (l.drop (i + 1)).isEmpty = false := by
    rw [List.drop_eq_getElem_cons h]; rfl
  rw [List.drop_eq_getElem_cons (by omega), bldA, e]; rfl
theorem must_succ (b : Bld) (n : Nat) (Q : List St) (f : Nat) : mustB b (n + 1) Q f = b (mustB b n Q f).1 (mustB b n Q f).2 := rfl
theorem forks_succ (b : Bld) (n : Nat) (Q : List St) (f : Nat) : forksB b (n + 1) Q f =
    ((b (forksB b n Q f).1 (forksB b n Q f).2).1 ++ [forkS (b (forksB b n Q f).1 (forksB b n Q f).2).2 f], (b (forksB b n Q f).1 (forksB b n Q f).2).1.length) := rfl
def slimK (l : List NodeT) (k : Nat) : List NodeT := ((l.take k).map slimT).filter (fun x => !nilK x)
theorem slimK_succ {l : List NodeT} {k : Nat} (h : k < l.length) : slimK l (k + 1) = slimK l k ++ (if nilK (slimT l[k]) then [] else [slimT l[k]]) := by
  unfold slimK
  rw [List.take_succ_eq_append_getElem h, List.map_append, List.filter_append]
  congr 1
  cases hn : nilK (slimT l[k]) <;> simp [hn]
theorem slimK_len (l : List NodeT) (k : Nat) : (slimK l k).length ≤ k := by
  unfold slimK
  refine Nat.le_trans (List.length_filter_le _ _) ?_
  rw [List.length_map, List.length_take]; omega
theorem catS_is (l : List NodeT) : (l.filter (fun x => !nilK x) = [] → catS l = .nil) ∧ (∀ x, l.filter (fun x => !nilK x) = [x] → catS l = x) ∧ (2 ≤ (l.filter (fun x => !nilK x)).length → catS l = .mk 4 0 0 0 (l.filter (fun x => !nilK x))) := by
  unfold catS
  generalize l.filter (fun x => !nilK x) = ks
  refine ⟨fun h => by rw [h], fun x h => by rw [h], fun h => ?_⟩
  match ks, h with
  | x :: y :: r, _ => rfl
theorem slim_cat (l : List NodeT) : (slimK l l.length = [] → slimT (.mk 4 0 0 0 l) = .nil) ∧ (∀ x, slimK l l.length = [x] → slimT (.mk 4 0 0 0 l) = x) ∧ (2 ≤ (slimK l l.length).length → slimT (.mk 4 0 0 0 l) = .mk 4 0 0 0 (slimK l l.length)) := by
  rw [slimT, if_pos rfl, slimsT_map]
  have e : slimK l l.length = (l.map slimT).filter (fun x => !nilK x) := by unfold slimK; rw [List.take_length]
  rw [e]
  exact catS_is _
def slimA (l : List NodeT) (k : Nat) : List NodeT := (l.take k).map slimT
theorem slimA_succ {l : List NodeT} {k : Nat} (h : k < l.length) : slimA l (k + 1) = slimA l k ++ [slimT l[k]] := by
  unfold slimA
  rw [List.take_succ_eq_append_getElem h, List.map_append]; rfl
theorem slim_alt (l : List NodeT) : slimT (.mk 5 0 0 0 l) = if (slimA l l.length).all nilK then .nil else .mk 5 0 0 0 (slimA l l.length) := by
  rw [slimT, if_neg (by decide), if_pos rfl, slimsT_map]
  unfold altS slimA
  rw [List.take_length]
theorem slim_rep (x : NodeT) (m n : Int) : slimT (.rep x m n) = if n = 0 then .nil else if nilK (slimT x) = true ∨ m = 1 ∧ n = 1 then slimT x else .rep (slimT x) m n := by
  rw [NodeT.rep, slimT, if_neg (by decide), if_neg (by decide), if_pos rfl, slimsT_map]
  rfl
section
variable {s : List UInt8}
end
end Go.Proofs.YtbkpoimaienhpaaGreatDoor
