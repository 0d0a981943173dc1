/- Parts of letters, joined with two dashes, and cut at them again. -/
import Derived.Test.YthmbgnjbmkmajaaGrid
import Derived.Test.YthmbgnjbmkmajaaRefPut2
namespace Go.Proofs.Ythmbgnjbmkmajaa
open Go.RowKit
set_option linter.unusedVariables false

theorem OwnT.below {w w' : World} {B e : Nat} {v : Value} {l : List ByteArray} (h : OwnT w B e v l) (hb : Below w.heap.size w w') : OwnT w' B e v l :=
  World.ownsRow.kept (row := none) h ⟨hb.os, hb.tape, hb.output, hb.size, fun k hk _ => hb.block k hk⟩ (by cases h : v.ownBlock <;> simp)
theorem partL_snoc (L : Nat) (z : Nat → Int) (k : Nat) (h : k < min L 6) : partL L z (k + 1) = partL L z k ++ [letter (z k)] := by
  unfold partL
  rw [show min (k + 1) (min L 6) = k + 1 from by omega, show min k (min L 6) = k from by omega, List.range_succ, List.map_append]
  rfl
theorem partT_snoc (L : Nat) (z : Nat → Int) (k : Nat) (h : k < min L 6) : partT L z (k + 1) = partT L z k ++ ⟨#[letter (z k)]⟩ := by
  apply text_ext
  rw [text_app]
  exact partL_snoc L z k h
theorem partT_size (L : Nat) (z : Nat → Int) (k : Nat) : (partT L z k).size = min k (min L 6) := by
  rw [partT, put_size]
  simp [partL]
theorem partT_end (L : Nat) (z : Nat → Int) (k : Nat) (h : k = min L 6) : partT L z k = partT L z 6 := by
  unfold partT partL
  rw [show min k (min L 6) = min 6 (min L 6) from by omega]
def NoDash (l : List UInt8) : Prop := ∀ c ∈ l, c ≠ 45
theorem letter_no (z : Int) (h : 0 ≤ z) (h2 : z ≤ 255) : letter z ≠ 45 := by
  intro he
  have := letter_nat z h h2
  rw [he] at this
  simp at this
  omega
theorem part_no (L : Nat) (z : Nat → Int) (k : Nat) (h : ∀ c, c < L → 0 ≤ z c ∧ z c ≤ 255) : NoDash (partT L z k).data.toList := by
  intro c hc
  have hc' : c ∈ partL L z k := hc
  simp only [partL, List.mem_map, List.mem_range] at hc'
  obtain ⟨j, hj, rfl⟩ := hc'
  have := h j (by omega)
  exact letter_no _ this.1 this.2

def dashes : ByteArray := ⟨#[45, 45]⟩
theorem occ_no (p t : List UInt8) (hp : NoDash p) (j : Nat) (hj : j < p.length) : Lib.occAt (p ++ t) [45, 45] j = false := by
  unfold Lib.occAt
  rw [List.drop_append_of_le_length (by omega), List.drop_eq_getElem_cons hj, List.cons_append]
  have : p[j] ≠ 45 := hp _ (List.getElem_mem hj)
  have h2 : ((45 : UInt8) == p[j]) = false := by rw [beq_eq_false_iff_ne]; exact fun h => this h.symm
  show ((45 : UInt8) == p[j] && _) = false
  rw [h2]
  rfl
theorem index_dash (p t : List UInt8) (hp : NoDash p) : Lib.index (p ++ 45 :: 45 :: t) [45, 45] = (p.length : Int) :=
  Lib.index_first (by simp) (by unfold Lib.occAt; rw [List.drop_left]; simp [List.isPrefixOf]) (fun j hj => occ_no p _ hp j hj)
theorem index_nodash (p : List UInt8) (hp : NoDash p) : Lib.index p [45, 45] = -1 :=
  Lib.index_none (fun j hj => by
    rcases Nat.lt_or_ge j p.length with h | h
    · have := occ_no p [] hp j h
      rwa [List.append_nil] at this
    · unfold Lib.occAt
      rw [List.drop_of_length_le h]
      rfl)
theorem cut_dash (s p t : ByteArray) (hs : s.data.toList = p.data.toList ++ 45 :: 45 :: t.data.toList) (hp : NoDash p.data.toList) : cutR s [dashes] = (p, dashes, t) := by
  have hi : Lib.index s.data.toList dashes.data.toList = (p.size : Int) := by rw [hs, ← size_toList]; exact index_dash _ _ hp
  have hF : cutF s [dashes] = ((p.size : Int), dashes) := by
    show cutStep s (-1, .empty) dashes = _
    rw [cutStep, if_neg (by decide), hi, if_pos ⟨by omega, .inl (by decide)⟩]
  have hsz : s.size = p.size + 2 + t.size := by rw [← size_toList s, hs, List.length_append, List.length_cons, List.length_cons, size_toList, size_toList]; omega
  rw [cutR, hF, if_neg (by simp)]
  have e1 : s.extract 0 ((p.size : Int)).toNat = p := by
    apply text_ext
    rw [text_take, hs, Int.toNat_natCast, ← size_toList p, List.take_left]
  have e2 : s.extract (((p.size : Int)).toNat + dashes.size) s.size = t := by
    apply text_ext
    rw [text_part, List.take_of_length_le (by rw [size_toList]; exact Nat.le_refl _), hs, Int.toNat_natCast, ← size_toList p, ← List.drop_drop, List.drop_left]
    rfl
  rw [e1, e2]
theorem cut_nodash (p : ByteArray) (hp : NoDash p.data.toList) : cutR p [dashes] = (p, .empty, .empty) := by
  have hi : Lib.index p.data.toList dashes.data.toList = -1 := index_nodash _ hp
  have hF : cutF p [dashes] = (-1, .empty) := by
    show cutStep p (-1, .empty) dashes = _
    rw [cutStep, if_neg (by decide), hi, if_neg (by decide)]
  rw [cutR, hF]
  rfl
def sepAt (i n : Nat) : ByteArray := if i + 1 < n then dashes else .empty
theorem cut_joined (ps : List ByteArray) (hp : ∀ p ∈ ps, NoDash p.data.toList) (i : Nat) (hi : i < ps.length) : cutR (joinT dashes (ps.drop i)) [dashes] = (ps.getD i .empty, sepAt i ps.length, joinT dashes (ps.drop (i + 1))) := by
  have hx : ps.getD i .empty = ps[i] := by rw [List.getD_eq_getElem?_getD, List.getElem?_eq_getElem hi]; rfl
  rw [hx, List.drop_eq_getElem_cons hi]
  have hn := hp _ (List.getElem_mem hi)
  unfold sepAt
  by_cases h : i + 1 < ps.length
  · rw [if_pos h]
    apply cut_dash _ _ _ _ hn
    rw [List.drop_eq_getElem_cons h, joinT_data, joinT_data]
    simp only [joinB, List.map_cons, Lib.join_cons, Lib.joinTail, List.flatten_cons]
    simp [dashes]
  · rw [if_neg h, List.drop_of_length_le (by omega)]
    have e : joinT dashes [ps[i]] = ps[i] := text_ext (by rw [joinT_data]; simp [joinB, Lib.join_one])
    rw [e, cut_nodash _ hn]
    rfl
def total (ps : List ByteArray) : Nat := ps.foldr (fun p n => p.size + n) 0
theorem total_snoc (ps : List ByteArray) (p : ByteArray) : total (ps ++ [p]) = total ps + p.size := by
  induction ps with
  | nil => simp [total]
  | cons x ps ih => simp only [total, List.cons_append, List.foldr_cons] at ih ⊢; omega
theorem lens_total (ps : List ByteArray) : Lib.lens (ps.map (·.data.toList)) = total ps := by
  induction ps with
  | nil => rfl
  | cons x ps ih =>
    simp only [Lib.lens, total, List.map_cons, List.sum_cons, List.foldr_cons] at ih ⊢
    rw [ih, size_toList]
theorem joined_size (sep : ByteArray) (ps : List ByteArray) : (joinT sep ps).size = total ps + sep.size * (ps.length - 1) := by
  have e : (joinT sep ps).size = (joinB sep ps).length := put_size _
  rw [e, joinB]
  match ps with
  | [] => simp [Lib.join_nil, total]
  | x :: r =>
    rw [List.map_cons, Lib.join_cons, List.length_append, Lib.joinTail_length, lens_total, size_toList, size_toList, List.length_map]
    simp only [total, List.foldr_cons, List.length_cons, Nat.add_sub_cancel]
    omega
theorem total_le (ps : List ByteArray) (h : ∀ p ∈ ps, p.size ≤ 6) : total ps ≤ 6 * ps.length := by
  induction ps with
  | nil => simp [total]
  | cons x ps ih =>
    have h1 := ih fun p hp => h p (List.mem_cons_of_mem _ hp)
    have h2 := h x (List.mem_cons_self ..)
    simp only [total, List.foldr_cons, List.length_cons] at h1 ⊢
    omega
theorem join_single (sep x : ByteArray) : joinT sep [x] = x := text_ext (by rw [joinT_data]; simp [joinB, Lib.join_one])
def partsL (L : Nat → Nat) (Z : Nat → Nat → Int) (k : Nat) : List ByteArray := (List.range k).map fun r => partT (L r) (Z r) 6
theorem partsL_snoc (L : Nat → Nat) (Z : Nat → Nat → Int) (k : Nat) : partsL L Z (k + 1) = partsL L Z k ++ [partT (L k) (Z k) 6] := by
  unfold partsL
  rw [List.range_succ, List.map_append]
  rfl
theorem partsL_len (L : Nat → Nat) (Z : Nat → Nat → Int) (k : Nat) : (partsL L Z k).length = k := by simp [partsL]
theorem partsL_small (L : Nat → Nat) (Z : Nat → Nat → Int) (k : Nat) : ∀ p ∈ partsL L Z k, p.size ≤ 6 := by
  intro p hp
  simp only [partsL, List.mem_map] at hp
  obtain ⟨r, _, rfl⟩ := hp
  rw [partT_size]
  omega
theorem partsL_no (L : Nat → Nat) (Z : Nat → Nat → Int) (k : Nat) (h : ∀ r, r < k → ∀ c, c < L r → 0 ≤ Z r c ∧ Z r c ≤ 255) : ∀ p ∈ partsL L Z k, NoDash p.data.toList := by
  intro p hp
  simp only [partsL, List.mem_map, List.mem_range] at hp
  obtain ⟨r, hr, rfl⟩ := hp
  exact part_no _ _ _ (h r hr)
end Go.Proofs.Ythmbgnjbmkmajaa
