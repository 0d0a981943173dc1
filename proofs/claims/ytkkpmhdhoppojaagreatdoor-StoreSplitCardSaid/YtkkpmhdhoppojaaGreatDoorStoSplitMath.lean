-- shaken
import Derived.Test.YtkkpmhdhoppojaaGreatDoorStoPure
namespace Go.Proofs.YtkkpmhdhoppojaaGreatDoor
open Go.RowKit
set_option linter.unusedVariables false
set_option linter.unusedSimpArgs false
theorem cmpZ_pos {a b : Int} : 0 < cmpZ a b ↔ b < a := by
  unfold cmpZ
  split
  · constructor <;> intro _ <;> omega
  · split
    · constructor <;> intro _ <;> omega
    · constructor <;> intro _ <;> omega
theorem leB_ts {a b : EntB} (h : leB a b) : a.ts ≤ b.ts := by
  unfold leB entC at h
  by_cases h0 : cmpZ a.ts b.ts = 0
  · have h1 : ¬ 0 < cmpZ a.ts b.ts := by omega
    rw [cmpZ_pos] at h1
    omega
  · rw [if_neg h0] at h
    have h1 : cmpZ a.ts b.ts < 0 := by omega
    rw [cmpZ_lt] at h1
    omega
def inT (lo hi : Int) (e : EntB) : Bool := decide (lo ≤ e.ts) && decide (e.ts < hi)
theorem meets_in (lo hi : Int) (asc : Bool) (lim : Int) (af : EntB) (e : EntB) : (meetsB ⟨lo, hi, asc, lim, false, af⟩ e && (fun _ : List PairB => true) e.ls) = inT lo hi e := by
  unfold meetsB inT
  simp
theorem met_in (lo hi : Int) (asc : Bool) (lim : Int) (af : EntB) (L : List EntB) : metL (fun _ => true) ⟨lo, hi, asc, lim, false, af⟩ L = (dirL asc L).filter (inT lo hi) := by
  unfold metL
  congr 1
  funext e
  exact meets_in lo hi asc lim af e
theorem filter_none {α : Type} {p : α → Bool} {l : List α} (h : ∀ x ∈ l, p x = false) : l.filter p = [] := by
  rw [List.filter_eq_nil_iff]
  intro x hx
  rw [h x hx]
  decide
theorem split_up (lo z hi : Int) (h1 : lo ≤ z) (h2 : z ≤ hi) : ∀ (D : List EntB), D.Pairwise (fun a b => a.ts ≤ b.ts) → D.filter (inT lo hi) = D.filter (inT lo z) ++ D.filter (inT z hi)
  | [], _ => rfl
  | e :: D, h => by
    have hp := List.pairwise_cons.1 h
    have ih := split_up lo z hi h1 h2 D hp.2
    by_cases c1 : lo ≤ e.ts
    · by_cases c2 : e.ts < z
      · rw [List.filter_cons_of_pos (by unfold inT; simp; omega), List.filter_cons_of_pos (by unfold inT; simp; omega), List.filter_cons_of_neg (by unfold inT; simp; omega), ih]
        rfl
      · have hn : D.filter (inT lo z) = [] := filter_none fun x hx => by
          have := hp.1 x hx
          unfold inT
          rw [Bool.and_eq_false_iff]
          right
          exact decide_eq_false (by omega)
        by_cases c3 : e.ts < hi
        · rw [List.filter_cons_of_pos (by unfold inT; simp; omega), List.filter_cons_of_neg (by unfold inT; simp; omega), List.filter_cons_of_pos (by unfold inT; simp; omega), ih, hn]
          rfl
        · rw [List.filter_cons_of_neg (by unfold inT; simp; omega), List.filter_cons_of_neg (by unfold inT; simp; omega), List.filter_cons_of_neg (by unfold inT; simp; omega), ih]
    · rw [List.filter_cons_of_neg (by unfold inT; simp; omega), List.filter_cons_of_neg (by unfold inT; simp; omega), List.filter_cons_of_neg (by unfold inT; simp; omega), ih]
theorem split_down (lo z hi : Int) (h1 : lo ≤ z) (h2 : z ≤ hi) (D : List EntB) (h : D.Pairwise (fun a b => a.ts ≤ b.ts)) : D.reverse.filter (inT lo hi) = D.reverse.filter (inT z hi) ++ D.reverse.filter (inT lo z) := by
  rw [List.filter_reverse, List.filter_reverse, List.filter_reverse, split_up lo z hi h1 h2 D h, List.reverse_append]
theorem met_split_z (z : Int) (h1 : -12 ≤ z) (h2 : z ≤ 12) (asc : Bool) (lim : Int) (af : EntB) (L : List EntB) (h : L.Pairwise leB) :
    metL (fun _ => true) ⟨-12, 12, asc, lim, false, af⟩ L = if asc then metL (fun _ => true) ⟨-12, z, asc, lim, false, af⟩ L ++ metL (fun _ => true) ⟨z, 12, asc, lim, false, af⟩ L else metL (fun _ => true) ⟨z, 12, asc, lim, false, af⟩ L ++ metL (fun _ => true) ⟨-12, z, asc, lim, false, af⟩ L := by
  have hp : L.Pairwise (fun a b => a.ts ≤ b.ts) := h.imp leB_ts
  rw [met_in, met_in, met_in]
  cases asc with
  | true => exact split_up (-12) z 12 h1 h2 L hp
  | false => exact split_down (-12) z 12 h1 h2 L hp
theorem tell_all {T : List PairB → Bool} {a : AskB} {m : Int} {L : List EntB} (h : L.length ≤ m.toNat) : tellL T a m L = metL T a L ∧ moreL T a m L = false := by
  have h1 : (metL T a L).length ≤ L.length := by
    unfold metL
    exact Nat.le_trans (List.length_filter_le _ _) (by rw [dirL_len]; exact Nat.le_refl _)
  exact ⟨List.take_of_length_le (by omega), decide_eq_false (by omega)⟩
end Go.Proofs.YtkkpmhdhoppojaaGreatDoor
