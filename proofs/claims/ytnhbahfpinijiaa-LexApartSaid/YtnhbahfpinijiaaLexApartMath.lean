/- Words with a space behind each (the pure part of LexApart). No program. -/
import Derived.Test.YtnhbahfpinijiaaLexSep
import Derived.Test.YtnhbahfpinijiaaBackPure
namespace Go.Proofs.Ytnhbahfpinijiaa
open Go.RowKit
set_option linter.unusedVariables false

/-- a word, and its bytes -/
structure WordA (kd : Int) (tt bs : ByteArray) : Prop where
  word : ∀ r, wordL (bs.data.toList ++ 32 :: r) = (kd, tt, bs.size)
  head : headK [3] bs.data.toList = false
  ne : bs.data.toList ≠ []
  kind : kd ≠ 0
  size : bs.size ≤ 14
theorem wordA_op (o : ByteArray) (ho : o ∈ opsT) : WordA 4 o o := by
  have h1 : ∀ o ∈ opsT, opL o.data.toList = some o ∧ headK [3] o.data.toList = false ∧ o.data.toList ≠ [] ∧ o.size ≤ 14 := by decide
  obtain ⟨a, b, c, d⟩ := h1 o ho
  refine ⟨fun r => ?_, b, c, by decide, d⟩
  have e : opL (o.data.toList ++ 32 :: r) = some o := by rw [opL_sep _ _ _ (free_of (by decide)), a]
  unfold wordL
  rw [e]
theorem wordA_text (v : ByteArray) (hv : v.size ≤ 3) : WordA 2 v ⟨(putB v.data.toList).toArray⟩ := by
  have hl := flat_len v.data.toList
  rw [size_toList] at hl
  have hlen : (putB v.data.toList).length = (v.data.toList.flatMap formB).length + 2 := by simp [putB]
  have hsz : (⟨(putB v.data.toList).toArray⟩ : ByteArray).size = (putB v.data.toList).length := tx_size _
  have hli : (⟨(putB v.data.toList).toArray⟩ : ByteArray).data.toList = putB v.data.toList := tx_list _
  refine ⟨fun r => ?_, ?_, ?_, by decide, by omega⟩
  · rw [hli, hsz]
    have e : opL (putB v.data.toList ++ 32 :: r) = none := by
      unfold putB
      rw [List.cons_append]
      exact opL_free 34 _ (by decide)
    unfold wordL
    rw [e]
    dsimp only
    rw [get_back, if_pos rfl]
    rfl
  · rw [hli]; exact (by decide : goodK [3] 34 = false)
  · rw [hli]; unfold putB; simp
theorem low_good : ∀ i, i < 26 → goodK [0, 1] (UInt8.ofNat (97 + i)) = true := by decide
theorem dig_good : ∀ j, j < 10 → goodK [0, 1] (UInt8.ofNat (48 + j)) = true ∧ goodK [0] (UInt8.ofNat (48 + j)) = true := by decide
theorem let012' : ∀ c : UInt8, goodK [0, 1] c = true → goodK [0, 1, 2] c = true := by
  intro c h
  unfold goodK at *
  simp only [List.any_cons, List.any_nil, Bool.or_false, Bool.or_eq_true] at *
  rcases h with h | h
  · exact .inl h
  · exact .inr (.inl h)
def nameT (i j : Nat) : ByteArray := (⟨#[110]⟩ : ByteArray) ++ (⟨#[UInt8.ofNat (97 + i), UInt8.ofNat 95, UInt8.ofNat (48 + j)]⟩ : ByteArray)
theorem name_list (i j : Nat) : (nameT i j).data.toList = [110, UInt8.ofNat (97 + i), 95, UInt8.ofNat (48 + j)] := by
  unfold nameT
  rw [text_joined]
  rfl
theorem wordA_name (i j : Nat) (hi : i < 26) (hj : j < 10) : WordA 1 (nameT i j) (nameT i j) := by
  have hl := name_list i j
  have hsz : (nameT i j).size = 4 := by rw [← size_toList, hl]; rfl
  have hg : ∀ c ∈ [110, UInt8.ofNat (97 + i), 95, UInt8.ofNat (48 + j)], goodK [0, 1, 2] c = true := by
    intro c hc
    simp only [List.mem_cons, List.not_mem_nil, or_false] at hc
    rcases hc with rfl | rfl | rfl | rfl
    · decide
    · exact let012' _ (low_good i hi)
    · decide
    · exact let012' _ (dig_good j hj).1
  refine ⟨fun r => ?_, by rw [hl]; rfl, by rw [hl]; simp, by decide, by omega⟩
  have h := word_name_sep _ r 32 hg rfl (by simp) (by decide)
  rw [hl, h, hsz]
  refine Prod.ext rfl (Prod.ext ?_ rfl)
  rw [← hl]
  rfl
def valT (j i : Nat) : ByteArray := ⟨#[UInt8.ofNat (48 + j), UInt8.ofNat (97 + i), UInt8.ofNat 90]⟩
theorem wordA_val (j i : Nat) (hi : i < 26) (hj : j < 10) : WordA 3 (valT j i) (valT j i) := by
  have hl : (valT j i).data.toList = [UInt8.ofNat (48 + j), UInt8.ofNat (97 + i), UInt8.ofNat 90] := rfl
  have hsz : (valT j i).size = 3 := rfl
  have hg : ∀ c ∈ [UInt8.ofNat (48 + j), UInt8.ofNat (97 + i), UInt8.ofNat 90], goodK [0, 1] c = true := by
    intro c hc
    simp only [List.mem_cons, List.not_mem_nil, or_false] at hc
    rcases hc with rfl | rfl | rfl
    · exact (dig_good j hj).1
    · exact low_good i hi
    · decide
  refine ⟨fun r => ?_, ?_, by rw [hl]; simp, by decide, by omega⟩
  · have h := word_value_sep _ r 32 hg (dig_good j hj).2 (by decide)
    rw [hl, h, hsz]
    rfl
  · rw [hl]
    exact (good_free _ (let012' _ (dig_good j hj).1)).2.2.1
theorem lexGo_space (g : Nat) (x : List UInt8) (k : Nat) (acc : List TokB) : lexGo (g + 1) (32 :: x) k acc = lexGo (g + 1) x (k + 1) acc := by
  have e : spaces (32 :: x) = 1 + spaces x := by
    have := spaces_front [32] x (by intro c hc; rw [List.mem_singleton.1 hc]; decide)
    exact this
  rw [lexGo_at, lexGo_at, e, ← List.drop_drop]
  show lexAt g (x.drop (spaces x)) (k + (1 + spaces x)) acc = _
  rw [Nat.add_assoc]
/-- what a text of words reads as, whatever stands behind it -/
def Sent (s : ByteArray) (toks : List TokB) : Prop := ∀ (f : Nat) (x : List UInt8), s.size + 1 ≤ f → ∃ g, f ≤ g + s.size ∧ 1 ≤ g ∧ lexGo f (s.data.toList ++ x) 0 [] = lexGo g x s.size toks
theorem sent_nil : Sent ⟨#[]⟩ [] := fun f x h => ⟨f, by omega, by have : (⟨#[]⟩ : ByteArray).size = 0 := rfl; omega, rfl⟩
theorem Sent.more {s : ByteArray} {toks : List TokB} (h : Sent s toks) {kd : Int} {tt bs : ByteArray} (hw : WordA kd tt bs) : Sent (s ++ bs ++ (⟨#[32]⟩ : ByteArray)) (toks ++ [⟨kd, tt, s.size⟩]) := by
  intro f x hf
  have hz : (s ++ bs ++ (⟨#[32]⟩ : ByteArray)).size = s.size + bs.size + 1 := by rw [ByteArray.size_append, ByteArray.size_append]; rfl
  rw [hz] at hf ⊢
  obtain ⟨g, h1, h2, h3⟩ := h f (bs.data.toList ++ 32 :: x) (by omega)
  obtain ⟨g, rfl⟩ : ∃ j, g = j + 1 := ⟨g - 1, by omega⟩
  obtain ⟨g, rfl⟩ : ∃ j, g = j + 1 := ⟨g - 1, by omega⟩
  have hne : bs.data.toList ++ 32 :: x ≠ [] := by simp
  have hsp : spaces (bs.data.toList ++ 32 :: x) = 0 := by
    cases hl : bs.data.toList with
    | nil => exact absurd hl hw.ne
    | cons c l =>
      have := hw.head
      rw [hl] at this
      exact spaces_head c _ this
  refine ⟨g + 1, by omega, by omega, ?_⟩
  have e : (s ++ bs ++ (⟨#[32]⟩ : ByteArray)).data.toList ++ x = s.data.toList ++ (bs.data.toList ++ 32 :: x) := by
    rw [text_joined, text_joined]
    simp
  rw [e, h3, lexGo_word _ _ _ _ kd tt bs.size hne hsp (hw.word x) hw.kind]
  have ed : (bs.data.toList ++ 32 :: x).drop bs.size = 32 :: x := by rw [← size_toList]; simp
  rw [ed, lexGo_space]
theorem sent_all {s : ByteArray} {toks : List TokB} (h : Sent s toks) (hs : s.size ≤ 1024) : lexL s.data.toList = (toks, s.size, 0) := by
  obtain ⟨g, h1, h2, h3⟩ := h (s.size + 1) [] (Nat.le_refl _)
  rw [List.append_nil] at h3
  unfold lexL
  rw [if_neg (by rw [size_toList]; omega), size_toList, h3]
  obtain ⟨g, rfl⟩ : ∃ j, g = j + 1 := ⟨g - 1, by omega⟩
  rw [lexGo_succ]
  rfl
end Go.Proofs.Ytnhbahfpinijiaa
