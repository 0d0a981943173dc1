/- Signs, a name, a number, one behind the other (the pure part of LexLongest). No program. -/
import Derived.Test.YtnhbahfpinijiaaLexSep
namespace Go.Proofs.Ytnhbahfpinijiaa
open Go.RowKit
set_option linter.unusedVariables false

def xsT : List ByteArray := [⟨#[61, 126]⟩, ⟨#[33, 126]⟩, ⟨#[33, 61]⟩, ⟨#[61, 61]⟩, ⟨#[62, 61]⟩, ⟨#[60, 61]⟩, ⟨#[124, 61]⟩, ⟨#[124, 126]⟩]
def ysT : List ByteArray := [⟨#[123]⟩, ⟨#[125]⟩, ⟨#[44]⟩, ⟨#[62]⟩, ⟨#[60]⟩]
theorem opL_two (r : List UInt8) : ∀ x ∈ xsT, opL (x.data.toList ++ r) = some x := by
  intro x hx
  simp only [xsT, List.mem_cons, List.not_mem_nil, or_false] at hx
  rcases hx with rfl | rfl | rfl | rfl | rfl | rfl | rfl | rfl <;> rfl
theorem opL_y (r : List UInt8) (hr : r.head? ≠ some 61) : ∀ y ∈ ysT, opL (y.data.toList ++ r) = some y := by
  intro y hy
  have hd : r = [] ∨ ∃ c t, r = c :: t ∧ c ≠ 61 := by
    cases r with
    | nil => exact .inl rfl
    | cons c t => exact .inr ⟨c, t, rfl, fun h => hr (by rw [h]; rfl)⟩
  simp only [ysT, List.mem_cons, List.not_mem_nil, or_false] at hy
  rcases hd with rfl | ⟨c, t, rfl, hc⟩
  · rcases hy with rfl | rfl | rfl | rfl | rfl <;> rfl
  · have e : (61 == c) = false := by rw [beq_eq_false_iff_ne]; exact fun h => hc h.symm
    rcases hy with rfl | rfl | rfl | rfl | rfl
    · rfl
    · rfl
    · rfl
    · have : opL (62 :: c :: t) = some ⟨#[62]⟩ := by
        unfold opL opsT
        simp [List.find?_cons, List.isPrefixOf, e]
      exact this
    · have : opL (60 :: c :: t) = some ⟨#[60]⟩ := by
        unfold opL opsT
        simp [List.find?_cons, List.isPrefixOf, e]
      exact this
theorem word_of_op (l : List UInt8) (o : ByteArray) (h : opL l = some o) : wordL l = (4, o, o.size) := by
  unfold wordL
  rw [h]
theorem xs_facts : ∀ x ∈ xsT, x.size = 2 ∧ headK [3] x.data.toList = false ∧ x.data.toList ≠ [] := by decide
theorem ys_facts : ∀ y ∈ ysT, y.size = 1 ∧ headK [3] y.data.toList = false ∧ headK [0, 1, 2] y.data.toList = false ∧ headK [0, 1] y.data.toList = false ∧ y.data.toList ≠ [] := by decide
theorem spaces_of (l r : List UInt8) (h : headK [3] l = false) (hl : l ≠ []) : spaces (l ++ r) = 0 ∧ l ++ r ≠ [] := by
  cases l with
  | nil => exact absurd rfl hl
  | cons c l => exact ⟨spaces_head c _ h, by simp⟩
/-- the letters of a name and a number -/
def letG (nm : List UInt8) : Prop := ∀ c ∈ nm, goodK [0, 1] c = true
theorem let012 : ∀ c : UInt8, goodK [0, 1] c = true → goodK [0, 1, 2] c = true := by
  intro c h
  unfold goodK at *
  simp only [List.any_cons, List.any_nil, Bool.or_false, Bool.or_eq_true] at *
  rcases h with h | h
  · exact .inl h
  · exact .inr (.inl h)
theorem good01_ne : ∀ c : UInt8, goodK [0, 1, 2] c = true → c ≠ 61 := by
  intro c h e
  subst e
  revert h
  decide
def longT (x y nm vl : ByteArray) : ByteArray := x ++ y ++ nm ++ y ++ vl ++ y
theorem long_list (x y nm vl : ByteArray) : (longT x y nm vl).data.toList = x.data.toList ++ (y.data.toList ++ (nm.data.toList ++ (y.data.toList ++ (vl.data.toList ++ y.data.toList)))) := by
  unfold longT
  rw [text_joined, text_joined, text_joined, text_joined, text_joined]
  simp only [List.append_assoc]
def longL (x y nm vl : ByteArray) : List TokB := [⟨4, x, 0⟩, ⟨4, y, 2⟩, ⟨1, nm, 3⟩, ⟨4, y, 3 + nm.size⟩, ⟨3, vl, 4 + nm.size⟩, ⟨4, y, 4 + nm.size + vl.size⟩]
theorem drop_size (s : ByteArray) (r : List UInt8) : (s.data.toList ++ r).drop s.size = r := by rw [← size_toList]; simp
theorem lexL_long (x y nm vl : ByteArray) (hx : x ∈ xsT) (hy : y ∈ ysT) (hn : letG nm.data.toList) (hn2 : headK [1, 2] nm.data.toList = true) (hn3 : nm.size ≤ 32) (hv : letG vl.data.toList) (hv2 : headK [0] vl.data.toList = true) (hv3 : vl.size ≤ 32) :
    lexL (longT x y nm vl).data.toList = (longL x y nm vl, 5 + nm.size + vl.size, 0) := by
  obtain ⟨x1, x2, x3⟩ := xs_facts x hx
  obtain ⟨y1, y2, y3, y4, y5⟩ := ys_facts y hy
  have hnn : nm.data.toList ≠ [] := by intro h; rw [h] at hn2; cases hn2
  have hvn : vl.data.toList ≠ [] := by intro h; rw [h] at hv2; cases hv2
  have hsp : ∀ l : List UInt8, letG l → headK [3] l = false := by
    intro l h
    cases l with
    | nil => rfl
    | cons c l => exact (good_free c (let012 c (h c List.mem_cons_self))).2.2.1
  have hne : ∀ (l r : List UInt8), letG l → l ≠ [] → (l ++ r).head? ≠ some 61 := by
    intro l r h h2
    cases l with
    | nil => exact absurd rfl h2
    | cons c l => intro e; injection e with e; exact good01_ne c (let012 c (h c List.mem_cons_self)) e
  obtain ⟨yc, yr, hyl⟩ : ∃ c r, y.data.toList = c :: r := by
    cases h : y.data.toList with
    | nil => exact absurd h y5
    | cons c r => exact ⟨c, r, rfl⟩
  have k1 : goodK [0, 1, 2] yc = false := by rw [hyl] at y3; exact y3
  have k2 : goodK [0, 1] yc = false := by rw [hyl] at y4; exact y4
  have hlen : (longT x y nm vl).data.toList.length = 5 + nm.size + vl.size := by
    rw [long_list]
    simp only [List.length_append, size_toList]
    omega
  unfold lexL
  rw [if_neg (by omega), hlen, long_list]
  obtain ⟨f, hf⟩ : ∃ f, 5 + nm.size + vl.size + 1 = f + 1 + 1 + 1 + 1 + 1 + 1 + 1 := by
    have h1 : 0 < nm.size := by rw [← size_toList]; exact List.length_pos_iff.2 hnn
    exact ⟨nm.size + vl.size - 1, by omega⟩
  rw [hf]
  have s1 := spaces_of x.data.toList (y.data.toList ++ (nm.data.toList ++ (y.data.toList ++ (vl.data.toList ++ y.data.toList)))) x2 x3
  have w1 := word_of_op _ x (opL_two (y.data.toList ++ (nm.data.toList ++ (y.data.toList ++ (vl.data.toList ++ y.data.toList)))) x hx)
  rw [lexGo_word _ _ _ _ 4 x x.size s1.2 s1.1 w1 (by decide), drop_size, x1]
  have s2 := spaces_of y.data.toList (nm.data.toList ++ (y.data.toList ++ (vl.data.toList ++ y.data.toList))) y2 y5
  have w2 := word_of_op _ y (opL_y (nm.data.toList ++ (y.data.toList ++ (vl.data.toList ++ y.data.toList))) (hne _ _ hn hnn) y hy)
  rw [lexGo_word _ _ _ _ 4 y y.size s2.2 s2.1 w2 (by decide), drop_size, y1]
  have s3 := spaces_of nm.data.toList (y.data.toList ++ (vl.data.toList ++ y.data.toList)) (hsp _ hn) hnn
  have w3 : wordL (nm.data.toList ++ (y.data.toList ++ (vl.data.toList ++ y.data.toList))) = (1, nm, nm.size) := by
    have := word_name_sep nm.data.toList (yr ++ (vl.data.toList ++ y.data.toList)) yc (fun c hc => let012 c (hn c hc)) hn2 (by rw [size_toList]; exact hn3) k1
    rw [tx_back, size_toList] at this
    rw [← this, hyl]
    rfl
  rw [lexGo_word _ _ _ _ 1 nm nm.size s3.2 s3.1 w3 (by decide), drop_size]
  have s4 := spaces_of y.data.toList (vl.data.toList ++ y.data.toList) y2 y5
  have w4 := word_of_op _ y (opL_y (vl.data.toList ++ y.data.toList) (hne _ _ hv hvn) y hy)
  rw [lexGo_word _ _ _ _ 4 y y.size s4.2 s4.1 w4 (by decide), drop_size, y1]
  have s5 := spaces_of vl.data.toList y.data.toList (hsp _ hv) hvn
  have w5 : wordL (vl.data.toList ++ y.data.toList) = (3, vl, vl.size) := by
    have := word_value_sep vl.data.toList yr yc hv hv2 k2
    rw [tx_back, size_toList] at this
    rw [hyl]
    exact this
  rw [lexGo_word _ _ _ _ 3 vl vl.size s5.2 s5.1 w5 (by decide), drop_size]
  have s6 := spaces_of y.data.toList [] y2 y5
  have w6 := word_of_op _ y (opL_y [] (by simp) y hy)
  rw [List.append_nil] at s6 w6
  have d6 : y.data.toList.drop y.size = [] := by rw [← size_toList]; simp
  rw [lexGo_word _ _ _ _ 4 y y.size s6.2 s6.1 w6 (by decide), d6, y1, lexGo_succ]
  have e0 : ([] : List UInt8).drop (spaces []) = [] := rfl
  rw [if_pos e0]
  unfold longL
  refine Prod.ext ?_ (Prod.ext ?_ rfl)
  · show [] ++ [_] ++ [_] ++ [_] ++ [_] ++ [_] ++ [_] = _
    simp only [List.nil_append, List.cons_append, Nat.zero_add]
    have e1 : 2 + 1 + nm.size = 3 + nm.size := by omega
    have e2 : 2 + 1 + nm.size + 1 = 4 + nm.size := by omega
    have e3 : 2 + 1 + nm.size + 1 + vl.size = 4 + nm.size + vl.size := by omega
    rw [e1] at *
    simp only [show 3 + nm.size + 1 = 4 + nm.size by omega]
  · show 0 + 2 + 1 + nm.size + 1 + vl.size + 1 + 0 = 5 + nm.size + vl.size
    omega
end Go.Proofs.Ytnhbahfpinijiaa
