/- The walk of the law UnitOrder: a duration of parts from the greatest unit on is their sum; in another order, or with one twice, it is none. -/
import Derived.Test.YtehhmejpfglimaaDoorUnitDigits
namespace Go.Proofs.YtehhmejpfglimaaDoor
open Go.RowKit
set_option linter.unusedVariables false

def hT (h : Int) : ByteArray := itoaS h ++ (⟨#[104]⟩ : ByteArray)
def mT (h : Int) : ByteArray := itoaS h ++ (⟨#[109]⟩ : ByteArray)
def sT (h : Int) : ByteArray := itoaS h ++ (⟨#[115]⟩ : ByteArray)
theorem join_list (q : Int) (nm : List UInt8) (x : ByteArray) : ((itoaS q ++ txt nm) ++ x).data.toList = Lib.itoa q ++ (nm ++ x.data.toList) := by
  rw [text_joined, text_joined, itoaS_list, txt_list, List.append_assoc]
theorem itoa_app_ne (q : Int) (l : List UInt8) : Lib.itoa q ++ l ≠ [] := fun h => itoa_ne _ (List.append_eq_nil_iff.1 h).1
theorem order_all (h m s : Int) (h0 : 0 ≤ h) (h1 : h ≤ 255) (m0 : 0 ≤ m) (m1 : m ≤ 255) (s0 : 0 ≤ s) (s1 : s ≤ 255) : durZ (hT h ++ mT m ++ sT s).data.toList = some ((h * 3600 + m * 60 + s) * 1000000000) := by
  have e : (hT h ++ mT m ++ sT s).data.toList = Lib.itoa h ++ ([104] ++ (Lib.itoa m ++ ([109] ++ (Lib.itoa s ++ ([115] ++ []))))) := by
    unfold hT mT sT
    simp only [text_joined, itoaS_list, List.append_assoc, List.append_nil]
  rw [e]
  have p1 := fun f => durS_part 0 (by decide) h h0 (Lib.itoa m ++ ([109] ++ (Lib.itoa s ++ ([115] ++ [])))) (itoa_head m0 _) 0 (-1) (by decide) (by show 0 + h * 3600000000000 ≤ _; omega) (by omega) f
  have p2 := fun f => durS_part 1 (by decide) m m0 (Lib.itoa s ++ ([115] ++ [])) (itoa_head s0 _) (0 + h * 3600000000000) 0 (by omega) (by show 0 + h * 3600000000000 + m * 60000000000 ≤ _; omega) (by omega) f
  have p3 := fun f => durS_part 2 (by decide) s s0 [] no_head (0 + h * 3600000000000 + m * 60000000000) 1 (by omega) (by show 0 + h * 3600000000000 + m * 60000000000 + s * 1000000000 ≤ _; omega) (by omega) f
  refine durZ_fuel (itoa_app_ne _ _) (fun f hf => ?_)
  have hl1 : 1 ≤ (Lib.itoa h).length := List.length_pos_iff.2 (itoa_ne _)
  have hl2 : 1 ≤ (Lib.itoa m).length := List.length_pos_iff.2 (itoa_ne _)
  have hl3 : 1 ≤ (Lib.itoa s).length := List.length_pos_iff.2 (itoa_ne _)
  simp only [List.length_append, List.length_cons, List.length_nil] at hf
  obtain ⟨f, rfl⟩ : ∃ f', f = f' + 1 + 1 + 1 := ⟨f - 3, by omega⟩
  refine (p1 _).trans ?_
  rw [if_neg (by decide)]
  refine (p2 _).trans ?_
  rw [if_neg (by decide)]
  refine (p3 _).trans ?_
  rw [if_neg (by decide)]
  refine (durS_end _ _ _).trans ?_
  congr 1
  show 0 + h * 3600000000000 + m * 60000000000 + s * 1000000000 = _
  omega
theorem order_back (h m : Int) (h0 : 0 ≤ h) (h1 : h ≤ 255) (m0 : 0 ≤ m) (m1 : m ≤ 255) : durZ (mT m ++ hT h).data.toList = none := by
  have e : (mT m ++ hT h).data.toList = Lib.itoa m ++ ([109] ++ (Lib.itoa h ++ ([104] ++ []))) := by
    unfold hT mT
    simp only [text_joined, itoaS_list, List.append_assoc, List.append_nil]
  rw [e]
  have p1 := fun f => durS_part 1 (by decide) m m0 (Lib.itoa h ++ ([104] ++ [])) (itoa_head h0 _) 0 (-1) (by decide) (by show 0 + m * 60000000000 ≤ _; omega) (by omega) f
  have p2 := fun f => durS_part 0 (by decide) h h0 [] no_head (0 + m * 60000000000) 1 (by omega) (by show 0 + m * 60000000000 + h * 3600000000000 ≤ _; omega) (by omega) f
  refine durZ_fuel (itoa_app_ne _ _) (fun f hf => ?_)
  have hl1 : 1 ≤ (Lib.itoa h).length := List.length_pos_iff.2 (itoa_ne _)
  have hl2 : 1 ≤ (Lib.itoa m).length := List.length_pos_iff.2 (itoa_ne _)
  simp only [List.length_append, List.length_cons, List.length_nil] at hf
  obtain ⟨f, rfl⟩ : ∃ f', f = f' + 1 := ⟨f - 1, by omega⟩
  refine (p1 _).trans ?_
  rw [if_neg (by decide)]
  refine (p2 _).trans ?_
  rw [if_pos (by decide)]
theorem order_twice (s : Int) (s0 : 0 ≤ s) (s1 : s ≤ 255) : durZ (sT s ++ sT s).data.toList = none := by
  have e : (sT s ++ sT s).data.toList = Lib.itoa s ++ ([115] ++ (Lib.itoa s ++ ([115] ++ []))) := by
    unfold sT
    simp only [text_joined, itoaS_list, List.append_assoc, List.append_nil]
  rw [e]
  have p1 := fun f => durS_part 2 (by decide) s s0 (Lib.itoa s ++ ([115] ++ [])) (itoa_head s0 _) 0 (-1) (by decide) (by show 0 + s * 1000000000 ≤ _; omega) (by omega) f
  have p2 := fun f => durS_part 2 (by decide) s s0 [] no_head (0 + s * 1000000000) 2 (by omega) (by show 0 + s * 1000000000 + s * 1000000000 ≤ _; omega) (by omega) f
  refine durZ_fuel (itoa_app_ne _ _) (fun f hf => ?_)
  have hl1 : 1 ≤ (Lib.itoa s).length := List.length_pos_iff.2 (itoa_ne _)
  simp only [List.length_append, List.length_cons, List.length_nil] at hf
  obtain ⟨f, rfl⟩ : ∃ f', f = f' + 1 := ⟨f - 1, by omega⟩
  refine (p1 _).trans ?_
  rw [if_neg (by decide)]
  refine (p2 _).trans ?_
  rw [if_pos (by decide)]
theorem order_one (m : Int) (m0 : 0 ≤ m) (m1 : m ≤ 255) : durZ (mT m).data.toList = some (m * 60000000000) := by
  have e : (mT m).data.toList = Lib.itoa m ++ ([109] ++ []) := by
    unfold mT
    simp only [text_joined, itoaS_list, List.append_nil]
  rw [e]
  have p1 := fun f => durS_part 1 (by decide) m m0 [] no_head 0 (-1) (by decide) (by show 0 + m * 60000000000 ≤ _; omega) (by omega) f
  refine durZ_fuel (itoa_app_ne _ _) (fun f hf => ?_)
  have hl1 : 1 ≤ (Lib.itoa m).length := List.length_pos_iff.2 (itoa_ne _)
  simp only [List.length_append, List.length_cons, List.length_nil] at hf
  obtain ⟨f, rfl⟩ : ∃ f', f = f' + 1 := ⟨f - 1, by omega⟩
  refine (p1 _).trans ?_
  rw [if_neg (by decide)]
  refine (durS_end _ _ _).trans ?_
  congr 1
  show 0 + m * 60000000000 = _
  omega

set_option maxRecDepth 100000 in
set_option maxHeartbeats 1600000 in
theorem unitOrder_walk {W : World} (h m s : Int) (wh : (Lit.int .u8 h).wf = true) (wm : (Lit.int .u8 m).wf = true) (ws : (Lit.int .u8 s).wf = true) (hl : LibIs W) :
    Calls Tryd.prog 6 #[.int .u8 h, .int .u8 m, .int .u8 s] W fun e w' => e = .returned (.bool true) ∧ Below W.heap.size W w' := by
  have h0' : W.heap.size ≤ W.heap.size := Nat.le_refl _
  obtain ⟨h0, h1⟩ := bdu8 wh
  obtain ⟨m0, m1⟩ := bdu8 wm
  obtain ⟨s0, s1⟩ := bdu8 ws
  have HX := Lib.hid (unitExamples_any W hl)
  have dg : ∀ (x : Int), 0 ≤ x → x ≤ 255 → ∀ w, Calls Tryd.prog 20 #[.int .u8 x] w fun e w' => e = .returned (.string (itoaS x)) ∧ Below w.heap.size w w' := fun x a b w => by
    have := digits_any x.toNat (by omega) w
    rw [show ((x.toNat : Nat) : Int) = x by omega] at this
    exact this
  have D1 := dg h h0 h1
  have D2 := dg m m0 m1
  have D3 := dg s s0 s1
  have z1 := itoaS_size h (by omega) (by omega)
  have z2 := itoaS_size m (by omega) (by omega)
  have z3 := itoaS_size s (by omega) (by omega)
  have zz : ∀ (x : Int) (u : UInt8), (itoaS x ++ (⟨#[u]⟩ : ByteArray)).size = (itoaS x).size + 1 := fun x u => by rw [ByteArray.size_append]; rfl
  have y1 : (hT h).size ≤ 22 := by unfold hT; rw [zz]; omega
  have y2 : (mT m).size ≤ 22 := by unfold mT; rw [zz]; omega
  have y3 : (sT s).size ≤ 22 := by unfold sT; rw [zz]; omega
  have A1 := fun w hw => dur_some w hw (hT h ++ mT m ++ sT s) (by rw [ByteArray.size_append, ByteArray.size_append]; omega) _ (order_all h m s h0 h1 m0 m1 s0 s1)
  have A2 := fun w hw => dur_none w hw (mT m ++ hT h) (by rw [ByteArray.size_append]; omega) (order_back h m h0 h1 m0 m1)
  have A3 := fun w hw => dur_none w hw (sT s ++ sT s) (by rw [ByteArray.size_append]; omega) (order_twice s s0 s1)
  have A4 := fun w hw => dur_some w hw (mT m) (by omega) _ (order_one m m0 m1)
  have t1 : itoaS h ++ (⟨#[104]⟩ : ByteArray) = hT h := rfl
  have t2 : itoaS m ++ (⟨#[109]⟩ : ByteArray) = mT m := rfl
  have t3 : itoaS s ++ (⟨#[115]⟩ : ByteArray) = sT s := rfl
  obtain ⟨a, ha⟩ : ∃ x, hT h = x := ⟨_, rfl⟩
  obtain ⟨b, hb⟩ : ∃ x, mT m = x := ⟨_, rfl⟩
  obtain ⟨c, hc⟩ : ∃ x, sT s = x := ⟨_, rfl⟩
  simp only [ha, hb, hc] at A1 A2 A3 A4
  rw [ha] at t1 y1
  rw [hb] at t2 y2
  rw [hc] at t3 y3
  obtain ⟨i1, hi1⟩ : ∃ x, itoaS h = x := ⟨_, rfl⟩
  obtain ⟨i2, hi2⟩ : ∃ x, itoaS m = x := ⟨_, rfl⟩
  obtain ⟨i3, hi3⟩ : ∃ x, itoaS s = x := ⟨_, rfl⟩
  rw [hi1] at D1 t1 z1
  rw [hi2] at D2 t2 z2
  rw [hi3] at D3 t3 z3
  replace A1 := Lib.hid A1
  replace A2 := Lib.hid A2
  replace A3 := Lib.hid A3
  replace A4 := Lib.hid A4
  replace D1 := Lib.hid D1
  replace D2 := Lib.hid D2
  replace D3 := Lib.hid D3
  have one : ∀ u : UInt8, (⟨#[u]⟩ : ByteArray).size = 1 := fun _ => rfl
  have g1 : i1.size + (⟨#[104]⟩ : ByteArray).size ≤ 30 := by rw [one]; omega
  have g2 : i2.size + (⟨#[109]⟩ : ByteArray).size ≤ 30 := by rw [one]; omega
  have g3 : i3.size + (⟨#[115]⟩ : ByteArray).size ≤ 30 := by rw [one]; omega
  have g4 : a.size + b.size ≤ 60 := by omega
  have g5 : (a ++ b).size + c.size ≤ 90 := by rw [ByteArray.size_append]; omega
  have g5' : a.size + b.size + c.size ≤ 90 := by omega
  have g6 : b.size + a.size ≤ 60 := by omega
  have g7 : c.size + c.size ≤ 60 := by omega
  clear dg zz ha hb hc hi1 hi2 hi3 one
  go_enter Tryd.func6, Tryd.ntmps6
  go_wp2_with fail
  refine HX.out.mono ?_
  rintro e w ⟨rfl, hb⟩
  go_wp2_with fail
  refine (D1.out _).mono ?_
  rintro e w1 ⟨rfl, hx⟩
  replace hb := hop hb h0' hx
  clear hx
  go_wp2_with fail
  refine (D2.out _).mono ?_
  rintro e w2 ⟨rfl, hx⟩
  replace hb := hop hb h0' hx
  clear hx
  go_wp2_with fail
  refine (D3.out _).mono ?_
  rintro e w3 ⟨rfl, hx⟩
  replace hb := hop hb h0' hx
  clear hx
  go_wp2_with fail
  refine (A1.out _ (hl.below hb)).mono ?_
  rintro e w4 ⟨rfl, hx⟩
  replace hb := hop hb h0' hx
  clear hx
  go_wp2_with fail
  refine (A2.out _ (hl.below hb)).mono ?_
  rintro e w5 ⟨rfl, hx⟩
  replace hb := hop hb h0' hx
  clear hx
  go_wp2_with fail
  refine (A3.out _ (hl.below hb)).mono ?_
  rintro e w6 ⟨rfl, hx⟩
  replace hb := hop hb h0' hx
  clear hx
  go_wp2_with fail
  refine (A4.out _ (hl.below hb)).mono ?_
  rintro e w7 ⟨rfl, hx⟩
  replace hb := hop hb h0' hx
  clear hx
  go_wp2
  go_ret
  exact ⟨by simp, hb⟩
end Go.Proofs.YtehhmejpfglimaaDoor
