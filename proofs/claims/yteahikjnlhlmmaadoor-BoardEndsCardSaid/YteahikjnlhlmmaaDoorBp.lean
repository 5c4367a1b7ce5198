/-
  Contracts: the document's right positions; the program's small questions on a position.
-/
import Derived.Test.YteahikjnlhlmmaaDoorBo
namespace Go.Proofs.YteahikjnlhlmmaaDoor
open Go.RowKit Go.Sort
set_option linter.unusedSimpArgs false
set_option linter.unusedVariables false

def cntB (h f : Int) : Bool := decide (0 ≤ h) && decide (h ≤ 1024) && decide (1 ≤ f) && decide (f ≤ 16384)
theorem rightB_eq (P : Nat → Int) : rightB P = (piecesB P && castB P && overB P && cntB (P 131) (P 132)) := by
  unfold rightB cntB; simp only [Bool.and_assoc]
theorem cnt_cases (h f : Int) : (h < 0 ∧ cntB h f = false) ∨ (0 ≤ h ∧ 1024 < h ∧ cntB h f = false) ∨ (0 ≤ h ∧ h ≤ 1024 ∧ f < 1 ∧ cntB h f = false) ∨ (0 ≤ h ∧ h ≤ 1024 ∧ 1 ≤ f ∧ 16384 < f ∧ cntB h f = false) ∨ (0 ≤ h ∧ h ≤ 1024 ∧ 1 ≤ f ∧ f ≤ 16384 ∧ cntB h f = true) := by
  unfold cntB
  by_cases h1 : 0 ≤ h <;> by_cases h2 : h ≤ 1024 <;> by_cases h3 : 1 ≤ f <;> by_cases h4 : f ≤ 16384 <;> simp [h1, h2, h3, h4] <;> omega
set_option maxHeartbeats 2000000 in
set_option maxRecDepth 100000 in
theorem rRight_any (P : Nat → Int) (w : World) :
    Calls Tryd.prog 13 #[.agg (pc P).toArray] w fun e w' => e = .returned (.bool (rightB P)) ∧ Below w.heap.size w w' := by
  have M1 := Lib.hid (rPieces_any P)
  have M2 := Lib.hid (rCastles_any P)
  have M3 := Lib.hid (rOver_any P)
  obtain ⟨X, hX⟩ : ∃ X, X = (pc P).toArray := ⟨_, rfl⟩
  rw [← hX] at M1 M2 M3 ⊢
  have HP0 := Lib.hid (show PB (w.alloc (.cells X 29)) w.heap.size P by subst hX; exact PB.new rfl)
  have HB0 := Lib.hid (below_new (w := w) (.cells X 29))
  have HX := Lib.hid hX
  clear hX
  have hv := rightB_eq P
  obtain ⟨a1, ha1⟩ : ∃ a, piecesB P = a := ⟨_, rfl⟩
  obtain ⟨a2, ha2⟩ : ∃ a, castB P = a := ⟨_, rfl⟩
  obtain ⟨a3, ha3⟩ : ∃ a, overB P = a := ⟨_, rfl⟩
  rw [ha1, ha2, ha3] at hv
  have HV := Lib.hid hv
  have A1 := Lib.hid ha1
  have A2 := Lib.hid ha2
  have A3 := Lib.hid ha3
  clear hv ha1 ha2 ha3
  go_enter Tryd.func13, Tryd.ntmps13
  go_upto_region 1 with (fail)
  refine forget_B (fun W => PB W w.heap.size P ∧ Below w.heap.size w W) ⟨HP0.out, HB0.out⟩ ?_
  clear HP0 HB0
  rintro W ⟨hp, hbw⟩
  have HP := Lib.hid hp
  have HB := Lib.hid hbw
  clear hp hbw
  go_wp2_with (refine wpList_pos (by rfl) _ (by rfl) w.heap.size P X HX.out (by rfl) HP.out ?_)
  refine (M1.out _).mono ?_
  rw [A1.out]
  rintro e w1 ⟨rfl, hb⟩
  replace HP := Lib.hid (HP.out.go hb)
  replace HB := Lib.hid (HB.out.trans (hb.mono HB.out.size))
  clear hb
  cases a1
  · go_wp2
    go_ret
    exact ⟨q_b (by rw [HV.out]; rfl), HB.out⟩
  go_wp2_with (refine wpList_pos (by rfl) _ (by rfl) w.heap.size P X HX.out (by rfl) HP.out ?_)
  refine (M2.out _).mono ?_
  rw [A2.out]
  rintro e w2 ⟨rfl, hb⟩
  replace HP := Lib.hid (HP.out.go hb)
  replace HB := Lib.hid (HB.out.trans (hb.mono HB.out.size))
  clear hb
  cases a2
  · go_wp2
    go_ret
    exact ⟨q_b (by rw [HV.out]; rfl), HB.out⟩
  go_wp2_with (refine wpList_pos (by rfl) _ (by rfl) w.heap.size P X HX.out (by rfl) HP.out ?_)
  refine (M3.out _).mono ?_
  rw [A3.out]
  rintro e w3 ⟨rfl, hb⟩
  replace HP := Lib.hid (HP.out.go hb)
  replace HB := Lib.hid (HB.out.trans (hb.mono HB.out.size))
  clear hb
  cases a3
  · go_wp2
    go_ret
    exact ⟨q_b (by rw [HV.out]; rfl), HB.out⟩
  have e1 := HP.out.cell 131 (by omega)
  have e2 := HP.out.cell 132 (by omega)
  generalize P 131 = hf at *
  generalize P 132 = fu at *
  rcases cnt_cases hf fu with ⟨h1, hc⟩ | ⟨h1, h2, hc⟩ | ⟨h1, h2, h3, hc⟩ | ⟨h1, h2, h3, h4, hc⟩ | ⟨h1, h2, h3, h4, hc⟩
  all_goals
    have HC := Lib.hid hc
    clear hc
    go_wp2
    go_ret
    exact ⟨q_b (by rw [HV.out, HC.out]; first | rfl | (simp; done) | (simp; omega)), HB.out⟩
end Go.Proofs.YteahikjnlhlmmaaDoor
