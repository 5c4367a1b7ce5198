/-
  The begin's legal moves; the example of the laws of legal moves.
-/
import Derived.Test.YthinkiljhkanhaaGreatDoorG26
import Derived.Test.YthinkiljhkanhaaGreatDoorG12
namespace Go.Proofs.YthinkiljhkanhaaGreatDoor
open Go.RowKit Go.Sort
set_option linter.unusedSimpArgs false
set_option linter.unusedVariables false
set_option maxRecDepth 20000

/-! ### the begin's moves -/
theorem start_leg : (legM startN).length = 20 := by unfold legM; rw [allM_start]; decide +kernel
theorem start_pos : posB startN = true := by decide +kernel
theorem cnt_one10 (P : Nat → Int) : cntD 1 P = (legM P).length := by
  rw [cntD_succ]
  unfold cntS
  simp only [cntD]
  generalize legM P = l
  induction l with
  | nil => rfl
  | cons a l ih => simp only [List.map_cons, List.sum_cons, List.length_cons, ih]; omega
theorem start_cnt : cntP startN 1 = 20 := by
  unfold cntP
  rw [start_pos, show depN 1 = 1 from rfl, cnt_one10, start_leg]; rfl
set_option maxHeartbeats 4000000 in
set_option maxRecDepth 100000 in
theorem awake10_any (w : World) (B : Nat) (hgb : GB B w) (hgs : GS B w) (hgm : GM B w) (hgp : GP B w) (hB : B ≤ w.heap.size) :
    Calls Tryz.prog 12 #[] w fun e w' => e = .returned (.bool true) ∧ Below w.heap.size w w' := by
  obtain ⟨P1, hP1⟩ : ∃ P, startN = P := ⟨_, rfl⟩
  have M1 := Lib.hid (fun W => rStart_any W)
  have m1 := start_cnt
  rw [hP1] at M1 m1
  obtain ⟨X1, hX1⟩ : ∃ X, X = (pc P1).toArray := ⟨_, rfl⟩
  have HO := Lib.hid (fun W h => lCount_any P1 1 W B (hgb.below h) (hgs.below h) (hgm.below h) (hgp.below h) (Nat.le_trans hB h.size))
  have HO1 := Lib.hid (fun W (h : Below w.heap.size w W) => HO.out W (h.mono hB))
  rw [m1, ← hX1] at HO1
  rw [← hX1] at M1
  have HBB := Lib.hid (Below.refl w.heap.size w)
  clear hX1 m1 hP1 HO hgb hgs hgm hgp
  go_enter Tryz.func12, Tryz.ntmps12
  go_wp2_with fail
  refine (M1.out _).mono ?_
  rintro e w1 ⟨rfl, hb⟩
  replace HBB := Lib.hid (HBB.out.trans (hb.mono HBB.out.size))
  clear hb M1
  dsimp only
  refine list_go (by assumption) ?_
  go_wp2_with fail
  refine (HO1.out _ HBB.out).mono ?_
  rintro e w2 ⟨rfl, hb⟩
  replace HBB := Lib.hid (HBB.out.trans (hb.mono HBB.out.size))
  clear hb HO1
  dsimp only
  refine list_go (by assumption) ?_
  go_wp2
  go_ret
  exact ⟨rfl, HBB.out⟩
end Go.Proofs.YthinkiljhkanhaaGreatDoor
