/-
  The begin, three deep: mathematics alone, by the kernel.
-/
import Derived.Test.YthinkiljhkanhaaGreatDoorVa
import Derived.Test.YthinkiljhkanhaaGreatDoorUo
namespace Go.Proofs.YthinkiljhkanhaaGreatDoor
open Go.RowKit Go.Sort
set_option linter.unusedSimpArgs false
set_option linter.unusedVariables false
set_option maxRecDepth 20000

def cntF2 (P : Nat → Int) : Nat := ((legF P).map fun m => (legF (mvP P m.1.toNat m.2.1.toNat m.2.2)).length).sum
theorem nx_leg (P : Nat → Int) (m : Int × Int × Int) (h : m ∈ legM P) : nxP P m.1.toNat m.2.1.toNat m.2.2 = mvP P m.1.toNat m.2.1.toNat m.2.2 := by
  unfold legM at h
  have h2 := (List.mem_filter.1 h).2
  unfold okL at h2
  unfold nxP
  rw [if_pos h2]
theorem cnt_two (P : Nat → Int) : cntD 2 P = cntF2 P := by
  rw [cntD_succ]
  unfold cntS cntF2
  rw [← legF_is]
  refine congrArg List.sum (List.map_congr_left fun m hm => ?_)
  rw [nx_leg P m hm, cnt_one10, legF_is]
def cntM (m : Int × Int × Int) : Nat := cntF2 (mvP startN m.1.toNat m.2.1.toNat m.2.2)
theorem cnt_three : cntD 3 startN = ((legM startN).map cntM).sum := by
  rw [cntD_succ]
  unfold cntS cntM
  refine congrArg List.sum (List.map_congr_left fun m hm => ?_)
  rw [nx_leg startN m hm, cnt_two]
theorem leg_start : legM startN = [(1, 16, 0), (1, 18, 0), (6, 21, 0), (6, 23, 0), (8, 16, 0), (8, 24, 0), (9, 17, 0), (9, 25, 0), (10, 18, 0), (10, 26, 0), (11, 19, 0), (11, 27, 0), (12, 20, 0), (12, 28, 0), (13, 21, 0), (13, 29, 0), (14, 22, 0), (14, 30, 0), (15, 23, 0), (15, 31, 0)] := by unfold legM; rw [allM_start]; decide +kernel
theorem cntM0 : cntM (1, 16, 0) = 400 := by decide +kernel
theorem cntM1 : cntM (1, 18, 0) = 440 := by decide +kernel
theorem cntM2 : cntM (6, 21, 0) = 440 := by decide +kernel
theorem cntM3 : cntM (6, 23, 0) = 400 := by decide +kernel
theorem cntM4 : cntM (8, 16, 0) = 380 := by decide +kernel
theorem cntM5 : cntM (8, 24, 0) = 420 := by decide +kernel
theorem cntM6 : cntM (9, 17, 0) = 420 := by decide +kernel
theorem cntM7 : cntM (9, 25, 0) = 421 := by decide +kernel
theorem cntM8 : cntM (10, 18, 0) = 420 := by decide +kernel
theorem cntM9 : cntM (10, 26, 0) = 441 := by decide +kernel
theorem cntM10 : cntM (11, 19, 0) = 539 := by decide +kernel
theorem cntM11 : cntM (11, 27, 0) = 560 := by decide +kernel
theorem cntM12 : cntM (12, 20, 0) = 599 := by decide +kernel
theorem cntM13 : cntM (12, 28, 0) = 600 := by decide +kernel
theorem cntM14 : cntM (13, 21, 0) = 380 := by decide +kernel
theorem cntM15 : cntM (13, 29, 0) = 401 := by decide +kernel
theorem cntM16 : cntM (14, 22, 0) = 420 := by decide +kernel
theorem cntM17 : cntM (14, 30, 0) = 421 := by decide +kernel
theorem cntM18 : cntM (15, 23, 0) = 380 := by decide +kernel
theorem cntM19 : cntM (15, 31, 0) = 420 := by decide +kernel
theorem start_three : cntD 3 startN = 8902 := by
  rw [cnt_three, leg_start]
  simp only [List.map_cons, List.map_nil, List.sum_cons, List.sum_nil, cntM0, cntM1, cntM2, cntM3, cntM4, cntM5, cntM6, cntM7, cntM8, cntM9, cntM10, cntM11, cntM12, cntM13, cntM14, cntM15, cntM16, cntM17, cntM18, cntM19]
  rfl
theorem start_two : cntD 2 startN = 400 := by rw [cnt_two]; decide +kernel
theorem start_p2 : cntP startN 2 = 400 := by unfold cntP; rw [start_pos, show depN 2 = 2 from rfl, start_two]; rfl
theorem start_p3 : cntP startN 3 = 8902 := by unfold cntP; rw [start_pos, show depN 3 = 3 from rfl, start_three]; rfl
theorem start_p9 : cntP startN 9 = 8902 := by unfold cntP; rw [start_pos, show depN 9 = 3 from rfl, start_three]; rfl
theorem start_low : cntP startN (-9223372036854775808) = 1 := by unfold cntP; rw [start_pos]; decide +kernel
end Go.Proofs.YthinkiljhkanhaaGreatDoor
