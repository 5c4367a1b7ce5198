/-
  How any position ends a game, whether fifty, seventy-five moves are over, are what the document tells.
-/
import Derived.Test.YthinkiljhkanhaaGreatDoorUc
namespace Go.Proofs.YthinkiljhkanhaaGreatDoor
open Go.RowKit Go.Sort
set_option linter.unusedSimpArgs false
set_option linter.unusedVariables false
set_option maxRecDepth 20000

set_option maxHeartbeats 8000000 in
set_option maxRecDepth 100000 in
theorem endsTell_any (P : Nat → Int) (d : Int) (w : World) (B : Nat) (hgb : GB B w) (hgs : GS B w) (hgm : GM B w) (hgp : GP B w) (hB : B ≤ w.heap.size) :
    Calls Tryz.prog 8 #[.agg (pc P).toArray, .int .i64 d] w fun e w' => e = .returned (.bool true) ∧ Below w.heap.size w w' := by
  obtain ⟨X, hX⟩ : ∃ X, X = (pc P).toArray := ⟨_, rfl⟩
  have OF := Lib.hid (fun W (h : Below w.heap.size w W) => of_any P W B (hgb.below (h.mono hB)) (hgs.below (h.mono hB)) (hgm.below (h.mono hB)) (hgp.below (h.mono hB)) (Nat.le_trans hB h.size))
  have FI := Lib.hid (fun W (h : Below w.heap.size w W) => fifty_any P W B (hgb.below (h.mono hB)) (hgs.below (h.mono hB)) (hgm.below (h.mono hB)) (hgp.below (h.mono hB)) (Nat.le_trans hB h.size))
  have SE := Lib.hid (fun W (h : Below w.heap.size w W) => seventy_any P W B (hgb.below (h.mono hB)) (hgs.below (h.mono hB)) (hgm.below (h.mono hB)) (hgp.below (h.mono hB)) (Nat.le_trans hB h.size))
  have AW := Lib.hid (fun W (h : Below w.heap.size w W) => awake11_any W B (hgb.below (h.mono hB)) (hgs.below (h.mono hB)) (hgm.below (h.mono hB)) (hgp.below (h.mono hB)) (Nat.le_trans hB h.size))
  have ROF := Lib.hid (fun W => rOf_any P W)
  have RFI := Lib.hid (fun W => rFifty_any P W)
  have RSE := Lib.hid (fun W => rSeventy_any P W)
  have WI := Lib.hid (fun W => wins_any d W)
  have RWI := Lib.hid (fun W => rWins_any d W)
  obtain ⟨r, hr⟩ : ∃ x, ofR P = x := ⟨_, rfl⟩
  obtain ⟨y, hy⟩ : ∃ x, ofY P = x := ⟨_, rfl⟩
  obtain ⟨fi, hfi⟩ : ∃ x, atB P 100 = x := ⟨_, rfl⟩
  obtain ⟨se, hse⟩ : ∃ x, atB P 150 = x := ⟨_, rfl⟩
  obtain ⟨wn, hwn⟩ : ∃ x, winN d = x := ⟨_, rfl⟩
  rw [hr, hy, ← hX] at OF ROF
  rw [hfi, ← hX] at FI RFI
  rw [hse, ← hX] at SE RSE
  rw [hwn] at WI RWI
  rw [← hX]
  have HX := Lib.hid hX
  have HP := Lib.hid (pos_box P w X hX 29)
  have HB := Lib.hid (below_new (w := w) (.cells X 29))
  clear hX hr hy hfi hse hwn hgb hgs hgm hgp
  go_enter Tryz.func8, Tryz.ntmps8
  go_upto_region 1 with (fail)
  generalize w.alloc (.cells X 29) = W at *
  go_wp2_with (refine wpList_pos (by rfl) _ (by rfl) w.heap.size P X HX.out (by rfl) HP.out ?_)
  refine (OF.out _ HB.out).mono ?_
  rintro e w1 ⟨rfl, hb⟩
  replace HP := Lib.hid (HP.out.go hb)
  replace HB := Lib.hid (HB.out.trans (hb.mono HB.out.size))
  clear hb OF
  dsimp only
  refine list_go (by assumption) ?_
  go_wp2_with (refine wpList_pos (by rfl) _ (by rfl) w.heap.size P X HX.out (by rfl) HP.out ?_)
  refine (ROF.out _).mono ?_
  rintro e w2 ⟨rfl, hb⟩
  replace HP := Lib.hid (HP.out.go hb)
  replace HB := Lib.hid (HB.out.trans (hb.mono HB.out.size))
  clear hb ROF
  dsimp only
  refine list_go (by assumption) ?_
  go_upto_region 3 with (fail)
  have hrr : (r == r) = true := by simp
  have hyy : (y == y) = true := by simp
  have hww : (wn == wn) = true := by simp
  have hff : (fi == fi) = true := by simp
  have hss : (se == se) = true := by simp
  have HCP := Lib.hid HP.out.regrown
  have hbr : ∀ dd os, Below w.heap.size w (grow (redrawn w2 dd) os) := fun dd os => HB.out.trans ((below_regrown w2 dd os).mono HB.out.size)
  have c29 := fun dd os => Calls.regrown_of (FI.out _ (hbr dd os))
  have c31 := fun dd os => Calls.regrown_of (RFI.out (grow (redrawn w2 dd) os))
  have c36 := fun dd os => Calls.regrown_of (SE.out _ (hbr dd os))
  have c38 := fun dd os => Calls.regrown_of (RSE.out (grow (redrawn w2 dd) os))
  have c43 := regrown_same (w := w2) WI.out
  have c45 := regrown_same (w := w2) RWI.out
  have c49 := fun dd os => Calls.regrown_of (AW.out _ (hbr dd os))
  clear hbr FI RFI SE RSE WI RWI AW
  refine wp_region_quiet_below (by kernel_rfl) (by kernel_rfl) ?_
  iterate 9 (go_big_quiet_step (fail))
  refine wpQuiet_pos (by rfl) _ (by rfl) w.heap.size P X HX.out (by rfl) HCP.out ?_
  try simp only [Act.put, List.setIfInBounds_toArray, List.set_cons_zero, List.set_cons_succ]
  go_big_quiet_step (exact c29 _ _)
  refine wpQuiet_pos (by rfl) _ (by rfl) w.heap.size P X HX.out (by rfl) HCP.out ?_
  try simp only [Act.put, List.setIfInBounds_toArray, List.set_cons_zero, List.set_cons_succ]
  go_big_quiet_step (exact c31 _ _)
  iterate 3 (go_big_quiet_step (fail))
  refine wpQuiet_pos (by rfl) _ (by rfl) w.heap.size P X HX.out (by rfl) HCP.out ?_
  try simp only [Act.put, List.setIfInBounds_toArray, List.set_cons_zero, List.set_cons_succ]
  go_big_quiet_step (exact c36 _ _)
  refine wpQuiet_pos (by rfl) _ (by rfl) w.heap.size P X HX.out (by rfl) HCP.out ?_
  try simp only [Act.put, List.setIfInBounds_toArray, List.set_cons_zero, List.set_cons_succ]
  go_big_quiet_step (exact c38 _ _)
  iterate 4 (go_big_quiet_step (fail))
  go_big_quiet_step (exact c43 _ _)
  iterate 1 (go_big_quiet_step (fail))
  go_big_quiet_step (exact c45 _ _)
  iterate 3 (go_big_quiet_step (fail))
  go_big_quiet_step (exact c49 _ _)
  repeat (go_big_quiet_step (fail))
  refine wpQuiet_nil ?_
  rintro W9 ⟨pq, rfl⟩
  replace HB := Lib.hid (HB.out.trans ((below_regrown w2 pq.d pq.os).mono HB.out.size))
  clear c29 c31 c36 c38 c43 c45 c49 HCP HP
  generalize grow (redrawn w2 pq.d) pq.os = W9 at HB ⊢
  go_wp2
  go_ret
  exact ⟨rfl, HB.out⟩
end Go.Proofs.YthinkiljhkanhaaGreatDoor
