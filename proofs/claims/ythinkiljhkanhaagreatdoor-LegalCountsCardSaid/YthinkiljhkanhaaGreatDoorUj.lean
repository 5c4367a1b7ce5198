/-
  LegalCounts: how many rows of legal moves there are is what the document tells.
-/
import Derived.Test.YthinkiljhkanhaaGreatDoorUh
namespace Go.Proofs.YthinkiljhkanhaaGreatDoor
open Go.RowKit Go.Sort
set_option linter.unusedSimpArgs false
set_option linter.unusedVariables false
set_option maxRecDepth 20000

set_option maxHeartbeats 16000000 in
set_option maxRecDepth 100000 in
theorem legalCounts_any (P : Nat → Int) (x : Int) (w : World) (B : Nat) (hgb : GB B w) (hgs : GS B w) (hgm : GM B w) (hgp : GP B w) (hB : B ≤ w.heap.size) :
    Calls Tryz.prog 4 #[.agg (pc P).toArray, .int .i64 x] w fun e w' => e = .returned (.bool true) ∧ Below w.heap.size w w' := by
  obtain ⟨X, hX⟩ : ∃ X, X = (pc P).toArray := ⟨_, rfl⟩
  have AW := Lib.hid (fun W (h : Below w.heap.size w W) => awake10_any W B (hgb.below (h.mono hB)) (hgs.below (h.mono hB)) (hgm.below (h.mono hB)) (hgp.below (h.mono hB)) (Nat.le_trans hB h.size))
  have MC1 := Lib.hid (fun d W (h : Below w.heap.size w W) => lCount_any P d W B (hgb.below (h.mono hB)) (hgs.below (h.mono hB)) (hgm.below (h.mono hB)) (hgp.below (h.mono hB)) (Nat.le_trans hB h.size))
  have RC1 := Lib.hid (fun d W => rCount_any P d W)
  rw [← hX] at MC1 RC1 ⊢
  have HX := Lib.hid hX
  have HP := Lib.hid (pos_box P w X hX 29)
  have HB := Lib.hid (below_new (w := w) (.cells X 29))
  clear hX hgb hgs hgm hgp
  go_enter Tryz.func4, Tryz.ntmps4
  go_upto_region 2 with (fail)
  refine forget_B (fun W => PB W w.heap.size P ∧ Below w.heap.size w W) ⟨HP.out, HB.out⟩ ?_
  clear HP HB
  rintro W ⟨h1, h2⟩
  have HP := Lib.hid h1
  have HB := Lib.hid h2
  clear h1 h2
  go_wp2
  go_loopw [5, 6] (fun cv iv wr => ∃ s k : Nat, s ≤ 64 ∧ k ≤ s ∧ iv = .int .i64 (s : Int) ∧ cv = .int .i64 (k : Int) ∧ wr = W) (fun _ iv _ => 64 - (intOf iv).toNat)
  case atStart => exact ⟨0, 0, Nat.zero_le _, Nat.zero_le _, rfl, rfl, rfl⟩
  case round =>
    obtain ⟨s, k, hs, hk, rfl, rfl, rfl⟩ := hrel
    by_cases hlt : s < 64
    · have e1 := HP.out.cell (s * 2) (by omega)
      have e2 := HP.out.cell (s * 2 + 1) (by omega)
      obtain ⟨kk, hkk⟩ : ∃ z, P (s * 2) = z := ⟨_, rfl⟩
      obtain ⟨dd, hdd⟩ : ∃ z, P (s * 2 + 1) = z := ⟨_, rfl⟩
      rw [hkk] at e1
      rw [hdd] at e2
      clear hkk hdd
      have i0 : (0 : Int) ≤ (s : Int) := by omega
      have i1 : (s : Int) < 64 := by omega
      have k0 : (0 : Int) ≤ (k : Int) := by omega
      have k1 : (k : Int) ≤ 64 := by omega
      by_cases hz : kk = 0
      · subst hz
        by_cases hd : dd = 0
        · subst hd
          go_wp2
          go_roundw
          case rel => exact ⟨s + 1, k, by omega, by omega, by go_num, rfl, by trivial⟩
          case measure => simp [intOf]; omega
        · have hd2 : (dd == 0) = false := by simp [hd]
          have hp : pe 0 dd 0 0 = false := by unfold pe; rw [hd2]; rfl
          clear hd
          go_wp2
          go_roundw
          case rel => exact ⟨s + 1, k + 1, by omega, by omega, by go_num, by go_num, by trivial⟩
          case measure => simp [intOf]; omega
      · have hz2 : (kk == 0) = false := by simp [hz]
        have hp : pe kk dd 0 0 = false := by unfold pe; rw [hz2]; rfl
        clear hz
        go_wp2
        go_roundw
        case rel => exact ⟨s + 1, k + 1, by omega, by omega, by go_num, by go_num, by trivial⟩
        case measure => simp [intOf]; omega
    · obtain rfl : s = 64 := by omega
      rw [show ((64 : Nat) : Int) = 64 from rfl]
      have k1 : (k : Int) ≤ 64 := by omega
      have k0 : (0 : Int) ≤ (k : Int) := by omega
      by_cases h8 : 8 < k
      · have h8i : (8 : Int) < (k : Int) := by omega
        clear h8
        go_upto_region 10 with (fail)
        obtain ⟨d, hd⟩ : ∃ d, min x (1 : Int) = d := ⟨_, rfl⟩
        have hd2 : (if 1 < x then (1 : Int) else x) = d := by rw [← hd]; split <;> omega
        have hd3 : (if x < 1 then x else (1 : Int)) = d := by rw [← hd]; split <;> omega
        first | rw [hd] | rw [hd2] | rw [hd3]
        clear hd hd2 hd3
        have MD := Lib.hid (MC1.out d)
        have RD := Lib.hid (RC1.out d)
        obtain ⟨cv, hcv⟩ : ∃ z : Int, ((cntP P d : Nat) : Int) = z := ⟨_, rfl⟩
        rw [hcv] at MD RD
        clear hcv
        have hcc : (cv == cv) = true := by simp
        refine forget_B (fun W => PB W w.heap.size P ∧ Below w.heap.size w W) ⟨HP.out, HB.out⟩ ?_
        clear HP HB
        rintro W2 ⟨h1, h2⟩
        have HP := Lib.hid h1
        have HB := Lib.hid h2
        clear h1 h2
        have HCP := Lib.hid HP.out.regrown
        have hbr : ∀ dd os, Below w.heap.size w (grow (redrawn W2 dd) os) := fun dd os => HB.out.trans ((below_regrown W2 dd os).mono HB.out.size)
        have c28 := fun dd os => Calls.regrown_of (MD.out _ (hbr dd os))
        have c31 := fun dd os => Calls.regrown_of (RD.out (grow (redrawn W2 dd) os))
        have c34 := fun dd os => Calls.regrown_of (AW.out _ (hbr dd os))
        clear hbr MD RD
        refine wp_region_quiet_below (by kernel_rfl) (by kernel_rfl) ?_
        refine wpQuiet_pos (by rfl) _ (by rfl) w.heap.size P X HX.out (by rfl) HCP.out ?_
        try simp only [Act.put, List.setIfInBounds_toArray, List.set_cons_zero, List.set_cons_succ]
        iterate 1 (go_big_quiet_step (fail))
        go_big_quiet_step (exact c28 _ _)
        refine wpQuiet_pos (by rfl) _ (by rfl) w.heap.size P X HX.out (by rfl) HCP.out ?_
        try simp only [Act.put, List.setIfInBounds_toArray, List.set_cons_zero, List.set_cons_succ]
        iterate 1 (go_big_quiet_step (fail))
        go_big_quiet_step (exact c31 _ _)
        iterate 2 (go_big_quiet_step (fail))
        go_big_quiet_step (exact c34 _ _)
        repeat (go_big_quiet_step (fail))
        refine wpQuiet_nil ?_
        rintro W9 ⟨pq, rfl⟩
        replace HB := Lib.hid (HB.out.trans ((below_regrown W2 pq.d pq.os).mono HB.out.size))
        clear c28 c31 c34 HCP HP
        generalize grow (redrawn W2 pq.d) pq.os = W9 at HB ⊢
        go_wp2
        go_ret
        exact ⟨rfl, HB.out⟩
      · have h8i : ¬ ((8 : Int) < (k : Int)) := by omega
        clear h8
        go_upto_region 10 with (fail)
        obtain ⟨d, hd⟩ : ∃ d, min x (2 : Int) = d := ⟨_, rfl⟩
        have hd2 : (if 2 < x then (2 : Int) else x) = d := by rw [← hd]; split <;> omega
        have hd3 : (if x < 2 then x else (2 : Int)) = d := by rw [← hd]; split <;> omega
        first | rw [hd] | rw [hd2] | rw [hd3]
        clear hd hd2 hd3
        have MD := Lib.hid (MC1.out d)
        have RD := Lib.hid (RC1.out d)
        obtain ⟨cv, hcv⟩ : ∃ z : Int, ((cntP P d : Nat) : Int) = z := ⟨_, rfl⟩
        rw [hcv] at MD RD
        clear hcv
        have hcc : (cv == cv) = true := by simp
        refine forget_B (fun W => PB W w.heap.size P ∧ Below w.heap.size w W) ⟨HP.out, HB.out⟩ ?_
        clear HP HB
        rintro W2 ⟨h1, h2⟩
        have HP := Lib.hid h1
        have HB := Lib.hid h2
        clear h1 h2
        have HCP := Lib.hid HP.out.regrown
        have hbr : ∀ dd os, Below w.heap.size w (grow (redrawn W2 dd) os) := fun dd os => HB.out.trans ((below_regrown W2 dd os).mono HB.out.size)
        have c28 := fun dd os => Calls.regrown_of (MD.out _ (hbr dd os))
        have c31 := fun dd os => Calls.regrown_of (RD.out (grow (redrawn W2 dd) os))
        have c34 := fun dd os => Calls.regrown_of (AW.out _ (hbr dd os))
        clear hbr MD RD
        refine wp_region_quiet_below (by kernel_rfl) (by kernel_rfl) ?_
        refine wpQuiet_pos (by rfl) _ (by rfl) w.heap.size P X HX.out (by rfl) HCP.out ?_
        try simp only [Act.put, List.setIfInBounds_toArray, List.set_cons_zero, List.set_cons_succ]
        iterate 1 (go_big_quiet_step (fail))
        go_big_quiet_step (exact c28 _ _)
        refine wpQuiet_pos (by rfl) _ (by rfl) w.heap.size P X HX.out (by rfl) HCP.out ?_
        try simp only [Act.put, List.setIfInBounds_toArray, List.set_cons_zero, List.set_cons_succ]
        iterate 1 (go_big_quiet_step (fail))
        go_big_quiet_step (exact c31 _ _)
        iterate 2 (go_big_quiet_step (fail))
        go_big_quiet_step (exact c34 _ _)
        repeat (go_big_quiet_step (fail))
        refine wpQuiet_nil ?_
        rintro W9 ⟨pq, rfl⟩
        replace HB := Lib.hid (HB.out.trans ((below_regrown W2 pq.d pq.os).mono HB.out.size))
        clear c28 c31 c34 HCP HP
        generalize grow (redrawn W2 pq.d) pq.os = W9 at HB ⊢
        go_wp2
        go_ret
        exact ⟨rfl, HB.out⟩
end Go.Proofs.YthinkiljhkanhaaGreatDoor
