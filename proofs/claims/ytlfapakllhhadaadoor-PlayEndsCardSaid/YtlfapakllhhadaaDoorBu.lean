/-
  Contracts: the checker's squares gone over.
-/
import Derived.Test.YtlfapakllhhadaaDoorG8
namespace Go.Proofs.YtlfapakllhhadaaDoor
open Go.RowKit Go.Sort
set_option linter.unusedSimpArgs false
set_option linter.unusedVariables false
set_option maxRecDepth 20000

theorem infoLeap : (Tryd.prog.info? 119).map (·.size) = some 4 := by kernel_rfl
theorem leap0_any (w : World) :
    Calls Tryd.prog 106 #[.int .i64 0] w fun e w' => e = .returned (.agg #[.int .i64 5, .int .i64 (1), .int .i64 1, .int .i64 1]) ∧ Below w.heap.size w w' := by
  go_enter Tryd.func106, Tryd.ntmps106
  go_wp2
  refine bodyPost_ret (v := .agg #[.int .i64 5, .int .i64 (1), .int .i64 1, .int .i64 1]) ?_ rfl ⟨rfl, below_new _⟩
  exact results_cell_row (p := 2) (ty := 119) rfl _ _ w.heap.size 119 _ (0, 0) _ rfl (heap_alloc_new _ _) Tryd.underlying119 rfl infoLeap
theorem leap1_any (w : World) :
    Calls Tryd.prog 106 #[.int .i64 1] w fun e w' => e = .returned (.agg #[.int .i64 2, .int .i64 (-1), .int .i64 1, .int .i64 0]) ∧ Below w.heap.size w w' := by
  go_enter Tryd.func106, Tryd.ntmps106
  go_wp2
  refine bodyPost_ret (v := .agg #[.int .i64 2, .int .i64 (-1), .int .i64 1, .int .i64 0]) ?_ rfl ⟨rfl, below_new _⟩
  exact results_cell_row (p := 2) (ty := 119) rfl _ _ w.heap.size 119 _ (0, 0) _ rfl (heap_alloc_new _ _) Tryd.underlying119 rfl infoLeap
set_option maxHeartbeats 4000000 in
set_option maxRecDepth 100000 in
theorem over0_any (b : Nat) (P : Nat → Int) (w : World) (hp : PB w b P) (hs : P 128 = 0) :
    Calls Tryd.prog 77 #[.pointer (some ⟨b, 0, none⟩)] w fun e w' => e = .returned (.bool (overB P)) ∧ Below w.heap.size w w' := by
  have HP := Lib.hid hp
  have e1 := hp.cell 130 (by omega)
  have e2 := hp.cell 131 (by omega)
  have e3 := hp.cell 128 (by omega)
  have hbl := hp.lt
  rw [hs] at e3
  have hv : overB P = (P 130 == -1 || (sq (P 130) && P 131 == 0 && overC P (P 130).toNat 5 ((P 130).toNat + 8) ((P 130).toNat - 8) 1)) := by unfold overB; rw [hs]; rfl
  clear hp hs
  obtain ⟨o, hpo⟩ : ∃ o, P 130 = o := ⟨_, rfl⟩
  obtain ⟨hf, hph⟩ : ∃ o, P 131 = o := ⟨_, rfl⟩
  rw [hpo, hph] at hv
  rw [hpo] at e1
  rw [hph] at e2
  have HPO := Lib.hid hpo
  have HPH := Lib.hid hph
  clear hpo hph
  by_cases h0 : o = -1
  · subst h0
    have HV := Lib.hid (show overB P = true by rw [hv]; rfl)
    clear hv
    go_enter Tryd.func77, Tryd.ntmps77
    go_wp2
    go_ret
    exact ⟨q_b HV.out.symm, Below.refl _ _⟩
  · have hm : (o == -1) = false := by simp [h0]
    rw [hm, Bool.false_or] at hv
    obtain ⟨rk, hrk⟩ : ∃ r, sR o = r := ⟨_, rfl⟩
    have HRK := Lib.hid hrk
    have HV := Lib.hid hv
    clear hv hrk h0
    go_enter Tryd.func77, Tryd.ntmps77
    go_wp2_with fail
    refine (leap0_any _).mono ?_
    rintro e w1 ⟨rfl, hb1⟩
    go_upto_region 4 with (fail)
    refine forget_B (fun W => PB W b P ∧ Below w.heap.size w W ∧ W.heap[w1.heap.size]? = some (.cells #[.int .i64 5, .int .i64 (1), .int .i64 1, .int .i64 1] 119 (0, 0))) ⟨(HP.out.go hb1).alloc _, hb1.alloc hb1.size _, sl_at rfl⟩ ?_
    clear e1 e2 e3 HP hb1
    rintro W ⟨hp, hb, hx⟩
    have x1 := cell_regrown (hp.cell 130 (by omega))
    have x2 := cell_regrown (hp.cell 131 (by omega))
    rw [HPO.out] at x1
    rw [HPH.out] at x2
    have v0 := cell_regrown (row4z hx)
    have HP := Lib.hid hp
    have HB := Lib.hid hb
    have HX := Lib.hid hx
    clear hp hb hx
    have c1 := regrown_call (w := W) (rank_any o)
    rw [HRK.out] at c1
    by_cases hr : rk = 5
    · subst hr
      by_cases hh : hf = 0
      · subst hh
        refine wp_region_quiet_below (by kernel_rfl) (by kernel_rfl) ?_
        repeat (first | go_big_quiet_step (exact c1 _ _) | quiet_step (exact c1 _ _))
        refine wpQuiet_nil ?_
        rintro W4 ⟨q, rfl⟩
        have hsq : sq o = true := by
          have := HRK.out
          unfold sR at this
          cases h : sq o
          · rw [h] at this; simp at this
          · rfl
        obtain ⟨s0, s1⟩ := (sq_iff o).1 hsq
        obtain ⟨m, rfl⟩ : ∃ m : Nat, o = (m : Int) := ⟨o.toNat, by omega⟩
        have hq8 : m / 8 = 5 := by
          have := HRK.out
          unfold sR at this
          rw [if_pos hsq] at this
          omega
        have ha64 : m + 8 < 64 := by omega
        have hb64 : m - 8 < 64 := by omega
        have hv2 : overB P = (pe (P (2 * m)) (P (2 * m + 1)) 0 0 && pe (P (2 * (m + 8))) (P (2 * (m + 8) + 1)) 0 0 && pe (P (2 * (m - 8))) (P (2 * (m - 8) + 1)) 1 1) := by
          rw [HV.out, hsq, Int.toNat_natCast]; unfold overC; rw [hq8]; simp
        have hst : stp (m : Int) 0 (1) = ((m + 8 : Nat) : Int) := by
          unfold stp
          rw [if_pos (by rw [hsq, Bool.true_and]; exact (onB_iff _ _).2 (by omega))]
          omega
        have hst2 : stp (m : Int) 0 (-1) = ((m - 8 : Nat) : Int) := by
          unfold stp
          rw [if_pos (by rw [hsq, Bool.true_and]; exact (onB_iff _ _).2 (by omega))]
          omega
        clear hq8 x1 x2 v0 c1 HV HRK
        generalize m + 8 = a at *
        generalize m - 8 = b2 at *
        have HS1 := Lib.hid hst
        have HS2 := Lib.hid hst2
        clear hst hst2 hsq hm
        have b4 := below_regrown W q.d q.os
        have hp := HP.out.go b4
        have hx := sl_go HX.out b4
        have HB4 := Lib.hid (HB.out.trans (b4.mono HB.out.size))
        clear b4 HP HB HX
        generalize grow (redrawn W q.d) q.os = W4 at *
        have x1 := cell_regrown (hp.cell 130 (by omega))
        rw [HPO.out] at x1
        have v1 := cell_regrown (row4 hx).1
        have HP := Lib.hid hp
        have HX := Lib.hid hx
        clear hp hx
        have c1 := regrown_call (w := W4) (fun W => step_any (m : Int) 0 (1) W (by unfold I64; omega) (by unfold I64; omega))
        have c2 := regrown_call (w := W4) (fun W => step_any (m : Int) 0 (-1) W (by unfold I64; omega) (by unfold I64; omega))
        rw [HS1.out] at c1
        rw [HS2.out] at c2
        go_upto_region 6 with (fail)
        refine wp_region_quiet_below (by kernel_rfl) (by kernel_rfl) ?_
        iterate 8 (go_big_quiet_step (exact c1 _ _))
        repeat (go_big_quiet_step (exact c2 _ _))
        refine wpQuiet_nil ?_
        rintro W5 ⟨q, rfl⟩
        have b4 := below_regrown W4 q.d q.os
        have hp := HP.out.go b4
        have hx := sl_go HX.out b4
        have HB5 := Lib.hid (HB4.out.trans (b4.mono HB4.out.size))
        clear b4 HP HX HB4 x1 v1 c1 c2
        generalize grow (redrawn W4 q.d) q.os = W5 at *
        have x1 := cell_regrown (hp.cell 130 (by omega))
        rw [HPO.out] at x1
        have v2 := cell_regrown (row4 hx).2.1
        have v3 := cell_regrown (row4 hx).2.2
        have y1 := cell_regrown (hp.cell (m * 2) (by omega))
        have y2 := cell_regrown (hp.cell (m * 2 + 1) (by omega))
        have y3 := cell_regrown (hp.cell (a * 2) (by omega))
        have y4 := cell_regrown (hp.cell (a * 2 + 1) (by omega))
        have y5 := cell_regrown (hp.cell (b2 * 2) (by omega))
        have y6 := cell_regrown (hp.cell (b2 * 2 + 1) (by omega))
        have ga0 : (0 : Int) ≤ a := by omega
        have ga1 : (a : Int) < 64 := by omega
        have gb0 : (0 : Int) ≤ b2 := by omega
        have gb1 : (b2 : Int) < 64 := by omega
        clear hp hx
        rw [Nat.mul_comm 2 m, Nat.mul_comm 2 a, Nat.mul_comm 2 b2] at hv2
        obtain ⟨p1, hp1⟩ : ∃ p, pe (P (m * 2)) (P (m * 2 + 1)) 0 0 = p := ⟨_, rfl⟩
        obtain ⟨p2, hp2⟩ : ∃ p, pe (P (a * 2)) (P (a * 2 + 1)) 0 0 = p := ⟨_, rfl⟩
        obtain ⟨p3, hp3⟩ : ∃ p, pe (P (b2 * 2)) (P (b2 * 2 + 1)) 1 1 = p := ⟨_, rfl⟩
        have c1 := regrown_call (w := W5) (none_any (P (m * 2)) (P (m * 2 + 1)))
        have c2 := regrown_call (w := W5) (none_any (P (a * 2)) (P (a * 2 + 1)))
        rw [hp1] at c1
        rw [hp2] at c2
        rw [hp1, hp2, hp3] at hv2
        have HV := Lib.hid hv2
        clear hv2 hp1 hp2
        generalize P (m * 2) = k1 at *
        generalize P (m * 2 + 1) = d1 at *
        generalize P (a * 2) = k2 at *
        generalize P (a * 2 + 1) = d2 at *
        generalize P (b2 * 2) = k3 at *
        generalize P (b2 * 2 + 1) = d3 at *
        go_upto_region 7 with (fail)
        cases p1
        · refine wp_region_quiet_below (by kernel_rfl) (by kernel_rfl) ?_
          repeat (first | go_big_quiet_step (first | exact c1 _ _ | exact c2 _ _) | quiet_step (first | exact c1 _ _ | exact c2 _ _))
          refine wpQuiet_nil ?_
          rintro W6 ⟨q, rfl⟩
          go_wp2
          go_ret
          exact ⟨q_b (by rw [HV.out]; simp), HB5.out.trans ((below_regrown W5 q.d q.os).mono HB5.out.size)⟩
        · cases p2
          all_goals
            refine wp_region_quiet_below (by kernel_rfl) (by kernel_rfl) ?_
            repeat (first | go_big_quiet_step (first | exact c1 _ _ | exact c2 _ _) | quiet_step (first | exact c1 _ _ | exact c2 _ _))
            refine wpQuiet_nil ?_
            rintro W6 ⟨q, rfl⟩
            go_wp2
            go_ret
            exact ⟨q_b (by rw [HV.out]; simp), HB5.out.trans ((below_regrown W5 q.d q.os).mono HB5.out.size)⟩
      · have hh2 : (hf != 0) = true := by simp [hh]
        have HF := Lib.hid (show overB P = false by rw [HV.out]; simp [hh])
        clear hh
        refine wp_region_quiet_below (by kernel_rfl) (by kernel_rfl) ?_
        repeat (first | go_big_quiet_step (exact c1 _ _) | quiet_step (exact c1 _ _))
        refine wpQuiet_nil ?_
        rintro W4 ⟨q, rfl⟩
        go_wp2
        go_ret
        exact ⟨q_b HF.out.symm, HB.out.trans ((below_regrown W q.d q.os).mono HB.out.size)⟩
    · have hr2 : (rk != 5) = true := by simp [hr]
      have HF := Lib.hid (show overB P = false by
        rw [HV.out]
        cases hsq : sq o
        · rfl
        · obtain ⟨s0, s1⟩ := (sq_iff o).1 hsq
          have h2 := HRK.out
          unfold sR at h2
          rw [if_pos hsq] at h2
          have : (o.toNat / 8 == 5) = false := by simp; omega
          unfold overC; rw [this]; simp)
      clear hr
      refine wp_region_quiet_below (by kernel_rfl) (by kernel_rfl) ?_
      repeat (first | go_big_quiet_step (exact c1 _ _) | quiet_step (exact c1 _ _))
      refine wpQuiet_nil ?_
      rintro W4 ⟨q, rfl⟩
      go_wp2
      go_ret
      exact ⟨q_b HF.out.symm, HB.out.trans ((below_regrown W q.d q.os).mono HB.out.size)⟩
set_option maxHeartbeats 4000000 in
set_option maxRecDepth 100000 in
theorem over1_any (b : Nat) (P : Nat → Int) (w : World) (hp : PB w b P) (hs : P 128 = 1) :
    Calls Tryd.prog 77 #[.pointer (some ⟨b, 0, none⟩)] w fun e w' => e = .returned (.bool (overB P)) ∧ Below w.heap.size w w' := by
  have HP := Lib.hid hp
  have e1 := hp.cell 130 (by omega)
  have e2 := hp.cell 131 (by omega)
  have e3 := hp.cell 128 (by omega)
  have hbl := hp.lt
  rw [hs] at e3
  have hv : overB P = (P 130 == -1 || (sq (P 130) && P 131 == 0 && overC P (P 130).toNat 2 ((P 130).toNat - 8) ((P 130).toNat + 8) 0)) := by unfold overB; rw [hs]; rfl
  clear hp hs
  obtain ⟨o, hpo⟩ : ∃ o, P 130 = o := ⟨_, rfl⟩
  obtain ⟨hf, hph⟩ : ∃ o, P 131 = o := ⟨_, rfl⟩
  rw [hpo, hph] at hv
  rw [hpo] at e1
  rw [hph] at e2
  have HPO := Lib.hid hpo
  have HPH := Lib.hid hph
  clear hpo hph
  by_cases h0 : o = -1
  · subst h0
    have HV := Lib.hid (show overB P = true by rw [hv]; rfl)
    clear hv
    go_enter Tryd.func77, Tryd.ntmps77
    go_wp2
    go_ret
    exact ⟨q_b HV.out.symm, Below.refl _ _⟩
  · have hm : (o == -1) = false := by simp [h0]
    rw [hm, Bool.false_or] at hv
    obtain ⟨rk, hrk⟩ : ∃ r, sR o = r := ⟨_, rfl⟩
    have HRK := Lib.hid hrk
    have HV := Lib.hid hv
    clear hv hrk h0
    go_enter Tryd.func77, Tryd.ntmps77
    go_wp2_with fail
    refine (leap1_any _).mono ?_
    rintro e w1 ⟨rfl, hb1⟩
    go_upto_region 4 with (fail)
    refine forget_B (fun W => PB W b P ∧ Below w.heap.size w W ∧ W.heap[w1.heap.size]? = some (.cells #[.int .i64 2, .int .i64 (-1), .int .i64 1, .int .i64 0] 119 (0, 0))) ⟨(HP.out.go hb1).alloc _, hb1.alloc hb1.size _, sl_at rfl⟩ ?_
    clear e1 e2 e3 HP hb1
    rintro W ⟨hp, hb, hx⟩
    have x1 := cell_regrown (hp.cell 130 (by omega))
    have x2 := cell_regrown (hp.cell 131 (by omega))
    rw [HPO.out] at x1
    rw [HPH.out] at x2
    have v0 := cell_regrown (row4z hx)
    have HP := Lib.hid hp
    have HB := Lib.hid hb
    have HX := Lib.hid hx
    clear hp hb hx
    have c1 := regrown_call (w := W) (rank_any o)
    rw [HRK.out] at c1
    by_cases hr : rk = 2
    · subst hr
      by_cases hh : hf = 0
      · subst hh
        refine wp_region_quiet_below (by kernel_rfl) (by kernel_rfl) ?_
        repeat (first | go_big_quiet_step (exact c1 _ _) | quiet_step (exact c1 _ _))
        refine wpQuiet_nil ?_
        rintro W4 ⟨q, rfl⟩
        have hsq : sq o = true := by
          have := HRK.out
          unfold sR at this
          cases h : sq o
          · rw [h] at this; simp at this
          · rfl
        obtain ⟨s0, s1⟩ := (sq_iff o).1 hsq
        obtain ⟨m, rfl⟩ : ∃ m : Nat, o = (m : Int) := ⟨o.toNat, by omega⟩
        have hq8 : m / 8 = 2 := by
          have := HRK.out
          unfold sR at this
          rw [if_pos hsq] at this
          omega
        have ha64 : m - 8 < 64 := by omega
        have hb64 : m + 8 < 64 := by omega
        have hv2 : overB P = (pe (P (2 * m)) (P (2 * m + 1)) 0 0 && pe (P (2 * (m - 8))) (P (2 * (m - 8) + 1)) 0 0 && pe (P (2 * (m + 8))) (P (2 * (m + 8) + 1)) 1 0) := by
          rw [HV.out, hsq, Int.toNat_natCast]; unfold overC; rw [hq8]; simp
        have hst : stp (m : Int) 0 (-1) = ((m - 8 : Nat) : Int) := by
          unfold stp
          rw [if_pos (by rw [hsq, Bool.true_and]; exact (onB_iff _ _).2 (by omega))]
          omega
        have hst2 : stp (m : Int) 0 (1) = ((m + 8 : Nat) : Int) := by
          unfold stp
          rw [if_pos (by rw [hsq, Bool.true_and]; exact (onB_iff _ _).2 (by omega))]
          omega
        clear hq8 x1 x2 v0 c1 HV HRK
        generalize m - 8 = a at *
        generalize m + 8 = b2 at *
        have HS1 := Lib.hid hst
        have HS2 := Lib.hid hst2
        clear hst hst2 hsq hm
        have b4 := below_regrown W q.d q.os
        have hp := HP.out.go b4
        have hx := sl_go HX.out b4
        have HB4 := Lib.hid (HB.out.trans (b4.mono HB.out.size))
        clear b4 HP HB HX
        generalize grow (redrawn W q.d) q.os = W4 at *
        have x1 := cell_regrown (hp.cell 130 (by omega))
        rw [HPO.out] at x1
        have v1 := cell_regrown (row4 hx).1
        have HP := Lib.hid hp
        have HX := Lib.hid hx
        clear hp hx
        have c1 := regrown_call (w := W4) (fun W => step_any (m : Int) 0 (-1) W (by unfold I64; omega) (by unfold I64; omega))
        have c2 := regrown_call (w := W4) (fun W => step_any (m : Int) 0 (1) W (by unfold I64; omega) (by unfold I64; omega))
        rw [HS1.out] at c1
        rw [HS2.out] at c2
        go_upto_region 6 with (fail)
        refine wp_region_quiet_below (by kernel_rfl) (by kernel_rfl) ?_
        iterate 8 (go_big_quiet_step (exact c1 _ _))
        repeat (go_big_quiet_step (exact c2 _ _))
        refine wpQuiet_nil ?_
        rintro W5 ⟨q, rfl⟩
        have b4 := below_regrown W4 q.d q.os
        have hp := HP.out.go b4
        have hx := sl_go HX.out b4
        have HB5 := Lib.hid (HB4.out.trans (b4.mono HB4.out.size))
        clear b4 HP HX HB4 x1 v1 c1 c2
        generalize grow (redrawn W4 q.d) q.os = W5 at *
        have x1 := cell_regrown (hp.cell 130 (by omega))
        rw [HPO.out] at x1
        have v2 := cell_regrown (row4 hx).2.1
        have v3 := cell_regrown (row4 hx).2.2
        have y1 := cell_regrown (hp.cell (m * 2) (by omega))
        have y2 := cell_regrown (hp.cell (m * 2 + 1) (by omega))
        have y3 := cell_regrown (hp.cell (a * 2) (by omega))
        have y4 := cell_regrown (hp.cell (a * 2 + 1) (by omega))
        have y5 := cell_regrown (hp.cell (b2 * 2) (by omega))
        have y6 := cell_regrown (hp.cell (b2 * 2 + 1) (by omega))
        have ga0 : (0 : Int) ≤ a := by omega
        have ga1 : (a : Int) < 64 := by omega
        have gb0 : (0 : Int) ≤ b2 := by omega
        have gb1 : (b2 : Int) < 64 := by omega
        clear hp hx
        rw [Nat.mul_comm 2 m, Nat.mul_comm 2 a, Nat.mul_comm 2 b2] at hv2
        obtain ⟨p1, hp1⟩ : ∃ p, pe (P (m * 2)) (P (m * 2 + 1)) 0 0 = p := ⟨_, rfl⟩
        obtain ⟨p2, hp2⟩ : ∃ p, pe (P (a * 2)) (P (a * 2 + 1)) 0 0 = p := ⟨_, rfl⟩
        obtain ⟨p3, hp3⟩ : ∃ p, pe (P (b2 * 2)) (P (b2 * 2 + 1)) 1 0 = p := ⟨_, rfl⟩
        have c1 := regrown_call (w := W5) (none_any (P (m * 2)) (P (m * 2 + 1)))
        have c2 := regrown_call (w := W5) (none_any (P (a * 2)) (P (a * 2 + 1)))
        rw [hp1] at c1
        rw [hp2] at c2
        rw [hp1, hp2, hp3] at hv2
        have HV := Lib.hid hv2
        clear hv2 hp1 hp2
        generalize P (m * 2) = k1 at *
        generalize P (m * 2 + 1) = d1 at *
        generalize P (a * 2) = k2 at *
        generalize P (a * 2 + 1) = d2 at *
        generalize P (b2 * 2) = k3 at *
        generalize P (b2 * 2 + 1) = d3 at *
        go_upto_region 7 with (fail)
        cases p1
        · refine wp_region_quiet_below (by kernel_rfl) (by kernel_rfl) ?_
          repeat (first | go_big_quiet_step (first | exact c1 _ _ | exact c2 _ _) | quiet_step (first | exact c1 _ _ | exact c2 _ _))
          refine wpQuiet_nil ?_
          rintro W6 ⟨q, rfl⟩
          go_wp2
          go_ret
          exact ⟨q_b (by rw [HV.out]; simp), HB5.out.trans ((below_regrown W5 q.d q.os).mono HB5.out.size)⟩
        · cases p2
          all_goals
            refine wp_region_quiet_below (by kernel_rfl) (by kernel_rfl) ?_
            repeat (first | go_big_quiet_step (first | exact c1 _ _ | exact c2 _ _) | quiet_step (first | exact c1 _ _ | exact c2 _ _))
            refine wpQuiet_nil ?_
            rintro W6 ⟨q, rfl⟩
            go_wp2
            go_ret
            exact ⟨q_b (by rw [HV.out]; simp), HB5.out.trans ((below_regrown W5 q.d q.os).mono HB5.out.size)⟩
      · have hh2 : (hf != 0) = true := by simp [hh]
        have HF := Lib.hid (show overB P = false by rw [HV.out]; simp [hh])
        clear hh
        refine wp_region_quiet_below (by kernel_rfl) (by kernel_rfl) ?_
        repeat (first | go_big_quiet_step (exact c1 _ _) | quiet_step (exact c1 _ _))
        refine wpQuiet_nil ?_
        rintro W4 ⟨q, rfl⟩
        go_wp2
        go_ret
        exact ⟨q_b HF.out.symm, HB.out.trans ((below_regrown W q.d q.os).mono HB.out.size)⟩
    · have hr2 : (rk != 2) = true := by simp [hr]
      have HF := Lib.hid (show overB P = false by
        rw [HV.out]
        cases hsq : sq o
        · rfl
        · obtain ⟨s0, s1⟩ := (sq_iff o).1 hsq
          have h2 := HRK.out
          unfold sR at h2
          rw [if_pos hsq] at h2
          have : (o.toNat / 8 == 2) = false := by simp; omega
          unfold overC; rw [this]; simp)
      clear hr
      refine wp_region_quiet_below (by kernel_rfl) (by kernel_rfl) ?_
      repeat (first | go_big_quiet_step (exact c1 _ _) | quiet_step (exact c1 _ _))
      refine wpQuiet_nil ?_
      rintro W4 ⟨q, rfl⟩
      go_wp2
      go_ret
      exact ⟨q_b HF.out.symm, HB.out.trans ((below_regrown W q.d q.os).mono HB.out.size)⟩
end Go.Proofs.YtlfapakllhhadaaDoor
