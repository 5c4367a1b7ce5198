/-
  Merged: Mt, Mu, Mv.
-/
import Derived.Test.YtcdnakbdajbfoaaGreatDoorG19
import Derived.Test.YtcdnakbdajbfoaaGreatDoorG9
import Derived.Deep.CutRange

namespace Go.Proofs.YtcdnakbdajbfoaaGreatDoor
open Go.RowKit Go.Sort
set_option linter.unusedSimpArgs false
set_option linter.unusedVariables false
set_option maxRecDepth 20000

set_option maxHeartbeats 1000000 in
theorem rBare_any (P : Nat → Int) (s : Int) (w : World) :
    Calls Tryz.prog 157 #[.agg (pc P).toArray, .int .i64 s] w fun e w' => e = .returned (.bool (bareR P s)) ∧ Below w.heap.size w w' := by
  obtain ⟨X, hX⟩ : ∃ X, X = (pc P).toArray := ⟨_, rfl⟩
  rw [← hX]
  have HP := Lib.hid (show PB (w.alloc (.cells X 30)) w.heap.size P by subst hX; exact PB.new rfl)
  have HB := Lib.hid (below_new (w := w) (.cells X 30))
  clear hX
  go_enter Tryz.func157, Tryz.ntmps157
  go_upto_region 1 with (fail)
  generalize w.alloc (.cells X 30) = W at *
  rcases sq_cases s with ⟨h1, hs⟩ | ⟨h1, hs⟩ | ⟨s0, s1, hs⟩
  · have HV := Lib.hid (show bareR P s = false by unfold bareR; rw [hs]; rfl)
    clear hs
    go_wp2
    go_ret
    exact ⟨q_b HV.out.symm, HB.out⟩
  · have HV := Lib.hid (show bareR P s = false by unfold bareR; rw [hs]; rfl)
    have s0 : 0 ≤ s := by omega
    clear hs
    go_wp2
    go_ret
    exact ⟨q_b HV.out.symm, HB.out⟩
  · obtain ⟨n, rfl⟩ := Int.eq_ofNat_of_zero_le s0
    have HV := Lib.hid (show bareR P (n : Int) = pe (P (n * 2)) (P (n * 2 + 1)) 0 0 by rw [bareR_sq P n (by omega), emB_at])
    have e1 := HP.out.cell (n * 2) (by omega)
    have e2 := HP.out.cell (n * 2 + 1) (by omega)
    clear hs HP
    go_wp2
    go_ret
    exact ⟨q_b HV.out.symm, HB.out⟩
theorem bare_reg (P : Nat → Int) (X : Array Value) (hX : X = (pc P).toArray) (W : World) (s : Int) (b : Bool) (h : bareR P s = b) : ∀ d os, Calls Tryz.prog 157 #[.agg X, .int .i64 s] (grow (redrawn W d) os) fun e w' => e = .returned (.bool b) ∧ ∃ p : Regrown, w' = grow (redrawn W p.d) p.os := by
  subst h; subst hX
  exact regrown_call (w := W) (fun W => rBare_any P s W)
theorem castleR_off (P : Nat → Int) (s t : Nat) (h : s ≠ homeR (P (2 * s + 1)) ∨ P 129 < 0 ∨ 15 < P 129) : castleR P s t = false := by unfold castleR; rw [if_pos h]
theorem castleR_on (P : Nat → Int) (s t : Nat) (h : ¬ (s ≠ homeR (P (2 * s + 1)) ∨ P 129 < 0 ∨ 15 < P 129)) (ht : t = s + 2) : castleR P s t = ((P 129 / shortR (P (2 * s + 1)) % 2 == 1) && pe (P (2 * (s + 3))) (P (2 * (s + 3) + 1)) 4 (P (2 * s + 1)) && bareR P (s + 1 : Nat) && bareR P (s + 2 : Nat)) := by unfold castleR; rw [if_neg h, if_pos ht]
theorem castleR_far (P : Nat → Int) (s t : Nat) (h : ¬ (s ≠ homeR (P (2 * s + 1)) ∨ P 129 < 0 ∨ 15 < P 129)) (ht : t ≠ s + 2) : castleR P s t = ((t + 2 == s) && (P 129 / farR (P (2 * s + 1)) % 2 == 1) && pe (P (2 * (s - 4))) (P (2 * (s - 4) + 1)) 4 (P (2 * s + 1)) && bareR P (s - 1 : Nat) && bareR P (s - 2 : Nat) && bareR P (s - 3 : Nat)) := by unfold castleR; rw [if_neg h, if_neg ht]

set_option maxHeartbeats 8000000 in
set_option maxRecDepth 100000 in
theorem rCastle_any (P : Nat → Int) (s t : Nat) (hs : s < 64) (ht : t < 64) (w : World) :
    Calls Tryz.prog 127 #[.agg (pc P).toArray, .int .i64 (s : Int), .int .i64 (t : Int)] w fun e w' => e = .returned (.bool (castleR P s t)) ∧ Below w.heap.size w w' := by
  obtain ⟨X, hX⟩ : ∃ X, X = (pc P).toArray := ⟨_, rfl⟩
  rw [← hX]
  have HP := Lib.hid (show PB (w.alloc (.cells X 30)) w.heap.size P by subst hX; exact PB.new rfl)
  have HB := Lib.hid (below_new (w := w) (.cells X 30))
  have HX := Lib.hid hX
  have s0 : (0 : Int) ≤ s := by omega
  have s1 : (s : Int) < 64 := by omega
  have e1 := HP.out.cell (s * 2 + 1) (by omega)
  have e9 := HP.out.cell 129 (by omega)
  have HOFF := Lib.hid (castleR_off P s t)
  have HON := Lib.hid (castleR_on P s t)
  have HFAR := Lib.hid (castleR_far P s t)
  rw [Nat.mul_comm 2 s] at HOFF HON HFAR
  obtain ⟨d, hd⟩ : ∃ d, P (s * 2 + 1) = d := ⟨_, rfl⟩
  obtain ⟨c, hc⟩ : ∃ c, P 129 = c := ⟨_, rfl⟩
  have HCC := Lib.hid hc
  rw [hd] at e1 HOFF HON HFAR
  rw [hc] at e9 HOFF HON HFAR
  have HT := Lib.hid (show t < 64 from ht)
  obtain ⟨V, hV⟩ : ∃ V, castleR P s t = V := ⟨_, rfl⟩
  rw [hV] at HOFF HON HFAR ⊢
  clear hX hd hc hV
  go_enter Tryz.func127, Tryz.ntmps127
  go_upto_region 1 with (fail)
  generalize w.alloc (.cells X 30) = W at *
  have HWZ := Lib.hid (HP.out.lt)
  by_cases hd : d = 1
  · subst hd
    rw [show homeR 1 = 60 by decide] at HOFF HON HFAR
    rw [show shortR 1 = 4 by decide] at HON
    rw [show farR 1 = 8 by decide] at HFAR
    by_cases hh : s = 60
    case neg =>
      have h2 : ((s : Int) != 60) = true := by simp; omega
      have h3 : ((s : Int) == 60) = false := by simp; omega
      have HV := Lib.hid (HOFF.out (.inl hh))
      clear HOFF HON HFAR
      go_wp2
      go_ret
      exact ⟨q_b HV.out.symm, HB.out⟩
    subst hh
    clear s0 s1
    by_cases hc0 : c < 0
    case pos =>
      have HV := Lib.hid (HOFF.out (.inr (.inl hc0)))
      clear HOFF HON HFAR
      go_wp2
      go_ret
      exact ⟨q_b HV.out.symm, HB.out⟩
    by_cases hc15 : 15 < c
    case pos =>
      have HV := Lib.hid (HOFF.out (.inr (.inr hc15)))
      clear HOFF HON HFAR
      go_wp2
      go_ret
      exact ⟨q_b HV.out.symm, HB.out⟩
    have hcc : 0 ≤ c := by omega
    have HNO := Lib.hid (show ¬ (60 ≠ 60 ∨ c < 0 ∨ 15 < c) by omega)
    clear HOFF
    go_upto_region 8 with (fail)
    have HB2 := Lib.hid (HB.out.trans ((below_new (w := W) (.cells #[.int .i64 4, .int .i64 1] 26)).mono HB.out.size))
    have HP2 := Lib.hid (HP.out.go (below_new (w := W) (.cells #[.int .i64 4, .int .i64 1] 26)))
    have HR2 := Lib.hid (show (W.alloc (.cells #[.int .i64 4, .int .i64 1] 26)).heap[W.heap.size]? = some (.cells #[.int .i64 4, .int .i64 1] 26 (0, 0)) from sl_at rfl)
    generalize W.alloc (.cells #[.int .i64 4, .int .i64 1] 26) = W2 at *
    generalize W.heap.size = rb at *
    clear HP e1 e9 HB
    have HCP := Lib.hid HP2.out.regrown
    by_cases ht2 : t = 62
    · subst ht2
      have HV := Lib.hid (HON.out HNO.out rfl)
      clear HON HFAR
      obtain ⟨q, hq⟩ : ∃ q, c / 4 = q := ⟨_, rfl⟩
      have dq : c.tdiv 4 = q := by rw [Int.tdiv_eq_ediv_of_nonneg hcc]; exact hq
      have wq : wrap64 q = q := by unfold wrap64; omega
      obtain ⟨x, hx⟩ : ∃ x, q % 2 = x := ⟨_, rfl⟩
      have mq : q.tmod 2 = x := by rw [Int.tmod_eq_emod_of_nonneg (by omega)]; exact hx
      have hx01 : x = 0 ∨ x = 1 := by omega
      have HXX := Lib.hid hx
      rw [show c / 4 = q from hq, hx] at HV
      have z9 := cell_regrown (HP2.out.cell 129 (by omega))
      have zr1 := cell_regrown (HP2.out.cell 126 (by omega))
      have zr2 := cell_regrown (HP2.out.cell 127 (by omega))
      obtain ⟨y1, y2, _, _⟩ := row2 HR2.out
      replace y1 := cell_regrown y1
      replace y2 := cell_regrown y2
      have hC9 : P 129 = c := HCC.out
      rw [hC9] at z9
      go_upto_region 9 with (fail)
      clear hx hq 
      rcases hx01 with rfl | rfl
      · skip
        refine wp_region_quiet_below (by kernel_rfl) (by kernel_rfl) ?_
        repeat (go_big_quiet_step (fail))
        refine wpQuiet_nil ?_
        rintro W9 ⟨pq, rfl⟩
        have HB9 := Lib.hid (HB2.out.trans ((below_regrown W2 pq.d pq.os).mono HB2.out.size))
        generalize grow (redrawn W2 pq.d) pq.os = W9 at *
        go_wp2
        go_ret
        exact ⟨q_b (by rw [HV.out]; simp), HB9.out⟩
      obtain ⟨ro, hro⟩ : ∃ r, pe (P 126) (P 127) 4 1 = r := ⟨_, rfl⟩
      have HV := Lib.hid (HV.out)
      simp only [Nat.reduceAdd, Nat.reduceMul, Nat.reduceSub] at HV
      generalize P 126 = rk at *
      generalize P 127 = rd at *
      have hro2 : (rk == 4 && rd == 1) = ro := hro
      rw [hro] at HV
      obtain ⟨b0, hb0⟩ : ∃ b, bareR P (61 : Nat) = b := ⟨_, rfl⟩
      obtain ⟨b1, hb1⟩ : ∃ b, bareR P (62 : Nat) = b := ⟨_, rfl⟩
      have c0 := bare_reg P X HX.out W2 (61 : Int) b0 hb0
      have c1 := bare_reg P X HX.out W2 (62 : Int) b1 hb1
      rw [hb0, hb1] at HV
      clear hb0 hb1
      cases ro
      · skip
        refine wp_region_quiet_below (by kernel_rfl) (by kernel_rfl) ?_
        repeat (go_big_quiet_step (fail))
        refine wpQuiet_nil ?_
        rintro W9 ⟨pq, rfl⟩
        have HB9 := Lib.hid (HB2.out.trans ((below_regrown W2 pq.d pq.os).mono HB2.out.size))
        generalize grow (redrawn W2 pq.d) pq.os = W9 at *
        go_wp2
        go_ret
        exact ⟨q_b (by rw [HV.out]; simp), HB9.out⟩
      cases b0
      · skip
        refine wp_region_quiet_below (by kernel_rfl) (by kernel_rfl) ?_
        iterate 16 (go_big_quiet_step (fail))
        refine wpQuiet_pos (by rfl) _ (by rfl) w.heap.size P X HX.out (by rfl) HCP.out ?_
        try simp only [aP, sA, sZ, sS]
        iterate 2 (go_big_quiet_step (fail))
        go_big_quiet_step (exact c0 _ _)
        repeat (go_big_quiet_step (fail))
        refine wpQuiet_nil ?_
        rintro W9 ⟨pq, rfl⟩
        have HB9 := Lib.hid (HB2.out.trans ((below_regrown W2 pq.d pq.os).mono HB2.out.size))
        generalize grow (redrawn W2 pq.d) pq.os = W9 at *
        go_wp2
        go_ret
        exact ⟨q_b (by rw [HV.out]; simp), HB9.out⟩
      refine wp_region_quiet_below (by kernel_rfl) (by kernel_rfl) ?_
      iterate 16 (go_big_quiet_step (fail))
      refine wpQuiet_pos (by rfl) _ (by rfl) w.heap.size P X HX.out (by rfl) HCP.out ?_
      try simp only [aP, sA, sZ, sS]
      iterate 2 (go_big_quiet_step (fail))
      go_big_quiet_step (exact c0 _ _)
      iterate 2 (go_big_quiet_step (fail))
      refine wpQuiet_pos (by rfl) _ (by rfl) w.heap.size P X HX.out (by rfl) HCP.out ?_
      try simp only [aP, sA, sZ, sS]
      iterate 2 (go_big_quiet_step (fail))
      go_big_quiet_step (exact c1 _ _)
      repeat (go_big_quiet_step (fail))
      refine wpQuiet_nil ?_
      rintro W9 ⟨pq, rfl⟩
      have HB9 := Lib.hid (HB2.out.trans ((below_regrown W2 pq.d pq.os).mono HB2.out.size))
      generalize grow (redrawn W2 pq.d) pq.os = W9 at *
      go_wp2
      go_ret
      exact ⟨q_b (by rw [HV.out]; simp), HB9.out⟩
    · have hn2 : ((t : Int) == 62) = false := by simp; omega
      have HV := Lib.hid (HFAR.out HNO.out ht2)
      clear HON HFAR
      by_cases ht3 : t = 58
      case neg =>
        have hn3 : ((t : Int) == 58) = false := by simp; omega
        have hn4 : (t + 2 == 60) = false := by simp; omega
        go_upto_region 10 with (fail)
        refine wp_region_quiet_below (by kernel_rfl) (by kernel_rfl) ?_
        repeat (go_big_quiet_step (fail))
        refine wpQuiet_nil ?_
        rintro W9 ⟨pq, rfl⟩
        have HB9 := Lib.hid (HB2.out.trans ((below_regrown W2 pq.d pq.os).mono HB2.out.size))
        generalize grow (redrawn W2 pq.d) pq.os = W9 at *
        go_wp2
        go_ret
        exact ⟨q_b (by rw [HV.out]; rw [hn4]; rfl), HB9.out⟩
      subst ht3
      obtain ⟨q, hq⟩ : ∃ q, c / 8 = q := ⟨_, rfl⟩
      have dq : c.tdiv 8 = q := by rw [Int.tdiv_eq_ediv_of_nonneg hcc]; exact hq
      have wq : wrap64 q = q := by unfold wrap64; omega
      obtain ⟨x, hx⟩ : ∃ x, q % 2 = x := ⟨_, rfl⟩
      have mq : q.tmod 2 = x := by rw [Int.tmod_eq_emod_of_nonneg (by omega)]; exact hx
      have hx01 : x = 0 ∨ x = 1 := by omega
      have HXX := Lib.hid hx
      rw [show c / 8 = q from hq, hx] at HV
      have z9 := cell_regrown (HP2.out.cell 129 (by omega))
      have zr1 := cell_regrown (HP2.out.cell 112 (by omega))
      have zr2 := cell_regrown (HP2.out.cell 113 (by omega))
      obtain ⟨y1, y2, _, _⟩ := row2 HR2.out
      replace y1 := cell_regrown y1
      replace y2 := cell_regrown y2
      have hC9 : P 129 = c := HCC.out
      rw [hC9] at z9
      go_upto_region 10 with (fail)
      clear hx hq 
      rcases hx01 with rfl | rfl
      · skip
        refine wp_region_quiet_below (by kernel_rfl) (by kernel_rfl) ?_
        repeat (go_big_quiet_step (fail))
        refine wpQuiet_nil ?_
        rintro W9 ⟨pq, rfl⟩
        have HB9 := Lib.hid (HB2.out.trans ((below_regrown W2 pq.d pq.os).mono HB2.out.size))
        generalize grow (redrawn W2 pq.d) pq.os = W9 at *
        go_wp2
        go_ret
        exact ⟨q_b (by rw [HV.out]; simp), HB9.out⟩
      obtain ⟨ro, hro⟩ : ∃ r, pe (P 112) (P 113) 4 1 = r := ⟨_, rfl⟩
      have HV := Lib.hid (HV.out)
      simp only [Nat.reduceAdd, Nat.reduceMul, Nat.reduceSub] at HV
      generalize P 112 = rk at *
      generalize P 113 = rd at *
      have hro2 : (rk == 4 && rd == 1) = ro := hro
      rw [hro] at HV
      obtain ⟨b0, hb0⟩ : ∃ b, bareR P (59 : Nat) = b := ⟨_, rfl⟩
      obtain ⟨b1, hb1⟩ : ∃ b, bareR P (58 : Nat) = b := ⟨_, rfl⟩
      obtain ⟨b2, hb2⟩ : ∃ b, bareR P (57 : Nat) = b := ⟨_, rfl⟩
      have c0 := bare_reg P X HX.out W2 (59 : Int) b0 hb0
      have c1 := bare_reg P X HX.out W2 (58 : Int) b1 hb1
      have c2 := bare_reg P X HX.out W2 (57 : Int) b2 hb2
      rw [hb0, hb1, hb2] at HV
      clear hb0 hb1 hb2
      cases ro
      · skip
        refine wp_region_quiet_below (by kernel_rfl) (by kernel_rfl) ?_
        repeat (go_big_quiet_step (fail))
        refine wpQuiet_nil ?_
        rintro W9 ⟨pq, rfl⟩
        have HB9 := Lib.hid (HB2.out.trans ((below_regrown W2 pq.d pq.os).mono HB2.out.size))
        generalize grow (redrawn W2 pq.d) pq.os = W9 at *
        go_wp2
        go_ret
        exact ⟨q_b (by rw [HV.out]; simp), HB9.out⟩
      cases b0
      · skip
        refine wp_region_quiet_below (by kernel_rfl) (by kernel_rfl) ?_
        iterate 22 (go_big_quiet_step (fail))
        refine wpQuiet_pos (by rfl) _ (by rfl) w.heap.size P X HX.out (by rfl) HCP.out ?_
        try simp only [aP, sA, sZ, sS]
        iterate 2 (go_big_quiet_step (fail))
        go_big_quiet_step (exact c0 _ _)
        repeat (go_big_quiet_step (fail))
        refine wpQuiet_nil ?_
        rintro W9 ⟨pq, rfl⟩
        have HB9 := Lib.hid (HB2.out.trans ((below_regrown W2 pq.d pq.os).mono HB2.out.size))
        generalize grow (redrawn W2 pq.d) pq.os = W9 at *
        go_wp2
        go_ret
        exact ⟨q_b (by rw [HV.out]; simp), HB9.out⟩
      cases b1
      · skip
        refine wp_region_quiet_below (by kernel_rfl) (by kernel_rfl) ?_
        iterate 22 (go_big_quiet_step (fail))
        refine wpQuiet_pos (by rfl) _ (by rfl) w.heap.size P X HX.out (by rfl) HCP.out ?_
        try simp only [aP, sA, sZ, sS]
        iterate 2 (go_big_quiet_step (fail))
        go_big_quiet_step (exact c0 _ _)
        iterate 2 (go_big_quiet_step (fail))
        refine wpQuiet_pos (by rfl) _ (by rfl) w.heap.size P X HX.out (by rfl) HCP.out ?_
        try simp only [aP, sA, sZ, sS]
        iterate 2 (go_big_quiet_step (fail))
        go_big_quiet_step (exact c1 _ _)
        repeat (go_big_quiet_step (fail))
        refine wpQuiet_nil ?_
        rintro W9 ⟨pq, rfl⟩
        have HB9 := Lib.hid (HB2.out.trans ((below_regrown W2 pq.d pq.os).mono HB2.out.size))
        generalize grow (redrawn W2 pq.d) pq.os = W9 at *
        go_wp2
        go_ret
        exact ⟨q_b (by rw [HV.out]; simp), HB9.out⟩
      refine wp_region_quiet_below (by kernel_rfl) (by kernel_rfl) ?_
      iterate 22 (go_big_quiet_step (fail))
      refine wpQuiet_pos (by rfl) _ (by rfl) w.heap.size P X HX.out (by rfl) HCP.out ?_
      try simp only [aP, sA, sZ, sS]
      iterate 2 (go_big_quiet_step (fail))
      go_big_quiet_step (exact c0 _ _)
      iterate 2 (go_big_quiet_step (fail))
      refine wpQuiet_pos (by rfl) _ (by rfl) w.heap.size P X HX.out (by rfl) HCP.out ?_
      try simp only [aP, sA, sZ, sS]
      iterate 2 (go_big_quiet_step (fail))
      go_big_quiet_step (exact c1 _ _)
      iterate 2 (go_big_quiet_step (fail))
      refine wpQuiet_pos (by rfl) _ (by rfl) w.heap.size P X HX.out (by rfl) HCP.out ?_
      try simp only [aP, sA, sZ, sS]
      iterate 2 (go_big_quiet_step (fail))
      go_big_quiet_step (exact c2 _ _)
      repeat (go_big_quiet_step (fail))
      refine wpQuiet_nil ?_
      rintro W9 ⟨pq, rfl⟩
      have HB9 := Lib.hid (HB2.out.trans ((below_regrown W2 pq.d pq.os).mono HB2.out.size))
      generalize grow (redrawn W2 pq.d) pq.os = W9 at *
      go_wp2
      go_ret
      exact ⟨q_b (by rw [HV.out]; simp), HB9.out⟩
  · have hd2 : (d == 1) = false := by simp [hd]
    rw [show homeR d = 4 by unfold homeR; rw [if_neg hd]] at HOFF HON HFAR
    rw [show shortR d = 1 by unfold shortR; rw [if_neg hd]] at HON
    rw [show farR d = 2 by unfold farR; rw [if_neg hd]] at HFAR
    clear hd
    by_cases hh : s = 4
    case neg =>
      have h2 : ((s : Int) != 4) = true := by simp; omega
      have h3 : ((s : Int) == 4) = false := by simp; omega
      have HV := Lib.hid (HOFF.out (.inl hh))
      clear HOFF HON HFAR
      go_wp2
      go_ret
      exact ⟨q_b HV.out.symm, HB.out⟩
    subst hh
    clear s0 s1
    by_cases hc0 : c < 0
    case pos =>
      have HV := Lib.hid (HOFF.out (.inr (.inl hc0)))
      clear HOFF HON HFAR
      go_wp2
      go_ret
      exact ⟨q_b HV.out.symm, HB.out⟩
    by_cases hc15 : 15 < c
    case pos =>
      have HV := Lib.hid (HOFF.out (.inr (.inr hc15)))
      clear HOFF HON HFAR
      go_wp2
      go_ret
      exact ⟨q_b HV.out.symm, HB.out⟩
    have hcc : 0 ≤ c := by omega
    have HNO := Lib.hid (show ¬ (4 ≠ 4 ∨ c < 0 ∨ 15 < c) by omega)
    clear HOFF
    go_upto_region 8 with (fail)
    have HB2 := Lib.hid (HB.out.trans ((below_new (w := W) (.cells #[.int .i64 4, .int .i64 d] 26)).mono HB.out.size))
    have HP2 := Lib.hid (HP.out.go (below_new (w := W) (.cells #[.int .i64 4, .int .i64 d] 26)))
    have HR2 := Lib.hid (show (W.alloc (.cells #[.int .i64 4, .int .i64 d] 26)).heap[W.heap.size]? = some (.cells #[.int .i64 4, .int .i64 d] 26 (0, 0)) from sl_at rfl)
    generalize W.alloc (.cells #[.int .i64 4, .int .i64 d] 26) = W2 at *
    generalize W.heap.size = rb at *
    clear HP e1 e9 HB
    have HCP := Lib.hid HP2.out.regrown
    by_cases ht2 : t = 6
    · subst ht2
      have HV := Lib.hid (HON.out HNO.out rfl)
      clear HON HFAR
      obtain ⟨q, hq⟩ : ∃ q, c / 1 = q := ⟨_, rfl⟩
      have dq : c.tdiv 1 = q := by rw [Int.tdiv_eq_ediv_of_nonneg hcc]; exact hq
      have wq : wrap64 q = q := by unfold wrap64; omega
      obtain ⟨x, hx⟩ : ∃ x, q % 2 = x := ⟨_, rfl⟩
      have mq : q.tmod 2 = x := by rw [Int.tmod_eq_emod_of_nonneg (by omega)]; exact hx
      have dq1 : c = q := by omega
      have wc : wrap64 c = c := by unfold wrap64; omega
      have mc : c.tmod 2 = x := by rw [dq1]; exact mq
      have mc2 : c % 2 = x := by rw [dq1]; exact hx
      have hx01 : x = 0 ∨ x = 1 := by omega
      have HXX := Lib.hid hx
      rw [show c / 1 = q from hq, hx] at HV
      have z9 := cell_regrown (HP2.out.cell 129 (by omega))
      have zr1 := cell_regrown (HP2.out.cell 14 (by omega))
      have zr2 := cell_regrown (HP2.out.cell 15 (by omega))
      obtain ⟨y1, y2, _, _⟩ := row2 HR2.out
      replace y1 := cell_regrown y1
      replace y2 := cell_regrown y2
      have hC9 : P 129 = c := HCC.out
      rw [hC9] at z9
      go_upto_region 9 with (fail)
      clear hx hq dq1
      rcases hx01 with rfl | rfl
      · skip
        refine wp_region_quiet_below (by kernel_rfl) (by kernel_rfl) ?_
        repeat (go_big_quiet_step (fail))
        refine wpQuiet_nil ?_
        rintro W9 ⟨pq, rfl⟩
        have HB9 := Lib.hid (HB2.out.trans ((below_regrown W2 pq.d pq.os).mono HB2.out.size))
        generalize grow (redrawn W2 pq.d) pq.os = W9 at *
        go_wp2
        go_ret
        exact ⟨q_b (by rw [HV.out]; simp), HB9.out⟩
      obtain ⟨ro, hro⟩ : ∃ r, pe (P 14) (P 15) 4 d = r := ⟨_, rfl⟩
      have HV := Lib.hid (HV.out)
      simp only [Nat.reduceAdd, Nat.reduceMul, Nat.reduceSub] at HV
      generalize P 14 = rk at *
      generalize P 15 = rd at *
      have hro2 : (rk == 4 && rd == d) = ro := hro
      rw [hro] at HV
      obtain ⟨b0, hb0⟩ : ∃ b, bareR P (5 : Nat) = b := ⟨_, rfl⟩
      obtain ⟨b1, hb1⟩ : ∃ b, bareR P (6 : Nat) = b := ⟨_, rfl⟩
      have c0 := bare_reg P X HX.out W2 (5 : Int) b0 hb0
      have c1 := bare_reg P X HX.out W2 (6 : Int) b1 hb1
      rw [hb0, hb1] at HV
      clear hb0 hb1
      cases ro
      · skip
        refine wp_region_quiet_below (by kernel_rfl) (by kernel_rfl) ?_
        repeat (go_big_quiet_step (fail))
        refine wpQuiet_nil ?_
        rintro W9 ⟨pq, rfl⟩
        have HB9 := Lib.hid (HB2.out.trans ((below_regrown W2 pq.d pq.os).mono HB2.out.size))
        generalize grow (redrawn W2 pq.d) pq.os = W9 at *
        go_wp2
        go_ret
        exact ⟨q_b (by rw [HV.out]; simp), HB9.out⟩
      cases b0
      · skip
        refine wp_region_quiet_below (by kernel_rfl) (by kernel_rfl) ?_
        iterate 16 (go_big_quiet_step (fail))
        refine wpQuiet_pos (by rfl) _ (by rfl) w.heap.size P X HX.out (by rfl) HCP.out ?_
        try simp only [aP, sA, sZ, sS]
        iterate 2 (go_big_quiet_step (fail))
        go_big_quiet_step (exact c0 _ _)
        repeat (go_big_quiet_step (fail))
        refine wpQuiet_nil ?_
        rintro W9 ⟨pq, rfl⟩
        have HB9 := Lib.hid (HB2.out.trans ((below_regrown W2 pq.d pq.os).mono HB2.out.size))
        generalize grow (redrawn W2 pq.d) pq.os = W9 at *
        go_wp2
        go_ret
        exact ⟨q_b (by rw [HV.out]; simp), HB9.out⟩
      refine wp_region_quiet_below (by kernel_rfl) (by kernel_rfl) ?_
      iterate 16 (go_big_quiet_step (fail))
      refine wpQuiet_pos (by rfl) _ (by rfl) w.heap.size P X HX.out (by rfl) HCP.out ?_
      try simp only [aP, sA, sZ, sS]
      iterate 2 (go_big_quiet_step (fail))
      go_big_quiet_step (exact c0 _ _)
      iterate 2 (go_big_quiet_step (fail))
      refine wpQuiet_pos (by rfl) _ (by rfl) w.heap.size P X HX.out (by rfl) HCP.out ?_
      try simp only [aP, sA, sZ, sS]
      iterate 2 (go_big_quiet_step (fail))
      go_big_quiet_step (exact c1 _ _)
      repeat (go_big_quiet_step (fail))
      refine wpQuiet_nil ?_
      rintro W9 ⟨pq, rfl⟩
      have HB9 := Lib.hid (HB2.out.trans ((below_regrown W2 pq.d pq.os).mono HB2.out.size))
      generalize grow (redrawn W2 pq.d) pq.os = W9 at *
      go_wp2
      go_ret
      exact ⟨q_b (by rw [HV.out]; simp), HB9.out⟩
    · have hn2 : ((t : Int) == 6) = false := by simp; omega
      have HV := Lib.hid (HFAR.out HNO.out ht2)
      clear HON HFAR
      by_cases ht3 : t = 2
      case neg =>
        have hn3 : ((t : Int) == 2) = false := by simp; omega
        have hn4 : (t + 2 == 4) = false := by simp; omega
        go_upto_region 10 with (fail)
        refine wp_region_quiet_below (by kernel_rfl) (by kernel_rfl) ?_
        repeat (go_big_quiet_step (fail))
        refine wpQuiet_nil ?_
        rintro W9 ⟨pq, rfl⟩
        have HB9 := Lib.hid (HB2.out.trans ((below_regrown W2 pq.d pq.os).mono HB2.out.size))
        generalize grow (redrawn W2 pq.d) pq.os = W9 at *
        go_wp2
        go_ret
        exact ⟨q_b (by rw [HV.out]; rw [hn4]; rfl), HB9.out⟩
      subst ht3
      obtain ⟨q, hq⟩ : ∃ q, c / 2 = q := ⟨_, rfl⟩
      have dq : c.tdiv 2 = q := by rw [Int.tdiv_eq_ediv_of_nonneg hcc]; exact hq
      have wq : wrap64 q = q := by unfold wrap64; omega
      obtain ⟨x, hx⟩ : ∃ x, q % 2 = x := ⟨_, rfl⟩
      have mq : q.tmod 2 = x := by rw [Int.tmod_eq_emod_of_nonneg (by omega)]; exact hx
      have hx01 : x = 0 ∨ x = 1 := by omega
      have HXX := Lib.hid hx
      rw [show c / 2 = q from hq, hx] at HV
      have z9 := cell_regrown (HP2.out.cell 129 (by omega))
      have zr1 := cell_regrown (HP2.out.cell 0 (by omega))
      have zr2 := cell_regrown (HP2.out.cell 1 (by omega))
      obtain ⟨y1, y2, _, _⟩ := row2 HR2.out
      replace y1 := cell_regrown y1
      replace y2 := cell_regrown y2
      have hC9 : P 129 = c := HCC.out
      rw [hC9] at z9
      go_upto_region 10 with (fail)
      clear hx hq 
      rcases hx01 with rfl | rfl
      · skip
        refine wp_region_quiet_below (by kernel_rfl) (by kernel_rfl) ?_
        repeat (go_big_quiet_step (fail))
        refine wpQuiet_nil ?_
        rintro W9 ⟨pq, rfl⟩
        have HB9 := Lib.hid (HB2.out.trans ((below_regrown W2 pq.d pq.os).mono HB2.out.size))
        generalize grow (redrawn W2 pq.d) pq.os = W9 at *
        go_wp2
        go_ret
        exact ⟨q_b (by rw [HV.out]; simp), HB9.out⟩
      obtain ⟨ro, hro⟩ : ∃ r, pe (P 0) (P 1) 4 d = r := ⟨_, rfl⟩
      have HV := Lib.hid (HV.out)
      simp only [Nat.reduceAdd, Nat.reduceMul, Nat.reduceSub] at HV
      generalize P 0 = rk at *
      generalize P 1 = rd at *
      have hro2 : (rk == 4 && rd == d) = ro := hro
      rw [hro] at HV
      obtain ⟨b0, hb0⟩ : ∃ b, bareR P (3 : Nat) = b := ⟨_, rfl⟩
      obtain ⟨b1, hb1⟩ : ∃ b, bareR P (2 : Nat) = b := ⟨_, rfl⟩
      obtain ⟨b2, hb2⟩ : ∃ b, bareR P (1 : Nat) = b := ⟨_, rfl⟩
      have c0 := bare_reg P X HX.out W2 (3 : Int) b0 hb0
      have c1 := bare_reg P X HX.out W2 (2 : Int) b1 hb1
      have c2 := bare_reg P X HX.out W2 (1 : Int) b2 hb2
      rw [hb0, hb1, hb2] at HV
      clear hb0 hb1 hb2
      cases ro
      · skip
        refine wp_region_quiet_below (by kernel_rfl) (by kernel_rfl) ?_
        repeat (go_big_quiet_step (fail))
        refine wpQuiet_nil ?_
        rintro W9 ⟨pq, rfl⟩
        have HB9 := Lib.hid (HB2.out.trans ((below_regrown W2 pq.d pq.os).mono HB2.out.size))
        generalize grow (redrawn W2 pq.d) pq.os = W9 at *
        go_wp2
        go_ret
        exact ⟨q_b (by rw [HV.out]; simp), HB9.out⟩
      cases b0
      · skip
        refine wp_region_quiet_below (by kernel_rfl) (by kernel_rfl) ?_
        iterate 22 (go_big_quiet_step (fail))
        refine wpQuiet_pos (by rfl) _ (by rfl) w.heap.size P X HX.out (by rfl) HCP.out ?_
        try simp only [aP, sA, sZ, sS]
        iterate 2 (go_big_quiet_step (fail))
        go_big_quiet_step (exact c0 _ _)
        repeat (go_big_quiet_step (fail))
        refine wpQuiet_nil ?_
        rintro W9 ⟨pq, rfl⟩
        have HB9 := Lib.hid (HB2.out.trans ((below_regrown W2 pq.d pq.os).mono HB2.out.size))
        generalize grow (redrawn W2 pq.d) pq.os = W9 at *
        go_wp2
        go_ret
        exact ⟨q_b (by rw [HV.out]; simp), HB9.out⟩
      cases b1
      · skip
        refine wp_region_quiet_below (by kernel_rfl) (by kernel_rfl) ?_
        iterate 22 (go_big_quiet_step (fail))
        refine wpQuiet_pos (by rfl) _ (by rfl) w.heap.size P X HX.out (by rfl) HCP.out ?_
        try simp only [aP, sA, sZ, sS]
        iterate 2 (go_big_quiet_step (fail))
        go_big_quiet_step (exact c0 _ _)
        iterate 2 (go_big_quiet_step (fail))
        refine wpQuiet_pos (by rfl) _ (by rfl) w.heap.size P X HX.out (by rfl) HCP.out ?_
        try simp only [aP, sA, sZ, sS]
        iterate 2 (go_big_quiet_step (fail))
        go_big_quiet_step (exact c1 _ _)
        repeat (go_big_quiet_step (fail))
        refine wpQuiet_nil ?_
        rintro W9 ⟨pq, rfl⟩
        have HB9 := Lib.hid (HB2.out.trans ((below_regrown W2 pq.d pq.os).mono HB2.out.size))
        generalize grow (redrawn W2 pq.d) pq.os = W9 at *
        go_wp2
        go_ret
        exact ⟨q_b (by rw [HV.out]; simp), HB9.out⟩
      refine wp_region_quiet_below (by kernel_rfl) (by kernel_rfl) ?_
      iterate 22 (go_big_quiet_step (fail))
      refine wpQuiet_pos (by rfl) _ (by rfl) w.heap.size P X HX.out (by rfl) HCP.out ?_
      try simp only [aP, sA, sZ, sS]
      iterate 2 (go_big_quiet_step (fail))
      go_big_quiet_step (exact c0 _ _)
      iterate 2 (go_big_quiet_step (fail))
      refine wpQuiet_pos (by rfl) _ (by rfl) w.heap.size P X HX.out (by rfl) HCP.out ?_
      try simp only [aP, sA, sZ, sS]
      iterate 2 (go_big_quiet_step (fail))
      go_big_quiet_step (exact c1 _ _)
      iterate 2 (go_big_quiet_step (fail))
      refine wpQuiet_pos (by rfl) _ (by rfl) w.heap.size P X HX.out (by rfl) HCP.out ?_
      try simp only [aP, sA, sZ, sS]
      iterate 2 (go_big_quiet_step (fail))
      go_big_quiet_step (exact c2 _ _)
      repeat (go_big_quiet_step (fail))
      refine wpQuiet_nil ?_
      rintro W9 ⟨pq, rfl⟩
      have HB9 := Lib.hid (HB2.out.trans ((below_regrown W2 pq.d pq.os).mono HB2.out.size))
      generalize grow (redrawn W2 pq.d) pq.os = W9 at *
      go_wp2
      go_ret
      exact ⟨q_b (by rw [HV.out]; simp), HB9.out⟩
end Go.Proofs.YtcdnakbdajbfoaaGreatDoor

namespace Go.Proofs.YtcdnakbdajbfoaaGreatDoor
open Go.RowKit Go.Sort
set_option linter.unusedSimpArgs false
set_option linter.unusedVariables false
set_option maxRecDepth 20000

structure MX (w : World) (pb xb : Nat) (P : Nat → Int) (k d : Int) (W : World) : Prop where
  p : PB W pb P
  x : W.heap[xb]? = some (.cells #[.int .i64 k, .int .i64 d] 26 (0, 0))
  b : Below w.heap.size w W
theorem MX.go {w W W' : World} {pb xb : Nat} {P : Nat → Int} {k d : Int} (h : MX w pb xb P k d W) (g : Below W.heap.size W W') : MX w pb xb P k d W' :=
  ⟨h.p.go g, sl_go h.x g, h.b.trans (g.mono h.b.size)⟩
theorem att_reg (P : Nat → Int) (X : Array Value) (hX : X = (pc P).toArray) (a b : Nat) (ha : a < 64) (hb : b < 64) (v : Bool) (h : attR P a b = v) (W : World) :
    Calls Tryz.prog 126 #[.agg X, .int .i64 (a : Int), .int .i64 (b : Int)] W fun e w' => e = .returned (.bool v) ∧ Below W.heap.size W w' := by
  subst hX; subst h
  exact rAtt_any P a b ha hb W
theorem pawnR_1 (P : Nat → Int) (s t : Nat) (on : Int) (ho : onR P s = on) (h : (t : Int) = s + on) : pawnR P s t = bareR P t := by unfold pawnR; rw [ho, if_pos h]
theorem pawnR_2 (P : Nat → Int) (s t : Nat) (on fi : Int) (ho : onR P s = on) (hf : firstR P s = fi) (h : (t : Int) ≠ s + on) (h2 : (t : Int) = s + 2 * on) (h3 : ((s / 8 : Nat) : Int) = fi) : pawnR P s t = (bareR P (s + on) && bareR P t) := by
  unfold pawnR; rw [ho, hf, if_neg h, if_pos ⟨h2, h3⟩]
theorem pawnR_3 (P : Nat → Int) (s t : Nat) (on fi : Int) (ho : onR P s = on) (hf : firstR P s = fi) (h : (t : Int) ≠ s + on) (h2 : ¬ ((t : Int) = s + 2 * on ∧ ((s / 8 : Nat) : Int) = fi)) : pawnR P s t = (attR P s t && ((!emB P t && (P (2 * t + 1) == oth (P (2 * s + 1)))) || (bareR P t && ((t : Int) == P 130)))) := by
  unfold pawnR; rw [ho, hf, if_neg h, if_neg h2]
set_option maxHeartbeats 8000000 in
set_option maxRecDepth 100000 in
theorem rPawn_any (P : Nat → Int) (s t : Nat) (hs : s < 64) (ht : t < 64) (w : World) :
    Calls Tryz.prog 125 #[.agg (pc P).toArray, .int .i64 (s : Int), .int .i64 (t : Int)] w fun e w' => e = .returned (.bool (pawnR P s t)) ∧ Below w.heap.size w w' := by
  obtain ⟨X, hX⟩ : ∃ X, X = (pc P).toArray := ⟨_, rfl⟩
  have MB := Lib.hid (fun x W => rBare_any P x W)
  rw [← hX] at MB ⊢
  have HP := Lib.hid (show PB (w.alloc (.cells X 30)) w.heap.size P by subst hX; exact PB.new rfl)
  have HB := Lib.hid (below_new (w := w) (.cells X 30))
  have HX := Lib.hid hX
  have s0 : (0 : Int) ≤ s := by omega
  have s1 : (s : Int) < 64 := by omega
  have t0 : (0 : Int) ≤ t := by omega
  have t1 : (t : Int) < 64 := by omega
  have e1 := HP.out.cell (s * 2) (by omega)
  have e2 := HP.out.cell (s * 2 + 1) (by omega)
  obtain ⟨on, hon⟩ : ∃ x, onR P s = x := ⟨_, rfl⟩
  obtain ⟨fi, hfi⟩ : ∃ x, firstR P s = x := ⟨_, rfl⟩
  have H1 := Lib.hid (pawnR_1 P s t on hon)
  have H2 := Lib.hid (pawnR_2 P s t on fi hon hfi)
  have H3 := Lib.hid (pawnR_3 P s t on fi hon hfi)
  have hbt := bareR_sq P t ht
  have hon2 : on = if P (s * 2 + 1) = 1 then -8 else 8 := by rw [← hon]; unfold onR; rw [Nat.mul_comm 2 s]
  have hfi2 : fi = if P (s * 2 + 1) = 1 then 6 else 1 := by rw [← hfi]; unfold firstR; rw [Nat.mul_comm 2 s]
  rw [Nat.mul_comm 2 s, emB_at, Nat.mul_comm 2 t] at H3
  rw [emB_at] at hbt
  obtain ⟨kk, hkk⟩ : ∃ x, P (s * 2) = x := ⟨_, rfl⟩
  obtain ⟨dd, hdd⟩ : ∃ x, P (s * 2 + 1) = x := ⟨_, rfl⟩
  rw [hkk] at e1
  rw [hdd] at e2 H3 hon2 hfi2
  obtain ⟨V, hV⟩ : ∃ V, pawnR P s t = V := ⟨_, rfl⟩
  rw [hV] at H1 H2 H3 ⊢
  have HBT := Lib.hid hbt
  have HT := Lib.hid (And.intro hs ht)
  have HON := Lib.hid hon2
  have HFI := Lib.hid hfi2
  clear hX hV hbt hon hfi hon2 hfi2 hkk hdd hs ht
  go_enter Tryz.func125, Tryz.ntmps125
  go_upto_region 1 with (fail)
  generalize w.alloc (.cells X 30) = W at *
  go_upto_region 2 with (fail)
  have HI := Lib.hid (show MX w w.heap.size W.heap.size P kk dd (W.alloc (.cells #[.int .i64 kk, .int .i64 dd] 26)) from ⟨HP.out.go (below_new _), sl_at rfl, HB.out.trans ((below_new _).mono HB.out.size)⟩)
  generalize W.alloc (.cells #[.int .i64 kk, .int .i64 dd] 26) = W2 at *
  generalize W.heap.size = xb at *
  clear HP HB e1 e2
  obtain ⟨x1, x2, xf, xz⟩ := row2 HI.out.x
  go_upto_if 17 with (fail)
  go_cut [8, 9] from 18 to 18 (fun v8 v9 wx => v8 = .int .i64 on ∧ v9 = .int .i64 fi ∧ MX w w.heap.size xb P kk dd wx)
  case first =>
    by_cases hd : dd = 1
    · have hon2 := HON.out
      have hfi2 := HFI.out
      rw [if_pos hd] at hon2 hfi2
      have hd2 : (dd == 1) = true := by simp [hd]
      have HA := Lib.hid (And.intro hon2 hfi2)
      clear hon2 hfi2 hd
      go_wp2_with fail
      go_meet
      exact ⟨by rw [HA.out.1], by rw [HA.out.2], HI.out⟩
    · have hon2 := HON.out
      have hfi2 := HFI.out
      rw [if_neg hd] at hon2 hfi2
      have hd2 : (dd == 1) = false := by simp [hd]
      have HA := Lib.hid (And.intro hon2 hfi2)
      clear hon2 hfi2 hd
      go_wp2_with fail
      go_meet
      exact ⟨by rw [HA.out.1], by rw [HA.out.2], HI.out⟩
  case rest =>
  obtain ⟨rfl, rfl, h1⟩ := hcut
  replace HI := Lib.hid h1
  clear h1 x1 x2 xf xz
  have hon : on = 8 ∨ on = -8 := by have := HON.out; split at this <;> omega
  have hw1 : IntKind.i64.wrap ((s : Int) + on) = s + on := IntWalk.i64_in _ (by omega)
  have hw2 : IntKind.i64.wrap (2 * on) = 2 * on := IntWalk.i64_in _ (by omega)
  have hw3 : IntKind.i64.wrap ((s : Int) + 2 * on) = s + 2 * on := IntWalk.i64_in _ (by omega)
  clear hon HON HFI
  by_cases h5 : (t : Int) = s + on
  case pos =>
    have h5b : ((t : Int) == s + on) = true := by simpa using h5
    have HV := Lib.hid (H1.out h5)
    clear H1 H2 H3 h5
    go_wp2_with (refine wpList_pos (by rfl) _ (by rfl) w.heap.size P X HX.out (by rfl) HI.out.p ?_)
    refine (MB.out (t : Int) _).mono ?_
    rw [← HV.out]
    rintro e w1 ⟨rfl, hb1⟩
    replace HI := Lib.hid (HI.out.go hb1)
    clear hb1
    go_wp2
    go_ret
    exact ⟨rfl, HI.out.b⟩
  have h5b : ((t : Int) == s + on) = false := by simpa using h5
  obtain ⟨r, hr⟩ : ∃ r : Nat, s / 8 = r := ⟨_, rfl⟩
  rw [hr] at H2 H3
  have td : (s : Int).tdiv 8 = (r : Int) := by rw [Int.tdiv_eq_ediv_of_nonneg (by omega)]; omega
  have td2 : (s : Int) / 8 = (r : Int) := by omega
  have tw : wrap64 (r : Int) = (r : Int) := by unfold wrap64; omega
  obtain ⟨c7, hc7⟩ : ∃ b : Bool, decide ((t : Int) = s + 2 * on ∧ (r : Int) = fi) = b := ⟨_, rfl⟩
  go_upto_region 7 with (fail)
  go_cut [37] from 26 to 37 (fun v wx => v = .bool c7 ∧ MX w w.heap.size xb P kk dd wx)
  case first =>
    by_cases h6 : (t : Int) = s + 2 * on
    · have h6b : ((t : Int) == s + 2 * on) = true := by simpa using h6
      have HC := Lib.hid (show ((r : Int) == fi) = c7 by rw [← hc7, Bool.eq_iff_iff]; simp [h6])
      clear hc7 h6
      go_wp2_with fail
      go_meet
      exact ⟨by rw [HC.out], HI.out⟩
    · have h6b : ((t : Int) == s + 2 * on) = false := by simpa using h6
      have HC := Lib.hid (show c7 = false by rw [← hc7]; simp [h6])
      clear hc7 h6
      go_wp2_with fail
      go_meet
      exact ⟨by rw [HC.out], HI.out⟩
  case rest =>
  obtain ⟨rfl, hh7⟩ := hcut
  replace HI := Lib.hid hh7
  clear hh7
  cases c7
  case true =>
    have h7 : (t : Int) = s + 2 * on ∧ (r : Int) = fi := of_decide_eq_true hc7
    have HV := Lib.hid (H2.out h5 h7.1 h7.2)
    clear H1 H2 H3 h7 hc7 h5 hr
    go_wp2_with (refine wpList_pos (by rfl) _ (by rfl) w.heap.size P X HX.out (by rfl) HI.out.p ?_)
    refine (MB.out ((s : Int) + on) _).mono ?_
    obtain ⟨b1, hb1⟩ : ∃ b, bareR P ((s : Int) + on) = b := ⟨_, rfl⟩
    rw [hb1] at HV ⊢
    rintro e w1 ⟨rfl, hbb⟩
    replace HI := Lib.hid (HI.out.go hbb)
    clear hbb hb1
    cases b1
    · go_wp2
      go_ret
      exact ⟨q_b (by rw [HV.out]; rfl), HI.out.b⟩
    · go_wp2_with (refine wpList_pos (by rfl) _ (by rfl) w.heap.size P X HX.out (by rfl) HI.out.p ?_)
      refine (MB.out (t : Int) _).mono ?_
      rintro e w2 ⟨rfl, hbb⟩
      replace HI := Lib.hid (HI.out.go hbb)
      clear hbb
      go_wp2
      go_ret
      exact ⟨q_b (by rw [HV.out]; simp), HI.out.b⟩
  have h7 : ¬ ((t : Int) = s + 2 * on ∧ (r : Int) = fi) := of_decide_eq_false hc7
  replace H3 := Lib.hid (H3.out h5 h7)
  clear H1 H2 h7 hc7 h5 hr
  obtain ⟨av, hav⟩ : ∃ b, attR P s t = b := ⟨_, rfl⟩
  have MA := Lib.hid (att_reg P X HX.out s t HT.out.1 HT.out.2 av hav)
  rw [hav] at H3
  clear hav
  go_wp2_with (refine wpList_pos (by rfl) _ (by rfl) w.heap.size P X HX.out (by rfl) HI.out.p ?_)
  refine (MA.out _).mono ?_
  rintro e w1 ⟨rfl, hbb⟩
  replace HI := Lib.hid (HI.out.go hbb)
  clear hbb MA
  cases av
  · go_wp2
    go_ret
    exact ⟨q_b (by rw [H3.out]; rfl), HI.out.b⟩
  have e1 := HI.out.p.cell (t * 2) (by have := HT.out; omega)
  have e2 := HI.out.p.cell (t * 2 + 1) (by have := HT.out; omega)
  obtain ⟨tk, htk⟩ : ∃ x, P (t * 2) = x := ⟨_, rfl⟩
  obtain ⟨td', htd⟩ : ∃ x, P (t * 2 + 1) = x := ⟨_, rfl⟩
  rw [htk] at e1 H3
  rw [htd] at e2 H3
  rw [htk, htd] at HBT
  obtain ⟨em, hem⟩ : ∃ b, pe tk td' 0 0 = b := ⟨_, rfl⟩
  rw [hem] at H3
  have HBE := Lib.hid (show bareR P (t : Int) = em by rw [HBT.out]; exact hem)
  rw [HBE.out] at H3
  go_upto_region 12 with (fail)
  have HI2 := Lib.hid (HI.out.go (below_new (w := w1) (.cells #[.int .i64 tk, .int .i64 td'] 26)))
  have HY := Lib.hid (show (w1.alloc (.cells #[.int .i64 tk, .int .i64 td'] 26)).heap[w1.heap.size]? = some (.cells #[.int .i64 tk, .int .i64 td'] 26 (0, 0)) from sl_at rfl)
  generalize w1.alloc (.cells #[.int .i64 tk, .int .i64 td'] 26) = W3 at *
  generalize w1.heap.size = yb at *
  clear e1 e2 HI HBT
  obtain ⟨y1, y2, _, _⟩ := row2 HY.out
  obtain ⟨x1, x2, _, _⟩ := row2 HI2.out.x
  replace x2 := cell_regrown x2
  replace y1 := cell_regrown y1
  replace y2 := cell_regrown y2
  have z9 := cell_regrown (HI2.out.p.cell 130 (by omega))
  have c1 := regrown_same (w := W3) (fun W => rOther_any dd W)
  have c2 := bare_reg P X HX.out W3 (t : Int) em HBE.out
  have HCP := Lib.hid HI2.out.p.regrown
  obtain ⟨ov, hov⟩ : ∃ x, P 130 = x := ⟨_, rfl⟩
  rw [hov] at z9 H3
  clear x1 htk htd HBE hov
  obtain ⟨od, hod⟩ : ∃ x, oth dd = x := ⟨_, rfl⟩
  rw [hod] at c1 H3
  clear hod
  cases em
  · by_cases hq : td' = od
    · have hq2 : (td' == od) = true := by simp [hq]
      rw [hq2] at H3
      clear hq
      refine wp_region_quiet_below (by kernel_rfl) (by kernel_rfl) ?_
      iterate 8 (go_big_quiet_step (fail))
      go_big_quiet_step (exact c1 _ _)
      repeat (go_big_quiet_step (fail))
      refine wpQuiet_nil ?_
      rintro W9 ⟨pq, rfl⟩
      have HB9 := Lib.hid (HI2.out.b.trans ((below_regrown W3 pq.d pq.os).mono HI2.out.b.size))
      generalize grow (redrawn W3 pq.d) pq.os = W9 at *
      go_wp2
      go_ret
      exact ⟨q_b (by rw [H3.out]; simp), HB9.out⟩
    · have hq2 : (td' == od) = false := by simp [hq]
      rw [hq2] at H3
      clear hq
      refine wp_region_quiet_below (by kernel_rfl) (by kernel_rfl) ?_
      iterate 8 (go_big_quiet_step (fail))
      go_big_quiet_step (exact c1 _ _)
      iterate 3 (go_big_quiet_step (fail))
      refine wpQuiet_pos (by rfl) _ (by rfl) w.heap.size P X HX.out (by rfl) HCP.out ?_
      try simp only [aP, sA, sZ, sS]
      iterate 1 (go_big_quiet_step (fail))
      go_big_quiet_step (exact c2 _ _)
      repeat (go_big_quiet_step (fail))
      refine wpQuiet_nil ?_
      rintro W9 ⟨pq, rfl⟩
      have HB9 := Lib.hid (HI2.out.b.trans ((below_regrown W3 pq.d pq.os).mono HI2.out.b.size))
      generalize grow (redrawn W3 pq.d) pq.os = W9 at *
      go_wp2
      go_ret
      exact ⟨q_b (by rw [H3.out]; simp), HB9.out⟩
  · refine wp_region_quiet_below (by kernel_rfl) (by kernel_rfl) ?_
    iterate 12 (go_big_quiet_step (fail))
    refine wpQuiet_pos (by rfl) _ (by rfl) w.heap.size P X HX.out (by rfl) HCP.out ?_
    try simp only [aP, sA, sZ, sS]
    iterate 1 (go_big_quiet_step (fail))
    go_big_quiet_step (exact c2 _ _)
    repeat (go_big_quiet_step (fail))
    refine wpQuiet_nil ?_
    rintro W9 ⟨pq, rfl⟩
    have HB9 := Lib.hid (HI2.out.b.trans ((below_regrown W3 pq.d pq.os).mono HI2.out.b.size))
    generalize grow (redrawn W3 pq.d) pq.os = W9 at *
    go_wp2
    go_ret
    exact ⟨q_b (by rw [H3.out]; simp), HB9.out⟩
end Go.Proofs.YtcdnakbdajbfoaaGreatDoor

namespace Go.Proofs.YtcdnakbdajbfoaaGreatDoor
open Go.RowKit Go.Sort
set_option linter.unusedSimpArgs false
set_option linter.unusedVariables false
set_option maxRecDepth 20000

theorem goesR_1 (P : Nat → Int) (s t : Nat) (h : mayB (P (2 * s)) (P (2 * s + 1)) = false) : goesR P s t = false := by unfold goesR; rw [h]; simp
theorem goesR_2 (P : Nat → Int) (s t : Nat) (h : P (2 * s + 1) ≠ P 128) : goesR P s t = false := by unfold goesR; rw [show (P (2 * s + 1) == P 128) = false by simpa using h]; simp
theorem goesR_3 (P : Nat → Int) (s t : Nat) (h : s = t) : goesR P s t = false := by unfold goesR; rw [show (s == t) = true by simpa using h]; simp
theorem goesR_4 (P : Nat → Int) (s t : Nat) (h1 : mayB (P (2 * s)) (P (2 * s + 1)) = true) (h2 : P (2 * s + 1) = P 128) (h3 : s ≠ t) (h4 : P (2 * s) = 1) : goesR P s t = pawnR P s t := by
  unfold goesR; rw [h1, show (P (2 * s + 1) == P 128) = true by simpa using h2, show (s == t) = false by simpa using h3, if_pos (show (true && true && !false) = true from rfl), if_pos h4]
theorem goesR_5 (P : Nat → Int) (s t : Nat) (h1 : mayB (P (2 * s)) (P (2 * s + 1)) = true) (h2 : P (2 * s + 1) = P 128) (h3 : s ≠ t) (h4 : P (2 * s) ≠ 1) : goesR P s t = ((attR P s t && (emB P t || !(P (2 * t + 1) == P (2 * s + 1)))) || ((P (2 * s) == 6) && castleR P s t)) := by
  unfold goesR; rw [h1, show (P (2 * s + 1) == P 128) = true by simpa using h2, show (s == t) = false by simpa using h3, if_pos (show (true && true && !false) = true from rfl), if_neg h4]
set_option maxHeartbeats 8000000 in
set_option maxRecDepth 100000 in
theorem rGoes_any (P : Nat → Int) (s t : Nat) (hs : s < 64) (ht : t < 64) (w : World) :
    Calls Tryz.prog 102 #[.agg (pc P).toArray, .int .i64 (s : Int), .int .i64 (t : Int)] w fun e w' => e = .returned (.bool (goesR P s t)) ∧ Below w.heap.size w w' := by
  obtain ⟨X, hX⟩ : ∃ X, X = (pc P).toArray := ⟨_, rfl⟩
  have MP := Lib.hid (fun W => rPawn_any P s t hs ht W)
  have MC' := Lib.hid (fun W => rCastle_any P s t hs ht W)
  rw [← hX] at MP MC' ⊢
  have HP := Lib.hid (show PB (w.alloc (.cells X 30)) w.heap.size P by subst hX; exact PB.new rfl)
  have HB := Lib.hid (below_new (w := w) (.cells X 30))
  have HX := Lib.hid hX
  have s0 : (0 : Int) ≤ s := by omega
  have s1 : (s : Int) < 64 := by omega
  have t0 : (0 : Int) ≤ t := by omega
  have t1 : (t : Int) < 64 := by omega
  have e1 := HP.out.cell (s * 2) (by omega)
  have e2 := HP.out.cell (s * 2 + 1) (by omega)
  have H1 := Lib.hid (goesR_1 P s t)
  have H2 := Lib.hid (goesR_2 P s t)
  have H3 := Lib.hid (goesR_3 P s t)
  have H4 := Lib.hid (goesR_4 P s t)
  have h5' := goesR_5 P s t
  rw [Nat.mul_comm 2 s] at H1 H2 H4 h5'
  rw [emB_at, Nat.mul_comm 2 t] at h5'
  have H5 := Lib.hid h5'
  obtain ⟨av, hav⟩ : ∃ b, attR P s t = b := ⟨_, rfl⟩
  have MA := Lib.hid (att_reg P X HX.out s t hs ht av hav)
  obtain ⟨cv, hcv⟩ : ∃ b, castleR P s t = b := ⟨_, rfl⟩
  obtain ⟨kk, hkk⟩ : ∃ x, P (s * 2) = x := ⟨_, rfl⟩
  obtain ⟨dd, hdd⟩ : ∃ x, P (s * 2 + 1) = x := ⟨_, rfl⟩
  obtain ⟨sd, hsd⟩ : ∃ x, P 128 = x := ⟨_, rfl⟩
  rw [hkk] at e1 H1 H4
  rw [hdd] at e2 H1 H2 H4
  rw [hsd] at H2 H4
  replace H5 := Lib.hid H5.out
  rw [hkk, hdd, hsd, hav, hcv] at H5
  rw [hcv] at MC'
  obtain ⟨V, hV⟩ : ∃ V, goesR P s t = V := ⟨_, rfl⟩
  rw [hV] at H1 H2 H3 H4 H5 ⊢
  have HT := Lib.hid (And.intro hs ht)
  have HSD := Lib.hid hsd
  clear hX hV hav hcv hkk hdd hsd h5' hs ht
  go_enter Tryz.func102, Tryz.ntmps102
  go_upto_region 1 with (fail)
  generalize w.alloc (.cells X 30) = W at *
  go_upto_region 2 with (fail)
  have HI := Lib.hid (show MX w w.heap.size W.heap.size P kk dd (W.alloc (.cells #[.int .i64 kk, .int .i64 dd] 26)) from ⟨HP.out.go (below_new _), sl_at rfl, HB.out.trans ((below_new _).mono HB.out.size)⟩)
  generalize W.alloc (.cells #[.int .i64 kk, .int .i64 dd] 26) = W2 at *
  generalize W.heap.size = xb at *
  clear HP HB e1 e2
  obtain ⟨x1, x2, xf, xz⟩ := row2 HI.out.x
  obtain ⟨mb, hmb⟩ : ∃ m, mayB kk dd = m := ⟨_, rfl⟩
  have MM := Lib.hid (fun W => rMay_any kk dd W)
  rw [hmb] at H1 H4 H5 MM
  clear hmb
  go_wp2_with fail
  refine (MM.out _).mono ?_
  rintro e w1 ⟨rfl, hb1⟩
  replace HI := Lib.hid (HI.out.go hb1)
  clear x1 x2 xf xz hb1 MM
  obtain ⟨x1, x2, xf, xz⟩ := row2 HI.out.x
  have e8 := HI.out.p.cell 128 (by omega)
  rw [HSD.out] at e8
  cases mb
  case false =>
    have HV := Lib.hid (H1.out rfl)
    clear H1 H2 H3 H4 H5
    go_wp2
    go_ret
    exact ⟨q_b HV.out.symm, HI.out.b⟩
  by_cases hd : dd = sd
  case neg =>
    have hd2 : (dd == sd) = false := by simp [hd]
    have hd3 : (dd != sd) = true := by simp [hd]
    have HV := Lib.hid (H2.out hd)
    go_wp2
    go_ret
    exact ⟨q_b HV.out.symm, HI.out.b⟩
  subst hd
  by_cases hst : s = t
  case pos =>
    have hst2 : ((s : Int) == (t : Int)) = true := by simp [hst]
    have HV := Lib.hid (H3.out hst)
    clear H1 H2 H3 H4 H5 hst
    go_wp2
    go_ret
    exact ⟨q_b HV.out.symm, HI.out.b⟩
  have hst2 : ((s : Int) == (t : Int)) = false := by simp; omega
  replace H4 := Lib.hid (H4.out rfl rfl hst)
  replace H5 := Lib.hid (H5.out rfl rfl hst)
  clear H1 H2 H3 hst
  by_cases hk : kk = 1
  case pos =>
    have HV := Lib.hid (H4.out hk)
    subst hk
    clear H4 H5
    go_wp2_with (refine wpList_pos (by rfl) _ (by rfl) w.heap.size P X HX.out (by rfl) HI.out.p ?_)
    refine (MP.out _).mono ?_
    rw [← HV.out]
    rintro e w2 ⟨rfl, hbb⟩
    replace HI := Lib.hid (HI.out.go hbb)
    clear hbb
    go_wp2
    go_ret
    exact ⟨rfl, HI.out.b⟩
  have hk2 : (kk == 1) = false := by simp [hk]
  replace H5 := Lib.hid (H5.out hk)
  clear H4 hk
  have e1 := HI.out.p.cell (t * 2) (by have := HT.out; omega)
  have e2 := HI.out.p.cell (t * 2 + 1) (by have := HT.out; omega)
  obtain ⟨tk, htk⟩ : ∃ x, P (t * 2) = x := ⟨_, rfl⟩
  obtain ⟨td', htd⟩ : ∃ x, P (t * 2 + 1) = x := ⟨_, rfl⟩
  rw [htk] at e1 H5
  rw [htd] at e2 H5
  obtain ⟨em, hem⟩ : ∃ b, pe tk td' 0 0 = b := ⟨_, rfl⟩
  rw [hem] at H5
  go_upto_region 7 with (fail)
  have HI2 := Lib.hid (HI.out.go (below_new (w := w1) (.cells #[.int .i64 tk, .int .i64 td'] 26)))
  have HY := Lib.hid (show (w1.alloc (.cells #[.int .i64 tk, .int .i64 td'] 26)).heap[w1.heap.size]? = some (.cells #[.int .i64 tk, .int .i64 td'] 26 (0, 0)) from sl_at rfl)
  generalize w1.alloc (.cells #[.int .i64 tk, .int .i64 td'] 26) = W3 at *
  generalize w1.heap.size = yb at *
  clear e1 e2 HI e8 htk htd x1 x2 xf xz
  obtain ⟨c7, hc7⟩ : ∃ b : Bool, (av && (em || !(td' == dd))) = b := ⟨_, rfl⟩
  rw [hc7] at H5
  go_cut [54] from 39 to 54 (fun v wx => v = .bool c7 ∧ MX w w.heap.size xb P kk dd wx)
  case first =>
    go_wp2_with (refine wpList_pos (by rfl) _ (by rfl) w.heap.size P X HX.out (by rfl) HI2.out.p ?_)
    refine (MA.out _).mono ?_
    rintro e w2 ⟨rfl, hbb⟩
    replace HI2 := Lib.hid (HI2.out.go hbb)
    replace HY := Lib.hid (sl_go HY.out hbb)
    clear hbb MA
    obtain ⟨y1, y2, _, _⟩ := row2 HY.out
    obtain ⟨x1, x2, _, _⟩ := row2 HI2.out.x
    have HC := Lib.hid hc7
    clear hc7
    cases av
    · go_wp2_with fail
      go_meet
      exact ⟨by rw [← HC.out]; rfl, HI2.out⟩
    cases em
    · have hne : (td' != dd) = !(td' == dd) := rfl
      go_wp2_with fail
      go_meet
      exact ⟨by rw [← HC.out]; rfl, HI2.out⟩
    · go_wp2_with fail
      go_meet
      exact ⟨by rw [← HC.out]; rfl, HI2.out⟩
  case rest =>
  obtain ⟨rfl, h1⟩ := hcut
  have HI := Lib.hid h1
  clear h1 HI2 HY hc7 hem
  obtain ⟨x1, x2, _, _⟩ := row2 HI.out.x
  cases c7
  case true =>
    go_wp2
    go_ret
    exact ⟨q_b (by rw [H5.out]; rfl), HI.out.b⟩
  by_cases h6 : kk = 6
  · subst h6
    go_wp2_with (refine wpList_pos (by rfl) _ (by rfl) w.heap.size P X HX.out (by rfl) HI.out.p ?_)
    refine (MC'.out _).mono ?_
    rintro e w2 ⟨rfl, hbb⟩
    replace HI := Lib.hid (HI.out.go hbb)
    clear hbb
    go_wp2
    go_ret
    exact ⟨q_b (by rw [H5.out]; simp), HI.out.b⟩
  · have h62 : (kk == 6) = false := by simp [h6]
    go_wp2
    go_ret
    exact ⟨q_b (by rw [H5.out, h62]; simp), HI.out.b⟩
end Go.Proofs.YtcdnakbdajbfoaaGreatDoor
