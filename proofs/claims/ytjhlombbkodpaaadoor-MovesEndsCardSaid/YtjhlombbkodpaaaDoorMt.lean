/-
  Contracts: the document's answer, where pieces go: bare squares, castlings.
-/
import Derived.Test.YtjhlombbkodpaaaDoorMr
import Derived.Test.YtjhlombbkodpaaaDoorG21
import Derived.Test.YtjhlombbkodpaaaDoorG10
import Derived.Deep.CutRange
namespace Go.Proofs.YtjhlombbkodpaaaDoor
open Go.RowKit Go.Sort
set_option linter.unusedSimpArgs false
set_option linter.unusedVariables false
set_option maxRecDepth 20000

set_option maxHeartbeats 1000000 in
theorem rBare_any (P : Nat → Int) (s : Int) (w : World) :
    Calls Tryd.prog 80 #[.agg (pc P).toArray, .int .i64 s] w fun e w' => e = .returned (.bool (bareR P s)) ∧ Below w.heap.size w w' := by
  obtain ⟨X, hX⟩ : ∃ X, X = (pc P).toArray := ⟨_, rfl⟩
  rw [← hX]
  have HP := Lib.hid (show PB (w.alloc (.cells X 29)) w.heap.size P by subst hX; exact PB.new rfl)
  have HB := Lib.hid (below_new (w := w) (.cells X 29))
  clear hX
  go_enter Tryd.func80, Tryd.ntmps80
  go_upto_region 1 with (fail)
  generalize w.alloc (.cells X 29) = W at *
  rcases sq_cases s with ⟨h1, hs⟩ | ⟨h1, hs⟩ | ⟨s0, s1, hs⟩
  · have HV := Lib.hid (show bareR P s = false by unfold bareR; rw [hs]; rfl)
    clear hs
    go_wp2
    go_ret
    exact ⟨q_b HV.out.symm, HB.out⟩
  · have HV := Lib.hid (show bareR P s = false by unfold bareR; rw [hs]; rfl)
    have s0 : 0 ≤ s := by omega
    clear hs
    go_wp2
    go_ret
    exact ⟨q_b HV.out.symm, HB.out⟩
  · obtain ⟨n, rfl⟩ := Int.eq_ofNat_of_zero_le s0
    have HV := Lib.hid (show bareR P (n : Int) = pe (P (n * 2)) (P (n * 2 + 1)) 0 0 by rw [bareR_sq P n (by omega), emB_at])
    have e1 := HP.out.cell (n * 2) (by omega)
    have e2 := HP.out.cell (n * 2 + 1) (by omega)
    clear hs HP
    go_wp2
    go_ret
    exact ⟨q_b HV.out.symm, HB.out⟩
theorem bare_reg (P : Nat → Int) (X : Array Value) (hX : X = (pc P).toArray) (W : World) (s : Int) (b : Bool) (h : bareR P s = b) : ∀ d os, Calls Tryd.prog 80 #[.agg X, .int .i64 s] (grow (redrawn W d) os) fun e w' => e = .returned (.bool b) ∧ ∃ p : Regrown, w' = grow (redrawn W p.d) p.os := by
  subst h; subst hX
  exact regrown_call (w := W) (fun W => rBare_any P s W)
theorem castleR_off (P : Nat → Int) (s t : Nat) (h : s ≠ homeR (P (2 * s + 1)) ∨ P 129 < 0 ∨ 15 < P 129) : castleR P s t = false := by unfold castleR; rw [if_pos h]
theorem castleR_on (P : Nat → Int) (s t : Nat) (h : ¬ (s ≠ homeR (P (2 * s + 1)) ∨ P 129 < 0 ∨ 15 < P 129)) (ht : t = s + 2) : castleR P s t = ((P 129 / shortR (P (2 * s + 1)) % 2 == 1) && pe (P (2 * (s + 3))) (P (2 * (s + 3) + 1)) 4 (P (2 * s + 1)) && bareR P (s + 1 : Nat) && bareR P (s + 2 : Nat)) := by unfold castleR; rw [if_neg h, if_pos ht]
theorem castleR_far (P : Nat → Int) (s t : Nat) (h : ¬ (s ≠ homeR (P (2 * s + 1)) ∨ P 129 < 0 ∨ 15 < P 129)) (ht : t ≠ s + 2) : castleR P s t = ((t + 2 == s) && (P 129 / farR (P (2 * s + 1)) % 2 == 1) && pe (P (2 * (s - 4))) (P (2 * (s - 4) + 1)) 4 (P (2 * s + 1)) && bareR P (s - 1 : Nat) && bareR P (s - 2 : Nat) && bareR P (s - 3 : Nat)) := by unfold castleR; rw [if_neg h, if_neg ht]

set_option maxHeartbeats 8000000 in
set_option maxRecDepth 100000 in
theorem rCastle_any (P : Nat → Int) (s t : Nat) (hs : s < 64) (ht : t < 64) (w : World) :
    Calls Tryd.prog 45 #[.agg (pc P).toArray, .int .i64 (s : Int), .int .i64 (t : Int)] w fun e w' => e = .returned (.bool (castleR P s t)) ∧ Below w.heap.size w w' := by
  obtain ⟨X, hX⟩ : ∃ X, X = (pc P).toArray := ⟨_, rfl⟩
  rw [← hX]
  have HP := Lib.hid (show PB (w.alloc (.cells X 29)) w.heap.size P by subst hX; exact PB.new rfl)
  have HB := Lib.hid (below_new (w := w) (.cells X 29))
  have HX := Lib.hid hX
  have s0 : (0 : Int) ≤ s := by omega
  have s1 : (s : Int) < 64 := by omega
  have e1 := HP.out.cell (s * 2 + 1) (by omega)
  have e9 := HP.out.cell 129 (by omega)
  have HOFF := Lib.hid (castleR_off P s t)
  have HON := Lib.hid (castleR_on P s t)
  have HFAR := Lib.hid (castleR_far P s t)
  rw [Nat.mul_comm 2 s] at HOFF HON HFAR
  obtain ⟨d, hd⟩ : ∃ d, P (s * 2 + 1) = d := ⟨_, rfl⟩
  obtain ⟨c, hc⟩ : ∃ c, P 129 = c := ⟨_, rfl⟩
  have HCC := Lib.hid hc
  rw [hd] at e1 HOFF HON HFAR
  rw [hc] at e9 HOFF HON HFAR
  have HT := Lib.hid (show t < 64 from ht)
  obtain ⟨V, hV⟩ : ∃ V, castleR P s t = V := ⟨_, rfl⟩
  rw [hV] at HOFF HON HFAR ⊢
  clear hX hd hc hV
  go_enter Tryd.func45, Tryd.ntmps45
  go_upto_region 1 with (fail)
  generalize w.alloc (.cells X 29) = W at *
  have HWZ := Lib.hid (HP.out.lt)
  by_cases hd : d = 1
  · subst hd
    rw [show homeR 1 = 60 by decide] at HOFF HON HFAR
    rw [show shortR 1 = 4 by decide] at HON
    rw [show farR 1 = 8 by decide] at HFAR
    by_cases hh : s = 60
    case neg =>
      have h2 : ((s : Int) != 60) = true := by simp; omega
      have h3 : ((s : Int) == 60) = false := by simp; omega
      have HV := Lib.hid (HOFF.out (.inl hh))
      clear HOFF HON HFAR
      go_wp2
      go_ret
      exact ⟨q_b HV.out.symm, HB.out⟩
    subst hh
    clear s0 s1
    by_cases hc0 : c < 0
    case pos =>
      have HV := Lib.hid (HOFF.out (.inr (.inl hc0)))
      clear HOFF HON HFAR
      go_wp2
      go_ret
      exact ⟨q_b HV.out.symm, HB.out⟩
    by_cases hc15 : 15 < c
    case pos =>
      have HV := Lib.hid (HOFF.out (.inr (.inr hc15)))
      clear HOFF HON HFAR
      go_wp2
      go_ret
      exact ⟨q_b HV.out.symm, HB.out⟩
    have hcc : 0 ≤ c := by omega
    have HNO := Lib.hid (show ¬ (60 ≠ 60 ∨ c < 0 ∨ 15 < c) by omega)
    clear HOFF
    go_upto_region 8 with (fail)
    have HB2 := Lib.hid (HB.out.trans ((below_new (w := W) (.cells #[.int .i64 4, .int .i64 1] 25)).mono HB.out.size))
    have HP2 := Lib.hid (HP.out.go (below_new (w := W) (.cells #[.int .i64 4, .int .i64 1] 25)))
    have HR2 := Lib.hid (show (W.alloc (.cells #[.int .i64 4, .int .i64 1] 25)).heap[W.heap.size]? = some (.cells #[.int .i64 4, .int .i64 1] 25 (0, 0)) from sl_at rfl)
    generalize W.alloc (.cells #[.int .i64 4, .int .i64 1] 25) = W2 at *
    generalize W.heap.size = rb at *
    clear HP e1 e9 HB
    have HCP := Lib.hid HP2.out.regrown
    by_cases ht2 : t = 62
    · subst ht2
      have HV := Lib.hid (HON.out HNO.out rfl)
      clear HON HFAR
      obtain ⟨q, hq⟩ : ∃ q, c / 4 = q := ⟨_, rfl⟩
      have dq : c.tdiv 4 = q := by rw [Int.tdiv_eq_ediv_of_nonneg hcc]; exact hq
      have wq : wrap64 q = q := by unfold wrap64; omega
      obtain ⟨x, hx⟩ : ∃ x, q % 2 = x := ⟨_, rfl⟩
      have mq : q.tmod 2 = x := by rw [Int.tmod_eq_emod_of_nonneg (by omega)]; exact hx
      have hx01 : x = 0 ∨ x = 1 := by omega
      have HXX := Lib.hid hx
      rw [show c / 4 = q from hq, hx] at HV
      have z9 := cell_regrown (HP2.out.cell 129 (by omega))
      have zr1 := cell_regrown (HP2.out.cell 126 (by omega))
      have zr2 := cell_regrown (HP2.out.cell 127 (by omega))
      obtain ⟨y1, y2, _, _⟩ := row2 HR2.out
      replace y1 := cell_regrown y1
      replace y2 := cell_regrown y2
      have hC9 : P 129 = c := HCC.out
      rw [hC9] at z9
      go_upto_region 9 with (fail)
      clear hx hq 
      rcases hx01 with rfl | rfl
      · skip
        refine wp_region_quiet_below (by kernel_rfl) (by kernel_rfl) ?_
        repeat (go_big_quiet_step (fail))
        refine wpQuiet_nil ?_
        rintro W9 ⟨pq, rfl⟩
        have HB9 := Lib.hid (HB2.out.trans ((below_regrown W2 pq.d pq.os).mono HB2.out.size))
        generalize grow (redrawn W2 pq.d) pq.os = W9 at *
        go_wp2
        go_ret
        exact ⟨q_b (by rw [HV.out]; simp), HB9.out⟩
      obtain ⟨ro, hro⟩ : ∃ r, pe (P 126) (P 127) 4 1 = r := ⟨_, rfl⟩
      have HV := Lib.hid (HV.out)
      simp only [Nat.reduceAdd, Nat.reduceMul, Nat.reduceSub] at HV
      generalize P 126 = rk at *
      generalize P 127 = rd at *
      have hro2 : (rk == 4 && rd == 1) = ro := hro
      rw [hro] at HV
      obtain ⟨b0, hb0⟩ : ∃ b, bareR P (61 : Nat) = b := ⟨_, rfl⟩
      obtain ⟨b1, hb1⟩ : ∃ b, bareR P (62 : Nat) = b := ⟨_, rfl⟩
      have c0 := bare_reg P X HX.out W2 (61 : Int) b0 hb0
      have c1 := bare_reg P X HX.out W2 (62 : Int) b1 hb1
      rw [hb0, hb1] at HV
      clear hb0 hb1
      cases ro
      · skip
        refine wp_region_quiet_below (by kernel_rfl) (by kernel_rfl) ?_
        repeat (go_big_quiet_step (fail))
        refine wpQuiet_nil ?_
        rintro W9 ⟨pq, rfl⟩
        have HB9 := Lib.hid (HB2.out.trans ((below_regrown W2 pq.d pq.os).mono HB2.out.size))
        generalize grow (redrawn W2 pq.d) pq.os = W9 at *
        go_wp2
        go_ret
        exact ⟨q_b (by rw [HV.out]; simp), HB9.out⟩
      cases b0
      · skip
        refine wp_region_quiet_below (by kernel_rfl) (by kernel_rfl) ?_
        iterate 16 (go_big_quiet_step (fail))
        refine wpQuiet_pos (by rfl) _ (by rfl) w.heap.size P X HX.out (by rfl) HCP.out ?_
        try simp only [Act.put, List.setIfInBounds_toArray, List.set_cons_zero, List.set_cons_succ]
        iterate 2 (go_big_quiet_step (fail))
        go_big_quiet_step (exact c0 _ _)
        repeat (go_big_quiet_step (fail))
        refine wpQuiet_nil ?_
        rintro W9 ⟨pq, rfl⟩
        have HB9 := Lib.hid (HB2.out.trans ((below_regrown W2 pq.d pq.os).mono HB2.out.size))
        generalize grow (redrawn W2 pq.d) pq.os = W9 at *
        go_wp2
        go_ret
        exact ⟨q_b (by rw [HV.out]; simp), HB9.out⟩
      refine wp_region_quiet_below (by kernel_rfl) (by kernel_rfl) ?_
      iterate 16 (go_big_quiet_step (fail))
      refine wpQuiet_pos (by rfl) _ (by rfl) w.heap.size P X HX.out (by rfl) HCP.out ?_
      try simp only [Act.put, List.setIfInBounds_toArray, List.set_cons_zero, List.set_cons_succ]
      iterate 2 (go_big_quiet_step (fail))
      go_big_quiet_step (exact c0 _ _)
      iterate 2 (go_big_quiet_step (fail))
      refine wpQuiet_pos (by rfl) _ (by rfl) w.heap.size P X HX.out (by rfl) HCP.out ?_
      try simp only [Act.put, List.setIfInBounds_toArray, List.set_cons_zero, List.set_cons_succ]
      iterate 2 (go_big_quiet_step (fail))
      go_big_quiet_step (exact c1 _ _)
      repeat (go_big_quiet_step (fail))
      refine wpQuiet_nil ?_
      rintro W9 ⟨pq, rfl⟩
      have HB9 := Lib.hid (HB2.out.trans ((below_regrown W2 pq.d pq.os).mono HB2.out.size))
      generalize grow (redrawn W2 pq.d) pq.os = W9 at *
      go_wp2
      go_ret
      exact ⟨q_b (by rw [HV.out]; simp), HB9.out⟩
    · have hn2 : ((t : Int) == 62) = false := by simp; omega
      have HV := Lib.hid (HFAR.out HNO.out ht2)
      clear HON HFAR
      by_cases ht3 : t = 58
      case neg =>
        have hn3 : ((t : Int) == 58) = false := by simp; omega
        have hn4 : (t + 2 == 60) = false := by simp; omega
        go_upto_region 10 with (fail)
        refine wp_region_quiet_below (by kernel_rfl) (by kernel_rfl) ?_
        repeat (go_big_quiet_step (fail))
        refine wpQuiet_nil ?_
        rintro W9 ⟨pq, rfl⟩
        have HB9 := Lib.hid (HB2.out.trans ((below_regrown W2 pq.d pq.os).mono HB2.out.size))
        generalize grow (redrawn W2 pq.d) pq.os = W9 at *
        go_wp2
        go_ret
        exact ⟨q_b (by rw [HV.out]; rw [hn4]; rfl), HB9.out⟩
      subst ht3
      obtain ⟨q, hq⟩ : ∃ q, c / 8 = q := ⟨_, rfl⟩
      have dq : c.tdiv 8 = q := by rw [Int.tdiv_eq_ediv_of_nonneg hcc]; exact hq
      have wq : wrap64 q = q := by unfold wrap64; omega
      obtain ⟨x, hx⟩ : ∃ x, q % 2 = x := ⟨_, rfl⟩
      have mq : q.tmod 2 = x := by rw [Int.tmod_eq_emod_of_nonneg (by omega)]; exact hx
      have hx01 : x = 0 ∨ x = 1 := by omega
      have HXX := Lib.hid hx
      rw [show c / 8 = q from hq, hx] at HV
      have z9 := cell_regrown (HP2.out.cell 129 (by omega))
      have zr1 := cell_regrown (HP2.out.cell 112 (by omega))
      have zr2 := cell_regrown (HP2.out.cell 113 (by omega))
      obtain ⟨y1, y2, _, _⟩ := row2 HR2.out
      replace y1 := cell_regrown y1
      replace y2 := cell_regrown y2
      have hC9 : P 129 = c := HCC.out
      rw [hC9] at z9
      go_upto_region 10 with (fail)
      clear hx hq 
      rcases hx01 with rfl | rfl
      · skip
        refine wp_region_quiet_below (by kernel_rfl) (by kernel_rfl) ?_
        repeat (go_big_quiet_step (fail))
        refine wpQuiet_nil ?_
        rintro W9 ⟨pq, rfl⟩
        have HB9 := Lib.hid (HB2.out.trans ((below_regrown W2 pq.d pq.os).mono HB2.out.size))
        generalize grow (redrawn W2 pq.d) pq.os = W9 at *
        go_wp2
        go_ret
        exact ⟨q_b (by rw [HV.out]; simp), HB9.out⟩
      obtain ⟨ro, hro⟩ : ∃ r, pe (P 112) (P 113) 4 1 = r := ⟨_, rfl⟩
      have HV := Lib.hid (HV.out)
      simp only [Nat.reduceAdd, Nat.reduceMul, Nat.reduceSub] at HV
      generalize P 112 = rk at *
      generalize P 113 = rd at *
      have hro2 : (rk == 4 && rd == 1) = ro := hro
      rw [hro] at HV
      obtain ⟨b0, hb0⟩ : ∃ b, bareR P (59 : Nat) = b := ⟨_, rfl⟩
      obtain ⟨b1, hb1⟩ : ∃ b, bareR P (58 : Nat) = b := ⟨_, rfl⟩
      obtain ⟨b2, hb2⟩ : ∃ b, bareR P (57 : Nat) = b := ⟨_, rfl⟩
      have c0 := bare_reg P X HX.out W2 (59 : Int) b0 hb0
      have c1 := bare_reg P X HX.out W2 (58 : Int) b1 hb1
      have c2 := bare_reg P X HX.out W2 (57 : Int) b2 hb2
      rw [hb0, hb1, hb2] at HV
      clear hb0 hb1 hb2
      cases ro
      · skip
        refine wp_region_quiet_below (by kernel_rfl) (by kernel_rfl) ?_
        repeat (go_big_quiet_step (fail))
        refine wpQuiet_nil ?_
        rintro W9 ⟨pq, rfl⟩
        have HB9 := Lib.hid (HB2.out.trans ((below_regrown W2 pq.d pq.os).mono HB2.out.size))
        generalize grow (redrawn W2 pq.d) pq.os = W9 at *
        go_wp2
        go_ret
        exact ⟨q_b (by rw [HV.out]; simp), HB9.out⟩
      cases b0
      · skip
        refine wp_region_quiet_below (by kernel_rfl) (by kernel_rfl) ?_
        iterate 22 (go_big_quiet_step (fail))
        refine wpQuiet_pos (by rfl) _ (by rfl) w.heap.size P X HX.out (by rfl) HCP.out ?_
        try simp only [Act.put, List.setIfInBounds_toArray, List.set_cons_zero, List.set_cons_succ]
        iterate 2 (go_big_quiet_step (fail))
        go_big_quiet_step (exact c0 _ _)
        repeat (go_big_quiet_step (fail))
        refine wpQuiet_nil ?_
        rintro W9 ⟨pq, rfl⟩
        have HB9 := Lib.hid (HB2.out.trans ((below_regrown W2 pq.d pq.os).mono HB2.out.size))
        generalize grow (redrawn W2 pq.d) pq.os = W9 at *
        go_wp2
        go_ret
        exact ⟨q_b (by rw [HV.out]; simp), HB9.out⟩
      cases b1
      · skip
        refine wp_region_quiet_below (by kernel_rfl) (by kernel_rfl) ?_
        iterate 22 (go_big_quiet_step (fail))
        refine wpQuiet_pos (by rfl) _ (by rfl) w.heap.size P X HX.out (by rfl) HCP.out ?_
        try simp only [Act.put, List.setIfInBounds_toArray, List.set_cons_zero, List.set_cons_succ]
        iterate 2 (go_big_quiet_step (fail))
        go_big_quiet_step (exact c0 _ _)
        iterate 2 (go_big_quiet_step (fail))
        refine wpQuiet_pos (by rfl) _ (by rfl) w.heap.size P X HX.out (by rfl) HCP.out ?_
        try simp only [Act.put, List.setIfInBounds_toArray, List.set_cons_zero, List.set_cons_succ]
        iterate 2 (go_big_quiet_step (fail))
        go_big_quiet_step (exact c1 _ _)
        repeat (go_big_quiet_step (fail))
        refine wpQuiet_nil ?_
        rintro W9 ⟨pq, rfl⟩
        have HB9 := Lib.hid (HB2.out.trans ((below_regrown W2 pq.d pq.os).mono HB2.out.size))
        generalize grow (redrawn W2 pq.d) pq.os = W9 at *
        go_wp2
        go_ret
        exact ⟨q_b (by rw [HV.out]; simp), HB9.out⟩
      refine wp_region_quiet_below (by kernel_rfl) (by kernel_rfl) ?_
      iterate 22 (go_big_quiet_step (fail))
      refine wpQuiet_pos (by rfl) _ (by rfl) w.heap.size P X HX.out (by rfl) HCP.out ?_
      try simp only [Act.put, List.setIfInBounds_toArray, List.set_cons_zero, List.set_cons_succ]
      iterate 2 (go_big_quiet_step (fail))
      go_big_quiet_step (exact c0 _ _)
      iterate 2 (go_big_quiet_step (fail))
      refine wpQuiet_pos (by rfl) _ (by rfl) w.heap.size P X HX.out (by rfl) HCP.out ?_
      try simp only [Act.put, List.setIfInBounds_toArray, List.set_cons_zero, List.set_cons_succ]
      iterate 2 (go_big_quiet_step (fail))
      go_big_quiet_step (exact c1 _ _)
      iterate 2 (go_big_quiet_step (fail))
      refine wpQuiet_pos (by rfl) _ (by rfl) w.heap.size P X HX.out (by rfl) HCP.out ?_
      try simp only [Act.put, List.setIfInBounds_toArray, List.set_cons_zero, List.set_cons_succ]
      iterate 2 (go_big_quiet_step (fail))
      go_big_quiet_step (exact c2 _ _)
      repeat (go_big_quiet_step (fail))
      refine wpQuiet_nil ?_
      rintro W9 ⟨pq, rfl⟩
      have HB9 := Lib.hid (HB2.out.trans ((below_regrown W2 pq.d pq.os).mono HB2.out.size))
      generalize grow (redrawn W2 pq.d) pq.os = W9 at *
      go_wp2
      go_ret
      exact ⟨q_b (by rw [HV.out]; simp), HB9.out⟩
  · have hd2 : (d == 1) = false := by simp [hd]
    rw [show homeR d = 4 by unfold homeR; rw [if_neg hd]] at HOFF HON HFAR
    rw [show shortR d = 1 by unfold shortR; rw [if_neg hd]] at HON
    rw [show farR d = 2 by unfold farR; rw [if_neg hd]] at HFAR
    clear hd
    by_cases hh : s = 4
    case neg =>
      have h2 : ((s : Int) != 4) = true := by simp; omega
      have h3 : ((s : Int) == 4) = false := by simp; omega
      have HV := Lib.hid (HOFF.out (.inl hh))
      clear HOFF HON HFAR
      go_wp2
      go_ret
      exact ⟨q_b HV.out.symm, HB.out⟩
    subst hh
    clear s0 s1
    by_cases hc0 : c < 0
    case pos =>
      have HV := Lib.hid (HOFF.out (.inr (.inl hc0)))
      clear HOFF HON HFAR
      go_wp2
      go_ret
      exact ⟨q_b HV.out.symm, HB.out⟩
    by_cases hc15 : 15 < c
    case pos =>
      have HV := Lib.hid (HOFF.out (.inr (.inr hc15)))
      clear HOFF HON HFAR
      go_wp2
      go_ret
      exact ⟨q_b HV.out.symm, HB.out⟩
    have hcc : 0 ≤ c := by omega
    have HNO := Lib.hid (show ¬ (4 ≠ 4 ∨ c < 0 ∨ 15 < c) by omega)
    clear HOFF
    go_upto_region 8 with (fail)
    have HB2 := Lib.hid (HB.out.trans ((below_new (w := W) (.cells #[.int .i64 4, .int .i64 d] 25)).mono HB.out.size))
    have HP2 := Lib.hid (HP.out.go (below_new (w := W) (.cells #[.int .i64 4, .int .i64 d] 25)))
    have HR2 := Lib.hid (show (W.alloc (.cells #[.int .i64 4, .int .i64 d] 25)).heap[W.heap.size]? = some (.cells #[.int .i64 4, .int .i64 d] 25 (0, 0)) from sl_at rfl)
    generalize W.alloc (.cells #[.int .i64 4, .int .i64 d] 25) = W2 at *
    generalize W.heap.size = rb at *
    clear HP e1 e9 HB
    have HCP := Lib.hid HP2.out.regrown
    by_cases ht2 : t = 6
    · subst ht2
      have HV := Lib.hid (HON.out HNO.out rfl)
      clear HON HFAR
      obtain ⟨q, hq⟩ : ∃ q, c / 1 = q := ⟨_, rfl⟩
      have dq : c.tdiv 1 = q := by rw [Int.tdiv_eq_ediv_of_nonneg hcc]; exact hq
      have wq : wrap64 q = q := by unfold wrap64; omega
      obtain ⟨x, hx⟩ : ∃ x, q % 2 = x := ⟨_, rfl⟩
      have mq : q.tmod 2 = x := by rw [Int.tmod_eq_emod_of_nonneg (by omega)]; exact hx
      have dq1 : c = q := by omega
      have wc : wrap64 c = c := by unfold wrap64; omega
      have mc : c.tmod 2 = x := by rw [dq1]; exact mq
      have mc2 : c % 2 = x := by rw [dq1]; exact hx
      have hx01 : x = 0 ∨ x = 1 := by omega
      have HXX := Lib.hid hx
      rw [show c / 1 = q from hq, hx] at HV
      have z9 := cell_regrown (HP2.out.cell 129 (by omega))
      have zr1 := cell_regrown (HP2.out.cell 14 (by omega))
      have zr2 := cell_regrown (HP2.out.cell 15 (by omega))
      obtain ⟨y1, y2, _, _⟩ := row2 HR2.out
      replace y1 := cell_regrown y1
      replace y2 := cell_regrown y2
      have hC9 : P 129 = c := HCC.out
      rw [hC9] at z9
      go_upto_region 9 with (fail)
      clear hx hq dq1
      rcases hx01 with rfl | rfl
      · skip
        refine wp_region_quiet_below (by kernel_rfl) (by kernel_rfl) ?_
        repeat (go_big_quiet_step (fail))
        refine wpQuiet_nil ?_
        rintro W9 ⟨pq, rfl⟩
        have HB9 := Lib.hid (HB2.out.trans ((below_regrown W2 pq.d pq.os).mono HB2.out.size))
        generalize grow (redrawn W2 pq.d) pq.os = W9 at *
        go_wp2
        go_ret
        exact ⟨q_b (by rw [HV.out]; simp), HB9.out⟩
      obtain ⟨ro, hro⟩ : ∃ r, pe (P 14) (P 15) 4 d = r := ⟨_, rfl⟩
      have HV := Lib.hid (HV.out)
      simp only [Nat.reduceAdd, Nat.reduceMul, Nat.reduceSub] at HV
      generalize P 14 = rk at *
      generalize P 15 = rd at *
      have hro2 : (rk == 4 && rd == d) = ro := hro
      rw [hro] at HV
      obtain ⟨b0, hb0⟩ : ∃ b, bareR P (5 : Nat) = b := ⟨_, rfl⟩
      obtain ⟨b1, hb1⟩ : ∃ b, bareR P (6 : Nat) = b := ⟨_, rfl⟩
      have c0 := bare_reg P X HX.out W2 (5 : Int) b0 hb0
      have c1 := bare_reg P X HX.out W2 (6 : Int) b1 hb1
      rw [hb0, hb1] at HV
      clear hb0 hb1
      cases ro
      · skip
        refine wp_region_quiet_below (by kernel_rfl) (by kernel_rfl) ?_
        repeat (go_big_quiet_step (fail))
        refine wpQuiet_nil ?_
        rintro W9 ⟨pq, rfl⟩
        have HB9 := Lib.hid (HB2.out.trans ((below_regrown W2 pq.d pq.os).mono HB2.out.size))
        generalize grow (redrawn W2 pq.d) pq.os = W9 at *
        go_wp2
        go_ret
        exact ⟨q_b (by rw [HV.out]; simp), HB9.out⟩
      cases b0
      · skip
        refine wp_region_quiet_below (by kernel_rfl) (by kernel_rfl) ?_
        iterate 16 (go_big_quiet_step (fail))
        refine wpQuiet_pos (by rfl) _ (by rfl) w.heap.size P X HX.out (by rfl) HCP.out ?_
        try simp only [Act.put, List.setIfInBounds_toArray, List.set_cons_zero, List.set_cons_succ]
        iterate 2 (go_big_quiet_step (fail))
        go_big_quiet_step (exact c0 _ _)
        repeat (go_big_quiet_step (fail))
        refine wpQuiet_nil ?_
        rintro W9 ⟨pq, rfl⟩
        have HB9 := Lib.hid (HB2.out.trans ((below_regrown W2 pq.d pq.os).mono HB2.out.size))
        generalize grow (redrawn W2 pq.d) pq.os = W9 at *
        go_wp2
        go_ret
        exact ⟨q_b (by rw [HV.out]; simp), HB9.out⟩
      refine wp_region_quiet_below (by kernel_rfl) (by kernel_rfl) ?_
      iterate 16 (go_big_quiet_step (fail))
      refine wpQuiet_pos (by rfl) _ (by rfl) w.heap.size P X HX.out (by rfl) HCP.out ?_
      try simp only [Act.put, List.setIfInBounds_toArray, List.set_cons_zero, List.set_cons_succ]
      iterate 2 (go_big_quiet_step (fail))
      go_big_quiet_step (exact c0 _ _)
      iterate 2 (go_big_quiet_step (fail))
      refine wpQuiet_pos (by rfl) _ (by rfl) w.heap.size P X HX.out (by rfl) HCP.out ?_
      try simp only [Act.put, List.setIfInBounds_toArray, List.set_cons_zero, List.set_cons_succ]
      iterate 2 (go_big_quiet_step (fail))
      go_big_quiet_step (exact c1 _ _)
      repeat (go_big_quiet_step (fail))
      refine wpQuiet_nil ?_
      rintro W9 ⟨pq, rfl⟩
      have HB9 := Lib.hid (HB2.out.trans ((below_regrown W2 pq.d pq.os).mono HB2.out.size))
      generalize grow (redrawn W2 pq.d) pq.os = W9 at *
      go_wp2
      go_ret
      exact ⟨q_b (by rw [HV.out]; simp), HB9.out⟩
    · have hn2 : ((t : Int) == 6) = false := by simp; omega
      have HV := Lib.hid (HFAR.out HNO.out ht2)
      clear HON HFAR
      by_cases ht3 : t = 2
      case neg =>
        have hn3 : ((t : Int) == 2) = false := by simp; omega
        have hn4 : (t + 2 == 4) = false := by simp; omega
        go_upto_region 10 with (fail)
        refine wp_region_quiet_below (by kernel_rfl) (by kernel_rfl) ?_
        repeat (go_big_quiet_step (fail))
        refine wpQuiet_nil ?_
        rintro W9 ⟨pq, rfl⟩
        have HB9 := Lib.hid (HB2.out.trans ((below_regrown W2 pq.d pq.os).mono HB2.out.size))
        generalize grow (redrawn W2 pq.d) pq.os = W9 at *
        go_wp2
        go_ret
        exact ⟨q_b (by rw [HV.out]; rw [hn4]; rfl), HB9.out⟩
      subst ht3
      obtain ⟨q, hq⟩ : ∃ q, c / 2 = q := ⟨_, rfl⟩
      have dq : c.tdiv 2 = q := by rw [Int.tdiv_eq_ediv_of_nonneg hcc]; exact hq
      have wq : wrap64 q = q := by unfold wrap64; omega
      obtain ⟨x, hx⟩ : ∃ x, q % 2 = x := ⟨_, rfl⟩
      have mq : q.tmod 2 = x := by rw [Int.tmod_eq_emod_of_nonneg (by omega)]; exact hx
      have hx01 : x = 0 ∨ x = 1 := by omega
      have HXX := Lib.hid hx
      rw [show c / 2 = q from hq, hx] at HV
      have z9 := cell_regrown (HP2.out.cell 129 (by omega))
      have zr1 := cell_regrown (HP2.out.cell 0 (by omega))
      have zr2 := cell_regrown (HP2.out.cell 1 (by omega))
      obtain ⟨y1, y2, _, _⟩ := row2 HR2.out
      replace y1 := cell_regrown y1
      replace y2 := cell_regrown y2
      have hC9 : P 129 = c := HCC.out
      rw [hC9] at z9
      go_upto_region 10 with (fail)
      clear hx hq 
      rcases hx01 with rfl | rfl
      · skip
        refine wp_region_quiet_below (by kernel_rfl) (by kernel_rfl) ?_
        repeat (go_big_quiet_step (fail))
        refine wpQuiet_nil ?_
        rintro W9 ⟨pq, rfl⟩
        have HB9 := Lib.hid (HB2.out.trans ((below_regrown W2 pq.d pq.os).mono HB2.out.size))
        generalize grow (redrawn W2 pq.d) pq.os = W9 at *
        go_wp2
        go_ret
        exact ⟨q_b (by rw [HV.out]; simp), HB9.out⟩
      obtain ⟨ro, hro⟩ : ∃ r, pe (P 0) (P 1) 4 d = r := ⟨_, rfl⟩
      have HV := Lib.hid (HV.out)
      simp only [Nat.reduceAdd, Nat.reduceMul, Nat.reduceSub] at HV
      generalize P 0 = rk at *
      generalize P 1 = rd at *
      have hro2 : (rk == 4 && rd == d) = ro := hro
      rw [hro] at HV
      obtain ⟨b0, hb0⟩ : ∃ b, bareR P (3 : Nat) = b := ⟨_, rfl⟩
      obtain ⟨b1, hb1⟩ : ∃ b, bareR P (2 : Nat) = b := ⟨_, rfl⟩
      obtain ⟨b2, hb2⟩ : ∃ b, bareR P (1 : Nat) = b := ⟨_, rfl⟩
      have c0 := bare_reg P X HX.out W2 (3 : Int) b0 hb0
      have c1 := bare_reg P X HX.out W2 (2 : Int) b1 hb1
      have c2 := bare_reg P X HX.out W2 (1 : Int) b2 hb2
      rw [hb0, hb1, hb2] at HV
      clear hb0 hb1 hb2
      cases ro
      · skip
        refine wp_region_quiet_below (by kernel_rfl) (by kernel_rfl) ?_
        repeat (go_big_quiet_step (fail))
        refine wpQuiet_nil ?_
        rintro W9 ⟨pq, rfl⟩
        have HB9 := Lib.hid (HB2.out.trans ((below_regrown W2 pq.d pq.os).mono HB2.out.size))
        generalize grow (redrawn W2 pq.d) pq.os = W9 at *
        go_wp2
        go_ret
        exact ⟨q_b (by rw [HV.out]; simp), HB9.out⟩
      cases b0
      · skip
        refine wp_region_quiet_below (by kernel_rfl) (by kernel_rfl) ?_
        iterate 22 (go_big_quiet_step (fail))
        refine wpQuiet_pos (by rfl) _ (by rfl) w.heap.size P X HX.out (by rfl) HCP.out ?_
        try simp only [Act.put, List.setIfInBounds_toArray, List.set_cons_zero, List.set_cons_succ]
        iterate 2 (go_big_quiet_step (fail))
        go_big_quiet_step (exact c0 _ _)
        repeat (go_big_quiet_step (fail))
        refine wpQuiet_nil ?_
        rintro W9 ⟨pq, rfl⟩
        have HB9 := Lib.hid (HB2.out.trans ((below_regrown W2 pq.d pq.os).mono HB2.out.size))
        generalize grow (redrawn W2 pq.d) pq.os = W9 at *
        go_wp2
        go_ret
        exact ⟨q_b (by rw [HV.out]; simp), HB9.out⟩
      cases b1
      · skip
        refine wp_region_quiet_below (by kernel_rfl) (by kernel_rfl) ?_
        iterate 22 (go_big_quiet_step (fail))
        refine wpQuiet_pos (by rfl) _ (by rfl) w.heap.size P X HX.out (by rfl) HCP.out ?_
        try simp only [Act.put, List.setIfInBounds_toArray, List.set_cons_zero, List.set_cons_succ]
        iterate 2 (go_big_quiet_step (fail))
        go_big_quiet_step (exact c0 _ _)
        iterate 2 (go_big_quiet_step (fail))
        refine wpQuiet_pos (by rfl) _ (by rfl) w.heap.size P X HX.out (by rfl) HCP.out ?_
        try simp only [Act.put, List.setIfInBounds_toArray, List.set_cons_zero, List.set_cons_succ]
        iterate 2 (go_big_quiet_step (fail))
        go_big_quiet_step (exact c1 _ _)
        repeat (go_big_quiet_step (fail))
        refine wpQuiet_nil ?_
        rintro W9 ⟨pq, rfl⟩
        have HB9 := Lib.hid (HB2.out.trans ((below_regrown W2 pq.d pq.os).mono HB2.out.size))
        generalize grow (redrawn W2 pq.d) pq.os = W9 at *
        go_wp2
        go_ret
        exact ⟨q_b (by rw [HV.out]; simp), HB9.out⟩
      refine wp_region_quiet_below (by kernel_rfl) (by kernel_rfl) ?_
      iterate 22 (go_big_quiet_step (fail))
      refine wpQuiet_pos (by rfl) _ (by rfl) w.heap.size P X HX.out (by rfl) HCP.out ?_
      try simp only [Act.put, List.setIfInBounds_toArray, List.set_cons_zero, List.set_cons_succ]
      iterate 2 (go_big_quiet_step (fail))
      go_big_quiet_step (exact c0 _ _)
      iterate 2 (go_big_quiet_step (fail))
      refine wpQuiet_pos (by rfl) _ (by rfl) w.heap.size P X HX.out (by rfl) HCP.out ?_
      try simp only [Act.put, List.setIfInBounds_toArray, List.set_cons_zero, List.set_cons_succ]
      iterate 2 (go_big_quiet_step (fail))
      go_big_quiet_step (exact c1 _ _)
      iterate 2 (go_big_quiet_step (fail))
      refine wpQuiet_pos (by rfl) _ (by rfl) w.heap.size P X HX.out (by rfl) HCP.out ?_
      try simp only [Act.put, List.setIfInBounds_toArray, List.set_cons_zero, List.set_cons_succ]
      iterate 2 (go_big_quiet_step (fail))
      go_big_quiet_step (exact c2 _ _)
      repeat (go_big_quiet_step (fail))
      refine wpQuiet_nil ?_
      rintro W9 ⟨pq, rfl⟩
      have HB9 := Lib.hid (HB2.out.trans ((below_regrown W2 pq.d pq.os).mono HB2.out.size))
      generalize grow (redrawn W2 pq.d) pq.os = W9 at *
      go_wp2
      go_ret
      exact ⟨q_b (by rw [HV.out]; simp), HB9.out⟩
end Go.Proofs.YtjhlombbkodpaaaDoor
