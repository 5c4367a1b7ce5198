/-
  Contracts: the document's squares gone over; right positions.
-/
import Derived.Test.YteahikjnlhlmmaaDoorBn
namespace Go.Proofs.YteahikjnlhlmmaaDoor
open Go.RowKit Go.Sort
set_option linter.unusedSimpArgs false
set_option linter.unusedVariables false

/-- a pawn of a side went from square a over square o to square b -/
def overC (P : Nat → Int) (o rank a b : Nat) (pd : Int) : Bool := (o / 8 == rank) && pe (P (2 * o)) (P (2 * o + 1)) 0 0 && pe (P (2 * a)) (P (2 * a + 1)) 0 0 && pe (P (2 * b)) (P (2 * b + 1)) 1 pd
theorem wrap_sq (n : Nat) (h : n < 64) : IntKind.i64.wrap (n : Int) = (n : Int) := IntWalk.i64_in _ (by omega)
def overB (P : Nat → Int) : Bool := P 130 == -1 || (sq (P 130) && P 131 == 0 && if P 128 == 1 then overC P (P 130).toNat 2 ((P 130).toNat - 8) ((P 130).toNat + 8) 0 else overC P (P 130).toNat 5 ((P 130).toNat + 8) ((P 130).toNat - 8) 1)
def rightB (P : Nat → Int) : Bool := piecesB P && castB P && overB P && decide (0 ≤ P 131) && decide (P 131 ≤ 1024) && decide (1 ≤ P 132) && decide (P 132 ≤ 16384)
set_option maxHeartbeats 2000000 in
set_option maxRecDepth 100000 in
theorem rOver_any (P : Nat → Int) (w : World) :
    Calls Tryd.prog 37 #[.agg (pc P).toArray] w fun e w' => e = .returned (.bool (overB P)) ∧ Below w.heap.size w w' := by
  obtain ⟨X, hX⟩ : ∃ X, X = (pc P).toArray := ⟨_, rfl⟩
  rw [← hX]
  have HP0 := Lib.hid (show PB (w.alloc (.cells X 29)) w.heap.size P by subst hX; exact PB.new rfl)
  have HB0 := Lib.hid (below_new (w := w) (.cells X 29))
  clear hX
  go_enter Tryd.func37, Tryd.ntmps37
  go_upto_region 1 with (fail)
  refine forget_B (fun W => PB W w.heap.size P ∧ Below w.heap.size w W ∧ w.heap.size + 1 ≤ W.heap.size) ⟨HP0.out, HB0.out, by simp⟩ ?_
  clear HP0 HB0
  rintro W ⟨hp, hbw, hbs⟩
  have HP := Lib.hid hp
  have HB := Lib.hid hbw
  have hz : w.heap.size < W.heap.size := by omega
  have hz2 : ¬ w.heap.size = W.heap.size := by omega
  have hz3 : ¬ W.heap.size = w.heap.size := by omega
  have e1 := hp.cell 130 (by omega)
  have e2 := hp.cell 131 (by omega)
  have e3 := hp.cell 128 (by omega)
  clear hp hbw hbs
  have hv : overB P = (P 130 == -1 || (sq (P 130) && P 131 == 0 && if P 128 == 1 then overC P (P 130).toNat 2 ((P 130).toNat - 8) ((P 130).toNat + 8) 0 else overC P (P 130).toNat 5 ((P 130).toNat + 8) ((P 130).toNat - 8) 1)) := rfl
  obtain ⟨o, hpo⟩ : ∃ o, P 130 = o := ⟨_, rfl⟩
  rw [hpo] at hv e1
  generalize P 131 = hf at *
  generalize P 128 = sd at *
  by_cases h0 : o = -1
  · subst h0
    have HV := Lib.hid (show overB P = true by rw [hv]; rfl)
    clear hv
    go_wp2
    go_ret
    exact ⟨q_b HV.out.symm, HB.out⟩
  · have hm : (o == -1) = false := by simp [h0]
    rw [hm] at hv
    rcases sq_cases o with ⟨h1, hb⟩ | ⟨h1, hb⟩ | ⟨h1, h2, hb⟩
    case inr.inr =>
      by_cases hh : hf = 0
      · subst hh
        obtain ⟨m, rfl⟩ : ∃ m : Nat, o = (m : Int) := ⟨o.toNat, by omega⟩
        have hm64 : m < 64 := by omega
        rw [hb, Int.toNat_natCast] at hv
        have HPO := Lib.hid hpo
        clear hpo
        clear hb h0
        obtain ⟨q8, hq8⟩ : ∃ q, m / 8 = q := ⟨_, rfl⟩
        have HQ8 := Lib.hid hq8
        have wq := wrap_sq q8 (by omega)
        have tq2 : (m : Int) / 8 = (q8 : Int) := by omega
        have tq : (m : Int).tdiv 8 = (q8 : Int) := by rw [Int.tdiv_eq_ediv_of_nonneg (by omega)]; exact tq2
        clear hq8
        by_cases hs : sd = 1
        · subst hs
          have hv2 : overB P = overC P m 2 (m - 8) (m + 8) 0 := by rw [hv]; simp
          have HV := Lib.hid hv2
          clear hv hv2
          go_upto_region 8 with (fail)
          have hcase : ((q8 == 2) = false ∧ (((q8 : Int) == 2) = false)) ∨ ((q8 == 2) = true ∧ (((q8 : Int) == 2) = true)) := by
            by_cases h : q8 = 2
            · right; rw [h]; decide
            · left; exact ⟨by simp [h], by simp; omega⟩
          refine forget_B (fun W' => PB W' w.heap.size P ∧ W'.heap[W.heap.size]? = some (.cells #[.int .i64 1, .int .i64 0] 25 (0, 0)) ∧ Below w.heap.size w W') ⟨HP.out.alloc _, sl_at rfl, HB.out.alloc HB.out.size _⟩ ?_
          clear e1 e2 e3 hz hz2 hz3 HP HB
          rintro W3 ⟨hp, hx, hb3⟩
          have x1 := cell_regrown (hp.cell 130 (by omega))
          have y1 := cell_regrown (hp.cell (m * 2) (by omega))
          have y2 := cell_regrown (hp.cell (m * 2 + 1) (by omega))
          have v1 := cell_regrown (row2 hx).1
          have v2 := cell_regrown (row2 hx).2.1
          rw [HPO.out] at x1
          have HB := Lib.hid hb3
          have HP := Lib.hid hp
          clear hp hx hb3
          obtain ⟨k1, hk1⟩ : ∃ k, P (m * 2) = k := ⟨_, rfl⟩
          obtain ⟨d1, hd1⟩ : ∃ d, P (m * 2 + 1) = d := ⟨_, rfl⟩
          obtain ⟨p1, hp1⟩ : ∃ p, pe k1 d1 0 0 = p := ⟨_, rfl⟩
          have HV1 := Lib.hid (show pe (P (2 * m)) (P (2 * m + 1)) 0 0 = p1 by rw [Nat.mul_comm 2 m, hk1, hd1]; exact hp1)
          have c1 := regrown_call (w := W3) (rNone_any k1 d1)
          rw [hp1] at c1
          rw [hk1] at y1
          rw [hd1] at y2
          clear hk1 hd1 hp1
          rcases hcase with ⟨r1, r2⟩ | ⟨r1, r2⟩
          · have HF := Lib.hid (show overC P m 2 (m - 8) (m + 8) 0 = false by unfold overC; rw [HQ8.out, r1]; rfl)
            refine wp_region_quiet_below (by kernel_rfl) (by kernel_rfl) ?_
            repeat (first | go_big_quiet_step (fail) | quiet_step (fail))
            refine wpQuiet_nil ?_
            rintro W4 ⟨q, rfl⟩
            go_wp2
            go_ret
            exact ⟨q_b (by rw [HV.out, HF.out]), HB.out.trans ((below_regrown W3 q.d q.os).mono HB.out.size)⟩
          · have hm8 : q8 = 2 := by simpa using r1
            have hm9 := HQ8.out
            have ha64 : m - 8 < 64 := by omega
            have hb64 : m + 8 < 64 := by omega
            obtain ⟨a, haa⟩ : ∃ a, m - 8 = a := ⟨_, rfl⟩
            obtain ⟨b, hbb⟩ : ∃ b, m + 8 = b := ⟨_, rfl⟩
            have za : (m : Int) + -8 = (a : Int) := by omega
            have zb : (m : Int) - -8 = (b : Int) := by omega
            have zb2 : (m : Int) + 8 = (b : Int) := by omega
            have za2 : (m : Int) - 8 = (a : Int) := by omega
            have ga0 : (0 : Int) ≤ a := by omega
            have ga1 : (a : Int) < 64 := by omega
            have gb0 : (0 : Int) ≤ b := by omega
            have gb1 : (b : Int) < 64 := by omega
            have wa := wrap_sq a (by omega)
            have wb := wrap_sq b (by omega)
            rw [haa] at ha64
            rw [hbb] at hb64
            have hov : overC P m 2 (m - 8) (m + 8) 0 = (p1 && pe (P (2 * a)) (P (2 * a + 1)) 0 0 && pe (P (2 * b)) (P (2 * b + 1)) 1 0) := by unfold overC; rw [HQ8.out, r1, HV1.out, haa, hbb]; simp
            have HO := Lib.hid hov
            clear hov r1 hm8 hm9 haa hbb
            cases p1
            · refine wp_region_quiet_below (by kernel_rfl) (by kernel_rfl) ?_
              repeat (first | go_big_quiet_step (exact c1 _ _) | quiet_step (exact c1 _ _))
              refine wpQuiet_nil ?_
              rintro W4 ⟨q, rfl⟩
              go_wp2
              go_ret
              exact ⟨q_b (by rw [HV.out, HO.out]; simp), HB.out.trans ((below_regrown W3 q.d q.os).mono HB.out.size)⟩
            · have y3 := cell_regrown (HP.out.cell (a * 2) (by omega))
              have y4 := cell_regrown (HP.out.cell (a * 2 + 1) (by omega))
              have y5 := cell_regrown (HP.out.cell (b * 2) (by omega))
              have y6 := cell_regrown (HP.out.cell (b * 2 + 1) (by omega))
              rw [Nat.mul_comm 2 a, Nat.mul_comm 2 b] at HO
              obtain ⟨p2, hp2⟩ : ∃ p, pe (P (a * 2)) (P (a * 2 + 1)) 0 0 = p := ⟨_, rfl⟩
              obtain ⟨p3, hp3⟩ : ∃ p, pe (P (b * 2)) (P (b * 2 + 1)) 1 0 = p := ⟨_, rfl⟩
              have c2 := regrown_call (w := W3) (rNone_any (P (a * 2)) (P (a * 2 + 1)))
              rw [hp2] at c2
              rw [hp2, hp3] at HO
              clear hp2
              generalize P (a * 2) = k2 at *
              generalize P (a * 2 + 1) = d2 at *
              generalize P (b * 2) = k3 at *
              generalize P (b * 2 + 1) = d3 at *
              cases p2
              · refine wp_region_quiet_below (by kernel_rfl) (by kernel_rfl) ?_
                repeat (first | go_big_quiet_step (first | exact c1 _ _ | exact c2 _ _) | quiet_step (first | exact c1 _ _ | exact c2 _ _))
                refine wpQuiet_nil ?_
                rintro W4 ⟨q, rfl⟩
                go_wp2
                go_ret
                exact ⟨q_b (by rw [HV.out, HO.out]; simp), HB.out.trans ((below_regrown W3 q.d q.os).mono HB.out.size)⟩
              · refine wp_region_quiet_below (by kernel_rfl) (by kernel_rfl) ?_
                repeat (first | go_big_quiet_step (first | exact c1 _ _ | exact c2 _ _) | quiet_step (first | exact c1 _ _ | exact c2 _ _))
                refine wpQuiet_nil ?_
                rintro W4 ⟨q, rfl⟩
                go_wp2
                go_ret
                exact ⟨q_b (by rw [HV.out, HO.out]; simp), HB.out.trans ((below_regrown W3 q.d q.os).mono HB.out.size)⟩
        · have hs1 : (sd == 1) = false := by simp [hs]
          have hv2 : overB P = overC P m 5 (m + 8) (m - 8) 1 := by rw [hv, hs1]; simp
          have HV := Lib.hid hv2
          clear hv hv2 hs
          go_upto_region 8 with (fail)
          have hcase : ((q8 == 5) = false ∧ (((q8 : Int) == 5) = false)) ∨ ((q8 == 5) = true ∧ (((q8 : Int) == 5) = true)) := by
            by_cases h : q8 = 5
            · right; rw [h]; decide
            · left; exact ⟨by simp [h], by simp; omega⟩
          refine forget_B (fun W' => PB W' w.heap.size P ∧ W'.heap[W.heap.size]? = some (.cells #[.int .i64 1, .int .i64 1] 25 (0, 0)) ∧ Below w.heap.size w W') ⟨HP.out.alloc _, sl_at rfl, HB.out.alloc HB.out.size _⟩ ?_
          clear e1 e2 e3 hz hz2 hz3 HP HB
          rintro W3 ⟨hp, hx, hb3⟩
          have x1 := cell_regrown (hp.cell 130 (by omega))
          have y1 := cell_regrown (hp.cell (m * 2) (by omega))
          have y2 := cell_regrown (hp.cell (m * 2 + 1) (by omega))
          have v1 := cell_regrown (row2 hx).1
          have v2 := cell_regrown (row2 hx).2.1
          rw [HPO.out] at x1
          have HB := Lib.hid hb3
          have HP := Lib.hid hp
          clear hp hx hb3
          obtain ⟨k1, hk1⟩ : ∃ k, P (m * 2) = k := ⟨_, rfl⟩
          obtain ⟨d1, hd1⟩ : ∃ d, P (m * 2 + 1) = d := ⟨_, rfl⟩
          obtain ⟨p1, hp1⟩ : ∃ p, pe k1 d1 0 0 = p := ⟨_, rfl⟩
          have HV1 := Lib.hid (show pe (P (2 * m)) (P (2 * m + 1)) 0 0 = p1 by rw [Nat.mul_comm 2 m, hk1, hd1]; exact hp1)
          have c1 := regrown_call (w := W3) (rNone_any k1 d1)
          rw [hp1] at c1
          rw [hk1] at y1
          rw [hd1] at y2
          clear hk1 hd1 hp1
          rcases hcase with ⟨r1, r2⟩ | ⟨r1, r2⟩
          · have HF := Lib.hid (show overC P m 5 (m + 8) (m - 8) 1 = false by unfold overC; rw [HQ8.out, r1]; rfl)
            refine wp_region_quiet_below (by kernel_rfl) (by kernel_rfl) ?_
            repeat (first | go_big_quiet_step (fail) | quiet_step (fail))
            refine wpQuiet_nil ?_
            rintro W4 ⟨q, rfl⟩
            go_wp2
            go_ret
            exact ⟨q_b (by rw [HV.out, HF.out]), HB.out.trans ((below_regrown W3 q.d q.os).mono HB.out.size)⟩
          · have hm8 : q8 = 5 := by simpa using r1
            have hm9 := HQ8.out
            have ha64 : m + 8 < 64 := by omega
            have hb64 : m - 8 < 64 := by omega
            obtain ⟨a, haa⟩ : ∃ a, m + 8 = a := ⟨_, rfl⟩
            obtain ⟨b, hbb⟩ : ∃ b, m - 8 = b := ⟨_, rfl⟩
            have za : (m : Int) + 8 = (a : Int) := by omega
            have zb : (m : Int) - 8 = (b : Int) := by omega
            have zb2 : (m : Int) - 8 = (b : Int) := by omega
            have za2 : (m : Int) + 8 = (a : Int) := by omega
            have ga0 : (0 : Int) ≤ a := by omega
            have ga1 : (a : Int) < 64 := by omega
            have gb0 : (0 : Int) ≤ b := by omega
            have gb1 : (b : Int) < 64 := by omega
            have wa := wrap_sq a (by omega)
            have wb := wrap_sq b (by omega)
            rw [haa] at ha64
            rw [hbb] at hb64
            have hov : overC P m 5 (m + 8) (m - 8) 1 = (p1 && pe (P (2 * a)) (P (2 * a + 1)) 0 0 && pe (P (2 * b)) (P (2 * b + 1)) 1 1) := by unfold overC; rw [HQ8.out, r1, HV1.out, haa, hbb]; simp
            have HO := Lib.hid hov
            clear hov r1 hm8 hm9 haa hbb
            cases p1
            · refine wp_region_quiet_below (by kernel_rfl) (by kernel_rfl) ?_
              repeat (first | go_big_quiet_step (exact c1 _ _) | quiet_step (exact c1 _ _))
              refine wpQuiet_nil ?_
              rintro W4 ⟨q, rfl⟩
              go_wp2
              go_ret
              exact ⟨q_b (by rw [HV.out, HO.out]; simp), HB.out.trans ((below_regrown W3 q.d q.os).mono HB.out.size)⟩
            · have y3 := cell_regrown (HP.out.cell (a * 2) (by omega))
              have y4 := cell_regrown (HP.out.cell (a * 2 + 1) (by omega))
              have y5 := cell_regrown (HP.out.cell (b * 2) (by omega))
              have y6 := cell_regrown (HP.out.cell (b * 2 + 1) (by omega))
              rw [Nat.mul_comm 2 a, Nat.mul_comm 2 b] at HO
              obtain ⟨p2, hp2⟩ : ∃ p, pe (P (a * 2)) (P (a * 2 + 1)) 0 0 = p := ⟨_, rfl⟩
              obtain ⟨p3, hp3⟩ : ∃ p, pe (P (b * 2)) (P (b * 2 + 1)) 1 1 = p := ⟨_, rfl⟩
              have c2 := regrown_call (w := W3) (rNone_any (P (a * 2)) (P (a * 2 + 1)))
              rw [hp2] at c2
              rw [hp2, hp3] at HO
              clear hp2
              generalize P (a * 2) = k2 at *
              generalize P (a * 2 + 1) = d2 at *
              generalize P (b * 2) = k3 at *
              generalize P (b * 2 + 1) = d3 at *
              cases p2
              · refine wp_region_quiet_below (by kernel_rfl) (by kernel_rfl) ?_
                repeat (first | go_big_quiet_step (first | exact c1 _ _ | exact c2 _ _) | quiet_step (first | exact c1 _ _ | exact c2 _ _))
                refine wpQuiet_nil ?_
                rintro W4 ⟨q, rfl⟩
                go_wp2
                go_ret
                exact ⟨q_b (by rw [HV.out, HO.out]; simp), HB.out.trans ((below_regrown W3 q.d q.os).mono HB.out.size)⟩
              · refine wp_region_quiet_below (by kernel_rfl) (by kernel_rfl) ?_
                repeat (first | go_big_quiet_step (first | exact c1 _ _ | exact c2 _ _) | quiet_step (first | exact c1 _ _ | exact c2 _ _))
                refine wpQuiet_nil ?_
                rintro W4 ⟨q, rfl⟩
                go_wp2
                go_ret
                exact ⟨q_b (by rw [HV.out, HO.out]; simp), HB.out.trans ((below_regrown W3 q.d q.os).mono HB.out.size)⟩
      · have hh2 : (hf == 0) = false := by simp [hh]
        rw [hb, hh2] at hv
        have HV := Lib.hid (show overB P = false by rw [hv]; rfl)
        have hh3 : (hf != 0) = true := by simp [hh]
        clear hv hh
        go_wp2
        go_ret
        exact ⟨q_b (by rw [HV.out]; first | done | simp), HB.out⟩
    all_goals
      rw [hb] at hv
      have HV := Lib.hid (show overB P = false by rw [hv]; rfl)
      clear hv h0 hb
      go_wp2
      go_ret
      exact ⟨q_b (by rw [HV.out]; first | done | simp), HB.out⟩
end Go.Proofs.YteahikjnlhlmmaaDoor
