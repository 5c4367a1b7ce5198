/-
  Contracts: the document's answer, where a pawn goes, where a piece goes.
-/
import Derived.Test.YtjhlombbkodpaaaDoorMt
namespace Go.Proofs.YtjhlombbkodpaaaDoor
open Go.RowKit Go.Sort
set_option linter.unusedSimpArgs false
set_option linter.unusedVariables false
set_option maxRecDepth 20000

/-- a position in a block, a piece in another one -/
structure MX (w : World) (pb xb : Nat) (P : Nat → Int) (k d : Int) (W : World) : Prop where
  p : PB W pb P
  x : W.heap[xb]? = some (.cells #[.int .i64 k, .int .i64 d] 25 (0, 0))
  b : Below w.heap.size w W
theorem MX.go {w W W' : World} {pb xb : Nat} {P : Nat → Int} {k d : Int} (h : MX w pb xb P k d W) (g : Below W.heap.size W W') : MX w pb xb P k d W' :=
  ⟨h.p.go g, sl_go h.x g, h.b.trans (g.mono h.b.size)⟩
theorem att_reg (P : Nat → Int) (X : Array Value) (hX : X = (pc P).toArray) (a b : Nat) (ha : a < 64) (hb : b < 64) (v : Bool) (h : attR P a b = v) (W : World) :
    Calls Tryd.prog 44 #[.agg X, .int .i64 (a : Int), .int .i64 (b : Int)] W fun e w' => e = .returned (.bool v) ∧ Below W.heap.size W w' := by
  subst hX; subst h
  exact rAtt_any P a b ha hb W
theorem pawnR_1 (P : Nat → Int) (s t : Nat) (on : Int) (ho : onR P s = on) (h : (t : Int) = s + on) : pawnR P s t = bareR P t := by unfold pawnR; rw [ho, if_pos h]
theorem pawnR_2 (P : Nat → Int) (s t : Nat) (on fi : Int) (ho : onR P s = on) (hf : firstR P s = fi) (h : (t : Int) ≠ s + on) (h2 : (t : Int) = s + 2 * on) (h3 : ((s / 8 : Nat) : Int) = fi) : pawnR P s t = (bareR P (s + on) && bareR P t) := by
  unfold pawnR; rw [ho, hf, if_neg h, if_pos ⟨h2, h3⟩]
theorem pawnR_3 (P : Nat → Int) (s t : Nat) (on fi : Int) (ho : onR P s = on) (hf : firstR P s = fi) (h : (t : Int) ≠ s + on) (h2 : ¬ ((t : Int) = s + 2 * on ∧ ((s / 8 : Nat) : Int) = fi)) : pawnR P s t = (attR P s t && ((!emB P t && (P (2 * t + 1) == oth (P (2 * s + 1)))) || (bareR P t && ((t : Int) == P 130)))) := by
  unfold pawnR; rw [ho, hf, if_neg h, if_neg h2]
set_option maxHeartbeats 8000000 in
set_option maxRecDepth 100000 in
theorem rPawn_any (P : Nat → Int) (s t : Nat) (hs : s < 64) (ht : t < 64) (w : World) :
    Calls Tryd.prog 43 #[.agg (pc P).toArray, .int .i64 (s : Int), .int .i64 (t : Int)] w fun e w' => e = .returned (.bool (pawnR P s t)) ∧ Below w.heap.size w w' := by
  obtain ⟨X, hX⟩ : ∃ X, X = (pc P).toArray := ⟨_, rfl⟩
  have MB := Lib.hid (fun x W => rBare_any P x W)
  rw [← hX] at MB ⊢
  have HP := Lib.hid (show PB (w.alloc (.cells X 29)) w.heap.size P by subst hX; exact PB.new rfl)
  have HB := Lib.hid (below_new (w := w) (.cells X 29))
  have HX := Lib.hid hX
  have s0 : (0 : Int) ≤ s := by omega
  have s1 : (s : Int) < 64 := by omega
  have t0 : (0 : Int) ≤ t := by omega
  have t1 : (t : Int) < 64 := by omega
  have e1 := HP.out.cell (s * 2) (by omega)
  have e2 := HP.out.cell (s * 2 + 1) (by omega)
  obtain ⟨on, hon⟩ : ∃ x, onR P s = x := ⟨_, rfl⟩
  obtain ⟨fi, hfi⟩ : ∃ x, firstR P s = x := ⟨_, rfl⟩
  have H1 := Lib.hid (pawnR_1 P s t on hon)
  have H2 := Lib.hid (pawnR_2 P s t on fi hon hfi)
  have H3 := Lib.hid (pawnR_3 P s t on fi hon hfi)
  have hbt := bareR_sq P t ht
  have hon2 : on = if P (s * 2 + 1) = 1 then -8 else 8 := by rw [← hon]; unfold onR; rw [Nat.mul_comm 2 s]
  have hfi2 : fi = if P (s * 2 + 1) = 1 then 6 else 1 := by rw [← hfi]; unfold firstR; rw [Nat.mul_comm 2 s]
  rw [Nat.mul_comm 2 s, emB_at, Nat.mul_comm 2 t] at H3
  rw [emB_at] at hbt
  obtain ⟨kk, hkk⟩ : ∃ x, P (s * 2) = x := ⟨_, rfl⟩
  obtain ⟨dd, hdd⟩ : ∃ x, P (s * 2 + 1) = x := ⟨_, rfl⟩
  rw [hkk] at e1
  rw [hdd] at e2 H3 hon2 hfi2
  obtain ⟨V, hV⟩ : ∃ V, pawnR P s t = V := ⟨_, rfl⟩
  rw [hV] at H1 H2 H3 ⊢
  have HBT := Lib.hid hbt
  have HT := Lib.hid (And.intro hs ht)
  have HON := Lib.hid hon2
  have HFI := Lib.hid hfi2
  clear hX hV hbt hon hfi hon2 hfi2 hkk hdd hs ht
  go_enter Tryd.func43, Tryd.ntmps43
  go_upto_region 1 with (fail)
  generalize w.alloc (.cells X 29) = W at *
  go_upto_region 2 with (fail)
  have HI := Lib.hid (show MX w w.heap.size W.heap.size P kk dd (W.alloc (.cells #[.int .i64 kk, .int .i64 dd] 25)) from ⟨HP.out.go (below_new _), sl_at rfl, HB.out.trans ((below_new _).mono HB.out.size)⟩)
  generalize W.alloc (.cells #[.int .i64 kk, .int .i64 dd] 25) = W2 at *
  generalize W.heap.size = xb at *
  clear HP HB e1 e2
  obtain ⟨x1, x2, xf, xz⟩ := row2 HI.out.x
  go_upto_if 17 with (fail)
  go_cut [8, 9] from 18 to 18 (fun v8 v9 wx => v8 = .int .i64 on ∧ v9 = .int .i64 fi ∧ MX w w.heap.size xb P kk dd wx)
  case first =>
    by_cases hd : dd = 1
    · have hon2 := HON.out
      have hfi2 := HFI.out
      rw [if_pos hd] at hon2 hfi2
      have hd2 : (dd == 1) = true := by simp [hd]
      have HA := Lib.hid (And.intro hon2 hfi2)
      clear hon2 hfi2 hd
      go_wp2_with fail
      go_meet
      exact ⟨by rw [HA.out.1], by rw [HA.out.2], HI.out⟩
    · have hon2 := HON.out
      have hfi2 := HFI.out
      rw [if_neg hd] at hon2 hfi2
      have hd2 : (dd == 1) = false := by simp [hd]
      have HA := Lib.hid (And.intro hon2 hfi2)
      clear hon2 hfi2 hd
      go_wp2_with fail
      go_meet
      exact ⟨by rw [HA.out.1], by rw [HA.out.2], HI.out⟩
  case rest =>
  obtain ⟨rfl, rfl, h1⟩ := hcut
  replace HI := Lib.hid h1
  clear h1 x1 x2 xf xz
  have hon : on = 8 ∨ on = -8 := by have := HON.out; split at this <;> omega
  have hw1 : IntKind.i64.wrap ((s : Int) + on) = s + on := IntWalk.i64_in _ (by omega)
  have hw2 : IntKind.i64.wrap (2 * on) = 2 * on := IntWalk.i64_in _ (by omega)
  have hw3 : IntKind.i64.wrap ((s : Int) + 2 * on) = s + 2 * on := IntWalk.i64_in _ (by omega)
  clear hon HON HFI
  by_cases h5 : (t : Int) = s + on
  case pos =>
    have h5b : ((t : Int) == s + on) = true := by simpa using h5
    have HV := Lib.hid (H1.out h5)
    clear H1 H2 H3 h5
    go_wp2_with (refine wpList_pos (by rfl) _ (by rfl) w.heap.size P X HX.out (by rfl) HI.out.p ?_)
    refine (MB.out (t : Int) _).mono ?_
    rw [← HV.out]
    rintro e w1 ⟨rfl, hb1⟩
    replace HI := Lib.hid (HI.out.go hb1)
    clear hb1
    go_wp2
    go_ret
    exact ⟨rfl, HI.out.b⟩
  have h5b : ((t : Int) == s + on) = false := by simpa using h5
  obtain ⟨r, hr⟩ : ∃ r : Nat, s / 8 = r := ⟨_, rfl⟩
  rw [hr] at H2 H3
  have td : (s : Int).tdiv 8 = (r : Int) := by rw [Int.tdiv_eq_ediv_of_nonneg (by omega)]; omega
  have td2 : (s : Int) / 8 = (r : Int) := by omega
  have tw : wrap64 (r : Int) = (r : Int) := by unfold wrap64; omega
  obtain ⟨c7, hc7⟩ : ∃ b : Bool, decide ((t : Int) = s + 2 * on ∧ (r : Int) = fi) = b := ⟨_, rfl⟩
  go_upto_region 7 with (fail)
  go_cut [37] from 26 to 37 (fun v wx => v = .bool c7 ∧ MX w w.heap.size xb P kk dd wx)
  case first =>
    by_cases h6 : (t : Int) = s + 2 * on
    · have h6b : ((t : Int) == s + 2 * on) = true := by simpa using h6
      have HC := Lib.hid (show ((r : Int) == fi) = c7 by rw [← hc7, Bool.eq_iff_iff]; simp [h6])
      clear hc7 h6
      go_wp2_with fail
      go_meet
      exact ⟨by rw [HC.out], HI.out⟩
    · have h6b : ((t : Int) == s + 2 * on) = false := by simpa using h6
      have HC := Lib.hid (show c7 = false by rw [← hc7]; simp [h6])
      clear hc7 h6
      go_wp2_with fail
      go_meet
      exact ⟨by rw [HC.out], HI.out⟩
  case rest =>
  obtain ⟨rfl, hh7⟩ := hcut
  replace HI := Lib.hid hh7
  clear hh7
  cases c7
  case true =>
    have h7 : (t : Int) = s + 2 * on ∧ (r : Int) = fi := of_decide_eq_true hc7
    have HV := Lib.hid (H2.out h5 h7.1 h7.2)
    clear H1 H2 H3 h7 hc7 h5 hr
    go_wp2_with (refine wpList_pos (by rfl) _ (by rfl) w.heap.size P X HX.out (by rfl) HI.out.p ?_)
    refine (MB.out ((s : Int) + on) _).mono ?_
    obtain ⟨b1, hb1⟩ : ∃ b, bareR P ((s : Int) + on) = b := ⟨_, rfl⟩
    rw [hb1] at HV ⊢
    rintro e w1 ⟨rfl, hbb⟩
    replace HI := Lib.hid (HI.out.go hbb)
    clear hbb hb1
    cases b1
    · go_wp2
      go_ret
      exact ⟨q_b (by rw [HV.out]; rfl), HI.out.b⟩
    · go_wp2_with (refine wpList_pos (by rfl) _ (by rfl) w.heap.size P X HX.out (by rfl) HI.out.p ?_)
      refine (MB.out (t : Int) _).mono ?_
      rintro e w2 ⟨rfl, hbb⟩
      replace HI := Lib.hid (HI.out.go hbb)
      clear hbb
      go_wp2
      go_ret
      exact ⟨q_b (by rw [HV.out]; simp), HI.out.b⟩
  have h7 : ¬ ((t : Int) = s + 2 * on ∧ (r : Int) = fi) := of_decide_eq_false hc7
  replace H3 := Lib.hid (H3.out h5 h7)
  clear H1 H2 h7 hc7 h5 hr
  obtain ⟨av, hav⟩ : ∃ b, attR P s t = b := ⟨_, rfl⟩
  have MA := Lib.hid (att_reg P X HX.out s t HT.out.1 HT.out.2 av hav)
  rw [hav] at H3
  clear hav
  go_wp2_with (refine wpList_pos (by rfl) _ (by rfl) w.heap.size P X HX.out (by rfl) HI.out.p ?_)
  refine (MA.out _).mono ?_
  rintro e w1 ⟨rfl, hbb⟩
  replace HI := Lib.hid (HI.out.go hbb)
  clear hbb MA
  cases av
  · go_wp2
    go_ret
    exact ⟨q_b (by rw [H3.out]; rfl), HI.out.b⟩
  have e1 := HI.out.p.cell (t * 2) (by have := HT.out; omega)
  have e2 := HI.out.p.cell (t * 2 + 1) (by have := HT.out; omega)
  obtain ⟨tk, htk⟩ : ∃ x, P (t * 2) = x := ⟨_, rfl⟩
  obtain ⟨td', htd⟩ : ∃ x, P (t * 2 + 1) = x := ⟨_, rfl⟩
  rw [htk] at e1 H3
  rw [htd] at e2 H3
  rw [htk, htd] at HBT
  obtain ⟨em, hem⟩ : ∃ b, pe tk td' 0 0 = b := ⟨_, rfl⟩
  rw [hem] at H3
  have HBE := Lib.hid (show bareR P (t : Int) = em by rw [HBT.out]; exact hem)
  rw [HBE.out] at H3
  go_upto_region 12 with (fail)
  have HI2 := Lib.hid (HI.out.go (below_new (w := w1) (.cells #[.int .i64 tk, .int .i64 td'] 25)))
  have HY := Lib.hid (show (w1.alloc (.cells #[.int .i64 tk, .int .i64 td'] 25)).heap[w1.heap.size]? = some (.cells #[.int .i64 tk, .int .i64 td'] 25 (0, 0)) from sl_at rfl)
  generalize w1.alloc (.cells #[.int .i64 tk, .int .i64 td'] 25) = W3 at *
  generalize w1.heap.size = yb at *
  clear e1 e2 HI HBT
  obtain ⟨y1, y2, _, _⟩ := row2 HY.out
  obtain ⟨x1, x2, _, _⟩ := row2 HI2.out.x
  replace x2 := cell_regrown x2
  replace y1 := cell_regrown y1
  replace y2 := cell_regrown y2
  have z9 := cell_regrown (HI2.out.p.cell 130 (by omega))
  have c1 := regrown_same (w := W3) (fun W => rOther_any dd W)
  have c2 := bare_reg P X HX.out W3 (t : Int) em HBE.out
  have HCP := Lib.hid HI2.out.p.regrown
  obtain ⟨ov, hov⟩ : ∃ x, P 130 = x := ⟨_, rfl⟩
  rw [hov] at z9 H3
  clear x1 htk htd HBE hov
  obtain ⟨od, hod⟩ : ∃ x, oth dd = x := ⟨_, rfl⟩
  rw [hod] at c1 H3
  clear hod
  cases em
  · by_cases hq : td' = od
    · have hq2 : (td' == od) = true := by simp [hq]
      rw [hq2] at H3
      clear hq
      refine wp_region_quiet_below (by kernel_rfl) (by kernel_rfl) ?_
      iterate 8 (go_big_quiet_step (fail))
      go_big_quiet_step (exact c1 _ _)
      repeat (go_big_quiet_step (fail))
      refine wpQuiet_nil ?_
      rintro W9 ⟨pq, rfl⟩
      have HB9 := Lib.hid (HI2.out.b.trans ((below_regrown W3 pq.d pq.os).mono HI2.out.b.size))
      generalize grow (redrawn W3 pq.d) pq.os = W9 at *
      go_wp2
      go_ret
      exact ⟨q_b (by rw [H3.out]; simp), HB9.out⟩
    · have hq2 : (td' == od) = false := by simp [hq]
      rw [hq2] at H3
      clear hq
      refine wp_region_quiet_below (by kernel_rfl) (by kernel_rfl) ?_
      iterate 8 (go_big_quiet_step (fail))
      go_big_quiet_step (exact c1 _ _)
      iterate 3 (go_big_quiet_step (fail))
      refine wpQuiet_pos (by rfl) _ (by rfl) w.heap.size P X HX.out (by rfl) HCP.out ?_
      try simp only [Act.put, List.setIfInBounds_toArray, List.set_cons_zero, List.set_cons_succ]
      iterate 1 (go_big_quiet_step (fail))
      go_big_quiet_step (exact c2 _ _)
      repeat (go_big_quiet_step (fail))
      refine wpQuiet_nil ?_
      rintro W9 ⟨pq, rfl⟩
      have HB9 := Lib.hid (HI2.out.b.trans ((below_regrown W3 pq.d pq.os).mono HI2.out.b.size))
      generalize grow (redrawn W3 pq.d) pq.os = W9 at *
      go_wp2
      go_ret
      exact ⟨q_b (by rw [H3.out]; simp), HB9.out⟩
  · refine wp_region_quiet_below (by kernel_rfl) (by kernel_rfl) ?_
    iterate 12 (go_big_quiet_step (fail))
    refine wpQuiet_pos (by rfl) _ (by rfl) w.heap.size P X HX.out (by rfl) HCP.out ?_
    try simp only [Act.put, List.setIfInBounds_toArray, List.set_cons_zero, List.set_cons_succ]
    iterate 1 (go_big_quiet_step (fail))
    go_big_quiet_step (exact c2 _ _)
    repeat (go_big_quiet_step (fail))
    refine wpQuiet_nil ?_
    rintro W9 ⟨pq, rfl⟩
    have HB9 := Lib.hid (HI2.out.b.trans ((below_regrown W3 pq.d pq.os).mono HI2.out.b.size))
    generalize grow (redrawn W3 pq.d) pq.os = W9 at *
    go_wp2
    go_ret
    exact ⟨q_b (by rw [H3.out]; simp), HB9.out⟩
end Go.Proofs.YtjhlombbkodpaaaDoor
