/-
  Contracts: the document's castlings; where a move takes.
-/
import Derived.Test.YtldepimkbnodpaaDoorPm
namespace Go.Proofs.YtldepimkbnodpaaDoor
open Go.RowKit Go.Sort
set_option linter.unusedSimpArgs false
set_option linter.unusedVariables false

/-- which castling a move is: 1 a short one, -1 a long one -/
def cslV (c kk d F T : Int) : Int :=
  if d == 1 then (if kk == 6 && F == 60 then (if T == 62 && c / 4 % 2 == 1 then 1 else if T == 58 && c / 8 % 2 == 1 then -1 else 0) else 0)
  else (if kk == 6 && F == 4 then (if T == 6 && c / 1 % 2 == 1 then 1 else if T == 2 && c / 2 % 2 == 1 then -1 else 0) else 0)
theorem cslV_k (c kk d F T : Int) (h : (kk == 6) = false) : cslV c kk d F T = 0 := by unfold cslV; rw [h]; cases d == 1 <;> rfl
theorem cslV_wf (c kk F T : Int) (h : (F == 4) = false) : cslV c kk 0 F T = 0 := by unfold cslV; rw [h, Bool.and_false]; rfl
theorem cslV_bf (c kk F T : Int) (h : (F == 60) = false) : cslV c kk 1 F T = 0 := by unfold cslV; rw [h, Bool.and_false]; rfl
theorem cslV_w (c T : Int) : cslV c 6 0 4 T = (if T == 6 && c / 1 % 2 == 1 then 1 else if T == 2 && c / 2 % 2 == 1 then -1 else 0) := rfl
theorem cslV_b (c T : Int) : cslV c 6 1 60 T = (if T == 62 && c / 4 % 2 == 1 then 1 else if T == 58 && c / 8 % 2 == 1 then -1 else 0) := rfl
theorem cell_set_n {w : World} {H : Nat} {a b : Value} {t : TypeId} (h : w.heap[H]? = some (.cells #[a, b] t (0, 0))) : w.cell? ⟨H, 0, none⟩ = some a ∧ w.cell? ⟨H, 1, none⟩ = some b := ⟨(row2 h).1, (row2 h).2.1⟩
set_option maxHeartbeats 4000000 in
set_option maxRecDepth 100000 in
theorem rCsl_any (P : Nat → Int) (F T k : Int) (hF : 0 ≤ F ∧ F < 64) (hd : P (F.toNat * 2 + 1) = 0 ∨ P (F.toNat * 2 + 1) = 1) (w : World) :
    Calls Tryd.prog 26 #[.agg (pc P).toArray, .agg #[.int .i64 F, .int .i64 T, .int .i64 k]] w fun e w' => e = .returned (.int .i64 (cslV (cas0 (P 129)) (P (F.toNat * 2)) (P (F.toNat * 2 + 1)) F T)) ∧ Below w.heap.size w w' := by
  obtain ⟨X, hX⟩ : ∃ X, X = (pc P).toArray := ⟨_, rfl⟩
  have M1 := Lib.hid (fun W => rCas_any P W)
  rw [← hX] at M1 ⊢
  have HI := Lib.hid (MC.begin w P F T k X hX)
  have HX := Lib.hid hX
  have hcr := cas0_range (P 129)
  have f0 := hF.1
  have f1 := hF.2
  have HC := Lib.hid (show ∀ W, MC w W P F T k → W.cell? ⟨w.heap.size, F.toNat * 2, none⟩ = some (.int .i64 (P (F.toNat * 2))) ∧ W.cell? ⟨w.heap.size, F.toNat * 2 + 1, none⟩ = some (.int .i64 (P (F.toNat * 2 + 1))) from fun W h => ⟨h.p.cell _ (by omega), h.p.cell _ (by omega)⟩)
  generalize P (F.toNat * 2) = kk at *
  generalize P (F.toNat * 2 + 1) = d at *
  generalize cas0 (P 129) = c at *
  have c0 := hcr.1
  have c15 := hcr.2
  clear hX hcr hF
  obtain ⟨V, hV⟩ : ∃ V, cslV c kk d F T = V := ⟨_, rfl⟩
  rw [hV]
  have HV := Lib.hid hV
  clear hV
  have POS := Lib.hid (fun W (h : MC w W P F T k) => h.p)
  go_enter Tryd.func26, Tryd.ntmps26
  go_upto_region 1 with (fail)
  refine forget_B (fun W => MC w W P F T k) HI.out ?_
  clear HI
  intro W hi
  have HI := Lib.hid hi
  clear hi
  obtain ⟨q0, q1, q2, qf, qz⟩ := row3 HI.out.m
  obtain ⟨e1, e2⟩ := HC.out _ HI.out
  go_upto_region 2 with (fail)
  refine forget_B (fun W' => MC w W' P F T k ∧ W'.heap[W.heap.size]? = some (.cells #[.int .i64 kk, .int .i64 d] 25 (0, 0))) ⟨HI.out.go (below_new _), sl_at rfl⟩ ?_
  clear e1 e2 q0 q1 q2 qf qz HI
  rintro W1 ⟨hi, hx⟩
  have HI := Lib.hid hi
  have HY := Lib.hid hx
  obtain ⟨x1, x2, xf, xz⟩ := row2 hx
  clear hi hx
  obtain ⟨q0, q1, q2, qf, qz⟩ := row3 HI.out.m
  by_cases hk : kk = 6
  case neg =>
    have hk2 : (kk != 6) = true := by simp [hk]
    have hk3 : (kk == 6) = false := by simp [hk]
    have HF := Lib.hid (show V = 0 by rw [← HV.out]; exact cslV_k _ _ _ _ _ hk3)
    clear hk3
    rcases hd with rfl | rfl
    all_goals
      go_wp2
      go_ret
      exact ⟨q_i HF.out.symm, HI.out.b⟩
  subst hk
  rcases hd with rfl | rfl
  · by_cases hf : F = 4
    case neg =>
      have hf2 : (F != 4) = true := by simp [hf]
      have hf3 : (F == 4) = false := by simp [hf]
      have HF := Lib.hid (show V = 0 by rw [← HV.out]; exact cslV_wf _ _ _ _ hf3)
      clear hf3
      go_wp2
      go_ret
      exact ⟨q_i HF.out.symm, HI.out.b⟩
    subst hf
    have HV2 := Lib.hid (HV.out.symm.trans (cslV_w c T))
    clear HV
    by_cases ha : T = 6
    case pos =>
      subst ha
      obtain ⟨x, hx⟩ : ∃ x, c / 1 % 2 = x := ⟨_, rfl⟩
      have x01 : x = 0 ∨ x = 1 := by omega
      have dx : c.tdiv 1 = c / 1 := Int.tdiv_eq_ediv_of_nonneg c0
      have mx : (c / 1).tmod 2 = x := by rw [Int.tmod_eq_emod_of_nonneg (by omega)]; exact hx
      have wx : wrap64 (c / 1) = c / 1 := by unfold wrap64; omega
      have m3x : c.tmod 2 = x := by rw [Int.tmod_eq_emod_of_nonneg c0, ← hx]; simp
      have m5x : c % 2 = x := by rw [← hx]; simp
      rcases x01 with rfl | rfl
      · have HF := Lib.hid (show V = 0 by rw [HV2.out, hx]; rfl)
        clear HV2
        go_wp2_with (refine wpList_pos (by rfl) _ (by rfl) w.heap.size P X HX.out (by rfl) HI.out.p ?_)
        refine (M1.out _).mono ?_
        rintro e w1 ⟨rfl, hb1⟩
        replace HI := Lib.hid (HI.out.go hb1)
        clear q0 q1 q2 qf qz x1 x2 xf xz hb1
        obtain ⟨q0, q1, q2, qf, qz⟩ := row3 HI.out.m
        go_wp2
        go_ret
        exact ⟨q_i HF.out.symm, HI.out.b⟩
      · have HF := Lib.hid (show V = 1 by rw [HV2.out, hx]; rfl)
        clear HV2
        go_wp2_with (refine wpList_pos (by rfl) _ (by rfl) w.heap.size P X HX.out (by rfl) HI.out.p ?_)
        refine (M1.out _).mono ?_
        rintro e w1 ⟨rfl, hb1⟩
        replace HI := Lib.hid (HI.out.go hb1)
        clear q0 q1 q2 qf qz x1 x2 xf xz hb1
        obtain ⟨q0, q1, q2, qf, qz⟩ := row3 HI.out.m
        go_wp2
        go_ret
        exact ⟨q_i HF.out.symm, HI.out.b⟩
    have ha2 : (T == 6) = false := by simp [ha]
    by_cases hb : T = 2
    case pos =>
      subst hb
      obtain ⟨x, hx⟩ : ∃ x, c / 2 % 2 = x := ⟨_, rfl⟩
      have x01 : x = 0 ∨ x = 1 := by omega
      have dx : c.tdiv 2 = c / 2 := Int.tdiv_eq_ediv_of_nonneg c0
      have mx : (c / 2).tmod 2 = x := by rw [Int.tmod_eq_emod_of_nonneg (by omega)]; exact hx
      have wx : wrap64 (c / 2) = c / 2 := by unfold wrap64; omega
      rcases x01 with rfl | rfl
      · have HF := Lib.hid (show V = 0 by rw [HV2.out, hx]; rfl)
        clear HV2 ha ha2
        go_wp2_with (refine wpList_pos (by rfl) _ (by rfl) w.heap.size P X HX.out (by rfl) HI.out.p ?_)
        refine (M1.out _).mono ?_
        rintro e w1 ⟨rfl, hb1⟩
        replace HI := Lib.hid (HI.out.go hb1)
        clear q0 q1 q2 qf qz x1 x2 xf xz hb1
        obtain ⟨q0, q1, q2, qf, qz⟩ := row3 HI.out.m
        go_wp2
        go_ret
        exact ⟨q_i HF.out.symm, HI.out.b⟩
      · have HF := Lib.hid (show V = -1 by rw [HV2.out, hx]; rfl)
        clear HV2 ha ha2
        go_wp2_with (refine wpList_pos (by rfl) _ (by rfl) w.heap.size P X HX.out (by rfl) HI.out.p ?_)
        refine (M1.out _).mono ?_
        rintro e w1 ⟨rfl, hb1⟩
        replace HI := Lib.hid (HI.out.go hb1)
        clear q0 q1 q2 qf qz x1 x2 xf xz hb1
        obtain ⟨q0, q1, q2, qf, qz⟩ := row3 HI.out.m
        go_wp2
        go_ret
        exact ⟨q_i HF.out.symm, HI.out.b⟩
    have hb2 : (T == 2) = false := by simp [hb]
    have HF := Lib.hid (show V = 0 by rw [HV2.out, ha2, hb2]; rfl)
    clear HV2
    go_wp2
    go_ret
    exact ⟨q_i HF.out.symm, HI.out.b⟩
  · by_cases hf : F = 60
    case neg =>
      have hf2 : (F != 60) = true := by simp [hf]
      have hf3 : (F == 60) = false := by simp [hf]
      have HF := Lib.hid (show V = 0 by rw [← HV.out]; exact cslV_bf _ _ _ _ hf3)
      clear hf3
      go_wp2
      go_ret
      exact ⟨q_i HF.out.symm, HI.out.b⟩
    subst hf
    have HV2 := Lib.hid (HV.out.symm.trans (cslV_b c T))
    clear HV
    by_cases ha : T = 62
    case pos =>
      subst ha
      obtain ⟨x, hx⟩ : ∃ x, c / 4 % 2 = x := ⟨_, rfl⟩
      have x01 : x = 0 ∨ x = 1 := by omega
      have dx : c.tdiv 4 = c / 4 := Int.tdiv_eq_ediv_of_nonneg c0
      have mx : (c / 4).tmod 2 = x := by rw [Int.tmod_eq_emod_of_nonneg (by omega)]; exact hx
      have wx : wrap64 (c / 4) = c / 4 := by unfold wrap64; omega
      rcases x01 with rfl | rfl
      · have HF := Lib.hid (show V = 0 by rw [HV2.out, hx]; rfl)
        clear HV2
        go_wp2_with (refine wpList_pos (by rfl) _ (by rfl) w.heap.size P X HX.out (by rfl) HI.out.p ?_)
        refine (M1.out _).mono ?_
        rintro e w1 ⟨rfl, hb1⟩
        replace HI := Lib.hid (HI.out.go hb1)
        clear q0 q1 q2 qf qz x1 x2 xf xz hb1
        obtain ⟨q0, q1, q2, qf, qz⟩ := row3 HI.out.m
        go_wp2
        go_ret
        exact ⟨q_i HF.out.symm, HI.out.b⟩
      · have HF := Lib.hid (show V = 1 by rw [HV2.out, hx]; rfl)
        clear HV2
        go_wp2_with (refine wpList_pos (by rfl) _ (by rfl) w.heap.size P X HX.out (by rfl) HI.out.p ?_)
        refine (M1.out _).mono ?_
        rintro e w1 ⟨rfl, hb1⟩
        replace HI := Lib.hid (HI.out.go hb1)
        clear q0 q1 q2 qf qz x1 x2 xf xz hb1
        obtain ⟨q0, q1, q2, qf, qz⟩ := row3 HI.out.m
        go_wp2
        go_ret
        exact ⟨q_i HF.out.symm, HI.out.b⟩
    have ha2 : (T == 62) = false := by simp [ha]
    by_cases hb : T = 58
    case pos =>
      subst hb
      obtain ⟨x, hx⟩ : ∃ x, c / 8 % 2 = x := ⟨_, rfl⟩
      have x01 : x = 0 ∨ x = 1 := by omega
      have dx : c.tdiv 8 = c / 8 := Int.tdiv_eq_ediv_of_nonneg c0
      have mx : (c / 8).tmod 2 = x := by rw [Int.tmod_eq_emod_of_nonneg (by omega)]; exact hx
      have wx : wrap64 (c / 8) = c / 8 := by unfold wrap64; omega
      rcases x01 with rfl | rfl
      · have HF := Lib.hid (show V = 0 by rw [HV2.out, hx]; rfl)
        clear HV2 ha ha2
        go_wp2_with (refine wpList_pos (by rfl) _ (by rfl) w.heap.size P X HX.out (by rfl) HI.out.p ?_)
        refine (M1.out _).mono ?_
        rintro e w1 ⟨rfl, hb1⟩
        replace HI := Lib.hid (HI.out.go hb1)
        clear q0 q1 q2 qf qz x1 x2 xf xz hb1
        obtain ⟨q0, q1, q2, qf, qz⟩ := row3 HI.out.m
        go_wp2
        go_ret
        exact ⟨q_i HF.out.symm, HI.out.b⟩
      · have HF := Lib.hid (show V = -1 by rw [HV2.out, hx]; rfl)
        clear HV2 ha ha2
        go_wp2_with (refine wpList_pos (by rfl) _ (by rfl) w.heap.size P X HX.out (by rfl) HI.out.p ?_)
        refine (M1.out _).mono ?_
        rintro e w1 ⟨rfl, hb1⟩
        replace HI := Lib.hid (HI.out.go hb1)
        clear q0 q1 q2 qf qz x1 x2 xf xz hb1
        obtain ⟨q0, q1, q2, qf, qz⟩ := row3 HI.out.m
        go_wp2
        go_ret
        exact ⟨q_i HF.out.symm, HI.out.b⟩
    have hb2 : (T == 58) = false := by simp [hb]
    have HF := Lib.hid (show V = 0 by rw [HV2.out, ha2, hb2]; rfl)
    clear HV2
    go_wp2
    go_ret
    exact ⟨q_i HF.out.symm, HI.out.b⟩
end Go.Proofs.YtldepimkbnodpaaDoor
