/-
  Contracts: the document's small questions on moves.
-/
import Derived.Test.YtldepimkbnodpaaDoorPi
namespace Go.Proofs.YtldepimkbnodpaaDoor
open Go.RowKit Go.Sort
set_option linter.unusedSimpArgs false
set_option linter.unusedVariables false

theorem rIs8_any (s : Int) (w : World) :
    Calls Tryd.prog 24 #[.int .i64 s] w fun e w' => e = .returned (.bool (sq s)) ∧ w = w' := by
  rcases sq_cases s with ⟨h, hb⟩ | ⟨h, hb⟩ | ⟨h, h2, hb⟩
  all_goals rw [hb]
  all_goals clear hb
  all_goals
    go_enter Tryd.func24, Tryd.ntmps24
    go_wp2
    go_ret
    exact ⟨q_b (by first | rfl | (simp; done) | (simp; omega)), rfl⟩
theorem own_may (P : Nat → Int) (f : Nat) : ownB P f = (mayB (P (2 * f)) (P (2 * f + 1)) && (P (2 * f + 1) == P 128)) := by
  unfold ownB mayB
  by_cases h : P (2 * f + 1) = P 128
  · rw [h, beq_self_eq_true]
    cases sideB (P 128) <;> cases decide (1 ≤ P (2 * f)) <;> cases decide (P (2 * f) ≤ 6) <;> rfl
  · have h2 : (P (2 * f + 1) == P 128) = false := by simp [h]
    rw [h2, Bool.and_false, Bool.and_false]; rfl
theorem bec_k (P : Nat → Int) (f t : Nat) (k : Int) (hk : P (2 * f) ≠ 1) : becB P f t k = (k == 0) := by
  unfold becB pwnB; simp [hk]
theorem bec_w (P : Nat → Int) (f t : Nat) (k : Int) (hk : P (2 * f) = 1) (hs : P 128 = 0) : becB P f t k = if t / 8 = 7 then decide (2 ≤ k) && decide (k ≤ 5) else k == 0 := by
  unfold becB pwnB rkN
  rw [hk, if_pos hs]
  by_cases h : t / 8 = 7
  · simp [h]
  · rw [if_neg h]; simp; intro h2; omega
theorem bec_b (P : Nat → Int) (f t : Nat) (k : Int) (ht : t < 64) (hk : P (2 * f) = 1) (hs : P 128 = 1) : becB P f t k = if t / 8 = 0 then decide (2 ≤ k) && decide (k ≤ 5) else k == 0 := by
  unfold becB pwnB rkN
  rw [hk, hs, if_neg (show ¬ ((1 : Int) = 0) by omega)]
  by_cases h : t / 8 = 0
  · simp [h]
  · rw [if_neg h]; simp; intro h2; omega
set_option maxHeartbeats 4000000 in
set_option maxRecDepth 100000 in
theorem rCan_any (P : Nat → Int) (f t : Nat) (k : Int) (hf : f < 64) (ht : t < 64) (w : World) :
    Calls Tryd.prog 25 #[.agg (pc P).toArray, .agg #[.int .i64 (f : Int), .int .i64 (t : Int), .int .i64 k]] w fun e w' => e = .returned (.bool (ownB P f && becB P f t k)) ∧ Below w.heap.size w w' := by
  obtain ⟨X, hX⟩ : ∃ X, X = (pc P).toArray := ⟨_, rfl⟩
  rw [← hX]
  have HI := Lib.hid (MC.begin w P (f : Int) (t : Int) k X hX)
  have s0 : (0 : Int) ≤ f := by omega
  have s1 : (f : Int) < 64 := by omega
  have hv1 := own_may P f
  have HBK := Lib.hid (bec_k P f t k)
  have HBW := Lib.hid (bec_w P f t k)
  have HBB := Lib.hid (bec_b P f t k ht)
  generalize becB P f t k = be at *
  generalize ownB P f = ow at *
  have HC := Lib.hid (show ∀ W, MC w W P f t k → W.cell? ⟨w.heap.size, f * 2, none⟩ = some (.int .i64 (P (2 * f))) ∧ W.cell? ⟨w.heap.size, f * 2 + 1, none⟩ = some (.int .i64 (P (2 * f + 1))) ∧ W.cell? ⟨w.heap.size, 128, none⟩ = some (.int .i64 (P 128)) from fun W h => by
    rw [Nat.mul_comm 2 f]; exact ⟨h.p.cell _ (by omega), h.p.cell _ (by omega), h.p.cell _ (by omega)⟩)
  generalize P (2 * f) = kk at *
  generalize P (2 * f + 1) = dd at *
  generalize P 128 = sd at *
  clear hX
  obtain ⟨r, hr⟩ : ∃ r : Nat, t / 8 = r := ⟨_, rfl⟩
  rw [hr] at HBW HBB
  have td : (t : Int).tdiv 8 = (r : Int) := by rw [Int.tdiv_eq_ediv_of_nonneg (by omega)]; omega
  have td2 : (t : Int) / 8 = (r : Int) := by omega
  have tw : wrap64 (r : Int) = (r : Int) := by unfold wrap64; omega
  have HV1 := Lib.hid hv1
  clear hv1 hr
  go_enter Tryd.func25, Tryd.ntmps25
  go_upto_region 1 with (fail)
  refine forget_B (fun W => MC w W P f t k) HI.out ?_
  clear HI
  intro W hi
  have HI := Lib.hid hi
  clear hi
  obtain ⟨q0, q1, q2, qf, qz⟩ := row3 HI.out.m
  obtain ⟨e1, e2, e3⟩ := HC.out _ HI.out
  go_upto_region 2 with (fail)
  refine forget_B (fun W' => MC w W' P f t k ∧ W'.heap[W.heap.size]? = some (.cells #[.int .i64 kk, .int .i64 dd] 25 (0, 0))) ⟨HI.out.go (below_new _), sl_at rfl⟩ ?_
  clear e1 e2 e3 q0 q1 q2 qf qz HI
  rintro W1 ⟨hi, hx⟩
  have HI := Lib.hid hi
  have HX := Lib.hid hx
  obtain ⟨x1, x2, xf, xz⟩ := row2 hx
  obtain ⟨mb, hmb⟩ : ∃ m, mayB kk dd = m := ⟨_, rfl⟩
  rw [hmb] at HV1
  have HMB := Lib.hid hmb
  clear hi hx hmb
  go_wp2_with fail
  refine (rMay_any kk dd _).mono ?_
  rw [HMB.out]
  rintro e w1 ⟨rfl, hb1⟩
  replace HI := Lib.hid (HI.out.go hb1)
  replace HX := Lib.hid (sl_go HX.out hb1)
  clear x1 x2 xf xz hb1
  obtain ⟨x1, x2, xf, xz⟩ := row2 HX.out
  obtain ⟨q0, q1, q2, qf, qz⟩ := row3 HI.out.m
  obtain ⟨e1, e2, e3⟩ := HC.out _ HI.out
  cases mb
  · go_wp2
    go_ret
    exact ⟨q_b (by rw [HV1.out]; rfl), HI.out.b⟩
  by_cases hd : dd = sd
  case neg =>
    have hd2 : (dd == sd) = false := by simp [hd]
    have hd3 : (dd != sd) = true := by simp [hd]
    rw [hd2] at HV1
    go_wp2
    go_ret
    exact ⟨q_b (by rw [HV1.out]; rfl), HI.out.b⟩
  subst hd
  have HOW := Lib.hid (show ow = true by rw [HV1.out]; simp)
  by_cases hk : kk = 1
  case neg =>
    have hk2 : (kk == 1) = false := by simp [hk]
    have HBE := Lib.hid (HBK.out hk)
    go_wp2
    go_ret
    exact ⟨q_b (by rw [HOW.out, HBE.out]; rfl), HI.out.b⟩
  subst hk
  have hdd : dd = 0 ∨ dd = 1 := by
    have := HMB.out
    unfold mayB sideB at this
    simp at this
    exact this
  rcases hdd with rfl | rfl
  · by_cases h7 : r = 7
    · subst h7
      have HBE := Lib.hid (show be = (decide (2 ≤ k) && decide (k ≤ 5)) by rw [HBW.out rfl rfl]; simp)
      by_cases h2 : 2 ≤ k
      · go_wp2
        go_ret
        exact ⟨q_b (by rw [HOW.out, HBE.out]; simp [h2]), HI.out.b⟩
      · go_wp2
        go_ret
        exact ⟨q_b (by rw [HOW.out, HBE.out]; simp; omega), HI.out.b⟩
    · have HBE := Lib.hid (show be = (k == 0) by rw [HBW.out rfl rfl, if_neg h7])
      have h7b : ((r : Int) == 7) = false := by simp; omega
      go_wp2
      go_ret
      exact ⟨q_b (by rw [HOW.out, HBE.out]; rfl), HI.out.b⟩
  · by_cases h7 : r = 0
    · subst h7
      have HBE := Lib.hid (show be = (decide (2 ≤ k) && decide (k ≤ 5)) by rw [HBB.out rfl rfl]; simp)
      by_cases h2 : 2 ≤ k
      · go_wp2
        go_ret
        exact ⟨q_b (by rw [HOW.out, HBE.out]; simp [h2]), HI.out.b⟩
      · go_wp2
        go_ret
        exact ⟨q_b (by rw [HOW.out, HBE.out]; simp; omega), HI.out.b⟩
    · have HBE := Lib.hid (show be = (k == 0) by rw [HBB.out rfl rfl, if_neg h7])
      have h7b : ((r : Int) == 0) = false := by simp; omega
      go_wp2
      go_ret
      exact ⟨q_b (by rw [HOW.out, HBE.out]; rfl), HI.out.b⟩
set_option maxHeartbeats 4000000 in
set_option maxRecDepth 100000 in
theorem rOver8_any (P : Nat → Int) (f t : Nat) (k : Int) (hf : f < 64) (ht : t < 64) (w : World) :
    Calls Tryd.prog 33 #[.agg (pc P).toArray, .agg #[.int .i64 (f : Int), .int .i64 (t : Int), .int .i64 k]] w fun e w' => e = .returned (.bool (ovrB P f t)) ∧ Below w.heap.size w w' := by
  obtain ⟨X, hX⟩ : ∃ X, X = (pc P).toArray := ⟨_, rfl⟩
  rw [← hX]
  have HI := Lib.hid (MC.begin w P (f : Int) (t : Int) k X hX)
  have s0 : (0 : Int) ≤ f := by omega
  have s1 : (f : Int) < 64 := by omega
  have t0 : (0 : Int) ≤ t := by omega
  have t1 : (t : Int) < 64 := by omega
  have hv : ovrB P f t = (P (f * 2) == 1 && !smF f t && ((t : Int) == P 130) && pe (P (t * 2)) (P (t * 2 + 1)) 0 0) := by unfold ovrB; rw [pwnB_at, emB_at]
  have HC := Lib.hid (show ∀ W, MC w W P f t k → W.cell? ⟨w.heap.size, f * 2, none⟩ = some (.int .i64 (P (f * 2))) ∧ W.cell? ⟨w.heap.size, t * 2, none⟩ = some (.int .i64 (P (t * 2))) ∧ W.cell? ⟨w.heap.size, t * 2 + 1, none⟩ = some (.int .i64 (P (t * 2 + 1))) ∧ W.cell? ⟨w.heap.size, 130, none⟩ = some (.int .i64 (P 130)) from fun W h =>
    ⟨h.p.cell _ (by omega), h.p.cell _ (by omega), h.p.cell _ (by omega), h.p.cell _ (by omega)⟩)
  obtain ⟨x, hx⟩ : ∃ x : Nat, f % 8 = x := ⟨_, rfl⟩
  obtain ⟨y, hy⟩ : ∃ y : Nat, t % 8 = y := ⟨_, rfl⟩
  have tm1 : (f : Int).tmod 8 = (x : Int) := by rw [Int.tmod_eq_emod_of_nonneg (by omega)]; omega
  have tm2 : (t : Int).tmod 8 = (y : Int) := by rw [Int.tmod_eq_emod_of_nonneg (by omega)]; omega
  have tm3 : (f : Int) % 8 = (x : Int) := by omega
  have tm4 : (t : Int) % 8 = (y : Int) := by omega
  obtain ⟨sm, hsm⟩ : ∃ s, smF f t = s := ⟨_, rfl⟩
  rw [hsm] at hv
  have hsm2 : ((x : Int) != (y : Int)) = !sm := by
    rw [← hsm]; unfold smF; rw [hx, hy]
    by_cases h : x = y
    · subst h; simp
    · have h2 : (x == y) = false := by simp [h]
      have h3 : ((x : Int) != (y : Int)) = true := by simp; omega
      rw [h2, h3]; rfl
  generalize P (f * 2) = kk at *
  generalize P (t * 2) = tk at *
  generalize P (t * 2 + 1) = td at *
  generalize P 130 = o at *
  obtain ⟨em, hem⟩ : ∃ e, pe tk td 0 0 = e := ⟨_, rfl⟩
  rw [hem] at hv
  have HV := Lib.hid hv
  clear hv hX hx hy hsm
  go_enter Tryd.func33, Tryd.ntmps33
  go_upto_region 1 with (fail)
  refine forget_B (fun W => MC w W P f t k) HI.out ?_
  clear HI
  intro W hi
  have HI := Lib.hid hi
  clear hi
  obtain ⟨q0, q1, q2, qf, qz⟩ := row3 HI.out.m
  obtain ⟨e1, e2, e3, e4⟩ := HC.out _ HI.out
  by_cases hk : kk = 1
  case neg =>
    have hk2 : (kk == 1) = false := by simp [hk]
    go_wp2
    go_ret
    exact ⟨q_b (by rw [HV.out, hk2]; rfl), HI.out.b⟩
  subst hk
  cases sm
  case true =>
    go_wp2
    go_ret
    exact ⟨q_b (by rw [HV.out]; rfl), HI.out.b⟩
  by_cases ho : (t : Int) = o
  case neg =>
    have ho2 : ((t : Int) == o) = false := by simp [ho]
    go_wp2
    go_ret
    exact ⟨q_b (by rw [HV.out, ho2]; rfl), HI.out.b⟩
  subst ho
  go_wp2
  go_ret
  exact ⟨q_b (by rw [HV.out]; simp [hem]), HI.out.b⟩
end Go.Proofs.YtldepimkbnodpaaDoor
