/-
  Merged: Pk, Pl.
-/
import Derived.Test.YtlfapakllhhadaaDoorPi

namespace Go.Proofs.YtlfapakllhhadaaDoor
open Go.RowKit Go.Sort
set_option linter.unusedSimpArgs false
set_option linter.unusedVariables false
set_option maxRecDepth 20000

theorem rIs8_any (s : Int) (w : World) :
    Calls Tryd.prog 34 #[.int .i64 s] w fun e w' => e = .returned (.bool (sq s)) ∧ w = w' := by
  rcases sq_cases s with ⟨h, hb⟩ | ⟨h, hb⟩ | ⟨h, h2, hb⟩
  all_goals rw [hb]
  all_goals clear hb
  all_goals
    go_enter Tryd.func34, Tryd.ntmps34
    go_wp2
    go_ret
    exact ⟨q_b (by first | rfl | (simp; done) | (simp; omega)), rfl⟩
theorem own_may (P : Nat → Int) (f : Nat) : ownB P f = (mayB (P (2 * f)) (P (2 * f + 1)) && (P (2 * f + 1) == P 128)) := by
  unfold ownB mayB
  by_cases h : P (2 * f + 1) = P 128
  · rw [h, beq_self_eq_true]
    cases sideB (P 128) <;> cases decide (1 ≤ P (2 * f)) <;> cases decide (P (2 * f) ≤ 6) <;> rfl
  · have h2 : (P (2 * f + 1) == P 128) = false := by simp [h]
    rw [h2, Bool.and_false, Bool.and_false]; rfl
theorem bec_k (P : Nat → Int) (f t : Nat) (k : Int) (hk : P (2 * f) ≠ 1) : becB P f t k = (k == 0) := by
  unfold becB pwnB; simp [hk]
theorem bec_w (P : Nat → Int) (f t : Nat) (k : Int) (hk : P (2 * f) = 1) (hs : P 128 = 0) : becB P f t k = if t / 8 = 7 then decide (2 ≤ k) && decide (k ≤ 5) else k == 0 := by
  unfold becB pwnB rkN
  rw [hk, if_pos hs]
  by_cases h : t / 8 = 7
  · simp [h]
  · rw [if_neg h]; simp; intro h2; omega
theorem bec_b (P : Nat → Int) (f t : Nat) (k : Int) (ht : t < 64) (hk : P (2 * f) = 1) (hs : P 128 = 1) : becB P f t k = if t / 8 = 0 then decide (2 ≤ k) && decide (k ≤ 5) else k == 0 := by
  unfold becB pwnB rkN
  rw [hk, hs, if_neg (show ¬ ((1 : Int) = 0) by omega)]
  by_cases h : t / 8 = 0
  · simp [h]
  · rw [if_neg h]; simp; intro h2; omega
set_option maxHeartbeats 4000000 in
set_option maxRecDepth 100000 in
theorem rCan_any (P : Nat → Int) (f t : Nat) (k : Int) (hf : f < 64) (ht : t < 64) (w : World) :
    Calls Tryd.prog 35 #[.agg (pc P).toArray, .agg #[.int .i64 (f : Int), .int .i64 (t : Int), .int .i64 k]] w fun e w' => e = .returned (.bool (ownB P f && becB P f t k)) ∧ Below w.heap.size w w' := by
  obtain ⟨X, hX⟩ : ∃ X, X = (pc P).toArray := ⟨_, rfl⟩
  rw [← hX]
  have HI := Lib.hid (MC.begin w P (f : Int) (t : Int) k X hX)
  have s0 : (0 : Int) ≤ f := by omega
  have s1 : (f : Int) < 64 := by omega
  have hv1 := own_may P f
  have HBK := Lib.hid (bec_k P f t k)
  have HBW := Lib.hid (bec_w P f t k)
  have HBB := Lib.hid (bec_b P f t k ht)
  generalize becB P f t k = be at *
  generalize ownB P f = ow at *
  have HC := Lib.hid (show ∀ W, MC w W P f t k → W.cell? ⟨w.heap.size, f * 2, none⟩ = some (.int .i64 (P (2 * f))) ∧ W.cell? ⟨w.heap.size, f * 2 + 1, none⟩ = some (.int .i64 (P (2 * f + 1))) ∧ W.cell? ⟨w.heap.size, 128, none⟩ = some (.int .i64 (P 128)) from fun W h => by
    rw [Nat.mul_comm 2 f]; exact ⟨h.p.cell _ (by omega), h.p.cell _ (by omega), h.p.cell _ (by omega)⟩)
  generalize P (2 * f) = kk at *
  generalize P (2 * f + 1) = dd at *
  generalize P 128 = sd at *
  clear hX
  obtain ⟨r, hr⟩ : ∃ r : Nat, t / 8 = r := ⟨_, rfl⟩
  rw [hr] at HBW HBB
  have td : (t : Int).tdiv 8 = (r : Int) := by rw [Int.tdiv_eq_ediv_of_nonneg (by omega)]; omega
  have td2 : (t : Int) / 8 = (r : Int) := by omega
  have tw : wrap64 (r : Int) = (r : Int) := by unfold wrap64; omega
  have HV1 := Lib.hid hv1
  clear hv1 hr
  go_enter Tryd.func35, Tryd.ntmps35
  go_upto_region 1 with (fail)
  refine forget_B (fun W => MC w W P f t k) HI.out ?_
  clear HI
  intro W hi
  have HI := Lib.hid hi
  clear hi
  obtain ⟨q0, q1, q2, qf, qz⟩ := row3 HI.out.m
  obtain ⟨e1, e2, e3⟩ := HC.out _ HI.out
  go_upto_region 2 with (fail)
  refine forget_B (fun W' => MC w W' P f t k ∧ W'.heap[W.heap.size]? = some (.cells #[.int .i64 kk, .int .i64 dd] 25 (0, 0))) ⟨HI.out.go (below_new _), sl_at rfl⟩ ?_
  clear e1 e2 e3 q0 q1 q2 qf qz HI
  rintro W1 ⟨hi, hx⟩
  have HI := Lib.hid hi
  have HX := Lib.hid hx
  obtain ⟨x1, x2, xf, xz⟩ := row2 hx
  obtain ⟨mb, hmb⟩ : ∃ m, mayB kk dd = m := ⟨_, rfl⟩
  rw [hmb] at HV1
  have HMB := Lib.hid hmb
  clear hi hx hmb
  go_wp2_with fail
  refine (rMay_any kk dd _).mono ?_
  rw [HMB.out]
  rintro e w1 ⟨rfl, hb1⟩
  replace HI := Lib.hid (HI.out.go hb1)
  replace HX := Lib.hid (sl_go HX.out hb1)
  clear x1 x2 xf xz hb1
  obtain ⟨x1, x2, xf, xz⟩ := row2 HX.out
  obtain ⟨q0, q1, q2, qf, qz⟩ := row3 HI.out.m
  obtain ⟨e1, e2, e3⟩ := HC.out _ HI.out
  cases mb
  · go_wp2
    go_ret
    exact ⟨q_b (by rw [HV1.out]; rfl), HI.out.b⟩
  by_cases hd : dd = sd
  case neg =>
    have hd2 : (dd == sd) = false := by simp [hd]
    have hd3 : (dd != sd) = true := by simp [hd]
    rw [hd2] at HV1
    go_wp2
    go_ret
    exact ⟨q_b (by rw [HV1.out]; rfl), HI.out.b⟩
  subst hd
  have HOW := Lib.hid (show ow = true by rw [HV1.out]; simp)
  by_cases hk : kk = 1
  case neg =>
    have hk2 : (kk == 1) = false := by simp [hk]
    have HBE := Lib.hid (HBK.out hk)
    go_wp2
    go_ret
    exact ⟨q_b (by rw [HOW.out, HBE.out]; rfl), HI.out.b⟩
  subst hk
  have hdd : dd = 0 ∨ dd = 1 := by
    have := HMB.out
    unfold mayB sideB at this
    simp at this
    exact this
  rcases hdd with rfl | rfl
  · by_cases h7 : r = 7
    · subst h7
      have HBE := Lib.hid (show be = (decide (2 ≤ k) && decide (k ≤ 5)) by rw [HBW.out rfl rfl]; simp)
      by_cases h2 : 2 ≤ k
      · go_wp2
        go_ret
        exact ⟨q_b (by rw [HOW.out, HBE.out]; simp [h2]), HI.out.b⟩
      · go_wp2
        go_ret
        exact ⟨q_b (by rw [HOW.out, HBE.out]; simp; omega), HI.out.b⟩
    · have HBE := Lib.hid (show be = (k == 0) by rw [HBW.out rfl rfl, if_neg h7])
      have h7b : ((r : Int) == 7) = false := by simp; omega
      go_wp2
      go_ret
      exact ⟨q_b (by rw [HOW.out, HBE.out]; rfl), HI.out.b⟩
  · by_cases h7 : r = 0
    · subst h7
      have HBE := Lib.hid (show be = (decide (2 ≤ k) && decide (k ≤ 5)) by rw [HBB.out rfl rfl]; simp)
      by_cases h2 : 2 ≤ k
      · go_wp2
        go_ret
        exact ⟨q_b (by rw [HOW.out, HBE.out]; simp [h2]), HI.out.b⟩
      · go_wp2
        go_ret
        exact ⟨q_b (by rw [HOW.out, HBE.out]; simp; omega), HI.out.b⟩
    · have HBE := Lib.hid (show be = (k == 0) by rw [HBB.out rfl rfl, if_neg h7])
      have h7b : ((r : Int) == 0) = false := by simp; omega
      go_wp2
      go_ret
      exact ⟨q_b (by rw [HOW.out, HBE.out]; rfl), HI.out.b⟩
set_option maxHeartbeats 4000000 in
set_option maxRecDepth 100000 in
theorem rOver8_any (P : Nat → Int) (f t : Nat) (k : Int) (hf : f < 64) (ht : t < 64) (w : World) :
    Calls Tryd.prog 43 #[.agg (pc P).toArray, .agg #[.int .i64 (f : Int), .int .i64 (t : Int), .int .i64 k]] w fun e w' => e = .returned (.bool (ovrB P f t)) ∧ Below w.heap.size w w' := by
  obtain ⟨X, hX⟩ : ∃ X, X = (pc P).toArray := ⟨_, rfl⟩
  rw [← hX]
  have HI := Lib.hid (MC.begin w P (f : Int) (t : Int) k X hX)
  have s0 : (0 : Int) ≤ f := by omega
  have s1 : (f : Int) < 64 := by omega
  have t0 : (0 : Int) ≤ t := by omega
  have t1 : (t : Int) < 64 := by omega
  have hv : ovrB P f t = (P (f * 2) == 1 && !smF f t && ((t : Int) == P 130) && pe (P (t * 2)) (P (t * 2 + 1)) 0 0) := by unfold ovrB; rw [pwnB_at, emB_at]
  have HC := Lib.hid (show ∀ W, MC w W P f t k → W.cell? ⟨w.heap.size, f * 2, none⟩ = some (.int .i64 (P (f * 2))) ∧ W.cell? ⟨w.heap.size, t * 2, none⟩ = some (.int .i64 (P (t * 2))) ∧ W.cell? ⟨w.heap.size, t * 2 + 1, none⟩ = some (.int .i64 (P (t * 2 + 1))) ∧ W.cell? ⟨w.heap.size, 130, none⟩ = some (.int .i64 (P 130)) from fun W h =>
    ⟨h.p.cell _ (by omega), h.p.cell _ (by omega), h.p.cell _ (by omega), h.p.cell _ (by omega)⟩)
  obtain ⟨x, hx⟩ : ∃ x : Nat, f % 8 = x := ⟨_, rfl⟩
  obtain ⟨y, hy⟩ : ∃ y : Nat, t % 8 = y := ⟨_, rfl⟩
  have tm1 : (f : Int).tmod 8 = (x : Int) := by rw [Int.tmod_eq_emod_of_nonneg (by omega)]; omega
  have tm2 : (t : Int).tmod 8 = (y : Int) := by rw [Int.tmod_eq_emod_of_nonneg (by omega)]; omega
  have tm3 : (f : Int) % 8 = (x : Int) := by omega
  have tm4 : (t : Int) % 8 = (y : Int) := by omega
  obtain ⟨sm, hsm⟩ : ∃ s, smF f t = s := ⟨_, rfl⟩
  rw [hsm] at hv
  have hsm2 : ((x : Int) != (y : Int)) = !sm := by
    rw [← hsm]; unfold smF; rw [hx, hy]
    by_cases h : x = y
    · subst h; simp
    · have h2 : (x == y) = false := by simp [h]
      have h3 : ((x : Int) != (y : Int)) = true := by simp; omega
      rw [h2, h3]; rfl
  generalize P (f * 2) = kk at *
  generalize P (t * 2) = tk at *
  generalize P (t * 2 + 1) = td at *
  generalize P 130 = o at *
  obtain ⟨em, hem⟩ : ∃ e, pe tk td 0 0 = e := ⟨_, rfl⟩
  rw [hem] at hv
  have HV := Lib.hid hv
  clear hv hX hx hy hsm
  go_enter Tryd.func43, Tryd.ntmps43
  go_upto_region 1 with (fail)
  refine forget_B (fun W => MC w W P f t k) HI.out ?_
  clear HI
  intro W hi
  have HI := Lib.hid hi
  clear hi
  obtain ⟨q0, q1, q2, qf, qz⟩ := row3 HI.out.m
  obtain ⟨e1, e2, e3, e4⟩ := HC.out _ HI.out
  by_cases hk : kk = 1
  case neg =>
    have hk2 : (kk == 1) = false := by simp [hk]
    go_wp2
    go_ret
    exact ⟨q_b (by rw [HV.out, hk2]; rfl), HI.out.b⟩
  subst hk
  cases sm
  case true =>
    go_wp2
    go_ret
    exact ⟨q_b (by rw [HV.out]; rfl), HI.out.b⟩
  by_cases ho : (t : Int) = o
  case neg =>
    have ho2 : ((t : Int) == o) = false := by simp [ho]
    go_wp2
    go_ret
    exact ⟨q_b (by rw [HV.out, ho2]; rfl), HI.out.b⟩
  subst ho
  go_wp2
  go_ret
  exact ⟨q_b (by rw [HV.out]; simp [hem]), HI.out.b⟩
end Go.Proofs.YtlfapakllhhadaaDoor

namespace Go.Proofs.YtlfapakllhhadaaDoor
open Go.RowKit Go.Sort
set_option linter.unusedSimpArgs false
set_option linter.unusedVariables false

theorem hand_at (P : Nat → Int) (i : Nat) (h : i ≠ 129) : handP P i = P i := by unfold handP setN; rw [if_neg h]
theorem hand_cas (P : Nat → Int) : handP P 129 = cas0 (P 129) := rfl
theorem em_hand (P : Nat → Int) (s : Nat) (hs : s < 64) : emB (handP P) s = emB P s := by unfold emB; rw [hand_at P _ (by omega), hand_at P _ (by omega)]
theorem rk_hand (P : Nat → Int) (s : Nat) : rkN (handP P) s = rkN P s := by unfold rkN; rw [hand_at P 128 (by omega)]
theorem pwn_hand (P : Nat → Int) (s : Nat) (hs : s < 64) : pwnB (handP P) s = pwnB P s := by unfold pwnB; rw [hand_at P _ (by omega)]
theorem own_hand (P : Nat → Int) (s : Nat) (hs : s < 64) : ownB (handP P) s = ownB P s := by unfold ownB; rw [hand_at P 128 (by omega), hand_at P _ (by omega), hand_at P _ (by omega)]
theorem bec_hand (P : Nat → Int) (f t : Nat) (k : Int) (hf : f < 64) : becB (handP P) f t k = becB P f t k := by unfold becB; rw [pwn_hand P f hf, rk_hand]
theorem ovr_hand (P : Nat → Int) (f t : Nat) (hf : f < 64) (ht : t < 64) : ovrB (handP P) f t = ovrB P f t := by unfold ovrB; rw [pwn_hand P f hf, em_hand P t ht, hand_at P 130 (by omega)]
theorem at_hand (P : Nat → Int) (f t : Nat) (hf : f < 64) (ht : t < 64) : atN (handP P) f t = atN P f t := by unfold atN; rw [ovr_hand P f t hf ht]
theorem tks_hand (P : Nat → Int) (f t : Nat) (hf : f < 64) (ht : t < 64) : tksN (handP P) f t = tksN P f t := by unfold tksN; rw [at_hand P f t hf ht, em_hand P _ (atN_lt P f t hf ht)]
theorem lng_hand (P : Nat → Int) (f t : Nat) (hf : f < 64) : lngB (handP P) f t = lngB P f t := by unfold lngB; rw [pwn_hand P f hf, rk_hand, rk_hand]
theorem flt_hand (P : Nat → Int) (f t k : Int) : fltN (handP P) f t k = fltN P f t k := by
  unfold fltN
  by_cases h : (!sq f || !sq t || f == t) = true
  · rw [if_pos h, if_pos h]
  · rw [if_neg h, if_neg h]
    simp only [Bool.or_eq_true, Bool.not_eq_true', not_or, Bool.not_eq_false] at h
    have h1 := (sq_iff f).1 h.1.1
    rw [own_hand P _ (by omega), bec_hand P _ _ _ (by omega)]

theorem cas0_cases (c : Int) : (casB c = false ∧ cas0 c = 0) ∨ (0 ≤ c ∧ c ≤ 15 ∧ cas0 c = c) := by
  unfold cas0
  rcases cas_cases c with ⟨h, hb⟩ | ⟨h, hb⟩ | ⟨h, h2, hb⟩
  · left; rw [hb]; exact ⟨rfl, rfl⟩
  · left; rw [hb]; exact ⟨rfl, rfl⟩
  · right; rw [hb]; exact ⟨h, h2, rfl⟩
theorem cas0_range (c : Int) : 0 ≤ cas0 c ∧ cas0 c ≤ 15 := by
  rcases cas0_cases c with ⟨_, h⟩ | ⟨h1, h2, h⟩ <;> rw [h] <;> omega
set_option maxHeartbeats 2000000 in
set_option maxRecDepth 100000 in
theorem rCas_any (P : Nat → Int) (w : World) :
    Calls Tryd.prog 39 #[.agg (pc P).toArray] w fun e w' => e = .returned (.int .i64 (cas0 (P 129))) ∧ Below w.heap.size w w' := by
  obtain ⟨X, hX⟩ : ∃ X, X = (pc P).toArray := ⟨_, rfl⟩
  rw [← hX]
  have e1 := (show PB (w.alloc (.cells X 29)) w.heap.size P by rw [hX]; exact PB.new rfl).cell 129 (by omega)
  have HB := Lib.hid (below_new (w := w) (.cells X 29))
  have hc0 : cas0 (P 129) = if casB (P 129) then P 129 else 0 := rfl
  generalize P 129 = c at *
  generalize cas0 c = c0 at *
  have HC0 := Lib.hid hc0
  clear hX hc0
  rcases cas_cases c with ⟨h1, hb⟩ | ⟨h1, hb⟩ | ⟨h1, h2, hb⟩
  all_goals
    rw [hb] at HC0
    clear hb
    go_enter Tryd.func39, Tryd.ntmps39
    go_wp2
    go_ret
    exact ⟨q_i (by rw [HC0.out]; first | rfl | simp), HB.out⟩
theorem lost_cases (s : Int) : (s = 4 ∧ lostN s = 3) ∨ (s = 7 ∧ lostN s = 1) ∨ (s = 0 ∧ lostN s = 2) ∨ (s = 60 ∧ lostN s = 12) ∨ (s = 63 ∧ lostN s = 4) ∨ (s = 56 ∧ lostN s = 8) ∨
    ((s == 4) = false ∧ (s == 7) = false ∧ (s == 0) = false ∧ (s == 60) = false ∧ (s == 63) = false ∧ (s == 56) = false ∧ lostN s = 0) := by
  by_cases h1 : s = 4
  · subst h1; exact .inl ⟨rfl, rfl⟩
  by_cases h2 : s = 7
  · subst h2; exact .inr (.inl ⟨rfl, rfl⟩)
  by_cases h3 : s = 0
  · subst h3; exact .inr (.inr (.inl ⟨rfl, rfl⟩))
  by_cases h4 : s = 60
  · subst h4; exact .inr (.inr (.inr (.inl ⟨rfl, rfl⟩)))
  by_cases h5 : s = 63
  · subst h5; exact .inr (.inr (.inr (.inr (.inl ⟨rfl, rfl⟩))))
  by_cases h6 : s = 56
  · subst h6; exact .inr (.inr (.inr (.inr (.inr (.inl ⟨rfl, rfl⟩)))))
  · refine .inr (.inr (.inr (.inr (.inr (.inr ⟨by simp [h1], by simp [h2], by simp [h3], by simp [h4], by simp [h5], by simp [h6], ?_⟩)))))
    unfold lostN; rw [if_neg h1, if_neg h2, if_neg h3, if_neg h4, if_neg h5, if_neg h6]
set_option maxHeartbeats 2000000 in
theorem rLost_any (s : Int) (w : World) :
    Calls Tryd.prog 40 #[.int .i64 s] w fun e w' => e = .returned (.int .i64 (lostN s)) ∧ w = w' := by
  rcases lost_cases s with ⟨rfl, hb⟩ | ⟨rfl, hb⟩ | ⟨rfl, hb⟩ | ⟨rfl, hb⟩ | ⟨rfl, hb⟩ | ⟨rfl, hb⟩ | ⟨h1, h2, h3, h4, h5, h6, hb⟩
  all_goals rw [hb]
  all_goals clear hb
  all_goals
    go_enter Tryd.func40, Tryd.ntmps40
    go_wp2
    go_ret
    exact ⟨rfl, rfl⟩
/-- the castlings among the first j that are in c and not in s -/
def wtS (c s : Int) : Nat → Int
  | 0 => 0
  | j + 1 => if c / 2 ^ j % 2 == 1 && s / 2 ^ j % 2 == 0 then wtS c s j + 2 ^ j else wtS c s j
theorem wtS_bound (c s : Int) (j : Nat) (hj : j ≤ 4) : 0 ≤ wtS c s j ∧ wtS c s j ≤ 15 := by
  have h : ∀ j, 0 ≤ wtS c s j ∧ wtS c s j + 1 ≤ 2 ^ j := by
    intro j
    induction j with
    | zero => exact ⟨Int.le_refl _, by show (0 : Int) + 1 ≤ 2 ^ 0; decide⟩
    | succ j ih =>
      have h2 : (2 : Int) ^ (j + 1) = 2 ^ j + 2 ^ j := by rw [Int.pow_succ]; omega
      have hp : (0 : Int) < 2 ^ j := Int.pow_pos (by omega)
      unfold wtS
      split <;> omega
  have := h j
  rcases (show j = 0 ∨ j = 1 ∨ j = 2 ∨ j = 3 ∨ j = 4 by omega) with rfl | rfl | rfl | rfl | rfl <;> simp at this <;> omega
def p2 : Nat → Int
  | 0 => 1 | 1 => 2 | 2 => 4 | 3 => 8 | _ => 16
set_option maxHeartbeats 4000000 in
theorem rWithout_any (c s : Int) (hc : 0 ≤ c ∧ c ≤ 15) (hs : 0 ≤ s ∧ s ≤ 15) (w : World) :
    Calls Tryd.prog 38 #[.int .i64 c, .int .i64 s] w fun e w' => e = .returned (.int .i64 (wtS c s 4)) ∧ w = w' := by
  have HC := Lib.hid hc
  have HS := Lib.hid hs
  have HB := Lib.hid (wtS_bound c s)
  have HW := Lib.hid (show ∀ j, wtS c s (j + 1) = if c / 2 ^ j % 2 == 1 && s / 2 ^ j % 2 == 0 then wtS c s j + 2 ^ j else wtS c s j from fun _ => rfl)
  have c0 := hc.1
  have s0 := hs.1
  clear hc hs
  go_enter Tryd.func38, Tryd.ntmps38
  go_wp2
  go_loopw [5, 6] (fun o v wr => ∃ j : Nat, j ≤ 4 ∧ v = .int .i64 (p2 j) ∧ o = .int .i64 (wtS c s j) ∧ w = wr) (fun _ v _ => 20 - (intOf v).toNat)
  case atStart => exact ⟨0, Nat.zero_le _, rfl, rfl, rfl⟩
  case round =>
    obtain ⟨j, hj, rfl, rfl, rfl⟩ := hrel
    by_cases hlt : j < 4
    · have hb := HB.out j (by omega)
      have hw := HW.out j
      obtain ⟨W, hW⟩ : ∃ W, wtS c s j = W := ⟨_, rfl⟩
      rw [hW] at hb hw ⊢
      have hb0 := hb.1
      have hb1 := hb.2
      clear hW hb
      have HWW := Lib.hid hw
      clear hw
      have hcb := HC.out
      have hsb := HS.out
      rcases (show j = 0 ∨ j = 1 ∨ j = 2 ∨ j = 3 by omega) with rfl | rfl | rfl | rfl
      · obtain ⟨x, hx⟩ : ∃ x, c / 1 % 2 = x := ⟨_, rfl⟩
        obtain ⟨y, hy⟩ : ∃ y, s / 1 % 2 = y := ⟨_, rfl⟩
        have HW2 := Lib.hid (show wtS c s (0 + 1) = if x == 1 && y == 0 then W + 1 else W by rw [HWW.out, ← hx, ← hy]; rfl)
        have x01 : x = 0 ∨ x = 1 := by omega
        have y01 : y = 0 ∨ y = 1 := by omega
        have d1 : c.tdiv 1 = c / 1 := Int.tdiv_eq_ediv_of_nonneg c0
        have d2 : s.tdiv 1 = s / 1 := Int.tdiv_eq_ediv_of_nonneg s0
        have m1 : (c / 1).tmod 2 = x := by rw [Int.tmod_eq_emod_of_nonneg (by omega)]; exact hx
        have m2 : (s / 1).tmod 2 = y := by rw [Int.tmod_eq_emod_of_nonneg (by omega)]; exact hy
        have w1 : wrap64 (c / 1) = c / 1 := by unfold wrap64; omega
        have w2 : wrap64 (s / 1) = s / 1 := by unfold wrap64; omega
        have w3 : wrap64 (W + 1) = W + 1 := by unfold wrap64; omega
        clear hj hlt HWW
        dsimp only [p2]
        have m3 : c.tmod 2 = x := by rw [Int.tmod_eq_emod_of_nonneg c0, ← hx]; simp
        have m4 : s.tmod 2 = y := by rw [Int.tmod_eq_emod_of_nonneg s0, ← hy]; simp
        have m5 : c % 2 = x := by rw [← hx]; simp
        have m6 : s % 2 = y := by rw [← hy]; simp
        rcases x01 with rfl | rfl
        · go_wp2
          go_roundw
          case rel => exact ⟨1, by omega, rfl, by rw [HW2.out]; rfl, trivial⟩
          case measure => simp [intOf]
        · rcases y01 with rfl | rfl
          · go_wp2
            go_roundw
            case rel => exact ⟨1, by omega, rfl, by rw [HW2.out]; first | rfl | simp, trivial⟩
            case measure => simp [intOf]
          · go_wp2
            go_roundw
            case rel => exact ⟨1, by omega, rfl, by rw [HW2.out]; first | rfl | simp, trivial⟩
            case measure => simp [intOf]
      · obtain ⟨x, hx⟩ : ∃ x, c / 2 % 2 = x := ⟨_, rfl⟩
        obtain ⟨y, hy⟩ : ∃ y, s / 2 % 2 = y := ⟨_, rfl⟩
        have HW2 := Lib.hid (show wtS c s (1 + 1) = if x == 1 && y == 0 then W + 2 else W by rw [HWW.out, ← hx, ← hy]; rfl)
        have x01 : x = 0 ∨ x = 1 := by omega
        have y01 : y = 0 ∨ y = 1 := by omega
        have d1 : c.tdiv 2 = c / 2 := Int.tdiv_eq_ediv_of_nonneg c0
        have d2 : s.tdiv 2 = s / 2 := Int.tdiv_eq_ediv_of_nonneg s0
        have m1 : (c / 2).tmod 2 = x := by rw [Int.tmod_eq_emod_of_nonneg (by omega)]; exact hx
        have m2 : (s / 2).tmod 2 = y := by rw [Int.tmod_eq_emod_of_nonneg (by omega)]; exact hy
        have w1 : wrap64 (c / 2) = c / 2 := by unfold wrap64; omega
        have w2 : wrap64 (s / 2) = s / 2 := by unfold wrap64; omega
        have w3 : wrap64 (W + 2) = W + 2 := by unfold wrap64; omega
        clear hj hlt HWW
        dsimp only [p2]
        rcases x01 with rfl | rfl
        · go_wp2
          go_roundw
          case rel => exact ⟨2, by omega, rfl, by rw [HW2.out]; rfl, trivial⟩
          case measure => simp [intOf]
        · rcases y01 with rfl | rfl
          · go_wp2
            go_roundw
            case rel => exact ⟨2, by omega, rfl, by rw [HW2.out]; first | rfl | simp, trivial⟩
            case measure => simp [intOf]
          · go_wp2
            go_roundw
            case rel => exact ⟨2, by omega, rfl, by rw [HW2.out]; first | rfl | simp, trivial⟩
            case measure => simp [intOf]
      · obtain ⟨x, hx⟩ : ∃ x, c / 4 % 2 = x := ⟨_, rfl⟩
        obtain ⟨y, hy⟩ : ∃ y, s / 4 % 2 = y := ⟨_, rfl⟩
        have HW2 := Lib.hid (show wtS c s (2 + 1) = if x == 1 && y == 0 then W + 4 else W by rw [HWW.out, ← hx, ← hy]; rfl)
        have x01 : x = 0 ∨ x = 1 := by omega
        have y01 : y = 0 ∨ y = 1 := by omega
        have d1 : c.tdiv 4 = c / 4 := Int.tdiv_eq_ediv_of_nonneg c0
        have d2 : s.tdiv 4 = s / 4 := Int.tdiv_eq_ediv_of_nonneg s0
        have m1 : (c / 4).tmod 2 = x := by rw [Int.tmod_eq_emod_of_nonneg (by omega)]; exact hx
        have m2 : (s / 4).tmod 2 = y := by rw [Int.tmod_eq_emod_of_nonneg (by omega)]; exact hy
        have w1 : wrap64 (c / 4) = c / 4 := by unfold wrap64; omega
        have w2 : wrap64 (s / 4) = s / 4 := by unfold wrap64; omega
        have w3 : wrap64 (W + 4) = W + 4 := by unfold wrap64; omega
        clear hj hlt HWW
        dsimp only [p2]
        rcases x01 with rfl | rfl
        · go_wp2
          go_roundw
          case rel => exact ⟨3, by omega, rfl, by rw [HW2.out]; rfl, trivial⟩
          case measure => simp [intOf]
        · rcases y01 with rfl | rfl
          · go_wp2
            go_roundw
            case rel => exact ⟨3, by omega, rfl, by rw [HW2.out]; first | rfl | simp, trivial⟩
            case measure => simp [intOf]
          · go_wp2
            go_roundw
            case rel => exact ⟨3, by omega, rfl, by rw [HW2.out]; first | rfl | simp, trivial⟩
            case measure => simp [intOf]
      · obtain ⟨x, hx⟩ : ∃ x, c / 8 % 2 = x := ⟨_, rfl⟩
        obtain ⟨y, hy⟩ : ∃ y, s / 8 % 2 = y := ⟨_, rfl⟩
        have HW2 := Lib.hid (show wtS c s (3 + 1) = if x == 1 && y == 0 then W + 8 else W by rw [HWW.out, ← hx, ← hy]; rfl)
        have x01 : x = 0 ∨ x = 1 := by omega
        have y01 : y = 0 ∨ y = 1 := by omega
        have d1 : c.tdiv 8 = c / 8 := Int.tdiv_eq_ediv_of_nonneg c0
        have d2 : s.tdiv 8 = s / 8 := Int.tdiv_eq_ediv_of_nonneg s0
        have m1 : (c / 8).tmod 2 = x := by rw [Int.tmod_eq_emod_of_nonneg (by omega)]; exact hx
        have m2 : (s / 8).tmod 2 = y := by rw [Int.tmod_eq_emod_of_nonneg (by omega)]; exact hy
        have w1 : wrap64 (c / 8) = c / 8 := by unfold wrap64; omega
        have w2 : wrap64 (s / 8) = s / 8 := by unfold wrap64; omega
        have w3 : wrap64 (W + 8) = W + 8 := by unfold wrap64; omega
        clear hj hlt HWW
        dsimp only [p2]
        rcases x01 with rfl | rfl
        · go_wp2
          go_roundw
          case rel => exact ⟨4, by omega, rfl, by rw [HW2.out]; rfl, trivial⟩
          case measure => simp [intOf]
        · rcases y01 with rfl | rfl
          · go_wp2
            go_roundw
            case rel => exact ⟨4, by omega, rfl, by rw [HW2.out]; first | rfl | simp, trivial⟩
            case measure => simp [intOf]
          · go_wp2
            go_roundw
            case rel => exact ⟨4, by omega, rfl, by rw [HW2.out]; first | rfl | simp, trivial⟩
            case measure => simp [intOf]
    · obtain rfl : j = 4 := by omega
      dsimp only [p2]
      go_wp2
      go_ret
      exact ⟨rfl, rfl⟩
end Go.Proofs.YtlfapakllhhadaaDoor
