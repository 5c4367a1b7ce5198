/-
  Merged: Dp, Dq, Pk, Pl, Pm, Pn, Po.
-/
import Derived.Test.YtcdnakbdajbfoaaGreatDoorG22
import Derived.Test.YtcdnakbdajbfoaaGreatDoorG1
import Derived.Test.YtcdnakbdajbfoaaGreatDoorG3
import Derived.Test.YtcdnakbdajbfoaaGreatDoorG17

namespace Go.Proofs.YtcdnakbdajbfoaaGreatDoor
open Go.RowKit Go.Sort
set_option linter.unusedSimpArgs false
set_option linter.unusedVariables false
set_option maxRecDepth 20000

theorem rTo_nil (P : Nat → Int) (s d : Int) : rToL P s d = [] ↔ atkL P s d = [] := by
  rw [← to_eq]
  unfold toL
  rw [← List.length_eq_zero_iff, ← List.length_eq_zero_iff, risen_len]
structure RI (w W : World) (P : Nat → Int) (b o : Nat) (s : Int) : Prop where
  p : PB W w.heap.size P
  c : W.cell? ⟨b, o, none⟩ = some (.int .i64 s)
  l : b < W.heap.size
  b : Below w.heap.size w W
theorem RI.go {w W W' : World} {P : Nat → Int} {b o : Nat} {s : Int} (h : RI w W P b o s) (g : Below W.heap.size W W') : RI w W' P b o s :=
  ⟨h.p.go g, (g.cell (p := ⟨b, o, none⟩) h.l).trans h.c, Nat.lt_of_lt_of_le h.l g.size, h.b.trans (g.mono h.b.size)⟩
structure RI2 (w W : World) (P : Nat → Int) : Prop where
  p : PB W w.heap.size P
  b : Below w.heap.size w W
theorem RI2.go {w W W' : World} {P : Nat → Int} (h : RI2 w W P) (g : Below W.heap.size W W') : RI2 w W' P := ⟨h.p.go g, h.b.trans (g.mono h.b.size)⟩
set_option maxHeartbeats 4000000 in
set_option maxRecDepth 100000 in
theorem rIs_any (B : Nat) (P : Nat → Int) (d : Int) (p : Option Addr) (n c : Nat) (f : Nat → Int) (w : World) (hn : n ≤ 1000000) (hr : Reads B w p n (fun i => .int .i64 (f i))) (hB : B ≤ w.heap.size) :
    Calls Tryz.prog 74 #[.agg (pc P).toArray, .int .i64 d, .slice p n c] w fun e w' => e = .returned (.bool (isAt P d f n)) ∧ Below w.heap.size w w' := by
  obtain ⟨X, hX⟩ : ∃ X, X = (pc P).toArray := ⟨_, rfl⟩
  have HT := Lib.hid (fun s W => rTo_any P s d W)
  rw [← hX] at HT ⊢
  have HX := Lib.hid hX
  have HP := Lib.hid (show PB (w.alloc (.cells X 30)) w.heap.size P by subst hX; exact PB.new rfl)
  have HB := Lib.hid (below_new (w := w) (.cells X 30))
  have HRD := Lib.hid hr
  clear hX hr
  go_enter Tryz.func74, Tryz.ntmps74
  go_upto_region 1 with (fail)
  generalize w.alloc (.cells X 30) = W at *
  go_wp2
  go_loopw [7] (fun v wr => ∃ i : Nat, i ≤ n ∧ v = .int .i64 (i : Int) ∧ Below w.heap.size w wr ∧ PB wr w.heap.size P ∧ ∀ j, j < i → atkL P (f j) d = []) (fun v _ => n - (intOf v).toNat)
  case atStart => exact ⟨0, Nat.zero_le _, rfl, HB.out, HP.out, fun j hj => by omega⟩
  case round =>
    clear HB HP
    obtain ⟨i, hi, rfl, hb, hp, hall⟩ := hrel
    have HALL := Lib.hid hall
    clear hall
    by_cases hlt : i < n
    · have hrd := HRD.out.below (hb.mono hB)
      rcases hrd with h0 | ⟨b, off, rfl, hbb, hc⟩
      · omega
      have e0 : wr.cell? ⟨b, off + i, none⟩ = some (.int .i64 (f i)) := hc i hlt
      obtain ⟨s, hs⟩ : ∃ s, f i = s := ⟨_, rfl⟩
      rw [hs] at e0
      have HSF := Lib.hid hs
      have HI := Lib.hid (show RI w wr P b (off + i) s from ⟨hp, e0, Nat.lt_of_lt_of_le hbb (Nat.le_trans hB hb.size), hb⟩)
      clear hs hc hp hb e0
      go_upto_region 4 with (fail)
      refine wp_region_noPanic ?_
      refine wp_region_start (n := 8) (l := #[false, false, false, false, false, false, false, false]) (S := (fun W => RI w W P b (off + i) s)) (by kernel_rfl) rfl (by kernel_rfl) (by first | exact HI.out | exact HI.out.go (Below.refl _ _).drew) (fun hHeld => ?_)
      replace HI := Lib.hid (HI.out.go (Below.refl wr.heap.size wr).drew)
      generalize wr.drew = V0 at hHeld HI ⊢
      refine tg (i := 0) (d := some 15) (v := (.agg X)) rfl rfl ?_ ?_
      · exact yields_posC (by rfl) _ (by rfl) w.heap.size P X HX.out (by rfl) (fun W h => h.p)
      try simp only [aP, sA, sZ, sS]
      refine tq (i := 1) (d := some 16) rfl rfl ?_
      try simp only [aP, sA, sZ, sS]
      refine tq (i := 2) (d := some 17) rfl rfl ?_
      try simp only [aP, sA, sZ, sS]
      refine tq (i := 3) (d := some 18) rfl rfl ?_
      try simp only [aP, sA, sZ, sS]
      refine tg (i := 4) (d := some 19) (v := (.int .i64 s)) rfl rfl ?_ ?_
      · refine Or.inl ⟨by rfl, ?_⟩; intro w' hSw; have e := hSw.c; go_simp
      try simp only [aP, sA, sZ, sS]
      refine tq (i := 5) (d := some 20) rfl rfl ?_
      try simp only [aP, sA, sZ, sS]
      refine og (i := 6) rfl (by kernel_rfl) (fun K hK => ?_)
      go_simp
      refine (HT.out s _).mono ?_
      rintro e V1 ⟨v, rfl, hb, hown⟩
      replace HI := Lib.hid (HI.out.go hb)
      have hlen : (rToL P s d).length = (rToL P s d).length := rfl
      rw [ivals_range] at hown
      obtain ⟨p1, c1, rfl, hr1, _⟩ := sq_reads hown
      obtain ⟨m, hm⟩ : ∃ m, (rToL P s d).length = m := ⟨_, rfl⟩
      rw [hm]
      clear hb hown hlen hr1
      dsimp only
      refine hK.out _ _ (by first | exact HI.out | exact HI.out.go (Below.refl _ _).drew) (fun hHeld => ?_)
      clear hK K
      try simp only [aP, sA, sZ, sS]
      refine tq (i := 7) (d := some 8) rfl rfl ?_
      try simp only [aP, sA, sZ, sS]
      refine wpAnyH_done (by kernel_rfl) ?_ _
      refine NoPanic.normal ?_
      clear hHeld
      by_cases hz : m = 0
      · subst hz
        have HNIL := Lib.hid (show ∀ j, j < i + 1 → atkL P (f j) d = [] from fun j hj => by
          rcases (show j < i ∨ j = i by omega) with h | rfl
          · exact HALL.out j h
          · rw [HSF.out, ← rTo_nil]; exact List.eq_nil_of_length_eq_zero hm)
        clear hm
        go_wp2
        go_roundw
        case rel => exact ⟨i + 1, by omega, by go_num, HI.out.b, HI.out.p, HNIL.out⟩
        case measure => simp [intOf]; omega
      · have HTT := Lib.hid (show isAt P d f n = true from isAt_hit hlt (by rw [HSF.out]; intro h0; rw [← rTo_nil] at h0; rw [h0] at hm; exact hz hm.symm))
        have hm0 : 0 < m := by omega
        clear hm hz
        go_wp2
        go_ret
        exact ⟨q_b HTT.out.symm, HI.out.b⟩
    · obtain rfl : i = n := by omega
      have HTT := Lib.hid (isAt_miss HALL.out)
      have HBK := Lib.hid hb
      clear hb hp
      go_wp2
      go_ret
      exact ⟨q_b HTT.out.symm, HBK.out⟩
end Go.Proofs.YtcdnakbdajbfoaaGreatDoor

namespace Go.Proofs.YtcdnakbdajbfoaaGreatDoor
open Go.RowKit Go.Sort
set_option linter.unusedSimpArgs false
set_option linter.unusedVariables false
set_option maxRecDepth 20000

set_option maxHeartbeats 4000000 in
set_option maxRecDepth 100000 in
theorem rChk_any (P : Nat → Int) (d : Int) (w : World) :
    Calls Tryz.prog 59 #[.agg (pc P).toArray, .int .i64 d] w fun e w' => e = .returned (.bool (chkB P d)) ∧ Below w.heap.size w w' := by
  obtain ⟨X, hX⟩ : ∃ X, X = (pc P).toArray := ⟨_, rfl⟩
  have HF := Lib.hid (fun W => rFind_any P 6 d W)
  have HIS := Lib.hid (fun W p n c f hn hr hB => rIs_any W.heap.size P (oth d) p n c f W hn hr hB)
  have HFL := Lib.hid (fnd_len P 6 d 64)
  rw [← hX] at HF HIS ⊢
  have HP := Lib.hid (show PB (w.alloc (.cells X 30)) w.heap.size P by subst hX; exact PB.new rfl)
  have HB := Lib.hid (below_new (w := w) (.cells X 30))
  have HX := Lib.hid hX
  clear hX
  by_cases h0 : d = 0 ∨ d = 1
  · have HC := Lib.hid (show chkB P d = isAt P (oth d) (getI (fnd P 6 d 64)) (fnd P 6 d 64).length by
      have hs : sideB d = true := by rcases h0 with rfl | rfl <;> rfl
      unfold chkB; rw [hs, Bool.true_and])
    obtain ⟨L, hL⟩ : ∃ L, L = fnd P 6 d 64 := ⟨_, rfl⟩
    rw [← hL] at HF HFL HC
    clear hL
    rcases h0 with rfl | rfl
    all_goals
      go_enter Tryz.func59, Tryz.ntmps59
      go_upto_region 3 with (fail)
      generalize w.alloc (.cells X 30) = W0 at *
      have HI := Lib.hid (show RI2 w W0 P from ⟨HP.out, HB.out⟩)
      clear HP HB
      refine wp_region_noPanic ?_
      refine wp_region_start (n := 9) (l := #[false, false, false, false, false, false, false, false, false]) (S := (fun W => RI2 w W P)) (by kernel_rfl) rfl (by kernel_rfl) (by first | exact HI.out | exact HI.out.go (Below.refl _ _).drew) (fun hHeld => ?_)
      replace HI := Lib.hid (HI.out.go (Below.refl W0.heap.size W0).drew)
      generalize W0.drew = V0 at hHeld HI ⊢
      refine tg (i := 0) (d := some 11) (v := (.agg X)) rfl rfl ?_ ?_
      · exact yields_posC (by rfl) _ (by rfl) w.heap.size P X HX.out (by rfl) (fun W h => h.p)
      try simp only [aP, sA, sZ, sS]
      refine tq (i := 1) (d := some 12) rfl rfl ?_
      try simp only [aP, sA, sZ, sS]
      refine tg (i := 3) (d := some 14) (v := (.agg X)) rfl rfl ?_ ?_
      · exact yields_posC (by rfl) _ (by rfl) w.heap.size P X HX.out (by rfl) (fun W h => h.p)
      try simp only [aP, sA, sZ, sS]
      refine tq (i := 4) (d := some 15) rfl rfl ?_
      try simp only [aP, sA, sZ, sS]
      refine tq (i := 5) (d := some 16) rfl rfl ?_
      try simp only [aP, sA, sZ, sS]
      refine og (i := 2) rfl (by kernel_rfl) (fun K hK => ?_)
      go_simp
      refine (rOther_any _ _).mono ?_
      rintro e V1 ⟨rfl, rfl⟩
      dsimp only
      refine hK.out _ _ (by first | exact HI.out | exact HI.out.go (Below.refl _ _).drew) (fun hHeld => ?_)
      clear hK K
      try simp only [aP, sA, sZ, sS]
      refine og (i := 6) rfl (by kernel_rfl) (fun K hK => ?_)
      go_simp
      refine (HF.out _).mono ?_
      rintro e V2 ⟨v, rfl, hb, hown⟩
      rw [ivals_range] at hown
      obtain ⟨p1, c1, rfl, hr1, _⟩ := sq_reads hown
      replace HI := Lib.hid (HI.out.go hb)
      have HRD := Lib.hid hr1
      clear hb hown hr1
      dsimp only
      refine hK.out _ _ (by first | exact HI.out | exact HI.out.go (Below.refl _ _).drew) (fun hHeld => ?_)
      clear hK K
      try simp only [aP, sA, sZ, sS]
      refine og (i := 7) rfl (by kernel_rfl) (fun K hK => ?_)
      go_simp
      refine (HIS.out V2 p1 (L).length c1 (getI (L)) (Nat.le_trans HFL.out (by omega)) HRD.out (Nat.le_refl _)).mono ?_
      rintro e V3 ⟨rfl, hb⟩
      replace HI := Lib.hid (HI.out.go hb)
      clear hb HRD
      dsimp only
      refine hK.out _ _ (by first | exact HI.out | exact HI.out.go (Below.refl _ _).drew) (fun hHeld => ?_)
      clear hK K
      try simp only [aP, sA, sZ, sS]
      refine tq (i := 8) (d := some 4) rfl rfl ?_
      try simp only [aP, sA, sZ, sS]
      refine wpAnyH_done (by kernel_rfl) ?_ _
      refine NoPanic.normal ?_
      clear hHeld
      go_wp2
      go_ret
      exact ⟨by rw [HC.out]; rfl, HI.out.b⟩
  · have HC := Lib.hid (show chkB P d = false by
      have hs : sideB d = false := by simp only [sideB, Bool.or_eq_false_iff, beq_eq_false_iff_ne]; omega
      unfold chkB; rw [hs, Bool.false_and])
    have k1 : (d != 0) = true := by simp; omega
    have k2 : (d != 1) = true := by simp; omega
    clear h0 HF HIS HFL HP HX
    go_enter Tryz.func59, Tryz.ntmps59
    go_upto_region 1 with (fail)
    generalize w.alloc (.cells X 30) = W0 at *
    go_wp2
    go_ret
    exact ⟨by rw [HC.out]; rfl, HB.out⟩
end Go.Proofs.YtcdnakbdajbfoaaGreatDoor

namespace Go.Proofs.YtcdnakbdajbfoaaGreatDoor
open Go.RowKit Go.Sort
set_option linter.unusedSimpArgs false
set_option linter.unusedVariables false
set_option maxRecDepth 20000

theorem rIs8_any (s : Int) (w : World) :
    Calls Tryz.prog 61 #[.int .i64 s] w fun e w' => e = .returned (.bool (sq s)) ∧ w = w' := by
  rcases sq_cases s with ⟨h, hb⟩ | ⟨h, hb⟩ | ⟨h, h2, hb⟩
  all_goals rw [hb]
  all_goals clear hb
  all_goals
    go_enter Tryz.func61, Tryz.ntmps61
    go_wp2
    go_ret
    exact ⟨q_b (by first | rfl | (simp; done) | (simp; omega)), rfl⟩
theorem own_may (P : Nat → Int) (f : Nat) : ownB P f = (mayB (P (2 * f)) (P (2 * f + 1)) && (P (2 * f + 1) == P 128)) := by
  unfold ownB mayB
  by_cases h : P (2 * f + 1) = P 128
  · rw [h, beq_self_eq_true]
    cases sideB (P 128) <;> cases decide (1 ≤ P (2 * f)) <;> cases decide (P (2 * f) ≤ 6) <;> rfl
  · have h2 : (P (2 * f + 1) == P 128) = false := by simp [h]
    rw [h2, Bool.and_false, Bool.and_false]; rfl
theorem bec_k (P : Nat → Int) (f t : Nat) (k : Int) (hk : P (2 * f) ≠ 1) : becB P f t k = (k == 0) := by
  unfold becB pwnB; simp [hk]
theorem bec_w (P : Nat → Int) (f t : Nat) (k : Int) (hk : P (2 * f) = 1) (hs : P 128 = 0) : becB P f t k = if t / 8 = 7 then decide (2 ≤ k) && decide (k ≤ 5) else k == 0 := by
  unfold becB pwnB rkN
  rw [hk, if_pos hs]
  by_cases h : t / 8 = 7
  · simp [h]
  · rw [if_neg h]; simp; intro h2; omega
theorem bec_b (P : Nat → Int) (f t : Nat) (k : Int) (ht : t < 64) (hk : P (2 * f) = 1) (hs : P 128 = 1) : becB P f t k = if t / 8 = 0 then decide (2 ≤ k) && decide (k ≤ 5) else k == 0 := by
  unfold becB pwnB rkN
  rw [hk, hs, if_neg (show ¬ ((1 : Int) = 0) by omega)]
  by_cases h : t / 8 = 0
  · simp [h]
  · rw [if_neg h]; simp; intro h2; omega
set_option maxHeartbeats 4000000 in
set_option maxRecDepth 100000 in
theorem rCan_any (P : Nat → Int) (f t : Nat) (k : Int) (hf : f < 64) (ht : t < 64) (w : World) :
    Calls Tryz.prog 62 #[.agg (pc P).toArray, .agg #[.int .i64 (f : Int), .int .i64 (t : Int), .int .i64 k]] w fun e w' => e = .returned (.bool (ownB P f && becB P f t k)) ∧ Below w.heap.size w w' := by
  obtain ⟨X, hX⟩ : ∃ X, X = (pc P).toArray := ⟨_, rfl⟩
  rw [← hX]
  have HI := Lib.hid (MC.begin w P (f : Int) (t : Int) k X hX)
  have s0 : (0 : Int) ≤ f := by omega
  have s1 : (f : Int) < 64 := by omega
  have hv1 := own_may P f
  have HBK := Lib.hid (bec_k P f t k)
  have HBW := Lib.hid (bec_w P f t k)
  have HBB := Lib.hid (bec_b P f t k ht)
  generalize becB P f t k = be at *
  generalize ownB P f = ow at *
  have HC := Lib.hid (show ∀ W, MC w W P f t k → W.cell? ⟨w.heap.size, f * 2, none⟩ = some (.int .i64 (P (2 * f))) ∧ W.cell? ⟨w.heap.size, f * 2 + 1, none⟩ = some (.int .i64 (P (2 * f + 1))) ∧ W.cell? ⟨w.heap.size, 128, none⟩ = some (.int .i64 (P 128)) from fun W h => by
    rw [Nat.mul_comm 2 f]; exact ⟨h.p.cell _ (by omega), h.p.cell _ (by omega), h.p.cell _ (by omega)⟩)
  generalize P (2 * f) = kk at *
  generalize P (2 * f + 1) = dd at *
  generalize P 128 = sd at *
  clear hX
  obtain ⟨r, hr⟩ : ∃ r : Nat, t / 8 = r := ⟨_, rfl⟩
  rw [hr] at HBW HBB
  have td : (t : Int).tdiv 8 = (r : Int) := by rw [Int.tdiv_eq_ediv_of_nonneg (by omega)]; omega
  have td2 : (t : Int) / 8 = (r : Int) := by omega
  have tw : wrap64 (r : Int) = (r : Int) := by unfold wrap64; omega
  have HV1 := Lib.hid hv1
  clear hv1 hr
  go_enter Tryz.func62, Tryz.ntmps62
  go_upto_region 1 with (fail)
  refine forget_B (fun W => MC w W P f t k) HI.out ?_
  clear HI
  intro W hi
  have HI := Lib.hid hi
  clear hi
  obtain ⟨q0, q1, q2, qf, qz⟩ := row3 HI.out.m
  obtain ⟨e1, e2, e3⟩ := HC.out _ HI.out
  go_upto_region 2 with (fail)
  refine forget_B (fun W' => MC w W' P f t k ∧ W'.heap[W.heap.size]? = some (.cells #[.int .i64 kk, .int .i64 dd] 26 (0, 0))) ⟨HI.out.go (below_new _), sl_at rfl⟩ ?_
  clear e1 e2 e3 q0 q1 q2 qf qz HI
  rintro W1 ⟨hi, hx⟩
  have HI := Lib.hid hi
  have HX := Lib.hid hx
  obtain ⟨x1, x2, xf, xz⟩ := row2 hx
  obtain ⟨mb, hmb⟩ : ∃ m, mayB kk dd = m := ⟨_, rfl⟩
  rw [hmb] at HV1
  have HMB := Lib.hid hmb
  clear hi hx hmb
  go_wp2_with fail
  refine (rMay_any kk dd _).mono ?_
  rw [HMB.out]
  rintro e w1 ⟨rfl, hb1⟩
  replace HI := Lib.hid (HI.out.go hb1)
  replace HX := Lib.hid (sl_go HX.out hb1)
  clear x1 x2 xf xz hb1
  obtain ⟨x1, x2, xf, xz⟩ := row2 HX.out
  obtain ⟨q0, q1, q2, qf, qz⟩ := row3 HI.out.m
  obtain ⟨e1, e2, e3⟩ := HC.out _ HI.out
  cases mb
  · go_wp2
    go_ret
    exact ⟨q_b (by rw [HV1.out]; rfl), HI.out.b⟩
  by_cases hd : dd = sd
  case neg =>
    have hd2 : (dd == sd) = false := by simp [hd]
    have hd3 : (dd != sd) = true := by simp [hd]
    rw [hd2] at HV1
    go_wp2
    go_ret
    exact ⟨q_b (by rw [HV1.out]; rfl), HI.out.b⟩
  subst hd
  have HOW := Lib.hid (show ow = true by rw [HV1.out]; simp)
  by_cases hk : kk = 1
  case neg =>
    have hk2 : (kk == 1) = false := by simp [hk]
    have HBE := Lib.hid (HBK.out hk)
    go_wp2
    go_ret
    exact ⟨q_b (by rw [HOW.out, HBE.out]; rfl), HI.out.b⟩
  subst hk
  have hdd : dd = 0 ∨ dd = 1 := by
    have := HMB.out
    unfold mayB sideB at this
    simp at this
    exact this
  rcases hdd with rfl | rfl
  · by_cases h7 : r = 7
    · subst h7
      have HBE := Lib.hid (show be = (decide (2 ≤ k) && decide (k ≤ 5)) by rw [HBW.out rfl rfl]; simp)
      by_cases h2 : 2 ≤ k
      · go_wp2
        go_ret
        exact ⟨q_b (by rw [HOW.out, HBE.out]; simp [h2]), HI.out.b⟩
      · go_wp2
        go_ret
        exact ⟨q_b (by rw [HOW.out, HBE.out]; simp; omega), HI.out.b⟩
    · have HBE := Lib.hid (show be = (k == 0) by rw [HBW.out rfl rfl, if_neg h7])
      have h7b : ((r : Int) == 7) = false := by simp; omega
      go_wp2
      go_ret
      exact ⟨q_b (by rw [HOW.out, HBE.out]; rfl), HI.out.b⟩
  · by_cases h7 : r = 0
    · subst h7
      have HBE := Lib.hid (show be = (decide (2 ≤ k) && decide (k ≤ 5)) by rw [HBB.out rfl rfl]; simp)
      by_cases h2 : 2 ≤ k
      · go_wp2
        go_ret
        exact ⟨q_b (by rw [HOW.out, HBE.out]; simp [h2]), HI.out.b⟩
      · go_wp2
        go_ret
        exact ⟨q_b (by rw [HOW.out, HBE.out]; simp; omega), HI.out.b⟩
    · have HBE := Lib.hid (show be = (k == 0) by rw [HBB.out rfl rfl, if_neg h7])
      have h7b : ((r : Int) == 0) = false := by simp; omega
      go_wp2
      go_ret
      exact ⟨q_b (by rw [HOW.out, HBE.out]; rfl), HI.out.b⟩
set_option maxHeartbeats 4000000 in
set_option maxRecDepth 100000 in
theorem rOver8_any (P : Nat → Int) (f t : Nat) (k : Int) (hf : f < 64) (ht : t < 64) (w : World) :
    Calls Tryz.prog 94 #[.agg (pc P).toArray, .agg #[.int .i64 (f : Int), .int .i64 (t : Int), .int .i64 k]] w fun e w' => e = .returned (.bool (ovrB P f t)) ∧ Below w.heap.size w w' := by
  obtain ⟨X, hX⟩ : ∃ X, X = (pc P).toArray := ⟨_, rfl⟩
  rw [← hX]
  have HI := Lib.hid (MC.begin w P (f : Int) (t : Int) k X hX)
  have s0 : (0 : Int) ≤ f := by omega
  have s1 : (f : Int) < 64 := by omega
  have t0 : (0 : Int) ≤ t := by omega
  have t1 : (t : Int) < 64 := by omega
  have hv : ovrB P f t = (P (f * 2) == 1 && !smF f t && ((t : Int) == P 130) && pe (P (t * 2)) (P (t * 2 + 1)) 0 0) := by unfold ovrB; rw [pwnB_at, emB_at]
  have HC := Lib.hid (show ∀ W, MC w W P f t k → W.cell? ⟨w.heap.size, f * 2, none⟩ = some (.int .i64 (P (f * 2))) ∧ W.cell? ⟨w.heap.size, t * 2, none⟩ = some (.int .i64 (P (t * 2))) ∧ W.cell? ⟨w.heap.size, t * 2 + 1, none⟩ = some (.int .i64 (P (t * 2 + 1))) ∧ W.cell? ⟨w.heap.size, 130, none⟩ = some (.int .i64 (P 130)) from fun W h =>
    ⟨h.p.cell _ (by omega), h.p.cell _ (by omega), h.p.cell _ (by omega), h.p.cell _ (by omega)⟩)
  obtain ⟨x, hx⟩ : ∃ x : Nat, f % 8 = x := ⟨_, rfl⟩
  obtain ⟨y, hy⟩ : ∃ y : Nat, t % 8 = y := ⟨_, rfl⟩
  have tm1 : (f : Int).tmod 8 = (x : Int) := by rw [Int.tmod_eq_emod_of_nonneg (by omega)]; omega
  have tm2 : (t : Int).tmod 8 = (y : Int) := by rw [Int.tmod_eq_emod_of_nonneg (by omega)]; omega
  have tm3 : (f : Int) % 8 = (x : Int) := by omega
  have tm4 : (t : Int) % 8 = (y : Int) := by omega
  obtain ⟨sm, hsm⟩ : ∃ s, smF f t = s := ⟨_, rfl⟩
  rw [hsm] at hv
  have hsm2 : ((x : Int) != (y : Int)) = !sm := by
    rw [← hsm]; unfold smF; rw [hx, hy]
    by_cases h : x = y
    · subst h; simp
    · have h2 : (x == y) = false := by simp [h]
      have h3 : ((x : Int) != (y : Int)) = true := by simp; omega
      rw [h2, h3]; rfl
  generalize P (f * 2) = kk at *
  generalize P (t * 2) = tk at *
  generalize P (t * 2 + 1) = td at *
  generalize P 130 = o at *
  obtain ⟨em, hem⟩ : ∃ e, pe tk td 0 0 = e := ⟨_, rfl⟩
  rw [hem] at hv
  have HV := Lib.hid hv
  clear hv hX hx hy hsm
  go_enter Tryz.func94, Tryz.ntmps94
  go_upto_region 1 with (fail)
  refine forget_B (fun W => MC w W P f t k) HI.out ?_
  clear HI
  intro W hi
  have HI := Lib.hid hi
  clear hi
  obtain ⟨q0, q1, q2, qf, qz⟩ := row3 HI.out.m
  obtain ⟨e1, e2, e3, e4⟩ := HC.out _ HI.out
  by_cases hk : kk = 1
  case neg =>
    have hk2 : (kk == 1) = false := by simp [hk]
    go_wp2
    go_ret
    exact ⟨q_b (by rw [HV.out, hk2]; rfl), HI.out.b⟩
  subst hk
  cases sm
  case true =>
    go_wp2
    go_ret
    exact ⟨q_b (by rw [HV.out]; rfl), HI.out.b⟩
  by_cases ho : (t : Int) = o
  case neg =>
    have ho2 : ((t : Int) == o) = false := by simp [ho]
    go_wp2
    go_ret
    exact ⟨q_b (by rw [HV.out, ho2]; rfl), HI.out.b⟩
  subst ho
  go_wp2
  go_ret
  exact ⟨q_b (by rw [HV.out]; simp [hem]), HI.out.b⟩
end Go.Proofs.YtcdnakbdajbfoaaGreatDoor

namespace Go.Proofs.YtcdnakbdajbfoaaGreatDoor
open Go.RowKit Go.Sort
set_option linter.unusedSimpArgs false
set_option linter.unusedVariables false
set_option maxRecDepth 20000

theorem hand_at (P : Nat → Int) (i : Nat) (h : i ≠ 129) : handP P i = P i := by unfold handP setN; rw [if_neg h]
theorem hand_cas (P : Nat → Int) : handP P 129 = cas0 (P 129) := rfl
theorem em_hand (P : Nat → Int) (s : Nat) (hs : s < 64) : emB (handP P) s = emB P s := by unfold emB; rw [hand_at P _ (by omega), hand_at P _ (by omega)]
theorem rk_hand (P : Nat → Int) (s : Nat) : rkN (handP P) s = rkN P s := by unfold rkN; rw [hand_at P 128 (by omega)]
theorem pwn_hand (P : Nat → Int) (s : Nat) (hs : s < 64) : pwnB (handP P) s = pwnB P s := by unfold pwnB; rw [hand_at P _ (by omega)]
theorem own_hand (P : Nat → Int) (s : Nat) (hs : s < 64) : ownB (handP P) s = ownB P s := by unfold ownB; rw [hand_at P 128 (by omega), hand_at P _ (by omega), hand_at P _ (by omega)]
theorem bec_hand (P : Nat → Int) (f t : Nat) (k : Int) (hf : f < 64) : becB (handP P) f t k = becB P f t k := by unfold becB; rw [pwn_hand P f hf, rk_hand]
theorem ovr_hand (P : Nat → Int) (f t : Nat) (hf : f < 64) (ht : t < 64) : ovrB (handP P) f t = ovrB P f t := by unfold ovrB; rw [pwn_hand P f hf, em_hand P t ht, hand_at P 130 (by omega)]
theorem at_hand (P : Nat → Int) (f t : Nat) (hf : f < 64) (ht : t < 64) : atN (handP P) f t = atN P f t := by unfold atN; rw [ovr_hand P f t hf ht]
theorem tks_hand (P : Nat → Int) (f t : Nat) (hf : f < 64) (ht : t < 64) : tksN (handP P) f t = tksN P f t := by unfold tksN; rw [at_hand P f t hf ht, em_hand P _ (atN_lt P f t hf ht)]
theorem lng_hand (P : Nat → Int) (f t : Nat) (hf : f < 64) : lngB (handP P) f t = lngB P f t := by unfold lngB; rw [pwn_hand P f hf, rk_hand, rk_hand]
theorem flt_hand (P : Nat → Int) (f t k : Int) : fltN (handP P) f t k = fltN P f t k := by
  unfold fltN
  by_cases h : (!sq f || !sq t || f == t) = true
  · rw [if_pos h, if_pos h]
  · rw [if_neg h, if_neg h]
    simp only [Bool.or_eq_true, Bool.not_eq_true', not_or, Bool.not_eq_false] at h
    have h1 := (sq_iff f).1 h.1.1
    rw [own_hand P _ (by omega), bec_hand P _ _ _ (by omega)]

theorem cas0_cases (c : Int) : (casB c = false ∧ cas0 c = 0) ∨ (0 ≤ c ∧ c ≤ 15 ∧ cas0 c = c) := by
  unfold cas0
  rcases cas_cases c with ⟨h, hb⟩ | ⟨h, hb⟩ | ⟨h, h2, hb⟩
  · left; rw [hb]; exact ⟨rfl, rfl⟩
  · left; rw [hb]; exact ⟨rfl, rfl⟩
  · right; rw [hb]; exact ⟨h, h2, rfl⟩
theorem cas0_range (c : Int) : 0 ≤ cas0 c ∧ cas0 c ≤ 15 := by
  rcases cas0_cases c with ⟨_, h⟩ | ⟨h1, h2, h⟩ <;> rw [h] <;> omega
set_option maxHeartbeats 2000000 in
set_option maxRecDepth 100000 in
theorem rCas_any (P : Nat → Int) (w : World) :
    Calls Tryz.prog 66 #[.agg (pc P).toArray] w fun e w' => e = .returned (.int .i64 (cas0 (P 129))) ∧ Below w.heap.size w w' := by
  obtain ⟨X, hX⟩ : ∃ X, X = (pc P).toArray := ⟨_, rfl⟩
  rw [← hX]
  have e1 := (show PB (w.alloc (.cells X 30)) w.heap.size P by rw [hX]; exact PB.new rfl).cell 129 (by omega)
  have HB := Lib.hid (below_new (w := w) (.cells X 30))
  have hc0 : cas0 (P 129) = if casB (P 129) then P 129 else 0 := rfl
  generalize P 129 = c at *
  generalize cas0 c = c0 at *
  have HC0 := Lib.hid hc0
  clear hX hc0
  rcases cas_cases c with ⟨h1, hb⟩ | ⟨h1, hb⟩ | ⟨h1, h2, hb⟩
  all_goals
    rw [hb] at HC0
    clear hb
    go_enter Tryz.func66, Tryz.ntmps66
    go_wp2
    go_ret
    exact ⟨q_i (by rw [HC0.out]; first | rfl | simp), HB.out⟩
theorem lost_cases (s : Int) : (s = 4 ∧ lostN s = 3) ∨ (s = 7 ∧ lostN s = 1) ∨ (s = 0 ∧ lostN s = 2) ∨ (s = 60 ∧ lostN s = 12) ∨ (s = 63 ∧ lostN s = 4) ∨ (s = 56 ∧ lostN s = 8) ∨
    ((s == 4) = false ∧ (s == 7) = false ∧ (s == 0) = false ∧ (s == 60) = false ∧ (s == 63) = false ∧ (s == 56) = false ∧ lostN s = 0) := by
  by_cases h1 : s = 4
  · subst h1; exact .inl ⟨rfl, rfl⟩
  by_cases h2 : s = 7
  · subst h2; exact .inr (.inl ⟨rfl, rfl⟩)
  by_cases h3 : s = 0
  · subst h3; exact .inr (.inr (.inl ⟨rfl, rfl⟩))
  by_cases h4 : s = 60
  · subst h4; exact .inr (.inr (.inr (.inl ⟨rfl, rfl⟩)))
  by_cases h5 : s = 63
  · subst h5; exact .inr (.inr (.inr (.inr (.inl ⟨rfl, rfl⟩))))
  by_cases h6 : s = 56
  · subst h6; exact .inr (.inr (.inr (.inr (.inr (.inl ⟨rfl, rfl⟩)))))
  · refine .inr (.inr (.inr (.inr (.inr (.inr ⟨by simp [h1], by simp [h2], by simp [h3], by simp [h4], by simp [h5], by simp [h6], ?_⟩)))))
    unfold lostN; rw [if_neg h1, if_neg h2, if_neg h3, if_neg h4, if_neg h5, if_neg h6]
set_option maxHeartbeats 2000000 in
theorem rLost_any (s : Int) (w : World) :
    Calls Tryz.prog 67 #[.int .i64 s] w fun e w' => e = .returned (.int .i64 (lostN s)) ∧ w = w' := by
  rcases lost_cases s with ⟨rfl, hb⟩ | ⟨rfl, hb⟩ | ⟨rfl, hb⟩ | ⟨rfl, hb⟩ | ⟨rfl, hb⟩ | ⟨rfl, hb⟩ | ⟨h1, h2, h3, h4, h5, h6, hb⟩
  all_goals rw [hb]
  all_goals clear hb
  all_goals
    go_enter Tryz.func67, Tryz.ntmps67
    go_wp2
    go_ret
    exact ⟨rfl, rfl⟩
def wtS (c s : Int) : Nat → Int
  | 0 => 0
  | j + 1 => if c / 2 ^ j % 2 == 1 && s / 2 ^ j % 2 == 0 then wtS c s j + 2 ^ j else wtS c s j
theorem wtS_bound (c s : Int) (j : Nat) (hj : j ≤ 4) : 0 ≤ wtS c s j ∧ wtS c s j ≤ 15 := by
  have h : ∀ j, 0 ≤ wtS c s j ∧ wtS c s j + 1 ≤ 2 ^ j := by
    intro j
    induction j with
    | zero => exact ⟨Int.le_refl _, by show (0 : Int) + 1 ≤ 2 ^ 0; decide⟩
    | succ j ih =>
      have h2 : (2 : Int) ^ (j + 1) = 2 ^ j + 2 ^ j := by rw [Int.pow_succ]; omega
      have hp : (0 : Int) < 2 ^ j := Int.pow_pos (by omega)
      unfold wtS
      split <;> omega
  have := h j
  rcases (show j = 0 ∨ j = 1 ∨ j = 2 ∨ j = 3 ∨ j = 4 by omega) with rfl | rfl | rfl | rfl | rfl <;> simp at this <;> omega
def p2 : Nat → Int
  | 0 => 1 | 1 => 2 | 2 => 4 | 3 => 8 | _ => 16
set_option maxHeartbeats 4000000 in
theorem rWithout_any (c s : Int) (hc : 0 ≤ c ∧ c ≤ 15) (hs : 0 ≤ s ∧ s ≤ 15) (w : World) :
    Calls Tryz.prog 65 #[.int .i64 c, .int .i64 s] w fun e w' => e = .returned (.int .i64 (wtS c s 4)) ∧ w = w' := by
  have HC := Lib.hid hc
  have HS := Lib.hid hs
  have HB := Lib.hid (wtS_bound c s)
  have HW := Lib.hid (show ∀ j, wtS c s (j + 1) = if c / 2 ^ j % 2 == 1 && s / 2 ^ j % 2 == 0 then wtS c s j + 2 ^ j else wtS c s j from fun _ => rfl)
  have c0 := hc.1
  have s0 := hs.1
  clear hc hs
  go_enter Tryz.func65, Tryz.ntmps65
  go_wp2
  go_loopw [5, 6] (fun o v wr => ∃ j : Nat, j ≤ 4 ∧ v = .int .i64 (p2 j) ∧ o = .int .i64 (wtS c s j) ∧ w = wr) (fun _ v _ => 20 - (intOf v).toNat)
  case atStart => exact ⟨0, Nat.zero_le _, rfl, rfl, rfl⟩
  case round =>
    obtain ⟨j, hj, rfl, rfl, rfl⟩ := hrel
    by_cases hlt : j < 4
    · have hb := HB.out j (by omega)
      have hw := HW.out j
      obtain ⟨W, hW⟩ : ∃ W, wtS c s j = W := ⟨_, rfl⟩
      rw [hW] at hb hw ⊢
      have hb0 := hb.1
      have hb1 := hb.2
      clear hW hb
      have HWW := Lib.hid hw
      clear hw
      have hcb := HC.out
      have hsb := HS.out
      rcases (show j = 0 ∨ j = 1 ∨ j = 2 ∨ j = 3 by omega) with rfl | rfl | rfl | rfl
      · obtain ⟨x, hx⟩ : ∃ x, c / 1 % 2 = x := ⟨_, rfl⟩
        obtain ⟨y, hy⟩ : ∃ y, s / 1 % 2 = y := ⟨_, rfl⟩
        have HW2 := Lib.hid (show wtS c s (0 + 1) = if x == 1 && y == 0 then W + 1 else W by rw [HWW.out, ← hx, ← hy]; rfl)
        have x01 : x = 0 ∨ x = 1 := by omega
        have y01 : y = 0 ∨ y = 1 := by omega
        have d1 : c.tdiv 1 = c / 1 := Int.tdiv_eq_ediv_of_nonneg c0
        have d2 : s.tdiv 1 = s / 1 := Int.tdiv_eq_ediv_of_nonneg s0
        have m1 : (c / 1).tmod 2 = x := by rw [Int.tmod_eq_emod_of_nonneg (by omega)]; exact hx
        have m2 : (s / 1).tmod 2 = y := by rw [Int.tmod_eq_emod_of_nonneg (by omega)]; exact hy
        have w1 : wrap64 (c / 1) = c / 1 := by unfold wrap64; omega
        have w2 : wrap64 (s / 1) = s / 1 := by unfold wrap64; omega
        have w3 : wrap64 (W + 1) = W + 1 := by unfold wrap64; omega
        clear hj hlt HWW
        dsimp only [p2]
        have m3 : c.tmod 2 = x := by rw [Int.tmod_eq_emod_of_nonneg c0, ← hx]; simp
        have m4 : s.tmod 2 = y := by rw [Int.tmod_eq_emod_of_nonneg s0, ← hy]; simp
        have m5 : c % 2 = x := by rw [← hx]; simp
        have m6 : s % 2 = y := by rw [← hy]; simp
        rcases x01 with rfl | rfl
        · go_wp2
          go_roundw
          case rel => exact ⟨1, by omega, rfl, by rw [HW2.out]; rfl, trivial⟩
          case measure => simp [intOf]
        · rcases y01 with rfl | rfl
          · go_wp2
            go_roundw
            case rel => exact ⟨1, by omega, rfl, by rw [HW2.out]; first | rfl | simp, trivial⟩
            case measure => simp [intOf]
          · go_wp2
            go_roundw
            case rel => exact ⟨1, by omega, rfl, by rw [HW2.out]; first | rfl | simp, trivial⟩
            case measure => simp [intOf]
      · obtain ⟨x, hx⟩ : ∃ x, c / 2 % 2 = x := ⟨_, rfl⟩
        obtain ⟨y, hy⟩ : ∃ y, s / 2 % 2 = y := ⟨_, rfl⟩
        have HW2 := Lib.hid (show wtS c s (1 + 1) = if x == 1 && y == 0 then W + 2 else W by rw [HWW.out, ← hx, ← hy]; rfl)
        have x01 : x = 0 ∨ x = 1 := by omega
        have y01 : y = 0 ∨ y = 1 := by omega
        have d1 : c.tdiv 2 = c / 2 := Int.tdiv_eq_ediv_of_nonneg c0
        have d2 : s.tdiv 2 = s / 2 := Int.tdiv_eq_ediv_of_nonneg s0
        have m1 : (c / 2).tmod 2 = x := by rw [Int.tmod_eq_emod_of_nonneg (by omega)]; exact hx
        have m2 : (s / 2).tmod 2 = y := by rw [Int.tmod_eq_emod_of_nonneg (by omega)]; exact hy
        have w1 : wrap64 (c / 2) = c / 2 := by unfold wrap64; omega
        have w2 : wrap64 (s / 2) = s / 2 := by unfold wrap64; omega
        have w3 : wrap64 (W + 2) = W + 2 := by unfold wrap64; omega
        clear hj hlt HWW
        dsimp only [p2]
        rcases x01 with rfl | rfl
        · go_wp2
          go_roundw
          case rel => exact ⟨2, by omega, rfl, by rw [HW2.out]; rfl, trivial⟩
          case measure => simp [intOf]
        · rcases y01 with rfl | rfl
          · go_wp2
            go_roundw
            case rel => exact ⟨2, by omega, rfl, by rw [HW2.out]; first | rfl | simp, trivial⟩
            case measure => simp [intOf]
          · go_wp2
            go_roundw
            case rel => exact ⟨2, by omega, rfl, by rw [HW2.out]; first | rfl | simp, trivial⟩
            case measure => simp [intOf]
      · obtain ⟨x, hx⟩ : ∃ x, c / 4 % 2 = x := ⟨_, rfl⟩
        obtain ⟨y, hy⟩ : ∃ y, s / 4 % 2 = y := ⟨_, rfl⟩
        have HW2 := Lib.hid (show wtS c s (2 + 1) = if x == 1 && y == 0 then W + 4 else W by rw [HWW.out, ← hx, ← hy]; rfl)
        have x01 : x = 0 ∨ x = 1 := by omega
        have y01 : y = 0 ∨ y = 1 := by omega
        have d1 : c.tdiv 4 = c / 4 := Int.tdiv_eq_ediv_of_nonneg c0
        have d2 : s.tdiv 4 = s / 4 := Int.tdiv_eq_ediv_of_nonneg s0
        have m1 : (c / 4).tmod 2 = x := by rw [Int.tmod_eq_emod_of_nonneg (by omega)]; exact hx
        have m2 : (s / 4).tmod 2 = y := by rw [Int.tmod_eq_emod_of_nonneg (by omega)]; exact hy
        have w1 : wrap64 (c / 4) = c / 4 := by unfold wrap64; omega
        have w2 : wrap64 (s / 4) = s / 4 := by unfold wrap64; omega
        have w3 : wrap64 (W + 4) = W + 4 := by unfold wrap64; omega
        clear hj hlt HWW
        dsimp only [p2]
        rcases x01 with rfl | rfl
        · go_wp2
          go_roundw
          case rel => exact ⟨3, by omega, rfl, by rw [HW2.out]; rfl, trivial⟩
          case measure => simp [intOf]
        · rcases y01 with rfl | rfl
          · go_wp2
            go_roundw
            case rel => exact ⟨3, by omega, rfl, by rw [HW2.out]; first | rfl | simp, trivial⟩
            case measure => simp [intOf]
          · go_wp2
            go_roundw
            case rel => exact ⟨3, by omega, rfl, by rw [HW2.out]; first | rfl | simp, trivial⟩
            case measure => simp [intOf]
      · obtain ⟨x, hx⟩ : ∃ x, c / 8 % 2 = x := ⟨_, rfl⟩
        obtain ⟨y, hy⟩ : ∃ y, s / 8 % 2 = y := ⟨_, rfl⟩
        have HW2 := Lib.hid (show wtS c s (3 + 1) = if x == 1 && y == 0 then W + 8 else W by rw [HWW.out, ← hx, ← hy]; rfl)
        have x01 : x = 0 ∨ x = 1 := by omega
        have y01 : y = 0 ∨ y = 1 := by omega
        have d1 : c.tdiv 8 = c / 8 := Int.tdiv_eq_ediv_of_nonneg c0
        have d2 : s.tdiv 8 = s / 8 := Int.tdiv_eq_ediv_of_nonneg s0
        have m1 : (c / 8).tmod 2 = x := by rw [Int.tmod_eq_emod_of_nonneg (by omega)]; exact hx
        have m2 : (s / 8).tmod 2 = y := by rw [Int.tmod_eq_emod_of_nonneg (by omega)]; exact hy
        have w1 : wrap64 (c / 8) = c / 8 := by unfold wrap64; omega
        have w2 : wrap64 (s / 8) = s / 8 := by unfold wrap64; omega
        have w3 : wrap64 (W + 8) = W + 8 := by unfold wrap64; omega
        clear hj hlt HWW
        dsimp only [p2]
        rcases x01 with rfl | rfl
        · go_wp2
          go_roundw
          case rel => exact ⟨4, by omega, rfl, by rw [HW2.out]; rfl, trivial⟩
          case measure => simp [intOf]
        · rcases y01 with rfl | rfl
          · go_wp2
            go_roundw
            case rel => exact ⟨4, by omega, rfl, by rw [HW2.out]; first | rfl | simp, trivial⟩
            case measure => simp [intOf]
          · go_wp2
            go_roundw
            case rel => exact ⟨4, by omega, rfl, by rw [HW2.out]; first | rfl | simp, trivial⟩
            case measure => simp [intOf]
    · obtain rfl : j = 4 := by omega
      dsimp only [p2]
      go_wp2
      go_ret
      exact ⟨rfl, rfl⟩
end Go.Proofs.YtcdnakbdajbfoaaGreatDoor

namespace Go.Proofs.YtcdnakbdajbfoaaGreatDoor
open Go.RowKit Go.Sort
set_option linter.unusedSimpArgs false
set_option linter.unusedVariables false
set_option maxRecDepth 20000

def lngL (k d : Int) (sm : Bool) (r s : Int) : Bool := k == 1 && sm && ((d == 0 && r == 1 && s == 3) || (d == 1 && r == 6 && s == 4))
theorem lngL_w1 (s r : Int) (h : (r == 1) = false) : lngL 1 0 true r s = false := by unfold lngL; rw [h]; rfl
theorem lngL_w3 (s r : Int) (h : (s == 3) = false) : lngL 1 0 true r s = false := by unfold lngL; rw [h, Bool.and_false]; rfl
theorem lngL_b1 (s r : Int) (h : (r == 6) = false) : lngL 1 1 true r s = false := by unfold lngL; rw [h]; rfl
theorem lngL_b3 (s r : Int) (h : (s == 4) = false) : lngL 1 1 true r s = false := by unfold lngL; rw [h, Bool.and_false]; rfl
theorem lngL_k (k d : Int) (sm : Bool) (s r : Int) (h : (k == 1) = false) : lngL k d sm r s = false := by unfold lngL; rw [h]; rfl
theorem lngL_f (k d : Int) (s r : Int) : lngL k d false r s = false := by unfold lngL; rw [Bool.and_false]; rfl
theorem nat_int (n k : Nat) : (n == k) = ((n : Int) == (k : Int)) := by rw [Bool.eq_iff_iff, beq_iff_eq, beq_iff_eq]; omega
def lngR (k d : Int) (f t : Nat) : Bool := k == 1 && smF f t && ((d == 0 && f / 8 == 1 && t / 8 == 3) || (d == 1 && f / 8 == 6 && t / 8 == 4))
theorem lngR_L (kk d : Int) (f t : Nat) : lngR kk d f t = lngL kk d (smF f t) ((f : Int) / 8) ((t : Int) / 8) := by
  unfold lngR lngL
  rw [nat_int (f / 8) 1, nat_int (t / 8) 3, nat_int (f / 8) 6, nat_int (t / 8) 4, show ((f / 8 : Nat) : Int) = (f : Int) / 8 by omega, show ((t / 8 : Nat) : Int) = (t : Int) / 8 by omega]
  rfl
theorem lngR_eq (P : Nat → Int) (f t : Nat) (hf : f < 64) (ht : t < 64) (h : P (2 * f + 1) = P 128) (hd : P 128 = 0 ∨ P 128 = 1) : lngR (P (2 * f)) (P (2 * f + 1)) f t = lngB P f t := by
  unfold lngR lngB pwnB rkN
  rw [h]
  rcases hd with h0 | h0
  · rw [h0, if_pos rfl, if_pos rfl]
    have e1 : (((f / 8 : Nat) : Int) == 1) = (f / 8 == 1) := by rw [Bool.eq_iff_iff, beq_iff_eq, beq_iff_eq]; omega
    have e2 : (((t / 8 : Nat) : Int) == 3) = (t / 8 == 3) := by rw [Bool.eq_iff_iff, beq_iff_eq, beq_iff_eq]; omega
    rw [e1, e2]
    cases P (2 * f) == 1 <;> cases smF f t <;> simp
  · rw [h0, if_neg (show ¬ ((1 : Int) = 0) by omega), if_neg (show ¬ ((1 : Int) = 0) by omega)]
    have e1 : ((7 - ((f / 8 : Nat) : Int)) == 1) = (f / 8 == 6) := by rw [Bool.eq_iff_iff, beq_iff_eq, beq_iff_eq]; omega
    have e2 : ((7 - ((t / 8 : Nat) : Int)) == 3) = (t / 8 == 4) := by rw [Bool.eq_iff_iff, beq_iff_eq, beq_iff_eq]; omega
    rw [e1, e2]
    cases P (2 * f) == 1 <;> cases smF f t <;> simp
set_option maxHeartbeats 4000000 in
theorem rLong_any (kk d : Int) (f t : Nat) (k : Int) (hf : f < 64) (ht : t < 64) (hd : d = 0 ∨ d = 1) (w : World) :
    Calls Tryz.prog 68 #[.agg #[.int .i64 kk, .int .i64 d], .agg #[.int .i64 (f : Int), .int .i64 (t : Int), .int .i64 k]] w fun e w' => e = .returned (.bool (lngR kk d f t)) ∧ Below w.heap.size w w' := by
  have hv := lngR_L kk d f t
  have HB := Lib.hid (two_at w (.cells #[.int .i64 kk, .int .i64 d] 26) (.cells #[.int .i64 (f : Int), .int .i64 (t : Int), .int .i64 k] 52))
  obtain ⟨x, hx⟩ : ∃ x : Nat, f % 8 = x := ⟨_, rfl⟩
  obtain ⟨y, hy⟩ : ∃ y : Nat, t % 8 = y := ⟨_, rfl⟩
  obtain ⟨r, hr⟩ : ∃ r : Int, (f : Int) / 8 = r := ⟨_, rfl⟩
  obtain ⟨s, hs⟩ : ∃ s : Int, (t : Int) / 8 = s := ⟨_, rfl⟩
  have tm1 : (f : Int).tmod 8 = (x : Int) := by rw [Int.tmod_eq_emod_of_nonneg (by omega)]; omega
  have tm2 : (t : Int).tmod 8 = (y : Int) := by rw [Int.tmod_eq_emod_of_nonneg (by omega)]; omega
  have tm3 : (f : Int) % 8 = (x : Int) := by omega
  have tm4 : (t : Int) % 8 = (y : Int) := by omega
  have td1 : (f : Int).tdiv 8 = r := by rw [Int.tdiv_eq_ediv_of_nonneg (by omega)]; exact hr
  have td2 : (t : Int).tdiv 8 = s := by rw [Int.tdiv_eq_ediv_of_nonneg (by omega)]; exact hs
  have tw1 : wrap64 r = r := by unfold wrap64; omega
  have tw2 : wrap64 s = s := by unfold wrap64; omega
  obtain ⟨sm, hsm⟩ : ∃ s, smF f t = s := ⟨_, rfl⟩
  rw [hsm, hr, hs] at hv
  have hsm2 : ((x : Int) != (y : Int)) = !sm := by
    rw [← hsm]; unfold smF; rw [hx, hy]
    by_cases h : x = y
    · subst h; simp
    · have h2 : (x == y) = false := by simp [h]
      have h3 : ((x : Int) != (y : Int)) = true := by simp; omega
      rw [h2, h3]; rfl
  have HV := Lib.hid hv
  clear hv hx hy hsm
  go_enter Tryz.func68, Tryz.ntmps68
  go_upto_region 1 with (fail)
  refine forget_B (fun W => W.heap[w.heap.size]? = some (.cells #[.int .i64 kk, .int .i64 d] 26 (0, 0)) ∧ W.heap[w.heap.size + 1]? = some (.cells #[.int .i64 (f : Int), .int .i64 (t : Int), .int .i64 k] 52 (0, 0)) ∧ Below w.heap.size w W) ⟨HB.out.1, HB.out.2.1, HB.out.2.2.1⟩ ?_
  clear HB
  rintro W ⟨h1, h2, hb⟩
  have HB := Lib.hid hb
  obtain ⟨x1, x2, xf, xz⟩ := row2 h1
  obtain ⟨q0, q1, q2, qf, qz⟩ := row3 h2
  clear h1 h2 hb
  by_cases hk : kk = 1
  case neg =>
    have hk2 : (kk == 1) = false := by simp [hk]
    have hk3 : (kk != 1) = true := by simp [hk]
    go_wp2
    go_ret
    exact ⟨q_b (by rw [HV.out, lngL_k _ _ _ _ _ hk2]), HB.out⟩
  subst hk
  cases sm
  case false =>
    go_wp2
    go_ret
    exact ⟨q_b (by rw [HV.out, lngL_f]), HB.out⟩
  rcases hd with rfl | rfl
  · by_cases h1 : r = 1
    · subst h1
      by_cases h3 : s = 3
      · subst h3
        go_wp2
        go_ret
        exact ⟨q_b (by rw [HV.out]; rfl), HB.out⟩
      · have h3b : (s == 3) = false := beq_eq_false_iff_ne.2 h3
        have h3c := Lib.hid h3b
        have HF := Lib.hid (HV.out.trans (lngL_w3 _ _ h3c.out))
        clear h3c HV
        go_wp2
        go_ret
        exact ⟨q_b HF.out.symm, HB.out⟩
    · have h1b : (r == 1) = false := beq_eq_false_iff_ne.2 h1
      have h1c := Lib.hid h1b
      have HF := Lib.hid (HV.out.trans (lngL_w1 _ _ h1c.out))
      clear h1c HV
      go_wp2
      go_ret
      exact ⟨q_b HF.out.symm, HB.out⟩
  · by_cases h1 : r = 6
    · subst h1
      by_cases h3 : s = 4
      · subst h3
        go_wp2
        go_ret
        exact ⟨q_b (by rw [HV.out]; rfl), HB.out⟩
      · have h3b : (s == 4) = false := beq_eq_false_iff_ne.2 h3
        have h3c := Lib.hid h3b
        have HF := Lib.hid (HV.out.trans (lngL_b3 _ _ h3c.out))
        clear h3c HV
        go_wp2
        go_ret
        exact ⟨q_b HF.out.symm, HB.out⟩
    · have h1b : (r == 6) = false := beq_eq_false_iff_ne.2 h1
      have h1c := Lib.hid h1b
      have HF := Lib.hid (HV.out.trans (lngL_b1 _ _ h1c.out))
      clear h1c HV
      go_wp2
      go_ret
      exact ⟨q_b HF.out.symm, HB.out⟩
end Go.Proofs.YtcdnakbdajbfoaaGreatDoor

namespace Go.Proofs.YtcdnakbdajbfoaaGreatDoor
open Go.RowKit Go.Sort
set_option linter.unusedSimpArgs false
set_option linter.unusedVariables false
set_option maxRecDepth 20000

def cslV (c kk d F T : Int) : Int :=
  if d == 1 then (if kk == 6 && F == 60 then (if T == 62 && c / 4 % 2 == 1 then 1 else if T == 58 && c / 8 % 2 == 1 then -1 else 0) else 0)
  else (if kk == 6 && F == 4 then (if T == 6 && c / 1 % 2 == 1 then 1 else if T == 2 && c / 2 % 2 == 1 then -1 else 0) else 0)
theorem cslV_k (c kk d F T : Int) (h : (kk == 6) = false) : cslV c kk d F T = 0 := by unfold cslV; rw [h]; cases d == 1 <;> rfl
theorem cslV_wf (c kk F T : Int) (h : (F == 4) = false) : cslV c kk 0 F T = 0 := by unfold cslV; rw [h, Bool.and_false]; rfl
theorem cslV_bf (c kk F T : Int) (h : (F == 60) = false) : cslV c kk 1 F T = 0 := by unfold cslV; rw [h, Bool.and_false]; rfl
theorem cslV_w (c T : Int) : cslV c 6 0 4 T = (if T == 6 && c / 1 % 2 == 1 then 1 else if T == 2 && c / 2 % 2 == 1 then -1 else 0) := rfl
theorem cslV_b (c T : Int) : cslV c 6 1 60 T = (if T == 62 && c / 4 % 2 == 1 then 1 else if T == 58 && c / 8 % 2 == 1 then -1 else 0) := rfl
set_option maxHeartbeats 4000000 in
set_option maxRecDepth 100000 in
theorem rCsl_any (P : Nat → Int) (F T k : Int) (hF : 0 ≤ F ∧ F < 64) (hd : P (F.toNat * 2 + 1) = 0 ∨ P (F.toNat * 2 + 1) = 1) (w : World) :
    Calls Tryz.prog 64 #[.agg (pc P).toArray, .agg #[.int .i64 F, .int .i64 T, .int .i64 k]] w fun e w' => e = .returned (.int .i64 (cslV (cas0 (P 129)) (P (F.toNat * 2)) (P (F.toNat * 2 + 1)) F T)) ∧ Below w.heap.size w w' := by
  obtain ⟨X, hX⟩ : ∃ X, X = (pc P).toArray := ⟨_, rfl⟩
  have M1 := Lib.hid (fun W => rCas_any P W)
  rw [← hX] at M1 ⊢
  have HI := Lib.hid (MC.begin w P F T k X hX)
  have HX := Lib.hid hX
  have hcr := cas0_range (P 129)
  have f0 := hF.1
  have f1 := hF.2
  have HC := Lib.hid (show ∀ W, MC w W P F T k → W.cell? ⟨w.heap.size, F.toNat * 2, none⟩ = some (.int .i64 (P (F.toNat * 2))) ∧ W.cell? ⟨w.heap.size, F.toNat * 2 + 1, none⟩ = some (.int .i64 (P (F.toNat * 2 + 1))) from fun W h => ⟨h.p.cell _ (by omega), h.p.cell _ (by omega)⟩)
  generalize P (F.toNat * 2) = kk at *
  generalize P (F.toNat * 2 + 1) = d at *
  generalize cas0 (P 129) = c at *
  have c0 := hcr.1
  have c15 := hcr.2
  clear hX hcr hF
  obtain ⟨V, hV⟩ : ∃ V, cslV c kk d F T = V := ⟨_, rfl⟩
  rw [hV]
  have HV := Lib.hid hV
  clear hV
  have POS := Lib.hid (fun W (h : MC w W P F T k) => h.p)
  go_enter Tryz.func64, Tryz.ntmps64
  go_upto_region 1 with (fail)
  refine forget_B (fun W => MC w W P F T k) HI.out ?_
  clear HI
  intro W hi
  have HI := Lib.hid hi
  clear hi
  obtain ⟨q0, q1, q2, qf, qz⟩ := row3 HI.out.m
  obtain ⟨e1, e2⟩ := HC.out _ HI.out
  go_upto_region 2 with (fail)
  refine forget_B (fun W' => MC w W' P F T k ∧ W'.heap[W.heap.size]? = some (.cells #[.int .i64 kk, .int .i64 d] 26 (0, 0))) ⟨HI.out.go (below_new _), sl_at rfl⟩ ?_
  clear e1 e2 q0 q1 q2 qf qz HI
  rintro W1 ⟨hi, hx⟩
  have HI := Lib.hid hi
  have HY := Lib.hid hx
  obtain ⟨x1, x2, xf, xz⟩ := row2 hx
  clear hi hx
  obtain ⟨q0, q1, q2, qf, qz⟩ := row3 HI.out.m
  by_cases hk : kk = 6
  case neg =>
    have hk2 : (kk != 6) = true := by simp [hk]
    have hk3 : (kk == 6) = false := by simp [hk]
    have HF := Lib.hid (show V = 0 by rw [← HV.out]; exact cslV_k _ _ _ _ _ hk3)
    clear hk3
    rcases hd with rfl | rfl
    all_goals
      go_wp2
      go_ret
      exact ⟨q_i HF.out.symm, HI.out.b⟩
  subst hk
  rcases hd with rfl | rfl
  · by_cases hf : F = 4
    case neg =>
      have hf2 : (F != 4) = true := by simp [hf]
      have hf3 : (F == 4) = false := by simp [hf]
      have HF := Lib.hid (show V = 0 by rw [← HV.out]; exact cslV_wf _ _ _ _ hf3)
      clear hf3
      go_wp2
      go_ret
      exact ⟨q_i HF.out.symm, HI.out.b⟩
    subst hf
    have HV2 := Lib.hid (HV.out.symm.trans (cslV_w c T))
    clear HV
    by_cases ha : T = 6
    case pos =>
      subst ha
      obtain ⟨x, hx⟩ : ∃ x, c / 1 % 2 = x := ⟨_, rfl⟩
      have x01 : x = 0 ∨ x = 1 := by omega
      have dx : c.tdiv 1 = c / 1 := Int.tdiv_eq_ediv_of_nonneg c0
      have mx : (c / 1).tmod 2 = x := by rw [Int.tmod_eq_emod_of_nonneg (by omega)]; exact hx
      have wx : wrap64 (c / 1) = c / 1 := by unfold wrap64; omega
      have m3x : c.tmod 2 = x := by rw [Int.tmod_eq_emod_of_nonneg c0, ← hx]; simp
      have m5x : c % 2 = x := by rw [← hx]; simp
      rcases x01 with rfl | rfl
      · have HF := Lib.hid (show V = 0 by rw [HV2.out, hx]; rfl)
        clear HV2
        go_wp2_with (refine wpList_pos (by rfl) _ (by rfl) w.heap.size P X HX.out (by rfl) HI.out.p ?_)
        refine (M1.out _).mono ?_
        rintro e w1 ⟨rfl, hb1⟩
        replace HI := Lib.hid (HI.out.go hb1)
        clear q0 q1 q2 qf qz x1 x2 xf xz hb1
        obtain ⟨q0, q1, q2, qf, qz⟩ := row3 HI.out.m
        go_wp2
        go_ret
        exact ⟨q_i HF.out.symm, HI.out.b⟩
      · have HF := Lib.hid (show V = 1 by rw [HV2.out, hx]; rfl)
        clear HV2
        go_wp2_with (refine wpList_pos (by rfl) _ (by rfl) w.heap.size P X HX.out (by rfl) HI.out.p ?_)
        refine (M1.out _).mono ?_
        rintro e w1 ⟨rfl, hb1⟩
        replace HI := Lib.hid (HI.out.go hb1)
        clear q0 q1 q2 qf qz x1 x2 xf xz hb1
        obtain ⟨q0, q1, q2, qf, qz⟩ := row3 HI.out.m
        go_wp2
        go_ret
        exact ⟨q_i HF.out.symm, HI.out.b⟩
    have ha2 : (T == 6) = false := by simp [ha]
    by_cases hb : T = 2
    case pos =>
      subst hb
      obtain ⟨x, hx⟩ : ∃ x, c / 2 % 2 = x := ⟨_, rfl⟩
      have x01 : x = 0 ∨ x = 1 := by omega
      have dx : c.tdiv 2 = c / 2 := Int.tdiv_eq_ediv_of_nonneg c0
      have mx : (c / 2).tmod 2 = x := by rw [Int.tmod_eq_emod_of_nonneg (by omega)]; exact hx
      have wx : wrap64 (c / 2) = c / 2 := by unfold wrap64; omega
      rcases x01 with rfl | rfl
      · have HF := Lib.hid (show V = 0 by rw [HV2.out, hx]; rfl)
        clear HV2 ha ha2
        go_wp2_with (refine wpList_pos (by rfl) _ (by rfl) w.heap.size P X HX.out (by rfl) HI.out.p ?_)
        refine (M1.out _).mono ?_
        rintro e w1 ⟨rfl, hb1⟩
        replace HI := Lib.hid (HI.out.go hb1)
        clear q0 q1 q2 qf qz x1 x2 xf xz hb1
        obtain ⟨q0, q1, q2, qf, qz⟩ := row3 HI.out.m
        go_wp2
        go_ret
        exact ⟨q_i HF.out.symm, HI.out.b⟩
      · have HF := Lib.hid (show V = -1 by rw [HV2.out, hx]; rfl)
        clear HV2 ha ha2
        go_wp2_with (refine wpList_pos (by rfl) _ (by rfl) w.heap.size P X HX.out (by rfl) HI.out.p ?_)
        refine (M1.out _).mono ?_
        rintro e w1 ⟨rfl, hb1⟩
        replace HI := Lib.hid (HI.out.go hb1)
        clear q0 q1 q2 qf qz x1 x2 xf xz hb1
        obtain ⟨q0, q1, q2, qf, qz⟩ := row3 HI.out.m
        go_wp2
        go_ret
        exact ⟨q_i HF.out.symm, HI.out.b⟩
    have hb2 : (T == 2) = false := by simp [hb]
    have HF := Lib.hid (show V = 0 by rw [HV2.out, ha2, hb2]; rfl)
    clear HV2
    go_wp2
    go_ret
    exact ⟨q_i HF.out.symm, HI.out.b⟩
  · by_cases hf : F = 60
    case neg =>
      have hf2 : (F != 60) = true := by simp [hf]
      have hf3 : (F == 60) = false := by simp [hf]
      have HF := Lib.hid (show V = 0 by rw [← HV.out]; exact cslV_bf _ _ _ _ hf3)
      clear hf3
      go_wp2
      go_ret
      exact ⟨q_i HF.out.symm, HI.out.b⟩
    subst hf
    have HV2 := Lib.hid (HV.out.symm.trans (cslV_b c T))
    clear HV
    by_cases ha : T = 62
    case pos =>
      subst ha
      obtain ⟨x, hx⟩ : ∃ x, c / 4 % 2 = x := ⟨_, rfl⟩
      have x01 : x = 0 ∨ x = 1 := by omega
      have dx : c.tdiv 4 = c / 4 := Int.tdiv_eq_ediv_of_nonneg c0
      have mx : (c / 4).tmod 2 = x := by rw [Int.tmod_eq_emod_of_nonneg (by omega)]; exact hx
      have wx : wrap64 (c / 4) = c / 4 := by unfold wrap64; omega
      rcases x01 with rfl | rfl
      · have HF := Lib.hid (show V = 0 by rw [HV2.out, hx]; rfl)
        clear HV2
        go_wp2_with (refine wpList_pos (by rfl) _ (by rfl) w.heap.size P X HX.out (by rfl) HI.out.p ?_)
        refine (M1.out _).mono ?_
        rintro e w1 ⟨rfl, hb1⟩
        replace HI := Lib.hid (HI.out.go hb1)
        clear q0 q1 q2 qf qz x1 x2 xf xz hb1
        obtain ⟨q0, q1, q2, qf, qz⟩ := row3 HI.out.m
        go_wp2
        go_ret
        exact ⟨q_i HF.out.symm, HI.out.b⟩
      · have HF := Lib.hid (show V = 1 by rw [HV2.out, hx]; rfl)
        clear HV2
        go_wp2_with (refine wpList_pos (by rfl) _ (by rfl) w.heap.size P X HX.out (by rfl) HI.out.p ?_)
        refine (M1.out _).mono ?_
        rintro e w1 ⟨rfl, hb1⟩
        replace HI := Lib.hid (HI.out.go hb1)
        clear q0 q1 q2 qf qz x1 x2 xf xz hb1
        obtain ⟨q0, q1, q2, qf, qz⟩ := row3 HI.out.m
        go_wp2
        go_ret
        exact ⟨q_i HF.out.symm, HI.out.b⟩
    have ha2 : (T == 62) = false := by simp [ha]
    by_cases hb : T = 58
    case pos =>
      subst hb
      obtain ⟨x, hx⟩ : ∃ x, c / 8 % 2 = x := ⟨_, rfl⟩
      have x01 : x = 0 ∨ x = 1 := by omega
      have dx : c.tdiv 8 = c / 8 := Int.tdiv_eq_ediv_of_nonneg c0
      have mx : (c / 8).tmod 2 = x := by rw [Int.tmod_eq_emod_of_nonneg (by omega)]; exact hx
      have wx : wrap64 (c / 8) = c / 8 := by unfold wrap64; omega
      rcases x01 with rfl | rfl
      · have HF := Lib.hid (show V = 0 by rw [HV2.out, hx]; rfl)
        clear HV2 ha ha2
        go_wp2_with (refine wpList_pos (by rfl) _ (by rfl) w.heap.size P X HX.out (by rfl) HI.out.p ?_)
        refine (M1.out _).mono ?_
        rintro e w1 ⟨rfl, hb1⟩
        replace HI := Lib.hid (HI.out.go hb1)
        clear q0 q1 q2 qf qz x1 x2 xf xz hb1
        obtain ⟨q0, q1, q2, qf, qz⟩ := row3 HI.out.m
        go_wp2
        go_ret
        exact ⟨q_i HF.out.symm, HI.out.b⟩
      · have HF := Lib.hid (show V = -1 by rw [HV2.out, hx]; rfl)
        clear HV2 ha ha2
        go_wp2_with (refine wpList_pos (by rfl) _ (by rfl) w.heap.size P X HX.out (by rfl) HI.out.p ?_)
        refine (M1.out _).mono ?_
        rintro e w1 ⟨rfl, hb1⟩
        replace HI := Lib.hid (HI.out.go hb1)
        clear q0 q1 q2 qf qz x1 x2 xf xz hb1
        obtain ⟨q0, q1, q2, qf, qz⟩ := row3 HI.out.m
        go_wp2
        go_ret
        exact ⟨q_i HF.out.symm, HI.out.b⟩
    have hb2 : (T == 58) = false := by simp [hb]
    have HF := Lib.hid (show V = 0 by rw [HV2.out, ha2, hb2]; rfl)
    clear HV2
    go_wp2
    go_ret
    exact ⟨q_i HF.out.symm, HI.out.b⟩
end Go.Proofs.YtcdnakbdajbfoaaGreatDoor

namespace Go.Proofs.YtcdnakbdajbfoaaGreatDoor
open Go.RowKit Go.Sort
set_option linter.unusedSimpArgs false
set_option linter.unusedVariables false
set_option maxRecDepth 20000

theorem tkP_eq (P : Nat → Int) (f t k : Int) : tkP P f t k = if fltN P f t k = 0 then tksN P f.toNat t.toNat else -1 := by
  unfold tkP
  rw [flt_hand]
  rcases flt_cases P f t k with h | ⟨h, a, b, rfl, rfl, ha, hb⟩
  · rw [if_neg (by rcases h with h | h <;> omega), if_neg (by rcases h with h | h <;> omega)]
  · rw [if_pos h, if_pos h, Int.toNat_natCast, Int.toNat_natCast, tks_hand P a b ha hb]
theorem at_int (f t : Nat) (ht : t < 64) (hf : f < 64) : ∃ q r : Int, (f : Int).tdiv 8 = q ∧ (t : Int).tmod 8 = r ∧ q * 8 + r = ((8 * (f / 8) + t % 8 : Nat) : Int) ∧ 0 ≤ q ∧ q < 8 ∧ 0 ≤ r ∧ r < 8 :=
  ⟨(f : Int) / 8, (t : Int) % 8, Int.tdiv_eq_ediv_of_nonneg (by omega), Int.tmod_eq_emod_of_nonneg (by omega), by omega, by omega, by omega, by omega, by omega⟩
theorem tks_parts (P : Nat → Int) (f t : Nat) (a : Nat) (ha : atN P f t = a) : tksN P f t = if emB P a then -1 else (a : Int) := by unfold tksN; rw [ha]
set_option maxHeartbeats 4000000 in
set_option maxRecDepth 100000 in
theorem rTakes_any (P : Nat → Int) (f t k : Int) (w : World) :
    Calls Tryz.prog 63 #[.agg (pc P).toArray, .agg #[.int .i64 f, .int .i64 t, .int .i64 k]] w fun e w' => e = .returned (.int .i64 (tkP P f t k)) ∧ Below w.heap.size w w' := by
  obtain ⟨X, hX⟩ : ∃ X, X = (pc P).toArray := ⟨_, rfl⟩
  have hv := tkP_eq P f t k
  obtain ⟨V, hV⟩ : ∃ V, tkP P f t k = V := ⟨_, rfl⟩
  rw [hV] at hv
  rw [hV, ← hX]
  have HI := Lib.hid (MC.begin w P f t k X hX)
  have HX := Lib.hid hX
  have HV := Lib.hid hv
  have HBAD := Lib.hid (flt_bad P f t k)
  have hcases : (sq f = false) ∨ (sq f = true ∧ sq t = false) ∨ (sq f = true ∧ sq t = true ∧ f = t) ∨ (sq f = true ∧ sq t = true ∧ ¬ f = t ∧ ∃ a b : Nat, f = a ∧ t = b ∧ a < 64 ∧ b < 64 ∧ a ≠ b) := by
    rcases sq_cases f with ⟨_, h⟩ | ⟨_, h⟩ | ⟨a0, a1, h⟩
    · exact .inl h
    · exact .inl h
    · rcases sq_cases t with ⟨_, h2⟩ | ⟨_, h2⟩ | ⟨b0, b1, h2⟩
      · exact .inr (.inl ⟨h, h2⟩)
      · exact .inr (.inl ⟨h, h2⟩)
      · by_cases e : f = t
        · exact .inr (.inr (.inl ⟨h, h2, e⟩))
        · exact .inr (.inr (.inr ⟨h, h2, e, f.toNat, t.toNat, by omega, by omega, by omega, by omega, by omega⟩))
  have M1 := Lib.hid (fun W => rIs8_any f W)
  have M2 := Lib.hid (fun W => rIs8_any t W)
  clear hX hv hV
  go_enter Tryz.func63, Tryz.ntmps63
  go_upto_region 1 with (fail)
  refine forget_B (fun W => MC w W P f t k) HI.out ?_
  clear HI
  intro W hi
  have HI := Lib.hid hi
  clear hi
  obtain ⟨q0, q1, q2, qf, qz⟩ := row3 HI.out.m
  rcases hcases with h1 | ⟨h1, h2⟩ | ⟨h1, h2, rfl⟩ | ⟨s1, s2, hne0, fn, tn, hfn, htn, hf, ht, hne⟩
  · have HF := Lib.hid (show V = -1 by rw [HV.out, HBAD.out (by rw [h1]; rfl)]; rfl)
    rw [h1] at M1
    clear h1 HV HBAD
    go_wp2_with fail
    refine (M1.out _).mono ?_
    rintro e w1 ⟨rfl, rfl⟩
    go_wp2
    go_ret
    exact ⟨q_i HF.out.symm, HI.out.b⟩
  · have HF := Lib.hid (show V = -1 by rw [HV.out, HBAD.out (by rw [h2]; simp)]; rfl)
    rw [h1] at M1
    rw [h2] at M2
    clear h1 h2 HV HBAD
    go_wp2_with fail
    refine (M1.out _).mono ?_
    rintro e w1 ⟨rfl, rfl⟩
    go_wp2_with fail
    refine (M2.out _).mono ?_
    rintro e w1 ⟨rfl, rfl⟩
    go_wp2
    go_ret
    exact ⟨q_i HF.out.symm, HI.out.b⟩
  · have HF := Lib.hid (show V = -1 by rw [HV.out, HBAD.out (by simp)]; rfl)
    rw [h1] at M1
    clear h1 h2 HV HBAD M2
    go_wp2_with fail
    refine (M1.out _).mono ?_
    rintro e w1 ⟨rfl, rfl⟩
    go_wp2_with fail
    refine (M1.out _).mono ?_
    rintro e w1 ⟨rfl, rfl⟩
    go_wp2
    go_ret
    exact ⟨q_i HF.out.symm, HI.out.b⟩
  · rw [s1] at M1
    rw [s2] at M2
    have hne2 : (f == t) = false := beq_eq_false_iff_ne.2 hne0
    have hon := flt_on P fn tn k hf ht hne
    have hv := HV.out
    have M3 := Lib.hid (fun W => rCan_any P fn tn k hf ht W)
    have M4 := Lib.hid (fun W => rOver8_any P fn tn k hf ht W)
    obtain ⟨a, ha⟩ : ∃ a : Nat, atN P fn tn = a := ⟨_, rfl⟩
    have ha64 : a < 64 := by rw [← ha]; exact atN_lt P fn tn hf ht
    have hao : (a : Int) = if ovrB P fn tn then ((8 * (fn / 8) + tn % 8 : Nat) : Int) else (tn : Int) := by rw [← ha]; unfold atN; split <;> rfl
    obtain ⟨qd, rm, td, tm, hqr, d0, d8, r0, r8⟩ := at_int fn tn ht hf
    rw [← hqr] at hao
    rw [← hfn, ← htn] at hon
    rw [← hfn, ← htn, ← HX.out] at M3 M4
    rw [← hfn] at td
    rw [← htn] at tm hao
    rw [hon, show f.toNat = fn by omega, show t.toNat = tn by omega, tks_parts P fn tn a ha] at hv
    have hem := emB_at P a
    obtain ⟨A, hA⟩ : ∃ A : Int, (a : Int) = A := ⟨_, rfl⟩
    rw [show a = A.toNat by omega] at hem
    have HC := Lib.hid (show ∀ W, MC w W P f t k → W.cell? ⟨w.heap.size, A.toNat * 2, none⟩ = some (.int .i64 (P (A.toNat * 2))) ∧ W.cell? ⟨w.heap.size, A.toNat * 2 + 1, none⟩ = some (.int .i64 (P (A.toNat * 2 + 1))) from fun W h => ⟨h.p.cell _ (by omega), h.p.cell _ (by omega)⟩)
    rw [show emB P a = emB P A.toNat by rw [show a = A.toNat by omega]] at hv
    have a0 : (0 : Int) ≤ A := by omega
    have a1 : A < 64 := by omega
    rw [hA] at hv hao
    replace hem := hem.symm
    clear s1 s2 HV HBAD hon ha hqr hfn htn ha64 hA
    generalize emB P A.toNat = em at *
    generalize P (A.toNat * 2) = pk at *
    generalize P (A.toNat * 2 + 1) = pd at *
    generalize ovrB P fn tn = ov at *
    obtain ⟨cb, hcb⟩ : ∃ c, (ownB P fn && becB P fn tn k) = c := ⟨_, rfl⟩
    rw [hcb] at M3 hv
    have HV := Lib.hid hv
    have HAO := Lib.hid hao
    clear hcb hv hao hne hf ht a fn tn
    go_wp2_with fail
    refine (M1.out _).mono ?_
    rintro e w1 ⟨rfl, rfl⟩
    go_wp2_with fail
    refine (M2.out _).mono ?_
    rintro e w1 ⟨rfl, rfl⟩
    go_wp2_with (refine wpList_pos (by rfl) _ (by rfl) w.heap.size P X HX.out (by rfl) HI.out.p ?_)
    refine (M3.out _).mono ?_
    rintro e w1 ⟨rfl, hb1⟩
    replace HI := Lib.hid (HI.out.go hb1)
    clear q0 q1 q2 qf qz hb1 hne0 hne2
    obtain ⟨q0, q1, q2, qf, qz⟩ := row3 HI.out.m
    cases cb
    · go_wp2
      go_ret
      exact ⟨q_i (by rw [HV.out]; rfl), HI.out.b⟩
    go_wp2_with (refine wpList_pos (by rfl) _ (by rfl) w.heap.size P X HX.out (by rfl) HI.out.p ?_)
    refine (M4.out _).mono ?_
    rintro e w2 ⟨rfl, hb1⟩
    replace HI := Lib.hid (HI.out.go hb1)
    clear q0 q1 q2 qf qz hb1
    obtain ⟨q0, q1, q2, qf, qz⟩ := row3 HI.out.m
    cases ov
    · obtain rfl : A = t := HAO.out
      obtain ⟨e1, e2⟩ := HC.out _ HI.out
      cases em
      all_goals
        go_wp2
        go_ret
        exact ⟨q_i (by rw [HV.out]; rfl), HI.out.b⟩
    · have hq9 : qd * 8 + rm = A := HAO.out.symm
      obtain ⟨e1, e2⟩ := HC.out _ HI.out
      have w1 : wrap64 qd = qd := by unfold wrap64; omega
      have w2 : wrap64 (qd * 8) = qd * 8 := by unfold wrap64; omega
      obtain ⟨q8, hq8⟩ : ∃ q8, qd * 8 = q8 := ⟨_, rfl⟩
      rw [hq8] at hq9 w2
      have w3 : wrap64 A = A := by unfold wrap64; omega
      clear HAO
      cases em
      all_goals
        go_wp2
        go_ret
        exact ⟨q_i (by rw [HV.out]; rfl), HI.out.b⟩
end Go.Proofs.YtcdnakbdajbfoaaGreatDoor
