/-
  Contracts: what a hand asks of a move.
-/
import Derived.Test.YtldepimkbnodpaaDoorPa
namespace Go.Proofs.YtldepimkbnodpaaDoor
open Go.RowKit Go.Sort
set_option linter.unusedSimpArgs false
set_option linter.unusedVariables false

set_option maxHeartbeats 2000000 in
theorem owns_any (b : Nat) (P : Nat → Int) (f : Nat) (hf : f < 64) (w : World) (hp : PB w b P) :
    Calls Tryd.prog 40 #[.pointer (some ⟨b, 0, none⟩), .int .i64 (f : Int)] w fun e w' => e = .returned (.bool (ownB P f)) ∧ Below w.heap.size w w' := by
  have s0 : (0 : Int) ≤ f := by omega
  have s1 : (f : Int) < 64 := by omega
  have e1 := hp.cell (f * 2) (by omega)
  have e2 := hp.cell (f * 2 + 1) (by omega)
  have e3 := cell_regrown (hp.cell 128 (by omega))
  have HP := Lib.hid hp
  have hv : ownB P f = (sideB (P 128) && (P (f * 2 + 1) == P 128) && decide (1 ≤ P (f * 2)) && decide (P (f * 2) ≤ 6)) := by unfold ownB; rw [Nat.mul_comm f 2]
  have hlt := hp.lt
  clear hp
  have E3 := Lib.hid (show ∀ W, PB W b P → W.cell? ⟨b, 128, none⟩ = some (.int .i64 (P 128)) from fun W h => h.cell 128 (by omega))
  clear e3
  generalize P (f * 2) = k at *
  generalize P (f * 2 + 1) = d at *
  generalize P 128 = sd at *
  have HV := Lib.hid hv
  clear hv
  go_enter Tryd.func40, Tryd.ntmps40
  go_upto_region 2 with (fail)
  refine forget_B (fun W => PB W b P ∧ W.heap[w.heap.size]? = some (.cells #[.int .i64 k, .int .i64 d] 25 (0, 0)) ∧ Below w.heap.size w W) ⟨HP.out.alloc _, sl_at rfl, below_new _⟩ ?_
  clear e1 e2 HP hlt
  rintro W ⟨hp, hx, hb⟩
  have y1 := cell_regrown (E3.out W hp)
  have x1 := cell_regrown (row2 hx).1
  have x2 := cell_regrown (row2 hx).2.1
  have HB := Lib.hid hb
  clear hp hx hb E3
  obtain ⟨sb, hsb⟩ : ∃ s, sideB sd = s := ⟨_, rfl⟩
  have c1 := regrown_same (w := W) (fun W => isSideP_any sd W)
  rw [hsb] at c1 HV
  clear hsb
  cases sb
  · refine wp_region_quiet_below (by kernel_rfl) (by kernel_rfl) ?_
    repeat (first | go_big_quiet_step (exact c1 _ _) | quiet_step (exact c1 _ _))
    refine wpQuiet_nil ?_
    rintro W4 ⟨q, rfl⟩
    go_wp2
    go_ret
    exact ⟨q_b (by rw [HV.out]; rfl), HB.out.trans ((below_regrown W q.d q.os).mono HB.out.size)⟩
  · by_cases hd : d = sd
    · subst hd
      by_cases h1 : 1 ≤ k
      · by_cases h6 : k ≤ 6
        · refine wp_region_quiet_below (by kernel_rfl) (by kernel_rfl) ?_
          repeat (first | go_big_quiet_step (exact c1 _ _) | quiet_step (exact c1 _ _))
          refine wpQuiet_nil ?_
          rintro W4 ⟨q, rfl⟩
          go_wp2
          go_ret
          exact ⟨q_b (by rw [HV.out]; simp [h1, h6]), HB.out.trans ((below_regrown W q.d q.os).mono HB.out.size)⟩
        · refine wp_region_quiet_below (by kernel_rfl) (by kernel_rfl) ?_
          repeat (first | go_big_quiet_step (exact c1 _ _) | quiet_step (exact c1 _ _))
          refine wpQuiet_nil ?_
          rintro W4 ⟨q, rfl⟩
          go_wp2
          go_ret
          exact ⟨q_b (by rw [HV.out]; simp [h1, h6]), HB.out.trans ((below_regrown W q.d q.os).mono HB.out.size)⟩
      · refine wp_region_quiet_below (by kernel_rfl) (by kernel_rfl) ?_
        repeat (first | go_big_quiet_step (exact c1 _ _) | quiet_step (exact c1 _ _))
        refine wpQuiet_nil ?_
        rintro W4 ⟨q, rfl⟩
        go_wp2
        go_ret
        exact ⟨q_b (by rw [HV.out]; simp; omega), HB.out.trans ((below_regrown W q.d q.os).mono HB.out.size)⟩
    · have hd2 : (d == sd) = false := by simp [hd]
      refine wp_region_quiet_below (by kernel_rfl) (by kernel_rfl) ?_
      repeat (first | go_big_quiet_step (exact c1 _ _) | quiet_step (exact c1 _ _))
      refine wpQuiet_nil ?_
      rintro W4 ⟨q, rfl⟩
      go_wp2
      go_ret
      exact ⟨q_b (by rw [HV.out, hd2]; simp), HB.out.trans ((below_regrown W q.d q.os).mono HB.out.size)⟩
set_option maxHeartbeats 2000000 in
theorem mayBecome_any (b : Nat) (P : Nat → Int) (f t : Nat) (k : Int) (hf : f < 64) (ht : t < 64) (w : World) (hp : PB w b P) :
    Calls Tryd.prog 41 #[.pointer (some ⟨b, 0, none⟩), .agg #[.int .i64 (f : Int), .int .i64 (t : Int), .int .i64 k]] w fun e w' => e = .returned (.bool (becB P f t k)) ∧ Below w.heap.size w w' := by
  have HI := Lib.hid (HM.begin (f : Int) (t : Int) k hp)
  have M1 := Lib.hid (fun W h => goesPawn_any b P f (t : Int) k hf W h)
  have M2 := Lib.hid (fun W h => rankP_any b P t ht W h)
  have hv : becB P f t k = if pwnB P f && (rkN P t == 7) then decide (2 ≤ k) && decide (k ≤ 5) else k == 0 := rfl
  clear hp
  generalize pwnB P f = pw at *
  generalize rkN P t = rk at *
  have HV := Lib.hid hv
  clear hv
  go_enter Tryd.func41, Tryd.ntmps41
  go_upto_region 1 with (fail)
  refine forget_B (fun W => HM w W b P f t k) HI.out ?_
  clear HI
  intro W hi
  have HI := Lib.hid hi
  clear hi
  obtain ⟨q0, q1, q2, qf, qz⟩ := row3 HI.out.x
  cases pw
  · go_wp2_with fail
    refine (M1.out _ HI.out.p).mono ?_
    rintro e w1 ⟨rfl, hb1⟩
    replace HI := Lib.hid (HI.out.go hb1)
    clear q0 q1 q2 qf qz
    obtain ⟨q0, q1, q2, qf, qz⟩ := row3 HI.out.x
    go_wp2
    go_ret
    exact ⟨q_b (by rw [HV.out]; rfl), HI.out.b⟩
  · go_wp2_with fail
    refine (M1.out _ HI.out.p).mono ?_
    rintro e w1 ⟨rfl, hb1⟩
    replace HI := Lib.hid (HI.out.go hb1)
    clear q0 q1 q2 qf qz
    obtain ⟨q0, q1, q2, qf, qz⟩ := row3 HI.out.x
    go_wp2_with fail
    refine (M2.out _ HI.out.p).mono ?_
    rintro e w2 ⟨rfl, hb2⟩
    replace HI := Lib.hid (HI.out.go hb2)
    clear q0 q1 q2 qf qz
    obtain ⟨q0, q1, q2, qf, qz⟩ := row3 HI.out.x
    by_cases h7 : rk = 7
    · subst h7
      by_cases h2 : 2 ≤ k
      · by_cases h5 : k ≤ 5
        · go_wp2
          go_ret
          exact ⟨q_b (by rw [HV.out]; simp [h2, h5]), HI.out.b⟩
        · go_wp2
          go_ret
          exact ⟨q_b (by rw [HV.out]; simp [h2, h5]), HI.out.b⟩
      · go_wp2
        go_ret
        exact ⟨q_b (by rw [HV.out]; simp; omega), HI.out.b⟩
    · have h7b : (rk == 7) = false := by simp [h7]
      go_wp2
      go_ret
      exact ⟨q_b (by rw [HV.out, h7b]; rfl), HI.out.b⟩
set_option maxHeartbeats 2000000 in
theorem takesOver_any (b : Nat) (P : Nat → Int) (f t : Nat) (k : Int) (hf : f < 64) (ht : t < 64) (w : World) (hp : PB w b P) :
    Calls Tryd.prog 51 #[.pointer (some ⟨b, 0, none⟩), .agg #[.int .i64 (f : Int), .int .i64 (t : Int), .int .i64 k]] w fun e w' => e = .returned (.bool (ovrB P f t)) ∧ Below w.heap.size w w' := by
  have HI := Lib.hid (HM.begin (f : Int) (t : Int) k hp)
  have M1 := Lib.hid (fun W h => goesPawn_any b P f (t : Int) k hf W h)
  have M2 := Lib.hid (fun W => sameFile_any f t k hf ht W)
  have M3 := Lib.hid (fun W h => stands_any b P t ht W h)
  have E1 := Lib.hid (show ∀ W, PB W b P → W.cell? ⟨b, 130, none⟩ = some (.int .i64 (P 130)) from fun W h => h.cell 130 (by omega))
  have hv : ovrB P f t = (pwnB P f && !smF f t && ((t : Int) == P 130) && emB P t) := rfl
  clear hp
  generalize pwnB P f = pw at *
  generalize smF f t = sm at *
  generalize P 130 = o at *
  generalize emB P t = em at *
  have HV := Lib.hid hv
  clear hv
  go_enter Tryd.func51, Tryd.ntmps51
  go_upto_region 1 with (fail)
  refine forget_B (fun W => HM w W b P f t k) HI.out ?_
  clear HI
  intro W hi
  have HI := Lib.hid hi
  clear hi
  obtain ⟨x0, x1, x2⟩ := HI.out.cells
  have y1 := cell_regrown (E1.out W HI.out.p)
  have c1 := fun d os => Calls.regrown_of (M1.out _ (HI.out.grown d os).p)
  have c2 := regrown_call (w := W) M2.out
  have c3 := fun d os => Calls.regrown_of (M3.out _ (HI.out.grown d os).p)
  clear M1 M2 M3 E1
  cases pw
  · refine wp_region_quiet_below (by kernel_rfl) (by kernel_rfl) ?_
    repeat (first | go_big_quiet_step (exact c1 _ _) | go_big_quiet_step (fail) | quiet_step (fail))
    refine wpQuiet_nil ?_
    rintro W4 ⟨q, rfl⟩
    go_wp2
    go_ret
    exact ⟨q_b (by rw [HV.out]; first | rfl | (simp; done) | (simp; omega) | simp_all), (HI.out.grown q.d q.os).b⟩
  · cases sm
    case true =>
      refine wp_region_quiet_below (by kernel_rfl) (by kernel_rfl) ?_
      repeat (first | go_big_quiet_step (exact c1 _ _) | go_big_quiet_step (exact c2 _ _) | go_big_quiet_step (fail) | quiet_step (fail))
      refine wpQuiet_nil ?_
      rintro W4 ⟨q, rfl⟩
      go_wp2
      go_ret
      exact ⟨q_b (by rw [HV.out]; first | rfl | (simp; done) | (simp; omega) | simp_all), (HI.out.grown q.d q.os).b⟩
    case false =>
      by_cases ho : (t : Int) = o
      · subst ho
        cases em
        all_goals
          refine wp_region_quiet_below (by kernel_rfl) (by kernel_rfl) ?_
          repeat (first | go_big_quiet_step (exact c1 _ _) | go_big_quiet_step (exact c2 _ _) | go_big_quiet_step (exact c3 _ _) | go_big_quiet_step (fail) | quiet_step (fail))
          refine wpQuiet_nil ?_
          rintro W4 ⟨q, rfl⟩
          go_wp2
          go_ret
          exact ⟨q_b (by rw [HV.out]; first | rfl | (simp; done) | (simp; omega) | simp_all), (HI.out.grown q.d q.os).b⟩
      · have ho2 : ((t : Int) == o) = false := by simp [ho]
        refine wp_region_quiet_below (by kernel_rfl) (by kernel_rfl) ?_
        repeat (first | go_big_quiet_step (exact c1 _ _) | go_big_quiet_step (exact c2 _ _) | go_big_quiet_step (fail) | quiet_step (fail))
        refine wpQuiet_nil ?_
        rintro W4 ⟨q, rfl⟩
        go_wp2
        go_ret
        exact ⟨q_b (by rw [HV.out]; rw [ho2]; rfl), (HI.out.grown q.d q.os).b⟩
set_option maxHeartbeats 2000000 in
theorem isLongStep_any (b : Nat) (P : Nat → Int) (f t : Nat) (k : Int) (hf : f < 64) (ht : t < 64) (w : World) (hp : PB w b P) :
    Calls Tryd.prog 42 #[.pointer (some ⟨b, 0, none⟩), .agg #[.int .i64 (f : Int), .int .i64 (t : Int), .int .i64 k]] w fun e w' => e = .returned (.bool (lngB P f t)) ∧ Below w.heap.size w w' := by
  have HI := Lib.hid (HM.begin (f : Int) (t : Int) k hp)
  have M1 := Lib.hid (fun W h => goesPawn_any b P f (t : Int) k hf W h)
  have M2 := Lib.hid (fun W => sameFile_any f t k hf ht W)
  have M3 := Lib.hid (fun W h => rankP_any b P f hf W h)
  have M4 := Lib.hid (fun W h => rankP_any b P t ht W h)
  have hv : lngB P f t = (pwnB P f && smF f t && (rkN P f == 1) && (rkN P t == 3)) := rfl
  clear hp
  generalize pwnB P f = pw at *
  generalize smF f t = sm at *
  generalize rkN P f = rf at *
  generalize rkN P t = rt at *
  have HV := Lib.hid hv
  clear hv
  go_enter Tryd.func42, Tryd.ntmps42
  go_upto_region 1 with (fail)
  refine forget_B (fun W => HM w W b P f t k) HI.out ?_
  clear HI
  intro W hi
  have HI := Lib.hid hi
  clear hi
  obtain ⟨q0, q1, q2, qf, qz⟩ := row3 HI.out.x
  go_wp2_with fail
  refine (M1.out _ HI.out.p).mono ?_
  rintro e w1 ⟨rfl, hb1⟩
  replace HI := Lib.hid (HI.out.go hb1)
  clear q0 q1 q2 qf qz
  obtain ⟨q0, q1, q2, qf, qz⟩ := row3 HI.out.x
  cases pw
  · go_wp2
    go_ret
    exact ⟨q_b (by rw [HV.out]; rfl), HI.out.b⟩
  go_wp2_with fail
  refine (M2.out _).mono ?_
  rintro e w2 ⟨rfl, hb1⟩
  replace HI := Lib.hid (HI.out.go hb1)
  clear q0 q1 q2 qf qz
  obtain ⟨q0, q1, q2, qf, qz⟩ := row3 HI.out.x
  cases sm
  · go_wp2
    go_ret
    exact ⟨q_b (by rw [HV.out]; rfl), HI.out.b⟩
  go_wp2_with fail
  refine (M3.out _ HI.out.p).mono ?_
  rintro e w3 ⟨rfl, hb1⟩
  replace HI := Lib.hid (HI.out.go hb1)
  clear q0 q1 q2 qf qz
  obtain ⟨q0, q1, q2, qf, qz⟩ := row3 HI.out.x
  by_cases h1 : rf = 1
  · subst h1
    go_wp2_with fail
    refine (M4.out _ HI.out.p).mono ?_
    rintro e w4 ⟨rfl, hb1⟩
    replace HI := Lib.hid (HI.out.go hb1)
    clear q0 q1 q2 qf qz
    go_wp2
    go_ret
    exact ⟨q_b (by rw [HV.out]; simp), HI.out.b⟩
  · have h1b : (rf == 1) = false := by simp [h1]
    go_wp2
    go_ret
    exact ⟨q_b (by rw [HV.out, h1b]; simp), HI.out.b⟩
set_option maxHeartbeats 2000000 in
theorem takes_any (b : Nat) (P : Nat → Int) (f t : Nat) (k : Int) (hf : f < 64) (ht : t < 64) (w : World) (hp : PB w b P) :
    Calls Tryd.prog 32 #[.pointer (some ⟨b, 0, none⟩), .agg #[.int .i64 (f : Int), .int .i64 (t : Int), .int .i64 k]] w fun e w' => e = .returned (.int .i64 (tksN P f t)) ∧ Below w.heap.size w w' := by
  have HI := Lib.hid (HM.begin (f : Int) (t : Int) k hp)
  have M1 := Lib.hid (fun W h => takesOver_any b P f t k hf ht W h)
  have M2 := Lib.hid (fun W => file_any (t : Int) W)
  have M3 := Lib.hid (fun W => rank_any (f : Int) W)
  have M4 := Lib.hid (fun W => at_any ((t % 8 : Nat) : Int) ((f / 8 : Nat) : Int) W)
  rw [sF_sq t ht] at M2
  rw [sR_sq f hf] at M3
  have hat : sAt ((t % 8 : Nat) : Int) ((f / 8 : Nat) : Int) = ((8 * (f / 8) + t % 8 : Nat) : Int) := by
    unfold sAt; rw [if_pos ((onB_iff _ _).2 (by omega))]; omega
  rw [hat] at M4
  obtain ⟨a, ha⟩ : ∃ a : Nat, atN P f t = a := ⟨_, rfl⟩
  have ha64 : a < 64 := by rw [← ha]; exact atN_lt P f t hf ht
  have hao : a = if ovrB P f t then 8 * (f / 8) + t % 8 else t := by rw [← ha]; rfl
  have M5 := Lib.hid (fun W h => stands_any b P a ha64 W h)
  have hv : tksN P f t = if emB P a then -1 else (a : Int) := by unfold tksN; rw [ha]
  clear hp ha hat
  generalize ovrB P f t = ov at *
  generalize emB P a = em at *
  generalize ((t % 8 : Nat) : Int) = t8 at *
  generalize ((f / 8 : Nat) : Int) = f8 at *
  have HV := Lib.hid hv
  have HA := Lib.hid hao
  clear hv hao ha64
  go_enter Tryd.func32, Tryd.ntmps32
  go_upto_region 1 with (fail)
  refine forget_B (fun W => HM w W b P f t k) HI.out ?_
  clear HI
  intro W hi
  have HI := Lib.hid hi
  clear hi
  obtain ⟨q0, q1, q2, qf, qz⟩ := row3 HI.out.x
  go_wp2_with fail
  refine (M1.out _ HI.out.p).mono ?_
  rintro e w1 ⟨rfl, hb1⟩
  replace HI := Lib.hid (HI.out.go hb1)
  clear q0 q1 q2 qf qz
  obtain ⟨q0, q1, q2, qf, qz⟩ := row3 HI.out.x
  cases ov
  · obtain rfl : a = t := HA.out
    go_wp2_with fail
    refine (M5.out _ HI.out.p).mono ?_
    rintro e w2 ⟨rfl, hb1⟩
    replace HI := Lib.hid (HI.out.go hb1)
    cases em
    · go_wp2
      go_ret
      exact ⟨q_i (by rw [HV.out]; rfl), HI.out.b⟩
    · go_wp2
      go_ret
      exact ⟨q_i (by rw [HV.out]; rfl), HI.out.b⟩
  · go_upto_region 3 with (fail)
    obtain ⟨x0, x1, x2⟩ := HI.out.cells
    have hA : ((8 * (f / 8) + t % 8 : Nat) : Int) = (a : Int) := by rw [HA.out]; rfl
    rw [hA] at M4
    clear hA q0 q1 q2 qf qz
    have c2 := regrown_call (w := w1) M2.out
    have c3 := regrown_call (w := w1) M3.out
    have c4 := regrown_call (w := w1) M4.out
    refine wp_region_quiet_below (by kernel_rfl) (by kernel_rfl) ?_
    repeat (first | go_big_quiet_step (exact c2 _ _) | go_big_quiet_step (exact c3 _ _) | go_big_quiet_step (exact c4 _ _) | go_big_quiet_step (fail) | quiet_step (fail))
    refine wpQuiet_nil ?_
    rintro W4 ⟨q, rfl⟩
    replace HI := Lib.hid (HI.out.grown q.d q.os)
    clear x0 x1 x2 c2 c3 c4
    generalize grow (redrawn w1 q.d) q.os = w2 at HI ⊢
    go_wp2_with fail
    refine (M5.out _ HI.out.p).mono ?_
    rintro e w3 ⟨rfl, hb1⟩
    replace HI := Lib.hid (HI.out.go hb1)
    cases em
    · go_wp2
      go_ret
      exact ⟨q_i (by rw [HV.out]; rfl), HI.out.b⟩
    · go_wp2
      go_ret
      exact ⟨q_i (by rw [HV.out]; rfl), HI.out.b⟩
end Go.Proofs.YtldepimkbnodpaaDoor
