/-
  Contracts: what a mover asks of a square.
-/
import Derived.Test.YtjhlombbkodpaaaDoorG6
import Derived.Test.YtjhlombbkodpaaaDoorG4
namespace Go.Proofs.YtjhlombbkodpaaaDoor
open Go.RowKit Go.Sort
set_option linter.unusedSimpArgs false
set_option linter.unusedVariables false
set_option maxRecDepth 20000

theorem mSide_any (d : Int) (w : World) :
    Calls Tryd.prog 41 #[.int .i64 d] w fun e w' => e = .returned (.bool (sideB d)) ∧ w = w' := by
  rcases side_cases d with ⟨rfl, hb⟩ | ⟨rfl, hb⟩ | ⟨h0, h1, hb⟩
  all_goals rw [hb]
  all_goals clear hb
  all_goals
    go_enter Tryd.func41, Tryd.ntmps41
    go_wp2
    go_ret
    exact ⟨rfl, rfl⟩
set_option maxHeartbeats 1000000 in
theorem mRank_any (b : Nat) (P : Nat → Int) (s : Nat) (hs : s < 64) (w : World) (hp : PB w b P) :
    Calls Tryd.prog 102 #[.pointer (some ⟨b, 0, none⟩), .int .i64 (s : Int)] w fun e w' => e = .returned (.int .i64 (rkN P s)) ∧ Below w.heap.size w w' := by
  have e1 := hp.cell 128 (by omega)
  have hr := sR_sq s hs
  have hb8 : s / 8 < 8 := by omega
  unfold rkN
  by_cases h : P 128 = 0
  · rw [if_pos h]
    rw [h] at e1
    have HR := Lib.hid hr
    clear hr h hp
    go_enter Tryd.func102, Tryd.ntmps102
    go_wp2_with fail
    refine (rank_any _ _).mono ?_
    rw [HR.out]
    rintro e w1 ⟨rfl, hb⟩
    go_wp2
    go_ret
    exact ⟨rfl, hb⟩
  · rw [if_neg h]
    have h0 : (P 128 == 0) = false := by simp [h]
    have HR := Lib.hid hr
    have hw : IntKind.i64.wrap (7 - ((s / 8 : Nat) : Int)) = 7 - ((s / 8 : Nat) : Int) := IntWalk.i64_in _ (by omega)
    generalize P 128 = d at *
    clear hr h hp
    go_enter Tryd.func102, Tryd.ntmps102
    go_wp2_with fail
    refine (rank_any _ _).mono ?_
    rw [HR.out]
    rintro e w1 ⟨rfl, hb⟩
    go_wp2
    go_ret
    exact ⟨q_i (by first | rfl | exact hw | simp [hw] | omega), hb⟩
set_option maxHeartbeats 1000000 in
theorem mStands_same (b : Nat) (P : Nat → Int) (s : Nat) (hs : s < 64) (w : World) (hp : PB w b P) :
    Calls Tryd.prog 103 #[.pointer (some ⟨b, 0, none⟩), .int .i64 (s : Int)] w fun e w' => e = .returned (.bool (!emB P s)) ∧ w = w' := by
  have e1 := hp.cell (s * 2) (by omega)
  have e2 := hp.cell (s * 2 + 1) (by omega)
  have s0 : (0 : Int) ≤ s := by omega
  have s1 : (s : Int) < 64 := by omega
  rw [emB_at]
  clear hp
  go_enter Tryd.func103, Tryd.ntmps103
  go_wp2
  go_ret
  exact ⟨rfl, rfl⟩
/-- something of the mover's own side stands there, of the other side -/
def mownB (P : Nat → Int) (s : Nat) : Bool := !emB P s && (P (2 * s + 1) == P 128)
def mothB (P : Nat → Int) (s : Nat) : Bool := !emB P s && (P (2 * s + 1) == oth (P 128))
theorem mStands_any (b : Nat) (P : Nat → Int) (s : Nat) (hs : s < 64) (w : World) (hp : PB w b P) :
    Calls Tryd.prog 103 #[.pointer (some ⟨b, 0, none⟩), .int .i64 (s : Int)] w fun e w' => e = .returned (.bool (!emB P s)) ∧ Below w.heap.size w w' :=
  (mStands_same b P s hs w hp).mono fun e w' ⟨h1, h2⟩ => ⟨h1, by subst h2; exact Below.refl _ _⟩
set_option maxHeartbeats 400000 in
theorem mOwn_any (b : Nat) (P : Nat → Int) (s : Nat) (hs : s < 64) (w : World) (hp : PB w b P) :
    Calls Tryd.prog 106 #[.pointer (some ⟨b, 0, none⟩), .int .i64 (s : Int)] w fun e w' => e = .returned (.bool (mownB P s)) ∧ Below w.heap.size w w' := by
  have s0 : (0 : Int) ≤ s := by omega
  have s1 : (s : Int) < 64 := by omega
  have c1 := fun (d : Nat) (os : Array Obj) => Calls.regrown_of (mStands_any b P s hs _ (hp.go (below_regrown w d os)))
  have e2 := cell_regrown (hp.cell (s * 2 + 1) (by omega))
  have e3 := cell_regrown (hp.cell 128 (by omega))
  have hv : mownB P s = (!emB P s && (P (s * 2 + 1) == P 128)) := by unfold mownB; rw [Nat.mul_comm s 2]
  clear hp
  generalize P (s * 2 + 1) = d at *
  generalize P 128 = sd at *
  obtain ⟨em, hem⟩ : ∃ e, (!emB P s) = e := ⟨_, rfl⟩
  rw [hem] at c1 hv
  clear hem
  have HV := Lib.hid hv
  clear hv
  cases em
  · go_enter Tryd.func106, Tryd.ntmps106
    go_upto_region 1 with (fail)
    refine wp_region_quiet_below (by kernel_rfl) (by kernel_rfl) ?_
    repeat (first | go_big_quiet_step (exact c1 _ _) | go_big_quiet_step (fail) | quiet_step (fail))
    refine wpQuiet_nil ?_
    rintro W4 ⟨q, rfl⟩
    go_wp2
    go_ret
    exact ⟨q_b (by rw [HV.out]; first | rfl | simp), below_regrown w q.d q.os⟩
  · go_enter Tryd.func106, Tryd.ntmps106
    go_upto_region 1 with (fail)
    refine wp_region_quiet_below (by kernel_rfl) (by kernel_rfl) ?_
    repeat (first | go_big_quiet_step (exact c1 _ _) | go_big_quiet_step (fail) | quiet_step (fail))
    refine wpQuiet_nil ?_
    rintro W4 ⟨q, rfl⟩
    go_wp2
    go_ret
    exact ⟨q_b (by rw [HV.out]; first | rfl | simp), below_regrown w q.d q.os⟩
set_option maxHeartbeats 400000 in
theorem mOth_any (b : Nat) (P : Nat → Int) (s : Nat) (hs : s < 64) (w : World) (hp : PB w b P) :
    Calls Tryd.prog 104 #[.pointer (some ⟨b, 0, none⟩), .int .i64 (s : Int)] w fun e w' => e = .returned (.bool (mothB P s)) ∧ Below w.heap.size w w' := by
  have s0 : (0 : Int) ≤ s := by omega
  have s1 : (s : Int) < 64 := by omega
  have c1 := fun (d : Nat) (os : Array Obj) => Calls.regrown_of (mStands_any b P s hs _ (hp.go (below_regrown w d os)))
  have e2 := cell_regrown (hp.cell (s * 2 + 1) (by omega))
  have e3 := cell_regrown (hp.cell 128 (by omega))
  have hv : mothB P s = (!emB P s && (P (s * 2 + 1) == oth (P 128))) := by unfold mothB; rw [Nat.mul_comm s 2]
  clear hp
  generalize P (s * 2 + 1) = d at *
  generalize P 128 = sd at *
  have c2 := regrown_same (w := w) (fun W => other_any sd W)
  obtain ⟨em, hem⟩ : ∃ e, (!emB P s) = e := ⟨_, rfl⟩
  rw [hem] at c1 hv
  clear hem
  have HV := Lib.hid hv
  clear hv
  cases em
  · go_enter Tryd.func104, Tryd.ntmps104
    go_upto_region 1 with (fail)
    refine wp_region_quiet_below (by kernel_rfl) (by kernel_rfl) ?_
    repeat (first | go_big_quiet_step (exact c1 _ _) | go_big_quiet_step (exact c2 _ _) | go_big_quiet_step (fail) | quiet_step (fail))
    refine wpQuiet_nil ?_
    rintro W4 ⟨q, rfl⟩
    go_wp2
    go_ret
    exact ⟨q_b (by rw [HV.out]; first | rfl | simp), below_regrown w q.d q.os⟩
  · go_enter Tryd.func104, Tryd.ntmps104
    go_upto_region 1 with (fail)
    refine wp_region_quiet_below (by kernel_rfl) (by kernel_rfl) ?_
    repeat (first | go_big_quiet_step (exact c1 _ _) | go_big_quiet_step (exact c2 _ _) | go_big_quiet_step (fail) | quiet_step (fail))
    refine wpQuiet_nil ?_
    rintro W4 ⟨q, rfl⟩
    go_wp2
    go_ret
    exact ⟨q_b (by rw [HV.out]; first | rfl | simp), below_regrown w q.d q.os⟩
set_option maxHeartbeats 400000 in
theorem mayMove_any (b : Nat) (P : Nat → Int) (f : Nat) (hf : f < 64) (w : World) (hp : PB w b P) :
    Calls Tryd.prog 23 #[.pointer (some ⟨b, 0, none⟩), .int .i64 (f : Int)] w fun e w' => e = .returned (.bool (ownB P f)) ∧ Below w.heap.size w w' := by
  have s0 : (0 : Int) ≤ f := by omega
  have s1 : (f : Int) < 64 := by omega
  have e1 := hp.cell (f * 2) (by omega)
  have e2 := hp.cell (f * 2 + 1) (by omega)
  have HP := Lib.hid hp
  have hv : ownB P f = (sideB (P 128) && (P (f * 2 + 1) == P 128) && decide (1 ≤ P (f * 2)) && decide (P (f * 2) ≤ 6)) := by unfold ownB; rw [Nat.mul_comm f 2]
  have hlt := hp.lt
  clear hp
  have E3 := Lib.hid (show ∀ W, PB W b P → W.cell? ⟨b, 128, none⟩ = some (.int .i64 (P 128)) from fun W h => h.cell 128 (by omega))
  generalize P (f * 2) = k at *
  generalize P (f * 2 + 1) = d at *
  generalize P 128 = sd at *
  have HV := Lib.hid hv
  clear hv
  go_enter Tryd.func23, Tryd.ntmps23
  go_upto_region 2 with (fail)
  refine forget_B (fun W => PB W b P ∧ W.heap[w.heap.size]? = some (.cells #[.int .i64 k, .int .i64 d] 25 (0, 0)) ∧ Below w.heap.size w W) ⟨HP.out.alloc _, sl_at rfl, below_new _⟩ ?_
  clear e1 e2 HP hlt
  rintro W ⟨hp, hx, hb⟩
  have y1 := cell_regrown (E3.out W hp)
  have x1 := cell_regrown (row2 hx).1
  have x2 := cell_regrown (row2 hx).2.1
  have HB := Lib.hid hb
  clear hp hx hb E3
  by_cases hd : d = sd
  · subst hd
    obtain ⟨sb, hsb⟩ : ∃ s, sideB d = s := ⟨_, rfl⟩
    have c1 := regrown_same (w := W) (fun W => mSide_any d W)
    rw [hsb] at c1 HV
    clear hsb
    cases sb
    · refine wp_region_quiet_below (by kernel_rfl) (by kernel_rfl) ?_
      repeat (first | go_big_quiet_step (exact c1 _ _) | go_big_quiet_step (fail) | quiet_step (fail))
      refine wpQuiet_nil ?_
      rintro W4 ⟨q, rfl⟩
      go_wp2
      go_ret
      exact ⟨q_b (by rw [HV.out]; rfl), HB.out.trans ((below_regrown W q.d q.os).mono HB.out.size)⟩
    · by_cases h1 : 1 ≤ k
      · by_cases h6 : k ≤ 6
        · refine wp_region_quiet_below (by kernel_rfl) (by kernel_rfl) ?_
          repeat (first | go_big_quiet_step (exact c1 _ _) | go_big_quiet_step (fail) | quiet_step (fail))
          refine wpQuiet_nil ?_
          rintro W4 ⟨q, rfl⟩
          go_wp2
          go_ret
          exact ⟨q_b (by rw [HV.out]; simp [h1, h6]), HB.out.trans ((below_regrown W q.d q.os).mono HB.out.size)⟩
        · refine wp_region_quiet_below (by kernel_rfl) (by kernel_rfl) ?_
          repeat (first | go_big_quiet_step (exact c1 _ _) | go_big_quiet_step (fail) | quiet_step (fail))
          refine wpQuiet_nil ?_
          rintro W4 ⟨q, rfl⟩
          go_wp2
          go_ret
          exact ⟨q_b (by rw [HV.out]; simp [h1, h6]), HB.out.trans ((below_regrown W q.d q.os).mono HB.out.size)⟩
      · refine wp_region_quiet_below (by kernel_rfl) (by kernel_rfl) ?_
        repeat (first | go_big_quiet_step (exact c1 _ _) | go_big_quiet_step (fail) | quiet_step (fail))
        refine wpQuiet_nil ?_
        rintro W4 ⟨q, rfl⟩
        go_wp2
        go_ret
        exact ⟨q_b (by rw [HV.out]; simp; omega), HB.out.trans ((below_regrown W q.d q.os).mono HB.out.size)⟩
  · have hd2 : (d == sd) = false := by simp [hd]
    have c1 := regrown_same (w := W) (fun W => mSide_any d W)
    refine wp_region_quiet_below (by kernel_rfl) (by kernel_rfl) ?_
    repeat (first | go_big_quiet_step (exact c1 _ _) | go_big_quiet_step (fail) | quiet_step (fail))
    refine wpQuiet_nil ?_
    rintro W4 ⟨q, rfl⟩
    go_wp2
    go_ret
    exact ⟨q_b (by rw [HV.out, hd2]; simp), HB.out.trans ((below_regrown W q.d q.os).mono HB.out.size)⟩
/-- the least and the most of what a move's piece may become -/
def lastB (P : Nat → Int) (f t : Nat) : Bool := pwnB P f && (rkN P t == 7)
set_option maxHeartbeats 400000 in
theorem becomes_any (b : Nat) (P : Nat → Int) (f t : Nat) (hf : f < 64) (ht : t < 64) (w : World) (hp : PB w b P) :
    Calls Tryd.prog 78 #[.pointer (some ⟨b, 0, none⟩), .int .i64 (f : Int), .int .i64 (t : Int)] w fun e w' => e = .returned (.tuple #[.int .i64 (if lastB P f t then 2 else 0), .int .i64 (if lastB P f t then 5 else 0)]) ∧ Below w.heap.size w w' := by
  have s0 : (0 : Int) ≤ f := by omega
  have s1 : (f : Int) < 64 := by omega
  have e1 := hp.cell (f * 2) (by omega)
  have hv : lastB P f t = ((P (f * 2) == 1) && (rkN P t == 7)) := by unfold lastB; rw [pwnB_at]
  have M1 := Lib.hid (mRank_any b P t ht w hp)
  clear hp
  obtain ⟨lb, hlb⟩ : ∃ b, lastB P f t = b := ⟨_, rfl⟩
  rw [hlb] at hv ⊢
  generalize rkN P t = rk at *
  generalize P (f * 2) = k at *
  clear hlb
  cases lb
  · simp only [Bool.false_eq_true, if_false]
    by_cases hk : k = 1
    · subst hk
      have h7 : (rk == 7) = false := by simpa using hv.symm
      clear hv
      go_enter Tryd.func78, Tryd.ntmps78
      go_wp2_with fail
      refine M1.out.mono ?_
      rintro e w1 ⟨rfl, hb⟩
      go_wp2
      go_ret2
      exact ⟨rfl, hb⟩
    · have hk' : (k == 1) = false := by simp [hk]
      clear hv
      go_enter Tryd.func78, Tryd.ntmps78
      go_wp2
      go_ret2
      exact ⟨rfl, Below.refl _ _⟩
  · simp only [if_true]
    obtain ⟨rfl, rfl⟩ : k = 1 ∧ rk = 7 := by
      have := hv.symm
      simpa using this
    clear hv
    go_enter Tryd.func78, Tryd.ntmps78
    go_wp2_with fail
    refine M1.out.mono ?_
    rintro e w1 ⟨rfl, hb⟩
    go_wp2
    go_ret2
    exact ⟨rfl, hb⟩
end Go.Proofs.YtjhlombbkodpaaaDoor
