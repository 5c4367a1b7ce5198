/-
  Merged: Pa, Pb.
-/
import Derived.Test.YtjhlombbkodpaaaDoorBi
import Derived.Test.YtjhlombbkodpaaaDoorG4

namespace Go.Proofs.YtjhlombbkodpaaaDoor
open Go.RowKit Go.Sort
set_option linter.unusedSimpArgs false
set_option linter.unusedVariables false
set_option maxRecDepth 20000

/-- nothing stands on a square -/
def emB (P : Nat → Int) (s : Nat) : Bool := pe (P (2 * s)) (P (2 * s + 1)) 0 0
/-- another piece stands on a square -/
def ptN (P : Nat → Int) (m : Nat) (k d : Int) : Nat → Int := setN (setN P (2 * m) k) (2 * m + 1) d
/-- a rank, as the side that moves counts it -/
def rkN (P : Nat → Int) (s : Nat) : Int := if P 128 = 0 then ((s / 8 : Nat) : Int) else 7 - ((s / 8 : Nat) : Int)
/-- a pawn stands there -/
def pwnB (P : Nat → Int) (s : Nat) : Bool := P (2 * s) == 1
/-- a piece of the side that moves stands there -/
def ownB (P : Nat → Int) (s : Nat) : Bool := sideB (P 128) && (P (2 * s + 1) == P 128) && decide (1 ≤ P (2 * s)) && decide (P (2 * s) ≤ 6)
def becB (P : Nat → Int) (f t : Nat) (b : Int) : Bool := if pwnB P f && (rkN P t == 7) then decide (2 ≤ b) && decide (b ≤ 5) else b == 0
/-- two squares of one file -/
def smF (f t : Nat) : Bool := f % 8 == t % 8
def ovrB (P : Nat → Int) (f t : Nat) : Bool := pwnB P f && !smF f t && ((t : Int) == P 130) && emB P t
/-- where a move takes, if something stands there -/
def atN (P : Nat → Int) (f t : Nat) : Nat := if ovrB P f t then 8 * (f / 8) + t % 8 else t
theorem atN_lt (P : Nat → Int) (f t : Nat) (hf : f < 64) (ht : t < 64) : atN P f t < 64 := by unfold atN; split <;> omega
def tksN (P : Nat → Int) (f t : Nat) : Int := if emB P (atN P f t) then -1 else (atN P f t : Int)
/-- a long step -/
def lngB (P : Nat → Int) (f t : Nat) : Bool := pwnB P f && smF f t && (rkN P f == 1) && (rkN P t == 3)
/-- the error of a move -/
def fltN (P : Nat → Int) (f t b : Int) : Int := if !sq f || !sq t || f == t then 6 else if ownB P f.toNat && becB P f.toNat t.toNat b then 0 else 8
/-- one more, but no more than the most -/
def incN (n m : Int) : Int := if m ≤ n then m else wrap64 (n + 1)
/-- a move -/
def mvV (f t b : Int) : Value := .agg #[.int .i64 f, .int .i64 t, .int .i64 b]
theorem emB_at (P : Nat → Int) (s : Nat) : emB P s = pe (P (s * 2)) (P (s * 2 + 1)) 0 0 := by unfold emB; rw [Nat.mul_comm]
theorem pwnB_at (P : Nat → Int) (s : Nat) : pwnB P s = (P (s * 2) == 1) := by unfold pwnB; rw [Nat.mul_comm]
theorem sR_sq (s : Nat) (h : s < 64) : sR (s : Int) = ((s / 8 : Nat) : Int) := by unfold sR; rw [if_pos ((sq_iff _).2 (by omega))]; omega
theorem sF_sq (s : Nat) (h : s < 64) : sF (s : Int) = ((s % 8 : Nat) : Int) := by unfold sF; rw [if_pos ((sq_iff _).2 (by omega))]; omega

theorem isSideP_any (d : Int) (w : World) :
    Calls Tryd.prog 85 #[.int .i64 d] w fun e w' => e = .returned (.bool (sideB d)) ∧ w = w' := by
  rcases side_cases d with ⟨rfl, hb⟩ | ⟨rfl, hb⟩ | ⟨h0, h1, hb⟩
  all_goals rw [hb]
  all_goals clear hb
  all_goals
    go_enter Tryd.func85, Tryd.ntmps85
    go_wp2
    go_ret
    exact ⟨rfl, rfl⟩
theorem oneMore_any (n m : Int) (w : World) :
    Calls Tryd.prog 90 #[.int .i64 n, .int .i64 m] w fun e w' => e = .returned (.int .i64 (incN n m)) ∧ w = w' := by
  unfold incN
  by_cases h : m ≤ n
  · rw [if_pos h]
    go_enter Tryd.func90, Tryd.ntmps90
    go_wp2
    go_ret
    exact ⟨rfl, rfl⟩
  · rw [if_neg h]
    go_enter Tryd.func90, Tryd.ntmps90
    go_wp2
    go_ret
    exact ⟨rfl, rfl⟩
set_option maxHeartbeats 1000000 in
theorem rankP_any (b : Nat) (P : Nat → Int) (s : Nat) (hs : s < 64) (w : World) (hp : PB w b P) :
    Calls Tryd.prog 86 #[.pointer (some ⟨b, 0, none⟩), .int .i64 (s : Int)] w fun e w' => e = .returned (.int .i64 (rkN P s)) ∧ Below w.heap.size w w' := by
  have e1 := hp.cell 128 (by omega)
  have hr := sR_sq s hs
  have hb8 : s / 8 < 8 := by omega
  unfold rkN
  by_cases h : P 128 = 0
  · rw [if_pos h]
    rw [h] at e1
    have HR := Lib.hid hr
    clear hr h hp
    go_enter Tryd.func86, Tryd.ntmps86
    go_wp2_with fail
    refine (rank_any _ _).mono ?_
    rw [HR.out]
    rintro e w1 ⟨rfl, hb⟩
    go_wp2
    go_ret
    exact ⟨rfl, hb⟩
  · rw [if_neg h]
    have h0 : (P 128 == 0) = false := by simp [h]
    have HR := Lib.hid hr
    have hw : IntKind.i64.wrap (7 - ((s / 8 : Nat) : Int)) = 7 - ((s / 8 : Nat) : Int) := IntWalk.i64_in _ (by omega)
    generalize P 128 = d at *
    clear hr h hp
    go_enter Tryd.func86, Tryd.ntmps86
    go_wp2_with fail
    refine (rank_any _ _).mono ?_
    rw [HR.out]
    rintro e w1 ⟨rfl, hb⟩
    go_wp2
    go_ret
    exact ⟨q_i (by first | rfl | exact hw | simp [hw] | omega), hb⟩
set_option maxHeartbeats 1000000 in
theorem stands_same (b : Nat) (P : Nat → Int) (s : Nat) (hs : s < 64) (w : World) (hp : PB w b P) :
    Calls Tryd.prog 88 #[.pointer (some ⟨b, 0, none⟩), .int .i64 (s : Int)] w fun e w' => e = .returned (.bool (!emB P s)) ∧ w = w' := by
  have e1 := hp.cell (s * 2) (by omega)
  have e2 := hp.cell (s * 2 + 1) (by omega)
  have s0 : (0 : Int) ≤ s := by omega
  have s1 : (s : Int) < 64 := by omega
  rw [emB_at]
  clear hp
  go_enter Tryd.func88, Tryd.ntmps88
  go_wp2
  go_ret
  exact ⟨rfl, rfl⟩
theorem stands_any (b : Nat) (P : Nat → Int) (s : Nat) (hs : s < 64) (w : World) (hp : PB w b P) :
    Calls Tryd.prog 88 #[.pointer (some ⟨b, 0, none⟩), .int .i64 (s : Int)] w fun e w' => e = .returned (.bool (!emB P s)) ∧ Below w.heap.size w w' :=
  (stands_same b P s hs w hp).mono fun e w' ⟨h1, h2⟩ => ⟨h1, by subst h2; exact Below.refl _ _⟩
/-- what stands in a call that is handed a hand and a move -/
structure HM (w W : World) (blk : Nat) (P : Nat → Int) (f t k : Int) : Prop where
  p : PB W blk P
  x : W.heap[w.heap.size]? = some (.cells #[.int .i64 f, .int .i64 t, .int .i64 k] 31 (0, 0))
  b : Below w.heap.size w W
theorem HM.begin {w : World} {blk : Nat} {P : Nat → Int} (f t k : Int) (h : PB w blk P) : HM w (w.alloc (.cells #[.int .i64 f, .int .i64 t, .int .i64 k] 31)) blk P f t k :=
  ⟨h.alloc _, sl_at rfl, below_new _⟩
theorem HM.go {w W W' : World} {blk : Nat} {P : Nat → Int} {f t k : Int} (h : HM w W blk P f t k) (g : Below W.heap.size W W') : HM w W' blk P f t k :=
  ⟨h.p.go g, sl_go h.x g, h.b.trans (g.mono h.b.size)⟩
theorem HM.cells {w W : World} {blk : Nat} {P : Nat → Int} {f t k : Int} (h : HM w W blk P f t k) :
    (∀ (d : Nat) (os : Array Obj), (grow (redrawn W d) os).cell? ⟨w.heap.size, 0, none⟩ = some (.int .i64 f)) ∧ (∀ (d : Nat) (os : Array Obj), (grow (redrawn W d) os).cell? ⟨w.heap.size, 1, none⟩ = some (.int .i64 t)) ∧
    (∀ (d : Nat) (os : Array Obj), (grow (redrawn W d) os).cell? ⟨w.heap.size, 2, none⟩ = some (.int .i64 k)) := by
  obtain ⟨q0, q1, q2, qf, qz⟩ := row3 h.x
  exact ⟨cell_regrown q0, cell_regrown q1, cell_regrown q2⟩
theorem HM.grown {w W : World} {blk : Nat} {P : Nat → Int} {f t k : Int} (h : HM w W blk P f t k) (d : Nat) (os : Array Obj) : HM w (grow (redrawn W d) os) blk P f t k := h.go (below_regrown W d os)
set_option maxHeartbeats 1000000 in
theorem goesPawn_any (b : Nat) (P : Nat → Int) (f : Nat) (t k : Int) (hf : f < 64) (w : World) (hp : PB w b P) :
    Calls Tryd.prog 54 #[.pointer (some ⟨b, 0, none⟩), .agg #[.int .i64 (f : Int), .int .i64 t, .int .i64 k]] w fun e w' => e = .returned (.bool (pwnB P f)) ∧ Below w.heap.size w w' := by
  have s0 : (0 : Int) ≤ f := by omega
  have s1 : (f : Int) < 64 := by omega
  rw [pwnB_at]
  have HI := Lib.hid (HM.begin (f : Int) t k hp)
  clear hp
  go_enter Tryd.func54, Tryd.ntmps54
  go_upto_region 1 with (fail)
  refine forget_B (fun W => HM w W b P f t k) HI.out ?_
  clear HI
  intro W hi
  obtain ⟨x0, x1, x2⟩ := hi.cells
  have y1 := cell_regrown (hi.p.cell (f * 2) (by omega))
  have HI := Lib.hid hi
  clear hi
  refine wp_region_quiet_below (by kernel_rfl) (by kernel_rfl) ?_
  repeat (first | go_big_quiet_step (fail) | quiet_step (fail))
  refine wpQuiet_nil ?_
  rintro W4 ⟨q, rfl⟩
  go_wp2
  go_ret
  exact ⟨rfl, (HI.out.grown q.d q.os).b⟩
set_option maxHeartbeats 1000000 in
theorem sameFile_any (f t : Nat) (k : Int) (hf : f < 64) (ht : t < 64) (w : World) :
    Calls Tryd.prog 89 #[.agg #[.int .i64 (f : Int), .int .i64 (t : Int), .int .i64 k]] w fun e w' => e = .returned (.bool (smF f t)) ∧ Below w.heap.size w w' := by
  obtain ⟨x, hx⟩ : ∃ x : Nat, f % 8 = x := ⟨_, rfl⟩
  obtain ⟨y, hy⟩ : ∃ y : Nat, t % 8 = y := ⟨_, rfl⟩
  have HV := Lib.hid (show ((x : Int) == (y : Int)) = smF f t by unfold smF; rw [hx, hy, Bool.eq_iff_iff, beq_iff_eq, beq_iff_eq]; omega)
  have M1 := Lib.hid (fun W => file_any (f : Int) W)
  have M2 := Lib.hid (fun W => file_any (t : Int) W)
  rw [sF_sq f hf, hx] at M1
  rw [sF_sq t ht, hy] at M2
  clear hx hy
  go_enter Tryd.func89, Tryd.ntmps89
  go_upto_region 1 with (fail)
  refine forget_B (fun W => W.heap[w.heap.size]? = some (.cells #[.int .i64 (f : Int), .int .i64 (t : Int), .int .i64 k] 31 (0, 0)) ∧ Below w.heap.size w W) ⟨sl_at rfl, below_new _⟩ ?_
  rintro W ⟨hx, hb⟩
  obtain ⟨q0, q1, q2, qf, qz⟩ := row3 hx
  have v0 := cell_regrown q0
  have v1 := cell_regrown q1
  have c1 := regrown_call (w := W) M1.out
  have c2 := regrown_call (w := W) M2.out
  have HB := Lib.hid hb
  clear hx hb q0 q1 q2 qf qz
  refine wp_region_quiet_below (by kernel_rfl) (by kernel_rfl) ?_
  repeat (first | go_big_quiet_step (exact c1 _ _) | go_big_quiet_step (exact c2 _ _))
  refine wpQuiet_nil ?_
  rintro W4 ⟨q, rfl⟩
  rw [HV.out]
  go_wp2
  go_ret
  exact ⟨rfl, HB.out.trans ((below_regrown W q.d q.os).mono HB.out.size)⟩
set_option maxHeartbeats 1000000 in
theorem betweenP_any (f t : Nat) (k : Int) (hf : f < 64) (ht : t < 64) (w : World) :
    Calls Tryd.prog 51 #[.agg #[.int .i64 (f : Int), .int .i64 (t : Int), .int .i64 k]] w fun e w' => e = .returned (.int .i64 (((f + t) / 2 : Nat) : Int)) ∧ Below w.heap.size w w' := by
  have h1 : ((f : Int) + t).tdiv 2 = (((f + t) / 2 : Nat) : Int) := by rw [Int.tdiv_eq_ediv_of_nonneg (by omega)]; omega
  have h2 : wrap64 ((f : Int) + t) = (f : Int) + t := by unfold wrap64; omega
  have h3 : wrap64 (((f + t) / 2 : Nat) : Int) = (((f + t) / 2 : Nat) : Int) := by unfold wrap64; omega
  go_enter Tryd.func51, Tryd.ntmps51
  go_wp2
  go_ret
  exact ⟨q_i (by first | rfl | omega | simp [h1]), below_new _⟩
end Go.Proofs.YtjhlombbkodpaaaDoor

namespace Go.Proofs.YtjhlombbkodpaaaDoor
open Go.RowKit Go.Sort
set_option linter.unusedSimpArgs false
set_option linter.unusedVariables false
set_option maxRecDepth 20000

set_option maxHeartbeats 2000000 in
theorem owns_any (b : Nat) (P : Nat → Int) (f : Nat) (hf : f < 64) (w : World) (hp : PB w b P) :
    Calls Tryd.prog 47 #[.pointer (some ⟨b, 0, none⟩), .int .i64 (f : Int)] w fun e w' => e = .returned (.bool (ownB P f)) ∧ Below w.heap.size w w' := by
  have s0 : (0 : Int) ≤ f := by omega
  have s1 : (f : Int) < 64 := by omega
  have e1 := hp.cell (f * 2) (by omega)
  have e2 := hp.cell (f * 2 + 1) (by omega)
  have e3 := cell_regrown (hp.cell 128 (by omega))
  have HP := Lib.hid hp
  have hv : ownB P f = (sideB (P 128) && (P (f * 2 + 1) == P 128) && decide (1 ≤ P (f * 2)) && decide (P (f * 2) ≤ 6)) := by unfold ownB; rw [Nat.mul_comm f 2]
  have hlt := hp.lt
  clear hp
  have E3 := Lib.hid (show ∀ W, PB W b P → W.cell? ⟨b, 128, none⟩ = some (.int .i64 (P 128)) from fun W h => h.cell 128 (by omega))
  clear e3
  generalize P (f * 2) = k at *
  generalize P (f * 2 + 1) = d at *
  generalize P 128 = sd at *
  have HV := Lib.hid hv
  clear hv
  go_enter Tryd.func47, Tryd.ntmps47
  go_upto_region 2 with (fail)
  refine forget_B (fun W => PB W b P ∧ W.heap[w.heap.size]? = some (.cells #[.int .i64 k, .int .i64 d] 25 (0, 0)) ∧ Below w.heap.size w W) ⟨HP.out.alloc _, sl_at rfl, below_new _⟩ ?_
  clear e1 e2 HP hlt
  rintro W ⟨hp, hx, hb⟩
  have y1 := cell_regrown (E3.out W hp)
  have x1 := cell_regrown (row2 hx).1
  have x2 := cell_regrown (row2 hx).2.1
  have HB := Lib.hid hb
  clear hp hx hb E3
  obtain ⟨sb, hsb⟩ : ∃ s, sideB sd = s := ⟨_, rfl⟩
  have c1 := regrown_same (w := W) (fun W => isSideP_any sd W)
  rw [hsb] at c1 HV
  clear hsb
  cases sb
  · refine wp_region_quiet_below (by kernel_rfl) (by kernel_rfl) ?_
    repeat (first | go_big_quiet_step (exact c1 _ _) | quiet_step (exact c1 _ _))
    refine wpQuiet_nil ?_
    rintro W4 ⟨q, rfl⟩
    go_wp2
    go_ret
    exact ⟨q_b (by rw [HV.out]; rfl), HB.out.trans ((below_regrown W q.d q.os).mono HB.out.size)⟩
  · by_cases hd : d = sd
    · subst hd
      by_cases h1 : 1 ≤ k
      · by_cases h6 : k ≤ 6
        · refine wp_region_quiet_below (by kernel_rfl) (by kernel_rfl) ?_
          repeat (first | go_big_quiet_step (exact c1 _ _) | quiet_step (exact c1 _ _))
          refine wpQuiet_nil ?_
          rintro W4 ⟨q, rfl⟩
          go_wp2
          go_ret
          exact ⟨q_b (by rw [HV.out]; simp [h1, h6]), HB.out.trans ((below_regrown W q.d q.os).mono HB.out.size)⟩
        · refine wp_region_quiet_below (by kernel_rfl) (by kernel_rfl) ?_
          repeat (first | go_big_quiet_step (exact c1 _ _) | quiet_step (exact c1 _ _))
          refine wpQuiet_nil ?_
          rintro W4 ⟨q, rfl⟩
          go_wp2
          go_ret
          exact ⟨q_b (by rw [HV.out]; simp [h1, h6]), HB.out.trans ((below_regrown W q.d q.os).mono HB.out.size)⟩
      · refine wp_region_quiet_below (by kernel_rfl) (by kernel_rfl) ?_
        repeat (first | go_big_quiet_step (exact c1 _ _) | quiet_step (exact c1 _ _))
        refine wpQuiet_nil ?_
        rintro W4 ⟨q, rfl⟩
        go_wp2
        go_ret
        exact ⟨q_b (by rw [HV.out]; simp; omega), HB.out.trans ((below_regrown W q.d q.os).mono HB.out.size)⟩
    · have hd2 : (d == sd) = false := by simp [hd]
      refine wp_region_quiet_below (by kernel_rfl) (by kernel_rfl) ?_
      repeat (first | go_big_quiet_step (exact c1 _ _) | quiet_step (exact c1 _ _))
      refine wpQuiet_nil ?_
      rintro W4 ⟨q, rfl⟩
      go_wp2
      go_ret
      exact ⟨q_b (by rw [HV.out, hd2]; simp), HB.out.trans ((below_regrown W q.d q.os).mono HB.out.size)⟩
set_option maxHeartbeats 2000000 in
theorem mayBecome_any (b : Nat) (P : Nat → Int) (f t : Nat) (k : Int) (hf : f < 64) (ht : t < 64) (w : World) (hp : PB w b P) :
    Calls Tryd.prog 48 #[.pointer (some ⟨b, 0, none⟩), .agg #[.int .i64 (f : Int), .int .i64 (t : Int), .int .i64 k]] w fun e w' => e = .returned (.bool (becB P f t k)) ∧ Below w.heap.size w w' := by
  have HI := Lib.hid (HM.begin (f : Int) (t : Int) k hp)
  have M1 := Lib.hid (fun W h => goesPawn_any b P f (t : Int) k hf W h)
  have M2 := Lib.hid (fun W h => rankP_any b P t ht W h)
  have hv : becB P f t k = if pwnB P f && (rkN P t == 7) then decide (2 ≤ k) && decide (k ≤ 5) else k == 0 := rfl
  clear hp
  generalize pwnB P f = pw at *
  generalize rkN P t = rk at *
  have HV := Lib.hid hv
  clear hv
  go_enter Tryd.func48, Tryd.ntmps48
  go_upto_region 1 with (fail)
  refine forget_B (fun W => HM w W b P f t k) HI.out ?_
  clear HI
  intro W hi
  have HI := Lib.hid hi
  clear hi
  obtain ⟨q0, q1, q2, qf, qz⟩ := row3 HI.out.x
  cases pw
  · go_wp2_with fail
    refine (M1.out _ HI.out.p).mono ?_
    rintro e w1 ⟨rfl, hb1⟩
    replace HI := Lib.hid (HI.out.go hb1)
    clear q0 q1 q2 qf qz
    obtain ⟨q0, q1, q2, qf, qz⟩ := row3 HI.out.x
    go_wp2
    go_ret
    exact ⟨q_b (by rw [HV.out]; rfl), HI.out.b⟩
  · go_wp2_with fail
    refine (M1.out _ HI.out.p).mono ?_
    rintro e w1 ⟨rfl, hb1⟩
    replace HI := Lib.hid (HI.out.go hb1)
    clear q0 q1 q2 qf qz
    obtain ⟨q0, q1, q2, qf, qz⟩ := row3 HI.out.x
    go_wp2_with fail
    refine (M2.out _ HI.out.p).mono ?_
    rintro e w2 ⟨rfl, hb2⟩
    replace HI := Lib.hid (HI.out.go hb2)
    clear q0 q1 q2 qf qz
    obtain ⟨q0, q1, q2, qf, qz⟩ := row3 HI.out.x
    by_cases h7 : rk = 7
    · subst h7
      by_cases h2 : 2 ≤ k
      · by_cases h5 : k ≤ 5
        · go_wp2
          go_ret
          exact ⟨q_b (by rw [HV.out]; simp [h2, h5]), HI.out.b⟩
        · go_wp2
          go_ret
          exact ⟨q_b (by rw [HV.out]; simp [h2, h5]), HI.out.b⟩
      · go_wp2
        go_ret
        exact ⟨q_b (by rw [HV.out]; simp; omega), HI.out.b⟩
    · have h7b : (rk == 7) = false := by simp [h7]
      go_wp2
      go_ret
      exact ⟨q_b (by rw [HV.out, h7b]; rfl), HI.out.b⟩
set_option maxHeartbeats 2000000 in
theorem takesOver_any (b : Nat) (P : Nat → Int) (f t : Nat) (k : Int) (hf : f < 64) (ht : t < 64) (w : World) (hp : PB w b P) :
    Calls Tryd.prog 87 #[.pointer (some ⟨b, 0, none⟩), .agg #[.int .i64 (f : Int), .int .i64 (t : Int), .int .i64 k]] w fun e w' => e = .returned (.bool (ovrB P f t)) ∧ Below w.heap.size w w' := by
  have HI := Lib.hid (HM.begin (f : Int) (t : Int) k hp)
  have M1 := Lib.hid (fun W h => goesPawn_any b P f (t : Int) k hf W h)
  have M2 := Lib.hid (fun W => sameFile_any f t k hf ht W)
  have M3 := Lib.hid (fun W h => stands_any b P t ht W h)
  have E1 := Lib.hid (show ∀ W, PB W b P → W.cell? ⟨b, 130, none⟩ = some (.int .i64 (P 130)) from fun W h => h.cell 130 (by omega))
  have hv : ovrB P f t = (pwnB P f && !smF f t && ((t : Int) == P 130) && emB P t) := rfl
  clear hp
  generalize pwnB P f = pw at *
  generalize smF f t = sm at *
  generalize P 130 = o at *
  generalize emB P t = em at *
  have HV := Lib.hid hv
  clear hv
  go_enter Tryd.func87, Tryd.ntmps87
  go_upto_region 1 with (fail)
  refine forget_B (fun W => HM w W b P f t k) HI.out ?_
  clear HI
  intro W hi
  have HI := Lib.hid hi
  clear hi
  obtain ⟨x0, x1, x2⟩ := HI.out.cells
  have y1 := cell_regrown (E1.out W HI.out.p)
  have c1 := fun d os => Calls.regrown_of (M1.out _ (HI.out.grown d os).p)
  have c2 := regrown_call (w := W) M2.out
  have c3 := fun d os => Calls.regrown_of (M3.out _ (HI.out.grown d os).p)
  clear M1 M2 M3 E1
  cases pw
  · refine wp_region_quiet_below (by kernel_rfl) (by kernel_rfl) ?_
    repeat (first | go_big_quiet_step (exact c1 _ _) | go_big_quiet_step (fail) | quiet_step (fail))
    refine wpQuiet_nil ?_
    rintro W4 ⟨q, rfl⟩
    go_wp2
    go_ret
    exact ⟨q_b (by rw [HV.out]; first | rfl | (simp; done) | (simp; omega) | simp_all), (HI.out.grown q.d q.os).b⟩
  · cases sm
    case true =>
      refine wp_region_quiet_below (by kernel_rfl) (by kernel_rfl) ?_
      repeat (first | go_big_quiet_step (exact c1 _ _) | go_big_quiet_step (exact c2 _ _) | go_big_quiet_step (fail) | quiet_step (fail))
      refine wpQuiet_nil ?_
      rintro W4 ⟨q, rfl⟩
      go_wp2
      go_ret
      exact ⟨q_b (by rw [HV.out]; first | rfl | (simp; done) | (simp; omega) | simp_all), (HI.out.grown q.d q.os).b⟩
    case false =>
      by_cases ho : (t : Int) = o
      · subst ho
        cases em
        all_goals
          refine wp_region_quiet_below (by kernel_rfl) (by kernel_rfl) ?_
          repeat (first | go_big_quiet_step (exact c1 _ _) | go_big_quiet_step (exact c2 _ _) | go_big_quiet_step (exact c3 _ _) | go_big_quiet_step (fail) | quiet_step (fail))
          refine wpQuiet_nil ?_
          rintro W4 ⟨q, rfl⟩
          go_wp2
          go_ret
          exact ⟨q_b (by rw [HV.out]; first | rfl | (simp; done) | (simp; omega) | simp_all), (HI.out.grown q.d q.os).b⟩
      · have ho2 : ((t : Int) == o) = false := by simp [ho]
        refine wp_region_quiet_below (by kernel_rfl) (by kernel_rfl) ?_
        repeat (first | go_big_quiet_step (exact c1 _ _) | go_big_quiet_step (exact c2 _ _) | go_big_quiet_step (fail) | quiet_step (fail))
        refine wpQuiet_nil ?_
        rintro W4 ⟨q, rfl⟩
        go_wp2
        go_ret
        exact ⟨q_b (by rw [HV.out]; rw [ho2]; rfl), (HI.out.grown q.d q.os).b⟩
set_option maxHeartbeats 2000000 in
theorem isLongStep_any (b : Nat) (P : Nat → Int) (f t : Nat) (k : Int) (hf : f < 64) (ht : t < 64) (w : World) (hp : PB w b P) :
    Calls Tryd.prog 50 #[.pointer (some ⟨b, 0, none⟩), .agg #[.int .i64 (f : Int), .int .i64 (t : Int), .int .i64 k]] w fun e w' => e = .returned (.bool (lngB P f t)) ∧ Below w.heap.size w w' := by
  have HI := Lib.hid (HM.begin (f : Int) (t : Int) k hp)
  have M1 := Lib.hid (fun W h => goesPawn_any b P f (t : Int) k hf W h)
  have M2 := Lib.hid (fun W => sameFile_any f t k hf ht W)
  have M3 := Lib.hid (fun W h => rankP_any b P f hf W h)
  have M4 := Lib.hid (fun W h => rankP_any b P t ht W h)
  have hv : lngB P f t = (pwnB P f && smF f t && (rkN P f == 1) && (rkN P t == 3)) := rfl
  clear hp
  generalize pwnB P f = pw at *
  generalize smF f t = sm at *
  generalize rkN P f = rf at *
  generalize rkN P t = rt at *
  have HV := Lib.hid hv
  clear hv
  go_enter Tryd.func50, Tryd.ntmps50
  go_upto_region 1 with (fail)
  refine forget_B (fun W => HM w W b P f t k) HI.out ?_
  clear HI
  intro W hi
  have HI := Lib.hid hi
  clear hi
  obtain ⟨q0, q1, q2, qf, qz⟩ := row3 HI.out.x
  go_wp2_with fail
  refine (M1.out _ HI.out.p).mono ?_
  rintro e w1 ⟨rfl, hb1⟩
  replace HI := Lib.hid (HI.out.go hb1)
  clear q0 q1 q2 qf qz
  obtain ⟨q0, q1, q2, qf, qz⟩ := row3 HI.out.x
  cases pw
  · go_wp2
    go_ret
    exact ⟨q_b (by rw [HV.out]; rfl), HI.out.b⟩
  go_wp2_with fail
  refine (M2.out _).mono ?_
  rintro e w2 ⟨rfl, hb1⟩
  replace HI := Lib.hid (HI.out.go hb1)
  clear q0 q1 q2 qf qz
  obtain ⟨q0, q1, q2, qf, qz⟩ := row3 HI.out.x
  cases sm
  · go_wp2
    go_ret
    exact ⟨q_b (by rw [HV.out]; rfl), HI.out.b⟩
  go_wp2_with fail
  refine (M3.out _ HI.out.p).mono ?_
  rintro e w3 ⟨rfl, hb1⟩
  replace HI := Lib.hid (HI.out.go hb1)
  clear q0 q1 q2 qf qz
  obtain ⟨q0, q1, q2, qf, qz⟩ := row3 HI.out.x
  by_cases h1 : rf = 1
  · subst h1
    go_wp2_with fail
    refine (M4.out _ HI.out.p).mono ?_
    rintro e w4 ⟨rfl, hb1⟩
    replace HI := Lib.hid (HI.out.go hb1)
    clear q0 q1 q2 qf qz
    go_wp2
    go_ret
    exact ⟨q_b (by rw [HV.out]; simp), HI.out.b⟩
  · have h1b : (rf == 1) = false := by simp [h1]
    go_wp2
    go_ret
    exact ⟨q_b (by rw [HV.out, h1b]; simp), HI.out.b⟩
set_option maxHeartbeats 2000000 in
theorem takes_any (b : Nat) (P : Nat → Int) (f t : Nat) (k : Int) (hf : f < 64) (ht : t < 64) (w : World) (hp : PB w b P) :
    Calls Tryd.prog 49 #[.pointer (some ⟨b, 0, none⟩), .agg #[.int .i64 (f : Int), .int .i64 (t : Int), .int .i64 k]] w fun e w' => e = .returned (.int .i64 (tksN P f t)) ∧ Below w.heap.size w w' := by
  have HI := Lib.hid (HM.begin (f : Int) (t : Int) k hp)
  have M1 := Lib.hid (fun W h => takesOver_any b P f t k hf ht W h)
  have M2 := Lib.hid (fun W => file_any (t : Int) W)
  have M3 := Lib.hid (fun W => rank_any (f : Int) W)
  have M4 := Lib.hid (fun W => at_any ((t % 8 : Nat) : Int) ((f / 8 : Nat) : Int) W)
  rw [sF_sq t ht] at M2
  rw [sR_sq f hf] at M3
  have hat : sAt ((t % 8 : Nat) : Int) ((f / 8 : Nat) : Int) = ((8 * (f / 8) + t % 8 : Nat) : Int) := by
    unfold sAt; rw [if_pos ((onB_iff _ _).2 (by omega))]; omega
  rw [hat] at M4
  obtain ⟨a, ha⟩ : ∃ a : Nat, atN P f t = a := ⟨_, rfl⟩
  have ha64 : a < 64 := by rw [← ha]; exact atN_lt P f t hf ht
  have hao : a = if ovrB P f t then 8 * (f / 8) + t % 8 else t := by rw [← ha]; rfl
  have M5 := Lib.hid (fun W h => stands_any b P a ha64 W h)
  have hv : tksN P f t = if emB P a then -1 else (a : Int) := by unfold tksN; rw [ha]
  clear hp ha hat
  generalize ovrB P f t = ov at *
  generalize emB P a = em at *
  generalize ((t % 8 : Nat) : Int) = t8 at *
  generalize ((f / 8 : Nat) : Int) = f8 at *
  have HV := Lib.hid hv
  have HA := Lib.hid hao
  clear hv hao ha64
  go_enter Tryd.func49, Tryd.ntmps49
  go_upto_region 1 with (fail)
  refine forget_B (fun W => HM w W b P f t k) HI.out ?_
  clear HI
  intro W hi
  have HI := Lib.hid hi
  clear hi
  obtain ⟨q0, q1, q2, qf, qz⟩ := row3 HI.out.x
  go_wp2_with fail
  refine (M1.out _ HI.out.p).mono ?_
  rintro e w1 ⟨rfl, hb1⟩
  replace HI := Lib.hid (HI.out.go hb1)
  clear q0 q1 q2 qf qz
  obtain ⟨q0, q1, q2, qf, qz⟩ := row3 HI.out.x
  cases ov
  · obtain rfl : a = t := HA.out
    go_wp2_with fail
    refine (M5.out _ HI.out.p).mono ?_
    rintro e w2 ⟨rfl, hb1⟩
    replace HI := Lib.hid (HI.out.go hb1)
    cases em
    · go_wp2
      go_ret
      exact ⟨q_i (by rw [HV.out]; rfl), HI.out.b⟩
    · go_wp2
      go_ret
      exact ⟨q_i (by rw [HV.out]; rfl), HI.out.b⟩
  · go_upto_region 3 with (fail)
    obtain ⟨x0, x1, x2⟩ := HI.out.cells
    have hA : ((8 * (f / 8) + t % 8 : Nat) : Int) = (a : Int) := by rw [HA.out]; rfl
    rw [hA] at M4
    clear hA q0 q1 q2 qf qz
    have c2 := regrown_call (w := w1) M2.out
    have c3 := regrown_call (w := w1) M3.out
    have c4 := regrown_call (w := w1) M4.out
    refine wp_region_quiet_below (by kernel_rfl) (by kernel_rfl) ?_
    repeat (first | go_big_quiet_step (exact c2 _ _) | go_big_quiet_step (exact c3 _ _) | go_big_quiet_step (exact c4 _ _) | go_big_quiet_step (fail) | quiet_step (fail))
    refine wpQuiet_nil ?_
    rintro W4 ⟨q, rfl⟩
    replace HI := Lib.hid (HI.out.grown q.d q.os)
    clear x0 x1 x2 c2 c3 c4
    generalize grow (redrawn w1 q.d) q.os = w2 at HI ⊢
    go_wp2_with fail
    refine (M5.out _ HI.out.p).mono ?_
    rintro e w3 ⟨rfl, hb1⟩
    replace HI := Lib.hid (HI.out.go hb1)
    cases em
    · go_wp2
      go_ret
      exact ⟨q_i (by rw [HV.out]; rfl), HI.out.b⟩
    · go_wp2
      go_ret
      exact ⟨q_i (by rw [HV.out]; rfl), HI.out.b⟩
end Go.Proofs.YtjhlombbkodpaaaDoor
