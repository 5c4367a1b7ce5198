/-
  Merged: Pa, Pb, Ma, Da.
-/
import Derived.Test.YtkncfeijlmomaaaGreatDoorG3
import Derived.Test.YtkncfeijlmomaaaGreatDoorProg
import Derived.RangeFuncNested
import Derived.RangeFuncBound
import Derived.WalkKit
import Derived.Lib.Hide

namespace Go.Proofs.YtkncfeijlmomaaaGreatDoor
open Go.RowKit Go.Sort
set_option linter.unusedSimpArgs false
set_option linter.unusedVariables false
set_option maxRecDepth 20000

/-- nothing stands on a square -/
def emB (P : Nat → Int) (s : Nat) : Bool := pe (P (2 * s)) (P (2 * s + 1)) 0 0
/-- another piece stands on a square -/
def ptN (P : Nat → Int) (m : Nat) (k d : Int) : Nat → Int := setN (setN P (2 * m) k) (2 * m + 1) d
/-- a rank, as the side that moves counts it -/
def rkN (P : Nat → Int) (s : Nat) : Int := if P 128 = 0 then ((s / 8 : Nat) : Int) else 7 - ((s / 8 : Nat) : Int)
/-- a pawn stands there -/
def pwnB (P : Nat → Int) (s : Nat) : Bool := P (2 * s) == 1
/-- a piece of the side that moves stands there -/
def ownB (P : Nat → Int) (s : Nat) : Bool := sideB (P 128) && (P (2 * s + 1) == P 128) && decide (1 ≤ P (2 * s)) && decide (P (2 * s) ≤ 6)
def becB (P : Nat → Int) (f t : Nat) (b : Int) : Bool := if pwnB P f && (rkN P t == 7) then decide (2 ≤ b) && decide (b ≤ 5) else b == 0
/-- two squares of one file -/
def smF (f t : Nat) : Bool := f % 8 == t % 8
def ovrB (P : Nat → Int) (f t : Nat) : Bool := pwnB P f && !smF f t && ((t : Int) == P 130) && emB P t
/-- where a move takes, if something stands there -/
def atN (P : Nat → Int) (f t : Nat) : Nat := if ovrB P f t then 8 * (f / 8) + t % 8 else t
theorem atN_lt (P : Nat → Int) (f t : Nat) (hf : f < 64) (ht : t < 64) : atN P f t < 64 := by unfold atN; split <;> omega
def tksN (P : Nat → Int) (f t : Nat) : Int := if emB P (atN P f t) then -1 else (atN P f t : Int)
/-- a long step -/
def lngB (P : Nat → Int) (f t : Nat) : Bool := pwnB P f && smF f t && (rkN P f == 1) && (rkN P t == 3)
/-- the error of a move -/
def fltN (P : Nat → Int) (f t b : Int) : Int := if !sq f || !sq t || f == t then 6 else if ownB P f.toNat && becB P f.toNat t.toNat b then 0 else 8
/-- one more, but no more than the most -/
def incN (n m : Int) : Int := if m ≤ n then m else wrap64 (n + 1)
/-- a move -/
def mvV (f t b : Int) : Value := .agg #[.int .i64 f, .int .i64 t, .int .i64 b]
theorem emB_at (P : Nat → Int) (s : Nat) : emB P s = pe (P (s * 2)) (P (s * 2 + 1)) 0 0 := by unfold emB; rw [Nat.mul_comm]
theorem pwnB_at (P : Nat → Int) (s : Nat) : pwnB P s = (P (s * 2) == 1) := by unfold pwnB; rw [Nat.mul_comm]
theorem sR_sq (s : Nat) (h : s < 64) : sR (s : Int) = ((s / 8 : Nat) : Int) := by unfold sR; rw [if_pos ((sq_iff _).2 (by omega))]; omega
theorem sF_sq (s : Nat) (h : s < 64) : sF (s : Int) = ((s % 8 : Nat) : Int) := by unfold sF; rw [if_pos ((sq_iff _).2 (by omega))]; omega

theorem isSideP_any (d : Int) (w : World) :
    Calls Tryz.prog 230 #[.int .i64 d] w fun e w' => e = .returned (.bool (sideB d)) ∧ w = w' := by
  rcases side_cases d with ⟨rfl, hb⟩ | ⟨rfl, hb⟩ | ⟨h0, h1, hb⟩
  all_goals rw [hb]
  all_goals clear hb
  all_goals
    go_enter Tryz.func230, Tryz.ntmps230
    go_wp2
    go_ret
    exact ⟨rfl, rfl⟩
theorem oneMore_any (n m : Int) (w : World) :
    Calls Tryz.prog 236 #[.int .i64 n, .int .i64 m] w fun e w' => e = .returned (.int .i64 (incN n m)) ∧ w = w' := by
  unfold incN
  by_cases h : m ≤ n
  · rw [if_pos h]
    go_enter Tryz.func236, Tryz.ntmps236
    go_wp2
    go_ret
    exact ⟨rfl, rfl⟩
  · rw [if_neg h]
    go_enter Tryz.func236, Tryz.ntmps236
    go_wp2
    go_ret
    exact ⟨rfl, rfl⟩
set_option maxHeartbeats 1000000 in
theorem rankP_any (b : Nat) (P : Nat → Int) (s : Nat) (hs : s < 64) (w : World) (hp : PB w b P) :
    Calls Tryz.prog 231 #[.pointer (some ⟨b, 0, none⟩), .int .i64 (s : Int)] w fun e w' => e = .returned (.int .i64 (rkN P s)) ∧ Below w.heap.size w w' := by
  have e1 := hp.cell 128 (by omega)
  have hr := sR_sq s hs
  have hb8 : s / 8 < 8 := by omega
  unfold rkN
  by_cases h : P 128 = 0
  · rw [if_pos h]
    rw [h] at e1
    have HR := Lib.hid hr
    clear hr h hp
    go_enter Tryz.func231, Tryz.ntmps231
    go_wp2_with fail
    refine (rank_any _ _).mono ?_
    rw [HR.out]
    rintro e w1 ⟨rfl, hb⟩
    go_wp2
    go_ret
    exact ⟨rfl, hb⟩
  · rw [if_neg h]
    have h0 : (P 128 == 0) = false := by simp [h]
    have HR := Lib.hid hr
    have hw : IntKind.i64.wrap (7 - ((s / 8 : Nat) : Int)) = 7 - ((s / 8 : Nat) : Int) := IntWalk.i64_in _ (by omega)
    generalize P 128 = d at *
    clear hr h hp
    go_enter Tryz.func231, Tryz.ntmps231
    go_wp2_with fail
    refine (rank_any _ _).mono ?_
    rw [HR.out]
    rintro e w1 ⟨rfl, hb⟩
    go_wp2
    go_ret
    exact ⟨q_i (by first | rfl | exact hw | simp [hw] | omega), hb⟩
set_option maxHeartbeats 1000000 in
theorem stands_same (b : Nat) (P : Nat → Int) (s : Nat) (hs : s < 64) (w : World) (hp : PB w b P) :
    Calls Tryz.prog 234 #[.pointer (some ⟨b, 0, none⟩), .int .i64 (s : Int)] w fun e w' => e = .returned (.bool (!emB P s)) ∧ w = w' := by
  have e1 := hp.cell (s * 2) (by omega)
  have e2 := hp.cell (s * 2 + 1) (by omega)
  have s0 : (0 : Int) ≤ s := by omega
  have s1 : (s : Int) < 64 := by omega
  rw [emB_at]
  clear hp
  go_enter Tryz.func234, Tryz.ntmps234
  go_wp2
  go_ret
  exact ⟨rfl, rfl⟩
theorem stands_any (b : Nat) (P : Nat → Int) (s : Nat) (hs : s < 64) (w : World) (hp : PB w b P) :
    Calls Tryz.prog 234 #[.pointer (some ⟨b, 0, none⟩), .int .i64 (s : Int)] w fun e w' => e = .returned (.bool (!emB P s)) ∧ Below w.heap.size w w' :=
  (stands_same b P s hs w hp).mono fun e w' ⟨h1, h2⟩ => ⟨h1, by subst h2; exact Below.refl _ _⟩
/-- what stands in a call that is handed a hand and a move -/
structure HM (w W : World) (blk : Nat) (P : Nat → Int) (f t k : Int) : Prop where
  p : PB W blk P
  x : W.heap[w.heap.size]? = some (.cells #[.int .i64 f, .int .i64 t, .int .i64 k] 46 (0, 0))
  b : Below w.heap.size w W
theorem HM.begin {w : World} {blk : Nat} {P : Nat → Int} (f t k : Int) (h : PB w blk P) : HM w (w.alloc (.cells #[.int .i64 f, .int .i64 t, .int .i64 k] 46)) blk P f t k :=
  ⟨h.alloc _, sl_at rfl, below_new _⟩
theorem HM.go {w W W' : World} {blk : Nat} {P : Nat → Int} {f t k : Int} (h : HM w W blk P f t k) (g : Below W.heap.size W W') : HM w W' blk P f t k :=
  ⟨h.p.go g, sl_go h.x g, h.b.trans (g.mono h.b.size)⟩
theorem HM.cells {w W : World} {blk : Nat} {P : Nat → Int} {f t k : Int} (h : HM w W blk P f t k) :
    (∀ (d : Nat) (os : Array Obj), (grow (redrawn W d) os).cell? ⟨w.heap.size, 0, none⟩ = some (.int .i64 f)) ∧ (∀ (d : Nat) (os : Array Obj), (grow (redrawn W d) os).cell? ⟨w.heap.size, 1, none⟩ = some (.int .i64 t)) ∧
    (∀ (d : Nat) (os : Array Obj), (grow (redrawn W d) os).cell? ⟨w.heap.size, 2, none⟩ = some (.int .i64 k)) := by
  obtain ⟨q0, q1, q2, qf, qz⟩ := row3 h.x
  exact ⟨cell_regrown q0, cell_regrown q1, cell_regrown q2⟩
theorem HM.grown {w W : World} {blk : Nat} {P : Nat → Int} {f t k : Int} (h : HM w W blk P f t k) (d : Nat) (os : Array Obj) : HM w (grow (redrawn W d) os) blk P f t k := h.go (below_regrown W d os)
set_option maxHeartbeats 1000000 in
theorem goesPawn_any (b : Nat) (P : Nat → Int) (f : Nat) (t k : Int) (hf : f < 64) (w : World) (hp : PB w b P) :
    Calls Tryz.prog 194 #[.pointer (some ⟨b, 0, none⟩), .agg #[.int .i64 (f : Int), .int .i64 t, .int .i64 k]] w fun e w' => e = .returned (.bool (pwnB P f)) ∧ Below w.heap.size w w' := by
  have s0 : (0 : Int) ≤ f := by omega
  have s1 : (f : Int) < 64 := by omega
  rw [pwnB_at]
  have HI := Lib.hid (HM.begin (f : Int) t k hp)
  clear hp
  go_enter Tryz.func194, Tryz.ntmps194
  go_upto_region 1 with (fail)
  refine forget_B (fun W => HM w W b P f t k) HI.out ?_
  clear HI
  intro W hi
  obtain ⟨x0, x1, x2⟩ := hi.cells
  have y1 := cell_regrown (hi.p.cell (f * 2) (by omega))
  have HI := Lib.hid hi
  clear hi
  refine wp_region_quiet_below (by kernel_rfl) (by kernel_rfl) ?_
  repeat (first | go_big_quiet_step (fail) | quiet_step (fail))
  refine wpQuiet_nil ?_
  rintro W4 ⟨q, rfl⟩
  go_wp2
  go_ret
  exact ⟨rfl, (HI.out.grown q.d q.os).b⟩
set_option maxHeartbeats 1000000 in
theorem sameFile_any (f t : Nat) (k : Int) (hf : f < 64) (ht : t < 64) (w : World) :
    Calls Tryz.prog 235 #[.agg #[.int .i64 (f : Int), .int .i64 (t : Int), .int .i64 k]] w fun e w' => e = .returned (.bool (smF f t)) ∧ Below w.heap.size w w' := by
  obtain ⟨x, hx⟩ : ∃ x : Nat, f % 8 = x := ⟨_, rfl⟩
  obtain ⟨y, hy⟩ : ∃ y : Nat, t % 8 = y := ⟨_, rfl⟩
  have HV := Lib.hid (show ((x : Int) == (y : Int)) = smF f t by unfold smF; rw [hx, hy, Bool.eq_iff_iff, beq_iff_eq, beq_iff_eq]; omega)
  have M1 := Lib.hid (fun W => file_any (f : Int) W)
  have M2 := Lib.hid (fun W => file_any (t : Int) W)
  rw [sF_sq f hf, hx] at M1
  rw [sF_sq t ht, hy] at M2
  clear hx hy
  go_enter Tryz.func235, Tryz.ntmps235
  go_upto_region 1 with (fail)
  refine forget_B (fun W => W.heap[w.heap.size]? = some (.cells #[.int .i64 (f : Int), .int .i64 (t : Int), .int .i64 k] 46 (0, 0)) ∧ Below w.heap.size w W) ⟨sl_at rfl, below_new _⟩ ?_
  rintro W ⟨hx, hb⟩
  obtain ⟨q0, q1, q2, qf, qz⟩ := row3 hx
  have v0 := cell_regrown q0
  have v1 := cell_regrown q1
  have c1 := regrown_call (w := W) M1.out
  have c2 := regrown_call (w := W) M2.out
  have HB := Lib.hid hb
  clear hx hb q0 q1 q2 qf qz
  refine wp_region_quiet_below (by kernel_rfl) (by kernel_rfl) ?_
  repeat (first | go_big_quiet_step (exact c1 _ _) | go_big_quiet_step (exact c2 _ _))
  refine wpQuiet_nil ?_
  rintro W4 ⟨q, rfl⟩
  rw [HV.out]
  go_wp2
  go_ret
  exact ⟨rfl, HB.out.trans ((below_regrown W q.d q.os).mono HB.out.size)⟩
set_option maxHeartbeats 1000000 in
theorem betweenP_any (f t : Nat) (k : Int) (hf : f < 64) (ht : t < 64) (w : World) :
    Calls Tryz.prog 191 #[.agg #[.int .i64 (f : Int), .int .i64 (t : Int), .int .i64 k]] w fun e w' => e = .returned (.int .i64 (((f + t) / 2 : Nat) : Int)) ∧ Below w.heap.size w w' := by
  have h1 : ((f : Int) + t).tdiv 2 = (((f + t) / 2 : Nat) : Int) := by rw [Int.tdiv_eq_ediv_of_nonneg (by omega)]; omega
  have h2 : wrap64 ((f : Int) + t) = (f : Int) + t := by unfold wrap64; omega
  have h3 : wrap64 (((f + t) / 2 : Nat) : Int) = (((f + t) / 2 : Nat) : Int) := by unfold wrap64; omega
  go_enter Tryz.func191, Tryz.ntmps191
  go_wp2
  go_ret
  exact ⟨q_i (by first | rfl | omega | simp [h1]), below_new _⟩
end Go.Proofs.YtkncfeijlmomaaaGreatDoor

namespace Go.Proofs.YtkncfeijlmomaaaGreatDoor
open Go.RowKit Go.Sort
set_option linter.unusedSimpArgs false
set_option linter.unusedVariables false
set_option maxRecDepth 20000

set_option maxHeartbeats 2000000 in
theorem owns_any (b : Nat) (P : Nat → Int) (f : Nat) (hf : f < 64) (w : World) (hp : PB w b P) :
    Calls Tryz.prog 187 #[.pointer (some ⟨b, 0, none⟩), .int .i64 (f : Int)] w fun e w' => e = .returned (.bool (ownB P f)) ∧ Below w.heap.size w w' := by
  have s0 : (0 : Int) ≤ f := by omega
  have s1 : (f : Int) < 64 := by omega
  have e1 := hp.cell (f * 2) (by omega)
  have e2 := hp.cell (f * 2 + 1) (by omega)
  have e3 := cell_regrown (hp.cell 128 (by omega))
  have HP := Lib.hid hp
  have hv : ownB P f = (sideB (P 128) && (P (f * 2 + 1) == P 128) && decide (1 ≤ P (f * 2)) && decide (P (f * 2) ≤ 6)) := by unfold ownB; rw [Nat.mul_comm f 2]
  have hlt := hp.lt
  clear hp
  have E3 := Lib.hid (show ∀ W, PB W b P → W.cell? ⟨b, 128, none⟩ = some (.int .i64 (P 128)) from fun W h => h.cell 128 (by omega))
  clear e3
  generalize P (f * 2) = k at *
  generalize P (f * 2 + 1) = d at *
  generalize P 128 = sd at *
  have HV := Lib.hid hv
  clear hv
  go_enter Tryz.func187, Tryz.ntmps187
  go_upto_region 2 with (fail)
  refine forget_B (fun W => PB W b P ∧ W.heap[w.heap.size]? = some (.cells #[.int .i64 k, .int .i64 d] 25 (0, 0)) ∧ Below w.heap.size w W) ⟨HP.out.alloc _, sl_at rfl, below_new _⟩ ?_
  clear e1 e2 HP hlt
  rintro W ⟨hp, hx, hb⟩
  have y1 := cell_regrown (E3.out W hp)
  have x1 := cell_regrown (row2 hx).1
  have x2 := cell_regrown (row2 hx).2.1
  have HB := Lib.hid hb
  clear hp hx hb E3
  obtain ⟨sb, hsb⟩ : ∃ s, sideB sd = s := ⟨_, rfl⟩
  have c1 := regrown_same (w := W) (fun W => isSideP_any sd W)
  rw [hsb] at c1 HV
  clear hsb
  cases sb
  · refine wp_region_quiet_below (by kernel_rfl) (by kernel_rfl) ?_
    repeat (first | go_big_quiet_step (exact c1 _ _) | quiet_step (exact c1 _ _))
    refine wpQuiet_nil ?_
    rintro W4 ⟨q, rfl⟩
    go_wp2
    go_ret
    exact ⟨q_b (by rw [HV.out]; rfl), HB.out.trans ((below_regrown W q.d q.os).mono HB.out.size)⟩
  · by_cases hd : d = sd
    · subst hd
      by_cases h1 : 1 ≤ k
      · by_cases h6 : k ≤ 6
        · refine wp_region_quiet_below (by kernel_rfl) (by kernel_rfl) ?_
          repeat (first | go_big_quiet_step (exact c1 _ _) | quiet_step (exact c1 _ _))
          refine wpQuiet_nil ?_
          rintro W4 ⟨q, rfl⟩
          go_wp2
          go_ret
          exact ⟨q_b (by rw [HV.out]; simp [h1, h6]), HB.out.trans ((below_regrown W q.d q.os).mono HB.out.size)⟩
        · refine wp_region_quiet_below (by kernel_rfl) (by kernel_rfl) ?_
          repeat (first | go_big_quiet_step (exact c1 _ _) | quiet_step (exact c1 _ _))
          refine wpQuiet_nil ?_
          rintro W4 ⟨q, rfl⟩
          go_wp2
          go_ret
          exact ⟨q_b (by rw [HV.out]; simp [h1, h6]), HB.out.trans ((below_regrown W q.d q.os).mono HB.out.size)⟩
      · refine wp_region_quiet_below (by kernel_rfl) (by kernel_rfl) ?_
        repeat (first | go_big_quiet_step (exact c1 _ _) | quiet_step (exact c1 _ _))
        refine wpQuiet_nil ?_
        rintro W4 ⟨q, rfl⟩
        go_wp2
        go_ret
        exact ⟨q_b (by rw [HV.out]; simp; omega), HB.out.trans ((below_regrown W q.d q.os).mono HB.out.size)⟩
    · have hd2 : (d == sd) = false := by simp [hd]
      refine wp_region_quiet_below (by kernel_rfl) (by kernel_rfl) ?_
      repeat (first | go_big_quiet_step (exact c1 _ _) | quiet_step (exact c1 _ _))
      refine wpQuiet_nil ?_
      rintro W4 ⟨q, rfl⟩
      go_wp2
      go_ret
      exact ⟨q_b (by rw [HV.out, hd2]; simp), HB.out.trans ((below_regrown W q.d q.os).mono HB.out.size)⟩
set_option maxHeartbeats 2000000 in
theorem mayBecome_any (b : Nat) (P : Nat → Int) (f t : Nat) (k : Int) (hf : f < 64) (ht : t < 64) (w : World) (hp : PB w b P) :
    Calls Tryz.prog 188 #[.pointer (some ⟨b, 0, none⟩), .agg #[.int .i64 (f : Int), .int .i64 (t : Int), .int .i64 k]] w fun e w' => e = .returned (.bool (becB P f t k)) ∧ Below w.heap.size w w' := by
  have HI := Lib.hid (HM.begin (f : Int) (t : Int) k hp)
  have M1 := Lib.hid (fun W h => goesPawn_any b P f (t : Int) k hf W h)
  have M2 := Lib.hid (fun W h => rankP_any b P t ht W h)
  have hv : becB P f t k = if pwnB P f && (rkN P t == 7) then decide (2 ≤ k) && decide (k ≤ 5) else k == 0 := rfl
  clear hp
  generalize pwnB P f = pw at *
  generalize rkN P t = rk at *
  have HV := Lib.hid hv
  clear hv
  go_enter Tryz.func188, Tryz.ntmps188
  go_upto_region 1 with (fail)
  refine forget_B (fun W => HM w W b P f t k) HI.out ?_
  clear HI
  intro W hi
  have HI := Lib.hid hi
  clear hi
  obtain ⟨q0, q1, q2, qf, qz⟩ := row3 HI.out.x
  cases pw
  · go_wp2_with fail
    refine (M1.out _ HI.out.p).mono ?_
    rintro e w1 ⟨rfl, hb1⟩
    replace HI := Lib.hid (HI.out.go hb1)
    clear q0 q1 q2 qf qz
    obtain ⟨q0, q1, q2, qf, qz⟩ := row3 HI.out.x
    go_wp2
    go_ret
    exact ⟨q_b (by rw [HV.out]; rfl), HI.out.b⟩
  · go_wp2_with fail
    refine (M1.out _ HI.out.p).mono ?_
    rintro e w1 ⟨rfl, hb1⟩
    replace HI := Lib.hid (HI.out.go hb1)
    clear q0 q1 q2 qf qz
    obtain ⟨q0, q1, q2, qf, qz⟩ := row3 HI.out.x
    go_wp2_with fail
    refine (M2.out _ HI.out.p).mono ?_
    rintro e w2 ⟨rfl, hb2⟩
    replace HI := Lib.hid (HI.out.go hb2)
    clear q0 q1 q2 qf qz
    obtain ⟨q0, q1, q2, qf, qz⟩ := row3 HI.out.x
    by_cases h7 : rk = 7
    · subst h7
      by_cases h2 : 2 ≤ k
      · by_cases h5 : k ≤ 5
        · go_wp2
          go_ret
          exact ⟨q_b (by rw [HV.out]; simp [h2, h5]), HI.out.b⟩
        · go_wp2
          go_ret
          exact ⟨q_b (by rw [HV.out]; simp [h2, h5]), HI.out.b⟩
      · go_wp2
        go_ret
        exact ⟨q_b (by rw [HV.out]; simp; omega), HI.out.b⟩
    · have h7b : (rk == 7) = false := by simp [h7]
      go_wp2
      go_ret
      exact ⟨q_b (by rw [HV.out, h7b]; rfl), HI.out.b⟩
set_option maxHeartbeats 2000000 in
theorem takesOver_any (b : Nat) (P : Nat → Int) (f t : Nat) (k : Int) (hf : f < 64) (ht : t < 64) (w : World) (hp : PB w b P) :
    Calls Tryz.prog 232 #[.pointer (some ⟨b, 0, none⟩), .agg #[.int .i64 (f : Int), .int .i64 (t : Int), .int .i64 k]] w fun e w' => e = .returned (.bool (ovrB P f t)) ∧ Below w.heap.size w w' := by
  have HI := Lib.hid (HM.begin (f : Int) (t : Int) k hp)
  have M1 := Lib.hid (fun W h => goesPawn_any b P f (t : Int) k hf W h)
  have M2 := Lib.hid (fun W => sameFile_any f t k hf ht W)
  have M3 := Lib.hid (fun W h => stands_any b P t ht W h)
  have E1 := Lib.hid (show ∀ W, PB W b P → W.cell? ⟨b, 130, none⟩ = some (.int .i64 (P 130)) from fun W h => h.cell 130 (by omega))
  have hv : ovrB P f t = (pwnB P f && !smF f t && ((t : Int) == P 130) && emB P t) := rfl
  clear hp
  generalize pwnB P f = pw at *
  generalize smF f t = sm at *
  generalize P 130 = o at *
  generalize emB P t = em at *
  have HV := Lib.hid hv
  clear hv
  go_enter Tryz.func232, Tryz.ntmps232
  go_upto_region 1 with (fail)
  refine forget_B (fun W => HM w W b P f t k) HI.out ?_
  clear HI
  intro W hi
  have HI := Lib.hid hi
  clear hi
  obtain ⟨x0, x1, x2⟩ := HI.out.cells
  have y1 := cell_regrown (E1.out W HI.out.p)
  have c1 := fun d os => Calls.regrown_of (M1.out _ (HI.out.grown d os).p)
  have c2 := regrown_call (w := W) M2.out
  have c3 := fun d os => Calls.regrown_of (M3.out _ (HI.out.grown d os).p)
  clear M1 M2 M3 E1
  cases pw
  · refine wp_region_quiet_below (by kernel_rfl) (by kernel_rfl) ?_
    repeat (first | go_big_quiet_step (exact c1 _ _) | go_big_quiet_step (fail) | quiet_step (fail))
    refine wpQuiet_nil ?_
    rintro W4 ⟨q, rfl⟩
    go_wp2
    go_ret
    exact ⟨q_b (by rw [HV.out]; first | rfl | (simp; done) | (simp; omega) | simp_all), (HI.out.grown q.d q.os).b⟩
  · cases sm
    case true =>
      refine wp_region_quiet_below (by kernel_rfl) (by kernel_rfl) ?_
      repeat (first | go_big_quiet_step (exact c1 _ _) | go_big_quiet_step (exact c2 _ _) | go_big_quiet_step (fail) | quiet_step (fail))
      refine wpQuiet_nil ?_
      rintro W4 ⟨q, rfl⟩
      go_wp2
      go_ret
      exact ⟨q_b (by rw [HV.out]; first | rfl | (simp; done) | (simp; omega) | simp_all), (HI.out.grown q.d q.os).b⟩
    case false =>
      by_cases ho : (t : Int) = o
      · subst ho
        cases em
        all_goals
          refine wp_region_quiet_below (by kernel_rfl) (by kernel_rfl) ?_
          repeat (first | go_big_quiet_step (exact c1 _ _) | go_big_quiet_step (exact c2 _ _) | go_big_quiet_step (exact c3 _ _) | go_big_quiet_step (fail) | quiet_step (fail))
          refine wpQuiet_nil ?_
          rintro W4 ⟨q, rfl⟩
          go_wp2
          go_ret
          exact ⟨q_b (by rw [HV.out]; first | rfl | (simp; done) | (simp; omega) | simp_all), (HI.out.grown q.d q.os).b⟩
      · have ho2 : ((t : Int) == o) = false := by simp [ho]
        refine wp_region_quiet_below (by kernel_rfl) (by kernel_rfl) ?_
        repeat (first | go_big_quiet_step (exact c1 _ _) | go_big_quiet_step (exact c2 _ _) | go_big_quiet_step (fail) | quiet_step (fail))
        refine wpQuiet_nil ?_
        rintro W4 ⟨q, rfl⟩
        go_wp2
        go_ret
        exact ⟨q_b (by rw [HV.out]; rw [ho2]; rfl), (HI.out.grown q.d q.os).b⟩
set_option maxHeartbeats 2000000 in
theorem isLongStep_any (b : Nat) (P : Nat → Int) (f t : Nat) (k : Int) (hf : f < 64) (ht : t < 64) (w : World) (hp : PB w b P) :
    Calls Tryz.prog 190 #[.pointer (some ⟨b, 0, none⟩), .agg #[.int .i64 (f : Int), .int .i64 (t : Int), .int .i64 k]] w fun e w' => e = .returned (.bool (lngB P f t)) ∧ Below w.heap.size w w' := by
  have HI := Lib.hid (HM.begin (f : Int) (t : Int) k hp)
  have M1 := Lib.hid (fun W h => goesPawn_any b P f (t : Int) k hf W h)
  have M2 := Lib.hid (fun W => sameFile_any f t k hf ht W)
  have M3 := Lib.hid (fun W h => rankP_any b P f hf W h)
  have M4 := Lib.hid (fun W h => rankP_any b P t ht W h)
  have hv : lngB P f t = (pwnB P f && smF f t && (rkN P f == 1) && (rkN P t == 3)) := rfl
  clear hp
  generalize pwnB P f = pw at *
  generalize smF f t = sm at *
  generalize rkN P f = rf at *
  generalize rkN P t = rt at *
  have HV := Lib.hid hv
  clear hv
  go_enter Tryz.func190, Tryz.ntmps190
  go_upto_region 1 with (fail)
  refine forget_B (fun W => HM w W b P f t k) HI.out ?_
  clear HI
  intro W hi
  have HI := Lib.hid hi
  clear hi
  obtain ⟨q0, q1, q2, qf, qz⟩ := row3 HI.out.x
  go_wp2_with fail
  refine (M1.out _ HI.out.p).mono ?_
  rintro e w1 ⟨rfl, hb1⟩
  replace HI := Lib.hid (HI.out.go hb1)
  clear q0 q1 q2 qf qz
  obtain ⟨q0, q1, q2, qf, qz⟩ := row3 HI.out.x
  cases pw
  · go_wp2
    go_ret
    exact ⟨q_b (by rw [HV.out]; rfl), HI.out.b⟩
  go_wp2_with fail
  refine (M2.out _).mono ?_
  rintro e w2 ⟨rfl, hb1⟩
  replace HI := Lib.hid (HI.out.go hb1)
  clear q0 q1 q2 qf qz
  obtain ⟨q0, q1, q2, qf, qz⟩ := row3 HI.out.x
  cases sm
  · go_wp2
    go_ret
    exact ⟨q_b (by rw [HV.out]; rfl), HI.out.b⟩
  go_wp2_with fail
  refine (M3.out _ HI.out.p).mono ?_
  rintro e w3 ⟨rfl, hb1⟩
  replace HI := Lib.hid (HI.out.go hb1)
  clear q0 q1 q2 qf qz
  obtain ⟨q0, q1, q2, qf, qz⟩ := row3 HI.out.x
  by_cases h1 : rf = 1
  · subst h1
    go_wp2_with fail
    refine (M4.out _ HI.out.p).mono ?_
    rintro e w4 ⟨rfl, hb1⟩
    replace HI := Lib.hid (HI.out.go hb1)
    clear q0 q1 q2 qf qz
    go_wp2
    go_ret
    exact ⟨q_b (by rw [HV.out]; simp), HI.out.b⟩
  · have h1b : (rf == 1) = false := by simp [h1]
    go_wp2
    go_ret
    exact ⟨q_b (by rw [HV.out, h1b]; simp), HI.out.b⟩
set_option maxHeartbeats 2000000 in
theorem takes_any (b : Nat) (P : Nat → Int) (f t : Nat) (k : Int) (hf : f < 64) (ht : t < 64) (w : World) (hp : PB w b P) :
    Calls Tryz.prog 189 #[.pointer (some ⟨b, 0, none⟩), .agg #[.int .i64 (f : Int), .int .i64 (t : Int), .int .i64 k]] w fun e w' => e = .returned (.int .i64 (tksN P f t)) ∧ Below w.heap.size w w' := by
  have HI := Lib.hid (HM.begin (f : Int) (t : Int) k hp)
  have M1 := Lib.hid (fun W h => takesOver_any b P f t k hf ht W h)
  have M2 := Lib.hid (fun W => file_any (t : Int) W)
  have M3 := Lib.hid (fun W => rank_any (f : Int) W)
  have M4 := Lib.hid (fun W => at_any ((t % 8 : Nat) : Int) ((f / 8 : Nat) : Int) W)
  rw [sF_sq t ht] at M2
  rw [sR_sq f hf] at M3
  have hat : sAt ((t % 8 : Nat) : Int) ((f / 8 : Nat) : Int) = ((8 * (f / 8) + t % 8 : Nat) : Int) := by
    unfold sAt; rw [if_pos ((onB_iff _ _).2 (by omega))]; omega
  rw [hat] at M4
  obtain ⟨a, ha⟩ : ∃ a : Nat, atN P f t = a := ⟨_, rfl⟩
  have ha64 : a < 64 := by rw [← ha]; exact atN_lt P f t hf ht
  have hao : a = if ovrB P f t then 8 * (f / 8) + t % 8 else t := by rw [← ha]; rfl
  have M5 := Lib.hid (fun W h => stands_any b P a ha64 W h)
  have hv : tksN P f t = if emB P a then -1 else (a : Int) := by unfold tksN; rw [ha]
  clear hp ha hat
  generalize ovrB P f t = ov at *
  generalize emB P a = em at *
  generalize ((t % 8 : Nat) : Int) = t8 at *
  generalize ((f / 8 : Nat) : Int) = f8 at *
  have HV := Lib.hid hv
  have HA := Lib.hid hao
  clear hv hao ha64
  go_enter Tryz.func189, Tryz.ntmps189
  go_upto_region 1 with (fail)
  refine forget_B (fun W => HM w W b P f t k) HI.out ?_
  clear HI
  intro W hi
  have HI := Lib.hid hi
  clear hi
  obtain ⟨q0, q1, q2, qf, qz⟩ := row3 HI.out.x
  go_wp2_with fail
  refine (M1.out _ HI.out.p).mono ?_
  rintro e w1 ⟨rfl, hb1⟩
  replace HI := Lib.hid (HI.out.go hb1)
  clear q0 q1 q2 qf qz
  obtain ⟨q0, q1, q2, qf, qz⟩ := row3 HI.out.x
  cases ov
  · obtain rfl : a = t := HA.out
    go_wp2_with fail
    refine (M5.out _ HI.out.p).mono ?_
    rintro e w2 ⟨rfl, hb1⟩
    replace HI := Lib.hid (HI.out.go hb1)
    cases em
    · go_wp2
      go_ret
      exact ⟨q_i (by rw [HV.out]; rfl), HI.out.b⟩
    · go_wp2
      go_ret
      exact ⟨q_i (by rw [HV.out]; rfl), HI.out.b⟩
  · go_upto_region 3 with (fail)
    obtain ⟨x0, x1, x2⟩ := HI.out.cells
    have hA : ((8 * (f / 8) + t % 8 : Nat) : Int) = (a : Int) := by rw [HA.out]; rfl
    rw [hA] at M4
    clear hA q0 q1 q2 qf qz
    have c2 := regrown_call (w := w1) M2.out
    have c3 := regrown_call (w := w1) M3.out
    have c4 := regrown_call (w := w1) M4.out
    refine wp_region_quiet_below (by kernel_rfl) (by kernel_rfl) ?_
    repeat (first | go_big_quiet_step (exact c2 _ _) | go_big_quiet_step (exact c3 _ _) | go_big_quiet_step (exact c4 _ _) | go_big_quiet_step (fail) | quiet_step (fail))
    refine wpQuiet_nil ?_
    rintro W4 ⟨q, rfl⟩
    replace HI := Lib.hid (HI.out.grown q.d q.os)
    clear x0 x1 x2 c2 c3 c4
    generalize grow (redrawn w1 q.d) q.os = w2 at HI ⊢
    go_wp2_with fail
    refine (M5.out _ HI.out.p).mono ?_
    rintro e w3 ⟨rfl, hb1⟩
    replace HI := Lib.hid (HI.out.go hb1)
    cases em
    · go_wp2
      go_ret
      exact ⟨q_i (by rw [HV.out]; rfl), HI.out.b⟩
    · go_wp2
      go_ret
      exact ⟨q_i (by rw [HV.out]; rfl), HI.out.b⟩
end Go.Proofs.YtkncfeijlmomaaaGreatDoor

namespace Go.Proofs.YtkncfeijlmomaaaGreatDoor
open Go.RowKit Go.Sort
set_option linter.unusedSimpArgs false
set_option linter.unusedVariables false
set_option maxRecDepth 20000

theorem mSide_any (d : Int) (w : World) :
    Calls Tryz.prog 163 #[.int .i64 d] w fun e w' => e = .returned (.bool (sideB d)) ∧ w = w' := by
  rcases side_cases d with ⟨rfl, hb⟩ | ⟨rfl, hb⟩ | ⟨h0, h1, hb⟩
  all_goals rw [hb]
  all_goals clear hb
  all_goals
    go_enter Tryz.func163, Tryz.ntmps163
    go_wp2
    go_ret
    exact ⟨rfl, rfl⟩
set_option maxHeartbeats 1000000 in
theorem mRank_any (b : Nat) (P : Nat → Int) (s : Nat) (hs : s < 64) (w : World) (hp : PB w b P) :
    Calls Tryz.prog 211 #[.pointer (some ⟨b, 0, none⟩), .int .i64 (s : Int)] w fun e w' => e = .returned (.int .i64 (rkN P s)) ∧ Below w.heap.size w w' := by
  have e1 := hp.cell 128 (by omega)
  have hr := sR_sq s hs
  have hb8 : s / 8 < 8 := by omega
  unfold rkN
  by_cases h : P 128 = 0
  · rw [if_pos h]
    rw [h] at e1
    have HR := Lib.hid hr
    clear hr h hp
    go_enter Tryz.func211, Tryz.ntmps211
    go_wp2_with fail
    refine (rank_any _ _).mono ?_
    rw [HR.out]
    rintro e w1 ⟨rfl, hb⟩
    go_wp2
    go_ret
    exact ⟨rfl, hb⟩
  · rw [if_neg h]
    have h0 : (P 128 == 0) = false := by simp [h]
    have HR := Lib.hid hr
    have hw : IntKind.i64.wrap (7 - ((s / 8 : Nat) : Int)) = 7 - ((s / 8 : Nat) : Int) := IntWalk.i64_in _ (by omega)
    generalize P 128 = d at *
    clear hr h hp
    go_enter Tryz.func211, Tryz.ntmps211
    go_wp2_with fail
    refine (rank_any _ _).mono ?_
    rw [HR.out]
    rintro e w1 ⟨rfl, hb⟩
    go_wp2
    go_ret
    exact ⟨q_i (by first | rfl | exact hw | simp [hw] | omega), hb⟩
set_option maxHeartbeats 1000000 in
theorem mStands_same (b : Nat) (P : Nat → Int) (s : Nat) (hs : s < 64) (w : World) (hp : PB w b P) :
    Calls Tryz.prog 212 #[.pointer (some ⟨b, 0, none⟩), .int .i64 (s : Int)] w fun e w' => e = .returned (.bool (!emB P s)) ∧ w = w' := by
  have e1 := hp.cell (s * 2) (by omega)
  have e2 := hp.cell (s * 2 + 1) (by omega)
  have s0 : (0 : Int) ≤ s := by omega
  have s1 : (s : Int) < 64 := by omega
  rw [emB_at]
  clear hp
  go_enter Tryz.func212, Tryz.ntmps212
  go_wp2
  go_ret
  exact ⟨rfl, rfl⟩
/-- something of the mover's own side stands there, of the other side -/
def mownB (P : Nat → Int) (s : Nat) : Bool := !emB P s && (P (2 * s + 1) == P 128)
def mothB (P : Nat → Int) (s : Nat) : Bool := !emB P s && (P (2 * s + 1) == oth (P 128))
theorem mStands_any (b : Nat) (P : Nat → Int) (s : Nat) (hs : s < 64) (w : World) (hp : PB w b P) :
    Calls Tryz.prog 212 #[.pointer (some ⟨b, 0, none⟩), .int .i64 (s : Int)] w fun e w' => e = .returned (.bool (!emB P s)) ∧ Below w.heap.size w w' :=
  (mStands_same b P s hs w hp).mono fun e w' ⟨h1, h2⟩ => ⟨h1, by subst h2; exact Below.refl _ _⟩
set_option maxHeartbeats 400000 in
theorem mOwn_any (b : Nat) (P : Nat → Int) (s : Nat) (hs : s < 64) (w : World) (hp : PB w b P) :
    Calls Tryz.prog 216 #[.pointer (some ⟨b, 0, none⟩), .int .i64 (s : Int)] w fun e w' => e = .returned (.bool (mownB P s)) ∧ Below w.heap.size w w' := by
  have s0 : (0 : Int) ≤ s := by omega
  have s1 : (s : Int) < 64 := by omega
  have c1 := fun (d : Nat) (os : Array Obj) => Calls.regrown_of (mStands_any b P s hs _ (hp.go (below_regrown w d os)))
  have e2 := cell_regrown (hp.cell (s * 2 + 1) (by omega))
  have e3 := cell_regrown (hp.cell 128 (by omega))
  have hv : mownB P s = (!emB P s && (P (s * 2 + 1) == P 128)) := by unfold mownB; rw [Nat.mul_comm s 2]
  clear hp
  generalize P (s * 2 + 1) = d at *
  generalize P 128 = sd at *
  obtain ⟨em, hem⟩ : ∃ e, (!emB P s) = e := ⟨_, rfl⟩
  rw [hem] at c1 hv
  clear hem
  have HV := Lib.hid hv
  clear hv
  cases em
  · go_enter Tryz.func216, Tryz.ntmps216
    go_upto_region 1 with (fail)
    refine wp_region_quiet_below (by kernel_rfl) (by kernel_rfl) ?_
    repeat (first | go_big_quiet_step (exact c1 _ _) | go_big_quiet_step (fail) | quiet_step (fail))
    refine wpQuiet_nil ?_
    rintro W4 ⟨q, rfl⟩
    go_wp2
    go_ret
    exact ⟨q_b (by rw [HV.out]; first | rfl | simp), below_regrown w q.d q.os⟩
  · go_enter Tryz.func216, Tryz.ntmps216
    go_upto_region 1 with (fail)
    refine wp_region_quiet_below (by kernel_rfl) (by kernel_rfl) ?_
    repeat (first | go_big_quiet_step (exact c1 _ _) | go_big_quiet_step (fail) | quiet_step (fail))
    refine wpQuiet_nil ?_
    rintro W4 ⟨q, rfl⟩
    go_wp2
    go_ret
    exact ⟨q_b (by rw [HV.out]; first | rfl | simp), below_regrown w q.d q.os⟩
set_option maxHeartbeats 400000 in
theorem mOth_any (b : Nat) (P : Nat → Int) (s : Nat) (hs : s < 64) (w : World) (hp : PB w b P) :
    Calls Tryz.prog 214 #[.pointer (some ⟨b, 0, none⟩), .int .i64 (s : Int)] w fun e w' => e = .returned (.bool (mothB P s)) ∧ Below w.heap.size w w' := by
  have s0 : (0 : Int) ≤ s := by omega
  have s1 : (s : Int) < 64 := by omega
  have c1 := fun (d : Nat) (os : Array Obj) => Calls.regrown_of (mStands_any b P s hs _ (hp.go (below_regrown w d os)))
  have e2 := cell_regrown (hp.cell (s * 2 + 1) (by omega))
  have e3 := cell_regrown (hp.cell 128 (by omega))
  have hv : mothB P s = (!emB P s && (P (s * 2 + 1) == oth (P 128))) := by unfold mothB; rw [Nat.mul_comm s 2]
  clear hp
  generalize P (s * 2 + 1) = d at *
  generalize P 128 = sd at *
  have c2 := regrown_same (w := w) (fun W => other_any sd W)
  obtain ⟨em, hem⟩ : ∃ e, (!emB P s) = e := ⟨_, rfl⟩
  rw [hem] at c1 hv
  clear hem
  have HV := Lib.hid hv
  clear hv
  cases em
  · go_enter Tryz.func214, Tryz.ntmps214
    go_upto_region 1 with (fail)
    refine wp_region_quiet_below (by kernel_rfl) (by kernel_rfl) ?_
    repeat (first | go_big_quiet_step (exact c1 _ _) | go_big_quiet_step (exact c2 _ _) | go_big_quiet_step (fail) | quiet_step (fail))
    refine wpQuiet_nil ?_
    rintro W4 ⟨q, rfl⟩
    go_wp2
    go_ret
    exact ⟨q_b (by rw [HV.out]; first | rfl | simp), below_regrown w q.d q.os⟩
  · go_enter Tryz.func214, Tryz.ntmps214
    go_upto_region 1 with (fail)
    refine wp_region_quiet_below (by kernel_rfl) (by kernel_rfl) ?_
    repeat (first | go_big_quiet_step (exact c1 _ _) | go_big_quiet_step (exact c2 _ _) | go_big_quiet_step (fail) | quiet_step (fail))
    refine wpQuiet_nil ?_
    rintro W4 ⟨q, rfl⟩
    go_wp2
    go_ret
    exact ⟨q_b (by rw [HV.out]; first | rfl | simp), below_regrown w q.d q.os⟩
set_option maxHeartbeats 400000 in
theorem mayMove_any (b : Nat) (P : Nat → Int) (f : Nat) (hf : f < 64) (w : World) (hp : PB w b P) :
    Calls Tryz.prog 140 #[.pointer (some ⟨b, 0, none⟩), .int .i64 (f : Int)] w fun e w' => e = .returned (.bool (ownB P f)) ∧ Below w.heap.size w w' := by
  have s0 : (0 : Int) ≤ f := by omega
  have s1 : (f : Int) < 64 := by omega
  have e1 := hp.cell (f * 2) (by omega)
  have e2 := hp.cell (f * 2 + 1) (by omega)
  have HP := Lib.hid hp
  have hv : ownB P f = (sideB (P 128) && (P (f * 2 + 1) == P 128) && decide (1 ≤ P (f * 2)) && decide (P (f * 2) ≤ 6)) := by unfold ownB; rw [Nat.mul_comm f 2]
  have hlt := hp.lt
  clear hp
  have E3 := Lib.hid (show ∀ W, PB W b P → W.cell? ⟨b, 128, none⟩ = some (.int .i64 (P 128)) from fun W h => h.cell 128 (by omega))
  generalize P (f * 2) = k at *
  generalize P (f * 2 + 1) = d at *
  generalize P 128 = sd at *
  have HV := Lib.hid hv
  clear hv
  go_enter Tryz.func140, Tryz.ntmps140
  go_upto_region 2 with (fail)
  refine forget_B (fun W => PB W b P ∧ W.heap[w.heap.size]? = some (.cells #[.int .i64 k, .int .i64 d] 25 (0, 0)) ∧ Below w.heap.size w W) ⟨HP.out.alloc _, sl_at rfl, below_new _⟩ ?_
  clear e1 e2 HP hlt
  rintro W ⟨hp, hx, hb⟩
  have y1 := cell_regrown (E3.out W hp)
  have x1 := cell_regrown (row2 hx).1
  have x2 := cell_regrown (row2 hx).2.1
  have HB := Lib.hid hb
  clear hp hx hb E3
  by_cases hd : d = sd
  · subst hd
    obtain ⟨sb, hsb⟩ : ∃ s, sideB d = s := ⟨_, rfl⟩
    have c1 := regrown_same (w := W) (fun W => mSide_any d W)
    rw [hsb] at c1 HV
    clear hsb
    cases sb
    · refine wp_region_quiet_below (by kernel_rfl) (by kernel_rfl) ?_
      repeat (first | go_big_quiet_step (exact c1 _ _) | go_big_quiet_step (fail) | quiet_step (fail))
      refine wpQuiet_nil ?_
      rintro W4 ⟨q, rfl⟩
      go_wp2
      go_ret
      exact ⟨q_b (by rw [HV.out]; rfl), HB.out.trans ((below_regrown W q.d q.os).mono HB.out.size)⟩
    · by_cases h1 : 1 ≤ k
      · by_cases h6 : k ≤ 6
        · refine wp_region_quiet_below (by kernel_rfl) (by kernel_rfl) ?_
          repeat (first | go_big_quiet_step (exact c1 _ _) | go_big_quiet_step (fail) | quiet_step (fail))
          refine wpQuiet_nil ?_
          rintro W4 ⟨q, rfl⟩
          go_wp2
          go_ret
          exact ⟨q_b (by rw [HV.out]; simp [h1, h6]), HB.out.trans ((below_regrown W q.d q.os).mono HB.out.size)⟩
        · refine wp_region_quiet_below (by kernel_rfl) (by kernel_rfl) ?_
          repeat (first | go_big_quiet_step (exact c1 _ _) | go_big_quiet_step (fail) | quiet_step (fail))
          refine wpQuiet_nil ?_
          rintro W4 ⟨q, rfl⟩
          go_wp2
          go_ret
          exact ⟨q_b (by rw [HV.out]; simp [h1, h6]), HB.out.trans ((below_regrown W q.d q.os).mono HB.out.size)⟩
      · refine wp_region_quiet_below (by kernel_rfl) (by kernel_rfl) ?_
        repeat (first | go_big_quiet_step (exact c1 _ _) | go_big_quiet_step (fail) | quiet_step (fail))
        refine wpQuiet_nil ?_
        rintro W4 ⟨q, rfl⟩
        go_wp2
        go_ret
        exact ⟨q_b (by rw [HV.out]; simp; omega), HB.out.trans ((below_regrown W q.d q.os).mono HB.out.size)⟩
  · have hd2 : (d == sd) = false := by simp [hd]
    have c1 := regrown_same (w := W) (fun W => mSide_any d W)
    refine wp_region_quiet_below (by kernel_rfl) (by kernel_rfl) ?_
    repeat (first | go_big_quiet_step (exact c1 _ _) | go_big_quiet_step (fail) | quiet_step (fail))
    refine wpQuiet_nil ?_
    rintro W4 ⟨q, rfl⟩
    go_wp2
    go_ret
    exact ⟨q_b (by rw [HV.out, hd2]; simp), HB.out.trans ((below_regrown W q.d q.os).mono HB.out.size)⟩
/-- the least and the most of what a move's piece may become -/
def lastB (P : Nat → Int) (f t : Nat) : Bool := pwnB P f && (rkN P t == 7)
set_option maxHeartbeats 400000 in
theorem becomes_any (b : Nat) (P : Nat → Int) (f t : Nat) (hf : f < 64) (ht : t < 64) (w : World) (hp : PB w b P) :
    Calls Tryz.prog 186 #[.pointer (some ⟨b, 0, none⟩), .int .i64 (f : Int), .int .i64 (t : Int)] w fun e w' => e = .returned (.tuple #[.int .i64 (if lastB P f t then 2 else 0), .int .i64 (if lastB P f t then 5 else 0)]) ∧ Below w.heap.size w w' := by
  have s0 : (0 : Int) ≤ f := by omega
  have s1 : (f : Int) < 64 := by omega
  have e1 := hp.cell (f * 2) (by omega)
  have hv : lastB P f t = ((P (f * 2) == 1) && (rkN P t == 7)) := by unfold lastB; rw [pwnB_at]
  have M1 := Lib.hid (mRank_any b P t ht w hp)
  clear hp
  obtain ⟨lb, hlb⟩ : ∃ b, lastB P f t = b := ⟨_, rfl⟩
  rw [hlb] at hv ⊢
  generalize rkN P t = rk at *
  generalize P (f * 2) = k at *
  clear hlb
  cases lb
  · simp only [Bool.false_eq_true, if_false]
    by_cases hk : k = 1
    · subst hk
      have h7 : (rk == 7) = false := by simpa using hv.symm
      clear hv
      go_enter Tryz.func186, Tryz.ntmps186
      go_wp2_with fail
      refine M1.out.mono ?_
      rintro e w1 ⟨rfl, hb⟩
      go_wp2
      go_ret2
      exact ⟨rfl, hb⟩
    · have hk' : (k == 1) = false := by simp [hk]
      clear hv
      go_enter Tryz.func186, Tryz.ntmps186
      go_wp2
      go_ret2
      exact ⟨rfl, Below.refl _ _⟩
  · simp only [if_true]
    obtain ⟨rfl, rfl⟩ : k = 1 ∧ rk = 7 := by
      have := hv.symm
      simpa using this
    clear hv
    go_enter Tryz.func186, Tryz.ntmps186
    go_wp2_with fail
    refine M1.out.mono ?_
    rintro e w1 ⟨rfl, hb⟩
    go_wp2
    go_ret2
    exact ⟨rfl, hb⟩
end Go.Proofs.YtkncfeijlmomaaaGreatDoor

namespace Go.Proofs.YtkncfeijlmomaaaGreatDoor
open Go.RowKit
set_option linter.unusedSimpArgs false
set_option linter.unusedVariables false
set_option maxRecDepth 20000

/-- from A to B nothing below n turns, nor what X names -/
structure Spares (n : Nat) (X : Nat → Prop) (A B : World) : Prop where
  os : B.os = A.os
  tape : B.tape = A.tape
  output : B.output = A.output
  size : A.heap.size ≤ B.heap.size
  block : ∀ k, k < A.heap.size → (k < n ∨ X k) → B.heap[k]? = A.heap[k]?
/-- from A to B, of what was there, only what X names turns -/
structure Turns (X : Nat → Prop) (A B : World) : Prop where
  os : B.os = A.os
  tape : B.tape = A.tape
  output : B.output = A.output
  size : A.heap.size ≤ B.heap.size
  block : ∀ k, k < A.heap.size → ¬ X k → B.heap[k]? = A.heap[k]?
theorem Spares.refl (n : Nat) (X : Nat → Prop) (A : World) : Spares n X A A := ⟨rfl, rfl, rfl, Nat.le_refl _, fun _ _ _ => rfl⟩
theorem Turns.refl (X : Nat → Prop) (A : World) : Turns X A A := ⟨rfl, rfl, rfl, Nat.le_refl _, fun _ _ _ => rfl⟩
theorem Spares.trans {n : Nat} {X : Nat → Prop} {A B C : World} (h : Spares n X A B) (g : Spares n X B C) : Spares n X A C :=
  ⟨g.os.trans h.os, g.tape.trans h.tape, g.output.trans h.output, Nat.le_trans h.size g.size, fun k hk hx => (g.block k (Nat.lt_of_lt_of_le hk h.size) hx).trans (h.block k hk hx)⟩
theorem Spares.of_below {n : Nat} {X : Nat → Prop} {A B : World} (h : Below A.heap.size A B) : Spares n X A B := ⟨h.os, h.tape, h.output, h.size, fun k hk _ => h.block k hk⟩
theorem Turns.of_below {X : Nat → Prop} {A B : World} (h : Below A.heap.size A B) : Turns X A B := ⟨h.os, h.tape, h.output, h.size, fun k hk _ => h.block k hk⟩
theorem Turns.trans {X Y : Nat → Prop} {A B C : World} (h : Turns X A B) (g : Turns Y B C) (hY : ∀ k, Y k → X k ∨ A.heap.size ≤ k) : Turns X A C :=
  ⟨g.os.trans h.os, g.tape.trans h.tape, g.output.trans h.output, Nat.le_trans h.size g.size, fun k hk hx => (g.block k (Nat.lt_of_lt_of_le hk h.size) (fun hy => by rcases hY k hy with h1 | h1; exact hx h1; omega)).trans (h.block k hk hx)⟩
theorem Turns.mono {X Y : Nat → Prop} {A B : World} (h : Turns X A B) (hx : ∀ k, X k → Y k) : Turns Y A B := ⟨h.os, h.tape, h.output, h.size, fun k hk hy => h.block k hk (fun e => hy (hx k e))⟩
/-- what lies below all that X names stays -/
theorem Turns.below {X : Nat → Prop} {A B : World} {n : Nat} (h : Turns X A B) (hn : n ≤ A.heap.size) (hx : ∀ k, X k → n ≤ k) : Below n A B :=
  ⟨h.os, h.tape, h.output, h.size, fun k hk => h.block k (by omega) (fun e => by have := hx k e; omega)⟩
theorem Spares.below {X : Nat → Prop} {A B : World} {n m : Nat} (h : Spares n X A B) (hn : m ≤ A.heap.size) (hm : m ≤ n) : Below m A B :=
  ⟨h.os, h.tape, h.output, h.size, fun k hk => h.block k (by omega) (.inl (by omega))⟩
theorem Spares.mono {X : Nat → Prop} {A B : World} {n m : Nat} (h : Spares n X A B) (hm : m ≤ n) : Spares m X A B :=
  ⟨h.os, h.tape, h.output, h.size, fun k hk hx => h.block k hk (hx.imp (fun h1 => by omega) id)⟩
theorem Spares.less {X Y : Nat → Prop} {A B : World} {n : Nat} (h : Spares n X A B) (hx : ∀ k, Y k → X k) : Spares n Y A B :=
  ⟨h.os, h.tape, h.output, h.size, fun k hk hy => h.block k hk (hy.imp id (hx k))⟩
theorem turns_putObj {X : Nat → Prop} {A : World} {l : Nat} (o : Obj) (hl : X l) : Turns X A (A.putObj l o) :=
  ⟨rfl, rfl, rfl, by simp, fun k _ hx => World.putObj_heap_other (fun e => hx (by rw [e]; exact hl))⟩
theorem spares_putObj {n : Nat} {X : Nat → Prop} {A : World} {l : Nat} (o : Obj) (hn : n ≤ l) (hl : ¬ X l) : Spares n X A (A.putObj l o) :=
  ⟨rfl, rfl, rfl, by simp, fun k _ hx => World.putObj_heap_other (fun e => by subst e; rcases hx with h | h; omega; exact hl h)⟩
theorem roundIn_wide {n m : Nat} {P : Program} {l : Nat} {f : FuncId} {tmps : Array Value} {assign body : Code} {w : World} {R : Ending → World → Prop} (h : RoundIn Fence.wide n P l f tmps assign body w R) : RoundIn Fence.wide m P l f tmps assign body w R :=
  ⟨h.1, fun c cs _ => h.2 c cs (room_wide _)⟩

variable {P : Program} {α : Type}

/-- THE ITERATOR's CONTRACT: of whatever loop l: the elements of xs come, in their order, until a round says 'no more'. N: the blocks that it reads; J: what the rounds keep, X: the blocks that they may turn. -/
def Comes (P : Program) (g : FuncId) (lb : Array Value) (N : Nat → Prop) (enc : α → Value) (xs : List α) (w : World) : Prop :=
  (∀ k, N k → k < w.heap.size) ∧ ∀ (l : Nat) (J Jx : List α → (Nat → Prop) → World → Prop) (X : Nat → Prop) (W : World), Below w.heap.size w W → (∀ k, X k → ¬ N k) →
    (∀ s X A B, J s X A → Spares W.heap.size X A B → J s X B) → (∀ s X A B, Jx s X A → Spares W.heap.size X A B → Jx s X B) →
    (∀ s X A, J s X A → ∀ k, X k → k < A.heap.size) →
    (∀ pre x X A, J pre X A → pre ++ [x] <+: xs → YieldAt Fence.wide 0 P l #[enc x] A fun e B => ∃ Y, Turns X A B ∧ (∀ k, Y k → X k ∨ A.heap.size ≤ k) ∧
      ((e = .returned (.bool true) ∧ J (pre ++ [x]) Y B) ∨ (e = .returned (.bool false) ∧ Jx (pre ++ [x]) Y B))) →
    J [] X W →
    Calls P g (#[.func (.yield l) #[] #[]] ++ lb) W fun e B => (∃ v, e = .returned v) ∧ ∃ Y, J xs Y B ∨ ∃ pre, pre <+: xs ∧ Jx pre Y B
theorem Comes.later {g : FuncId} {lb : Array Value} {N : Nat → Prop} {enc : α → Value} {xs : List α} {w w' : World} (h : Comes P g lb N enc xs w) (hb : Below w.heap.size w w') : Comes P g lb N enc xs w' :=
  ⟨fun k hk => Nat.lt_of_lt_of_le (h.1 k hk) hb.size, fun l J Jx X W hW => h.2 l J Jx X W (hb.trans (hW.mono hb.size))⟩

/-- how a round may be left -/
def roundQ (I : List α → (Nat → Prop) → World → Prop) (Ix : Code → List α → (Nat → Prop) → World → Prop) (X : Nat → Prop) (xs : List α) (W : World) : Exit → Act → World → Prop
  | .normal, _, B => ∃ Y, Turns X W B ∧ (∀ k, Y k → X k ∨ W.heap.size ≤ k) ∧ I xs Y B
  | .ret, _, B => ∃ Y, Turns X W B ∧ (∀ k, Y k → X k ∨ W.heap.size ≤ k) ∧ Ix .ret xs Y B
  | .exit id, _, B => ∃ Y, Turns X W B ∧ (∀ k, Y k → X k ∨ W.heap.size ≤ k) ∧ Ix (.exit id) xs Y B
  | .goto t, _, B => ∃ Y, Turns X W B ∧ (∀ k, Y k → X k ∨ W.heap.size ≤ k) ∧ Ix (.goto t) xs Y B
  | .panic _, _, _ => False
  | .outgrown, _, _ => False

/-- what lies in the heap between two rounds, beside what the rounds keep -/
structure Book (I : (Nat → Prop) → World → Prop) (rec : Loop) (l D : Nat) (Z : Nat → Prop) (W : World) : Prop where
  inn : ∃ X, I X W ∧ ¬ X l ∧ ¬ X D ∧ ∀ k, Z k ↔ X k ∨ k = l ∨ k = D
  L : W.heap[l]? = some (.loop rec)
  K : W.heap[D]? = some (.deferred (some []))

/-- THE STATEMENT 'for x := range seq { body }' -/
theorem wp_range_over {g : Operand} {ps : Array Tmp} {assign body : Code} {Q : Exit → Act → World → Prop} {a : Act} {w : World}
    {gf : Nat} {lb : Array Value} (hg : a.eval g = .func (.func gf) #[] lb) (eg : ∀ args w, (callFunc gf args).run P w = .ok (.enter gf args) w)
    {N : Nat → Prop} {enc : α → Value} {xs : List α} {w0 : World} (hseq : Comes P gf lb N enc xs w0) (hb0 : Below w0.heap.size w0 w) (hps : ps.size = 1)
    (I : List α → (Nat → Prop) → World → Prop) (Ix : Code → List α → (Nat → Prop) → World → Prop)
    (hI : ∀ s X A B, I s X A → Spares w.heap.size X A B → I s X B) (hIx : ∀ c s X A B, Ix c s X A → Spares w.heap.size X A B → Ix c s X B)
    (hlt : ∀ s X A, I s X A → ∀ k, X k → k < A.heap.size) {X0 : Nat → Prop} (h0 : I [] X0 w) (hX0 : ∀ k, X0 k → ¬ N k) (a₁ : α → Act)
    (hassign : ∀ (l : Nat) (x : α) (W : World) (K : Act → World → Prop), K (a₁ x) W →
      assign.wpIn (Fence.wide.inRound l) 0 P (Exit.then K (fun _ _ _ => False)) { tmps := (ps.zip #[enc x]).foldl (fun t (p, v) => t.setIfInBounds p v) a.tmps, defers := [] } W)
    (hbody : ∀ (l : Nat) (pre : List α) (x : α) (X : Nat → Prop) (W : World), I pre X W → pre ++ [x] <+: xs → w.heap.size ≤ W.heap.size → body.wpIn (Fence.wide.inRound l) 0 P (roundQ I Ix X (pre ++ [x]) W) (a₁ x) W)
    (hdone : ∀ (Y : Nat → Prop) (W : World), I xs Y W → W.heap[w.heap.size]? = some (.deferred (some [])) → ¬ Y w.heap.size → I xs Y (W.putObj w.heap.size (.deferred none)) → Q .normal { a with defers := { target := .collected w.heap.size, args := #[] } :: a.defers } W)
    (hstop : ∀ (c : Code) (pre : List α) (Y : Nat → Prop) (W : World), pre <+: xs → Ix c pre Y W → W.heap[w.heap.size]? = some (.deferred (some [])) → ¬ Y w.heap.size → Ix c pre Y (W.putObj w.heap.size (.deferred none)) → c.wp P Q { a with defers := { target := .collected w.heap.size, args := #[] } :: a.defers } W) :
    (Code.rangeFunc g ps assign body).wp P Q a w := by
  refine (wpIn_wide (n := 0)).1 (wpIn_rangeFunc fun fn hfn => ?_)
  obtain ⟨rec, hrec⟩ : ∃ rec : LoopState → Option Code → Loop, rec = fun st pe => { state := st, pending := pe, fn, tmps := a.tmps, params := ps, assign, body, defers := w.heap.size } := ⟨_, rfl⟩
  obtain ⟨W1, hW1⟩ : ∃ W1, (w.alloc (.deferred (some []))).alloc (.loop (rec .ready none)) = W1 := ⟨_, rfl⟩
  have hs1 : W1.heap.size = w.heap.size + 2 := by rw [← hW1]; simp
  have hL1 : W1.heap[w.heap.size + 1]? = some (.loop (rec .ready none)) := by
    rw [← hW1]; have := World.alloc_heap_new (w.alloc (.deferred (some []))) (.loop (rec .ready none)); rwa [World.size_alloc] at this
  have hK1 : W1.heap[w.heap.size]? = some (.deferred (some [])) := by
    rw [← hW1]; exact (Below.heap_alloc _ _ _ (by simp)).trans (World.alloc_heap_new w _)
  have hbw : Below w.heap.size w W1 := by rw [← hW1]; exact ((Below.refl _ w).alloc (Nat.le_refl _) _).alloc (by simp) _
  have hI1 : I [] X0 W1 := hI _ _ _ _ h0 (.of_below hbw)
  refine ⟨w.heap.size + 1, [{ target := .collected w.heap.size, args := #[] }], W1, { target := .fn (.func gf) lb, args := #[.func (.yield (w.heap.size + 1)) #[] #[]] }, W1, gf,
    #[.func (.yield (w.heap.size + 1)) #[] #[]] ++ lb, W1, ?_, ?_, fun _ _ => trivial, ?_, fun h => by simp [Fence.wide] at h, callsIn_wide.2 ?_⟩
  · rw [← hW1, hrec]; exact run_enterLoop_outer _ _ _ _ _
  · simp only [resolve, hg]
    simp [go_sem]
  · simp [invoke, go_sem, eg]
  · -- the steps of the iterator, and those of the book
    have bookI : ∀ (F : (Nat → Prop) → World → Prop) (r : Loop) (Z : Nat → Prop) (A B : World), (∀ X A B, F X A → Spares w.heap.size X A B → F X B) →
        Book F r (w.heap.size + 1) w.heap.size Z A → Spares W1.heap.size Z A B → Book F r (w.heap.size + 1) w.heap.size Z B := by
      intro F r Z A B hF h hs
      obtain ⟨X, hX, h1, h2, hz⟩ := h.inn
      have hl : w.heap.size + 1 < A.heap.size := (Array.getElem?_eq_some_iff.1 h.L).1
      exact ⟨⟨X, hF X A B hX ((hs.mono (by omega)).less fun k hk => (hz k).2 (.inl hk)), h1, h2, hz⟩, (hs.block _ hl (.inl (by omega))).trans h.L, (hs.block _ (by omega) (.inl (by omega))).trans h.K⟩
    refine (hseq.2 (w.heap.size + 1) (fun pre => Book (I pre) (rec .ready none) (w.heap.size + 1) w.heap.size) (fun pre Z W => ∃ c, Book (Ix c pre) (rec .done (some c)) (w.heap.size + 1) w.heap.size Z W)
      (fun k => X0 k ∨ k = w.heap.size + 1 ∨ k = w.heap.size) W1 (hb0.trans (hbw.mono hb0.size)) ?_
      (fun s Z A B => bookI _ _ Z A B (fun X A B => hI s X A B)) (fun s Z A B ⟨c, h⟩ hs => ⟨c, bookI _ _ Z A B (fun X A B => hIx c s X A B) h hs⟩) ?_ ?_ ?_).mono ?_
    · intro k hk hn
      have h1 := hseq.1 k hn
      have h2 := hb0.size
      rcases hk with h | h | h
      · exact hX0 k h hn
      · omega
      · omega
    · intro s Z A h k hk
      obtain ⟨X, hX, _, _, hz⟩ := h.inn
      have hl : w.heap.size + 1 < A.heap.size := (Array.getElem?_eq_some_iff.1 h.L).1
      rcases (hz k).1 hk with h1 | h1 | h1
      · exact hlt _ _ _ hX k h1
      · omega
      · omega
    · -- ONE ROUND
      intro pre x Z A h hpre
      obtain ⟨X, hX, hn1, hn2, hz⟩ := h.inn
      have hL := h.L
      have hK := h.K
      have hl : w.heap.size + 1 < A.heap.size := (Array.getElem?_eq_some_iff.1 hL).1
      have hy := run_yield (P := P) (args := #[enc x]) hL (by rw [hrec]; simp [hps])
      rw [hrec] at hy
      refine ⟨fn, _, assign, body, hy, roundIn_of_wpIn hfn (hassign _ x A _ ⟨_, run_beginRound hL (by rw [hrec]), ?_⟩)⟩
      clear hy
      obtain ⟨A2, hA2⟩ : ∃ A2, A.putObj (w.heap.size + 1) (.loop { rec .ready none with state := .busy }) = A2 := ⟨_, rfl⟩
      rw [hA2]
      have hs2 : A2.heap.size = A.heap.size := by rw [← hA2]; simp
      have hL2 : A2.heap[w.heap.size + 1]? = some (.loop { rec .ready none with state := .busy }) := by rw [← hA2]; exact World.putObj_heap_same hl
      have hK2 : A2.heap[w.heap.size]? = some (.deferred (some [])) := by rw [← hA2]; exact (World.putObj_heap_other (by omega)).trans hK
      have hX2 : I pre X A2 := by rw [← hA2]; exact hI _ _ _ _ hX (spares_putObj _ (by omega) hn1)
      have hT2 : Turns Z A A2 := by rw [← hA2]; exact turns_putObj _ ((hz _).2 (.inr (.inl rfl)))
      refine wpIn_mono (hbody _ pre x X A2 hX2 hpre (by omega)) ?_
      have fin : ∀ (jump : Option Code) (F : (Nat → Prop) → World → Prop) (A3 : World) (Y : Nat → Prop), (∀ X A B, F X A → Spares w.heap.size X A B → F X B) → Turns X A2 A3 → (∀ k, Y k → X k ∨ A2.heap.size ≤ k) → F Y A3 →
          (Instr.endRound (w.heap.size + 1) jump).run P A3 = .ok (.bool jump.isNone) (A3.putObj (w.heap.size + 1) (.loop (rec (if jump.isNone then .ready else .done) jump))) ∧
          Turns Z A (A3.putObj (w.heap.size + 1) (.loop (rec (if jump.isNone then .ready else .done) jump))) ∧
          ∃ Z', (∀ k, Z' k → Z k ∨ A.heap.size ≤ k) ∧ Book F (rec (if jump.isNone then .ready else .done) jump) (w.heap.size + 1) w.heap.size Z' (A3.putObj (w.heap.size + 1) (.loop (rec (if jump.isNone then .ready else .done) jump))) := by
        intro jump F A3 Y hF hT hY hFY
        have hL3 := (hT.block _ (by omega) hn1).trans hL2
        have hK3 := (hT.block _ (by omega) hn2).trans hK2
        have hy1 : ¬ Y (w.heap.size + 1) := fun e => by rcases hY _ e with h | h; exact hn1 h; omega
        have hy2 : ¬ Y w.heap.size := fun e => by rcases hY _ e with h | h; exact hn2 h; omega
        have he := run_endRound (P := P) jump hL3
        rw [hrec] at he ⊢
        refine ⟨he, ?_, fun k => Y k ∨ k = w.heap.size + 1 ∨ k = w.heap.size, ?_, ⟨Y, hF _ _ _ hFY (spares_putObj _ (by omega) hy1), hy1, hy2, fun k => Iff.rfl⟩, ?_, ?_⟩
        · refine (hT2.trans (hT.mono fun k hk => (hz k).2 (.inl hk)) fun k hk => .inl hk).trans (turns_putObj (X := Z) _ ((hz _).2 (.inr (.inl rfl)))) fun k hk => .inl hk
        · rintro k (hk | hk | hk)
          · rcases hY k hk with h | h
            · exact .inl ((hz k).2 (.inl h))
            · exact .inr (by omega)
          · exact .inl ((hz k).2 (.inr (.inl hk)))
          · exact .inl ((hz k).2 (.inr (.inr hk)))
        · exact World.putObj_heap_same (Array.getElem?_eq_some_iff.1 hL3).1
        · exact (World.putObj_heap_other (by omega)).trans hK3
      rintro e a3 A3 hp
      cases e with
      | normal =>
        obtain ⟨Y, hT, hY, hI3⟩ := hp
        obtain ⟨hr, hT3, Z', hZ', hB⟩ := fin none (I (pre ++ [x])) A3 Y (fun X A B => hI _ X A B) hT hY hI3
        exact ⟨_, _, hr, Z', hT3, hZ', .inl ⟨rfl, hB⟩⟩
      | ret =>
        obtain ⟨Y, hT, hY, hI3⟩ := hp
        obtain ⟨hr, hT3, Z', hZ', hB⟩ := fin (some .ret) (Ix .ret (pre ++ [x])) A3 Y (fun X A B => hIx _ _ X A B) hT hY hI3
        exact ⟨_, _, hr, Z', hT3, hZ', .inr ⟨rfl, .ret, hB⟩⟩
      | exit id =>
        obtain ⟨Y, hT, hY, hI3⟩ := hp
        obtain ⟨hr, hT3, Z', hZ', hB⟩ := fin (some (.exit id)) (Ix (.exit id) (pre ++ [x])) A3 Y (fun X A B => hIx _ _ X A B) hT hY hI3
        exact ⟨_, _, hr, Z', hT3, hZ', .inr ⟨rfl, .exit id, hB⟩⟩
      | goto t =>
        obtain ⟨Y, hT, hY, hI3⟩ := hp
        obtain ⟨hr, hT3, Z', hZ', hB⟩ := fin (some (.goto t)) (Ix (.goto t) (pre ++ [x])) A3 Y (fun X A B => hIx _ _ X A B) hT hY hI3
        exact ⟨_, _, hr, Z', hT3, hZ', .inr ⟨rfl, .goto t, hB⟩⟩
      | panic ch => exact hp.elim
      | outgrown => exact hp.elim
    · exact ⟨⟨X0, hI1, fun e => by have := hlt _ _ _ h0 _ e; omega, fun e => by have := hlt _ _ _ h0 _ e; omega, fun k => Iff.rfl⟩, hL1, hK1⟩
    · -- BEHIND THE ITERATOR
      have fin : ∀ (F : (Nat → Prop) → World → Prop) (st : LoopState) (pe : Option Code) (Z : Nat → Prop) (B : World), st ≠ .busy → (∀ X A B, F X A → Spares w.heap.size X A B → F X B) → Book F (rec st pe) (w.heap.size + 1) w.heap.size Z B →
          ∃ B' Y, (Instr.endLoop (w.heap.size + 1)).run P B = .ok pe B' ∧ F Y B' ∧ B'.heap[w.heap.size]? = some (.deferred (some [])) ∧ ¬ Y w.heap.size ∧ F Y (B'.putObj w.heap.size (.deferred none)) := by
        intro F st pe Z B hst hF h
        obtain ⟨X, hX, hn1, hn2, hz⟩ := h.inn
        have he := run_endLoop (P := P) h.L (by rw [hrec]; exact hst)
        rw [hrec] at he
        have h3 := hF _ _ (B.putObj (w.heap.size + 1) (.loop { rec st pe with state := .exhausted })) hX (spares_putObj _ (by omega) hn1)
        rw [hrec] at h3
        exact ⟨_, X, he, h3, (World.putObj_heap_other (by omega)).trans h.K, hn2, hF _ _ _ h3 (spares_putObj _ (Nat.le_refl _) hn2)⟩
      rintro e B ⟨⟨v, rfl⟩, Z, (hJ | ⟨pre, hpre, c, hJ⟩)⟩
      · obtain ⟨B', Y, he, h1, h2, h4, h3⟩ := fin _ _ _ Z B (by simp) (fun X A B => hI _ X A B) hJ
        exact ⟨none, B', he, hdone Y B' h1 h2 h4 h3⟩
      · obtain ⟨B', Y, he, h1, h2, h4, h3⟩ := fin _ _ _ Z B (by simp) (fun X A B => hIx c _ X A B) hJ
        exact ⟨some c, B', he, wpIn_wide.2 (hstop c pre Y B' hpre h1 h2 h4 h3)⟩
/-- what stands within an iterator's walk: the rounds' word J; what it reads (R, in the blocks N); its own blocks O -/
structure Keep (J : List α → (Nat → Prop) → World → Prop) (R : World → Prop) (N : Nat → Prop) (O : List (Nat × Obj)) (pre : List α) (Y : Nat → Prop) (W : World) : Prop where
  j : J pre Y W
  r : R W
  o : ∀ p ∈ O, W.heap[p.1]? = some p.2
  x : ∀ q, Y q → ¬ N q ∧ ∀ p ∈ O, q ≠ p.1
variable {J : List α → (Nat → Prop) → World → Prop} {R : World → Prop} {N : Nat → Prop} {O : List (Nat × Obj)} {pre pre' : List α} {Y Z : Nat → Prop} {A B : World}
theorem Keep.turn (hR : ∀ Y A B, R A → (∀ q, Y q → ¬ N q) → Turns Y A B → R B) (h : Keep J R N O pre Y A) (hN : ∀ k, N k → k < A.heap.size) (ht : Turns Y A B) (hz : ∀ k, Z k → Y k ∨ A.heap.size ≤ k) (hj : J pre' Z B) : Keep J R N O pre' Z B := by
  have ho : ∀ p ∈ O, p.1 < A.heap.size := fun p hp => (Array.getElem?_eq_some_iff.1 (h.o p hp)).1
  refine ⟨hj, hR Y A B h.r (fun q hq => (h.x q hq).1) ht, fun p hp => (ht.block _ (ho p hp) (fun e => (h.x _ e).2 p hp rfl)).trans (h.o p hp), fun q hq => ?_⟩
  rcases hz q hq with h1 | h1
  · exact h.x q h1
  · exact ⟨fun e => by have := hN q e; omega, fun p hp e => by have := ho p hp; omega⟩
theorem Keep.go {n : Nat} (hR : ∀ Y A B, R A → (∀ q, Y q → ¬ N q) → Turns Y A B → R B) (hJ : ∀ s X A B, J s X A → Spares n X A B → J s X B) (h : Keep J R N O pre Y A) (g : Below A.heap.size A B) : Keep J R N O pre Y B :=
  ⟨hJ _ _ _ _ h.j (.of_below g), hR Y A B h.r (fun q hq => (h.x q hq).1) (.of_below g), fun p hp => (g.block _ (Array.getElem?_eq_some_iff.1 (h.o p hp)).1).trans (h.o p hp), h.x⟩
theorem Keep.add {n t : Nat} {o : Obj} (hR : ∀ Y A B, R A → (∀ q, Y q → ¬ N q) → Turns Y A B → R B) (hJ : ∀ s X A B, J s X A → Spares n X A B → J s X B) (hlt : ∀ s X A, J s X A → ∀ k, X k → k < A.heap.size)
    (h : Keep J R N O pre Y A) (e : t = A.heap.size) : Keep J R N ((t, o) :: O) pre Y (A.alloc o) := by
  subst e
  have h1 := h.go hR hJ ((Below.refl _ A).alloc (Nat.le_refl _) o)
  refine ⟨h1.j, h1.r, fun p hp => ?_, fun q hq => ⟨(h1.x q hq).1, fun p hp => ?_⟩⟩
  · rcases List.mem_cons.1 hp with rfl | hp
    · exact World.alloc_heap_new A o
    · exact h1.o p hp
  · rcases List.mem_cons.1 hp with rfl | hp
    · have := hlt _ _ _ h.j q hq
      intro e
      simp at e
      omega
    · exact (h1.x q hq).2 p hp
/-- .. through another's steps: n: where its walk began -/
theorem Keep.spare {n m : Nat} (hR : ∀ A B, A.heap.size ≤ B.heap.size → (∀ k, N k → B.heap[k]? = A.heap[k]?) → R A → R B) (hJ : ∀ s X A B, J s X A → Spares n X A B → J s X B) (h : Keep J R N O pre Y A) (hn : n ≤ m) (hN : ∀ k, N k → k < m) (hm : ∀ k, N k → k < A.heap.size) (hO : ∀ p ∈ O, p.1 < m) (g : Spares m Y A B) : Keep J R N O pre Y B :=
  ⟨hJ _ _ _ _ h.j (g.mono hn), hR A B g.size (fun k hk => g.block k (hm k hk) (.inl (hN k hk))) h.r, fun p hp => (g.block _ (Array.getElem?_eq_some_iff.1 (h.o p hp)).1 (.inl (hO p hp))).trans (h.o p hp), h.x⟩
theorem Keep.put {p : Nat × Obj} (h : Keep J R N O pre Y A) (hp : A.heap[p.1]? = some p.2) (hy : ¬ Y p.1) : Keep J R N (p :: O) pre Y A :=
  ⟨h.j, h.r, fun q hq => by rcases List.mem_cons.1 hq with rfl | hq; exact hp; exact h.o q hq, fun q hq => ⟨(h.x q hq).1, fun r hr => by rcases List.mem_cons.1 hr with rfl | hr; exact fun e => hy (e ▸ hq); exact (h.x q hq).2 r hr⟩⟩
theorem Keep.sub {O' : List (Nat × Obj)} (h : Keep J R N O pre Y A) (ho : ∀ p ∈ O', p ∈ O) : Keep J R N O' pre Y A := ⟨h.j, h.r, fun q hq => h.o q (ho q hq), fun q hq => ⟨(h.x q hq).1, fun r hr => (h.x q hq).2 r (ho r hr)⟩⟩
theorem Keep.drop {p : Nat × Obj} (h : Keep J R N (p :: O) pre Y A) : Keep J R N O pre Y A := ⟨h.j, h.r, fun q hq => h.o q (List.mem_cons_of_mem _ hq), fun q hq => ⟨(h.x q hq).1, fun r hr => (h.x q hq).2 r (List.mem_cons_of_mem _ hr)⟩⟩
theorem Keep.head {p : Nat × Obj} (h : Keep J R N (p :: O) pre Y A) : A.heap[p.1]? = some p.2 := h.o p (List.mem_cons_self ..)
theorem Keep.next {p q : Nat × Obj} (h : Keep J R N (p :: q :: O) pre Y A) : A.heap[q.1]? = some q.2 := h.o q (List.mem_cons_of_mem _ (List.mem_cons_self ..))
/-- the mark on a loop's block for deferred calls -/
def markOf (D : Nat) : Deferred := { target := .collected D, args := #[] }
theorem leaves_marks {fn : Func} {tmps : Array Value} {T : World → Prop} {G : Nat → Prop} {Rz : Ending → World → Prop} (hT : ∀ D W, G D → T W → W.heap[D]? = some (.deferred (some [])) → T (W.putObj D (.deferred none))) (hR : ∀ W, T W → LeavesIn Fence.wide 0 P fn tmps Rz [] .returning W) : ∀ (Ds : List Nat) (W : World), Ds.Nodup → (∀ D ∈ Ds, W.heap[D]? = some (.deferred (some [])) ∧ G D) → T W → LeavesInM Fence.wide 0 P fn tmps Rz (Ds.map markOf) .returning W
  | [], W, _, _, h => hR W h
  | D :: Ds, W, hn, hd, h => by
    obtain ⟨h0, hg⟩ := hd D (List.mem_cons_self ..)
    obtain ⟨hn1, hn2⟩ := List.nodup_cons.1 hn
    refine ⟨by simp, .inl ⟨D, _, rfl, run_takeDeferred h0, leaves_marks hT hR Ds _ hn2 (fun E hE => ?_) (hT D W hg h h0)⟩⟩
    obtain ⟨h1, h2⟩ := hd E (List.mem_cons_of_mem _ hE)
    exact ⟨(World.putObj_heap_other (k := E) (r := D) (fun e => hn1 (by rw [← e]; exact hE))).trans h1, h2⟩
/-- a function whose body holds such a statement -/
theorem calls_of_marks {f : FuncId} {fn : Func} {c : Code} {args : Array Value} {w : World} {R : Ending → World → Prop} (hf : P.funcs[f]? = some fn) (hb : fn.body = some c)
    (h : c.wp P (bodyPostM Fence.wide 0 P fn R) { tmps := args ++ Array.replicate (fn.ntmps - args.size) undef, defers := [] } w) : Calls P f args w R :=
  callsIn_wide.1 (callsIn_of_wp_marks (n := 0) hf hb trivial (wpIn_wide.2 h))
end Go.Proofs.YtkncfeijlmomaaaGreatDoor
