/-
  Contracts: the checker's small questions; its pieces.
-/
import Derived.Test.YtldepimkbnodpaaDoorG7
namespace Go.Proofs.YtldepimkbnodpaaDoor
open Go.RowKit Go.Sort
set_option linter.unusedSimpArgs false
set_option linter.unusedVariables false

set_option maxHeartbeats 1000000 in
theorem counts_any (b : Nat) (P : Nat → Int) (w : World) (hp : PB w b P) :
    Calls Tryd.prog 59 #[.pointer (some ⟨b, 0, none⟩)] w fun e w' => e = .returned (.bool (cntB (P 131) (P 132))) ∧ w = w' := by
  have e1 := hp.cell 131 (by omega)
  have e2 := hp.cell 132 (by omega)
  clear hp
  generalize P 131 = hf at *
  generalize P 132 = fu at *
  rcases cnt_cases hf fu with ⟨h1, hc⟩ | ⟨h1, h2, hc⟩ | ⟨h1, h2, h3, hc⟩ | ⟨h1, h2, h3, h4, hc⟩ | ⟨h1, h2, h3, h4, hc⟩
  all_goals
    rw [hc]
    clear hc
    go_enter Tryd.func59, Tryd.ntmps59
    go_wp2
    go_ret
    exact ⟨q_b (by first | rfl | (simp; done) | (simp; omega)), rfl⟩
theorem row4 {W : World} {H : Nat} {a b c d : Value} {t : TypeId} (h : W.heap[H]? = some (.cells #[a, b, c, d] t (0, 0))) :
    W.cell? ⟨H, 1, none⟩ = some b ∧ W.cell? ⟨H, 2, none⟩ = some c ∧ W.cell? ⟨H, 3, none⟩ = some d :=
  ⟨by rw [cell_of_row W H 1 _ _ (0, 0) h]; rfl, by rw [cell_of_row W H 2 _ _ (0, 0) h]; rfl, by rw [cell_of_row W H 3 _ _ (0, 0) h]; rfl⟩
theorem three_drew {w : World} {b : Nat} {P : Nat → Int} (h : PB w b P) (o1 o2 o3 : Obj) :
    PB (((w.alloc o1).alloc o2).alloc o3).drew b P ∧ (((w.alloc o1).alloc o2).alloc o3).drew.heap[w.heap.size]? = some o1 ∧ (((w.alloc o1).alloc o2).alloc o3).drew.heap[w.heap.size + 1]? = some o2 ∧
      (((w.alloc o1).alloc o2).alloc o3).drew.heap[w.heap.size + 1 + 1]? = some o3 ∧ Below w.heap.size w (((w.alloc o1).alloc o2).alloc o3).drew :=
  ⟨(((h.alloc _).alloc _).alloc _).drew, (three_at w o1 o2 o3).1, (three_at w o1 o2 o3).2.1, (three_at w o1 o2 o3).2.2.1, (three_at w o1 o2 o3).2.2.2.1.drew⟩
set_option maxHeartbeats 1000000 in
theorem waits_any (b : Nat) (P : Nat → Int) (c d : Int) (k r : Nat) (hk : k < 64) (hr : r < 64) (w : World) (hp : PB w b P) :
    Calls Tryd.prog 73 #[.pointer (some ⟨b, 0, none⟩), .agg #[.int .i64 c, .int .i64 d, .int .i64 (k : Int), .int .i64 (r : Int)]] w fun e w' => e = .returned (.bool (homeB P d k r)) ∧ Below w.heap.size w w' := by
  have HP := Lib.hid hp
  obtain ⟨a, ha⟩ : ∃ a, pe (P (k * 2)) (P (k * 2 + 1)) 6 d = a := ⟨_, rfl⟩
  obtain ⟨e, he⟩ : ∃ e, pe (P (r * 2)) (P (r * 2 + 1)) 4 d = e := ⟨_, rfl⟩
  have HV := Lib.hid (show homeB P d k r = (a && e) by unfold homeB; rw [Nat.mul_comm 2 k, Nat.mul_comm 2 r, ha, he])
  have k0 : (0 : Int) ≤ k := by omega
  have k1 : (k : Int) < 64 := by omega
  have r0 : (0 : Int) ≤ r := by omega
  have r1 : (r : Int) < 64 := by omega
  clear hp
  go_enter Tryd.func73, Tryd.ntmps73
  go_upto_region 1 with (fail)
  go_region
  · go_upto_region 2 with (fail)
    refine forget_B (fun W => PB W b P ∧ W.heap[w.heap.size]? = some (.cells #[.int .i64 c, .int .i64 d, .int .i64 (k : Int), .int .i64 (r : Int)] 88 (0, 0)) ∧ W.heap[w.heap.size + 1]? = some (.cells #[.int .i64 6, .int .i64 d] 25 (0, 0)) ∧ W.heap[w.heap.size + 1 + 1]? = some (.cells #[.int .i64 4, .int .i64 d] 25 (0, 0)) ∧ Below w.heap.size w W)
      (let h := three_drew HP.out _ _ _; ⟨h.1, h.2.1, h.2.2.1, h.2.2.2.1, h.2.2.2.2⟩) ?_
    rintro W ⟨hp, hc, hkb, hrb, hbw⟩
    have HB := Lib.hid hbw
    have u1 := cell_regrown (row4 hc).1
    have u2 := cell_regrown (row4 hc).2.1
    have u3 := cell_regrown (row4 hc).2.2
    have v1 := cell_regrown (row2 hkb).1
    have v2 := cell_regrown (row2 hkb).2.1
    have v3 := cell_regrown (row2 hrb).1
    have v4 := cell_regrown (row2 hrb).2.1
    have y1 := cell_regrown (hp.cell (k * 2) (by omega))
    have y2 := cell_regrown (hp.cell (k * 2 + 1) (by omega))
    have y3 := cell_regrown (hp.cell (r * 2) (by omega))
    have y4 := cell_regrown (hp.cell (r * 2 + 1) (by omega))
    clear hp hc hkb hrb hbw HP
    generalize P (k * 2) = x1 at *
    generalize P (k * 2 + 1) = x2 at *
    generalize P (r * 2) = x3 at *
    generalize P (r * 2 + 1) = x4 at *
    cases a
    all_goals
      refine wp_region_quiet_below (by kernel_rfl) (by kernel_rfl) ?_
      repeat (first | go_big_quiet_step (fail) | quiet_step (fail))
      refine wpQuiet_nil ?_
      rintro W4 ⟨q, rfl⟩
      go_wp2
      go_ret
      exact ⟨q_b (by rw [HV.out]; first | rfl | simp), HB.out.trans ((below_regrown W q.d q.os).mono HB.out.size)⟩
  · go_upto_region 2 with (fail)
    refine forget_B (fun W => PB W b P ∧ W.heap[w.heap.size]? = some (.cells #[.int .i64 c, .int .i64 d, .int .i64 (k : Int), .int .i64 (r : Int)] 88 (0, 0)) ∧ W.heap[w.heap.size + 1 + 1]? = some (.cells #[.int .i64 6, .int .i64 d] 25 (0, 0)) ∧ W.heap[w.heap.size + 1]? = some (.cells #[.int .i64 4, .int .i64 d] 25 (0, 0)) ∧ Below w.heap.size w W)
      (let h := three_drew HP.out _ _ _; ⟨h.1, h.2.1, h.2.2.2.1, h.2.2.1, h.2.2.2.2⟩) ?_
    rintro W ⟨hp, hc, hkb, hrb, hbw⟩
    have HB := Lib.hid hbw
    have u1 := cell_regrown (row4 hc).1
    have u2 := cell_regrown (row4 hc).2.1
    have u3 := cell_regrown (row4 hc).2.2
    have v1 := cell_regrown (row2 hkb).1
    have v2 := cell_regrown (row2 hkb).2.1
    have v3 := cell_regrown (row2 hrb).1
    have v4 := cell_regrown (row2 hrb).2.1
    have y1 := cell_regrown (hp.cell (k * 2) (by omega))
    have y2 := cell_regrown (hp.cell (k * 2 + 1) (by omega))
    have y3 := cell_regrown (hp.cell (r * 2) (by omega))
    have y4 := cell_regrown (hp.cell (r * 2 + 1) (by omega))
    clear hp hc hkb hrb hbw HP
    generalize P (k * 2) = x1 at *
    generalize P (k * 2 + 1) = x2 at *
    generalize P (r * 2) = x3 at *
    generalize P (r * 2 + 1) = x4 at *
    cases a
    all_goals
      refine wp_region_quiet_below (by kernel_rfl) (by kernel_rfl) ?_
      repeat (first | go_big_quiet_step (fail) | quiet_step (fail))
      refine wpQuiet_nil ?_
      rintro W4 ⟨q, rfl⟩
      go_wp2
      go_ret
      exact ⟨q_b (by rw [HV.out]; first | rfl | simp), HB.out.trans ((below_regrown W q.d q.os).mono HB.out.size)⟩
end Go.Proofs.YtldepimkbnodpaaDoor
