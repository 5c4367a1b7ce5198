/-
  Merged: Br, Bs.
-/
import Derived.Test.YtlfapakllhhadaaDoorG6

namespace Go.Proofs.YtlfapakllhhadaaDoor
open Go.RowKit Go.Sort
set_option linter.unusedSimpArgs false
set_option linter.unusedVariables false

set_option maxHeartbeats 1000000 in
theorem counts_any (b : Nat) (P : Nat → Int) (w : World) (hp : PB w b P) :
    Calls Tryd.prog 78 #[.pointer (some ⟨b, 0, none⟩)] w fun e w' => e = .returned (.bool (cntB (P 131) (P 132))) ∧ w = w' := by
  have e1 := hp.cell 131 (by omega)
  have e2 := hp.cell 132 (by omega)
  clear hp
  generalize P 131 = hf at *
  generalize P 132 = fu at *
  rcases cnt_cases hf fu with ⟨h1, hc⟩ | ⟨h1, h2, hc⟩ | ⟨h1, h2, h3, hc⟩ | ⟨h1, h2, h3, h4, hc⟩ | ⟨h1, h2, h3, h4, hc⟩
  all_goals
    rw [hc]
    clear hc
    go_enter Tryd.func78, Tryd.ntmps78
    go_wp2
    go_ret
    exact ⟨q_b (by first | rfl | (simp; done) | (simp; omega)), rfl⟩
theorem row4 {W : World} {H : Nat} {a b c d : Value} {t : TypeId} (h : W.heap[H]? = some (.cells #[a, b, c, d] t (0, 0))) :
    W.cell? ⟨H, 1, none⟩ = some b ∧ W.cell? ⟨H, 2, none⟩ = some c ∧ W.cell? ⟨H, 3, none⟩ = some d :=
  ⟨by rw [cell_of_row W H 1 _ _ (0, 0) h]; rfl, by rw [cell_of_row W H 2 _ _ (0, 0) h]; rfl, by rw [cell_of_row W H 3 _ _ (0, 0) h]; rfl⟩
theorem three_drew {w : World} {b : Nat} {P : Nat → Int} (h : PB w b P) (o1 o2 o3 : Obj) :
    PB (((w.alloc o1).alloc o2).alloc o3).drew b P ∧ (((w.alloc o1).alloc o2).alloc o3).drew.heap[w.heap.size]? = some o1 ∧ (((w.alloc o1).alloc o2).alloc o3).drew.heap[w.heap.size + 1]? = some o2 ∧
      (((w.alloc o1).alloc o2).alloc o3).drew.heap[w.heap.size + 1 + 1]? = some o3 ∧ Below w.heap.size w (((w.alloc o1).alloc o2).alloc o3).drew :=
  ⟨(((h.alloc _).alloc _).alloc _).drew, (three_at w o1 o2 o3).1, (three_at w o1 o2 o3).2.1, (three_at w o1 o2 o3).2.2.1, (three_at w o1 o2 o3).2.2.2.1.drew⟩
set_option maxHeartbeats 1000000 in
theorem waits_any (b : Nat) (P : Nat → Int) (c d : Int) (k r : Nat) (hk : k < 64) (hr : r < 64) (w : World) (hp : PB w b P) :
    Calls Tryd.prog 105 #[.pointer (some ⟨b, 0, none⟩), .agg #[.int .i64 c, .int .i64 d, .int .i64 (k : Int), .int .i64 (r : Int)]] w fun e w' => e = .returned (.bool (homeB P d k r)) ∧ Below w.heap.size w w' := by
  have HP := Lib.hid hp
  obtain ⟨a, ha⟩ : ∃ a, pe (P (k * 2)) (P (k * 2 + 1)) 6 d = a := ⟨_, rfl⟩
  obtain ⟨e, he⟩ : ∃ e, pe (P (r * 2)) (P (r * 2 + 1)) 4 d = e := ⟨_, rfl⟩
  have HV := Lib.hid (show homeB P d k r = (a && e) by unfold homeB; rw [Nat.mul_comm 2 k, Nat.mul_comm 2 r, ha, he])
  have k0 : (0 : Int) ≤ k := by omega
  have k1 : (k : Int) < 64 := by omega
  have r0 : (0 : Int) ≤ r := by omega
  have r1 : (r : Int) < 64 := by omega
  clear hp
  go_enter Tryd.func105, Tryd.ntmps105
  go_upto_region 1 with (fail)
  go_region
  · go_upto_region 2 with (fail)
    refine forget_B (fun W => PB W b P ∧ W.heap[w.heap.size]? = some (.cells #[.int .i64 c, .int .i64 d, .int .i64 (k : Int), .int .i64 (r : Int)] 115 (0, 0)) ∧ W.heap[w.heap.size + 1]? = some (.cells #[.int .i64 6, .int .i64 d] 25 (0, 0)) ∧ W.heap[w.heap.size + 1 + 1]? = some (.cells #[.int .i64 4, .int .i64 d] 25 (0, 0)) ∧ Below w.heap.size w W)
      (let h := three_drew HP.out _ _ _; ⟨h.1, h.2.1, h.2.2.1, h.2.2.2.1, h.2.2.2.2⟩) ?_
    rintro W ⟨hp, hc, hkb, hrb, hbw⟩
    have HB := Lib.hid hbw
    have u1 := cell_regrown (row4 hc).1
    have u2 := cell_regrown (row4 hc).2.1
    have u3 := cell_regrown (row4 hc).2.2
    have v1 := cell_regrown (row2 hkb).1
    have v2 := cell_regrown (row2 hkb).2.1
    have v3 := cell_regrown (row2 hrb).1
    have v4 := cell_regrown (row2 hrb).2.1
    have y1 := cell_regrown (hp.cell (k * 2) (by omega))
    have y2 := cell_regrown (hp.cell (k * 2 + 1) (by omega))
    have y3 := cell_regrown (hp.cell (r * 2) (by omega))
    have y4 := cell_regrown (hp.cell (r * 2 + 1) (by omega))
    clear hp hc hkb hrb hbw HP
    generalize P (k * 2) = x1 at *
    generalize P (k * 2 + 1) = x2 at *
    generalize P (r * 2) = x3 at *
    generalize P (r * 2 + 1) = x4 at *
    cases a
    all_goals
      refine wp_region_quiet_below (by kernel_rfl) (by kernel_rfl) ?_
      repeat (first | go_big_quiet_step (fail) | quiet_step (fail))
      refine wpQuiet_nil ?_
      rintro W4 ⟨q, rfl⟩
      go_wp2
      go_ret
      exact ⟨q_b (by rw [HV.out]; first | rfl | simp), HB.out.trans ((below_regrown W q.d q.os).mono HB.out.size)⟩
  · go_upto_region 2 with (fail)
    refine forget_B (fun W => PB W b P ∧ W.heap[w.heap.size]? = some (.cells #[.int .i64 c, .int .i64 d, .int .i64 (k : Int), .int .i64 (r : Int)] 115 (0, 0)) ∧ W.heap[w.heap.size + 1 + 1]? = some (.cells #[.int .i64 6, .int .i64 d] 25 (0, 0)) ∧ W.heap[w.heap.size + 1]? = some (.cells #[.int .i64 4, .int .i64 d] 25 (0, 0)) ∧ Below w.heap.size w W)
      (let h := three_drew HP.out _ _ _; ⟨h.1, h.2.1, h.2.2.2.1, h.2.2.1, h.2.2.2.2⟩) ?_
    rintro W ⟨hp, hc, hkb, hrb, hbw⟩
    have HB := Lib.hid hbw
    have u1 := cell_regrown (row4 hc).1
    have u2 := cell_regrown (row4 hc).2.1
    have u3 := cell_regrown (row4 hc).2.2
    have v1 := cell_regrown (row2 hkb).1
    have v2 := cell_regrown (row2 hkb).2.1
    have v3 := cell_regrown (row2 hrb).1
    have v4 := cell_regrown (row2 hrb).2.1
    have y1 := cell_regrown (hp.cell (k * 2) (by omega))
    have y2 := cell_regrown (hp.cell (k * 2 + 1) (by omega))
    have y3 := cell_regrown (hp.cell (r * 2) (by omega))
    have y4 := cell_regrown (hp.cell (r * 2 + 1) (by omega))
    clear hp hc hkb hrb hbw HP
    generalize P (k * 2) = x1 at *
    generalize P (k * 2 + 1) = x2 at *
    generalize P (r * 2) = x3 at *
    generalize P (r * 2 + 1) = x4 at *
    cases a
    all_goals
      refine wp_region_quiet_below (by kernel_rfl) (by kernel_rfl) ?_
      repeat (first | go_big_quiet_step (fail) | quiet_step (fail))
      refine wpQuiet_nil ?_
      rintro W4 ⟨q, rfl⟩
      go_wp2
      go_ret
      exact ⟨q_b (by rw [HV.out]; first | rfl | simp), HB.out.trans ((below_regrown W q.d q.os).mono HB.out.size)⟩
end Go.Proofs.YtlfapakllhhadaaDoor

namespace Go.Proofs.YtlfapakllhhadaaDoor
open Go.RowKit Go.Sort
set_option linter.unusedSimpArgs false
set_option linter.unusedVariables false

/-- the squares of a position are loaded, in a region that does not draw -/
theorem wpList_sqs {ops : Array Oper} {rest : List Oper} {op : Oper} {a : Act} {w : World} {Q : Exit → Act → World → Prop} (hw : Region.wanted op (yielded ops a.tmps) = true) (x : Operand) (ho : op.op = .load 26 x)
    (b : Nat) (P : Nat → Int) (Z : Array Value) (hZ : Z = (nums P 0 128).toArray) (hx : a.eval x = .pointer (some ⟨b, 0, none⟩)) (hc : PB w b P) (h : wpList Tryd.prog ops Q rest (a.put op.dst (.agg Z)) w) : wpList Tryd.prog ops Q (op :: rest) a w := by
  subst hZ
  exact BigFrame.wpList_want hw fun _ hK => wp_load_mid 26 x ho b 0 hx (nums P 0 128) _ hc.squares Tryd.underlying26 rfl (by rw [infoSqs, nums_len]) (hK _ _ h)
theorem index_two (x y : Int) (j : Nat) (hj : j < 2) (w : World) : (part 3 #[.int .i64 x, .int .i64 y] j).run Tryd.prog w = .ok (.int .i64 (if j = 0 then x else y)) w := by
  rcases (show j = 0 ∨ j = 1 by omega) with rfl | rfl <;> simp [part, isAgg, run_underlying Tryd.underlying3]
theorem infoInt1 : (Tryd.prog.info? 3).map (·.size) = some 1 := by kernel_rfl
theorem equal_two (x y u v : Int) (n : Nat) (w : World) : (Op.equalIn (n + 2) 113 (.agg #[.int .i64 x, .int .i64 y]) (.agg #[.int .i64 u, .int .i64 v])).run Tryd.prog w = .ok (x == u && y == v) w := by
  have e1 : ∀ a b : Int, (Op.equalIn (n + 1) 3 (.int .i64 a) (.int .i64 b)).run Tryd.prog w = .ok (a == b) w := fun a b => run_equalIn_int w n 3 .i64 .i64 a b Tryd.underlying3
  rw [Op.equalIn]
  simp only [Sem.run_bind, run_underlying Tryd.underlying113, Result.andThen_ok, size_of_info infoInt1, Std.Legacy.Range.forIn_eq_forIn_range', Std.Legacy.Range.size, Nat.sub_zero, Nat.add_sub_cancel, Nat.div_one]
  have h0 := index_two x y 0 (by omega) w
  have h1 := index_two x y 1 (by omega) w
  have g0 := index_two u v 0 (by omega) w
  have g1 := index_two u v 1 (by omega) w
  simp only [if_true, show ¬ (1 = 0) by omega, if_false] at h0 h1 g0 g1
  cases hx : x == u <;> cases hy : y == v <;> simp [List.range', h0, h1, g0, g1, e1, hx, hy]
@[go_sem high] theorem eql_two (x y u v : Int) (w : World) : (binOp .eql 113 (.agg #[.int .i64 x, .int .i64 y]) (.agg #[.int .i64 u, .int .i64 v])).run Tryd.prog w = .ok (.bool (x == u && y == v)) w := by
  have e := equal_two x y u v 9998 w
  rw [run_eql_struct, e]; rfl
/-- what stands in the checker's walk: the position, the count of kings -/
structure PKb (w W : World) (blk : Nat) (P : Nat → Int) (j : Nat) : Prop where
  p : PB W blk P
  x : W.heap[w.heap.size]? = some (.cells #[.int .i64 (cnt P 0 j : Nat), .int .i64 (cnt P 1 j : Nat)] 113 (0, 0))
  b : Below w.heap.size w W
  s : w.heap.size + 1 ≤ W.heap.size
  n : blk < w.heap.size
theorem PKb.go {w W W' : World} {b : Nat} {P : Nat → Int} {j : Nat} (h : PKb w W b P j) (g : Below W.heap.size W W') : PKb w W' b P j :=
  ⟨h.p.go g, sl_go h.x g, h.b.trans (g.mono h.b.size), Nat.le_trans h.s g.size, h.n⟩
theorem PKb.alloc {w W : World} {b : Nat} {P : Nat → Int} {j : Nat} (h : PKb w W b P j) (o : Obj) : PKb w (W.alloc o) b P j := h.go (below_new _)
theorem PKb.same {w W : World} {b : Nat} {P : Nat → Int} {j : Nat} (h : PKb w W b P j) (h0 : cnt P 0 (j + 1) = cnt P 0 j) (h1 : cnt P 1 (j + 1) = cnt P 1 j) : PKb w W b P (j + 1) :=
  ⟨h.p, by rw [h0, h1]; exact h.x, h.b, h.s, h.n⟩
theorem PKb.up0 {w W : World} {b : Nat} {P : Nat → Int} {j : Nat} (h : PKb w W b P j) (h0 : cnt P 0 (j + 1) = cnt P 0 j + 1) (h1 : cnt P 1 (j + 1) = cnt P 1 j) : PKb w (W.setCell ⟨w.heap.size, 0, none⟩ (.int .i64 ((cnt P 0 j : Nat) + 1))) b P (j + 1) :=
  ⟨h.p.other (by have := h.n; omega) _ _, by have := Go.heap_setCell_same W (w.heap.size) 0 _ _ (.int .i64 ((cnt P 0 j : Nat) + 1)) h.x; rw [h0, h1]; exact this, h.b.setCell (p := ⟨w.heap.size, 0, none⟩) (by simp) _, by rw [World.size_setCell]; exact h.s, h.n⟩
theorem PKb.up1 {w W : World} {b : Nat} {P : Nat → Int} {j : Nat} (h : PKb w W b P j) (h0 : cnt P 0 (j + 1) = cnt P 0 j) (h1 : cnt P 1 (j + 1) = cnt P 1 j + 1) : PKb w (W.setCell ⟨w.heap.size, 1, none⟩ (.int .i64 ((cnt P 1 j : Nat) + 1))) b P (j + 1) :=
  ⟨h.p.other (by have := h.n; omega) _ _, by have := Go.heap_setCell_same W (w.heap.size) 1 _ _ (.int .i64 ((cnt P 1 j : Nat) + 1)) h.x; rw [h0, h1]; exact this, h.b.setCell (p := ⟨w.heap.size, 1, none⟩) (by simp) _, by rw [World.size_setCell]; exact h.s, h.n⟩
theorem one_eq (n : Nat) : ((n : Int) == 1) = (n == 1) := by
  rw [Bool.eq_iff_iff]; simp; omega
theorem on_end (j : Nat) (hj : j < 64) : (sR (j : Int) == 0 || sR (j : Int) == 7) = (decide (j < 8) || decide (56 ≤ j)) := by
  have hs : sR (j : Int) = (j : Int) / 8 := by unfold sR; rw [if_pos ((sq_iff _).2 (by omega))]
  rw [hs]
  by_cases h1 : j < 8
  · have : (j : Int) / 8 = 0 := by omega
    rw [this]; simp [h1]
  · by_cases h2 : 56 ≤ j
    · have : (j : Int) / 8 = 7 := by omega
      rw [this]; simp [h2]
    · have h3 : ¬ (j : Int) / 8 = 0 := by omega
      have h4 : ¬ (j : Int) / 8 = 7 := by omega
      simp [h1, h2, h3, h4]
set_option maxHeartbeats 2000000 in
set_option maxRecDepth 100000 in
theorem pieces_any (b : Nat) (P : Nat → Int) (w : World) (hp : PB w b P) :
    Calls Tryd.prog 75 #[.pointer (some ⟨b, 0, none⟩)] w fun e w' => e = .returned (.bool (piecesB P)) ∧ Below w.heap.size w w' := by
  have HK0 := Lib.hid (show PKb w (w.alloc (.cells #[.int .i64 0, .int .i64 0] 113)) b P 0 from ⟨hp.alloc _, sl_at rfl, below_new _, by simp, hp.lt⟩)
  obtain ⟨Z, hZ⟩ : ∃ Z, Z = (nums P 0 128).toArray := ⟨_, rfl⟩
  have HIX := Lib.hid (show ∀ (j : Nat) (hj : j < 64) (W : World), (Instr.index 26 (.agg Z) (.int .i64 (j : Int))).run Tryd.prog W = .ok (.agg #[.int .i64 (P (j * 2)), .int .i64 (P (j * 2 + 1))]) W from fun j hj W => by
    rw [Nat.mul_comm, hZ]; exact index_sqs P j hj W)
  have HZ := Lib.hid hZ
  clear hZ hp
  go_enter Tryd.func75, Tryd.ntmps75
  go_upto_region 2 with (fail)
  refine forget_B (fun W => PKb w W b P 0) HK0.out ?_
  clear HK0
  intro W h1
  have H1 := Lib.hid h1
  clear h1
  go_wp2_with (refine wpList_sqs (by rfl) _ (by rfl) b P Z HZ.out (by rfl) H1.out.p ?_)
  go_loopw [11] (fun i wr => ∃ j : Nat, j ≤ 64 ∧ i = .int .i64 (j : Int) ∧ PKb w wr b P j ∧ okS P j = true) (fun i _ => 64 - (intOf i).toNat)
  case atStart => exact ⟨0, Nat.zero_le _, rfl, H1.out, rfl⟩
  case round =>
    clear H1
    obtain ⟨j, hj, rfl, h1, h2⟩ := hrel
    have H1 := Lib.hid h1
    have H2 := Lib.hid h2
    clear h1 h2
    by_cases hlt : j < 64
    · have hix := HIX.out j hlt
      have hbd : badP P j = (!(pe (P (2 * j)) (P (2 * j + 1)) 0 0) && (!(mayB (P (2 * j)) (P (2 * j + 1))) || (P (2 * j) == 1 && (decide (j < 8) || decide (56 ≤ j))))) := rfl
      have hc0 : cnt P 0 (j + 1) = cnt P 0 j + if pe (P (2 * j)) (P (2 * j + 1)) 6 0 then 1 else 0 := rfl
      have hc1 : cnt P 1 (j + 1) = cnt P 1 j + if pe (P (2 * j)) (P (2 * j + 1)) 6 1 then 1 else 0 := rfl
      obtain ⟨k, hk⟩ : ∃ k, P (j * 2) = k := ⟨_, rfl⟩
      obtain ⟨d, hd⟩ : ∃ d, P (j * 2 + 1) = d := ⟨_, rfl⟩
      rw [Nat.mul_comm 2 j, hk, hd] at hbd hc0 hc1
      rw [hk, hd] at hix
      have HB := Lib.hid hbd
      have HC0 := Lib.hid hc0
      have HC1 := Lib.hid hc1
      have HON := Lib.hid (on_end j hlt)
      clear hk hd hbd hc0 hc1
      have hcl0 := cnt_le P 0 j
      have hcl1 := cnt_le P 1 j
      go_upto_region 5 with (fail)
      refine forget_B (fun W => PKb w W b P j ∧ W.heap[wr.heap.size]? = some (.cells #[.int .i64 k, .int .i64 d] 25 (0, 0)) ∧ w.heap.size + 1 ≤ wr.heap.size) ⟨H1.out.alloc _, sl_at rfl, H1.out.s⟩ ?_
      clear H1 hix
      rintro W3 ⟨h1, h2, h3⟩
      obtain ⟨q1, q2, qf, qz⟩ := row2 h2
      have H1 := Lib.hid h1
      have HQ := Lib.hid h2
      have HZZ := Lib.hid h3
      clear h1 h2 h3
      obtain ⟨a, ha⟩ : ∃ a, pe k d 0 0 = a := ⟨_, rfl⟩
      have HA := Lib.hid ha
      obtain ⟨m, hm⟩ : ∃ m, mayB k d = m := ⟨_, rfl⟩
      have HBM := Lib.hid hm
      have hsp := sq_parts k d j
      rw [ha, hm] at hsp
      clear ha hm
      go_wp2_with fail
      refine (none_any k d _).mono ?_
      rw [HA.out]
      rintro e w4 ⟨rfl, hb4⟩
      clear q1 q2 qf qz
      have h1 := H1.out.go hb4
      have h2 := sl_go HQ.out hb4
      clear H1 HQ hb4
      obtain ⟨q1, q2, qf, qz⟩ := row2 h2
      have H1 := Lib.hid h1
      have HQ := Lib.hid h2
      clear h1 h2
      rcases hsp with ⟨rfl, rfl⟩ | ⟨rfl, rfl⟩ | ⟨rfl, rfl, hsp⟩
      · have ha : a = true := by rw [← HA.out]; rfl
        subst ha
        have HS := Lib.hid (show okS P (j + 1) = true by show (okS P j && !(badP P j)) = true; rw [H2.out, HB.out]; rfl)
        have HXX := Lib.hid (H1.out.same HC0.out HC1.out)
        go_wp2
        go_roundw
        case rel => exact ⟨j + 1, by omega, by go_num, HXX.out, HS.out⟩
        case measure => simp [intOf]; omega
      · have HBD := Lib.hid (show badP P j = true by rw [HB.out, HA.out, HBM.out]; rfl)
        have HF := Lib.hid (show piecesB P = false by unfold piecesB; rw [okS_false P hlt HBD.out]; rfl)
        go_wp2_with fail
        refine (mayBe_any k d _).mono ?_
        rw [HBM.out]
        rintro e w5 ⟨rfl, hb5⟩
        go_wp2
        go_ret
        exact ⟨q_b HF.out.symm, H1.out.b.trans (hb5.mono H1.out.b.size)⟩
      · go_wp2_with fail
        refine (mayBe_any k d _).mono ?_
        rw [HBM.out]
        rintro e w5 ⟨rfl, hb5⟩
        clear q1 q2 qf qz
        have h1 := H1.out.go hb5
        have h2 := sl_go HQ.out hb5
        clear H1 HQ hb5
        obtain ⟨q1, q2, qf, qz⟩ := row2 h2
        have H1 := Lib.hid h1
        have HQ := Lib.hid h2
        clear h1 h2
        obtain ⟨x1, x2, xf, xz⟩ := row2 H1.out.x
        rcases hsp with ⟨rfl, hj8⟩ | ⟨rfl, rfl | rfl⟩ | ⟨hn1, hn6⟩
        · obtain ⟨eb, heb⟩ : ∃ e, (decide (j < 8) || decide (56 ≤ j)) = e := ⟨_, rfl⟩
          rw [heb] at HON HB
          have HBD := Lib.hid (show badP P j = eb by rw [HB.out, HA.out, HBM.out]; simp)
          clear heb hj8
          go_wp2_with fail
          refine (onEnd_any (j : Int) _).mono ?_
          rw [HON.out]
          rintro e w6 ⟨rfl, hb6⟩
          clear q1 q2 qf qz x1 x2 xf xz
          have h1 := H1.out.go hb6
          have h2 := sl_go HQ.out hb6
          clear H1 HQ hb6
          obtain ⟨q1, q2, qf, qz⟩ := row2 h2
          have H1 := Lib.hid h1
          clear h1 h2
          cases eb
          · have HS := Lib.hid (show okS P (j + 1) = true by show (okS P j && !(badP P j)) = true; rw [H2.out, HBD.out]; rfl)
            have HXX := Lib.hid (H1.out.same HC0.out HC1.out)
            go_wp2
            go_roundw
            case rel => exact ⟨j + 1, by omega, by go_num, HXX.out, HS.out⟩
            case measure => simp [intOf]; omega
          · have HF := Lib.hid (show piecesB P = false by unfold piecesB; rw [okS_false P hlt HBD.out]; rfl)
            go_wp2
            go_ret
            exact ⟨q_b HF.out.symm, H1.out.b⟩
        · have HBD := Lib.hid (show badP P j = false by rw [HB.out, HA.out, HBM.out]; rfl)
          have HS := Lib.hid (show okS P (j + 1) = true by show (okS P j && !(badP P j)) = true; rw [H2.out, HBD.out]; rfl)
          have HXX := Lib.hid (H1.out.up0 HC0.out HC1.out)
          generalize cnt P 0 j = n0 at *
          go_wp2
          go_roundw
          case rel => exact ⟨j + 1, by omega, by go_num, HXX.out, HS.out⟩
          case measure => simp [intOf]; omega
        · have HBD := Lib.hid (show badP P j = false by rw [HB.out, HA.out, HBM.out]; rfl)
          have HS := Lib.hid (show okS P (j + 1) = true by show (okS P j && !(badP P j)) = true; rw [H2.out, HBD.out]; rfl)
          have HXX := Lib.hid (H1.out.up1 HC0.out HC1.out)
          generalize cnt P 1 j = n1 at *
          go_wp2
          go_roundw
          case rel => exact ⟨j + 1, by omega, by go_num, HXX.out, HS.out⟩
          case measure => simp [intOf]; omega
        · have HBD := Lib.hid (show badP P j = false by rw [HB.out, HA.out, HBM.out, hn1]; rfl)
          have HS := Lib.hid (show okS P (j + 1) = true by show (okS P j && !(badP P j)) = true; rw [H2.out, HBD.out]; rfl)
          have hk6 : ∀ x, pe k d 6 x = false := fun x => by unfold pe; rw [hn6]; rfl
          have HXX := Lib.hid (H1.out.same (by rw [HC0.out, hk6]; rfl) (by rw [HC1.out, hk6]; rfl))
          clear hk6
          go_wp2
          go_roundw
          case rel => exact ⟨j + 1, by omega, by go_num, HXX.out, HS.out⟩
          case measure => simp [intOf]; omega
    · obtain rfl : j = 64 := by omega
      have hpb : piecesB P = ((cnt P 0 64 == 1) && (cnt P 1 64 == 1) && sideB (P 128)) := by unfold piecesB; rw [H2.out]; simp
      obtain ⟨x1, x2, xf, xz⟩ := row2 H1.out.x
      have e3 := H1.out.p.cell 128 (by omega)
      have c0 := cnt_le P 0 64
      have c1 := cnt_le P 1 64
      generalize cnt P 0 64 = n0 at *
      generalize cnt P 1 64 = n1 at *
      generalize P 128 = sd at *
      have HPB := Lib.hid hpb
      clear hpb
      obtain ⟨q0, hq0⟩ : ∃ q, ((n0 : Int) == 1) = q := ⟨_, rfl⟩
      obtain ⟨q1, hq1⟩ : ∃ q, ((n1 : Int) == 1) = q := ⟨_, rfl⟩
      have HQ0 := Lib.hid (show (n0 == 1) = q0 by rw [← hq0]; exact (one_eq n0).symm)
      have HQ1 := Lib.hid (show (n1 == 1) = q1 by rw [← hq1]; exact (one_eq n1).symm)
      obtain ⟨sb, hsb⟩ : ∃ s, sideB sd = s := ⟨_, rfl⟩
      have HSB := Lib.hid hsb
      clear hsb
      cases q0
      · go_wp2
        go_ret
        exact ⟨q_b (by rw [HPB.out, HQ0.out]; rfl), H1.out.b⟩
      · cases q1
        · go_wp2
          go_ret
          exact ⟨q_b (by rw [HPB.out, HQ0.out, HQ1.out]; rfl), H1.out.b⟩
        · go_wp2_with fail
          refine (isSide_any sd _).mono ?_
          rw [HSB.out]
          rintro e w6 ⟨rfl, rfl⟩
          go_wp2
          go_ret
          exact ⟨q_b (by rw [HPB.out, HQ0.out, HQ1.out, HSB.out]; simp), H1.out.b⟩
end Go.Proofs.YtlfapakllhhadaaDoor
