/-
  Contracts: the document's counts.
-/
import Derived.Test.YtkdhkljnpalajaaJc
import Derived.Deep.CutBlock
namespace Go.Proofs.Ytkdhkljnpalajaa
open Go.RowKit Go.Sort
set_option linter.unusedSimpArgs false
set_option linter.unusedVariables false
set_option maxRecDepth 20000

/-- what stands while the document counts a position's pieces -/
structure RS (w W : World) (P : Nat → Int) (x : LF) : Prop where
  pos : PB W w.heap.size P
  ans : TB 34 W (w.heap.size + 1) ⟨0, 0, 0, 0⟩
  cnt : TB 34 W (w.heap.size + 2) x
  bel : Below w.heap.size w W
theorem RS.set {w W : World} {P : Nat → Int} {x : LF} (h : RS w W P x) (i : Nat) (z : Int) (y : LF) (hy : (lfA x).setIfInBounds i (.int .i64 z) = lfA y) : RS w (W.setCell ⟨w.heap.size + 2, i, none⟩ (.int .i64 z)) P y :=
  ⟨h.pos.other (by omega) i _, h.ans.other (gr1_B _) (by omega), h.cnt.set i z y hy, h.bel.setCell (p := ⟨w.heap.size + 2, i, none⟩) (by simp) _⟩
theorem addK_other {k : Int} (dk : Bool) (x : LF) (h0 : ¬ k = 0) (h6 : ¬ k = 6) (h2 : ¬ k = 2) (h3 : ¬ k = 3) : addK k dk x = ⟨x.h + 1, x.k, x.d, x.l⟩ := by
  unfold addK; rw [if_neg (by omega), if_neg h2, if_neg h3]
theorem mir_parts (j : Nat) (hj : j < 64) : (j : Int).tdiv 8 = ((j / 8 : Nat) : Int) ∧ (j : Int).tmod 8 = ((j % 8 : Nat) : Int) ∧ j / 8 < 8 ∧ j % 8 < 8 := by
  refine ⟨?_, ?_, by omega, by omega⟩
  · rw [Int.tdiv_eq_ediv_of_nonneg (by omega)]; omega
  · rw [Int.tmod_eq_emod_of_nonneg (by omega)]; omega
theorem dark_nat (j : Nat) (hj : j < 64) : dark (j : Int) = decide ((j % 8 + j / 8) % 2 = 0) := by
  unfold dark
  rw [(sq_iff (j : Int)).2 (by omega), Bool.true_and]
  congr 1
  apply propext
  omega
set_option maxHeartbeats 4000000 in
set_option maxRecDepth 100000 in
theorem rOf13_any (P : Nat → Int) (w : World) :
    Calls Try.prog 10 #[.agg (pc P).toArray] w fun e w' => e = .returned (.agg (lfA (cntD P 64))) ∧ Below w.heap.size w w' := by
  obtain ⟨X, hX⟩ : ∃ X, X = (pc P).toArray := ⟨_, rfl⟩
  rw [← hX]
  have HX := Lib.hid hX
  have hp0 := pos_box P w X hX 29
  have hw1 : Below w.heap.size w (w.alloc (.cells X 29)) := below_new _
  have hs0 : RS w (((w.alloc (.cells X 29)).alloc (.cells (lfA ⟨0, 0, 0, 0⟩) 34)).alloc (.cells (lfA ⟨0, 0, 0, 0⟩) 34)) P ⟨0, 0, 0, 0⟩ :=
    ⟨(hp0.alloc _).alloc _, sl_go (sl_at (by simp)) (below_new _), sl_at (by simp), (hw1.alloc (by simp) _).alloc (by simp; omega) _⟩
  have H0 := Lib.hid hs0
  clear hX hp0 hw1 hs0
  go_enter Try.func10, Try.ntmps10
  go_upto_region 2 with (fail)
  refine forget_B (fun W => RS w W P ⟨0, 0, 0, 0⟩) H0.out ?_
  clear H0
  intro W h2
  have H0 := Lib.hid h2
  clear h2
  go_wp2
  go_loopw [4] (fun i wr => ∃ j : Nat, j ≤ 64 ∧ i = .int .i64 (j : Int) ∧ RS w wr P (cntD P j)) (fun i _ => 64 - (intOf i).toNat)
  case atStart => exact ⟨0, Nat.zero_le _, rfl, H0.out⟩
  case round =>
    clear H0
    obtain ⟨j, hj, rfl, h1⟩ := hrel
    have H1 := Lib.hid h1
    clear h1
    by_cases hlt : j < 64
    · have HY := Lib.hid (show cntD P (j + 1) = addK (P (j * 2)) (dark (j : Int)) (cntD P j) from rfl)
      obtain ⟨⟨b1, b2⟩, ⟨b3, b4⟩, ⟨b5, b6⟩, b7, b8⟩ := (cntD_LB P j).mono (show (j : Int) ≤ 64 by omega)
      obtain ⟨x, hx⟩ : ∃ x, cntD P j = x := ⟨_, rfl⟩
      rw [hx] at H1 HY b1 b2 b3 b4 b5 b6 b7 b8
      clear hx
      have e1 := H1.out.pos.cell (j * 2) (by omega)
      obtain ⟨k, hk⟩ : ∃ k, P (j * 2) = k := ⟨_, rfl⟩
      rw [hk] at e1 HY
      clear hk
      have m0 : (0 : Int) ≤ j := by omega
      have m1 : (j : Int) < 64 := by omega
      go_upto_block 1 with fail
      go_cut [] from 9 to 43 (fun wx => RS w wx P (cntD P (j + 1)))
      case first =>
        obtain ⟨q0, q1, q2, q3, qf, qz⟩ := row4c H1.out.cnt
        have f0 := qf 0
        have f1 := qf 1
        have f2 := qf 2
        have f3 := qf 3
        clear qf qz
        by_cases c0 : k = 0
        · subst c0
          clear q0 q1 q2 q3 f0 f1 f2 f3 b1 b2 b3 b4 b5 b6 b7 b8
          have HZ := Lib.hid (show RS w wr P (cntD P (j + 1)) by rw [HY.out]; exact H1.out)
          go_wp2
          go_meet
          exact HZ.out
        by_cases c6 : k = 6
        · subst c6
          clear q0 q1 q2 q3 f0 f1 f2 f3 b1 b2 b3 b4 b5 b6 b7 b8
          have HZ := Lib.hid (show RS w wr P (cntD P (j + 1)) by rw [HY.out]; exact H1.out)
          go_wp2
          go_meet
          exact HZ.out
        by_cases c2 : k = 2
        · subst c2
          clear q0 q2 q3 f0 f2 f3 b1 b2 b5 b6 b7 b8 c0 c6
          have HZ := Lib.hid (show RS w (wr.setCell ⟨w.heap.size + 2, 1, none⟩ (.int .i64 (x.k + 1))) P (cntD P (j + 1)) by rw [HY.out]; exact H1.out.set 1 _ _ rfl)
          clear HY H1
          go_wp2
          go_meet
          exact HZ.out
        by_cases c3 : k = 3
        · subst c3
          clear q0 q1 f0 f1 b1 b2 b3 b4 c0 c6 c2
          rw [dark_nat j hlt] at HY
          obtain ⟨hq, hr, ha, hb⟩ := mir_parts j hlt
          generalize j / 8 = qa at hq ha HY
          generalize j % 8 = qb at hr hb HY
          rcases (show (qb + qa) % 2 = 0 ∨ (qb + qa) % 2 = 1 by omega) with hp | hp
          · have ht : (((qb : Nat) : Int) + ((qa : Nat) : Int)).tmod 2 = 0 := by rw [Int.tmod_eq_emod_of_nonneg (by omega)]; omega
            have HZ := Lib.hid (show RS w (wr.setCell ⟨w.heap.size + 2, 2, none⟩ (.int .i64 (x.d + 1))) P (cntD P (j + 1)) by rw [HY.out, hp]; exact H1.out.set 2 _ _ rfl)
            clear HY H1 q3 f3 b7 b8 hp
            go_wp2
            go_meet
            exact HZ.out
          · have ht : (((qb : Nat) : Int) + ((qa : Nat) : Int)).tmod 2 = 1 := by rw [Int.tmod_eq_emod_of_nonneg (by omega)]; omega
            have HZ := Lib.hid (show RS w (wr.setCell ⟨w.heap.size + 2, 3, none⟩ (.int .i64 (x.l + 1))) P (cntD P (j + 1)) by rw [HY.out, hp]; exact H1.out.set 3 _ _ rfl)
            clear HY H1 q2 f2 b5 b6 hp
            go_wp2
            go_meet
            exact HZ.out
        · have HZ := Lib.hid (show RS w (wr.setCell ⟨w.heap.size + 2, 0, none⟩ (.int .i64 (x.h + 1))) P (cntD P (j + 1)) by rw [HY.out, addK_other _ x c0 c6 c2 c3]; exact H1.out.set 0 _ _ rfl)
          clear HY H1 q1 q2 q3 f1 f2 f3 b3 b4 b5 b6 b7 b8
          go_wp2
          go_meet
          exact HZ.out
      case rest =>
        replace H1 := Lib.hid hcut
        clear HY e1 b1 b2 b3 b4 b5 b6 b7 b8
        go_wp2
        go_roundw
        case rel => exact ⟨j + 1, by omega, by go_num, H1.out⟩
        case measure => simp [intOf]; omega
    · obtain rfl : j = 64 := by omega
      obtain ⟨y, hy⟩ : ∃ y, cntD P 64 = y := ⟨_, rfl⟩
      rw [hy] at H1
      have HY := Lib.hid hy
      clear hy
      obtain ⟨e0, e1, e2, e3, ef, ez⟩ := row4c H1.out.cnt
      obtain ⟨r0, r1, r2, r3, rf, rz⟩ := row4c H1.out.ans
      have f0 := rf 0
      have f1 := rf 1
      have f2 := rf 2
      have f3 := rf 3
      clear ef rf ez rz
      go_wp2
      refine bodyPost_ret (v := .agg (lfA y)) ?_ rfl ⟨by rw [HY.out], below_put4 _ _ _ _ H1.out.bel (by omega)⟩
      exact results_cell_row (p := 2) (ty := 34) rfl _ _ (w.heap.size + 1) 34 _ (0, 0) _ rfl (put4c _ _ _ _ H1.out.ans) Try.underlying34 rfl infoRft
/-- what stands while the document adds a row -/
structure RA (w W : World) (x : LF) : Prop where
  cnt : TB 34 W w.heap.size x
  ans : TB 34 W (w.heap.size + 1) ⟨0, 0, 0, 0⟩
  bel : Below w.heap.size w W
theorem RA.set {w W : World} {x : LF} (h : RA w W x) (i : Nat) (z : Int) (y : LF) (hy : (lfA x).setIfInBounds i (.int .i64 z) = lfA y) : RA w (W.setCell ⟨w.heap.size, i, none⟩ (.int .i64 z)) y :=
  ⟨h.cnt.set i z y hy, h.ans.other (gr1_B _) (by omega), h.bel.setCell (p := ⟨w.heap.size, i, none⟩) (by simp) _⟩
set_option maxHeartbeats 4000000 in
set_option maxRecDepth 100000 in
theorem rAdd13_any (x : LF) (B : Nat) (p : Option Addr) (n c : Nat) (f : Nat → Int) (w : World) (hx : LB x 2305843009213693952) (hn : n ≤ 1152921504606846976) (hp : Reads B w p n (fun i => .int .i64 (f i))) (hB : B ≤ w.heap.size) :
    Calls Try.prog 15 #[.agg (lfA x), .slice p n c] w fun e w' => e = .returned (.agg (lfA (addL f n x))) ∧ Below w.heap.size w w' := by
  have HP := Lib.hid (fun W (hb : Below w.heap.size w W) => hp.below (hb.mono hB))
  have HL := Lib.hid (fun k (hk : k ≤ n) => (addL_LB f x _ hx k).mono (show (2305843009213693952 : Int) + k ≤ 4611686018427387904 by omega))
  clear hx hp hB
  have hw1 : Below w.heap.size w (w.alloc (.cells (lfA x) 34)) := below_new _
  have H0 := Lib.hid (show RA w ((w.alloc (.cells (lfA x) 34)).alloc (.cells (lfA ⟨0, 0, 0, 0⟩) 34)) x from
    ⟨sl_go (sl_at rfl) (below_new _), sl_at (by simp), hw1.alloc (by simp) _⟩)
  clear hw1
  go_enter Try.func15, Try.ntmps15
  go_upto_region 1 with (fail)
  refine forget_B (fun W => RA w W x) H0.out ?_
  clear H0
  intro W h2
  have H0 := Lib.hid h2
  clear h2
  go_wp2
  go_loopw [5] (fun i wr => ∃ j : Nat, j ≤ n ∧ i = .int .i64 (j : Int) ∧ RA w wr (addL f j x)) (fun i _ => n - (intOf i).toNat)
  case atStart => exact ⟨0, Nat.zero_le _, rfl, H0.out⟩
  case round =>
    clear H0
    obtain ⟨j, hj, rfl, h1⟩ := hrel
    have H1 := Lib.hid h1
    clear h1
    by_cases hlt : j < n
    · have HY := Lib.hid (show addL f (j + 1) x = addK (f j) (decide ((addL f j x).d ≤ (addL f j x).l)) (addL f j x) from rfl)
      obtain ⟨⟨b1, b2⟩, ⟨b3, b4⟩, ⟨b5, b6⟩, b7, b8⟩ := HL.out j hj
      obtain ⟨y, hy⟩ : ∃ y, addL f j x = y := ⟨_, rfl⟩
      rw [hy] at H1 HY b1 b2 b3 b4 b5 b6 b7 b8
      clear hy
      rcases HP.out _ H1.out.bel with h0 | ⟨b, off, rfl, hb', hcell⟩
      · omega
      have hce : wr.cell? ⟨b, off + j, none⟩ = some (.int .i64 (f j)) := hcell j hlt
      clear hcell hb'
      obtain ⟨k, hk⟩ : ∃ k, f j = k := ⟨_, rfl⟩
      rw [hk] at hce HY
      clear hk
      go_upto_block 1 with fail
      go_cut [] from 12 to 43 (fun wx => RA w wx (addL f (j + 1) x))
      case first =>
        obtain ⟨q0, q1, q2, q3, qf, qz⟩ := row4c H1.out.cnt
        have f0 := qf 0
        have f1 := qf 1
        have f2 := qf 2
        have f3 := qf 3
        clear qf qz
        by_cases c0 : k = 0
        · subst c0
          clear q0 q1 q2 q3 f0 f1 f2 f3 b1 b2 b3 b4 b5 b6 b7 b8
          have HZ := Lib.hid (show RA w wr (addL f (j + 1) x) by rw [HY.out]; exact H1.out)
          go_wp2
          go_meet
          exact HZ.out
        by_cases c6 : k = 6
        · subst c6
          clear q0 q1 q2 q3 f0 f1 f2 f3 b1 b2 b3 b4 b5 b6 b7 b8
          have HZ := Lib.hid (show RA w wr (addL f (j + 1) x) by rw [HY.out]; exact H1.out)
          go_wp2
          go_meet
          exact HZ.out
        by_cases c2 : k = 2
        · subst c2
          clear q0 q2 q3 f0 f2 f3 b1 b2 b5 b6 b7 b8 c0 c6
          have HZ := Lib.hid (show RA w (wr.setCell ⟨w.heap.size, 1, none⟩ (.int .i64 (y.k + 1))) (addL f (j + 1) x) by rw [HY.out]; exact H1.out.set 1 _ _ rfl)
          clear HY H1
          go_wp2
          go_meet
          exact HZ.out
        by_cases c3 : k = 3
        · subst c3
          clear q0 q1 f0 f1 b1 b2 b3 b4 c0 c6 c2
          by_cases hd : y.d ≤ y.l
          · have HZ := Lib.hid (show RA w (wr.setCell ⟨w.heap.size, 2, none⟩ (.int .i64 (y.d + 1))) (addL f (j + 1) x) by rw [HY.out, decide_eq_true hd]; exact H1.out.set 2 _ _ rfl)
            clear HY H1 f3 b7 b8
            go_wp2
            go_meet
            exact HZ.out
          · have HZ := Lib.hid (show RA w (wr.setCell ⟨w.heap.size, 3, none⟩ (.int .i64 (y.l + 1))) (addL f (j + 1) x) by rw [HY.out, decide_eq_false hd]; exact H1.out.set 3 _ _ rfl)
            clear HY H1 f2 b5 b6
            go_wp2
            go_meet
            exact HZ.out
        · have HZ := Lib.hid (show RA w (wr.setCell ⟨w.heap.size, 0, none⟩ (.int .i64 (y.h + 1))) (addL f (j + 1) x) by rw [HY.out, addK_other _ y c0 c6 c2 c3]; exact H1.out.set 0 _ _ rfl)
          clear HY H1 q1 q2 q3 f1 f2 f3 b3 b4 b5 b6 b7 b8
          go_wp2
          go_meet
          exact HZ.out
      case rest =>
        replace H1 := Lib.hid hcut
        clear HY hce b1 b2 b3 b4 b5 b6 b7 b8
        go_wp2
        go_roundw
        case rel => exact ⟨j + 1, by omega, by go_num, H1.out⟩
        case measure => simp [intOf]; omega
    · obtain rfl : j = n := by omega
      obtain ⟨y, hy⟩ : ∃ y, addL f j x = y := ⟨_, rfl⟩
      rw [hy] at H1
      have HY := Lib.hid hy
      clear hy
      obtain ⟨e0, e1, e2, e3, ef, ez⟩ := row4c H1.out.cnt
      obtain ⟨r0, r1, r2, r3, rf, rz⟩ := row4c H1.out.ans
      have f0 := rf 0
      have f1 := rf 1
      have f2 := rf 2
      have f3 := rf 3
      clear ef rf ez rz
      go_wp2
      refine bodyPost_ret (v := .agg (lfA y)) ?_ rfl ⟨by rw [HY.out], below_put4 _ _ _ _ H1.out.bel (by omega)⟩
      exact results_cell_row (p := 4) (ty := 34) rfl _ _ (w.heap.size + 1) 34 _ (0, 0) _ rfl (put4c _ _ _ _ H1.out.ans) Try.underlying34 rfl infoRft
end Go.Proofs.Ytkdhkljnpalajaa
