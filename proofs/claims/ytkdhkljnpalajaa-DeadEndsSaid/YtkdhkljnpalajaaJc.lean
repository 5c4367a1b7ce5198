/-
  Contracts: what is left in a position, whether it is dead, a row more: the program's, the document's; the law's comparison.
-/
import Derived.Test.YtkdhkljnpalajaaJb
namespace Go.Proofs.Ytkdhkljnpalajaa
open Go.RowKit Go.Sort
set_option linter.unusedSimpArgs false
set_option linter.unusedVariables false
set_option maxRecDepth 20000

/-- numbers that are left, in a block of a type t -/
def TB (t : TypeId) (W : World) (b : Nat) (x : LF) : Prop := W.heap[b]? = some (.cells (lfA x) t (0, 0))
theorem TB.go {t : TypeId} {W W' : World} {b : Nat} {x : LF} (h : TB t W b x) (g : Below W.heap.size W W') : TB t W' b x := sl_go h g
theorem TB.set {t : TypeId} {W : World} {b : Nat} {x : LF} (h : TB t W b x) (i : Nat) (z : Int) (y : LF) (hy : (lfA x).setIfInBounds i (.int .i64 z) = lfA y) : TB t (W.setCell ⟨b, i, none⟩ (.int .i64 z)) b y := by
  unfold TB
  rw [← hy]
  exact Go.heap_setCell_same W b i _ _ _ h
theorem TB.other {t : TypeId} {W W' : World} {b c : Nat} {x : LF} (h : TB t W b x) (g : W.grownBy W' (some c)) (hne : b ≠ c) : TB t W' b x := by
  obtain ⟨_, _, _, _, g5⟩ := g
  unfold TB
  rw [g5 _ (row4c h).2.2.2.2.2 (by intro e; injection e with e; exact hne e)]; exact h
theorem TB.lt {t : TypeId} {W : World} {b : Nat} {x : LF} (h : TB t W b x) : b < W.heap.size := (row4c h).2.2.2.2.2

set_option maxHeartbeats 1000000 in
theorem of13_any (P : Nat → Int) (w : World) :
    Calls Try.prog 9 #[.agg (pc P).toArray] w fun e w' => e = .returned (.agg (lfA (cntD P 64))) ∧ Below w.heap.size w w' := by
  obtain ⟨X, hX⟩ : ∃ X, X = (pc P).toArray := ⟨_, rfl⟩
  obtain ⟨y, hy⟩ : ∃ y, cntD P 64 = y := ⟨_, rfl⟩
  have HC := Lib.hid (fun W => counted_any P W)
  rw [← hX, hy] at HC
  rw [← hX, hy]
  have hp0 := pos_box P w X hX 29
  have hw1 : Below w.heap.size w (w.alloc (.cells X 29)) := below_new _
  have H0 := Lib.hid (show PB ((w.alloc (.cells X 29)).alloc (.cells (lfA ⟨0, 0, 0, 0⟩) 31)) w.heap.size P ∧ TB 31 ((w.alloc (.cells X 29)).alloc (.cells (lfA ⟨0, 0, 0, 0⟩) 31)) (w.heap.size + 1) ⟨0, 0, 0, 0⟩ ∧ Below w.heap.size w ((w.alloc (.cells X 29)).alloc (.cells (lfA ⟨0, 0, 0, 0⟩) 31)) from
    ⟨hp0.alloc _, sl_at (by simp), hw1.alloc (by simp) _⟩)
  have HX := Lib.hid hX
  clear hX hy hp0 hw1
  go_enter Try.func9, Try.ntmps9
  go_upto_region 1 with (fail)
  refine forget_B (fun W => PB W w.heap.size P ∧ TB 31 W (w.heap.size + 1) ⟨0, 0, 0, 0⟩ ∧ Below w.heap.size w W) H0.out ?_
  clear H0
  rintro W ⟨h1, h2, h3⟩
  have H1 := Lib.hid h1
  have H2 := Lib.hid h2
  have H3 := Lib.hid h3
  clear h1 h2 h3
  go_wp2_with (refine wpList_pos (by rfl) _ (by rfl) w.heap.size P X HX.out (by rfl) H1.out ?_)
  refine (HC.out _).mono ?_
  rintro e w1 ⟨rfl, hb⟩
  replace H2 := Lib.hid (H2.out.go hb)
  replace H3 := Lib.hid (H3.out.trans (hb.mono H3.out.size))
  clear hb HC H1
  dsimp only
  refine list_go (by assumption) ?_
  have hf := field_left y
  unfold lfA at hf
  obtain ⟨r0, r1, r2, r3, rf, rz⟩ := row4c H2.out
  have f0 := rf 0
  have f1 := rf 1
  have f2 := rf 2
  have f3 := rf 3
  clear rf rz
  show wpList _ _ _ _ { tmps := #[_, _, _, _, .agg #[.int .i64 y.h, .int .i64 y.k, .int .i64 y.d, .int .i64 y.l], _], defers := _ } _
  go_wp2
  refine bodyPost_ret (v := .agg (lfA y)) ?_ rfl ⟨rfl, below_put4 _ _ _ _ H3.out (by omega)⟩
  exact results_cell_row (p := 2) (ty := 31) rfl _ _ (w.heap.size + 1) 31 _ (0, 0) _ rfl (put4c _ _ _ _ H2.out) Try.underlying31 rfl infoLft
set_option maxHeartbeats 1000000 in
theorem is13_any (P : Nat → Int) (w : World) :
    Calls Try.prog 11 #[.agg (pc P).toArray] w fun e w' => e = .returned (.bool (deadB (cntD P 64))) ∧ Below w.heap.size w w' := by
  obtain ⟨X, hX⟩ : ∃ X, X = (pc P).toArray := ⟨_, rfl⟩
  obtain ⟨y, hy⟩ : ∃ y, cntD P 64 = y := ⟨_, rfl⟩
  have HC := Lib.hid (fun W => counted_any P W)
  rw [← hX, hy] at HC
  rw [← hX, hy]
  have HD := Lib.hid (fun W => deadL_any y W)
  obtain ⟨bo, hbo⟩ : ∃ b, deadB y = b := ⟨_, rfl⟩
  rw [hbo] at HD ⊢
  have H1 := Lib.hid (pos_box P w X hX 29)
  have H3 := Lib.hid (below_new (w := w) (.cells X 29))
  have HX := Lib.hid hX
  clear hX hy hbo
  go_enter Try.func11, Try.ntmps11
  go_upto_region 1 with (fail)
  generalize w.alloc (.cells X 29) = W at *
  go_wp2_with (refine wpList_pos (by rfl) _ (by rfl) w.heap.size P X HX.out (by rfl) H1.out ?_)
  refine (HC.out _).mono ?_
  rintro e w1 ⟨rfl, hb⟩
  replace H3 := Lib.hid (H3.out.trans (hb.mono H3.out.size))
  clear hb HC H1
  dsimp only
  refine list_go (by assumption) ?_
  have hf := field_left y
  unfold lfA at hf HD
  show wpList _ _ _ _ { tmps := #[_, _, _, _, .agg #[.int .i64 y.h, .int .i64 y.k, .int .i64 y.d, .int .i64 y.l], _, _], defers := _ } _
  go_wp2_with fail
  refine (HD.out _).mono ?_
  rintro e w2 ⟨rfl, hb⟩
  replace H3 := Lib.hid (H3.out.trans (hb.mono H3.out.size))
  clear hb HD hf
  go_wp2
  go_ret
  exact ⟨rfl, H3.out⟩
set_option maxHeartbeats 1000000 in
theorem add13_any (x : LF) (B : Nat) (p : Option Addr) (n c : Nat) (f : Nat → Int) (w : World) (hx : LB x 2305843009213693952) (hn : n ≤ 1152921504606846976) (hp : Reads B w p n (fun i => .int .i64 (f i))) (hB : B ≤ w.heap.size) :
    Calls Try.prog 14 #[.agg (lfA x), .slice p n c] w fun e w' => e = .returned (.agg (lfA (addL f n x))) ∧ Below w.heap.size w w' := by
  have HA := Lib.hid (fun W (hc : CB W (w.heap.size + 2) x) (hb : Below w.heap.size w W) => allC_any (w.heap.size + 2) x B p n c f W hc hx hn (hp.below (hb.mono hB)) (by omega))
  clear hx hp hB hn
  obtain ⟨y, hy⟩ : ∃ y, addL f n x = y := ⟨_, rfl⟩
  rw [hy] at HA ⊢
  clear hy
  have hw1 : Below w.heap.size w (w.alloc (.cells (lfA x) 31)) := below_new _
  have hw2 : Below w.heap.size w ((w.alloc (.cells (lfA x) 31)).alloc (.cells (lfA ⟨0, 0, 0, 0⟩) 31)) := hw1.alloc (by simp) _
  have H0 := Lib.hid (show TB 31 ((w.alloc (.cells (lfA x) 31)).alloc (.cells (lfA ⟨0, 0, 0, 0⟩) 31)) w.heap.size x ∧ TB 31 ((w.alloc (.cells (lfA x) 31)).alloc (.cells (lfA ⟨0, 0, 0, 0⟩) 31)) (w.heap.size + 1) ⟨0, 0, 0, 0⟩ ∧ Below w.heap.size w ((w.alloc (.cells (lfA x) 31)).alloc (.cells (lfA ⟨0, 0, 0, 0⟩) 31)) ∧ ((w.alloc (.cells (lfA x) 31)).alloc (.cells (lfA ⟨0, 0, 0, 0⟩) 31)).heap.size = w.heap.size + 2 from
    ⟨sl_go (sl_at rfl) (below_new _), sl_at (by simp), hw2, by simp⟩)
  clear hw1 hw2
  obtain ⟨h, k, d, l⟩ := x
  go_enter Try.func14, Try.ntmps14
  go_upto_region 1 with (fail)
  refine forget_B (fun W => TB 31 W w.heap.size ⟨h, k, d, l⟩ ∧ TB 31 W (w.heap.size + 1) ⟨0, 0, 0, 0⟩ ∧ Below w.heap.size w W ∧ W.heap.size = w.heap.size + 2) H0.out ?_
  clear H0
  rintro W ⟨h1, h2, h3, h4⟩
  obtain ⟨q0, q1, q2, q3, qf, qz⟩ := row4c h1
  have H2 := Lib.hid h2
  have H3 := Lib.hid h3
  have H4 := Lib.hid h4
  clear h1 h2 h3 h4 qf qz
  go_upto_region 2 with (fail)
  refine forget_B (fun V => TB 31 V (w.heap.size + 1) ⟨0, 0, 0, 0⟩ ∧ CB V (w.heap.size + 2) ⟨h, k, d, l⟩ ∧ Below w.heap.size w V) ⟨H2.out.go (below_new _), sl_at H4.out.symm, H3.out.alloc (by have := H4.out; omega) _⟩ ?_
  rw [H4.out]
  clear H2 H3 H4 q0 q1 q2 q3
  rintro V ⟨h2, h5, h3⟩
  have H2 := Lib.hid h2
  have H3 := Lib.hid h3
  have H5 := Lib.hid h5
  clear h2 h3 h5
  go_wp2_with fail
  refine (HA.out _ H5.out H3.out).mono ?_
  rintro e w1 ⟨rfl, h1, h2⟩
  obtain ⟨q0, q1, q2, q3, qf, qz⟩ := row4c h1
  replace H3 := Lib.hid (H3.out.grown h2 (by have := H2.out.lt; omega) (by rintro k ⟨⟩; omega))
  replace H2 := Lib.hid (H2.out.other h2 (by omega))
  obtain ⟨r0, r1, r2, r3, rf, rz⟩ := row4c H2.out
  have f0 := rf 0
  have f1 := rf 1
  have f2 := rf 2
  have f3 := rf 3
  clear h1 h2 H5 HA qf qz rf rz
  go_wp2
  refine bodyPost_ret (v := .agg (lfA y)) ?_ rfl ⟨rfl, below_put4 _ _ _ _ H3.out (by omega)⟩
  exact results_cell_row (p := 4) (ty := 31) rfl _ _ (w.heap.size + 1) 31 _ (0, 0) _ rfl (put4c _ _ _ _ H2.out) Try.underlying31 rfl infoLft

/-! the document's -/
set_option maxHeartbeats 1000000 in
theorem rDead_any (x : LF) (w : World) :
    Calls Try.prog 12 #[.agg (lfA x)] w fun e w' => e = .returned (.bool (deadB x)) ∧ Below w.heap.size w w' := by
  have HD := Lib.hid (show deadB x = if 0 < x.h ∨ 1 < x.k then false else if x.k = 1 then !decide (0 < x.d) && !decide (0 < x.l) else !decide (0 < x.d) || !decide (0 < x.l) from rfl)
  obtain ⟨b, hb⟩ : ∃ b, deadB x = b := ⟨_, rfl⟩
  rw [hb] at HD ⊢
  clear hb
  have h0 := sl_at (W := w) (o := .cells (lfA x) 34 (0, 0)) rfl
  have HB := Lib.hid (below_new (w := w) (.cells (lfA x) 34 (0, 0)))
  obtain ⟨h, k, d, l⟩ := x
  dsimp only at HD
  obtain ⟨e0, e1, e2, e3, ef, ez⟩ := row4c h0
  unfold lfA at *
  dsimp only at *
  clear ef ez h0
  by_cases c1 : 0 < h
  · have HE := Lib.hid (HD.out.trans (by simp [c1]) : b = false)
    clear e1 e2 e3
    go_enter Try.func12, Try.ntmps12
    go_wp2
    go_ret
    exact ⟨by rw [HE.out]; rfl, HB.out⟩
  by_cases c2 : 0 < k
  · by_cases c3 : k = 1
    · subst c3
      by_cases c4 : d ≤ 0 <;> by_cases c5 : l ≤ 0
      all_goals
        have HE := Lib.hid HD.out
        have c4' : (0 < d) = ¬ (d ≤ 0) := by rw [Int.not_le]
        have c5' : (0 < l) = ¬ (l ≤ 0) := by rw [Int.not_le]
        simp only [c1, c4', c5', c4, c5, show ¬ (1 : Int) < 1 by omega, or_self, not_true_eq_false, not_false_eq_true, if_true, if_false, decide_true, decide_false, Bool.not_true, Bool.not_false, Bool.and_true, Bool.and_false, Bool.or_true, Bool.or_false] at HE
        clear c4' c5'
        go_enter Try.func12, Try.ntmps12
        go_wp2
        go_ret
        exact ⟨by rw [HE.out]; rfl, HB.out⟩
    · have c6 : 1 < k := by omega
      have HE := Lib.hid (HD.out.trans (by simp [c6]) : b = false)
      clear e2 e3
      go_enter Try.func12, Try.ntmps12
      go_wp2
      go_ret
      exact ⟨by rw [HE.out]; rfl, HB.out⟩
  · have c3 : ¬ k = 1 := by omega
    have c6 : ¬ 1 < k := by omega
    by_cases c4 : d ≤ 0 <;> by_cases c5 : l ≤ 0
    all_goals
      have HE := Lib.hid HD.out
      have c4' : (0 < d) = ¬ (d ≤ 0) := by rw [Int.not_le]
      have c5' : (0 < l) = ¬ (l ≤ 0) := by rw [Int.not_le]
      simp only [c1, c3, c6, c4', c5', c4, c5, or_self, not_true_eq_false, not_false_eq_true, if_true, if_false, decide_true, decide_false, Bool.not_true, Bool.not_false, Bool.and_true, Bool.and_false, Bool.or_true, Bool.or_false] at HE
      clear c4' c5' c3 c6
      go_enter Try.func12, Try.ntmps12
      go_wp2
      go_ret
      exact ⟨by rw [HE.out]; rfl, HB.out⟩
set_option maxHeartbeats 1000000 in
theorem same13_any (x : LF) (w : World) :
    Calls Try.prog 8 #[.agg (lfA x), .agg (lfA x)] w fun e w' => e = .returned (.bool true) ∧ Below w.heap.size w w' := by
  have hw1 : Below w.heap.size w (w.alloc (.cells (lfA x) 31)) := below_new _
  have hw2 : Below w.heap.size w ((w.alloc (.cells (lfA x) 31)).alloc (.cells (lfA x) 34)) := hw1.alloc (by simp) _
  have H0 := Lib.hid (show TB 31 ((w.alloc (.cells (lfA x) 31)).alloc (.cells (lfA x) 34)) w.heap.size x ∧ TB 34 ((w.alloc (.cells (lfA x) 31)).alloc (.cells (lfA x) 34)) (w.heap.size + 1) x ∧ Below w.heap.size w ((w.alloc (.cells (lfA x) 31)).alloc (.cells (lfA x) 34)) from
    ⟨sl_go (sl_at rfl) (below_new _), sl_at (by simp), hw2⟩)
  clear hw1 hw2
  obtain ⟨h, k, d, l⟩ := x
  go_enter Try.func8, Try.ntmps8
  go_upto_region 1 with (fail)
  refine forget_B (fun W => TB 31 W w.heap.size ⟨h, k, d, l⟩ ∧ TB 34 W (w.heap.size + 1) ⟨h, k, d, l⟩ ∧ Below w.heap.size w W) H0.out ?_
  clear H0
  rintro W ⟨h1, h2, h3⟩
  obtain ⟨q0, q1, q2, q3, qf, qz⟩ := row4c h1
  obtain ⟨r0, r1, r2, r3, rf, rz⟩ := row4c h2
  have H3 := Lib.hid h3
  clear h1 h2 h3 qf qz rf rz
  go_wp2
  go_ret
  exact ⟨rfl, H3.out⟩
end Go.Proofs.Ytkdhkljnpalajaa
