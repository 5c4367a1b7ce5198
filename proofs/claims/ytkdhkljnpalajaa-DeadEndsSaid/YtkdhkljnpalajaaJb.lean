/-
  Contracts: all pieces of a row counted; what is left in a position; whether it is dead; a row more.
-/
import Derived.Test.YtkdhkljnpalajaaJa
namespace Go.Proofs.Ytkdhkljnpalajaa
open Go.RowKit Go.Sort
set_option linter.unusedSimpArgs false
set_option linter.unusedVariables false
set_option maxRecDepth 20000

/-- n kinds more, that stand nowhere -/
def addL (f : Nat → Int) : Nat → LF → LF
  | 0, x => x
  | n + 1, x => addK (f n) (decide ((addL f n x).d ≤ (addL f n x).l)) (addL f n x)
/-- what is left on the squares below n -/
def cntD (P : Nat → Int) : Nat → LF
  | 0 => ⟨0, 0, 0, 0⟩
  | n + 1 => addK (P (n * 2)) (dark (n : Int)) (cntD P n)
/-- can nobody mate with it? -/
def deadB (x : LF) : Bool :=
  if 0 < x.h ∨ 1 < x.k then false else if x.k = 1 then !decide (0 < x.d) && !decide (0 < x.l) else !decide (0 < x.d) || !decide (0 < x.l)
theorem addL_LB (f : Nat → Int) (x : LF) (m : Int) (h : LB x m) : ∀ n : Nat, LB (addL f n x) (m + n)
  | 0 => by simpa [addL] using h
  | n + 1 => by
    have := (addL_LB f x m h n).add (f n) (decide ((addL f n x).d ≤ (addL f n x).l))
    exact this.mono (by omega)
theorem cntD_LB (P : Nat → Int) : ∀ n : Nat, LB (cntD P n) n
  | 0 => by unfold LB cntD; simp
  | n + 1 => by
    have := (cntD_LB P n).add (P (n * 2)) (dark (n : Int))
    exact this.mono (by omega)

set_option maxHeartbeats 2000000 in
theorem allC_any (b : Nat) (x : LF) (B : Nat) (p : Option Addr) (n c : Nat) (f : Nat → Int) (w : World) (hc : CB w b x) (hx : LB x 2305843009213693952) (hn : n ≤ 1152921504606846976) (hp : Reads B w p n (fun i => .int .i64 (f i))) (hB : B ≤ b) :
    Calls Try.prog 21 #[.pointer (some ⟨b, 0, none⟩), .slice p n c] w fun e w' => e = .returned (.tuple #[]) ∧ CB w' b (addL f n x) ∧ w.grownBy w' (some b) := by
  have hbw : b < w.heap.size := (row4c hc).2.2.2.2.2
  have HC := Lib.hid hc
  have HL := Lib.hid (fun k (hk : k ≤ n) => (addL_LB f x _ hx k).mono (show (2305843009213693952 : Int) + k ≤ 4611686018427387904 by omega))
  clear hc hx
  go_enter Try.func21, Try.ntmps21
  go_wp2
  go_loopw [8] (fun i wr => ∃ k : Nat, k ≤ n ∧ i = .int .i64 k ∧ CB wr b (addL f k x) ∧ w.grownBy wr (some b) ∧ Below B w wr) (fun i _ => n - (intOf i).toNat)
  case atStart => exact ⟨0, Nat.zero_le _, rfl, HC.out, World.grownBy.refl _ _, Below.refl _ _⟩
  case round =>
    obtain ⟨k, hk, rfl, h1, h2, h3⟩ := hrel
    have H1 := Lib.hid h1
    have H2 := Lib.hid h2
    have H3 := Lib.hid h3
    clear HC h1 h2
    by_cases hlt : k < n
    · rcases hp.below h3 with h0 | ⟨b1, off, rfl, hb', hcell⟩
      · omega
      have hce := hcell k hlt
      have HLK := Lib.hid (HL.out k hk)
      have HSZ := Lib.hid (show B ≤ wr.heap.size from Nat.le_trans hB (Nat.le_of_lt (row4c H1.out).2.2.2.2.2))
      clear hcell hp h3
      have HY := Lib.hid (show addL f (k + 1) x = addK (f k) (decide ((addL f k x).d ≤ (addL f k x).l)) (addL f k x) from rfl)
      obtain ⟨y, hy⟩ : ∃ y, addL f k x = y := ⟨_, rfl⟩
      rw [hy] at H1 HLK HY
      clear hy
      go_upto_region 3 with (fail)
      obtain ⟨_, _, q2, q3, _, _⟩ := row4c H1.out
      replace q2 := cell_regrown q2
      replace q3 := cell_regrown q3
      clear hce
      refine wp_region_quiet_store 13 (by kernel_rfl) rfl rfl (by kernel_rfl) (by kernel_rfl) (C := fun W' => ∃ p : Regrown, W' = grow (redrawn wr p.d) p.os) (regrown_self _) ?_
      simp only [List.take_succ_cons, List.take_zero]
      repeat (quiet_step (fail))
      refine wpQuiet_nil ?_
      rintro W4 ⟨q, rfl⟩
      refine ⟨by rfl, ?_⟩
      have b4 := below_regrown wr q.d q.os
      replace H1 := Lib.hid (H1.out.go b4)
      replace H2 := Lib.hid (H2.out.trans (gr_of_below _ b4))
      replace H3 := Lib.hid (H3.out.trans (b4.mono HSZ.out))
      replace HSZ := Lib.hid (Nat.le_trans HSZ.out b4.size)
      clear q2 q3 b4
      generalize grow (redrawn wr q.d) q.os = W4 at *
      go_simp
      refine (one_any b y (f k) (decide (y.d ≤ y.l)) _ H1.out HLK.out).mono ?_
      rintro e w5 ⟨rfl, h1, h2⟩
      replace H1 := Lib.hid (show CB w5 b (addL f (k + 1) x) by rw [HY.out]; exact h1)
      replace H3 := Lib.hid (H3.out.grown h2 HSZ.out (by rintro k ⟨⟩; exact hB))
      replace H2 := Lib.hid (H2.out.trans h2)
      clear h1 h2 HY HLK
      go_wp2
      go_roundw
      case rel => exact ⟨k + 1, by omega, by go_num, H1.out, H2.out, H3.out⟩
      case measure => simp [intOf]; omega
    · obtain rfl : k = n := by omega
      clear hp h3
      go_wp2
      go_end0
      exact ⟨rfl, H1.out, H2.out⟩

/-- what stands while a position's pieces are counted: the answer's block r, the counter's block c -/
structure CS (w W : World) (c : Nat) (x : LF) : Prop where
  ans : CB W (w.heap.size + 1) ⟨0, 0, 0, 0⟩
  cnt : CB W c x
  bel : Below w.heap.size w W
  nth : w.heap.size + 1 < c
theorem CS.go {w W W' : World} {c : Nat} {x : LF} (h : CS w W c x) (g : Below W.heap.size W W') : CS w W' c x := ⟨h.ans.go g, h.cnt.go g, h.bel.trans (g.mono h.bel.size), h.nth⟩
theorem CS.turn {w W W' : World} {c : Nat} {x y : LF} (h : CS w W c x) (g : W.grownBy W' (some c)) (hy : CB W' c y) : CS w W' c y :=
  ⟨by obtain ⟨_, _, _, _, g5⟩ := g; unfold CB; rw [g5 _ (row4c h.ans).2.2.2.2.2 (by intro e; injection e with e; have := h.nth; omega)]; exact h.ans, hy, h.bel.grown g (by have := (row4c h.ans).2.2.2.2.2; omega) (by rintro k ⟨⟩; have := h.nth; omega), h.nth⟩
theorem put4c {W : World} {H : Nat} {a b c d : Value} {t : TypeId} (x y z u : Value) (h : W.heap[H]? = some (.cells #[a, b, c, d] t (0, 0))) :
    ((((W.setCell ⟨H, 0, none⟩ x).setCell ⟨H, 1, none⟩ y).setCell ⟨H, 2, none⟩ z).setCell ⟨H, 3, none⟩ u).heap[H]? = some (.cells #[x, y, z, u] t (0, 0)) :=
  Go.heap_setCell_same _ H 3 _ _ u (Go.heap_setCell_same _ H 2 _ _ z (Go.heap_setCell_same _ H 1 _ _ y (Go.heap_setCell_same W H 0 _ _ x h)))
theorem below_put4 {B H : Nat} {w0 W : World} (x y z u : Value) (h : Below B w0 W) (hB : B ≤ H) :
    Below B w0 ((((W.setCell ⟨H, 0, none⟩ x).setCell ⟨H, 1, none⟩ y).setCell ⟨H, 2, none⟩ z).setCell ⟨H, 3, none⟩ u) :=
  (((h.setCell (p := ⟨H, 0, none⟩) hB x).setCell (p := ⟨H, 1, none⟩) hB y).setCell (p := ⟨H, 2, none⟩) hB z).setCell (p := ⟨H, 3, none⟩) hB u
theorem infoCtr : (Try.prog.info? 51).map (·.size) = some 4 := by kernel_rfl
theorem infoLft : (Try.prog.info? 31).map (·.size) = some 4 := by kernel_rfl
theorem infoRft : (Try.prog.info? 34).map (·.size) = some 4 := by kernel_rfl
theorem field_left (x : LF) (w : World) : (Instr.field 51 (.agg (lfA x)) 0).run Try.prog w = .ok (.agg (lfA x)) w := by
  have hz : (sizeOf 31).run Try.prog w = .ok 4 w := size_of_info (by kernel_rfl) w
  obtain ⟨h, k, d, l⟩ := x
  unfold lfA
  simp [Instr.field, asAgg, part, isAgg, run_underlying Try.underlying51, run_underlying Try.underlying31, hz]
set_option maxHeartbeats 2000000 in
set_option maxRecDepth 100000 in
theorem counted_any (P : Nat → Int) (w : World) :
    Calls Try.prog 20 #[.agg (pc P).toArray] w fun e w' => e = .returned (.agg (lfA (cntD P 64))) ∧ Below w.heap.size w w' := by
  obtain ⟨X, hX⟩ : ∃ X, X = (pc P).toArray := ⟨_, rfl⟩
  rw [← hX]
  have HX := Lib.hid hX
  have hp0 := pos_box P w X hX 29
  have hw1 : Below w.heap.size w (w.alloc (.cells X 29)) := below_new _
  have hs0 : PB (((w.alloc (.cells X 29)).alloc (.cells (lfA ⟨0, 0, 0, 0⟩) 51)).alloc (.cells (lfA ⟨0, 0, 0, 0⟩) 51)) w.heap.size P ∧ CS w (((w.alloc (.cells X 29)).alloc (.cells (lfA ⟨0, 0, 0, 0⟩) 51)).alloc (.cells (lfA ⟨0, 0, 0, 0⟩) 51)) (w.heap.size + 2) ⟨0, 0, 0, 0⟩ :=
    ⟨(hp0.alloc _).alloc _, sl_go (sl_at (by simp)) (below_new _), sl_at (by simp), (hw1.alloc (by simp) _).alloc (by simp; omega) _, by omega⟩
  have H0 := Lib.hid hs0
  clear hX hp0 hw1 hs0
  go_enter Try.func20, Try.ntmps20
  go_upto_region 2 with (fail)
  refine forget_B (fun W => PB W w.heap.size P ∧ CS w W (w.heap.size + 2) ⟨0, 0, 0, 0⟩) H0.out ?_
  clear H0
  rintro W ⟨h1, h2⟩
  have HSQ := Lib.hid h1.squares
  have H0 := Lib.hid h2
  clear h1 h2
  have hix : ∀ (j : Nat) (hj : j < 64) (W : World), (Instr.index 26 (.agg (nums P 0 128).toArray) (.int .i64 (j : Int))).run Try.prog W = .ok (.agg #[.int .i64 (P (j * 2)), .int .i64 (P (j * 2 + 1))]) W := fun j hj W => by
    rw [Nat.mul_comm]; exact index_sqs P j hj W
  refine wp_region_lit ?_
  refine wpList_plain rfl (fun K hK => ?_)
  go_simp
  refine hK _ _ ?_
  clear hK K
  refine wpList_load_mid rfl 26 _ rfl w.heap.size 0 rfl (nums P 0 128) _ HSQ.out Try.underlying26 rfl (by rw [infoSqs, nums_len]) ?_
  generalize (nums P 0 128).toArray = Z at hix ⊢
  have HIX := Lib.hid hix
  clear hix HSQ
  go_wp2
  go_loopw [8] (fun i wr => ∃ j : Nat, j ≤ 64 ∧ i = .int .i64 (j : Int) ∧ CS w wr (w.heap.size + 2) (cntD P j)) (fun i _ => 64 - (intOf i).toNat)
  case atStart => exact ⟨0, Nat.zero_le _, rfl, H0.out⟩
  case round =>
    clear H0
    obtain ⟨j, hj, rfl, h1⟩ := hrel
    have H1 := Lib.hid h1
    clear h1
    by_cases hlt : j < 64
    · have hix := HIX.out j hlt
      have HY := Lib.hid (show cntD P (j + 1) = addK (P (j * 2)) (dark (j : Int)) (cntD P j) from rfl)
      have HL := Lib.hid ((cntD_LB P j).mono (show (j : Int) ≤ 4611686018427387904 by omega))
      obtain ⟨x, hx⟩ : ∃ x, cntD P j = x := ⟨_, rfl⟩
      obtain ⟨k, hk⟩ : ∃ k, P (j * 2) = k := ⟨_, rfl⟩
      obtain ⟨d, hd⟩ : ∃ d, P (j * 2 + 1) = d := ⟨_, rfl⟩
      obtain ⟨dk, hdk⟩ : ∃ d, dark (j : Int) = d := ⟨_, rfl⟩
      have HDK := Lib.hid (fun W => darkSq_any (j : Int) W)
      rw [hk, hd] at hix
      rw [hx] at H1 HY HL
      rw [hk, hdk] at HY
      rw [hdk] at HDK
      clear hx hk hd hdk
      go_upto_region 5 with (fail)
      refine forget_B (fun W => CS w W (w.heap.size + 2) x ∧ W.heap[wr.heap.size]? = some (.cells #[.int .i64 k, .int .i64 d] 25 (0, 0))) ⟨H1.out.go (below_new _), sl_at rfl⟩ ?_
      clear H1 hix
      rintro W3 ⟨h1, h2⟩
      have H1 := Lib.hid h1
      obtain ⟨q1, q2, qf, qz⟩ := row2 h2
      have k1 := cell_regrown q1
      clear h1 h2 q1 q2 qf qz
      have c15 := regrown_call (w := W3) HDK.out
      refine wp_region_quiet_store 4 (by kernel_rfl) rfl rfl (by kernel_rfl) (by kernel_rfl) (C := fun W' => ∃ p : Regrown, W' = grow (redrawn W3 p.d) p.os) (regrown_self _) ?_
      simp only [List.take_succ_cons, List.take_zero]
      repeat (quiet_step (first | exact c15 _ _))
      refine wpQuiet_nil ?_
      rintro W4 ⟨q, rfl⟩
      refine ⟨by rfl, ?_⟩
      replace H1 := Lib.hid (H1.out.go (below_regrown W3 q.d q.os))
      clear k1 c15 HDK
      generalize grow (redrawn W3 q.d) q.os = W4 at *
      go_simp
      refine (one_any (w.heap.size + 2) x k dk _ H1.out.cnt HL.out).mono ?_
      rintro e w5 ⟨rfl, h1, h2⟩
      replace H1 := Lib.hid (H1.out.turn h2 (show CB w5 (w.heap.size + 2) (cntD P (j + 1)) by rw [HY.out]; exact h1))
      clear h1 h2 HY HL
      go_wp2
      go_roundw
      case rel => exact ⟨j + 1, by omega, by go_num, H1.out⟩
      case measure => simp [intOf]; omega
    · obtain rfl : j = 64 := by omega
      obtain ⟨y, hy⟩ : ∃ y, cntD P 64 = y := ⟨_, rfl⟩
      rw [hy] at H1
      have HY := Lib.hid hy
      clear hy HIX
      obtain ⟨e0, e1, e2, e3, ef, ez⟩ := row4c H1.out.cnt
      obtain ⟨r0, r1, r2, r3, rf, rz⟩ := row4c H1.out.ans
      have f0 := rf 0
      have f1 := rf 1
      have f2 := rf 2
      have f3 := rf 3
      clear ef rf ez rz
      go_wp2
      refine bodyPost_ret (v := .agg (lfA y)) ?_ rfl ⟨by rw [HY.out], below_put4 _ _ _ _ H1.out.bel (by omega)⟩
      exact results_cell_row (p := 2) (ty := 51) rfl _ _ (w.heap.size + 1) 51 _ (0, 0) _ rfl (put4c _ _ _ _ H1.out.ans) Try.underlying51 rfl infoCtr
attribute [go_sem] field_left
set_option maxHeartbeats 2000000 in
theorem deadL_any (x : LF) (w : World) :
    Calls Try.prog 13 #[.agg (lfA x)] w fun e w' => e = .returned (.bool (deadB x)) ∧ Below w.heap.size w w' := by
  have HD := Lib.hid (show deadB x = if 0 < x.h ∨ 1 < x.k then false else if x.k = 1 then !decide (0 < x.d) && !decide (0 < x.l) else !decide (0 < x.d) || !decide (0 < x.l) from rfl)
  obtain ⟨b, hb⟩ : ∃ b, deadB x = b := ⟨_, rfl⟩
  rw [hb] at HD ⊢
  clear hb
  have h0 := sl_at (W := w) (o := .cells (lfA x) 31 (0, 0)) rfl
  have HB := Lib.hid (below_new (w := w) (.cells (lfA x) 31 (0, 0)))
  obtain ⟨h, k, d, l⟩ := x
  dsimp only at HD
  have H0 := Lib.hid h0
  clear h0
  unfold lfA at *
  dsimp only at *
  go_enter Try.func13, Try.ntmps13
  go_upto_region 1 with (fail)
  obtain ⟨e0, e1, e2, e3, ef, ez⟩ := row4c H0.out
  replace e0 := cell_regrown e0
  replace e1 := cell_regrown e1
  replace e2 := cell_regrown e2
  replace e3 := cell_regrown e3
  clear ef ez H0
  generalize w.alloc (.cells #[.int .i64 h, .int .i64 k, .int .i64 d, .int .i64 l] 31) = W at *
  refine wp_region_quiet_below (by kernel_rfl) (by kernel_rfl) ?_
  repeat (go_big_quiet_step (fail))
  refine wpQuiet_nil ?_
  rintro W9 ⟨pq, rfl⟩
  replace HB := Lib.hid (HB.out.trans ((below_regrown W pq.d pq.os).mono HB.out.size))
  replace e0 := e0 pq.d pq.os
  replace e1 := e1 pq.d pq.os
  replace e2 := e2 pq.d pq.os
  replace e3 := e3 pq.d pq.os
  generalize grow (redrawn W pq.d) pq.os = W9 at *
  clear e2 e3
  by_cases c1 : 0 < h
  · have HE := Lib.hid (HD.out.trans (by simp [c1]) : b = false)
    go_wp2
    go_ret
    exact ⟨by rw [HE.out]; rfl, HB.out⟩
  by_cases c2 : 1 < k
  · have HE := Lib.hid (HD.out.trans (by simp [c1, c2]) : b = false)
    go_wp2
    go_ret
    exact ⟨by rw [HE.out]; rfl, HB.out⟩
  by_cases c3 : k = 1
  · subst c3
    by_cases c4 : 0 < d <;> by_cases c5 : 0 < l
    all_goals
      have HE := Lib.hid HD.out
      simp only [c1, c4, c5, show ¬ (1 : Int) < 1 by omega, or_self, if_true, if_false, decide_true, decide_false, Bool.not_true, Bool.not_false, Bool.and_true, Bool.and_false, Bool.or_true, Bool.or_false] at HE
      go_wp2
      go_ret
      exact ⟨by rw [HE.out]; rfl, HB.out⟩
  · by_cases c4 : 0 < d <;> by_cases c5 : 0 < l
    all_goals
      have HE := Lib.hid HD.out
      simp only [c1, c2, c3, c4, c5, or_self, if_true, if_false, decide_true, decide_false, Bool.not_true, Bool.not_false, Bool.and_true, Bool.and_false, Bool.or_true, Bool.or_false] at HE
      go_wp2
      go_ret
      exact ⟨by rw [HE.out]; rfl, HB.out⟩
end Go.Proofs.Ytkdhkljnpalajaa
