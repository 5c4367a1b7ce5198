/-
  Contracts: pieces turned, positions turned.
-/
import Derived.Test.YtkdhkljnpalajaaG4
namespace Go.Proofs.Ytkdhkljnpalajaa
open Go.RowKit Go.Sort
set_option linter.unusedSimpArgs false
set_option linter.unusedVariables false

theorem two_at (w : World) (o1 o2 : Obj) : ((w.alloc o1).alloc o2).heap[w.heap.size]? = some o1 ∧ ((w.alloc o1).alloc o2).heap[w.heap.size + 1]? = some o2 ∧
    Below w.heap.size w ((w.alloc o1).alloc o2) ∧ ((w.alloc o1).alloc o2).heap.size = w.heap.size + 2 :=
  ⟨sl_go (sl_at rfl) (below_new _), sl_at (by simp), (below_new _).alloc (by simp) _, by simp⟩
theorem putB2 {W : World} {H : Nat} {a b : Value} {t : TypeId} (x y : Value) (h : W.heap[H]? = some (.cells #[a, b] t (0, 0))) :
    ((W.setCell ⟨H, 0, none⟩ x).setCell ⟨H, 1, none⟩ y).heap[H]? = some (.cells #[x, y] t (0, 0)) :=
  Go.heap_setCell_same _ H 1 _ _ y (Go.heap_setCell_same W H 0 _ _ x h)
theorem infoPieB : (Try.prog.info? 25).map (·.size) = some 2 := by kernel_rfl
set_option maxHeartbeats 1000000 in
theorem turnPiece_any (k d : Int) (w : World) :
    Calls Try.prog 23 #[.agg #[.int .i64 k, .int .i64 d]] w fun e w' => e = .returned (.agg #[.int .i64 k, .int .i64 (tSide k d)]) ∧ Below w.heap.size w w' := by
  obtain ⟨b, hb⟩ : ∃ b, mayB k d = b := ⟨_, rfl⟩
  unfold tSide
  rw [hb]
  have HB := Lib.hid hb
  have HT := Lib.hid (two_at w (.cells #[.int .i64 k, .int .i64 d] 25) (.cells #[.int .i64 0, .int .i64 0] 25))
  clear hb
  go_enter Try.func23, Try.ntmps23
  go_upto_region 1 with (fail)
  refine forget_B (fun W => W.heap[w.heap.size]? = some (.cells #[.int .i64 k, .int .i64 d] 25 (0, 0)) ∧ W.heap[w.heap.size + 1]? = some (.cells #[.int .i64 0, .int .i64 0] 25 (0, 0)) ∧ Below w.heap.size w W ∧ W.heap.size = w.heap.size + 2) HT.out ?_
  clear HT
  rintro W ⟨h1, h2, h3, h4⟩
  obtain ⟨q1, q2, qf, qz⟩ := row2 h1
  have H1 := Lib.hid h1
  have H2 := Lib.hid h2
  have H3 := Lib.hid h3
  have H4 := Lib.hid h4
  clear h1 h2 h3 h4
  go_wp2_with fail
  refine (mayBe_any k d _).mono ?_
  rw [HB.out]
  rintro e w1 ⟨rfl, hb1⟩
  clear q1 q2 qf qz
  obtain ⟨q1, q2, qf, qz⟩ := row2 (sl_go H1.out hb1)
  obtain ⟨r1, r2, rf, rz⟩ := row2 (sl_go H2.out hb1)
  have HR := Lib.hid (sl_go H2.out hb1)
  have HX := Lib.hid (sl_go H1.out hb1)
  have HB1 := Lib.hid (H3.out.trans (hb1.mono (by rw [H4.out]; omega)))
  clear hb1 H1 H2 H3
  cases b
  · go_wp2
    refine bodyPost_ret (v := .agg #[.int .i64 k, .int .i64 d]) ?_ rfl ⟨rfl, (HB1.out.setCell (p := ⟨w.heap.size + 1, 0, none⟩) (by simp) _).setCell (p := ⟨w.heap.size + 1, 1, none⟩) (by simp) _⟩
    exact results_cell_row (p := 2) (ty := 25) rfl _ _ (w.heap.size + 1) 25 _ (0, 0) _ rfl (putB2 _ _ HR.out) Try.underlying25 rfl infoPieB
  · go_wp2_with fail
    refine (other_any d _).mono ?_
    rintro e w2 ⟨rfl, rfl⟩
    go_wp2
    refine bodyPost_ret (v := .agg #[.int .i64 k, .int .i64 (oth d)]) ?_ rfl ⟨rfl, ((HB1.out.setCell (p := ⟨w.heap.size, 1, none⟩) (by simp) _).setCell (p := ⟨w.heap.size + 1, 0, none⟩) (by simp) _).setCell (p := ⟨w.heap.size + 1, 1, none⟩) (by simp) _⟩
    exact results_cell_row (p := 2) (ty := 25) rfl _ _ (w.heap.size + 1) 25 _ (0, 0) _ rfl (putB2 _ _ ((Go.heap_setCell_other _ _ _ _ (by simp)).trans HR.out)) Try.underlying25 rfl infoPieB

/-- the square across -/
def mir (s : Nat) : Nat := 8 * (7 - s / 8) + s % 8
theorem mir_lt (s : Nat) (h : s < 64) : mir s < 64 := by unfold mir; omega
theorem mir_mir (s : Nat) (h : s < 64) : mir (mir s) = s := by unfold mir; omega
theorem tSq_mir (s : Nat) (h : s < 64) : tSq (s : Int) = (mir s : Int) := by
  unfold tSq mir
  rw [if_pos ((sq_iff _).2 (by omega))]
  omega
/-- a position, turned -/
def turnN (P : Nat → Int) : Nat → Int := fun i =>
  if i < 128 then (if i % 2 = 0 then P (2 * mir (i / 2)) else tSide (P (2 * mir (i / 2))) (P (2 * mir (i / 2) + 1)))
  else if i = 128 then oth (P 128) else if i = 129 then tCas (P 129) else if i = 130 then tSq (P 130) else P i
theorem turnN_k (P : Nat → Int) (s : Nat) (h : s < 64) : turnN P (2 * s) = P (2 * mir s) := by
  unfold turnN
  rw [if_pos (by omega), if_pos (by omega), show 2 * s / 2 = s by omega]
theorem turnN_d (P : Nat → Int) (s : Nat) (h : s < 64) : turnN P (2 * s + 1) = tSide (P (2 * mir s)) (P (2 * mir s + 1)) := by
  unfold turnN
  rw [if_pos (by omega), if_neg (by omega), show (2 * s + 1) / 2 = s by omega]
def mixA (P : Nat → Int) (j : Nat) : Nat → Int := fun i => if i < 128 ∧ mir (i / 2) < j then turnN P i else P i
theorem mixA_zero (P : Nat → Int) : mixA P 0 = P := by
  funext i; unfold mixA; rw [if_neg (by omega)]
theorem mixA_step (P : Nat → Int) (j : Nat) (hj : j < 64) : setN (setN (mixA P j) (2 * mir j) (P (2 * j))) (2 * mir j + 1) (tSide (P (2 * j)) (P (2 * j + 1))) = mixA P (j + 1) := by
  have hm := mir_lt j hj
  have hmm := mir_mir j hj
  funext i
  unfold setN
  by_cases h1 : i = 2 * mir j + 1
  · rw [if_pos h1, h1]
    unfold mixA
    rw [if_pos ⟨by omega, by rw [show (2 * mir j + 1) / 2 = mir j by omega, hmm]; omega⟩, turnN_d P _ hm, hmm]
  · rw [if_neg h1]
    by_cases h2 : i = 2 * mir j
    · rw [if_pos h2, h2]
      unfold mixA
      rw [if_pos ⟨by omega, by rw [show (2 * mir j) / 2 = mir j by omega, hmm]; omega⟩, turnN_k P _ hm, hmm]
    · rw [if_neg h2]
      unfold mixA
      have he : i < 128 → mir (i / 2) ≠ j := fun hi h => by
        have := mir_mir (i / 2) (by omega)
        rw [h] at this
        omega
      by_cases h3 : i < 128 ∧ mir (i / 2) < j
      · rw [if_pos h3, if_pos ⟨h3.1, by omega⟩]
      · rw [if_neg h3, if_neg (by intro h; exact h3 ⟨h.1, by have := he h.1; omega⟩)]
/-- behind the squares: side, castlings, square gone over -/
theorem turn_last (P Q : Nat → Int) (h : ∀ i, i < 128 → Q i = turnN P i) (h4 : ∀ i, 128 ≤ i → Q i = P i) : setN (setN (setN Q 128 (oth (P 128))) 129 (tCas (P 129))) 130 (tSq (P 130)) = turnN P := by
  funext i
  unfold setN
  by_cases h1 : i = 130
  · subst h1; simp [turnN]
  · by_cases h2 : i = 129
    · subst h2; simp [turnN]
    · by_cases h3 : i = 128
      · subst h3; simp [turnN]
      · rw [if_neg h1, if_neg h2, if_neg h3]
        by_cases h5 : i < 128
        · exact h i h5
        · rw [h4 i (by omega)]; unfold turnN; rw [if_neg h5, if_neg h3, if_neg h2, if_neg h1]
theorem mixA_end (P : Nat → Int) : (∀ i, i < 128 → mixA P 64 i = turnN P i) ∧ ∀ i, 128 ≤ i → mixA P 64 i = P i :=
  ⟨fun i hi => by unfold mixA; rw [if_pos ⟨hi, mir_lt _ (by omega)⟩], fun i hi => by unfold mixA; rw [if_neg (by omega)]⟩
/-- the end of a body, without a walk (which would open the result's cells) -/
theorem ret_go {P : Program} {K : Act → World → Prop} {Q Q' : Exit → Act → World → Prop} {a : Act} {w : World} (h : ∀ a w, Code.ret.wp P Q a w → K a w) (hq : Q .ret a w) : Exit.then K Q' .normal a w := h _ _ (wp_ret hq)
theorem then_ret {K : Act → World → Prop} {Q : Exit → Act → World → Prop} {a : Act} {w : World} (h : Q .ret a w) : Exit.then K Q .ret a w := h
theorem block_ret {i : Nat} {Q : Exit → Act → World → Prop} {a : Act} {w : World} (h : Q .ret a w) : Exit.inBlock i Q .ret a w := h
theorem zeroPos : Try.zeroCells29 = (pc fun _ => 0).toArray := by kernel_rfl
/-- a position is loaded, and laid into a block of its own -/
theorem PB.other {w : World} {b c : Nat} {P : Nat → Int} (h : PB w b P) (hne : b ≠ c) (i : Nat) (v : Value) : PB (w.setCell ⟨c, i, none⟩ v) b P :=
  h.gr (gr1_B v) (by intro e; injection e with e; exact hne e)
theorem PB.others {w : World} {b c : Nat} {P : Nat → Int} (h : PB w b P) (hne : b ≠ c) (o : Nat) (vs : List Value) : PB (w.setCells c o vs) b P :=
  h.gr (grs_B vs o w) (by intro e; injection e with e; exact hne e)

set_option maxHeartbeats 2000000 in
set_option maxRecDepth 100000 in
theorem turn_any (P : Nat → Int) (w : World) :
    Calls Try.prog 18 #[.agg (pc P).toArray] w fun e w' => e = .returned (.agg (pc (turnN P)).toArray) ∧ Below w.heap.size w w' := by
  obtain ⟨X, hX⟩ : ∃ X, X = (pc P).toArray := ⟨_, rfl⟩
  obtain ⟨Y, hY⟩ : ∃ Y, Y = (pc (turnN P)).toArray := ⟨_, rfl⟩
  rw [← hX, ← hY]
  have HX := Lib.hid hX
  have HY := Lib.hid hY
  have hp0 : PB ((w.alloc (.cells X 29)).alloc (.cells Try.zeroCells29 29)) w.heap.size P ∧ PB ((w.alloc (.cells X 29)).alloc (.cells Try.zeroCells29 29)) (w.heap.size + 1) (fun _ => 0) ∧
      Below w.heap.size w ((w.alloc (.cells X 29)).alloc (.cells Try.zeroCells29 29)) ∧ ((w.alloc (.cells X 29)).alloc (.cells Try.zeroCells29 29)).heap.size = w.heap.size + 2 := by
    obtain ⟨a1, a2, a3, a4⟩ := two_at w (.cells X 29) (.cells Try.zeroCells29 29)
    rw [zeroPos] at a2 ⊢
    exact ⟨PB.of_block (by rw [hX] at a1 ⊢; exact a1), PB.of_block a2, a3, a4⟩
  have HP0 := Lib.hid hp0
  clear hX hY hp0
  go_enter Try.func18, Try.ntmps18
  go_upto_region 1 with (fail)
  refine forget_B (fun W => PB W w.heap.size P ∧ PB W (w.heap.size + 1) (fun _ => 0) ∧ Below w.heap.size w W ∧ W.heap.size = w.heap.size + 2) HP0.out ?_
  clear HP0
  rintro W ⟨h1, h2, h3, h4⟩
  have H1 := Lib.hid h1
  have H2 := Lib.hid h2
  have H3 := Lib.hid h3
  have H4 := Lib.hid h4
  clear h1 h2 h3 h4
  refine wp_region_lit ?_
  refine wpList_load_mid rfl 29 _ rfl w.heap.size 0 rfl (pc P) _ H1.out.range Try.underlying29 rfl (by rw [infoPos, pc_len]) ?_
  refine wpList_plain rfl (fun K hK => ?_)
  go_simp
  refine hK _ _ ?_
  clear hK K
  have ht : (W.alloc (.cells Try.zeroCells29 29)).there W.heap.size 0 133 := by rw [zeroPos]; exact (PB.new rfl).there
  refine wpList_store_mid rfl 29 _ _ rfl W.heap.size 0 (pc P).toArray rfl rfl (by rw [pc_size]; exact ht) (by rw [infoPos, pc_size]) (pc_one P) ?_
  rw [List.toList_toArray]
  refine forgetL_B (fun W2 => PB W2 w.heap.size P ∧ PB W2 (w.heap.size + 1) (fun _ => 0) ∧ PB W2 (w.heap.size + 2) P ∧ Below w.heap.size w W2 ∧ W2.heap.size = w.heap.size + 3) (by
    rw [zeroPos, H4.out]
    have n1 := H4.out
    refine ⟨((H1.out).alloc _).others (by omega) _ _, (H2.out.alloc _).others (by omega) _ _, (PB.new (P := fun _ => 0) (by omega)).store, below_store P (H3.out.alloc (by omega) _) (by omega) (by simp; omega), by rw [sizes_B]; simp; omega⟩) ?_
  clear H1 H2 H3 ht
  rw [H4.out]
  clear H4
  rintro W2 ⟨h1, h2, h3, h4, h5⟩
  have H1 := Lib.hid h1
  have H2 := Lib.hid h2
  have H3 := Lib.hid h3
  have H4 := Lib.hid h4
  have H5 := Lib.hid h5
  clear h1 h2 h3 h4 h5
  rw [← HX.out]
  have hix : ∀ (j : Nat) (hj : j < 64) (W : World), (Instr.index 26 (.agg (nums P 0 128).toArray) (.int .i64 (j : Int))).run Try.prog W = .ok (.agg #[.int .i64 (P (j * 2)), .int .i64 (P (j * 2 + 1))]) W := fun j hj W => by
    rw [Nat.mul_comm]; exact index_sqs P j hj W
  have HSQ := Lib.hid H1.out.squares
  show Exit.then _ _ Exit.normal _ _
  go_upto_region 2 with (fail)
  refine wp_region_lit ?_
  refine wpList_plain rfl (fun K hK => ?_)
  go_simp
  refine hK _ _ ?_
  clear hK K
  refine wpList_load_mid rfl 26 _ rfl w.heap.size 0 rfl (nums P 0 128) _ HSQ.out Try.underlying26 rfl (by rw [infoSqs, nums_len]) ?_
  generalize (nums P 0 128).toArray = Z at hix ⊢
  have HIX := Lib.hid hix
  clear hix HSQ
  go_wp2
  go_loopw [9] (fun i wr => ∃ j : Nat, j ≤ 64 ∧ i = .int .i64 (j : Int) ∧ PB wr w.heap.size P ∧ PB wr (w.heap.size + 1) (fun _ => 0) ∧ PB wr (w.heap.size + 2) (mixA P j) ∧ Below w.heap.size w wr ∧ w.heap.size + 3 ≤ wr.heap.size) (fun i _ => 64 - (intOf i).toNat)
  case atStart => exact ⟨0, Nat.zero_le _, rfl, H1.out, H2.out, by rw [mixA_zero]; exact H3.out, H4.out, by rw [H5.out]; omega⟩
  case round =>
    clear H1 H2 H3 H4 H5
    obtain ⟨j, hj, rfl, h1, h2, h3, h4, h5⟩ := hrel
    have H1 := Lib.hid h1
    have H2 := Lib.hid h2
    have H3 := Lib.hid h3
    have H4 := Lib.hid h4
    have H5 := Lib.hid h5
    clear h1 h2 h3 h4 h5
    by_cases hlt : j < 64
    · have hix := HIX.out j hlt
      have hal := two_at wr
      obtain ⟨k, hk⟩ : ∃ k, P (j * 2) = k := ⟨_, rfl⟩
      obtain ⟨d, hd⟩ : ∃ d, P (j * 2 + 1) = d := ⟨_, rfl⟩
      rw [hk, hd] at hix
      have HK := Lib.hid hk
      have HD := Lib.hid hd
      clear hk hd
      have HSQ := Lib.hid (tSq_mir j hlt)
      have HST := Lib.hid (mixA_step P j hlt)
      have hm := mir_lt j hlt
      clear hal
      generalize mir j = m at HSQ HST hm
      go_upto_region 5 with (fail)
      refine forget_B (fun W => PB W w.heap.size P ∧ PB W (w.heap.size + 1) (fun _ => 0) ∧ PB W (w.heap.size + 2) (mixA P j) ∧ Below w.heap.size w W ∧ w.heap.size + 3 ≤ W.heap.size ∧ W.heap[wr.heap.size]? = some (.cells #[.int .i64 k, .int .i64 d] 25 (0, 0)))
        ⟨H1.out.alloc _, H2.out.alloc _, H3.out.alloc _, H4.out.alloc H4.out.size _, by simp; have := H5.out; omega, sl_at rfl⟩ ?_
      clear H1 H2 H3 H4 H5 hix
      rintro W3 ⟨h1, h2, h3, h4, h5, h6⟩
      obtain ⟨q1, q2, qf, qz⟩ := row2 h6
      have k1 := cell_regrown q1
      have k2 := cell_regrown q2
      have H1 := Lib.hid h1
      have H2 := Lib.hid h2
      have H3 := Lib.hid h3
      have H4 := Lib.hid h4
      have H5 := Lib.hid h5
      clear h1 h2 h3 h4 h5 h6 q1 q2 qf qz
      have hm1 : (0 : Int) ≤ (m : Int) := by omega
      have hm2 : (m : Int) < 64 := by omega
      have c14 := regrown_call (w := W3) (turnSquare_any (j : Int))
      rw [HSQ.out] at c14
      have c16 := regrown_call (w := W3) (turnPiece_any k d)
      refine wp_region_quiet_store 6 (by kernel_rfl) rfl rfl (by kernel_rfl) (by kernel_rfl) (C := fun W' => ∃ p : Regrown, W' = grow (redrawn W3 p.d) p.os) (regrown_self _) ?_
      simp only [List.take_succ_cons, List.take_zero]
      repeat (quiet_step (first | exact c14 _ _ | exact c16 _ _))
      refine wpQuiet_nil ?_
      rintro W4 ⟨q, rfl⟩
      refine ⟨by rfl, ?_⟩
      have b4 := below_regrown W3 q.d q.os
      have H1' := Lib.hid (H1.out.go b4)
      have H2' := Lib.hid (H2.out.go b4)
      have h3 := H3.out.go b4
      have H3' := Lib.hid h3
      have H4' := Lib.hid (H4.out.trans (b4.mono H4.out.size))
      have H5' := Lib.hid (Nat.le_trans H5.out b4.size)
      have e1 := h3.cell (m * 2) (by omega)
      have e2 := h3.cell (m * 2 + 1) (by omega)
      have e3 := h3.fr (m * 2)
      have e4 := h3.fr (m * 2 + 1)
      clear k1 k2 c14 c16 b4 H1 H2 H3 H4 H5 h3
      generalize grow (redrawn W3 q.d) q.os = W4 at *
      have h3s := (H3'.out.set (m * 2) k (by omega)).set (m * 2 + 1) (tSide k d) (by omega)
      rw [Nat.mul_comm m 2] at h3s
      rw [Nat.mul_comm 2 j, HK.out, HD.out] at HST
      rw [HST.out, Nat.mul_comm 2 m] at h3s
      have HS1 := Lib.hid h3s
      clear h3s
      go_simp
      go_wp2
      go_roundw
      case rel => exact ⟨j + 1, by omega, by go_num, (H1'.out.other (by omega) _ _).other (by omega) _ _, (H2'.out.other (by omega) _ _).other (by omega) _ _, HS1.out, (H4'.out.setCell (p := ⟨w.heap.size + 2, m * 2, none⟩) (by simp) _).setCell (p := ⟨w.heap.size + 2, m * 2 + 1, none⟩) (by simp) _, by simpa [World.size_setCell] using H5'.out⟩
      case measure => simp [intOf]; omega
    · obtain rfl : j = 64 := by omega
      have h1 := H1.out
      have e1 := h1.cell 128 (by omega)
      have e2 := h1.cell 129 (by omega)
      have e3 := h1.cell 130 (by omega)
      have h3 := H3.out
      have f1 := h3.cell 128 (by omega)
      have f2 := h3.cell 129 (by omega)
      have f3 := h3.cell 130 (by omega)
      have g1 := h3.fr 128
      have g2 := h3.fr 129
      have g3 := h3.fr 130
      have HT := Lib.hid (turn_last P (mixA P 64) (mixA_end P).1 (mixA_end P).2)
      obtain ⟨s, hs⟩ : ∃ s, P 128 = s := ⟨_, rfl⟩
      obtain ⟨c, hc⟩ : ∃ c, P 129 = c := ⟨_, rfl⟩
      obtain ⟨o, ho⟩ : ∃ o, P 130 = o := ⟨_, rfl⟩
      rw [hs] at e1 HT
      rw [hc] at e2 HT
      rw [ho] at e3 HT
      generalize mixA P 64 128 = y1 at f1
      generalize mixA P 64 129 = y2 at f2
      generalize mixA P 64 130 = y3 at f3
      clear h1 h3 hs hc ho
      go_wp2_with fail
      refine (other_any s _).mono ?_
      rintro e w2 ⟨rfl, rfl⟩
      go_wp2_with fail
      refine (turnCastle_any c _).mono ?_
      rintro e w2 ⟨rfl, rfl⟩
      go_wp2_with fail
      refine (turnSquare_any o _).mono ?_
      rintro e w2 ⟨rfl, hb2⟩
      have H1' := Lib.hid (((H1.out.other (c := w.heap.size + 2) (by omega) 128 (.int .i64 (oth s))).other (c := w.heap.size + 2) (by omega) 129 (.int .i64 (tCas c))).go hb2)
      have H2' := Lib.hid (((H2.out.other (c := w.heap.size + 2) (by omega) 128 (.int .i64 (oth s))).other (c := w.heap.size + 2) (by omega) 129 (.int .i64 (tCas c))).go hb2)
      have h3 := ((H3.out.set 128 (oth s) (by omega)).set 129 (tCas c) (by omega)).go hb2
      have H4' := Lib.hid (((H4.out.setCell (p := ⟨w.heap.size + 2, 128, none⟩) (by simp) (.int .i64 (oth s))).setCell (p := ⟨w.heap.size + 2, 129, none⟩) (by simp) (.int .i64 (tCas c))).trans (hb2.mono (by simp [World.size_setCell]; have := H5.out; omega)))
      have f3 := h3.cell 130 (by omega)
      have g3 := h3.fr 130
      have H3' := Lib.hid (by have := h3.set 130 (tSq o) (by omega); rwa [HT.out] at this)
      clear h3 hb2 H1 H2 H3 H4 H5 e1 e2 e3 f1 f2 g1 g2 HT
      generalize setN (setN (mixA P 64) 128 (oth s)) 129 (tCas c) 130 = y3 at f3
      go_upto_region 10 with (fail)
      have HB := Lib.hid (H4'.out.setCell (p := ⟨w.heap.size + 2, 130, none⟩) (by simp) (.int .i64 (tSq o)))
      have HT1 := Lib.hid (H2'.out.other (c := w.heap.size + 2) (by omega) 130 (.int .i64 (tSq o)))
      clear H1' H2' H4' f3 g3
      generalize w2.setCell ⟨w.heap.size + 2, 130, none⟩ (.int .i64 (tSq o)) = W7 at H3' HB HT1 ⊢
      have hts := HT1.out.there
      refine wp_region_lit ?_
      refine wpList_load_mid rfl 29 _ rfl (w.heap.size + 2) 0 rfl (pc (turnN P)) _ H3'.out.range Try.underlying29 rfl (by rw [infoPos, pc_len]) ?_
      refine wpList_store_mid rfl 29 _ _ rfl (w.heap.size + 1) 0 (pc (turnN P)).toArray rfl rfl (by rw [pc_size]; exact hts) (by rw [infoPos, pc_size]) (pc_one _) ?_
      rw [List.toList_toArray]
      have HR := Lib.hid (HT1.out.store (Q := turnN P)).range
      have HBB := Lib.hid (below_store (b := w.heap.size + 1) (turnN P) HB.out (by omega) HB.out.size)
      clear hts HB HT1 H3'
      generalize W7.setCells (w.heap.size + 1) 0 (pc (turnN P)) = W8 at HR HBB ⊢
      refine ret_go (by assumption) ?_
      refine bodyPost_ret (v := .agg (pc (turnN P)).toArray) ?_ rfl ⟨by rw [HY.out], HBB.out⟩
      exact results_cell_mid (p := 2) (ty := 29) rfl _ W8 (w.heap.size + 1) _ _ rfl HR.out Try.underlying29 rfl (by rw [infoPos, pc_len])
end Go.Proofs.Ytkdhkljnpalajaa
