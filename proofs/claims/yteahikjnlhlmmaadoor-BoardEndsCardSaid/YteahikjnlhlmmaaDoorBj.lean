/-
  Contracts: the document's positions turned.
-/
import Derived.Test.YteahikjnlhlmmaaDoorBi
namespace Go.Proofs.YteahikjnlhlmmaaDoor
open Go.RowKit Go.Sort
set_option linter.unusedSimpArgs false
set_option linter.unusedVariables false

theorem setN_self (Q : Nat → Int) (i : Nat) (x : Int) (h : Q i = x) : setN Q i x = Q := by
  funext j; unfold setN; split
  · rename_i e; rw [e, h]
  · rfl
theorem mir_parts (j : Nat) (hj : j < 64) : (j : Int).tdiv 8 = ((j / 8 : Nat) : Int) ∧ (j : Int).tmod 8 = ((j % 8 : Nat) : Int) ∧ 8 * (7 - ((j / 8 : Nat) : Int)) + ((j % 8 : Nat) : Int) = ((mir j : Nat) : Int) ∧ j / 8 < 8 ∧ j % 8 < 8 := by
  refine ⟨?_, ?_, ?_, by omega, by omega⟩
  · rw [Int.tdiv_eq_ediv_of_nonneg (by omega)]; omega
  · rw [Int.tmod_eq_emod_of_nonneg (by omega)]; omega
  · unfold mir; omega
set_option maxHeartbeats 2000000 in
set_option maxRecDepth 100000 in
theorem rTurn_any (P : Nat → Int) (w : World) :
    Calls Tryd.prog 15 #[.agg (pc P).toArray] w fun e w' => e = .returned (.agg (pc (turnN P)).toArray) ∧ Below w.heap.size w w' := by
  obtain ⟨X, hX⟩ : ∃ X, X = (pc P).toArray := ⟨_, rfl⟩
  obtain ⟨Y, hY⟩ : ∃ Y, Y = (pc (turnN P)).toArray := ⟨_, rfl⟩
  rw [← hX, ← hY]
  have HX := Lib.hid hX
  have HY := Lib.hid hY
  have hp0 : PB ((w.alloc (.cells X 29)).alloc (.cells Tryd.zeroCells29 29)) w.heap.size P ∧ PB ((w.alloc (.cells X 29)).alloc (.cells Tryd.zeroCells29 29)) (w.heap.size + 1) (fun _ => 0) ∧
      Below w.heap.size w ((w.alloc (.cells X 29)).alloc (.cells Tryd.zeroCells29 29)) ∧ ((w.alloc (.cells X 29)).alloc (.cells Tryd.zeroCells29 29)).heap.size = w.heap.size + 2 := by
    obtain ⟨a1, a2, a3, a4⟩ := two_at w (.cells X 29) (.cells Tryd.zeroCells29 29)
    rw [zeroPos] at a2 ⊢
    exact ⟨PB.of_block (by rw [hX] at a1 ⊢; exact a1), PB.of_block a2, a3, a4⟩
  have HP0 := Lib.hid hp0
  clear hX hY hp0
  go_enter Tryd.func15, Tryd.ntmps15
  go_upto_region 1 with (fail)
  refine forget_B (fun W => PB W w.heap.size P ∧ PB W (w.heap.size + 1) (fun _ => 0) ∧ Below w.heap.size w W ∧ W.heap.size = w.heap.size + 2) HP0.out ?_
  clear HP0
  rintro W ⟨h1, h2, h3, h4⟩
  have H1 := Lib.hid h1
  have H2 := Lib.hid h2
  have H3 := Lib.hid h3
  have H4 := Lib.hid h4
  clear h1 h2 h3 h4
  refine wp_region_lit ?_
  refine wpList_load_mid rfl 29 _ rfl w.heap.size 0 rfl (pc P) _ H1.out.range Tryd.underlying29 rfl (by rw [infoPos, pc_len]) ?_
  refine wpList_plain rfl (fun K hK => ?_)
  go_simp
  refine hK _ _ ?_
  clear hK K
  have ht : (W.alloc (.cells Tryd.zeroCells29 29)).there W.heap.size 0 133 := by rw [zeroPos]; exact (PB.new rfl).there
  refine wpList_store_mid rfl 29 _ _ rfl W.heap.size 0 (pc P).toArray rfl rfl (by rw [pc_size]; exact ht) (by rw [infoPos, pc_size]) (pc_one P) ?_
  rw [List.toList_toArray]
  refine forgetL_B (fun W2 => PB W2 w.heap.size P ∧ PB W2 (w.heap.size + 1) (fun _ => 0) ∧ PB W2 (w.heap.size + 2) P ∧ Below w.heap.size w W2 ∧ W2.heap.size = w.heap.size + 3) (by
    rw [zeroPos, H4.out]
    have n1 := H4.out
    refine ⟨((H1.out).alloc _).others (by omega) _ _, (H2.out.alloc _).others (by omega) _ _, (PB.new (P := fun _ => 0) (by omega)).store, below_store P (H3.out.alloc (by omega) _) (by omega) (by simp; omega), by rw [sizes_B]; simp; omega⟩) ?_
  clear H1 H2 H3 ht
  rw [H4.out]
  clear H4
  rintro W2 ⟨h1, h2, h3, h4, h5⟩
  have H1 := Lib.hid h1
  have H2 := Lib.hid h2
  have H3 := Lib.hid h3
  have H4 := Lib.hid h4
  have H5 := Lib.hid h5
  clear h1 h2 h3 h4 h5
  rw [← HX.out]
  show Exit.then _ _ Exit.normal _ _
  go_wp2
  go_loopw [4] (fun i wr => ∃ j : Nat, j ≤ 64 ∧ i = .int .i64 (j : Int) ∧ PB wr w.heap.size P ∧ PB wr (w.heap.size + 1) (fun _ => 0) ∧ PB wr (w.heap.size + 2) (mixB P j) ∧ Below w.heap.size w wr ∧ w.heap.size + 3 ≤ wr.heap.size) (fun i _ => 64 - (intOf i).toNat)
  case atStart => exact ⟨0, Nat.zero_le _, rfl, H1.out, H2.out, by rw [mixB_zero]; exact H3.out, H4.out, by rw [H5.out]; omega⟩
  case round =>
    clear H1 H2 H3 H4 H5
    obtain ⟨j, hj, rfl, h1, h2, h3, h4, h5⟩ := hrel
    have H1 := Lib.hid h1
    have H2 := Lib.hid h2
    have H3 := Lib.hid h3
    have H4 := Lib.hid h4
    have H5 := Lib.hid h5
    clear h1 h2 h3 h4 h5
    by_cases hlt : j < 64
    · obtain ⟨hq, hr, hz, ha, hb⟩ := mir_parts j hlt
      have HST := Lib.hid (mixB_step P j hlt)
      have hm := mir_lt j hlt
      generalize mir j = m at hz HST hm
      generalize j / 8 = a at hq hz ha
      generalize j % 8 = b at hr hz hb
      have hm1 : (0 : Int) ≤ (m : Int) := by omega
      have hm2 : (m : Int) < 64 := by omega
      have e1 := H1.out.cell (m * 2) (by omega)
      have e2 := H1.out.cell (m * 2 + 1) (by omega)
      obtain ⟨k, hk⟩ : ∃ k, P (m * 2) = k := ⟨_, rfl⟩
      obtain ⟨d, hd⟩ : ∃ d, P (m * 2 + 1) = d := ⟨_, rfl⟩
      rw [hk] at e1
      rw [hd] at e2
      rw [Nat.mul_comm 2 m, hk, hd] at HST
      clear hk hd
      go_upto_region 6 with (fail)
      refine forget_B (fun W => PB W w.heap.size P ∧ PB W (w.heap.size + 1) (fun _ => 0) ∧ PB W (w.heap.size + 2) (mixB P j) ∧ Below w.heap.size w W ∧ w.heap.size + 3 ≤ W.heap.size ∧ W.heap[wr.heap.size]? = some (.cells #[.int .i64 k, .int .i64 d] 25 (0, 0)))
        ⟨H1.out.alloc _, H2.out.alloc _, H3.out.alloc _, H4.out.alloc H4.out.size _, by simp; have := H5.out; omega, sl_at rfl⟩ ?_
      have HZ := Lib.hid (show w.heap.size + 3 ≤ wr.heap.size from H5.out)
      clear H1 H2 H3 H4 H5 e1 e2 hz hq hr ha hb
      rintro W3 ⟨h1, h2, h3, h4, h5, h6⟩
      obtain ⟨q1, q2, qf, qz⟩ := row2 h6
      have H1 := Lib.hid h1
      have H2 := Lib.hid h2
      have H3 := Lib.hid h3
      have H4 := Lib.hid h4
      have H5 := Lib.hid h5
      have H6 := Lib.hid h6
      clear h1 h2 h3 h4 h5 h6
      obtain ⟨mb, hmb⟩ : ∃ mb, mayB k d = mb := ⟨_, rfl⟩
      have hts : tSide k d = if mb then oth d else d := by unfold tSide; rw [hmb]
      rw [hts] at HST
      clear hts
      have HMB := Lib.hid hmb
      clear hmb
      go_wp2_with fail
      refine (rMay_any k d _).mono ?_
      rw [HMB.out]
      rintro e w4 ⟨rfl, hb4⟩
      clear q1 q2 qf qz
      have h6 := sl_go H6.out hb4
      obtain ⟨q1, q2, qf, qz⟩ := row2 h6
      have H1' := Lib.hid (H1.out.go hb4)
      have H2' := Lib.hid (H2.out.go hb4)
      have h3 := H3.out.go hb4
      have H3' := Lib.hid h3
      have H4' := Lib.hid (H4.out.trans (hb4.mono H4.out.size))
      have H5' := Lib.hid (Nat.le_trans H5.out hb4.size)
      have H6' := Lib.hid h6
      have e1 := h3.cell (j * 2) (by omega)
      have e2 := h3.cell (j * 2 + 1) (by omega)
      have e3 := h3.fr (j * 2)
      have e4 := h3.fr (j * 2 + 1)
      clear H1 H2 H3 H4 H5 H6 h3 h6 hb4
      cases mb
      · have h3s := (H3'.out.set (j * 2) k (by omega)).set (j * 2 + 1) d (by omega)
        rw [Nat.mul_comm j 2] at h3s
        have HS1 := Lib.hid (by rw [show setN (setN (mixB P j) (2 * j) k) (2 * j + 1) d = mixB P (j + 1) from HST.out] at h3s; exact h3s)
        rw [Nat.mul_comm 2 j] at HS1
        clear h3s HST
        go_wp2
        go_roundw
        case rel => exact ⟨j + 1, by omega, by go_num, (H1'.out.other (by omega) _ _).other (by omega) _ _, (H2'.out.other (by omega) _ _).other (by omega) _ _, HS1.out, (H4'.out.setCell (p := ⟨w.heap.size + 2, j * 2, none⟩) (by simp) _).setCell (p := ⟨w.heap.size + 2, j * 2 + 1, none⟩) (by simp) _, by simpa [World.size_setCell] using H5'.out⟩
        case measure => simp [intOf]; omega
      · have H1x := Lib.hid (H1'.out.other (c := wr.heap.size) (by have := HZ.out; omega) 1 (.int .i64 (oth d)))
        have H2x := Lib.hid (H2'.out.other (c := wr.heap.size) (by have := HZ.out; omega) 1 (.int .i64 (oth d)))
        have h3x := H3'.out.other (c := wr.heap.size) (by have := HZ.out; omega) 1 (.int .i64 (oth d))
        have H4x := Lib.hid (H4'.out.setCell (p := ⟨wr.heap.size, 1, none⟩) (by simp; have := HZ.out; omega) (.int .i64 (oth d)))
        have h3s := (h3x.set (j * 2) k (by omega)).set (j * 2 + 1) (oth d) (by omega)
        rw [Nat.mul_comm j 2] at h3s
        have HS1 := Lib.hid (by rw [show setN (setN (mixB P j) (2 * j) k) (2 * j + 1) (oth d) = mixB P (j + 1) from HST.out] at h3s; exact h3s)
        rw [Nat.mul_comm 2 j] at HS1
        have e1 := h3x.cell (j * 2) (by omega)
        have e2 := h3x.cell (j * 2 + 1) (by omega)
        clear h3s h3x HST
        go_wp2_with fail
        refine (rOther_any d _).mono ?_
        rintro e w5 ⟨rfl, rfl⟩
        go_wp2
        go_roundw
        case rel => exact ⟨j + 1, by omega, by go_num, (H1x.out.other (by omega) _ _).other (by omega) _ _, (H2x.out.other (by omega) _ _).other (by omega) _ _, HS1.out, (H4x.out.setCell (p := ⟨w.heap.size + 2, j * 2, none⟩) (by simp) _).setCell (p := ⟨w.heap.size + 2, j * 2 + 1, none⟩) (by simp) _, by simpa [World.size_setCell] using H5'.out⟩
        case measure => simp [intOf]; omega
    · obtain rfl : j = 64 := by omega
      have hQ2 : mixB P 64 129 = P 129 := (mixB_end P).2 129 (by omega)
      have hQ3 : mixB P 64 130 = P 130 := (mixB_end P).2 130 (by omega)
      have ht := turn_last P (mixB P 64) (mixB_end P).1 (mixB_end P).2
      have h1 := H1.out
      have e1 := h1.cell 128 (by omega)
      have e2 := h1.cell 129 (by omega)
      have e3 := h1.cell 130 (by omega)
      have h3 := H3.out
      have f1 := h3.cell 128 (by omega)
      have f2 := h3.cell 129 (by omega)
      have f3 := h3.cell 130 (by omega)
      have g1 := h3.fr 128
      have g2 := h3.fr 129
      have g3 := h3.fr 130
      obtain ⟨s, hs⟩ : ∃ s, P 128 = s := ⟨_, rfl⟩
      obtain ⟨c, hc⟩ : ∃ c, P 129 = c := ⟨_, rfl⟩
      obtain ⟨o, ho⟩ : ∃ o, P 130 = o := ⟨_, rfl⟩
      rw [hs] at e1 ht
      rw [hc] at e2 ht hQ2
      rw [ho] at e3 ht hQ3
      have HOO := Lib.hid ho
      rw [hQ2] at f2
      rw [hQ3] at f3
      generalize mixB P 64 128 = y1 at f1
      have k1 := h3.set 128 (oth s) (by omega)
      have hK1 := H1.out.other (c := w.heap.size + 2) (by omega) 128 (.int .i64 (oth s))
      have hK2 := H2.out.other (c := w.heap.size + 2) (by omega) 128 (.int .i64 (oth s))
      have hK4 := H4.out.setCell (p := ⟨w.heap.size + 2, 128, none⟩) (by simp) (.int .i64 (oth s))
      have KS := Lib.hid H5.out
      have hc2 : casB c = false → setN (mixB P 64) 128 (oth s) = setN (setN (mixB P 64) 128 (oth s)) 129 (tCas c) := fun hx => by
        rw [setN_self _ 129]
        unfold setN; rw [if_neg (by omega), hQ2]; unfold tCas; rw [hx]; simp
      have ho2 : sq o = false → setN (setN (mixB P 64) 128 (oth s)) 129 (tCas c) = setN (setN (setN (mixB P 64) 128 (oth s)) 129 (tCas c)) 130 (tSq o) := fun hx => by
        rw [setN_self _ 130]
        unfold setN; rw [if_neg (by omega), if_neg (by omega), hQ3]; unfold tSq; rw [hx]; simp
      have HC2 := Lib.hid hc2
      have HO2 := Lib.hid ho2
      have HT := Lib.hid ht
      have K1 := Lib.hid hK1
      have K2 := Lib.hid hK2
      have K3 := Lib.hid k1
      have K4 := Lib.hid hK4
      clear h1 h3 hs hc ho hQ2 hQ3 k1 ht hK1 hK2 hK4 hc2 ho2 H1 H2 H3 H4 H5
      have hcv : (casB c = true → tCas c = c % 4 * 4 + c / 4) := fun hx => by unfold tCas; rw [if_pos hx]
      have hov : (sq o = true → tSq o = 8 * (7 - o / 8) + o % 8) := fun hx => by unfold tSq; rw [if_pos hx]
      have HCV := Lib.hid hcv
      have HOV := Lib.hid hov
      clear hcv hov
      rcases cas_cases c with ⟨c1, hcb⟩ | ⟨c1, hcb⟩ | ⟨c1, c2, hcb⟩
      case inr.inr =>
        have t1 := tm4 c1
        have t2 := td4 c1
        have HV := Lib.hid (HCV.out hcb)
        clear hcb
        go_wp2_with fail
        refine (rOther_any s _).mono ?_
        rintro e w5 ⟨rfl, rfl⟩
        go_upto_region 12 with (fail)
        rw [← HV.out]
        refine forget_B (fun W => PB W w.heap.size P ∧ PB W (w.heap.size + 1) (fun _ => 0) ∧ PB W (w.heap.size + 2) (setN (setN (mixB P 64) 128 (oth s)) 129 (tCas c)) ∧ Below w.heap.size w W ∧ w.heap.size + 3 ≤ W.heap.size) ⟨K1.out.other (c := w.heap.size + 2) (by omega) 129 (.int .i64 (tCas c)), K2.out.other (c := w.heap.size + 2) (by omega) 129 (.int .i64 (tCas c)), K3.out.set 129 (tCas c) (by omega), K4.out.setCell (p := ⟨w.heap.size + 2, 129, none⟩) (by simp) (.int .i64 (tCas c)), by simpa [World.size_setCell] using KS.out⟩ ?_
        clear t1 t2 HV
        clear K1 K2 K3 K4 KS e1 e2 e3 f1 f2 f3 g1 g2 g3
        rintro W5 ⟨k1, k2, k3, k4, k5⟩
        have e3 := k1.cell 130 (by omega)
        rw [HOO.out] at e3
        have f3 := k3.cell 130 (by omega)
        have g3 := k3.fr 130
        generalize setN (setN (mixB P 64) 128 (oth s)) 129 (tCas c) 130 = y3 at f3
        have K1 := Lib.hid k1
        have K2 := Lib.hid k2
        have K3 := Lib.hid k3
        have K4 := Lib.hid k4
        have K5 := Lib.hid k5
        clear k1 k2 k3 k4 k5
        rcases sq_cases o with ⟨o1, hob⟩ | ⟨o1, hob⟩ | ⟨o1, o2, hob⟩
        case inr.inr =>
          have t1 : o.tdiv 8 = o / 8 := Int.tdiv_eq_ediv_of_nonneg o1
          have t2 : o.tmod 8 = o % 8 := Int.tmod_eq_emod_of_nonneg o1
          have HV := Lib.hid (HOV.out hob)
          have t3 : 0 ≤ o / 8 ∧ o / 8 ≤ 7 := by omega
          have t4 : 0 ≤ o % 8 ∧ o % 8 ≤ 7 := by omega
          generalize o / 8 = qa at t1 t3 HV
          generalize o % 8 = qb at t2 t4 HV
          obtain ⟨t5, t6⟩ := t3
          obtain ⟨t7, t8⟩ := t4
          clear hob
          go_upto_region 14 with (fail)
          rw [← HV.out]
          refine forget_B (fun W => PB W (w.heap.size + 1) (fun _ => 0) ∧ PB W (w.heap.size + 2) (turnN P) ∧ Below w.heap.size w W) ⟨K2.out.other (c := w.heap.size + 2) (by omega) 130 (.int .i64 (tSq o)), by rw [← HT.out]; exact K3.out.set 130 (tSq o) (by omega), K4.out.setCell (p := ⟨w.heap.size + 2, 130, none⟩) (by simp) (.int .i64 (tSq o))⟩ ?_
          clear K1 K2 K3 K4 K5 e3 f3 g3 t1 t2 t5 t6 t7 t8 HV
          rintro W7 ⟨k2, k3, k4⟩
          have HB := Lib.hid k4
          have HT1 := Lib.hid k2
          have K3 := Lib.hid k3
          clear k2 k3 k4
          have hts := HT1.out.there
          refine wp_region_lit ?_
          refine wpList_load_mid rfl 29 _ rfl (w.heap.size + 2) 0 rfl (pc (turnN P)) _ K3.out.range Tryd.underlying29 rfl (by rw [infoPos, pc_len]) ?_
          refine wpList_store_mid rfl 29 _ _ rfl (w.heap.size + 1) 0 (pc (turnN P)).toArray rfl rfl (by rw [pc_size]; exact hts) (by rw [infoPos, pc_size]) (pc_one _) ?_
          rw [List.toList_toArray]
          have HR := Lib.hid (HT1.out.store (Q := turnN P)).range
          have HBB := Lib.hid (below_store (b := w.heap.size + 1) (turnN P) HB.out (by omega) HB.out.size)
          clear hts HB HT1 K3
          generalize W7.setCells (w.heap.size + 1) 0 (pc (turnN P)) = W8 at HR HBB ⊢
          refine ret_go (by assumption) ?_
          refine bodyPost_ret (v := .agg (pc (turnN P)).toArray) ?_ rfl ⟨by rw [HY.out], HBB.out⟩
          exact results_cell_mid (p := 2) (ty := 29) rfl _ W8 (w.heap.size + 1) _ _ rfl HR.out Tryd.underlying29 rfl (by rw [infoPos, pc_len])
        all_goals
          go_upto_region 14 with (fail)
          refine forget_B (fun W => PB W (w.heap.size + 1) (fun _ => 0) ∧ PB W (w.heap.size + 2) (turnN P) ∧ Below w.heap.size w W) ⟨K2.out, by rw [← HT.out, ← HO2.out hob]; exact K3.out, K4.out⟩ ?_
          clear K1 K2 K3 K4 K5 e3 f3 g3 hob
          rintro W7 ⟨k2, k3, k4⟩
          have HB := Lib.hid k4
          have HT1 := Lib.hid k2
          have K3 := Lib.hid k3
          clear k2 k3 k4
          have hts := HT1.out.there
          refine wp_region_lit ?_
          refine wpList_load_mid rfl 29 _ rfl (w.heap.size + 2) 0 rfl (pc (turnN P)) _ K3.out.range Tryd.underlying29 rfl (by rw [infoPos, pc_len]) ?_
          refine wpList_store_mid rfl 29 _ _ rfl (w.heap.size + 1) 0 (pc (turnN P)).toArray rfl rfl (by rw [pc_size]; exact hts) (by rw [infoPos, pc_size]) (pc_one _) ?_
          rw [List.toList_toArray]
          have HR := Lib.hid (HT1.out.store (Q := turnN P)).range
          have HBB := Lib.hid (below_store (b := w.heap.size + 1) (turnN P) HB.out (by omega) HB.out.size)
          clear hts HB HT1 K3
          generalize W7.setCells (w.heap.size + 1) 0 (pc (turnN P)) = W8 at HR HBB ⊢
          refine ret_go (by assumption) ?_
          refine bodyPost_ret (v := .agg (pc (turnN P)).toArray) ?_ rfl ⟨by rw [HY.out], HBB.out⟩
          exact results_cell_mid (p := 2) (ty := 29) rfl _ W8 (w.heap.size + 1) _ _ rfl HR.out Tryd.underlying29 rfl (by rw [infoPos, pc_len])
      case inl =>
        go_wp2_with fail
        refine (rOther_any s _).mono ?_
        rintro e w5 ⟨rfl, rfl⟩
        go_upto_region 12 with (fail)
        refine forget_B (fun W => PB W w.heap.size P ∧ PB W (w.heap.size + 1) (fun _ => 0) ∧ PB W (w.heap.size + 2) (setN (setN (mixB P 64) 128 (oth s)) 129 (tCas c)) ∧ Below w.heap.size w W ∧ w.heap.size + 3 ≤ W.heap.size) ⟨K1.out, K2.out, by rw [← HC2.out hcb]; exact K3.out, K4.out, by simpa [World.size_setCell] using KS.out⟩ ?_
        clear hcb
        clear K1 K2 K3 K4 KS e1 e2 e3 f1 f2 f3 g1 g2 g3
        rintro W5 ⟨k1, k2, k3, k4, k5⟩
        have e3 := k1.cell 130 (by omega)
        rw [HOO.out] at e3
        have f3 := k3.cell 130 (by omega)
        have g3 := k3.fr 130
        generalize setN (setN (mixB P 64) 128 (oth s)) 129 (tCas c) 130 = y3 at f3
        have K1 := Lib.hid k1
        have K2 := Lib.hid k2
        have K3 := Lib.hid k3
        have K4 := Lib.hid k4
        have K5 := Lib.hid k5
        clear k1 k2 k3 k4 k5
        rcases sq_cases o with ⟨o1, hob⟩ | ⟨o1, hob⟩ | ⟨o1, o2, hob⟩
        case inr.inr =>
          have t1 : o.tdiv 8 = o / 8 := Int.tdiv_eq_ediv_of_nonneg o1
          have t2 : o.tmod 8 = o % 8 := Int.tmod_eq_emod_of_nonneg o1
          have HV := Lib.hid (HOV.out hob)
          have t3 : 0 ≤ o / 8 ∧ o / 8 ≤ 7 := by omega
          have t4 : 0 ≤ o % 8 ∧ o % 8 ≤ 7 := by omega
          generalize o / 8 = qa at t1 t3 HV
          generalize o % 8 = qb at t2 t4 HV
          obtain ⟨t5, t6⟩ := t3
          obtain ⟨t7, t8⟩ := t4
          clear hob
          go_upto_region 14 with (fail)
          rw [← HV.out]
          refine forget_B (fun W => PB W (w.heap.size + 1) (fun _ => 0) ∧ PB W (w.heap.size + 2) (turnN P) ∧ Below w.heap.size w W) ⟨K2.out.other (c := w.heap.size + 2) (by omega) 130 (.int .i64 (tSq o)), by rw [← HT.out]; exact K3.out.set 130 (tSq o) (by omega), K4.out.setCell (p := ⟨w.heap.size + 2, 130, none⟩) (by simp) (.int .i64 (tSq o))⟩ ?_
          clear K1 K2 K3 K4 K5 e3 f3 g3 t1 t2 t5 t6 t7 t8 HV
          rintro W7 ⟨k2, k3, k4⟩
          have HB := Lib.hid k4
          have HT1 := Lib.hid k2
          have K3 := Lib.hid k3
          clear k2 k3 k4
          have hts := HT1.out.there
          refine wp_region_lit ?_
          refine wpList_load_mid rfl 29 _ rfl (w.heap.size + 2) 0 rfl (pc (turnN P)) _ K3.out.range Tryd.underlying29 rfl (by rw [infoPos, pc_len]) ?_
          refine wpList_store_mid rfl 29 _ _ rfl (w.heap.size + 1) 0 (pc (turnN P)).toArray rfl rfl (by rw [pc_size]; exact hts) (by rw [infoPos, pc_size]) (pc_one _) ?_
          rw [List.toList_toArray]
          have HR := Lib.hid (HT1.out.store (Q := turnN P)).range
          have HBB := Lib.hid (below_store (b := w.heap.size + 1) (turnN P) HB.out (by omega) HB.out.size)
          clear hts HB HT1 K3
          generalize W7.setCells (w.heap.size + 1) 0 (pc (turnN P)) = W8 at HR HBB ⊢
          refine ret_go (by assumption) ?_
          refine bodyPost_ret (v := .agg (pc (turnN P)).toArray) ?_ rfl ⟨by rw [HY.out], HBB.out⟩
          exact results_cell_mid (p := 2) (ty := 29) rfl _ W8 (w.heap.size + 1) _ _ rfl HR.out Tryd.underlying29 rfl (by rw [infoPos, pc_len])
        all_goals
          go_upto_region 14 with (fail)
          refine forget_B (fun W => PB W (w.heap.size + 1) (fun _ => 0) ∧ PB W (w.heap.size + 2) (turnN P) ∧ Below w.heap.size w W) ⟨K2.out, by rw [← HT.out, ← HO2.out hob]; exact K3.out, K4.out⟩ ?_
          clear K1 K2 K3 K4 K5 e3 f3 g3 hob
          rintro W7 ⟨k2, k3, k4⟩
          have HB := Lib.hid k4
          have HT1 := Lib.hid k2
          have K3 := Lib.hid k3
          clear k2 k3 k4
          have hts := HT1.out.there
          refine wp_region_lit ?_
          refine wpList_load_mid rfl 29 _ rfl (w.heap.size + 2) 0 rfl (pc (turnN P)) _ K3.out.range Tryd.underlying29 rfl (by rw [infoPos, pc_len]) ?_
          refine wpList_store_mid rfl 29 _ _ rfl (w.heap.size + 1) 0 (pc (turnN P)).toArray rfl rfl (by rw [pc_size]; exact hts) (by rw [infoPos, pc_size]) (pc_one _) ?_
          rw [List.toList_toArray]
          have HR := Lib.hid (HT1.out.store (Q := turnN P)).range
          have HBB := Lib.hid (below_store (b := w.heap.size + 1) (turnN P) HB.out (by omega) HB.out.size)
          clear hts HB HT1 K3
          generalize W7.setCells (w.heap.size + 1) 0 (pc (turnN P)) = W8 at HR HBB ⊢
          refine ret_go (by assumption) ?_
          refine bodyPost_ret (v := .agg (pc (turnN P)).toArray) ?_ rfl ⟨by rw [HY.out], HBB.out⟩
          exact results_cell_mid (p := 2) (ty := 29) rfl _ W8 (w.heap.size + 1) _ _ rfl HR.out Tryd.underlying29 rfl (by rw [infoPos, pc_len])
      case inr.inl =>
        go_wp2_with fail
        refine (rOther_any s _).mono ?_
        rintro e w5 ⟨rfl, rfl⟩
        go_upto_region 12 with (fail)
        refine forget_B (fun W => PB W w.heap.size P ∧ PB W (w.heap.size + 1) (fun _ => 0) ∧ PB W (w.heap.size + 2) (setN (setN (mixB P 64) 128 (oth s)) 129 (tCas c)) ∧ Below w.heap.size w W ∧ w.heap.size + 3 ≤ W.heap.size) ⟨K1.out, K2.out, by rw [← HC2.out hcb]; exact K3.out, K4.out, by simpa [World.size_setCell] using KS.out⟩ ?_
        clear hcb
        clear K1 K2 K3 K4 KS e1 e2 e3 f1 f2 f3 g1 g2 g3
        rintro W5 ⟨k1, k2, k3, k4, k5⟩
        have e3 := k1.cell 130 (by omega)
        rw [HOO.out] at e3
        have f3 := k3.cell 130 (by omega)
        have g3 := k3.fr 130
        generalize setN (setN (mixB P 64) 128 (oth s)) 129 (tCas c) 130 = y3 at f3
        have K1 := Lib.hid k1
        have K2 := Lib.hid k2
        have K3 := Lib.hid k3
        have K4 := Lib.hid k4
        have K5 := Lib.hid k5
        clear k1 k2 k3 k4 k5
        rcases sq_cases o with ⟨o1, hob⟩ | ⟨o1, hob⟩ | ⟨o1, o2, hob⟩
        case inr.inr =>
          have t1 : o.tdiv 8 = o / 8 := Int.tdiv_eq_ediv_of_nonneg o1
          have t2 : o.tmod 8 = o % 8 := Int.tmod_eq_emod_of_nonneg o1
          have HV := Lib.hid (HOV.out hob)
          have t3 : 0 ≤ o / 8 ∧ o / 8 ≤ 7 := by omega
          have t4 : 0 ≤ o % 8 ∧ o % 8 ≤ 7 := by omega
          generalize o / 8 = qa at t1 t3 HV
          generalize o % 8 = qb at t2 t4 HV
          obtain ⟨t5, t6⟩ := t3
          obtain ⟨t7, t8⟩ := t4
          clear hob
          go_upto_region 14 with (fail)
          rw [← HV.out]
          refine forget_B (fun W => PB W (w.heap.size + 1) (fun _ => 0) ∧ PB W (w.heap.size + 2) (turnN P) ∧ Below w.heap.size w W) ⟨K2.out.other (c := w.heap.size + 2) (by omega) 130 (.int .i64 (tSq o)), by rw [← HT.out]; exact K3.out.set 130 (tSq o) (by omega), K4.out.setCell (p := ⟨w.heap.size + 2, 130, none⟩) (by simp) (.int .i64 (tSq o))⟩ ?_
          clear K1 K2 K3 K4 K5 e3 f3 g3 t1 t2 t5 t6 t7 t8 HV
          rintro W7 ⟨k2, k3, k4⟩
          have HB := Lib.hid k4
          have HT1 := Lib.hid k2
          have K3 := Lib.hid k3
          clear k2 k3 k4
          have hts := HT1.out.there
          refine wp_region_lit ?_
          refine wpList_load_mid rfl 29 _ rfl (w.heap.size + 2) 0 rfl (pc (turnN P)) _ K3.out.range Tryd.underlying29 rfl (by rw [infoPos, pc_len]) ?_
          refine wpList_store_mid rfl 29 _ _ rfl (w.heap.size + 1) 0 (pc (turnN P)).toArray rfl rfl (by rw [pc_size]; exact hts) (by rw [infoPos, pc_size]) (pc_one _) ?_
          rw [List.toList_toArray]
          have HR := Lib.hid (HT1.out.store (Q := turnN P)).range
          have HBB := Lib.hid (below_store (b := w.heap.size + 1) (turnN P) HB.out (by omega) HB.out.size)
          clear hts HB HT1 K3
          generalize W7.setCells (w.heap.size + 1) 0 (pc (turnN P)) = W8 at HR HBB ⊢
          refine ret_go (by assumption) ?_
          refine bodyPost_ret (v := .agg (pc (turnN P)).toArray) ?_ rfl ⟨by rw [HY.out], HBB.out⟩
          exact results_cell_mid (p := 2) (ty := 29) rfl _ W8 (w.heap.size + 1) _ _ rfl HR.out Tryd.underlying29 rfl (by rw [infoPos, pc_len])
        all_goals
          go_upto_region 14 with (fail)
          refine forget_B (fun W => PB W (w.heap.size + 1) (fun _ => 0) ∧ PB W (w.heap.size + 2) (turnN P) ∧ Below w.heap.size w W) ⟨K2.out, by rw [← HT.out, ← HO2.out hob]; exact K3.out, K4.out⟩ ?_
          clear K1 K2 K3 K4 K5 e3 f3 g3 hob
          rintro W7 ⟨k2, k3, k4⟩
          have HB := Lib.hid k4
          have HT1 := Lib.hid k2
          have K3 := Lib.hid k3
          clear k2 k3 k4
          have hts := HT1.out.there
          refine wp_region_lit ?_
          refine wpList_load_mid rfl 29 _ rfl (w.heap.size + 2) 0 rfl (pc (turnN P)) _ K3.out.range Tryd.underlying29 rfl (by rw [infoPos, pc_len]) ?_
          refine wpList_store_mid rfl 29 _ _ rfl (w.heap.size + 1) 0 (pc (turnN P)).toArray rfl rfl (by rw [pc_size]; exact hts) (by rw [infoPos, pc_size]) (pc_one _) ?_
          rw [List.toList_toArray]
          have HR := Lib.hid (HT1.out.store (Q := turnN P)).range
          have HBB := Lib.hid (below_store (b := w.heap.size + 1) (turnN P) HB.out (by omega) HB.out.size)
          clear hts HB HT1 K3
          generalize W7.setCells (w.heap.size + 1) 0 (pc (turnN P)) = W8 at HR HBB ⊢
          refine ret_go (by assumption) ?_
          refine bodyPost_ret (v := .agg (pc (turnN P)).toArray) ?_ rfl ⟨by rw [HY.out], HBB.out⟩
          exact results_cell_mid (p := 2) (ty := 29) rfl _ W8 (w.heap.size + 1) _ _ rfl HR.out Tryd.underlying29 rfl (by rw [infoPos, pc_len])
end Go.Proofs.YteahikjnlhlmmaaDoor
