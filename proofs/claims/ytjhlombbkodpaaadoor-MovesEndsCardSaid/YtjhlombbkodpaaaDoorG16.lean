/-
  Merged: Bt, Bu.
-/
import Derived.Test.YtjhlombbkodpaaaDoorG15
import Derived.Test.YtjhlombbkodpaaaDoorG14

namespace Go.Proofs.YtjhlombbkodpaaaDoor
open Go.RowKit Go.Sort
set_option linter.unusedSimpArgs false
set_option linter.unusedVariables false

def casN (i : Nat) : Int := [1, 0, 4, 7, 2, 0, 4, 0, 4, 1, 60, 63, 8, 1, 60, 56].getD i 0
structure GB (B : Nat) (w : World) : Prop where
  c : 2 < B
  cas : ∀ i, i < 16 → w.cell? ⟨2, i, none⟩ = some (.int .i64 (casN i))
theorem GB.below {B : Nat} {w w' : World} (h : GB B w) (g : Below B w w') : GB B w' :=
  ⟨h.c, fun i hi => by rw [g.cell (p := ⟨_, i, none⟩) h.c]; exact h.cas i hi⟩
theorem GB.mono {B B' : Nat} {w : World} (h : GB B w) (hb : B ≤ B') : GB B' w :=
  ⟨Nat.lt_of_lt_of_le h.c hb, h.cas⟩
theorem GB.casR {B : Nat} {w : World} (h : GB B w) : w.rangeAt 2 0 (nums casN 0 16) := fun j v hv => by
  have hj : j < 16 := by have := (List.getElem?_eq_some_iff.1 hv).1; rwa [nums_len] at this
  rw [nums_get _ _ _ _ hj, Nat.zero_add] at hv
  rw [Nat.zero_add, h.cas j hj, hv]
theorem infoCas : (Tryd.prog.info? 118).map (·.size) = some 4 := by kernel_rfl
theorem infoCas4 : (Tryd.prog.info? 119).map (·.size) = some 16 := by kernel_rfl
theorem nums_four (P : Nat → Int) (a : Nat) : (nums P a 4).toArray = #[.int .i64 (P a), .int .i64 (P (a + 1)), .int .i64 (P (a + 2)), .int .i64 (P (a + 3))] := rfl
theorem index_cas (P : Nat → Int) (j : Nat) (hj : j < 4) (w : World) : (Instr.index 119 (.agg (nums P 0 16).toArray) (.int .i64 (j : Int))).run Tryd.prog w = .ok (.agg #[.int .i64 (P (j * 4)), .int .i64 (P (j * 4 + 1)), .int .i64 (P (j * 4 + 2)), .int .i64 (P (j * 4 + 3))]) w := by
  have px : (Go.part 118 (nums P 0 16).toArray (j * 4)).run Tryd.prog w = .ok (.agg #[.int .i64 (P (j * 4)), .int .i64 (P (j * 4 + 1)), .int .i64 (P (j * 4 + 2)), .int .i64 (P (j * 4 + 3))]) w := by
    simp only [Go.part, isAgg, Sem.run_bind, run_underlying Tryd.underlying118, Result.andThen_ok, Sem.run_pure, if_true, size_of_info infoCas, nums_cut P 0 16 (j * 4) (j * 4 + 4) (by omega) (by omega)]
    rw [show j * 4 + 4 - j * 4 = 4 by omega, nums_four, Nat.zero_add]
  have hr : 0 ≤ (j : Int) ∧ (j : Int) < (4 : Nat) := by omega
  simp only [Instr.index, asIntOf, Sem.run_bind, Sem.run_pure, Result.andThen_ok, run_underlying Tryd.underlying119, hr, and_self, if_true, size_of_info infoCas, Int.toNat_natCast, px]
/-- the castlings, one by one -/
def condC (P : Nat → Int) (j : Nat) : Bool := bits .and .i64 (P 129) (casN (j * 4)) == 0 || homeB P (casN (j * 4 + 1)) (casN (j * 4 + 2)).toNat (casN (j * 4 + 3)).toNat
def okC (P : Nat → Int) : Nat → Bool
  | 0 => true
  | n + 1 => okC P n && condC P n
theorem okC_four (P : Nat → Int) (h0 : 0 ≤ P 129) (h1 : P 129 ≤ 15) : castB P = okC P 4 := by
  have hc : casB (P 129) = true := by unfold casB; simp [h0, h1]
  unfold castB
  rw [hc]
  simp only [okC, condC, casN, Bool.true_and, Nat.zero_mul, Nat.one_mul, Nat.zero_add, List.getD_cons_zero, List.getD_cons_succ]
  generalize P 129 = c at *
  have hcc : c = 0 ∨ c = 1 ∨ c = 2 ∨ c = 3 ∨ c = 4 ∨ c = 5 ∨ c = 6 ∨ c = 7 ∨ c = 8 ∨ c = 9 ∨ c = 10 ∨ c = 11 ∨ c = 12 ∨ c = 13 ∨ c = 14 ∨ c = 15 := by omega
  rcases hcc with rfl | rfl | rfl | rfl | rfl | rfl | rfl | rfl | rfl | rfl | rfl | rfl | rfl | rfl | rfl | rfl <;> rfl
theorem okC_false (P : Nat → Int) {n m : Nat} (h : m < n) (hs : condC P m = false) : okC P n = false := by
  induction n with
  | zero => omega
  | succ n ih =>
    show (okC P n && condC P n) = false
    rcases Nat.lt_succ_iff_lt_or_eq.1 h with h | rfl
    · rw [ih h]; rfl
    · rw [hs, Bool.and_false]
theorem casN_sq (j : Nat) (hj : j < 4) : ∃ k r : Nat, casN (j * 4 + 2) = (k : Int) ∧ casN (j * 4 + 3) = (r : Int) ∧ k < 64 ∧ r < 64 := by
  rcases (show j = 0 ∨ j = 1 ∨ j = 2 ∨ j = 3 by omega) with rfl | rfl | rfl | rfl
  · exact ⟨4, 7, rfl, rfl, by omega, by omega⟩
  · exact ⟨4, 0, rfl, rfl, by omega, by omega⟩
  · exact ⟨60, 63, rfl, rfl, by omega, by omega⟩
  · exact ⟨60, 56, rfl, rfl, by omega, by omega⟩
/-- a row of numbers is loaded, in a region that does not draw -/
theorem wpList_cas {ops : Array Oper} {rest : List Oper} {op : Oper} {a : Act} {w : World} {Q : Exit → Act → World → Prop} (hw : Region.wanted op (yielded ops a.tmps) = true) (x : Operand) (ho : op.op = .load 119 x)
    (Z : Array Value) (hZ : Z = (nums casN 0 16).toArray) (hx : a.eval x = .pointer (some ⟨2, 0, none⟩)) (B : Nat) (hc : GB B w) (h : wpList Tryd.prog ops Q rest (a.put op.dst (.agg Z)) w) : wpList Tryd.prog ops Q (op :: rest) a w := by
  subst hZ
  exact BigFrame.wpList_want hw fun _ hK => wp_load_mid 119 x ho _ 0 hx (nums casN 0 16) _ hc.casR Tryd.underlying119 rfl (by rw [infoCas4, nums_len]) (hK _ _ h)
theorem row4z {W : World} {H : Nat} {a b c d : Value} {t : TypeId} (h : W.heap[H]? = some (.cells #[a, b, c, d] t (0, 0))) : W.cell? ⟨H, 0, none⟩ = some a := by rw [cell_of_row W H 0 _ _ (0, 0) h]; rfl
set_option maxHeartbeats 2000000 in
set_option maxRecDepth 100000 in
theorem castlings_any (b : Nat) (P : Nat → Int) (w : World) (hp : PB w b P) (B : Nat) (hg : GB B w) (hB : B ≤ w.heap.size) :
    Calls Tryd.prog 64 #[.pointer (some ⟨b, 0, none⟩)] w fun e w' => e = .returned (.bool (castB P)) ∧ Below w.heap.size w w' := by
  obtain ⟨Z, hZ⟩ : ∃ Z, Z = (nums casN 0 16).toArray := ⟨_, rfl⟩
  have HIX := Lib.hid (show ∀ (j : Nat) (hj : j < 4) (W : World), (Instr.index 119 (.agg Z) (.int .i64 (j : Int))).run Tryd.prog W = .ok (.agg #[.int .i64 (casN (j * 4)), .int .i64 (casN (j * 4 + 1)), .int .i64 (casN (j * 4 + 2)), .int .i64 (casN (j * 4 + 3))]) W from fun j hj W => by
    rw [hZ]; exact index_cas casN j hj W)
  have HZ := Lib.hid hZ
  have HP := Lib.hid hp
  have HG := Lib.hid hg
  have hbl := hp.lt
  have e1 := hp.cell 129 (by omega)
  have hov := okC_four P
  have hcf : casB (P 129) = false → castB P = false := fun h => by unfold castB; rw [h]; rfl
  have HCF := Lib.hid hcf
  have HOV := Lib.hid hov
  clear hZ hp hg hov hcf
  obtain ⟨c, hc⟩ : ∃ c, P 129 = c := ⟨_, rfl⟩
  rw [hc] at e1 HCF HOV
  have HC := Lib.hid hc
  clear hc
  obtain ⟨v, hv⟩ : ∃ v, casB c = v := ⟨_, rfl⟩
  have HV := Lib.hid hv
  cases v
  · have HF := Lib.hid (HCF.out hv)
    clear hv
    go_enter Tryd.func64, Tryd.ntmps64
    go_wp2_with fail
    refine (isCastle_any c _).mono ?_
    rw [HV.out]
    rintro e w1 ⟨rfl, rfl⟩
    go_wp2
    go_ret
    exact ⟨q_b HF.out.symm, Below.refl _ _⟩
  · have hc01 : 0 ≤ c ∧ c ≤ 15 := by unfold casB at hv; simpa using hv
    have HF := Lib.hid (HOV.out hc01.1 hc01.2)
    clear hv
    go_enter Tryd.func64, Tryd.ntmps64
    go_wp2_with fail
    refine (isCastle_any c _).mono ?_
    rw [HV.out]
    rintro e w1 ⟨rfl, rfl⟩
    clear e1
    go_wp2_with (refine wpList_cas (by rfl) _ (by rfl) Z HZ.out (by rfl) B HG.out ?_)
    go_loopw [13] (fun i wr => ∃ j : Nat, j ≤ 4 ∧ i = .int .i64 (j : Int) ∧ Below w.heap.size w wr ∧ okC P j = true) (fun i _ => 4 - (intOf i).toNat)
    case atStart => exact ⟨0, Nat.zero_le _, rfl, Below.refl _ _, rfl⟩
    case round =>
      obtain ⟨j, hj, rfl, h1, h2⟩ := hrel
      have H1 := Lib.hid h1
      have H2 := Lib.hid h2
      clear h1 h2
      by_cases hlt : j < 4
      · have hix := HIX.out j hlt
        obtain ⟨k, r, hk, hr, hk6, hr6⟩ := casN_sq j hlt
        have hcd : condC P j = (bits .and .i64 c (casN (j * 4)) == 0 || homeB P (casN (j * 4 + 1)) k r) := by
          unfold condC; rw [HC.out, hk, hr]; rfl
        rw [hk, hr] at hix
        obtain ⟨x, hx⟩ : ∃ x, bits .and .i64 c (casN (j * 4)) = x := ⟨_, rfl⟩
        rw [hx] at hcd
        generalize casN (j * 4) = y at hix hx
        generalize casN (j * 4 + 1) = d at hix hcd
        obtain ⟨hm, hhm⟩ : ∃ h, homeB P d k r = h := ⟨_, rfl⟩
        rw [hhm] at hcd
        have HHM := Lib.hid hhm
        have HCD := Lib.hid hcd
        clear hhm hcd hk hr
        go_upto_region 6 with (fail)
        refine forget_B (fun W => PB W b P ∧ Below w.heap.size w W ∧ W.heap[wr.heap.size]? = some (.cells #[.int .i64 y, .int .i64 d, .int .i64 (k : Int), .int .i64 (r : Int)] 118 (0, 0))) ⟨(HP.out.go H1.out).alloc _, H1.out.alloc H1.out.size _, sl_at rfl⟩ ?_
        rintro W3 ⟨hp3, hb3, hx3⟩
        have x1 := cell_regrown (hp3.cell 129 (by omega))
        rw [HC.out] at x1
        have v0 := cell_regrown (row4z hx3)
        have v1 := cell_regrown (row4 hx3).1
        have v2 := cell_regrown (row4 hx3).2.1
        have v3 := cell_regrown (row4 hx3).2.2
        have c1 : ∀ d' os, Calls Tryd.prog 99 #[.pointer (some ⟨b, 0, none⟩), .agg #[.int .i64 y, .int .i64 d, .int .i64 (k : Int), .int .i64 (r : Int)]] (grow (redrawn W3 d') os) fun e w'' => e = .returned (.bool hm) ∧ ∃ p : Regrown, w'' = grow (redrawn W3 p.d) p.os := fun d' os => by
          have := waits_any b P y d k r hk6 hr6 (grow (redrawn W3 d') os) (hp3.go (below_regrown W3 d' os))
          rw [HHM.out] at this
          exact Calls.regrown_of this
        have HB3 := Lib.hid hb3
        clear hp3 hb3 hx3 hix
        by_cases hx0 : x = 0
        · subst hx0
          have HS := Lib.hid (show okC P (j + 1) = true by show (okC P j && condC P j) = true; rw [H2.out, HCD.out]; rfl)
          refine wp_region_quiet_below (by kernel_rfl) (by kernel_rfl) ?_
          repeat (first | go_big_quiet_step (fail) | quiet_step (fail))
          refine wpQuiet_nil ?_
          rintro W4 ⟨q, rfl⟩
          go_wp2
          go_roundw
          case rel => exact ⟨j + 1, by omega, by go_num, HB3.out.trans ((below_regrown W3 q.d q.os).mono HB3.out.size), HS.out⟩
          case measure => simp [intOf]; omega
        · have hx1 : (x == 0) = false := by simp [hx0]
          have hx2 : (x != 0) = true := by simp [hx0]
          rw [hx1] at HCD
          cases hm
          · have HF2 := Lib.hid (show castB P = false by rw [HF.out]; exact okC_false P hlt (by rw [HCD.out]; rfl))
            clear hx1 hx0
            refine wp_region_quiet_below (by kernel_rfl) (by kernel_rfl) ?_
            repeat (first | go_big_quiet_step (exact c1 _ _) | quiet_step (exact c1 _ _))
            refine wpQuiet_nil ?_
            rintro W4 ⟨q, rfl⟩
            go_wp2
            go_ret
            exact ⟨q_b HF2.out.symm, HB3.out.trans ((below_regrown W3 q.d q.os).mono HB3.out.size)⟩
          · have HS := Lib.hid (show okC P (j + 1) = true by show (okC P j && condC P j) = true; rw [H2.out, HCD.out]; rfl)
            clear hx1 hx0
            refine wp_region_quiet_below (by kernel_rfl) (by kernel_rfl) ?_
            repeat (first | go_big_quiet_step (exact c1 _ _) | quiet_step (exact c1 _ _))
            refine wpQuiet_nil ?_
            rintro W4 ⟨q, rfl⟩
            go_wp2
            go_roundw
            case rel => exact ⟨j + 1, by omega, by go_num, HB3.out.trans ((below_regrown W3 q.d q.os).mono HB3.out.size), HS.out⟩
            case measure => simp [intOf]; omega
      · obtain rfl : j = 4 := by omega
        go_wp2
        go_ret
        exact ⟨q_b (by rw [HF.out, H2.out]), H1.out⟩
end Go.Proofs.YtjhlombbkodpaaaDoor

namespace Go.Proofs.YtjhlombbkodpaaaDoor
open Go.RowKit Go.Sort
set_option linter.unusedSimpArgs false
set_option linter.unusedVariables false

theorem infoLeap : (Tryd.prog.info? 122).map (·.size) = some 4 := by kernel_rfl
theorem leap0_any (w : World) :
    Calls Tryd.prog 100 #[.int .i64 0] w fun e w' => e = .returned (.agg #[.int .i64 5, .int .i64 (1), .int .i64 1, .int .i64 1]) ∧ Below w.heap.size w w' := by
  go_enter Tryd.func100, Tryd.ntmps100
  go_wp2
  refine bodyPost_ret (v := .agg #[.int .i64 5, .int .i64 (1), .int .i64 1, .int .i64 1]) ?_ rfl ⟨rfl, below_new _⟩
  exact results_cell_row (p := 2) (ty := 122) rfl _ _ w.heap.size 122 _ (0, 0) _ rfl (heap_alloc_new _ _) Tryd.underlying122 rfl infoLeap
theorem leap1_any (w : World) :
    Calls Tryd.prog 100 #[.int .i64 1] w fun e w' => e = .returned (.agg #[.int .i64 2, .int .i64 (-1), .int .i64 1, .int .i64 0]) ∧ Below w.heap.size w w' := by
  go_enter Tryd.func100, Tryd.ntmps100
  go_wp2
  refine bodyPost_ret (v := .agg #[.int .i64 2, .int .i64 (-1), .int .i64 1, .int .i64 0]) ?_ rfl ⟨rfl, below_new _⟩
  exact results_cell_row (p := 2) (ty := 122) rfl _ _ w.heap.size 122 _ (0, 0) _ rfl (heap_alloc_new _ _) Tryd.underlying122 rfl infoLeap
set_option maxHeartbeats 4000000 in
set_option maxRecDepth 100000 in
theorem over0_any (b : Nat) (P : Nat → Int) (w : World) (hp : PB w b P) (hs : P 128 = 0) :
    Calls Tryd.prog 65 #[.pointer (some ⟨b, 0, none⟩)] w fun e w' => e = .returned (.bool (overB P)) ∧ Below w.heap.size w w' := by
  have HP := Lib.hid hp
  have e1 := hp.cell 130 (by omega)
  have e2 := hp.cell 131 (by omega)
  have e3 := hp.cell 128 (by omega)
  have hbl := hp.lt
  rw [hs] at e3
  have hv : overB P = (P 130 == -1 || (sq (P 130) && P 131 == 0 && overC P (P 130).toNat 5 ((P 130).toNat + 8) ((P 130).toNat - 8) 1)) := by unfold overB; rw [hs]; rfl
  clear hp hs
  obtain ⟨o, hpo⟩ : ∃ o, P 130 = o := ⟨_, rfl⟩
  obtain ⟨hf, hph⟩ : ∃ o, P 131 = o := ⟨_, rfl⟩
  rw [hpo, hph] at hv
  rw [hpo] at e1
  rw [hph] at e2
  have HPO := Lib.hid hpo
  have HPH := Lib.hid hph
  clear hpo hph
  by_cases h0 : o = -1
  · subst h0
    have HV := Lib.hid (show overB P = true by rw [hv]; rfl)
    clear hv
    go_enter Tryd.func65, Tryd.ntmps65
    go_wp2
    go_ret
    exact ⟨q_b HV.out.symm, Below.refl _ _⟩
  · have hm : (o == -1) = false := by simp [h0]
    rw [hm, Bool.false_or] at hv
    obtain ⟨rk, hrk⟩ : ∃ r, sR o = r := ⟨_, rfl⟩
    have HRK := Lib.hid hrk
    have HV := Lib.hid hv
    clear hv hrk h0
    go_enter Tryd.func65, Tryd.ntmps65
    go_wp2_with fail
    refine (leap0_any _).mono ?_
    rintro e w1 ⟨rfl, hb1⟩
    go_upto_region 4 with (fail)
    refine forget_B (fun W => PB W b P ∧ Below w.heap.size w W ∧ W.heap[w1.heap.size]? = some (.cells #[.int .i64 5, .int .i64 (1), .int .i64 1, .int .i64 1] 122 (0, 0))) ⟨(HP.out.go hb1).alloc _, hb1.alloc hb1.size _, sl_at rfl⟩ ?_
    clear e1 e2 e3 HP hb1
    rintro W ⟨hp, hb, hx⟩
    have x1 := cell_regrown (hp.cell 130 (by omega))
    have x2 := cell_regrown (hp.cell 131 (by omega))
    rw [HPO.out] at x1
    rw [HPH.out] at x2
    have v0 := cell_regrown (row4z hx)
    have HP := Lib.hid hp
    have HB := Lib.hid hb
    have HX := Lib.hid hx
    clear hp hb hx
    have c1 := regrown_call (w := W) (rank_any o)
    rw [HRK.out] at c1
    by_cases hr : rk = 5
    · subst hr
      by_cases hh : hf = 0
      · subst hh
        refine wp_region_quiet_below (by kernel_rfl) (by kernel_rfl) ?_
        repeat (first | go_big_quiet_step (exact c1 _ _) | quiet_step (exact c1 _ _))
        refine wpQuiet_nil ?_
        rintro W4 ⟨q, rfl⟩
        have hsq : sq o = true := by
          have := HRK.out
          unfold sR at this
          cases h : sq o
          · rw [h] at this; simp at this
          · rfl
        obtain ⟨s0, s1⟩ := (sq_iff o).1 hsq
        obtain ⟨m, rfl⟩ : ∃ m : Nat, o = (m : Int) := ⟨o.toNat, by omega⟩
        have hq8 : m / 8 = 5 := by
          have := HRK.out
          unfold sR at this
          rw [if_pos hsq] at this
          omega
        have ha64 : m + 8 < 64 := by omega
        have hb64 : m - 8 < 64 := by omega
        have hv2 : overB P = (pe (P (2 * m)) (P (2 * m + 1)) 0 0 && pe (P (2 * (m + 8))) (P (2 * (m + 8) + 1)) 0 0 && pe (P (2 * (m - 8))) (P (2 * (m - 8) + 1)) 1 1) := by
          rw [HV.out, hsq, Int.toNat_natCast]; unfold overC; rw [hq8]; simp
        have hst : stp (m : Int) 0 (1) = ((m + 8 : Nat) : Int) := by
          unfold stp
          rw [if_pos (by rw [hsq, Bool.true_and]; exact (onB_iff _ _).2 (by omega))]
          omega
        have hst2 : stp (m : Int) 0 (-1) = ((m - 8 : Nat) : Int) := by
          unfold stp
          rw [if_pos (by rw [hsq, Bool.true_and]; exact (onB_iff _ _).2 (by omega))]
          omega
        clear hq8 x1 x2 v0 c1 HV HRK
        generalize m + 8 = a at *
        generalize m - 8 = b2 at *
        have HS1 := Lib.hid hst
        have HS2 := Lib.hid hst2
        clear hst hst2 hsq hm
        have b4 := below_regrown W q.d q.os
        have hp := HP.out.go b4
        have hx := sl_go HX.out b4
        have HB4 := Lib.hid (HB.out.trans (b4.mono HB.out.size))
        clear b4 HP HB HX
        generalize grow (redrawn W q.d) q.os = W4 at *
        have x1 := cell_regrown (hp.cell 130 (by omega))
        rw [HPO.out] at x1
        have v1 := cell_regrown (row4 hx).1
        have HP := Lib.hid hp
        have HX := Lib.hid hx
        clear hp hx
        have c1 := regrown_call (w := W4) (fun W => step_any (m : Int) 0 (1) W (by unfold I64; omega) (by unfold I64; omega))
        have c2 := regrown_call (w := W4) (fun W => step_any (m : Int) 0 (-1) W (by unfold I64; omega) (by unfold I64; omega))
        rw [HS1.out] at c1
        rw [HS2.out] at c2
        go_upto_region 6 with (fail)
        refine wp_region_quiet_below (by kernel_rfl) (by kernel_rfl) ?_
        iterate 8 (go_big_quiet_step (exact c1 _ _))
        repeat (go_big_quiet_step (exact c2 _ _))
        refine wpQuiet_nil ?_
        rintro W5 ⟨q, rfl⟩
        have b4 := below_regrown W4 q.d q.os
        have hp := HP.out.go b4
        have hx := sl_go HX.out b4
        have HB5 := Lib.hid (HB4.out.trans (b4.mono HB4.out.size))
        clear b4 HP HX HB4 x1 v1 c1 c2
        generalize grow (redrawn W4 q.d) q.os = W5 at *
        have x1 := cell_regrown (hp.cell 130 (by omega))
        rw [HPO.out] at x1
        have v2 := cell_regrown (row4 hx).2.1
        have v3 := cell_regrown (row4 hx).2.2
        have y1 := cell_regrown (hp.cell (m * 2) (by omega))
        have y2 := cell_regrown (hp.cell (m * 2 + 1) (by omega))
        have y3 := cell_regrown (hp.cell (a * 2) (by omega))
        have y4 := cell_regrown (hp.cell (a * 2 + 1) (by omega))
        have y5 := cell_regrown (hp.cell (b2 * 2) (by omega))
        have y6 := cell_regrown (hp.cell (b2 * 2 + 1) (by omega))
        have ga0 : (0 : Int) ≤ a := by omega
        have ga1 : (a : Int) < 64 := by omega
        have gb0 : (0 : Int) ≤ b2 := by omega
        have gb1 : (b2 : Int) < 64 := by omega
        clear hp hx
        rw [Nat.mul_comm 2 m, Nat.mul_comm 2 a, Nat.mul_comm 2 b2] at hv2
        obtain ⟨p1, hp1⟩ : ∃ p, pe (P (m * 2)) (P (m * 2 + 1)) 0 0 = p := ⟨_, rfl⟩
        obtain ⟨p2, hp2⟩ : ∃ p, pe (P (a * 2)) (P (a * 2 + 1)) 0 0 = p := ⟨_, rfl⟩
        obtain ⟨p3, hp3⟩ : ∃ p, pe (P (b2 * 2)) (P (b2 * 2 + 1)) 1 1 = p := ⟨_, rfl⟩
        have c1 := regrown_call (w := W5) (none_any (P (m * 2)) (P (m * 2 + 1)))
        have c2 := regrown_call (w := W5) (none_any (P (a * 2)) (P (a * 2 + 1)))
        rw [hp1] at c1
        rw [hp2] at c2
        rw [hp1, hp2, hp3] at hv2
        have HV := Lib.hid hv2
        clear hv2 hp1 hp2
        generalize P (m * 2) = k1 at *
        generalize P (m * 2 + 1) = d1 at *
        generalize P (a * 2) = k2 at *
        generalize P (a * 2 + 1) = d2 at *
        generalize P (b2 * 2) = k3 at *
        generalize P (b2 * 2 + 1) = d3 at *
        go_upto_region 7 with (fail)
        cases p1
        · refine wp_region_quiet_below (by kernel_rfl) (by kernel_rfl) ?_
          repeat (first | go_big_quiet_step (first | exact c1 _ _ | exact c2 _ _) | quiet_step (first | exact c1 _ _ | exact c2 _ _))
          refine wpQuiet_nil ?_
          rintro W6 ⟨q, rfl⟩
          go_wp2
          go_ret
          exact ⟨q_b (by rw [HV.out]; simp), HB5.out.trans ((below_regrown W5 q.d q.os).mono HB5.out.size)⟩
        · cases p2
          all_goals
            refine wp_region_quiet_below (by kernel_rfl) (by kernel_rfl) ?_
            repeat (first | go_big_quiet_step (first | exact c1 _ _ | exact c2 _ _) | quiet_step (first | exact c1 _ _ | exact c2 _ _))
            refine wpQuiet_nil ?_
            rintro W6 ⟨q, rfl⟩
            go_wp2
            go_ret
            exact ⟨q_b (by rw [HV.out]; simp), HB5.out.trans ((below_regrown W5 q.d q.os).mono HB5.out.size)⟩
      · have hh2 : (hf != 0) = true := by simp [hh]
        have HF := Lib.hid (show overB P = false by rw [HV.out]; simp [hh])
        clear hh
        refine wp_region_quiet_below (by kernel_rfl) (by kernel_rfl) ?_
        repeat (first | go_big_quiet_step (exact c1 _ _) | quiet_step (exact c1 _ _))
        refine wpQuiet_nil ?_
        rintro W4 ⟨q, rfl⟩
        go_wp2
        go_ret
        exact ⟨q_b HF.out.symm, HB.out.trans ((below_regrown W q.d q.os).mono HB.out.size)⟩
    · have hr2 : (rk != 5) = true := by simp [hr]
      have HF := Lib.hid (show overB P = false by
        rw [HV.out]
        cases hsq : sq o
        · rfl
        · obtain ⟨s0, s1⟩ := (sq_iff o).1 hsq
          have h2 := HRK.out
          unfold sR at h2
          rw [if_pos hsq] at h2
          have : (o.toNat / 8 == 5) = false := by simp; omega
          unfold overC; rw [this]; simp)
      clear hr
      refine wp_region_quiet_below (by kernel_rfl) (by kernel_rfl) ?_
      repeat (first | go_big_quiet_step (exact c1 _ _) | quiet_step (exact c1 _ _))
      refine wpQuiet_nil ?_
      rintro W4 ⟨q, rfl⟩
      go_wp2
      go_ret
      exact ⟨q_b HF.out.symm, HB.out.trans ((below_regrown W q.d q.os).mono HB.out.size)⟩
set_option maxHeartbeats 4000000 in
set_option maxRecDepth 100000 in
theorem over1_any (b : Nat) (P : Nat → Int) (w : World) (hp : PB w b P) (hs : P 128 = 1) :
    Calls Tryd.prog 65 #[.pointer (some ⟨b, 0, none⟩)] w fun e w' => e = .returned (.bool (overB P)) ∧ Below w.heap.size w w' := by
  have HP := Lib.hid hp
  have e1 := hp.cell 130 (by omega)
  have e2 := hp.cell 131 (by omega)
  have e3 := hp.cell 128 (by omega)
  have hbl := hp.lt
  rw [hs] at e3
  have hv : overB P = (P 130 == -1 || (sq (P 130) && P 131 == 0 && overC P (P 130).toNat 2 ((P 130).toNat - 8) ((P 130).toNat + 8) 0)) := by unfold overB; rw [hs]; rfl
  clear hp hs
  obtain ⟨o, hpo⟩ : ∃ o, P 130 = o := ⟨_, rfl⟩
  obtain ⟨hf, hph⟩ : ∃ o, P 131 = o := ⟨_, rfl⟩
  rw [hpo, hph] at hv
  rw [hpo] at e1
  rw [hph] at e2
  have HPO := Lib.hid hpo
  have HPH := Lib.hid hph
  clear hpo hph
  by_cases h0 : o = -1
  · subst h0
    have HV := Lib.hid (show overB P = true by rw [hv]; rfl)
    clear hv
    go_enter Tryd.func65, Tryd.ntmps65
    go_wp2
    go_ret
    exact ⟨q_b HV.out.symm, Below.refl _ _⟩
  · have hm : (o == -1) = false := by simp [h0]
    rw [hm, Bool.false_or] at hv
    obtain ⟨rk, hrk⟩ : ∃ r, sR o = r := ⟨_, rfl⟩
    have HRK := Lib.hid hrk
    have HV := Lib.hid hv
    clear hv hrk h0
    go_enter Tryd.func65, Tryd.ntmps65
    go_wp2_with fail
    refine (leap1_any _).mono ?_
    rintro e w1 ⟨rfl, hb1⟩
    go_upto_region 4 with (fail)
    refine forget_B (fun W => PB W b P ∧ Below w.heap.size w W ∧ W.heap[w1.heap.size]? = some (.cells #[.int .i64 2, .int .i64 (-1), .int .i64 1, .int .i64 0] 122 (0, 0))) ⟨(HP.out.go hb1).alloc _, hb1.alloc hb1.size _, sl_at rfl⟩ ?_
    clear e1 e2 e3 HP hb1
    rintro W ⟨hp, hb, hx⟩
    have x1 := cell_regrown (hp.cell 130 (by omega))
    have x2 := cell_regrown (hp.cell 131 (by omega))
    rw [HPO.out] at x1
    rw [HPH.out] at x2
    have v0 := cell_regrown (row4z hx)
    have HP := Lib.hid hp
    have HB := Lib.hid hb
    have HX := Lib.hid hx
    clear hp hb hx
    have c1 := regrown_call (w := W) (rank_any o)
    rw [HRK.out] at c1
    by_cases hr : rk = 2
    · subst hr
      by_cases hh : hf = 0
      · subst hh
        refine wp_region_quiet_below (by kernel_rfl) (by kernel_rfl) ?_
        repeat (first | go_big_quiet_step (exact c1 _ _) | quiet_step (exact c1 _ _))
        refine wpQuiet_nil ?_
        rintro W4 ⟨q, rfl⟩
        have hsq : sq o = true := by
          have := HRK.out
          unfold sR at this
          cases h : sq o
          · rw [h] at this; simp at this
          · rfl
        obtain ⟨s0, s1⟩ := (sq_iff o).1 hsq
        obtain ⟨m, rfl⟩ : ∃ m : Nat, o = (m : Int) := ⟨o.toNat, by omega⟩
        have hq8 : m / 8 = 2 := by
          have := HRK.out
          unfold sR at this
          rw [if_pos hsq] at this
          omega
        have ha64 : m - 8 < 64 := by omega
        have hb64 : m + 8 < 64 := by omega
        have hv2 : overB P = (pe (P (2 * m)) (P (2 * m + 1)) 0 0 && pe (P (2 * (m - 8))) (P (2 * (m - 8) + 1)) 0 0 && pe (P (2 * (m + 8))) (P (2 * (m + 8) + 1)) 1 0) := by
          rw [HV.out, hsq, Int.toNat_natCast]; unfold overC; rw [hq8]; simp
        have hst : stp (m : Int) 0 (-1) = ((m - 8 : Nat) : Int) := by
          unfold stp
          rw [if_pos (by rw [hsq, Bool.true_and]; exact (onB_iff _ _).2 (by omega))]
          omega
        have hst2 : stp (m : Int) 0 (1) = ((m + 8 : Nat) : Int) := by
          unfold stp
          rw [if_pos (by rw [hsq, Bool.true_and]; exact (onB_iff _ _).2 (by omega))]
          omega
        clear hq8 x1 x2 v0 c1 HV HRK
        generalize m - 8 = a at *
        generalize m + 8 = b2 at *
        have HS1 := Lib.hid hst
        have HS2 := Lib.hid hst2
        clear hst hst2 hsq hm
        have b4 := below_regrown W q.d q.os
        have hp := HP.out.go b4
        have hx := sl_go HX.out b4
        have HB4 := Lib.hid (HB.out.trans (b4.mono HB.out.size))
        clear b4 HP HB HX
        generalize grow (redrawn W q.d) q.os = W4 at *
        have x1 := cell_regrown (hp.cell 130 (by omega))
        rw [HPO.out] at x1
        have v1 := cell_regrown (row4 hx).1
        have HP := Lib.hid hp
        have HX := Lib.hid hx
        clear hp hx
        have c1 := regrown_call (w := W4) (fun W => step_any (m : Int) 0 (-1) W (by unfold I64; omega) (by unfold I64; omega))
        have c2 := regrown_call (w := W4) (fun W => step_any (m : Int) 0 (1) W (by unfold I64; omega) (by unfold I64; omega))
        rw [HS1.out] at c1
        rw [HS2.out] at c2
        go_upto_region 6 with (fail)
        refine wp_region_quiet_below (by kernel_rfl) (by kernel_rfl) ?_
        iterate 8 (go_big_quiet_step (exact c1 _ _))
        repeat (go_big_quiet_step (exact c2 _ _))
        refine wpQuiet_nil ?_
        rintro W5 ⟨q, rfl⟩
        have b4 := below_regrown W4 q.d q.os
        have hp := HP.out.go b4
        have hx := sl_go HX.out b4
        have HB5 := Lib.hid (HB4.out.trans (b4.mono HB4.out.size))
        clear b4 HP HX HB4 x1 v1 c1 c2
        generalize grow (redrawn W4 q.d) q.os = W5 at *
        have x1 := cell_regrown (hp.cell 130 (by omega))
        rw [HPO.out] at x1
        have v2 := cell_regrown (row4 hx).2.1
        have v3 := cell_regrown (row4 hx).2.2
        have y1 := cell_regrown (hp.cell (m * 2) (by omega))
        have y2 := cell_regrown (hp.cell (m * 2 + 1) (by omega))
        have y3 := cell_regrown (hp.cell (a * 2) (by omega))
        have y4 := cell_regrown (hp.cell (a * 2 + 1) (by omega))
        have y5 := cell_regrown (hp.cell (b2 * 2) (by omega))
        have y6 := cell_regrown (hp.cell (b2 * 2 + 1) (by omega))
        have ga0 : (0 : Int) ≤ a := by omega
        have ga1 : (a : Int) < 64 := by omega
        have gb0 : (0 : Int) ≤ b2 := by omega
        have gb1 : (b2 : Int) < 64 := by omega
        clear hp hx
        rw [Nat.mul_comm 2 m, Nat.mul_comm 2 a, Nat.mul_comm 2 b2] at hv2
        obtain ⟨p1, hp1⟩ : ∃ p, pe (P (m * 2)) (P (m * 2 + 1)) 0 0 = p := ⟨_, rfl⟩
        obtain ⟨p2, hp2⟩ : ∃ p, pe (P (a * 2)) (P (a * 2 + 1)) 0 0 = p := ⟨_, rfl⟩
        obtain ⟨p3, hp3⟩ : ∃ p, pe (P (b2 * 2)) (P (b2 * 2 + 1)) 1 0 = p := ⟨_, rfl⟩
        have c1 := regrown_call (w := W5) (none_any (P (m * 2)) (P (m * 2 + 1)))
        have c2 := regrown_call (w := W5) (none_any (P (a * 2)) (P (a * 2 + 1)))
        rw [hp1] at c1
        rw [hp2] at c2
        rw [hp1, hp2, hp3] at hv2
        have HV := Lib.hid hv2
        clear hv2 hp1 hp2
        generalize P (m * 2) = k1 at *
        generalize P (m * 2 + 1) = d1 at *
        generalize P (a * 2) = k2 at *
        generalize P (a * 2 + 1) = d2 at *
        generalize P (b2 * 2) = k3 at *
        generalize P (b2 * 2 + 1) = d3 at *
        go_upto_region 7 with (fail)
        cases p1
        · refine wp_region_quiet_below (by kernel_rfl) (by kernel_rfl) ?_
          repeat (first | go_big_quiet_step (first | exact c1 _ _ | exact c2 _ _) | quiet_step (first | exact c1 _ _ | exact c2 _ _))
          refine wpQuiet_nil ?_
          rintro W6 ⟨q, rfl⟩
          go_wp2
          go_ret
          exact ⟨q_b (by rw [HV.out]; simp), HB5.out.trans ((below_regrown W5 q.d q.os).mono HB5.out.size)⟩
        · cases p2
          all_goals
            refine wp_region_quiet_below (by kernel_rfl) (by kernel_rfl) ?_
            repeat (first | go_big_quiet_step (first | exact c1 _ _ | exact c2 _ _) | quiet_step (first | exact c1 _ _ | exact c2 _ _))
            refine wpQuiet_nil ?_
            rintro W6 ⟨q, rfl⟩
            go_wp2
            go_ret
            exact ⟨q_b (by rw [HV.out]; simp), HB5.out.trans ((below_regrown W5 q.d q.os).mono HB5.out.size)⟩
      · have hh2 : (hf != 0) = true := by simp [hh]
        have HF := Lib.hid (show overB P = false by rw [HV.out]; simp [hh])
        clear hh
        refine wp_region_quiet_below (by kernel_rfl) (by kernel_rfl) ?_
        repeat (first | go_big_quiet_step (exact c1 _ _) | quiet_step (exact c1 _ _))
        refine wpQuiet_nil ?_
        rintro W4 ⟨q, rfl⟩
        go_wp2
        go_ret
        exact ⟨q_b HF.out.symm, HB.out.trans ((below_regrown W q.d q.os).mono HB.out.size)⟩
    · have hr2 : (rk != 2) = true := by simp [hr]
      have HF := Lib.hid (show overB P = false by
        rw [HV.out]
        cases hsq : sq o
        · rfl
        · obtain ⟨s0, s1⟩ := (sq_iff o).1 hsq
          have h2 := HRK.out
          unfold sR at h2
          rw [if_pos hsq] at h2
          have : (o.toNat / 8 == 2) = false := by simp; omega
          unfold overC; rw [this]; simp)
      clear hr
      refine wp_region_quiet_below (by kernel_rfl) (by kernel_rfl) ?_
      repeat (first | go_big_quiet_step (exact c1 _ _) | quiet_step (exact c1 _ _))
      refine wpQuiet_nil ?_
      rintro W4 ⟨q, rfl⟩
      go_wp2
      go_ret
      exact ⟨q_b HF.out.symm, HB.out.trans ((below_regrown W q.d q.os).mono HB.out.size)⟩
end Go.Proofs.YtjhlombbkodpaaaDoor
