/-
  Contracts: the checker's castlings.
-/
import Derived.Test.YtldepimkbnodpaaDoorBs
import Derived.Test.YtldepimkbnodpaaDoorBa
namespace Go.Proofs.YtldepimkbnodpaaDoor
open Go.RowKit Go.Sort
set_option linter.unusedSimpArgs false
set_option linter.unusedVariables false

def casN (i : Nat) : Int := [1, 0, 4, 7, 2, 0, 4, 0, 4, 1, 60, 63, 8, 1, 60, 56].getD i 0
structure GB (B : Nat) (w : World) : Prop where
  c : 1 < B
  cas : ∀ i, i < 16 → w.cell? ⟨1, i, none⟩ = some (.int .i64 (casN i))
theorem GB.below {B : Nat} {w w' : World} (h : GB B w) (g : Below B w w') : GB B w' :=
  ⟨h.c, fun i hi => by rw [g.cell (p := ⟨_, i, none⟩) h.c]; exact h.cas i hi⟩
theorem GB.mono {B B' : Nat} {w : World} (h : GB B w) (hb : B ≤ B') : GB B' w :=
  ⟨Nat.lt_of_lt_of_le h.c hb, h.cas⟩
theorem GB.casR {B : Nat} {w : World} (h : GB B w) : w.rangeAt 1 0 (nums casN 0 16) := fun j v hv => by
  have hj : j < 16 := by have := (List.getElem?_eq_some_iff.1 hv).1; rwa [nums_len] at this
  rw [nums_get _ _ _ _ hj, Nat.zero_add] at hv
  rw [Nat.zero_add, h.cas j hj, hv]
theorem infoCas : (Tryd.prog.info? 88).map (·.size) = some 4 := by kernel_rfl
theorem infoCas4 : (Tryd.prog.info? 89).map (·.size) = some 16 := by kernel_rfl
theorem nums_four (P : Nat → Int) (a : Nat) : (nums P a 4).toArray = #[.int .i64 (P a), .int .i64 (P (a + 1)), .int .i64 (P (a + 2)), .int .i64 (P (a + 3))] := rfl
theorem index_cas (P : Nat → Int) (j : Nat) (hj : j < 4) (w : World) : (Instr.index 89 (.agg (nums P 0 16).toArray) (.int .i64 (j : Int))).run Tryd.prog w = .ok (.agg #[.int .i64 (P (j * 4)), .int .i64 (P (j * 4 + 1)), .int .i64 (P (j * 4 + 2)), .int .i64 (P (j * 4 + 3))]) w := by
  have px : (Go.part 88 (nums P 0 16).toArray (j * 4)).run Tryd.prog w = .ok (.agg #[.int .i64 (P (j * 4)), .int .i64 (P (j * 4 + 1)), .int .i64 (P (j * 4 + 2)), .int .i64 (P (j * 4 + 3))]) w := by
    simp only [Go.part, isAgg, Sem.run_bind, run_underlying Tryd.underlying88, Result.andThen_ok, Sem.run_pure, if_true, size_of_info infoCas, nums_cut P 0 16 (j * 4) (j * 4 + 4) (by omega) (by omega)]
    rw [show j * 4 + 4 - j * 4 = 4 by omega, nums_four, Nat.zero_add]
  have hr : 0 ≤ (j : Int) ∧ (j : Int) < (4 : Nat) := by omega
  simp only [Instr.index, asIntOf, Sem.run_bind, Sem.run_pure, Result.andThen_ok, run_underlying Tryd.underlying89, hr, and_self, if_true, size_of_info infoCas, Int.toNat_natCast, px]
/-- the castlings, one by one -/
def condC (P : Nat → Int) (j : Nat) : Bool := bits .and .i64 (P 129) (casN (j * 4)) == 0 || homeB P (casN (j * 4 + 1)) (casN (j * 4 + 2)).toNat (casN (j * 4 + 3)).toNat
def okC (P : Nat → Int) : Nat → Bool
  | 0 => true
  | n + 1 => okC P n && condC P n
theorem okC_four (P : Nat → Int) (h0 : 0 ≤ P 129) (h1 : P 129 ≤ 15) : castB P = okC P 4 := by
  have hc : casB (P 129) = true := by unfold casB; simp [h0, h1]
  unfold castB
  rw [hc]
  simp only [okC, condC, casN, Bool.true_and, Nat.zero_mul, Nat.one_mul, Nat.zero_add, List.getD_cons_zero, List.getD_cons_succ]
  generalize P 129 = c at *
  have hcc : c = 0 ∨ c = 1 ∨ c = 2 ∨ c = 3 ∨ c = 4 ∨ c = 5 ∨ c = 6 ∨ c = 7 ∨ c = 8 ∨ c = 9 ∨ c = 10 ∨ c = 11 ∨ c = 12 ∨ c = 13 ∨ c = 14 ∨ c = 15 := by omega
  rcases hcc with rfl | rfl | rfl | rfl | rfl | rfl | rfl | rfl | rfl | rfl | rfl | rfl | rfl | rfl | rfl | rfl <;> rfl
theorem okC_false (P : Nat → Int) {n m : Nat} (h : m < n) (hs : condC P m = false) : okC P n = false := by
  induction n with
  | zero => omega
  | succ n ih =>
    show (okC P n && condC P n) = false
    rcases Nat.lt_succ_iff_lt_or_eq.1 h with h | rfl
    · rw [ih h]; rfl
    · rw [hs, Bool.and_false]
theorem casN_sq (j : Nat) (hj : j < 4) : ∃ k r : Nat, casN (j * 4 + 2) = (k : Int) ∧ casN (j * 4 + 3) = (r : Int) ∧ k < 64 ∧ r < 64 := by
  rcases (show j = 0 ∨ j = 1 ∨ j = 2 ∨ j = 3 by omega) with rfl | rfl | rfl | rfl
  · exact ⟨4, 7, rfl, rfl, by omega, by omega⟩
  · exact ⟨4, 0, rfl, rfl, by omega, by omega⟩
  · exact ⟨60, 63, rfl, rfl, by omega, by omega⟩
  · exact ⟨60, 56, rfl, rfl, by omega, by omega⟩
/-- a row of numbers is loaded, in a region that does not draw -/
theorem wpList_cas {ops : Array Oper} {rest : List Oper} {op : Oper} {a : Act} {w : World} {Q : Exit → Act → World → Prop} (hw : Region.wanted op (yielded ops a.tmps) = true) (x : Operand) (ho : op.op = .load 89 x)
    (Z : Array Value) (hZ : Z = (nums casN 0 16).toArray) (hx : a.eval x = .pointer (some ⟨1, 0, none⟩)) (B : Nat) (hc : GB B w) (h : wpList Tryd.prog ops Q rest (a.put op.dst (.agg Z)) w) : wpList Tryd.prog ops Q (op :: rest) a w := by
  subst hZ
  exact BigFrame.wpList_want hw fun _ hK => wp_load_mid 89 x ho _ 0 hx (nums casN 0 16) _ hc.casR Tryd.underlying89 rfl (by rw [infoCas4, nums_len]) (hK _ _ h)
theorem row4z {W : World} {H : Nat} {a b c d : Value} {t : TypeId} (h : W.heap[H]? = some (.cells #[a, b, c, d] t (0, 0))) : W.cell? ⟨H, 0, none⟩ = some a := by rw [cell_of_row W H 0 _ _ (0, 0) h]; rfl
set_option maxHeartbeats 2000000 in
set_option maxRecDepth 100000 in
theorem castlings_any (b : Nat) (P : Nat → Int) (w : World) (hp : PB w b P) (B : Nat) (hg : GB B w) (hB : B ≤ w.heap.size) :
    Calls Tryd.prog 57 #[.pointer (some ⟨b, 0, none⟩)] w fun e w' => e = .returned (.bool (castB P)) ∧ Below w.heap.size w w' := by
  obtain ⟨Z, hZ⟩ : ∃ Z, Z = (nums casN 0 16).toArray := ⟨_, rfl⟩
  have HIX := Lib.hid (show ∀ (j : Nat) (hj : j < 4) (W : World), (Instr.index 89 (.agg Z) (.int .i64 (j : Int))).run Tryd.prog W = .ok (.agg #[.int .i64 (casN (j * 4)), .int .i64 (casN (j * 4 + 1)), .int .i64 (casN (j * 4 + 2)), .int .i64 (casN (j * 4 + 3))]) W from fun j hj W => by
    rw [hZ]; exact index_cas casN j hj W)
  have HZ := Lib.hid hZ
  have HP := Lib.hid hp
  have HG := Lib.hid hg
  have hbl := hp.lt
  have e1 := hp.cell 129 (by omega)
  have hov := okC_four P
  have hcf : casB (P 129) = false → castB P = false := fun h => by unfold castB; rw [h]; rfl
  have HCF := Lib.hid hcf
  have HOV := Lib.hid hov
  clear hZ hp hg hov hcf
  obtain ⟨c, hc⟩ : ∃ c, P 129 = c := ⟨_, rfl⟩
  rw [hc] at e1 HCF HOV
  have HC := Lib.hid hc
  clear hc
  obtain ⟨v, hv⟩ : ∃ v, casB c = v := ⟨_, rfl⟩
  have HV := Lib.hid hv
  cases v
  · have HF := Lib.hid (HCF.out hv)
    clear hv
    go_enter Tryd.func57, Tryd.ntmps57
    go_wp2_with fail
    refine (isCastle_any c _).mono ?_
    rw [HV.out]
    rintro e w1 ⟨rfl, rfl⟩
    go_wp2
    go_ret
    exact ⟨q_b HF.out.symm, Below.refl _ _⟩
  · have hc01 : 0 ≤ c ∧ c ≤ 15 := by unfold casB at hv; simpa using hv
    have HF := Lib.hid (HOV.out hc01.1 hc01.2)
    clear hv
    go_enter Tryd.func57, Tryd.ntmps57
    go_wp2_with fail
    refine (isCastle_any c _).mono ?_
    rw [HV.out]
    rintro e w1 ⟨rfl, rfl⟩
    clear e1
    go_wp2_with (refine wpList_cas (by rfl) _ (by rfl) Z HZ.out (by rfl) B HG.out ?_)
    go_loopw [13] (fun i wr => ∃ j : Nat, j ≤ 4 ∧ i = .int .i64 (j : Int) ∧ Below w.heap.size w wr ∧ okC P j = true) (fun i _ => 4 - (intOf i).toNat)
    case atStart => exact ⟨0, Nat.zero_le _, rfl, Below.refl _ _, rfl⟩
    case round =>
      obtain ⟨j, hj, rfl, h1, h2⟩ := hrel
      have H1 := Lib.hid h1
      have H2 := Lib.hid h2
      clear h1 h2
      by_cases hlt : j < 4
      · have hix := HIX.out j hlt
        obtain ⟨k, r, hk, hr, hk6, hr6⟩ := casN_sq j hlt
        have hcd : condC P j = (bits .and .i64 c (casN (j * 4)) == 0 || homeB P (casN (j * 4 + 1)) k r) := by
          unfold condC; rw [HC.out, hk, hr]; rfl
        rw [hk, hr] at hix
        obtain ⟨x, hx⟩ : ∃ x, bits .and .i64 c (casN (j * 4)) = x := ⟨_, rfl⟩
        rw [hx] at hcd
        generalize casN (j * 4) = y at hix hx
        generalize casN (j * 4 + 1) = d at hix hcd
        obtain ⟨hm, hhm⟩ : ∃ h, homeB P d k r = h := ⟨_, rfl⟩
        rw [hhm] at hcd
        have HHM := Lib.hid hhm
        have HCD := Lib.hid hcd
        clear hhm hcd hk hr
        go_upto_region 6 with (fail)
        refine forget_B (fun W => PB W b P ∧ Below w.heap.size w W ∧ W.heap[wr.heap.size]? = some (.cells #[.int .i64 y, .int .i64 d, .int .i64 (k : Int), .int .i64 (r : Int)] 88 (0, 0))) ⟨(HP.out.go H1.out).alloc _, H1.out.alloc H1.out.size _, sl_at rfl⟩ ?_
        rintro W3 ⟨hp3, hb3, hx3⟩
        have x1 := cell_regrown (hp3.cell 129 (by omega))
        rw [HC.out] at x1
        have v0 := cell_regrown (row4z hx3)
        have v1 := cell_regrown (row4 hx3).1
        have v2 := cell_regrown (row4 hx3).2.1
        have v3 := cell_regrown (row4 hx3).2.2
        have c1 : ∀ d' os, Calls Tryd.prog 73 #[.pointer (some ⟨b, 0, none⟩), .agg #[.int .i64 y, .int .i64 d, .int .i64 (k : Int), .int .i64 (r : Int)]] (grow (redrawn W3 d') os) fun e w'' => e = .returned (.bool hm) ∧ ∃ p : Regrown, w'' = grow (redrawn W3 p.d) p.os := fun d' os => by
          have := waits_any b P y d k r hk6 hr6 (grow (redrawn W3 d') os) (hp3.go (below_regrown W3 d' os))
          rw [HHM.out] at this
          exact Calls.regrown_of this
        have HB3 := Lib.hid hb3
        clear hp3 hb3 hx3 hix
        by_cases hx0 : x = 0
        · subst hx0
          have HS := Lib.hid (show okC P (j + 1) = true by show (okC P j && condC P j) = true; rw [H2.out, HCD.out]; rfl)
          refine wp_region_quiet_below (by kernel_rfl) (by kernel_rfl) ?_
          repeat (first | go_big_quiet_step (fail) | quiet_step (fail))
          refine wpQuiet_nil ?_
          rintro W4 ⟨q, rfl⟩
          go_wp2
          go_roundw
          case rel => exact ⟨j + 1, by omega, by go_num, HB3.out.trans ((below_regrown W3 q.d q.os).mono HB3.out.size), HS.out⟩
          case measure => simp [intOf]; omega
        · have hx1 : (x == 0) = false := by simp [hx0]
          have hx2 : (x != 0) = true := by simp [hx0]
          rw [hx1] at HCD
          cases hm
          · have HF2 := Lib.hid (show castB P = false by rw [HF.out]; exact okC_false P hlt (by rw [HCD.out]; rfl))
            clear hx1 hx0
            refine wp_region_quiet_below (by kernel_rfl) (by kernel_rfl) ?_
            repeat (first | go_big_quiet_step (exact c1 _ _) | quiet_step (exact c1 _ _))
            refine wpQuiet_nil ?_
            rintro W4 ⟨q, rfl⟩
            go_wp2
            go_ret
            exact ⟨q_b HF2.out.symm, HB3.out.trans ((below_regrown W3 q.d q.os).mono HB3.out.size)⟩
          · have HS := Lib.hid (show okC P (j + 1) = true by show (okC P j && condC P j) = true; rw [H2.out, HCD.out]; rfl)
            clear hx1 hx0
            refine wp_region_quiet_below (by kernel_rfl) (by kernel_rfl) ?_
            repeat (first | go_big_quiet_step (exact c1 _ _) | quiet_step (exact c1 _ _))
            refine wpQuiet_nil ?_
            rintro W4 ⟨q, rfl⟩
            go_wp2
            go_roundw
            case rel => exact ⟨j + 1, by omega, by go_num, HB3.out.trans ((below_regrown W3 q.d q.os).mono HB3.out.size), HS.out⟩
            case measure => simp [intOf]; omega
      · obtain rfl : j = 4 := by omega
        go_wp2
        go_ret
        exact ⟨q_b (by rw [HF.out, H2.out]), H1.out⟩
end Go.Proofs.YtldepimkbnodpaaDoor
