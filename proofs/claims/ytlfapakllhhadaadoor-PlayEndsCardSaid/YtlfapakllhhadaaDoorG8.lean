/-
  Merged: Ba, Bt.
-/
import Derived.Test.YtlfapakllhhadaaDoorG6
import Derived.Test.YtlfapakllhhadaaDoorG5
import Derived.Test.YtlfapakllhhadaaDoorG7

namespace Go.Proofs.YtlfapakllhhadaaDoor
open Go.RowKit Go.Sort
set_option linter.unusedSimpArgs false
set_option linter.unusedVariables false

/-- what the package's variables hold -/
def offN (i : Nat) : Int := [4, 2, 3, 5, 6, 3, 2, 4].getD i 0
/-- a position is laid into a block of its own, in a region that does not draw -/
theorem wpList_new {ops : Array Oper} {rest : List Oper} {d : Tmp} {y : Operand} {t1 t2 : TypeId} {p1 p2 : String} {e1 e2 : Array Edge} {a : Act} {w : World} {Q : Exit → Act → World → Prop}
    (E : Array Value) (P : Nat → Int) (hE : E = (pc P).toArray) (hx : (a.put (some d) (.pointer (some ⟨w.heap.size, 0, none⟩))).eval (.tmp d) = .pointer (some ⟨w.heap.size, 0, none⟩)) (hy : (a.put (some d) (.pointer (some ⟨w.heap.size, 0, none⟩))).eval y = .agg E)
    (k : ∀ W, PB W w.heap.size P → Below w.heap.size w W → W.heap.size = w.heap.size + 1 → wpList Tryd.prog ops Q rest (a.put (some d) (.pointer (some ⟨w.heap.size, 0, none⟩))) W) :
    wpList Tryd.prog ops Q ({ dst := some d, op := .alloc 29, type := t1, pos := p1, after := e1, guard := none } :: { dst := none, op := .store 29 (.tmp d) y, type := t2, pos := p2, after := e2, guard := none } :: rest) a w := by
  subst hE
  refine wpList_plain rfl (fun K hK => ?_)
  go_simp
  refine hK _ _ ?_
  clear hK K
  have hpn : PB (w.alloc (.cells Tryd.zeroCells29 29)) w.heap.size (fun _ => 0) := by rw [zeroPos]; exact PB.new rfl
  refine wpList_store_mid rfl 29 _ _ rfl w.heap.size 0 (pc P).toArray hx hy (by rw [pc_size]; exact hpn.there) (by rw [infoPos, pc_size]) (pc_one P) ?_
  rw [List.toList_toArray]
  exact k _ (hpn.store (Q := P)) (below_store (b := w.heap.size) P (below_new _) (Nat.le_refl _) (by simp)) (by rw [sizes_B]; simp)
def emptyN (i : Nat) : Int := if i = 130 then -1 else if i = 132 then 1 else 0
theorem empty_built : (Tryd.zeroCells29.setIfInBounds 130 (.int .i64 (-1))).setIfInBounds 132 (.int .i64 1) = (pc emptyN).toArray := by kernel_rfl
set_option maxHeartbeats 2000000 in
set_option maxRecDepth 100000 in
theorem rEmpty_any (w : World) :
    Calls Tryd.prog 10 #[] w fun e w' => e = .returned (.agg (pc emptyN).toArray) ∧ Below w.heap.size w w' := by
  obtain ⟨Y, hY⟩ : ∃ Y, Y = (pc emptyN).toArray := ⟨_, rfl⟩
  rw [← hY]
  have HY := Lib.hid hY
  have hy := empty_built
  rw [← hY] at hy
  have hsz : Y.size = 133 := by rw [hY, pc_size]
  clear hY
  go_enter Tryd.func10, Tryd.ntmps10
  go_upto_region 1 with (fail)
  refine wp_region_lit ?_
  refine wpList_plain rfl (fun K hK => ?_)
  go_simp
  refine hK _ _ ?_
  clear hK K hy
  have hpn : PB (w.alloc (.cells Tryd.zeroCells29 29)) w.heap.size (fun _ => 0) := by rw [zeroPos]; exact PB.new rfl
  refine wpList_store_mid rfl 29 _ _ rfl w.heap.size 0 Y rfl rfl (by rw [hsz]; exact hpn.there) (by rw [infoPos, hsz]) (by rw [HY.out]; exact pc_one _) ?_
  refine forgetL_B (fun W => PB W w.heap.size emptyN ∧ Below w.heap.size w W) (by
    rw [HY.out, List.toList_toArray]
    exact ⟨hpn.store (Q := emptyN), below_store (b := w.heap.size) emptyN (below_new _) (Nat.le_refl _) (by simp)⟩) ?_
  rintro W ⟨hp, hb⟩
  have HP := Lib.hid hp
  have HB := Lib.hid hb
  clear hp hb hpn hsz
  show Exit.then _ _ Exit.normal _ _
  refine ret_go (by assumption) ?_
  refine bodyPost_ret (v := .agg (pc emptyN).toArray) ?_ rfl ⟨by rw [HY.out], HB.out⟩
  exact results_cell_mid (p := 0) (ty := 29) rfl _ W w.heap.size _ _ rfl HP.out.range Tryd.underlying29 rfl (by rw [infoPos, pc_len])
def startN (i : Nat) : Int :=
  if i < 128 then (if i % 2 = 0 then (if i / 2 < 8 then offN (i / 2) else if i / 2 < 16 then 1 else if i / 2 < 48 then 0 else if i / 2 < 56 then 1 else offN (i / 2 - 56)) else if i / 2 < 48 then 0 else 1)
  else if i = 129 then 15 else if i = 130 then -1 else if i = 132 then 1 else 0
def mixS (j i : Nat) : Int := if i < 128 ∧ i / 2 % 8 < j then startN i else emptyN i
theorem mixS_zero : ∀ i, i < 133 → emptyN i = mixS 0 i := fun i _ => by unfold mixS; rw [if_neg (by omega)]
theorem mixS_step : ∀ j, j < 8 → ∀ i, i < 133 → setN (setN (setN (setN (setN (setN (setN (setN (mixS j) (j * 2) (offN j)) (j * 2 + 1) 0) ((8 + j) * 2) 1) ((8 + j) * 2 + 1) 0) ((48 + j) * 2) 1) ((48 + j) * 2 + 1) 1) ((56 + j) * 2) (offN j)) ((56 + j) * 2 + 1) 1 i = mixS (j + 1) i := by decide +kernel
theorem mixS_end : ∀ i, i < 133 → setN (mixS 8) 129 15 i = startN i := by decide +kernel
theorem at_file (j r : Nat) (hj : j < 8) (hr : r < 8) : sAt (j : Int) (r : Int) = ((8 * r + j : Nat) : Int) := by
  unfold sAt; rw [if_pos ((onB_iff _ _).2 (by omega))]; omega
/-- what stands while the begin is laid: the answer's place, the position -/
structure PS (w W : World) (blk : Nat) (P : Nat → Int) : Prop where
  z : PB W w.heap.size (fun _ => 0)
  p : PB W blk P
  b : Below w.heap.size w W
  n : w.heap.size < blk
theorem PS.go {w W W' : World} {b : Nat} {P : Nat → Int} (h : PS w W b P) (g : Below W.heap.size W W') : PS w W' b P := ⟨h.z.go g, h.p.go g, h.b.trans (g.mono h.b.size), h.n⟩
theorem PS.set {w W : World} {b : Nat} {P : Nat → Int} (h : PS w W b P) (i : Nat) (x : Int) (hi : i < 133) : PS w (W.setCell ⟨b, i, none⟩ (.int .i64 x)) b (setN P i x) :=
  ⟨h.z.other (by have := h.n; omega) _ _, h.p.set i x hi, h.b.setCell (p := ⟨b, i, none⟩) (by have := h.n; simp; omega) _, h.n⟩
theorem PS.congr {w W : World} {b : Nat} {P Q : Nat → Int} (h : PS w W b P) (e : ∀ i, i < 133 → P i = Q i) : PS w W b Q := ⟨h.z, h.p.congr e, h.b, h.n⟩
end Go.Proofs.YtlfapakllhhadaaDoor

namespace Go.Proofs.YtlfapakllhhadaaDoor
open Go.RowKit Go.Sort
set_option linter.unusedSimpArgs false
set_option linter.unusedVariables false

def casN (i : Nat) : Int := [1, 0, 4, 7, 2, 0, 4, 0, 4, 1, 60, 63, 8, 1, 60, 56].getD i 0
structure GB (B : Nat) (w : World) : Prop where
  c : 2 < B
  cas : ∀ i, i < 16 → w.cell? ⟨2, i, none⟩ = some (.int .i64 (casN i))
theorem GB.below {B : Nat} {w w' : World} (h : GB B w) (g : Below B w w') : GB B w' :=
  ⟨h.c, fun i hi => by rw [g.cell (p := ⟨_, i, none⟩) h.c]; exact h.cas i hi⟩
theorem GB.mono {B B' : Nat} {w : World} (h : GB B w) (hb : B ≤ B') : GB B' w :=
  ⟨Nat.lt_of_lt_of_le h.c hb, h.cas⟩
theorem GB.casR {B : Nat} {w : World} (h : GB B w) : w.rangeAt 2 0 (nums casN 0 16) := fun j v hv => by
  have hj : j < 16 := by have := (List.getElem?_eq_some_iff.1 hv).1; rwa [nums_len] at this
  rw [nums_get _ _ _ _ hj, Nat.zero_add] at hv
  rw [Nat.zero_add, h.cas j hj, hv]
theorem infoCas : (Tryd.prog.info? 115).map (·.size) = some 4 := by kernel_rfl
theorem infoCas4 : (Tryd.prog.info? 116).map (·.size) = some 16 := by kernel_rfl
theorem nums_four (P : Nat → Int) (a : Nat) : (nums P a 4).toArray = #[.int .i64 (P a), .int .i64 (P (a + 1)), .int .i64 (P (a + 2)), .int .i64 (P (a + 3))] := rfl
theorem index_cas (P : Nat → Int) (j : Nat) (hj : j < 4) (w : World) : (Instr.index 116 (.agg (nums P 0 16).toArray) (.int .i64 (j : Int))).run Tryd.prog w = .ok (.agg #[.int .i64 (P (j * 4)), .int .i64 (P (j * 4 + 1)), .int .i64 (P (j * 4 + 2)), .int .i64 (P (j * 4 + 3))]) w := by
  have px : (Go.part 115 (nums P 0 16).toArray (j * 4)).run Tryd.prog w = .ok (.agg #[.int .i64 (P (j * 4)), .int .i64 (P (j * 4 + 1)), .int .i64 (P (j * 4 + 2)), .int .i64 (P (j * 4 + 3))]) w := by
    simp only [Go.part, isAgg, Sem.run_bind, run_underlying Tryd.underlying115, Result.andThen_ok, Sem.run_pure, if_true, size_of_info infoCas, nums_cut P 0 16 (j * 4) (j * 4 + 4) (by omega) (by omega)]
    rw [show j * 4 + 4 - j * 4 = 4 by omega, nums_four, Nat.zero_add]
  have hr : 0 ≤ (j : Int) ∧ (j : Int) < (4 : Nat) := by omega
  simp only [Instr.index, asIntOf, Sem.run_bind, Sem.run_pure, Result.andThen_ok, run_underlying Tryd.underlying116, hr, and_self, if_true, size_of_info infoCas, Int.toNat_natCast, px]
/-- the castlings, one by one -/
def condC (P : Nat → Int) (j : Nat) : Bool := bits .and .i64 (P 129) (casN (j * 4)) == 0 || homeB P (casN (j * 4 + 1)) (casN (j * 4 + 2)).toNat (casN (j * 4 + 3)).toNat
def okC (P : Nat → Int) : Nat → Bool
  | 0 => true
  | n + 1 => okC P n && condC P n
theorem okC_four (P : Nat → Int) (h0 : 0 ≤ P 129) (h1 : P 129 ≤ 15) : castB P = okC P 4 := by
  have hc : casB (P 129) = true := by unfold casB; simp [h0, h1]
  unfold castB
  rw [hc]
  simp only [okC, condC, casN, Bool.true_and, Nat.zero_mul, Nat.one_mul, Nat.zero_add, List.getD_cons_zero, List.getD_cons_succ]
  generalize P 129 = c at *
  have hcc : c = 0 ∨ c = 1 ∨ c = 2 ∨ c = 3 ∨ c = 4 ∨ c = 5 ∨ c = 6 ∨ c = 7 ∨ c = 8 ∨ c = 9 ∨ c = 10 ∨ c = 11 ∨ c = 12 ∨ c = 13 ∨ c = 14 ∨ c = 15 := by omega
  rcases hcc with rfl | rfl | rfl | rfl | rfl | rfl | rfl | rfl | rfl | rfl | rfl | rfl | rfl | rfl | rfl | rfl <;> rfl
theorem okC_false (P : Nat → Int) {n m : Nat} (h : m < n) (hs : condC P m = false) : okC P n = false := by
  induction n with
  | zero => omega
  | succ n ih =>
    show (okC P n && condC P n) = false
    rcases Nat.lt_succ_iff_lt_or_eq.1 h with h | rfl
    · rw [ih h]; rfl
    · rw [hs, Bool.and_false]
theorem casN_sq (j : Nat) (hj : j < 4) : ∃ k r : Nat, casN (j * 4 + 2) = (k : Int) ∧ casN (j * 4 + 3) = (r : Int) ∧ k < 64 ∧ r < 64 := by
  rcases (show j = 0 ∨ j = 1 ∨ j = 2 ∨ j = 3 by omega) with rfl | rfl | rfl | rfl
  · exact ⟨4, 7, rfl, rfl, by omega, by omega⟩
  · exact ⟨4, 0, rfl, rfl, by omega, by omega⟩
  · exact ⟨60, 63, rfl, rfl, by omega, by omega⟩
  · exact ⟨60, 56, rfl, rfl, by omega, by omega⟩
/-- a row of numbers is loaded, in a region that does not draw -/
theorem wpList_cas {ops : Array Oper} {rest : List Oper} {op : Oper} {a : Act} {w : World} {Q : Exit → Act → World → Prop} (hw : Region.wanted op (yielded ops a.tmps) = true) (x : Operand) (ho : op.op = .load 116 x)
    (Z : Array Value) (hZ : Z = (nums casN 0 16).toArray) (hx : a.eval x = .pointer (some ⟨2, 0, none⟩)) (B : Nat) (hc : GB B w) (h : wpList Tryd.prog ops Q rest (a.put op.dst (.agg Z)) w) : wpList Tryd.prog ops Q (op :: rest) a w := by
  subst hZ
  exact BigFrame.wpList_want hw fun _ hK => wp_load_mid 116 x ho _ 0 hx (nums casN 0 16) _ hc.casR Tryd.underlying116 rfl (by rw [infoCas4, nums_len]) (hK _ _ h)
theorem row4z {W : World} {H : Nat} {a b c d : Value} {t : TypeId} (h : W.heap[H]? = some (.cells #[a, b, c, d] t (0, 0))) : W.cell? ⟨H, 0, none⟩ = some a := by rw [cell_of_row W H 0 _ _ (0, 0) h]; rfl
set_option maxHeartbeats 2000000 in
set_option maxRecDepth 100000 in
theorem castlings_any (b : Nat) (P : Nat → Int) (w : World) (hp : PB w b P) (B : Nat) (hg : GB B w) (hB : B ≤ w.heap.size) :
    Calls Tryd.prog 76 #[.pointer (some ⟨b, 0, none⟩)] w fun e w' => e = .returned (.bool (castB P)) ∧ Below w.heap.size w w' := by
  obtain ⟨Z, hZ⟩ : ∃ Z, Z = (nums casN 0 16).toArray := ⟨_, rfl⟩
  have HIX := Lib.hid (show ∀ (j : Nat) (hj : j < 4) (W : World), (Instr.index 116 (.agg Z) (.int .i64 (j : Int))).run Tryd.prog W = .ok (.agg #[.int .i64 (casN (j * 4)), .int .i64 (casN (j * 4 + 1)), .int .i64 (casN (j * 4 + 2)), .int .i64 (casN (j * 4 + 3))]) W from fun j hj W => by
    rw [hZ]; exact index_cas casN j hj W)
  have HZ := Lib.hid hZ
  have HP := Lib.hid hp
  have HG := Lib.hid hg
  have hbl := hp.lt
  have e1 := hp.cell 129 (by omega)
  have hov := okC_four P
  have hcf : casB (P 129) = false → castB P = false := fun h => by unfold castB; rw [h]; rfl
  have HCF := Lib.hid hcf
  have HOV := Lib.hid hov
  clear hZ hp hg hov hcf
  obtain ⟨c, hc⟩ : ∃ c, P 129 = c := ⟨_, rfl⟩
  rw [hc] at e1 HCF HOV
  have HC := Lib.hid hc
  clear hc
  obtain ⟨v, hv⟩ : ∃ v, casB c = v := ⟨_, rfl⟩
  have HV := Lib.hid hv
  cases v
  · have HF := Lib.hid (HCF.out hv)
    clear hv
    go_enter Tryd.func76, Tryd.ntmps76
    go_wp2_with fail
    refine (isCastle_any c _).mono ?_
    rw [HV.out]
    rintro e w1 ⟨rfl, rfl⟩
    go_wp2
    go_ret
    exact ⟨q_b HF.out.symm, Below.refl _ _⟩
  · have hc01 : 0 ≤ c ∧ c ≤ 15 := by unfold casB at hv; simpa using hv
    have HF := Lib.hid (HOV.out hc01.1 hc01.2)
    clear hv
    go_enter Tryd.func76, Tryd.ntmps76
    go_wp2_with fail
    refine (isCastle_any c _).mono ?_
    rw [HV.out]
    rintro e w1 ⟨rfl, rfl⟩
    clear e1
    go_wp2_with (refine wpList_cas (by rfl) _ (by rfl) Z HZ.out (by rfl) B HG.out ?_)
    go_loopw [13] (fun i wr => ∃ j : Nat, j ≤ 4 ∧ i = .int .i64 (j : Int) ∧ Below w.heap.size w wr ∧ okC P j = true) (fun i _ => 4 - (intOf i).toNat)
    case atStart => exact ⟨0, Nat.zero_le _, rfl, Below.refl _ _, rfl⟩
    case round =>
      obtain ⟨j, hj, rfl, h1, h2⟩ := hrel
      have H1 := Lib.hid h1
      have H2 := Lib.hid h2
      clear h1 h2
      by_cases hlt : j < 4
      · have hix := HIX.out j hlt
        obtain ⟨k, r, hk, hr, hk6, hr6⟩ := casN_sq j hlt
        have hcd : condC P j = (bits .and .i64 c (casN (j * 4)) == 0 || homeB P (casN (j * 4 + 1)) k r) := by
          unfold condC; rw [HC.out, hk, hr]; rfl
        rw [hk, hr] at hix
        obtain ⟨x, hx⟩ : ∃ x, bits .and .i64 c (casN (j * 4)) = x := ⟨_, rfl⟩
        rw [hx] at hcd
        generalize casN (j * 4) = y at hix hx
        generalize casN (j * 4 + 1) = d at hix hcd
        obtain ⟨hm, hhm⟩ : ∃ h, homeB P d k r = h := ⟨_, rfl⟩
        rw [hhm] at hcd
        have HHM := Lib.hid hhm
        have HCD := Lib.hid hcd
        clear hhm hcd hk hr
        go_upto_region 6 with (fail)
        refine forget_B (fun W => PB W b P ∧ Below w.heap.size w W ∧ W.heap[wr.heap.size]? = some (.cells #[.int .i64 y, .int .i64 d, .int .i64 (k : Int), .int .i64 (r : Int)] 115 (0, 0))) ⟨(HP.out.go H1.out).alloc _, H1.out.alloc H1.out.size _, sl_at rfl⟩ ?_
        rintro W3 ⟨hp3, hb3, hx3⟩
        have x1 := cell_regrown (hp3.cell 129 (by omega))
        rw [HC.out] at x1
        have v0 := cell_regrown (row4z hx3)
        have v1 := cell_regrown (row4 hx3).1
        have v2 := cell_regrown (row4 hx3).2.1
        have v3 := cell_regrown (row4 hx3).2.2
        have c1 : ∀ d' os, Calls Tryd.prog 105 #[.pointer (some ⟨b, 0, none⟩), .agg #[.int .i64 y, .int .i64 d, .int .i64 (k : Int), .int .i64 (r : Int)]] (grow (redrawn W3 d') os) fun e w'' => e = .returned (.bool hm) ∧ ∃ p : Regrown, w'' = grow (redrawn W3 p.d) p.os := fun d' os => by
          have := waits_any b P y d k r hk6 hr6 (grow (redrawn W3 d') os) (hp3.go (below_regrown W3 d' os))
          rw [HHM.out] at this
          exact Calls.regrown_of this
        have HB3 := Lib.hid hb3
        clear hp3 hb3 hx3 hix
        by_cases hx0 : x = 0
        · subst hx0
          have HS := Lib.hid (show okC P (j + 1) = true by show (okC P j && condC P j) = true; rw [H2.out, HCD.out]; rfl)
          refine wp_region_quiet_below (by kernel_rfl) (by kernel_rfl) ?_
          repeat (first | go_big_quiet_step (fail) | quiet_step (fail))
          refine wpQuiet_nil ?_
          rintro W4 ⟨q, rfl⟩
          go_wp2
          go_roundw
          case rel => exact ⟨j + 1, by omega, by go_num, HB3.out.trans ((below_regrown W3 q.d q.os).mono HB3.out.size), HS.out⟩
          case measure => simp [intOf]; omega
        · have hx1 : (x == 0) = false := by simp [hx0]
          have hx2 : (x != 0) = true := by simp [hx0]
          rw [hx1] at HCD
          cases hm
          · have HF2 := Lib.hid (show castB P = false by rw [HF.out]; exact okC_false P hlt (by rw [HCD.out]; rfl))
            clear hx1 hx0
            refine wp_region_quiet_below (by kernel_rfl) (by kernel_rfl) ?_
            repeat (first | go_big_quiet_step (exact c1 _ _) | quiet_step (exact c1 _ _))
            refine wpQuiet_nil ?_
            rintro W4 ⟨q, rfl⟩
            go_wp2
            go_ret
            exact ⟨q_b HF2.out.symm, HB3.out.trans ((below_regrown W3 q.d q.os).mono HB3.out.size)⟩
          · have HS := Lib.hid (show okC P (j + 1) = true by show (okC P j && condC P j) = true; rw [H2.out, HCD.out]; rfl)
            clear hx1 hx0
            refine wp_region_quiet_below (by kernel_rfl) (by kernel_rfl) ?_
            repeat (first | go_big_quiet_step (exact c1 _ _) | quiet_step (exact c1 _ _))
            refine wpQuiet_nil ?_
            rintro W4 ⟨q, rfl⟩
            go_wp2
            go_roundw
            case rel => exact ⟨j + 1, by omega, by go_num, HB3.out.trans ((below_regrown W3 q.d q.os).mono HB3.out.size), HS.out⟩
            case measure => simp [intOf]; omega
      · obtain rfl : j = 4 := by omega
        go_wp2
        go_ret
        exact ⟨q_b (by rw [HF.out, H2.out]), H1.out⟩
end Go.Proofs.YtlfapakllhhadaaDoor
