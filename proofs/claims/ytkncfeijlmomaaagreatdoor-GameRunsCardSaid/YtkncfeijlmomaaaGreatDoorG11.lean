/-
  Merged: Bp, Br, Me, Mf, Mg.
-/
import Derived.Test.YtkncfeijlmomaaaGreatDoorG10
import Derived.Test.YtkncfeijlmomaaaGreatDoorG3
import Derived.Test.YtkncfeijlmomaaaGreatDoorG2
import Derived.Laws.AppendOwnNone

namespace Go.Proofs.YtkncfeijlmomaaaGreatDoor
open Go.RowKit Go.Sort
set_option linter.unusedSimpArgs false
set_option linter.unusedVariables false

def cntB (h f : Int) : Bool := decide (0 ≤ h) && decide (h ≤ 1024) && decide (1 ≤ f) && decide (f ≤ 16384)
theorem rightB_eq (P : Nat → Int) : rightB P = (piecesB P && castB P && overB P && cntB (P 131) (P 132)) := by
  unfold rightB cntB; simp only [Bool.and_assoc]
theorem cnt_cases (h f : Int) : (h < 0 ∧ cntB h f = false) ∨ (0 ≤ h ∧ 1024 < h ∧ cntB h f = false) ∨ (0 ≤ h ∧ h ≤ 1024 ∧ f < 1 ∧ cntB h f = false) ∨ (0 ≤ h ∧ h ≤ 1024 ∧ 1 ≤ f ∧ 16384 < f ∧ cntB h f = false) ∨ (0 ≤ h ∧ h ≤ 1024 ∧ 1 ≤ f ∧ f ≤ 16384 ∧ cntB h f = true) := by
  unfold cntB
  by_cases h1 : 0 ≤ h <;> by_cases h2 : h ≤ 1024 <;> by_cases h3 : 1 ≤ f <;> by_cases h4 : f ≤ 16384 <;> simp [h1, h2, h3, h4] <;> omega
end Go.Proofs.YtkncfeijlmomaaaGreatDoor

namespace Go.Proofs.YtkncfeijlmomaaaGreatDoor
open Go.RowKit Go.Sort
set_option linter.unusedSimpArgs false
set_option linter.unusedVariables false

set_option maxHeartbeats 1000000 in
theorem counts_any (b : Nat) (P : Nat → Int) (w : World) (hp : PB w b P) :
    Calls Tryz.prog 152 #[.pointer (some ⟨b, 0, none⟩)] w fun e w' => e = .returned (.bool (cntB (P 131) (P 132))) ∧ w = w' := by
  have e1 := hp.cell 131 (by omega)
  have e2 := hp.cell 132 (by omega)
  clear hp
  generalize P 131 = hf at *
  generalize P 132 = fu at *
  rcases cnt_cases hf fu with ⟨h1, hc⟩ | ⟨h1, h2, hc⟩ | ⟨h1, h2, h3, hc⟩ | ⟨h1, h2, h3, h4, hc⟩ | ⟨h1, h2, h3, h4, hc⟩
  all_goals
    rw [hc]
    clear hc
    go_enter Tryz.func152, Tryz.ntmps152
    go_wp2
    go_ret
    exact ⟨q_b (by first | rfl | (simp; done) | (simp; omega)), rfl⟩
theorem row4 {W : World} {H : Nat} {a b c d : Value} {t : TypeId} (h : W.heap[H]? = some (.cells #[a, b, c, d] t (0, 0))) :
    W.cell? ⟨H, 1, none⟩ = some b ∧ W.cell? ⟨H, 2, none⟩ = some c ∧ W.cell? ⟨H, 3, none⟩ = some d :=
  ⟨by rw [cell_of_row W H 1 _ _ (0, 0) h]; rfl, by rw [cell_of_row W H 2 _ _ (0, 0) h]; rfl, by rw [cell_of_row W H 3 _ _ (0, 0) h]; rfl⟩
theorem three_drew {w : World} {b : Nat} {P : Nat → Int} (h : PB w b P) (o1 o2 o3 : Obj) :
    PB (((w.alloc o1).alloc o2).alloc o3).drew b P ∧ (((w.alloc o1).alloc o2).alloc o3).drew.heap[w.heap.size]? = some o1 ∧ (((w.alloc o1).alloc o2).alloc o3).drew.heap[w.heap.size + 1]? = some o2 ∧
      (((w.alloc o1).alloc o2).alloc o3).drew.heap[w.heap.size + 1 + 1]? = some o3 ∧ Below w.heap.size w (((w.alloc o1).alloc o2).alloc o3).drew :=
  ⟨(((h.alloc _).alloc _).alloc _).drew, (three_at w o1 o2 o3).1, (three_at w o1 o2 o3).2.1, (three_at w o1 o2 o3).2.2.1, (three_at w o1 o2 o3).2.2.2.1.drew⟩
set_option maxHeartbeats 1000000 in
theorem waits_any (b : Nat) (P : Nat → Int) (c d : Int) (k r : Nat) (hk : k < 64) (hr : r < 64) (w : World) (hp : PB w b P) :
    Calls Tryz.prog 172 #[.pointer (some ⟨b, 0, none⟩), .agg #[.int .i64 c, .int .i64 d, .int .i64 (k : Int), .int .i64 (r : Int)]] w fun e w' => e = .returned (.bool (homeB P d k r)) ∧ Below w.heap.size w w' := by
  have HP := Lib.hid hp
  obtain ⟨a, ha⟩ : ∃ a, pe (P (k * 2)) (P (k * 2 + 1)) 6 d = a := ⟨_, rfl⟩
  obtain ⟨e, he⟩ : ∃ e, pe (P (r * 2)) (P (r * 2 + 1)) 4 d = e := ⟨_, rfl⟩
  have HV := Lib.hid (show homeB P d k r = (a && e) by unfold homeB; rw [Nat.mul_comm 2 k, Nat.mul_comm 2 r, ha, he])
  have k0 : (0 : Int) ≤ k := by omega
  have k1 : (k : Int) < 64 := by omega
  have r0 : (0 : Int) ≤ r := by omega
  have r1 : (r : Int) < 64 := by omega
  clear hp
  go_enter Tryz.func172, Tryz.ntmps172
  go_upto_region 1 with (fail)
  go_region
  · go_upto_region 2 with (fail)
    refine forget_B (fun W => PB W b P ∧ W.heap[w.heap.size]? = some (.cells #[.int .i64 c, .int .i64 d, .int .i64 (k : Int), .int .i64 (r : Int)] 179 (0, 0)) ∧ W.heap[w.heap.size + 1]? = some (.cells #[.int .i64 6, .int .i64 d] 25 (0, 0)) ∧ W.heap[w.heap.size + 1 + 1]? = some (.cells #[.int .i64 4, .int .i64 d] 25 (0, 0)) ∧ Below w.heap.size w W)
      (let h := three_drew HP.out _ _ _; ⟨h.1, h.2.1, h.2.2.1, h.2.2.2.1, h.2.2.2.2⟩) ?_
    rintro W ⟨hp, hc, hkb, hrb, hbw⟩
    have HB := Lib.hid hbw
    have u1 := cell_regrown (row4 hc).1
    have u2 := cell_regrown (row4 hc).2.1
    have u3 := cell_regrown (row4 hc).2.2
    have v1 := cell_regrown (row2 hkb).1
    have v2 := cell_regrown (row2 hkb).2.1
    have v3 := cell_regrown (row2 hrb).1
    have v4 := cell_regrown (row2 hrb).2.1
    have y1 := cell_regrown (hp.cell (k * 2) (by omega))
    have y2 := cell_regrown (hp.cell (k * 2 + 1) (by omega))
    have y3 := cell_regrown (hp.cell (r * 2) (by omega))
    have y4 := cell_regrown (hp.cell (r * 2 + 1) (by omega))
    clear hp hc hkb hrb hbw HP
    generalize P (k * 2) = x1 at *
    generalize P (k * 2 + 1) = x2 at *
    generalize P (r * 2) = x3 at *
    generalize P (r * 2 + 1) = x4 at *
    cases a
    all_goals
      refine wp_region_quiet_below (by kernel_rfl) (by kernel_rfl) ?_
      repeat (first | go_big_quiet_step (fail) | quiet_step (fail))
      refine wpQuiet_nil ?_
      rintro W4 ⟨q, rfl⟩
      go_wp2
      go_ret
      exact ⟨q_b (by rw [HV.out]; first | rfl | simp), HB.out.trans ((below_regrown W q.d q.os).mono HB.out.size)⟩
  · go_upto_region 2 with (fail)
    refine forget_B (fun W => PB W b P ∧ W.heap[w.heap.size]? = some (.cells #[.int .i64 c, .int .i64 d, .int .i64 (k : Int), .int .i64 (r : Int)] 179 (0, 0)) ∧ W.heap[w.heap.size + 1 + 1]? = some (.cells #[.int .i64 6, .int .i64 d] 25 (0, 0)) ∧ W.heap[w.heap.size + 1]? = some (.cells #[.int .i64 4, .int .i64 d] 25 (0, 0)) ∧ Below w.heap.size w W)
      (let h := three_drew HP.out _ _ _; ⟨h.1, h.2.1, h.2.2.2.1, h.2.2.1, h.2.2.2.2⟩) ?_
    rintro W ⟨hp, hc, hkb, hrb, hbw⟩
    have HB := Lib.hid hbw
    have u1 := cell_regrown (row4 hc).1
    have u2 := cell_regrown (row4 hc).2.1
    have u3 := cell_regrown (row4 hc).2.2
    have v1 := cell_regrown (row2 hkb).1
    have v2 := cell_regrown (row2 hkb).2.1
    have v3 := cell_regrown (row2 hrb).1
    have v4 := cell_regrown (row2 hrb).2.1
    have y1 := cell_regrown (hp.cell (k * 2) (by omega))
    have y2 := cell_regrown (hp.cell (k * 2 + 1) (by omega))
    have y3 := cell_regrown (hp.cell (r * 2) (by omega))
    have y4 := cell_regrown (hp.cell (r * 2 + 1) (by omega))
    clear hp hc hkb hrb hbw HP
    generalize P (k * 2) = x1 at *
    generalize P (k * 2 + 1) = x2 at *
    generalize P (r * 2) = x3 at *
    generalize P (r * 2 + 1) = x4 at *
    cases a
    all_goals
      refine wp_region_quiet_below (by kernel_rfl) (by kernel_rfl) ?_
      repeat (first | go_big_quiet_step (fail) | quiet_step (fail))
      refine wpQuiet_nil ?_
      rintro W4 ⟨q, rfl⟩
      go_wp2
      go_ret
      exact ⟨q_b (by rw [HV.out]; first | rfl | simp), HB.out.trans ((below_regrown W q.d q.os).mono HB.out.size)⟩
end Go.Proofs.YtkncfeijlmomaaaGreatDoor

namespace Go.Proofs.YtkncfeijlmomaaaGreatDoor
open Go.RowKit Go.Sort
set_option linter.unusedSimpArgs false
set_option linter.unusedVariables false
set_option maxRecDepth 20000

theorem GM.casR {B : Nat} {w : World} (h : GM B w) : w.rangeAt 3 0 (nums mcsN 0 16) := fun j v hv => by
  have hj : j < 16 := by have := (List.getElem?_eq_some_iff.1 hv).1; rwa [nums_len] at this
  rw [nums_get _ _ _ _ hj, Nat.zero_add] at hv
  rw [Nat.zero_add, h.cell j hj, hv]
theorem infoMcs : (Tryz.prog.info? 222).map (·.size) = some 4 := by kernel_rfl
theorem infoMcs4 : (Tryz.prog.info? 223).map (·.size) = some 16 := by kernel_rfl
theorem numsM4 (P : Nat → Int) (a : Nat) : (nums P a 4).toArray = #[.int .i64 (P a), .int .i64 (P (a + 1)), .int .i64 (P (a + 2)), .int .i64 (P (a + 3))] := rfl
theorem index_mcs (P : Nat → Int) (j : Nat) (hj : j < 4) (w : World) : (Instr.index 223 (.agg (nums P 0 16).toArray) (.int .i64 (j : Int))).run Tryz.prog w = .ok (.agg #[.int .i64 (P (j * 4)), .int .i64 (P (j * 4 + 1)), .int .i64 (P (j * 4 + 2)), .int .i64 (P (j * 4 + 3))]) w := by
  have px : (Go.part 222 (nums P 0 16).toArray (j * 4)).run Tryz.prog w = .ok (.agg #[.int .i64 (P (j * 4)), .int .i64 (P (j * 4 + 1)), .int .i64 (P (j * 4 + 2)), .int .i64 (P (j * 4 + 3))]) w := by
    simp only [Go.part, isAgg, Sem.run_bind, run_underlying Tryz.underlying222, Result.andThen_ok, Sem.run_pure, if_true, size_of_info infoMcs, nums_cut P 0 16 (j * 4) (j * 4 + 4) (by omega) (by omega)]
    rw [show j * 4 + 4 - j * 4 = 4 by omega, numsM4, Nat.zero_add]
  have hr : 0 ≤ (j : Int) ∧ (j : Int) < (4 : Nat) := by omega
  simp only [Instr.index, asIntOf, Sem.run_bind, Sem.run_pure, Result.andThen_ok, run_underlying Tryz.underlying223, hr, and_self, if_true, size_of_info infoMcs, Int.toNat_natCast, px]
theorem wpList_mcs {ops : Array Oper} {rest : List Oper} {op : Oper} {a : Act} {w : World} {Q : Exit → Act → World → Prop} (hw : Region.wanted op (yielded ops a.tmps) = true) (x : Operand) (ho : op.op = .load 223 x)
    (Z : Array Value) (hZ : Z = (nums mcsN 0 16).toArray) (hx : a.eval x = .pointer (some ⟨3, 0, none⟩)) (B : Nat) (hc : GM B w) (h : wpList Tryz.prog ops Q rest (a.put op.dst (.agg Z)) w) : wpList Tryz.prog ops Q (op :: rest) a w := by
  subst hZ
  exact BigFrame.wpList_want hw fun _ hK => wp_load_mid 223 x ho _ 0 hx (nums mcsN 0 16) _ hc.casR Tryz.underlying223 rfl (by rw [infoMcs4, nums_len]) (hK _ _ h)
theorem row4m {W : World} {H : Nat} {a b c d : Value} {t : TypeId} (h : W.heap[H]? = some (.cells #[a, b, c, d] t (0, 0))) :
    W.cell? ⟨H, 0, none⟩ = some a ∧ W.cell? ⟨H, 1, none⟩ = some b ∧ W.cell? ⟨H, 2, none⟩ = some c ∧ W.cell? ⟨H, 3, none⟩ = some d ∧ ∀ o, W.frozen? ⟨H, o, none⟩ = false :=
  ⟨by rw [cell_of_row W H 0 _ _ (0, 0) h]; rfl, by rw [cell_of_row W H 1 _ _ (0, 0) h]; rfl, by rw [cell_of_row W H 2 _ _ (0, 0) h]; rfl, by rw [cell_of_row W H 3 _ _ (0, 0) h]; rfl, fun o => frozen_of_row W H o _ _ h⟩
/-- Castle has a castling -/
def hasB (P : Nat → Int) (c : Int) : Bool := decide (0 ≤ P 129) && decide (P 129 ≤ 15) && (bits .and .i64 (P 129) c != 0)
set_option maxHeartbeats 1000000 in
theorem has_c_any (b : Nat) (P : Nat → Int) (c d f y : Int) (w : World) (hp : PB w b P) :
    Calls Tryz.prog 217 #[.pointer (some ⟨b, 0, none⟩), .agg #[.int .i64 c, .int .i64 d, .int .i64 f, .int .i64 y]] w fun e w' => e = .returned (.bool (hasB P c)) ∧ Below w.heap.size w w' := by
  have HI := Lib.hid (show PB (w.alloc (.cells #[.int .i64 c, .int .i64 d, .int .i64 f, .int .i64 y] 222)) b P from hp.alloc _)
  have HV := Lib.hid (show hasB P c = (decide (0 ≤ P 129) && decide (P 129 ≤ 15) && (bits .and .i64 (P 129) c != 0)) from rfl)
  have HC := Lib.hid (show ∀ W, PB W b P → W.cell? ⟨b, 129, none⟩ = some (.int .i64 (P 129)) from fun W h => h.cell 129 (by omega))
  obtain ⟨x, hx⟩ : ∃ x, bits .and .i64 (P 129) c = x := ⟨_, rfl⟩
  rw [hx] at HV
  have HX := Lib.hid hx
  obtain ⟨r, hr⟩ : ∃ r, hasB P c = r := ⟨_, rfl⟩
  rw [hr] at HV ⊢
  obtain ⟨ca, hca⟩ : ∃ x, P 129 = x := ⟨_, rfl⟩
  rw [hca] at HV HC HX
  clear hx hr hca hp
  go_enter Tryz.func217, Tryz.ntmps217
  go_upto_region 1 with (fail)
  refine forget_B (fun W => PB W b P ∧ W.heap[w.heap.size]? = some (.cells #[.int .i64 c, .int .i64 d, .int .i64 f, .int .i64 y] 222 (0, 0)) ∧ Below w.heap.size w W) ⟨HI.out, sl_at rfl, below_new _⟩ ?_
  clear HI
  rintro W ⟨h1, h2, h3⟩
  have e1 := cell_regrown (HC.out W h1)
  have y0 := cell_regrown (row4m h2).1
  have HB := Lib.hid h3
  clear h1 h2 h3 HC
  by_cases g1 : 0 ≤ ca
  · by_cases g2 : ca ≤ 15
    · have hx := HX.out
      by_cases g3 : x = 0
      · have g3' : (x != 0) = false := by simp [g3]
        clear g3
        refine wp_region_quiet_below (by kernel_rfl) (by kernel_rfl) ?_
        repeat (first | go_big_quiet_step (fail) | quiet_step (fail))
        refine wpQuiet_nil ?_
        rintro W4 ⟨q, rfl⟩
        go_wp2
        go_ret
        exact ⟨q_b (by rw [HV.out]; simp [g1, g2, g3']), HB.out.trans ((below_regrown W q.d q.os).mono HB.out.size)⟩
      · have g3' : (x != 0) = true := by simp [g3]
        clear g3
        refine wp_region_quiet_below (by kernel_rfl) (by kernel_rfl) ?_
        repeat (first | go_big_quiet_step (fail) | quiet_step (fail))
        refine wpQuiet_nil ?_
        rintro W4 ⟨q, rfl⟩
        go_wp2
        go_ret
        exact ⟨q_b (by rw [HV.out]; simp [g1, g2, g3']), HB.out.trans ((below_regrown W q.d q.os).mono HB.out.size)⟩
    · clear HX
      refine wp_region_quiet_below (by kernel_rfl) (by kernel_rfl) ?_
      repeat (first | go_big_quiet_step (fail) | quiet_step (fail))
      refine wpQuiet_nil ?_
      rintro W4 ⟨q, rfl⟩
      go_wp2
      go_ret
      exact ⟨q_b (by have h : ¬ ca ≤ 15 := by omega
                     rw [HV.out, decide_eq_false h]; simp), HB.out.trans ((below_regrown W q.d q.os).mono HB.out.size)⟩
  · clear HX
    refine wp_region_quiet_below (by kernel_rfl) (by kernel_rfl) ?_
    repeat (first | go_big_quiet_step (fail) | quiet_step (fail))
    refine wpQuiet_nil ?_
    rintro W4 ⟨q, rfl⟩
    go_wp2
    go_ret
    exact ⟨q_b (by have h : ¬ 0 ≤ ca := by omega
                   rw [HV.out, decide_eq_false h]; simp), HB.out.trans ((below_regrown W q.d q.os).mono HB.out.size)⟩
/-- the way to the corner is free, and the rook stands there -/
def clrB (P : Nat → Int) (xs : List Int) (c : Nat) (d : Int) : Bool := ((List.range (xs.length - 1)).all fun k => emB P (xs.getD k 0).toNat) && pe (P (2 * c)) (P (2 * c + 1)) 4 d
theorem clr_first (P : Nat → Int) (xs : List Int) (c : Nat) (d : Int) (r : Int) (h0 : 0 < xs.length) (hc : xs.getD (xs.length - 1) 0 = c) (h : FI (fun x => !emB P x.toNat) xs r) :
    clrB P xs c d = ((r == (xs.length : Int) - 1) && pe (P (2 * c)) (P (2 * c + 1)) 4 d) := by
  unfold clrB
  cases hp : pe (P (2 * c)) (P (2 * c + 1)) 4 d
  · simp
  · rw [Bool.and_true, Bool.and_true]
    have hne : emB P c = false := by
      unfold emB
      have := (pe_iff _ _ _ _).1 hp
      rw [this.1]; rfl
    rcases h with ⟨rfl, h⟩ | ⟨k, hk, rfl, h1, h2⟩
    · exfalso
      have := h (xs.length - 1) (by omega)
      rw [hc] at this
      simp [hne] at this
    · by_cases e : k = xs.length - 1
      · have e2 : ((k : Int) == (xs.length : Int) - 1) = true := by simp; omega
        rw [e2, List.all_eq_true]
        intro j hj
        have := h2 j (by have := List.mem_range.1 hj; omega)
        simpa using this
      · have e2 : ((k : Int) == (xs.length : Int) - 1) = false := by simp; omega
        rw [e2]
        cases ha : (List.range (xs.length - 1)).all fun k => emB P (xs.getD k 0).toNat
        · rfl
        · exfalso
          rw [List.all_eq_true] at ha
          have := ha k (List.mem_range.2 (by omega))
          simp only [this] at h1
          cases h1
set_option maxHeartbeats 2000000 in
theorem isClear_any (B b : Nat) (P : Nat → Int) (y d f a : Int) (n : Nat) (xs : List Int) (c : Nat) (hA : I64 a) (ha0 : a ≠ 0) (hr : RayN f a 0 n) (h7 : n ≤ 7) (hq : rqC f a 0 n = ivals xs) (hn : xs.length = n) (h0 : 0 < n) (hc : xs.getD (n - 1) 0 = c) (hc64 : c < 64) (hxr : ∀ x ∈ xs, 0 ≤ x ∧ x < 64)
    (w : World) (hp : PB w b P) (hg : GS B w) (hm : GM B w) (hB : B ≤ w.heap.size) :
    Calls Tryz.prog 218 #[.pointer (some ⟨b, 0, none⟩), .agg #[.int .i64 y, .int .i64 d, .int .i64 f, .int .i64 a]] w fun e w' => e = .returned (.bool (clrB P xs c d)) ∧ Below w.heap.size w w' := by
  have HI := Lib.hid ((MV.begin hp hg hm hB).go (below_new (w := w) (.cells #[.int .i64 y, .int .i64 d, .int .i64 f, .int .i64 a] 222)))
  have MR := Lib.hid (fun W => ray_any f a 0 n W hA (by unfold I64; omega) (fun h => ha0 h.1) hr h7)
  have HQ := Lib.hid hq
  have HN := Lib.hid hn
  have HCL := Lib.hid (fun r h => clr_first P xs c d r (by omega) (by rw [hn]; exact hc) h)
  have HIF := Lib.hid (fun (base : Nat) (v : Value) (W : World) (h1 : PB W b P) (h2 : W.ownsRow base 3 1 v xs.length (ivals xs)) =>
    indexFunc_any 212 b (enters_of Tryz.func212 (by kernel_rfl) rfl) (fun x => !emB P x.toNat) (fun W => PB W b P) (fun W W' h g => h.go g)
      (fun W x h x0 x1 => by
        obtain ⟨n, rfl⟩ := Int.eq_ofNat_of_zero_le x0
        rw [Int.toNat_natCast]
        exact mStands_any b P n (by omega) W h) base xs hxr v W h1 (by omega) h2)
  have HCO := Lib.hid hc
  have HC1 := Lib.hid (show ∀ W, PB W b P → W.cell? ⟨b, c * 2, none⟩ = some (.int .i64 (P (c * 2))) ∧ W.cell? ⟨b, c * 2 + 1, none⟩ = some (.int .i64 (P (c * 2 + 1))) from fun W h => ⟨h.cell _ (by omega), h.cell _ (by omega)⟩)
  have HC64 := Lib.hid hc64
  rw [Nat.mul_comm 2 c] at HCL
  obtain ⟨R, hR⟩ : ∃ R, clrB P xs c d = R := ⟨_, rfl⟩
  rw [hR] at HCL ⊢
  generalize P (c * 2) = ck at *
  generalize P (c * 2 + 1) = cd at *
  clear hR hp hg hm hB hr hq hc hxr hA ha0 hc64
  go_enter Tryz.func218, Tryz.ntmps218
  go_upto_region 1 with (fail)
  refine forget_B (fun W => MV B b P w W ∧ W.heap[w.heap.size]? = some (.cells #[.int .i64 y, .int .i64 d, .int .i64 f, .int .i64 a] 222 (0, 0))) ⟨HI.out, sl_at rfl⟩ ?_
  clear HI
  rintro W ⟨h1, h2⟩
  have HI := Lib.hid h1
  have HK := Lib.hid h2
  clear h1 h2
  obtain ⟨k0, k1, k2, k3, _⟩ := row4m HK.out
  go_wp2_with fail
  refine (MR.out _).mono ?_
  rintro e w1 ⟨v, rfl, hb, hown⟩
  replace HI := Lib.hid (HI.out.go hb)
  replace HK := Lib.hid (sl_go HK.out hb)
  rw [HQ.out, ← HN.out] at hown
  have HO := Lib.hid hown
  clear hb hown MR k0 k1 k2 k3
  go_wp2_with fail
  refine (HIF.out _ v _ HI.out.p HO.out).mono ?_
  rintro e w2 ⟨⟨r, rfl, hr⟩, hb⟩
  replace HI := Lib.hid (HI.out.go hb)
  replace HK := Lib.hid (sl_go HK.out hb)
  have hown := owns_go HO.out hb
  have hcl := HCL.out r hr
  rw [ivals_range] at hown
  obtain ⟨pa, ca, rfl, hrd, _⟩ := sq_reads hown
  rw [HN.out] at hcl hrd ⊢
  have HRD := Lib.hid hrd
  have HCV := Lib.hid hcl
  clear hb hown hcl hrd hr HIF HCL HO
  obtain ⟨k0, k1, k2, k3, _⟩ := row4m HK.out
  replace k1 := cell_regrown k1
  obtain ⟨c1, c2⟩ := HC1.out _ HI.out.p
  replace c1 := cell_regrown c1
  replace c2 := cell_regrown c2
  have hw1 : IntKind.i64.wrap ((n : Int) - 1) = (n : Int) - 1 := IntWalk.i64_in _ (by omega)
  go_upto_region 3 with (fail)
  by_cases e : r = (n : Int) - 1
  · have hnn : n - 1 < n := by omega
    obtain ⟨ab, ao, rfl⟩ := readsAddr HRD.out hnn
    have e0 := cell_regrown (readsAt HRD.out hnn)
    rw [HCO.out] at e0
    obtain ⟨m, hm⟩ : ∃ m : Nat, n - 1 = m := ⟨_, rfl⟩
    have hnm : (n : Int) - 1 = (m : Int) := by omega
    rw [hm] at e0
    rw [hnm] at e hw1 HCV
    subst e
    have hw2 : wrap64 ((n : Int) - 1) = (m : Int) := by unfold wrap64; omega
    have hw3 : (n : Int) - 1 = (m : Int) := hnm
    have m0 : (0 : Int) ≤ (m : Int) := by omega
    have m1 : (m : Int) < (n : Int) := by omega
    have q0 : (0 : Int) ≤ (c : Int) := by omega
    have q1 : (c : Int) < 64 := by have := HC64.out; omega
    have qq : ((m : Int) == (m : Int)) = true := by simp
    rw [qq] at HCV
    clear hnm hm qq hnn
    refine wp_region_quiet_below (by kernel_rfl) (by kernel_rfl) ?_
    repeat (first | go_big_quiet_step (fail) | quiet_step (fail))
    refine wpQuiet_nil ?_
    rintro W4 ⟨q, rfl⟩
    go_wp2
    go_ret
    exact ⟨q_b (by rw [HCV.out]; first | rfl | simp), HI.out.bel.trans ((below_regrown w2 q.d q.os).mono HI.out.bel.size)⟩
  · have e' : (r == (n : Int) - 1) = false := by simp [e]
    rw [e'] at HCV
    clear e
    refine wp_region_quiet_below (by kernel_rfl) (by kernel_rfl) ?_
    repeat (first | go_big_quiet_step (fail) | quiet_step (fail))
    refine wpQuiet_nil ?_
    rintro W4 ⟨q, rfl⟩
    go_wp2
    go_ret
    exact ⟨q_b (by rw [HCV.out]; first | rfl | simp), HI.out.bel.trans ((below_regrown w2 q.d q.os).mono HI.out.bel.size)⟩
end Go.Proofs.YtkncfeijlmomaaaGreatDoor

namespace Go.Proofs.YtkncfeijlmomaaaGreatDoor
open Go.RowKit Go.Sort
set_option linter.unusedSimpArgs false
set_option linter.unusedVariables false
set_option maxRecDepth 20000

/-- the way from a king to a corner -/
def wayJ (j : Nat) : List Int := [[5, 6, 7], [3, 2, 1, 0], [61, 62, 63], [59, 58, 57, 56]].getD j []
def cornJ (j : Nat) : Nat := [7, 0, 63, 56].getD j 0
def cstB (P : Nat → Int) (s : Int) (j : Nat) : Bool := (s == mcsN (j * 4 + 2)) && (P 128 == mcsN (j * 4 + 1)) && hasB P (mcsN (j * 4)) && clrB P (wayJ j) (cornJ j) (mcsN (j * 4 + 1))
def castlesL (P : Nat → Int) (s : Int) : Nat → List Int
  | 0 => []
  | n + 1 => castlesL P s n ++ if cstB P s n then [stp s (2 * mcsN (n * 4 + 3)) 0] else []
theorem castlesL_len (P : Nat → Int) (s : Int) (n : Nat) : (castlesL P s n).length ≤ n := by
  induction n with
  | zero => exact Nat.le_refl _
  | succ n ih => simp only [castlesL, List.length_append]; split <;> simp <;> omega
theorem clearJ_any (B b : Nat) (P : Nat → Int) (j : Nat) (hj : j < 4) (w : World) (hp : PB w b P) (hg : GS B w) (hm : GM B w) (hB : B ≤ w.heap.size) :
    Calls Tryz.prog 218 #[.pointer (some ⟨b, 0, none⟩), .agg #[.int .i64 (mcsN (j * 4)), .int .i64 (mcsN (j * 4 + 1)), .int .i64 (mcsN (j * 4 + 2)), .int .i64 (mcsN (j * 4 + 3))]] w fun e w' => e = .returned (.bool (clrB P (wayJ j) (cornJ j) (mcsN (j * 4 + 1)))) ∧ Below w.heap.size w w' := by
  rcases (show j = 0 ∨ j = 1 ∨ j = 2 ∨ j = 3 by omega) with rfl | rfl | rfl | rfl
  · exact isClear_any B b P 1 0 4 1 3 [5, 6, 7] 7 (by unfold I64; omega) (by omega) ⟨by decide +kernel, by decide +kernel⟩ (by omega) (by kernel_rfl) rfl (by omega) rfl (by omega) (by decide) w hp hg hm hB
  · exact isClear_any B b P 2 0 4 (-1) 4 [3, 2, 1, 0] 0 (by unfold I64; omega) (by omega) ⟨by decide +kernel, by decide +kernel⟩ (by omega) (by kernel_rfl) rfl (by omega) rfl (by omega) (by decide) w hp hg hm hB
  · exact isClear_any B b P 4 1 60 1 3 [61, 62, 63] 63 (by unfold I64; omega) (by omega) ⟨by decide +kernel, by decide +kernel⟩ (by omega) (by kernel_rfl) rfl (by omega) rfl (by omega) (by decide) w hp hg hm hB
  · exact isClear_any B b P 8 1 60 (-1) 4 [59, 58, 57, 56] 56 (by unfold I64; omega) (by omega) ⟨by decide +kernel, by decide +kernel⟩ (by omega) (by kernel_rfl) rfl (by omega) rfl (by omega) (by decide) w hp hg hm hB
set_option maxHeartbeats 4000000 in
theorem castles_any (B b : Nat) (P : Nat → Int) (s : Int) (w : World) (hp : PB w b P) (hg : GS B w) (hm : GM B w) (hB : B ≤ w.heap.size) :
    Calls Tryz.prog 183 #[.pointer (some ⟨b, 0, none⟩), .int .i64 s] w fun e w' => ∃ v, e = .returned v ∧ Below w.heap.size w w' ∧ w'.ownsRow w.heap.size 3 1 v (castlesL P s 4).length (ivals (castlesL P s 4)) := by
  obtain ⟨i0, hi, hz0, hz1, hz2⟩ := info_parts infoInt
  obtain ⟨Z, hZ⟩ : ∃ Z, Z = (nums mcsN 0 16).toArray := ⟨_, rfl⟩
  have HIX := Lib.hid (show ∀ (j : Nat) (hj : j < 4) (W : World), (Instr.index 223 (.agg Z) (.int .i64 (j : Int))).run Tryz.prog W = .ok (.agg #[.int .i64 (mcsN (j * 4)), .int .i64 (mcsN (j * 4 + 1)), .int .i64 (mcsN (j * 4 + 2)), .int .i64 (mcsN (j * 4 + 3))]) W from fun j hj W => by
    rw [hZ]; exact index_mcs mcsN j hj W)
  have HZ := Lib.hid hZ
  have HI := Lib.hid (MV.begin hp hg hm hB)
  have HLL := Lib.hid (castlesL_len P s)
  have HCS := Lib.hid (show ∀ j, castlesL P s (j + 1) = castlesL P s j ++ if cstB P s j then [stp s (2 * mcsN (j * 4 + 3)) 0] else [] from fun _ => rfl)
  have HCB := Lib.hid (show ∀ j, cstB P s j = ((s == mcsN (j * 4 + 2)) && (P 128 == mcsN (j * 4 + 1)) && hasB P (mcsN (j * 4)) && clrB P (wayJ j) (cornJ j) (mcsN (j * 4 + 1))) from fun _ => rfl)
  have HHS := Lib.hid (fun c d f y W h => has_c_any b P c d f y W h)
  have HCL := Lib.hid (fun j hj W h1 h2 h3 h4 => clearJ_any B b P j hj W h1 h2 h3 h4)
  have HBY := Lib.hid (show ∀ j, j < 4 → mcsN (j * 4 + 3) = 1 ∨ mcsN (j * 4 + 3) = -1 from fun j hj => by
    rcases (show j = 0 ∨ j = 1 ∨ j = 2 ∨ j = 3 by omega) with rfl | rfl | rfl | rfl <;> simp [mcsN])
  have HC := Lib.hid (show ∀ W, PB W b P → W.cell? ⟨b, 128, none⟩ = some (.int .i64 (P 128)) from fun W h => h.cell 128 (by omega))
  generalize P 128 = sd at *
  clear hZ hp hg hm hB
  go_enter Tryz.func183, Tryz.ntmps183
  go_wp2_with (refine wpList_mcs (by rfl) _ (by rfl) Z HZ.out (by rfl) B HI.out.m ?_)
  go_loopw [5, 9] (fun ts i wr => ∃ (j : Nat) (v : Value), j ≤ 4 ∧ i = .int .i64 (j : Int) ∧ ts = v ∧ MV B b P w wr ∧ wr.ownsRow w.heap.size 3 1 v (castlesL P s j).length (ivals (castlesL P s j))) (fun _ i _ => 4 - (intOf i).toNat)
  case atStart => exact ⟨0, _, Nat.zero_le _, rfl, rfl, HI.out, by simpa [ivals, castlesL] using World.ownsRow_nil w w.heap.size 3 1⟩
  case round =>
    clear HI
    obtain ⟨j, v, hj, rfl, rfl, h1, hown⟩ := hrel
    have HI := Lib.hid h1
    clear h1
    by_cases hlt : j < 4
    · have hix := HIX.out j hlt
      have hcs := HCS.out j
      have hcb := HCB.out j
      have hcl := HCL.out j hlt
      have hby := HBY.out j hlt
      have hll := HLL.out j
      obtain ⟨L, hL⟩ : ∃ L, castlesL P s j = L := ⟨_, rfl⟩
      rw [hL] at hcs hown hll
      have HOW := Lib.hid hown
      obtain ⟨cb, hcbe⟩ : ∃ x, cstB P s j = x := ⟨_, rfl⟩
      rw [hcbe] at hcs hcb
      generalize clrB P (wayJ j) (cornJ j) (mcsN (j * 4 + 1)) = cl at *
      generalize mcsN (j * 4) = y1 at *
      generalize mcsN (j * 4 + 1) = y2 at *
      generalize mcsN (j * 4 + 2) = y3 at *
      generalize mcsN (j * 4 + 3) = y4 at *
      obtain ⟨hs, hhs⟩ : ∃ x, hasB P y1 = x := ⟨_, rfl⟩
      rw [hhs] at hcb
      have HH := Lib.hid (show ∀ W, PB W b P → Calls Tryz.prog 217 #[.pointer (some ⟨b, 0, none⟩), .agg #[.int .i64 y1, .int .i64 y2, .int .i64 y3, .int .i64 y4]] W fun e w' => e = .returned (.bool hs) ∧ Below W.heap.size W w' from fun W h => by rw [← hhs]; exact HHS.out y1 y2 y3 y4 W h)
      have HC2 := Lib.hid hcl
      have HCB2 := Lib.hid hcb
      have HCS2 := Lib.hid hcs
      have HBY2 := Lib.hid hby
      clear hcl hcb hcs hby hL hcbe hhs hown
      go_upto_region 5 with (fail)
      refine forget_B (fun W => MV B b P w W ∧ W.heap[wr.heap.size]? = some (.cells #[.int .i64 y1, .int .i64 y2, .int .i64 y3, .int .i64 y4] 222 (0, 0)) ∧ W.ownsRow w.heap.size 3 1 u5 L.length (ivals L) ∧ wr.heap.size < W.heap.size)
        ⟨HI.out.go (below_new _), sl_at rfl, owns_go HOW.out (below_new _), by simp⟩ ?_
      clear hix HI HOW
      rintro W3 ⟨h1, h2, h3, h4⟩
      have HI := Lib.hid h1
      have HK := Lib.hid h2
      have HOW := Lib.hid h3
      clear h1 h2 h3
      generalize wr.heap.size = kb at *
      have e1 := cell_regrown (HC.out _ HI.out.p)
      obtain ⟨k0, k1, k2, k3, _⟩ := row4m HK.out
      replace k0 := cell_regrown k0
      replace k1 := cell_regrown k1
      replace k2 := cell_regrown k2
      replace k3 := cell_regrown k3
      have c1 := fun (d : Nat) (os : Array Obj) => Calls.regrown_of (HH.out _ (HI.out.go (below_regrown W3 d os)).p)
      have c2 := fun (d : Nat) (os : Array Obj) => Calls.regrown_of (HC2.out _ (HI.out.go (below_regrown W3 d os)).p (HI.out.go (below_regrown W3 d os)).g (HI.out.go (below_regrown W3 d os)).m (HI.out.go (below_regrown W3 d os)).s)
      have fin : cb = false → ∀ q : Regrown, MV B b P w (grow (redrawn W3 q.d) q.os) ∧ (grow (redrawn W3 q.d) q.os).ownsRow w.heap.size 3 1 u5 (castlesL P s (j + 1)).length (ivals (castlesL P s (j + 1))) := fun h q => by
        have e := HCS2.out
        rw [h] at e
        simp only [Bool.false_eq_true, if_false, List.append_nil] at e
        rw [e]
        exact ⟨HI.out.go (below_regrown W3 q.d q.os), owns_go HOW.out (below_regrown W3 q.d q.os)⟩
      have FIN := Lib.hid fin
      clear fin
      by_cases h3 : s = y3
      case neg =>
        have h3b : (s == y3) = false := by simp [h3]
        have HSX := Lib.hid (FIN.out (by rw [HCB2.out, h3b]; rfl))
        clear h3
        refine wp_region_quiet_below (by kernel_rfl) (by kernel_rfl) ?_
        repeat (first | go_big_quiet_step (fail) | quiet_step (fail))
        refine wpQuiet_nil ?_
        rintro W4 ⟨q, rfl⟩
        go_wp2
        go_roundw
        case rel => exact ⟨j + 1, _, by omega, by go_num, rfl, HSX.out q⟩
        case measure => simp [intOf]; omega
      case pos =>
        subst h3
        have h3b : (s == s) = true := by simp
        by_cases h2 : sd = y2
        case neg =>
          have h2b : (sd == y2) = false := by simp [h2]
          have HSX := Lib.hid (FIN.out (by rw [HCB2.out, h2b, h3b]; rfl))
          clear h2 h3b
          refine wp_region_quiet_below (by kernel_rfl) (by kernel_rfl) ?_
          repeat (first | go_big_quiet_step (fail) | quiet_step (fail))
          refine wpQuiet_nil ?_
          rintro W4 ⟨q, rfl⟩
          go_wp2
          go_roundw
          case rel => exact ⟨j + 1, _, by omega, by go_num, rfl, HSX.out q⟩
          case measure => simp [intOf]; omega
        case pos =>
          subst h2
          have h2b : (sd == sd) = true := by simp
          rw [h3b, h2b] at HCB2
          clear h3b h2b
          cases hs
          case false =>
            have HSX := Lib.hid (FIN.out (by rw [HCB2.out]; rfl))
            refine wp_region_quiet_below (by kernel_rfl) (by kernel_rfl) ?_
            repeat (first | go_big_quiet_step (exact c1 _ _) | go_big_quiet_step (fail) | quiet_step (fail))
            refine wpQuiet_nil ?_
            rintro W4 ⟨q, rfl⟩
            go_wp2
            go_roundw
            case rel => exact ⟨j + 1, _, by omega, by go_num, rfl, HSX.out q⟩
            case measure => simp [intOf]; omega
          case true =>
            cases cl
            case false =>
              have HSX := Lib.hid (FIN.out (by rw [HCB2.out]; rfl))
              refine wp_region_quiet_below (by kernel_rfl) (by kernel_rfl) ?_
              repeat (first | go_big_quiet_step (exact c1 _ _) | go_big_quiet_step (exact c2 _ _) | go_big_quiet_step (fail) | quiet_step (fail))
              refine wpQuiet_nil ?_
              rintro W4 ⟨q, rfl⟩
              go_wp2
              go_roundw
              case rel => exact ⟨j + 1, _, by omega, by go_num, rfl, HSX.out q⟩
              case measure => simp [intOf]; omega
            case true =>
              have HS2 := Lib.hid (show castlesL P s (j + 1) = L ++ [stp s (2 * y4) 0] by rw [HCS2.out, HCB2.out]; rfl)
              refine wp_region_quiet_below (by kernel_rfl) (by kernel_rfl) ?_
              repeat (first | go_big_quiet_step (exact c1 _ _) | go_big_quiet_step (exact c2 _ _) | go_big_quiet_step (fail) | quiet_step (fail))
              refine wpQuiet_nil ?_
              rintro W4 ⟨q, rfl⟩
              clear e1 k0 k1 k2 k3 c1 c2
              have hb := below_regrown W3 q.d q.os
              replace HI := Lib.hid (HI.out.go hb)
              replace HOW := Lib.hid (owns_go HOW.out hb)
              replace HK := Lib.hid (sl_go HK.out hb)
              clear hb FIN
              generalize grow (redrawn W3 q.d) q.os = W4 at *
              obtain ⟨k0, k1, k2, k3, _⟩ := row4m HK.out
              have hm2 : IntKind.i64.wrap (2 * y4) = 2 * y4 := IntWalk.i64_in _ (by have := HBY2.out; omega)
              go_wp2_with fail
              refine (step_any s (2 * y4) 0 _ (by have := HBY2.out; unfold I64; omega) (by unfold I64; omega)).mono ?_
              rintro e W4 ⟨rfl, hb⟩
              replace HI := Lib.hid (HI.out.go hb)
              replace HOW := Lib.hid (owns_go HOW.out hb)
              generalize stp s (2 * y4) 0 = x at *
              clear hb k0 k1 k2 k3 HK
              have hm1 : L.length + 1 ≤ maxLen := by unfold maxLen; omega
              go_wp2_with (at_builtin; refine wpList_append_lies _ rfl (.tmp 36) (.tmp 42) 63 rfl w.heap.size 3 i0 (.int .i64 0) 1 8 Tryz.underlying63 hi hz0 hz1 hz2 rfl (by decide) _ L.length (ivals L) rfl (owns_go HOW.out ((Below.refl _ _).alloc (Nat.le_refl _) _)) ⟨W4.heap.size, 0, none⟩ 1 1 [.int .i64 x] rfl rfl (World.news_of_block (heap_alloc_new _ _)) ?c2 (by decide) hm1 (by omega) (by have := HI.out.bel.size; simp; omega) (W4.heap.size + 1) (by simp) ?next)
              case c2 => first | rfl | (intro y hy; simp at hy; subst hy; rfl)
              case next =>
                intro g1 cap1 w4 hown1 hgrow1 hat1 hlt3
                rw [ivals_snoc] at hown1
                have HB4 := Lib.hid (((below_new (w := W4) (.cells #[.int .i64 x] 3)).mono HI.out.bel.size).grown hgrow1 (by have := HI.out.bel.size; simp; omega) (fun b e => (HOW.out.lt b e).1))
                replace HI := Lib.hid (HI.out.go2 HB4.out)
                have HO4 := Lib.hid hown1
                clear hgrow1 hown1 hat1 HOW HB4
                go_wp2
                go_roundw
                case rel => exact ⟨j + 1, _, by omega, by go_num, rfl, HI.out, by rw [HS2.out, show (L ++ [x]).length = L.length + 1 by simp]; exact HO4.out⟩
                case measure => simp [intOf]; omega
    · obtain rfl : j = 4 := by omega
      have HO := Lib.hid hown
      clear hown
      go_wp2
      go_ret
      exact ⟨_, rfl, HI.out.bel, HO.out⟩
end Go.Proofs.YtkncfeijlmomaaaGreatDoor

namespace Go.Proofs.YtkncfeijlmomaaaGreatDoor
open Go.RowKit Go.Sort
set_option linter.unusedSimpArgs false
set_option linter.unusedVariables false
set_option maxRecDepth 20000

theorem wpList_append_rows {P : Program} {w : World} {ops : Array Oper} {rest : List Oper} {o : Oper} {a : Act} {Q : Exit → Act → World → Prop} (hgd : o.guard = none) (s x : Operand) (t : TypeId)
    (ho : o.op = .call { callee := .builtin .append, args := #[s, x], argTypes := #[t, t] })
    (base base2 : Nat) (e : TypeId) (i : TypeInfo) (z : Value) (size bytes : Nat) (ht : P.underlying t = some (.slice e)) (hi : P.info? e = some i) (hz : i.zero = some z)
    (hsize : i.size = size) (hby : i.bytes = bytes) (hzs : z.cells.size = size) (hsz : 0 < size)
    (v : Value) (n : Nat) (xs : List Value) (hs : a.eval s = v) (hown : w.ownsRow base e size v n xs) (v2 : Value) (m : Nat) (ys : List Value) (hx : a.eval x = v2) (hown2 : w.ownsRow base2 e size v2 m ys) (h1 : ∀ u ∈ ys, u.oneCell' = true)
    (h63 : n + m ≤ maxLen) (hbytes : (n + m) * bytes ≤ 140737488355328) (hbase : base ≤ w.heap.size)
    (h : ∀ v' w', w'.ownsRow base e size v' (n + m) (xs ++ ys) → w.grownBy w' v.ownBlock → wpList P ops Q rest (a.put o.dst v') w') : wpList P ops Q (o :: rest) a w := by
  rcases hown2.2 with ⟨rfl, rfl⟩ | ⟨g, cap, cur, rfl, _⟩
  · have hy : ys = [] := List.eq_nil_of_length_eq_zero (by simpa using hown2.1)
    subst hy
    refine Go.wpList_append_own_none hgd s x t ho base e i size ht hi v n xs hs hown hx ?_
    have h2 := h v w (by simpa using hown) (World.grownBy.refl _ _)
    exact h2
  · exact wpList_append_own w hgd s x t ho base e i z size bytes ht hi hz hsize hby hzs hsz v n xs hs hown ⟨g, 0, none⟩ m cap ys hx hown2.1 (hown2.cells rfl) h1 h63 hbytes hbase fun v' w' h2 h3 _ => h v' w' h2 h3
theorem ivals_app (l m : List Int) : ivals l ++ ivals m = ivals (l ++ m) := by unfold ivals; rw [List.map_append]
theorem ivals_one (l : List Int) : ∀ u ∈ ivals l, u.oneCell' = true := fun u hu => by
  unfold ivals at hu
  obtain ⟨x, _, rfl⟩ := List.mem_map.1 hu
  rfl
theorem upW_len (P : Nat → Int) (on : Int) (n : Nat) : ∀ a, (upW P on n a).length ≤ n := by
  induction n with
  | zero => intro a; exact Nat.le_refl _
  | succ n ih =>
    intro a
    unfold upW
    split
    · have := ih (stp a 0 on); simp; omega
    · simp
theorem aheadL_len (P : Nat → Int) (s : Nat) : (aheadL P s).length ≤ 2 := Nat.le_trans (upW_len _ _ _ _) (by unfold farN; split <;> omega)
theorem slantL_len (P : Nat → Int) (s : Int) : (slantL P s).length ≤ 64 := Nat.le_trans (List.length_filter_le _ _) (fromL_len P s)
theorem freeL_len (P : Nat → Int) (s : Int) : (freeL P s).length ≤ 64 := Nat.le_trans (List.length_filter_le _ _) (fromL_len P s)
/-- the squares to which a piece goes, as they are found -/
def goalsL (P : Nat → Int) (s : Nat) : List Int :=
  if P (2 * s) = 1 then aheadL P s ++ slantL P s else if P (2 * s) = 6 then freeL P s ++ castlesL P s 4 else freeL P s
theorem goalsL_len (P : Nat → Int) (s : Nat) : (goalsL P s).length ≤ 70 := by
  have h1 := aheadL_len P s
  have h2 := slantL_len P s
  have h3 := freeL_len P s
  have h4 := castlesL_len P s 4
  unfold goalsL
  split
  · simp; omega
  · split
    · simp; omega
    · omega
set_option maxHeartbeats 2000000 in
theorem goals_any (B b : Nat) (P : Nat → Int) (s : Nat) (hs : s < 64) (w : World) (hp : PB w b P) (hg : GS B w) (hm : GM B w) (hB : B ≤ w.heap.size) :
    Calls Tryz.prog 157 #[.pointer (some ⟨b, 0, none⟩), .int .i64 (s : Int)] w fun e w' => ∃ v, e = .returned v ∧ Below w.heap.size w w' ∧ w'.ownsRow w.heap.size 3 1 v (goalsL P s).length (ivals (goalsL P s)) := by
  obtain ⟨i0, hi, hz0, hz1, hz2⟩ := info_parts infoInt
  have HI := Lib.hid (MV.begin hp hg hm hB)
  have e1 := hp.cell (s * 2) (by omega)
  have s0 : (0 : Int) ≤ s := by omega
  have s1 : (s : Int) < 64 := by omega
  have hgl : goalsL P s = if P (s * 2) = 1 then aheadL P s ++ slantL P s else if P (s * 2) = 6 then freeL P s ++ castlesL P s 4 else freeL P s := by unfold goalsL; rw [Nat.mul_comm 2 s]
  have M1 := Lib.hid (fun W h1 h2 h3 h4 => ahead_any B b P s hs W h1 h2 h3 h4)
  have M2 := Lib.hid (fun W h1 h2 h3 h4 => slanting_any B b P s W h1 h2 h3 h4)
  have M3 := Lib.hid (fun W h1 h2 h3 h4 => free_any B b P s W h1 h2 h3 h4)
  have M4 := Lib.hid (fun W h1 h2 h3 h4 => castles_any B b P s W h1 h2 h3 h4)
  have L1 := aheadL_len P s
  have L2 := slantL_len P s
  have L3 := freeL_len P s
  have L4 := castlesL_len P s 4
  generalize aheadL P s = A1 at *
  generalize slantL P (s : Int) = A2 at *
  generalize freeL P (s : Int) = A3 at *
  generalize castlesL P (s : Int) 4 = A4 at *
  obtain ⟨R, hR⟩ : ∃ R, goalsL P s = R := ⟨_, rfl⟩
  rw [hR] at hgl ⊢
  generalize P (s * 2) = k at *
  have HL := Lib.hid (And.intro L1 (And.intro L2 (And.intro L3 L4)))
  clear hR hp hg hm hB L1 L2 L3 L4
  by_cases h1 : k = 1
  · subst h1
    rw [if_pos rfl] at hgl
    subst hgl
    go_enter Tryz.func157, Tryz.ntmps157
    go_wp2_with fail
    refine (M1.out _ HI.out.p HI.out.g HI.out.m HI.out.s).mono ?_
    rintro e w1 ⟨v1, rfl, hb, hown⟩
    replace HI := Lib.hid (HI.out.go hb)
    have HO1 := Lib.hid hown
    clear hb hown e1
    go_wp2_with fail
    refine (M2.out _ HI.out.p HI.out.g HI.out.m HI.out.s).mono ?_
    rintro e w2 ⟨v2, rfl, hb, hown⟩
    replace HI := Lib.hid (HI.out.go hb)
    replace HO1 := Lib.hid (owns_go HO1.out hb)
    have HO2 := Lib.hid hown
    clear hb hown
    go_wp2_with (at_builtin; refine wpList_append_rows rfl (.tmp 17) (.tmp 20) 63 rfl w.heap.size w1.heap.size 3 i0 (.int .i64 0) 1 8 Tryz.underlying63 hi hz0 hz1 hz2 rfl (by decide) v1 A1.length (ivals A1) rfl HO1.out v2 A2.length (ivals A2) rfl HO2.out (ivals_one _) (by have := HL.out; unfold maxLen; omega) (by have := HL.out; omega) HI.out.bel.size ?_)
    intro v3 w3 hown hgr
    have HB := Lib.hid (show Below w.heap.size w2 w3 from (Below.refl _ _).grown hgr HI.out.bel.size (fun k e => (HO1.out.lt k e).1))
    replace HI := Lib.hid (HI.out.go2 HB.out)
    rw [ivals_app] at hown
    have HO3 := Lib.hid hown
    clear hown hgr
    go_wp2
    go_ret
    exact ⟨v3, rfl, HI.out.bel, by rw [List.length_append]; exact HO3.out⟩
  · have h1' : (k == 1) = false := by simp [h1]
    rw [if_neg h1] at hgl
    by_cases h6 : k = 6
    · subst h6
      rw [if_pos rfl] at hgl
      subst hgl
      clear h1
      go_enter Tryz.func157, Tryz.ntmps157
      go_wp2_with fail
      refine (M3.out _ HI.out.p HI.out.g HI.out.m HI.out.s).mono ?_
      rintro e w1 ⟨v1, rfl, hb, hown⟩
      replace HI := Lib.hid (HI.out.go hb)
      have HO1 := Lib.hid hown
      clear hb hown e1
      go_wp2_with fail
      refine (M4.out _ HI.out.p HI.out.g HI.out.m HI.out.s).mono ?_
      rintro e w2 ⟨v2, rfl, hb, hown⟩
      replace HI := Lib.hid (HI.out.go hb)
      replace HO1 := Lib.hid (owns_go HO1.out hb)
      have HO2 := Lib.hid hown
      clear hb hown
      go_wp2_with (at_builtin; refine wpList_append_rows rfl (.tmp 26) (.tmp 29) 63 rfl w.heap.size w1.heap.size 3 i0 (.int .i64 0) 1 8 Tryz.underlying63 hi hz0 hz1 hz2 rfl (by decide) v1 A3.length (ivals A3) rfl HO1.out v2 A4.length (ivals A4) rfl HO2.out (ivals_one _) (by have := HL.out; unfold maxLen; omega) (by have := HL.out; omega) HI.out.bel.size ?_)
      intro v3 w3 hown hgr
      have HB := Lib.hid (show Below w.heap.size w2 w3 from (Below.refl _ _).grown hgr HI.out.bel.size (fun k e => (HO1.out.lt k e).1))
      replace HI := Lib.hid (HI.out.go2 HB.out)
      rw [ivals_app] at hown
      have HO3 := Lib.hid hown
      clear hown hgr
      go_wp2
      go_ret
      exact ⟨v3, rfl, HI.out.bel, by rw [List.length_append]; exact HO3.out⟩
    · have h6' : (k == 6) = false := by simp [h6]
      rw [if_neg h6] at hgl
      subst hgl
      clear h1 h6
      go_enter Tryz.func157, Tryz.ntmps157
      go_wp2_with fail
      refine (M3.out _ HI.out.p HI.out.g HI.out.m HI.out.s).mono ?_
      rintro e w1 ⟨v1, rfl, hb, hown⟩
      replace HI := Lib.hid (HI.out.go hb)
      have HO1 := Lib.hid hown
      clear hb hown e1
      go_wp2
      go_ret
      exact ⟨v1, rfl, HI.out.bel, HO1.out⟩
/-- an owned row, sorted -/
theorem sort_own (xs : List Int) (hlen : xs.length ≤ 1000) (base : Nat) (v : Value) (w : World) (hb : base ≤ w.heap.size) (hown : w.ownsRow base 3 1 v xs.length (ivals xs)) :
    Calls Tryz.prog 158 #[v] w fun e w' => e = .returned (.tuple #[]) ∧ Below base w w' ∧ w'.ownsRow base 3 1 v (risen xs).length (ivals (risen xs)) := by
  rcases hown.2 with ⟨rfl, hz⟩ | ⟨gb, cap, cur, rfl, hbase, hgb, r1, r2, r3, r4⟩
  · obtain rfl : xs = [] := List.eq_nil_of_length_eq_zero hz
    have cS : Calls Tryz.prog 158 #[.slice none 0 0] w fun e w' => e = .returned (.tuple #[]) ∧ w' = w := AnyM.slices_Sort_int_none sort_lays none 0 w
    refine cS.mono ?_
    rintro e w' ⟨rfl, rfl⟩
    exact ⟨rfl, Below.refl _ _, by rw [show risen [] = [] by simp [risen]]; exact hown⟩
  · have hH : Holds (Value.int .i64) w gb 0 xs.toArray := holds_of_blockI hgb (by simpa [ivals] using r4)
    have cS : Calls Tryz.prog 158 #[.slice (some ⟨gb, 0, none⟩) xs.length cap] w fun e w' => e = .returned (.tuple #[]) ∧ ∃ n os, w' = grow (putRow (Value.int .i64) (Sort.ahead w n) gb 0 (risen xs).toArray) os :=
      AnyM.slices_Sort_int sort_lays gb 0 cap xs w hH (Array.getElem?_eq_some_iff.1 hgb).1 (by omega)
    refine cS.mono ?_
    rintro e w' ⟨rfl, n, os, rfl⟩
    refine ⟨rfl, (Below.refl base w).grown (grownBy_sortedI (w := w) (g := gb) (n := n) (os := os) (risen xs).toArray) hb (fun j hj => by cases hj; exact hbase), ?_⟩
    rw [risen_len]
    exact ownsRow_sortedI (n := n) (os := os) (risen_len xs) hbase hgb r1 r2 r3
end Go.Proofs.YtkncfeijlmomaaaGreatDoor
