/-
  Contracts: package ends.
-/
import Derived.Test.YthinkiljhkanhaaGreatDoorG25
import Derived.Test.YthinkiljhkanhaaGreatDoorRo
import Derived.Test.YthinkiljhkanhaaGreatDoorG21
namespace Go.Proofs.YthinkiljhkanhaaGreatDoor
open Go.RowKit Go.Sort
set_option linter.unusedSimpArgs false
set_option linter.unusedVariables false
set_option maxRecDepth 20000

def winN (d : Int) : Int := if d = 1 then 2 else 1
/-- no legal move where a position may be played on -/
def stkB (P : Nat → Int) : Bool := posB P && (legM P).isEmpty
def ofR (P : Nat → Int) : Int := if stkB P then (if chkB P (P 128) then winN (oth (P 128)) else 3) else 0
def ofY (P : Nat → Int) : Int := if stkB P then (if chkB P (P 128) then 1 else 2) else 0
def reB (P : Nat → Int) (f : Nat → Int) (n : Nat) : Bool := (List.range n).all (fun i => decide (f i ≤ P 131)) && posB P
theorem infoEj : (Tryz.prog.info? 82).map (·.size) = some 133 := by kernel_rfl
theorem zeroEj : Tryz.zeroCells82 = (pc fun _ => 0).toArray := by kernel_rfl
theorem fold_ej (X : Array Value) (hX : X.size = 133) : Array.foldl (fun (cs : Array Value) (x : Value × Nat) => cs.setIfInBounds x.2 x.1) Tryz.zeroCells82 X.zipIdx 0 133 = X := by
  have h := fold_jud X hX
  rw [zeroJudge] at h
  rw [zeroEj]
  exact h
theorem wpList_newE {ops : Array Oper} {rest : List Oper} {d : Tmp} {y : Operand} {t1 t2 : TypeId} {p1 p2 : String} {e1 e2 : Array Edge} {a : Act} {w : World} {Q : Exit → Act → World → Prop}
    (E : Array Value) (P : Nat → Int) (hE : E = (pc P).toArray) (hx : (a.put (some d) (.pointer (some ⟨w.heap.size, 0, none⟩))).eval (.tmp d) = .pointer (some ⟨w.heap.size, 0, none⟩)) (hy : (a.put (some d) (.pointer (some ⟨w.heap.size, 0, none⟩))).eval y = .agg E)
    (k : ∀ W, PB W w.heap.size P → Below w.heap.size w W → W.heap.size = w.heap.size + 1 → wpList Tryz.prog ops Q rest (a.put (some d) (.pointer (some ⟨w.heap.size, 0, none⟩))) W) :
    wpList Tryz.prog ops Q ({ dst := some d, op := .alloc 82, type := t1, pos := p1, after := e1, guard := none } :: { dst := none, op := .store 82 (.tmp d) y, type := t2, pos := p2, after := e2, guard := none } :: rest) a w := by
  subst hE
  refine wpList_plain rfl (fun K hK => ?_)
  go_simp
  refine hK _ _ ?_
  clear hK K
  have hpn : PB (w.alloc (.cells Tryz.zeroCells82 82)) w.heap.size (fun _ => 0) := by rw [zeroEj]; exact PB.new rfl
  refine wpList_store_mid rfl 82 _ _ rfl w.heap.size 0 (pc P).toArray hx hy (by rw [pc_size]; exact hpn.there) (by rw [infoEj, pc_size]) (pc_one P) ?_
  rw [List.toList_toArray]
  exact k _ (hpn.store (Q := P)) (below_store (b := w.heap.size) P (below_new _) (Nat.le_refl _) (by simp)) (by rw [sizes_B]; simp)
theorem q_i2 {x y : Int} (h : x = y) : (Ending.returned (.int .i64 x)) = .returned (.int .i64 y) := by rw [h]
set_option maxHeartbeats 1000000 in
theorem wins_any (d : Int) (w : World) :
    Calls Tryz.prog 40 #[.int .i64 d] w fun e w' => e = .returned (.int .i64 (winN d)) ∧ w = w' := by
  by_cases h : d = 1
  · subst h
    go_enter Tryz.func40, Tryz.ntmps40
    go_wp2
    go_ret
    exact ⟨rfl, rfl⟩
  · have HV := Lib.hid (show winN d = 1 by unfold winN; rw [if_neg h])
    have hb : (d == 1) = false := by simp [h]
    clear h
    go_enter Tryz.func40, Tryz.ntmps40
    go_wp2
    go_ret
    exact ⟨q_i2 HV.out.symm, rfl⟩
set_option maxHeartbeats 4000000 in
set_option maxRecDepth 100000 in
theorem stuck_any (B b : Nat) (P : Nat → Int) (w : World) (h : JQ B b P w w) :
    Calls Tryz.prog 65 #[.pointer (some ⟨b, 0, none⟩)] w fun e w' => e = .returned (.bool (stkB P)) ∧ Below w.heap.size w w' := by
  obtain ⟨X, hX⟩ : ∃ X, X = (pc P).toArray := ⟨_, rfl⟩
  have HI := Lib.hid h
  have MP := Lib.hid (fun W h1 h2 h3 h4 h5 => position_any P W B h1 h2 h3 h4 h5)
  have MM := Lib.hid (fun W h1 h2 h3 h4 h5 => lMoves_any P W B h1 h2 h3 h4 h5)
  rw [← hX] at MP MM
  obtain ⟨ps, hps⟩ : ∃ b, posB P = b := ⟨_, rfl⟩
  have HLM := Lib.hid (show ps = true → lmM P = legM P from fun h => by unfold lmM; rw [hps, h]; rfl)
  have HV := Lib.hid (show stkB P = (ps && (legM P).isEmpty) by unfold stkB; rw [hps])
  rw [hps] at MP
  have HX := Lib.hid hX
  clear hX h hps
  go_enter Tryz.func65, Tryz.ntmps65
  go_wp2_with (refine wpList_pos (by rfl) _ (by rfl) b P X HX.out (by rfl) HI.out.p ?_)
  refine (MP.out _ HI.out.gb HI.out.gs HI.out.gm HI.out.gp HI.out.s).mono ?_
  rintro e w1 ⟨rfl, hb⟩
  replace HI := Lib.hid (HI.out.go hb)
  clear hb MP
  dsimp only
  refine list_go (by assumption) ?_
  cases ps
  · go_wp2
    go_ret
    exact ⟨q_b (by rw [HV.out]; rfl), HI.out.bel⟩
  · have HL := Lib.hid (HLM.out rfl)
    rw [HL.out] at MM
    replace HV := Lib.hid (show stkB P = (legM P).isEmpty from HV.out)
    clear HLM HL
    go_wp2_with (refine wpList_pos (by rfl) _ (by rfl) b P X HX.out (by rfl) HI.out.p ?_)
    refine (MM.out _ HI.out.gb HI.out.gs HI.out.gm HI.out.gp HI.out.s).mono ?_
    rintro e w2 ⟨v, rfl, hb, hown⟩
    replace HI := Lib.hid (HI.out.go hb)
    obtain ⟨p, c, rfl, hr⟩ := reads3_own hown
    have hie : (legM P).isEmpty = decide ((legM P).length = 0) := by rw [Bool.eq_iff_iff]; simp
    rw [hie] at HV
    obtain ⟨n, hn⟩ : ∃ n, (legM P).length = n := ⟨_, rfl⟩
    rw [hn] at HV ⊢
    clear hb MM hown hr hie hn
    dsimp only
    refine list_go (by assumption) ?_
    by_cases h0 : n = 0
    · subst h0
      go_wp2
      go_ret
      exact ⟨q_b (by rw [HV.out]; rfl), HI.out.bel⟩
    · have hb0 : ((n : Int) == 0) = false := by simp; omega
      replace HV := Lib.hid (show stkB P = false by rw [HV.out]; simp [h0])
      clear h0
      go_wp2
      go_ret
      exact ⟨q_b (by rw [HV.out]), HI.out.bel⟩
set_option maxHeartbeats 4000000 in
set_option maxRecDepth 100000 in
theorem checked_any (B b : Nat) (P : Nat → Int) (w : World) (h : JQ B b P w w) :
    Calls Tryz.prog 66 #[.pointer (some ⟨b, 0, none⟩)] w fun e w' => e = .returned (.bool (chkB P (P 128))) ∧ Below w.heap.size w w' := by
  obtain ⟨X, hX⟩ : ∃ X, X = (pc P).toArray := ⟨_, rfl⟩
  have HI := Lib.hid h
  obtain ⟨sd, hsd⟩ : ∃ x, P 128 = x := ⟨_, rfl⟩
  obtain ⟨ch, hch⟩ : ∃ x, chkB P sd = x := ⟨_, rfl⟩
  rw [hsd, hch]
  have c12 : ∀ dd os, Calls Tryz.prog 28 #[.agg X, .int .i64 sd] (grow (redrawn w dd) os) fun e w'' => e = .returned (.bool ch) ∧ ∃ p : Regrown, w'' = grow (redrawn w p.d) p.os := fun dd os => by
    subst hX; subst hch
    exact Calls.regrown_of (chk_any P sd _ B (HI.out.go (below_regrown w dd os)).gs (HI.out.go (below_regrown w dd os)).s)
  have e1 := cell_regrown (HI.out.p.cell 128 (by omega))
  rw [hsd] at e1
  have HCP := Lib.hid HI.out.p.regrown
  have HX := Lib.hid hX
  clear hX h hch hsd
  go_enter Tryz.func66, Tryz.ntmps66
  go_upto_region 1 with (fail)
  refine wp_region_quiet_below (by kernel_rfl) (by kernel_rfl) ?_
  iterate 3 (go_big_quiet_step (fail))
  refine wpQuiet_pos (by rfl) _ (by rfl) b P X HX.out (by rfl) HCP.out ?_
  try simp only [Act.put, List.setIfInBounds_toArray, List.set_cons_zero, List.set_cons_succ]
  iterate 5 (go_big_quiet_step (fail))
  go_big_quiet_step (exact c12 _ _)
  repeat (go_big_quiet_step (fail))
  refine wpQuiet_nil ?_
  rintro W9 ⟨pq, rfl⟩
  have HB := Lib.hid (below_regrown w pq.d pq.os)
  generalize grow (redrawn w pq.d) pq.os = W9 at HB ⊢
  go_wp2
  go_ret
  exact ⟨q_b rfl, HB.out⟩
set_option maxHeartbeats 4000000 in
set_option maxRecDepth 100000 in
theorem lost_any (b : Nat) (P : Nat → Int) (w : World) (hp : PB w b P) :
    Calls Tryz.prog 67 #[.pointer (some ⟨b, 0, none⟩)] w fun e w' => e = .returned (.int .i64 (winN (oth (P 128)))) ∧ w = w' := by
  have e1 := hp.cell 128 (by omega)
  obtain ⟨sd, hsd⟩ : ∃ x, P 128 = x := ⟨_, rfl⟩
  rw [hsd] at e1 ⊢
  have M0 := Lib.hid (fun W => wins_any 0 W)
  have M1 := Lib.hid (fun W => wins_any 1 W)
  clear hsd hp
  by_cases h : sd = 0
  · subst h
    go_enter Tryz.func67, Tryz.ntmps67
    go_wp2_with fail
    refine (M1.out _).mono ?_
    rintro e w1 ⟨rfl, rfl⟩
    go_wp2
    go_ret
    exact ⟨q_i2 rfl, rfl⟩
  · have HV := Lib.hid (show oth sd = 0 by unfold oth; rw [if_neg h])
    have hb : (sd == 0) = false := by simp [h]
    clear h
    go_enter Tryz.func67, Tryz.ntmps67
    go_wp2_with fail
    refine (M0.out _).mono ?_
    rintro e w1 ⟨rfl, rfl⟩
    go_wp2
    go_ret
    exact ⟨q_i2 (by rw [HV.out]), rfl⟩
set_option maxHeartbeats 4000000 in
set_option maxRecDepth 100000 in
theorem reaches_any (B b : Nat) (P : Nat → Int) (p : Option Addr) (n c : Nat) (f : Nat → Int) (hn : n ≤ 1000) (w : World) (h : JQ B b P w w) (hr : Reads w.heap.size w p n (fun i => .int .i64 (f i))) :
    Calls Tryz.prog 68 #[.pointer (some ⟨b, 0, none⟩), .slice p n c] w fun e w' => e = .returned (.bool (reB P f n)) ∧ Below w.heap.size w w' := by
  obtain ⟨X, hX⟩ : ∃ X, X = (pc P).toArray := ⟨_, rfl⟩
  have HI0 := Lib.hid h
  have HR := Lib.hid hr
  have MP := Lib.hid (fun W h1 h2 h3 h4 h5 => position_any P W B h1 h2 h3 h4 h5)
  rw [← hX] at MP
  have HX := Lib.hid hX
  have HV := Lib.hid (show (∀ i, i < n → f i ≤ P 131) → reB P f n = posB P from fun h => by
    unfold reB
    rw [show ((List.range n).all fun i => decide (f i ≤ P 131)) = true from List.all_eq_true.2 fun i hi => by simpa using h i (List.mem_range.1 hi)]; rfl)
  have HVF := Lib.hid (show ∀ i, i < n → P 131 < f i → reB P f n = false from fun i hi h => by
    unfold reB
    rw [show ((List.range n).all fun i => decide (f i ≤ P 131)) = false from by
      rw [Bool.eq_false_iff]; intro hh
      have := List.all_eq_true.1 hh i (List.mem_range.2 hi)
      simp at this; omega]; rfl)
  obtain ⟨hf, hhf⟩ : ∃ x, P 131 = x := ⟨_, rfl⟩
  have HC := Lib.hid (show ∀ W, PB W b P → W.cell? ⟨b, 131, none⟩ = some (.int .i64 hf) from fun W hp => by rw [← hhf]; exact hp.cell 131 (by omega))
  rw [hhf] at HV HVF
  clear hX h hr hhf
  go_enter Tryz.func68, Tryz.ntmps68
  go_wp2
  go_loopw [9] (fun v wr => ∃ j : Nat, j ≤ n ∧ v = .int .i64 (j : Int) ∧ (∀ i, i < j → f i ≤ hf) ∧ JQ B b P w wr) (fun v _ => n - (intOf v).toNat)
  case atStart => exact ⟨0, Nat.zero_le _, rfl, fun i hi => by omega, HI0.out⟩
  case round =>
    clear HI0
    obtain ⟨j, hj, rfl, h1, h2⟩ := hrel
    have HN := Lib.hid h1
    have HI := Lib.hid h2
    clear h1 h2
    by_cases hlt : j < n
    · have hrd := HR.out.below HI.out.bel
      rcases hrd with h0 | ⟨rb, off, rfl, hbb, hc⟩
      · omega
      have e0 : wr.cell? ⟨rb, off + j, none⟩ = some (.int .i64 (f j)) := hc j hlt
      obtain ⟨y, hy⟩ : ∃ y, f j = y := ⟨_, rfl⟩
      rw [hy] at e0
      have HY := Lib.hid hy
      have e1 := HC.out _ HI.out.p
      have i0 : (0 : Int) ≤ (j : Int) := by omega
      have hlti : (j : Int) < (n : Int) := by omega
      clear hc hy
      by_cases hl : hf < y
      · have HF := Lib.hid (HVF.out j hlt (by rw [HY.out]; exact hl))
        clear HV HVF
        go_wp2
        go_ret
        exact ⟨q_b HF.out.symm, HI.out.bel⟩
      · have HNX := Lib.hid (show ∀ i, i < j + 1 → f i ≤ hf from fun i hi => by
          rcases Nat.lt_or_ge i j with h1 | h1
          · exact HN.out i h1
          · obtain rfl : i = j := by omega
            rw [HY.out]; omega)
        go_wp2
        go_roundw
        case rel => exact ⟨j + 1, by omega, by go_num, HNX.out, HI.out⟩
        case measure => simp [intOf]; omega
    · obtain rfl : j = n := by omega
      have HF := Lib.hid (HV.out HN.out)
      clear HV HVF
      go_wp2_with (refine wpList_pos (by rfl) _ (by rfl) b P X HX.out (by rfl) HI.out.p ?_)
      refine (MP.out _ HI.out.gb HI.out.gs HI.out.gm HI.out.gp HI.out.s).mono ?_
      rintro e w1 ⟨rfl, hb⟩
      replace HI := Lib.hid (HI.out.go hb)
      clear hb MP
      dsimp only
      refine list_go (by assumption) ?_
      go_wp2
      go_ret
      exact ⟨q_b HF.out.symm, HI.out.bel⟩
end Go.Proofs.YthinkiljhkanhaaGreatDoor
