/-
  Merged: Ua, Ub, Rn, Rs, Rw, Ri, Rx.
-/
import Derived.Test.YtkncfeijlmomaaaGreatDoorG20
import Derived.Test.YtkncfeijlmomaaaGreatDoorG21
import Derived.Test.YtkncfeijlmomaaaGreatDoorG19

namespace Go.Proofs.YtkncfeijlmomaaaGreatDoor
open Go.RowKit Go.Sort
set_option linter.unusedSimpArgs false
set_option linter.unusedVariables false
set_option maxRecDepth 20000

def winN (d : Int) : Int := if d = 1 then 2 else 1
/-- no legal move where a position may be played on -/
def stkB (P : Nat → Int) : Bool := posB P && (legM P).isEmpty
def ofR (P : Nat → Int) : Int := if stkB P then (if chkB P (P 128) then winN (oth (P 128)) else 3) else 0
def ofY (P : Nat → Int) : Int := if stkB P then (if chkB P (P 128) then 1 else 2) else 0
def reB (P : Nat → Int) (f : Nat → Int) (n : Nat) : Bool := (List.range n).all (fun i => decide (f i ≤ P 131)) && posB P
theorem infoEj : (Tryz.prog.info? 99).map (·.size) = some 133 := by kernel_rfl
theorem zeroEj : Tryz.zeroCells99 = (pc fun _ => 0).toArray := by kernel_rfl
theorem fold_ej (X : Array Value) (hX : X.size = 133) : Array.foldl (fun (cs : Array Value) (x : Value × Nat) => cs.setIfInBounds x.2 x.1) Tryz.zeroCells99 X.zipIdx 0 133 = X := by
  have h := fold_jud X hX
  rw [zeroJudge] at h
  rw [zeroEj]
  exact h
theorem wpList_newE {ops : Array Oper} {rest : List Oper} {d : Tmp} {y : Operand} {t1 t2 : TypeId} {p1 p2 : String} {e1 e2 : Array Edge} {a : Act} {w : World} {Q : Exit → Act → World → Prop}
    (E : Array Value) (P : Nat → Int) (hE : E = (pc P).toArray) (hx : (a.put (some d) (.pointer (some ⟨w.heap.size, 0, none⟩))).eval (.tmp d) = .pointer (some ⟨w.heap.size, 0, none⟩)) (hy : (a.put (some d) (.pointer (some ⟨w.heap.size, 0, none⟩))).eval y = .agg E)
    (k : ∀ W, PB W w.heap.size P → Below w.heap.size w W → W.heap.size = w.heap.size + 1 → wpList Tryz.prog ops Q rest (a.put (some d) (.pointer (some ⟨w.heap.size, 0, none⟩))) W) :
    wpList Tryz.prog ops Q ({ dst := some d, op := .alloc 99, type := t1, pos := p1, after := e1, guard := none } :: { dst := none, op := .store 99 (.tmp d) y, type := t2, pos := p2, after := e2, guard := none } :: rest) a w := by
  subst hE
  refine wpList_plain rfl (fun K hK => ?_)
  go_simp
  refine hK _ _ ?_
  clear hK K
  have hpn : PB (w.alloc (.cells Tryz.zeroCells99 99)) w.heap.size (fun _ => 0) := by rw [zeroEj]; exact PB.new rfl
  refine wpList_store_mid rfl 99 _ _ rfl w.heap.size 0 (pc P).toArray hx hy (by rw [pc_size]; exact hpn.there) (by rw [infoEj, pc_size]) (pc_one P) ?_
  rw [List.toList_toArray]
  exact k _ (hpn.store (Q := P)) (below_store (b := w.heap.size) P (below_new _) (Nat.le_refl _) (by simp)) (by rw [sizes_B]; simp)
theorem q_i2 {x y : Int} (h : x = y) : (Ending.returned (.int .i64 x)) = .returned (.int .i64 y) := by rw [h]
set_option maxHeartbeats 1000000 in
theorem wins_any (d : Int) (w : World) :
    Calls Tryz.prog 38 #[.int .i64 d] w fun e w' => e = .returned (.int .i64 (winN d)) ∧ w = w' := by
  by_cases h : d = 1
  · subst h
    go_enter Tryz.func38, Tryz.ntmps38
    go_wp2
    go_ret
    exact ⟨rfl, rfl⟩
  · have HV := Lib.hid (show winN d = 1 by unfold winN; rw [if_neg h])
    have hb : (d == 1) = false := by simp [h]
    clear h
    go_enter Tryz.func38, Tryz.ntmps38
    go_wp2
    go_ret
    exact ⟨q_i2 HV.out.symm, rfl⟩
set_option maxHeartbeats 4000000 in
set_option maxRecDepth 100000 in
theorem stuck_any (B b : Nat) (P : Nat → Int) (w : World) (h : JQ B b P w w) :
    Calls Tryz.prog 58 #[.pointer (some ⟨b, 0, none⟩)] w fun e w' => e = .returned (.bool (stkB P)) ∧ Below w.heap.size w w' := by
  obtain ⟨X, hX⟩ : ∃ X, X = (pc P).toArray := ⟨_, rfl⟩
  have HI := Lib.hid h
  have MP := Lib.hid (fun W h1 h2 h3 h4 h5 => position_any P W B h1 h2 h3 h4 h5)
  have MM := Lib.hid (fun W h1 h2 h3 h4 h5 => lMoves_any P W B h1 h2 h3 h4 h5)
  rw [← hX] at MP MM
  obtain ⟨ps, hps⟩ : ∃ b, posB P = b := ⟨_, rfl⟩
  have HLM := Lib.hid (show ps = true → lmM P = legM P from fun h => by unfold lmM; rw [hps, h]; rfl)
  have HV := Lib.hid (show stkB P = (ps && (legM P).isEmpty) by unfold stkB; rw [hps])
  rw [hps] at MP
  have HX := Lib.hid hX
  clear hX h hps
  go_enter Tryz.func58, Tryz.ntmps58
  go_wp2_with (refine wpList_pos (by rfl) _ (by rfl) b P X HX.out (by rfl) HI.out.p ?_)
  refine (MP.out _ HI.out.gb HI.out.gs HI.out.gm HI.out.gp HI.out.s).mono ?_
  rintro e w1 ⟨rfl, hb⟩
  replace HI := Lib.hid (HI.out.go hb)
  clear hb MP
  dsimp only
  refine list_go (by assumption) ?_
  cases ps
  · go_wp2
    go_ret
    exact ⟨q_b (by rw [HV.out]; rfl), HI.out.bel⟩
  · have HL := Lib.hid (HLM.out rfl)
    rw [HL.out] at MM
    replace HV := Lib.hid (show stkB P = (legM P).isEmpty from HV.out)
    clear HLM HL
    go_wp2_with (refine wpList_pos (by rfl) _ (by rfl) b P X HX.out (by rfl) HI.out.p ?_)
    refine (MM.out _ HI.out.gb HI.out.gs HI.out.gm HI.out.gp HI.out.s).mono ?_
    rintro e w2 ⟨v, rfl, hb, hown⟩
    replace HI := Lib.hid (HI.out.go hb)
    obtain ⟨p, c, rfl, hr⟩ := reads3_own hown
    have hie : (legM P).isEmpty = decide ((legM P).length = 0) := by rw [Bool.eq_iff_iff]; simp
    rw [hie] at HV
    obtain ⟨n, hn⟩ : ∃ n, (legM P).length = n := ⟨_, rfl⟩
    rw [hn] at HV ⊢
    clear hb MM hown hr hie hn
    dsimp only
    refine list_go (by assumption) ?_
    by_cases h0 : n = 0
    · subst h0
      go_wp2
      go_ret
      exact ⟨q_b (by rw [HV.out]; rfl), HI.out.bel⟩
    · have hb0 : ((n : Int) == 0) = false := by simp; omega
      replace HV := Lib.hid (show stkB P = false by rw [HV.out]; simp [h0])
      clear h0
      go_wp2
      go_ret
      exact ⟨q_b (by rw [HV.out]), HI.out.bel⟩
set_option maxHeartbeats 4000000 in
set_option maxRecDepth 100000 in
theorem checked_any (B b : Nat) (P : Nat → Int) (w : World) (h : JQ B b P w w) :
    Calls Tryz.prog 59 #[.pointer (some ⟨b, 0, none⟩)] w fun e w' => e = .returned (.bool (chkB P (P 128))) ∧ Below w.heap.size w w' := by
  obtain ⟨X, hX⟩ : ∃ X, X = (pc P).toArray := ⟨_, rfl⟩
  have HI := Lib.hid h
  obtain ⟨sd, hsd⟩ : ∃ x, P 128 = x := ⟨_, rfl⟩
  obtain ⟨ch, hch⟩ : ∃ x, chkB P sd = x := ⟨_, rfl⟩
  rw [hsd, hch]
  have c12 : ∀ dd os, Calls Tryz.prog 95 #[.agg X, .int .i64 sd] (grow (redrawn w dd) os) fun e w'' => e = .returned (.bool ch) ∧ ∃ p : Regrown, w'' = grow (redrawn w p.d) p.os := fun dd os => by
    subst hX; subst hch
    exact Calls.regrown_of (chk_any P sd _ B (HI.out.go (below_regrown w dd os)).gs (HI.out.go (below_regrown w dd os)).s)
  have e1 := cell_regrown (HI.out.p.cell 128 (by omega))
  rw [hsd] at e1
  have HCP := Lib.hid HI.out.p.regrown
  have HX := Lib.hid hX
  clear hX h hch hsd
  go_enter Tryz.func59, Tryz.ntmps59
  go_upto_region 1 with (fail)
  refine wp_region_quiet_below (by kernel_rfl) (by kernel_rfl) ?_
  iterate 3 (go_big_quiet_step (fail))
  refine wpQuiet_pos (by rfl) _ (by rfl) b P X HX.out (by rfl) HCP.out ?_
  try simp only [Act.put, List.setIfInBounds_toArray, List.set_cons_zero, List.set_cons_succ]
  iterate 5 (go_big_quiet_step (fail))
  go_big_quiet_step (exact c12 _ _)
  repeat (go_big_quiet_step (fail))
  refine wpQuiet_nil ?_
  rintro W9 ⟨pq, rfl⟩
  have HB := Lib.hid (below_regrown w pq.d pq.os)
  generalize grow (redrawn w pq.d) pq.os = W9 at HB ⊢
  go_wp2
  go_ret
  exact ⟨q_b rfl, HB.out⟩
set_option maxHeartbeats 4000000 in
set_option maxRecDepth 100000 in
theorem lost_any (b : Nat) (P : Nat → Int) (w : World) (hp : PB w b P) :
    Calls Tryz.prog 60 #[.pointer (some ⟨b, 0, none⟩)] w fun e w' => e = .returned (.int .i64 (winN (oth (P 128)))) ∧ w = w' := by
  have e1 := hp.cell 128 (by omega)
  obtain ⟨sd, hsd⟩ : ∃ x, P 128 = x := ⟨_, rfl⟩
  rw [hsd] at e1 ⊢
  have M0 := Lib.hid (fun W => wins_any 0 W)
  have M1 := Lib.hid (fun W => wins_any 1 W)
  clear hsd hp
  by_cases h : sd = 0
  · subst h
    go_enter Tryz.func60, Tryz.ntmps60
    go_wp2_with fail
    refine (M1.out _).mono ?_
    rintro e w1 ⟨rfl, rfl⟩
    go_wp2
    go_ret
    exact ⟨q_i2 rfl, rfl⟩
  · have HV := Lib.hid (show oth sd = 0 by unfold oth; rw [if_neg h])
    have hb : (sd == 0) = false := by simp [h]
    clear h
    go_enter Tryz.func60, Tryz.ntmps60
    go_wp2_with fail
    refine (M0.out _).mono ?_
    rintro e w1 ⟨rfl, rfl⟩
    go_wp2
    go_ret
    exact ⟨q_i2 (by rw [HV.out]), rfl⟩
set_option maxHeartbeats 4000000 in
set_option maxRecDepth 100000 in
theorem reaches_any (B b : Nat) (P : Nat → Int) (p : Option Addr) (n c : Nat) (f : Nat → Int) (hn : n ≤ 1000) (w : World) (h : JQ B b P w w) (hr : Reads w.heap.size w p n (fun i => .int .i64 (f i))) :
    Calls Tryz.prog 63 #[.pointer (some ⟨b, 0, none⟩), .slice p n c] w fun e w' => e = .returned (.bool (reB P f n)) ∧ Below w.heap.size w w' := by
  obtain ⟨X, hX⟩ : ∃ X, X = (pc P).toArray := ⟨_, rfl⟩
  have HI0 := Lib.hid h
  have HR := Lib.hid hr
  have MP := Lib.hid (fun W h1 h2 h3 h4 h5 => position_any P W B h1 h2 h3 h4 h5)
  rw [← hX] at MP
  have HX := Lib.hid hX
  have HV := Lib.hid (show (∀ i, i < n → f i ≤ P 131) → reB P f n = posB P from fun h => by
    unfold reB
    rw [show ((List.range n).all fun i => decide (f i ≤ P 131)) = true from List.all_eq_true.2 fun i hi => by simpa using h i (List.mem_range.1 hi)]; rfl)
  have HVF := Lib.hid (show ∀ i, i < n → P 131 < f i → reB P f n = false from fun i hi h => by
    unfold reB
    rw [show ((List.range n).all fun i => decide (f i ≤ P 131)) = false from by
      rw [Bool.eq_false_iff]; intro hh
      have := List.all_eq_true.1 hh i (List.mem_range.2 hi)
      simp at this; omega]; rfl)
  obtain ⟨hf, hhf⟩ : ∃ x, P 131 = x := ⟨_, rfl⟩
  have HC := Lib.hid (show ∀ W, PB W b P → W.cell? ⟨b, 131, none⟩ = some (.int .i64 hf) from fun W hp => by rw [← hhf]; exact hp.cell 131 (by omega))
  rw [hhf] at HV HVF
  clear hX h hr hhf
  go_enter Tryz.func63, Tryz.ntmps63
  go_wp2
  go_loopw [9] (fun v wr => ∃ j : Nat, j ≤ n ∧ v = .int .i64 (j : Int) ∧ (∀ i, i < j → f i ≤ hf) ∧ JQ B b P w wr) (fun v _ => n - (intOf v).toNat)
  case atStart => exact ⟨0, Nat.zero_le _, rfl, fun i hi => by omega, HI0.out⟩
  case round =>
    clear HI0
    obtain ⟨j, hj, rfl, h1, h2⟩ := hrel
    have HN := Lib.hid h1
    have HI := Lib.hid h2
    clear h1 h2
    by_cases hlt : j < n
    · have hrd := HR.out.below HI.out.bel
      rcases hrd with h0 | ⟨rb, off, rfl, hbb, hc⟩
      · omega
      have e0 : wr.cell? ⟨rb, off + j, none⟩ = some (.int .i64 (f j)) := hc j hlt
      obtain ⟨y, hy⟩ : ∃ y, f j = y := ⟨_, rfl⟩
      rw [hy] at e0
      have HY := Lib.hid hy
      have e1 := HC.out _ HI.out.p
      have i0 : (0 : Int) ≤ (j : Int) := by omega
      have hlti : (j : Int) < (n : Int) := by omega
      clear hc hy
      by_cases hl : hf < y
      · have HF := Lib.hid (HVF.out j hlt (by rw [HY.out]; exact hl))
        clear HV HVF
        go_wp2
        go_ret
        exact ⟨q_b HF.out.symm, HI.out.bel⟩
      · have HNX := Lib.hid (show ∀ i, i < j + 1 → f i ≤ hf from fun i hi => by
          rcases Nat.lt_or_ge i j with h1 | h1
          · exact HN.out i h1
          · obtain rfl : i = j := by omega
            rw [HY.out]; omega)
        go_wp2
        go_roundw
        case rel => exact ⟨j + 1, by omega, by go_num, HNX.out, HI.out⟩
        case measure => simp [intOf]; omega
    · obtain rfl : j = n := by omega
      have HF := Lib.hid (HV.out HN.out)
      clear HV HVF
      go_wp2_with (refine wpList_pos (by rfl) _ (by rfl) b P X HX.out (by rfl) HI.out.p ?_)
      refine (MP.out _ HI.out.gb HI.out.gs HI.out.gm HI.out.gp HI.out.s).mono ?_
      rintro e w1 ⟨rfl, hb⟩
      replace HI := Lib.hid (HI.out.go hb)
      clear hb MP
      dsimp only
      refine list_go (by assumption) ?_
      go_wp2
      go_ret
      exact ⟨q_b HF.out.symm, HI.out.bel⟩
end Go.Proofs.YtkncfeijlmomaaaGreatDoor

namespace Go.Proofs.YtkncfeijlmomaaaGreatDoor
open Go.RowKit Go.Sort
set_option linter.unusedSimpArgs false
set_option linter.unusedVariables false
set_option maxRecDepth 20000

def atB (P : Nat → Int) (n : Int) : Bool := posB P && decide (n ≤ P 131)
theorem re_one (P : Nat → Int) (n : Int) : reB P (fun _ => n) 1 = atB P n := by
  unfold reB atB
  simp [List.range_succ, Bool.and_comm]
theorem re_two (P : Nat → Int) : reB P (wayF 100 150) 2 = atB P 150 := by
  unfold reB atB
  cases posB P
  · simp
  · by_cases h : 150 ≤ P 131
    · have h2 : 100 ≤ P 131 := by omega
      simp [List.range_succ, wayF, h, h2]
    · simp [List.range_succ, wayF, h]
theorem q_ii {a b c d : Int} (h : a = b) (h2 : c = d) : Ending.returned (.tuple #[.int .i64 a, .int .i64 c]) = .returned (.tuple #[.int .i64 b, .int .i64 d]) := by rw [h, h2]
set_option maxHeartbeats 4000000 in
set_option maxRecDepth 100000 in
theorem fifty_any (P : Nat → Int) (w : World) (B : Nat) (hgb : GB B w) (hgs : GS B w) (hgm : GM B w) (hgp : GP B w) (hB : B ≤ w.heap.size) :
    Calls Tryz.prog 37 #[.agg (pc P).toArray] w fun e w' => e = .returned (.bool (atB P 100)) ∧ Below w.heap.size w w' := by
  obtain ⟨X, hX⟩ : ∃ X, X = (pc P).toArray := ⟨_, rfl⟩
  rw [← hX]
  have HP00 := Lib.hid (pos_box P w X hX 29)
  have HX := Lib.hid hX
  have HSZ := Lib.hid (show X.size = 133 by rw [hX, pc_size])
  have HFO := Lib.hid (fold_ej X HSZ.out)
  have HBW0 := Lib.hid (below_new (w := w) (.cells X 29))
  have HQ := Lib.hid (fun W b (h1 : PB W b P) h2 => JQ.later h1 hgb hgs hgm hgp hB h2)
  rw [← re_one]
  have HRE := Lib.hid (fun b p c W h hr => reaches_any B b P p 1 c (fun _ => 100) (by omega) W h hr)
  clear hX hgb hgs hgm hgp
  go_enter Tryz.func37, Tryz.ntmps37
  go_upto_region 1 with (fail)
  generalize w.alloc (.cells X 29) = W0 at *
  refine wp_region_lit ?_
  refine wpList_pos (by rfl) _ (by rfl) w.heap.size P X HX.out (by rfl) HP00.out ?_
  have hfold := HFO.out
  have hsz := HSZ.out
  refine wpList_plain rfl (fun K hK => ?_)
  go_simp
  refine hK _ _ ?_
  clear hK K hfold hsz
  refine wpList_newE X P HX.out (by rfl) (by rfl) (fun W2 hp hb hsz => ?_)
  have HB := Lib.hid (HBW0.out.trans (hb.mono HBW0.out.size))
  have HI := Lib.hid (HQ.out _ _ hp HB.out)
  clear hp hb hsz HP00 HBW0 HQ
  generalize W0.heap.size = H at *
  show Exit.then _ _ Exit.normal _ _
  go_wp2_with fail
  have hb : Below W2.heap.size W2 (W2.alloc (.cells #[.int .i64 100] 3)) := below_new _
  refine (HRE.out H _ 1 _ (HI.out.go hb).anew (one_reads W2 100)).mono ?_
  rintro e w3 ⟨rfl, hb3⟩
  replace HB := Lib.hid ((HB.out.trans (hb.mono HB.out.size)).trans (hb3.mono (Nat.le_trans HB.out.size hb.size)))
  clear hb hb3 HRE HI
  dsimp only
  refine list_go (by assumption) ?_
  go_wp2
  go_ret
  exact ⟨q_b rfl, HB.out⟩
set_option maxHeartbeats 4000000 in
set_option maxRecDepth 100000 in
theorem seventy_any (P : Nat → Int) (w : World) (B : Nat) (hgb : GB B w) (hgs : GS B w) (hgm : GM B w) (hgp : GP B w) (hB : B ≤ w.heap.size) :
    Calls Tryz.prog 30 #[.agg (pc P).toArray] w fun e w' => e = .returned (.bool (atB P 150)) ∧ Below w.heap.size w w' := by
  obtain ⟨X, hX⟩ : ∃ X, X = (pc P).toArray := ⟨_, rfl⟩
  rw [← hX]
  have HP00 := Lib.hid (pos_box P w X hX 29)
  have HX := Lib.hid hX
  have HSZ := Lib.hid (show X.size = 133 by rw [hX, pc_size])
  have HFO := Lib.hid (fold_ej X HSZ.out)
  have HBW0 := Lib.hid (below_new (w := w) (.cells X 29))
  have HQ := Lib.hid (fun W b (h1 : PB W b P) h2 => JQ.later h1 hgb hgs hgm hgp hB h2)
  rw [← re_two]
  have HRE := Lib.hid (fun b p c W h hr => reaches_any B b P p 2 c (wayF 100 150) (by omega) W h hr)
  clear hX hgb hgs hgm hgp
  go_enter Tryz.func30, Tryz.ntmps30
  go_upto_region 1 with (fail)
  generalize w.alloc (.cells X 29) = W0 at *
  refine wp_region_lit ?_
  refine wpList_pos (by rfl) _ (by rfl) w.heap.size P X HX.out (by rfl) HP00.out ?_
  have hfold := HFO.out
  have hsz := HSZ.out
  refine wpList_plain rfl (fun K hK => ?_)
  go_simp
  refine hK _ _ ?_
  clear hK K hfold hsz
  refine wpList_newE X P HX.out (by rfl) (by rfl) (fun W2 hp hb hsz => ?_)
  have HB := Lib.hid (HBW0.out.trans (hb.mono HBW0.out.size))
  have HI := Lib.hid (HQ.out _ _ hp HB.out)
  clear hp hb hsz HP00 HBW0 HQ
  generalize W0.heap.size = H at *
  show Exit.then _ _ Exit.normal _ _
  go_wp2_with fail
  have hb : Below W2.heap.size W2 (W2.alloc (.cells #[.int .i64 100, .int .i64 150] 3)) := below_new _
  refine (HRE.out H _ 2 _ (HI.out.go hb).anew (way_reads W2 100 150)).mono ?_
  rintro e w3 ⟨rfl, hb3⟩
  replace HB := Lib.hid ((HB.out.trans (hb.mono HB.out.size)).trans (hb3.mono (Nat.le_trans HB.out.size hb.size)))
  clear hb hb3 HRE HI
  dsimp only
  refine list_go (by assumption) ?_
  go_wp2
  go_ret
  exact ⟨q_b rfl, HB.out⟩
set_option maxHeartbeats 4000000 in
set_option maxRecDepth 100000 in
theorem of_any (P : Nat → Int) (w : World) (B : Nat) (hgb : GB B w) (hgs : GS B w) (hgm : GM B w) (hgp : GP B w) (hB : B ≤ w.heap.size) :
    Calls Tryz.prog 28 #[.agg (pc P).toArray] w fun e w' => e = .returned (.tuple #[.int .i64 (ofR P), .int .i64 (ofY P)]) ∧ Below w.heap.size w w' := by
  obtain ⟨X, hX⟩ : ∃ X, X = (pc P).toArray := ⟨_, rfl⟩
  rw [← hX]
  have HP00 := Lib.hid (pos_box P w X hX 29)
  have HX := Lib.hid hX
  have HSZ := Lib.hid (show X.size = 133 by rw [hX, pc_size])
  have HFO := Lib.hid (fold_ej X HSZ.out)
  have HBW0 := Lib.hid (below_new (w := w) (.cells X 29))
  have HQ := Lib.hid (fun W b (h1 : PB W b P) h2 => JQ.later h1 hgb hgs hgm hgp hB h2)
  have HS := Lib.hid (fun b W h => stuck_any B b P W h)
  have HK := Lib.hid (fun b W h => checked_any B b P W h)
  have HL := Lib.hid (fun b W h => lost_any b P W h)
  obtain ⟨st, hst⟩ : ∃ x, stkB P = x := ⟨_, rfl⟩
  obtain ⟨ch, hch⟩ : ∃ x, chkB P (P 128) = x := ⟨_, rfl⟩
  obtain ⟨wn, hwn⟩ : ∃ x, winN (oth (P 128)) = x := ⟨_, rfl⟩
  have HR := Lib.hid (show ofR P = if st then (if ch then wn else 3) else 0 by unfold ofR; rw [hst, hch, hwn])
  have HY := Lib.hid (show ofY P = if st then (if ch then 1 else 2) else 0 by unfold ofY; rw [hst, hch])
  rw [hst] at HS
  rw [hch] at HK
  rw [hwn] at HL
  clear hX hgb hgs hgm hgp hst hch hwn
  go_enter Tryz.func28, Tryz.ntmps28
  go_upto_region 1 with (fail)
  generalize w.alloc (.cells X 29) = W0 at *
  refine wp_region_lit ?_
  refine wpList_pos (by rfl) _ (by rfl) w.heap.size P X HX.out (by rfl) HP00.out ?_
  have hfold := HFO.out
  have hsz := HSZ.out
  refine wpList_plain rfl (fun K hK => ?_)
  go_simp
  refine hK _ _ ?_
  clear hK K hfold hsz
  refine wpList_newE X P HX.out (by rfl) (by rfl) (fun W2 hp hb hsz => ?_)
  have HB := Lib.hid (HBW0.out.trans (hb.mono HBW0.out.size))
  have HI := Lib.hid (HQ.out _ _ hp HB.out)
  clear hp hb hsz HP00 HBW0 HQ
  generalize W0.heap.size = H at *
  show Exit.then _ _ Exit.normal _ _
  go_wp2_with fail
  refine (HS.out H W2 HI.out).mono ?_
  rintro e w3 ⟨rfl, hb⟩
  replace HB := Lib.hid (HB.out.trans (hb.mono HB.out.size))
  replace HI := Lib.hid (HI.out.go hb).anew
  clear hb HS
  dsimp only
  refine list_go (by assumption) ?_
  cases st
  · go_wp2
    go_ret2
    exact ⟨q_ii (by rw [HR.out]; rfl) (by rw [HY.out]; rfl), HB.out⟩
  · go_wp2_with fail
    refine (HK.out H w3 HI.out).mono ?_
    rintro e w4 ⟨rfl, hb⟩
    replace HB := Lib.hid (HB.out.trans (hb.mono HB.out.size))
    replace HI := Lib.hid (HI.out.go hb).anew
    clear hb HK
    dsimp only
    refine list_go (by assumption) ?_
    cases ch
    · go_wp2
      go_ret2
      exact ⟨q_ii (by rw [HR.out]; rfl) (by rw [HY.out]; rfl), HB.out⟩
    · go_wp2_with fail
      refine (HL.out H w4 HI.out.p).mono ?_
      rintro e w5 ⟨rfl, rfl⟩
      dsimp only
      refine list_go (by assumption) ?_
      go_wp2
      go_ret2
      exact ⟨q_ii (by rw [HR.out]; rfl) (by rw [HY.out]; rfl), HB.out⟩
end Go.Proofs.YtkncfeijlmomaaaGreatDoor

namespace Go.Proofs.YtkncfeijlmomaaaGreatDoor
open Go.RowKit Go.Sort
set_option linter.unusedSimpArgs false
set_option linter.unusedVariables false
set_option maxRecDepth 20000

theorem eql_mv10 (f t k f' t' k' : Int) (w : World) : (binOp .eql 46 (.agg #[.int .i64 f, .int .i64 t, .int .i64 k]) (.agg #[.int .i64 f', .int .i64 t', .int .i64 k'])).run Tryz.prog w = .ok (.bool (f == f' && t == t' && k == k')) w := by
  have e := equal_mv f t k f' t' k' 9998 w
  unfold mvV at e
  rw [run_eql_struct, e]; simp
/-- the i-th is the move -/
def isM (F T K : Nat → Int) (f t k : Int) (i : Nat) : Bool := f == F i && t == T i && k == K i
set_option maxHeartbeats 4000000 in
set_option maxRecDepth 100000 in
theorem index_mv (f t k : Int) (F T K : Nat → Int) (p : Option Addr) (n c : Nat) (hn : n ≤ 100000) (w : World) (hr : Reads3 w.heap.size w p n F T K) :
    Calls Tryz.prog 138 #[.slice p n c, .agg #[.int .i64 f, .int .i64 t, .int .i64 k]] w fun e w' => (∃ x : Int, e = .returned (.int .i64 x) ∧ ((∃ i : Nat, i < n ∧ x = (i : Int) ∧ isM F T K f t k i = true) ∨ (x = -1 ∧ ∀ i, i < n → isM F T K f t k i = false))) ∧ Below w.heap.size w w' := by
  have HB0 := Lib.hid (below_new (w := w) (.cells #[.int .i64 f, .int .i64 t, .int .i64 k] 46))
  have HM := Lib.hid (show (w.alloc (.cells #[.int .i64 f, .int .i64 t, .int .i64 k] 46)).heap[w.heap.size]? = some (.cells #[.int .i64 f, .int .i64 t, .int .i64 k] 46 (0, 0)) from sl_at rfl)
  have HR := Lib.hid hr
  have hq := eql_mv10 f t k
  clear hr
  go_enter Tryz.func138, Tryz.ntmps138
  go_wp2
  go_loopw [8] (fun v wr => ∃ j : Nat, j ≤ n ∧ v = .int .i64 (j : Int) ∧ (∀ i, i < j → isM F T K f t k i = false) ∧ Below w.heap.size w wr ∧ wr.heap[w.heap.size]? = some (.cells #[.int .i64 f, .int .i64 t, .int .i64 k] 46 (0, 0))) (fun v _ => n - (intOf v).toNat)
  case atStart => exact ⟨0, Nat.zero_le _, rfl, fun i hi => by omega, HB0.out, HM.out⟩
  case round =>
    clear HB0 HM
    obtain ⟨j, hj, rfl, h1, h2, h3⟩ := hrel
    have HB := Lib.hid h2
    have HM := Lib.hid h3
    have HN := Lib.hid h1
    clear h1 h2 h3
    by_cases hlt : j < n
    · obtain ⟨pb, po, rfl⟩ := HR.out.addr hlt
      obtain ⟨e0, e1, e2⟩ := (HR.out.below HB.out).cells hlt
      obtain ⟨m0, m1, m2, mf, mz⟩ := row3 HM.out
      have HI := Lib.hid (show isM F T K f t k j = (f == F j && t == T j && k == K j) from rfl)
      generalize F j = fj at *
      generalize T j = tj at *
      generalize K j = kj at *
      clear hq
      have HNX := Lib.hid (show isM F T K f t k j = false → ∀ i, i < j + 1 → isM F T K f t k i = false from fun h i hi => by
        rcases Nat.lt_or_ge i j with h1 | h1
        · exact HN.out i h1
        · obtain rfl : i = j := by omega
          exact h)
      have g0 := cell_regrown e0
      have g1 := cell_regrown e1
      have g2 := cell_regrown e2
      have k0 := cell_regrown m0
      have k1 := cell_regrown m1
      have k2 := cell_regrown m2
      clear e0 e1 e2
      by_cases h1 : f = fj
      · subst h1
        by_cases h2 : t = tj
        · subst h2
          by_cases h3 : k = kj
          · subst h3
            go_upto_region 4 with (fail)
            clear m0 m1 m2 mf mz
            refine wp_region_quiet_below (by kernel_rfl) (by kernel_rfl) ?_
            repeat (go_big_quiet_step (fail))
            refine wpQuiet_nil ?_
            rintro W9 ⟨pq, rfl⟩
            have hb9 := below_regrown wr pq.d pq.os
            replace HB := Lib.hid (HB.out.trans (hb9.mono HB.out.size))
            clear hb9 g0 g1 g2 k0 k1 k2
            generalize grow (redrawn wr pq.d) pq.os = W9 at HB ⊢
            go_wp2
            go_ret
            exact ⟨⟨_, rfl, .inl ⟨j, hlt, rfl, by rw [HI.out]; simp⟩⟩, HB.out⟩
          · have HE := Lib.hid (show (k == kj) = false by simp [h3])
            have he := HE.out
            clear h3
            go_upto_region 4 with (fail)
            clear m0 m1 m2 mf mz
            refine wp_region_quiet_below (by kernel_rfl) (by kernel_rfl) ?_
            repeat (go_big_quiet_step (fail))
            refine wpQuiet_nil ?_
            rintro W9 ⟨pq, rfl⟩
            have hb9 := below_regrown wr pq.d pq.os
            replace HM := Lib.hid (sl_go HM.out hb9)
            replace HB := Lib.hid (HB.out.trans (hb9.mono HB.out.size))
            clear hb9 g0 g1 g2 k0 k1 k2
            generalize grow (redrawn wr pq.d) pq.os = W9 at HM HB ⊢
            go_wp2
            go_roundw
            case rel => exact ⟨j + 1, by omega, by go_num, HNX.out (by rw [HI.out]; simp [HE.out]), HB.out, HM.out⟩
            case measure => simp [intOf]; omega
        · have HE := Lib.hid (show (t == tj) = false by simp [h2])
          have he := HE.out
          clear h2
          go_upto_region 4 with (fail)
          clear m0 m1 m2 mf mz
          refine wp_region_quiet_below (by kernel_rfl) (by kernel_rfl) ?_
          repeat (go_big_quiet_step (fail))
          refine wpQuiet_nil ?_
          rintro W9 ⟨pq, rfl⟩
          have hb9 := below_regrown wr pq.d pq.os
          replace HM := Lib.hid (sl_go HM.out hb9)
          replace HB := Lib.hid (HB.out.trans (hb9.mono HB.out.size))
          clear hb9 g0 g1 g2 k0 k1 k2
          generalize grow (redrawn wr pq.d) pq.os = W9 at HM HB ⊢
          go_wp2
          go_roundw
          case rel => exact ⟨j + 1, by omega, by go_num, HNX.out (by rw [HI.out]; simp [HE.out]), HB.out, HM.out⟩
          case measure => simp [intOf]; omega
      · have HE := Lib.hid (show (f == fj) = false by simp [h1])
        have he := HE.out
        clear h1
        go_upto_region 4 with (fail)
        clear m0 m1 m2 mf mz
        refine wp_region_quiet_below (by kernel_rfl) (by kernel_rfl) ?_
        repeat (go_big_quiet_step (fail))
        refine wpQuiet_nil ?_
        rintro W9 ⟨pq, rfl⟩
        have hb9 := below_regrown wr pq.d pq.os
        replace HM := Lib.hid (sl_go HM.out hb9)
        replace HB := Lib.hid (HB.out.trans (hb9.mono HB.out.size))
        clear hb9 g0 g1 g2 k0 k1 k2
        generalize grow (redrawn wr pq.d) pq.os = W9 at HM HB ⊢
        go_wp2
        go_roundw
        case rel => exact ⟨j + 1, by omega, by go_num, HNX.out (by rw [HI.out]; simp [HE.out]), HB.out, HM.out⟩
        case measure => simp [intOf]; omega
    · obtain rfl : j = n := by omega
      go_wp2
      go_ret
      exact ⟨⟨_, rfl, .inr ⟨rfl, HN.out⟩⟩, HB.out⟩
def anyM (F T K : Nat → Int) (f t k : Int) (n : Nat) : Bool := (List.range n).any (isM F T K f t k)
set_option maxHeartbeats 4000000 in
set_option maxRecDepth 100000 in
theorem contains_mv (f t k : Int) (F T K : Nat → Int) (p : Option Addr) (n c : Nat) (hn : n ≤ 100000) (w : World) (hr : Reads3 w.heap.size w p n F T K) :
    Calls Tryz.prog 104 #[.slice p n c, .agg #[.int .i64 f, .int .i64 t, .int .i64 k]] w fun e w' => e = .returned (.bool (anyM F T K f t k n)) ∧ Below w.heap.size w w' := by
  have hb0 := below_new (w := w) (.cells #[.int .i64 f, .int .i64 t, .int .i64 k] 46)
  have HB := Lib.hid hb0
  have HI := Lib.hid (index_mv f t k F T K p n c hn (w.alloc (.cells #[.int .i64 f, .int .i64 t, .int .i64 k] 46)) ((hr.below hb0).mono hb0.size))
  have hm : (w.alloc (.cells #[.int .i64 f, .int .i64 t, .int .i64 k] 46)).heap[w.heap.size]? = some (.cells #[.int .i64 f, .int .i64 t, .int .i64 k] 46 (0, 0)) := sl_at rfl
  obtain ⟨m0, m1, m2, mf, mz⟩ := row3 hm
  clear hm hr hb0
  go_enter Tryz.func104, Tryz.ntmps104
  go_wp2_with fail
  refine HI.out.mono ?_
  rintro e w1 ⟨⟨x, rfl, hx⟩, hb⟩
  replace HB := Lib.hid (HB.out.trans (hb.mono HB.out.size))
  clear hb m0 m1 m2 mf mz HI
  rcases hx with ⟨i, hi, rfl, hm⟩ | ⟨rfl, hm⟩
  · have HV := Lib.hid (show anyM F T K f t k n = true from List.any_eq_true.2 ⟨i, by simpa using hi, hm⟩)
    have i0 : (0 : Int) ≤ (i : Int) := by omega
    clear hm
    go_wp2
    go_ret
    exact ⟨q_b (by rw [HV.out]), HB.out⟩
  · have HV := Lib.hid (show anyM F T K f t k n = false by
      unfold anyM
      rw [List.any_eq_false]
      intro i hi
      rw [hm i (by simpa using hi)]; simp)
    clear hm
    go_wp2
    go_ret
    exact ⟨q_b (by rw [HV.out]), HB.out⟩
end Go.Proofs.YtkncfeijlmomaaaGreatDoor

namespace Go.Proofs.YtkncfeijlmomaaaGreatDoor
open Go.RowKit Go.Sort
set_option linter.unusedSimpArgs false
set_option linter.unusedVariables false
set_option maxRecDepth 20000

def legB (P : Nat → Int) (f t k : Int) : Bool := (legM P).contains (f, t, k)
theorem legB_iff (P : Nat → Int) (f t k : Int) : legB P f t k = true ↔ (f, t, k) ∈ legM P := List.contains_iff_mem
def advN (P : Nat → Int) (F T K : Nat → Int) : Nat → Option (Nat → Int)
  | 0 => some P
  | i + 1 => match advN P F T K i with
    | some Q => if legB Q (F i) (T i) (K i) then some (nxP Q (F i).toNat (T i).toNat (K i)) else none
    | none => none
theorem adv_go {P : Nat → Int} {F T K : Nat → Int} {i : Nat} {Q : Nat → Int} (h : advN P F T K i = some Q) (hl : legB Q (F i) (T i) (K i) = true) : advN P F T K (i + 1) = some (nxP Q (F i).toNat (T i).toNat (K i)) := by
  unfold advN; rw [h]; simp only; rw [if_pos hl]
theorem adv_end {P : Nat → Int} {F T K : Nat → Int} {i : Nat} {Q : Nat → Int} (h : advN P F T K i = some Q) (hl : legB Q (F i) (T i) (K i) = false) : advN P F T K (i + 1) = none := by
  unfold advN; rw [h]; simp only; rw [hl]; rfl
theorem adv_none {P : Nat → Int} {F T K : Nat → Int} {i n : Nat} (h : advN P F T K i = none) (hi : i ≤ n) : advN P F T K n = none := by
  induction n with
  | zero => obtain rfl : i = 0 := by omega
            exact h
  | succ n ih =>
    by_cases e : i = n + 1
    · subst e; exact h
    · unfold advN; rw [ih (by omega)]
theorem adv_congr (P : Nat → Int) (F T K F' T' K' : Nat → Int) (n : Nat) (h : ∀ i, i < n → F i = F' i ∧ T i = T' i ∧ K i = K' i) : advN P F T K n = advN P F' T' K' n := by
  induction n with
  | zero => rfl
  | succ n ih =>
    have h1 := h n (by omega)
    unfold advN
    rw [ih fun i hi => h i (by omega), h1.1, h1.2.1, h1.2.2]
theorem any_is (l : List (Int × Int × Int)) (f t k : Int) : anyM (mF l) (mT l) (mK l) f t k l.length = l.contains (f, t, k) := by
  rw [Bool.eq_iff_iff, List.contains_iff_mem]
  unfold anyM
  rw [List.any_eq_true]
  have hg : ∀ i (hi : i < l.length), l.getD i (0, 0, 0) = l[i] := fun i hi => by rw [List.getD_eq_getElem?_getD, List.getElem?_eq_getElem hi]; rfl
  constructor
  · rintro ⟨i, hi, h⟩
    have hi := List.mem_range.1 hi
    unfold isM mF mT mK at h
    rw [hg i hi] at h
    simp only [Bool.and_eq_true, beq_iff_eq] at h
    obtain ⟨⟨h1, h2⟩, h3⟩ := h
    rw [h1, h2, h3]
    exact List.getElem_mem hi
  · intro h
    obtain ⟨i, hi, e⟩ := List.getElem_of_mem h
    refine ⟨i, List.mem_range.2 hi, ?_⟩
    unfold isM mF mT mK
    rw [hg i hi, e]
    simp
theorem all_from (P : Nat → Int) (f t k : Int) : (f, t, k) ∈ allM P ↔ (f, t, k) ∈ fromM P f := by
  unfold allM flatM fromM
  rw [List.mem_flatMap]
  constructor
  · rintro ⟨x, hx, h⟩
    obtain ⟨i, hi, ho, rfl⟩ := (upList_mem _ _ _).1 hx
    rw [Int.toNat_natCast] at h
    have h2 := h
    unfold movesL at h2
    have := (putL_mem _ _ _ _ h2).1
    simp only at this
    subst this
    rw [(sq_iff _).2 (by omega), Int.toNat_natCast, ho]
    exact h
  · intro h
    cases hs : sq f
    · rw [hs] at h; simp at h
    · have h1 := (sq_iff f).1 hs
      cases ho : ownB P f.toNat
      · rw [hs, ho] at h; simp at h
      · rw [hs, ho] at h
        refine ⟨f, (upList_mem _ _ _).2 ⟨f.toNat, by omega, ho, by omega⟩, ?_⟩
        exact h
theorem legB_is (P : Nat → Int) (f t k : Int) : legB P f t k = ((fromM P f).contains (f, t, k) && okM P f.toNat t.toNat k) := by
  rw [Bool.eq_iff_iff, legB_iff, Bool.and_eq_true, List.contains_iff_mem, ← all_from]
  unfold legM
  rw [List.mem_filter]
  rfl
theorem from_ok (P : Nat → Int) (f t k : Int) (h : (fromM P f).contains (f, t, k) = true) : ∃ s n : Nat, f = (s : Int) ∧ t = (n : Int) ∧ MvOk P ((s : Int), (n : Int), k) s n := by
  rw [List.contains_iff_mem, ← all_from] at h
  obtain ⟨s, n, hv⟩ := allM_mem P _ h
  have h1 := hv.f
  have h2 := hv.t
  simp only at h1 h2
  subst h1; subst h2
  exact ⟨s, n, rfl, rfl, hv⟩
theorem leg_nx (P : Nat → Int) (hp : posB P = true) (f t k : Int) (h : legB P f t k = true) : ∃ s n : Nat, f = (s : Int) ∧ t = (n : Int) ∧ LgOk P ((s : Int), (n : Int), k) s n := by
  obtain ⟨s, n, hg⟩ := leg_ok P hp _ ((legB_iff P f t k).1 h)
  have h1 := hg.x.mv.f
  have h2 := hg.x.mv.t
  simp only at h1 h2
  subst h1; subst h2
  exact ⟨s, n, rfl, rfl, hg⟩
theorem adv_pos {P : Nat → Int} {F T K : Nat → Int} (hp : posB P = true) : ∀ (i : Nat) (Q : Nat → Int), advN P F T K i = some Q → posB Q = true := by
  intro i
  induction i with
  | zero => intro Q h; unfold advN at h; cases h; exact hp
  | succ i ih =>
    intro Q h
    cases hq : advN P F T K i with
    | none => unfold advN at h; rw [hq] at h; cases h
    | some R =>
      cases hl : legB R (F i) (T i) (K i)
      · rw [adv_end hq hl] at h; cases h
      · rw [adv_go hq hl] at h
        cases h
        obtain ⟨s, n, e1, e2, hg⟩ := leg_nx R (ih R hq) _ _ _ hl
        rw [e1, e2, Int.toNat_natCast, Int.toNat_natCast]
        have h3 := hg.nx
        have h4 := hg.pos
        simp only at h3 h4
        rw [h3]; exact h4
theorem leg_at (P : Nat → Int) (hp : posB P = true) (m : Nat) (h : m < (legM P).length) : ∃ (s t : Nat) (k : Int), mF (legM P) m = (s : Int) ∧ mT (legM P) m = (t : Int) ∧ mK (legM P) m = k ∧ LgOk P ((s : Int), (t : Int), k) s t ∧ (legM P)[m] = ((s : Int), (t : Int), k) := by
  obtain ⟨s, t, hg⟩ := leg_ok P hp _ (List.getElem_mem h)
  have e : (legM P).getD m (0, 0, 0) = (legM P)[m] := by rw [List.getD_eq_getElem?_getD, List.getElem?_eq_getElem h]; rfl
  have h1 := hg.x.mv.f
  have h2 := hg.x.mv.t
  obtain ⟨a, b, c, ec⟩ : ∃ a b c, (legM P)[m] = (a, b, c) := ⟨_, _, _, rfl⟩
  rw [ec] at h1 h2 hg e
  simp only at h1 h2
  subst h1; subst h2
  exact ⟨s, t, c, by unfold mF; rw [e], by unfold mT; rw [e], by unfold mK; rw [e], hg, ec⟩
end Go.Proofs.YtkncfeijlmomaaaGreatDoor

namespace Go.Proofs.YtkncfeijlmomaaaGreatDoor
open Go.RowKit Go.Sort
set_option linter.unusedSimpArgs false
set_option linter.unusedVariables false
set_option maxRecDepth 20000

/-- a row of moves that lies in another block than the judge -/
def R3b (b : Nat) (w : World) (p : Option Addr) (n : Nat) (F T K : Nat → Int) : Prop :=
  n = 0 ∨ ∃ rb off, p = some ⟨rb, off, none⟩ ∧ rb < w.heap.size ∧ rb ≠ b ∧ ∀ i, i < n → w.cell? ⟨rb, off + i * 3, none⟩ = some (.int .i64 (F i)) ∧ w.cell? ⟨rb, off + i * 3 + 1, none⟩ = some (.int .i64 (T i)) ∧ w.cell? ⟨rb, off + i * 3 + 2, none⟩ = some (.int .i64 (K i))
theorem R3b.gr {b : Nat} {w W : World} {p : Option Addr} {n : Nat} {F T K : Nat → Int} (h : R3b b w p n F T K) (g : w.grownBy W (some b)) : Reads3 W.heap.size W p n F T K := by
  rcases h with h | ⟨rb, off, h1, h2, h3, h4⟩
  · exact .inl h
  · have e := g.block rb h2 (by intro e; cases e; exact h3 rfl)
    refine .inr ⟨rb, off, h1, Nat.lt_of_lt_of_le h2 g.size, fun i hi => ?_⟩
    obtain ⟨x, y, z⟩ := h4 i hi
    exact ⟨by rw [World.cell?_of_block (a := ⟨rb, off + i * 3, none⟩) e]; exact x, by rw [World.cell?_of_block (a := ⟨rb, off + i * 3 + 1, none⟩) e]; exact y, by rw [World.cell?_of_block (a := ⟨rb, off + i * 3 + 2, none⟩) e]; exact z⟩
theorem R3b.of {B b : Nat} {w : World} {p : Option Addr} {n : Nat} {F T K : Nat → Int} (h : Reads3 B w p n F T K) (hB : B ≤ b) (hw : b < w.heap.size) : R3b b w p n F T K := by
  rcases h with h | ⟨rb, off, h1, h2, h3⟩
  · exact .inl h
  · exact .inr ⟨rb, off, h1, by omega, by omega, h3⟩
/-- what stands while moves are made -/
structure AV (B b : Nat) (Q : Nat → Int) (w W : World) : Prop where
  h : HG w W b Q
  gb : GB B W
  gs : GS B W
  gm : GM B W
  gp : GP B W
  k : B ≤ b
theorem AV.s {B b : Nat} {Q : Nat → Int} {w W : World} (h : AV B b Q w W) : B ≤ W.heap.size := Nat.le_of_lt (Nat.lt_of_le_of_lt h.k h.h.q.lt)
theorem AV.go {B b : Nat} {Q : Nat → Int} {w W W' : World} (h : AV B b Q w W) (g : Below W.heap.size W W') : AV B b Q w W' :=
  ⟨h.h.go g, h.gb.below (g.mono h.s), h.gs.below (g.mono h.s), h.gm.below (g.mono h.s), h.gp.below (g.mono h.s), h.k⟩
theorem AV.q {B b : Nat} {Q : Nat → Int} {w W : World} (h : AV B b Q w W) : JQ B b Q W W := JQ.begin h.h.q h.gb h.gs h.gm h.gp h.s
theorem AV.store {B b : Nat} {Q : Nat → Int} {w W : World} (h : AV B b Q w W) (Q' : Nat → Int) : AV B b Q' w (W.setCells b 0 (pc Q')) := by
  have hb : Below B W (W.setCells b 0 (pc Q')) := below_store (b := b) Q' (Below.refl _ _) h.k h.s
  exact ⟨⟨h.h.q.store, h.h.g.trans (grs_B _ 0 W)⟩, h.gb.below hb, h.gs.below hb, h.gm.below hb, h.gp.below hb, h.k⟩
theorem AV.begin {B b : Nat} {Q : Nat → Int} {w : World} (h : JQ B b Q w w) (hb : B ≤ b) : AV B b Q w w := ⟨HG.begin h.p, h.gb, h.gs, h.gm, h.gp, hb⟩
/-- a judge is loaded -/
theorem wpList_jud {ops : Array Oper} {rest : List Oper} {op : Oper} {a : Act} {w : World} {Q : Exit → Act → World → Prop} (hw : Region.wanted op (yielded ops a.tmps) = true) (x : Operand) (ho : op.op = .load 90 x)
    (b : Nat) (P : Nat → Int) (X : Array Value) (hX : X = (pc P).toArray) (hx : a.eval x = .pointer (some ⟨b, 0, none⟩)) (hc : PB w b P) (h : wpList Tryz.prog ops Q rest (a.put op.dst (.agg X)) w) : wpList Tryz.prog ops Q (op :: rest) a w := by
  subst hX
  exact BigFrame.wpList_want hw fun _ hK => wp_load_mid 90 x ho b 0 hx (pc P) _ hc.range Tryz.underlying90 rfl (by rw [infoJudge, pc_len]) (hK _ _ h)
theorem from_len (P : Nat → Int) (f : Int) : (fromM P f).length ≤ 100000 := by
  unfold fromM
  split
  · exact Nat.le_trans (movesL_len P _) (by omega)
  · simp
set_option maxHeartbeats 8000000 in
set_option maxRecDepth 100000 in
theorem advance_any (B b : Nat) (P : Nat → Int) (F T K : Nat → Int) (p : Option Addr) (n c : Nat) (hn : n ≤ 100000) (w : World) (h : AV B b P w w) (hr : R3b b w p n F T K) :
    Calls Tryz.prog 65 #[.pointer (some ⟨b, 0, none⟩), .slice p n c] w fun e w' => e = .returned (.bool (advN P F T K n).isSome) ∧ ∃ Q, AV B b Q w w' ∧ ∀ R, advN P F T K n = some R → Q = R := by
  have HI0 := Lib.hid h
  have HR := Lib.hid hr
  have HGO := Lib.hid (fun i Q (h : advN P F T K i = some Q) hl => adv_go h hl)
  have HEND := Lib.hid (fun i Q (h : advN P F T K i = some Q) hl => adv_end h hl)
  have HNO := Lib.hid (fun i m (h : advN P F T K i = none) hi => adv_none (n := m) h hi)
  have H0 := Lib.hid (show advN P F T K 0 = some P from rfl)
  clear h hr
  go_enter Tryz.func65, Tryz.ntmps65
  go_wp2
  go_loopw [11] (fun v wr => ∃ (i : Nat) (Q : Nat → Int), i ≤ n ∧ v = .int .i64 (i : Int) ∧ advN P F T K i = some Q ∧ AV B b Q w wr) (fun v _ => n - (intOf v).toNat)
  case atStart => exact ⟨0, P, Nat.zero_le _, rfl, H0.out, HI0.out⟩
  case round =>
    clear HI0 H0
    obtain ⟨i, Q, hi, rfl, ha, hv⟩ := hrel
    have HI := Lib.hid hv
    have HA := Lib.hid ha
    clear hv ha
    by_cases hlt : i < n
    · have hrd := HR.out.gr HI.out.h.g
      obtain ⟨pb, po, rfl⟩ := hrd.addr hlt
      obtain ⟨e0, e1, e2⟩ := hrd.cells hlt
      have HYES := Lib.hid (HGO.out i Q HA.out)
      have HNON := Lib.hid (fun hl => HNO.out (i + 1) n (HEND.out i Q HA.out hl) hlt)
      clear hrd
      generalize F i = f at *
      generalize T i = t at *
      generalize K i = k at *
      obtain ⟨L, hL⟩ : ∃ L, fromM Q f = L := ⟨_, rfl⟩
      obtain ⟨X, hX⟩ : ∃ X, X = (pc Q).toArray := ⟨_, rfl⟩
      have hll := from_len Q f
      have MFR := Lib.hid (fun W h1 h2 h3 => mFrom_any Q f W B h1 h2 h3)
      rw [hL, ← hX] at MFR
      rw [hL] at hll
      obtain ⟨ib, hib⟩ : ∃ x, L.contains (f, t, k) = x := ⟨_, rfl⟩
      obtain ⟨nl, hnl⟩ : ∃ m, L.length = m := ⟨_, rfl⟩
      have MCO := Lib.hid (fun W p c (hr : Reads3 W.heap.size W p L.length (mF L) (mT L) (mK L)) => contains_mv f t k (mF L) (mT L) (mK L) p L.length c hll W hr)
      rw [any_is, hib, hnl] at MCO
      have HOWN := Lib.hid (fun (W : World) base v (h : W.ownsRow base 46 3 v L.length (mvals L)) => reads3_own h)
      rw [hnl] at MFR HOWN
      have HLB := Lib.hid (show legB Q f t k = (ib && okM Q f.toNat t.toNat k) by rw [legB_is, hL, hib])
      have HFO := Lib.hid (show ib = true → ∃ s m : Nat, f = (s : Int) ∧ t = (m : Int) ∧ MvOk Q ((s : Int), (m : Int), k) s m from fun e => from_ok Q f t k (by rw [hL, hib, e]))
      have HX := Lib.hid hX
      have i0 : (0 : Int) ≤ (i : Int) := by omega
      clear hL hX hll hib hnl
      go_upto_region 4 with (fail)
      clear e0 e1 e2
      refine forget_B (fun W => AV B b Q w W ∧ W.heap[wr.heap.size]? = some (.cells #[.int .i64 f, .int .i64 t, .int .i64 k] 46 (0, 0))) ⟨HI.out.go (below_new _), sl_at rfl⟩ ?_
      clear HI
      intro W1 hs1
      have HI := Lib.hid hs1
      clear hs1
      generalize wr.heap.size = mb at *
      refine wp_region_noPanic ?_
      refine wp_region_start (n := 10) (l := #[ff, ff, ff, ff, ff, ff, ff, ff, ff, ff]) (S := (fun W => AV B b Q w W ∧ W.heap[mb]? = some (.cells #[.int .i64 f, .int .i64 t, .int .i64 k] 46 (0, 0)))) (by kernel_rfl) rfl (by kernel_rfl) (by first | exact HI.out | exact ⟨HI.out.1.go (Below.refl _ _).drew, sl_go HI.out.2 (Below.refl _ _).drew⟩) (fun hHeld => ?_)
      replace HI := Lib.hid (And.intro (HI.out.1.go (Below.refl W1.heap.size W1).drew) (sl_go HI.out.2 (Below.refl W1.heap.size W1).drew))
      generalize W1.drew = V at *
      refine tq (i := 0) (d := some 15) rfl rfl ?_
      try simp only [aP, sA, sZ, sS]
      refine tq (i := 1) (d := some 16) rfl rfl ?_
      try simp only [aP, sA, sZ, sS]
      refine tq (i := 2) (d := some 17) rfl rfl ?_
      try simp only [aP, sA, sZ, sS]
      refine tg (i := 3) (d := some 18) (v := (.agg X)) rfl rfl ?_ ?_
      · exact yields_posC (by rfl) _ (by rfl) b Q X HX.out (by rfl) (fun W h => h.1.h.q)
      try simp only [aP, sA, sZ, sS]
      refine tq (i := 4) (d := some 19) rfl rfl ?_
      try simp only [aP, sA, sZ, sS]
      refine tg (i := 5) (d := some 20) (v := (.int .i64 f)) rfl rfl ?_ ?_
      · refine Or.inl ⟨by rfl, ?_⟩; intro w' hSw; (try dsimp only at hSw); obtain ⟨m0, m1, m2, mf, mz⟩ := row3 hSw.2; go_simp
      try simp only [aP, sA, sZ, sS]
      refine tg (i := 7) (d := some 22) (v := (.agg #[.int .i64 f, .int .i64 t, .int .i64 k])) rfl rfl ?_ ?_
      · refine Or.inl ⟨by rfl, ?_⟩; intro w' hSw; (try dsimp only at hSw); obtain ⟨m0, m1, m2, mf, mz⟩ := row3 hSw.2; go_simp
      try simp only [aP, sA, sZ, sS]
      refine og (i := 6) rfl (by kernel_rfl) (fun K hK => ?_)
      go_simp
      refine (MFR.out _ HI.out.1.gs HI.out.1.gm HI.out.1.s).mono ?_
      rintro e V ⟨v, rfl, hb, hown⟩
      obtain ⟨rp, rc, rfl, hr3⟩ := HOWN.out _ _ _ hown
      have HR3 := Lib.hid hr3
      replace HI := Lib.hid (And.intro (HI.out.1.go hb) (sl_go HI.out.2 hb))
      clear hb hown hr3
      dsimp only
      refine hK.out _ _ (by first | exact HI.out | exact ⟨HI.out.1.go (Below.refl _ _).drew, sl_go HI.out.2 (Below.refl _ _).drew⟩) (fun hHeld => ?_)
      clear hK K
      try simp only [aP, sA, sZ, sS]
      refine og (i := 8) rfl (by kernel_rfl) (fun K hK => ?_)
      go_simp
      refine (MCO.out _ _ _ HR3.out).mono ?_
      rintro e V ⟨rfl, hb⟩
      replace HI := Lib.hid (And.intro (HI.out.1.go hb) (sl_go HI.out.2 hb))
      clear hb HR3
      dsimp only
      refine hK.out _ _ (by first | exact HI.out | exact ⟨HI.out.1.go (Below.refl _ _).drew, sl_go HI.out.2 (Below.refl _ _).drew⟩) (fun hHeld => ?_)
      clear hK K
      try simp only [aP, sA, sZ, sS]
      refine tq (i := 9) (d := some 24) rfl rfl ?_
      try simp only [aP, sA, sZ, sS]
      refine wpAnyH_done (by kernel_rfl) ?_ _
      refine NoPanic.normal ?_
      clear hHeld MCO MFR HOWN
      cases ib
      · go_wp2_with fail
        go_ret
        have hno := HNON.out (by rw [HLB.out]; rfl)
        exact ⟨q_b (by rw [hno]; rfl), Q, HI.out.1, fun R hR => by rw [hno] at hR; cases hR⟩
      · obtain ⟨s, m, rfl, rfl, hmv⟩ := HFO.out rfl
        have MB := Lib.hid (fun W h => behind_any B b Q s m k hmv.hs hmv.hn W h)
        obtain ⟨ok, hok⟩ : ∃ x, okM Q s m k = x := ⟨_, rfl⟩
        obtain ⟨N, hN⟩ : ∃ x, nxP Q s m k = x := ⟨_, rfl⟩
        obtain ⟨V9, hV9⟩ : ∃ V, V = (pc N).toArray := ⟨_, rfl⟩
        rw [hN, ← hV9, hok] at MB
        have HL2 := Lib.hid (show legB Q (s : Int) (m : Int) k = ok by rw [HLB.out, Int.toNat_natCast, Int.toNat_natCast, hok]; rfl)
        have HNX := Lib.hid (show legB Q (s : Int) (m : Int) k = true → advN P F T K (i + 1) = some N from fun h => by have := HYES.out h; rwa [Int.toNat_natCast, Int.toNat_natCast, hN] at this)
        have HV := Lib.hid hV9
        have HVL := Lib.hid (show V9.toList = pc N by rw [hV9])
        clear hok hN hV9 hmv HFO HLB HYES
        obtain ⟨m0, m1, m2, mf, mz⟩ := row3 HI.out.2
        go_wp2_with fail
        refine (MB.out _ HI.out.1.q).mono ?_
        rintro e w1 ⟨rfl, hb⟩
        replace HI := Lib.hid (show AV B b Q w w1 from HI.out.1.go hb)
        clear m0 m1 m2 mf mz hb MB
        dsimp only
        refine list_go (by assumption) ?_
        iterate 3
          refine wpList_plain rfl (fun K hK => ?_)
          go_simp
          refine hK _ _ ?_
          clear hK K
        refine wpList_newJ V9 N HV.out (by rfl) (by rfl) (fun W2 hp hb hsz => ?_)
        replace HI := Lib.hid (HI.out.go hb)
        have HPN := Lib.hid hp
        clear hp hb hsz
        generalize w1.heap.size = H at *
        cases ok
        · go_wp2_with fail
          go_ret
          have hno := HNON.out HL2.out
          exact ⟨q_b (by rw [hno]; rfl), Q, HI.out, fun R hR => by rw [hno] at hR; cases hR⟩
        · go_upto_region 9 with (fail)
          refine wp_region_lit ?_
          refine wpList_plain rfl (fun K hK => ?_)
          go_simp
          refine hK _ _ ?_
          clear hK K
          refine wpList_jud (by rfl) _ (by rfl) H N V9 HV.out (by rfl) HPN.out ?_
          refine wpList_plain rfl (fun K hK => ?_)
          go_simp
          refine hK _ _ ?_
          clear hK K
          refine wpList_store_mid rfl 90 _ _ rfl b 0 V9 rfl rfl (by rw [HV.out, pc_size]; exact HI.out.h.q.there) (by rw [infoJudge, HV.out, pc_size]) (by rw [HV.out]; exact pc_one _) ?_
          rw [HVL.out]
          have HI2 := Lib.hid (HI.out.store N)
          generalize W2.setCells b 0 (pc N) = W3 at HI2 ⊢
          have HAN := Lib.hid (HNX.out HL2.out)
          clear HI HPN HNX HL2 HNON
          go_wp2
          go_roundw
          case rel => exact ⟨i + 1, N, by omega, by go_num, HAN.out, HI2.out⟩
          case measure => simp [intOf]; omega
    · obtain rfl : i = n := by omega
      go_wp2
      go_ret
      exact ⟨q_b (by rw [HA.out]; rfl), Q, HI.out, fun R hR => by rw [HA.out] at hR; cases hR; rfl⟩
end Go.Proofs.YtkncfeijlmomaaaGreatDoor

namespace Go.Proofs.YtkncfeijlmomaaaGreatDoor
open Go.RowKit Go.Sort
set_option linter.unusedSimpArgs false
set_option linter.unusedVariables false
set_option maxRecDepth 20000

end Go.Proofs.YtkncfeijlmomaaaGreatDoor

namespace Go.Proofs.YtkncfeijlmomaaaGreatDoor
open Go.RowKit Go.Sort
set_option linter.unusedSimpArgs false
set_option linter.unusedVariables false
set_option maxRecDepth 20000

theorem adv_one (P : Nat → Int) (f t k : Int) : (advN P (fun _ => f) (fun _ => t) (fun _ => k) 1).isSome = legB P f t k := by
  unfold advN
  simp only [advN]
  cases legB P f t k <;> rfl
/-- what is behind a row of moves, and the error -/
def plP (P : Nat → Int) (F T K : Nat → Int) (n : Nat) : Nat → Int := if posB P then (advN P F T K n).getD (fun _ => 0) else fun _ => 0
def plE (P : Nat → Int) (F T K : Nat → Int) (n : Nat) : Int := if posB P then (if (advN P F T K n).isSome then 0 else 8) else 2
theorem HO.on {w W W' : World} {P : Nat → Int} (h : HO w W P) (g : Below W.heap.size W W') : HO w W' P := ⟨h.p.go g, h.z.go g, h.b.trans (g.mono h.b.size)⟩
theorem HO.turn {w W W' : World} {P : Nat → Int} {H : Nat} (h : HO w W P) (g : W.grownBy W' (some H)) (hH : w.heap.size + 2 ≤ H) : HO w W' P :=
  ⟨h.p.gr g (by intro e; cases e; omega), h.z.gr g (by intro e; cases e; omega), h.b.grown g h.b.size (fun b e => by cases e; omega)⟩
theorem HO.stored {w W : World} {P Q : Nat → Int} (h : HO w W P) : (W.setCells (w.heap.size + 1) 0 (pc Q)).rangeAt (w.heap.size + 1) 0 (pc Q) ∧ Below w.heap.size w (W.setCells (w.heap.size + 1) 0 (pc Q)) :=
  ⟨(h.z.store (Q := Q)).range, below_store (b := w.heap.size + 1) Q h.b (by omega) h.b.size⟩
theorem HO.begin10 (w : World) (P : Nat → Int) (X : Array Value) (hX : X = (pc P).toArray) : HO w ((w.alloc (.cells X 29)).alloc (.cells Tryz.zeroCells29 29)) P := by
  refine ⟨(pos_box P w X hX _).alloc _, ?_, (below_new _).alloc (by simp) _⟩
  rw [zeroPos]
  exact PB.new (by simp)
set_option maxHeartbeats 8000000 in
set_option maxRecDepth 100000 in
theorem lPlay_any (P : Nat → Int) (F T K : Nat → Int) (p : Option Addr) (n c : Nat) (hn : n ≤ 100000) (w : World) (B : Nat) (hgb : GB B w) (hgs : GS B w) (hgm : GM B w) (hgp : GP B w) (hB : B ≤ w.heap.size) (hr : Reads3 w.heap.size w p n F T K) :
    Calls Tryz.prog 33 #[.agg (pc P).toArray, .slice p n c] w fun e w' => e = .returned (.tuple #[.agg (pc (plP P F T K n)).toArray, .int .i64 (plE P F T K n)]) ∧ Below w.heap.size w w' := by
  obtain ⟨X, hX⟩ : ∃ X, X = (pc P).toArray := ⟨_, rfl⟩
  rw [← hX]
  have HC := Lib.hid (HO.begin10 w P X hX)
  have HX := Lib.hid hX
  have HSZ := Lib.hid (show X.size = 133 by rw [hX, pc_size])
  have HFO := Lib.hid (fold_jud X HSZ.out)
  have HQ := Lib.hid (fun W b (h1 : PB W b P) h2 => JQ.later h1 hgb hgs hgm hgp hB h2)
  have HBB := Lib.hid hB
  have HR := Lib.hid hr
  have HNN := Lib.hid hn
  obtain ⟨ps, hps⟩ : ∃ x, posB P = x := ⟨_, rfl⟩
  have HPOS := Lib.hid (fun b W h => jPos_any B b P W h)
  have HPL := Lib.hid (show plP P F T K n = if ps then (advN P F T K n).getD (fun _ => 0) else fun _ => 0 by unfold plP; rw [hps])
  have HPE := Lib.hid (show plE P F T K n = if ps then (if (advN P F T K n).isSome then 0 else 8) else 2 by unfold plE; rw [hps])
  rw [hps] at HPOS
  obtain ⟨Z, hZ⟩ : ∃ Z, plP P F T K n = Z := ⟨_, rfl⟩
  obtain ⟨er, her⟩ : ∃ z, plE P F T K n = z := ⟨_, rfl⟩
  rw [hZ] at HPL ⊢
  rw [her] at HPE ⊢
  clear hX hgb hgs hgm hgp hps hB hr hZ her hn
  go_enter Tryz.func33, Tryz.ntmps33
  go_upto_region 1 with (fail)
  have hz2 : ((w.alloc (.cells X 29)).alloc (.cells Tryz.zeroCells29 29)).heap.size = w.heap.size + 2 := by simp
  have HZ2 := Lib.hid hz2
  clear hz2
  generalize (w.alloc (.cells X 29)).alloc (.cells Tryz.zeroCells29 29) = W0 at *
  refine wp_region_lit ?_
  refine wpList_pos (by rfl) _ (by rfl) w.heap.size P X HX.out (by rfl) HC.out.p ?_
  have hfold := HFO.out
  have hsz := HSZ.out
  refine wpList_plain rfl (fun K hK => ?_)
  go_simp
  refine hK _ _ ?_
  clear hK K hfold hsz
  refine wpList_newJ X P HX.out (by rfl) (by rfl) (fun W2 hp hb hsz => ?_)
  have HBH := Lib.hid (show B ≤ W0.heap.size from Nat.le_trans HBB.out HC.out.b.size)
  have HHL := Lib.hid (show w.heap.size + 2 ≤ W0.heap.size from Nat.le_of_eq HZ2.out.symm)
  replace HC := Lib.hid (HC.out.on hb)
  have HI := Lib.hid (HQ.out _ _ hp HC.out.b)
  clear hp hb hsz HQ HZ2
  generalize W0.heap.size = H at *
  show Exit.then _ _ Exit.normal _ _
  go_wp2_with fail
  refine (HPOS.out H W2 HI.out).mono ?_
  rintro e w3 ⟨rfl, hb⟩
  replace HC := Lib.hid (HC.out.on hb)
  replace HI := Lib.hid (HI.out.go hb).anew
  clear hb HPOS
  dsimp only
  refine list_go (by assumption) ?_
  cases ps
  · have HZ := Lib.hid (show Z = fun _ => 0 from HPL.out)
    have HE := Lib.hid (show er = 2 from HPE.out)
    clear HPL HPE HI HR
    go_upto_region 3 with (fail)
    refine wp_region_lit ?_
    refine wpList_plain rfl (fun K hK => ?_)
    go_simp
    refine hK _ _ ?_
    clear hK K
    refine wpList_store_mid rfl 29 _ _ rfl (w.heap.size + 1) 0 (pc fun _ => 0).toArray rfl (congrArg Value.agg zeroPos) (by rw [pc_size]; exact HC.out.z.there) (by rw [infoPos, pc_size]) (pc_one _) ?_
    rw [List.toList_toArray]
    obtain ⟨hr1, hb1⟩ := HC.out.stored (Q := fun _ => 0)
    have HRR := Lib.hid hr1
    have HB := Lib.hid hb1
    clear hr1 hb1 HC
    generalize w3.setCells (w.heap.size + 1) 0 (pc fun _ => 0) = W8 at HRR HB ⊢
    refine wpList_plain rfl (fun K hK => ?_)
    go_simp
    refine hK _ _ ?_
    clear hK K
    show Exit.then _ _ Exit.normal _ _
    refine ret_go (by assumption) ?_
    repeat (first | refine then_ret ?_ | refine block_ret ?_)
    refine bodyPost_ret (v := .tuple #[.agg (pc fun _ => 0).toArray, .int .i64 2]) ?_ rfl ⟨by rw [HZ.out, HE.out], HB.out⟩
    exact results_mid2 (p := 4) (u := 5) (ty := 29) rfl _ W8 (w.heap.size + 1) _ _ _ rfl rfl HRR.out Tryz.underlying29 rfl (by rw [infoPos, pc_len])
  · have hav := AV.begin HI.out HBH.out
    have hrr := R3b.of (HR.out.below HC.out.b) (show w.heap.size ≤ H by have := HHL.out; omega) HI.out.p.lt
    have hcall := Lib.hid (advance_any B H P F T K p n c HNN.out w3 hav hrr)
    clear hav hrr HR HI
    go_wp2_with fail
    refine hcall.out.mono ?_
    rintro e w5 ⟨rfl, Q, hv, hq⟩
    replace HC := Lib.hid (HC.out.turn hv.h.g HHL.out)
    have HPQ := Lib.hid hv.h.q
    have HEQ := Lib.hid hq
    clear hcall hv hq
    dsimp only
    refine list_go (by assumption) ?_
    cases ha : advN P F T K n
    · rw [ha] at HPL HPE
      have HZ := Lib.hid (show Z = fun _ => 0 from HPL.out)
      have HE := Lib.hid (show er = 8 from HPE.out)
      clear HPL HPE ha HEQ HPQ
      simp only [Option.isSome_none]
      go_upto_region 5 with (fail)
      refine wp_region_lit ?_
      refine wpList_plain rfl (fun K hK => ?_)
      go_simp
      refine hK _ _ ?_
      clear hK K
      refine wpList_store_mid rfl 29 _ _ rfl (w.heap.size + 1) 0 (pc fun _ => 0).toArray rfl (congrArg Value.agg zeroPos) (by rw [pc_size]; exact HC.out.z.there) (by rw [infoPos, pc_size]) (pc_one _) ?_
      rw [List.toList_toArray]
      obtain ⟨hr1, hb1⟩ := HC.out.stored (Q := fun _ => 0)
      have HRR := Lib.hid hr1
      have HB := Lib.hid hb1
      clear hr1 hb1 HC
      generalize w5.setCells (w.heap.size + 1) 0 (pc fun _ => 0) = W8 at HRR HB ⊢
      refine wpList_plain rfl (fun K hK => ?_)
      go_simp
      refine hK _ _ ?_
      clear hK K
      show Exit.then _ _ Exit.normal _ _
      refine ret_go (by assumption) ?_
      repeat (first | refine then_ret ?_ | refine block_ret ?_)
      refine bodyPost_ret (v := .tuple #[.agg (pc fun _ => 0).toArray, .int .i64 8]) ?_ rfl ⟨by rw [HZ.out, HE.out], HB.out⟩
      exact results_mid2 (p := 4) (u := 5) (ty := 29) rfl _ W8 (w.heap.size + 1) _ _ _ rfl rfl HRR.out Tryz.underlying29 rfl (by rw [infoPos, pc_len])
    · rename_i R
      rw [ha] at HPL HPE
      have HZ := Lib.hid (show Z = R from HPL.out)
      have HE := Lib.hid (show er = 0 from HPE.out)
      obtain rfl : Q = R := HEQ.out R ha
      obtain ⟨Y, hY⟩ : ∃ Y, Y = (pc Q).toArray := ⟨_, rfl⟩
      have HY := Lib.hid hY
      have HYL := Lib.hid (show Y.toList = pc Q by rw [hY])
      clear HPL HPE ha HEQ hY
      simp only [Option.isSome_some]
      go_upto_region 6 with (fail)
      refine wp_region_lit ?_
      refine wpList_plain rfl (fun K hK => ?_)
      go_simp
      refine hK _ _ ?_
      clear hK K
      refine wpList_pos (by rfl) _ (by rfl) H Q Y HY.out (by rfl) HPQ.out ?_
      refine wpList_store_mid rfl 29 _ _ rfl (w.heap.size + 1) 0 Y rfl rfl (by rw [HY.out, pc_size]; exact HC.out.z.there) (by rw [infoPos, HY.out, pc_size]) (by rw [HY.out]; exact pc_one _) ?_
      rw [HYL.out]
      obtain ⟨hr1, hb1⟩ := HC.out.stored (Q := Q)
      have HRR := Lib.hid hr1
      have HB := Lib.hid hb1
      clear hr1 hb1 HC
      generalize w5.setCells (w.heap.size + 1) 0 (pc Q) = W8 at HRR HB ⊢
      refine wpList_plain rfl (fun K hK => ?_)
      go_simp
      refine hK _ _ ?_
      clear hK K
      show Exit.then _ _ Exit.normal _ _
      refine ret_go (by assumption) ?_
      repeat (first | refine then_ret ?_ | refine block_ret ?_)
      refine bodyPost_ret (v := .tuple #[.agg (pc Q).toArray, .int .i64 0]) ?_ rfl ⟨by rw [HZ.out, HE.out], HB.out⟩
      exact results_mid2 (p := 4) (u := 5) (ty := 29) rfl _ W8 (w.heap.size + 1) _ _ _ rfl rfl HRR.out Tryz.underlying29 rfl (by rw [infoPos, pc_len])
end Go.Proofs.YtkncfeijlmomaaaGreatDoor
