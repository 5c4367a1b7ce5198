/-
  EndsMoves: behind each legal move Half is one more, or nought: what is Fifty stays so.
-/
import Derived.Test.YthinkiljhkanhaaGreatDoorUc
import Derived.Test.YthinkiljhkanhaaGreatDoorRx
namespace Go.Proofs.YthinkiljhkanhaaGreatDoor
open Go.RowKit Go.Sort
set_option linter.unusedSimpArgs false
set_option linter.unusedVariables false
set_option maxRecDepth 20000

theorem one_row3 (V : World) (f t k : Int) : Reads3 (V.alloc (.cells #[.int .i64 f, .int .i64 t, .int .i64 k] 41)).heap.size (V.alloc (.cells #[.int .i64 f, .int .i64 t, .int .i64 k] 41)) (some ⟨V.heap.size, 0, none⟩) 1 (fun _ => f) (fun _ => t) (fun _ => k) := by
  have hat : (V.alloc (.cells #[.int .i64 f, .int .i64 t, .int .i64 k] 41)).heap[V.heap.size]? = some (.cells #[.int .i64 f, .int .i64 t, .int .i64 k] 41 (0, 0)) := sl_at rfl
  obtain ⟨q0, q1, q2, _, _⟩ := row3 hat
  refine .inr ⟨V.heap.size, 0, rfl, by simp, fun i hi => ?_⟩
  obtain rfl : i = 0 := by omega
  exact ⟨q0, q1, q2⟩
theorem pl_one (P : Nat → Int) (hp : posB P = true) (f t k : Int) (h : legB P f t k = true) : plP P (fun _ => f) (fun _ => t) (fun _ => k) 1 = nxP P f.toNat t.toNat k ∧ plE P (fun _ => f) (fun _ => t) (fun _ => k) 1 = 0 := by
  have ha : advN P (fun _ => f) (fun _ => t) (fun _ => k) 1 = some (nxP P f.toNat t.toNat k) := adv_go (i := 0) (Q := P) rfl h
  unfold plP plE
  rw [hp, ha]
  exact ⟨rfl, rfl⟩
/-- Half behind a move -/
theorem next_half (P : Nat → Int) (hr : rightB P = true) (s n : Nat) (k : Int) (hs : s < 64) (hn : n < 64) (h0 : fltN (handP P) s n k = 0) :
    mvP P s n k 131 = 0 ∨ mvP P s n k 131 = if P 131 + 1 < 1024 then P 131 + 1 else 1024 := by
  obtain ⟨r1, r2, r3, r4, r5, r6, r7⟩ := right_parts9 P hr
  unfold mvP
  rw [if_pos h0, right_hand P hr, Int.toNat_natCast, Int.toNat_natCast]
  unfold cmN
  rw [lst_off _ _ _ _ _ (by omega) (by omega) (by omega), pcs_end _ _ _ _ hs hn _ (by omega), cnt_half]
  split
  · exact .inl rfl
  · right
    unfold incN wrap64
    split <;> split <;> omega
set_option maxHeartbeats 16000000 in
set_option maxRecDepth 100000 in
theorem endsMoves_any (P : Nat → Int) (w : World) (B : Nat) (hgb : GB B w) (hgs : GS B w) (hgm : GM B w) (hgp : GP B w) (hB : B ≤ w.heap.size) :
    Calls Tryz.prog 11 #[.agg (pc P).toArray] w fun e w' => e = .returned (.bool true) ∧ Below w.heap.size w w' := by
  obtain ⟨X, hX⟩ : ∃ X, X = (pc P).toArray := ⟨_, rfl⟩
  have FI := Lib.hid (fun Q W (h : Below w.heap.size w W) => fifty_any Q W B (hgb.below (h.mono hB)) (hgs.below (h.mono hB)) (hgm.below (h.mono hB)) (hgp.below (h.mono hB)) (Nat.le_trans hB h.size))
  have SE := Lib.hid (fun Q W (h : Below w.heap.size w W) => seventy_any Q W B (hgb.below (h.mono hB)) (hgs.below (h.mono hB)) (hgm.below (h.mono hB)) (hgp.below (h.mono hB)) (Nat.le_trans hB h.size))
  have MP := Lib.hid (fun W (h : Below w.heap.size w W) => position_any P W B (hgb.below (h.mono hB)) (hgs.below (h.mono hB)) (hgm.below (h.mono hB)) (hgp.below (h.mono hB)) (Nat.le_trans hB h.size))
  have MM := Lib.hid (fun W (h : Below w.heap.size w W) => lMoves_any P W B (hgb.below (h.mono hB)) (hgs.below (h.mono hB)) (hgm.below (h.mono hB)) (hgp.below (h.mono hB)) (Nat.le_trans hB h.size))
  have MPL := Lib.hid (fun f t k p c W (h : Below w.heap.size w W) hr => lPlay_any P (fun _ => f) (fun _ => t) (fun _ => k) p 1 c (by omega) W B (hgb.below (h.mono hB)) (hgs.below (h.mono hB)) (hgm.below (h.mono hB)) (hgp.below (h.mono hB)) (Nat.le_trans hB h.size) hr)
  have AW := Lib.hid (fun W (h : Below w.heap.size w W) => awake11_any W B (hgb.below (h.mono hB)) (hgs.below (h.mono hB)) (hgm.below (h.mono hB)) (hgp.below (h.mono hB)) (Nat.le_trans hB h.size))
  have FP := Lib.hid (FI.out P)
  have SP := Lib.hid (SE.out P)
  rw [← hX] at FP SP MP MM MPL ⊢
  obtain ⟨ps, hps⟩ : ∃ b, posB P = b := ⟨_, rfl⟩
  obtain ⟨fi, hfi⟩ : ∃ b, atB P 100 = b := ⟨_, rfl⟩
  obtain ⟨se, hse⟩ : ∃ b, atB P 150 = b := ⟨_, rfl⟩
  obtain ⟨hf, hhf⟩ : ∃ x, P 131 = x := ⟨_, rfl⟩
  have HFS := Lib.hid (show fi = (ps && decide (100 ≤ hf)) ∧ se = (ps && decide (150 ≤ hf)) from ⟨by rw [← hfi]; unfold atB; rw [hps, hhf], by rw [← hse]; unfold atB; rw [hps, hhf]⟩)
  have HPOS := Lib.hid (show ps = true → posB P = true ∧ lmM P = legM P ∧ (0 ≤ hf ∧ hf ≤ 1024) from fun h => by
    have h1 : posB P = true := by rw [hps]; exact h
    refine ⟨h1, by unfold lmM; rw [h1]; rfl, ?_⟩
    rw [← hhf]
    exact (right_parts9 P (pos_parts P h1).1).2.2.2.2.2.1)
  have HNO := Lib.hid (show ps = false → lmM P = [] from fun h => by unfold lmM; rw [hps, h]; rfl)
  have HC := Lib.hid (show ∀ W, PB W w.heap.size P → W.cell? ⟨w.heap.size, 131, none⟩ = some (.int .i64 hf) from fun W hp => by rw [← hhf]; exact hp.cell 131 (by omega))
  rw [hfi] at FP
  rw [hse] at SP
  rw [hps] at MP
  have HHF := Lib.hid hhf
  have HX := Lib.hid hX
  have HP := Lib.hid (pos_box P w X hX 29)
  have HB := Lib.hid (below_new (w := w) (.cells X 29))
  clear hX hps hfi hse hhf hgb hgs hgm hgp
  go_enter Tryz.func11, Tryz.ntmps11
  go_upto_region 1 with (fail)
  generalize w.alloc (.cells X 29) = W at *
  go_wp2_with fail
  refine (AW.out _ HB.out).mono ?_
  rintro e w1 ⟨rfl, hb⟩
  replace HP := Lib.hid (HP.out.go hb)
  replace HB := Lib.hid (HB.out.trans (hb.mono HB.out.size))
  clear hb AW
  dsimp only
  refine list_go (by assumption) ?_
  go_upto_region 3 with (fail)
  go_cut [27] from 9 to 27 (fun v wx => v = .bool false ∧ PB wx w.heap.size P ∧ Below w.heap.size w wx)
  case first =>
    have hbr : ∀ dd os, Below w.heap.size w (grow (redrawn w1 dd) os) := fun dd os => HB.out.trans ((below_regrown w1 dd os).mono HB.out.size)
    have HCP := Lib.hid HP.out.regrown
    have cS := fun dd os => Calls.regrown_of (SP.out _ (hbr dd os))
    have cF := fun dd os => Calls.regrown_of (FP.out _ (hbr dd os))
    have cP := fun dd os => Calls.regrown_of (MP.out _ (hbr dd os))
    have e1 := cell_regrown (HC.out _ HP.out)
    clear hbr
    obtain ⟨hF, hS⟩ := HFS.out
    have fin : ∀ pq : Regrown, PB (grow (redrawn w1 pq.d) pq.os) w.heap.size P ∧ Below w.heap.size w (grow (redrawn w1 pq.d) pq.os) := fun pq => ⟨HP.out.go (below_regrown w1 pq.d pq.os), HB.out.trans ((below_regrown w1 pq.d pq.os).mono HB.out.size)⟩
    have HFIN := Lib.hid fin
    clear fin
    cases ps
    · obtain rfl : fi = false := hF
      obtain rfl : se = false := hS
      clear e1
      refine wp_region_quiet_below (by kernel_rfl) (by kernel_rfl) ?_
      refine wpQuiet_pos (by rfl) _ (by rfl) w.heap.size P X HX.out (by rfl) HCP.out ?_
      try simp only [Act.put, List.setIfInBounds_toArray, List.set_cons_zero, List.set_cons_succ]
      go_big_quiet_step (exact cS _ _)
      iterate 6 (go_big_quiet_step (fail))
      refine wpQuiet_pos (by rfl) _ (by rfl) w.heap.size P X HX.out (by rfl) HCP.out ?_
      try simp only [Act.put, List.setIfInBounds_toArray, List.set_cons_zero, List.set_cons_succ]
      go_big_quiet_step (exact cF _ _)
      refine wpQuiet_pos (by rfl) _ (by rfl) w.heap.size P X HX.out (by rfl) HCP.out ?_
      try simp only [Act.put, List.setIfInBounds_toArray, List.set_cons_zero, List.set_cons_succ]
      go_big_quiet_step (exact cP _ _)
      repeat (go_big_quiet_step (fail))
      refine wpQuiet_nil ?_
      rintro W9 ⟨pq, rfl⟩
      have hfin := HFIN.out pq
      try clear e1
      clear cS cF cP HCP HP HB HFIN
      generalize grow (redrawn w1 pq.d) pq.os = W9 at hfin ⊢
      try go_wp2_with fail
      go_meet
      exact ⟨rfl, hfin.1, hfin.2⟩
    · rcases (show hf < 100 ∨ (100 ≤ hf ∧ hf < 150) ∨ 150 ≤ hf by omega) with h | ⟨h, h2⟩ | h
      · have g1 : decide ((100 : Int) ≤ hf) = false := by simp; omega
        have g2 : decide ((150 : Int) ≤ hf) = false := by simp; omega
        rw [g1] at hF
        rw [g2] at hS
        obtain rfl : fi = false := hF
        obtain rfl : se = false := hS
        clear g2
        refine wp_region_quiet_below (by kernel_rfl) (by kernel_rfl) ?_
        refine wpQuiet_pos (by rfl) _ (by rfl) w.heap.size P X HX.out (by rfl) HCP.out ?_
        try simp only [Act.put, List.setIfInBounds_toArray, List.set_cons_zero, List.set_cons_succ]
        go_big_quiet_step (exact cS _ _)
        iterate 6 (go_big_quiet_step (fail))
        refine wpQuiet_pos (by rfl) _ (by rfl) w.heap.size P X HX.out (by rfl) HCP.out ?_
        try simp only [Act.put, List.setIfInBounds_toArray, List.set_cons_zero, List.set_cons_succ]
        go_big_quiet_step (exact cF _ _)
        refine wpQuiet_pos (by rfl) _ (by rfl) w.heap.size P X HX.out (by rfl) HCP.out ?_
        try simp only [Act.put, List.setIfInBounds_toArray, List.set_cons_zero, List.set_cons_succ]
        go_big_quiet_step (exact cP _ _)
        repeat (go_big_quiet_step (fail))
        refine wpQuiet_nil ?_
        rintro W9 ⟨pq, rfl⟩
        have hfin := HFIN.out pq
        try clear e1
        clear cS cF cP HCP HP HB HFIN
        generalize grow (redrawn w1 pq.d) pq.os = W9 at hfin ⊢
        try go_wp2_with fail
        go_meet
        exact ⟨rfl, hfin.1, hfin.2⟩
      · have g1 : decide ((100 : Int) ≤ hf) = true := by simp; omega
        have g2 : decide ((150 : Int) ≤ hf) = false := by simp; omega
        rw [g1] at hF
        rw [g2] at hS
        obtain rfl : fi = true := hF
        obtain rfl : se = false := hS
        clear g2
        refine wp_region_quiet_below (by kernel_rfl) (by kernel_rfl) ?_
        refine wpQuiet_pos (by rfl) _ (by rfl) w.heap.size P X HX.out (by rfl) HCP.out ?_
        try simp only [Act.put, List.setIfInBounds_toArray, List.set_cons_zero, List.set_cons_succ]
        go_big_quiet_step (exact cS _ _)
        iterate 6 (go_big_quiet_step (fail))
        refine wpQuiet_pos (by rfl) _ (by rfl) w.heap.size P X HX.out (by rfl) HCP.out ?_
        try simp only [Act.put, List.setIfInBounds_toArray, List.set_cons_zero, List.set_cons_succ]
        go_big_quiet_step (exact cF _ _)
        refine wpQuiet_pos (by rfl) _ (by rfl) w.heap.size P X HX.out (by rfl) HCP.out ?_
        try simp only [Act.put, List.setIfInBounds_toArray, List.set_cons_zero, List.set_cons_succ]
        go_big_quiet_step (exact cP _ _)
        repeat (go_big_quiet_step (fail))
        refine wpQuiet_nil ?_
        rintro W9 ⟨pq, rfl⟩
        have hfin := HFIN.out pq
        try clear e1
        clear cS cF cP HCP HP HB HFIN
        generalize grow (redrawn w1 pq.d) pq.os = W9 at hfin ⊢
        try go_wp2_with fail
        go_meet
        exact ⟨rfl, hfin.1, hfin.2⟩
      · have g1 : decide ((100 : Int) ≤ hf) = true := by simp; omega
        have g2 : decide ((150 : Int) ≤ hf) = true := by simp; omega
        rw [g1] at hF
        rw [g2] at hS
        obtain rfl : fi = true := hF
        obtain rfl : se = true := hS
        clear g2
        refine wp_region_quiet_below (by kernel_rfl) (by kernel_rfl) ?_
        refine wpQuiet_pos (by rfl) _ (by rfl) w.heap.size P X HX.out (by rfl) HCP.out ?_
        try simp only [Act.put, List.setIfInBounds_toArray, List.set_cons_zero, List.set_cons_succ]
        go_big_quiet_step (exact cS _ _)
        iterate 1 (go_big_quiet_step (fail))
        refine wpQuiet_pos (by rfl) _ (by rfl) w.heap.size P X HX.out (by rfl) HCP.out ?_
        try simp only [Act.put, List.setIfInBounds_toArray, List.set_cons_zero, List.set_cons_succ]
        go_big_quiet_step (exact cF _ _)
        iterate 3 (go_big_quiet_step (fail))
        refine wpQuiet_pos (by rfl) _ (by rfl) w.heap.size P X HX.out (by rfl) HCP.out ?_
        try simp only [Act.put, List.setIfInBounds_toArray, List.set_cons_zero, List.set_cons_succ]
        go_big_quiet_step (exact cF _ _)
        refine wpQuiet_pos (by rfl) _ (by rfl) w.heap.size P X HX.out (by rfl) HCP.out ?_
        try simp only [Act.put, List.setIfInBounds_toArray, List.set_cons_zero, List.set_cons_succ]
        go_big_quiet_step (exact cP _ _)
        repeat (go_big_quiet_step (fail))
        refine wpQuiet_nil ?_
        rintro W9 ⟨pq, rfl⟩
        have hfin := HFIN.out pq
        try clear e1
        clear cS cF cP HCP HP HB HFIN
        generalize grow (redrawn w1 pq.d) pq.os = W9 at hfin ⊢
        try go_wp2_with fail
        go_meet
        exact ⟨rfl, hfin.1, hfin.2⟩
  case rest =>
  obtain ⟨rfl, h1, h2⟩ := hcut
  replace HP := Lib.hid h1
  replace HB := Lib.hid h2
  clear h1 h2 SP MP
  go_wp2_with (refine wpList_pos (by rfl) _ (by rfl) w.heap.size P X HX.out (by rfl) HP.out ?_)
  refine (MM.out _ HB.out).mono ?_
  rintro e w2 ⟨v, rfl, hb, hown⟩
  replace HP := Lib.hid (HP.out.go hb)
  replace HB := Lib.hid (HB.out.trans (hb.mono HB.out.size))
  obtain ⟨p, c, rfl, hr⟩ := reads3_own hown
  have hnb : (lmM P).length ≤ 17920 := by
    unfold lmM; split
    · exact legM_len P
    · simp
  have HNIL := Lib.hid (show ps = false → (lmM P).length = 0 from fun h => by rw [HNO.out h]; rfl)
  have HLL := Lib.hid (show ps = true → (lmM P).length = (legM P).length ∧ mF (lmM P) = mF (legM P) ∧ mT (lmM P) = mT (legM P) ∧ mK (lmM P) = mK (legM P) from fun h => by rw [(HPOS.out h).2.1]; exact ⟨rfl, rfl, rfl, rfl⟩)
  obtain ⟨n, hn⟩ : ∃ n, (lmM P).length = n := ⟨_, rfl⟩
  rw [hn] at hr hnb HNIL HLL ⊢
  have HR := Lib.hid hr
  clear hb MM hown hr hn
  dsimp only
  refine list_go (by assumption) ?_
  go_wp2
  go_loopw [4] (fun iv wr => ∃ m : Nat, m ≤ n ∧ iv = .int .i64 (m : Int) ∧ Below w2.heap.size w2 wr) (fun iv _ => n - (intOf iv).toNat)
  case atStart => exact ⟨0, Nat.zero_le _, rfl, Below.refl _ _⟩
  case round =>
    obtain ⟨m, hm, rfl, hb⟩ := hrel
    have HI := Lib.hid hb
    clear hb
    by_cases hlt : m < n
    · have hpt : ps = true := by
        cases ps
        · have := HNIL.out rfl; omega
        · rfl
      obtain ⟨hl1, hl2, hl3, hl4⟩ := HLL.out hpt
      obtain ⟨hp1, _, hr0, hr1⟩ := HPOS.out hpt
      obtain ⟨s, t, k, q1, q2, q3, hg, hel⟩ := leg_at P hp1 m (by rw [← hl1]; exact hlt)
      have hlb : legB P (s : Int) (t : Int) k = true := (legB_iff P _ _ _).2 (by rw [← hel]; exact List.getElem_mem _)
      have hpl := pl_one P hp1 (s : Int) (t : Int) k hlb
      have hnx := hg.nx
      have hps2 := hg.pos
      have hfl := hg.x.flt
      simp only at hnx hps2 hfl
      have hhalf := next_half P (pos_parts P hp1).1 s t k hg.x.mv.hs hg.x.mv.hn hfl
      rw [Int.toNat_natCast, Int.toNat_natCast, hnx] at hpl
      obtain ⟨N, hN⟩ : ∃ x, mvP P (s : Int) (t : Int) k = x := ⟨_, rfl⟩
      obtain ⟨V9, hV9⟩ : ∃ V, V = (pc N).toArray := ⟨_, rfl⟩
      rw [hN] at hpl hps2 hhalf
      rw [HHF.out] at hhalf
      have MPM := Lib.hid (MPL.out (s : Int) (t : Int) k)
      rw [hpl.1, hpl.2, ← hV9] at MPM
      have FN := Lib.hid (FI.out N)
      have SN := Lib.hid (SE.out N)
      rw [← hV9] at FN SN
      obtain ⟨qh, hqh⟩ : ∃ x, N 131 = x := ⟨_, rfl⟩
      have HCN := Lib.hid (show ∀ W b, PB W b N → W.cell? ⟨b, 131, none⟩ = some (.int .i64 qh) from fun W b hp => by rw [← hqh]; exact hp.cell 131 (by omega))
      obtain ⟨qf, hqf⟩ : ∃ x, atB N 100 = x := ⟨_, rfl⟩
      obtain ⟨qs, hqs⟩ : ∃ x, atB N 150 = x := ⟨_, rfl⟩
      rw [hqf] at FN
      rw [hqs] at SN
      rw [hqh] at hhalf
      have HQF := Lib.hid (show qf = decide (100 ≤ qh) ∧ qs = decide (150 ≤ qh) from ⟨by rw [← hqf]; unfold atB; rw [hps2, hqh]; rfl, by rw [← hqs]; unfold atB; rw [hps2, hqh]; rfl⟩)
      have HHALF := Lib.hid hhalf
      have HR01 := Lib.hid (And.intro hr0 hr1)
      have HFI := Lib.hid (show fi = decide (100 ≤ hf) by rw [HFS.out.1, hpt]; rfl)
      have hrd := HR.out.below HI.out
      obtain ⟨pb, po, rfl⟩ := hrd.addr hlt
      have HCE := Lib.hid (show ∀ W, Below w2.heap.size w2 W → W.cell? ⟨pb, po + m * 3, none⟩ = some (.int .i64 (s : Int)) ∧ W.cell? ⟨pb, po + m * 3 + 1, none⟩ = some (.int .i64 (t : Int)) ∧ W.cell? ⟨pb, po + m * 3 + 2, none⟩ = some (.int .i64 k) from fun W hb => by
        have := (HR.out.below hb).cells hlt
        rw [hl2, hl3, hl4, q1, q2, q3] at this
        exact this)
      have HPW := Lib.hid (show ∀ W, Below w2.heap.size w2 W → PB W w.heap.size P from fun W hb => HP.out.go hb)
      have HBW := Lib.hid (show ∀ W, Below w2.heap.size w2 W → Below w.heap.size w W from fun W hb => HB.out.trans (hb.mono HB.out.size))
      have HV := Lib.hid hV9
      have HVL := Lib.hid (show V9.toList = pc N by rw [hV9])
      have i0 : (0 : Int) ≤ (m : Int) := by omega
      have hlti : (m : Int) < (n : Int) := by omega
      clear q1 q2 q3 hg hel hnx hps2 hfl hpl hlb hhalf hN hV9 hqh hqf hqs hrd hl1 hl2 hl3 hl4 hp1 hr0 hr1 hpt
      go_upto_region 9 with (fail)
      go_cut [5, 6] from 36 to 45 (fun v5 v6 wx => ∃ H, v5 = .pointer (some ⟨H, 0, none⟩) ∧ v6 = .int .i64 0 ∧ PB wx H N ∧ Below w2.heap.size w2 wx)
      case first =>
        refine wp_region_noPanic ?_
        refine wp_region_start (n := 13) (l := #[ff, ff, ff, ff, ff, ff, ff, ff, ff, ff, ff, ff, ff]) (S := (fun W => Below w2.heap.size w2 W)) (by kernel_rfl) rfl (by kernel_rfl) (by first | exact HI.out | exact HI.out.drew) (fun hHeld => ?_)
        replace HI := Lib.hid (show Below w2.heap.size w2 wr.drew from HI.out.drew)
        generalize wr.drew = V at hHeld HI ⊢
        refine take_go (i := 0) (d := some 37) (v := (.agg X)) (l' := #[tt, ff, ff, ff, ff, ff, ff, ff, ff, ff, ff, ff, ff]) rfl rfl ?_ ?_
        · exact yields_posC (by rfl) _ (by rfl) w.heap.size P X HX.out (by rfl) (fun W h => HPW.out W h)
        try simp only [Act.put, List.setIfInBounds_toArray, List.set_cons_zero, List.set_cons_succ]
        refine take_go (i := 1) (d := some 38) (v := ?_) (l' := #[tt, tt, ff, ff, ff, ff, ff, ff, ff, ff, ff, ff, ff]) rfl rfl (Or.inl ⟨by rfl, ?_⟩) ?_; rotate_left; · (intro w' hSw; (try dsimp only at hSw); go_simp; (try with_reducible rfl))
        try simp only [Act.put, List.setIfInBounds_toArray, List.set_cons_zero, List.set_cons_succ]
        refine take_go (i := 2) (d := some 39) (v := ?_) (l' := #[tt, tt, tt, ff, ff, ff, ff, ff, ff, ff, ff, ff, ff]) rfl rfl (Or.inl ⟨by rfl, ?_⟩) ?_; rotate_left; · (intro w' hSw; (try dsimp only at hSw); go_simp; (try with_reducible rfl))
        try simp only [Act.put, List.setIfInBounds_toArray, List.set_cons_zero, List.set_cons_succ]
        refine take_go (i := 3) (d := some 40) (v := ?_) (l' := #[tt, tt, tt, tt, ff, ff, ff, ff, ff, ff, ff, ff, ff]) rfl rfl (Or.inl ⟨by rfl, ?_⟩) ?_; rotate_left; · (intro w' hSw; (try dsimp only at hSw); go_simp; (try with_reducible rfl))
        try simp only [Act.put, List.setIfInBounds_toArray, List.set_cons_zero, List.set_cons_succ]
        refine take_go (i := 4) (d := some 41) (v := (.agg #[.int .i64 (s : Int), .int .i64 (t : Int), .int .i64 k])) (l' := #[tt, tt, tt, tt, tt, ff, ff, ff, ff, ff, ff, ff, ff]) rfl rfl ?_ ?_
        · refine Or.inl ⟨by rfl, ?_⟩; intro w' hSw; (try dsimp only at hSw); obtain ⟨e0, e1, e2⟩ := HCE.out w' hSw; go_simp
        try simp only [Act.put, List.setIfInBounds_toArray, List.set_cons_zero, List.set_cons_succ]
        refine two_to (i := 5) (j := 10) (l1 := #[tt, tt, tt, tt, tt, tt, ff, ff, ff, ff, ff, ff, ff]) (l2 := #[tt, tt, tt, tt, tt, ff, ff, ff, ff, ff, tt, ff, ff]) rfl rfl (by kernel_rfl) (by kernel_rfl) (by kernel_rfl) (fun K hK => ?_) (fun K hK => ?_)
        · skip
          go_simp
          have hb : Below V.heap.size V (V.alloc (.cells #[.int .i64 (s : Int), .int .i64 (t : Int), .int .i64 k] 41)) := below_new _
          have HAT := Lib.hid (one_row3 V (s : Int) (t : Int) k)
          replace HI := Lib.hid (HI.out.trans (hb.mono HI.out.size))
          try replace HZB := Lib.hid (HZB.out.go hb)
          clear hb
          generalize V.alloc (.cells #[.int .i64 (s : Int), .int .i64 (t : Int), .int .i64 k] 41) = V at *
          refine hK.out _ _ (by first | exact HI.out | exact HI.out.drew) (fun hHeld => ?_)
          clear hK K
          try simp only [Act.put, List.setIfInBounds_toArray, List.set_cons_zero, List.set_cons_succ]
          refine two_to (i := 6) (j := 10) (l1 := #[tt, tt, tt, tt, tt, tt, tt, ff, ff, ff, ff, ff, ff]) (l2 := #[tt, tt, tt, tt, tt, tt, ff, ff, ff, ff, tt, ff, ff]) rfl rfl (by kernel_rfl) (by kernel_rfl) (by kernel_rfl) (fun K hK => ?_) (fun K hK => ?_)
          · skip
            go_simp
            refine (MPM.out _ _ _ (HBW.out _ HI.out) HAT.out).mono ?_
            rintro e V ⟨rfl, hb⟩
            replace HI := Lib.hid (HI.out.trans (hb.mono HI.out.size))
            try replace HZB := Lib.hid (HZB.out.go hb)
            clear hb HAT
            dsimp only
            refine hK.out _ _ (by first | exact HI.out | exact HI.out.drew) (fun hHeld => ?_)
            clear hK K
            try simp only [Act.put, List.setIfInBounds_toArray, List.set_cons_zero, List.set_cons_succ]
            refine take_go (i := 7) (d := some 36) (v := ?_) (l' := #[tt, tt, tt, tt, tt, tt, tt, tt, ff, ff, ff, ff, ff]) rfl rfl (Or.inl ⟨by rfl, ?_⟩) ?_; rotate_left; · (intro w' hSw; (try dsimp only at hSw); go_simp; (try with_reducible rfl))
            try simp only [Act.put, List.setIfInBounds_toArray, List.set_cons_zero, List.set_cons_succ]
            refine take_go (i := 8) (d := some 44) (v := ?_) (l' := #[tt, tt, tt, tt, tt, tt, tt, tt, tt, ff, ff, ff, ff]) rfl rfl (Or.inl ⟨by rfl, ?_⟩) ?_; rotate_left; · (intro w' hSw; (try dsimp only at hSw); go_simp; (try with_reducible rfl))
            try simp only [Act.put, List.setIfInBounds_toArray, List.set_cons_zero, List.set_cons_succ]
            refine take_go (i := 9) (d := some 45) (v := ?_) (l' := #[tt, tt, tt, tt, tt, tt, tt, tt, tt, tt, ff, ff, ff]) rfl rfl (Or.inl ⟨by rfl, ?_⟩) ?_; rotate_left; · (intro w' hSw; (try dsimp only at hSw); go_simp; (try with_reducible rfl))
            try simp only [Act.put, List.setIfInBounds_toArray, List.set_cons_zero, List.set_cons_succ]
            refine one_to (i := 10) (l' := #[tt, tt, tt, tt, tt, tt, tt, tt, tt, tt, tt, ff, ff]) rfl (by kernel_rfl) (by kernel_rfl) (fun K hK => ?_)
            go_simp
            have hb5 : Below V.heap.size V (V.alloc (.cells Tryz.zeroCells29 29)) := below_new _
            have HZB := Lib.hid (show PB (V.alloc (.cells Tryz.zeroCells29 29)) V.heap.size (fun _ => 0) by rw [zeroPos]; exact PB.new rfl)
            have HHL := Lib.hid (show w2.heap.size ≤ V.heap.size from HI.out.size)
            replace HI := Lib.hid (HI.out.trans (hb5.mono HI.out.size))
            try replace HAT := Lib.hid ((HAT.out.below hb5).mono hb5.size)
            clear hb5
            generalize V.heap.size = H at HZB HHL ⊢
            generalize V.alloc (.cells Tryz.zeroCells29 29) = V at *
            refine hK.out _ _ (by first | exact HI.out | exact HI.out.drew) (fun hHeld => ?_)
            clear hK K
            try simp only [Act.put, List.setIfInBounds_toArray, List.set_cons_zero, List.set_cons_succ]
            refine one_to (i := 11) (l' := #[tt, tt, tt, tt, tt, tt, tt, tt, tt, tt, tt, tt, ff]) rfl (by kernel_rfl) (by kernel_rfl) (fun K hK => ?_)
            rw [if_pos (by rfl)]
            refine wp_store_mid 29 _ _ rfl H 0 V9 rfl rfl (by rw [HV.out, pc_size]; exact HZB.out.there) (by rw [infoPos, HV.out, pc_size]) (by rw [HV.out]; exact pc_one _) ?_
            rw [HVL.out]
            have HNB := Lib.hid (HZB.out.store (Q := N))
            replace HI := Lib.hid (below_store (b := H) N HI.out HHL.out HI.out.size)
            generalize V.setCells H 0 (pc N) = V at HNB HI ⊢
            refine hK.out _ _ (by first | exact HI.out | exact HI.out.drew) (fun hHeld => ?_)
            clear hK K
            try simp only [Act.put, List.setIfInBounds_toArray, List.set_cons_zero, List.set_cons_succ]
            refine take_go (i := 12) (d := some 6) (v := ?_) (l' := #[tt, tt, tt, tt, tt, tt, tt, tt, tt, tt, tt, tt, tt]) rfl rfl (Or.inl ⟨by rfl, ?_⟩) ?_; rotate_left; · (intro w' hSw; (try dsimp only at hSw); go_simp; (try with_reducible rfl))
            try simp only [Act.put, List.setIfInBounds_toArray, List.set_cons_zero, List.set_cons_succ]
            refine wpAnyH_done (by kernel_rfl) ?_ _
            refine NoPanic.normal ?_
            clear hHeld
            go_wp2_with fail
            go_meet
            exact ⟨H, rfl, rfl, HNB.out, HI.out⟩
          · skip
            go_simp
            have hb5 : Below V.heap.size V (V.alloc (.cells Tryz.zeroCells29 29)) := below_new _
            have HZB := Lib.hid (show PB (V.alloc (.cells Tryz.zeroCells29 29)) V.heap.size (fun _ => 0) by rw [zeroPos]; exact PB.new rfl)
            have HHL := Lib.hid (show w2.heap.size ≤ V.heap.size from HI.out.size)
            replace HI := Lib.hid (HI.out.trans (hb5.mono HI.out.size))
            try replace HAT := Lib.hid ((HAT.out.below hb5).mono hb5.size)
            clear hb5
            generalize V.heap.size = H at HZB HHL ⊢
            generalize V.alloc (.cells Tryz.zeroCells29 29) = V at *
            refine hK.out _ _ (by first | exact HI.out | exact HI.out.drew) (fun hHeld => ?_)
            clear hK K
            try simp only [Act.put, List.setIfInBounds_toArray, List.set_cons_zero, List.set_cons_succ]
            refine one_to (i := 6) (l' := #[tt, tt, tt, tt, tt, tt, tt, ff, ff, ff, tt, ff, ff]) rfl (by kernel_rfl) (by kernel_rfl) (fun K hK => ?_)
            go_simp
            refine (MPM.out _ _ _ (HBW.out _ HI.out) HAT.out).mono ?_
            rintro e V ⟨rfl, hb⟩
            replace HI := Lib.hid (HI.out.trans (hb.mono HI.out.size))
            try replace HZB := Lib.hid (HZB.out.go hb)
            clear hb HAT
            dsimp only
            refine hK.out _ _ (by first | exact HI.out | exact HI.out.drew) (fun hHeld => ?_)
            clear hK K
            try simp only [Act.put, List.setIfInBounds_toArray, List.set_cons_zero, List.set_cons_succ]
            refine take_go (i := 7) (d := some 36) (v := ?_) (l' := #[tt, tt, tt, tt, tt, tt, tt, tt, ff, ff, tt, ff, ff]) rfl rfl (Or.inl ⟨by rfl, ?_⟩) ?_; rotate_left; · (intro w' hSw; (try dsimp only at hSw); go_simp; (try with_reducible rfl))
            try simp only [Act.put, List.setIfInBounds_toArray, List.set_cons_zero, List.set_cons_succ]
            refine take_go (i := 8) (d := some 44) (v := ?_) (l' := #[tt, tt, tt, tt, tt, tt, tt, tt, tt, ff, tt, ff, ff]) rfl rfl (Or.inl ⟨by rfl, ?_⟩) ?_; rotate_left; · (intro w' hSw; (try dsimp only at hSw); go_simp; (try with_reducible rfl))
            try simp only [Act.put, List.setIfInBounds_toArray, List.set_cons_zero, List.set_cons_succ]
            refine take_go (i := 9) (d := some 45) (v := ?_) (l' := #[tt, tt, tt, tt, tt, tt, tt, tt, tt, tt, tt, ff, ff]) rfl rfl (Or.inl ⟨by rfl, ?_⟩) ?_; rotate_left; · (intro w' hSw; (try dsimp only at hSw); go_simp; (try with_reducible rfl))
            try simp only [Act.put, List.setIfInBounds_toArray, List.set_cons_zero, List.set_cons_succ]
            refine one_to (i := 11) (l' := #[tt, tt, tt, tt, tt, tt, tt, tt, tt, tt, tt, tt, ff]) rfl (by kernel_rfl) (by kernel_rfl) (fun K hK => ?_)
            rw [if_pos (by rfl)]
            refine wp_store_mid 29 _ _ rfl H 0 V9 rfl rfl (by rw [HV.out, pc_size]; exact HZB.out.there) (by rw [infoPos, HV.out, pc_size]) (by rw [HV.out]; exact pc_one _) ?_
            rw [HVL.out]
            have HNB := Lib.hid (HZB.out.store (Q := N))
            replace HI := Lib.hid (below_store (b := H) N HI.out HHL.out HI.out.size)
            generalize V.setCells H 0 (pc N) = V at HNB HI ⊢
            refine hK.out _ _ (by first | exact HI.out | exact HI.out.drew) (fun hHeld => ?_)
            clear hK K
            try simp only [Act.put, List.setIfInBounds_toArray, List.set_cons_zero, List.set_cons_succ]
            refine take_go (i := 12) (d := some 6) (v := ?_) (l' := #[tt, tt, tt, tt, tt, tt, tt, tt, tt, tt, tt, tt, tt]) rfl rfl (Or.inl ⟨by rfl, ?_⟩) ?_; rotate_left; · (intro w' hSw; (try dsimp only at hSw); go_simp; (try with_reducible rfl))
            try simp only [Act.put, List.setIfInBounds_toArray, List.set_cons_zero, List.set_cons_succ]
            refine wpAnyH_done (by kernel_rfl) ?_ _
            refine NoPanic.normal ?_
            clear hHeld
            go_wp2_with fail
            go_meet
            exact ⟨H, rfl, rfl, HNB.out, HI.out⟩
        · skip
          go_simp
          have hb5 : Below V.heap.size V (V.alloc (.cells Tryz.zeroCells29 29)) := below_new _
          have HZB := Lib.hid (show PB (V.alloc (.cells Tryz.zeroCells29 29)) V.heap.size (fun _ => 0) by rw [zeroPos]; exact PB.new rfl)
          have HHL := Lib.hid (show w2.heap.size ≤ V.heap.size from HI.out.size)
          replace HI := Lib.hid (HI.out.trans (hb5.mono HI.out.size))
          try replace HAT := Lib.hid ((HAT.out.below hb5).mono hb5.size)
          clear hb5
          generalize V.heap.size = H at HZB HHL ⊢
          generalize V.alloc (.cells Tryz.zeroCells29 29) = V at *
          refine hK.out _ _ (by first | exact HI.out | exact HI.out.drew) (fun hHeld => ?_)
          clear hK K
          try simp only [Act.put, List.setIfInBounds_toArray, List.set_cons_zero, List.set_cons_succ]
          refine one_to (i := 5) (l' := #[tt, tt, tt, tt, tt, tt, ff, ff, ff, ff, tt, ff, ff]) rfl (by kernel_rfl) (by kernel_rfl) (fun K hK => ?_)
          go_simp
          have hb : Below V.heap.size V (V.alloc (.cells #[.int .i64 (s : Int), .int .i64 (t : Int), .int .i64 k] 41)) := below_new _
          have HAT := Lib.hid (one_row3 V (s : Int) (t : Int) k)
          replace HI := Lib.hid (HI.out.trans (hb.mono HI.out.size))
          try replace HZB := Lib.hid (HZB.out.go hb)
          clear hb
          generalize V.alloc (.cells #[.int .i64 (s : Int), .int .i64 (t : Int), .int .i64 k] 41) = V at *
          refine hK.out _ _ (by first | exact HI.out | exact HI.out.drew) (fun hHeld => ?_)
          clear hK K
          try simp only [Act.put, List.setIfInBounds_toArray, List.set_cons_zero, List.set_cons_succ]
          refine one_to (i := 6) (l' := #[tt, tt, tt, tt, tt, tt, tt, ff, ff, ff, tt, ff, ff]) rfl (by kernel_rfl) (by kernel_rfl) (fun K hK => ?_)
          go_simp
          refine (MPM.out _ _ _ (HBW.out _ HI.out) HAT.out).mono ?_
          rintro e V ⟨rfl, hb⟩
          replace HI := Lib.hid (HI.out.trans (hb.mono HI.out.size))
          try replace HZB := Lib.hid (HZB.out.go hb)
          clear hb HAT
          dsimp only
          refine hK.out _ _ (by first | exact HI.out | exact HI.out.drew) (fun hHeld => ?_)
          clear hK K
          try simp only [Act.put, List.setIfInBounds_toArray, List.set_cons_zero, List.set_cons_succ]
          refine take_go (i := 7) (d := some 36) (v := ?_) (l' := #[tt, tt, tt, tt, tt, tt, tt, tt, ff, ff, tt, ff, ff]) rfl rfl (Or.inl ⟨by rfl, ?_⟩) ?_; rotate_left; · (intro w' hSw; (try dsimp only at hSw); go_simp; (try with_reducible rfl))
          try simp only [Act.put, List.setIfInBounds_toArray, List.set_cons_zero, List.set_cons_succ]
          refine take_go (i := 8) (d := some 44) (v := ?_) (l' := #[tt, tt, tt, tt, tt, tt, tt, tt, tt, ff, tt, ff, ff]) rfl rfl (Or.inl ⟨by rfl, ?_⟩) ?_; rotate_left; · (intro w' hSw; (try dsimp only at hSw); go_simp; (try with_reducible rfl))
          try simp only [Act.put, List.setIfInBounds_toArray, List.set_cons_zero, List.set_cons_succ]
          refine take_go (i := 9) (d := some 45) (v := ?_) (l' := #[tt, tt, tt, tt, tt, tt, tt, tt, tt, tt, tt, ff, ff]) rfl rfl (Or.inl ⟨by rfl, ?_⟩) ?_; rotate_left; · (intro w' hSw; (try dsimp only at hSw); go_simp; (try with_reducible rfl))
          try simp only [Act.put, List.setIfInBounds_toArray, List.set_cons_zero, List.set_cons_succ]
          refine one_to (i := 11) (l' := #[tt, tt, tt, tt, tt, tt, tt, tt, tt, tt, tt, tt, ff]) rfl (by kernel_rfl) (by kernel_rfl) (fun K hK => ?_)
          rw [if_pos (by rfl)]
          refine wp_store_mid 29 _ _ rfl H 0 V9 rfl rfl (by rw [HV.out, pc_size]; exact HZB.out.there) (by rw [infoPos, HV.out, pc_size]) (by rw [HV.out]; exact pc_one _) ?_
          rw [HVL.out]
          have HNB := Lib.hid (HZB.out.store (Q := N))
          replace HI := Lib.hid (below_store (b := H) N HI.out HHL.out HI.out.size)
          generalize V.setCells H 0 (pc N) = V at HNB HI ⊢
          refine hK.out _ _ (by first | exact HI.out | exact HI.out.drew) (fun hHeld => ?_)
          clear hK K
          try simp only [Act.put, List.setIfInBounds_toArray, List.set_cons_zero, List.set_cons_succ]
          refine take_go (i := 12) (d := some 6) (v := ?_) (l' := #[tt, tt, tt, tt, tt, tt, tt, tt, tt, tt, tt, tt, tt]) rfl rfl (Or.inl ⟨by rfl, ?_⟩) ?_; rotate_left; · (intro w' hSw; (try dsimp only at hSw); go_simp; (try with_reducible rfl))
          try simp only [Act.put, List.setIfInBounds_toArray, List.set_cons_zero, List.set_cons_succ]
          refine wpAnyH_done (by kernel_rfl) ?_ _
          refine NoPanic.normal ?_
          clear hHeld
          go_wp2_with fail
          go_meet
          exact ⟨H, rfl, rfl, HNB.out, HI.out⟩
      case rest =>
      obtain ⟨H, rfl, rfl, h1, h2⟩ := hcut
      have HPN := Lib.hid h1
      replace HI := Lib.hid h2
      clear h1 h2 MPM HCE
      go_upto_region 10 with (fail)
      refine forget_B (fun W => PB W H N ∧ Below w2.heap.size w2 W) ⟨HPN.out, HI.out⟩ ?_
      clear HPN HI
      rintro W5 ⟨h1, h2⟩
      have HPN := Lib.hid h1
      have HI := Lib.hid h2
      clear h1 h2
      have hbr : ∀ dd os, Below w.heap.size w (grow (redrawn W5 dd) os) := fun dd os => (HBW.out _ HI.out).trans ((below_regrown W5 dd os).mono (HBW.out _ HI.out).size)
      have HCP := Lib.hid (HPW.out _ HI.out).regrown
      have HCQ := Lib.hid HPN.out.regrown
      have cFP := fun dd os => Calls.regrown_of (FP.out _ (hbr dd os))
      have cFN := fun dd os => Calls.regrown_of (FN.out _ (hbr dd os))
      have cSN := fun dd os => Calls.regrown_of (SN.out _ (hbr dd os))
      have e5 := cell_regrown (HCN.out _ _ HPN.out)
      have eP := cell_regrown (HC.out _ (HPW.out _ HI.out))
      obtain ⟨hr0, hr1⟩ := HR01.out
      obtain ⟨hQF, hQS⟩ := HQF.out
      clear hbr FN SN
      rcases HHALF.out with h0 | h0
      · subst h0
        obtain rfl : qf = false := by rw [hQF]; decide
        clear hQF hQS HQF
        refine wp_region_quiet_below (by kernel_rfl) (by kernel_rfl) ?_
        iterate 38 (go_big_quiet_step (fail))
        refine wpQuiet_pos (by rfl) _ (by rfl) H N V9 HV.out (by rfl) HCQ.out ?_
        try simp only [Act.put, List.setIfInBounds_toArray, List.set_cons_zero, List.set_cons_succ]
        go_big_quiet_step (exact cFN _ _)
        repeat (go_big_quiet_step (fail))
        refine wpQuiet_nil ?_
        rintro W9 ⟨pq, rfl⟩
        replace HI := Lib.hid (HI.out.trans ((below_regrown W5 pq.d pq.os).mono HI.out.size))
        clear e5 eP cFP cFN cSN HCP HCQ HPN
        generalize grow (redrawn W5 pq.d) pq.os = W9 at HI ⊢
        go_wp2
        go_roundw
        case rel => exact ⟨m + 1, by omega, by go_num, HI.out⟩
        case measure => simp [intOf]; omega
      · have hq1 : 1 ≤ qh ∧ (qh = hf + 1 ∨ (qh = 1024 ∧ 1023 ≤ hf)) := by rw [h0]; split <;> omega
        have b1 : (qh != 0) = true := by simp; omega
        have b2 : (qh == 0) = false := by simp; omega
        have b3 : IntKind.i64.wrap (hf + 1) = hf + 1 := IntWalk.i64_in _ (by omega)
        have b4 : min (hf + 1) (1024 : Int) = qh := by omega
        have b5 : (if 1024 < hf + 1 then (1024 : Int) else hf + 1) = qh := by split <;> omega
        have b6 : (if hf + 1 < 1024 then hf + 1 else (1024 : Int)) = qh := by split <;> omega
        have b7 : (qh != qh) = false := by simp
        have b8 : decide ((149 : Int) ≤ hf) = qs := by rw [hQS, Bool.eq_iff_iff]; simp; omega
        have b9 : (qs != qs) = false := by simp
        clear h0
        by_cases hfi : 100 ≤ hf
        · obtain rfl : fi = true := by rw [HFI.out]; simpa using hfi
          obtain rfl : qf = true := by rw [hQF]; simp; omega
          clear hQF hQS HQF hfi hq1
          refine wp_region_quiet_below (by kernel_rfl) (by kernel_rfl) ?_
          iterate 15 (go_big_quiet_step (fail))
          refine wpQuiet_pos (by rfl) _ (by rfl) w.heap.size P X HX.out (by rfl) HCP.out ?_
          try simp only [Act.put, List.setIfInBounds_toArray, List.set_cons_zero, List.set_cons_succ]
          go_big_quiet_step (exact cFP _ _)
          iterate 1 (go_big_quiet_step (fail))
          refine wpQuiet_pos (by rfl) _ (by rfl) H N V9 HV.out (by rfl) HCQ.out ?_
          try simp only [Act.put, List.setIfInBounds_toArray, List.set_cons_zero, List.set_cons_succ]
          go_big_quiet_step (exact cFN _ _)
          iterate 4 (go_big_quiet_step (fail))
          refine wpQuiet_pos (by rfl) _ (by rfl) H N V9 HV.out (by rfl) HCQ.out ?_
          try simp only [Act.put, List.setIfInBounds_toArray, List.set_cons_zero, List.set_cons_succ]
          go_big_quiet_step (exact cSN _ _)
          repeat (go_big_quiet_step (fail))
          refine wpQuiet_nil ?_
          rintro W9 ⟨pq, rfl⟩
          replace HI := Lib.hid (HI.out.trans ((below_regrown W5 pq.d pq.os).mono HI.out.size))
          clear e5 eP cFP cFN cSN HCP HCQ HPN
          generalize grow (redrawn W5 pq.d) pq.os = W9 at HI ⊢
          go_wp2
          go_roundw
          case rel => exact ⟨m + 1, by omega, by go_num, HI.out⟩
          case measure => simp [intOf]; omega
        · obtain rfl : fi = false := by rw [HFI.out]; simpa using hfi
          clear hQF hQS HQF hfi hq1
          refine wp_region_quiet_below (by kernel_rfl) (by kernel_rfl) ?_
          iterate 15 (go_big_quiet_step (fail))
          refine wpQuiet_pos (by rfl) _ (by rfl) w.heap.size P X HX.out (by rfl) HCP.out ?_
          try simp only [Act.put, List.setIfInBounds_toArray, List.set_cons_zero, List.set_cons_succ]
          go_big_quiet_step (exact cFP _ _)
          iterate 7 (go_big_quiet_step (fail))
          refine wpQuiet_pos (by rfl) _ (by rfl) H N V9 HV.out (by rfl) HCQ.out ?_
          try simp only [Act.put, List.setIfInBounds_toArray, List.set_cons_zero, List.set_cons_succ]
          go_big_quiet_step (exact cSN _ _)
          repeat (go_big_quiet_step (fail))
          refine wpQuiet_nil ?_
          rintro W9 ⟨pq, rfl⟩
          replace HI := Lib.hid (HI.out.trans ((below_regrown W5 pq.d pq.os).mono HI.out.size))
          clear e5 eP cFP cFN cSN HCP HCQ HPN
          generalize grow (redrawn W5 pq.d) pq.os = W9 at HI ⊢
          go_wp2
          go_roundw
          case rel => exact ⟨m + 1, by omega, by go_num, HI.out⟩
          case measure => simp [intOf]; omega
    · obtain rfl : m = n := by omega
      go_wp2
      go_ret
      exact ⟨rfl, HB.out.trans (HI.out.mono HB.out.size)⟩
end Go.Proofs.YthinkiljhkanhaaGreatDoor
