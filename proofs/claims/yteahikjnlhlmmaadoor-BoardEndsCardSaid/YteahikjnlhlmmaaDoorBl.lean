/-
  Contracts: the document's pieces put.
-/
import Derived.Test.YteahikjnlhlmmaaDoorBk
namespace Go.Proofs.YteahikjnlhlmmaaDoor
open Go.RowKit Go.Sort
set_option linter.unusedSimpArgs false
set_option linter.unusedVariables false

set_option maxHeartbeats 2000000 in
set_option maxRecDepth 100000 in
theorem rPut_any (P : Nat → Int) (k d : Int) (B : Nat) (p : Option Addr) (n c : Nat) (g : Nat → Int) (w : World) (hn : n ≤ 4294967295) (hr : Reads B w p n (fun i => .int .i64 (g i))) (hB : B ≤ w.heap.size) :
    Calls Tryd.prog 10 #[.agg (pc P).toArray, .agg #[.int .i64 k, .int .i64 d], .slice p n c] w fun e w' => e = .returned (.tuple #[.agg (pc (putQ P k d g n)).toArray, .int .i64 (putE k d g n)]) ∧ Below w.heap.size w w' := by
  obtain ⟨X, hX⟩ : ∃ X, X = (pc P).toArray := ⟨_, rfl⟩
  obtain ⟨Y, hY⟩ : ∃ Y, Y = (pc (putQ P k d g n)).toArray := ⟨_, rfl⟩
  rw [← hX, ← hY]
  have HX := Lib.hid hX
  have HY := Lib.hid hY
  have hp0 := PT.begin w P k d X hX
  have HP0 := Lib.hid hp0
  obtain ⟨a, ha⟩ : ∃ a, pe k d 0 0 = a := ⟨_, rfl⟩
  obtain ⟨b, hb⟩ : ∃ b, mayB k d = b := ⟨_, rfl⟩
  have HA := Lib.hid ha
  have HBB := Lib.hid hb
  have HRD := Lib.hid hr
  clear hX hY hp0 ha hb hr
  go_enter Tryd.func10, Tryd.ntmps10
  go_upto_region 1 with (fail)
  refine forget_B (fun W => PT w W P k d) HP0.out ?_
  clear HP0
  intro W h1
  obtain ⟨q1, q2, qf, qz⟩ := row2 h1.x
  have H1 := Lib.hid h1
  clear h1
  go_wp2_with fail
  refine (rNone_any k d _).mono ?_
  rw [HA.out]
  rintro e w1 ⟨rfl, hb1⟩
  clear q1 q2 qf qz
  have h1 := H1.out.go hb1
  clear H1 hb1
  obtain ⟨q1, q2, qf, qz⟩ := row2 h1.x
  have H1 := Lib.hid h1
  clear h1
  cases a
  · go_wp2_with fail
    refine (rMay_any k d _).mono ?_
    rw [HBB.out]
    rintro e w2 ⟨rfl, hb2⟩
    clear q1 q2 qf qz
    have h1 := H1.out.go hb2
    clear H1 hb2
    have H1 := Lib.hid h1
    clear h1
    cases b
    · go_upto_region 2 with (fail)
      refine wp_region_lit ?_
      refine wpList_plain rfl (fun K hK => ?_)
      go_simp
      refine hK _ _ ?_
      clear hK K
      refine wpList_store_mid rfl 29 _ _ rfl (w.heap.size + 2) 0 (pc fun _ => 0).toArray rfl (congrArg Value.agg zeroPos) (by rw [pc_size]; exact H1.out.z.there) (by rw [infoPos, pc_size]) (pc_one _) ?_
      rw [List.toList_toArray]
      obtain ⟨hr1, hb1⟩ := H1.out.stored (Q := fun _ => 0)
      have HR := Lib.hid hr1
      have HB := Lib.hid hb1
      clear hr1 hb1 H1
      generalize w2.setCells (w.heap.size + 2) 0 (pc fun _ => 0) = W8 at HR HB ⊢
      refine wpList_plain rfl (fun K hK => ?_)
      go_simp
      refine hK _ _ ?_
      clear hK K
      show Exit.then _ _ Exit.normal _ _
      refine ret_go (by assumption) ?_
      repeat (first | refine then_ret ?_ | refine block_ret ?_)
      have hqq : putQ P k d g n = fun _ => 0 := by unfold putQ canP; rw [HA.out, HBB.out]; rfl
      have hqe : putE k d g n = 2 := by unfold putE canP; rw [HA.out, HBB.out]; rfl
      refine bodyPost_ret (v := .tuple #[.agg (pc fun _ => 0).toArray, .int .i64 2]) ?_ rfl ⟨by rw [HY.out, hqq, hqe], HB.out⟩
      exact results_mid2 (p := 6) (u := 7) (ty := 29) rfl _ W8 (w.heap.size + 2) _ _ _ rfl rfl HR.out Tryd.underlying29 rfl (by rw [infoPos, pc_len])
    · have HCP := Lib.hid (show canP k d = true by unfold canP; rw [HA.out, HBB.out]; rfl)
      clear HA HBB
      go_upto_region 3 with (fail)
      have HQQ := Lib.hid (show putQ P k d g n = if okN g n then putN P k d g n else fun _ => 0 by unfold putQ; rw [HCP.out]; rfl)
      have HQE := Lib.hid (show putE k d g n = if okN g n then 0 else 6 by unfold putE; rw [HCP.out]; rfl)
      clear HCP
      go_wp2
      go_loopw [8] (fun i wr => ∃ j : Nat, j ≤ n ∧ i = .int .i64 (j : Int) ∧ PT w wr P k d ∧ okN g j = true) (fun i _ => n - (intOf i).toNat)
      case atStart => exact ⟨0, Nat.zero_le _, rfl, H1.out, rfl⟩
      case round =>
        obtain ⟨j, hj, rfl, h1, h2⟩ := hrel
        clear H1
        have H1 := Lib.hid h1
        have H2 := Lib.hid h2
        clear h1 h2
        by_cases hlt : j < n
        · have hrd := HRD.out.below (H1.out.b.mono hB)
          rcases hrd with h0 | ⟨b, off, rfl, hbb, hc⟩
          · omega
          have e0 : wr.cell? ⟨b, off + j, none⟩ = some (.int .i64 (g j)) := hc j hlt
          obtain ⟨s, hs⟩ : ∃ s, g j = s := ⟨_, rfl⟩
          rw [hs] at e0
          have HS := Lib.hid hs
          clear hs hc
          rcases sq_cases s with ⟨s0, hsb⟩ | ⟨s0, hsb⟩ | ⟨s0, s1, hsb⟩
          case inr.inr =>
            have HOK := Lib.hid (show okN g (j + 1) = true by show (okN g j && sq (g j)) = true; rw [H2.out, HS.out, hsb]; rfl)
            clear hsb
            go_wp2
            go_roundw
            case rel => exact ⟨j + 1, by omega, by go_num, H1.out, HOK.out⟩
            case measure => simp [intOf]; omega
          all_goals
            have HQ0 := Lib.hid (okN_false g hlt (by rw [HS.out]; exact hsb))
            clear hsb
            go_upto_region 7 with (fail)
            refine wp_region_lit ?_
            refine wpList_plain rfl (fun K hK => ?_)
            go_simp
            refine hK _ _ ?_
            clear hK K
            refine wpList_store_mid rfl 29 _ _ rfl (w.heap.size + 2) 0 (pc fun _ => 0).toArray rfl (congrArg Value.agg zeroPos) (by rw [pc_size]; exact H1.out.z.there) (by rw [infoPos, pc_size]) (pc_one _) ?_
            rw [List.toList_toArray]
            obtain ⟨hr1, hb1⟩ := H1.out.stored (Q := fun _ => 0)
            have HR := Lib.hid hr1
            have HB := Lib.hid hb1
            clear hr1 hb1 H1
            generalize wr.setCells (w.heap.size + 2) 0 (pc fun _ => 0) = W8 at HR HB ⊢
            refine wpList_plain rfl (fun K hK => ?_)
            go_simp
            refine hK _ _ ?_
            clear hK K
            show Exit.then _ _ Exit.normal _ _
            refine ret_go (by assumption) ?_
            repeat (first | refine then_ret ?_ | refine block_ret ?_)
            have hqq : putQ P k d g n = fun _ => 0 := by rw [HQQ.out, HQ0.out]; rfl
            have hqe : putE k d g n = 6 := by rw [HQE.out, HQ0.out]; rfl
            refine bodyPost_ret (v := .tuple #[.agg (pc fun _ => 0).toArray, .int .i64 6]) ?_ rfl ⟨by rw [HY.out, hqq, hqe], HB.out⟩
            exact results_mid2 (p := 6) (u := 7) (ty := 29) rfl _ W8 (w.heap.size + 2) _ _ _ rfl rfl HR.out Tryd.underlying29 rfl (by rw [infoPos, pc_len])
        · obtain rfl : j = n := by omega
          have HOK := Lib.hid H2.out
          have HSQ := Lib.hid ((okN_iff g j).1 H2.out)
          clear H2
          go_wp2
          go_loopw [9] (fun i wr => ∃ m : Nat, m ≤ j ∧ i = .int .i64 (m : Int) ∧ PT w wr (putN P k d g m) k d) (fun i _ => j - (intOf i).toNat)
          case atStart => exact ⟨0, Nat.zero_le _, rfl, H1.out⟩
          case round =>
            obtain ⟨l, hl, rfl, h1⟩ := hrel
            clear H1
            have H1 := Lib.hid h1
            clear h1
            by_cases hlt2 : l < j
            · have hrd := HRD.out.below (H1.out.b.mono hB)
              rcases hrd with h0 | ⟨b, off, rfl, hbb, hc⟩
              · omega
              have e0 : wr.cell? ⟨b, off + l, none⟩ = some (.int .i64 (g l)) := hc l hlt2
              have hsl := HSQ.out l hlt2
              obtain ⟨s, hs⟩ : ∃ s, g l = s := ⟨_, rfl⟩
              rw [hs] at e0 hsl
              have HS := Lib.hid hs
              clear hs hc
              obtain ⟨s0, s1⟩ := (sq_iff s).1 hsl
              obtain ⟨m, rfl⟩ : ∃ m : Nat, s = (m : Int) := ⟨s.toNat, by omega⟩
              clear hsl
              have hm : m < 64 := by omega
              have x1 := (row2 H1.out.x).1
              have x2 := (row2 H1.out.x).2.1
              have k0 := cell_regrown e0
              have k1 := cell_regrown x1
              have k2 := cell_regrown x2
              clear e0 x1 x2
              go_upto_region 11 with (fail)
              refine wp_region_quiet_store 7 (by kernel_rfl) rfl rfl (by kernel_rfl) (by kernel_rfl) (C := fun W' => ∃ p : Regrown, W' = grow (redrawn wr p.d) p.os) (regrown_self _) ?_
              simp only [List.take_succ_cons, List.take_zero]
              repeat (quiet_step (fail))
              refine wpQuiet_nil ?_
              rintro W4 ⟨q, rfl⟩
              refine ⟨by rfl, ?_⟩
              have h1 := H1.out.go (below_regrown wr q.d q.os)
              clear k0 k1 k2 H1
              generalize grow (redrawn wr q.d) q.os = W4 at *
              have e1 := h1.p.cell (m * 2) (by omega)
              have e2 := h1.p.cell (m * 2 + 1) (by omega)
              have e3 := h1.p.fr (m * 2)
              have e4 := h1.p.fr (m * 2 + 1)
              have hst := (h1.set (m * 2) k (by omega)).set (m * 2 + 1) d (by omega)
              have hpu : setN (setN (putN P k d g l) (m * 2) k) (m * 2 + 1) d = putN P k d g (l + 1) := by
                show _ = setN (setN (putN P k d g l) (2 * (g l).toNat) k) (2 * (g l).toNat + 1) d
                rw [HS.out, Int.toNat_natCast, Nat.mul_comm m 2]
              rw [hpu] at hst
              have HST := Lib.hid hst
              clear hst hpu h1
              go_simp
              go_wp2
              go_roundw
              case rel => exact ⟨l + 1, by omega, by go_num, HST.out⟩
              case measure => simp [intOf]; omega
            · obtain rfl : l = j := by omega
              have hqq : putQ P k d g l = putN P k d g l := by rw [HQQ.out, HOK.out]; rfl
              have hqe : putE k d g l = 0 := by rw [HQE.out, HOK.out]; rfl
              rw [hqq] at HY
              have HE := Lib.hid hqe
              clear hqq hqe
              go_upto_region 12 with (fail)
              refine wp_region_lit ?_
              refine wpList_load_mid rfl 29 _ rfl w.heap.size 0 rfl (pc (putN P k d g l)) _ H1.out.p.range Tryd.underlying29 rfl (by rw [infoPos, pc_len]) ?_
              refine wpList_store_mid rfl 29 _ _ rfl (w.heap.size + 2) 0 (pc (putN P k d g l)).toArray rfl rfl (by rw [pc_size]; exact H1.out.z.there) (by rw [infoPos, pc_size]) (pc_one _) ?_
              rw [List.toList_toArray]
              obtain ⟨hr1, hb1⟩ := H1.out.stored (Q := putN P k d g l)
              have HR := Lib.hid hr1
              have HB := Lib.hid hb1
              clear hr1 hb1 H1
              generalize wr.setCells (w.heap.size + 2) 0 (pc (putN P k d g l)) = W8 at HR HB ⊢
              rw [← HY.out]
              refine wpList_plain rfl (fun K hK => ?_)
              go_simp
              refine hK _ _ ?_
              clear hK K
              show Exit.then _ _ Exit.normal _ _
              refine ret_go (by assumption) ?_
              repeat (first | refine then_ret ?_ | refine block_ret ?_)
              refine bodyPost_ret (v := .tuple #[.agg (pc (putN P k d g l)).toArray, .int .i64 0]) ?_ rfl ⟨by rw [HY.out, HE.out], HB.out⟩
              exact results_mid2 (p := 6) (u := 7) (ty := 29) rfl _ W8 (w.heap.size + 2) _ _ _ rfl rfl HR.out Tryd.underlying29 rfl (by rw [infoPos, pc_len])
  · have HCP := Lib.hid (show canP k d = true by unfold canP; rw [HA.out]; rfl)
    clear HA HBB
    go_upto_region 3 with (fail)
    have HQQ := Lib.hid (show putQ P k d g n = if okN g n then putN P k d g n else fun _ => 0 by unfold putQ; rw [HCP.out]; rfl)
    have HQE := Lib.hid (show putE k d g n = if okN g n then 0 else 6 by unfold putE; rw [HCP.out]; rfl)
    clear HCP
    go_wp2
    go_loopw [8] (fun i wr => ∃ j : Nat, j ≤ n ∧ i = .int .i64 (j : Int) ∧ PT w wr P k d ∧ okN g j = true) (fun i _ => n - (intOf i).toNat)
    case atStart => exact ⟨0, Nat.zero_le _, rfl, H1.out, rfl⟩
    case round =>
      obtain ⟨j, hj, rfl, h1, h2⟩ := hrel
      clear H1
      have H1 := Lib.hid h1
      have H2 := Lib.hid h2
      clear h1 h2
      by_cases hlt : j < n
      · have hrd := HRD.out.below (H1.out.b.mono hB)
        rcases hrd with h0 | ⟨b, off, rfl, hbb, hc⟩
        · omega
        have e0 : wr.cell? ⟨b, off + j, none⟩ = some (.int .i64 (g j)) := hc j hlt
        obtain ⟨s, hs⟩ : ∃ s, g j = s := ⟨_, rfl⟩
        rw [hs] at e0
        have HS := Lib.hid hs
        clear hs hc
        rcases sq_cases s with ⟨s0, hsb⟩ | ⟨s0, hsb⟩ | ⟨s0, s1, hsb⟩
        case inr.inr =>
          have HOK := Lib.hid (show okN g (j + 1) = true by show (okN g j && sq (g j)) = true; rw [H2.out, HS.out, hsb]; rfl)
          clear hsb
          go_wp2
          go_roundw
          case rel => exact ⟨j + 1, by omega, by go_num, H1.out, HOK.out⟩
          case measure => simp [intOf]; omega
        all_goals
          have HQ0 := Lib.hid (okN_false g hlt (by rw [HS.out]; exact hsb))
          clear hsb
          go_upto_region 7 with (fail)
          refine wp_region_lit ?_
          refine wpList_plain rfl (fun K hK => ?_)
          go_simp
          refine hK _ _ ?_
          clear hK K
          refine wpList_store_mid rfl 29 _ _ rfl (w.heap.size + 2) 0 (pc fun _ => 0).toArray rfl (congrArg Value.agg zeroPos) (by rw [pc_size]; exact H1.out.z.there) (by rw [infoPos, pc_size]) (pc_one _) ?_
          rw [List.toList_toArray]
          obtain ⟨hr1, hb1⟩ := H1.out.stored (Q := fun _ => 0)
          have HR := Lib.hid hr1
          have HB := Lib.hid hb1
          clear hr1 hb1 H1
          generalize wr.setCells (w.heap.size + 2) 0 (pc fun _ => 0) = W8 at HR HB ⊢
          refine wpList_plain rfl (fun K hK => ?_)
          go_simp
          refine hK _ _ ?_
          clear hK K
          show Exit.then _ _ Exit.normal _ _
          refine ret_go (by assumption) ?_
          repeat (first | refine then_ret ?_ | refine block_ret ?_)
          have hqq : putQ P k d g n = fun _ => 0 := by rw [HQQ.out, HQ0.out]; rfl
          have hqe : putE k d g n = 6 := by rw [HQE.out, HQ0.out]; rfl
          refine bodyPost_ret (v := .tuple #[.agg (pc fun _ => 0).toArray, .int .i64 6]) ?_ rfl ⟨by rw [HY.out, hqq, hqe], HB.out⟩
          exact results_mid2 (p := 6) (u := 7) (ty := 29) rfl _ W8 (w.heap.size + 2) _ _ _ rfl rfl HR.out Tryd.underlying29 rfl (by rw [infoPos, pc_len])
      · obtain rfl : j = n := by omega
        have HOK := Lib.hid H2.out
        have HSQ := Lib.hid ((okN_iff g j).1 H2.out)
        clear H2
        go_wp2
        go_loopw [9] (fun i wr => ∃ m : Nat, m ≤ j ∧ i = .int .i64 (m : Int) ∧ PT w wr (putN P k d g m) k d) (fun i _ => j - (intOf i).toNat)
        case atStart => exact ⟨0, Nat.zero_le _, rfl, H1.out⟩
        case round =>
          obtain ⟨l, hl, rfl, h1⟩ := hrel
          clear H1
          have H1 := Lib.hid h1
          clear h1
          by_cases hlt2 : l < j
          · have hrd := HRD.out.below (H1.out.b.mono hB)
            rcases hrd with h0 | ⟨b, off, rfl, hbb, hc⟩
            · omega
            have e0 : wr.cell? ⟨b, off + l, none⟩ = some (.int .i64 (g l)) := hc l hlt2
            have hsl := HSQ.out l hlt2
            obtain ⟨s, hs⟩ : ∃ s, g l = s := ⟨_, rfl⟩
            rw [hs] at e0 hsl
            have HS := Lib.hid hs
            clear hs hc
            obtain ⟨s0, s1⟩ := (sq_iff s).1 hsl
            obtain ⟨m, rfl⟩ : ∃ m : Nat, s = (m : Int) := ⟨s.toNat, by omega⟩
            clear hsl
            have hm : m < 64 := by omega
            have x1 := (row2 H1.out.x).1
            have x2 := (row2 H1.out.x).2.1
            have k0 := cell_regrown e0
            have k1 := cell_regrown x1
            have k2 := cell_regrown x2
            clear e0 x1 x2
            go_upto_region 11 with (fail)
            refine wp_region_quiet_store 7 (by kernel_rfl) rfl rfl (by kernel_rfl) (by kernel_rfl) (C := fun W' => ∃ p : Regrown, W' = grow (redrawn wr p.d) p.os) (regrown_self _) ?_
            simp only [List.take_succ_cons, List.take_zero]
            repeat (quiet_step (fail))
            refine wpQuiet_nil ?_
            rintro W4 ⟨q, rfl⟩
            refine ⟨by rfl, ?_⟩
            have h1 := H1.out.go (below_regrown wr q.d q.os)
            clear k0 k1 k2 H1
            generalize grow (redrawn wr q.d) q.os = W4 at *
            have e1 := h1.p.cell (m * 2) (by omega)
            have e2 := h1.p.cell (m * 2 + 1) (by omega)
            have e3 := h1.p.fr (m * 2)
            have e4 := h1.p.fr (m * 2 + 1)
            have hst := (h1.set (m * 2) k (by omega)).set (m * 2 + 1) d (by omega)
            have hpu : setN (setN (putN P k d g l) (m * 2) k) (m * 2 + 1) d = putN P k d g (l + 1) := by
              show _ = setN (setN (putN P k d g l) (2 * (g l).toNat) k) (2 * (g l).toNat + 1) d
              rw [HS.out, Int.toNat_natCast, Nat.mul_comm m 2]
            rw [hpu] at hst
            have HST := Lib.hid hst
            clear hst hpu h1
            go_simp
            go_wp2
            go_roundw
            case rel => exact ⟨l + 1, by omega, by go_num, HST.out⟩
            case measure => simp [intOf]; omega
          · obtain rfl : l = j := by omega
            have hqq : putQ P k d g l = putN P k d g l := by rw [HQQ.out, HOK.out]; rfl
            have hqe : putE k d g l = 0 := by rw [HQE.out, HOK.out]; rfl
            rw [hqq] at HY
            have HE := Lib.hid hqe
            clear hqq hqe
            go_upto_region 12 with (fail)
            refine wp_region_lit ?_
            refine wpList_load_mid rfl 29 _ rfl w.heap.size 0 rfl (pc (putN P k d g l)) _ H1.out.p.range Tryd.underlying29 rfl (by rw [infoPos, pc_len]) ?_
            refine wpList_store_mid rfl 29 _ _ rfl (w.heap.size + 2) 0 (pc (putN P k d g l)).toArray rfl rfl (by rw [pc_size]; exact H1.out.z.there) (by rw [infoPos, pc_size]) (pc_one _) ?_
            rw [List.toList_toArray]
            obtain ⟨hr1, hb1⟩ := H1.out.stored (Q := putN P k d g l)
            have HR := Lib.hid hr1
            have HB := Lib.hid hb1
            clear hr1 hb1 H1
            generalize wr.setCells (w.heap.size + 2) 0 (pc (putN P k d g l)) = W8 at HR HB ⊢
            rw [← HY.out]
            refine wpList_plain rfl (fun K hK => ?_)
            go_simp
            refine hK _ _ ?_
            clear hK K
            show Exit.then _ _ Exit.normal _ _
            refine ret_go (by assumption) ?_
            repeat (first | refine then_ret ?_ | refine block_ret ?_)
            refine bodyPost_ret (v := .tuple #[.agg (pc (putN P k d g l)).toArray, .int .i64 0]) ?_ rfl ⟨by rw [HY.out, HE.out], HB.out⟩
            exact results_mid2 (p := 6) (u := 7) (ty := 29) rfl _ W8 (w.heap.size + 2) _ _ _ rfl rfl HR.out Tryd.underlying29 rfl (by rw [infoPos, pc_len])
end Go.Proofs.YteahikjnlhlmmaaDoor
