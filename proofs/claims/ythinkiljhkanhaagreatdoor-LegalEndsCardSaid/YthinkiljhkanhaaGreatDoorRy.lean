/-
  Contracts of the document's side: Play.
-/
import Derived.Test.YthinkiljhkanhaaGreatDoorRv
import Derived.Test.YthinkiljhkanhaaGreatDoorRx
import Derived.Test.YthinkiljhkanhaaGreatDoorG23
namespace Go.Proofs.YthinkiljhkanhaaGreatDoor
open Go.RowKit Go.Sort
set_option linter.unusedSimpArgs false
set_option linter.unusedVariables false
set_option maxRecDepth 20000

theorem HO.at {w W : World} {P : Nat → Int} (h : HO w W P) (Q : Nat → Int) : HO w (W.setCells w.heap.size 0 (pc Q)) Q :=
  ⟨h.p.store, h.z.gr (grs_B (hb := w.heap.size) (pc Q) 0 W) (by intro e; have := Option.some.inj e; omega), below_store (b := w.heap.size) Q h.b (Nat.le_refl _) h.b.size⟩
set_option maxHeartbeats 8000000 in
set_option maxRecDepth 100000 in
theorem rPlay10_any (P : Nat → Int) (F T K : Nat → Int) (p : Option Addr) (n c : Nat) (hn : n ≤ 100000) (w : World) (hr : Reads3 w.heap.size w p n F T K) :
    Calls Tryz.prog 14 #[.agg (pc P).toArray, .slice p n c] w fun e w' => e = .returned (.tuple #[.agg (pc (plP P F T K n)).toArray, .int .i64 (plE P F T K n)]) ∧ Below w.heap.size w w' := by
  obtain ⟨X, hX⟩ : ∃ X, X = (pc P).toArray := ⟨_, rfl⟩
  have HC := Lib.hid (HO.begin10 w P X hX)
  have MP := Lib.hid (fun W => rPosition_any P W)
  rw [← hX] at MP ⊢
  have HX := Lib.hid hX
  have HR := Lib.hid hr
  have HNN := Lib.hid hn
  obtain ⟨ps, hps⟩ : ∃ x, posB P = x := ⟨_, rfl⟩
  have HPL := Lib.hid (show plP P F T K n = if ps then (advN P F T K n).getD (fun _ => 0) else fun _ => 0 by unfold plP; rw [hps])
  have HPE := Lib.hid (show plE P F T K n = if ps then (if (advN P F T K n).isSome then 0 else 8) else 2 by unfold plE; rw [hps])
  rw [hps] at MP
  have HPS := Lib.hid hps
  obtain ⟨Z, hZ⟩ : ∃ Z, plP P F T K n = Z := ⟨_, rfl⟩
  obtain ⟨er, her⟩ : ∃ z, plE P F T K n = z := ⟨_, rfl⟩
  rw [hZ] at HPL ⊢
  rw [her] at HPE ⊢
  have HGO := Lib.hid (fun i Q (h : advN P F T K i = some Q) hl => adv_go h hl)
  have HEND := Lib.hid (fun i Q (h : advN P F T K i = some Q) hl => adv_end h hl)
  have HNO := Lib.hid (fun i m (h : advN P F T K i = none) hi => adv_none (n := m) h hi)
  have H0 := Lib.hid (show advN P F T K 0 = some P from rfl)
  clear hX hps hr hZ her hn
  go_enter Tryz.func14, Tryz.ntmps14
  go_upto_region 1 with (fail)
  generalize (w.alloc (.cells X 29)).alloc (.cells Tryz.zeroCells29 29) = W0 at *
  go_wp2_with (refine wpList_pos (by rfl) _ (by rfl) w.heap.size P X HX.out (by rfl) HC.out.p ?_)
  refine (MP.out _).mono ?_
  rintro e w3 ⟨rfl, hb⟩
  replace HC := Lib.hid (HC.out.on hb)
  clear hb MP
  dsimp only
  refine list_go (by assumption) ?_
  cases ps
  · have HZ := Lib.hid (show Z = fun _ => 0 from HPL.out)
    have HE := Lib.hid (show er = 2 from HPE.out)
    clear HPL HPE HR HGO HEND HNO H0
    go_upto_region 2 with (fail)
    refine wp_region_lit ?_
    refine wpList_plain rfl (fun K hK => ?_)
    go_simp
    refine hK _ _ ?_
    clear hK K
    refine wpList_store_mid rfl 29 _ _ rfl (w.heap.size + 1) 0 (pc fun _ => 0).toArray rfl (congrArg Value.agg zeroPos) (by rw [pc_size]; exact HC.out.z.there) (by rw [infoPos, pc_size]) (pc_one _) ?_
    rw [List.toList_toArray]
    obtain ⟨hr1, hb1⟩ := HC.out.stored (Q := fun _ => 0)
    have HRR := Lib.hid hr1
    have HB := Lib.hid hb1
    clear hr1 hb1 HC
    generalize w3.setCells (w.heap.size + 1) 0 (pc fun _ => 0) = W8 at HRR HB ⊢
    refine wpList_plain rfl (fun K hK => ?_)
    go_simp
    refine hK _ _ ?_
    clear hK K
    show Exit.then _ _ Exit.normal _ _
    refine ret_go (by assumption) ?_
    repeat (first | refine then_ret ?_ | refine block_ret ?_)
    refine bodyPost_ret (v := .tuple #[.agg (pc fun _ => 0).toArray, .int .i64 2]) ?_ rfl ⟨by rw [HZ.out, HE.out], HB.out⟩
    exact results_mid2 (p := 4) (u := 5) (ty := 29) rfl _ W8 (w.heap.size + 1) _ _ _ rfl rfl HRR.out Tryz.underlying29 rfl (by rw [infoPos, pc_len])
  go_wp2
  go_loopw [6] (fun v wr => ∃ (i : Nat) (Q : Nat → Int), i ≤ n ∧ v = .int .i64 (i : Int) ∧ advN P F T K i = some Q ∧ posB Q = true ∧ HO w wr Q) (fun v _ => n - (intOf v).toNat)
  case atStart => exact ⟨0, P, Nat.zero_le _, rfl, H0.out, HPS.out, HC.out⟩
  case round =>
    clear HC H0
    obtain ⟨i, Q, hi, rfl, ha, hp, hv⟩ := hrel
    have HC := Lib.hid hv
    have HA := Lib.hid ha
    have HPQ := Lib.hid hp
    clear hv ha hp
    obtain ⟨Y, hY⟩ : ∃ Y, Y = (pc Q).toArray := ⟨_, rfl⟩
    have HY := Lib.hid hY
    have hn := HNN.out
    by_cases hlt : i < n
    · have hrd := HR.out.below HC.out.b
      obtain ⟨pb, po, rfl⟩ := hrd.addr hlt
      obtain ⟨e0, e1, e2⟩ := hrd.cells hlt
      have HCE := Lib.hid (fun W (hb : Below w.heap.size w W) => (HR.out.below hb).cells hlt)
      have HYES := Lib.hid (HGO.out i Q HA.out)
      have HNON := Lib.hid (fun hl => HNO.out (i + 1) n (HEND.out i Q HA.out hl) hlt)
      generalize F i = f at *
      generalize T i = t at *
      generalize K i = k at *
      have MI := Lib.hid (fun W => rIs10_any Q f t k W)
      have MV := Lib.hid (fun W => rMove_any Q f t k W)
      rw [HPQ.out, Bool.true_and, ← hY] at MI
      obtain ⟨lb, hlb⟩ : ∃ x, legB Q f t k = x := ⟨_, rfl⟩
      obtain ⟨N, hN⟩ : ∃ x, mvP Q f t k = x := ⟨_, rfl⟩
      obtain ⟨V9, hV9⟩ : ∃ V, V = (pc N).toArray := ⟨_, rfl⟩
      rw [hlb] at MI HYES HNON
      rw [hN, ← hY, ← hV9] at MV
      have HNX := Lib.hid (show lb = true → nxP Q f.toNat t.toNat k = N ∧ posB N = true from fun h => by
        obtain ⟨s, m, e1, e2, hg⟩ := leg_nx Q HPQ.out f t k (by rw [hlb, h])
        have h3 := hg.nx
        have h4 := hg.pos
        simp only at h3 h4
        rw [← hN, e1, e2, Int.toNat_natCast, Int.toNat_natCast]
        exact ⟨h3, h4⟩)
      have HV := Lib.hid hV9
      have HVL := Lib.hid (show V9.toList = pc N by rw [hV9])
      have g0 := cell_regrown e0
      have g1 := cell_regrown e1
      have g2 := cell_regrown e2
      have HE := Lib.hid (And.intro e0 (And.intro e1 e2))
      have i0 : (0 : Int) ≤ (i : Int) := by omega
      have hlti : (i : Int) < (n : Int) := by omega
      clear e0 e1 e2 hrd hY hlb hN hV9
      go_upto_region 6 with (fail)
      have HCP := Lib.hid HC.out.p.regrown
      have c22 : ∀ dd os, Calls Tryz.prog 21 #[.agg Y, .agg #[.int .i64 f, .int .i64 t, .int .i64 k]] (grow (redrawn wr dd) os) fun e w'' => e = .returned (.bool lb) ∧ ∃ p : Regrown, w'' = grow (redrawn wr p.d) p.os := fun dd os => Calls.regrown_of (MI.out _)
      refine wp_region_quiet_below (by kernel_rfl) (by kernel_rfl) ?_
      refine wpQuiet_pos (by rfl) _ (by rfl) w.heap.size Q Y HY.out (by rfl) HCP.out ?_
      try simp only [Act.put, List.setIfInBounds_toArray, List.set_cons_zero, List.set_cons_succ]
      iterate 4 (go_big_quiet_step (fail))
      go_big_quiet_step (exact c22 _ _)
      repeat (go_big_quiet_step (fail))
      refine wpQuiet_nil ?_
      rintro W9 ⟨pq, rfl⟩
      have hb9 := below_regrown wr pq.d pq.os
      replace HC := Lib.hid (HC.out.on hb9)
      replace HE := Lib.hid (And.intro (g0 pq.d pq.os) (And.intro (g1 pq.d pq.os) (g2 pq.d pq.os)))
      clear hb9 g0 g1 g2 c22 HCP MI
      generalize grow (redrawn wr pq.d) pq.os = W9 at HC HE ⊢
      cases lb
      · have hno := HNON.out rfl
        rw [hno] at HPL HPE
        have HZ := Lib.hid (show Z = fun _ => 0 from HPL.out)
        have HE2 := Lib.hid (show er = 8 from HPE.out)
        clear HPL HPE HR HGO HEND HNO hno HYES HNON
        go_upto_region 7 with (fail)
        refine wp_region_lit ?_
        refine wpList_plain rfl (fun K hK => ?_)
        go_simp
        refine hK _ _ ?_
        clear hK K
        refine wpList_store_mid rfl 29 _ _ rfl (w.heap.size + 1) 0 (pc fun _ => 0).toArray rfl (congrArg Value.agg zeroPos) (by rw [pc_size]; exact HC.out.z.there) (by rw [infoPos, pc_size]) (pc_one _) ?_
        rw [List.toList_toArray]
        obtain ⟨hr1, hb1⟩ := HC.out.stored (Q := fun _ => 0)
        have HRR := Lib.hid hr1
        have HB := Lib.hid hb1
        clear hr1 hb1 HC
        generalize W9.setCells (w.heap.size + 1) 0 (pc fun _ => 0) = W8 at HRR HB ⊢
        refine wpList_plain rfl (fun K hK => ?_)
        go_simp
        refine hK _ _ ?_
        clear hK K
        show Exit.then _ _ Exit.normal _ _
        refine ret_go (by assumption) ?_
        repeat (first | refine then_ret ?_ | refine block_ret ?_)
        refine bodyPost_ret (v := .tuple #[.agg (pc fun _ => 0).toArray, .int .i64 8]) ?_ rfl ⟨by rw [HZ.out, HE2.out], HB.out⟩
        exact results_mid2 (p := 4) (u := 5) (ty := 29) rfl _ W8 (w.heap.size + 1) _ _ _ rfl rfl HRR.out Tryz.underlying29 rfl (by rw [infoPos, pc_len])
      · obtain ⟨hn1, hn2⟩ := HNX.out rfl
        have han := HYES.out rfl
        rw [hn1] at han
        have HAN := Lib.hid han
        have HPN := Lib.hid hn2
        clear HNX HYES HNON hn1 hn2 han HA HPQ
        clear HE
        go_upto_region 8 with (fail)
        refine wp_region_noPanic ?_
        refine wp_region_start (n := 10) (l := #[ff, ff, ff, ff, ff, ff, ff, ff, ff, ff]) (S := (fun W => Below w.heap.size w W)) (by kernel_rfl) rfl (by kernel_rfl) (by first | exact HC.out.b | exact (HC.out.on (Below.refl _ _).drew).b) (fun hHeld => ?_)
        replace HC := Lib.hid (HC.out.on (Below.refl W9.heap.size W9).drew)
        generalize W9.drew = V at *
        refine take_go (i := 1) (d := some 27) (v := ?_) (l' := #[ff, tt, ff, ff, ff, ff, ff, ff, ff, ff]) rfl rfl (Or.inl ⟨by rfl, ?_⟩) ?_; rotate_left; · (intro w' hSw; (try dsimp only at hSw); go_simp; (try with_reducible rfl))
        try simp only [Act.put, List.setIfInBounds_toArray, List.set_cons_zero, List.set_cons_succ]
        refine take_go (i := 2) (d := some 28) (v := ?_) (l' := #[ff, tt, tt, ff, ff, ff, ff, ff, ff, ff]) rfl rfl (Or.inl ⟨by rfl, ?_⟩) ?_; rotate_left; · (intro w' hSw; (try dsimp only at hSw); go_simp; (try with_reducible rfl))
        try simp only [Act.put, List.setIfInBounds_toArray, List.set_cons_zero, List.set_cons_succ]
        refine take_go (i := 3) (d := some 29) (v := ?_) (l' := #[ff, tt, tt, tt, ff, ff, ff, ff, ff, ff]) rfl rfl (Or.inl ⟨by rfl, ?_⟩) ?_; rotate_left; · (intro w' hSw; (try dsimp only at hSw); go_simp; (try with_reducible rfl))
        try simp only [Act.put, List.setIfInBounds_toArray, List.set_cons_zero, List.set_cons_succ]
        refine take_go (i := 4) (d := some 30) (v := (.agg #[.int .i64 f, .int .i64 t, .int .i64 k])) (l' := #[ff, tt, tt, tt, tt, ff, ff, ff, ff, ff]) rfl rfl ?_ ?_
        · refine Or.inl ⟨by rfl, ?_⟩; intro w' hSw; (try dsimp only at hSw); obtain ⟨e0, e1, e2⟩ := HCE.out w' hSw; go_simp
        try simp only [Act.put, List.setIfInBounds_toArray, List.set_cons_zero, List.set_cons_succ]
        refine one_to (i := 0) (l' := #[tt, tt, tt, tt, tt, ff, ff, ff, ff, ff]) rfl (by kernel_rfl) (by kernel_rfl) (fun K hK => ?_)
        refine wp_load_mid 29 _ rfl w.heap.size 0 rfl (pc Q) _ HC.out.p.range Tryz.underlying29 rfl (by rw [infoPos, pc_len]) ?_
        rw [← HY.out]
        refine hK.out _ _ (by first | exact HC.out.b | exact (HC.out.on (Below.refl _ _).drew).b) (fun hHeld => ?_)
        clear hK K
        try simp only [Act.put, List.setIfInBounds_toArray, List.set_cons_zero, List.set_cons_succ]
        refine one_to (i := 5) (l' := #[tt, tt, tt, tt, tt, tt, ff, ff, ff, ff]) rfl (by kernel_rfl) (by kernel_rfl) (fun K hK => ?_)
        go_simp
        refine (MV.out _).mono ?_
        rintro e V ⟨rfl, hb⟩
        replace HC := Lib.hid (HC.out.on hb)
        clear hb
        dsimp only
        refine hK.out _ _ (by first | exact HC.out.b | exact (HC.out.on (Below.refl _ _).drew).b) (fun hHeld => ?_)
        clear hK K
        try simp only [Act.put, List.setIfInBounds_toArray, List.set_cons_zero, List.set_cons_succ]
        refine take_go (i := 6) (d := some 25) (v := ?_) (l' := #[tt, tt, tt, tt, tt, tt, tt, ff, ff, ff]) rfl rfl (Or.inl ⟨by rfl, ?_⟩) ?_; rotate_left; · (intro w' hSw; (try dsimp only at hSw); go_simp; (try with_reducible rfl))
        try simp only [Act.put, List.setIfInBounds_toArray, List.set_cons_zero, List.set_cons_succ]
        refine take_go (i := 7) (d := some 32) (v := ?_) (l' := #[tt, tt, tt, tt, tt, tt, tt, tt, ff, ff]) rfl rfl (Or.inl ⟨by rfl, ?_⟩) ?_; rotate_left; · (intro w' hSw; (try dsimp only at hSw); go_simp; (try with_reducible rfl))
        try simp only [Act.put, List.setIfInBounds_toArray, List.set_cons_zero, List.set_cons_succ]
        refine take_go (i := 8) (d := some 33) (v := ?_) (l' := #[tt, tt, tt, tt, tt, tt, tt, tt, tt, ff]) rfl rfl (Or.inl ⟨by rfl, ?_⟩) ?_; rotate_left; · (intro w' hSw; (try dsimp only at hSw); go_simp; (try with_reducible rfl))
        try simp only [Act.put, List.setIfInBounds_toArray, List.set_cons_zero, List.set_cons_succ]
        refine one_to (i := 9) (l' := #[tt, tt, tt, tt, tt, tt, tt, tt, tt, tt]) rfl (by kernel_rfl) (by kernel_rfl) (fun K hK => ?_)
        rw [if_pos (by rfl)]
        refine wp_store_mid 29 _ _ rfl w.heap.size 0 V9 rfl rfl (by rw [HV.out, pc_size]; exact HC.out.p.there) (by rw [infoPos, HV.out, pc_size]) (by rw [HV.out]; exact pc_one _) ?_
        rw [HVL.out]
        replace HC := Lib.hid (HC.out.at N)
        generalize V.setCells w.heap.size 0 (pc N) = V at HC ⊢
        refine hK.out _ _ (by first | exact HC.out.b | exact (HC.out.on (Below.refl _ _).drew).b) (fun hHeld => ?_)
        clear hK K
        try simp only [Act.put, List.setIfInBounds_toArray, List.set_cons_zero, List.set_cons_succ]
        refine wpAnyH_done (by kernel_rfl) ?_ _
        refine NoPanic.normal ?_
        clear hHeld MV HCE
        go_wp2
        go_roundw
        case rel => exact ⟨i + 1, N, by omega, by go_num, HAN.out, HPN.out, HC.out⟩
        case measure => simp [intOf]; omega
    · obtain rfl : i = n := by omega
      have ha := HA.out
      rw [ha] at HPL HPE
      have HZ := Lib.hid (show Z = Q from HPL.out)
      have HE := Lib.hid (show er = 0 from HPE.out)
      have HYL := Lib.hid (show Y.toList = pc Q by rw [hY])
      clear HPL HPE ha hY HR HGO HEND HNO
      go_upto_region 9 with (fail)
      refine wp_region_lit ?_
      refine wpList_pos (by rfl) _ (by rfl) w.heap.size Q Y HY.out (by rfl) HC.out.p ?_
      refine wpList_store_mid rfl 29 _ _ rfl (w.heap.size + 1) 0 Y rfl rfl (by rw [HY.out, pc_size]; exact HC.out.z.there) (by rw [infoPos, HY.out, pc_size]) (by rw [HY.out]; exact pc_one _) ?_
      rw [HYL.out]
      obtain ⟨hr1, hb1⟩ := HC.out.stored (Q := Q)
      have HRR := Lib.hid hr1
      have HB := Lib.hid hb1
      clear hr1 hb1 HC
      generalize wr.setCells (w.heap.size + 1) 0 (pc Q) = W8 at HRR HB ⊢
      refine wpList_plain rfl (fun K hK => ?_)
      go_simp
      refine hK _ _ ?_
      clear hK K
      show Exit.then _ _ Exit.normal _ _
      refine ret_go (by assumption) ?_
      repeat (first | refine then_ret ?_ | refine block_ret ?_)
      refine bodyPost_ret (v := .tuple #[.agg (pc Q).toArray, .int .i64 0]) ?_ rfl ⟨by rw [HZ.out, HE.out], HB.out⟩
      exact results_mid2 (p := 4) (u := 5) (ty := 29) rfl _ W8 (w.heap.size + 1) _ _ _ rfl rfl HRR.out Tryz.underlying29 rfl (by rw [infoPos, pc_len])
end Go.Proofs.YthinkiljhkanhaaGreatDoor
