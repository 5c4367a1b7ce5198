/-
  Contracts of the document's side: Count.
-/
import Derived.Test.YthinkiljhkanhaaGreatDoorRv
import Derived.Test.YthinkiljhkanhaaGreatDoorG26
import Derived.Test.YthinkiljhkanhaaGreatDoorG23
namespace Go.Proofs.YthinkiljhkanhaaGreatDoor
open Go.RowKit Go.Sort
set_option linter.unusedSimpArgs false
set_option linter.unusedVariables false
set_option maxRecDepth 20000

def cntT (d : Nat) (P : Nat → Int) (m : Nat) : Nat := cntS d P ((legM P).take m)
theorem cntT_zero (d : Nat) (P : Nat → Int) : cntT d P 0 = 0 := by unfold cntT cntS; simp
theorem cntT_full (d : Nat) (P : Nat → Int) : cntT d P (legM P).length = cntD (d + 1) P := by unfold cntT; rw [List.take_length, cntD_succ]
theorem cntT_max (d : Nat) (hd : d ≤ 2) (P : Nat → Int) (m : Nat) : cntT d P m ≤ 5754585088000 := by
  unfold cntT
  exact cntS_max d hd P _ (Nat.le_trans (by rw [List.length_take]; omega) (legM_len P))
theorem cntT_step (d : Nat) (P : Nat → Int) (m : Nat) (h : m < (legM P).length) (s t : Nat) (k : Int) (e : (legM P)[m] = ((s : Int), (t : Int), k)) (hn : nxP P s t k = mvP P s t k) : cntT d P (m + 1) = cntT d P m + cntD d (mvP P s t k) := by
  unfold cntT
  rw [List.take_succ_eq_append_getElem h, e, cntS_snoc]
  simp only [Int.toNat_natCast]
  rw [hn]
theorem dep_min (x : Int) (d : Nat) (h : depN x = d + 1) : 1 ≤ x ∧ (if 3 < x then 3 else x) - 1 = (d : Int) ∧ d ≤ 2 := by
  unfold depN at h
  split at h
  · omega
  · split at h <;> (split <;> omega)
set_option maxHeartbeats 8000000 in
set_option maxRecDepth 100000 in
theorem rCount_low (P : Nat → Int) (x : Int) (hx : x < 1) (w : World) :
    Calls Tryz.prog 23 #[.agg (pc P).toArray, .int .i64 x] w fun e w' => e = .returned (.int .i64 ((cntP P x : Nat) : Int)) ∧ Below w.heap.size w w' := by
  obtain ⟨X, hX⟩ : ∃ X, X = (pc P).toArray := ⟨_, rfl⟩
  have MP := Lib.hid (fun W => rPosition_any P W)
  rw [← hX] at MP ⊢
  have HX := Lib.hid hX
  have HP := Lib.hid (pos_box P w X hX 29)
  have HB := Lib.hid (below_new (w := w) (.cells X 29))
  obtain ⟨ps, hps⟩ : ∃ b, posB P = b := ⟨_, rfl⟩
  rw [hps] at MP
  have hd0 : depN x = 0 := by unfold depN; rw [if_pos hx]
  have HV := Lib.hid (show cntP P x = if ps then 1 else 0 by unfold cntP; rw [hps, hd0]; rfl)
  clear hX hps hd0
  go_enter Tryz.func23, Tryz.ntmps23
  go_upto_region 1 with (fail)
  generalize w.alloc (.cells X 29) = W at *
  go_wp2_with (refine wpList_pos (by rfl) _ (by rfl) w.heap.size P X HX.out (by rfl) HP.out ?_)
  refine (MP.out _).mono ?_
  rintro e w1 ⟨rfl, hb⟩
  replace HB := Lib.hid (HB.out.trans (hb.mono HB.out.size))
  clear hb MP HP
  dsimp only
  refine list_go (by assumption) ?_
  cases ps
  · go_wp2
    go_ret
    exact ⟨by rw [HV.out]; rfl, HB.out⟩
  · go_wp2
    go_ret
    exact ⟨by rw [HV.out]; rfl, HB.out⟩
set_option maxHeartbeats 8000000 in
set_option maxRecDepth 100000 in
theorem rCount_step (d : Nat) (ih : ∀ P w, posB P = true → Calls Tryz.prog 23 #[.agg (pc P).toArray, .int .i64 (d : Int)] w fun e w' => e = .returned (.int .i64 ((cntD d P : Nat) : Int)) ∧ Below w.heap.size w w')
    (P : Nat → Int) (x : Int) (hx : depN x = d + 1) (w : World) :
    Calls Tryz.prog 23 #[.agg (pc P).toArray, .int .i64 x] w fun e w' => e = .returned (.int .i64 ((cntP P x : Nat) : Int)) ∧ Below w.heap.size w w' := by
  obtain ⟨X, hX⟩ : ∃ X, X = (pc P).toArray := ⟨_, rfl⟩
  have MP := Lib.hid (fun W => rPosition_any P W)
  have MM := Lib.hid (fun W => rMoves10_any P W)
  rw [← hX] at MP MM ⊢
  have HX := Lib.hid hX
  have HP := Lib.hid (pos_box P w X hX 29)
  have HB := Lib.hid (below_new (w := w) (.cells X 29))
  obtain ⟨ps, hps⟩ : ∃ b, posB P = b := ⟨_, rfl⟩
  rw [hps] at MP
  obtain ⟨hx1, hx2, hx3⟩ := dep_min x d hx
  have HV := Lib.hid (show cntP P x = if ps then cntD (d + 1) P else 0 by unfold cntP; rw [hps, hx])
  have HLM := Lib.hid (show ps = true → lmM P = legM P from fun h => by unfold lmM; rw [hps, h]; rfl)
  have HPS := Lib.hid (show ps = true → posB P = true from fun h => by rw [hps, h])
  have IH := Lib.hid ih
  obtain ⟨mn, hmn⟩ : ∃ m : Int, (if 3 < x then 3 else x) = m := ⟨_, rfl⟩
  rw [hmn] at hx2
  have HMN := Lib.hid hmn
  have HMI := Lib.hid (show min x (3 : Int) = mn by rw [← hmn]; split <;> omega)
  have HMN2 := Lib.hid (show (if x < 3 then x else 3) = mn by rw [← hmn]; (repeat' split) <;> omega)
  have HW := Lib.hid (show wrap64 (mn - 1) = (d : Int) by rw [hx2]; unfold wrap64; omega)
  have HWW := Lib.hid hx2
  have hxn : ¬ x < 1 := by omega
  have HD := Lib.hid hx3
  clear hX hps hx ih hmn hx2 hx3 hx1
  go_enter Tryz.func23, Tryz.ntmps23
  go_upto_region 1 with (fail)
  generalize w.alloc (.cells X 29) = W at *
  go_wp2_with (refine wpList_pos (by rfl) _ (by rfl) w.heap.size P X HX.out (by rfl) HP.out ?_)
  refine (MP.out _).mono ?_
  rintro e w1 ⟨rfl, hb⟩
  replace HP := Lib.hid (HP.out.go hb)
  replace HB := Lib.hid (HB.out.trans (hb.mono HB.out.size))
  clear hb MP
  dsimp only
  refine list_go (by assumption) ?_
  cases ps
  · go_wp2
    go_ret
    exact ⟨by rw [HV.out]; rfl, HB.out⟩
  have HL := Lib.hid (HLM.out rfl)
  have HQ := Lib.hid (HPS.out rfl)
  rw [HL.out] at MM
  replace HV := Lib.hid (show cntP P x = cntD (d + 1) P from HV.out)
  clear HLM HPS HL
  go_wp2_with (refine wpList_pos (by rfl) _ (by rfl) w.heap.size P X HX.out (by rfl) HP.out ?_)
  refine (MM.out _).mono ?_
  rintro e w2 ⟨v, rfl, hb, hown⟩
  obtain ⟨p, c, rfl, hr⟩ := reads3_own hown
  replace HP := Lib.hid (HP.out.go hb)
  replace HB := Lib.hid (HB.out.trans (hb.mono HB.out.size))
  have hnb := legM_len P
  have HFULL := Lib.hid (cntT_full d P)
  have HZ := Lib.hid (cntT_zero d P)
  have HMAX := Lib.hid (fun m => cntT_max d HD.out P m)
  have HAT := Lib.hid (fun m h => leg_at P HQ.out m h)
  have HST := Lib.hid (fun m h s t k e hn => cntT_step d P m h s t k e hn)
  obtain ⟨n, hn⟩ : ∃ n, (legM P).length = n := ⟨_, rfl⟩
  rw [hn] at hr hnb HFULL ⊢
  have HN := Lib.hid hn
  have HR := Lib.hid hr
  clear hb MM hown hr hn
  dsimp only
  refine list_go (by assumption) ?_
  go_wp2
  go_loopw [5, 7] (fun sv iv wr => ∃ m : Nat, m ≤ n ∧ iv = .int .i64 (m : Int) ∧ sv = .int .i64 ((cntT d P m : Nat) : Int) ∧ Below w2.heap.size w2 wr) (fun _ iv _ => n - (intOf iv).toNat)
  case atStart => exact ⟨0, Nat.zero_le _, rfl, by rw [HZ.out]; rfl, Below.refl _ _⟩
  case round =>
    obtain ⟨m, hm, rfl, rfl, hb⟩ := hrel
    have HI := Lib.hid hb
    clear hb
    by_cases hlt : m < n
    · obtain ⟨s, t, k, q1, q2, q3, hg, hel⟩ := HAT.out m (by rw [HN.out]; exact hlt)
      have hstep := HST.out m (by rw [HN.out]; exact hlt) s t k hel hg.nx
      have hmx := HMAX.out (m + 1)
      have hmx0 := HMAX.out m
      have MV := Lib.hid (fun W => rMove_any P (s : Int) (t : Int) k W)
      have hfl := hg.x.flt
      have hpos := hg.pos
      simp only at hfl hpos
      obtain ⟨N, hN⟩ : ∃ x, mvP P (s : Int) (t : Int) k = x := ⟨_, rfl⟩
      obtain ⟨V9, hV9⟩ : ∃ V, V = (pc N).toArray := ⟨_, rfl⟩
      rw [hfl, hN, ← HX.out, ← hV9] at MV
      rw [hN] at hstep hpos
      have IHN := Lib.hid (fun W => IH.out N W hpos)
      obtain ⟨cs, hcs⟩ : ∃ z : Int, ((cntT d P m : Nat) : Int) = z := ⟨_, rfl⟩
      obtain ⟨cn, hcn⟩ : ∃ z : Int, ((cntD d N : Nat) : Int) = z := ⟨_, rfl⟩
      obtain ⟨cs2, hcs2⟩ : ∃ z : Int, ((cntT d P (m + 1) : Nat) : Int) = z := ⟨_, rfl⟩
      have hA : wrap64 (cs + cn) = cs2 := by unfold wrap64; omega
      rw [hcn, ← hV9] at IHN
      rw [hcs]
      have HA := Lib.hid hA
      have HCS2 := Lib.hid hcs2
      have hrd := HR.out.below HI.out
      obtain ⟨pb, po, rfl⟩ := hrd.addr hlt
      have HCE := Lib.hid (show ∀ W, Below w2.heap.size w2 W → W.cell? ⟨pb, po + m * 3, none⟩ = some (.int .i64 (s : Int)) ∧ W.cell? ⟨pb, po + m * 3 + 1, none⟩ = some (.int .i64 (t : Int)) ∧ W.cell? ⟨pb, po + m * 3 + 2, none⟩ = some (.int .i64 k) from fun W hb => by
        have := (HR.out.below hb).cells hlt
        rw [q1, q2, q3] at this
        exact this)
      have HPW := Lib.hid (show ∀ W, Below w2.heap.size w2 W → PB W w.heap.size P from fun W hb => HP.out.go hb)
      have HV := Lib.hid hV9
      have HVL := Lib.hid (show V9.toList = pc N by rw [hV9])
      have i0 : (0 : Int) ≤ (m : Int) := by omega
      have hlti : (m : Int) < (n : Int) := by omega
      clear q1 q2 q3 hg hel hstep hmx hmx0 hfl hpos hN hV9 hcs hcn hcs2 hA hrd
      go_upto_region 10 with (fail)
      go_cut [8, 9] from 23 to 31 (fun v8 v9 wx => ∃ H, v8 = .pointer (some ⟨H, 0, none⟩) ∧ v9 = .int .i64 0 ∧ PB wx H N ∧ Below w2.heap.size w2 wx)
      case first =>
        refine wp_region_noPanic ?_
        refine wp_region_start (n := 12) (l := #[ff, ff, ff, ff, ff, ff, ff, ff, ff, ff, ff, ff]) (S := (fun W => Below w2.heap.size w2 W)) (by kernel_rfl) rfl (by kernel_rfl) (by first | exact HI.out | exact HI.out.drew) (fun hHeld => ?_)
        replace HI := Lib.hid (show Below w2.heap.size w2 wr.drew from HI.out.drew)
        generalize wr.drew = V at hHeld HI ⊢
        refine take_go (i := 0) (d := some 24) (v := (.agg X)) (l' := #[tt, ff, ff, ff, ff, ff, ff, ff, ff, ff, ff, ff]) rfl rfl ?_ ?_
        · exact yields_posC (by rfl) _ (by rfl) w.heap.size P X HX.out (by rfl) (fun W h => HPW.out W h)
        try simp only [Act.put, List.setIfInBounds_toArray, List.set_cons_zero, List.set_cons_succ]
        refine take_go (i := 1) (d := some 25) (v := ?_) (l' := #[tt, tt, ff, ff, ff, ff, ff, ff, ff, ff, ff, ff]) rfl rfl (Or.inl ⟨by rfl, ?_⟩) ?_; rotate_left; · (intro w' hSw; (try dsimp only at hSw); go_simp; (try with_reducible rfl))
        try simp only [Act.put, List.setIfInBounds_toArray, List.set_cons_zero, List.set_cons_succ]
        refine take_go (i := 2) (d := some 26) (v := ?_) (l' := #[tt, tt, tt, ff, ff, ff, ff, ff, ff, ff, ff, ff]) rfl rfl (Or.inl ⟨by rfl, ?_⟩) ?_; rotate_left; · (intro w' hSw; (try dsimp only at hSw); go_simp; (try with_reducible rfl))
        try simp only [Act.put, List.setIfInBounds_toArray, List.set_cons_zero, List.set_cons_succ]
        refine take_go (i := 3) (d := some 27) (v := ?_) (l' := #[tt, tt, tt, tt, ff, ff, ff, ff, ff, ff, ff, ff]) rfl rfl (Or.inl ⟨by rfl, ?_⟩) ?_; rotate_left; · (intro w' hSw; (try dsimp only at hSw); go_simp; (try with_reducible rfl))
        try simp only [Act.put, List.setIfInBounds_toArray, List.set_cons_zero, List.set_cons_succ]
        refine take_go (i := 4) (d := some 28) (v := (.agg #[.int .i64 (s : Int), .int .i64 (t : Int), .int .i64 k])) (l' := #[tt, tt, tt, tt, tt, ff, ff, ff, ff, ff, ff, ff]) rfl rfl ?_ ?_
        · refine Or.inl ⟨by rfl, ?_⟩; intro w' hSw; (try dsimp only at hSw); obtain ⟨e0, e1, e2⟩ := HCE.out w' hSw; go_simp
        try simp only [Act.put, List.setIfInBounds_toArray, List.set_cons_zero, List.set_cons_succ]
        refine two_to (i := 5) (j := 9) (l1 := #[tt, tt, tt, tt, tt, tt, ff, ff, ff, ff, ff, ff]) (l2 := #[tt, tt, tt, tt, tt, ff, ff, ff, ff, tt, ff, ff]) rfl rfl (by kernel_rfl) (by kernel_rfl) (by kernel_rfl) (fun K hK => ?_) (fun K hK => ?_)
        · skip
          go_simp
          refine (MV.out _).mono ?_
          rintro e V ⟨rfl, hb⟩
          replace HI := Lib.hid (HI.out.trans (hb.mono HI.out.size))
          try replace HZB := Lib.hid (HZB.out.go hb)
          clear hb
          dsimp only
          refine hK.out _ _ (by first | exact HI.out | exact HI.out.drew) (fun hHeld => ?_)
          clear hK K
          try simp only [Act.put, List.setIfInBounds_toArray, List.set_cons_zero, List.set_cons_succ]
          refine take_go (i := 6) (d := some 23) (v := ?_) (l' := #[tt, tt, tt, tt, tt, tt, tt, ff, ff, ff, ff, ff]) rfl rfl (Or.inl ⟨by rfl, ?_⟩) ?_; rotate_left; · (intro w' hSw; (try dsimp only at hSw); go_simp; (try with_reducible rfl))
          try simp only [Act.put, List.setIfInBounds_toArray, List.set_cons_zero, List.set_cons_succ]
          refine take_go (i := 7) (d := some 30) (v := ?_) (l' := #[tt, tt, tt, tt, tt, tt, tt, tt, ff, ff, ff, ff]) rfl rfl (Or.inl ⟨by rfl, ?_⟩) ?_; rotate_left; · (intro w' hSw; (try dsimp only at hSw); go_simp; (try with_reducible rfl))
          try simp only [Act.put, List.setIfInBounds_toArray, List.set_cons_zero, List.set_cons_succ]
          refine take_go (i := 8) (d := some 31) (v := ?_) (l' := #[tt, tt, tt, tt, tt, tt, tt, tt, tt, ff, ff, ff]) rfl rfl (Or.inl ⟨by rfl, ?_⟩) ?_; rotate_left; · (intro w' hSw; (try dsimp only at hSw); go_simp; (try with_reducible rfl))
          try simp only [Act.put, List.setIfInBounds_toArray, List.set_cons_zero, List.set_cons_succ]
          refine one_to (i := 9) (l' := #[tt, tt, tt, tt, tt, tt, tt, tt, tt, tt, ff, ff]) rfl (by kernel_rfl) (by kernel_rfl) (fun K hK => ?_)
          go_simp
          have HZB := Lib.hid (show PB (V.alloc (.cells Tryz.zeroCells29 29)) V.heap.size (fun _ => 0) by rw [zeroPos]; exact PB.new rfl)
          have HHL := Lib.hid (show w2.heap.size ≤ V.heap.size from HI.out.size)
          replace HI := Lib.hid (HI.out.alloc HI.out.size (.cells Tryz.zeroCells29 29))
          generalize V.heap.size = H at HZB HHL ⊢
          generalize V.alloc (.cells Tryz.zeroCells29 29) = V at HZB HI ⊢
          refine hK.out _ _ (by first | exact HI.out | exact HI.out.drew) (fun hHeld => ?_)
          clear hK K
          try simp only [Act.put, List.setIfInBounds_toArray, List.set_cons_zero, List.set_cons_succ]
          refine one_to (i := 10) (l' := #[tt, tt, tt, tt, tt, tt, tt, tt, tt, tt, tt, ff]) rfl (by kernel_rfl) (by kernel_rfl) (fun K hK => ?_)
          rw [if_pos (by rfl)]
          refine wp_store_mid 29 _ _ rfl H 0 V9 rfl rfl (by rw [HV.out, pc_size]; exact HZB.out.there) (by rw [infoPos, HV.out, pc_size]) (by rw [HV.out]; exact pc_one _) ?_
          rw [HVL.out]
          have HNB := Lib.hid (HZB.out.store (Q := N))
          replace HI := Lib.hid (below_store (b := H) N HI.out HHL.out HI.out.size)
          generalize V.setCells H 0 (pc N) = V at HNB HI ⊢
          refine hK.out _ _ (by first | exact HI.out | exact HI.out.drew) (fun hHeld => ?_)
          clear hK K
          try simp only [Act.put, List.setIfInBounds_toArray, List.set_cons_zero, List.set_cons_succ]
          refine take_go (i := 11) (d := some 9) (v := ?_) (l' := #[tt, tt, tt, tt, tt, tt, tt, tt, tt, tt, tt, tt]) rfl rfl (Or.inl ⟨by rfl, ?_⟩) ?_; rotate_left; · (intro w' hSw; (try dsimp only at hSw); go_simp; (try with_reducible rfl))
          try simp only [Act.put, List.setIfInBounds_toArray, List.set_cons_zero, List.set_cons_succ]
          refine wpAnyH_done (by kernel_rfl) ?_ _
          refine NoPanic.normal ?_
          clear hHeld
          go_wp2_with fail
          go_meet
          exact ⟨H, rfl, rfl, HNB.out, HI.out⟩
        · skip
          go_simp
          have HZB := Lib.hid (show PB (V.alloc (.cells Tryz.zeroCells29 29)) V.heap.size (fun _ => 0) by rw [zeroPos]; exact PB.new rfl)
          have HHL := Lib.hid (show w2.heap.size ≤ V.heap.size from HI.out.size)
          replace HI := Lib.hid (HI.out.alloc HI.out.size (.cells Tryz.zeroCells29 29))
          generalize V.heap.size = H at HZB HHL ⊢
          generalize V.alloc (.cells Tryz.zeroCells29 29) = V at HZB HI ⊢
          refine hK.out _ _ (by first | exact HI.out | exact HI.out.drew) (fun hHeld => ?_)
          clear hK K
          try simp only [Act.put, List.setIfInBounds_toArray, List.set_cons_zero, List.set_cons_succ]
          refine one_to (i := 5) (l' := #[tt, tt, tt, tt, tt, tt, ff, ff, ff, tt, ff, ff]) rfl (by kernel_rfl) (by kernel_rfl) (fun K hK => ?_)
          go_simp
          refine (MV.out _).mono ?_
          rintro e V ⟨rfl, hb⟩
          replace HI := Lib.hid (HI.out.trans (hb.mono HI.out.size))
          try replace HZB := Lib.hid (HZB.out.go hb)
          clear hb
          dsimp only
          refine hK.out _ _ (by first | exact HI.out | exact HI.out.drew) (fun hHeld => ?_)
          clear hK K
          try simp only [Act.put, List.setIfInBounds_toArray, List.set_cons_zero, List.set_cons_succ]
          refine take_go (i := 6) (d := some 23) (v := ?_) (l' := #[tt, tt, tt, tt, tt, tt, tt, ff, ff, tt, ff, ff]) rfl rfl (Or.inl ⟨by rfl, ?_⟩) ?_; rotate_left; · (intro w' hSw; (try dsimp only at hSw); go_simp; (try with_reducible rfl))
          try simp only [Act.put, List.setIfInBounds_toArray, List.set_cons_zero, List.set_cons_succ]
          refine take_go (i := 7) (d := some 30) (v := ?_) (l' := #[tt, tt, tt, tt, tt, tt, tt, tt, ff, tt, ff, ff]) rfl rfl (Or.inl ⟨by rfl, ?_⟩) ?_; rotate_left; · (intro w' hSw; (try dsimp only at hSw); go_simp; (try with_reducible rfl))
          try simp only [Act.put, List.setIfInBounds_toArray, List.set_cons_zero, List.set_cons_succ]
          refine take_go (i := 8) (d := some 31) (v := ?_) (l' := #[tt, tt, tt, tt, tt, tt, tt, tt, tt, tt, ff, ff]) rfl rfl (Or.inl ⟨by rfl, ?_⟩) ?_; rotate_left; · (intro w' hSw; (try dsimp only at hSw); go_simp; (try with_reducible rfl))
          try simp only [Act.put, List.setIfInBounds_toArray, List.set_cons_zero, List.set_cons_succ]
          refine one_to (i := 10) (l' := #[tt, tt, tt, tt, tt, tt, tt, tt, tt, tt, tt, ff]) rfl (by kernel_rfl) (by kernel_rfl) (fun K hK => ?_)
          rw [if_pos (by rfl)]
          refine wp_store_mid 29 _ _ rfl H 0 V9 rfl rfl (by rw [HV.out, pc_size]; exact HZB.out.there) (by rw [infoPos, HV.out, pc_size]) (by rw [HV.out]; exact pc_one _) ?_
          rw [HVL.out]
          have HNB := Lib.hid (HZB.out.store (Q := N))
          replace HI := Lib.hid (below_store (b := H) N HI.out HHL.out HI.out.size)
          generalize V.setCells H 0 (pc N) = V at HNB HI ⊢
          refine hK.out _ _ (by first | exact HI.out | exact HI.out.drew) (fun hHeld => ?_)
          clear hK K
          try simp only [Act.put, List.setIfInBounds_toArray, List.set_cons_zero, List.set_cons_succ]
          refine take_go (i := 11) (d := some 9) (v := ?_) (l' := #[tt, tt, tt, tt, tt, tt, tt, tt, tt, tt, tt, tt]) rfl rfl (Or.inl ⟨by rfl, ?_⟩) ?_; rotate_left; · (intro w' hSw; (try dsimp only at hSw); go_simp; (try with_reducible rfl))
          try simp only [Act.put, List.setIfInBounds_toArray, List.set_cons_zero, List.set_cons_succ]
          refine wpAnyH_done (by kernel_rfl) ?_ _
          refine NoPanic.normal ?_
          clear hHeld
          go_wp2_with fail
          go_meet
          exact ⟨H, rfl, rfl, HNB.out, HI.out⟩
      case rest =>
      obtain ⟨H, rfl, rfl, h1, h2⟩ := hcut
      have HPN := Lib.hid h1
      replace HI := Lib.hid h2
      clear h1 h2 MV HCE
      go_wp2_with (refine wpList_pos (by rfl) _ (by rfl) H N V9 HV.out (by rfl) HPN.out ?_)
      first | rw [HMI.out] | rw [HMN.out] | rw [HMN2.out]
      first | rw [HW.out] | rw [HWW.out]
      refine (IHN.out _).mono ?_
      rintro e w5 ⟨rfl, hb⟩
      replace HI := Lib.hid (HI.out.trans (hb.mono HI.out.size))
      have hA := HA.out
      clear hb HPN IHN
      dsimp only
      refine list_go (by assumption) ?_
      go_wp2
      go_roundw
      case rel => exact ⟨m + 1, by omega, by go_num, by rw [HCS2.out]; first | rw [HA.out] | rfl, HI.out⟩
      case measure => simp [intOf]; omega
    · obtain rfl : m = n := by omega
      rw [HFULL.out]
      go_wp2
      go_ret
      exact ⟨by rw [HV.out]; rfl, HB.out.trans (HI.out.mono HB.out.size)⟩
theorem rCount_at (d : Nat) : d ≤ 3 → ∀ P x w, depN x = d → Calls Tryz.prog 23 #[.agg (pc P).toArray, .int .i64 x] w fun e w' => e = .returned (.int .i64 ((cntP P x : Nat) : Int)) ∧ Below w.heap.size w w' := by
  induction d with
  | zero =>
    intro _ P x w hx
    refine rCount_low P x ?_ w
    unfold depN at hx
    split at hx
    · assumption
    · split at hx <;> omega
  | succ d ih =>
    intro hd P x w hx
    refine rCount_step d (fun P w hp => ?_) P x hx w
    have hdd : depN (d : Int) = d := by unfold depN; (repeat' split) <;> omega
    have h := ih (by omega) P (d : Int) w hdd
    have e : cntP P (d : Int) = cntD d P := by unfold cntP; rw [hp, hdd]; rfl
    rw [e] at h
    exact h
theorem rCount_any (P : Nat → Int) (x : Int) (w : World) :
    Calls Tryz.prog 23 #[.agg (pc P).toArray, .int .i64 x] w fun e w' => e = .returned (.int .i64 ((cntP P x : Nat) : Int)) ∧ Below w.heap.size w w' :=
  rCount_at (depN x) (by unfold depN; (repeat' split) <;> omega) P x w rfl
end Go.Proofs.YthinkiljhkanhaaGreatDoor
