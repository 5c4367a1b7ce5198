/-
  DeadEnds.
-/
import Derived.Test.YtkdhkljnpalajaaJi
namespace Go.Proofs.Ytkdhkljnpalajaa
open Go.RowKit Go.Sort
set_option linter.unusedSimpArgs false
set_option linter.unusedVariables false
set_option maxRecDepth 20000

theorem wpQuiet_skip {P : Program} {ops : Array Oper} {C : World → Prop} {Q : Act → Prop} {rest : List Oper} {o : Oper} {a : Act} (hw : Region.wanted o (yielded ops a.tmps) = false) (h : wpQuiet P ops C Q rest (a.put o.dst undef)) : wpQuiet P ops C Q (o :: rest) a := by
  unfold wpQuiet
  rw [if_neg (by rw [hw]; exact Bool.false_ne_true)]
  exact h
/-- the squares on which pieces stand -/
def spN (i : Nat) : Nat := [0, 1, 9, 10, 63, 62].getD i 0
theorem spN_lt (i : Nat) : spN i < 64 := by
  unfold spN
  rcases (show i = 0 ∨ i = 1 ∨ i = 2 ∨ i = 3 ∨ i = 4 ∨ i = 5 ∨ 6 ≤ i by omega) with rfl | rfl | rfl | rfl | rfl | rfl | h
  all_goals first | (decide) | (rw [List.getD_eq_getElem?_getD, List.getElem?_eq_none (by simpa using h)]; decide)
/-- the spots' row -/
def SB (W : World) (b : Nat) : Prop := W.heap[b]? = some (.cells #[.int .i64 0, .int .i64 1, .int .i64 9, .int .i64 10, .int .i64 63, .int .i64 62] 3 (0, 0))
theorem SB.go {W W' : World} {b : Nat} (h : SB W b) (g : Below W.heap.size W W') : SB W' b := sl_go h g
theorem SB.at {W : World} {b : Nat} (h : SB W b) (i : Nat) (hi : i < 6) : W.cell? ⟨b, i, none⟩ = some (.int .i64 (spN i : Int)) := by
  rw [cell_of_row W b i _ _ (0, 0) h]
  rcases (show i = 0 ∨ i = 1 ∨ i = 2 ∨ i = 3 ∨ i = 4 ∨ i = 5 by omega) with rfl | rfl | rfl | rfl | rfl | rfl <;> rfl
set_option maxHeartbeats 8000000 in
set_option maxRecDepth 100000 in
theorem deadEnds_any (w : World) :
    Calls Try.prog 4 #[] w fun e w' => e = .returned (.bool true) ∧ Below w.heap.size w w' := by
  go_enter Try.func4, Try.ntmps4
  go_upto_region 2 with (fail)
  refine forget_B (fun W => SB W w.heap.size ∧ Below w.heap.size w W) ⟨sl_at rfl, below_new _⟩ ?_
  rintro W ⟨h1, h2⟩
  have HS := Lib.hid h1
  have HB := Lib.hid h2
  clear h1 h2
  go_wp2
  go_loopw [2] (fun i wr => ∃ j : Nat, j ≤ 3600 ∧ i = .int .i64 (j : Int) ∧ SB wr w.heap.size ∧ Below w.heap.size w wr) (fun i _ => 3600 - (intOf i).toNat)
  case atStart => exact ⟨0, Nat.zero_le _, rfl, HS.out, HB.out⟩
  case round =>
    clear HS HB
    obtain ⟨j, hj, rfl, h1, h2⟩ := hrel
    have HS := Lib.hid h1
    have HB := Lib.hid h2
    clear h1 h2
    by_cases hlt : j < 3600
    · have m1 : (j : Int).tmod 10 = ((j % 10 : Nat) : Int) := by rw [Int.tmod_eq_emod_of_nonneg (by omega)]; omega
      have d1 : (j : Int).tdiv 10 = ((j / 10 : Nat) : Int) := by rw [Int.tdiv_eq_ediv_of_nonneg (by omega)]; omega
      have m2 : ((j / 10 : Nat) : Int).tmod 10 = ((j / 10 % 10 : Nat) : Int) := by rw [Int.tmod_eq_emod_of_nonneg (by omega)]; omega
      have d2 : (j : Int).tdiv 100 = ((j / 100 : Nat) : Int) := by rw [Int.tdiv_eq_ediv_of_nonneg (by omega)]; omega
      have m3 : ((j / 100 : Nat) : Int).tmod 6 = ((j / 100 % 6 : Nat) : Int) := by rw [Int.tmod_eq_emod_of_nonneg (by omega)]; omega
      have d3 : (j : Int).tdiv 600 = ((j / 600 : Nat) : Int) := by rw [Int.tdiv_eq_ediv_of_nonneg (by omega)]; omega
      have m4 : (j : Int).tmod 37 = ((j % 37 : Nat) : Int) := by rw [Int.tmod_eq_emod_of_nonneg (by omega)]; omega
      have m1' : (j : Int) % 10 = ((j % 10 : Nat) : Int) := by omega
      have d1' : (j : Int) / 10 = ((j / 10 : Nat) : Int) := by omega
      have m2' : ((j / 10 : Nat) : Int) % 10 = ((j / 10 % 10 : Nat) : Int) := by omega
      have d2' : (j : Int) / 100 = ((j / 100 : Nat) : Int) := by omega
      have m3' : ((j / 100 : Nat) : Int) % 6 = ((j / 100 % 6 : Nat) : Int) := by omega
      have d3' : (j : Int) / 600 = ((j / 600 : Nat) : Int) := by omega
      have m4' : (j : Int) % 37 = ((j % 37 : Nat) : Int) := by omega
      have hna : j % 10 < 10 := by omega
      have hnb : j / 10 % 10 < 10 := by omega
      have hns : j / 100 % 6 < 6 := by omega
      have hnt : j / 600 < 6 := by omega
      generalize j / 600 = nt at d3 d3' hnt
      generalize j / 100 % 6 = ns at m3 m3' hns
      generalize j / 10 % 10 = nb at m2 m2' hnb
      generalize j % 10 = na at m1 m1' hna
      have hj2 : j / 100 < 100 := by omega
      have hj1 : j / 10 < 1000 := by omega
      generalize j / 100 = e2 at d2 d2' m3 m3' hj2
      generalize j / 10 = e1 at d1 d1' m2 m2' hj1
      generalize j % 37 = r at m4 m4'
      have he2 : (e2 : Int) < 100 := by omega
      have he1 : (e1 : Int) < 1000 := by omega
      have w1 : IntKind.i64.wrap (e1 : Int) = (e1 : Int) := IntWalk.i64_in _ (by omega)
      have w2 : IntKind.i64.wrap (e2 : Int) = (e2 : Int) := IntWalk.i64_in _ (by omega)
      have w3 : IntKind.i64.wrap (nt : Int) = (nt : Int) := IntWalk.i64_in _ (by omega)
      clear he1 he2 hj1 hj2
      have i1 : (0 : Int) ≤ (ns : Int) := by omega
      have i2 : (ns : Int) < 6 := by omega
      have i3 : (0 : Int) ≤ (nt : Int) := by omega
      have i4 : (nt : Int) < 6 := by omega
      go_upto_region 6 with (fail)
      clear w1 m1 m2 d1 m1' m2' d1'
      obtain ⟨ka, hka⟩ : ∃ a : Int, (na : Int) - 1 = a := ⟨_, rfl⟩
      obtain ⟨kb, hkb⟩ : ∃ a : Int, (nb : Int) - 1 = a := ⟨_, rfl⟩
      rw [hka, hkb]
      obtain ⟨kr, hkr⟩ : ∃ r, wr.heap.size = r := ⟨_, rfl⟩
      refine forget_B (fun W => SB W w.heap.size ∧ W.heap[kr]? = some (.cells #[.int .i64 ka, .int .i64 kb] 22 (0, 0)) ∧ Below w.heap.size w W) ⟨HS.out.go (below_new _), sl_at hkr.symm, HB.out.alloc HB.out.size _⟩ ?_
      rw [hkr]
      clear HS HB hkr hka hkb
      rintro V0 ⟨h1, h2, h3⟩
      have HS := Lib.hid h1
      have HK := Lib.hid h2
      have HB := Lib.hid h3
      clear h1 h2 h3
      have hj36 : decide ((j : Int) < 3600) = true := decide_eq_true (by omega)
      rw [hj36]
      go_cut [4] from 22 to 33 (fun v wx => ∃ s2, v = .slice (some ⟨s2, 0, none⟩) 2 2 ∧ SB wx w.heap.size ∧ wx.heap[kr]? = some (.cells #[.int .i64 ka, .int .i64 kb] 22 (0, 0)) ∧ wx.heap[s2]? = some (.cells #[.int .i64 (spN ns : Int), .int .i64 (spN nt : Int)] 3 (0, 0)) ∧ Below w.heap.size w wx)
      case first =>
        refine wp_region_noPanic ?_
        refine wp_region_start (n := 13) (l := #[false, false, false, false, false, false, false, false, false, false, false, false, false]) (S := (fun W => SB W w.heap.size)) (by kernel_rfl) rfl (by kernel_rfl) (by first | exact HS.out | exact (HS.out.go (Below.refl _ _).drew)) (fun hHeld => ?_)
        replace HS := Lib.hid (HS.out.go (Below.refl _ _).drew)
        replace HK := Lib.hid (sl_go HK.out (Below.refl _ _).drew)
        replace HB := Lib.hid HB.out.drew
        generalize World.drew _ = V at hHeld HS HK HB ⊢
        refine take_to (i := 0) (d := some 22) (v := ?_) (l' := #[true, false, false, false, false, false, false, false, false, false, false, false, false]) rfl rfl (by kernel_rfl) (by kernel_rfl) (by kernel_rfl) (by kernel_rfl) (fun _ _ _ h => h) (Or.inl ⟨by rfl, ?_⟩) (by assumption) ?_; rotate_left; · (intro w' hSw; (try dsimp only at hSw); go_simp; (try with_reducible rfl))
        try simp only [Act.put, List.setIfInBounds_toArray, List.set_cons_zero, List.set_cons_succ]
        refine take_to (i := 1) (d := some 23) (v := ?_) (l' := #[true, true, false, false, false, false, false, false, false, false, false, false, false]) rfl rfl (by kernel_rfl) (by kernel_rfl) (by kernel_rfl) (by kernel_rfl) (fun _ _ _ h => h) (Or.inl ⟨by rfl, ?_⟩) (by assumption) ?_; rotate_left; · (intro w' hSw; (try dsimp only at hSw); go_simp; (try with_reducible rfl))
        try simp only [Act.put, List.setIfInBounds_toArray, List.set_cons_zero, List.set_cons_succ]
        refine take_to (i := 2) (d := some 24) (v := ?_) (l' := #[true, true, true, false, false, false, false, false, false, false, false, false, false]) rfl rfl (by kernel_rfl) (by kernel_rfl) (by kernel_rfl) (by kernel_rfl) (fun _ _ _ h => h) (Or.inl ⟨by rfl, ?_⟩) (by assumption) ?_; rotate_left; · (intro w' hSw; (try dsimp only at hSw); go_simp; (try with_reducible rfl))
        try simp only [Act.put, List.setIfInBounds_toArray, List.set_cons_zero, List.set_cons_succ]
        refine take_to (i := 3) (d := some 25) (v := ?_) (l' := #[true, true, true, true, false, false, false, false, false, false, false, false, false]) rfl rfl (by kernel_rfl) (by kernel_rfl) (by kernel_rfl) (by kernel_rfl) (fun _ _ _ h => h) (Or.inl ⟨by rfl, ?_⟩) (by assumption) ?_; rotate_left; · (intro w' hSw; (try dsimp only at hSw); go_simp; (try with_reducible rfl))
        try simp only [Act.put, List.setIfInBounds_toArray, List.set_cons_zero, List.set_cons_succ]
        refine take_to (i := 4) (d := some 26) (v := ?_) (l' := #[true, true, true, true, true, false, false, false, false, false, false, false, false]) rfl rfl (by kernel_rfl) (by kernel_rfl) (by kernel_rfl) (by kernel_rfl) (fun _ _ _ h => h) (Or.inl ⟨by rfl, ?_⟩) (by assumption) ?_; rotate_left; · (intro w' hSw; (try dsimp only at hSw); go_simp; (try with_reducible rfl))
        try simp only [Act.put, List.setIfInBounds_toArray, List.set_cons_zero, List.set_cons_succ]
        refine take_to (i := 5) (d := some 27) (v := (.int .i64 (spN ns : Int))) (l' := #[true, true, true, true, true, true, false, false, false, false, false, false, false]) rfl rfl (by kernel_rfl) (by kernel_rfl) (by kernel_rfl) (by kernel_rfl) (fun _ _ _ h => h) ?_ (by assumption) ?_
        · refine Or.inl ⟨by rfl, ?_⟩; intro w' hSw; (try dsimp only at hSw); have q1 := hSw.at ns hns; go_simp
        try simp only [Act.put, List.setIfInBounds_toArray, List.set_cons_zero, List.set_cons_succ]
        refine take_to (i := 6) (d := some 28) (v := ?_) (l' := #[true, true, true, true, true, true, true, false, false, false, false, false, false]) rfl rfl (by kernel_rfl) (by kernel_rfl) (by kernel_rfl) (by kernel_rfl) (fun _ _ _ h => h) (Or.inl ⟨by rfl, ?_⟩) (by assumption) ?_; rotate_left; · (intro w' hSw; (try dsimp only at hSw); go_simp; (try with_reducible rfl))
        try simp only [Act.put, List.setIfInBounds_toArray, List.set_cons_zero, List.set_cons_succ]
        refine take_to (i := 7) (d := some 29) (v := ?_) (l' := #[true, true, true, true, true, true, true, true, false, false, false, false, false]) rfl rfl (by kernel_rfl) (by kernel_rfl) (by kernel_rfl) (by kernel_rfl) (fun _ _ _ h => h) (Or.inl ⟨by rfl, ?_⟩) (by assumption) ?_; rotate_left; · (intro w' hSw; (try dsimp only at hSw); go_simp; (try with_reducible rfl))
        try simp only [Act.put, List.setIfInBounds_toArray, List.set_cons_zero, List.set_cons_succ]
        refine take_to (i := 8) (d := some 30) (v := ?_) (l' := #[true, true, true, true, true, true, true, true, true, false, false, false, false]) rfl rfl (by kernel_rfl) (by kernel_rfl) (by kernel_rfl) (by kernel_rfl) (fun _ _ _ h => h) (Or.inl ⟨by rfl, ?_⟩) (by assumption) ?_; rotate_left; · (intro w' hSw; (try dsimp only at hSw); go_simp; (try with_reducible rfl))
        try simp only [Act.put, List.setIfInBounds_toArray, List.set_cons_zero, List.set_cons_succ]
        refine take_to (i := 9) (d := some 31) (v := ?_) (l' := #[true, true, true, true, true, true, true, true, true, true, false, false, false]) rfl rfl (by kernel_rfl) (by kernel_rfl) (by kernel_rfl) (by kernel_rfl) (fun _ _ _ h => h) (Or.inl ⟨by rfl, ?_⟩) (by assumption) ?_; rotate_left; · (intro w' hSw; (try dsimp only at hSw); go_simp; (try with_reducible rfl))
        try simp only [Act.put, List.setIfInBounds_toArray, List.set_cons_zero, List.set_cons_succ]
        refine take_to (i := 10) (d := some 32) (v := (.int .i64 (spN nt : Int))) (l' := #[true, true, true, true, true, true, true, true, true, true, true, false, false]) rfl rfl (by kernel_rfl) (by kernel_rfl) (by kernel_rfl) (by kernel_rfl) (fun _ _ _ h => h) ?_ (by assumption) ?_
        · refine Or.inl ⟨by rfl, ?_⟩; intro w' hSw; (try dsimp only at hSw); have q1 := hSw.at nt hnt; go_simp
        try simp only [Act.put, List.setIfInBounds_toArray, List.set_cons_zero, List.set_cons_succ]
        refine one_to (i := 11) (l' := #[true, true, true, true, true, true, true, true, true, true, true, true, false]) rfl (by kernel_rfl) (by kernel_rfl) (fun K hK => ?_)
        go_simp
        have HS2 := Lib.hid (show (V.alloc (.cells #[.int .i64 (spN ns : Int), .int .i64 (spN nt : Int)] 3)).heap[V.heap.size]? = some (.cells #[.int .i64 (spN ns : Int), .int .i64 (spN nt : Int)] 3 (0, 0)) from sl_at rfl)
        replace HS := Lib.hid (HS.out.go (below_new (.cells #[.int .i64 (spN ns : Int), .int .i64 (spN nt : Int)] 3)))
        replace HK := Lib.hid (sl_go HK.out (below_new (.cells #[.int .i64 (spN ns : Int), .int .i64 (spN nt : Int)] 3)))
        replace HB := Lib.hid (HB.out.alloc HB.out.size (.cells #[.int .i64 (spN ns : Int), .int .i64 (spN nt : Int)] 3))
        generalize V.heap.size = s2 at *
        generalize V.alloc (.cells #[.int .i64 (spN ns : Int), .int .i64 (spN nt : Int)] 3) = V at *
        refine hK.out _ _ (by first | exact HS.out | exact (HS.out.go (Below.refl _ _).drew)) (fun hHeld => ?_)
        clear hK K
        try simp only [Act.put, List.setIfInBounds_toArray, List.set_cons_zero, List.set_cons_succ]
        refine take_to (i := 12) (d := some 4) (v := ?_) (l' := #[true, true, true, true, true, true, true, true, true, true, true, true, true]) rfl rfl (by kernel_rfl) (by kernel_rfl) (by kernel_rfl) (by kernel_rfl) (fun _ _ _ h => h) (Or.inl ⟨by rfl, ?_⟩) (by assumption) ?_; rotate_left; · (intro w' hSw; (try dsimp only at hSw); go_simp; (try with_reducible rfl))
        try simp only [Act.put, List.setIfInBounds_toArray, List.set_cons_zero, List.set_cons_succ]
        refine wpAnyH_done (by kernel_rfl) ?_ _
        refine NoPanic.normal ?_
        clear hHeld
        go_wp2_with fail
        go_meet
        exact ⟨s2, rfl, HS.out, HK.out, HS2.out, HB.out⟩
      case rest =>
        obtain ⟨s2, rfl, h1, h2, h3, h4⟩ := hcut
        replace HS := Lib.hid h1
        replace HK := Lib.hid h2
        have HS2 := Lib.hid h3
        replace HB := Lib.hid h4
        clear h1 h2 h3 h4 w2 w3 d2 d3 m3 d2' d3' m3' hns hnt i1 i2 i3 i4
        have hs1 := spN_lt ns
        have hs2 := spN_lt nt
        generalize spN ns = s1 at hs1 HS2
        generalize spN nt = s3 at hs2 HS2
        obtain ⟨P, hP⟩ : ∃ P, kgN (iq2 ka kb) (sq2 s1 s3) 2 = P := ⟨_, rfl⟩
        obtain ⟨X, hX⟩ : ∃ X, (pc P).toArray = X := ⟨_, rfl⟩
        have HKI := Lib.hid (kings2_any ka kb s1 s3 hs1 hs2 (hP.symm ▸ hX) HK.out HS2.out 2 2)
        have HX := Lib.hid hX.symm
        clear hs1 hs2 hP HS2
        go_wp2_with fail
        refine HKI.out.mono ?_
        rintro e w1 ⟨rfl, hb⟩
        replace HS := Lib.hid (HS.out.go hb)
        replace HK := Lib.hid (sl_go HK.out hb)
        replace HB := Lib.hid (HB.out.trans (hb.mono HB.out.size))
        clear hb HKI
        go_wp2_with (refine wpList_new X P HX.out (by rfl) (by rfl) ?_)
        intro w2 hp2 hb2 hz2
        have HP := Lib.hid hp2
        replace HS := Lib.hid (HS.out.go hb2)
        replace HK := Lib.hid (sl_go HK.out hb2)
        replace HB := Lib.hid (HB.out.trans (hb2.mono HB.out.size))
        clear hp2 hb2 hz2
        obtain ⟨pb, hpb⟩ : ∃ b, w1.heap.size = b := ⟨_, rfl⟩
        rw [hpb] at HP ⊢
        clear hpb
        go_upto_region 8 with (fail)
        have HCP := Lib.hid HP.out.regrown
        obtain ⟨y, hy⟩ : ∃ y, cntD P 64 = y := ⟨_, rfl⟩
        have k1 := regrown_call (w := w2) (fun W => of13_any P W)
        have k2 := regrown_call (w := w2) (fun W => rOf13_any P W)
        have k3 := regrown_call (w := w2) (fun W => same13_any y W)
        have k4 := regrown_call (w := w2) (fun W => is13_any P W)
        have k5 := regrown_call (w := w2) (fun W => rDead_any y W)
        have k6 := fun (dd : Nat) (os : Array Obj) => Calls.regrown_of (deadTells_any P ⟨0, 0, 0, 0⟩ (some ⟨kr, 0, none⟩) 2 2 (iq2 ka kb) (grow (redrawn w2 dd) os) (reads_two (sl_go HK.out (below_regrown w2 dd os)) _ rfl rfl) (Nat.le_refl _) (by unfold maxLen; omega))
        obtain ⟨b1, hb1⟩ : ∃ b, deadB y = b := ⟨_, rfl⟩
        rw [hX, hy] at k1 k2 k4
        rw [hX] at k6
        rw [hb1] at k4 k5
        clear hy hb1 hX
        have h11 : (b1 != b1) = false := by simp
        simp only [Act.put, List.setIfInBounds_toArray, List.set_cons_zero, List.set_cons_succ]
        go_cut [62] from 37 to 62 (fun v wx => v = .bool false ∧ ∃ p : Regrown, wx = grow (redrawn w2 p.d) p.os)
        case first =>
          by_cases hr : r = 0
          · have hr1 : ((r : Nat) : Int) = 0 := by omega
            refine wp_region_quiet_below (by kernel_rfl) (by kernel_rfl) ?_
            refine wpQuiet_pos (by rfl) _ (by rfl) pb P X HX.out (by rfl) HCP.out ?_
            try simp only [Act.put, List.setIfInBounds_toArray, List.set_cons_zero, List.set_cons_succ]
            go_big_quiet_step (exact k1 _ _)
            refine wpQuiet_pos (by rfl) _ (by rfl) pb P X HX.out (by rfl) HCP.out ?_
            try simp only [Act.put, List.setIfInBounds_toArray, List.set_cons_zero, List.set_cons_succ]
            go_big_quiet_step (exact k2 _ _)
            go_big_quiet_step (exact k3 _ _)
            iterate 2 (go_big_quiet_step (fail))
            refine wpQuiet_pos (by rfl) _ (by rfl) pb P X HX.out (by rfl) HCP.out ?_
            try simp only [Act.put, List.setIfInBounds_toArray, List.set_cons_zero, List.set_cons_succ]
            go_big_quiet_step (exact k4 _ _)
            refine wpQuiet_pos (by rfl) _ (by rfl) pb P X HX.out (by rfl) HCP.out ?_
            try simp only [Act.put, List.setIfInBounds_toArray, List.set_cons_zero, List.set_cons_succ]
            go_big_quiet_step (exact k2 _ _)
            go_big_quiet_step (exact k5 _ _)
            iterate 7 (go_big_quiet_step (fail))
            refine wpQuiet_pos (by rfl) _ (by rfl) pb P X HX.out (by rfl) HCP.out ?_
            try simp only [Act.put, List.setIfInBounds_toArray, List.set_cons_zero, List.set_cons_succ]
            iterate 2 (go_big_quiet_step (fail))
            go_big_quiet_step (exact k6 _ _)
            repeat (go_big_quiet_step (fail))
            refine wpQuiet_nil ?_
            rintro W9 ⟨pq, rfl⟩
            go_wp2_with fail
            go_meet
            exact ⟨rfl, pq, rfl⟩
          · have hr1 : (((r : Nat) : Int) == 0) = false := by simp [hr]
            clear hr
            refine wp_region_quiet_below (by kernel_rfl) (by kernel_rfl) ?_
            refine wpQuiet_pos (by rfl) _ (by rfl) pb P X HX.out (by rfl) HCP.out ?_
            try simp only [Act.put, List.setIfInBounds_toArray, List.set_cons_zero, List.set_cons_succ]
            go_big_quiet_step (exact k1 _ _)
            refine wpQuiet_pos (by rfl) _ (by rfl) pb P X HX.out (by rfl) HCP.out ?_
            try simp only [Act.put, List.setIfInBounds_toArray, List.set_cons_zero, List.set_cons_succ]
            go_big_quiet_step (exact k2 _ _)
            go_big_quiet_step (exact k3 _ _)
            iterate 2 (go_big_quiet_step (fail))
            refine wpQuiet_pos (by rfl) _ (by rfl) pb P X HX.out (by rfl) HCP.out ?_
            try simp only [Act.put, List.setIfInBounds_toArray, List.set_cons_zero, List.set_cons_succ]
            go_big_quiet_step (exact k4 _ _)
            refine wpQuiet_pos (by rfl) _ (by rfl) pb P X HX.out (by rfl) HCP.out ?_
            try simp only [Act.put, List.setIfInBounds_toArray, List.set_cons_zero, List.set_cons_succ]
            go_big_quiet_step (exact k2 _ _)
            go_big_quiet_step (exact k5 _ _)
            iterate 7 (go_big_quiet_step (fail))
            iterate 5 (refine wpQuiet_skip (by rfl) ?_; simp only [Act.put, List.setIfInBounds_toArray, List.set_cons_zero, List.set_cons_succ])
            repeat (go_big_quiet_step (fail))
            refine wpQuiet_nil ?_
            rintro W9 ⟨pq, rfl⟩
            go_wp2_with fail
            go_meet
            exact ⟨rfl, pq, rfl⟩
        case rest =>
          obtain ⟨rfl, pq, rfl⟩ := hcut
          replace HS := Lib.hid (HS.out.go (below_regrown w2 pq.d pq.os))
          replace HB := Lib.hid (HB.out.trans ((below_regrown w2 pq.d pq.os).mono HB.out.size))
          clear HCP k1 k2 k3 k4 k5 k6 h11 HP HK HX m4 m4'
          generalize grow (redrawn w2 pq.d) pq.os = w3 at HS HB ⊢
          go_wp2
          go_roundw
          case rel => exact ⟨j + 1, by omega, by go_num, HS.out, HB.out⟩
          case measure => simp [intOf]; omega
    · obtain rfl : j = 3600 := by omega
      clear HS
      go_wp2
      go_loopw [6] (fun i wr => ∃ j : Nat, j ≤ 625 ∧ i = .int .i64 (j : Int) ∧ Below w.heap.size w wr) (fun i _ => 625 - (intOf i).toNat)
      case atStart => exact ⟨0, Nat.zero_le _, rfl, HB.out⟩
      case round =>
        clear HB
        obtain ⟨j, hj, rfl, h1⟩ := hrel
        have HB := Lib.hid h1
        clear h1
        by_cases hlt : j < 625
        · have m1 : (j : Int).tmod 5 = ((j % 5 : Nat) : Int) := by rw [Int.tmod_eq_emod_of_nonneg (by omega)]; omega
          have d1 : (j : Int).tdiv 5 = ((j / 5 : Nat) : Int) := by rw [Int.tdiv_eq_ediv_of_nonneg (by omega)]; omega
          have m2 : ((j / 5 : Nat) : Int).tmod 5 = ((j / 5 % 5 : Nat) : Int) := by rw [Int.tmod_eq_emod_of_nonneg (by omega)]; omega
          have d2 : (j : Int).tdiv 25 = ((j / 25 : Nat) : Int) := by rw [Int.tdiv_eq_ediv_of_nonneg (by omega)]; omega
          have m3 : ((j / 25 : Nat) : Int).tmod 5 = ((j / 25 % 5 : Nat) : Int) := by rw [Int.tmod_eq_emod_of_nonneg (by omega)]; omega
          have d3 : (j : Int).tdiv 125 = ((j / 125 : Nat) : Int) := by rw [Int.tdiv_eq_ediv_of_nonneg (by omega)]; omega
          have m1' : (j : Int) % 5 = ((j % 5 : Nat) : Int) := by omega
          have d1' : (j : Int) / 5 = ((j / 5 : Nat) : Int) := by omega
          have m2' : ((j / 5 : Nat) : Int) % 5 = ((j / 5 % 5 : Nat) : Int) := by omega
          have d2' : (j : Int) / 25 = ((j / 25 : Nat) : Int) := by omega
          have m3' : ((j / 25 : Nat) : Int) % 5 = ((j / 25 % 5 : Nat) : Int) := by omega
          have d3' : (j : Int) / 125 = ((j / 125 : Nat) : Int) := by omega
          have hna : j % 5 < 5 := by omega
          have hnb : j / 5 % 5 < 5 := by omega
          have hnc : j / 25 % 5 < 5 := by omega
          have hnd : j / 125 < 5 := by omega
          have hj1 : j / 5 < 1000 := by omega
          have hj2 : j / 25 < 1000 := by omega
          generalize j / 125 = nd at d3 d3' hnd
          generalize j / 25 % 5 = nc at m3 m3' hnc
          generalize j / 5 % 5 = nb at m2 m2' hnb
          generalize j % 5 = na at m1 m1' hna
          generalize j / 25 = e2 at d2 d2' m3 m3' hj2
          generalize j / 5 = e1 at d1 d1' m2 m2' hj1
          have w1 : IntKind.i64.wrap (e1 : Int) = (e1 : Int) := IntWalk.i64_in _ (by omega)
          have w2 : IntKind.i64.wrap (e2 : Int) = (e2 : Int) := IntWalk.i64_in _ (by omega)
          have w3 : IntKind.i64.wrap (nd : Int) = (nd : Int) := IntWalk.i64_in _ (by omega)
          clear hj1 hj2
          go_upto_region 14 with (fail)
          clear m1 m2 m3 d1 d2 d3 m1' m2' m3' d1' d2' d3' w1 w2 w3
          obtain ⟨x, hx⟩ : ∃ x : LF, x = ⟨(na : Int) - 1, (nb : Int) - 1, (nc : Int) - 1, (nd : Int) - 1⟩ := ⟨_, rfl⟩
          have HLB := Lib.hid (show LB x 1000 by rw [hx]; unfold LB; dsimp only; omega)
          obtain ⟨lb, hlb⟩ : ∃ l, wr.heap.size = l := ⟨_, rfl⟩
          refine forget_B (fun V => TB 31 V lb x ∧ Below w.heap.size w V ∧ V.heap.size = lb + 1) ⟨by rw [hx]; exact sl_at hlb.symm, HB.out.alloc HB.out.size _, by simp [hlb]⟩ ?_
          rw [hlb]
          clear HB hlb hna hnb hnc hnd hx
          rintro V ⟨h1, h2, h3⟩
          have HL := Lib.hid h1
          have HB := Lib.hid h2
          obtain ⟨q0, q1, q2, q3, _, _⟩ := row4c h1
          have HZ := Lib.hid h3
          clear h1 h2 h3
          go_upto_region 15 with (fail)
          clear q0 q1 q2 q3
          obtain ⟨rb, hrb⟩ : ∃ l, V.heap.size = l := ⟨_, rfl⟩
          refine forget_B (fun V => TB 31 V lb x ∧ TB 34 V rb x ∧ Below w.heap.size w V) ⟨HL.out.go (below_new _), sl_at hrb.symm, HB.out.alloc HB.out.size _⟩ ?_
          rw [hrb]
          clear HB hrb HL HZ
          rintro W8 ⟨h1, h2, h3⟩
          have HL := Lib.hid h1
          have HR := Lib.hid h2
          have HB := Lib.hid h3
          clear h1 h2 h3
          have D1 := Lib.hid (fun W => deadL_any x W)
          have D2 := Lib.hid (fun W => rDead_any x W)
          have D3 := Lib.hid (fun (W : World) (H : Nat) (t : TypeId) (h : W.heap[H]? = some (.cells #[.int .i64 3, .int .i64 3, .int .i64 2] t (0, 0))) => add13_any x W.heap.size (some ⟨H, 0, none⟩) 3 3 (fun i => if i = 0 then 3 else if i = 1 then 3 else 2) W (HLB.out.mono (by omega)) (by omega) (reads_three h _ rfl rfl rfl) (Nat.le_refl _))
          have D4 := Lib.hid (fun (W : World) (H : Nat) (t : TypeId) (h : W.heap[H]? = some (.cells #[.int .i64 3, .int .i64 3, .int .i64 2] t (0, 0))) => rAdd13_any x W.heap.size (some ⟨H, 0, none⟩) 3 3 (fun i => if i = 0 then 3 else if i = 1 then 3 else 2) W (HLB.out.mono (by omega)) (by omega) (reads_three h _ rfl rfl rfl) (Nat.le_refl _))
          obtain ⟨y, hy⟩ : ∃ y, addL (fun i => if i = 0 then 3 else if i = 1 then 3 else 2) 3 x = y := ⟨_, rfl⟩
          have D5 := Lib.hid (fun W => same13_any y W)
          obtain ⟨b1, hb1⟩ : ∃ b, deadB x = b := ⟨_, rfl⟩
          rw [hy] at D3 D4
          rw [hb1] at D1 D2
          clear hy hb1 HLB
          have h11 : (b1 != b1) = false := by simp
          have hj36 : decide ((j : Int) < 625) = true := decide_eq_true (by omega)
          rw [hj36]
          go_cut [105] from 91 to 105 (fun v wx => v = .bool false ∧ Below W8.heap.size W8 wx)
          case first =>
            refine wp_region_noPanic ?_
            refine wp_region_start (n := 15) (l := #[false, false, false, false, false, false, false, false, false, false, false, false, false, false, false]) (S := (fun W => Below W8.heap.size W8 W)) (by kernel_rfl) rfl (by kernel_rfl) (by first | exact HBW.out | exact (Below.refl _ _).drew) (fun hHeld => ?_)
            have HBW := Lib.hid (show Below W8.heap.size W8 W8.drew from (Below.refl _ _).drew)
            generalize W8.drew = V at hHeld HBW ⊢
            refine take_to (i := 0) (d := some 91) (v := (.agg #[.int .i64 x.h, .int .i64 x.k, .int .i64 x.d, .int .i64 x.l])) (l' := #[true, false, false, false, false, false, false, false, false, false, false, false, false, false, false]) rfl rfl (by kernel_rfl) (by kernel_rfl) (by kernel_rfl) (by kernel_rfl) (fun _ _ _ h => h) ?_ (by assumption) ?_
            · refine Or.inl ⟨by rfl, ?_⟩; intro w' hSw; (try dsimp only at hSw); obtain ⟨q0, q1, q2, q3, _, _⟩ := row4c (HL.out.go hSw); go_simp
            try simp only [Act.put, List.setIfInBounds_toArray, List.set_cons_zero, List.set_cons_succ]
            refine take_to (i := 2) (d := some 93) (v := (.agg #[.int .i64 x.h, .int .i64 x.k, .int .i64 x.d, .int .i64 x.l])) (l' := #[true, false, true, false, false, false, false, false, false, false, false, false, false, false, false]) rfl rfl (by kernel_rfl) (by kernel_rfl) (by kernel_rfl) (by kernel_rfl) (fun _ _ _ h => h) ?_ (by assumption) ?_
            · refine Or.inl ⟨by rfl, ?_⟩; intro w' hSw; (try dsimp only at hSw); obtain ⟨q0, q1, q2, q3, _, _⟩ := row4c (HR.out.go hSw); go_simp
            try simp only [Act.put, List.setIfInBounds_toArray, List.set_cons_zero, List.set_cons_succ]
            refine one_to (i := 1) (l' := #[true, true, true, false, false, false, false, false, false, false, false, false, false, false, false]) rfl (by kernel_rfl) (by kernel_rfl) (fun K hK => ?_)
            go_simp
            refine (D1.out _).mono ?_
            rintro e V ⟨rfl, hb⟩
            replace HBW := Lib.hid (HBW.out.trans (hb.mono HBW.out.size))
            try replace HX1 := Lib.hid (sl_go HX1.out hb)
            try replace HX2 := Lib.hid (sl_go HX2.out hb)
            clear hb
            dsimp only
            refine hK.out _ _ (by first | exact HBW.out | exact (Below.refl _ _).drew) (fun hHeld => ?_)
            clear hK K
            try simp only [Act.put, List.setIfInBounds_toArray, List.set_cons_zero, List.set_cons_succ]
            refine one_to (i := 3) (l' := #[true, true, true, true, false, false, false, false, false, false, false, false, false, false, false]) rfl (by kernel_rfl) (by kernel_rfl) (fun K hK => ?_)
            go_simp
            refine (D2.out _).mono ?_
            rintro e V ⟨rfl, hb⟩
            replace HBW := Lib.hid (HBW.out.trans (hb.mono HBW.out.size))
            try replace HX1 := Lib.hid (sl_go HX1.out hb)
            try replace HX2 := Lib.hid (sl_go HX2.out hb)
            clear hb
            dsimp only
            refine hK.out _ _ (by first | exact HBW.out | exact (Below.refl _ _).drew) (fun hHeld => ?_)
            clear hK K
            try simp only [Act.put, List.setIfInBounds_toArray, List.set_cons_zero, List.set_cons_succ]
            refine take_to (i := 4) (d := some 95) (v := ?_) (l' := #[true, true, true, true, true, false, false, false, false, false, false, false, false, false, false]) rfl rfl (by kernel_rfl) (by kernel_rfl) (by kernel_rfl) (by kernel_rfl) (fun _ _ _ h => h) (Or.inl ⟨by rfl, ?_⟩) (by assumption) ?_; rotate_left; · (intro w' hSw; (try dsimp only at hSw); go_simp; (try with_reducible rfl))
            try simp only [Act.put, List.setIfInBounds_toArray, List.set_cons_zero, List.set_cons_succ]
            refine take_to (i := 5) (d := some 96) (v := ?_) (l' := #[true, true, true, true, true, true, false, false, false, false, false, false, false, false, false]) rfl rfl (by kernel_rfl) (by kernel_rfl) (by kernel_rfl) (by kernel_rfl) (fun _ _ _ h => h) (Or.inl ⟨by rfl, ?_⟩) (by assumption) ?_; rotate_left; · (intro w' hSw; (try dsimp only at hSw); go_simp; (try with_reducible rfl))
            try simp only [Act.put, List.setIfInBounds_toArray, List.set_cons_zero, List.set_cons_succ]
            refine take_to (i := 6) (d := some 97) (v := (.agg #[.int .i64 x.h, .int .i64 x.k, .int .i64 x.d, .int .i64 x.l])) (l' := #[true, true, true, true, true, true, true, false, false, false, false, false, false, false, false]) rfl rfl (by kernel_rfl) (by kernel_rfl) (by kernel_rfl) (by kernel_rfl) (fun _ _ _ h => h) ?_ (by assumption) ?_
            · refine Or.inl ⟨by rfl, ?_⟩; intro w' hSw; (try dsimp only at hSw); obtain ⟨q0, q1, q2, q3, _, _⟩ := row4c (HL.out.go hSw); go_simp
            try simp only [Act.put, List.setIfInBounds_toArray, List.set_cons_zero, List.set_cons_succ]
            refine take_to (i := 9) (d := some 100) (v := (.agg #[.int .i64 x.h, .int .i64 x.k, .int .i64 x.d, .int .i64 x.l])) (l' := #[true, true, true, true, true, true, true, false, false, true, false, false, false, false, false]) rfl rfl (by kernel_rfl) (by kernel_rfl) (by kernel_rfl) (by kernel_rfl) (fun _ _ _ h => h) ?_ (by assumption) ?_
            · refine Or.inl ⟨by rfl, ?_⟩; intro w' hSw; (try dsimp only at hSw); obtain ⟨q0, q1, q2, q3, _, _⟩ := row4c (HR.out.go hSw); go_simp
            try simp only [Act.put, List.setIfInBounds_toArray, List.set_cons_zero, List.set_cons_succ]
            refine two_to (i := 7) (j := 10) (l1 := #[true, true, true, true, true, true, true, true, false, true, false, false, false, false, false]) (l2 := #[true, true, true, true, true, true, true, false, false, true, true, false, false, false, false]) rfl rfl (by kernel_rfl) (by kernel_rfl) (by kernel_rfl) (fun K hK => ?_) (fun K hK => ?_)
            · skip
              go_simp
              have HX1 := Lib.hid (show (V.alloc (.cells #[.int .i64 3, .int .i64 3, .int .i64 2] 22)).heap[V.heap.size]? = some (.cells #[.int .i64 3, .int .i64 3, .int .i64 2] 22 (0, 0)) from sl_at rfl)
              try replace HX2 := Lib.hid (sl_go HX2.out (below_new (.cells #[.int .i64 3, .int .i64 3, .int .i64 2] 22)))
              replace HBW := Lib.hid (HBW.out.alloc HBW.out.size (.cells #[.int .i64 3, .int .i64 3, .int .i64 2] 22))
              generalize V.heap.size = xb at *
              generalize V.alloc (.cells #[.int .i64 3, .int .i64 3, .int .i64 2] 22) = V at *
              refine hK.out _ _ (by first | exact HBW.out | exact (Below.refl _ _).drew) (fun hHeld => ?_)
              clear hK K
              try simp only [Act.put, List.setIfInBounds_toArray, List.set_cons_zero, List.set_cons_succ]
              refine two_to (i := 8) (j := 10) (l1 := #[true, true, true, true, true, true, true, true, true, true, false, false, false, false, false]) (l2 := #[true, true, true, true, true, true, true, true, false, true, true, false, false, false, false]) rfl rfl (by kernel_rfl) (by kernel_rfl) (by kernel_rfl) (fun K hK => ?_) (fun K hK => ?_)
              · skip
                go_simp
                refine (D3.out _ _ _ HX1.out).mono ?_
                rintro e V ⟨rfl, hb⟩
                replace HBW := Lib.hid (HBW.out.trans (hb.mono HBW.out.size))
                try replace HX1 := Lib.hid (sl_go HX1.out hb)
                try replace HX2 := Lib.hid (sl_go HX2.out hb)
                clear hb
                dsimp only
                clear HX1
                refine hK.out _ _ (by first | exact HBW.out | exact (Below.refl _ _).drew) (fun hHeld => ?_)
                clear hK K
                try simp only [Act.put, List.setIfInBounds_toArray, List.set_cons_zero, List.set_cons_succ]
                refine one_to (i := 10) (l' := #[true, true, true, true, true, true, true, true, true, true, true, false, false, false, false]) rfl (by kernel_rfl) (by kernel_rfl) (fun K hK => ?_)
                go_simp
                have HX2 := Lib.hid (show (V.alloc (.cells #[.int .i64 3, .int .i64 3, .int .i64 2] 22)).heap[V.heap.size]? = some (.cells #[.int .i64 3, .int .i64 3, .int .i64 2] 22 (0, 0)) from sl_at rfl)
                try replace HX1 := Lib.hid (sl_go HX1.out (below_new (.cells #[.int .i64 3, .int .i64 3, .int .i64 2] 22)))
                replace HBW := Lib.hid (HBW.out.alloc HBW.out.size (.cells #[.int .i64 3, .int .i64 3, .int .i64 2] 22))
                generalize V.heap.size = xc at *
                generalize V.alloc (.cells #[.int .i64 3, .int .i64 3, .int .i64 2] 22) = V at *
                refine hK.out _ _ (by first | exact HBW.out | exact (Below.refl _ _).drew) (fun hHeld => ?_)
                clear hK K
                try simp only [Act.put, List.setIfInBounds_toArray, List.set_cons_zero, List.set_cons_succ]
                refine one_to (i := 11) (l' := #[true, true, true, true, true, true, true, true, true, true, true, true, false, false, false]) rfl (by kernel_rfl) (by kernel_rfl) (fun K hK => ?_)
                go_simp
                refine (D4.out _ _ _ HX2.out).mono ?_
                rintro e V ⟨rfl, hb⟩
                replace HBW := Lib.hid (HBW.out.trans (hb.mono HBW.out.size))
                try replace HX1 := Lib.hid (sl_go HX1.out hb)
                try replace HX2 := Lib.hid (sl_go HX2.out hb)
                clear hb
                dsimp only
                clear HX2
                refine hK.out _ _ (by first | exact HBW.out | exact (Below.refl _ _).drew) (fun hHeld => ?_)
                clear hK K
                try simp only [Act.put, List.setIfInBounds_toArray, List.set_cons_zero, List.set_cons_succ]
                refine one_to (i := 12) (l' := #[true, true, true, true, true, true, true, true, true, true, true, true, true, false, false]) rfl (by kernel_rfl) (by kernel_rfl) (fun K hK => ?_)
                go_simp
                refine (D5.out _).mono ?_
                rintro e V ⟨rfl, hb⟩
                replace HBW := Lib.hid (HBW.out.trans (hb.mono HBW.out.size))
                try replace HX1 := Lib.hid (sl_go HX1.out hb)
                try replace HX2 := Lib.hid (sl_go HX2.out hb)
                clear hb
                dsimp only
                refine hK.out _ _ (by first | exact HBW.out | exact (Below.refl _ _).drew) (fun hHeld => ?_)
                clear hK K
                try simp only [Act.put, List.setIfInBounds_toArray, List.set_cons_zero, List.set_cons_succ]
                refine take_to (i := 13) (d := some 104) (v := ?_) (l' := #[true, true, true, true, true, true, true, true, true, true, true, true, true, true, false]) rfl rfl (by kernel_rfl) (by kernel_rfl) (by kernel_rfl) (by kernel_rfl) (fun _ _ _ h => h) (Or.inl ⟨by rfl, ?_⟩) (by assumption) ?_; rotate_left; · (intro w' hSw; (try dsimp only at hSw); go_simp; (try with_reducible rfl))
                try simp only [Act.put, List.setIfInBounds_toArray, List.set_cons_zero, List.set_cons_succ]
                refine take_to (i := 14) (d := some 105) (v := ?_) (l' := #[true, true, true, true, true, true, true, true, true, true, true, true, true, true, true]) rfl rfl (by kernel_rfl) (by kernel_rfl) (by kernel_rfl) (by kernel_rfl) (fun _ _ _ h => h) (Or.inl ⟨by rfl, ?_⟩) (by assumption) ?_; rotate_left; · (intro w' hSw; (try dsimp only at hSw); go_simp; (try with_reducible rfl))
                try simp only [Act.put, List.setIfInBounds_toArray, List.set_cons_zero, List.set_cons_succ]
                refine wpAnyH_done (by kernel_rfl) ?_ _
                refine NoPanic.normal ?_
                clear hHeld
                go_wp2_with fail
                go_meet
                exact ⟨rfl, HBW.out⟩
              · skip
                go_simp
                have HX2 := Lib.hid (show (V.alloc (.cells #[.int .i64 3, .int .i64 3, .int .i64 2] 22)).heap[V.heap.size]? = some (.cells #[.int .i64 3, .int .i64 3, .int .i64 2] 22 (0, 0)) from sl_at rfl)
                try replace HX1 := Lib.hid (sl_go HX1.out (below_new (.cells #[.int .i64 3, .int .i64 3, .int .i64 2] 22)))
                replace HBW := Lib.hid (HBW.out.alloc HBW.out.size (.cells #[.int .i64 3, .int .i64 3, .int .i64 2] 22))
                generalize V.heap.size = xc at *
                generalize V.alloc (.cells #[.int .i64 3, .int .i64 3, .int .i64 2] 22) = V at *
                refine hK.out _ _ (by first | exact HBW.out | exact (Below.refl _ _).drew) (fun hHeld => ?_)
                clear hK K
                try simp only [Act.put, List.setIfInBounds_toArray, List.set_cons_zero, List.set_cons_succ]
                refine one_to (i := 8) (l' := #[true, true, true, true, true, true, true, true, true, true, true, false, false, false, false]) rfl (by kernel_rfl) (by kernel_rfl) (fun K hK => ?_)
                go_simp
                refine (D3.out _ _ _ HX1.out).mono ?_
                rintro e V ⟨rfl, hb⟩
                replace HBW := Lib.hid (HBW.out.trans (hb.mono HBW.out.size))
                try replace HX1 := Lib.hid (sl_go HX1.out hb)
                try replace HX2 := Lib.hid (sl_go HX2.out hb)
                clear hb
                dsimp only
                clear HX1
                refine hK.out _ _ (by first | exact HBW.out | exact (Below.refl _ _).drew) (fun hHeld => ?_)
                clear hK K
                try simp only [Act.put, List.setIfInBounds_toArray, List.set_cons_zero, List.set_cons_succ]
                refine one_to (i := 11) (l' := #[true, true, true, true, true, true, true, true, true, true, true, true, false, false, false]) rfl (by kernel_rfl) (by kernel_rfl) (fun K hK => ?_)
                go_simp
                refine (D4.out _ _ _ HX2.out).mono ?_
                rintro e V ⟨rfl, hb⟩
                replace HBW := Lib.hid (HBW.out.trans (hb.mono HBW.out.size))
                try replace HX1 := Lib.hid (sl_go HX1.out hb)
                try replace HX2 := Lib.hid (sl_go HX2.out hb)
                clear hb
                dsimp only
                clear HX2
                refine hK.out _ _ (by first | exact HBW.out | exact (Below.refl _ _).drew) (fun hHeld => ?_)
                clear hK K
                try simp only [Act.put, List.setIfInBounds_toArray, List.set_cons_zero, List.set_cons_succ]
                refine one_to (i := 12) (l' := #[true, true, true, true, true, true, true, true, true, true, true, true, true, false, false]) rfl (by kernel_rfl) (by kernel_rfl) (fun K hK => ?_)
                go_simp
                refine (D5.out _).mono ?_
                rintro e V ⟨rfl, hb⟩
                replace HBW := Lib.hid (HBW.out.trans (hb.mono HBW.out.size))
                try replace HX1 := Lib.hid (sl_go HX1.out hb)
                try replace HX2 := Lib.hid (sl_go HX2.out hb)
                clear hb
                dsimp only
                refine hK.out _ _ (by first | exact HBW.out | exact (Below.refl _ _).drew) (fun hHeld => ?_)
                clear hK K
                try simp only [Act.put, List.setIfInBounds_toArray, List.set_cons_zero, List.set_cons_succ]
                refine take_to (i := 13) (d := some 104) (v := ?_) (l' := #[true, true, true, true, true, true, true, true, true, true, true, true, true, true, false]) rfl rfl (by kernel_rfl) (by kernel_rfl) (by kernel_rfl) (by kernel_rfl) (fun _ _ _ h => h) (Or.inl ⟨by rfl, ?_⟩) (by assumption) ?_; rotate_left; · (intro w' hSw; (try dsimp only at hSw); go_simp; (try with_reducible rfl))
                try simp only [Act.put, List.setIfInBounds_toArray, List.set_cons_zero, List.set_cons_succ]
                refine take_to (i := 14) (d := some 105) (v := ?_) (l' := #[true, true, true, true, true, true, true, true, true, true, true, true, true, true, true]) rfl rfl (by kernel_rfl) (by kernel_rfl) (by kernel_rfl) (by kernel_rfl) (fun _ _ _ h => h) (Or.inl ⟨by rfl, ?_⟩) (by assumption) ?_; rotate_left; · (intro w' hSw; (try dsimp only at hSw); go_simp; (try with_reducible rfl))
                try simp only [Act.put, List.setIfInBounds_toArray, List.set_cons_zero, List.set_cons_succ]
                refine wpAnyH_done (by kernel_rfl) ?_ _
                refine NoPanic.normal ?_
                clear hHeld
                go_wp2_with fail
                go_meet
                exact ⟨rfl, HBW.out⟩
            · skip
              go_simp
              have HX2 := Lib.hid (show (V.alloc (.cells #[.int .i64 3, .int .i64 3, .int .i64 2] 22)).heap[V.heap.size]? = some (.cells #[.int .i64 3, .int .i64 3, .int .i64 2] 22 (0, 0)) from sl_at rfl)
              try replace HX1 := Lib.hid (sl_go HX1.out (below_new (.cells #[.int .i64 3, .int .i64 3, .int .i64 2] 22)))
              replace HBW := Lib.hid (HBW.out.alloc HBW.out.size (.cells #[.int .i64 3, .int .i64 3, .int .i64 2] 22))
              generalize V.heap.size = xc at *
              generalize V.alloc (.cells #[.int .i64 3, .int .i64 3, .int .i64 2] 22) = V at *
              refine hK.out _ _ (by first | exact HBW.out | exact (Below.refl _ _).drew) (fun hHeld => ?_)
              clear hK K
              try simp only [Act.put, List.setIfInBounds_toArray, List.set_cons_zero, List.set_cons_succ]
              refine one_to (i := 7) (l' := #[true, true, true, true, true, true, true, true, false, true, true, false, false, false, false]) rfl (by kernel_rfl) (by kernel_rfl) (fun K hK => ?_)
              go_simp
              have HX1 := Lib.hid (show (V.alloc (.cells #[.int .i64 3, .int .i64 3, .int .i64 2] 22)).heap[V.heap.size]? = some (.cells #[.int .i64 3, .int .i64 3, .int .i64 2] 22 (0, 0)) from sl_at rfl)
              try replace HX2 := Lib.hid (sl_go HX2.out (below_new (.cells #[.int .i64 3, .int .i64 3, .int .i64 2] 22)))
              replace HBW := Lib.hid (HBW.out.alloc HBW.out.size (.cells #[.int .i64 3, .int .i64 3, .int .i64 2] 22))
              generalize V.heap.size = xb at *
              generalize V.alloc (.cells #[.int .i64 3, .int .i64 3, .int .i64 2] 22) = V at *
              refine hK.out _ _ (by first | exact HBW.out | exact (Below.refl _ _).drew) (fun hHeld => ?_)
              clear hK K
              try simp only [Act.put, List.setIfInBounds_toArray, List.set_cons_zero, List.set_cons_succ]
              refine one_to (i := 8) (l' := #[true, true, true, true, true, true, true, true, true, true, true, false, false, false, false]) rfl (by kernel_rfl) (by kernel_rfl) (fun K hK => ?_)
              go_simp
              refine (D3.out _ _ _ HX1.out).mono ?_
              rintro e V ⟨rfl, hb⟩
              replace HBW := Lib.hid (HBW.out.trans (hb.mono HBW.out.size))
              try replace HX1 := Lib.hid (sl_go HX1.out hb)
              try replace HX2 := Lib.hid (sl_go HX2.out hb)
              clear hb
              dsimp only
              clear HX1
              refine hK.out _ _ (by first | exact HBW.out | exact (Below.refl _ _).drew) (fun hHeld => ?_)
              clear hK K
              try simp only [Act.put, List.setIfInBounds_toArray, List.set_cons_zero, List.set_cons_succ]
              refine one_to (i := 11) (l' := #[true, true, true, true, true, true, true, true, true, true, true, true, false, false, false]) rfl (by kernel_rfl) (by kernel_rfl) (fun K hK => ?_)
              go_simp
              refine (D4.out _ _ _ HX2.out).mono ?_
              rintro e V ⟨rfl, hb⟩
              replace HBW := Lib.hid (HBW.out.trans (hb.mono HBW.out.size))
              try replace HX1 := Lib.hid (sl_go HX1.out hb)
              try replace HX2 := Lib.hid (sl_go HX2.out hb)
              clear hb
              dsimp only
              clear HX2
              refine hK.out _ _ (by first | exact HBW.out | exact (Below.refl _ _).drew) (fun hHeld => ?_)
              clear hK K
              try simp only [Act.put, List.setIfInBounds_toArray, List.set_cons_zero, List.set_cons_succ]
              refine one_to (i := 12) (l' := #[true, true, true, true, true, true, true, true, true, true, true, true, true, false, false]) rfl (by kernel_rfl) (by kernel_rfl) (fun K hK => ?_)
              go_simp
              refine (D5.out _).mono ?_
              rintro e V ⟨rfl, hb⟩
              replace HBW := Lib.hid (HBW.out.trans (hb.mono HBW.out.size))
              try replace HX1 := Lib.hid (sl_go HX1.out hb)
              try replace HX2 := Lib.hid (sl_go HX2.out hb)
              clear hb
              dsimp only
              refine hK.out _ _ (by first | exact HBW.out | exact (Below.refl _ _).drew) (fun hHeld => ?_)
              clear hK K
              try simp only [Act.put, List.setIfInBounds_toArray, List.set_cons_zero, List.set_cons_succ]
              refine take_to (i := 13) (d := some 104) (v := ?_) (l' := #[true, true, true, true, true, true, true, true, true, true, true, true, true, true, false]) rfl rfl (by kernel_rfl) (by kernel_rfl) (by kernel_rfl) (by kernel_rfl) (fun _ _ _ h => h) (Or.inl ⟨by rfl, ?_⟩) (by assumption) ?_; rotate_left; · (intro w' hSw; (try dsimp only at hSw); go_simp; (try with_reducible rfl))
              try simp only [Act.put, List.setIfInBounds_toArray, List.set_cons_zero, List.set_cons_succ]
              refine take_to (i := 14) (d := some 105) (v := ?_) (l' := #[true, true, true, true, true, true, true, true, true, true, true, true, true, true, true]) rfl rfl (by kernel_rfl) (by kernel_rfl) (by kernel_rfl) (by kernel_rfl) (fun _ _ _ h => h) (Or.inl ⟨by rfl, ?_⟩) (by assumption) ?_; rotate_left; · (intro w' hSw; (try dsimp only at hSw); go_simp; (try with_reducible rfl))
              try simp only [Act.put, List.setIfInBounds_toArray, List.set_cons_zero, List.set_cons_succ]
              refine wpAnyH_done (by kernel_rfl) ?_ _
              refine NoPanic.normal ?_
              clear hHeld
              go_wp2_with fail
              go_meet
              exact ⟨rfl, HBW.out⟩
          case rest =>
            obtain ⟨rfl, h1⟩ := hcut
            replace HB := Lib.hid (HB.out.trans (h1.mono HB.out.size))
            clear h1 D1 D2 D3 D4 D5 h11 HL HR
            go_wp2
            go_roundw
            case rel => exact ⟨j + 1, by omega, by go_num, HB.out⟩
            case measure => simp [intOf]; omega
        · obtain rfl : j = 625 := by omega
          obtain ⟨X, hX⟩ : ∃ X, X = (pc startN).toArray := ⟨_, rfl⟩
          have ST := Lib.hid (fun W => rStart_any W)
          have DT := Lib.hid (fun W => deadTells_any startN ⟨0, 0, 0, 0⟩ none 0 0 (fun _ => 0) W (.inl rfl) (Nat.le_refl _) (Nat.zero_le _))
          have AW := Lib.hid (fun W => awake13_any W)
          rw [← hX] at ST DT
          clear hX
          go_wp2_with fail
          refine (ST.out _).mono ?_
          rintro e w1 ⟨rfl, hb⟩
          replace HB := Lib.hid (HB.out.trans (hb.mono HB.out.size))
          clear hb
          go_wp2_with fail
          refine (DT.out _).mono ?_
          rintro e w2 ⟨rfl, hb⟩
          replace HB := Lib.hid (HB.out.trans (hb.mono HB.out.size))
          clear hb
          go_wp2_with fail
          refine (AW.out _).mono ?_
          rintro e w3 ⟨rfl, hb⟩
          replace HB := Lib.hid (HB.out.trans (hb.mono HB.out.size))
          clear hb
          go_wp2
          go_ret
          exact ⟨rfl, HB.out⟩
end Go.Proofs.Ytkdhkljnpalajaa
